/- falseworkref09: Read. -/
import Derived.Test.YtoibonalgmmkbaaSmW
import Derived.Test.YtoibonalgmmkbaaDkV
namespace Go.Proofs.Ytoibonalgmmkbaa
open Go.RowKit Go.Lib

theorem OB.same {w w' : World} {B : Nat} {v : Value} {l : List UInt8} (h : OB w B v l) (hs : ∀ i, v.ownBlock = some i → w'.heap[i]? = w.heap[i]?) : OB w' B v l := ow_same h hs
theorem own_slice {w : World} {B : Nat} {e : TypeId} {n k : Nat} {v : Value} {xs : List Value} (h : w.ownsRow B e n v k xs) : ∃ a c, v = .slice a k c := by
  obtain ⟨a, c, hv, _⟩ := ow_lie h
  exact ⟨a, c, hv⟩
theorem ob_slice {w : World} {B : Nat} {v : Value} {l : List UInt8} (h : OB w B v l) : ∃ a c, v = .slice a l.length c := own_slice h
theorem readL_none : readL [] = Rd.none 91 := if_neg (fun h => h.1 rfl)
theorem read_tail {r : Dk} {x z : Int} {s : Sec} {m st : Nat} (h0 : 0 ≤ x) (hz : z ≤ (r.base.length : Int)) (hx : x < z) (hs : s = r.at_ x) (hm : m = manyAt s) (hst : st = stN s) :
    (st = 0 ∨ m = 0 ∨ z - x < (m : Int) → r.read x z = Rd.none 91) ∧
    (st ≠ 0 → m ≠ 0 → ¬ z - x < (m : Int) → r.read x z = if r.secsAt x m = secs st (gat (r.secsAt x m)) then ⟨gat (r.secsAt x m), st, m, 0⟩ else Rd.none 91) := by
  have hrd : r.read x z = readL (r.stands x z) := by unfold Dk.read; rw [if_neg (by omega)]
  have hst' : r.stands x z = if z - x < (m : Int) then [] else r.secsAt x m := by unfold Dk.stands; rw [if_neg (by omega), ← hs, ← hm]
  have hhd : m ≠ 0 → (r.secsAt x m).headD [] = s := fun hm0 => by
    obtain ⟨k, rfl⟩ : ∃ k, m = k + 1 := ⟨m - 1, by omega⟩
    simp only [Dk.secsAt, List.range_succ_eq_map, List.map_cons, List.headD_cons]
    rw [hs]; congr 1; omega
  have hne : m ≠ 0 → r.secsAt x m ≠ [] := fun hm0 e => by
    have := congrArg List.length e
    rw [secsAt_length] at this
    exact hm0 this
  refine ⟨fun h => ?_, fun h1 h2 h3 => ?_⟩
  · rw [hrd, hst']
    by_cases hlt : z - x < (m : Int)
    · rw [if_pos hlt, readL_none]
    · rw [if_neg hlt]
      by_cases hm0 : m = 0
      · rw [hm0]; exact readL_none
      · have h0 : st = 0 := by omega
        unfold readL
        rw [hhd hm0, ← hst, h0, if_neg (fun k => k.1 (k.2.trans (if_pos rfl)))]
  · rw [hrd, hst', if_neg h3]
    unfold readL
    rw [hhd h2, ← hst]
    unfold layL
    rw [if_neg h1, secsAt_length]
    by_cases e : r.secsAt x m = secs st (gat (r.secsAt x m))
    · rw [if_pos ⟨hne h2, e⟩, if_pos e]
    · rw [if_neg (fun k => e k.2), if_neg e]
end Go.Proofs.Ytoibonalgmmkbaa
