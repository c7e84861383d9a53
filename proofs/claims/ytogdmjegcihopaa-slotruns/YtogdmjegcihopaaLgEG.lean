
/- falseworkref10: Same. Texts of one's own. Package log: a log in a world above another one. falseworklaw10.logAlive. -/
import Derived.Test.YtogdmjegcihopaaLgK
import Derived.Test.YtogdmjegcihopaaRat
import Derived.BigQuiet
import Derived.Test.YtogdmjegcihopaaSmO
import Derived.Test.YtogdmjegcihopaaCvC

namespace Go.Proofs.Ytogdmjegcihopaa
set_option maxRecDepth 100000
open Go.RowKit Go.Lib

def sv (l : List UInt8) : Value := .string (strB l)
/-- texts of one's own -/
def Own (w : World) (base : Nat) (v : Value) (K : List (List UInt8)) : Prop := w.ownsRow base 9 1 v K.length (K.map sv)
theorem own_rat {w : World} {base : Nat} {v : Value} {K : List (List UInt8)} (h : Own w base v K) : ∃ a c, v = .slice a K.length c ∧ RAt sv w a K := by
  obtain ⟨a, c, hv, hl, _, _⟩ := ow_lie h
  refine ⟨a, c, hv, ?_⟩
  rcases hl with hl | ⟨b, off, ha, hlt, hr⟩
  · exact Or.inl (List.map_eq_nil_iff.1 hl)
  · exact Or.inr ⟨b, off, ha, hlt, fun k x hx => hr k _ (by rw [List.getElem?_map, hx]; rfl)⟩
theorem Own.same {w w' : World} {base : Nat} {v : Value} {K : List (List UInt8)} (h : Own w base v K) (hb : ∀ i, v.ownBlock = some i → w'.heap[i]? = w.heap[i]?) : Own w' base v K := ow_same h hb
theorem Own.below {w w' : World} {base : Nat} {v : Value} {K : List (List UInt8)} (h : Own w base v K) (hb : RowKit.Below w.heap.size w w') : Own w' base v K := h.same fun i hi => hb.block i (World.ownsRow.lt h i hi).2
theorem rat_one (w : World) (l : List UInt8) : RAt sv (w.alloc (.cells #[sv l] 9)) (some ⟨w.heap.size, 0, none⟩) [l] := by
  have h := lie_new w [sv l] 9
  rcases h with h | ⟨b, off, ha, hlt, hr⟩
  · cases h
  · exact Or.inr ⟨b, off, ha, hlt, fun k x hx => hr k _ (by cases k with
      | zero => simp at hx; subst hx; rfl
      | succ k => simp at hx)⟩
/-- slices of bytes in a row -/
def BsAt (w : World) (a : Option Addr) (L : List (List UInt8)) : Prop := ∃ vs : List Value, vs.length = L.length ∧ Lie w a vs ∧ ∀ (i : Nat) (l : List UInt8), L[i]? = some l → ∃ (a' : Option Addr) (c : Nat), vs[i]? = some (Value.slice a' l.length c) ∧ BAt w a' l
theorem BsAt.below {w w' : World} {a : Option Addr} {L : List (List UInt8)} (h : BsAt w a L) (hb : RowKit.Below w.heap.size w w') : BsAt w' a L := by
  obtain ⟨vs, h1, h2, h3⟩ := h
  exact ⟨vs, h1, h2.below hb, fun i l hl => by obtain ⟨a', c, k1, k2⟩ := h3 i l hl; exact ⟨a', c, k1, k2.below hb⟩⟩
theorem Recs.bs {w : World} {base : Nat} {v : Value} {L : List (List UInt8)} (h : Recs w base v L) : ∃ a c, v = .slice a L.length c ∧ BsAt w a L := by
  obtain ⟨vs, ho, hr⟩ := h
  obtain ⟨a, c, hv, hl, _, _⟩ := ow_lie ho
  exact ⟨a, c, hv, vs, by rw [ho.1, Nat.mul_one], hl, fun i l hi => by obtain ⟨a', c', k1, k2, _⟩ := hr i l hi; exact ⟨a', c', k1, k2⟩⟩
end Go.Proofs.Ytogdmjegcihopaa

namespace Go.Proofs.Ytogdmjegcihopaa
set_option maxRecDepth 100000
open Go.RowKit Go.Lib

theorem topN_low {d : Dk} {x : Int} {m : Nat} : ∀ k : Nat, (∀ i : Nat, i < k → stN (d.at_ (x + (i : Int))) ≤ m) → topN d x k ≤ m
  | 0, _ => Nat.zero_le _
  | k + 1, h => by
    have h1 := topN_low k fun i hi => h i (by omega)
    have h2 := h k (by omega)
    show max _ _ ≤ m
    omega
theorem Kp.next {d : Dk} {x0 z : Int} {fl : Nat} (h : Kp d x0 z x0 fl []) (hn : fl + 1 < 18446744073709551616) : nextN d x0 z fl = fl + 1 := by
  have := topN_low (d := d) (x := x0) (m := fl) (z - x0).toNat fun i hi => h.lo _ (by omega) (by omega)
  unfold nextN
  rw [Nat.max_eq_left this, Nat.mod_eq_of_lt hn]
theorem zsec_stN : stN zsec = 0 := by decide
theorem Kp.blank {n x0 : Int} {fl : Nat} (hn : 0 ≤ n ∧ n ≤ 2048) (hx : 0 ≤ x0 ∧ x0 ≤ n) : Kp (Dk.blank n) x0 n x0 fl [] :=
  Kp.start (Dk.Ok.blank n) (by rw [blank_len]; unfold blankN; omega) rfl rfl hx fun y _ _ => by rw [blank_at, zsec_stN]; exact Nat.zero_le _
def Again (L : List (List UInt8)) (w : World) (e : Ending) (w' : World) : Prop :=
  ∃ b a c, e = .returned (.tuple #[.pointer (some ⟨b, 0, none⟩), .slice a L.length c, .int .i64 0]) ∧ Recs w' w.heap.size (.slice a L.length c) L ∧ RowKit.Below w.heap.size w w'
end Go.Proofs.Ytogdmjegcihopaa

namespace Go.Proofs.Ytogdmjegcihopaa
set_option maxRecDepth 100000
open Go.RowKit Go.Lib

def abL : List UInt8 := [97, 98]
end Go.Proofs.Ytogdmjegcihopaa
