
/- Package log: pass. Package log: Open. Package log: Append. -/
import Derived.Test.YtogdmjegcihopaaLgAM
import Derived.Test.YtogdmjegcihopaaHld

namespace Go.Proofs.Ytogdmjegcihopaa
set_option maxRecDepth 100000
open Go.RowKit Go.Lib

theorem elBs : El 61 24 1 24 := ⟨Try.underlying61, inf_of (z := Value.slice none 0 0) (by kernel_rfl) rfl, by decide⟩
/-- records: slices of bytes, in a slice of one's own -/
def Recs (w : World) (base : Nat) (v : Value) (L : List (List UInt8)) : Prop :=
  ∃ vs, w.ownsRow base 24 1 v L.length vs ∧ ∀ (i : Nat) (l : List UInt8), L[i]? = some l → ∃ (a : Option Addr) (c : Nat), vs[i]? = some (Value.slice a l.length c) ∧ BAt w a l ∧ (l = [] ∨ ∀ k, inBlk a k → base ≤ k ∧ v.ownBlock ≠ some k)
theorem Recs.nil (w : World) (base : Nat) : Recs w base (.slice none 0 0) [] := ⟨[], World.ownsRow_nil w base _ 1, fun i l h => by simp at h⟩
theorem BAt.lt {w : World} {a : Option Addr} {l : List UInt8} (h : BAt w a l) : l = [] ∨ ∀ k, inBlk a k → k < w.heap.size := by
  rcases h with h | ⟨b, off, ha, hlt, _⟩
  · exact Or.inl h
  · right
    rintro k ⟨p, hp, rfl⟩
    rw [ha] at hp
    cases hp
    exact hlt
theorem BAt.same {w w' : World} {a : Option Addr} {l : List UInt8} (h : BAt w a l) (hs : w.heap.size ≤ w'.heap.size) (hb : l = [] ∨ ∀ k, inBlk a k → w'.heap[k]? = w.heap[k]?) : BAt w' a l := by
  rcases h with h | ⟨b, off, ha, hlt, hc⟩
  · exact Or.inl h
  · rcases hb with hb | hb
    · exact Or.inl hb
    · refine Or.inr ⟨b, off, ha, Nat.lt_of_lt_of_le hlt hs, fun i hi => ?_⟩
      rw [World.cell?_of_block (a := ⟨b, off + i, none⟩) (hb b ⟨_, ha, rfl⟩)]
      exact hc i hi
theorem Recs.same {w w' : World} {base : Nat} {v : Value} {L : List (List UInt8)} (h : Recs w base v L) (hs : w.heap.size ≤ w'.heap.size) (hb : ∀ k, base ≤ k → k < w.heap.size → w'.heap[k]? = w.heap[k]?) : Recs w' base v L := by
  obtain ⟨vs, ho, hr⟩ := h
  refine ⟨vs, ow_same ho fun i hi => hb i (ho.lt i hi).1 (ho.lt i hi).2, fun i l hl => ?_⟩
  obtain ⟨a, c, h1, h2, h3⟩ := hr i l hl
  refine ⟨a, c, h1, h2.same hs ?_, h3⟩
  rcases h3 with h3 | h3
  · exact Or.inl h3
  · rcases h2.lt with h4 | h4
    · exact Or.inl h4
    · exact Or.inr fun k hk => hb k (h3 k hk).1 (h4 k hk)
theorem Recs.below {w w' : World} {base : Nat} {v : Value} {L : List (List UInt8)} (h : Recs w base v L) (hb : RowKit.Below w.heap.size w w') : Recs w' base v L := h.same hb.size fun k _ hk => hb.block k hk
theorem Recs.mono {w : World} {base b2 : Nat} {v : Value} {L : List (List UInt8)} (h : Recs w base v L) (hb : b2 ≤ base) : Recs w b2 v L := by
  obtain ⟨vs, ho, hr⟩ := h
  refine ⟨vs, ⟨ho.1, ho.2.imp id fun ⟨g, cap, cur, hv, hg, r⟩ => ⟨g, cap, cur, hv, Nat.le_trans hb hg, r⟩⟩, fun i l hl => ?_⟩
  obtain ⟨a, c, k1, k2, k3⟩ := hr i l hl
  exact ⟨a, c, k1, k2, k3.imp id fun k3 k hk => ⟨Nat.le_trans hb (k3 k hk).1, (k3 k hk).2⟩⟩
theorem Recs.form {w : World} {base : Nat} {v : Value} {L : List (List UInt8)} (h : Recs w base v L) : ∃ a c, v = Value.slice a L.length c := by
  obtain ⟨vs, ho, _⟩ := h
  obtain ⟨a, c, hv, _⟩ := ow_lie ho
  exact ⟨a, c, hv⟩
/-- one more -/
theorem Recs.app {w w2 w' : World} {base : Nat} {v v' : Value} {L : List (List UInt8)} {vs : List Value} {l : List UInt8} {a : Option Addr} {c : Nat}
    (hr : ∀ (i : Nat) (l : List UInt8), L[i]? = some l → ∃ (a : Option Addr) (c : Nat), vs[i]? = some (Value.slice a l.length c) ∧ BAt w a l ∧ (l = [] ∨ ∀ k, inBlk a k → base ≤ k ∧ v.ownBlock ≠ some k)) (hlen : vs.length = L.length)
    (hb : BAt w a l) (hn : l = [] ∨ ∀ k, inBlk a k → base ≤ k ∧ v.ownBlock ≠ some k) (h2 : RowKit.Below w.heap.size w w2)
    (h : Appd w2 base 24 1 v (L.length + 1) (vs ++ [Value.slice a l.length c]) v' w') : Recs w' base v' (L ++ [l]) := by
  obtain ⟨ho, hg, hv⟩ := h
  have keep : ∀ {a : Option Addr} {l : List UInt8}, BAt w a l → (l = [] ∨ ∀ k, inBlk a k → base ≤ k ∧ v.ownBlock ≠ some k) → BAt w' a l ∧ (l = [] ∨ ∀ k, inBlk a k → base ≤ k ∧ v'.ownBlock ≠ some k) := fun {a l} hb hn => by
    rcases hn with e | hn
    · exact ⟨Or.inl e, Or.inl e⟩
    · rcases hb.lt with e | hl
      · exact ⟨Or.inl e, Or.inl e⟩
      · refine ⟨(hb.below h2).same hg.size (Or.inr fun k hk => hg.block k (Nat.lt_of_lt_of_le (hl k hk) h2.size) (fun e => (hn k hk).2 e.symm)), Or.inr fun k hk => ⟨(hn k hk).1, ?_⟩⟩
        rcases hv with e | e
        · rw [e]; exact (hn k hk).2
        · rw [e]
          intro e2
          injection e2 with e2
          have := hl k hk
          have := h2.size
          omega
  refine ⟨_, by rw [List.length_append]; exact ho, fun i l' hl' => ?_⟩
  by_cases hi : i < L.length
  · rw [List.getElem?_append_left hi] at hl'
    obtain ⟨a', c', h1, h2, h3⟩ := hr i l' hl'
    obtain ⟨k1, k2⟩ := keep h2 h3
    exact ⟨a', c', by rw [List.getElem?_append_left (by omega)]; exact h1, k1, k2⟩
  · have hi2 : i = L.length := by
      have := (List.getElem?_eq_some_iff.1 hl').1
      simp at this
      omega
    subst hi2
    rw [List.getElem?_append_right (Nat.le_refl _)] at hl'
    simp at hl'
    subst hl'
    obtain ⟨k1, k2⟩ := keep hb hn
    exact ⟨a, c, by rw [List.getElem?_append_right (by omega), hlen]; simp, k1, k2⟩
theorem setCell_other {w : World} {b i : Nat} {v : Value} : ∀ k, k ≠ b → (w.setCell ⟨b, i, none⟩ v).heap[k]? = w.heap[k]? := fun k hk => heap_setCell_other w _ k _ hk
end Go.Proofs.Ytogdmjegcihopaa

namespace Go.Proofs.Ytogdmjegcihopaa
set_option maxRecDepth 100000
open Go.RowKit Go.Lib

/-- the stamp of the next record -/
def nextN (d : Dk) (x z : Int) (n : Nat) : Nat := (max n (topN d x (z - x).toNat) + 1) % 18446744073709551616
end Go.Proofs.Ytogdmjegcihopaa

namespace Go.Proofs.Ytogdmjegcihopaa
set_option maxRecDepth 100000
open Go.RowKit Go.Lib

/-- what Append does to the disk, and what it answers -/
def Dk.app (d : Dk) (x z : Int) (n : Nat) (l : List UInt8) : Dk × Int :=
  if 4096 < l.length then (d, 101) else if z - x < (spanN (l.length + 4) : Int) then (d, 102) else
    if (d.write x n (closed l)).2 = 0 then ((d.write x n (closed l)).1.flush, (d.write x n (closed l)).1.actE) else d.write x n (closed l)
end Go.Proofs.Ytogdmjegcihopaa
