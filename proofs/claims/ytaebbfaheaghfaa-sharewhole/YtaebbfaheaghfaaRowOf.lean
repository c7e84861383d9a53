/- What a slice argument is read as. -/
import Derived.Test.YtaebbfaheaghfaaRowz
import Derived.Test.YtaebbfaheaghfaaAlive1
namespace Go.Proofs.Ytaebbfaheaghfaa
open Go.RowKit

theorem lt_of_cell {w : World} {a : Addr} {v : Value} (h : w.cell? a = some v) : a.block < w.heap.size := by
  rcases Nat.lt_or_ge a.block w.heap.size with hl | hl
  · exact hl
  · unfold World.cell? at h
    rw [Array.getElem?_eq_none hl] at h
    simp at h

theorem row_of {w : World} {a : Option Addr} {len cap : Nat} {zs : List Int} (h : IsRow .i64 w a len cap zs) :
    RowAt .i64 w a (zs.take len) ∧ (zs.take len).length = len ∧ (∀ n ∈ zs.take len, I n) ∧ len ≤ 9223372036854775807 := by
  rcases h with ⟨rfl, rfl, rfl, rfl⟩ | ⟨x, rfl, hl, hm, hz, hcell, hwz⟩
  · exact ⟨Or.inl rfl, rfl, by simp, by omega⟩
  · have e : (zs.take len).length = len := by simp; omega
    unfold maxLen at hm
    refine ⟨?_, e, fun n hn => I_of_wf (hwz n (List.mem_of_mem_take hn)), by omega⟩
    by_cases h0 : len = 0
    · subst h0; exact Or.inl (by simp)
    · obtain ⟨b, off, spot⟩ := x
      have hc := hcell 0 (by omega)
      have hspot : spot = none := by simpa [Addr.add] using World.cell?_spot hc
      subst hspot
      have hb : b < w.heap.size := by
        have := lt_of_cell hc
        simpa [Addr.add] using this
      refine Or.inr ⟨b, off, rfl, hb, fun i hi => ?_⟩
      have hi' : i < len := by omega
      have := hcell i (by omega)
      have e2 : (zs.take len).getD i 0 = zs.getD i 0 := by simp [List.getD, hi']
      rw [e2, ← this]
      by_cases hi0 : i = 0
      · subst hi0; simp [Addr.add]
      · simp [Addr.add, hi0]

theorem RowAt.drop {w : World} {a : Addr} {l : List Int} (h : RowAt .i64 w (some a) l) (t : Nat) : RowAt .i64 w (some (a.add t)) (l.drop t) := by
  rcases h with h | ⟨b, off, ha, hlt, hc⟩
  · exact Or.inl (by rw [h]; simp)
  · cases ha
    refine Or.inr ⟨b, off + t, ?_, hlt, fun i hi => ?_⟩
    · unfold Addr.add
      split
      · next h0 => simp [h0]
      · rfl
    · have hi' : t + i < l.length := by simp at hi; omega
      have := hc (t + i) hi'
      rw [Nat.add_assoc, this]
      simp [List.getD]
theorem RowAt.take {w : World} {a : Option Addr} {l : List Int} (h : RowAt .i64 w a l) (t : Nat) : RowAt .i64 w a (l.take t) := by
  rcases h with h | ⟨b, off, ha, hlt, hc⟩
  · exact Or.inl (by rw [h]; simp)
  · refine Or.inr ⟨b, off, ha, hlt, fun i hi => ?_⟩
    have hi' : i < l.length := by simp at hi; omega
    have hi2 : i < t := by simp at hi; omega
    rw [hc i hi']
    simp [List.getD, hi2]
theorem sum_turn (l : List Int) (t : Nat) : (l.drop t ++ l.take t).sum = l.sum := by
  have h := congrArg List.sum (List.take_append_drop t l)
  rw [List.sum_append] at h
  rw [List.sum_append]
  omega
theorem sum_two (l : List Int) (t : Nat) : (l.take t).sum + (l.drop t).sum = l.sum := by
  have h := congrArg List.sum (List.take_append_drop t l)
  rw [List.sum_append] at h
  exact h
theorem row_cap {w : World} {a : Option Addr} {len cap : Nat} {zs : List Int} (h : IsRow .i64 w a len cap zs) : (a = none ∧ len = 0 ∧ cap = 0) ∨ ∃ x, a = some x ∧ len ≤ cap ∧ cap ≤ maxLen := by
  rcases h with ⟨rfl, rfl, rfl, rfl⟩ | ⟨x, rfl, hl, hm, hz, hcell, hwz⟩
  · exact Or.inl ⟨rfl, rfl, rfl⟩
  · exact Or.inr ⟨x, rfl, hl, hm⟩
end Go.Proofs.Ytaebbfaheaghfaa
