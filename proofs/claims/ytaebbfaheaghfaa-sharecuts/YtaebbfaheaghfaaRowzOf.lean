/- A slice of numbers in memory, read as a list; sums of lists. What a slice argument is read as. -/
import Derived.Test.YtaebbfaheaghfaaWide2
import Derived.Test.YtaebbfaheaghfaaAlive1

namespace Go.Proofs.Ytaebbfaheaghfaa
open Go.RowKit

/-- the numbers l lie, one behind the other, from a on -/
def RowAt (k : IntKind) (w : World) (a : Option Addr) (l : List Int) : Prop :=
  l = [] ∨ ∃ b off, a = some ⟨b, off, none⟩ ∧ b < w.heap.size ∧ ∀ i, i < l.length → w.cell? ⟨b, off + i, none⟩ = some (.int k (l.getD i 0))

theorem RowAt.below {k : IntKind} {w w' : World} {a : Option Addr} {l : List Int} (h : RowAt k w a l) (hb : Below w.heap.size w w') : RowAt k w' a l := by
  rcases h with h | ⟨b, off, ha, hlt, hc⟩
  · exact Or.inl h
  · refine Or.inr ⟨b, off, ha, Nat.lt_of_lt_of_le hlt hb.size, fun i hi => ?_⟩
    rw [hb.cell (p := ⟨b, off + i, none⟩) hlt]
    exact hc i hi

theorem sum_take_succ (l : List Int) (k : Nat) (h : k < l.length) : (l.take (k + 1)).sum = (l.take k).sum + l.getD k 0 := by
  rw [List.take_succ_eq_append_getElem h, List.sum_append]
  simp [h]

theorem sum_take_bd (l : List Int) (hI : ∀ n ∈ l, I n) (k : Nat) (h : k ≤ l.length) : -((k : Int) * 9223372036854775808) ≤ (l.take k).sum ∧ (l.take k).sum ≤ (k : Int) * 9223372036854775808 := by
  induction k with
  | zero => simp
  | succ k ih =>
    have := ih (by omega)
    have hk : I (l.getD k 0) := by
      have hlt : k < l.length := by omega
      have : l.getD k 0 = l[k] := by simp [hlt]
      rw [this]
      exact hI _ (List.getElem_mem hlt)
    rw [sum_take_succ l k (by omega)]
    unfold I at hk
    omega

theorem take_wd (l : List Int) (hI : ∀ n ∈ l, I n) (hl : l.length ≤ 9223372036854775807) (k : Nat) (h : k ≤ l.length) : Wd (l.take k).sum := by
  have := sum_take_bd l hI k h
  unfold Wd
  omega

theorem getD_I (l : List Int) (hI : ∀ n ∈ l, I n) (k : Nat) (h : k < l.length) : I (l.getD k 0) := by
  have : l.getD k 0 = l[k] := by simp [h]
  rw [this]
  exact hI _ (List.getElem_mem h)

set_option maxHeartbeats 1000000 in
theorem sum_any (a : Option Addr) (l : List Int) (cap : Nat) (w : World) (hr : RowAt .i64 w a l) (hI : ∀ n ∈ l, I n) (hl : l.length ≤ 9223372036854775807) :
    Calls Try.prog 41 #[.slice a l.length cap] w fun e w' => e = .returned (.tuple #[.int .i64 (cutV l.sum), .int .i64 (cutE l.sum)]) ∧ Below w.heap.size w w' := by
  have HI := Lib.hid hI; clear hI
  have HR := Lib.hid hr; clear hr
  go_enter Try.func41, Try.ntmps41
  go_wp2
  go_loopg [9] l.length (fun g s wr => ∃ k : Nat, k ≤ l.length ∧ s = .int .i64 k ∧ g = l.length - k ∧ Below w.heap.size w wr ∧ w.heap.size < wr.heap.size ∧ wr.cell? ⟨w.heap.size, 0, none⟩ = some (.int .i64 (hiW (l.take k).sum)) ∧ wr.cell? ⟨w.heap.size, 1, none⟩ = some (.int .u64 (loW (l.take k).sum)) ∧ wr.frozen? ⟨w.heap.size, 0, none⟩ = false ∧ wr.frozen? ⟨w.heap.size, 1, none⟩ = false)
  case atStart => exact ⟨0, Nat.zero_le _, rfl, by simp, (Below.refl _ _).alloc (Nat.le_refl _) _, by simp, by simp [hiW], by simp [loW], by simp, by simp⟩
  case round =>
    obtain ⟨k, hk, rfl, rfl, hb, hz, c0, c1, f0, f1⟩ := hrel
    by_cases hlt : k < l.length
    · obtain ⟨b, off, ha, hbl, hcell⟩ : ∃ b off, a = some ⟨b, off, none⟩ ∧ b < w.heap.size ∧ ∀ i, i < l.length → w.cell? ⟨b, off + i, none⟩ = some (.int .i64 (l.getD i 0)) := by
        rcases HR.out with h | h
        · subst h; simp at hlt
        · exact h
      subst ha
      have hc : wr.cell? ⟨b, off + k, none⟩ = some (.int .i64 (l.getD k 0)) := by rw [hb.cell (p := ⟨b, off + k, none⟩) hbl]; exact hcell k hlt
      clear hcell
      have hx := getD_I l HI.out k hlt
      have hW := take_wd l HI.out hl k hk
      have hW2 := take_wd l HI.out hl (k + 1) (by omega)
      rw [sum_take_succ l k hlt] at hW2
      have HS := Lib.hid (sum_take_succ l k hlt)
      generalize l.getD k 0 = x at *
      generalize (l.take k).sum = S at *
      go_wp2_with fail
      refine (plus_any S x _ hW hx hW2).mono ?_
      rintro e w1 ⟨rfl, hw1⟩
      obtain ⟨hcl, hfr⟩ := bcell hw1
      have hz1 : w.heap.size < w1.heap.size := by have := hw1.size; omega
      have bel : Below w.heap.size w w1 := hb.trans (hw1.mono (by omega))
      have g0 : w1.frozen? ⟨w.heap.size, 0, none⟩ = false := by rw [hfr _ _ hz]; exact f0
      have g1 : w1.frozen? ⟨w.heap.size, 1, none⟩ = false := by rw [hfr _ _ hz]; exact f1
      have d0 : w1.cell? ⟨w.heap.size, 0, none⟩ = some (.int .i64 (hiW S)) := by rw [hcl _ _ hz]; exact c0
      have d1 : w1.cell? ⟨w.heap.size, 1, none⟩ = some (.int .u64 (loW S)) := by rw [hcl _ _ hz]; exact c1
      clear hcl hfr c0 c1 f0 f1 hc hb hw1
      go_wp2
      go_roundg (l.length - (k + 1))
      case measure => omega
      case rel => exact ⟨k + 1, by omega, by go_num, rfl, (bel.setCell (Nat.le_refl _) _).setCell (Nat.le_refl _) _, by simpa using hz1, by rw [HS.out]; simp [go_sem, d0], by rw [HS.out]; simp [go_sem, d1], by simpa using g0, by simpa using g1⟩
    · have hkk : k = l.length := by omega
      subst hkk
      have hW := take_wd l HI.out hl l.length hk
      rw [List.take_length] at hW c0 c1
      go_wp2_with fail
      refine (narrow_any l.sum _ hW).mono ?_
      rintro e w1 ⟨rfl, hw1⟩
      go_wp2
      go_ret2
      exact ⟨rfl, hb.trans (hw1.mono (by omega))⟩
end Go.Proofs.Ytaebbfaheaghfaa

namespace Go.Proofs.Ytaebbfaheaghfaa
open Go.RowKit

theorem lt_of_cell {w : World} {a : Addr} {v : Value} (h : w.cell? a = some v) : a.block < w.heap.size := by
  rcases Nat.lt_or_ge a.block w.heap.size with hl | hl
  · exact hl
  · unfold World.cell? at h
    rw [Array.getElem?_eq_none hl] at h
    simp at h

theorem row_of {w : World} {a : Option Addr} {len cap : Nat} {zs : List Int} (h : IsRow .i64 w a len cap zs) :
    RowAt .i64 w a (zs.take len) ∧ (zs.take len).length = len ∧ (∀ n ∈ zs.take len, I n) ∧ len ≤ 9223372036854775807 := by
  rcases h with ⟨rfl, rfl, rfl, rfl⟩ | ⟨x, rfl, hl, hm, hz, hcell, hwz⟩
  · exact ⟨Or.inl rfl, rfl, by simp, by omega⟩
  · have e : (zs.take len).length = len := by simp; omega
    unfold maxLen at hm
    refine ⟨?_, e, fun n hn => I_of_wf (hwz n (List.mem_of_mem_take hn)), by omega⟩
    by_cases h0 : len = 0
    · subst h0; exact Or.inl (by simp)
    · obtain ⟨b, off, spot⟩ := x
      have hc := hcell 0 (by omega)
      have hspot : spot = none := by simpa [Addr.add] using World.cell?_spot hc
      subst hspot
      have hb : b < w.heap.size := by
        have := lt_of_cell hc
        simpa [Addr.add] using this
      refine Or.inr ⟨b, off, rfl, hb, fun i hi => ?_⟩
      have hi' : i < len := by omega
      have := hcell i (by omega)
      have e2 : (zs.take len).getD i 0 = zs.getD i 0 := by simp [List.getD, hi']
      rw [e2, ← this]
      by_cases hi0 : i = 0
      · subst hi0; simp [Addr.add]
      · simp [Addr.add, hi0]

theorem RowAt.drop {w : World} {a : Addr} {l : List Int} (h : RowAt .i64 w (some a) l) (t : Nat) : RowAt .i64 w (some (a.add t)) (l.drop t) := by
  rcases h with h | ⟨b, off, ha, hlt, hc⟩
  · exact Or.inl (by rw [h]; simp)
  · cases ha
    refine Or.inr ⟨b, off + t, ?_, hlt, fun i hi => ?_⟩
    · unfold Addr.add
      split
      · next h0 => simp [h0]
      · rfl
    · have hi' : t + i < l.length := by simp at hi; omega
      have := hc (t + i) hi'
      rw [Nat.add_assoc, this]
      simp [List.getD]
theorem RowAt.take {w : World} {a : Option Addr} {l : List Int} (h : RowAt .i64 w a l) (t : Nat) : RowAt .i64 w a (l.take t) := by
  rcases h with h | ⟨b, off, ha, hlt, hc⟩
  · exact Or.inl (by rw [h]; simp)
  · refine Or.inr ⟨b, off, ha, hlt, fun i hi => ?_⟩
    have hi' : i < l.length := by simp at hi; omega
    have hi2 : i < t := by simp at hi; omega
    rw [hc i hi']
    simp [List.getD, hi2]
theorem sum_turn (l : List Int) (t : Nat) : (l.drop t ++ l.take t).sum = l.sum := by
  have h := congrArg List.sum (List.take_append_drop t l)
  rw [List.sum_append] at h
  rw [List.sum_append]
  omega
theorem sum_two (l : List Int) (t : Nat) : (l.take t).sum + (l.drop t).sum = l.sum := by
  have h := congrArg List.sum (List.take_append_drop t l)
  rw [List.sum_append] at h
  exact h
theorem row_cap {w : World} {a : Option Addr} {len cap : Nat} {zs : List Int} (h : IsRow .i64 w a len cap zs) : (a = none ∧ len = 0 ∧ cap = 0) ∨ ∃ x, a = some x ∧ len ≤ cap ∧ cap ≤ maxLen := by
  rcases h with ⟨rfl, rfl, rfl, rfl⟩ | ⟨x, rfl, hl, hm, hz, hcell, hwz⟩
  · exact Or.inl ⟨rfl, rfl, rfl⟩
  · exact Or.inr ⟨x, rfl, hl, hm⟩
end Go.Proofs.Ytaebbfaheaghfaa
