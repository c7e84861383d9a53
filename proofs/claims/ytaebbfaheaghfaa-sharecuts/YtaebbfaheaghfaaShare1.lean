/- slices.Min, slices.Max of int64, share.possible. -/
import Derived.Test.YtaebbfaheaghfaaRowzOf
import Derived.Deep.LoopGhost
import Derived.Handy
namespace Go.Proofs.Ytaebbfaheaghfaa
open Go.RowKit

/-- v is the least, or the greatest, of the first k -/
def IsMin (l : List Int) (k : Nat) (v : Int) : Prop := (∀ j, j < k → v ≤ l.getD j 0) ∧ ∃ j, j < k ∧ v = l.getD j 0
def IsMax (l : List Int) (k : Nat) (v : Int) : Prop := (∀ j, j < k → l.getD j 0 ≤ v) ∧ ∃ j, j < k ∧ v = l.getD j 0
theorem IsMin.next {l : List Int} {k : Nat} {v u : Int} (h : IsMin l k v) (hu : u = if l.getD k 0 < v then l.getD k 0 else v) : IsMin l (k + 1) u := by
  obtain ⟨h1, j, hj, hv⟩ := h
  by_cases hlt : l.getD k 0 < v
  · rw [if_pos hlt] at hu
    refine ⟨fun i hi => ?_, k, by omega, hu⟩
    by_cases e : i = k
    · subst e; omega
    · have := h1 i (by omega); omega
  · rw [if_neg hlt] at hu
    subst hu
    refine ⟨fun i hi => ?_, j, by omega, hv⟩
    by_cases e : i = k
    · subst e; omega
    · exact h1 i (by omega)
theorem IsMax.next {l : List Int} {k : Nat} {v u : Int} (h : IsMax l k v) (hu : u = if v < l.getD k 0 then l.getD k 0 else v) : IsMax l (k + 1) u := by
  obtain ⟨h1, j, hj, hv⟩ := h
  by_cases hlt : v < l.getD k 0
  · rw [if_pos hlt] at hu
    refine ⟨fun i hi => ?_, k, by omega, hu⟩
    by_cases e : i = k
    · subst e; omega
    · have := h1 i (by omega); omega
  · rw [if_neg hlt] at hu
    subst hu
    refine ⟨fun i hi => ?_, j, by omega, hv⟩
    by_cases e : i = k
    · subst e; omega
    · exact h1 i (by omega)
/-- that the answer is some v of which P holds, and the world is as it was -/
def Some1 (P : Int → Prop) (w : World) (e : Ending) (w' : World) : Prop := ∃ v, P v ∧ e = .returned (.int .i64 v) ∧ w = w'

set_option maxHeartbeats 2000000 in
theorem min_any (b off cap : Nat) (l : List Int) (w : World) (h0 : 0 < l.length) (h1 : l.length ≤ 1000000) (hc : ∀ i, i < l.length → w.cell? ⟨b, off + i, none⟩ = some (.int .i64 (l.getD i 0))) :
    Calls Try.prog 50 #[.slice (some ⟨b, off, none⟩) l.length cap] w (Some1 (IsMin l l.length) w) := by
  have HC := Lib.hid hc
  have c0 := hc 0 h0
  rw [Nat.add_zero] at c0
  obtain ⟨y0, hy0⟩ : ∃ y, y = l.getD 0 0 := ⟨_, rfl⟩
  rw [← hy0] at c0
  have HY0 := Lib.hid hy0
  clear hc hy0
  have d1 : decide ((l.length : Int) < 1) = false := by simp only [decide_eq_false_iff_not]; omega
  have d2 : ¬ ((l.length : Int) < 1) := by omega
  go_enter Try.func50, Try.ntmps50
  go_wp2
  clear c0
  go_loopg [3, 4] l.length (fun g c3 c4 wr => ∃ (k : Nat) (v : Int), c3 = .int .i64 v ∧ c4 = .int .i64 k ∧ g + k = l.length + 1 ∧ k ≤ l.length ∧ 0 < k ∧ Hid (IsMin l k v) ∧ wr = w)
  case atStart =>
    refine ⟨1, y0, rfl, rfl, by omega, by omega, by omega, ⟨fun j hj => ?_, 0, by omega, HY0.out⟩, rfl⟩
    obtain rfl : j = 0 := by omega
    rw [HY0.out]
    exact Int.le_refl _
  case round =>
    obtain ⟨k, v, rfl, rfl, hg, hk, hk0, HV, rfl⟩ := hrel
    by_cases hlt : k < l.length
    · have hlz : (k : Int) < (l.length : Int) := by omega
      have ck := HC.out k hlt
      have b1 : (0 : Int) ≤ (k : Int) := by omega
      obtain ⟨y, hy⟩ : ∃ y, y = l.getD k 0 := ⟨_, rfl⟩
      rw [← hy] at ck
      have HY := Lib.hid hy
      clear hy
      go_wp2
      all_goals
        go_roundg (gk - 1)
        case measure => omega
        case rel => first | exact ⟨k + 1, y, rfl, by go_num, by omega, by omega, by omega, HV.out.next (by rw [← HY.out, if_pos (by omega)]), rfl⟩ | exact ⟨k + 1, v, rfl, by go_num, by omega, by omega, by omega, HV.out.next (by rw [← HY.out, if_neg (by omega)]), rfl⟩
    · have hlz : ¬ (k : Int) < (l.length : Int) := by omega
      obtain rfl : k = l.length := by omega
      go_wp2
      go_ret
      exact ⟨v, HV.out, rfl, rfl⟩

set_option maxHeartbeats 2000000 in
theorem max_any (b off cap : Nat) (l : List Int) (w : World) (h0 : 0 < l.length) (h1 : l.length ≤ 1000000) (hc : ∀ i, i < l.length → w.cell? ⟨b, off + i, none⟩ = some (.int .i64 (l.getD i 0))) :
    Calls Try.prog 51 #[.slice (some ⟨b, off, none⟩) l.length cap] w (Some1 (IsMax l l.length) w) := by
  have HC := Lib.hid hc
  have c0 := hc 0 h0
  rw [Nat.add_zero] at c0
  obtain ⟨y0, hy0⟩ : ∃ y, y = l.getD 0 0 := ⟨_, rfl⟩
  rw [← hy0] at c0
  have HY0 := Lib.hid hy0
  clear hc hy0
  have d1 : decide ((l.length : Int) < 1) = false := by simp only [decide_eq_false_iff_not]; omega
  have d2 : ¬ ((l.length : Int) < 1) := by omega
  go_enter Try.func51, Try.ntmps51
  go_wp2
  clear c0
  go_loopg [3, 4] l.length (fun g c3 c4 wr => ∃ (k : Nat) (v : Int), c3 = .int .i64 v ∧ c4 = .int .i64 k ∧ g + k = l.length + 1 ∧ k ≤ l.length ∧ 0 < k ∧ Hid (IsMax l k v) ∧ wr = w)
  case atStart =>
    refine ⟨1, y0, rfl, rfl, by omega, by omega, by omega, ⟨fun j hj => ?_, 0, by omega, HY0.out⟩, rfl⟩
    obtain rfl : j = 0 := by omega
    rw [HY0.out]
    exact Int.le_refl _
  case round =>
    obtain ⟨k, v, rfl, rfl, hg, hk, hk0, HV, rfl⟩ := hrel
    by_cases hlt : k < l.length
    · have hlz : (k : Int) < (l.length : Int) := by omega
      have ck := HC.out k hlt
      have b1 : (0 : Int) ≤ (k : Int) := by omega
      obtain ⟨y, hy⟩ : ∃ y, y = l.getD k 0 := ⟨_, rfl⟩
      rw [← hy] at ck
      have HY := Lib.hid hy
      clear hy
      go_wp2
      all_goals
        go_roundg (gk - 1)
        case measure => omega
        case rel => first | exact ⟨k + 1, y, rfl, by go_num, by omega, by omega, by omega, HV.out.next (by rw [← HY.out, if_pos (by omega)]), rfl⟩ | exact ⟨k + 1, v, rfl, by go_num, by omega, by omega, by omega, HV.out.next (by rw [← HY.out, if_neg (by omega)]), rfl⟩
    · have hlz : ¬ (k : Int) < (l.length : Int) := by omega
      obtain rfl : k = l.length := by omega
      go_wp2
      go_ret
      exact ⟨v, HV.out, rfl, rfl⟩

/-- can these be weights? -/
def okW (l : List Int) : Prop := 0 < l.length ∧ l.length ≤ 64 ∧ (∀ j, j < l.length → 0 ≤ l.getD j 0) ∧ ∃ j, j < l.length ∧ 0 < l.getD j 0

set_option maxHeartbeats 2000000 in
theorem possible_yes (b off cap : Nat) (l : List Int) (w : World) (h : okW l) (hc : ∀ i, i < l.length → w.cell? ⟨b, off + i, none⟩ = some (.int .i64 (l.getD i 0))) :
    Calls Try.prog 40 #[.slice (some ⟨b, off, none⟩) l.length cap] w fun e w' => e = .returned (.bool true) ∧ w = w' := by
  obtain ⟨h0, h64, hall, j, hj, hpos⟩ := h
  have M1 := Lib.hid (min_any b off cap l w h0 (by omega) hc)
  have M2 := Lib.hid (max_any b off cap l w h0 (by omega) hc)
  have HA := Lib.hid hall
  clear hc hall
  have d1 : ((l.length : Int) == 0) = false := by simp; intro e; subst e; simp at h0
  have d2 : decide ((64 : Int) < (l.length : Int)) = false := by simp only [decide_eq_false_iff_not]; omega
  have d3 : ¬ ((l.length : Int) = 0) := by omega
  go_enter Try.func40, Try.ntmps40
  go_wp2_with fail
  refine M1.out.mono ?_
  rintro e w1 ⟨v, hv, rfl, rfl⟩
  have hv0 : 0 ≤ v := by
    obtain ⟨_, i, hi, e⟩ := hv
    rw [e]; exact HA.out i hi
  have e1 : decide (0 ≤ v) = true := by simpa using hv0
  clear hv
  go_wp2_with fail
  refine M2.out.mono ?_
  rintro e w2 ⟨u, hu, rfl, rfl⟩
  have hu0 : 0 < u := by have := hu.1 j hj; omega
  have e2 : decide (0 < u) = true := by simpa using hu0
  clear hu
  go_wp2
  go_ret
  exact ⟨rfl, rfl⟩

set_option maxHeartbeats 2000000 in
theorem possible_len (a : Option Addr) (len cap : Nat) (w : World) (h : len = 0 ∨ 64 < len) :
    Calls Try.prog 40 #[.slice a len cap] w fun e w' => e = .returned (.bool false) ∧ w = w' := by
  rcases h with rfl | h
  · go_enter Try.func40, Try.ntmps40
    go_wp2
    go_ret
    exact ⟨rfl, rfl⟩
  · have d1 : ((len : Int) == 0) = false := by simp; omega
    have d2 : decide ((64 : Int) < (len : Int)) = true := by simp only [decide_eq_true_eq]; omega
    have d3 : ¬ ((len : Int) = 0) := by omega
    go_enter Try.func40, Try.ntmps40
    go_wp2
    go_ret
    exact ⟨rfl, rfl⟩

set_option maxHeartbeats 2000000 in
theorem possible_no (b off cap : Nat) (l : List Int) (w : World) (h0 : 0 < l.length) (h64 : l.length ≤ 64) (hn : (∃ j, j < l.length ∧ l.getD j 0 < 0) ∨ ∀ j, j < l.length → l.getD j 0 ≤ 0) (hc : ∀ i, i < l.length → w.cell? ⟨b, off + i, none⟩ = some (.int .i64 (l.getD i 0))) :
    Calls Try.prog 40 #[.slice (some ⟨b, off, none⟩) l.length cap] w fun e w' => e = .returned (.bool false) ∧ w = w' := by
  have M1 := Lib.hid (min_any b off cap l w h0 (by omega) hc)
  have M2 := Lib.hid (max_any b off cap l w h0 (by omega) hc)
  have HN := Lib.hid hn
  clear hc hn
  have d1 : ((l.length : Int) == 0) = false := by simp; intro e; subst e; simp at h0
  have d2 : decide ((64 : Int) < (l.length : Int)) = false := by simp only [decide_eq_false_iff_not]; omega
  have d3 : ¬ ((l.length : Int) = 0) := by omega
  go_enter Try.func40, Try.ntmps40
  go_wp2_with fail
  refine M1.out.mono ?_
  rintro e w1 ⟨v, hv, rfl, rfl⟩
  by_cases hv0 : 0 ≤ v
  · have e1 : decide (0 ≤ v) = true := by simpa using hv0
    have hall : ∀ j, j < l.length → l.getD j 0 ≤ 0 := by
      rcases HN.out with ⟨j, hj, hneg⟩ | h
      · have := hv.1 j hj; omega
      · exact h
    have HA := Lib.hid hall
    clear hv hall
    go_wp2_with fail
    refine M2.out.mono ?_
    rintro e w2 ⟨u, hu, rfl, rfl⟩
    have hu0 : ¬ 0 < u := by obtain ⟨_, i, hi, e⟩ := hu; rw [e]; have := HA.out i hi; omega
    have e2 : decide (0 < u) = false := by simpa using hu0
    clear hu
    go_wp2
    go_ret
    exact ⟨rfl, rfl⟩
  · have e1 : decide (0 ≤ v) = false := by simpa using hv0
    clear hv
    go_wp2
    go_ret
    exact ⟨rfl, rfl⟩

theorem okW_or (l : List Int) : okW l ∨ (l.length = 0 ∨ 64 < l.length) ∨ (0 < l.length ∧ l.length ≤ 64 ∧ ((∃ j, j < l.length ∧ l.getD j 0 < 0) ∨ ∀ j, j < l.length → l.getD j 0 ≤ 0)) := by
  by_cases h0 : l.length = 0 ∨ 64 < l.length
  · exact Or.inr (Or.inl h0)
  · by_cases h1 : ∃ j, j < l.length ∧ l.getD j 0 < 0
    · exact Or.inr (Or.inr ⟨by omega, by omega, Or.inl h1⟩)
    · by_cases h2 : ∃ j, j < l.length ∧ 0 < l.getD j 0
      · exact Or.inl ⟨by omega, by omega, fun j hj => by rcases Int.lt_or_le (l.getD j 0) 0 with h | h; exact absurd ⟨j, hj, h⟩ h1; exact h, h2⟩
      · exact Or.inr (Or.inr ⟨by omega, by omega, Or.inr (fun j hj => by rcases Int.lt_or_le 0 (l.getD j 0) with h | h; exact absurd ⟨j, hj, h⟩ h2; exact h)⟩)
end Go.Proofs.Ytaebbfaheaghfaa
