/- The contracts of falseworkref01, fifth part: Plus on numbers with their signs, Compare, Cut. -/
import Derived.Test.YtaebbfaheaghfaaRefD
import Derived.Test.YtaebbfaheaghfaaNumMem
import Derived.Deep.RegionWith
import Derived.Deep.RegionHeld3
namespace Go.Proofs.Ytaebbfaheaghfaa
open Go.RowKit

theorem num_eq {m k : Bool} {x y : Int} (h : m = k) (h2 : x = y) : Ending.returned (Nm m x) = .returned (Nm k y) := by rw [h, h2]

/-- a number that is far from the digits' end -/
def Far (n : Int) : Prop := -365375409332725729550921208179070754913983135744 < n ∧ n < 365375409332725729550921208179070754913983135744
theorem far_abs {n : Int} (h : Far n) : 0 ≤ absI n ∧ absI n < 365375409332725729550921208179070754913983135744 := by unfold Far at h; unfold absI; split <;> omega
theorem far_I {n : Int} (h : I n) : Far n := by unfold I at h; unfold Far; omega

theorem plus_any2 (a b : Int) (w : World) (ha : Far a) (hb : Far b) :
    Calls Try.prog 14 #[V a, V b] w fun e w' => e = .returned (V (a + b)) ∧ Made w w' := by
  obtain ⟨x0, x1⟩ := far_abs ha
  obtain ⟨y0, y1⟩ := far_abs hb
  show Calls Try.prog 14 #[Nm (neg? a) (absI a), Nm (neg? b) (absI b)] w fun e w' => e = .returned (Nm (neg? (a + b)) (absI (a + b))) ∧ Made w w'
  by_cases hs : neg? b = neg? a
  · rw [hs]
    refine (plus_same (neg? a) (absI a) (absI b) w x0 y0 (by omega)).mono ?_
    rintro e w1 ⟨rfl, hw⟩
    refine ⟨num_eq ?_ ?_, hw⟩
    · unfold neg? at *
      rw [Bool.eq_iff_iff] at *
      simp only [decide_eq_true_eq] at *
      omega
    · unfold neg? at hs
      rw [Bool.eq_iff_iff] at hs
      simp only [decide_eq_true_eq] at hs
      unfold absI
      split <;> split <;> split <;> omega
  · have hs2 : neg? b = !(neg? a) := by cases h1 : neg? a <;> cases h2 : neg? b <;> simp_all
    rw [hs2]
    have hx : (a < 0 ∧ 0 ≤ b) ∨ (0 ≤ a ∧ b < 0) := by
      unfold neg? at hs2
      rw [Bool.eq_iff_iff] at hs2
      simp only [Bool.not_eq_true', decide_eq_true_eq, decide_eq_false_iff_not] at hs2
      omega
    rcases Int.lt_trichotomy (absI b) (absI a) with h | h | h
    · refine (plus_gt (neg? a) (absI a) (absI b) w x0 (by omega) y0 (by omega) h).mono ?_
      rintro e w1 ⟨rfl, hw⟩
      refine ⟨num_eq ?_ ?_, hw⟩
      · unfold absI at h
        unfold neg?
        rw [Bool.eq_iff_iff]
        simp only [decide_eq_true_eq]
        split at h <;> split at h <;> omega
      · unfold absI at *
        split at h <;> split at h <;> split <;> omega
    · rw [h]
      refine (plus_eq (neg? a) (absI a) w x0 (by omega)).mono ?_
      rintro e w1 ⟨rfl, hw⟩
      have h0 : a + b = 0 := by
        unfold absI at h
        split at h <;> split at h <;> omega
      refine ⟨num_eq ?_ ?_, hw⟩
      · rw [h0]; rfl
      · rw [h0]; rfl
    · refine (plus_lt (neg? a) (absI a) (absI b) w x0 (by omega) y0 (by omega) h).mono ?_
      rintro e w1 ⟨rfl, hw⟩
      refine ⟨num_eq ?_ ?_, hw⟩
      · unfold absI at h
        unfold neg?
        rw [Bool.eq_iff_iff]
        simp only [Bool.not_eq_true', decide_eq_true_eq, decide_eq_false_iff_not]
        split at h <;> split at h <;> omega
      · unfold absI at *
        split at h <;> split at h <;> split <;> omega

theorem far_sub {a b : Int} (ha : -182687704666362864775460604089535377456991567872 < a ∧ a < 182687704666362864775460604089535377456991567872) (hb : -182687704666362864775460604089535377456991567872 < b ∧ b < 182687704666362864775460604089535377456991567872) : Far (a + -b) := by unfold Far; omega

set_option maxHeartbeats 4000000 in
theorem compare_any (a b : Int) (w : World) (ha : Far a) (hb : Far b) :
    Calls Try.prog 33 #[V a, V b] w fun e w' => e = .returned (.int .i64 (cmpI a b)) ∧ Made w w' := by
  have hnb : Far (-b) := by unfold Far at *; omega
  obtain ⟨y0, y1⟩ := far_abs hb
  obtain ⟨s, hs⟩ : ∃ s, s = a + -b := ⟨_, rfl⟩
  have hp := plus_any2 a (-b)
  rw [← hs] at hp
  have hsb : 0 ≤ absI s ∧ absI s < 1461501637330902918203684832716283019655932542976 := by unfold Far at ha hb; unfold absI; split <;> omega
  have hz := fun w => Lib.hid (eq_D (absI s) hsb.1 hsb.2 w)
  have HP := fun w => Lib.hid (hp w ha hnb)
  clear hp
  have HS := Lib.hid hs
  clear hs hsb
  go_enter Try.func33, Try.ntmps33
  go_upto_region 1 with (fail)
  go_cut [5] (fun s5 wx => ∃ g, s5 = .pointer (some ⟨g, 0, none⟩) ∧ Made w wx ∧ IsNum wx g (neg? s) (absI s))
  case first =>
    go_region_with (first | (go_at_call 16; refine (neg_any b _ (by omega)).mono ?_; rintro e w1 ⟨rfl, X, Y, rfl⟩) | (go_at_call 14; refine (HP _).out.mono ?_; rintro e w2 ⟨rfl, L, n, rfl⟩))
    all_goals
      go_wp2_with fail
      go_meet
      refine ⟨_, rfl, (by repeat' (first | exact Made.refl _ | refine Made.drew ?_ | refine Made.drewN ?_ _ | refine Made.alloc ?_ _ | refine Made.grew ?_ _)), ?_⟩
      constructor <;> simp [go_sem]
  case rest =>
    obtain ⟨g, rfl, hb, hc⟩ := hcut
    obtain ⟨c0, c1, c2, c3, c4, c5, c6, c7, c8, c9, c10⟩ := hc
    by_cases h1 : neg? s = true
    · have hc : Hid (cmpI a b = -1) := by
        have := HS.out
        unfold neg? at h1
        simp only [decide_eq_true_eq] at h1
        unfold cmpI
        rw [if_pos (by omega)]
        rfl
      rw [h1] at c0
      clear h1 hz HP
      go_wp2
      go_ret
      exact ⟨ret_int hc.out.symm, hb⟩
    · have h1' : neg? s = false := by simpa using h1
      rw [h1'] at c0
      have hz2 := fun w => (hz w).out
      by_cases h2 : absI s = 0
      · have h2' : (absI s == 0) = true := by simpa using h2
        have hc : Hid (cmpI a b = 0) := by
          have := HS.out
          have h3 : s = 0 := by unfold absI at h2; split at h2 <;> omega
          unfold cmpI
          rw [if_neg (by omega), if_neg (by omega)]
          rfl
        clear h1 h1' h2 HP hz
        go_wp2
        go_ret
        exact ⟨ret_int hc.out.symm, hb⟩
      · have h2' : (absI s == 0) = false := by simpa using h2
        have hc : Hid (cmpI a b = 1) := by
          have := HS.out
          unfold neg? at h1'
          simp only [decide_eq_false_iff_not] at h1'
          have h3 : s ≠ 0 := by intro h; apply h2; rw [h]; rfl
          unfold cmpI
          rw [if_neg (by omega), if_pos (by omega)]
          rfl
        clear h1 h1' h2 HP hz
        go_wp2
        go_ret
        exact ⟨ret_int hc.out.symm, hb⟩

end Go.Proofs.Ytaebbfaheaghfaa
