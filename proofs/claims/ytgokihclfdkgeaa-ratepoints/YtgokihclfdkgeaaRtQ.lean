/- The document's points: binary digits behind the point, a hundred times, with carries. -/
import Derived.Test.YtgokihclfdkgeaaRtS
namespace Go.Proofs.Ytgokihclfdkgeaa
open Go.RowKit Ieee

/-- what is left behind k digits; the digit at k -/
def pk (F k : Nat) : Nat := F * 2 ^ k % U
def dk (F k : Nat) : Nat := F * 2 ^ (k + 1) / U % 2
theorem pk_lt (F k : Nat) : pk F k < U := Nat.mod_lt _ U_pos
theorem pk_zero {F : Nat} (h : F < U) : pk F 0 = F := by unfold pk; rw [Nat.pow_zero, Nat.mul_one]; exact Nat.mod_eq_of_lt h
theorem pk_succ (F k : Nat) : pk F (k + 1) = 2 * pk F k % U ∧ dk F k = 2 * pk F k / U := by
  have hU := U_pos
  unfold pk dk
  have e : F * 2 ^ (k + 1) = 2 * (F * 2 ^ k) := by rw [Nat.pow_succ, Nat.mul_comm (2 ^ k) 2, ← Nat.mul_assoc, Nat.mul_comm F 2, Nat.mul_assoc]
  rw [e]
  generalize F * 2 ^ k = n
  have h := Nat.div_add_mod n U
  have hm := Nat.mod_lt n hU
  have e2 : 2 * n = 2 * (n % U) + U * (2 * (n / U)) := by
    have : U * (2 * (n / U)) = 2 * (U * (n / U)) := by rw [← Nat.mul_assoc, Nat.mul_comm U 2, Nat.mul_assoc]
    rw [this]; omega
  rw [e2, Nat.add_mul_mod_self_left, Nat.add_mul_div_left _ _ hU]
  refine ⟨rfl, ?_⟩
  have h3 : 2 * (n % U) / U < 2 := (Nat.div_lt_iff_lt_mul hU).2 (by omega)
  generalize 2 * (n % U) / U = z at *
  generalize n / U = y at *
  omega
theorem pk_end (F : Nat) : pk F 1074 = 0 := by
  have e : F * 2 ^ 1074 = F * U := by unfold U; with_reducible rfl
  unfold pk
  rw [e]
  exact Nat.mul_mod_left F U
/-- the two ways of a round -/
theorem pk_big {F k : Nat} (h : U ≤ 2 * pk F k) : pk F (k + 1) = 2 * pk F k - U ∧ dk F k = 1 := by
  have hl := pk_lt F k
  have hU := U_pos
  obtain ⟨h1, h2⟩ := pk_succ F k
  rw [h1, h2]
  generalize pk F k = p at *
  refine ⟨?_, ?_⟩
  · rw [Nat.mod_eq_sub_mod h, Nat.mod_eq_of_lt (by omega)]
  · have h3 : 2 * p / U < 2 := (Nat.div_lt_iff_lt_mul hU).2 (by omega)
    have h4 : 1 ≤ 2 * p / U := (Nat.le_div_iff_mul_le hU).2 (by omega)
    omega
theorem pk_small {F k : Nat} (h : ¬ U ≤ 2 * pk F k) : pk F (k + 1) = 2 * pk F k ∧ dk F k = 0 := by
  obtain ⟨h1, h2⟩ := pk_succ F k
  rw [h1, h2]
  exact ⟨Nat.mod_eq_of_lt (by omega), Nat.div_eq_of_lt (by omega)⟩

theorem U_two : U = 2 ^ 1074 := by unfold U; with_reducible rfl
theorem U_big {D : Nat} (h : D < 2 * U) : D < 2 ^ 2000 := by
  have e := U_two
  have := pow2 1074
  have := pow_mono (a := 1074 + 1) (b := 2000) (by decide)
  omega
theorem U_log {D : Nat} (h : D < 2 * U) : D.log2 ≤ 1074 := by
  by_cases hz : D = 0
  · rw [hz]; exact Nat.le_trans (by decide) (Nat.zero_le _)
  · have e := U_two
    have := pow2 1074
    have := log2_lt (n := 1074 + 1) (D := D) (by omega) hz
    omega
theorem rep_modU {D : Nat} (hD : Rep D) (hn : D.log2 ≤ 1100) : Rep (D % U) := by
  rw [U_two]; exact rep_mod (n := 1074) hD (by omega)
theorem pk_rep {F : Nat} (hF : F < U) (hR : Rep F) : ∀ k, Rep (pk F k)
  | 0 => by rw [pk_zero hF]; exact hR
  | k + 1 => by
    rw [(pk_succ F k).1]
    have hl := pk_lt F k
    have := U_log (D := 2 * pk F k) (by omega)
    exact rep_modU (rep_two (pk_rep hF hR k)) (by omega)

/-- floats on the way -/
def W1 : Nat := 4607182418800017408
theorem V_one : V W1 = U := by decide +kernel
theorem fl_pos {D : Nat} (h : D < 2 * U) (hR : Rep D) : R D < infW ∧ V (R D) = D := ⟨(V_R D (U_big h)).1, V_R_rep (U_big h) hR⟩
theorem fl_gt0 {D : Nat} (h : D < 2 * U) (hR : Rep D) : (FloatKind.f64.format.order (R D) 0 == some .gt) = decide (0 < D) := by
  obtain ⟨h1, h2⟩ := fl_pos h hR
  have e : FloatKind.f64.format.order (R D) 0 = some (compare (V (R D)) (V 0)) := order_pos _ _ h1 (by decide)
  rw [e, h2, V_zero]
  rcases Nat.eq_zero_or_pos D with k | k
  · rw [k]; rfl
  · rw [Nat.compare_eq_gt.2 k, decide_eq_true k]; rfl
theorem fl_two {D : Nat} (h : D < 2 * U) (hR : Rep D) : floatBits .mul .f64 (R D) 4611686018427387904 = some (R (2 * D)) := by
  obtain ⟨h1, h2⟩ := fl_pos h hR
  have := mul_two _ h1
  rw [h2] at this
  exact this
theorem fl_ge1 {D : Nat} (h : D < 2 * U) (hR : Rep D) : (FloatKind.f64.format.order (R D) 4607182418800017408 == some .gt || FloatKind.f64.format.order (R D) 4607182418800017408 == some .eq) = decide (U ≤ D) := by
  obtain ⟨h1, h2⟩ := fl_pos h hR
  have e : FloatKind.f64.format.order (R D) 4607182418800017408 = some (compare (V (R D)) (V W1)) := order_pos _ _ h1 (by decide)
  rw [e, h2, V_one]
  rcases Nat.lt_trichotomy D U with k | k | k
  · rw [Nat.compare_eq_lt.2 k, decide_eq_false (by omega)]; rfl
  · rw [Nat.compare_eq_eq.2 k, decide_eq_true (by omega)]; rfl
  · rw [Nat.compare_eq_gt.2 k, decide_eq_true (by omega)]; rfl
theorem fl_less {D : Nat} (h : D < 2 * U) (hR : Rep D) (hU : U ≤ D) : floatBits .sub .f64 (R D) 4607182418800017408 = some (R (D - U)) := by
  obtain ⟨h1, h2⟩ := fl_pos h hR
  have := sub_le (R D) W1 h1 (by decide) (by rw [h2, V_one]; exact hU)
  rw [h2, V_one] at this
  exact this

/-- the whole part, and what is behind the point -/
theorem fl_whole {x : Nat} (hx : x ≤ W100) : floatToIntVal .f64 x .i64 = some ((V x / U : Nat) : Int) ∧ V x / U ≤ 100 := by
  have hi := W_inf hx
  have hV : V x ≤ 100 * U := by have := V_le hx; rw [V_hundred] at this; exact this
  have hd : V x / U ≤ 100 := by
    have := Nat.div_le_div_right (c := U) hV
    rw [Nat.mul_div_cancel _ U_pos] at this
    exact this
  refine ⟨?_, hd⟩
  unfold floatToIntVal
  rw [toInt_pos x hi]
  have e1 : IntKind.i64.min = -9223372036854775808 := by decide
  have e2 : IntKind.i64.max = 9223372036854775807 := by decide
  simp only [e1, e2]
  generalize V x / U = q at *
  rw [if_pos (by omega)]
theorem fl_part {x : Nat} (hx : x ≤ W100) : floatBits .sub .f64 x (floatOfInt .f64 ((V x / U : Nat) : Int)) = some (R (V x % U)) ∧ Rep (V x % U) := by
  have hi := W_inf hx
  have hV : V x ≤ 100 * U := by have := V_le hx; rw [V_hundred] at this; exact this
  obtain ⟨_, hd⟩ := fl_whole hx
  have b1 := big_1
  have b2 := big_2
  have hle : V x / U * U ≤ V x := Nat.div_mul_le_self _ _
  have hw : V x / U * U < 2 ^ 2000 := by omega
  have hr := V_R_rep hw (rep_int _ (by omega))
  have hri := (V_R _ hw).1
  constructor
  · rw [ofInt_R]
    have h := sub_le x (R (V x / U * U)) hi hri (by rw [hr]; exact hle)
    rw [hr] at h
    have e : V x - V x / U * U = V x % U := by
      have := Nat.div_add_mod (V x) U
      rw [Nat.mul_comm] at this
      omega
    rw [e] at h
    exact h
  · refine rep_modU (rep_V hi) ?_
    by_cases hz : V x = 0
    · rw [hz]; exact Nat.le_trans (by decide) (Nat.zero_le _)
    · have := log2_lt (n := 1088) (D := V x) (by omega) hz
      omega

/-- the digits as one number -/
theorem dig_Q {F K : Nat} (hz : pk F K = 0) : ∃ Q, F * 2 ^ K = Q * U ∧ ∀ t, t < K → dk F t = Q / 2 ^ (K - 1 - t) % 2 := by
  have hU := U_pos
  refine ⟨F * 2 ^ K / U, ?_, fun t ht => ?_⟩
  · have := Nat.div_add_mod (F * 2 ^ K) U
    unfold pk at hz
    rw [hz, Nat.mul_comm] at this
    omega
  · unfold dk
    congr 1
    have e : F * 2 ^ K = F * 2 ^ (t + 1) * 2 ^ (K - 1 - t) := by rw [Nat.mul_assoc, ← Nat.pow_add]; congr 2; omega
    rw [e, Nat.div_div_eq_div_mul, Nat.mul_div_mul_right _ _ (Nat.two_pow_pos _)]
theorem Q_lt {F K Q : Nat} (hF : F < U) (h : F * 2 ^ K = Q * U) : Q < 2 ^ K := by
  have : Q * U < 2 ^ K * U := by rw [← h, Nat.mul_comm]; exact Nat.mul_lt_mul_of_pos_left hF (Nat.two_pow_pos _)
  exact Nat.lt_of_mul_lt_mul_right this

/-- the carry behind s digits -/
def crS (Q s : Nat) : Nat := 100 * (Q % 2 ^ s) / 2 ^ s
def btS (Q s : Nat) : Nat := 100 * Q / 2 ^ s % 2
theorem cr_zero (Q : Nat) : crS Q 0 = 0 := by unfold crS; simp [Nat.mod_one]
theorem cr_step (Q s : Nat) : btS Q s = (100 * (Q / 2 ^ s % 2) + crS Q s) % 2 ∧ crS Q (s + 1) = (100 * (Q / 2 ^ s % 2) + crS Q s) / 2 := by
  have hp : 0 < 2 ^ s := Nat.two_pow_pos _
  have e0 : Q % 2 ^ (s + 1) = 2 ^ s * (Q / 2 ^ s % 2) + Q % 2 ^ s := by
    rw [Nat.pow_succ, Nat.mod_mul]; omega
  have e1 : 100 * (Q % 2 ^ (s + 1)) / 2 ^ s = 100 * (Q / 2 ^ s % 2) + crS Q s := by
    have : 100 * (Q % 2 ^ (s + 1)) = 100 * (Q % 2 ^ s) + 2 ^ s * (100 * (Q / 2 ^ s % 2)) := by
      rw [e0, Nat.mul_add, ← Nat.mul_assoc, Nat.mul_comm 100 (2 ^ s), Nat.mul_assoc]; omega
    rw [this, Nat.add_mul_div_left _ _ hp]
    unfold crS
    omega
  constructor
  · unfold btS
    have e2 : 100 * Q = 100 * (Q % 2 ^ (s + 1)) + 2 ^ s * (2 * (100 * (Q / 2 ^ (s + 1)))) := by
      have h := Nat.div_add_mod Q (2 ^ (s + 1))
      have h3 : 2 ^ s * (2 * (100 * (Q / 2 ^ (s + 1)))) = 100 * (2 ^ (s + 1) * (Q / 2 ^ (s + 1))) := by
        rw [Nat.pow_succ, ← Nat.mul_assoc, ← Nat.mul_assoc, ← Nat.mul_assoc, Nat.mul_comm (2 ^ s * 2) 100]
      rw [h3]; omega
    rw [e2, Nat.add_mul_div_left _ _ hp, e1]
    omega
  · unfold crS at *
    rw [← e1, Nat.pow_succ, ← Nat.div_div_eq_div_mul]
theorem cr_le (Q s : Nat) : crS Q s ≤ 100 := by
  unfold crS
  have hp : 0 < 2 ^ s := Nat.two_pow_pos _
  have h := Nat.mod_lt Q hp
  have : 100 * (Q % 2 ^ s) / 2 ^ s ≤ 100 * 2 ^ s / 2 ^ s := Nat.div_le_div_right (by omega)
  rw [Nat.mul_div_cancel _ hp] at this
  exact this

theorem low_zero (X : Nat) : ∀ M, (∀ s, s < M → X / 2 ^ s % 2 = 0) → X % 2 ^ M = 0
  | 0, _ => by simp [Nat.mod_one]
  | M + 1, h => by
    rw [Nat.pow_succ, Nat.mod_mul, low_zero X M (fun s hs => h s (by omega)), h M (by omega)]; simp
theorem low_one {X M s : Nat} (hs : s < M) (h : X / 2 ^ s % 2 = 1) : X % 2 ^ M ≠ 0 := by
  intro h0
  have hd : 2 ^ (s + 1) ∣ X := Nat.dvd_trans (Nat.pow_dvd_pow 2 (by omega)) (Nat.dvd_of_mod_eq_zero h0)
  obtain ⟨c, hc⟩ := hd
  rw [hc, Nat.pow_succ, Nat.mul_assoc, Nat.mul_div_cancel_left _ (Nat.two_pow_pos _)] at h
  omega

theorem scaled {v q r c Q u : Nat} (h1 : u * q + r = v) (h2 : r * c = Q * u) : 100 * v * c = (100 * q * c + 100 * Q) * u := by
  rw [← h1, Nat.add_mul, Nat.mul_assoc 100 Q u, ← h2, Nat.mul_add, Nat.add_mul]
  congr 1
  · rw [Nat.mul_assoc 100 q c, Nat.mul_assoc 100 (q * c) u, Nat.mul_comm u q, Nat.mul_assoc 100 (q * u) c, Nat.mul_right_comm q u c]
  · rw [Nat.mul_assoc]
/-- the points, by what the digits tell -/
theorem pts_scaled {x K Q : Nat} (hx : x ≤ W100) (h : V x % U * 2 ^ K = Q * U) : pts x = rnd (100 * (V x / U) * 2 ^ K + 100 * Q) (2 ^ K) := by
  unfold pts
  rw [if_pos hx, ← rnd_scale (100 * V x) U (2 ^ K) (Nat.two_pow_pos _), Nat.mul_comm U (2 ^ K), scaled (Nat.div_add_mod (V x) U) h, rnd_scale _ _ _ U_pos]
theorem N_parts (a K Q : Nat) : (100 * a * 2 ^ K + 100 * Q) / 2 ^ K = 100 * a + 100 * Q / 2 ^ K ∧ (100 * a * 2 ^ K + 100 * Q) % 2 ^ K = 100 * Q % 2 ^ K := by
  have hp : 0 < 2 ^ K := Nat.two_pow_pos _
  rw [Nat.add_comm, Nat.add_mul_div_right _ _ hp, Nat.add_mul_mod_self_right]
  exact ⟨by omega, rfl⟩
theorem cr_all {Q K : Nat} (h : Q < 2 ^ K) : crS Q K = 100 * Q / 2 ^ K := by unfold crS; rw [Nat.mod_eq_of_lt h]
theorem half_split (X M : Nat) : X % 2 ^ (M + 1) = X % 2 ^ M + 2 ^ M * (X / 2 ^ M % 2) := by rw [Nat.pow_succ, Nat.mod_mul]
/-- the first digit is 0, or there is none -/
theorem pts_low {x K Q : Nat} (hx : x ≤ W100) (h : V x % U * 2 ^ K = Q * U) (hb : K = 0 ∨ btS Q (K - 1) = 0) : pts x = 100 * (V x / U) + crS Q K := by
  have hQ := Q_lt (Nat.mod_lt _ U_pos) h
  obtain ⟨n1, n2⟩ := N_parts (V x / U) K Q
  rw [pts_scaled hx h, rnd_lo, n1, cr_all hQ]
  rw [n2]
  rcases hb with k | k
  · subst k; simp [Nat.mod_one]
  · obtain ⟨M, rfl⟩ | k0 : (∃ M, K = M + 1) ∨ K = 0 := by
      cases K with
      | zero => exact Or.inr rfl
      | succ M => exact Or.inl ⟨M, rfl⟩
    · unfold btS at k
      rw [Nat.add_sub_cancel] at k
      rw [half_split, k, Nat.pow_succ]
      have := Nat.mod_lt (100 * Q) (Nat.two_pow_pos M)
      omega
    · subst k0; simp [Nat.mod_one]
theorem pts_high {x M Q s : Nat} (hx : x ≤ W100) (h : V x % U * 2 ^ (M + 1) = Q * U) (hb : btS Q M = 1) (hs : s < M) (h1 : btS Q s = 1) : pts x = 100 * (V x / U) + crS Q (M + 1) + 1 := by
  have hQ := Q_lt (Nat.mod_lt _ U_pos) h
  obtain ⟨n1, n2⟩ := N_parts (V x / U) (M + 1) Q
  rw [pts_scaled hx h, rnd_hi, n1, cr_all hQ]
  rw [n2, half_split]
  unfold btS at hb h1
  have := low_one hs h1
  rw [hb, Nat.pow_succ]
  omega
theorem pts_mid {x M Q : Nat} (hx : x ≤ W100) (h : V x % U * 2 ^ (M + 1) = Q * U) (hb : btS Q M = 1) (h1 : ∀ s, s < M → btS Q s = 0) : pts x = 100 * (V x / U) + crS Q (M + 1) + (100 * (V x / U) + crS Q (M + 1)) % 2 := by
  have hQ := Q_lt (Nat.mod_lt _ U_pos) h
  obtain ⟨n1, n2⟩ := N_parts (V x / U) (M + 1) Q
  rw [pts_scaled hx h, rnd_mid, n1, cr_all hQ]
  rw [n2, half_split]
  unfold btS at hb h1
  have := low_zero (100 * Q) M h1
  rw [hb, this, Nat.pow_succ]
  omega
end Go.Proofs.Ytgokihclfdkgeaa
