/- Plain arithmetic: weights that are all so many times greater. No program in it. -/
import Derived.Test.YtaebbfaheaghfaaCutBase
namespace Go.Proofs.Ytaebbfaheaghfaa

/-- a weight made greater -/
def scale (k w : Int) : Int := (if w < -1 then -1 else w) * k
/-- all of them -/
def scaleL (k : Int) (l : List Int) : List Int := l.map (scale k)

section
variable {k t : Int} {l : List Int}
theorem scaleL_len : (scaleL k l).length = l.length := by simp [scaleL]
theorem scaleL_get (j : Nat) (h : j < l.length) : (scaleL k l).getD j 0 = scale k (l.getD j 0) := by simp [scaleL, List.getD, h]
theorem scale_pos (w : Int) (h : 0 ≤ w) : scale k w = w * k := by unfold scale; rw [if_neg (by omega)]
theorem scale_sign (hk : 0 < k) (w : Int) : (0 ≤ scale k w ↔ 0 ≤ w) ∧ (0 < scale k w ↔ 0 < w) := by
  unfold scale
  split
  · rw [Int.neg_one_mul]; omega
  · by_cases h : 0 < w
    · have := Int.mul_pos h hk; omega
    · by_cases h0 : w = 0
      · subst h0; simp
      · have : w = -1 := by omega
        subst this; rw [Int.neg_one_mul]; omega
theorem okW_scale (hk : 0 < k) : okW (scaleL k l) ↔ okW l := by
  unfold okW
  rw [scaleL_len]
  constructor
  · rintro ⟨h0, h1, h2, j, hj, h3⟩
    exact ⟨h0, h1, fun i hi => by have := h2 i hi; rw [scaleL_get i hi] at this; exact (scale_sign hk _).1.mp this, j, hj, by rw [scaleL_get j hj] at h3; exact (scale_sign hk _).2.mp h3⟩
  · rintro ⟨h0, h1, h2, j, hj, h3⟩
    exact ⟨h0, h1, fun i hi => by rw [scaleL_get i hi]; exact (scale_sign hk _).1.mpr (h2 i hi), j, hj, by rw [scaleL_get j hj]; exact (scale_sign hk _).2.mpr h3⟩
theorem sum_scale : ∀ (l : List Int), (∀ w ∈ l, 0 ≤ w) → (scaleL k l).sum = l.sum * k
  | [], _ => by simp [scaleL]
  | w :: l, h => by
    have ih := sum_scale l (fun x hx => h x (List.mem_cons_of_mem _ hx))
    unfold scaleL at ih ⊢
    rw [List.map_cons, List.sum_cons, List.sum_cons, ih, scale_pos w (h w List.mem_cons_self), Int.add_mul]
theorem ok_mem (h : okW l) : ∀ w ∈ l, 0 ≤ w := by
  intro w hw
  obtain ⟨i, hi, e⟩ := List.getElem_of_mem hw
  have := h.2.2.1 i hi
  rw [← e]
  simpa [List.getD, hi] using this
theorem qf_scale (hk : 0 < k) (h : okW l) (j : Nat) (hj : j < l.length) : qf t (scaleL k l) j = qf t l j ∧ rf t (scaleL k l) j = rf t l j * k := by
  have hw := h.2.2.1 j hj
  unfold qf rf
  rw [scaleL_get j hj, scale_pos _ hw, sum_scale l (ok_mem h), ← Int.mul_assoc]
  refine ⟨Int.mul_ediv_mul_of_pos_left _ _ hk, ?_⟩
  rw [Int.mul_comm _ k, Int.mul_comm _ k, Int.mul_emod_mul_of_pos _ _ hk, Int.mul_comm]
theorem sumTo_congr {f g : Nat → Int} : ∀ i, (∀ j, j < i → f j = g j) → sumTo f i = sumTo g i
  | 0, _ => rfl
  | i + 1, h => by simp only [sumTo]; rw [sumTo_congr i (fun j hj => h j (by omega)), h i (by omega)]
theorem left_scale (hk : 0 < k) (h : okW l) : leftOf t (scaleL k l) = leftOf t l := by
  unfold leftOf
  rw [scaleL_len, sumTo_congr l.length (fun j hj => (qf_scale hk h j hj).1)]
theorem ahd_scale {n : Nat} {r r' : Fin (n + 1) → Int} (hk : 0 < k) (h : ∀ x, r' x = r x * k) (x y : Fin (n + 1)) : ahd r' x y = ahd r x y := by
  unfold ahd
  rw [h x, h y]
  have e1 : r y * k < r x * k ↔ r y < r x := ⟨fun h => Int.lt_of_mul_lt_mul_right h (Int.le_of_lt hk), fun h => Int.mul_lt_mul_of_pos_right h hk⟩
  have e2 : r x * k = r y * k ↔ r x = r y := ⟨fun h => Int.eq_of_mul_eq_mul_right (by omega) h, fun h => by rw [h]⟩
  simp only [e1, e2]
theorem rank_scale {n : Nat} {r r' : Fin (n + 1) → Int} (hk : 0 < k) (h : ∀ x, r' x = r x * k) (x : Fin (n + 1)) : rank r' x = rank r x := by
  unfold rank
  congr 1
  funext y
  exact ahd_scale hk h y x
theorem cutF_scale (hk : 0 < k) (h : okW l) (j : Nat) (hj : j < l.length) : cutF t (scaleL k l) j = cutF t l j := by
  unfold cutF
  rw [(qf_scale hk h j hj).1, left_scale hk h, scaleL_len]
  congr 1
  unfold upF
  have h0 := h.1
  rw [dif_pos (by omega), dif_pos (by omega)]
  rw [rank_scale hk (r := rP t l (l.length - 1)) (r' := rP t (scaleL k l) (l.length - 1)) (fun x => (qf_scale hk h x.val (by have := x.isLt; omega)).2)]
end
end Go.Proofs.Ytaebbfaheaghfaa
