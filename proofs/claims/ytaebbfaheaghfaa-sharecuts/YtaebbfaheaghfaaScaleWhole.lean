/- Plain arithmetic: weights that are all so many times greater. No program in it. Plain arithmetic: what the parts of a cut keep. No program in it. -/
import Derived.Test.YtaebbfaheaghfaaCutBase

namespace Go.Proofs.Ytaebbfaheaghfaa

/-- a weight made greater -/
def scale (k w : Int) : Int := (if w < -1 then -1 else w) * k
/-- all of them -/
def scaleL (k : Int) (l : List Int) : List Int := l.map (scale k)

section
variable {k t : Int} {l : List Int}
theorem scaleL_len : (scaleL k l).length = l.length := by simp [scaleL]
theorem scaleL_get (j : Nat) (h : j < l.length) : (scaleL k l).getD j 0 = scale k (l.getD j 0) := by simp [scaleL, List.getD, h]
theorem scale_pos (w : Int) (h : 0 ≤ w) : scale k w = w * k := by unfold scale; rw [if_neg (by omega)]
theorem scale_sign (hk : 0 < k) (w : Int) : (0 ≤ scale k w ↔ 0 ≤ w) ∧ (0 < scale k w ↔ 0 < w) := by
  unfold scale
  split
  · rw [Int.neg_one_mul]; omega
  · by_cases h : 0 < w
    · have := Int.mul_pos h hk; omega
    · by_cases h0 : w = 0
      · subst h0; simp
      · have : w = -1 := by omega
        subst this; rw [Int.neg_one_mul]; omega
theorem okW_scale (hk : 0 < k) : okW (scaleL k l) ↔ okW l := by
  unfold okW
  rw [scaleL_len]
  constructor
  · rintro ⟨h0, h1, h2, j, hj, h3⟩
    exact ⟨h0, h1, fun i hi => by have := h2 i hi; rw [scaleL_get i hi] at this; exact (scale_sign hk _).1.mp this, j, hj, by rw [scaleL_get j hj] at h3; exact (scale_sign hk _).2.mp h3⟩
  · rintro ⟨h0, h1, h2, j, hj, h3⟩
    exact ⟨h0, h1, fun i hi => by rw [scaleL_get i hi]; exact (scale_sign hk _).1.mpr (h2 i hi), j, hj, by rw [scaleL_get j hj]; exact (scale_sign hk _).2.mpr h3⟩
theorem sum_scale : ∀ (l : List Int), (∀ w ∈ l, 0 ≤ w) → (scaleL k l).sum = l.sum * k
  | [], _ => by simp [scaleL]
  | w :: l, h => by
    have ih := sum_scale l (fun x hx => h x (List.mem_cons_of_mem _ hx))
    unfold scaleL at ih ⊢
    rw [List.map_cons, List.sum_cons, List.sum_cons, ih, scale_pos w (h w List.mem_cons_self), Int.add_mul]
theorem ok_mem (h : okW l) : ∀ w ∈ l, 0 ≤ w := by
  intro w hw
  obtain ⟨i, hi, e⟩ := List.getElem_of_mem hw
  have := h.2.2.1 i hi
  rw [← e]
  simpa [List.getD, hi] using this
theorem qf_scale (hk : 0 < k) (h : okW l) (j : Nat) (hj : j < l.length) : qf t (scaleL k l) j = qf t l j ∧ rf t (scaleL k l) j = rf t l j * k := by
  have hw := h.2.2.1 j hj
  unfold qf rf
  rw [scaleL_get j hj, scale_pos _ hw, sum_scale l (ok_mem h), ← Int.mul_assoc]
  refine ⟨Int.mul_ediv_mul_of_pos_left _ _ hk, ?_⟩
  rw [Int.mul_comm _ k, Int.mul_comm _ k, Int.mul_emod_mul_of_pos _ _ hk, Int.mul_comm]
theorem sumTo_congr {f g : Nat → Int} : ∀ i, (∀ j, j < i → f j = g j) → sumTo f i = sumTo g i
  | 0, _ => rfl
  | i + 1, h => by simp only [sumTo]; rw [sumTo_congr i (fun j hj => h j (by omega)), h i (by omega)]
theorem left_scale (hk : 0 < k) (h : okW l) : leftOf t (scaleL k l) = leftOf t l := by
  unfold leftOf
  rw [scaleL_len, sumTo_congr l.length (fun j hj => (qf_scale hk h j hj).1)]
theorem ahd_scale {n : Nat} {r r' : Fin (n + 1) → Int} (hk : 0 < k) (h : ∀ x, r' x = r x * k) (x y : Fin (n + 1)) : ahd r' x y = ahd r x y := by
  unfold ahd
  rw [h x, h y]
  have e1 : r y * k < r x * k ↔ r y < r x := ⟨fun h => Int.lt_of_mul_lt_mul_right h (Int.le_of_lt hk), fun h => Int.mul_lt_mul_of_pos_right h hk⟩
  have e2 : r x * k = r y * k ↔ r x = r y := ⟨fun h => Int.eq_of_mul_eq_mul_right (by omega) h, fun h => by rw [h]⟩
  simp only [e1, e2]
theorem rank_scale {n : Nat} {r r' : Fin (n + 1) → Int} (hk : 0 < k) (h : ∀ x, r' x = r x * k) (x : Fin (n + 1)) : rank r' x = rank r x := by
  unfold rank
  congr 1
  funext y
  exact ahd_scale hk h y x
theorem cutF_scale (hk : 0 < k) (h : okW l) (j : Nat) (hj : j < l.length) : cutF t (scaleL k l) j = cutF t l j := by
  unfold cutF
  rw [(qf_scale hk h j hj).1, left_scale hk h, scaleL_len]
  congr 1
  unfold upF
  have h0 := h.1
  rw [dif_pos (by omega), dif_pos (by omega)]
  rw [rank_scale hk (r := rP t l (l.length - 1)) (r' := rP t (scaleL k l) (l.length - 1)) (fun x => (qf_scale hk h x.val (by have := x.isLt; omega)).2)]
end
end Go.Proofs.Ytaebbfaheaghfaa

namespace Go.Proofs.Ytaebbfaheaghfaa
open Go.Sort

section
variable {n : Nat}
/-- one where p holds -/
def oneF (p : Fin (n + 1) → Bool) (j : Nat) : Int := if h : j < n + 1 then (if p ⟨j, h⟩ then 1 else 0) else 0
theorem sum_one (p : Fin (n + 1) → Bool) : ∀ m, m ≤ n + 1 → sumTo (oneF p) m = (((List.finRange (n + 1)).take m).countP p : Nat)
  | 0, _ => by simp [sumTo]
  | m + 1, h => by
    have hl : m < (List.finRange (n + 1)).length := by simp; omega
    simp only [sumTo]
    rw [sum_one p m (by omega), List.take_succ_eq_append_getElem hl, List.countP_append]
    have e : (List.finRange (n + 1))[m] = ⟨m, by omega⟩ := by simp
    rw [e, List.countP_cons, List.countP_nil]
    unfold oneF
    rw [dif_pos (show m < n + 1 by omega)]
    split <;> simp
theorem sum_one_all (p : Fin (n + 1) → Bool) : sumTo (oneF p) (n + 1) = ((List.finRange (n + 1)).countP p : Nat) := by
  rw [sum_one p (n + 1) (Nat.le_refl _), List.take_of_length_le (by simp)]
theorem rank_mono (r : Fin (n + 1) → Int) {x y : Fin (n + 1)} (h : r y < r x) : rank r x ≤ rank r y := by
  unfold rank
  refine List.countP_mono_left fun z _ hz => ?_
  rw [ahd_true] at hz ⊢
  rcases hz with h1 | ⟨h1, _⟩
  · left; omega
  · left; omega
theorem rank_pos (r : Fin (n + 1) → Int) (x : Fin (n + 1)) (h0 : r x = 0) : (List.finRange (n + 1)).countP (fun y => decide (0 < r y)) ≤ rank r x := by
  unfold rank
  refine List.countP_mono_left fun z _ hz => ?_
  rw [ahd_true]
  left
  rw [h0]
  simpa using hz
end

section
variable {t : Int} {l : List Int}
theorem up_01 (n k j : Nat) : upF t l n k j = 0 ∨ upF t l n k j = 1 := by
  unfold upF
  split
  · split <;> simp
  · simp
theorem rsum_le (h : okW l) (n : Nat) (hn : l.length = n + 1) : ∀ m, m ≤ n + 1 → sumTo (rf t l) m ≤ sumTo (oneF (fun y : Fin (n + 1) => decide (0 < rf t l y.val))) m * (l.sum - 1)
  | 0, _ => by simp [sumTo]
  | m + 1, hm => by
    have ih := rsum_le h n hn m (by omega)
    have hb := rf_bd (t := t) h m
    simp only [sumTo]
    rw [Int.add_mul]
    have e : rf t l m ≤ oneF (fun y : Fin (n + 1) => decide (0 < rf t l y.val)) m * (l.sum - 1) := by
      unfold oneF
      rw [dif_pos (show m < n + 1 by omega)]
      by_cases h0 : 0 < rf t l m
      · rw [if_pos (by simpa using h0), Int.one_mul]; omega
      · rw [if_neg (by simpa using h0), Int.zero_mul]; omega
    omega
/-- who has a cent more has a rest -/
theorem up_rest (h : okW l) (ht : 0 ≤ t) (j : Nat) (hu : upF t l (l.length - 1) (leftOf t l).toNat j = 1) : 0 < rf t l j := by
  have hs := sum_pos h
  have hlb := left_bd h ht
  have h0 := h.1
  obtain ⟨n, hn⟩ : ∃ n, l.length = n + 1 := ⟨l.length - 1, by omega⟩
  rw [hn, Nat.add_sub_cancel] at hu
  unfold upF at hu
  split at hu
  · rename_i hj
    split at hu
    · rename_i hr
      by_cases hp : 0 < rf t l j
      · exact hp
      · exfalso
        have hz : rP t l n ⟨j, hj⟩ = 0 := by have := (rf_bd (t := t) h j).1; unfold rP; simp only; omega
        have h1 := rank_pos (rP t l n) ⟨j, hj⟩ hz
        have h2 := rsum_le (t := t) h n hn (n + 1) (Nat.le_refl _)
        rw [sum_one_all] at h2
        have h3 := sums (t := t) l.length (Nat.le_refl _)
        rw [List.take_length] at h3
        unfold leftOf at hr hlb
        rw [hn] at h3 hr hlb
        have h4 : ((List.finRange (n + 1)).countP (fun y => decide (0 < rP t l n y)) : Int) < t - sumTo (qf t l) (n + 1) := by omega
        have h4' : ((List.finRange (n + 1)).countP (fun y : Fin (n + 1) => decide (0 < rf t l y.val)) : Int) < t - sumTo (qf t l) (n + 1) := h4
        generalize ((List.finRange (n + 1)).countP (fun y : Fin (n + 1) => decide (0 < rf t l y.val)) : Nat) = c at h2 h4'
        generalize sumTo (qf t l) (n + 1) = Q at *
        generalize sumTo (rf t l) (n + 1) = R at *
        have h5 : ((c : Int) + 1) * l.sum ≤ (t - Q) * l.sum := Int.mul_le_mul_of_nonneg_right (by omega) (Int.le_of_lt hs)
        rw [Int.sub_mul, Int.add_mul, Int.one_mul] at h5
        rw [Int.mul_sub, Int.mul_one] at h2
        rw [Int.mul_comm l.sum Q] at h3
        omega
    · omega
  · omega
/-- less than one from the exact part -/
theorem cut_near (h : okW l) (ht : 0 ≤ t) (j : Nat) : (cutF t l j - 1) * l.sum < t * l.getD j 0 ∧ t * l.getD j 0 < (cutF t l j + 1) * l.sum := by
  have hs := sum_pos h
  have hq := qr (t := t) (l := l) j
  have hb := rf_bd (t := t) h j
  have hu := up_rest h ht j
  rw [Int.mul_comm l.sum] at hq
  unfold cutF
  rcases up_01 (t := t) (l := l) (l.length - 1) (leftOf t l).toNat j with e | e
  · rw [e, Int.add_zero, Int.sub_mul, Int.add_mul, Int.one_mul]; omega
  · have := hu e
    rw [e, Int.add_sub_cancel, Int.add_mul, Int.add_mul, Int.one_mul]; omega
theorem cut_zero (h : okW l) (ht : 0 ≤ t) (j : Nat) (hz : l.getD j 0 = 0) : cutF t l j = 0 := by
  have hu := up_rest h ht j
  have hr : rf t l j = 0 := by unfold rf; rw [hz]; simp
  have hq : qf t l j = 0 := by unfold qf; rw [hz]; simp
  unfold cutF
  rcases up_01 (t := t) (l := l) (l.length - 1) (leftOf t l).toNat j with e | e
  · rw [e, hq]; rfl
  · have := hu e; omega
theorem cut_bd (h : okW l) (ht : 0 ≤ t) (j : Nat) (hj : j < l.length) : 0 ≤ cutF t l j := by
  have := qf_bd h ht j hj
  unfold cutF
  rcases up_01 (t := t) (l := l) (l.length - 1) (leftOf t l).toNat j with e | e <;> omega
/-- of the greater weight no smaller part -/
theorem cut_mono (h : okW l) (ht : 0 ≤ t) (i k : Nat) (hi : i < l.length) (hk : k < l.length) (hw : l.getD k 0 < l.getD i 0) : cutF t l k ≤ cutF t l i := by
  have hs := sum_pos h
  have hle : t * l.getD k 0 ≤ t * l.getD i 0 := Int.mul_le_mul_of_nonneg_left (by omega) ht
  have hq : qf t l k ≤ qf t l i := Int.ediv_le_ediv hs hle
  have h1 := up_01 (t := t) (l := l) (l.length - 1) (leftOf t l).toNat i
  have h2 := up_01 (t := t) (l := l) (l.length - 1) (leftOf t l).toNat k
  unfold cutF
  by_cases e : qf t l k = qf t l i
  · have r1 := up_rest h ht k
    suffices hh : upF t l (l.length - 1) (leftOf t l).toNat k = 1 → upF t l (l.length - 1) (leftOf t l).toNat i = 1 by
      rcases h2 with h2 | h2
      · omega
      · have := hh h2; omega
    intro hu
    have hrk := r1 hu
    have qk := qr (t := t) (l := l) k
    have qi := qr (t := t) (l := l) i
    have ht0 : 0 < t := by
      by_cases h0 : t = 0
      · subst h0; unfold rf at hrk; simp at hrk
      · omega
    have hlt : t * l.getD k 0 < t * l.getD i 0 := Int.mul_lt_mul_of_pos_left hw ht0
    rw [e] at qk
    have hr : rf t l k < rf t l i := by omega
    unfold upF at hu ⊢
    rw [dif_pos (by omega)] at hu ⊢
    split at hu
    · rename_i hc
      have := rank_mono (rP t l (l.length - 1)) (x := ⟨i, by omega⟩) (y := ⟨k, by omega⟩) hr
      rw [if_pos (by omega)]
    · omega
  · omega
end
end Go.Proofs.Ytaebbfaheaghfaa
