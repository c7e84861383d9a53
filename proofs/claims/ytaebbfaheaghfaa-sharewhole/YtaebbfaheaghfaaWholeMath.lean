/- Plain arithmetic: what the parts of a cut keep. No program in it. -/
import Derived.Test.YtaebbfaheaghfaaScaleMath
namespace Go.Proofs.Ytaebbfaheaghfaa
open Go.Sort

section
variable {n : Nat}
/-- one where p holds -/
def oneF (p : Fin (n + 1) → Bool) (j : Nat) : Int := if h : j < n + 1 then (if p ⟨j, h⟩ then 1 else 0) else 0
theorem sum_one (p : Fin (n + 1) → Bool) : ∀ m, m ≤ n + 1 → sumTo (oneF p) m = (((List.finRange (n + 1)).take m).countP p : Nat)
  | 0, _ => by simp [sumTo]
  | m + 1, h => by
    have hl : m < (List.finRange (n + 1)).length := by simp; omega
    simp only [sumTo]
    rw [sum_one p m (by omega), List.take_succ_eq_append_getElem hl, List.countP_append]
    have e : (List.finRange (n + 1))[m] = ⟨m, by omega⟩ := by simp
    rw [e, List.countP_cons, List.countP_nil]
    unfold oneF
    rw [dif_pos (show m < n + 1 by omega)]
    split <;> simp
theorem sum_one_all (p : Fin (n + 1) → Bool) : sumTo (oneF p) (n + 1) = ((List.finRange (n + 1)).countP p : Nat) := by
  rw [sum_one p (n + 1) (Nat.le_refl _), List.take_of_length_le (by simp)]
theorem rank_mono (r : Fin (n + 1) → Int) {x y : Fin (n + 1)} (h : r y < r x) : rank r x ≤ rank r y := by
  unfold rank
  refine List.countP_mono_left fun z _ hz => ?_
  rw [ahd_true] at hz ⊢
  rcases hz with h1 | ⟨h1, _⟩
  · left; omega
  · left; omega
theorem rank_pos (r : Fin (n + 1) → Int) (x : Fin (n + 1)) (h0 : r x = 0) : (List.finRange (n + 1)).countP (fun y => decide (0 < r y)) ≤ rank r x := by
  unfold rank
  refine List.countP_mono_left fun z _ hz => ?_
  rw [ahd_true]
  left
  rw [h0]
  simpa using hz
end

section
variable {t : Int} {l : List Int}
theorem up_01 (n k j : Nat) : upF t l n k j = 0 ∨ upF t l n k j = 1 := by
  unfold upF
  split
  · split <;> simp
  · simp
theorem rsum_le (h : okW l) (n : Nat) (hn : l.length = n + 1) : ∀ m, m ≤ n + 1 → sumTo (rf t l) m ≤ sumTo (oneF (fun y : Fin (n + 1) => decide (0 < rf t l y.val))) m * (l.sum - 1)
  | 0, _ => by simp [sumTo]
  | m + 1, hm => by
    have ih := rsum_le h n hn m (by omega)
    have hb := rf_bd (t := t) h m
    simp only [sumTo]
    rw [Int.add_mul]
    have e : rf t l m ≤ oneF (fun y : Fin (n + 1) => decide (0 < rf t l y.val)) m * (l.sum - 1) := by
      unfold oneF
      rw [dif_pos (show m < n + 1 by omega)]
      by_cases h0 : 0 < rf t l m
      · rw [if_pos (by simpa using h0), Int.one_mul]; omega
      · rw [if_neg (by simpa using h0), Int.zero_mul]; omega
    omega
/-- who has a cent more has a rest -/
theorem up_rest (h : okW l) (ht : 0 ≤ t) (j : Nat) (hu : upF t l (l.length - 1) (leftOf t l).toNat j = 1) : 0 < rf t l j := by
  have hs := sum_pos h
  have hlb := left_bd h ht
  have h0 := h.1
  obtain ⟨n, hn⟩ : ∃ n, l.length = n + 1 := ⟨l.length - 1, by omega⟩
  rw [hn, Nat.add_sub_cancel] at hu
  unfold upF at hu
  split at hu
  · rename_i hj
    split at hu
    · rename_i hr
      by_cases hp : 0 < rf t l j
      · exact hp
      · exfalso
        have hz : rP t l n ⟨j, hj⟩ = 0 := by have := (rf_bd (t := t) h j).1; unfold rP; simp only; omega
        have h1 := rank_pos (rP t l n) ⟨j, hj⟩ hz
        have h2 := rsum_le (t := t) h n hn (n + 1) (Nat.le_refl _)
        rw [sum_one_all] at h2
        have h3 := sums (t := t) l.length (Nat.le_refl _)
        rw [List.take_length] at h3
        unfold leftOf at hr hlb
        rw [hn] at h3 hr hlb
        have h4 : ((List.finRange (n + 1)).countP (fun y => decide (0 < rP t l n y)) : Int) < t - sumTo (qf t l) (n + 1) := by omega
        have h4' : ((List.finRange (n + 1)).countP (fun y : Fin (n + 1) => decide (0 < rf t l y.val)) : Int) < t - sumTo (qf t l) (n + 1) := h4
        generalize ((List.finRange (n + 1)).countP (fun y : Fin (n + 1) => decide (0 < rf t l y.val)) : Nat) = c at h2 h4'
        generalize sumTo (qf t l) (n + 1) = Q at *
        generalize sumTo (rf t l) (n + 1) = R at *
        have h5 : ((c : Int) + 1) * l.sum ≤ (t - Q) * l.sum := Int.mul_le_mul_of_nonneg_right (by omega) (Int.le_of_lt hs)
        rw [Int.sub_mul, Int.add_mul, Int.one_mul] at h5
        rw [Int.mul_sub, Int.mul_one] at h2
        rw [Int.mul_comm l.sum Q] at h3
        omega
    · omega
  · omega
/-- less than one from the exact part -/
theorem cut_near (h : okW l) (ht : 0 ≤ t) (j : Nat) : (cutF t l j - 1) * l.sum < t * l.getD j 0 ∧ t * l.getD j 0 < (cutF t l j + 1) * l.sum := by
  have hs := sum_pos h
  have hq := qr (t := t) (l := l) j
  have hb := rf_bd (t := t) h j
  have hu := up_rest h ht j
  rw [Int.mul_comm l.sum] at hq
  unfold cutF
  rcases up_01 (t := t) (l := l) (l.length - 1) (leftOf t l).toNat j with e | e
  · rw [e, Int.add_zero, Int.sub_mul, Int.add_mul, Int.one_mul]; omega
  · have := hu e
    rw [e, Int.add_sub_cancel, Int.add_mul, Int.add_mul, Int.one_mul]; omega
theorem cut_zero (h : okW l) (ht : 0 ≤ t) (j : Nat) (hz : l.getD j 0 = 0) : cutF t l j = 0 := by
  have hu := up_rest h ht j
  have hr : rf t l j = 0 := by unfold rf; rw [hz]; simp
  have hq : qf t l j = 0 := by unfold qf; rw [hz]; simp
  unfold cutF
  rcases up_01 (t := t) (l := l) (l.length - 1) (leftOf t l).toNat j with e | e
  · rw [e, hq]; rfl
  · have := hu e; omega
theorem cut_bd (h : okW l) (ht : 0 ≤ t) (j : Nat) (hj : j < l.length) : 0 ≤ cutF t l j := by
  have := qf_bd h ht j hj
  unfold cutF
  rcases up_01 (t := t) (l := l) (l.length - 1) (leftOf t l).toNat j with e | e <;> omega
/-- of the greater weight no smaller part -/
theorem cut_mono (h : okW l) (ht : 0 ≤ t) (i k : Nat) (hi : i < l.length) (hk : k < l.length) (hw : l.getD k 0 < l.getD i 0) : cutF t l k ≤ cutF t l i := by
  have hs := sum_pos h
  have hle : t * l.getD k 0 ≤ t * l.getD i 0 := Int.mul_le_mul_of_nonneg_left (by omega) ht
  have hq : qf t l k ≤ qf t l i := Int.ediv_le_ediv hs hle
  have h1 := up_01 (t := t) (l := l) (l.length - 1) (leftOf t l).toNat i
  have h2 := up_01 (t := t) (l := l) (l.length - 1) (leftOf t l).toNat k
  unfold cutF
  by_cases e : qf t l k = qf t l i
  · have r1 := up_rest h ht k
    suffices hh : upF t l (l.length - 1) (leftOf t l).toNat k = 1 → upF t l (l.length - 1) (leftOf t l).toNat i = 1 by
      rcases h2 with h2 | h2
      · omega
      · have := hh h2; omega
    intro hu
    have hrk := r1 hu
    have qk := qr (t := t) (l := l) k
    have qi := qr (t := t) (l := l) i
    have ht0 : 0 < t := by
      by_cases h0 : t = 0
      · subst h0; unfold rf at hrk; simp at hrk
      · omega
    have hlt : t * l.getD k 0 < t * l.getD i 0 := Int.mul_lt_mul_of_pos_left hw ht0
    rw [e] at qk
    have hr : rf t l k < rf t l i := by omega
    unfold upF at hu ⊢
    rw [dif_pos (by omega)] at hu ⊢
    split at hu
    · rename_i hc
      have := rank_mono (rP t l (l.length - 1)) (x := ⟨i, by omega⟩) (y := ⟨k, by omega⟩) hr
      rw [if_pos (by omega)]
    · omega
  · omega
end
end Go.Proofs.Ytaebbfaheaghfaa
