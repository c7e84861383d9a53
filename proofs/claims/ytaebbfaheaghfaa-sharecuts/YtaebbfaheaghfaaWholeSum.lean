/- Plain arithmetic: the parts of a cut are the whole together. No program in it. -/
import Derived.Test.YtaebbfaheaghfaaScaleWhole
import Derived.Test.YtaebbfaheaghfaaCutRes
namespace Go.Proofs.Ytaebbfaheaghfaa
open Go.Sort

theorem cut_I {t : Int} {l : List Int} (h : okW l) (ht : 0 ≤ t) (hT : I t) (j : Nat) (hj : j < l.length) : I (cutF t l j) ∧ 0 ≤ cutF t l j ∧ cutF t l j ≤ t := by
  have hq := qf_bd h ht j hj
  have hl := left_bd h ht
  have hu := up_bd t l (l.length - 1) (leftOf t l).toNat j
  by_cases h0 : 0 < leftOf t l
  · have := q_up h ht h0 j hj
    unfold I cutF at *; omega
  · have e : (leftOf t l).toNat = 0 := by omega
    unfold cutF
    rw [e, up_zero]
    unfold I at *; omega
theorem sum_map (f : Nat → Int) : ∀ n, ((List.range n).map f).sum = sumTo f n
  | 0 => by simp [sumTo]
  | n + 1 => by rw [List.range_succ, List.map_append, List.sum_append, sum_map f n]; simp [sumTo]
theorem sumTo_add (f g : Nat → Int) : ∀ n, sumTo (fun j => f j + g j) n = sumTo f n + sumTo g n
  | 0 => by simp [sumTo]
  | n + 1 => by simp only [sumTo]; rw [sumTo_add f g n]; omega
theorem rank_count {n : Nat} (r : Fin (n + 1) → Int) (k : Nat) (hk : k ≤ n + 1) : (List.finRange (n + 1)).countP (fun x => decide (rank r x < k)) = k := by
  have hz : (places n).size = n + 1 := by simp [places]
  obtain ⟨hp, hs⟩ := insertionSort_holds (ahd_swo r) (places n) 0 (n + 1) (by omega) (by omega)
  generalize insertionSort (ahd r) (places n) 0 (n + 1) = d at hp hs
  have hra := rank_at d hp hs (ord_inj hp)
  obtain ⟨hsz, hperm⟩ := ord_perm hp
  rw [← hperm.countP_eq]
  refine count_split _ d.toList k (by simp [hsz]; omega) (fun i hi => ?_) (fun i hi hi2 => ?_)
  · rw [list_get d i (by omega), hra i (by omega)]; simpa using hi
  · have h2 : i < n + 1 := by simpa [hsz] using hi2
    rw [list_get d i (by omega), hra i h2]; simpa using hi
theorem cut_sum {t : Int} {l : List Int} (h : okW l) (ht : 0 ≤ t) : (partsL t l).sum = t := by
  have hlb := left_bd h ht
  have h0 := h.1
  obtain ⟨n, hn⟩ : ∃ n, l.length = n + 1 := ⟨l.length - 1, by omega⟩
  unfold partsL
  rw [sum_map]
  have e : sumTo (cutF t l) l.length = sumTo (qf t l) l.length + sumTo (upF t l (l.length - 1) (leftOf t l).toNat) l.length := sumTo_add _ _ _
  rw [e]
  have e2 : sumTo (upF t l (l.length - 1) (leftOf t l).toNat) l.length = leftOf t l := by
    generalize hK : (leftOf t l).toNat = K
    rw [hn, Nat.add_sub_cancel]
    have e3 : sumTo (upF t l n K) (n + 1) = sumTo (oneF (fun x => decide (rank (rP t l n) x < K))) (n + 1) := by
      refine sumTo_congr _ fun j hj => ?_
      unfold upF oneF
      rw [dif_pos hj, dif_pos hj]
      simp
    rw [e3, sum_one_all, rank_count _ _ (by omega)]
    omega
  rw [e2]
  unfold leftOf
  omega
end Go.Proofs.Ytaebbfaheaghfaa
