/- Plain arithmetic of a whole cut into parts. No program in it. Plain arithmetic of a whole cut into parts: who has a cent more. No program in it. -/
import Derived.Test.YtaebbfaheaghfaaShare1
import Derived.Test.YtaebbfaheaghfaaSortBase

namespace Go.Proofs.Ytaebbfaheaghfaa

/-- the first i of f together -/
def sumTo (f : Nat → Int) : Nat → Int
  | 0 => 0
  | i + 1 => sumTo f i + f i
/-- a part rounded down, and its remainder -/
def qf (t : Int) (l : List Int) (j : Nat) : Int := t * l.getD j 0 / l.sum
def rf (t : Int) (l : List Int) (j : Nat) : Int := t * l.getD j 0 % l.sum

section
variable {t : Int} {l : List Int}

theorem take_mono (hp : ∀ j, j < l.length → 0 ≤ l.getD j 0) (i : Nat) (hi : i ≤ l.length) : 0 ≤ (l.take i).sum ∧ (l.take i).sum ≤ l.sum ∧ ∀ j, j < i → l.getD j 0 ≤ (l.take i).sum := by
  have h1 : ∀ k, k ≤ l.length → 0 ≤ (l.take k).sum ∧ ∀ j, j < k → l.getD j 0 ≤ (l.take k).sum := by
    intro k
    induction k with
    | zero => intro _; exact ⟨by simp, fun j hj => by omega⟩
    | succ k ih =>
      intro hk
      have ⟨a, b⟩ := ih (by omega)
      have hw := hp k (by omega)
      rw [sum_take_succ l k (by omega)]
      refine ⟨by omega, fun j hj => ?_⟩
      by_cases e : j = k
      · subst e; omega
      · have := b j (by omega); omega
  have h2 : ∀ d, i + d ≤ l.length → (l.take i).sum ≤ (l.take (i + d)).sum := by
    intro d
    induction d with
    | zero => intro _; exact Int.le_refl _
    | succ d ih =>
      intro hd
      have := ih (by omega)
      rw [show i + (d + 1) = (i + d) + 1 from rfl, sum_take_succ l (i + d) (by omega)]
      have := hp (i + d) (by omega)
      omega
  have h3 := h2 (l.length - i) (by omega)
  rw [show i + (l.length - i) = l.length by omega, List.take_length] at h3
  exact ⟨(h1 i hi).1, h3, (h1 i hi).2⟩

theorem w_le (hp : ∀ j, j < l.length → 0 ≤ l.getD j 0) (j : Nat) (hj : j < l.length) : l.getD j 0 ≤ l.sum := by
  have h := (take_mono hp l.length (Nat.le_refl _)).2.2 j hj
  rw [List.take_length] at h
  exact h

theorem sum_pos (h : okW l) : 0 < l.sum := by
  obtain ⟨_, _, hp, j, hj, h0⟩ := h
  have := w_le hp j hj
  omega

theorem rf_bd (h : okW l) (j : Nat) : 0 ≤ rf t l j ∧ rf t l j < l.sum := by
  have := sum_pos h
  exact ⟨Int.emod_nonneg _ (by omega), Int.emod_lt_of_pos _ this⟩

theorem qf_bd (h : okW l) (ht : 0 ≤ t) (j : Nat) (hj : j < l.length) : 0 ≤ qf t l j ∧ qf t l j ≤ t := by
  have hs := sum_pos h
  have hw := h.2.2.1 j hj
  have hle := w_le h.2.2.1 j hj
  refine ⟨Int.ediv_nonneg (Int.mul_nonneg ht hw) (Int.le_of_lt hs), ?_⟩
  unfold qf
  have : t * l.getD j 0 ≤ t * l.sum := Int.mul_le_mul_of_nonneg_left hle ht
  have h2 : t * l.getD j 0 / l.sum ≤ t * l.sum / l.sum := Int.ediv_le_ediv hs this
  rw [Int.mul_ediv_cancel _ (by omega)] at h2
  exact h2

theorem qr (j : Nat) : l.sum * qf t l j + rf t l j = t * l.getD j 0 := Int.mul_ediv_add_emod _ _

theorem sums (i : Nat) (hi : i ≤ l.length) : l.sum * sumTo (qf t l) i + sumTo (rf t l) i = t * (l.take i).sum := by
  induction i with
  | zero => simp [sumTo]
  | succ i ih =>
    have := ih (by omega)
    have h2 := qr (t := t) (l := l) i
    rw [sum_take_succ l i (by omega), Int.mul_add]
    simp only [sumTo]
    rw [Int.mul_add]
    omega

theorem rsum_bd (h : okW l) (i : Nat) : 0 ≤ sumTo (rf t l) i ∧ sumTo (rf t l) i ≤ (i : Int) * (l.sum - 1) := by
  induction i with
  | zero => simp [sumTo]
  | succ i ih =>
    have := rf_bd (t := t) h i
    simp only [sumTo]
    rw [show ((i + 1 : Nat) : Int) * (l.sum - 1) = (i : Int) * (l.sum - 1) + (l.sum - 1) by rw [Int.natCast_add, Int.add_mul]; simp]
    omega

theorem qsum_nn (h : okW l) (ht : 0 ≤ t) (i : Nat) (hi : i ≤ l.length) : 0 ≤ sumTo (qf t l) i ∧ ∀ j, j < i → qf t l j ≤ sumTo (qf t l) i := by
  induction i with
  | zero => exact ⟨Int.le_refl _, fun j hj => by omega⟩
  | succ i ih =>
    have ⟨a, b⟩ := ih (by omega)
    have := qf_bd h ht i (by omega)
    simp only [sumTo]
    refine ⟨by omega, fun j hj => ?_⟩
    by_cases e : j = i
    · subst e; omega
    · have := b j (by omega); omega

theorem qsum_le (h : okW l) (ht : 0 ≤ t) (i : Nat) (hi : i ≤ l.length) : sumTo (qf t l) i ≤ t := by
  have hs := sum_pos h
  have h1 := sums (t := t) i hi
  have h2 := (rsum_bd (t := t) h i).1
  have h3 := (take_mono h.2.2.1 i hi).2.1
  have h4 : t * (l.take i).sum ≤ t * l.sum := Int.mul_le_mul_of_nonneg_left h3 ht
  have h5 : l.sum * sumTo (qf t l) i ≤ l.sum * t := by rw [Int.mul_comm l.sum t]; omega
  exact Int.le_of_mul_le_mul_left h5 hs

/-- how many cents are left over -/
def leftOf (t : Int) (l : List Int) : Int := t - sumTo (qf t l) l.length

theorem left_bd (h : okW l) (ht : 0 ≤ t) : 0 ≤ leftOf t l ∧ leftOf t l < l.length := by
  have hs := sum_pos h
  have h0 := qsum_le h ht l.length (Nat.le_refl _)
  have h1 := sums (t := t) l.length (Nat.le_refl _)
  have h2 := (rsum_bd (t := t) h l.length).2
  rw [List.take_length] at h1
  unfold leftOf
  refine ⟨by omega, ?_⟩
  have h3 : l.sum * (t - sumTo (qf t l) l.length) < l.sum * l.length := by
    rw [Int.mul_sub, Int.mul_comm l.sum t, Int.mul_comm l.sum (l.length : Int)]
    rw [Int.mul_sub, Int.mul_one] at h2
    have := h.1
    omega
  exact Int.lt_of_mul_lt_mul_left h3 (Int.le_of_lt hs)

theorem q_up (h : okW l) (ht : 0 ≤ t) (hl : 0 < leftOf t l) (j : Nat) (hj : j < l.length) : qf t l j + 1 ≤ t := by
  have := (qsum_nn h ht l.length (Nat.le_refl _)).2 j hj
  unfold leftOf at hl
  omega
end

/-- the rests of places, as a function of places -/
def rP (t : Int) (l : List Int) (n : Nat) (k : Fin (n + 1)) : Int := rf t l k.val
/-- whether a place has one cent more -/
def upF (t : Int) (l : List Int) (n : Nat) (k j : Nat) : Int := if h : j < n + 1 then (if rank (rP t l n) ⟨j, h⟩ < k then 1 else 0) else 0
/-- the parts -/
def cutF (t : Int) (l : List Int) (j : Nat) : Int := qf t l j + upF t l (l.length - 1) (leftOf t l).toNat j

theorem wrap_rest (x y : Int) (h0 : 0 ≤ x - y) (h1 : x - y ≤ 9223372036854775807) : IntKind.i64.wrap (IntKind.i64.wrap x - IntKind.i64.wrap y) = x - y := by
  rw [IntKind.wrap_i64, IntKind.wrap_i64, IntKind.wrap_i64]
  omega
end Go.Proofs.Ytaebbfaheaghfaa

namespace Go.Proofs.Ytaebbfaheaghfaa
open Go.Sort

section
variable {n : Nat} {d : Array (Fin (n + 1))}
theorem ord_perm (hp : PermIn 0 (n + 1) (places n) d) : d.size = n + 1 ∧ d.toList.Perm (List.finRange (n + 1)) := by
  have hz : (places n).size = n + 1 := by simp [places]
  have hsz : d.size = n + 1 := by rw [hp.1, hz]
  refine ⟨hsz, ?_⟩
  have h := hp.2.2
  rw [ext_all d (n + 1) hsz, ext_all _ _ hz] at h
  exact h
theorem ord_inj (hp : PermIn 0 (n + 1) (places n) d) : ∀ i j, i < j → j < n + 1 → d[i]! ≠ d[j]! := by
  obtain ⟨hsz, h⟩ := ord_perm hp
  have hn : d.toList.Nodup := h.nodup_iff.mpr (List.nodup_finRange _)
  intro i j hij hj e
  rw [← list_get d i (by omega), ← list_get d j (by omega), getElem!_pos d.toList i (by simp; omega), getElem!_pos d.toList j (by simp; omega)] at e
  have := (List.getElem_inj hn).mp e
  omega
theorem ord_surj (hp : PermIn 0 (n + 1) (places n) d) (x : Fin (n + 1)) : ∃ p, p < n + 1 ∧ d[p]! = x := by
  obtain ⟨hsz, h⟩ := ord_perm hp
  have hx : x ∈ d.toList := h.mem_iff.mpr (List.mem_finRange x)
  obtain ⟨p, hp2, e⟩ := List.getElem_of_mem hx
  have hpl : p < d.size := by simpa using hp2
  exact ⟨p, by omega, by rw [← list_get d p hpl, getElem!_pos d.toList p hp2]; exact e⟩
end

theorem up_zero (t : Int) (l : List Int) (n j : Nat) : upF t l n 0 j = 0 := by unfold upF; split <;> simp
theorem up_bd (t : Int) (l : List Int) (n k j : Nat) : 0 ≤ upF t l n k j ∧ upF t l n k j ≤ 1 := by unfold upF; split <;> (try split) <;> omega
theorem up_next {t : Int} {l : List Int} {n : Nat} {d : Array (Fin (n + 1))} (hp : PermIn 0 (n + 1) (places n) d) (hs : SortedIn (ahd (rP t l n)) 0 (n + 1) d) (k : Nat) (hk : k < n + 1) (j : Nat) (hj : j < n + 1) :
    upF t l n (k + 1) j = (if j = d[k]!.val then 1 else upF t l n k j) ∧ (j = d[k]!.val → upF t l n k j = 0) := by
  have hinj := ord_inj hp
  have hr := rank_at d hp hs hinj k hk
  obtain ⟨p, hpn, hpe⟩ := ord_surj hp ⟨j, hj⟩
  have hrp := rank_at d hp hs hinj p hpn
  rw [hpe] at hrp
  unfold upF
  rw [dif_pos hj, dif_pos hj, hrp]
  by_cases e : j = d[k]!.val
  · have : (⟨j, hj⟩ : Fin (n + 1)) = d[k]! := Fin.ext e
    rw [this, hr] at hrp
    subst hrp
    rw [if_pos e]
    exact ⟨by rw [if_pos (by omega)], fun _ => by rw [if_neg (by omega)]⟩
  · have hpk : p ≠ k := fun h => by subst h; exact e (by rw [hpe])
    rw [if_neg e]
    refine ⟨?_, fun h => absurd h e⟩
    by_cases h1 : p < k
    · rw [if_pos (by omega), if_pos h1]
    · rw [if_neg (by omega), if_neg h1]
end Go.Proofs.Ytaebbfaheaghfaa
