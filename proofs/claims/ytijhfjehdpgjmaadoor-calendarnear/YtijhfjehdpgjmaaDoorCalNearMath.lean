/- Near any day there are business days, if the holidays are few. -/
import Derived.Test.YtijhfjehdpgjmaaDoorCalMod
namespace Go.Proofs.YtijhfjehdpgjmaaDoor

theorem length_le_of_sub : ∀ (S l : List Int), S.Pairwise (· ≠ ·) → (∀ x ∈ S, x ∈ l) → S.length ≤ l.length
  | [], _, _, _ => by simp
  | x :: S, l, hp, hs => by
    have hx : x ∈ l := hs x (by simp)
    rw [List.pairwise_cons] at hp
    have ih := length_le_of_sub S (l.erase x) hp.2 (fun y hy => (List.mem_erase_of_ne (fun e => hp.1 y hy e.symm)).mpr (hs y (by simp [hy])))
    rw [List.length_erase_of_mem hx] at ih
    have : 0 < l.length := List.length_pos_of_mem hx
    simp
    omega

/-- the working days among the 32 days from n on, by steps -/
def wds (n s : Int) : List Int := ((List.range 32).map fun k : Nat => n + (k : Int) * s).filter fun x => decide (x % 7 < 5)
theorem wds_apart (n s : Int) (hs : s = 1 ∨ s = -1) : (wds n s).Pairwise (· ≠ ·) := by
  unfold wds
  refine List.Pairwise.filter _ ?_
  rw [List.pairwise_map]
  refine List.Pairwise.imp ?_ (List.nodup_range (n := 32))
  intro a b hab h
  rcases hs with rfl | rfl <;> exact hab (by omega)
theorem wds_len (n s : Int) (hs : s = 1 ∨ s = -1) : 22 ≤ (wds n s).length := by
  have e : (wds n s).length = ((List.range 32).filter fun k : Nat => decide ((n % 7 + (k : Int) * s) % 7 < 5)).length := by
    unfold wds
    rw [List.filter_map, List.length_map]
    congr 1
    refine List.filter_congr fun k _ => ?_
    simp only [Function.comp]
    rw [decide_eq_decide]
    rcases hs with rfl | rfl <;> omega
  rw [e]
  have h : ∀ r : Fin 7, 22 ≤ ((List.range 32).filter fun k : Nat => decide ((((r : Nat) : Int) + (k : Int) * 1) % 7 < 5)).length ∧ 22 ≤ ((List.range 32).filter fun k : Nat => decide ((((r : Nat) : Int) + (k : Int) * (-1)) % 7 < 5)).length := by decide +kernel
  have hr : n % 7 = (((⟨(n % 7).toNat, by omega⟩ : Fin 7) : Nat) : Int) := by simp; omega
  rw [hr]
  rcases hs with rfl | rfl
  · exact (h _).1
  · exact (h _).2

theorem seek_none_all {l : List Int} {s : Int} {k : Nat} : ∀ {n : Int}, (∀ j : Nat, j < k → 0 ≤ n + (j : Int) * s ∧ n + (j : Int) * s < 146097) → seekF l s k n = none → ∀ j : Nat, j < k → ¬ biz l (n + (j : Int) * s) := by
  induction k with
  | zero => intro n _ _ j hj; omega
  | succ k ih =>
    intro n hin h j hj
    have h0 := hin 0 (by omega)
    simp only [Int.natCast_zero, Int.zero_mul, Int.add_zero] at h0
    by_cases hb : biz l n
    · rw [seek_hit h0 hb] at h; cases h
    · rw [seek_miss h0 hb] at h
      have e : ∀ i : Nat, n + s + (i : Int) * s = n + ((i + 1 : Nat) : Int) * s := fun i => by rw [Int.natCast_add, Int.add_mul]; simp; omega
      cases j with
      | zero => simpa using hb
      | succ i =>
        have := ih (n := n + s) (fun i hi => by rw [e]; exact hin (i + 1) (by omega)) h i (by omega)
        rwa [e] at this
theorem seek_near {l : List Int} {s n : Int} (hs : s = 1 ∨ s = -1) (h0 : 100 ≤ n) (h1 : n ≤ 140000) (hl : l.length ≤ 20) : ∃ x, seekF l s 32 n = some x := by
  cases h : seekF l s 32 n with
  | some x => exact ⟨x, rfl⟩
  | none =>
    exfalso
    have hall := seek_none_all (fun j hj => by rcases hs with rfl | rfl <;> omega) h
    have := length_le_of_sub (wds n s) l (wds_apart n s hs) (fun x hx => by
      unfold wds at hx
      rw [List.mem_filter, List.mem_map] at hx
      obtain ⟨⟨k, hk, rfl⟩, h7⟩ := hx
      have hb := hall k (List.mem_range.mp hk)
      unfold biz at hb
      rw [decide_eq_true_eq] at h7
      by_cases hm : n + (k : Int) * s ∈ l
      · exact hm
      · exact absurd ⟨hm, h7⟩ hb)
    have := wds_len n s hs
    omega

theorem seek_up_all {l : List Int} {k : Nat} : ∀ {n x : Int}, seekF l 1 k n = some x → ∀ z, n ≤ z → z < x → ¬ biz l z := by
  induction k with
  | zero => intro n x h; cases h
  | succ k ih =>
    intro n x h z hz hx
    by_cases hin : 0 ≤ n ∧ n < 146097
    · by_cases hb : biz l n
      · rw [seek_hit hin hb] at h
        cases h
        omega
      · rw [seek_miss hin hb] at h
        by_cases hzn : z = n
        · rw [hzn]; exact hb
        · exact ih h z (by omega) hx
    · rw [seek_out hin] at h; cases h
theorem seek_down_all {l : List Int} {k : Nat} : ∀ {n x : Int}, seekF l (-1) k n = some x → x ≤ n ∧ n < x + k ∧ ∀ z, x < z → z ≤ n → ¬ biz l z := by
  induction k with
  | zero => intro n x h; cases h
  | succ k ih =>
    intro n x h
    by_cases hin : 0 ≤ n ∧ n < 146097
    · by_cases hb : biz l n
      · rw [seek_hit hin hb] at h
        cases h
        exact ⟨by omega, by omega, fun z h1 h2 => by omega⟩
      · rw [seek_miss hin hb] at h
        obtain ⟨h1, h2, h3⟩ := ih h
        refine ⟨by omega, by omega, fun z hz hn => ?_⟩
        by_cases hzn : z = n
        · rw [hzn]; exact hb
        · exact h3 z hz (by omega)
    · rw [seek_out hin] at h; cases h
theorem cnt_zero {l : List Int} {a : Int} : ∀ {k : Nat}, (∀ j : Nat, j < k → ¬ biz l (a + j)) → cntF l a k = 0 := by
  intro k
  induction k with
  | zero => intro _; rfl
  | succ k ih =>
    intro h
    rw [cnt_no (h k (by omega))]
    exact ih (fun j hj => h j (by omega))
theorem mod_some {l : List Int} {n a b : Int} (ha : seekF l 1 32 n = some a) (hb : seekF l (-1) 32 n = some b) : modF l n = some a ∨ modF l n = some b := by
  by_cases h : smP n a
  · exact Or.inl (modF_same ha h)
  · exact Or.inr ((modF_else ha h).trans hb)
theorem smP_self {n : Int} (h : 0 ≤ n ∧ n < 146097) : smP n n := by
  obtain ⟨y, m, d, r, e⟩ := date_of n h.1 h.2
  exact ⟨y, m, d, d, r, r, e, e⟩
end Go.Proofs.YtijhfjehdpgjmaaDoor
