/- slices.SortStableFunc of up to 64 places. -/
import Derived.Test.YtaebbfaheaghfaaSymMerge
namespace Go.Proofs.Ytaebbfaheaghfaa
open Go.RowKit Go.Shelf Go.Sort Go.Lib

section
variable {n : Nat} {r : Fin (n + 1) → Int} {d d' : Array (Fin (n + 1))} {a m b lo hi : Nat}
/-- sorted, and of its own places alone -/
def Seg (r : Fin (n + 1) → Int) (d : Array (Fin (n + 1))) (lo hi : Nat) : Prop := SortedIn (ahd r) lo hi d ∧ ∀ p, lo ≤ p → p < hi → lo ≤ d[p]!.val ∧ d[p]!.val < hi
theorem Seg.keep (h : Seg r d lo hi) (hp : PermIn a b d d') (hd : hi ≤ a ∨ b ≤ lo) : Seg r d' lo hi := by
  have G : ∀ k, lo ≤ k → k < hi → d'[k]! = d[k]! := fun k h1 h2 => hp.2.1 k (by omega)
  refine ⟨fun p q h1 h2 h3 => ?_, fun p h1 h2 => ?_⟩
  · rw [G p h1 (by omega), G q (by omega) h3]; exact h.1 p q h1 h2 h3
  · rw [G p h1 h2]; exact h.2 p h1 h2
theorem Seg.ins (hU : ∀ p, a ≤ p → p < d.size → d[p]!.val = p) (hab : a ≤ b) (hb : b ≤ d.size) : PermIn a b d (insertionSort (ltOf (cfP r)) d a b) ∧ Seg r (insertionSort (ltOf (cfP r)) d a b) a b := by
  have h := ins_ahd (r := r) d a b hab hb (fun p q h1 h2 h3 => by rw [hU p h1 (by omega), hU q (by omega) (by omega)]; exact h2)
  exact ⟨h.1, h.2, fun p h1 h2 => permIn_all d _ a b (fun x => a ≤ x.val ∧ x.val < b) hb h.1 (fun k h3 h4 => by rw [hU k h3 (by omega)]; exact ⟨h3, h4⟩) p h1 h2⟩
theorem Seg.pre (h1 : Seg r d a m) (h2 : Seg r d m b) : Pre r d a m b := ⟨h1.1, h2.1, fun p q h3 h4 h5 h6 => by have := h1.2 p h3 h4; have := h2.2 q h5 h6; omega⟩
theorem Seg.merge (h1 : Seg r d a m) (h2 : Seg r d m b) (hm : a ≤ m) (hb : m ≤ b) (hz : b ≤ d.size) (M : Merged r d d' a b) : Seg r d' a b := by
  refine ⟨M.2, fun p h3 h4 => permIn_all d d' a b (fun x => a ≤ x.val ∧ x.val < b) hz M.1 (fun k h5 h6 => ?_) p h3 h4⟩
  by_cases hk : k < m
  · have := h1.2 k h5 hk; exact ⟨this.1, by omega⟩
  · have := h2.2 k (by omega) h6; exact ⟨by omega, this.2⟩
theorem Seg.empty (h : hi ≤ lo) : Seg r d lo hi := ⟨fun p q h1 h2 h3 => by omega, fun p h1 h2 => by omega⟩
end

set_option maxHeartbeats 16000000 in
set_option maxRecDepth 1000000 in
theorem st20 {n : Nat} {r : Fin (n + 1) → Int} {cb : Array Value} {blk : Nat} (cap z : Nat) {d0 : Array (Fin (n + 1))} {w0 w : World} (hcmp : CmpLays1 Try.prog gP cb encP (cfP r) blk 0 d0.size w0) (R : Row1 encP w0 blk 0 d0)
    (S : SW encP w0 blk 0 d0 w) (hz : d0.size = z) (hU : ∀ p, p < z → d0[p]!.val = p) (hc : z = 20) :
    Calls Try.prog 61 #[.slice (some ⟨blk, 0, none⟩) z cap, .int .i64 z, .func (.func gP) #[] cb] w fun e w' => e = .returned (.tuple #[]) ∧ ∃ d', PermIn 0 z d0 d' ∧ SortedIn (ahd r) 0 z d' ∧ SW encP w0 blk 0 d' w' := by
  have CI : ∀ (a b : Nat) (d : Array (Fin (n + 1))) (W : World), d.size = z → SW encP w0 blk 0 d W → a ≤ b → b ≤ z → ∀ (A B : Int), (a : Int) = A → (b : Int) = B → Hid (Calls Try.prog 65 #[.slice (some ⟨blk, 0, none⟩) z cap, .int .i64 A, .int .i64 B, .func (.func gP) #[] cb] W fun e w' => e = .returned (.tuple #[]) ∧ SW encP w0 blk 0 (insertionSort (ltOf (cfP r)) d a b) w') := fun a b d W h1 h2 h3 h4 A B hA hB => by
    subst hA hB
    have h := ins_any (r := r) a b cap hcmp R (by omega) h2 h3 (by omega) (by omega)
    rw [h1] at h
    exact h
  have CM : ∀ (a m b : Nat) (d : Array (Fin (n + 1))) (W : World), d.size = z → SW encP w0 blk 0 d W → a < m → m < b → b ≤ z → Pre r d a m b → ∀ (A M B : Int), (a : Int) = A → (m : Int) = M → (b : Int) = B → Hid (Calls Try.prog 66 #[.slice (some ⟨blk, 0, none⟩) z cap, .int .i64 A, .int .i64 M, .int .i64 B, .func (.func gP) #[] cb] W fun e w' => e = .returned (.tuple #[]) ∧ ∃ d', Merged r d d' a b ∧ SW encP w0 blk 0 d' w') := fun a m b d W h1 h2 h3 h4 h5 P A M B hA hM hB => by
    subst hA hM hB
    have h := sym_any (cap := cap) hcmp R (by omega) (b - a) a m b d W (Nat.le_refl _) h3 h4 (by omega) (by omega) P h2
    rw [hz] at h
    exact h
  subst hc
  have HS := Lib.hid S
  have HU := Lib.hid hU
  have HZ := Lib.hid hz
  have HP0 := Lib.hid (permIn_refl d0 0 20)
  clear hcmp R S hU hz
  go_enter Try.func61, Try.ntmps61
  go_wp2
  refine wp_loop_rounds 2 ?_
  rw [rounds_succ]
  have hzz := HZ.out
  have hdz1 : d0.size = 20 := by omega
  have hu1 : ∀ p, 0 ≤ p → p < d0.size → d0[p]!.val = p := fun p _ hp => HU.out p (by omega)
  have hI1 := Seg.ins (r := r) (b := 20) hu1 (by omega) (by omega)
  have C1 := CI 0 20 d0 _ hdz1 HS.out (by omega) (by omega)
  generalize hge1 : insertionSort (ltOf (cfP r)) d0 0 20 = e1 at hI1 C1
  clear hge1
  have HP1 := Lib.hid (permIn_trans _ _ _ 0 20 HP0.out (permIn_mono _ _ 0 20 0 20 (Nat.zero_le _) (by omega) (by omega) hI1.1))
  have HUU1 := Lib.hid (show ∀ p, 20 ≤ p → p < e1.size → e1[p]!.val = p from fun p h1 h2 => by rw [hI1.1.2.1 p (Or.inr h1)]; exact hu1 p (by omega) (by rw [hI1.1.1] at h2; exact h2))
  have Gs1 := Lib.hid hI1.2
  clear hzz hdz1 hu1 hI1
  go_wp2_with fail
  (with_reducible refine (C1 _ _ (by first | rfl | omega) (by first | rfl | omega)).out.mono ?_)
  rintro e x1 ⟨rfl, hS1⟩
  have HS1 := Lib.hid hS1
  clear hS1
  go_wp2
  rw [rounds_succ]
  have hzz := HZ.out
  have hdz2 : e1.size = 20 := by rw [HP1.out.1]; exact hzz
  have hu2 : ∀ p, 20 ≤ p → p < e1.size → e1[p]!.val = p := HUU1.out
  have hI2 := Seg.ins (r := r) (b := 20) hu2 (by omega) (by omega)
  have C2 := CI 20 20 e1 _ hdz2 HS1.out (by omega) (by omega)
  generalize hge2 : insertionSort (ltOf (cfP r)) e1 20 20 = e2 at hI2 C2
  clear hge2
  have HP2 := Lib.hid (permIn_trans _ _ _ 0 20 HP1.out (permIn_mono _ _ 20 20 0 20 (Nat.zero_le _) (by omega) (by omega) hI2.1))
  have Gs1_2 := Lib.hid (Gs1.out.keep hI2.1 (Or.inl (by omega)))
  have Gs2 := Lib.hid hI2.2
  clear hzz hdz2 hu2 hI2
  go_wp2_with fail
  (with_reducible refine (C2 _ _ (by first | rfl | omega) (by first | rfl | omega)).out.mono ?_)
  rintro e x2 ⟨rfl, hS2⟩
  have HS2 := Lib.hid hS2
  clear hS2
  go_wp2
  refine wp_loop_rounds 1 ?_
  rw [rounds_succ]
  go_wp2
  go_end0
  exact ⟨rfl, e2, HP2.out, Gs1_2.out.1, HS2.out⟩

set_option maxHeartbeats 16000000 in
set_option maxRecDepth 1000000 in
theorem st40 {n : Nat} {r : Fin (n + 1) → Int} {cb : Array Value} {blk : Nat} (cap z : Nat) {d0 : Array (Fin (n + 1))} {w0 w : World} (hcmp : CmpLays1 Try.prog gP cb encP (cfP r) blk 0 d0.size w0) (R : Row1 encP w0 blk 0 d0)
    (S : SW encP w0 blk 0 d0 w) (hz : d0.size = z) (hU : ∀ p, p < z → d0[p]!.val = p) (hc : 20 < z ∧ z < 40) :
    Calls Try.prog 61 #[.slice (some ⟨blk, 0, none⟩) z cap, .int .i64 z, .func (.func gP) #[] cb] w fun e w' => e = .returned (.tuple #[]) ∧ ∃ d', PermIn 0 z d0 d' ∧ SortedIn (ahd r) 0 z d' ∧ SW encP w0 blk 0 d' w' := by
  have CI : ∀ (a b : Nat) (d : Array (Fin (n + 1))) (W : World), d.size = z → SW encP w0 blk 0 d W → a ≤ b → b ≤ z → ∀ (A B : Int), (a : Int) = A → (b : Int) = B → Hid (Calls Try.prog 65 #[.slice (some ⟨blk, 0, none⟩) z cap, .int .i64 A, .int .i64 B, .func (.func gP) #[] cb] W fun e w' => e = .returned (.tuple #[]) ∧ SW encP w0 blk 0 (insertionSort (ltOf (cfP r)) d a b) w') := fun a b d W h1 h2 h3 h4 A B hA hB => by
    subst hA hB
    have h := ins_any (r := r) a b cap hcmp R (by omega) h2 h3 (by omega) (by omega)
    rw [h1] at h
    exact h
  have CM : ∀ (a m b : Nat) (d : Array (Fin (n + 1))) (W : World), d.size = z → SW encP w0 blk 0 d W → a < m → m < b → b ≤ z → Pre r d a m b → ∀ (A M B : Int), (a : Int) = A → (m : Int) = M → (b : Int) = B → Hid (Calls Try.prog 66 #[.slice (some ⟨blk, 0, none⟩) z cap, .int .i64 A, .int .i64 M, .int .i64 B, .func (.func gP) #[] cb] W fun e w' => e = .returned (.tuple #[]) ∧ ∃ d', Merged r d d' a b ∧ SW encP w0 blk 0 d' w') := fun a m b d W h1 h2 h3 h4 h5 P A M B hA hM hB => by
    subst hA hM hB
    have h := sym_any (cap := cap) hcmp R (by omega) (b - a) a m b d W (Nat.le_refl _) h3 h4 (by omega) (by omega) P h2
    rw [hz] at h
    exact h
  obtain ⟨hc1, hc2⟩ := hc
  have HS := Lib.hid S
  have HU := Lib.hid hU
  have HZ := Lib.hid hz
  have HP0 := Lib.hid (permIn_refl d0 0 z)
  clear hcmp R S hU hz
  go_enter Try.func61, Try.ntmps61
  go_wp2
  refine wp_loop_rounds 2 ?_
  rw [rounds_succ]
  have hzz := HZ.out
  have hdz1 : d0.size = z := by omega
  have hu1 : ∀ p, 0 ≤ p → p < d0.size → d0[p]!.val = p := fun p _ hp => HU.out p (by omega)
  have hI1 := Seg.ins (r := r) (b := 20) hu1 (by omega) (by omega)
  have C1 := CI 0 20 d0 _ hdz1 HS.out (by omega) (by omega)
  generalize hge1 : insertionSort (ltOf (cfP r)) d0 0 20 = e1 at hI1 C1
  clear hge1
  have HP1 := Lib.hid (permIn_trans _ _ _ 0 z HP0.out (permIn_mono _ _ 0 20 0 z (Nat.zero_le _) (by omega) (by omega) hI1.1))
  have HUU1 := Lib.hid (show ∀ p, 20 ≤ p → p < e1.size → e1[p]!.val = p from fun p h1 h2 => by rw [hI1.1.2.1 p (Or.inr h1)]; exact hu1 p (by omega) (by rw [hI1.1.1] at h2; exact h2))
  have Gs1 := Lib.hid hI1.2
  clear hzz hdz1 hu1 hI1
  go_wp2_with fail
  (with_reducible refine (C1 _ _ (by first | rfl | omega) (by first | rfl | omega)).out.mono ?_)
  rintro e x1 ⟨rfl, hS1⟩
  have HS1 := Lib.hid hS1
  clear hS1
  go_wp2
  rw [rounds_succ]
  have hzz := HZ.out
  have hdz2 : e1.size = z := by rw [HP1.out.1]; exact hzz
  have hu2 : ∀ p, 20 ≤ p → p < e1.size → e1[p]!.val = p := HUU1.out
  have hI2 := Seg.ins (r := r) (b := z) hu2 (by omega) (by omega)
  have C2 := CI 20 z e1 _ hdz2 HS1.out (by omega) (by omega)
  generalize hge2 : insertionSort (ltOf (cfP r)) e1 20 z = e2 at hI2 C2
  clear hge2
  have HP2 := Lib.hid (permIn_trans _ _ _ 0 z HP1.out (permIn_mono _ _ 20 z 0 z (Nat.zero_le _) (by omega) (by omega) hI2.1))
  have Gs1_2 := Lib.hid (Gs1.out.keep hI2.1 (Or.inl (by omega)))
  have Gs2 := Lib.hid hI2.2
  clear hzz hdz2 hu2 hI2
  go_wp2_with fail
  (with_reducible refine (C2 _ _ (by first | rfl | omega) (by first | rfl | omega)).out.mono ?_)
  rintro e x2 ⟨rfl, hS2⟩
  have HS2 := Lib.hid hS2
  clear hS2
  go_wp2
  refine wp_loop_rounds 2 ?_
  rw [rounds_succ]
  go_wp2
  refine wp_loop_rounds 1 ?_
  rw [rounds_succ]
  have hzz := HZ.out
  have hdz3 : e2.size = z := by rw [HP2.out.1]; exact hzz
  have C3 := CM 0 20 z e2 _ hdz3 HS2.out (by omega) (by omega) (by omega) (Seg.pre Gs1_2.out Gs2.out)
  have HDZ3 := Lib.hid hdz3
  clear hzz hdz3
  go_wp2_with fail
  (with_reducible refine (C3 _ _ _ (by first | rfl | omega) (by first | rfl | omega) (by first | rfl | omega)).out.mono ?_)
  rintro e x3 ⟨rfl, e3, hM3, hS3⟩
  have HS3 := Lib.hid hS3
  have hdz := HDZ3.out
  have HP3 := Lib.hid (permIn_trans _ _ _ 0 z HP2.out (permIn_mono _ _ 0 z 0 z (Nat.zero_le _) (by omega) (by omega) hM3.1))
  have Gm3 := Lib.hid (Seg.merge Gs1_2.out Gs2.out (by omega) (by omega) (by omega) hM3)
  clear hS3 hM3 hdz
  go_wp2
  rw [rounds_succ]
  go_wp2
  go_end0
  exact ⟨rfl, e3, HP3.out, Gm3.out.1, HS3.out⟩

set_option maxHeartbeats 16000000 in
set_option maxRecDepth 1000000 in
theorem st40e {n : Nat} {r : Fin (n + 1) → Int} {cb : Array Value} {blk : Nat} (cap z : Nat) {d0 : Array (Fin (n + 1))} {w0 w : World} (hcmp : CmpLays1 Try.prog gP cb encP (cfP r) blk 0 d0.size w0) (R : Row1 encP w0 blk 0 d0)
    (S : SW encP w0 blk 0 d0 w) (hz : d0.size = z) (hU : ∀ p, p < z → d0[p]!.val = p) (hc : z = 40) :
    Calls Try.prog 61 #[.slice (some ⟨blk, 0, none⟩) z cap, .int .i64 z, .func (.func gP) #[] cb] w fun e w' => e = .returned (.tuple #[]) ∧ ∃ d', PermIn 0 z d0 d' ∧ SortedIn (ahd r) 0 z d' ∧ SW encP w0 blk 0 d' w' := by
  have CI : ∀ (a b : Nat) (d : Array (Fin (n + 1))) (W : World), d.size = z → SW encP w0 blk 0 d W → a ≤ b → b ≤ z → ∀ (A B : Int), (a : Int) = A → (b : Int) = B → Hid (Calls Try.prog 65 #[.slice (some ⟨blk, 0, none⟩) z cap, .int .i64 A, .int .i64 B, .func (.func gP) #[] cb] W fun e w' => e = .returned (.tuple #[]) ∧ SW encP w0 blk 0 (insertionSort (ltOf (cfP r)) d a b) w') := fun a b d W h1 h2 h3 h4 A B hA hB => by
    subst hA hB
    have h := ins_any (r := r) a b cap hcmp R (by omega) h2 h3 (by omega) (by omega)
    rw [h1] at h
    exact h
  have CM : ∀ (a m b : Nat) (d : Array (Fin (n + 1))) (W : World), d.size = z → SW encP w0 blk 0 d W → a < m → m < b → b ≤ z → Pre r d a m b → ∀ (A M B : Int), (a : Int) = A → (m : Int) = M → (b : Int) = B → Hid (Calls Try.prog 66 #[.slice (some ⟨blk, 0, none⟩) z cap, .int .i64 A, .int .i64 M, .int .i64 B, .func (.func gP) #[] cb] W fun e w' => e = .returned (.tuple #[]) ∧ ∃ d', Merged r d d' a b ∧ SW encP w0 blk 0 d' w') := fun a m b d W h1 h2 h3 h4 h5 P A M B hA hM hB => by
    subst hA hM hB
    have h := sym_any (cap := cap) hcmp R (by omega) (b - a) a m b d W (Nat.le_refl _) h3 h4 (by omega) (by omega) P h2
    rw [hz] at h
    exact h
  subst hc
  have HS := Lib.hid S
  have HU := Lib.hid hU
  have HZ := Lib.hid hz
  have HP0 := Lib.hid (permIn_refl d0 0 40)
  clear hcmp R S hU hz
  go_enter Try.func61, Try.ntmps61
  go_wp2
  refine wp_loop_rounds 3 ?_
  rw [rounds_succ]
  have hzz := HZ.out
  have hdz1 : d0.size = 40 := by omega
  have hu1 : ∀ p, 0 ≤ p → p < d0.size → d0[p]!.val = p := fun p _ hp => HU.out p (by omega)
  have hI1 := Seg.ins (r := r) (b := 20) hu1 (by omega) (by omega)
  have C1 := CI 0 20 d0 _ hdz1 HS.out (by omega) (by omega)
  generalize hge1 : insertionSort (ltOf (cfP r)) d0 0 20 = e1 at hI1 C1
  clear hge1
  have HP1 := Lib.hid (permIn_trans _ _ _ 0 40 HP0.out (permIn_mono _ _ 0 20 0 40 (Nat.zero_le _) (by omega) (by omega) hI1.1))
  have HUU1 := Lib.hid (show ∀ p, 20 ≤ p → p < e1.size → e1[p]!.val = p from fun p h1 h2 => by rw [hI1.1.2.1 p (Or.inr h1)]; exact hu1 p (by omega) (by rw [hI1.1.1] at h2; exact h2))
  have Gs1 := Lib.hid hI1.2
  clear hzz hdz1 hu1 hI1
  go_wp2_with fail
  (with_reducible refine (C1 _ _ (by first | rfl | omega) (by first | rfl | omega)).out.mono ?_)
  rintro e x1 ⟨rfl, hS1⟩
  have HS1 := Lib.hid hS1
  clear hS1
  go_wp2
  rw [rounds_succ]
  have hzz := HZ.out
  have hdz2 : e1.size = 40 := by rw [HP1.out.1]; exact hzz
  have hu2 : ∀ p, 20 ≤ p → p < e1.size → e1[p]!.val = p := HUU1.out
  have hI2 := Seg.ins (r := r) (b := 40) hu2 (by omega) (by omega)
  have C2 := CI 20 40 e1 _ hdz2 HS1.out (by omega) (by omega)
  generalize hge2 : insertionSort (ltOf (cfP r)) e1 20 40 = e2 at hI2 C2
  clear hge2
  have HP2 := Lib.hid (permIn_trans _ _ _ 0 40 HP1.out (permIn_mono _ _ 20 40 0 40 (Nat.zero_le _) (by omega) (by omega) hI2.1))
  have HUU2 := Lib.hid (show ∀ p, 40 ≤ p → p < e2.size → e2[p]!.val = p from fun p h1 h2 => by rw [hI2.1.2.1 p (Or.inr h1)]; exact hu2 p (by omega) (by rw [hI2.1.1] at h2; exact h2))
  have Gs1_2 := Lib.hid (Gs1.out.keep hI2.1 (Or.inl (by omega)))
  have Gs2 := Lib.hid hI2.2
  clear hzz hdz2 hu2 hI2
  go_wp2_with fail
  (with_reducible refine (C2 _ _ (by first | rfl | omega) (by first | rfl | omega)).out.mono ?_)
  rintro e x2 ⟨rfl, hS2⟩
  have HS2 := Lib.hid hS2
  clear hS2
  go_wp2
  rw [rounds_succ]
  have hzz := HZ.out
  have hdz3 : e2.size = 40 := by rw [HP2.out.1]; exact hzz
  have hu3 : ∀ p, 40 ≤ p → p < e2.size → e2[p]!.val = p := HUU2.out
  have hI3 := Seg.ins (r := r) (b := 40) hu3 (by omega) (by omega)
  have C3 := CI 40 40 e2 _ hdz3 HS2.out (by omega) (by omega)
  generalize hge3 : insertionSort (ltOf (cfP r)) e2 40 40 = e3 at hI3 C3
  clear hge3
  have HP3 := Lib.hid (permIn_trans _ _ _ 0 40 HP2.out (permIn_mono _ _ 40 40 0 40 (Nat.zero_le _) (by omega) (by omega) hI3.1))
  have Gs1_3 := Lib.hid (Gs1_2.out.keep hI3.1 (Or.inl (by omega)))
  have Gs2_3 := Lib.hid (Gs2.out.keep hI3.1 (Or.inl (by omega)))
  have Gs3 := Lib.hid hI3.2
  clear hzz hdz3 hu3 hI3
  go_wp2_with fail
  (with_reducible refine (C3 _ _ (by first | rfl | omega) (by first | rfl | omega)).out.mono ?_)
  rintro e x3 ⟨rfl, hS3⟩
  have HS3 := Lib.hid hS3
  clear hS3
  go_wp2
  refine wp_loop_rounds 2 ?_
  rw [rounds_succ]
  go_wp2
  refine wp_loop_rounds 2 ?_
  rw [rounds_succ]
  have hzz := HZ.out
  have hdz4 : e3.size = 40 := by rw [HP3.out.1]; exact hzz
  have C4 := CM 0 20 40 e3 _ hdz4 HS3.out (by omega) (by omega) (by omega) (Seg.pre Gs1_3.out Gs2_3.out)
  have HDZ4 := Lib.hid hdz4
  clear hzz hdz4
  go_wp2_with fail
  (with_reducible refine (C4 _ _ _ (by first | rfl | omega) (by first | rfl | omega) (by first | rfl | omega)).out.mono ?_)
  rintro e x4 ⟨rfl, e4, hM4, hS4⟩
  have HS4 := Lib.hid hS4
  have hdz := HDZ4.out
  have HP4 := Lib.hid (permIn_trans _ _ _ 0 40 HP3.out (permIn_mono _ _ 0 40 0 40 (Nat.zero_le _) (by omega) (by omega) hM4.1))
  have K4s3 := Lib.hid (Gs3.out.keep hM4.1 (Or.inr (by omega)))
  have Gm4 := Lib.hid (Seg.merge Gs1_3.out Gs2_3.out (by omega) (by omega) (by omega) hM4)
  clear hS4 hM4 hdz
  go_wp2
  rw [rounds_succ]
  go_wp2
  rw [rounds_succ]
  go_wp2
  go_end0
  exact ⟨rfl, e4, HP4.out, Gm4.out.1, HS4.out⟩

set_option maxHeartbeats 16000000 in
set_option maxRecDepth 1000000 in
theorem st60 {n : Nat} {r : Fin (n + 1) → Int} {cb : Array Value} {blk : Nat} (cap z : Nat) {d0 : Array (Fin (n + 1))} {w0 w : World} (hcmp : CmpLays1 Try.prog gP cb encP (cfP r) blk 0 d0.size w0) (R : Row1 encP w0 blk 0 d0)
    (S : SW encP w0 blk 0 d0 w) (hz : d0.size = z) (hU : ∀ p, p < z → d0[p]!.val = p) (hc : 40 < z ∧ z < 60) :
    Calls Try.prog 61 #[.slice (some ⟨blk, 0, none⟩) z cap, .int .i64 z, .func (.func gP) #[] cb] w fun e w' => e = .returned (.tuple #[]) ∧ ∃ d', PermIn 0 z d0 d' ∧ SortedIn (ahd r) 0 z d' ∧ SW encP w0 blk 0 d' w' := by
  have CI : ∀ (a b : Nat) (d : Array (Fin (n + 1))) (W : World), d.size = z → SW encP w0 blk 0 d W → a ≤ b → b ≤ z → ∀ (A B : Int), (a : Int) = A → (b : Int) = B → Hid (Calls Try.prog 65 #[.slice (some ⟨blk, 0, none⟩) z cap, .int .i64 A, .int .i64 B, .func (.func gP) #[] cb] W fun e w' => e = .returned (.tuple #[]) ∧ SW encP w0 blk 0 (insertionSort (ltOf (cfP r)) d a b) w') := fun a b d W h1 h2 h3 h4 A B hA hB => by
    subst hA hB
    have h := ins_any (r := r) a b cap hcmp R (by omega) h2 h3 (by omega) (by omega)
    rw [h1] at h
    exact h
  have CM : ∀ (a m b : Nat) (d : Array (Fin (n + 1))) (W : World), d.size = z → SW encP w0 blk 0 d W → a < m → m < b → b ≤ z → Pre r d a m b → ∀ (A M B : Int), (a : Int) = A → (m : Int) = M → (b : Int) = B → Hid (Calls Try.prog 66 #[.slice (some ⟨blk, 0, none⟩) z cap, .int .i64 A, .int .i64 M, .int .i64 B, .func (.func gP) #[] cb] W fun e w' => e = .returned (.tuple #[]) ∧ ∃ d', Merged r d d' a b ∧ SW encP w0 blk 0 d' w') := fun a m b d W h1 h2 h3 h4 h5 P A M B hA hM hB => by
    subst hA hM hB
    have h := sym_any (cap := cap) hcmp R (by omega) (b - a) a m b d W (Nat.le_refl _) h3 h4 (by omega) (by omega) P h2
    rw [hz] at h
    exact h
  obtain ⟨hc1, hc2⟩ := hc
  have HS := Lib.hid S
  have HU := Lib.hid hU
  have HZ := Lib.hid hz
  have HP0 := Lib.hid (permIn_refl d0 0 z)
  clear hcmp R S hU hz
  go_enter Try.func61, Try.ntmps61
  go_wp2
  refine wp_loop_rounds 3 ?_
  rw [rounds_succ]
  have hzz := HZ.out
  have hdz1 : d0.size = z := by omega
  have hu1 : ∀ p, 0 ≤ p → p < d0.size → d0[p]!.val = p := fun p _ hp => HU.out p (by omega)
  have hI1 := Seg.ins (r := r) (b := 20) hu1 (by omega) (by omega)
  have C1 := CI 0 20 d0 _ hdz1 HS.out (by omega) (by omega)
  generalize hge1 : insertionSort (ltOf (cfP r)) d0 0 20 = e1 at hI1 C1
  clear hge1
  have HP1 := Lib.hid (permIn_trans _ _ _ 0 z HP0.out (permIn_mono _ _ 0 20 0 z (Nat.zero_le _) (by omega) (by omega) hI1.1))
  have HUU1 := Lib.hid (show ∀ p, 20 ≤ p → p < e1.size → e1[p]!.val = p from fun p h1 h2 => by rw [hI1.1.2.1 p (Or.inr h1)]; exact hu1 p (by omega) (by rw [hI1.1.1] at h2; exact h2))
  have Gs1 := Lib.hid hI1.2
  clear hzz hdz1 hu1 hI1
  go_wp2_with fail
  (with_reducible refine (C1 _ _ (by first | rfl | omega) (by first | rfl | omega)).out.mono ?_)
  rintro e x1 ⟨rfl, hS1⟩
  have HS1 := Lib.hid hS1
  clear hS1
  go_wp2
  rw [rounds_succ]
  have hzz := HZ.out
  have hdz2 : e1.size = z := by rw [HP1.out.1]; exact hzz
  have hu2 : ∀ p, 20 ≤ p → p < e1.size → e1[p]!.val = p := HUU1.out
  have hI2 := Seg.ins (r := r) (b := 40) hu2 (by omega) (by omega)
  have C2 := CI 20 40 e1 _ hdz2 HS1.out (by omega) (by omega)
  generalize hge2 : insertionSort (ltOf (cfP r)) e1 20 40 = e2 at hI2 C2
  clear hge2
  have HP2 := Lib.hid (permIn_trans _ _ _ 0 z HP1.out (permIn_mono _ _ 20 40 0 z (Nat.zero_le _) (by omega) (by omega) hI2.1))
  have HUU2 := Lib.hid (show ∀ p, 40 ≤ p → p < e2.size → e2[p]!.val = p from fun p h1 h2 => by rw [hI2.1.2.1 p (Or.inr h1)]; exact hu2 p (by omega) (by rw [hI2.1.1] at h2; exact h2))
  have Gs1_2 := Lib.hid (Gs1.out.keep hI2.1 (Or.inl (by omega)))
  have Gs2 := Lib.hid hI2.2
  clear hzz hdz2 hu2 hI2
  go_wp2_with fail
  (with_reducible refine (C2 _ _ (by first | rfl | omega) (by first | rfl | omega)).out.mono ?_)
  rintro e x2 ⟨rfl, hS2⟩
  have HS2 := Lib.hid hS2
  clear hS2
  go_wp2
  rw [rounds_succ]
  have hzz := HZ.out
  have hdz3 : e2.size = z := by rw [HP2.out.1]; exact hzz
  have hu3 : ∀ p, 40 ≤ p → p < e2.size → e2[p]!.val = p := HUU2.out
  have hI3 := Seg.ins (r := r) (b := z) hu3 (by omega) (by omega)
  have C3 := CI 40 z e2 _ hdz3 HS2.out (by omega) (by omega)
  generalize hge3 : insertionSort (ltOf (cfP r)) e2 40 z = e3 at hI3 C3
  clear hge3
  have HP3 := Lib.hid (permIn_trans _ _ _ 0 z HP2.out (permIn_mono _ _ 40 z 0 z (Nat.zero_le _) (by omega) (by omega) hI3.1))
  have Gs1_3 := Lib.hid (Gs1_2.out.keep hI3.1 (Or.inl (by omega)))
  have Gs2_3 := Lib.hid (Gs2.out.keep hI3.1 (Or.inl (by omega)))
  have Gs3 := Lib.hid hI3.2
  clear hzz hdz3 hu3 hI3
  go_wp2_with fail
  (with_reducible refine (C3 _ _ (by first | rfl | omega) (by first | rfl | omega)).out.mono ?_)
  rintro e x3 ⟨rfl, hS3⟩
  have HS3 := Lib.hid hS3
  clear hS3
  go_wp2
  refine wp_loop_rounds 3 ?_
  rw [rounds_succ]
  go_wp2
  refine wp_loop_rounds 2 ?_
  rw [rounds_succ]
  have hzz := HZ.out
  have hdz4 : e3.size = z := by rw [HP3.out.1]; exact hzz
  have C4 := CM 0 20 40 e3 _ hdz4 HS3.out (by omega) (by omega) (by omega) (Seg.pre Gs1_3.out Gs2_3.out)
  have HDZ4 := Lib.hid hdz4
  clear hzz hdz4
  go_wp2_with fail
  (with_reducible refine (C4 _ _ _ (by first | rfl | omega) (by first | rfl | omega) (by first | rfl | omega)).out.mono ?_)
  rintro e x4 ⟨rfl, e4, hM4, hS4⟩
  have HS4 := Lib.hid hS4
  have hdz := HDZ4.out
  have HP4 := Lib.hid (permIn_trans _ _ _ 0 z HP3.out (permIn_mono _ _ 0 40 0 z (Nat.zero_le _) (by omega) (by omega) hM4.1))
  have K4s3 := Lib.hid (Gs3.out.keep hM4.1 (Or.inr (by omega)))
  have Gm4 := Lib.hid (Seg.merge Gs1_3.out Gs2_3.out (by omega) (by omega) (by omega) hM4)
  clear hS4 hM4 hdz
  go_wp2
  rw [rounds_succ]
  go_wp2
  rw [rounds_succ]
  go_wp2
  refine wp_loop_rounds 1 ?_
  rw [rounds_succ]
  have hzz := HZ.out
  have hdz5 : e4.size = z := by rw [HP4.out.1]; exact hzz
  have C5 := CM 0 40 z e4 _ hdz5 HS4.out (by omega) (by omega) (by omega) (Seg.pre Gm4.out K4s3.out)
  have HDZ5 := Lib.hid hdz5
  clear hzz hdz5
  go_wp2_with fail
  (with_reducible refine (C5 _ _ _ (by first | rfl | omega) (by first | rfl | omega) (by first | rfl | omega)).out.mono ?_)
  rintro e x5 ⟨rfl, e5, hM5, hS5⟩
  have HS5 := Lib.hid hS5
  have hdz := HDZ5.out
  have HP5 := Lib.hid (permIn_trans _ _ _ 0 z HP4.out (permIn_mono _ _ 0 z 0 z (Nat.zero_le _) (by omega) (by omega) hM5.1))
  have Gm5 := Lib.hid (Seg.merge Gm4.out K4s3.out (by omega) (by omega) (by omega) hM5)
  clear hS5 hM5 hdz
  go_wp2
  rw [rounds_succ]
  go_wp2
  go_end0
  exact ⟨rfl, e5, HP5.out, Gm5.out.1, HS5.out⟩

set_option maxHeartbeats 16000000 in
set_option maxRecDepth 1000000 in
theorem st60e {n : Nat} {r : Fin (n + 1) → Int} {cb : Array Value} {blk : Nat} (cap z : Nat) {d0 : Array (Fin (n + 1))} {w0 w : World} (hcmp : CmpLays1 Try.prog gP cb encP (cfP r) blk 0 d0.size w0) (R : Row1 encP w0 blk 0 d0)
    (S : SW encP w0 blk 0 d0 w) (hz : d0.size = z) (hU : ∀ p, p < z → d0[p]!.val = p) (hc : z = 60) :
    Calls Try.prog 61 #[.slice (some ⟨blk, 0, none⟩) z cap, .int .i64 z, .func (.func gP) #[] cb] w fun e w' => e = .returned (.tuple #[]) ∧ ∃ d', PermIn 0 z d0 d' ∧ SortedIn (ahd r) 0 z d' ∧ SW encP w0 blk 0 d' w' := by
  have CI : ∀ (a b : Nat) (d : Array (Fin (n + 1))) (W : World), d.size = z → SW encP w0 blk 0 d W → a ≤ b → b ≤ z → ∀ (A B : Int), (a : Int) = A → (b : Int) = B → Hid (Calls Try.prog 65 #[.slice (some ⟨blk, 0, none⟩) z cap, .int .i64 A, .int .i64 B, .func (.func gP) #[] cb] W fun e w' => e = .returned (.tuple #[]) ∧ SW encP w0 blk 0 (insertionSort (ltOf (cfP r)) d a b) w') := fun a b d W h1 h2 h3 h4 A B hA hB => by
    subst hA hB
    have h := ins_any (r := r) a b cap hcmp R (by omega) h2 h3 (by omega) (by omega)
    rw [h1] at h
    exact h
  have CM : ∀ (a m b : Nat) (d : Array (Fin (n + 1))) (W : World), d.size = z → SW encP w0 blk 0 d W → a < m → m < b → b ≤ z → Pre r d a m b → ∀ (A M B : Int), (a : Int) = A → (m : Int) = M → (b : Int) = B → Hid (Calls Try.prog 66 #[.slice (some ⟨blk, 0, none⟩) z cap, .int .i64 A, .int .i64 M, .int .i64 B, .func (.func gP) #[] cb] W fun e w' => e = .returned (.tuple #[]) ∧ ∃ d', Merged r d d' a b ∧ SW encP w0 blk 0 d' w') := fun a m b d W h1 h2 h3 h4 h5 P A M B hA hM hB => by
    subst hA hM hB
    have h := sym_any (cap := cap) hcmp R (by omega) (b - a) a m b d W (Nat.le_refl _) h3 h4 (by omega) (by omega) P h2
    rw [hz] at h
    exact h
  subst hc
  have HS := Lib.hid S
  have HU := Lib.hid hU
  have HZ := Lib.hid hz
  have HP0 := Lib.hid (permIn_refl d0 0 60)
  clear hcmp R S hU hz
  go_enter Try.func61, Try.ntmps61
  go_wp2
  refine wp_loop_rounds 4 ?_
  rw [rounds_succ]
  have hzz := HZ.out
  have hdz1 : d0.size = 60 := by omega
  have hu1 : ∀ p, 0 ≤ p → p < d0.size → d0[p]!.val = p := fun p _ hp => HU.out p (by omega)
  have hI1 := Seg.ins (r := r) (b := 20) hu1 (by omega) (by omega)
  have C1 := CI 0 20 d0 _ hdz1 HS.out (by omega) (by omega)
  generalize hge1 : insertionSort (ltOf (cfP r)) d0 0 20 = e1 at hI1 C1
  clear hge1
  have HP1 := Lib.hid (permIn_trans _ _ _ 0 60 HP0.out (permIn_mono _ _ 0 20 0 60 (Nat.zero_le _) (by omega) (by omega) hI1.1))
  have HUU1 := Lib.hid (show ∀ p, 20 ≤ p → p < e1.size → e1[p]!.val = p from fun p h1 h2 => by rw [hI1.1.2.1 p (Or.inr h1)]; exact hu1 p (by omega) (by rw [hI1.1.1] at h2; exact h2))
  have Gs1 := Lib.hid hI1.2
  clear hzz hdz1 hu1 hI1
  go_wp2_with fail
  (with_reducible refine (C1 _ _ (by first | rfl | omega) (by first | rfl | omega)).out.mono ?_)
  rintro e x1 ⟨rfl, hS1⟩
  have HS1 := Lib.hid hS1
  clear hS1
  go_wp2
  rw [rounds_succ]
  have hzz := HZ.out
  have hdz2 : e1.size = 60 := by rw [HP1.out.1]; exact hzz
  have hu2 : ∀ p, 20 ≤ p → p < e1.size → e1[p]!.val = p := HUU1.out
  have hI2 := Seg.ins (r := r) (b := 40) hu2 (by omega) (by omega)
  have C2 := CI 20 40 e1 _ hdz2 HS1.out (by omega) (by omega)
  generalize hge2 : insertionSort (ltOf (cfP r)) e1 20 40 = e2 at hI2 C2
  clear hge2
  have HP2 := Lib.hid (permIn_trans _ _ _ 0 60 HP1.out (permIn_mono _ _ 20 40 0 60 (Nat.zero_le _) (by omega) (by omega) hI2.1))
  have HUU2 := Lib.hid (show ∀ p, 40 ≤ p → p < e2.size → e2[p]!.val = p from fun p h1 h2 => by rw [hI2.1.2.1 p (Or.inr h1)]; exact hu2 p (by omega) (by rw [hI2.1.1] at h2; exact h2))
  have Gs1_2 := Lib.hid (Gs1.out.keep hI2.1 (Or.inl (by omega)))
  have Gs2 := Lib.hid hI2.2
  clear hzz hdz2 hu2 hI2
  go_wp2_with fail
  (with_reducible refine (C2 _ _ (by first | rfl | omega) (by first | rfl | omega)).out.mono ?_)
  rintro e x2 ⟨rfl, hS2⟩
  have HS2 := Lib.hid hS2
  clear hS2
  go_wp2
  rw [rounds_succ]
  have hzz := HZ.out
  have hdz3 : e2.size = 60 := by rw [HP2.out.1]; exact hzz
  have hu3 : ∀ p, 40 ≤ p → p < e2.size → e2[p]!.val = p := HUU2.out
  have hI3 := Seg.ins (r := r) (b := 60) hu3 (by omega) (by omega)
  have C3 := CI 40 60 e2 _ hdz3 HS2.out (by omega) (by omega)
  generalize hge3 : insertionSort (ltOf (cfP r)) e2 40 60 = e3 at hI3 C3
  clear hge3
  have HP3 := Lib.hid (permIn_trans _ _ _ 0 60 HP2.out (permIn_mono _ _ 40 60 0 60 (Nat.zero_le _) (by omega) (by omega) hI3.1))
  have HUU3 := Lib.hid (show ∀ p, 60 ≤ p → p < e3.size → e3[p]!.val = p from fun p h1 h2 => by rw [hI3.1.2.1 p (Or.inr h1)]; exact hu3 p (by omega) (by rw [hI3.1.1] at h2; exact h2))
  have Gs1_3 := Lib.hid (Gs1_2.out.keep hI3.1 (Or.inl (by omega)))
  have Gs2_3 := Lib.hid (Gs2.out.keep hI3.1 (Or.inl (by omega)))
  have Gs3 := Lib.hid hI3.2
  clear hzz hdz3 hu3 hI3
  go_wp2_with fail
  (with_reducible refine (C3 _ _ (by first | rfl | omega) (by first | rfl | omega)).out.mono ?_)
  rintro e x3 ⟨rfl, hS3⟩
  have HS3 := Lib.hid hS3
  clear hS3
  go_wp2
  rw [rounds_succ]
  have hzz := HZ.out
  have hdz4 : e3.size = 60 := by rw [HP3.out.1]; exact hzz
  have hu4 : ∀ p, 60 ≤ p → p < e3.size → e3[p]!.val = p := HUU3.out
  have hI4 := Seg.ins (r := r) (b := 60) hu4 (by omega) (by omega)
  have C4 := CI 60 60 e3 _ hdz4 HS3.out (by omega) (by omega)
  generalize hge4 : insertionSort (ltOf (cfP r)) e3 60 60 = e4 at hI4 C4
  clear hge4
  have HP4 := Lib.hid (permIn_trans _ _ _ 0 60 HP3.out (permIn_mono _ _ 60 60 0 60 (Nat.zero_le _) (by omega) (by omega) hI4.1))
  have Gs1_4 := Lib.hid (Gs1_3.out.keep hI4.1 (Or.inl (by omega)))
  have Gs2_4 := Lib.hid (Gs2_3.out.keep hI4.1 (Or.inl (by omega)))
  have Gs3_4 := Lib.hid (Gs3.out.keep hI4.1 (Or.inl (by omega)))
  have Gs4 := Lib.hid hI4.2
  clear hzz hdz4 hu4 hI4
  go_wp2_with fail
  (with_reducible refine (C4 _ _ (by first | rfl | omega) (by first | rfl | omega)).out.mono ?_)
  rintro e x4 ⟨rfl, hS4⟩
  have HS4 := Lib.hid hS4
  clear hS4
  go_wp2
  refine wp_loop_rounds 3 ?_
  rw [rounds_succ]
  go_wp2
  refine wp_loop_rounds 2 ?_
  rw [rounds_succ]
  have hzz := HZ.out
  have hdz5 : e4.size = 60 := by rw [HP4.out.1]; exact hzz
  have C5 := CM 0 20 40 e4 _ hdz5 HS4.out (by omega) (by omega) (by omega) (Seg.pre Gs1_4.out Gs2_4.out)
  have HDZ5 := Lib.hid hdz5
  clear hzz hdz5
  go_wp2_with fail
  (with_reducible refine (C5 _ _ _ (by first | rfl | omega) (by first | rfl | omega) (by first | rfl | omega)).out.mono ?_)
  rintro e x5 ⟨rfl, e5, hM5, hS5⟩
  have HS5 := Lib.hid hS5
  have hdz := HDZ5.out
  have HP5 := Lib.hid (permIn_trans _ _ _ 0 60 HP4.out (permIn_mono _ _ 0 40 0 60 (Nat.zero_le _) (by omega) (by omega) hM5.1))
  have K5s3 := Lib.hid (Gs3_4.out.keep hM5.1 (Or.inr (by omega)))
  have K5s4 := Lib.hid (Gs4.out.keep hM5.1 (Or.inr (by omega)))
  have Gm5 := Lib.hid (Seg.merge Gs1_4.out Gs2_4.out (by omega) (by omega) (by omega) hM5)
  clear hS5 hM5 hdz
  go_wp2
  rw [rounds_succ]
  go_wp2
  rw [rounds_succ]
  go_wp2
  refine wp_loop_rounds 1 ?_
  rw [rounds_succ]
  have hzz := HZ.out
  have hdz6 : e5.size = 60 := by rw [HP5.out.1]; exact hzz
  have C6 := CM 0 40 60 e5 _ hdz6 HS5.out (by omega) (by omega) (by omega) (Seg.pre Gm5.out K5s3.out)
  have HDZ6 := Lib.hid hdz6
  clear hzz hdz6
  go_wp2_with fail
  (with_reducible refine (C6 _ _ _ (by first | rfl | omega) (by first | rfl | omega) (by first | rfl | omega)).out.mono ?_)
  rintro e x6 ⟨rfl, e6, hM6, hS6⟩
  have HS6 := Lib.hid hS6
  have hdz := HDZ6.out
  have HP6 := Lib.hid (permIn_trans _ _ _ 0 60 HP5.out (permIn_mono _ _ 0 60 0 60 (Nat.zero_le _) (by omega) (by omega) hM6.1))
  have K6s4 := Lib.hid (K5s4.out.keep hM6.1 (Or.inr (by omega)))
  have Gm6 := Lib.hid (Seg.merge Gm5.out K5s3.out (by omega) (by omega) (by omega) hM6)
  clear hS6 hM6 hdz
  go_wp2
  rw [rounds_succ]
  go_wp2
  go_end0
  exact ⟨rfl, e6, HP6.out, Gm6.out.1, HS6.out⟩

set_option maxHeartbeats 16000000 in
set_option maxRecDepth 1000000 in
theorem st64 {n : Nat} {r : Fin (n + 1) → Int} {cb : Array Value} {blk : Nat} (cap z : Nat) {d0 : Array (Fin (n + 1))} {w0 w : World} (hcmp : CmpLays1 Try.prog gP cb encP (cfP r) blk 0 d0.size w0) (R : Row1 encP w0 blk 0 d0)
    (S : SW encP w0 blk 0 d0 w) (hz : d0.size = z) (hU : ∀ p, p < z → d0[p]!.val = p) (hc : 60 < z ∧ z ≤ 64) :
    Calls Try.prog 61 #[.slice (some ⟨blk, 0, none⟩) z cap, .int .i64 z, .func (.func gP) #[] cb] w fun e w' => e = .returned (.tuple #[]) ∧ ∃ d', PermIn 0 z d0 d' ∧ SortedIn (ahd r) 0 z d' ∧ SW encP w0 blk 0 d' w' := by
  have CI : ∀ (a b : Nat) (d : Array (Fin (n + 1))) (W : World), d.size = z → SW encP w0 blk 0 d W → a ≤ b → b ≤ z → ∀ (A B : Int), (a : Int) = A → (b : Int) = B → Hid (Calls Try.prog 65 #[.slice (some ⟨blk, 0, none⟩) z cap, .int .i64 A, .int .i64 B, .func (.func gP) #[] cb] W fun e w' => e = .returned (.tuple #[]) ∧ SW encP w0 blk 0 (insertionSort (ltOf (cfP r)) d a b) w') := fun a b d W h1 h2 h3 h4 A B hA hB => by
    subst hA hB
    have h := ins_any (r := r) a b cap hcmp R (by omega) h2 h3 (by omega) (by omega)
    rw [h1] at h
    exact h
  have CM : ∀ (a m b : Nat) (d : Array (Fin (n + 1))) (W : World), d.size = z → SW encP w0 blk 0 d W → a < m → m < b → b ≤ z → Pre r d a m b → ∀ (A M B : Int), (a : Int) = A → (m : Int) = M → (b : Int) = B → Hid (Calls Try.prog 66 #[.slice (some ⟨blk, 0, none⟩) z cap, .int .i64 A, .int .i64 M, .int .i64 B, .func (.func gP) #[] cb] W fun e w' => e = .returned (.tuple #[]) ∧ ∃ d', Merged r d d' a b ∧ SW encP w0 blk 0 d' w') := fun a m b d W h1 h2 h3 h4 h5 P A M B hA hM hB => by
    subst hA hM hB
    have h := sym_any (cap := cap) hcmp R (by omega) (b - a) a m b d W (Nat.le_refl _) h3 h4 (by omega) (by omega) P h2
    rw [hz] at h
    exact h
  obtain ⟨hc1, hc2⟩ := hc
  have HS := Lib.hid S
  have HU := Lib.hid hU
  have HZ := Lib.hid hz
  have HP0 := Lib.hid (permIn_refl d0 0 z)
  clear hcmp R S hU hz
  go_enter Try.func61, Try.ntmps61
  go_wp2
  refine wp_loop_rounds 4 ?_
  rw [rounds_succ]
  have hzz := HZ.out
  have hdz1 : d0.size = z := by omega
  have hu1 : ∀ p, 0 ≤ p → p < d0.size → d0[p]!.val = p := fun p _ hp => HU.out p (by omega)
  have hI1 := Seg.ins (r := r) (b := 20) hu1 (by omega) (by omega)
  have C1 := CI 0 20 d0 _ hdz1 HS.out (by omega) (by omega)
  generalize hge1 : insertionSort (ltOf (cfP r)) d0 0 20 = e1 at hI1 C1
  clear hge1
  have HP1 := Lib.hid (permIn_trans _ _ _ 0 z HP0.out (permIn_mono _ _ 0 20 0 z (Nat.zero_le _) (by omega) (by omega) hI1.1))
  have HUU1 := Lib.hid (show ∀ p, 20 ≤ p → p < e1.size → e1[p]!.val = p from fun p h1 h2 => by rw [hI1.1.2.1 p (Or.inr h1)]; exact hu1 p (by omega) (by rw [hI1.1.1] at h2; exact h2))
  have Gs1 := Lib.hid hI1.2
  clear hzz hdz1 hu1 hI1
  go_wp2_with fail
  (with_reducible refine (C1 _ _ (by first | rfl | omega) (by first | rfl | omega)).out.mono ?_)
  rintro e x1 ⟨rfl, hS1⟩
  have HS1 := Lib.hid hS1
  clear hS1
  go_wp2
  rw [rounds_succ]
  have hzz := HZ.out
  have hdz2 : e1.size = z := by rw [HP1.out.1]; exact hzz
  have hu2 : ∀ p, 20 ≤ p → p < e1.size → e1[p]!.val = p := HUU1.out
  have hI2 := Seg.ins (r := r) (b := 40) hu2 (by omega) (by omega)
  have C2 := CI 20 40 e1 _ hdz2 HS1.out (by omega) (by omega)
  generalize hge2 : insertionSort (ltOf (cfP r)) e1 20 40 = e2 at hI2 C2
  clear hge2
  have HP2 := Lib.hid (permIn_trans _ _ _ 0 z HP1.out (permIn_mono _ _ 20 40 0 z (Nat.zero_le _) (by omega) (by omega) hI2.1))
  have HUU2 := Lib.hid (show ∀ p, 40 ≤ p → p < e2.size → e2[p]!.val = p from fun p h1 h2 => by rw [hI2.1.2.1 p (Or.inr h1)]; exact hu2 p (by omega) (by rw [hI2.1.1] at h2; exact h2))
  have Gs1_2 := Lib.hid (Gs1.out.keep hI2.1 (Or.inl (by omega)))
  have Gs2 := Lib.hid hI2.2
  clear hzz hdz2 hu2 hI2
  go_wp2_with fail
  (with_reducible refine (C2 _ _ (by first | rfl | omega) (by first | rfl | omega)).out.mono ?_)
  rintro e x2 ⟨rfl, hS2⟩
  have HS2 := Lib.hid hS2
  clear hS2
  go_wp2
  rw [rounds_succ]
  have hzz := HZ.out
  have hdz3 : e2.size = z := by rw [HP2.out.1]; exact hzz
  have hu3 : ∀ p, 40 ≤ p → p < e2.size → e2[p]!.val = p := HUU2.out
  have hI3 := Seg.ins (r := r) (b := 60) hu3 (by omega) (by omega)
  have C3 := CI 40 60 e2 _ hdz3 HS2.out (by omega) (by omega)
  generalize hge3 : insertionSort (ltOf (cfP r)) e2 40 60 = e3 at hI3 C3
  clear hge3
  have HP3 := Lib.hid (permIn_trans _ _ _ 0 z HP2.out (permIn_mono _ _ 40 60 0 z (Nat.zero_le _) (by omega) (by omega) hI3.1))
  have HUU3 := Lib.hid (show ∀ p, 60 ≤ p → p < e3.size → e3[p]!.val = p from fun p h1 h2 => by rw [hI3.1.2.1 p (Or.inr h1)]; exact hu3 p (by omega) (by rw [hI3.1.1] at h2; exact h2))
  have Gs1_3 := Lib.hid (Gs1_2.out.keep hI3.1 (Or.inl (by omega)))
  have Gs2_3 := Lib.hid (Gs2.out.keep hI3.1 (Or.inl (by omega)))
  have Gs3 := Lib.hid hI3.2
  clear hzz hdz3 hu3 hI3
  go_wp2_with fail
  (with_reducible refine (C3 _ _ (by first | rfl | omega) (by first | rfl | omega)).out.mono ?_)
  rintro e x3 ⟨rfl, hS3⟩
  have HS3 := Lib.hid hS3
  clear hS3
  go_wp2
  rw [rounds_succ]
  have hzz := HZ.out
  have hdz4 : e3.size = z := by rw [HP3.out.1]; exact hzz
  have hu4 : ∀ p, 60 ≤ p → p < e3.size → e3[p]!.val = p := HUU3.out
  have hI4 := Seg.ins (r := r) (b := z) hu4 (by omega) (by omega)
  have C4 := CI 60 z e3 _ hdz4 HS3.out (by omega) (by omega)
  generalize hge4 : insertionSort (ltOf (cfP r)) e3 60 z = e4 at hI4 C4
  clear hge4
  have HP4 := Lib.hid (permIn_trans _ _ _ 0 z HP3.out (permIn_mono _ _ 60 z 0 z (Nat.zero_le _) (by omega) (by omega) hI4.1))
  have Gs1_4 := Lib.hid (Gs1_3.out.keep hI4.1 (Or.inl (by omega)))
  have Gs2_4 := Lib.hid (Gs2_3.out.keep hI4.1 (Or.inl (by omega)))
  have Gs3_4 := Lib.hid (Gs3.out.keep hI4.1 (Or.inl (by omega)))
  have Gs4 := Lib.hid hI4.2
  clear hzz hdz4 hu4 hI4
  go_wp2_with fail
  (with_reducible refine (C4 _ _ (by first | rfl | omega) (by first | rfl | omega)).out.mono ?_)
  rintro e x4 ⟨rfl, hS4⟩
  have HS4 := Lib.hid hS4
  clear hS4
  go_wp2
  refine wp_loop_rounds 3 ?_
  rw [rounds_succ]
  go_wp2
  refine wp_loop_rounds 2 ?_
  rw [rounds_succ]
  have hzz := HZ.out
  have hdz5 : e4.size = z := by rw [HP4.out.1]; exact hzz
  have C5 := CM 0 20 40 e4 _ hdz5 HS4.out (by omega) (by omega) (by omega) (Seg.pre Gs1_4.out Gs2_4.out)
  have HDZ5 := Lib.hid hdz5
  clear hzz hdz5
  go_wp2_with fail
  (with_reducible refine (C5 _ _ _ (by first | rfl | omega) (by first | rfl | omega) (by first | rfl | omega)).out.mono ?_)
  rintro e x5 ⟨rfl, e5, hM5, hS5⟩
  have HS5 := Lib.hid hS5
  have hdz := HDZ5.out
  have HP5 := Lib.hid (permIn_trans _ _ _ 0 z HP4.out (permIn_mono _ _ 0 40 0 z (Nat.zero_le _) (by omega) (by omega) hM5.1))
  have K5s3 := Lib.hid (Gs3_4.out.keep hM5.1 (Or.inr (by omega)))
  have K5s4 := Lib.hid (Gs4.out.keep hM5.1 (Or.inr (by omega)))
  have Gm5 := Lib.hid (Seg.merge Gs1_4.out Gs2_4.out (by omega) (by omega) (by omega) hM5)
  clear hS5 hM5 hdz
  go_wp2
  rw [rounds_succ]
  have hzz := HZ.out
  have hdz6 : e5.size = z := by rw [HP5.out.1]; exact hzz
  have C6 := CM 40 60 z e5 _ hdz6 HS5.out (by omega) (by omega) (by omega) (Seg.pre K5s3.out K5s4.out)
  have HDZ6 := Lib.hid hdz6
  clear hzz hdz6
  go_wp2_with fail
  (with_reducible refine (C6 _ _ _ (by first | rfl | omega) (by first | rfl | omega) (by first | rfl | omega)).out.mono ?_)
  rintro e x6 ⟨rfl, e6, hM6, hS6⟩
  have HS6 := Lib.hid hS6
  have hdz := HDZ6.out
  have HP6 := Lib.hid (permIn_trans _ _ _ 0 z HP5.out (permIn_mono _ _ 40 z 0 z (Nat.zero_le _) (by omega) (by omega) hM6.1))
  have K6m5 := Lib.hid (Gm5.out.keep hM6.1 (Or.inl (by omega)))
  have Gm6 := Lib.hid (Seg.merge K5s3.out K5s4.out (by omega) (by omega) (by omega) hM6)
  clear hS6 hM6 hdz
  go_wp2
  rw [rounds_succ]
  go_wp2
  refine wp_loop_rounds 1 ?_
  rw [rounds_succ]
  have hzz := HZ.out
  have hdz7 : e6.size = z := by rw [HP6.out.1]; exact hzz
  have C7 := CM 0 40 z e6 _ hdz7 HS6.out (by omega) (by omega) (by omega) (Seg.pre K6m5.out Gm6.out)
  have HDZ7 := Lib.hid hdz7
  clear hzz hdz7
  go_wp2_with fail
  (with_reducible refine (C7 _ _ _ (by first | rfl | omega) (by first | rfl | omega) (by first | rfl | omega)).out.mono ?_)
  rintro e x7 ⟨rfl, e7, hM7, hS7⟩
  have HS7 := Lib.hid hS7
  have hdz := HDZ7.out
  have HP7 := Lib.hid (permIn_trans _ _ _ 0 z HP6.out (permIn_mono _ _ 0 z 0 z (Nat.zero_le _) (by omega) (by omega) hM7.1))
  have Gm7 := Lib.hid (Seg.merge K6m5.out Gm6.out (by omega) (by omega) (by omega) hM7)
  clear hS7 hM7 hdz
  go_wp2
  rw [rounds_succ]
  go_wp2
  go_end0
  exact ⟨rfl, e7, HP7.out, Gm7.out.1, HS7.out⟩

/-- whatever the length, up to 64 -/
theorem stable_any {n : Nat} {r : Fin (n + 1) → Int} {cb : Array Value} {blk : Nat} (cap z : Nat) {d0 : Array (Fin (n + 1))} {w0 w : World} (hcmp : CmpLays1 Try.prog gP cb encP (cfP r) blk 0 d0.size w0) (R : Row1 encP w0 blk 0 d0)
    (S : SW encP w0 blk 0 d0 w) (hz : d0.size = z) (hU : ∀ p, p < z → d0[p]!.val = p) (hc : z ≤ 64) :
    Calls Try.prog 61 #[.slice (some ⟨blk, 0, none⟩) z cap, .int .i64 z, .func (.func gP) #[] cb] w fun e w' => e = .returned (.tuple #[]) ∧ ∃ d', PermIn 0 z d0 d' ∧ SortedIn (ahd r) 0 z d' ∧ SW encP w0 blk 0 d' w' := by
  by_cases h1 : z < 20
  · have h := stable_small (r := r) cap hcmp R rfl S (by omega)
    have ho := ins_ahd (r := r) d0 0 z (Nat.zero_le _) (by omega) (fun p q _ h2 h3 => by rw [hU p (by omega), hU q h3]; exact h2)
    rw [hz] at h
    refine h.mono ?_
    rintro e w' ⟨rfl, hS⟩
    exact ⟨rfl, _, ho.1, ho.2, hS⟩
  · by_cases h2 : z = 20
    · exact st20 cap z hcmp R S hz hU h2
    · by_cases h3 : z < 40
      · exact st40 cap z hcmp R S hz hU ⟨by omega, h3⟩
      · by_cases h4 : z = 40
        · exact st40e cap z hcmp R S hz hU h4
        · by_cases h5 : z < 60
          · exact st60 cap z hcmp R S hz hU ⟨by omega, h5⟩
          · by_cases h6 : z = 60
            · exact st60e cap z hcmp R S hz hU h6
            · exact st64 cap z hcmp R S hz hU ⟨by omega, hc⟩

set_option maxHeartbeats 4000000 in
theorem sort_any {n : Nat} {r : Fin (n + 1) → Int} {cb : Array Value} {blk : Nat} (cap z : Nat) {d0 : Array (Fin (n + 1))} {w0 w : World} (hcmp : CmpLays1 Try.prog gP cb encP (cfP r) blk 0 d0.size w0) (R : Row1 encP w0 blk 0 d0)
    (S : SW encP w0 blk 0 d0 w) (hz : d0.size = z) (hU : ∀ p, p < z → d0[p]!.val = p) (hc : z ≤ 64) :
    Calls Try.prog 53 #[.slice (some ⟨blk, 0, none⟩) z cap, .func (.func gP) #[] cb] w fun e w' => e = .returned (.tuple #[]) ∧ ∃ d', PermIn 0 z d0 d' ∧ SortedIn (ahd r) 0 z d' ∧ SW encP w0 blk 0 d' w' := by
  have H := Lib.hid (stable_any (r := r) cap z hcmp R S hz hU hc)
  clear hcmp R hz hU S
  go_enter Try.func53, Try.ntmps53
  go_wp2_with fail
  refine H.out.mono ?_
  rintro e w1 ⟨rfl, d', h1, h2, h3⟩
  have H1 := Lib.hid h1
  have H2 := Lib.hid h2
  have H3 := Lib.hid h3
  clear h1 h2 h3
  go_wp2
  go_end0
  exact ⟨rfl, d', H1.out, H2.out, H3.out⟩
end Go.Proofs.Ytaebbfaheaghfaa
