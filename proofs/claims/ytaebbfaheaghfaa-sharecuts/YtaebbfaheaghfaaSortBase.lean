/- slices.insertionSortCmpFunc at []int: the library's contract, laid at this program. share.greatestFirst's comparison of two places. Plain arithmetic of orders: places by their rests, the greatest first, of the same ones the first. No program in it. slices.SortStableFunc of fewer than twenty places. -/
import Derived.Test.YtaebbfaheaghfaaAlive1
import Derived.Shelf.SlSortCmp.Insertion1
import Derived.Test.YtaebbfaheaghfaaWide2
import Derived.Deep.QuietTactic
import Derived.BigQuiet
import Derived.Sort.LotA

namespace Go.Proofs.Ytaebbfaheaghfaa
open Go.RowKit Go.Shelf

/-- which numbers the functions and types of the library's text have here -/
def srt : Ren := ⟨fun _ => 65, fun k => if k = 22 then 71 else if k = 24 then 3 else if k = 25 then 85 else if k = 3 then 3 else if k = 4 then 4 else k, fun k => k⟩

theorem srtLay : SlLaysF.n20 Try.prog srt where
  mixed := by kernel_rfl
  f20 := Exists.intro "slices.insertionSortCmpFunc[int]" ⟨by decide, Try.func65.trans (congrArg some (by kernel_rfl))⟩
  t0 := by kernel_rfl
  a0 := fun _ => by rfl
  z0 := fun _ => by rfl
  v0 := fun _ => by rfl
  t3 := by kernel_rfl
  a3 := Try.isAgg3
  z3 := Try.sizeOf3
  v3 := fun _ => by rfl
  t4 := by kernel_rfl
  a4 := Try.isAgg4
  z4 := Try.sizeOf4
  v4 := fun _ => by rfl
  t22 := by kernel_rfl
  a22 := Try.isAgg71
  z22 := Try.sizeOf71
  v22 := fun _ => by rfl
  a24 := Try.isAgg3
  z24 := Try.sizeOf3
  t25 := by kernel_rfl
  a25 := Try.isAgg85
  z25 := Try.sizeOf85
  v25 := fun _ => by rfl
end Go.Proofs.Ytaebbfaheaghfaa

namespace Go.Proofs.Ytaebbfaheaghfaa
open Go.RowKit Go.Shelf

/-- a place as a value -/
abbrev encP {n : Nat} (x : Fin (n + 1)) : Value := .int .i64 ((x.val : Nat) : Int)
/-- which of two places is first: the one of the greater rest -/
def cfP {n : Nat} (r : Fin (n + 1) → Int) (x y : Fin (n + 1)) : Int := cmpI (r y) (r x)

set_option maxHeartbeats 4000000 in
theorem closure_any (n : Nat) (bb rb : Nat) (r : Fin (n + 1) → Int) (x y : Fin (n + 1)) (W : World)
    (hh : W.cell? ⟨bb, 0, none⟩ = some (.slice (some ⟨rb, 0, none⟩) (n + 1) (n + 1))) (hc : ∀ k : Fin (n + 1), W.cell? ⟨rb, k.val, none⟩ = some (.int .i64 (r k))) :
    Calls Try.prog 54 #[encP x, encP y, .pointer (some ⟨bb, 0, none⟩)] W fun e w' => e = .returned (.int .i64 (cfP r x y)) ∧ ∃ q, w' = W.drewN q := by
  have hx := hc x
  have hy := hc y
  have bx := x.isLt
  have ly := y.isLt
  unfold cfP
  generalize r x = rx at *
  generalize r y = ry at *
  obtain ⟨i, hi⟩ := x
  obtain ⟨j, hj⟩ := y
  simp only [encP] at *
  clear hc
  have b1 : (0 : Int) ≤ (i : Int) := by omega
  have b2 : (i : Int) < ((n + 1 : Nat) : Int) := by omega
  have b3 : (0 : Int) ≤ (j : Int) := by omega
  have b4 : (j : Int) < ((n + 1 : Nat) : Int) := by omega
  go_enter Try.func54, Try.ntmps54
  go_wp2_with fail
  have hC := fun w => (cmp_i64 ry rx w).mono (fun e w' (h : _ ∧ w = w') => (⟨h.1, h.2.symm⟩ : _ ∧ w' = w))
  go_quiet ((go_at_call 55; exact Calls.quiet_of_same (hC _)))
  go_wp2
  go_ret
  exact ⟨rfl, _, rfl⟩
end Go.Proofs.Ytaebbfaheaghfaa

namespace Go.Proofs.Ytaebbfaheaghfaa
open Go.Sort

/-- is x ahead of y? -/
def ahd {n : Nat} (r : Fin (n + 1) → Int) (x y : Fin (n + 1)) : Bool := decide (r y < r x ∨ (r x = r y ∧ x.val < y.val))
theorem ahd_true {n : Nat} {r : Fin (n + 1) → Int} {x y : Fin (n + 1)} : ahd r x y = true ↔ r y < r x ∨ (r x = r y ∧ x.val < y.val) := by unfold ahd; simp
theorem ahd_false {n : Nat} {r : Fin (n + 1) → Int} {x y : Fin (n + 1)} : ahd r x y = false ↔ ¬ (r y < r x ∨ (r x = r y ∧ x.val < y.val)) := by unfold ahd; simp
theorem ahd_swo {n : Nat} (r : Fin (n + 1) → Int) : SWO (ahd r) where
  irrefl x := ahd_false.mpr (by omega)
  trans x y z h1 h2 := by rw [ahd_true] at *; omega
  ntrans x y z h1 h2 := by rw [ahd_false] at *; omega
theorem ahd_total {n : Nat} (r : Fin (n + 1) → Int) {x y : Fin (n + 1)} (h : x ≠ y) (h2 : ahd r x y = false) : ahd r y x = true := by
  rw [ahd_true]; rw [ahd_false] at h2
  have : x.val ≠ y.val := fun e => h (Fin.ext e)
  omega
/-- the program's own comparison, of a later place against an earlier one -/
theorem lt_ahd {n : Nat} (r : Fin (n + 1) → Int) {x y : Fin (n + 1)} (h : y.val < x.val) : ltOf (cfP r) x y = ahd r x y := by
  unfold ltOf cfP ahd cmpI
  by_cases h1 : r y < r x
  · rw [if_pos h1]; simp [h1]
  · by_cases h2 : r x < r y
    · rw [if_neg h1, if_pos h2]; simp [h1]; omega
    · rw [if_neg h1, if_neg h2]; simp [h1]; omega

section
variable {n : Nat} {r : Fin (n + 1) → Int}

theorem inner_same (a : Nat) : ∀ (j : Nat) (d : Array (Fin (n + 1))), j < d.size → (∀ p, a ≤ p → p < j → d[p]!.val < d[j]!.val) → insInner (ltOf (cfP r)) a j d = insInner (ahd r) a j d
  | 0, d, _, _ => rfl
  | j + 1, d, hj, h => by
    unfold insInner
    by_cases ha : j + 1 > a
    · have e := lt_ahd r (h j (by omega) (by omega))
      rw [e]
      by_cases hl : ahd r d[j + 1]! d[j]! = true
      · rw [if_pos (by simp [ha, hl]), if_pos (by simp [ha, hl])]
        refine inner_same a j (swp d (j + 1) j) (by rw [size_swp]; omega) (fun p hp hpj => ?_)
        rw [swp_right d (j + 1) j (by omega), swp_other d (j + 1) j p (by omega) (by omega)]
        exact h p hp (by omega)
      · have hl' : ahd r d[j + 1]! d[j]! = false := by simpa using hl
        rw [if_neg (by simp [hl']), if_neg (by simp [hl'])]
    · rw [if_neg (by simp; omega), if_neg (by simp; omega)]

theorem inner_perm (lt : Fin (n + 1) → Fin (n + 1) → Bool) (a b : Nat) : ∀ (j : Nat) (d : Array (Fin (n + 1))), a ≤ j → j < b → b ≤ d.size → PermIn a b d (insInner lt a j d)
  | 0, d, _, _, _ => permIn_refl d a b
  | j + 1, d, haj, hji, hb => by
    unfold insInner
    split
    · rename_i hc
      simp only [Bool.and_eq_true, decide_eq_true_eq] at hc
      exact permIn_trans _ _ _ a b (swp_permIn d a b (j + 1) j haj (by omega) (by omega) (by omega) hb) (inner_perm lt a b j (swp d (j + 1) j) (by omega) (by omega) (by rw [size_swp]; exact hb))
    · exact permIn_refl d a b

theorem outer_same (a b : Nat) (m : Nat) : ∀ (i : Nat) (d : Array (Fin (n + 1))), b - i = m → a < i → b ≤ d.size → (∀ p q, a ≤ p → p < q → i ≤ q → q < b → d[p]!.val < d[q]!.val) → insOuter (ltOf (cfP r)) a b i d = insOuter (ahd r) a b i d := by
  induction m with
  | zero =>
    intro i d hm ha hb h
    unfold insOuter
    rw [if_neg (by omega), if_neg (by omega)]
  | succ m ih =>
    intro i d hm ha hb h
    unfold insOuter
    rw [if_pos (by omega), if_pos (by omega), inner_same a i d (by omega) (fun p hp hpi => h p i hp hpi (Nat.le_refl _) (by omega))]
    have hp : PermIn a (i + 1) d (insInner (ahd r) a i d) := inner_perm (ahd r) a (i + 1) i d (by omega) (by omega) (by omega)
    refine ih (i + 1) _ (by omega) (by omega) (by rw [hp.1]; exact hb) (fun p q hp1 hpq hq1 hq2 => ?_)
    rw [hp.2.1 q (Or.inr hq1)]
    by_cases hpi : p < i + 1
    · exact permIn_all d _ a (i + 1) (fun x => x.val < d[q]!.val) (by omega) hp (fun k hk1 hk2 => h k q hk1 (by omega) (by omega) hq2) p hp1 hpi
    · rw [hp.2.1 p (Or.inr (by omega))]
      exact h p q hp1 hpq (by omega) hq2

/-- the library's insertion sort, of places that lie in their own order -/
theorem ins_ahd (d : Array (Fin (n + 1))) (a b : Nat) (hab : a ≤ b) (hb : b ≤ d.size) (h : ∀ p q, a ≤ p → p < q → q < b → d[p]!.val < d[q]!.val) :
    PermIn a b d (insertionSort (ltOf (cfP r)) d a b) ∧ SortedIn (ahd r) a b (insertionSort (ltOf (cfP r)) d a b) := by
  have e : insertionSort (ltOf (cfP r)) d a b = insertionSort (ahd r) d a b := by
    unfold insertionSort
    exact outer_same a b (b - (a + 1)) (a + 1) d rfl (by omega) hb (fun p q h1 h2 _ h4 => h p q h1 h2 h4)
  rw [e]
  exact insertionSort_holds (ahd_swo r) d a b hab hb

/-- how many are ahead of x -/
def rank (r : Fin (n + 1) → Int) (x : Fin (n + 1)) : Nat := (List.finRange (n + 1)).countP (fun y => ahd r y x)

/-- the places in their own order -/
def places (n : Nat) : Array (Fin (n + 1)) := (List.finRange (n + 1)).toArray

theorem count_split {α : Type} [Inhabited α] (p : α → Bool) : ∀ (l : List α) (k : Nat), k ≤ l.length → (∀ i, i < k → p l[i]! = true) → (∀ i, k ≤ i → i < l.length → p l[i]! = false) → l.countP p = k
  | [], k, hk, _, _ => by simp at hk; subst hk; rfl
  | x :: l, 0, _, _, h2 => by
    have hx : p x = false := by simpa using h2 0 (Nat.le_refl _) (by simp)
    rw [List.countP_cons_of_neg (by simp [hx])]
    exact count_split p l 0 (Nat.zero_le _) (fun i hi => by omega) (fun i _ hi => by simpa using h2 (i + 1) (Nat.zero_le _) (by simpa using hi))
  | x :: l, k + 1, hk, h1, h2 => by
    have hx : p x = true := by simpa using h1 0 (by omega)
    rw [List.countP_cons_of_pos hx]
    rw [count_split p l k (by simpa using hk) (fun i hi => by simpa using h1 (i + 1) (by omega)) (fun i hi hi2 => by simpa using h2 (i + 1) (by omega) (by simpa using hi2))]

theorem ext_all {α : Type} (d : Array α) (m : Nat) (h : d.size = m) : d.extract 0 m = d := by subst h; simp
theorem list_get {α : Type} [Inhabited α] (d : Array α) (i : Nat) (h : i < d.size) : d.toList[i]! = d[i]! := by
  rw [getElem!_pos d i h, getElem!_pos d.toList i (by simpa using h)]
  simp

/-- in the sorted row each place stands where its rank says -/
theorem rank_at (d : Array (Fin (n + 1))) (hp : PermIn 0 (n + 1) (places n) d) (hs : SortedIn (ahd r) 0 (n + 1) d) (hinj : ∀ i j, i < j → j < n + 1 → d[i]! ≠ d[j]!) (k : Nat) (hk : k < n + 1) : rank r d[k]! = k := by
  have hsz : d.size = n + 1 := by rw [hp.1]; simp [places]
  have hperm : d.toList.Perm (List.finRange (n + 1)) := by
    have h := hp.2.2
    have e1 : d.extract 0 (n + 1) = d := ext_all d (n + 1) hsz
    have e2 : (places n).extract 0 (n + 1) = places n := ext_all _ _ (by simp [places])
    rw [e1, e2] at h
    exact h
  unfold rank
  rw [← hperm.countP_eq]
  have hget : ∀ i, i < n + 1 → d.toList[i]! = d[i]! := fun i hi => list_get d i (by omega)
  refine count_split _ d.toList k (by simp [hsz]; omega) (fun i hi => ?_) (fun i hi hi2 => ?_)
  · rw [hget i (by omega)]
    exact ahd_total r (Ne.symm (hinj i k hi hk)) (hs i k (Nat.zero_le _) hi hk)
  · have hi2' : i < n + 1 := by simpa [hsz] using hi2
    rw [hget i hi2']
    by_cases e : i = k
    · subst e; exact (ahd_swo r).irrefl _
    · exact hs k i (Nat.zero_le _) (by omega) hi2'
end
end Go.Proofs.Ytaebbfaheaghfaa

namespace Go.Proofs.Ytaebbfaheaghfaa
open Go.RowKit Go.Shelf Go.Sort

abbrev gP : Nat := 54
theorem eg_any : ∀ args w, (callFunc gP args).run Try.prog w = .ok (.enter gP args) w := enters_of Try.func54 (by kernel_rfl) rfl

theorem ins_any {n : Nat} {r : Fin (n + 1) → Int} {cb : Array Value} {blk : Nat} (a b cap : Nat) {d0 d : Array (Fin (n + 1))} {w0 w : World} (hcmp : CmpLays1 Try.prog gP cb encP (cfP r) blk 0 d0.size w0) (R : Row1 encP w0 blk 0 d0)
    (hs : d0.size = d.size) (S : SW encP w0 blk 0 d w) (hab : a ≤ b) (hb : b ≤ d.size) (hsz : d.size < 4611686018427387904) :
    Calls Try.prog 65 #[.slice (some ⟨blk, 0, none⟩) d.size cap, .int .i64 a, .int .i64 b, .func (.func gP) #[] cb] w fun e w' => e = .returned (.tuple #[]) ∧ SW encP w0 blk 0 (insertionSort (ltOf (cfP r)) d a b) w' :=
  Any.insertionSortCmpFunc_s srtLay encP (cfP r) gP cb blk 0 cap a b d0 d w0 w eg_any hcmp R hs S hab hb hsz

set_option maxHeartbeats 4000000 in
theorem stable_small {n : Nat} {r : Fin (n + 1) → Int} {cb : Array Value} {blk : Nat} (cap : Nat) {d0 d : Array (Fin (n + 1))} {w0 w : World} (hcmp : CmpLays1 Try.prog gP cb encP (cfP r) blk 0 d0.size w0) (R : Row1 encP w0 blk 0 d0)
    (hs : d0.size = d.size) (S : SW encP w0 blk 0 d w) (h20 : d.size < 20) :
    Calls Try.prog 61 #[.slice (some ⟨blk, 0, none⟩) d.size cap, .int .i64 d.size, .func (.func gP) #[] cb] w fun e w' => e = .returned (.tuple #[]) ∧ SW encP w0 blk 0 (insertionSort (ltOf (cfP r)) d 0 d.size) w' := by
  have H := Lib.hid (ins_any (r := r) 0 d.size cap hcmp R hs S (Nat.zero_le _) (Nat.le_refl _) (by omega))
  clear hcmp R hs S
  have d1 : decide ((20 : Int) ≤ (d.size : Int)) = false := by simp only [decide_eq_false_iff_not]; omega
  have d2 : decide ((20 : Int) < (d.size : Int)) = false := by simp only [decide_eq_false_iff_not]; omega
  go_enter Try.func61, Try.ntmps61
  go_wp2
  refine wp_loop_rounds 1 ?_
  rw [rounds_succ]
  go_wp2_with fail
  refine H.out.mono ?_
  rintro e w1 ⟨rfl, S1⟩
  have S2 := Lib.hid S1
  clear S1
  go_wp2
  refine wp_loop_rounds 1 ?_
  rw [rounds_succ]
  go_wp2
  go_end0
  exact ⟨rfl, S2.out⟩

set_option maxHeartbeats 4000000 in
theorem sort_small {n : Nat} {r : Fin (n + 1) → Int} {cb : Array Value} {blk : Nat} (cap : Nat) {d0 d : Array (Fin (n + 1))} {w0 w : World} (hcmp : CmpLays1 Try.prog gP cb encP (cfP r) blk 0 d0.size w0) (R : Row1 encP w0 blk 0 d0)
    (hs : d0.size = d.size) (S : SW encP w0 blk 0 d w) (h20 : d.size < 20) :
    Calls Try.prog 53 #[.slice (some ⟨blk, 0, none⟩) d.size cap, .func (.func gP) #[] cb] w fun e w' => e = .returned (.tuple #[]) ∧ SW encP w0 blk 0 (insertionSort (ltOf (cfP r)) d 0 d.size) w' := by
  have H := Lib.hid (stable_small (r := r) cap hcmp R hs S h20)
  clear hcmp R hs S
  go_enter Try.func53, Try.ntmps53
  go_wp2_with fail
  refine H.out.mono ?_
  rintro e w1 ⟨rfl, S1⟩
  have S2 := Lib.hid S1
  clear S1
  go_wp2
  go_end0
  exact ⟨rfl, S2.out⟩
end Go.Proofs.Ytaebbfaheaghfaa
