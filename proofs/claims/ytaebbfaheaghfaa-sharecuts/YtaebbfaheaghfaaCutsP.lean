/- falseworkref02.Right. Who gets one cent more: picking the greatest rest, of the same ones the first, again and again. -/
import Derived.Test.YtaebbfaheaghfaaCutRes
import Derived.Deep.LoopGhost
import Derived.Test.YtaebbfaheaghfaaWholeSum

namespace Go.Proofs.Ytaebbfaheaghfaa
open Go.RowKit Go.Shelf Go.Sort

/-- whether one of the first k is above 0 -/
def someP (l : List Int) (k : Nat) : Bool := decide (∃ j, j < k ∧ 0 < l.getD j 0)
theorem someP_next (l : List Int) (k : Nat) : someP l (k + 1) = (someP l k || decide (0 < l.getD k 0)) := by
  unfold someP
  rw [Bool.eq_iff_iff]
  simp only [decide_eq_true_eq, Bool.or_eq_true]
  constructor
  · rintro ⟨j, hj, h⟩
    by_cases e : j = k
    · subst e; exact Or.inr h
    · exact Or.inl ⟨j, by omega, h⟩
  · rintro (⟨j, hj, h⟩ | h)
    · exact ⟨j, by omega, h⟩
    · exact ⟨k, by omega, h⟩

/-- what Right answers -/
def RightRes (t : Int) (l : List Int) (w : World) (e : Ending) (w' : World) : Prop := (∃ r : Bool, (r = true ↔ 0 ≤ t ∧ okW l) ∧ e = .returned (.bool r)) ∧ w = w'
theorem RightRes.no {t : Int} {l : List Int} {w : World} (h : ¬ (0 ≤ t ∧ okW l)) : RightRes t l w (.returned (.bool false)) w := ⟨⟨false, by simp [h], rfl⟩, rfl⟩

set_option maxHeartbeats 1000000 in
theorem ref02Right_any (a0 : Option Addr) (l : List Int) (cap : Nat) (t : Int) (w : World) (hr : RowAt .i64 w a0 l) :
    Calls Try.prog 43 #[.int .i64 t, .slice a0 l.length cap] w (RightRes t l w) := by
  by_cases ht : t < 0
  · have d0 : decide (t < 0) = true := by simp only [decide_eq_true_eq]; exact ht
    go_enter Try.func43, Try.ntmps43
    go_wp2
    go_ret
    exact RightRes.no (fun h => by omega)
  have d0 : decide (t < 0) = false := by simp only [decide_eq_false_iff_not]; exact ht
  by_cases h1 : l.length < 1
  · have d1 : decide ((l.length : Int) < 1) = true := by simp only [decide_eq_true_eq]; omega
    go_enter Try.func43, Try.ntmps43
    go_wp2
    go_ret
    exact RightRes.no (fun h => by have := h.2.1; omega)
  have d1 : decide ((l.length : Int) < 1) = false := by simp only [decide_eq_false_iff_not]; omega
  by_cases h2 : 64 < l.length
  · have d2 : decide ((64 : Int) < (l.length : Int)) = true := by simp only [decide_eq_true_eq]; omega
    go_enter Try.func43, Try.ntmps43
    go_wp2
    go_ret
    exact RightRes.no (fun h => by have := h.2.2.1; omega)
  have d2 : decide ((64 : Int) < (l.length : Int)) = false := by simp only [decide_eq_false_iff_not]; omega
  obtain ⟨b, off, rfl, hb, hc⟩ : ∃ b off, a0 = some ⟨b, off, none⟩ ∧ b < w.heap.size ∧ ∀ i, i < l.length → w.cell? ⟨b, off + i, none⟩ = some (.int .i64 (l.getD i 0)) := by
    rcases hr with h | h
    · subst h; simp at h1
    · exact h
  have HC := Lib.hid hc
  clear hc hr
  generalize hn : l.length = n at *
  go_enter Try.func43, Try.ntmps43
  go_wp2
  go_loopg [5, 22] n (fun g c5 c22 wr => ∃ k : Nat, c5 = .bool (someP l k) ∧ c22 = .int .i64 k ∧ k + g = n ∧ k ≤ n ∧ Hid (∀ j, j < k → 0 ≤ l.getD j 0) ∧ wr = w)
  case atStart => exact ⟨0, by simp [someP], rfl, by omega, by omega, Lib.hid (fun j hj => by omega), rfl⟩
  case round =>
    obtain ⟨k, rfl, rfl, hg, hk, HP, rfl⟩ := hrel
    by_cases hlt : k < n
    · have hlz : (k : Int) < (n : Int) := by omega
      have k0 : (0 : Int) ≤ (k : Int) := by omega
      have ck := HC.out k (by omega)
      obtain ⟨v, hv⟩ : ∃ v, v = l.getD k 0 := ⟨_, rfl⟩
      have hN := someP_next l k
      rw [← hv] at ck hN
      have HN := Lib.hid hN
      have HV := Lib.hid hv
      clear hv hN
      by_cases hneg : v < 0
      · have e0 : decide (v < 0) = true := by simp only [decide_eq_true_eq]; exact hneg
        have HX := Lib.hid (show ¬ (0 ≤ t ∧ okW l) from fun h => by have := h.2.2.2.1 k (by omega); rw [← HV.out] at this; omega)
        go_wp2
        go_ret
        exact RightRes.no HX.out
      · have e0 : decide (v < 0) = false := by simp only [decide_eq_false_iff_not]; exact hneg
        have HP2 := Lib.hid (show ∀ j, j < k + 1 → 0 ≤ l.getD j 0 from fun j hj => by
          by_cases e : j = k
          · subst e; rw [← HV.out]; omega
          · exact HP.out j (by omega))
        generalize hb : someP l k = b at *
        have HN2 := Lib.hid HN.out
        clear HN hb
        cases b
        · go_wp2
          go_roundg (gk - 1)
          case measure => omega
          case rel => exact ⟨k + 1, by rw [HN2.out]; simp, by go_num, by omega, by omega, HP2, rfl⟩
        · go_wp2
          go_roundg (gk - 1)
          case measure => omega
          case rel => exact ⟨k + 1, by rw [HN2.out]; simp, by go_num, by omega, by omega, HP2, rfl⟩
    · have hlz : ¬ (k : Int) < (n : Int) := by omega
      obtain rfl : k = n := by omega
      have HE := Lib.hid (show (someP l k = true ↔ 0 ≤ t ∧ okW l) by
        unfold someP okW
        rw [decide_eq_true_eq, hn]
        constructor
        · intro h; exact ⟨by omega, by omega, by omega, HP.out, h⟩
        · intro h; exact h.2.2.2.2)
      go_wp2
      go_ret
      exact ⟨⟨_, HE.out, rfl⟩, rfl⟩
end Go.Proofs.Ytaebbfaheaghfaa

namespace Go.Proofs.Ytaebbfaheaghfaa
open Go.RowKit Go.Shelf Go.Sort

section
variable {n : Nat}
theorem ahd_irr (r : Fin (n + 1) → Int) (x : Fin (n + 1)) : ahd r x x = false := by rw [ahd_false]; omega
theorem ahd_trans (r : Fin (n + 1) → Int) {x y z : Fin (n + 1)} (h : ahd r x y = true) (k : ahd r y z = true) : ahd r x z = true := by
  rw [ahd_true] at *; omega
theorem rank_lt (r : Fin (n + 1) → Int) {x y : Fin (n + 1)} (h : ahd r x y = true) : rank r x < rank r y := by
  unfold rank
  have key : ∀ L : List (Fin (n + 1)), L.countP (fun z => ahd r z x) + (if x ∈ L then 1 else 0) ≤ L.countP (fun z => ahd r z y) := by
    intro L
    induction L with
    | nil => simp
    | cons a L ih =>
      rw [List.countP_cons, List.countP_cons]
      by_cases e : a = x
      · subst e
        rw [ahd_irr, h]
        simp
        have : L.countP (fun z => ahd r z a) ≤ L.countP (fun z => ahd r z y) := by
          have := ih
          split at this <;> omega
        exact this
      · have hm : (x ∈ a :: L) ↔ x ∈ L := by
          rw [List.mem_cons]
          constructor
          · rintro (h | h)
            · exact absurd h.symm e
            · exact h
          · exact Or.inr
        simp only [hm]
        by_cases c : ahd r a x = true
        · rw [c, ahd_trans r c h]; simp; omega
        · rw [Bool.eq_false_iff.mpr c]; simp; omega
  have := key (List.finRange (n + 1))
  rw [if_pos (List.mem_finRange x)] at this
  omega
theorem rank_inj (r : Fin (n + 1) → Int) {x y : Fin (n + 1)} (h : rank r x = rank r y) : x = y := by
  by_cases e : x = y
  · exact e
  · by_cases c : ahd r x y = true
    · have := rank_lt r c; omega
    · have := rank_lt r (ahd_total r e (Bool.eq_false_iff.mpr c)); omega
theorem rank_some (r : Fin (n + 1) → Int) (g : Nat) (hg : g < n + 1) : ∃ x, rank r x = g := by
  by_cases e : ∃ x, rank r x = g
  · exact e
  · have h1 := rank_count r g (by omega)
    have h2 := rank_count r (g + 1) (by omega)
    have : (fun x => decide (rank r x < g + 1)) = (fun x => decide (rank r x < g)) := by
      funext x
      have : rank r x ≠ g := fun h => e ⟨x, h⟩
      rw [decide_eq_decide]
      omega
    rw [this] at h2
    omega
/-- the best of those that are left is the next one -/
theorem pick (r : Fin (n + 1) → Int) (g : Nat) (hg : g < n + 1) (b : Fin (n + 1)) (hb : g ≤ rank r b) (h : ∀ j, g ≤ rank r j → ahd r j b = false) : rank r b = g := by
  obtain ⟨c, hc⟩ := rank_some r g hg
  by_cases e : c = b
  · rw [← e]; exact hc
  · have := rank_lt r (ahd_total r e (h c (by omega)))
    omega
end

section
variable (t : Int) (l : List Int)
/-- the rests, when g of them have been taken -/
def RG (g j : Nat) : Int := if h : j < l.length - 1 + 1 then (if rank (rP t l (l.length - 1)) ⟨j, h⟩ < g then -1 else rf t l j) else -1
/-- the parts, when g cents more have been given -/
def OG (g j : Nat) : Int := qf t l j + upF t l (l.length - 1) g j
theorem RG_zero (j : Nat) (hj : j < l.length) : RG t l 0 j = rf t l j := by
  unfold RG
  rw [dif_pos (by omega), if_neg (by omega)]
theorem OG_zero (j : Nat) : OG t l 0 j = qf t l j := by
  unfold OG upF
  split <;> simp
theorem RG_bd (h : okW l) (g j : Nat) : -1 ≤ RG t l g j ∧ RG t l g j < l.sum := by
  have a := rf_bd (t := t) h j
  unfold RG
  split
  · split <;> omega
  · omega
theorem pick_next (h : okW l) (g b : Nat) (hg : g < l.length) (hb : b < l.length) (h1 : ∀ j, j < l.length → RG t l g j ≤ RG t l g b) (h2 : ∀ j, j < b → RG t l g j < RG t l g b) :
    (∀ j, j < l.length → RG t l (g + 1) j = if j = b then -1 else RG t l g j) ∧ (∀ j, j < l.length → OG t l (g + 1) j = if j = b then OG t l g b + 1 else OG t l g j) := by
  have hr := fun j => rf_bd (t := t) h j
  have hn : l.length - 1 + 1 = l.length := by have := h.1; omega
  have val : ∀ j (hj : j < l.length - 1 + 1), RG t l g j = if rank (rP t l (l.length - 1)) ⟨j, hj⟩ < g then -1 else rf t l j := fun j hj => by unfold RG; rw [dif_pos hj]
  obtain ⟨c, hc⟩ := rank_some (rP t l (l.length - 1)) g (by omega)
  have hb' : b < l.length - 1 + 1 := by omega
  have ub : ¬ rank (rP t l (l.length - 1)) ⟨b, hb'⟩ < g := by
    intro k
    have a := h1 c.val (by have := c.isLt; omega)
    rw [val c.val c.isLt, if_neg (show ¬ rank (rP t l (l.length - 1)) c < g by omega), val b hb', if_pos k] at a
    have := (hr c.val).1
    omega
  have rb : rank (rP t l (l.length - 1)) ⟨b, hb'⟩ = g := by
    refine pick _ g (by omega) _ (by omega) (fun j hj => ?_)
    have a := h1 j.val (by have := j.isLt; omega)
    rw [val j.val j.isLt, if_neg (show ¬ rank (rP t l (l.length - 1)) j < g by omega), val b hb', if_neg ub] at a
    rw [ahd_false]
    show ¬ (rf t l b < rf t l j.val ∨ (rf t l j.val = rf t l b ∧ j.val < b))
    by_cases e : j.val < b
    · have a2 := h2 j.val e
      rw [val j.val j.isLt, if_neg (show ¬ rank (rP t l (l.length - 1)) j < g by omega), val b hb', if_neg ub] at a2
      omega
    · omega
  have key : ∀ j (hj : j < l.length - 1 + 1), rank (rP t l (l.length - 1)) ⟨j, hj⟩ = g ↔ j = b := by
    intro j hj
    constructor
    · intro e
      have := rank_inj _ (e.trans rb.symm)
      exact Fin.mk.inj this
    · rintro rfl; exact rb
  constructor
  · intro j hj
    have hj' : j < l.length - 1 + 1 := by omega
    have k := key j hj'
    unfold RG
    rw [dif_pos hj', dif_pos hj']
    by_cases e : j = b
    · rw [if_pos e, if_pos (by have := k.mpr e; omega)]
    · rw [if_neg e]
      by_cases e2 : rank (rP t l (l.length - 1)) ⟨j, hj'⟩ < g
      · rw [if_pos e2, if_pos (by omega)]
      · rw [if_neg e2, if_neg (by intro q; exact e (k.mp (by omega)))]
  · intro j hj
    have hj' : j < l.length - 1 + 1 := by omega
    have k := key j hj'
    unfold OG upF
    rw [dif_pos hj', dif_pos hj', dif_pos hb']
    by_cases e : j = b
    · subst e
      rw [if_pos rfl, if_pos (by omega), if_neg (by omega)]
      omega
    · rw [if_neg e]
      by_cases e2 : rank (rP t l (l.length - 1)) ⟨j, hj'⟩ < g
      · rw [if_pos e2, if_pos (by omega)]
      · rw [if_neg e2, if_neg (by intro q; exact e (k.mp (by omega)))]
end
end Go.Proofs.Ytaebbfaheaghfaa
