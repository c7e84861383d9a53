/- Of, where the date is known; two numbers in one month. -/
import Derived.Test.YtijhfjehdpgjmaaDoorCivE
namespace Go.Proofs.YtijhfjehdpgjmaaDoor
open Go.RowKit Go.Sort

theorem of_at {y m d n : Int} (W : World) (h : Lens W) (hr : rightP y m d) (hn : numF y m d = n) : Calls Tryd.prog 39 #[.int .i64 n] W fun e w' => e = .returned (.tuple #[.agg #[.int .i64 y, .int .i64 m, .int .i64 d], .int .i64 0]) ∧ Gr W w' := by
  obtain ⟨_, _, h0, h1⟩ := num_in hr
  refine (of_yes n W h (by omega) (by omega)).mono ?_
  rintro e w' ⟨⟨y', m', d', hr', hn', rfl⟩, hg⟩
  obtain ⟨rfl, rfl, rfl⟩ := num_inj hr' hr (hn'.trans hn.symm)
  exact ⟨rfl, hg⟩
theorem rof_at {y m d n : Int} (W : World) (hr : rightP y m d) (hn : numF y m d = n) : Calls Tryd.prog 35 #[.int .i64 n] W fun e w' => e = .returned (.tuple #[.agg #[.int .i64 y, .int .i64 m, .int .i64 d], .int .i64 0]) ∧ Gr W w' := by
  obtain ⟨_, _, h0, h1⟩ := num_in hr
  refine (rof_yes n W (by omega) (by omega)).mono ?_
  rintro e w' ⟨⟨y', m', d', hr', hn', rfl⟩, hg⟩
  obtain ⟨rfl, rfl, rfl⟩ := num_inj hr' hr (hn'.trans hn.symm)
  exact ⟨rfl, hg⟩

/-- two numbers of dates in one month -/
def smP (a b : Int) : Prop := ∃ y m d d', rightP y m d ∧ rightP y m d' ∧ numF y m d = a ∧ numF y m d' = b
theorem smP_iff {y m d y' m' d' a b : Int} (h : rightP y m d) (h' : rightP y' m' d') (e : numF y m d = a) (e' : numF y' m' d' = b) : smP a b ↔ y = y' ∧ m = m' := by
  constructor
  · rintro ⟨y1, m1, d1, d2, r1, r2, e1, e2⟩
    obtain ⟨rfl, rfl, rfl⟩ := num_inj r1 h (e1.trans e.symm)
    obtain ⟨rfl, rfl, rfl⟩ := num_inj r2 h' (e2.trans e'.symm)
    exact ⟨rfl, rfl⟩
  · rintro ⟨rfl, rfl⟩
    exact ⟨y, m, d, d', h, h', e, e'⟩

theorem len_two (y y' m : Int) : lenF y m ≤ lenF y' m + (if m = 2 then 1 else 0) := by unfold lenF; repeat' split <;> omega
theorem mon_two (y y' : Int) (k : Nat) : monF y k ≤ monF y' k + (if 2 ≤ k then 1 else 0) := by
  induction k with
  | zero => simp [monF]
  | succ k ih =>
    rw [mon_next, mon_next]
    have := len_two y y' (k + 1)
    split at ih <;> split at this <;> split <;> omega
/-- of two days that are not more than a month apart: one month's number, one year -/
theorem near_year {y m d y' d' : Int} (h : rightP y m d) (h' : rightP y' m d') (h0 : numF y m d ≤ numF y' m d') (h1 : numF y' m d' ≤ numF y m d + 40) : y = y' := by
  have n1 := num_in h
  have n2 := num_in h'
  rcases Int.lt_trichotomy y y' with hlt | he | hgt
  · exfalso
    have hm := ny_mono y y' (by omega)
    have l := lenF_hi y m
    obtain ⟨_, _, _, _, a5, a6⟩ := h
    obtain ⟨_, _, _, _, b5, b6⟩ := h'
    have t := mon_two y y' (m - 1).toNat
    unfold numF at h1
    split at t <;> omega
  · exact he
  · exfalso
    have hm := ny_mono (y' + 1) y (by omega)
    omega
theorem smP_near {y m d y' m' d' a b : Int} (h : rightP y m d) (h' : rightP y' m' d') (e : numF y m d = a) (e' : numF y' m' d' = b) (h0 : a ≤ b) (h1 : b ≤ a + 40) : smP a b ↔ m' = m := by
  rw [smP_iff h h' e e']
  constructor
  · rintro ⟨_, rfl⟩; rfl
  · rintro rfl
    exact ⟨near_year h h' (by omega) (by omega), rfl⟩

set_option maxHeartbeats 800000 in
theorem same_core (a b y m d y' m' d' : Int) (w : World) (hL : Lens w) (h : rightP y m d) (h' : rightP y' m' d') (e : numF y m d = a) (e' : numF y' m' d' = b) :
    Calls Tryd.prog 33 #[.int .i64 a, .int .i64 b] w fun e w' => e = .returned (.bool (decide (y = y' ∧ m = m'))) ∧ Gr w w' := by
  have A : ∀ W, Lens W → Hid (Calls Tryd.prog 39 #[.int .i64 a] W fun e w' => e = .returned (.tuple #[.agg #[.int .i64 y, .int .i64 m, .int .i64 d], .int .i64 0]) ∧ Gr W w') := fun W hW => of_at W hW h e
  have B : ∀ W, Lens W → Hid (Calls Tryd.prog 39 #[.int .i64 b] W fun e w' => e = .returned (.tuple #[.agg #[.int .i64 y', .int .i64 m', .int .i64 d'], .int .i64 0]) ∧ Gr W w') := fun W hW => of_at W hW h' e'
  have HL := Lib.hid hL
  clear hL h h' e e'
  go_enter Tryd.func33, Tryd.ntmps33
  go_wp2_with fail
  refine (A _ HL.out).out.mono ?_
  rintro e w1 ⟨rfl, hg1⟩
  have HG1 := Lib.hid hg1
  obtain ⟨c0, c1, c2⟩ := boxed w1 y m d 32
  have hS : w1.heap.size < (w1.alloc (Obj.cells #[Value.int IntKind.i64 y, Value.int IntKind.i64 m, Value.int IntKind.i64 d] 32)).heap.size := by simp
  clear hg1
  go_wp2_with fail
  refine (B _ (HL.out.gr (HG1.out.alloc _))).out.mono ?_
  rintro e w2 ⟨rfl, hg2⟩
  have e0 := gcell hg2 hS c0
  have e1 := gcell hg2 hS c1
  have hS2 := Nat.lt_of_lt_of_le hS hg2.size
  have gA := (Gr.refl w2).alloc (Obj.cells #[Value.int IntKind.i64 y', Value.int IntKind.i64 m', Value.int IntKind.i64 d'] 32)
  have f0 := gcell gA hS2 e0
  have f1 := gcell gA hS2 e1
  obtain ⟨k0, k1, k2⟩ := boxed w2 y' m' d' 32
  have HG2 := Lib.hid ((HG1.out.alloc _).trans (hg2.trans gA))
  clear hg2 c0 c1 c2 hS A B e0 e1 gA k2
  by_cases hy : y = y'
  · subst hy
    go_wp2
    go_ret
    exact ⟨by simp [go_sem]; rfl, HG2.out⟩
  · go_wp2
    go_ret
    exact ⟨by simp [go_sem, hy], HG2.out⟩
theorem same_yes {a b : Int} (w : World) (hL : Lens w) (h : smP a b) : Calls Tryd.prog 33 #[.int .i64 a, .int .i64 b] w fun e w' => e = .returned (.bool true) ∧ Gr w w' := by
  obtain ⟨y, m, d, d', r, r', e, e'⟩ := h
  have := same_core a b y m d y m d' w hL r r' e e'
  simpa using this
theorem same_no {a b : Int} (w : World) (hL : Lens w) (ha : 0 ≤ a ∧ a < 146097) (hb : 0 ≤ b ∧ b < 146097) (h : ¬ smP a b) : Calls Tryd.prog 33 #[.int .i64 a, .int .i64 b] w fun e w' => e = .returned (.bool false) ∧ Gr w w' := by
  obtain ⟨y, m, d, r, e⟩ := date_of a ha.1 ha.2
  obtain ⟨y', m', d', r', e'⟩ := date_of b hb.1 hb.2
  have := same_core a b y m d y' m' d' w hL r r' e e'
  rw [decide_eq_false (fun hh => h ((smP_iff r r' e e').mpr hh))] at this
  exact this
end Go.Proofs.YtijhfjehdpgjmaaDoor
