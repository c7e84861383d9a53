/- Modified and Between. -/
import Derived.Test.YtijhfjehdpgjmaaDoorCalRoll
import Derived.Test.YtijhfjehdpgjmaaDoorCalOf
namespace Go.Proofs.YtijhfjehdpgjmaaDoor
open Go.RowKit Go.Sort

theorem seek_in {l : List Int} {s : Int} {k : Nat} : ∀ {n x : Int}, seekF l s k n = some x → 0 ≤ x ∧ x < 146097 ∧ biz l x := by
  induction k with
  | zero => intro n x h; cases h
  | succ k ih =>
    intro n x h
    by_cases hin : 0 ≤ n ∧ n < 146097
    · by_cases hb : biz l n
      · rw [seek_hit hin hb] at h
        cases h
        exact ⟨hin.1, hin.2, hb⟩
      · rw [seek_miss hin hb] at h
        exact ih h
    · rw [seek_out hin] at h; cases h
theorem seek_none_out {l : List Int} {s n : Int} (h : ¬ (0 ≤ n ∧ n < 146097)) : seekF l s 32 n = none := seek_out h
theorem seek_some_in {l : List Int} {s n x : Int} (h : seekF l s 32 n = some x) : 0 ≤ n ∧ n < 146097 := by
  by_cases hin : 0 ≤ n ∧ n < 146097
  · exact hin
  · rw [seek_none_out hin] at h; cases h
theorem seek_up {l : List Int} {k : Nat} : ∀ {n x : Int}, seekF l 1 k n = some x → n ≤ x ∧ x < n + k := by
  induction k with
  | zero => intro n x h; cases h
  | succ k ih =>
    intro n x h
    by_cases hin : 0 ≤ n ∧ n < 146097
    · by_cases hb : biz l n
      · rw [seek_hit hin hb] at h
        cases h
        omega
      · rw [seek_miss hin hb] at h
        have := ih h
        omega
    · rw [seek_out hin] at h; cases h

open Classical in
/-- what Modified answers -/
noncomputable def modF (l : List Int) (n : Int) : Option Int :=
  match seekF l 1 32 n with
  | some x => if smP n x then some x else seekF l (-1) 32 n
  | none => seekF l (-1) 32 n
theorem modF_none {l : List Int} {n : Int} (h : seekF l 1 32 n = none) : modF l n = seekF l (-1) 32 n := by unfold modF; rw [h]
theorem modF_same {l : List Int} {n x : Int} (h : seekF l 1 32 n = some x) (hs : smP n x) : modF l n = some x := by unfold modF; rw [h]; exact if_pos hs
theorem modF_else {l : List Int} {n x : Int} (h : seekF l 1 32 n = some x) (hs : ¬ smP n x) : modF l n = seekF l (-1) 32 n := by unfold modF; rw [h]; exact if_neg hs

set_option maxHeartbeats 800000 in
theorem modified_any (b : Nat) (l : List Int) (n : Int) (w : World) (hn : I n) (hc : Cal w b l) (hL : Lens w) :
    Calls Tryd.prog 20 #[.pointer (some ⟨b, 0, none⟩), .int .i64 n] w fun e w' => e = .returned (.tuple #[.int .i64 (seekV (modF l n)), .int .i64 (seekE (modF l n))]) ∧ Gr w w' := by
  have HA := Lib.hid (roll_any b l n w hn hc hL)
  have HB : ∀ W, Gr w W → Hid (Calls Tryd.prog 19 #[.pointer (some ⟨b, 0, none⟩), .int .i64 n] W fun e w' => e = .returned (.tuple #[.int .i64 (seekV (seekF l (-1) 32 n)), .int .i64 (seekE (seekF l (-1) 32 n))]) ∧ Gr W w') := fun W hg => back_any b l n W hn (hc.gr hg) (hL.gr hg)
  have HL := Lib.hid hL
  clear hL hc
  cases hs : seekF l 1 32 n with
  | none =>
    rw [hs] at HA
    have HM := Lib.hid (modF_none hs)
    clear hs
    generalize seekF l (-1) 32 n = G at *
    go_enter Tryd.func20, Tryd.ntmps20
    go_wp2_with fail
    refine HA.out.mono ?_
    rintro e w1 ⟨rfl, hg1⟩
    have HG1 := Lib.hid hg1
    clear hg1
    simp only [seekV, seekE]
    go_wp2_with fail
    refine (HB _ HG1.out).out.mono ?_
    rintro e w2 ⟨rfl, hg2⟩
    have HG2 := Lib.hid (HG1.out.trans hg2)
    clear hg2
    go_wp2
    go_ret2
    exact ⟨by rw [HM.out]; rfl, HG2.out⟩
  | some x =>
    rw [hs] at HA
    have hx := seek_in hs
    have hin := seek_some_in hs
    by_cases hsm : smP n x
    · have HM := Lib.hid (modF_same hs hsm)
      have C : ∀ W, Lens W → Hid (Calls Tryd.prog 33 #[.int .i64 n, .int .i64 x] W fun e w' => e = .returned (.bool true) ∧ Gr W w') := fun W h => same_yes W h hsm
      clear hs hsm HB
      go_enter Tryd.func20, Tryd.ntmps20
      go_wp2_with fail
      refine HA.out.mono ?_
      rintro e w1 ⟨rfl, hg1⟩
      have HG1 := Lib.hid hg1
      clear hg1
      simp only [seekV, seekE]
      go_wp2_with fail
      refine (C _ (HL.out.gr HG1.out)).out.mono ?_
      rintro e w2 ⟨rfl, hg2⟩
      have HG2 := Lib.hid (HG1.out.trans hg2)
      clear hg2
      go_wp2
      go_ret2
      exact ⟨by rw [HM.out]; rfl, HG2.out⟩
    · have HM := Lib.hid (modF_else hs hsm)
      have C : ∀ W, Lens W → Hid (Calls Tryd.prog 33 #[.int .i64 n, .int .i64 x] W fun e w' => e = .returned (.bool false) ∧ Gr W w') := fun W h => same_no W h hin ⟨hx.1, hx.2.1⟩ hsm
      clear hs hsm
      generalize seekF l (-1) 32 n = G at *
      go_enter Tryd.func20, Tryd.ntmps20
      go_wp2_with fail
      refine HA.out.mono ?_
      rintro e w1 ⟨rfl, hg1⟩
      have HG1 := Lib.hid hg1
      clear hg1
      simp only [seekV, seekE]
      go_wp2_with fail
      refine (C _ (HL.out.gr HG1.out)).out.mono ?_
      rintro e w2 ⟨rfl, hg2⟩
      have HG2 := Lib.hid (HG1.out.trans hg2)
      clear hg2
      go_wp2_with fail
      refine (HB _ HG2.out).out.mono ?_
      rintro e w3 ⟨rfl, hg3⟩
      have HG3 := Lib.hid (HG2.out.trans hg3)
      clear hg3
      go_wp2
      go_ret2
      exact ⟨by rw [HM.out]; rfl, HG3.out⟩

/-- how many of the k numbers from a on are business days -/
def cntF (l : List Int) (a : Int) : Nat → Int
  | 0 => 0
  | k + 1 => cntF l a k + (if biz l (a + k) then 1 else 0)
theorem cnt_bd (l : List Int) (a : Int) (k : Nat) : 0 ≤ cntF l a k ∧ cntF l a k ≤ k := by
  induction k with
  | zero => simp [cntF]
  | succ k ih => rw [cntF]; split <;> omega
theorem cnt_yes {l : List Int} {a : Int} {k : Nat} (h : biz l (a + k)) : cntF l a (k + 1) = cntF l a k + 1 := by rw [cntF, if_pos h]
theorem cnt_no {l : List Int} {a : Int} {k : Nat} (h : ¬ biz l (a + k)) : cntF l a (k + 1) = cntF l a k := by rw [cntF, if_neg h]; simp

theorem between_none (b : Nat) (f t : Int) (w : World) (h : t ≤ f) :
    Calls Tryd.prog 25 #[.pointer (some ⟨b, 0, none⟩), .int .i64 f, .int .i64 t] w fun e w' => e = .returned (.int .i64 0) ∧ w = w' := by
  go_enter Tryd.func25, Tryd.ntmps25
  go_wp2
  go_ret
  exact ⟨rfl, rfl⟩
theorem u64_diff {f t : Int} (hf : I f) (ht : I t) (h : f < t) : IntKind.u64.wrap (IntKind.u64.wrap t - IntKind.u64.wrap f) = t - f := by
  have e : ∀ x : Int, IntKind.u64.wrap x = x % 18446744073709551616 := fun x => by simp [IntKind.wrap, IntKind.signed, IntKind.bits]
  rw [e, e, e]
  unfold I at hf ht; omega
set_option maxHeartbeats 400000 in
theorem between_many (b : Nat) (f t : Int) (w : World) (hf : I f) (ht : I t) (h : f < t) (h2 : 100000 < t - f) :
    Calls Tryd.prog 25 #[.pointer (some ⟨b, 0, none⟩), .int .i64 f, .int .i64 t] w fun e w' => e = .returned (.int .i64 0) ∧ w = w' := by
  have hd := u64_diff hf ht h
  go_enter Tryd.func25, Tryd.ntmps25
  go_wp2
  go_ret
  exact ⟨rfl, rfl⟩
set_option maxHeartbeats 800000 in
theorem between_any (b : Nat) (l : List Int) (f t : Int) (w : World) (hf : I f) (ht : I t) (h : f < t) (h2 : t - f ≤ 100000) (hc : Cal w b l) :
    Calls Tryd.prog 25 #[.pointer (some ⟨b, 0, none⟩), .int .i64 f, .int .i64 t] w fun e w' => e = .returned (.int .i64 (cntF l f (t - f).toNat)) ∧ Gr w w' := by
  have hd := u64_diff hf ht h
  have HC := Lib.hid hc
  clear hc
  have HI := Lib.hid (And.intro hf ht)
  obtain ⟨f1, f2⟩ := hf
  obtain ⟨t1, t2⟩ := ht
  go_enter Tryd.func25, Tryd.ntmps25
  go_wp2
  go_loopg [7, 8] (t - f).toNat (fun g c7 c8 wr => ∃ k : Nat, c7 = .int .i64 (cntF l f k) ∧ c8 = .int .i64 (f + (k : Int)) ∧ g + k = (t - f).toNat ∧ Hid (Gr w wr))
  case atStart => exact ⟨0, rfl, by simp, by omega, Lib.hid (Gr.refl _)⟩
  case round =>
    obtain ⟨k, rfl, rfl, hg, HW⟩ := hrel
    have HCr := Lib.hid (HC.out.gr HW.out)
    have bd := cnt_bd l f k
    by_cases hk : f + (k : Int) < t
    · by_cases hb : biz l (f + (k : Int))
      · have HN := Lib.hid (cnt_yes hb)
        have B := Lib.hid (by have := business_any b l (f + (k : Int)) wr ⟨by omega, by omega⟩ HCr.out; rwa [decide_eq_true hb] at this)
        clear hb
        generalize cntF l f k = c at *
        go_wp2_with fail
        refine B.out.mono ?_
        rintro e w1 ⟨rfl, hg1⟩
        have HG1 := Lib.hid (HW.out.trans hg1)
        clear hg1
        go_wp2
        go_roundg (gk - 1)
        case measure => omega
        case rel => exact ⟨k + 1, by rw [HN.out], by go_num, by omega, HG1⟩
      · have HN := Lib.hid (cnt_no hb)
        have B := Lib.hid (by have := business_any b l (f + (k : Int)) wr ⟨by omega, by omega⟩ HCr.out; rwa [decide_eq_false hb] at this)
        clear hb
        generalize cntF l f k = c at *
        go_wp2_with fail
        refine B.out.mono ?_
        rintro e w1 ⟨rfl, hg1⟩
        have HG1 := Lib.hid (HW.out.trans hg1)
        clear hg1
        go_wp2
        go_roundg (gk - 1)
        case measure => omega
        case rel => exact ⟨k + 1, by rw [HN.out], by go_num, by omega, HG1⟩
    · have HK := Lib.hid (show (t - f).toNat = k by omega)
      go_wp2
      go_ret
      exact ⟨by rw [HK.out]; rfl, HW.out⟩
end Go.Proofs.YtijhfjehdpgjmaaDoor
