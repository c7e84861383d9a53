/- Roll, Back, Modified, Between. -/
import Derived.Test.YtijhfjehdpgjmaaDoorCalNew
import Derived.Test.YtijhfjehdpgjmaaDoorCivD
namespace Go.Proofs.YtijhfjehdpgjmaaDoor
open Go.RowKit Go.Sort

/-- the first business day from n on, by steps, among so many -/
def seekF (l : List Int) (s : Int) : Nat → Int → Option Int
  | 0, _ => none
  | k + 1, n => if 0 ≤ n ∧ n < 146097 then (if biz l n then some n else seekF l s k (n + s)) else none
def seekV : Option Int → Int
  | some x => x
  | none => 0
def seekE : Option Int → Int
  | some _ => 0
  | none => 41
theorem seek_out {l : List Int} {s n : Int} {k : Nat} (h : ¬ (0 ≤ n ∧ n < 146097)) : seekF l s (k + 1) n = none := by unfold seekF; rw [if_neg h]
theorem seek_hit {l : List Int} {s n : Int} {k : Nat} (h : 0 ≤ n ∧ n < 146097) (hb : biz l n) : seekF l s (k + 1) n = some n := by unfold seekF; rw [if_pos h, if_pos hb]
theorem seek_miss {l : List Int} {s n : Int} {k : Nat} (h : 0 ≤ n ∧ n < 146097) (hb : ¬ biz l n) : seekF l s (k + 1) n = seekF l s k (n + s) := by rw [seekF, if_pos h, if_neg hb]

set_option maxHeartbeats 1600000 in
theorem nearest_any (b : Nat) (l : List Int) (n s : Int) (w : World) (hn : I n) (hs : s = 1 ∨ s = -1) (hc : Cal w b l) (hL : Lens w) :
    Calls Tryd.prog 28 #[.pointer (some ⟨b, 0, none⟩), .int .i64 n, .int .i64 s] w fun e w' => e = .returned (.tuple #[.int .i64 (seekV (seekF l s 32 n)), .int .i64 (seekE (seekF l s 32 n))]) ∧ Gr w w' := by
  have HC := Lib.hid hc
  have HL := Lib.hid hL
  clear hc hL
  generalize hF : seekF l s 32 n = F
  have HF := Lib.hid hF
  clear hF
  go_enter Tryd.func28, Tryd.ntmps28
  go_wp2
  go_loopg [1, 10] 32 (fun g c1 c10 wr => ∃ (k : Nat) (x : Int), c1 = .int .i64 x ∧ c10 = .int .i64 (k : Int) ∧ g + k = 32 ∧ I x ∧ Hid (seekF l s (32 - k) x = F) ∧ Hid (Gr w wr))
  case atStart => exact ⟨0, n, rfl, rfl, by omega, hn, HF, Lib.hid (Gr.refl _)⟩
  case round =>
    obtain ⟨k, x, rfl, rfl, hg, hx, HQ, HW⟩ := hrel
    have HCr := Lib.hid (HC.out.gr HW.out)
    have HLr := Lib.hid (HL.out.gr HW.out)
    by_cases hk : k < 32
    · by_cases hin : 0 ≤ x ∧ x < 146097
      · by_cases hb : biz l x
        · have HF2 := Lib.hid (show F = some x by have := HQ.out; rw [show 32 - k = 32 - (k + 1) + 1 by omega, seek_hit hin hb] at this; exact this.symm)
          have B : ∀ W, Cal W b l → Hid (Calls Tryd.prog 23 #[.pointer (some ⟨b, 0, none⟩), .int .i64 x] W fun e w' => e = .returned (.bool true) ∧ Gr W w') := fun W h => Lib.hid (by have := business_any b l x W hx h; rwa [decide_eq_true hb] at this)
          clear HQ hb
          go_wp2_with fail
          refine (of_yes x _ HLr.out hin.1 hin.2).mono ?_
          rintro e w1 ⟨⟨y, m, d, _, _, rfl⟩, hg1⟩
          have HG1 := Lib.hid hg1
          clear hg1
          go_wp2_with fail
          refine (B _ (HCr.out.gr (HG1.out.alloc _))).out.mono ?_
          rintro e w2 ⟨rfl, hg2⟩
          have HG2 := Lib.hid (HW.out.trans ((HG1.out.alloc _).trans hg2))
          clear hg2
          go_wp2
          go_ret2
          exact ⟨by rw [HF2.out]; rfl, HG2.out⟩
        · have HF2 := Lib.hid (show seekF l s (32 - (k + 1)) (x + s) = F by have := HQ.out; rw [show 32 - k = 32 - (k + 1) + 1 by omega, seek_miss hin hb] at this; exact this)
          have B : ∀ W, Cal W b l → Hid (Calls Tryd.prog 23 #[.pointer (some ⟨b, 0, none⟩), .int .i64 x] W fun e w' => e = .returned (.bool false) ∧ Gr W w') := fun W h => Lib.hid (by have := business_any b l x W hx h; rwa [decide_eq_false hb] at this)
          clear HQ hb
          go_wp2_with fail
          refine (of_yes x _ HLr.out hin.1 hin.2).mono ?_
          rintro e w1 ⟨⟨y, m, d, _, _, rfl⟩, hg1⟩
          have HG1 := Lib.hid hg1
          clear hg1
          go_wp2_with fail
          refine (B _ (HCr.out.gr (HG1.out.alloc _))).out.mono ?_
          rintro e w2 ⟨rfl, hg2⟩
          have HG2 := Lib.hid (HW.out.trans ((HG1.out.alloc _).trans hg2))
          clear hg2
          have hs2 : -1 ≤ s ∧ s ≤ 1 := by omega
          go_wp2
          go_roundg (gk - 1)
          case measure => omega
          case rel => exact ⟨k + 1, x + s, rfl, by go_num, by omega, ⟨by omega, by omega⟩, HF2, HG2⟩
      · have HF2 := Lib.hid (show F = none by have := HQ.out; rw [show 32 - k = 32 - (k + 1) + 1 by omega, seek_out hin] at this; exact this.symm)
        go_wp2_with fail
        refine (of_no x _ (by omega)).mono ?_
        rintro e w1 ⟨rfl, hg1⟩
        have HG1 := Lib.hid (HW.out.trans hg1)
        clear hg1
        go_wp2
        go_ret2
        exact ⟨by rw [HF2.out]; rfl, HG1.out.alloc _⟩
    · obtain rfl : k = 32 := by omega
      have HF2 := Lib.hid (show F = none from HQ.out.symm)
      go_wp2
      go_ret2
      exact ⟨by rw [HF2.out]; rfl, HW.out⟩

theorem roll_any (b : Nat) (l : List Int) (n : Int) (w : World) (hn : I n) (hc : Cal w b l) (hL : Lens w) :
    Calls Tryd.prog 12 #[.pointer (some ⟨b, 0, none⟩), .int .i64 n] w fun e w' => e = .returned (.tuple #[.int .i64 (seekV (seekF l 1 32 n)), .int .i64 (seekE (seekF l 1 32 n))]) ∧ Gr w w' := by
  have A := Lib.hid (nearest_any b l n 1 w hn (Or.inl rfl) hc hL)
  clear hc hL
  go_enter Tryd.func12, Tryd.ntmps12
  go_wp2_with fail
  refine A.out.mono ?_
  rintro e w1 ⟨rfl, hg1⟩
  have HG1 := Lib.hid hg1
  clear hg1
  go_wp2
  go_ret2
  exact ⟨rfl, HG1.out⟩
theorem back_any (b : Nat) (l : List Int) (n : Int) (w : World) (hn : I n) (hc : Cal w b l) (hL : Lens w) :
    Calls Tryd.prog 19 #[.pointer (some ⟨b, 0, none⟩), .int .i64 n] w fun e w' => e = .returned (.tuple #[.int .i64 (seekV (seekF l (-1) 32 n)), .int .i64 (seekE (seekF l (-1) 32 n))]) ∧ Gr w w' := by
  have A := Lib.hid (nearest_any b l n (-1) w hn (Or.inr rfl) hc hL)
  clear hc hL
  go_enter Tryd.func19, Tryd.ntmps19
  go_wp2_with fail
  refine A.out.mono ?_
  rintro e w1 ⟨rfl, hg1⟩
  have HG1 := Lib.hid hg1
  clear hg1
  go_wp2
  go_ret2
  exact ⟨rfl, HG1.out⟩
end Go.Proofs.YtijhfjehdpgjmaaDoor
