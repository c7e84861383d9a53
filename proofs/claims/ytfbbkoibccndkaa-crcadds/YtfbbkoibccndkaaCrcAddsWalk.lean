/- The walk of falseworklaw07.CrcAdds. -/
import Derived.Test.YtfbbkoibccndkaaCrQ
import Derived.Test.YtfbbkoibccndkaaCrS
import Derived.Test.YtfbbkoibccndkaaCame
namespace Go.Proofs.Ytfbbkoibccndkaa
open Go.RowKit Go.Lib

theorem reg_eq {r k : Nat} (hr : r < 4294967296) : (wrap64 ((r : Int) / 2 ^ k)).tmod 2 = (bt r k : Int) := by
  have e : (r : Int) / 2 ^ k = ((r / 2 ^ k : Nat) : Int) := by simp
  have hl := Nat.div_le_self r (2 ^ k)
  rw [e]
  unfold bt
  generalize r / 2 ^ k = y at *
  have e2 : wrap64 (y : Int) = (y : Int) := by unfold wrap64; omega
  rw [e2, Int.tmod_eq_emod_of_nonneg (by omega)]
  omega
set_option maxRecDepth 100000 in
set_option maxHeartbeats 1600000 in
theorem adds_in (r : Nat) (a : Option Addr) (n c : Nat) (l : List UInt8) (w : World) (hr : r < 4294967296) (b0 : BAt w a l) (e0 : l.length = n) (h0 : n ≤ 300) :
    Calls Try.prog 4 #[.int .u32 (r : Int), .slice a n c] w fun e w' => e = .returned (.bool true) ∧ RowKit.Below w.heap.size w w' := by
  have d0 : decide ((300 : Int) < (n : Int)) = false := by simp; omega
  have A0 := fun (W : World) (h : BAt W a l) => Lib.hid (add_any r a l n c W hr h e0 (by omega))
  have A1 := fun (W : World) (h : BAt W a l) => Lib.hid (radd_any r a l n c W hr h e0 (by omega))
  have A2 := fun (W : World) => Lib.hid (number_any (ad r l) W (ad_lt hr l))
  have A3 := fun (W : World) => Lib.hid (sum_any (ad r l) W (ad_lt hr l))
  obtain ⟨p, hp⟩ : ∃ p, p = ad r l := ⟨_, rfl⟩
  have p1 : (p : Int) ≤ 4294967295 := by have := ad_lt hr l; omega
  have HS := Lib.hid (show (sm p : Int) = 4294967295 - (p : Int) by rw [sm_sub (by omega)]; omega)
  obtain ⟨R, hR⟩ : ∃ R, R = rg r := ⟨_, rfl⟩
  have ar : Arr R := by rw [hR]; exact arr_tab _ _
  rw [← hp] at A0 A1 A2 A3
  rw [← hR] at A1
  obtain ⟨Z, hZ⟩ : ∃ Z, Z = tab .i64 fun _ => 0 := ⟨_, rfl⟩
  have az : Arr Z := by rw [hZ]; exact arr_tab _ _
  have HZ := Lib.hid hZ
  have HRR := Lib.hid hR
  have HB := Lib.hid b0
  have HR := Lib.hid hr
  clear hp hZ b0 e0 hR hr
  go_enter Try.func4, Try.ntmps4
  go_wp2_with fail
  refine (alive_any _).mono ?_
  rintro _ w1 ⟨rfl, hb1⟩
  have HW := Lib.hid hb1
  have HB1 := Lib.hid (HB.out.below hb1)
  clear hb1
  go_wp2_with (first | (with_reducible refine wpList_alloc0 rfl isI rfl ?_) | (with_reducible refine wpList_build0 rfl isI rfl ?_) | ((with_reducible refine wpList_store0 rfl isI _ _ rfl _ (fun _ => 0) (fun _ => 0) rfl rfl (blkn (by simp)) ?_); rw [setRow_new (by simp)]))
  go_simp
  rw [← HZ.out]
  go_loopw [15] (fun c15 wr => ∃ k : Nat, c15 = .int .i64 (k : Int) ∧ k ≤ 32 ∧ wr = w1.alloc (.cells (tab .i64 fun j => if j < k then (bt r j : Int) else 0) 30)) (fun c15 _ => 32 - (match c15 with | .int _ q => q | _ => 0).toNat)
  case atStart => exact ⟨0, rfl, by omega, by rw [HZ.out]; rfl⟩
  case round =>
    obtain ⟨k, rfl, hk, rfl⟩ := hrel
    by_cases hlt : k < 32
    · obtain ⟨q, q', v, hc, hc', hv, h1, h2⟩ := tab_step (k := .i64) (f := fun j => if j < k then (bt r j : Int) else 0) (g := fun j => if j < k + 1 then (bt r j : Int) else 0) hlt (x := (bt r k : Int)) (fun j _ => by
        by_cases e : j = k
        · subst e; simp
        · simp only [if_neg e]; by_cases h : j < k
          · rw [if_pos h, if_pos (by omega)]
          · rw [if_neg h, if_neg (by omega)])
      rw [← hc]
      have HC := Lib.hid hc'
      have he := reg_eq (k := k) HR.out
      clear hc hc' hv
      go_wp2
      go_roundw
      case rel => exact ⟨k + 1, by go_num, by omega, by rw [HC.out]⟩
      case measure => simp; omega
    · have e : k = 32 := by omega
      subst e
      rw [show tab .i64 (fun j => if j < 32 then (bt r j : Int) else 0) = R by rw [HRR.out]; exact tab_congr fun j hj => by simp [hj]]
      have HB2 := Lib.hid (HB1.out.below ((RowKit.Below.refl _ _).alloc (Nat.le_refl _) (.cells R 30)))
      clear HRR
      go_wp2_with fail
      refine (A0 _ HB2.out).out.mono ?_
      rintro _ _ ⟨rfl, rfl⟩
      go_wp2_with (with_reducible refine wpList_load1 rfl isI _ rfl _ R rfl (blkn (by simp)) ar ?_)
      refine (A1 _ HB2.out).out.mono ?_
      rintro _ w2 ⟨rfl, hb2⟩
      have HW2 := Lib.hid (HW.out.trans ((((RowKit.Below.refl w1.heap.size w1).alloc (Nat.le_refl _) _).trans (hb2.mono (by simp))).mono HW.out.size))
      clear hb2
      go_wp2_with fail
      refine (A2 _).out.mono ?_
      rintro _ w3 ⟨rfl, hb3⟩
      have HW3 := Lib.hid (HW2.out.trans (hb3.mono HW2.out.size))
      clear hb3
      go_wp2_with fail
      refine (A3 _).out.mono ?_
      rintro _ _ ⟨rfl, rfl⟩
      rw [HS.out]
      go_wp2_with fail
      go_ret
      exact ⟨rfl, HW3.out⟩
set_option maxRecDepth 100000 in
theorem adds_out (r : Nat) (a : Option Addr) (n c : Nat) (w : World) (h0 : 300 < n) :
    Calls Try.prog 4 #[.int .u32 (r : Int), .slice a n c] w fun e w' => e = .returned (.bool true) ∧ RowKit.Below w.heap.size w w' := by
  have d0 : decide ((300 : Int) < (n : Int)) = true := by simp; omega
  go_enter Try.func4, Try.ntmps4
  go_wp2_with fail
  refine (alive_any _).mono ?_
  rintro _ w1 ⟨rfl, hb1⟩
  have HW := Lib.hid hb1
  clear hb1
  go_wp2_with fail
  go_ret
  exact ⟨rfl, HW.out⟩
theorem crcAdds_walk (w : World) (a0 : Int) (w0 : (Lit.int .u32 a0).wf = true) (a1 : Option Addr) (len1 cap1 : Nat) (l1 : List UInt8) (w1 : CameB w a1 len1 cap1 l1) :
    Calls Try.prog 4 #[.int .u32 a0, .slice a1 len1 cap1] w fun e w' => e = .returned (.bool true) ∧ RowKit.Below w.heap.size w w' := by
  have hb : 0 ≤ a0 ∧ a0 < 4294967296 := by
    simp [Lit.wf] at w0
    have h1 : IntKind.u32.min = 0 := by decide
    have h2 : IntKind.u32.max = 4294967295 := by decide
    omega
  obtain ⟨r, rfl⟩ := Int.eq_ofNat_of_zero_le hb.1
  by_cases h : 300 < len1
  · exact adds_out r a1 len1 cap1 w h
  · exact adds_in r a1 len1 cap1 l1 w (by omega) w1.row w1.ln (by omega)
end Go.Proofs.Ytfbbkoibccndkaa
