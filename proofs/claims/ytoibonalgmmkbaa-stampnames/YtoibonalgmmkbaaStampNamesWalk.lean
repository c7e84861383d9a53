/- The walk of falseworklaw09.StampNames. -/
import Derived.Test.YtoibonalgmmkbaaSmL
namespace Go.Proofs.Ytoibonalgmmkbaa
open Go.RowKit Go.Lib

set_option maxRecDepth 100000 in
set_option maxHeartbeats 3200000 in
theorem stampNames_walk (w : World) : Calls Try.prog 3 #[] w fun e w' => e = .returned (.bool true) ∧ RowKit.Below w.heap.size w w' := by
  have B := Lib.hid (blank_any 4 w)
  have hmk : ∀ W : World, (Instr.makeSlice 24 (.int .i64 54) (.int .i64 54)).run Try.prog W = .ok (.slice (some ⟨W.heap.size, 0, none⟩) 54 54) (W.alloc (zeroB 54)) := fun W => mk_bytes 54 (by omega) W
  have HS := Lib.hid (fun (n : Int) W => span_any n W)
  have r4 : (Dk.blank 4).read 0 4 = Rd.none 91 := by kernel_rfl
  have r5 : (Dk.blank 4).read 0 5 = Rd.none 81 := by kernel_rfl
  have v0 : (Dk.blank 4).write 0 0 [] = (Dk.blank 4, 91) := by kernel_rfl
  have v1 : (Dk.blank 4).write 3 1 z54 = (Dk.blank 4, 81) := by kernel_rfl
  have HR4 := Lib.hid r4
  have HR5 := Lib.hid r5
  have HV0 := Lib.hid v0
  have HV1 := Lib.hid v1
  clear r4 r5 v0 v1
  go_enter Try.func3, Try.ntmps3
  go_wp2_with fail
  refine B.out.mono ?_
  rintro _ w1 ⟨g, F, rfl, hd, hb1, hf⟩
  have HD := Lib.hid hd
  have HB1 := Lib.hid hb1
  have HF := Lib.hid hf
  have HRA := Lib.hid (read_any g F (Dk.blank 4) 0 4 w1 hd (by unfold I; omega))
  rw [HR4.out] at HRA
  clear hd hb1 hf B
  go_wp2_with fail
  refine HRA.out.mono ?_
  rintro _ w2 ⟨a2, c2, rfl, _, _, _, hb2⟩
  have HB2 := Lib.hid (HB1.out.trans (hb2.mono HB1.out.size))
  have HD2 := Lib.hid (HD.out.below hb2)
  have HRB := Lib.hid (read_any g F (Dk.blank 4) 0 5 w2 HD2.out (by unfold I; omega))
  rw [HR5.out] at HRB
  clear hb2 HRA
  go_wp2_with fail
  refine HRB.out.mono ?_
  rintro _ w3 ⟨a3, c3, rfl, _, _, _, hb3⟩
  have HB3 := Lib.hid (HB2.out.trans (hb3.mono HB2.out.size))
  have HD3 := Lib.hid (HD2.out.below hb3)
  have HWA := Lib.hid (write_any g F (Dk.blank 4) 0 0 [] none 0 0 w3 HD3.out (by unfold I; omega) (by omega) (Or.inl rfl) rfl (Nat.le_refl _) (by decide))
  unfold WriteRes at HWA
  rw [HV0.out] at HWA
  clear hb3 HRB
  go_wp2_with fail
  refine HWA.out.mono ?_
  rintro _ w4 ⟨rfl, F4, hd4, ho4, hf4⟩
  have HB4 := Lib.hid (ho4.below HB3.out (fun i hi => HF.out i hi) HB3.out.size)
  have HF4 := Lib.hid (show ∀ i, F4 i → w.heap.size ≤ i from fun i hi => (hf4 i hi).elim (HF.out i) fun e => Nat.le_trans HB3.out.size e)
  obtain ⟨w5, hw5⟩ : ∃ w5, w5 = w4.alloc (zeroB 54) := ⟨_, rfl⟩
  have hb5 : RowKit.Below w4.heap.size w4 w5 := by rw [hw5]; exact (RowKit.Below.refl _ _).alloc (Nat.le_refl _) _
  have HWB := Lib.hid (write_any g F4 (Dk.blank 4) 3 1 z54 (some ⟨w4.heap.size, 0, none⟩) 54 54 w5 (hd4.below hb5) (by unfold I; omega) (by omega) (by rw [hw5]; exact zeroB_at 54 w4) z54_len (Nat.le_refl _) (by decide))
  unfold WriteRes at HWB
  rw [HV1.out] at HWB
  have HB5 := Lib.hid (HB4.out.trans (hb5.mono HB4.out.size))
  have HW5 := Lib.hid hw5
  clear hd4 ho4 hf4 hb5 hw5 HWA
  go_wp2_with fail
  rw [← HW5.out]
  refine HWB.out.mono ?_
  rintro _ w6 ⟨rfl, F6, _, ho6, _⟩
  have HB6 := Lib.hid (ho6.below HB5.out (fun i hi => HF4.out i hi) HB5.out.size)
  have HA := Lib.hid (salive_any w6)
  clear ho6 HWB
  go_wp2_with fail
  refine HA.out.mono ?_
  rintro _ w7 ⟨rfl, hb7⟩
  have HB7 := Lib.hid (HB6.out.trans (hb7.mono HB6.out.size))
  clear hb7 HA
  go_wp2_with fail
  refine (HS.out 0 _).mono ?_
  rintro _ _ ⟨rfl, rfl⟩
  rw [show spanI 0 = 1 from rfl]
  go_wp2_with fail
  refine (HS.out 13515 _).mono ?_
  rintro _ _ ⟨rfl, rfl⟩
  rw [show spanI 13515 = 255 from by decide]
  go_wp2_with fail
  refine (HS.out 13516 _).mono ?_
  rintro _ _ ⟨rfl, rfl⟩
  rw [show spanI 13516 = 0 from by decide]
  go_wp2_with fail
  refine (HS.out (-1) _).mono ?_
  rintro _ _ ⟨rfl, rfl⟩
  rw [show spanI (-1) = 0 from by decide]
  go_wp2_with fail
  go_ret
  exact ⟨rfl, HB7.out⟩
end Go.Proofs.Ytoibonalgmmkbaa
