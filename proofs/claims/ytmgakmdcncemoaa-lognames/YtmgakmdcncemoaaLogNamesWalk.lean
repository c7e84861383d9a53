/- The walk of falseworklaw10.LogNames. -/
import Derived.Test.YtmgakmdcncemoaaLgEG
import Derived.Test.YtmgakmdcncemoaaSmL
namespace Go.Proofs.Ytmgakmdcncemoaa
open Go.RowKit Go.Lib

set_option maxRecDepth 100000 in
set_option maxHeartbeats 3200000 in
theorem logNames_walk (w : World) : Calls Try.prog 3 #[] w fun e w' => e = .returned (.bool true) ∧ RowKit.Below w.heap.size w w' := by
  have B := Lib.hid (blank_any 6 w)
  have mk1 : ∀ W : World, (Instr.makeSlice 32 (.int .i64 4097) (.int .i64 4097)).run Try.prog W = .ok (.slice (some ⟨W.heap.size, 0, none⟩) 4097 4097) (W.alloc (zeroB 4097)) := fun W => mk_bytes 4097 (by omega) W
  have mk2 : ∀ W : World, (Instr.makeSlice 32 (.int .i64 50) (.int .i64 50)).run Try.prog W = .ok (.slice (some ⟨W.heap.size, 0, none⟩) 50 50) (W.alloc (zeroB 50)) := fun W => mk_bytes 50 (by omega) W
  have mk3 : ∀ W : World, (Instr.makeSlice 32 (.int .i64 49) (.int .i64 49)).run Try.prog W = .ok (.slice (some ⟨W.heap.size, 0, none⟩) 49 49) (W.alloc (zeroB 49)) := fun W => mk_bytes 49 (by omega) W
  obtain ⟨Z, hZ⟩ : ∃ Z, Z = zeroB := ⟨_, rfl⟩
  rw [← hZ] at mk1 mk2 mk3
  have HZ := Lib.hid (fun (n : Nat) (W : World) => show BAt (W.alloc (Z n)) (some ⟨W.heap.size, 0, none⟩) (List.replicate n 0) by rw [hZ]; exact zeroB_at n W)
  have ND1 := Lib.hid (fun W => show Calls Try.prog 10 #[.int .i64 49] W (fun e w' => e = .returned (.int .i64 1) ∧ W = w') from need_any 49 W)
  have ND2 := Lib.hid (fun W => show Calls Try.prog 10 #[.int .i64 4097] W (fun e w' => e = .returned (.int .i64 0) ∧ W = w') from need_any 4097 W)
  clear hZ
  go_enter Try.func3, Try.ntmps3
  go_wp2_with fail
  refine B.out.mono ?_
  rintro _ w1 ⟨g, F, rfl, hd, hb1, hf⟩
  have HD1 := Lib.hid (show DW w w1 F g (Dk.blank 6) from ⟨hd, hf, hb1⟩)
  have HK1 := Lib.hid (show Kp (Dk.blank 6) 5 6 5 0 [] from Kp.blank (by omega) (by omega))
  have HO := Lib.hid (show Calls Try.prog 7 #[.pointer (some ⟨g, 0, none⟩), .int .i64 5, .int .i64 6, .int .u64 0] w1 (Opened w F g (Dk.blank 6) 5 6 1 [] w1) from kp_open (fl := 0) HD1.out HK1.out (by omega))
  clear hd hb1 hf B
  go_wp2_with fail
  refine HO.out.mono ?_
  rintro _ w2 ⟨b, a2, c2, rfl, _, hlw, hb2⟩
  have HL2 := Lib.hid hlw
  have HNO := Lib.hid (show Calls Try.prog 7 #[.pointer (some ⟨g, 0, none⟩), .int .i64 3, .int .i64 7, .int .u64 0] w2 _ from lopen_no g F (Dk.blank 6) 3 7 0 w2 hlw.dw.dt (Or.inr (Or.inr (by decide))))
  clear hlw hb2 HO
  go_wp2_with fail
  refine HNO.out.mono ?_
  rintro _ _ ⟨rfl, rfl⟩
  have A := Lib.hid (logAlive_any w2)
  go_wp2_with fail
  refine A.out.mono ?_
  rintro _ w3 ⟨rfl, hb3⟩
  have HL3 := Lib.hid (HL2.out.below hb3)
  have HA1 := Lib.hid (fun (W : World) (hb : RowKit.Below w3.heap.size w3 W) (q : Nat) (h : BAt W (some ⟨q, 0, none⟩) (List.replicate 4097 0)) => kp_append (fl := 0) (HL3.out.below hb) HK1.out (by omega) (by simp) h (len := 4097) (cap := 4097) List.length_replicate (fun e => by cases e))
  clear hb3 A HNO
  go_wp2_with fail
  refine (HA1.out _ ((RowKit.Below.refl _ _).alloc (Nat.le_refl _) _) _ (HZ.out _ _)).mono ?_
  rintro _ w4 h4
  obtain ⟨F4, rfl, hl4⟩ := h4.long (by rw [List.length_replicate]; omega)
  have HL4 := Lib.hid hl4
  have HA2 := Lib.hid (fun (W : World) (hb : RowKit.Below w4.heap.size w4 W) (q : Nat) (h : BAt W (some ⟨q, 0, none⟩) (List.replicate 50 0)) => kp_append (fl := 0) (hl4.below hb) HK1.out (by omega) (by simp) h (len := 50) (cap := 50) List.length_replicate (fun e => by cases e))
  clear h4 hl4 HA1
  go_wp2_with fail
  refine (HA2.out _ ((RowKit.Below.refl _ _).alloc (Nat.le_refl _) _) _ (HZ.out _ _)).mono ?_
  rintro _ w5 h5
  obtain ⟨F5, rfl, hl5⟩ := h5.full (by rw [List.length_replicate]; omega) (by rw [List.length_replicate]; decide)
  have HL5 := Lib.hid hl5
  have HA3 := Lib.hid (fun (W : World) (hb : RowKit.Below w5.heap.size w5 W) (q : Nat) (h : BAt W (some ⟨q, 0, none⟩) (List.replicate 49 0)) => kp_append (fl := 0) (hl5.below hb) HK1.out (by omega) (by simp) h (len := 49) (cap := 49) List.length_replicate (fun e => by cases e))
  clear h5 hl5 HA2
  go_wp2_with fail
  refine (HA3.out _ ((RowKit.Below.refl _ _).alloc (Nat.le_refl _) _) _ (HZ.out _ _)).mono ?_
  rintro _ w6 h6
  obtain ⟨F6, d6, rfl, _, _, hk6, hf6, hl6⟩ := h6.fits (by rw [List.length_replicate]; omega) (by rw [List.length_replicate]; decide) (by decide)
  have HL6 := Lib.hid hl6
  have HA4 := Lib.hid (kp_append (fl := 0) hl6 hk6 (by omega) (by simp) (l := []) (Or.inl rfl) (a := none) (len := 0) (cap := 0) rfl (fun _ => rfl))
  clear h6 hl6 HA3 hk6 hf6
  go_wp2_with fail
  refine HA4.out.mono ?_
  rintro _ w7 h7
  obtain ⟨F7, rfl, hl7⟩ := h7.full (by simp) (by rw [List.length_replicate]; decide)
  have HL7 := Lib.hid hl7
  clear h7 hl7 HA4
  go_wp2_with fail
  refine (ND1.out _).mono ?_
  rintro _ _ ⟨rfl, rfl⟩
  go_wp2_with fail
  refine (ND2.out _).mono ?_
  rintro _ _ ⟨rfl, rfl⟩
  go_wp2
  go_ret
  exact ⟨rfl, HL7.out.dw.bl⟩
end Go.Proofs.Ytmgakmdcncemoaa
