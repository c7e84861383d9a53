
/- The walk of falseworklaw11.SlotNames. -/
import Derived.Test.YtogdmjegcihopaaSlG
import Derived.Test.YtogdmjegcihopaaSmL
namespace Go.Proofs.Ytogdmjegcihopaa
set_option maxRecDepth 100000
open Go.RowKit Go.Lib

set_option maxRecDepth 100000 in
set_option maxHeartbeats 1600000 in
theorem slotNames_walk (w : World) : Calls Try.prog 3 #[] w fun e w' => e = .returned (.bool true) ∧ RowKit.Below w.heap.size w w' := by
  have B := Lib.hid (blank_any 6 w)
  have mk2 : ∀ W : World, (Instr.makeSlice 24 (.int .i64 50) (.int .i64 50)).run Try.prog W = .ok (.slice (some ⟨W.heap.size, 0, none⟩) 50 50) (W.alloc (zeroB 50)) := fun W => mk_bytes 50 (by omega) W
  have mk3 : ∀ W : World, (Instr.makeSlice 24 (.int .i64 49) (.int .i64 49)).run Try.prog W = .ok (.slice (some ⟨W.heap.size, 0, none⟩) 49 49) (W.alloc (zeroB 49)) := fun W => mk_bytes 49 (by omega) W
  obtain ⟨Z, hZ⟩ : ∃ Z, Z = zeroB := ⟨_, rfl⟩
  rw [← hZ] at mk2 mk3
  have HZ := Lib.hid (fun (n : Nat) (W : World) => show BAt (W.alloc (Z n)) (some ⟨W.heap.size, 0, none⟩) (List.replicate n 0) by rw [hZ]; exact zeroB_at n W)
  clear hZ
  go_enter Try.func3, Try.ntmps3
  go_wp2_with fail
  refine B.out.mono ?_
  rintro _ w1 ⟨g, F, rfl, hd, hb1, hf⟩
  have HD1 := Lib.hid (show DW w w1 F g (Dk.blank 6) from ⟨hd, hf, hb1⟩)
  have HK1 := Lib.hid (show Sl (Dk.blank 6) 0 1 0 [] from Sl.blank (by omega) (by omega) (by omega) (by omega) (by omega))
  have HR1 := Lib.hid (sread_any g F (Dk.blank 6) 0 3 w1 hd (by unfold I; omega) (by unfold I; omega))
  have e0 : (Dk.blank 6).slot 0 3 = (Gen.none, 111) := by
    rcases (show Sl (Dk.blank 6) 0 3 0 [] from Sl.blank (by omega) (by omega) (by omega) (by omega) (by omega)).cur with ⟨_, e⟩ | ⟨e, _⟩
    · exact e
    · exact absurd rfl e
  rw [e0] at HR1
  clear hd hb1 hf B e0
  go_wp2_with fail
  refine HR1.out.mono ?_
  rintro _ w2 ⟨a2, c2, rfl, _, _, _, hb2⟩
  have HD2 := Lib.hid (HD1.out.below hb2)
  have HW2 := Lib.hid (swrite_any g F (Dk.blank 6) 0 4 [] none 0 0 w2 HD2.out.dt (by unfold I; omega) (by unfold I; omega) (Or.inl rfl) rfl (fun _ => rfl) (by omega) (by show 0 < 9700; omega))
  rw [show (Dk.blank 6).slotW 0 4 [] = (Dk.blank 6, 0, 111) from if_pos (by decide)] at HW2
  clear hb2 HR1
  go_wp2_with fail
  refine HW2.out.mono ?_
  rintro _ w3 ⟨rfl, hdid⟩
  obtain ⟨F3, hd3⟩ := HD2.out.next hdid
  have HD3 := Lib.hid hd3
  have HW3 := Lib.hid (fun (W : World) (hb : RowKit.Below w3.heap.size w3 W) (q : Nat) (h : BAt W (some ⟨q, 0, none⟩) (List.replicate 50 0)) => swrite_any g F3 (Dk.blank 6) 0 1 (List.replicate 50 0) (some ⟨q, 0, none⟩) 50 50 W (HD3.out.below hb).dt (by unfold I; omega) (by unfold I; omega) h List.length_replicate (fun e => by cases e) (by omega) (by show 0 < 9700; omega))
  rw [show (Dk.blank 6).slotW 0 1 (List.replicate 50 0) = (Dk.blank 6, 0, 111) from by
    unfold Dk.slotW
    rw [if_neg (by decide), if_pos (Or.inr (by rw [List.length_replicate]; decide))]] at HW3
  clear hdid hd3 HW2
  go_wp2_with fail
  refine (HW3.out _ ((RowKit.Below.refl _ _).alloc (Nat.le_refl _) _) _ (HZ.out _ _)).mono ?_
  rintro _ w4 ⟨rfl, hdid⟩
  obtain ⟨F4, hd4⟩ := (HD3.out.below ((RowKit.Below.refl _ _).alloc (Nat.le_refl _) (Z 50))).next hdid
  have HD4 := Lib.hid hd4
  have HW4 := Lib.hid (fun (W : World) (hb : RowKit.Below w4.heap.size w4 W) (q : Nat) (h : BAt W (some ⟨q, 0, none⟩) (List.replicate 49 0)) => sl_write (HD4.out.below hb) HK1.out (by omega) h (len := 49) (cap := 49) List.length_replicate (fun e => by cases e) (by omega) (by decide) (by unfold I; omega) (by unfold I; omega))
  clear hdid hd4 HW3
  go_wp2_with fail
  refine (HW4.out _ ((RowKit.Below.refl _ _).alloc (Nat.le_refl _) _) _ (HZ.out _ _)).mono ?_
  rintro _ w5 ⟨rfl, F5, d5, hd5, hk5, hbl5⟩
  have HD5 := Lib.hid hd5
  have HN5 := Lib.hid (snext_any g F5 d5 5 1 w5 hd5.dt (by unfold I; omega) (by unfold I; omega))
  have e5 : d5.next 5 1 = (0, 111) := by
    have hb6 : (Dk.blank 6).base.length = 6 := by decide
    have : canB d5 5 1 = false := by
      unfold canB
      rw [decide_eq_false]
      rw [hbl5, hb6]
      omega
    unfold Dk.next
    rw [this]
    rfl
  rw [e5] at HN5
  clear hd5 hk5 hbl5 HW4 e5
  go_wp2_with fail
  refine HN5.out.mono ?_
  rintro _ w6 ⟨rfl, hb6⟩
  have HD6 := Lib.hid (HD5.out.below hb6)
  have A := Lib.hid (slotAlive_any w6)
  clear hb6 HN5
  go_wp2_with fail
  refine A.out.mono ?_
  rintro _ w7 ⟨rfl, hb7⟩
  have HD7 := Lib.hid (HD6.out.below hb7)
  clear hb7 A
  go_wp2
  go_ret
  exact ⟨rfl, HD7.out.bl⟩
end Go.Proofs.Ytogdmjegcihopaa
