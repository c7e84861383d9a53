
/- The walk of falseworklaw12.JournalNames. -/
import Derived.Test.YtdfbpaajkpnaeaaJnO
import Derived.Test.YtdfbpaajkpnaeaaSmL
namespace Go.Proofs.Ytdfbpaajkpnaeaa
set_option maxRecDepth 100000
open Go.RowKit Go.Lib

theorem jformat_no (g : Nat) (F : Nat → Prop) (d : Dk) (s : Int) (w : World) (h : DAt w F g d) (hs : I s) (hc : canJ d s = false) (hq : d.queue.length < 9700) :
    Calls Try.prog 7 #[.pointer (some ⟨g, 0, none⟩), .int .i64 s, .slice none 0 0] w fun e w' => e = .returned (.tuple #[.pointer none, .int .i64 121]) ∧ w = w' := by
  refine (jformat_any g F d s 0 [] none 0 0 w h hs (fun e => by rw [hc] at e; cases e) (Or.inl rfl) rfl (fun _ => rfl) (by omega) hq).mono ?_
  rintro e w' (⟨_, h1, h2⟩ | ⟨q, _⟩ | ⟨q, _⟩)
  · exact ⟨h1, h2⟩
  · rw [hc] at q; cases q
  · rw [hc] at q; cases q
set_option maxRecDepth 100000 in
set_option maxHeartbeats 3200000 in
theorem journalNames_walk (w : World) : Calls Try.prog 3 #[] w fun e w' => e = .returned (.bool true) ∧ RowKit.Below w.heap.size w w' := by
  have A := Lib.hid (journalAlive_any w)
  have mk2 : ∀ W : World, (Instr.makeSlice 29 (.int .i64 12289) (.int .i64 12289)).run Try.prog W = .ok (.slice (some ⟨W.heap.size, 0, none⟩) 12289 12289) (W.alloc (zeroB 12289)) := fun W => mk_bytes 12289 (by omega) W
  have mk3 : ∀ W : World, (Instr.makeSlice 29 (.int .i64 200) (.int .i64 200)).run Try.prog W = .ok (.slice (some ⟨W.heap.size, 0, none⟩) 200 200) (W.alloc (zeroB 200)) := fun W => mk_bytes 200 (by omega) W
  obtain ⟨Z, hZ⟩ : ∃ Z, Z = zeroB := ⟨_, rfl⟩
  rw [← hZ] at mk2 mk3
  have HZ := Lib.hid (fun (n : Nat) (W : World) => show BAt (W.alloc (Z n)) (some ⟨W.heap.size, 0, none⟩) (List.replicate n 0) by rw [hZ]; exact zeroB_at n W)
  clear hZ
  go_enter Try.func3, Try.ntmps3
  go_wp2_with fail
  refine A.out.mono ?_
  rintro _ w1 ⟨rfl, hb1⟩
  have HB1 := Lib.hid hb1
  have B := Lib.hid (blank_any 4 w1)
  clear hb1 A
  go_wp2_with fail
  refine B.out.mono ?_
  rintro _ w2 ⟨g2, F2, rfl, hd2, hb2, _⟩
  have HB2 := Lib.hid (HB1.out.trans (hb2.mono HB1.out.size))
  have HN := Lib.hid (jformat_no g2 F2 (Dk.blank 4) 2 w2 hd2 (by unfold I; omega) (by decide) (by show 0 < 9700; omega))
  clear hd2 hb2 B
  go_wp2_with fail
  refine HN.out.mono ?_
  rintro _ _ ⟨rfl, rfl⟩
  have B := Lib.hid (blank_any 9 w2)
  clear HN
  go_wp2_with fail
  refine B.out.mono ?_
  rintro _ w3 ⟨g3, F3, rfl, hd3, hb3, _⟩
  have HB3 := Lib.hid (HB2.out.trans (hb3.mono HB2.out.size))
  have HN := Lib.hid (jformat_no g3 F3 (Dk.blank 9) 0 w3 hd3 (by unfold I; omega) (by decide) (by show 0 < 9700; omega))
  clear hd3 hb3 B
  go_wp2_with fail
  refine HN.out.mono ?_
  rintro _ _ ⟨rfl, rfl⟩
  have B := Lib.hid (blank_any 9 w3)
  clear HN
  go_wp2_with fail
  refine B.out.mono ?_
  rintro _ w4 ⟨g4, F4, rfl, hd4, hb4, _⟩
  have HB4 := Lib.hid (HB3.out.trans (hb4.mono HB3.out.size))
  have e0 : (Dk.blank 9).slot 0 2 = (Gen.none, 111) := by
    rcases (show Sl (Dk.blank 9) 0 2 0 [] from Sl.blank (by omega) (by omega) (by omega) (by omega) (by omega)).cur with ⟨_, e⟩ | ⟨e, _⟩
    · exact e
    · exact absurd rfl e
  have HO := Lib.hid (show Calls Try.prog 9 #[.pointer (some ⟨g4, 0, none⟩), .int .i64 2] w4 (fun e w' => e = .returned (.tuple #[.pointer none, .slice none 0 0, .slice none 0 0, .int .i64 111]) ∧ RowKit.Below w4.heap.size w4 w') by
    refine (jopen_any g4 F4 (Dk.blank 9) 2 w4 hd4 (by unfold I; omega)).mono ?_
    rintro e w' (⟨⟨q, _⟩ | ⟨_, _, h1⟩ | ⟨_, q, _⟩, h2⟩ | ⟨_, q, _⟩)
    · exact absurd q (by decide)
    · rw [e0] at h1
      exact ⟨h1, h2⟩
    · rw [e0] at q; cases q
    · rw [e0] at q; cases q)
  clear hd4 hb4 B e0
  go_wp2_with fail
  refine HO.out.mono ?_
  rintro _ w5 ⟨rfl, hb5⟩
  have HB5 := Lib.hid (HB4.out.trans (hb5.mono HB4.out.size))
  have B := Lib.hid (blank_any 9 w5)
  clear hb5 HO
  go_wp2_with fail
  refine B.out.mono ?_
  rintro _ w6 ⟨g, F, rfl, hd6, hb6, hf6⟩
  have HD6 := Lib.hid (show DW w w6 F g (Dk.blank 9) from ⟨hd6, fun i hi => Nat.le_trans HB5.out.size (hf6 i hi), HB5.out.trans (hb6.mono HB5.out.size)⟩)
  have HFM := Lib.hid (jl_format (s := 2) (st := []) (a := none) (len := 0) (cap := 0) HD6.out (by omega) (by decide) (Or.inl rfl) rfl (fun _ => rfl) (by decide) (by rw [show (cont 0 []).length = 1 from by unfold cont; rw [uv_zero]; rfl]; decide))
  clear hd6 hb6 hf6 B
  go_wp2_with fail
  refine HFM.out.mono ?_
  rintro _ w7 ⟨F7, b, lb, d, rfl, lv, hf, hl, hj⟩
  have HJ7 := Lib.hid hj
  have HLV := Lib.hid lv
  have HFU := Lib.hid hf
  have HLN := Lib.hid hl
  have HC1 := Lib.hid (fun (W : World) (hb : RowKit.Below w7.heap.size w7 W) (q : Nat) (h : BAt W (some ⟨q, 0, none⟩) (List.replicate 12289 0)) => jl_compact (hj.below hb) lv (by simp) (by omega) h (len := 12289) (cap := 12289) List.length_replicate (fun e => by cases e) (by omega))
  clear lv hf hl hj HFM
  go_wp2_with fail
  refine (HC1.out _ ((RowKit.Below.refl _ _).alloc (Nat.le_refl _) _) _ (HZ.out _ _)).mono ?_
  rintro _ w8 ⟨E, F8, lb8, d8, rfl, _, ⟨⟨rfl, _⟩ | ⟨_, q, _⟩, hj8⟩ | ⟨_, q, _⟩ | ⟨_, q, _⟩⟩
  case inl.inr => rw [List.length_replicate] at q; omega
  case inr.inl => rw [List.length_replicate] at q; omega
  case inr.inr => rw [List.length_replicate] at q; omega
  have HJ8 := Lib.hid hj8
  have HC2 := Lib.hid (fun (W : World) (hb : RowKit.Below w8.heap.size w8 W) (q : Nat) (h : BAt W (some ⟨q, 0, none⟩) (List.replicate 200 0)) => jl_compact (hj8.below hb) HLV.out (by simp) (by omega) h (len := 200) (cap := 200) List.length_replicate (fun e => by cases e) (by omega))
  have hcl : (spanN ((cont (0 + ([] : List (List UInt8)).length) (List.replicate 200 0)).length + 4) : Int) = 4 := by
    rw [show (cont (0 + ([] : List (List UInt8)).length) (List.replicate 200 0)).length = 201 from by unfold cont; rw [show (0 + ([] : List (List UInt8)).length) = 0 from rfl, uv_zero, List.length_append, List.length_replicate]; rfl]
    decide
  have HCL := Lib.hid hcl
  clear hj8 HC1 hcl
  go_wp2_with fail
  refine (HC2.out _ ((RowKit.Below.refl _ _).alloc (Nat.le_refl _) _) _ (HZ.out _ _)).mono ?_
  rintro _ w9 ⟨E, F9, lb9, d9, rfl, _, ⟨⟨_, q⟩ | ⟨rfl, _, _⟩, hj9⟩ | ⟨_, _, q, _⟩ | ⟨_, _, q, _⟩⟩
  case inl.inl => rw [List.length_replicate] at q; omega
  case inr.inl => rw [HCL.out] at q; omega
  case inr.inr => rw [HCL.out] at q; omega
  have HJ9 := Lib.hid hj9
  have HOP := Lib.hid (jl_again hj9.dw HLV.out (by simp))
  clear hj9 HC2
  go_wp2_with fail
  refine HOP.out.mono ?_
  rintro _ w10 ⟨b2, lb2, a2, k2, a3, k3, rfl, hb10, _, _, _, _, _, _, hj10⟩
  have HJ10 := Lib.hid hj10
  have HJJ := Lib.hid (HJ9.out.below hb10)
  have HAP := Lib.hid (jappend_no b2 (.slice none 0 0) w10 hj10.jm.ja.cells.2.2.2)
  have HRM := Lib.hid (jroom_no b2 w10 hj10.jm.ja.cells.2.2.2)
  have hb9 : (d.base.length : Int) = 9 := by rw [HLN.out]; rfl
  have HRJ := Lib.hid (show Calls Try.prog 12 #[.pointer (some ⟨b, 0, none⟩)] w10 (fun e w' => e = .returned (.int .i64 5) ∧ RowKit.Below w10.heap.size w10 w') by
    have := jroom_yes w10 F9 g b lb9 d 2 (2 * 2) (d.base.length : Int) _ HJJ.out.jm (by omega) (by rw [hb9]; omega)
    rw [hb9] at this
    exact this)
  have HC3 := Lib.hid (fun (W : World) (hb : RowKit.Below w10.heap.size w10 W) => (jl_compact (st1 := []) (a := none) (len := 0) (cap := 0) (hj10.below hb) HLV.out (by simp) (by omega) (Or.inl rfl) rfl (fun _ => rfl) (by omega)).mono fun e w' k => k.quiet HFU.out (by decide) (by rw [show (cont (0 + ([] : List (List UInt8)).length) []).length = 1 from by unfold cont; rw [show (0 + ([] : List (List UInt8)).length) = 0 from rfl, uv_zero]; rfl]; decide))
  clear hb10 hj10 hb9 HOP
  go_wp2_with fail
  refine HAP.out.mono ?_
  rintro _ _ ⟨rfl, rfl⟩
  clear HAP
  go_wp2_with fail
  refine HRM.out.mono ?_
  rintro _ _ ⟨rfl, rfl⟩
  clear HRM
  go_wp2_with fail
  refine HRJ.out.mono ?_
  rintro _ w11 ⟨rfl, hb11⟩
  have HC4 := Lib.hid (HC3.out w11 hb11)
  clear hb11 HRJ HC3
  go_wp2_with fail
  refine HC4.out.mono ?_
  rintro _ w12 ⟨F12, lb12, d12, rfl, _, _, _, _, hj12⟩
  have HJ12 := Lib.hid hj12
  have HRD := Lib.hid (jready_lv hj12.jm)
  clear hj12 HC4
  go_wp2_with fail
  refine HRD.out.mono ?_
  rintro _ _ ⟨rfl, rfl⟩
  clear HRD
  go_wp2
  go_ret
  exact ⟨rfl, HJ12.out.bl⟩
end Go.Proofs.Ytdfbpaajkpnaeaa
