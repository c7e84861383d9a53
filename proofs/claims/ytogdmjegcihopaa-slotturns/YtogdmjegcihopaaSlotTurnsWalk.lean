
/- The walk of falseworklaw11.SlotTurns. -/
import Derived.Test.YtogdmjegcihopaaSlG
import Derived.Test.YtogdmjegcihopaaLgO
namespace Go.Proofs.Ytogdmjegcihopaa
set_option maxRecDepth 100000
open Go.RowKit Go.Lib

set_option maxRecDepth 100000 in
set_option maxHeartbeats 3200000 in
theorem slotTurns_walk (w : World) (a1 : Option Addr) (n1 c1 : Nat) (l : List Bs) (hl : CameBs w a1 n1 l) :
    Calls Try.prog 6 #[.slice a1 n1 c1] w fun e w' => e = .returned (.bool true) ∧ RowKit.Below w.heap.size w w' := by
  have HC := Lib.hid hl
  have A := Lib.hid (slotAlive_any w)
  have HM := Lib.hid hl.ln
  clear hl
  go_enter Try.func6, Try.ntmps6
  go_wp2_with fail
  refine A.out.mono ?_
  rintro _ w1 ⟨rfl, hb1⟩
  have HB1 := Lib.hid hb1
  clear hb1 A
  by_cases h20 : 20 < n1
  · have d0 : decide ((20 : Int) < (n1 : Int)) = true := by simp; omega
    clear h20
    go_wp2
    go_ret
    exact ⟨rfl, HB1.out⟩
  · have d0 : decide ((20 : Int) < (n1 : Int)) = false := by simp; omega
    have HN := Lib.hid h20
    have B := Lib.hid (blank_any 40 w1)
    clear h20
    go_wp2_with fail
    refine B.out.mono ?_
    rintro _ w2 ⟨g, F, rfl, hd, hb2, hf⟩
    have HD2 := Lib.hid (show DW w w2 F g (Dk.blank 40) from ⟨hd, fun i hi => Nat.le_trans HB1.out.size (hf i hi), HB1.out.trans (hb2.mono HB1.out.size)⟩)
    have HK2 := Lib.hid (show Sl (Dk.blank 40) 0 20 0 [] from Sl.blank (by omega) (by omega) (by omega) (by omega) (by omega))
    clear hd hb2 hf B d0
    go_wp2_with fail
    go_loopw [19] (fun c19 wr => ∃ (k : Nat) (F : Nat → Prop) (d : Dk) (b : List UInt8), c19 = .int .i64 (k : Int) ∧ k ≤ n1 ∧ Hid (DW w wr F g d) ∧ Hid (Sl d 0 20 k b)) (fun c19 _ => n1 - (match c19 with | .int _ q => q | _ => 0).toNat)
    case atStart => exact ⟨0, F, _, [], rfl, Nat.zero_le _, HD2.out, HK2.out⟩
    case round =>
      clear HD2 HK2 HB1
      obtain ⟨k, F, d, b, rfl, hk, HD, HK⟩ := hrel
      by_cases hlt : k < n1
      · obtain ⟨q, hq⟩ : ∃ q, l[k]? = some q := ⟨_, List.getElem?_eq_getElem (by rw [HM.out]; exact hlt)⟩
        obtain ⟨bb, ob, ha1, hcell⟩ := (HC.out.below HD.out.bl).get hq
        have HQ := Lib.hid ((HC.out.gd q (List.mem_of_getElem? hq)).below HD.out.bl)
        have HQ0 := Lib.hid (HC.out.gd q (List.mem_of_getElem? hq))
        obtain ⟨qa, qn, qc, qb⟩ := q
        simp only at hcell HQ HQ0
        subst ha1
        have HK20 := Lib.hid (show k < 20 by have := HN.out; omega)
        clear hq
        by_cases h9 : 900 < qn
        · have d0 : decide ((900 : Int) < (qn : Int)) = true := by simp; omega
          clear h9
          go_wp2
          try rw [Exit.noGoto_ret]
          go_ret
          exact ⟨rfl, HD.out.bl⟩
        · have d0 : decide ((900 : Int) < (qn : Int)) = false := by simp; omega
          have hsp : (spanN (qn + 4) : Int) ≤ 20 := by unfold spanN; rw [if_pos (by omega)]; omega
          have HW := Lib.hid (sl_write HD.out HK.out (by have := HK20.out; omega) HQ.out.row (len := qn) (cap := qc) HQ.out.ln HQ.out.none (by omega) hsp (by unfold I; omega) (by unfold I; omega))
          clear h9 hsp
          go_wp2_with fail
          refine HW.out.mono ?_
          rintro _ w5 ⟨rfl, F5, d5, hd5, hk5, _⟩
          have HD5 := Lib.hid hd5
          have HK5 := Lib.hid hk5
          have HRD := Lib.hid (sl_read hd5 hk5 (by omega) (by unfold I; omega) (by unfold I; omega))
          have HLN := Lib.hid HQ.out.ln
          clear hd5 hk5 HW
          go_wp2_with fail
          refine HRD.out.mono ?_
          rintro _ w6 ⟨a6, c6, rfl, hba, hb6⟩
          have HD6 := Lib.hid (HD5.out.below hb6)
          have cv1 := run_conv (w := w6) hba qb.length c6 rfl
          have cv2 := run_conv (w := w6) (HQ0.out.below HD6.out.bl).row qn qc HQ0.out.ln
          have HK20' := HK20.out
          clear hba hb6 HRD
          go_wp2
          go_roundw
          case rel => exact ⟨k + 1, F5, d5, qb, by go_num, by omega, HD6.out, HK5.out⟩
          case measure => simp; omega
      · have hkn : k = n1 := by omega
        go_wp2
        go_ret
        exact ⟨rfl, HD.out.bl⟩
end Go.Proofs.Ytogdmjegcihopaa
