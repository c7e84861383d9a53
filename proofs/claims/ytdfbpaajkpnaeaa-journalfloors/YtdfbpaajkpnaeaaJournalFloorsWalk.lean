
/- The walk of falseworklaw12.JournalFloors. -/
import Derived.Test.YtdfbpaajkpnaeaaJnMP
import Derived.Deep.DeepCutAuto
import Derived.Deep.CutBlock
namespace Go.Proofs.Ytdfbpaajkpnaeaa
set_option maxRecDepth 100000
open Go.RowKit Go.Lib

theorem cont_span6 {f : Nat} (hf : f < 18446744073709551616) {st : List UInt8} (h : st.length ≤ 200) : (spanN ((cont f st).length + 4) : Int) ≤ 6 := by
  have := cont_len hf st
  unfold spanN
  rw [if_pos (by omega)]
  omega
set_option maxRecDepth 100000 in
set_option maxHeartbeats 12800000 in
theorem journalFloors_walk (wb : World) (a0 : Option Addr) (n0 c0 : Nat) (l0 : List Bs) (h0 : CameBs wb a0 n0 l0) (a1 : Option Addr) (n1 c1 : Nat) (l1 : List Bs) (h1 : CameBs wb a1 n1 l1) :
    Calls Try.prog 5 #[.slice a0 n0 c0, .slice a1 n1 c1] wb fun e w' => e = .returned (.bool true) ∧ RowKit.Below wb.heap.size wb w' := by
  have HL0 := Lib.hid h0
  have HL1 := Lib.hid h1
  have HM0 := Lib.hid h0.ln
  have HM1 := Lib.hid h1.ln
  have A := Lib.hid (journalAlive_any wb)
  clear h0 h1
  go_enter Try.func5, Try.ntmps5
  go_wp2_with fail
  refine A.out.mono ?_
  rintro _ w1 ⟨rfl, hb1⟩
  have HB1 := Lib.hid hb1
  clear hb1 A
  by_cases h10 : 10 < n0
  · have e0 : decide ((10 : Int) < (n0 : Int)) = true := by simp; omega
    clear h10
    go_wp2
    go_ret
    exact ⟨rfl, HB1.out⟩
  · by_cases h11 : 10 < n1
    · have e0 : decide ((10 : Int) < (n0 : Int)) = false := by simp; omega
      have e1 : decide ((10 : Int) < (n1 : Int)) = true := by simp; omega
      clear h10 h11
      go_wp2
      go_ret
      exact ⟨rfl, HB1.out⟩
    · have e0 : decide ((10 : Int) < (n0 : Int)) = false := by simp; omega
      have e1 : decide ((10 : Int) < (n1 : Int)) = false := by simp; omega
      have HN0 := Lib.hid (show n0 ≤ 10 by omega)
      have HN1 := Lib.hid (show n1 ≤ 10 by omega)
      have B := Lib.hid (blank_any 60 w1)
      clear h10 h11
      go_wp2_with fail
      refine B.out.mono ?_
      rintro _ w2 ⟨g, F2, rfl, hd2, hb2, hf2⟩
      have HD2 := Lib.hid (show DW wb w2 F2 g (Dk.blank 60) from ⟨hd2, fun i hi => Nat.le_trans HB1.out.size (hf2 i hi), HB1.out.trans (hb2.mono HB1.out.size)⟩)
      have HFM := Lib.hid (jl_format (s := 6) (st := []) (a := none) (len := 0) (cap := 0) HD2.out (by omega) (by decide) (Or.inl rfl) rfl (fun _ => rfl) (by decide) (cont_span6 (by omega) (by simp)))
      clear hd2 hb2 hf2 B e0 e1
      go_wp2_with fail
      refine HFM.out.mono ?_
      rintro _ w3 ⟨F3, b, lb3, d3, rfl, lv3, hf3, hl3, hj3⟩
      have HJ3 := Lib.hid hj3
      have HV3 := Lib.hid lv3
      have HF3 := Lib.hid hf3
      have HS3 := Lib.hid (show d3.base.length = 60 from hl3)
      clear lv3 hf3 hl3 hj3 HFM
      go_wp2
      go_loopw [45] (fun c45 wr => ∃ (k : Nat) (F : Nat → Prop) (lb : Nat) (d : Dk) (x : Int) (m f : Nat) (st : List UInt8), c45 = .int .i64 (k : Int) ∧ k ≤ n0 ∧ Hid (JL wb wr F g b lb d 6 x (f + 1 + ([] : List (List UInt8)).length) true) ∧ Hid (Lv d 6 x m f st []) ∧ Hid (d.fuse < 0) ∧ Hid (d.base.length = 60) ∧ Hid (x = 12) ∧ Hid (m ≤ 1 + k) ∧ Hid (f ≤ 10 * k)) (fun c45 _ => n0 - (match c45 with | .int _ q => q | _ => 0).toNat)
      case atStart => exact ⟨0, F3, lb3, d3, 2 * 6, 1, 0, [], rfl, Nat.zero_le _, HJ3.out, HV3.out, HF3.out, HS3.out, rfl, Nat.le_refl _, Nat.le_refl _⟩
      case round =>
        clear HJ3 HV3 HF3 HS3
        obtain ⟨k, F, lb, d, x, m, f, st, rfl, hk, HJ, HV, HFU, HS, HX, HM, HFF⟩ := hrel
        have hk10 : k ≤ 10 := Nat.le_trans hk HN0.out
        have HK10 := Lib.hid hk10
        clear hk10
        by_cases hlt : k < n0
        · obtain ⟨q0, hq0⟩ : ∃ q, l0[k]? = some q := ⟨_, List.getElem?_eq_getElem (by rw [HM0.out]; exact hlt)⟩
          obtain ⟨bb, ob, ha0, hcell⟩ := (HL0.out.below HJ.out.bl).get hq0
          have HQ0 := Lib.hid (HL0.out.gd q0 (List.mem_of_getElem? hq0))
          obtain ⟨sa, sn, sc, sb⟩ := q0
          simp only at hcell HQ0
          subst ha0
          have HSN := Lib.hid HQ0.out.ln
          clear hq0
          by_cases h200 : 200 < sn
          · have e0 : decide ((200 : Int) < (sn : Int)) = true := by simp; omega
            clear h200
            go_wp2
            try rw [Exit.noGoto_ret]
            go_ret
            exact ⟨rfl, HJ.out.bl⟩
          · have e0 : decide ((200 : Int) < (sn : Int)) = false := by simp; omega
            have HSL := Lib.hid (show sb.length ≤ 200 by have := HSN.out; omega)
            have HOS := Lib.hid (OJ.start HJ.out)
            have HJS := Lib.hid (HJ.out.below ((RowKit.Below.refl wr.heap.size wr).alloc (Nat.le_refl _) (.cells #[] 9)))
            clear h200
            go_wp2
            go_loopw [10, 55] (fun c10 c55 wr => ∃ (i : Nat) (a : Option Addr) (c mm : Nat) (F : Nat → Prop) (lb : Nat) (d : Dk) (x : Int) (K : List (List UInt8)), c10 = .slice a mm c ∧ c55 = .int .i64 (i : Int) ∧ i ≤ n1 ∧ mm ≤ i ∧ Hid (mm = K.length) ∧ Hid (JL wb wr F g b lb d 6 x (f + 1 + K.length) true) ∧ Hid (Lv d 6 x m f st K) ∧ Hid (OJ wb wr F b lb (.slice a mm c) K) ∧ Hid (d.fuse < 0) ∧ Hid (d.base.length = 60)) (fun _ c55 _ => n1 - (match c55 with | .int _ q => q | _ => 0).toNat)
            case atStart => exact ⟨0, _, 0, 0, F, lb, d, x, [], rfl, rfl, Nat.zero_le _, Nat.le_refl _, rfl, HJS.out, HV.out, HOS.out, HFU.out, HS.out⟩
            case round =>
              clear HOS HJS HJ HV HFU HS hcell
              obtain ⟨i, a, c, mm, F, lb, d, x, K, rfl, rfl, hi, hmi, HMK, HJ, HV, HO, HFU, HS⟩ := hrel
              have hi10 : i ≤ 10 := Nat.le_trans hi HN1.out
              by_cases hlt2 : i < n1
              · obtain ⟨q9, hq9⟩ : ∃ q, l1[i]? = some q := ⟨_, List.getElem?_eq_getElem (by rw [HM1.out]; exact hlt2)⟩
                obtain ⟨b9, o9, ha1, hcell⟩ := (HL1.out.below HJ.out.bl).get hq9
                have HQ := Lib.hid (HL1.out.gd q9 (List.mem_of_getElem? hq9))
                obtain ⟨qa, qn, qc, qb⟩ := q9
                simp only at hcell HQ
                subst ha1
                have HAP := Lib.hid ((jl_append (a := qa) (len := qn) (cap := qc) (l := qb) HJ.out HV.out (by have := HFF.out; have := HMK.out; have := HK10.out; omega) (HQ.out.below HJ.out.bl).row HQ.out.ln HQ.out.none).mono fun e w' k => k.quiet HFU.out)
                have HQN := Lib.hid HQ.out.ln
                clear hq9
                by_cases h300 : 300 < qn
                · have e3 : decide ((300 : Int) < (qn : Int)) = true := by simp; omega
                  clear h300
                  go_wp2
                  try rw [Exit.noGoto_ret]
                  go_ret
                  exact ⟨rfl, HJ.out.bl⟩
                · have e3 : decide ((300 : Int) < (qn : Int)) = false := by simp; omega
                  clear h300
                  go_wp2_with fail
                  refine HAP.out.mono ?_
                  rintro _ w9 ⟨E, F9, lb9, d9, rfl, hfr, ⟨hE, _, hj9⟩ | ⟨rfl, lv9, hf9, hl9, hj9⟩⟩
                  · have d0 : (E == 0) = false := by simpa using hE
                    have HO9 := Lib.hid (HO.out.next hfr)
                    have HJ9 := Lib.hid hj9
                    clear hE hfr hj9 HAP
                    go_wp2
                    go_roundw
                    case rel => exact ⟨i + 1, a, c, mm, F9, lb9, d, x, K, rfl, by go_num, by omega, by omega, HMK, HJ9, HV, HO9, HFU, HS⟩
                    case measure => simp; omega
                  · have HO9 := Lib.hid (HO.out.next hfr)
                    have HJ9 := Lib.hid hj9
                    have HV9 := Lib.hid lv9
                    have HF9 := Lib.hid hf9
                    have HS9 := Lib.hid (hl9.trans HS.out)
                    have HOW := Lib.hid (show w9.ownsRow wb.heap.size 9 1 (.slice a mm c) mm (K.map sv) by have := HO9.out.ow; unfold Own at this; rwa [← HMK.out] at this)
                    have cv := run_conv (w := w9) (HQ.out.row.below hj9.bl) qn qc HQN.out
                    have hm20 : mm + 1 ≤ 1000000 := by omega
                    clear lv9 hf9 hl9 hj9 hfr HAP
                    go_wp2_with (at_builtin; refine wpList_appO elT rfl _ _ rfl wb.heap.size (.slice a mm c) mm (K.map sv) (some ⟨w9.heap.size, 0, none⟩) 1 1 [sv qb] rfl rfl (ow_same HOW.out fun i hi => heap_alloc_old w9 _ (HOW.out.lt i hi).2) rfl (lie_new w9 [sv qb] 9) (fun e => by cases e) (fun u hu => by rw [List.mem_singleton.1 hu]; rfl) hm20 (by decide) (by simp; exact Nat.le_of_lt (Nat.lt_succ_of_le HJ9.out.bl.size)) ?_; intro v7 w7' h7; obtain ⟨a7, c7, rfl⟩ := appd_form h7; refine Hid.out ?_)
                    obtain ⟨ho7, hj7⟩ := HO9.out.app HJ9.out (by rw [← HMK.out]; exact h7)
                    have HO7 := Lib.hid ho7
                    have HJ7 := Lib.hid hj7
                    have HM7 := Lib.hid (show mm + 1 = (K ++ [qb]).length by rw [List.length_append, HMK.out]; rfl)
                    refine Lib.hid ?_
                    clear h7 ho7 hj7 cv
                    go_wp2
                    go_roundw
                    case rel => exact ⟨i + 1, a7, c7, mm + 1, F9, lb9, d9, _, K ++ [qb], rfl, by go_num, by omega, by omega, HM7, HJ7, HV9, HO7, HF9, HS9⟩
                    case measure => simp; omega
              · obtain rfl : i = n1 := by omega
                have HMM := Lib.hid (show mm ≤ 10 by omega)
                have hFF := HFF.out
                have hKK := HK10.out
                have hmk := HMK.out
                have HOP := Lib.hid (jl_again HJ.out.dw HV.out (by omega))
                clear hlt2 hi hmi hi10 hFF hKK hmk
                go_wp2_with fail
                refine HOP.out.mono ?_
                rintro _ w4 ⟨b4, lb4, a4, k4, a5, k5, rfl, hb4, _, _, _, _, _, hrec, _⟩
                have HJ4 := Lib.hid (HJ.out.below hb4)
                obtain ⟨a6, c6, e6, hbs⟩ := hrec.bs
                cases e6
                have HSM := Lib.hid (show Calls Try.prog 19 #[.slice a5 K.length k5, .slice a mm c] w4 (fun e w' => e = .returned (.bool true) ∧ RowKit.Below w4.heap.size w4 w') by
                  obtain ⟨a8, c8, e8, hr8⟩ := own_rat (HO.out.below hb4).ow
                  injection e8 with h1 h2 h3
                  subst h1 h3
                  have := same10_any K K a5 a k5 c w4 hbs hr8 (by rw [← HMK.out]; have := HMM.out; omega)
                  rw [← HMK.out] at this ⊢
                  simpa using this)
                clear hrec hbs hb4 HOP
                obtain ⟨N2, hN2⟩ : ∃ N2, N2 = K.length := ⟨_, rfl⟩
                rw [← hN2] at HSM
                rw [← hN2]
                clear hN2
                go_wp2_with fail
                refine HSM.out.mono ?_
                rintro _ w5 ⟨rfl, hb5⟩
                have HCM := Lib.hid ((jl_compact (st1 := sb) (a := sa) (len := sn) (cap := sc) (HJ4.out.below hb5) HV.out (by have := HFF.out; have := HMK.out; have := HK10.out; have := HMM.out; omega) (by have := HM.out; have := HK10.out; omega) (HQ0.out.below (HJ4.out.below hb5).bl).row HSN.out HQ0.out.none (by have := HSL.out; have := HSN.out; omega)).mono fun e w' k => k.quiet HFU.out (by have := HSL.out; omega) (cont_span6 (by have := HFF.out; have := HMK.out; have := HK10.out; have := HMM.out; omega) HSL.out))
                clear hb5 HSM
                go_wp2_with fail
                refine HCM.out.mono ?_
                rintro _ w6 ⟨F6, lb6, d6, rfl, _, lv6, hf6, hl6, hj6⟩
                have HJ6 := Lib.hid hj6
                have HV6 := Lib.hid lv6
                have HF6 := Lib.hid hf6
                have HS6 := Lib.hid (hl6.trans HS.out)
                have HOP := Lib.hid (jl_again hj6.dw lv6 (by have := HFF.out; have := HMK.out; have := HK10.out; have := HMM.out; simp; omega))
                clear lv6 hf6 hl6 hj6 HCM
                go_wp2_with fail
                refine HOP.out.mono ?_
                rintro _ w7 ⟨b7, lb7, a7, k7, a8, k8, rfl, hb7, _, _, hst, hk7, hn7, _, _⟩
                have HJ7 := Lib.hid (HJ6.out.below hb7)
                have HRM := Lib.hid (show Calls Try.prog 12 #[.pointer (some ⟨b, 0, none⟩)] w7 (fun e w' => e = .returned (.int .i64 48) ∧ RowKit.Below w7.heap.size w7 w') by
                  have := jroom_yes w7 F6 g b lb6 d6 6 (2 * 6) (d6.base.length : Int) _ HJ7.out.jm (by omega) (by rw [HS6.out]; omega)
                  rw [HS6.out] at this
                  exact this)
                have cv1 := run_conv (w := w7) hst sb.length k7 rfl
                have cv2 := run_conv (w := w7) (HQ0.out.row.below HJ7.out.bl) sn sc HSN.out
                clear hb7 hst hk7 hn7 HOP
                obtain ⟨N3, hN3⟩ : ∃ N3, N3 = sb.length := ⟨_, rfl⟩
                rw [← hN3] at cv1
                rw [← hN3]
                clear hN3
                go_wp2_with fail
                refine HRM.out.mono ?_
                rintro _ w8 ⟨rfl, hb8⟩
                have HJ8 := Lib.hid (HJ7.out.below hb8)
                clear hb8 HRM cv1 cv2
                have hk10 := HK10.out
                go_wp2
                go_roundw
                case rel => exact ⟨k + 1, F6, lb6, d6, _, _, _, sb, by go_num, by omega, HJ8, HV6, HF6, HS6, rfl, by have := HM.out; show m + 1 ≤ 1 + (k + 1); omega, by have := HFF.out; have := HMK.out; have := HMM.out; show f + K.length ≤ 10 * (k + 1); omega⟩
                case measure => simp; omega
        · obtain rfl : k = n0 := by omega
          clear hlt hk
          go_wp2
          go_ret
          exact ⟨rfl, HJ.out.bl⟩
end Go.Proofs.Ytdfbpaajkpnaeaa
