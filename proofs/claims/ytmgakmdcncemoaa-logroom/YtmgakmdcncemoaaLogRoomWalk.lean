/- The walk of falseworklaw10.LogRoom. -/
import Derived.Test.YtmgakmdcncemoaaLgO
namespace Go.Proofs.Ytmgakmdcncemoaa
open Go.RowKit Go.Lib

theorem appd_form {w : World} {base : Nat} {e : TypeId} {v : Value} {k : Nat} {xs : List Value} {v' : Value} {w' : World} (h : Appd w base e 1 v k xs v' w') : ∃ a c, v' = .slice a k c := by
  obtain ⟨a, c, hv, _⟩ := ow_lie h.1
  exact ⟨a, c, hv⟩
set_option maxRecDepth 100000 in
set_option maxHeartbeats 6400000 in
theorem logRoom_walk (w : World) (n : Int) (_ : (Lit.int .i64 n).wf = true) (a1 : Option Addr) (n1 c1 : Nat) (l : List Bs) (hl : CameBs w a1 n1 l) :
    Calls Try.prog 5 #[.int .i64 n, .slice a1 n1 c1] w fun e w' => e = .returned (.bool true) ∧ RowKit.Below w.heap.size w w' := by
  have HC := Lib.hid hl
  have A := Lib.hid (logAlive_any w)
  have HM := Lib.hid hl.ln
  clear hl
  go_enter Try.func5, Try.ntmps5
  go_wp2_with fail
  refine A.out.mono ?_
  rintro _ w1 ⟨rfl, hb1⟩
  have HB1 := Lib.hid hb1
  clear hb1 A
  have hcs : n < 1 ∨ (1 ≤ n ∧ 60 < n) ∨ (1 ≤ n ∧ n ≤ 60 ∧ 40 < n1) ∨ (1 ≤ n ∧ n ≤ 60 ∧ n1 ≤ 40) := by omega
  rcases hcs with h | ⟨h, h'⟩ | ⟨h, h', h''⟩ | ⟨h, h', h40⟩
  · have e1 : decide (n < 1) = true := by simpa using h
    clear h
    go_wp2
    go_ret
    exact ⟨rfl, HB1.out⟩
  · have e1 : decide (n < 1) = false := by simp; omega
    have e2 : decide (60 < n) = true := by simpa using h'
    clear h h'
    go_wp2
    go_ret
    exact ⟨rfl, HB1.out⟩
  · have e1 : decide (n < 1) = false := by simp; omega
    have e2 : decide (60 < n) = false := by simp; omega
    have e3 : decide ((40 : Int) < (n1 : Int)) = true := by simp; omega
    clear h h' h''
    go_wp2
    go_ret
    exact ⟨rfl, HB1.out⟩
  · have e1 : decide (n < 1) = false := by simp; omega
    have e2 : decide (60 < n) = false := by simp; omega
    have e3 : decide ((40 : Int) < (n1 : Int)) = false := by simp; omega
    have HN := Lib.hid (And.intro h h')
    have B := Lib.hid (blank_any n w1)
    clear h h'
    go_wp2_with fail
    refine B.out.mono ?_
    rintro _ w2 ⟨g, F, rfl, hd, hb2, hf⟩
    have HD2 := Lib.hid (show DW w w2 F g (Dk.blank n) from ⟨hd, fun i hi => Nat.le_trans HB1.out.size (hf i hi), HB1.out.trans (hb2.mono HB1.out.size)⟩)
    have HK2 := Lib.hid (show Kp (Dk.blank n) 0 n 0 5 [] from Kp.blank (by have := HN.out; omega) (by have := HN.out; omega))
    have HO := Lib.hid (show Calls Try.prog 7 #[.pointer (some ⟨g, 0, none⟩), .int .i64 0, .int .i64 n, .int .u64 5] w2 (Opened w F g (Dk.blank n) 0 n 6 [] w2) from kp_open (fl := 5) HD2.out HK2.out (by omega))
    clear hd hb2 hf B e1 e2 e3
    go_wp2_with fail
    refine HO.out.mono ?_
    rintro _ w3 ⟨b, a3, c3, rfl, _, hlw, hb3⟩
    have HL3 := Lib.hid hlw
    have HL4 := Lib.hid (hlw.below ((RowKit.Below.refl w3.heap.size w3).alloc (Nat.le_refl _) (.cells #[] 9)))
    have HO4 := Lib.hid (show OD w (w3.alloc (.cells #[] 9)) F b (.slice (some ⟨w3.heap.size, 0, none⟩) 0 0) [] from ⟨own_start w w3 hlw.dw.bl.size, fun i hi => by
      have hi : w3.heap.size = i := by simpa [Value.ownBlock] using hi
      subst hi
      exact ⟨fun e => by have := hlw.dw.dt.fl _ e; omega, fun e => by have := hlw.lg.lt; omega⟩⟩)
    clear hlw hb3 HO
    go_wp2
    go_loopw [9, 10, 53] (fun c9 c10 c53 wr => ∃ (k : Nat) (F : Nat → Prop) (d : Dk) (x r : Int) (m : Nat) (K : List (List UInt8)) (a : Option Addr) (c : Nat), c9 = .int .i64 r ∧ c10 = .slice a m c ∧ c53 = .int .i64 (k : Int) ∧ k ≤ n1 ∧ Hid (r = n - x) ∧ 0 ≤ r ∧ r ≤ 60 ∧ m ≤ k ∧ Hid (m = K.length) ∧ Hid (LW w wr F g b d x n (5 + 1 + K.length)) ∧ Hid (Kp d 0 n x 5 K) ∧ Hid (d.fuse < 0) ∧ Hid (OD w wr F b (.slice a m c) K)) (fun _ _ c53 _ => n1 - (match c53 with | .int _ q => q | _ => 0).toNat)
    case atStart => exact ⟨0, F, _, 0, n, 0, [], _, 0, rfl, rfl, rfl, Nat.zero_le _, by show n = n - 0; omega, by have := HN.out; omega, HN.out.2, Nat.le_refl _, rfl, HL4.out, HK2.out, (show (-1 : Int) < 0 by decide), HO4.out⟩
    case round =>
      clear HL3 HL4 HO4 HK2 HD2
      obtain ⟨k, F, d, x, r, m, K, a, c, rfl, rfl, rfl, hk, HR, hr0, hr60, hmk, HMK, HL, HK, HF, HOD⟩ := hrel
      by_cases hlt : k < n1
      · obtain ⟨q, hq⟩ : ∃ q, l[k]? = some q := ⟨_, List.getElem?_eq_getElem (by rw [HM.out]; exact hlt)⟩
        obtain ⟨bb, ob, ha1, hcell⟩ := (HC.out.below HL.out.dw.bl).get hq
        have HQ := Lib.hid ((HC.out.gd q (List.mem_of_getElem? hq)).below HL.out.dw.bl)
        have HQ0 := Lib.hid (HC.out.gd q (List.mem_of_getElem? hq))
        obtain ⟨qa, qn, qc, qb⟩ := q
        simp only at hcell HQ HQ0
        subst ha1
        have HND := Lib.hid (fun W => need_any (qn : Int) W)
        have HAP := Lib.hid (fun (W : World) (hb : RowKit.Below wr.heap.size wr W) => kp_append (fl := 5) (l := qb) (HL.out.below hb) HK.out (by have := HN.out; omega) (by rw [← HMK.out]; omega) (HQ.out.below hb).row (len := qn) (cap := qc) HQ.out.ln HQ.out.none)
        have hqn := HQ.out.ln
        have HQN := Lib.hid hqn
        have hcs : 5000 < qn ∨ (4096 < qn ∧ qn ≤ 5000) ∨ (qn ≤ 4096 ∧ r < (spanN (qn + 4) : Int)) ∨ (qn ≤ 4096 ∧ (spanN (qn + 4) : Int) ≤ r) := by omega
        clear hq
        rcases hcs with h5 | ⟨h5, h6⟩ | ⟨h5, h6⟩ | ⟨h5, h6⟩
        · have d0 : decide ((5000 : Int) < (qn : Int)) = true := by simp; omega
          clear h5 hqn
          go_wp2
          try rw [Exit.noGoto_ret]
          go_ret
          exact ⟨rfl, HL.out.dw.bl⟩
        · have d0 : decide ((5000 : Int) < (qn : Int)) = false := by simp; omega
          have d1 : decide ((4096 : Int) < (qn : Int)) = true := by simp; omega
          have hnd : needN (qn : Int) = 0 := by unfold needN; rw [if_neg (by omega)]
          rw [hnd] at HND
          have HLG := Lib.hid (show 4096 < qb.length by omega)
          clear h5 h6 hqn hnd
          go_wp2_with fail
          refine (HND.out _).mono ?_
          rintro _ _ ⟨rfl, rfl⟩
          go_wp2_with fail
          refine (HAP.out _ (RowKit.Below.refl _ _)).mono ?_
          rintro _ w5 h5
          obtain ⟨E5, F5, d5, e5, ho5, hf5, hcase⟩ := h5
          obtain ⟨hE, hdd, hl5⟩ : E5 = 101 ∧ d5 = d ∧ LW w w5 F5 g b d5 x n (5 + 1 + K.length) := by
            rcases hcase with ⟨_, h1, h2, h3⟩ | ⟨h, _⟩ | ⟨h, _⟩ | ⟨h, _⟩
            · exact ⟨h1, h2, h3⟩
            · have := HLG.out; omega
            · have := HLG.out; omega
            · have := HLG.out; omega
          subst hE e5 hdd
          have HL5 := Lib.hid hl5
          have HO5 := Lib.hid (HOD.out.only ho5 hf5)
          have HRM := Lib.hid (show Calls Try.prog 19 #[.pointer (some ⟨b, 0, none⟩)] w5 (fun e w' => e = .returned (.int .i64 r) ∧ RowKit.Below w5.heap.size w5 w') by rw [HR.out]; exact room_any b g x n _ w5 hl5.lg (by have := HK.out.xs; have := HN.out; have := HK.out.le; omega) (by have := HN.out; omega))
          have HSTM := Lib.hid (fun (W : World) (hb : RowKit.Below w5.heap.size w5 W) => show Calls Try.prog 20 #[.pointer (some ⟨b, 0, none⟩)] W (fun e w' => e = .returned (.int .u64 (6 + (m : Int))) ∧ W = w') by
            have := lstamp_any b g x n _ W (hl5.below hb).lg
            rwa [show ((5 + 1 + K.length : Nat) : Int) = 6 + (m : Int) by rw [HMK.out]; omega] at this)
          clear hcase hl5 ho5 hf5 HAP
          go_wp2_with fail
          refine HRM.out.mono ?_
          rintro _ w6 ⟨rfl, hb6⟩
          have HB6 := Lib.hid hb6
          clear hb6
          go_wp2_with fail
          refine (HSTM.out _ HB6.out).mono ?_
          rintro _ _ ⟨rfl, rfl⟩
          go_wp2
          go_roundw
          case rel => exact ⟨k + 1, F5, _, x, r, m, K, a, c, rfl, rfl, by go_num, by omega, HR, hr0, hr60, by omega, HMK, HL5.out.below HB6.out, HK, HF, HO5.out.below HB6.out⟩
          case measure => simp; omega
        · have d0 : decide ((5000 : Int) < (qn : Int)) = false := by simp; omega
          have d1 : decide ((4096 : Int) < (qn : Int)) = false := by simp; omega
          obtain ⟨s, hs⟩ : ∃ s, s = spanN (qn + 4) := ⟨_, rfl⟩
          have hnd : needN (qn : Int) = s := by rw [hs]; exact needN_nat (by omega)
          rw [hnd] at HND
          rw [← hs] at h6
          have d2 : decide (r < (s : Int)) = true := by simpa using h6
          have HSM := Lib.hid (show n - x < (spanN (qb.length + 4) : Int) by rw [hqn, ← hs, ← HR.out]; exact h6)
          have HLG := Lib.hid (show qb.length ≤ 4096 by omega)
          clear h5 h6 hqn hnd hs
          go_wp2_with fail
          refine (HND.out _).mono ?_
          rintro _ _ ⟨rfl, rfl⟩
          go_wp2_with fail
          refine (HAP.out _ (RowKit.Below.refl _ _)).mono ?_
          rintro _ w5 h5
          obtain ⟨E5, F5, d5, e5, ho5, hf5, hcase⟩ := h5
          obtain ⟨hE, hdd, hl5⟩ : E5 = 102 ∧ d5 = d ∧ LW w w5 F5 g b d5 x n (5 + 1 + K.length) := by
            rcases hcase with ⟨h, _⟩ | ⟨_, _, h1, h2, h3⟩ | ⟨_, h, _⟩ | ⟨_, h, _⟩
            · have := HLG.out; omega
            · exact ⟨h1, h2, h3⟩
            · have := HSM.out; omega
            · have := HSM.out; omega
          subst hE e5 hdd
          have HL5 := Lib.hid hl5
          have HO5 := Lib.hid (HOD.out.only ho5 hf5)
          have HRM := Lib.hid (show Calls Try.prog 19 #[.pointer (some ⟨b, 0, none⟩)] w5 (fun e w' => e = .returned (.int .i64 r) ∧ RowKit.Below w5.heap.size w5 w') by rw [HR.out]; exact room_any b g x n _ w5 hl5.lg (by have := HK.out.xs; have := HN.out; have := HK.out.le; omega) (by have := HN.out; omega))
          have HSTM := Lib.hid (fun (W : World) (hb : RowKit.Below w5.heap.size w5 W) => show Calls Try.prog 20 #[.pointer (some ⟨b, 0, none⟩)] W (fun e w' => e = .returned (.int .u64 (6 + (m : Int))) ∧ W = w') by
            have := lstamp_any b g x n _ W (hl5.below hb).lg
            rwa [show ((5 + 1 + K.length : Nat) : Int) = 6 + (m : Int) by rw [HMK.out]; omega] at this)
          clear hcase hl5 ho5 hf5 HAP
          go_wp2_with fail
          refine HRM.out.mono ?_
          rintro _ w6 ⟨rfl, hb6⟩
          have HB6 := Lib.hid hb6
          clear hb6
          go_wp2_with fail
          refine (HSTM.out _ HB6.out).mono ?_
          rintro _ _ ⟨rfl, rfl⟩
          go_wp2
          go_roundw
          case rel => exact ⟨k + 1, F5, _, x, r, m, K, a, c, rfl, rfl, by go_num, by omega, HR, hr0, hr60, by omega, HMK, HL5.out.below HB6.out, HK, HF, HO5.out.below HB6.out⟩
          case measure => simp; omega
        · have d0 : decide ((5000 : Int) < (qn : Int)) = false := by simp; omega
          have d1 : decide ((4096 : Int) < (qn : Int)) = false := by simp; omega
          obtain ⟨s, hs⟩ : ∃ s, s = spanN (qn + 4) := ⟨_, rfl⟩
          have hnd : needN (qn : Int) = s := by rw [hs]; exact needN_nat (by omega)
          rw [hnd] at HND
          rw [← hs] at h6
          have d2 : decide (r < (s : Int)) = false := by simp; omega
          have HSM := Lib.hid (show (spanN (qb.length + 4) : Int) ≤ n - x by rw [hqn, ← hs, ← HR.out]; exact h6)
          have HLG := Lib.hid (show qb.length ≤ 4096 by omega)
          have HSE := Lib.hid (show spanN (qb.length + 4) = s by rw [hqn, hs])
          clear h5 hqn hnd hs
          go_wp2_with fail
          refine (HND.out _).mono ?_
          rintro _ _ ⟨rfl, rfl⟩
          go_wp2_with fail
          refine (HAP.out _ (RowKit.Below.refl _ _)).mono ?_
          rintro _ w5 h5
          obtain ⟨F5, d5, rfl, ho5, hf5, hk5, hu5, hl5⟩ := h5.fits HLG.out HSM.out HF.out
          rw [HSE.out] at hk5 hl5
          have HL5 := Lib.hid hl5
          have HK5 := Lib.hid hk5
          have HU5 := Lib.hid hu5
          have HO5 := Lib.hid (HOD.out.only ho5 hf5)
          have HOW := Lib.hid (show w5.ownsRow w.heap.size 9 1 (.slice a m c) m (K.map sv) by have := HO5.out.ow; unfold Own at this; rwa [← HMK.out] at this)
          have cv := run_conv (w := w5) (HQ0.out.row.below hl5.dw.bl) qn qc HQN.out
          clear h5 hk5 hu5 hl5 ho5 hf5 HAP
          go_wp2_with (at_builtin; refine wpList_appO elT rfl _ _ rfl w.heap.size (.slice a m c) m (K.map sv) (some ⟨w5.heap.size, 0, none⟩) 1 1 [sv qb] rfl rfl (ow_same HOW.out fun i hi => heap_alloc_old w5 _ (HOW.out.lt i hi).2) rfl (lie_new w5 [sv qb] 9) (fun e => by cases e) (fun u hu => by rw [List.mem_singleton.1 hu]; rfl) (by omega) (by decide) (by simp; exact Nat.le_of_lt (Nat.lt_succ_of_le HL5.out.dw.bl.size)) ?_; intro v7 w7 h7; obtain ⟨a7, c7, rfl⟩ := appd_form h7; refine Hid.out ?_)
          obtain ⟨ho7, hl7⟩ := HO5.out.app HL5.out (by rw [← HMK.out]; exact h7)
          have HO7 := Lib.hid ho7
          have HL7 := Lib.hid hl7
          have HM7 := Lib.hid (show m + 1 = (K ++ [qb]).length by rw [List.length_append, HMK.out]; rfl)
          have HRM := Lib.hid (show Calls Try.prog 19 #[.pointer (some ⟨b, 0, none⟩)] w7 (fun e w' => e = .returned (.int .i64 (r - (s : Int))) ∧ RowKit.Below w7.heap.size w7 w') by rw [show r - (s : Int) = n - (x + (s : Int)) by rw [HR.out]; omega]; exact room_any b g (x + (s : Int)) n _ w7 hl7.lg (by have := HK5.out.xs; have := HN.out; have := HK5.out.le; omega) (by have := HN.out; omega))
          have HSTM := Lib.hid (fun (W : World) (hb : RowKit.Below w7.heap.size w7 W) => show Calls Try.prog 20 #[.pointer (some ⟨b, 0, none⟩)] W (fun e w' => e = .returned (.int .u64 (6 + ((m : Int) + 1))) ∧ W = w') by
            have := lstamp_any b g (x + (s : Int)) n _ W (hl7.below hb).lg
            rwa [← HM7.out, show ((5 + 1 + (m + 1) : Nat) : Int) = 6 + ((m : Int) + 1) by omega] at this)
          refine Lib.hid ?_
          clear h7 ho7 hl7 cv
          go_wp2_with fail
          refine HRM.out.mono ?_
          rintro _ w8 ⟨rfl, hb8⟩
          have HB8 := Lib.hid hb8
          clear hb8
          go_wp2_with fail
          refine (HSTM.out _ HB8.out).mono ?_
          rintro _ _ ⟨rfl, rfl⟩
          go_wp2
          go_roundw
          case rel => exact ⟨k + 1, F5, d5, x + (s : Int), r - (s : Int), m + 1, K ++ [qb], a7, c7, rfl, rfl, by go_num, by omega, by have := HR.out; show r - (s : Int) = n - (x + (s : Int)); omega, by omega, by omega, by omega, HM7, HL7.out.below HB8.out, HK5, HU5, HO7.out.below HB8.out⟩
          case measure => simp; omega
      · obtain rfl : k = n1 := by omega
        have HAG := Lib.hid (show Calls Try.prog 7 #[.pointer (some ⟨g, 0, none⟩), .int .i64 0, .int .i64 n, .int .u64 5] wr (fun e w' => ∃ b a c, e = .returned (.tuple #[.pointer (some ⟨b, 0, none⟩), .slice a m c, .int .i64 0]) ∧ Recs w' wr.heap.size (.slice a m c) K ∧ RowKit.Below wr.heap.size wr w') by rw [HMK.out]; exact kp_again (fl := 5) HL.out.dw.dt HK.out (by rw [← HMK.out]; omega))
        clear hlt
        go_wp2_with fail
        refine HAG.out.mono ?_
        rintro _ w5 ⟨b5, a5, c5, rfl, hrec, hb5⟩
        have HL5 := Lib.hid (HL.out.below hb5)
        have HO5 := Lib.hid (HOD.out.below hb5)
        obtain ⟨a6, c6, e6, hbs⟩ := hrec.bs
        injection e6 with h1 h2 h3
        subst h1 h3
        have HBS := Lib.hid hbs
        have HAB := Lib.hid (show Calls Try.prog 7 #[.pointer (some ⟨g, 0, none⟩), .int .i64 0, .int .i64 n, .int .u64 (5 + (m : Int))] w5 (Again [] w5) by
          have := kp_above (m := 5 + m) HL5.out.dw.dt HK.out (by rw [← HMK.out]; omega) (by rw [← HMK.out]; exact Nat.le_refl _) (by omega)
          rwa [show ((5 + m : Nat) : Int) = 5 + (m : Int) by omega] at this)
        clear hrec hb5 hbs HAG h2
        go_wp2_with fail
        refine HAB.out.mono ?_
        rintro _ w7 ⟨b7, a7, c7, rfl, _, hb7⟩
        have HL7 := Lib.hid (HL5.out.below hb7)
        have HSM := Lib.hid (show Calls Try.prog 18 #[.slice a5 m c5, .slice a m c] w7 (fun e w' => e = .returned (.bool true) ∧ RowKit.Below w7.heap.size w7 w') by
          obtain ⟨a9, c9, e9, hr9⟩ := own_rat (HO5.out.below hb7).ow
          injection e9 with h1 h2 h3
          subst h1 h3
          have := same10_any K K a5 a c5 c w7 (HBS.out.below hb7) hr9 (by rw [← HMK.out]; omega)
          rw [decide_eq_true rfl, ← HMK.out] at this
          exact this)
        clear hb7 HAB
        go_wp2_with fail
        refine HSM.out.mono ?_
        rintro _ w8 ⟨rfl, hb8⟩
        have HL8 := Lib.hid (HL7.out.below hb8)
        clear hb8 HSM
        go_wp2
        go_ret
        exact ⟨rfl, HL8.out.dw.bl⟩
end Go.Proofs.Ytmgakmdcncemoaa
