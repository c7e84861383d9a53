/- The walk of falseworklaw10.LogKeeps. -/
import Derived.Test.YtmgakmdcncemoaaLgQ
import Derived.Deep.DeepCutAuto
import Derived.Deep.CutBlock
namespace Go.Proofs.Ytmgakmdcncemoaa
open Go.RowKit Go.Lib

theorem CameA.below {w w' : World} {a : Option Addr} {n : Nat} {l : List Ac} (h : CameA w a n l) (hb : RowKit.Below w.heap.size w w') : CameA w' a n l :=
  ⟨h.li.below hb, h.ln, fun x hx => ⟨(h.gd x hx).bp.below hb, (h.gd x hx).kp.below hb, (h.gd x hx).kl, (h.gd x hx).ik, (h.gd x hx).ii, (h.gd x hx).sl⟩⟩
/-- how the loop over the records ends -/
structure Fin (wb w : World) (g b : Nat) (f : Nat) (v : Value) (t : List UInt8) (F : Nat → Prop) (d : Dk) (x : Int) (n : Nat) (K : List (List UInt8)) : Prop where
  lw : LW wb w F g b d x 40 n
  od : OD wb w F b v K
  en : Ends d 2 40 f K t
set_option maxRecDepth 100000 in
set_option maxHeartbeats 12800000 in
theorem logKeeps_walk (w : World) (a0 : Option Addr) (n0 c0 : Nat) (l0 : List Ac) (h0 : CameA w a0 n0 l0) (a1 : Option Addr) (n1 c1 : Nat) (l1 : List Bs) (h1 : CameBs w a1 n1 l1) (y z : Int) (hy : I y) (hz : I z) :
    Calls Try.prog 4 #[.slice a0 n0 c0, .slice a1 n1 c1, .agg #[.int .i64 y, .int .i64 z]] w fun e w' => e = .returned (.bool true) ∧ RowKit.Below w.heap.size w w' := by
  obtain ⟨wb, hwb⟩ : ∃ wb, wb = w.alloc (.cells #[.int .i64 y, .int .i64 z] 35) := ⟨_, rfl⟩
  have hb0 : RowKit.Below w.heap.size w wb := by rw [hwb]; exact (RowKit.Below.refl _ _).alloc (Nat.le_refl _) _
  have HB0 := Lib.hid hb0
  have HL0 := Lib.hid (h0.below hb0)
  have HL1 := Lib.hid (h1.below hb0)
  have HM := Lib.hid h0.ln
  have HM1 := Lib.hid h1.ln
  obtain ⟨q, hq⟩ : ∃ q, q = w.heap.size := ⟨_, rfl⟩
  have Q0 := Lib.hid (show wb.cell? ⟨q, 0, none⟩ = some (.int .i64 y) by rw [hwb, hq, cell_of_row _ _ _ _ _ _ (heap_alloc_new w _)]; rfl)
  have Q1 := Lib.hid (show wb.cell? ⟨q, 1, none⟩ = some (.int .i64 z) by rw [hwb, hq, cell_of_row _ _ _ _ _ _ (heap_alloc_new w _)]; rfl)
  have HY := Lib.hid hy
  have HZ := Lib.hid hz
  have A := Lib.hid (logAlive_any wb)
  have HEND := Lib.hid (fun (w' : World) (h : RowKit.Below wb.heap.size wb w') => hb0.trans (h.mono hb0.size))
  have HWB := Lib.hid hwb
  have HQ := Lib.hid hq
  clear h0 h1 hb0 hy hz hwb hq
  go_enter Try.func4, Try.ntmps4
  go_wp2_with fail
  rw [← HWB.out, ← HQ.out]
  refine A.out.mono ?_
  rintro _ w1 ⟨rfl, hb1⟩
  have HB1 := Lib.hid hb1
  have HGR := Lib.hid (great_any l0 a0 n0 c0 w1 (HL0.out.below hb1))
  clear hb1 A HWB HQ
  go_wp2_with fail
  refine HGR.out.mono ?_
  rintro _ w2 ⟨bg, rfl, hsm, hb2⟩
  have HB2 := Lib.hid (HB1.out.trans (hb2.mono HB1.out.size))
  have HSM := Lib.hid hsm
  clear hsm hb2 HGR
  cases bg with
  | true =>
    go_wp2
    go_ret
    exact ⟨rfl, HEND.out _ HB2.out⟩
  | false =>
    by_cases h20 : 20 < n1
    · have e1 : decide ((20 : Int) < (n1 : Int)) = true := by simp; omega
      clear h20
      go_wp2
      go_ret
      exact ⟨rfl, HEND.out _ HB2.out⟩
    · have e1 : decide ((20 : Int) < (n1 : Int)) = false := by simp; omega
      have HN1 := Lib.hid (show n1 ≤ 20 by omega)
      have HS := Lib.hid (HSM.out rfl)
      have B := Lib.hid (blank_any 40 w2)
      obtain ⟨M, hM⟩ : ∃ M, M = n0 := ⟨_, rfl⟩
      have hM40 : M ≤ 40 := by rw [hM, ← HM.out]; exact (HSM.out rfl).1
      rw [← hM] at HM
      rw [← hM]
      clear h20 HSM hM
      go_wp2_with fail
      refine B.out.mono ?_
      rintro _ w3 ⟨g, F, rfl, hd, hb3, hf⟩
      have HD3 := Lib.hid (show DW wb w3 F g (Dk.blank 40) from ⟨hd, fun i hi => Nat.le_trans HB2.out.size (hf i hi), HB2.out.trans (hb3.mono HB2.out.size)⟩)
      clear hd hb3 hf B e1
      go_wp2
      go_loopw [38] (fun c38 wr => ∃ (k : Nat) (F : Nat → Prop) (d : Dk), c38 = .int .i64 (k : Int) ∧ k ≤ M ∧ DW wb wr F g d ∧ OldN 40 d k) (fun c38 _ => M - (match c38 with | .int _ q => q | _ => 0).toNat)
      case atStart => exact ⟨0, F, _, rfl, Nat.zero_le _, HD3.out, OldN.start rfl⟩
      case round =>
        obtain ⟨k, F', d, rfl, hk, hdw, hold⟩ := hrel
        have HD := Lib.hid hdw
        have HO := Lib.hid hold
        clear hdw hold
        by_cases hlt : k < M
        · obtain ⟨x, hx⟩ : ∃ x, l0[k]? = some x := ⟨_, List.getElem?_eq_getElem (by rw [HM.out]; exact hlt)⟩
          have hxm := List.mem_of_getElem? hx
          have HGD := Lib.hid (HL0.out.gd x hxm)
          have HSX := Lib.hid (HS.out.2 x hxm)
          obtain ⟨bb, ob, ha1, _, hrb⟩ := (HL0.out.li.below HD.out.bl).get (f := acs) (n := 5) (fun _ _ => rfl) (by decide) hx
          obtain ⟨c, hc⟩ : ∃ c, c = acs x := ⟨_, rfl⟩
          rw [← hc] at hrb
          have HRB := Lib.hid hrb
          have HCC := Lib.hid (show Cs 5 c by rw [hc]; exact acs_cs x)
          obtain ⟨w4, hw4⟩ : ∃ w4, w4 = wr.alloc (.cells c.toArray 39) := ⟨_, rfl⟩
          have HW4 := Lib.hid (show (wr.alloc (.cells zA.toArray 39)).setRow wr.heap.size c.toArray = w4 by rw [hw4]; exact setRow_new rfl)
          have HAL := Lib.hid (heap_alloc_new wr (.cells zA.toArray 39))
          have hb4 : RowKit.Below wr.heap.size wr w4 := by rw [hw4]; exact (RowKit.Below.refl _ _).alloc (Nat.le_refl _) _
          have HD4 := Lib.hid (HD.out.below hb4)
          have HAC := Lib.hid (AcAt.new hc (show w4.heap[wr.heap.size]? = some (.cells c.toArray 39) by rw [hw4]; exact blkn rfl))
          have q0 := HAC.out.c0
          have q1 := HAC.out.c1
          have q2 := HAC.out.c2
          have q3 := HAC.out.c3
          have HBB := Lib.hid (HGD.out.bp.row.below HD4.out.bl)
          obtain ⟨kd, hkd⟩ : ∃ y, y = x.kind := ⟨_, rfl⟩
          obtain ⟨st, hst⟩ : ∃ y, y = x.st := ⟨_, rfl⟩
          rw [← hkd] at q0
          rw [← hst] at q2
          have HST := Lib.hid hst
          subst ha1
          clear hx hxm hrb hc hw4 hb4 hkd hst
          by_cases hk4 : kd = 4
          · subst hk4
            by_cases hst : st < 4611686018427387904
            · have e3 : decide ((st : Int) < 4611686018427387904) = true := by simp; omega
              have HWR := Lib.hid (write_any g F' d x.at_ st x.bs x.ba x.bn x.bc w4 HD4.out.dt HGD.out.ii (by omega) HBB.out HGD.out.bp.ln HGD.out.bp.cp (by have h1 := HO.out.qn; have h2 := spanN_le x.bn; omega))
              unfold WriteRes at HWR
              have HON := Lib.hid (HO.out.write x.at_ hst (l := x.bs))
              clear hst
              go_wp2_with (first | ((with_reducible refine wpList_storeW rfl isAc _ _ rfl wr.heap.size c zA.toArray _ rfl rfl HAL.out HCC.out rfl ?_); rw [HW4.out]) | (with_reducible refine wpList_allocA rfl isAc rfl ?_) | (with_reducible refine wpList_idx elAc rfl _ _ rfl k rfl rfl rfl hlt ?_) | (with_reducible refine wpList_loadM rfl isAc _ rfl bb (ob + k * 5) c rfl HRB.out HCC.out ?_))
              refine HWR.out.mono ?_
              rintro _ w5 ⟨rfl, hdid⟩
              have HD5 := Lib.hid (HD4.out.next hdid)
              clear hdid HWR e3
              go_wp2
              go_roundw
              case rel =>
                obtain ⟨F5, h5⟩ := HD5.out
                exact ⟨k + 1, F5, _, by go_num, by omega, h5, HON.out⟩
              case measure => simp; omega
            · have e3 : decide ((st : Int) < 4611686018427387904) = false := by simp; omega
              clear hst
              go_wp2_with (first | ((with_reducible refine wpList_storeW rfl isAc _ _ rfl wr.heap.size c zA.toArray _ rfl rfl HAL.out HCC.out rfl ?_); rw [HW4.out]) | (with_reducible refine wpList_allocA rfl isAc rfl ?_) | (with_reducible refine wpList_idx elAc rfl _ _ rfl k rfl rfl rfl hlt ?_) | (with_reducible refine wpList_loadM rfl isAc _ rfl bb (ob + k * 5) c rfl HRB.out HCC.out ?_))
              go_roundw
              case rel => exact ⟨k + 1, F', d, by go_num, by omega, HD4.out, HO.out.more⟩
              case measure => simp; omega
          · have e4 : (kd == 4) = false := by simpa using hk4
            clear hk4
            go_wp2_with (first | ((with_reducible refine wpList_storeW rfl isAc _ _ rfl wr.heap.size c zA.toArray _ rfl rfl HAL.out HCC.out rfl ?_); rw [HW4.out]) | (with_reducible refine wpList_allocA rfl isAc rfl ?_) | (with_reducible refine wpList_idx elAc rfl _ _ rfl k rfl rfl rfl hlt ?_) | (with_reducible refine wpList_loadM rfl isAc _ rfl bb (ob + k * 5) c rfl HRB.out HCC.out ?_))
            go_roundw
            case rel => exact ⟨k + 1, F', d, by go_num, by omega, HD4.out, HO.out.more⟩
            case measure => simp; omega
        · obtain rfl : k = M := by omega
          have HFL := Lib.hid (flush_any g F' d wr HD.out.dt)
          obtain ⟨hof, hqf⟩ := HO.out.flush
          have HOF := Lib.hid hof
          have HQF := Lib.hid hqf
          have HAE := Lib.hid (show d.actE = 0 by unfold Dk.actE; rw [if_pos HO.out.up.live])
          unfold FlushRes at HFL
          rw [HAE.out] at HFL
          generalize d.flush = d1 at HFL HOF HQF
          clear hk hlt hof hqf
          go_wp2_with fail
          refine HFL.out.mono ?_
          rintro _ w4 ⟨rfl, hdid⟩
          obtain ⟨F4, h4⟩ := HD.out.next hdid
          have HD4 := Lib.hid h4
          obtain ⟨f, hf⟩ : ∃ f, f = topN d1 0 40 := ⟨_, rfl⟩
          have HF62 := Lib.hid (show f < 4611686018427387904 by rw [hf]; exact HOF.out.topN HQF.out 0 40)
          have HKP := Lib.hid (show Kp d1 2 40 2 f [] by rw [hf]; exact HOF.out.kp h4.dt.ok HQF.out (by omega))
          have HTP := Lib.hid (top_any g F4 d1 0 40 w4 h4.dt (by unfold I; omega) (by unfold I; omega))
          unfold TopRes at HTP
          rw [show d1.top 0 40 = (f, 0) by unfold Dk.top; rw [if_neg (by omega), if_neg (by rw [HOF.out.bl]; omega), hf]; rfl] at HTP
          clear hdid h4 hf HFL
          go_wp2_with fail
          refine HTP.out.mono ?_
          rintro _ w5 ⟨rfl, hb5⟩
          have HD5 := Lib.hid (HD4.out.below hb5)
          have HOP := Lib.hid (kp_open HD5.out HKP.out (by have := HF62.out; omega))
          clear hb5 HTP
          go_wp2_with fail
          refine HOP.out.mono ?_
          rintro _ w6 ⟨b, a6, c6, rfl, _, hl6, hb6⟩
          have HL6 := Lib.hid hl6
          have HFU := Lib.hid (fuse_any g F4 d1 y w6 hl6.dw.dt HY.out)
          have k0 := cell_bl Q0.out hl6.dw.bl
          clear hl6 hb6 HOP
          go_wp2_with fail
          refine HFU.out.mono ?_
          rintro _ w7 ⟨rfl, hdid⟩
          obtain ⟨F7, hl7, _, _⟩ := HL6.out.did hdid
          have HL7 := Lib.hid hl7
          have HK7 := Lib.hid (HKP.out.fuse HY.out)
          generalize { d1 with fuse := y } = d7 at HL7 HK7
          have HL8 := Lib.hid (HL7.out.below ((RowKit.Below.refl w7.heap.size w7).alloc (Nat.le_refl _) (.cells #[] 9)))
          have HO8 := Lib.hid (show OD wb (w7.alloc (.cells #[] 9)) F7 b (.slice (some ⟨w7.heap.size, 0, none⟩) 0 0) [] from ⟨own_start wb w7 HL7.out.dw.bl.size, fun i hi => by
            have hi : w7.heap.size = i := by simpa [Value.ownBlock] using hi
            subst hi
            exact ⟨fun e => by have := HL7.out.dw.dt.fl _ e; omega, fun e => by have := HL7.out.lg.lt; omega⟩⟩)
          clear hdid hl7 k0 HFU HL6 HD5 HD4 HD HO HOF HQF HAE HKP
          go_upto_block 2 with (fail)
          go_cut [15, 16] (fun c15 c16 wx => ∃ (a : Option Addr) (c m : Nat) (t : List UInt8) (F : Nat → Prop) (d : Dk) (x : Int) (n : Nat) (K : List (List UInt8)), c15 = .slice a m c ∧ c16 = .string (strB t) ∧ m ≤ 20 ∧ Hid (m = K.length) ∧ Hid (Fin wb wx g b f (.slice a m c) t F d x n K))
          case first =>
            have HK8 := HK7
            go_wp2
            go_loopw [15, 16, 95] (fun c15 c16 c95 wr => ∃ (k : Nat) (a : Option Addr) (c m : Nat) (F : Nat → Prop) (d : Dk) (x : Int) (K : List (List UInt8)), c15 = .slice a m c ∧ c16 = .string (strB []) ∧ c95 = .int .i64 (k : Int) ∧ k ≤ n1 ∧ m ≤ k ∧ Hid (m = K.length) ∧ Hid (LW wb wr F g b d x 40 (f + 1 + K.length)) ∧ Hid (OD wb wr F b (.slice a m c) K) ∧ Hid (Kp d 2 40 x f K)) (fun _ _ c95 _ => n1 - (match c95 with | .int _ q => q | _ => 0).toNat)
            case atStart => exact ⟨0, _, 0, 0, F7, d7, 2, [], rfl, rfl, rfl, Nat.zero_le _, Nat.le_refl _, rfl, HL8.out, HO8.out, HK7.out⟩
            case round =>
              clear HL8 HO8 HK7 HK8 HL7
              have hn20 : n1 ≤ 20 := HN1.out
              obtain ⟨k, a, c, m, F, d, x, K, rfl, rfl, rfl, hk, hmk, HMK, HL, HOD, HK⟩ := hrel
              by_cases hlt : k < n1
              · obtain ⟨q9, hq9⟩ : ∃ q, l1[k]? = some q := ⟨_, List.getElem?_eq_getElem (by rw [HM1.out]; exact hlt)⟩
                obtain ⟨bb, ob, ha1, hcell⟩ := (HL1.out.below HL.out.dw.bl).get hq9
                have HQ := Lib.hid ((HL1.out.gd q9 (List.mem_of_getElem? hq9)).below HL.out.dw.bl)
                have HQ0 := Lib.hid (HL1.out.gd q9 (List.mem_of_getElem? hq9))
                obtain ⟨qa, qn, qc, qb⟩ := q9
                simp only at hcell HQ HQ0
                subst ha1
                have HAP := Lib.hid (fun (W : World) (hb : RowKit.Below wr.heap.size wr W) => kp_append (fl := f) (l := qb) (HL.out.below hb) HK.out (by omega) (by rw [← HMK.out]; have := HF62.out; have := HN1.out; omega) (HQ.out.below hb).row (len := qn) (cap := qc) HQ.out.ln HQ.out.none)
                have hqn := HQ.out.ln
                have HQN := Lib.hid hqn
                clear hq9
                by_cases h6 : 600 < qn
                · have d0 : decide ((600 : Int) < (qn : Int)) = true := by simp; omega
                  clear h6 hqn
                  go_wp2
                  try rw [Exit.noGoto_ret]
                  go_ret
                  exact ⟨rfl, HEND.out _ HL.out.dw.bl⟩
                · have d0 : decide ((600 : Int) < (qn : Int)) = false := by simp; omega
                  have HLG := Lib.hid (show qb.length ≤ 600 by omega)
                  clear h6 hqn
                  go_wp2_with fail
                  refine (HAP.out _ (RowKit.Below.refl _ _)).mono ?_
                  rintro _ w9 h9
                  obtain ⟨E, F9, d9, rfl, ho9, hf9, hcase⟩ := h9
                  have HO9 := Lib.hid (HOD.out.only ho9 hf9)
                  clear HAP ho9 hf9
                  rcases hcase with ⟨h, _⟩ | ⟨_, _, hE, hdd, hl9⟩ | ⟨_, _, hE, hk9, _, hl9⟩ | ⟨h3, h4, hE, ht9, hl9⟩
                  · have := HLG.out
                    omega
                  · subst hE hdd
                    have HL9 := Lib.hid hl9
                    clear hl9
                    go_wp2
                    go_roundw
                    case rel => exact ⟨k + 1, a, c, m, F9, _, x, K, rfl, rfl, by go_num, by omega, by omega, HMK, HL9, HO9, HK⟩
                    case measure => simp; omega
                  · subst hE
                    have HL9 := Lib.hid hl9
                    have HK9 := Lib.hid hk9
                    have HOW := Lib.hid (show w9.ownsRow wb.heap.size 9 1 (.slice a m c) m (K.map sv) by have := HO9.out.ow; unfold Own at this; rwa [← HMK.out] at this)
                    have cv := run_conv (w := w9) (HQ0.out.row.below hl9.dw.bl) qn qc HQN.out
                    have hm20 : m + 1 ≤ 1000000 := by have := HN1.out; omega
                    clear hl9 hk9
                    go_wp2_with (at_builtin; refine wpList_appO elT rfl _ _ rfl wb.heap.size (.slice a m c) m (K.map sv) (some ⟨w9.heap.size, 0, none⟩) 1 1 [sv qb] rfl rfl (ow_same HOW.out fun i hi => heap_alloc_old w9 _ (HOW.out.lt i hi).2) rfl (lie_new w9 [sv qb] 9) (fun e => by cases e) (fun u hu => by rw [List.mem_singleton.1 hu]; rfl) hm20 (by decide) (by simp; exact Nat.le_of_lt (Nat.lt_succ_of_le HL9.out.dw.bl.size)) ?_; intro v7 w7' h7; obtain ⟨a7, c7, rfl⟩ := appd_form h7; refine Hid.out ?_)
                    obtain ⟨ho7, hl7⟩ := HO9.out.app HL9.out (by rw [← HMK.out]; exact h7)
                    have HO7 := Lib.hid ho7
                    have HLL7 := Lib.hid hl7
                    have HM7 := Lib.hid (show m + 1 = (K ++ [qb]).length by rw [List.length_append, HMK.out]; rfl)
                    refine Lib.hid ?_
                    clear h7 ho7 hl7 cv
                    go_wp2
                    go_roundw
                    case rel => exact ⟨k + 1, a7, c7, m + 1, F9, d9, _, K ++ [qb], rfl, rfl, by go_num, by omega, by omega, HM7, HLL7, HO7, HK9⟩
                    case measure => simp; omega
                  · subst hE
                    have HL9 := Lib.hid hl9
                    have HEN := Lib.hid (show Ends d9 2 40 f K qb from Or.inr ⟨ht9.dd, d, x, HK.out, ht9, by omega, h4⟩)
                    have cv := run_conv (w := w9) (HQ0.out.row.below hl9.dw.bl) qn qc HQN.out
                    have hm20 : m ≤ 20 := by have := HN1.out; omega
                    clear hl9 h3 h4 ht9
                    go_wp2
                    go_meet
                    case rel => exact ⟨a, c, m, qb, F9, d9, x, _, K, rfl, rfl, hm20, HMK, ⟨HL9.out, HO9.out, HEN.out⟩⟩
              · obtain rfl : k = n1 := by omega
                have hm20 : m ≤ 20 := by have := HN1.out; omega
                clear hlt
                go_wp2
                go_meet
                case rel => exact ⟨a, c, m, [], F, d, x, _, K, rfl, rfl, hm20, HMK, ⟨HL.out, HOD.out, Or.inl ⟨x, HK.out⟩⟩⟩
          case rest =>
            obtain ⟨a, c, m, t, F, d, x, n, K, rfl, rfl, hm20, HMK, HFIN⟩ := hcut
            clear HL8 HO8 HK7 HL7
            have HDE := Lib.hid (dead_at g F d wc HFIN.out.lw.dw.dt)
            obtain ⟨dd, hdd⟩ : ∃ dd, dd = d.dead := ⟨_, rfl⟩
            rw [← hdd] at HDE
            have HDD := Lib.hid hdd
            clear hdd
            go_wp2_with fail
            refine HDE.out.mono ?_
            rintro _ _ ⟨rfl, rfl⟩
            obtain ⟨wk, hmk, hbk, hok⟩ := mk_ints40 wc
            have HBK := Lib.hid hbk
            have HOK := Lib.hid hok
            clear hbk hok HDE
            go_wp2
            go_loopw [124] (fun c124 wr => ∃ (k : Nat) (L : List Int), c124 = .int .i64 (k : Int) ∧ k ≤ 40 ∧ Hid (RowKit.Below wc.heap.size wc wr) ∧ Hid (wr.ownsRow wc.heap.size 3 1 (.slice (some ⟨wc.heap.size, 0, none⟩) 40 40) 40 (L.map (Value.int .i64))) ∧ Hid (L.length = 40)) (fun c124 _ => 40 - (match c124 with | .int _ q => q | _ => 0).toNat)
            case atStart => exact ⟨0, List.replicate 40 0, rfl, Nat.zero_le _, HBK, HOK, List.length_replicate⟩
            case round =>
              clear HBK HOK
              obtain ⟨k, L, rfl, hk, HB, HO, HLL⟩ := hrel
              by_cases hlt : k < 40
              · have c5 := cell_bl Q1.out (HFIN.out.lw.dw.bl.trans (HB.out.mono HFIN.out.lw.dw.bl.size))
                have cw : wr.cell? ⟨wc.heap.size, k, none⟩ = some (.int .i64 (L.getD k 0)) := by
                  have := World.ownsRow.cellAt HO.out k (by omega)
                  rw [this, List.getElem?_map, List.getD, List.getElem?_eq_getElem (by rw [HLL.out]; exact hlt)]
                  rfl
                have fw := World.ownsRow.frozenAt HO.out k
                go_wp2
                have hst := World.ownsRow.stored HO.out k (Value.int .i64 ((z / 2 ^ (k % 6)).tmod 65))
                have HST := Lib.hid hst.1
                have HSG := Lib.hid hst.2
                clear hst
                go_roundw
                case rel => exact ⟨k + 1, L.set k ((z / 2 ^ (k % 6)).tmod 65), by go_num, by omega, HB.out.grown HSG.out HB.out.size (fun i e => by cases e; exact Nat.le_refl _), by rw [List.map_set]; exact HST.out, by rw [List.length_set]; exact HLL.out⟩
                case measure => simp; omega
              · obtain rfl : k = 40 := by omega
                have HLW := Lib.hid (HFIN.out.lw.below HB.out)
                have HOD := Lib.hid (HFIN.out.od.below HB.out)
                have HPW := Lib.hid (power_any g F d (some ⟨wc.heap.size, 0, none⟩) L 40 40 wr HLW.out.dw.dt (by
                  obtain ⟨a9, c9, e9, hl9, _⟩ := ow_lie HO.out
                  injection e9 with h1 h2 h3
                  subst h1
                  exact hl9) HLL.out (Or.inr (by
                  rintro i ⟨p, e, rfl⟩ hf
                  cases e
                  have := HFIN.out.lw.dw.dt.fl _ hf
                  exact Nat.lt_irrefl _ this)))
                unfold PowerRes at HPW
                have HBL := Lib.hid (HFIN.out.en.bl L)
                have HRUN := Lib.hid (fun (hok : (d.power L).Ok) (K2 : List (List UInt8)) (y2 : Int) (hr : Run (d.power L) 40 2 f K2 y2) => HFIN.out.en.run (by rw [← HMK.out]; have := HF62.out; omega) L hok hr)
                rw [← HDD.out] at HRUN
                obtain ⟨dp, hdp⟩ : ∃ dp, dp = d.power L := ⟨_, rfl⟩
                rw [← hdp] at HPW HRUN HBL
                clear hdp hlt hk HB HO HLL
                go_wp2_with fail
                refine HPW.out.mono ?_
                rintro _ w9 ⟨rfl, hdid⟩
                obtain ⟨F9, hl9, ho9, hf9⟩ := HLW.out.did hdid
                have HL9 := Lib.hid hl9
                have HOD9 := Lib.hid (HOD.out.only (ho9.mono fun i e => Or.inl e) hf9)
                have HOP := Lib.hid (lopen_yes g F9 dp 2 40 f w9 hl9.dw.dt ⟨by omega, by omega, HBL.out.1⟩ (by have := HF62.out; omega))
                unfold OpenYes at HOP
                have HOKD := Lib.hid hl9.dw.dt.ok
                clear hdid hl9 ho9 hf9 HPW
                go_wp2_with fail
                refine HOP.out.mono ?_
                rintro _ w10 ⟨b2, v2, K2, y2, rfl, _, hrun, hrec, _, _, _, hb10⟩
                have HK2 := Lib.hid (HRUN.out HOKD.out K2 y2 hrun)
                have HL10 := Lib.hid (HL9.out.below hb10)
                have HOD10 := Lib.hid (HOD9.out.below hb10)
                have HB10 := Lib.hid hb10
                obtain ⟨a2, c2, rfl⟩ := hrec.form
                have HREC := Lib.hid hrec
                have HK2L := Lib.hid (show K2.length ≤ 1000000 by
                  rcases HK2.out with e | ⟨_, e⟩
                  · rw [e, ← HMK.out]; omega
                  · rw [e, List.length_append, ← HMK.out]; simp; omega)
                have HS1 := Lib.hid (show Calls Try.prog 18 #[.slice a2 K2.length c2, .slice a m c] w10 (fun e w' => e = .returned (.bool (decide (K2 = K))) ∧ RowKit.Below w10.heap.size w10 w') by
                  obtain ⟨a8, c8, e8, hr8⟩ := own_rat (HOD9.out.below hb10).ow
                  injection e8 with h1 h2 h3
                  subst h1 h3
                  obtain ⟨a7, c7, e7, hb7⟩ := hrec.bs
                  injection e7 with h1 h2 h3
                  subst h1 h3
                  have := same10_any K2 K a2 a c2 c w10 hb7 hr8 HK2L.out
                  rw [← HMK.out] at this
                  exact this)
                clear hrun hrec hb10 HOP HRUN
                obtain ⟨N2, hN2⟩ : ∃ N2, N2 = K2.length := ⟨_, rfl⟩
                rw [← hN2] at HS1
                rw [← hN2]
                have HN2 := Lib.hid hN2
                clear hN2
                by_cases hKK : K2 = K
                · rw [decide_eq_true hKK] at HS1
                  clear hKK
                  go_wp2_with fail
                  refine HS1.out.mono ?_
                  rintro _ w11 ⟨rfl, hb11⟩
                  have HB11 := Lib.hid (HL10.out.below hb11)
                  clear hb11 HS1
                  go_wp2
                  go_ret
                  exact ⟨rfl, HEND.out _ HB11.out.dw.bl⟩
                · obtain ⟨hdt, hK2⟩ : dd = true ∧ K2 = K ++ [t] := HK2.out.resolve_left hKK
                  rw [decide_eq_false hKK] at HS1
                  have HKE := Lib.hid hK2
                  clear hKK hK2
                  subst hdt
                  go_wp2_with fail
                  refine HS1.out.mono ?_
                  rintro _ w11 ⟨rfl, hb11⟩
                  have HL11 := Lib.hid (HL10.out.below hb11)
                  have HOD11 := Lib.hid (HOD10.out.below hb11)
                  have HB911 := Lib.hid (HB10.out.trans (hb11.mono HB10.out.size))
                  have HREC11 := Lib.hid (HREC.out.below hb11)
                  have HOW := Lib.hid (show w11.ownsRow wb.heap.size 9 1 (.slice a m c) m (K.map sv) by have := HOD11.out.ow; unfold Own at this; rwa [← HMK.out] at this)
                  clear hb11 HS1
                  go_wp2_with (at_builtin; refine wpList_appG elT (by rfl) _ _ rfl wb.heap.size (.slice a m c) m (K.map sv) (some ⟨w11.heap.size, 0, none⟩) 1 1 [sv t] rfl rfl (ow_same HOW.out fun i hi => heap_alloc_old w11 _ (HOW.out.lt i hi).2) rfl (lie_new w11 [sv t] 9) (fun e => by cases e) (fun u hu => by rw [List.mem_singleton.1 hu]; rfl) (by omega) (by decide) (by simp; exact Nat.le_of_lt (Nat.lt_succ_of_le HL11.out.dw.bl.size)) ?_; intro v7 w12 h7; obtain ⟨a7, c7, rfl⟩ := appd_form h7; refine Hid.out ?_)
                  obtain ⟨ho7, hl7⟩ := HOD11.out.app HL11.out (by rw [← HMK.out]; exact h7)
                  have HL12 := Lib.hid hl7
                  have HS2 := Lib.hid (show Calls Try.prog 18 #[.slice a2 N2 c2, .slice a7 (m + 1) c7] w12 (fun e w' => e = .returned (.bool true) ∧ RowKit.Below w12.heap.size w12 w') by
                    have hrec12 : Recs w12 w9.heap.size (.slice a2 K2.length c2) K2 := HREC11.out.same (Nat.le_trans (by simp) h7.2.1.size) fun i h1 h2 => (h7.2.1.block i (by simp; omega) (fun e => by
                      have h3 := (World.ownsRow.lt HOD9.out.ow i e.symm).2
                      omega)).trans (((RowKit.Below.refl w11.heap.size w11).alloc (Nat.le_refl _) _).block i h2)
                    obtain ⟨a8, c8, e8, hr8⟩ := own_rat ho7.ow
                    injection e8 with h1 h2 h3
                    subst h1 h3
                    obtain ⟨a9, c9, e9, hb9⟩ := hrec12.bs
                    injection e9 with h1 h2 h3
                    subst h1 h3
                    have := same10_any K2 (K ++ [t]) a2 a7 c2 c7 w12 hb9 hr8 HK2L.out
                    rw [decide_eq_true HKE.out, ← HN2.out, List.length_append, ← HMK.out] at this
                    exact this)
                  refine Lib.hid ?_
                  clear h7 ho7 hl7
                  go_wp2_with fail
                  refine HS2.out.mono ?_
                  rintro _ w13 ⟨rfl, hb13⟩
                  have HL13 := Lib.hid (HL12.out.below hb13)
                  clear hb13 HS2
                  go_wp2
                  go_ret
                  exact ⟨rfl, HEND.out _ HL13.out.dw.bl⟩
end Go.Proofs.Ytmgakmdcncemoaa
