/- The walk of falseworklaw09.StampTorn. -/
import Derived.Test.YtoibonalgmmkbaaSmS
namespace Go.Proofs.Ytoibonalgmmkbaa
open Go.RowKit Go.Lib

theorem nums_off {w : World} {a : Option Addr} {l : List Int} {F : Nat → Prop} (h : Nums w a l) (hF : ∀ i, F i → w.heap.size ≤ i) : l = [] ∨ ∀ b, inBlk a b → ¬ F b := by
  rcases h with h | ⟨b, off, ha, hlt, _⟩
  · left; simpa using h
  · right
    rintro c ⟨p, e, rfl⟩ hf
    rw [ha] at e
    cases e
    have := hF _ hf
    have e2 : (⟨b, off, none⟩ : Addr).block = b := rfl
    omega
set_option maxRecDepth 100000 in
set_option maxHeartbeats 12800000 in
theorem stampTorn_walk (w : World) (a0 : Option Addr) (n0 c0 : Nat) (l0 : List Ac) (h0 : CameA w a0 n0 l0) (a1 : Option Addr) (n1 c1 : Nat) (l1 : List UInt8) (h1 : CameB w a1 n1 c1 l1) (a2 : Option Addr) (n2 c2 : Nat) (l2 : List Int) (h2 : Nums w a2 l2 ∧ l2.length = n2 ∧ ∀ n ∈ l2, I n) :
    Calls Try.prog 5 #[.slice a0 n0 c0, .slice a1 n1 c1, .slice a2 n2 c2] w fun e w' => e = .returned (.bool true) ∧ RowKit.Below w.heap.size w w' := by
  obtain rfl := h0.ln
  obtain rfl := h1.ln
  have HL0 := Lib.hid h0
  have HL1 := Lib.hid h1
  have HL2 := Lib.hid h2
  have A := Lib.hid (salive_any w)
  obtain ⟨M, hM⟩ : ∃ M, M = l0.length := ⟨_, rfl⟩
  have HM := Lib.hid hM
  rw [← hM]
  clear h0 h1 h2 hM
  go_enter Try.func5, Try.ntmps5
  go_wp2_with fail
  refine A.out.mono ?_
  rintro _ w1 ⟨rfl, hb1⟩
  have HB1 := Lib.hid hb1
  have HGR := Lib.hid (great_any l0 a0 M c0 w1 ⟨HL0.out.li.below hb1, HM.out.symm, fun x hx => ⟨⟨(HL0.out.gd x hx).bp.row.below hb1, (HL0.out.gd x hx).bp.ln, (HL0.out.gd x hx).bp.cp, (HL0.out.gd x hx).bp.max, (HL0.out.gd x hx).bp.nil⟩, (HL0.out.gd x hx).kp.below hb1, (HL0.out.gd x hx).kl, (HL0.out.gd x hx).ik, (HL0.out.gd x hx).ii, (HL0.out.gd x hx).sl⟩⟩)
  clear hb1 A
  go_wp2_with fail
  refine HGR.out.mono ?_
  rintro _ w2 ⟨b, rfl, hsm, hb2⟩
  have HB2 := Lib.hid (HB1.out.trans (hb2.mono HB1.out.size))
  have HSM := Lib.hid hsm
  clear hsm hb2 HGR
  cases b with
  | true =>
    go_wp2
    go_ret
    exact ⟨rfl, HB2.out⟩
  | false =>
    have hcs : 1000 < l1.length ∨ (l1.length ≤ 1000 ∧ 100 < n2) ∨ (l1.length ≤ 1000 ∧ n2 ≤ 100) := by omega
    rcases hcs with h | ⟨h, h'⟩ | ⟨h, h'⟩
    · have e1 : decide ((1000 : Int) < (l1.length : Int)) = true := by simp; omega
      clear h
      go_wp2
      go_ret
      exact ⟨rfl, HB2.out⟩
    · have e1 : decide ((1000 : Int) < (l1.length : Int)) = false := by simp; omega
      have e2 : decide ((100 : Int) < (n2 : Int)) = true := by simp; omega
      clear h h'
      go_wp2
      go_ret
      exact ⟨rfl, HB2.out⟩
    · have e1 : decide ((1000 : Int) < (l1.length : Int)) = false := by simp; omega
      have e2 : decide ((100 : Int) < (n2 : Int)) = false := by simp; omega
      have HLN := Lib.hid h
      have HS := Lib.hid (HSM.out rfl)
      have B := Lib.hid (blank_any 30 w2)
      have hM40 : M ≤ 40 := by rw [HM.out]; exact (HSM.out rfl).1
      clear h h' HSM
      go_wp2_with fail
      refine B.out.mono ?_
      rintro _ w3 ⟨g, F, rfl, hd, hb3, hf⟩
      have HD3 := Lib.hid (show DW w2 w3 F g (Dk.blank 30) from ⟨hd, hf, hb3⟩)
      clear hd hb3 hf B
      go_wp2
      go_loopw [33] (fun c33 wr => ∃ (k : Nat) (F : Nat → Prop) (d : Dk), c33 = .int .i64 (k : Int) ∧ k ≤ M ∧ DW w2 wr F g d ∧ Old d k) (fun c33 _ => M - (match c33 with | .int _ q => q | _ => 0).toNat)
      case atStart => exact ⟨0, F, _, rfl, Nat.zero_le _, HD3.out, Old.start⟩
      case round =>
        clear e1 e2
        obtain ⟨k, F', d, rfl, hk, hdw, hold⟩ := hrel
        have HD := Lib.hid hdw
        have HO := Lib.hid hold
        clear hdw hold
        by_cases hlt : k < M
        · obtain ⟨x, hx⟩ : ∃ x, l0[k]? = some x := ⟨_, List.getElem?_eq_getElem (by rw [← HM.out]; exact hlt)⟩
          have hxm := List.mem_of_getElem? hx
          have HGD := Lib.hid (HL0.out.gd x hxm)
          have HSX := Lib.hid (HS.out.2 x hxm)
          obtain ⟨bb, ob, ha1, _, hrb⟩ := (HL0.out.li.below (HD.out.out HB2.out)).get (f := acs) (n := 5) (fun _ _ => rfl) (by decide) hx
          obtain ⟨c, hc⟩ : ∃ c, c = acs x := ⟨_, rfl⟩
          rw [← hc] at hrb
          have HRB := Lib.hid hrb
          have HCC := Lib.hid (show Cs 5 c by rw [hc]; exact acs_cs x)
          obtain ⟨w4, hw4⟩ : ∃ w4, w4 = wr.alloc (.cells c.toArray 41) := ⟨_, rfl⟩
          have HW4 := Lib.hid (show (wr.alloc (.cells zA.toArray 41)).setRow wr.heap.size c.toArray = w4 by rw [hw4]; exact setRow_new rfl)
          have HAL := Lib.hid (heap_alloc_new wr (.cells zA.toArray 41))
          have hb4 : RowKit.Below wr.heap.size wr w4 := by rw [hw4]; exact (RowKit.Below.refl _ _).alloc (Nat.le_refl _) _
          have HD4 := Lib.hid (HD.out.below hb4)
          have HAC := Lib.hid (AcAt.new hc (show w4.heap[wr.heap.size]? = some (.cells c.toArray 41) by rw [hw4]; exact blkn rfl))
          have q0 := HAC.out.c0
          have q1 := HAC.out.c1
          have q2 := HAC.out.c2
          have q3 := HAC.out.c3
          have q4 := HAC.out.c4
          have HBB := Lib.hid (HGD.out.bp.row.below (HD4.out.out HB2.out))
          have HKP := Lib.hid (HGD.out.kp.below (HD4.out.out HB2.out))
          obtain ⟨kd, hkd⟩ : ∃ y, y = x.kind := ⟨_, rfl⟩
          obtain ⟨st, hst⟩ : ∃ y, y = x.st := ⟨_, rfl⟩
          rw [← hkd] at q0
          rw [← hst] at q2
          have HST := Lib.hid hst
          subst ha1
          clear hx hxm hrb hc hw4 hb4 hkd hst
          by_cases hk0 : kd = 0
          · subst hk0
            by_cases hst : st < 4611686018427387904
            · have e3 : decide ((st : Int) < 4611686018427387904) = true := by simp; omega
              have HWR := Lib.hid (write_any g F' d x.at_ st x.bs x.ba x.bn x.bc w4 HD4.out.dt HGD.out.ii (by omega) HBB.out HGD.out.bp.ln HGD.out.bp.cp (by have h1 := HO.out.qn; have h2 := spanN_1000 HSX.out.1; omega))
              unfold WriteRes at HWR
              have HON := Lib.hid (HO.out.write x.at_ hst (l := x.bs) (by rw [HGD.out.bp.ln]; exact HSX.out.1))
              clear hst
              go_wp2_with (first | ((with_reducible refine wpList_storeW rfl isAc _ _ rfl wr.heap.size c zA.toArray _ rfl rfl HAL.out HCC.out rfl ?_); rw [HW4.out]) | (with_reducible refine wpList_allocA rfl isAc rfl ?_) | (with_reducible refine wpList_idx elAc rfl _ _ rfl k rfl rfl rfl hlt ?_) | (with_reducible refine wpList_loadM rfl isAc _ rfl bb (ob + k * 5) c rfl HRB.out HCC.out ?_))
              refine HWR.out.mono ?_
              rintro _ w5 ⟨rfl, hdid⟩
              have HD5 := Lib.hid (HD4.out.next hdid)
              have r0 : w5.cell? ⟨wr.heap.size, 0, none⟩ = some (.int .i64 0) := by
                obtain ⟨_, _, ho, _⟩ := hdid
                rw [World.cell?_of_block (a := ⟨wr.heap.size, 0, none⟩) (ho.block _ HAC.out.lt (fun e => Nat.lt_irrefl _ (HD.out.dt.fl _ e)))]
                exact q0
              clear hdid HWR e3
              go_wp2
              go_roundw
              case rel =>
                obtain ⟨F5, h5⟩ := HD5.out
                exact ⟨k + 1, F5, _, by go_num, by omega, h5, HON.out⟩
              case measure => simp; omega
            · have e3 : decide ((st : Int) < 4611686018427387904) = false := by simp; omega
              clear hst
              go_wp2_with (first | ((with_reducible refine wpList_storeW rfl isAc _ _ rfl wr.heap.size c zA.toArray _ rfl rfl HAL.out HCC.out rfl ?_); rw [HW4.out]) | (with_reducible refine wpList_allocA rfl isAc rfl ?_) | (with_reducible refine wpList_idx elAc rfl _ _ rfl k rfl rfl rfl hlt ?_) | (with_reducible refine wpList_loadM rfl isAc _ rfl bb (ob + k * 5) c rfl HRB.out HCC.out ?_))
              go_roundw
              case rel => exact ⟨k + 1, F', d, by go_num, by omega, HD4.out, HO.out.more⟩
              case measure => simp; omega
          · by_cases hk3 : kd = 3
            · subst hk3
              have HPW := Lib.hid (power_any g F' d x.ka x.keep x.kn x.kc w4 HD4.out.dt HKP.out HGD.out.kl (nums_off HGD.out.kp (fun i hi => Nat.le_trans HB2.out.size (HD4.out.fr i hi))))
              clear hk0
              go_wp2_with (first | ((with_reducible refine wpList_storeW rfl isAc _ _ rfl wr.heap.size c zA.toArray _ rfl rfl HAL.out HCC.out rfl ?_); rw [HW4.out]) | (with_reducible refine wpList_allocA rfl isAc rfl ?_) | (with_reducible refine wpList_idx elAc rfl _ _ rfl k rfl rfl rfl hlt ?_) | (with_reducible refine wpList_loadM rfl isAc _ rfl bb (ob + k * 5) c rfl HRB.out HCC.out ?_))
              refine HPW.out.mono ?_
              rintro _ w5 ⟨rfl, hdid⟩
              have HD5 := Lib.hid (HD4.out.next hdid)
              clear hdid HPW
              go_wp2
              go_roundw
              case rel =>
                obtain ⟨F5, h5⟩ := HD5.out
                exact ⟨k + 1, F5, _, by go_num, by omega, h5, HO.out.power x.keep⟩
              case measure => simp; omega
            · have e4 : (kd == 0) = false := by simpa using hk0
              have e5 : (kd == 3) = false := by simpa using hk3
              clear hk0 hk3
              go_wp2_with (first | ((with_reducible refine wpList_storeW rfl isAc _ _ rfl wr.heap.size c zA.toArray _ rfl rfl HAL.out HCC.out rfl ?_); rw [HW4.out]) | (with_reducible refine wpList_allocA rfl isAc rfl ?_) | (with_reducible refine wpList_idx elAc rfl _ _ rfl k rfl rfl rfl hlt ?_) | (with_reducible refine wpList_loadM rfl isAc _ rfl bb (ob + k * 5) c rfl HRB.out HCC.out ?_))
              go_roundw
              case rel => exact ⟨k + 1, F', d, by go_num, by omega, HD4.out, HO.out.more⟩
              case measure => simp; omega
        · obtain rfl : k = M := by omega
          have HFL := Lib.hid (flush_any g F' d wr HD.out.dt)
          obtain ⟨hof, hqf⟩ := HO.out.flush
          have HOF := Lib.hid hof
          have HQF := Lib.hid hqf
          have HAE := Lib.hid (show d.actE = 0 by unfold Dk.actE; rw [if_pos HO.out.up.live])
          unfold FlushRes at HFL
          rw [HAE.out] at HFL
          generalize d.flush = d1 at HFL HOF HQF
          clear hk hlt hof hqf
          go_wp2_with fail
          refine HFL.out.mono ?_
          rintro _ w4 ⟨rfl, hdid⟩
          obtain ⟨F4, h4⟩ := HD.out.next hdid
          have HD4 := Lib.hid h4
          obtain ⟨f, hf⟩ : ∃ f, f = topN d1 0 30 := ⟨_, rfl⟩
          have HFE := Lib.hid hf
          have HF62 := Lib.hid (show f < 4611686018427387904 by rw [hf]; exact HOF.out.topN HQF.out 0 30)
          have HTP := Lib.hid (top_any g F4 d1 0 30 w4 h4.dt (by unfold I; omega) (by unfold I; omega))
          unfold TopRes at HTP
          rw [show d1.top 0 30 = (f, 0) by unfold Dk.top; rw [if_neg (by omega), if_neg (by rw [HOF.out.bl]; omega), hf]; rfl] at HTP
          clear hdid h4 hf HFL
          go_wp2_with fail
          refine HTP.out.mono ?_
          rintro _ w5 ⟨rfl, hb5⟩
          have HD5 := Lib.hid (HD4.out.below hb5)
          obtain ⟨n, hn⟩ : ∃ n, n = f + 1 := ⟨_, rfl⟩
          have HNE := Lib.hid hn
          have hw1 : IntKind.u64.wrap ((f : Int) + 1) = (n : Int) := by rw [IntKind.wrap_u64]; have := HF62.out; omega
          have hsp := spanN_1000 HLN.out
          have HSP := Lib.hid hsp
          have hwu : d1.write 3 n l1 = ({ d1 with queue := d1.queue ++ qsOf 3 (secs n l1) }, 0) := write_up HOF.out.up (by omega) (by have := HLN.out; omega) (by omega) (by rw [HOF.out.bl]; omega)
          have HWR := Lib.hid (write_any g F4 d1 3 n l1 a1 l1.length c1 w5 HD5.out.dt (by unfold I; omega) (by have := HF62.out; omega) (HL1.out.row.below (HD5.out.out HB2.out)) rfl HL1.out.cp (by rw [HQF.out]; show 0 + _ < 1000; omega))
          unfold WriteRes at HWR
          rw [hwu] at HWR
          have HDT := Lib.hid (show Dk.power { d1 with queue := d1.queue ++ qsOf 3 (secs n l1) } l2 = dT d1 n l1 l2 from rfl)
          generalize { d1 with queue := d1.queue ++ qsOf 3 (secs n l1) } = d2 at HWR HDT
          clear hb5 hn hsp hwu HTP
          go_wp2_with fail
          refine HWR.out.mono ?_
          rintro _ w6 ⟨rfl, hdid⟩
          obtain ⟨F6, h6⟩ := HD5.out.next hdid
          have HD6 := Lib.hid h6
          have HPW := Lib.hid (power_any g F6 d2 a2 l2 n2 c2 w6 h6.dt (HL2.out.1.below (h6.out HB2.out)) HL2.out.2.1 (nums_off HL2.out.1 (fun i hi => Nat.le_trans HB2.out.size (HD6.out.fr i hi))))
          clear hdid h6 HWR hw1
          go_wp2_with fail
          refine HPW.out.mono ?_
          rintro _ w7 ⟨rfl, hdid⟩
          rw [HDT.out] at hdid
          obtain ⟨F7, h7⟩ := HD6.out.next hdid
          have HD7 := Lib.hid h7
          have HRD := Lib.hid (read_any g F7 (dT d1 n l1 l2) 3 30 w7 h7.dt (by unfold I; omega))
          have HTR := Lib.hid (torn_read (d := d1) (n := n) (l := l1) (keep := l2) (top := f) HD4.out.dt.ok HQF.out (by have := HLN.out; omega) (by rw [HOF.out.bl]; have := HSP.out; omega) 30 (fun i hi => by
            rw [HFE.out]
            have := topN_le (d := d1) (x := 0) (k := 30) (i := i) (by rw [HOF.out.bl] at hi; omega)
            rwa [Int.zero_add] at this))
          generalize (dT d1 n l1 l2).read 3 30 = r at HRD HTR
          obtain ⟨rb, rn, rm, re⟩ := r
          simp only at HTR
          clear hdid h7 HPW
          go_wp2_with fail
          refine HRD.out.mono ?_
          rintro _ w8 ⟨a8, c8, rfl, hba, _, _, hb8⟩
          have HB8 := Lib.hid ((HD7.out.below hb8).out HB2.out)
          have hcv1 := run_conv (w := w8) hba rb.length c8 rfl
          have hcv2 := run_conv (w := w8) (HL1.out.row.below HB8.out) l1.length c1 rfl
          clear hb8 hba HRD
          by_cases he : re = 0
          · by_cases hrn : rn ≤ f
            · subst he
              go_wp2
              go_ret
              exact ⟨rfl, HB8.out⟩
            · obtain ⟨k1, k2⟩ := HTR.out he (by omega)
              have hsp2 := span_any (l1.length : Int) w8
              rw [spanI_nat, ← k2] at hsp2
              have HSPC := Lib.hid hsp2
              subst he k1
              clear k2 hsp2
              go_wp2_with fail
              refine HSPC.out.mono ?_
              rintro _ _ ⟨rfl, rfl⟩
              go_wp2
              go_ret
              exact ⟨rfl, HB8.out⟩
          · go_wp2
            go_ret
            exact ⟨rfl, HB8.out⟩
end Go.Proofs.Ytoibonalgmmkbaa
