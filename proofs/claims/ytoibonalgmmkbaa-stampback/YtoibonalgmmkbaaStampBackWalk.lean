/- The walk of falseworklaw09.StampBack. -/
import Derived.Test.YtoibonalgmmkbaaSmP
namespace Go.Proofs.Ytoibonalgmmkbaa
open Go.RowKit Go.Lib

set_option maxRecDepth 100000 in
set_option maxHeartbeats 6400000 in
theorem stampBack_walk (w : World) (z : Int) (wz : (Lit.int .u64 z).wf = true) (a1 : Option Addr) (n1 c1 : Nat) (l : List UInt8) (hl : CameB w a1 n1 c1 l) (k0 k1 : Int) (ik0 : I k0) :
    Calls Try.prog 6 #[.int .u64 z, .slice a1 n1 c1, .agg #[.int .i64 k0, .int .i64 k1]] w fun e w' => e = .returned (.bool true) ∧ RowKit.Below w.heap.size w w' := by
  obtain ⟨n, rfl⟩ : ∃ n : Nat, z = (n : Int) := ⟨z.toNat, by have := u64_wf wz; omega⟩
  have hn2 : n < 18446744073709551616 := by have := (u64_wf wz).2; omega
  obtain rfl := hl.ln
  have HL := Lib.hid hl
  have HN2 := Lib.hid hn2
  have HK0 := Lib.hid ik0
  obtain ⟨w0, hw0⟩ : ∃ w0, w0 = w.alloc (.cells #[.int .i64 k0, .int .i64 k1] 57) := ⟨_, rfl⟩
  have HB0 := Lib.hid (show RowKit.Below w.heap.size w w0 by rw [hw0]; exact (RowKit.Below.refl _ _).alloc (Nat.le_refl _) _)
  have hp0 : w0.heap[w.heap.size]? = some (.cells #[.int .i64 k0, .int .i64 k1] 57) := by rw [hw0]; exact blkn rfl
  have HKX := Lib.hid (fun (W : World) (hb : RowKit.Below w0.heap.size w0 W) => (show W.cell? ⟨w.heap.size, 0, none⟩ = some (.int .i64 k0) ∧ W.cell? ⟨w.heap.size, 1, none⟩ = some (.int .i64 k1) from by
    have hp := (hb.block _ (lt_of_heap hp0)).trans hp0
    exact ⟨by rw [cell_of_row _ _ _ _ _ _ hp]; rfl, by rw [cell_of_row _ _ _ _ _ _ hp]; rfl⟩))
  have HW0 := Lib.hid hw0
  have HLT := Lib.hid (lt_of_heap hp0)
  have A := Lib.hid (salive_any w0)
  clear wz hn2 hl ik0 hw0 hp0
  go_enter Try.func6, Try.ntmps6
  go_wp2_with fail
  rw [← HW0.out]
  refine A.out.mono ?_
  rintro _ w1 ⟨rfl, hb1⟩
  have HC1 := Lib.hid hb1
  have HB1 := Lib.hid (HB0.out.trans (hb1.mono HB0.out.size))
  clear hb1 A
  have hcs : 2000 < l.length ∨ (l.length ≤ 2000 ∧ n = 0) ∨ (l.length ≤ 2000 ∧ n ≠ 0) := by omega
  rcases hcs with h | ⟨h, h0⟩ | ⟨h, h0⟩
  · have d0 : decide ((2000 : Int) < (l.length : Int)) = true := by simp; omega
    clear h
    go_wp2
    go_ret
    exact ⟨rfl, HB1.out⟩
  · subst h0
    have d0 : decide ((2000 : Int) < (l.length : Int)) = false := by simp; omega
    clear h
    go_wp2
    go_ret
    exact ⟨rfl, HB1.out⟩
  · have d0 : decide ((2000 : Int) < (l.length : Int)) = false := by simp; omega
    have d1 : ((n : Int) == 0) = false := by simp; exact h0
    have HLN := Lib.hid h
    have HN0 := Lib.hid h0
    obtain ⟨M, hM⟩ : ∃ M, M = spanN l.length := ⟨_, rfl⟩
    have HM := Lib.hid hM
    have hM255 : M ≤ 255 := by rw [hM]; exact spanN_le _
    have hsp : ∀ W, Calls Try.prog 11 #[.int .i64 (l.length : Int)] W fun e W' => e = .returned (.int .i64 (M : Int)) ∧ W = W' := fun W => by
      have := span_any (l.length : Int) W
      rw [spanI_nat, ← hM] at this
      exact this
    have HSP := Lib.hid hsp
    have HW := Lib.hid (wB (n := n) (l := l) h0 h)
    have HRA := Lib.hid (rB (n := n) (l := l) h0 HN2.out h)
    have HRB := Lib.hid (rB1 (n := n) (l := l) h)
    have HRC := Lib.hid (rB2 (n := n) (l := l) h)
    rw [← hM] at HW HRA HRB HRC
    have HBL := Lib.hid (fun W => blank_any ((M : Int) + 2) W)
    clear h h0 hM hsp
    go_wp2_with fail
    refine (HSP.out _).mono ?_
    rintro _ _ ⟨rfl, rfl⟩
    go_wp2_with fail
    refine (HBL.out _).mono ?_
    rintro _ w2 ⟨g, F, rfl, hd, hb2, hf⟩
    have HD2 := Lib.hid (show DW w1 w2 F g (Dk.blank ((M : Int) + 2)) from ⟨hd, hf, hb2⟩)
    have HWR := Lib.hid (write_any g F (Dk.blank ((M : Int) + 2)) 1 n l a1 l.length c1 w2 hd (by unfold I; omega) HN2.out (HL.out.row.below (HD2.out.out HB1.out)) rfl HL.out.cp (by show 0 + spanN l.length < 1000; have := spanN_le l.length; omega))
    unfold WriteRes at HWR
    rw [HW.out] at HWR
    clear hd hb2 hf
    go_wp2_with fail
    refine HWR.out.mono ?_
    rintro _ w3 ⟨rfl, hdid⟩
    obtain ⟨F3, hd3⟩ := HD2.out.next hdid
    have HD3 := Lib.hid hd3
    have HRR := Lib.hid (fun (x z : Int) (hx : I x) (W : World) (hb : RowKit.Below w3.heap.size w3 W) => read_any g F3 (dB n l) x z W (HD3.out.dt.below hb) hx)
    have HR1 := Lib.hid (HRR.out 1 ((M : Int) + 1) (by unfold I; omega) w3 (RowKit.Below.refl _ _))
    rw [HRA.out] at HR1
    clear hdid hd3 HWR
    go_wp2_with fail
    refine HR1.out.mono ?_
    rintro _ w4 ⟨a4, c4, rfl, hba4, _, _, hb4⟩
    have HBL4 := Lib.hid hb4
    have HD4 := Lib.hid (HD3.out.below hb4)
    have hcv1 := run_conv (w := w4) hba4 l.length c4 rfl
    have hcv2 := run_conv (w := w4) (HL.out.row.below (HD4.out.out HB1.out)) l.length c1 rfl
    have g1 : decide ((l.length : Int) < ((M : Int) - 1) * 53) = false := by have := spanN_lo (n := l.length) (by have := HLN.out; omega); have := spanN_pos (n := l.length) (by have := HLN.out; omega); rw [← HM.out] at *; simp; omega
    have g2 : decide ((M : Int) * 53 < (l.length : Int)) = false := by have := spanN_hi (n := l.length) (by have := HLN.out; omega); rw [← HM.out] at *; simp; omega
    have HR2 := Lib.hid (HRR.out 1 (M : Int) (by unfold I; omega) w4 HBL4.out)
    rw [HRB.out] at HR2
    clear hba4 hb4 HR1
    go_wp2_with fail
    refine HR2.out.mono ?_
    rintro _ w5 ⟨a5, c5, rfl, _, _, _, hb5⟩
    have HBL5 := Lib.hid (HBL4.out.trans (hb5.mono HBL4.out.size))
    have HR3 := Lib.hid (HRR.out 2 ((M : Int) + 2) (by unfold I; omega) w5 HBL5.out)
    rw [HRC.out] at HR3
    clear hb5 HR2 hcv1 hcv2 g1 g2
    go_wp2_with fail
    refine HR3.out.mono ?_
    rintro _ w6 ⟨a6, c6, rfl, _, _, _, hb6⟩
    have HBL6 := Lib.hid (HBL5.out.trans (hb6.mono HBL5.out.size))
    have HD6 := Lib.hid (HD3.out.below HBL6.out)
    obtain ⟨q0, q1⟩ := HKX.out w6 (HD6.out.out HC1.out)
    have HBW := Lib.hid (HD6.out.out HB1.out)
    clear hb6 HR3
    have hcs : k0 < 1 ∨ (1 ≤ k0 ∧ (M : Int) < k0) ∨ (1 ≤ k0 ∧ k0 ≤ (M : Int) ∧ k1 < 0) ∨ (1 ≤ k0 ∧ k0 ≤ (M : Int) ∧ 0 ≤ k1 ∧ 63 < k1) ∨ (1 ≤ k0 ∧ k0 ≤ (M : Int) ∧ 0 ≤ k1 ∧ k1 ≤ 63) := by omega
    rcases hcs with h | ⟨h, h2⟩ | ⟨h, h2, h3⟩ | ⟨h, h2, h3, h4⟩ | ⟨h, h2, h3, h4⟩
    · have e1 : decide (k0 < 1) = true := by simpa using h
      clear h
      go_wp2
      go_ret
      exact ⟨rfl, HBW.out⟩
    · have e1 : decide (k0 < 1) = false := by simp; omega
      have e2 : decide ((M : Int) < k0) = true := by simpa using h2
      clear h h2
      go_wp2
      go_ret
      exact ⟨rfl, HBW.out⟩
    · have e1 : decide (k0 < 1) = false := by simp; omega
      have e2 : decide ((M : Int) < k0) = false := by simp; omega
      have e3 : decide (k1 < 0) = true := by simpa using h3
      clear h h2 h3
      go_wp2
      go_ret
      exact ⟨rfl, HBW.out⟩
    · have e1 : decide (k0 < 1) = false := by simp; omega
      have e2 : decide ((M : Int) < k0) = false := by simp; omega
      have e3 : decide (k1 < 0) = false := by simp; omega
      have e4 : decide (63 < k1) = true := by simpa using h4
      clear h h2 h3 h4
      go_wp2
      go_ret
      exact ⟨rfl, HBW.out⟩
    · obtain ⟨k, rfl⟩ : ∃ k : Nat, k1 = (k : Int) := ⟨k1.toNat, by omega⟩
      have e1 : decide (k0 < 1) = false := by simp; omega
      have e2 : decide ((M : Int) < k0) = false := by simp; omega
      have e3 : decide ((k : Int) < 0) = false := by simp
      have e4 : decide ((63 : Int) < (k : Int)) = false := by simp; omega
      have hk64 : k < 64 := by omega
      have HKL := Lib.hid hk64
      have HT := Lib.hid (show 1 ≤ k0 ∧ k0 ≤ (spanN l.length : Int) by rw [← HM.out]; exact ⟨h, h2⟩)
      have HAT := Lib.hid (at_B (n := n) (l := l) HT.out)
      obtain ⟨s, hs⟩ : ∃ s, s = secOf n l (k0 - 1).toNat := ⟨_, rfl⟩
      have HSE := Lib.hid hs
      have hsl : s.length = 64 := by rw [hs]; exact secOf_len _ _ _
      have HSL := Lib.hid hsl
      obtain ⟨c, hc⟩ : ∃ c, c = bcells s := ⟨_, rfl⟩
      have HCE := Lib.hid hc
      have HCC := Lib.hid (show Cs 64 c by rw [hc]; exact cs_sec hsl)
      have HG := Lib.hid (get_any g F3 (dB n l) k0 w6 HD6.out.dt HK0.out)
      unfold GetRes at HG
      rw [HAT.out, ← hs, ← hc, show (dB n l).has k0 = true from Dk.has_iff.2 (by rw [dB_base, ← HM.out]; omega), if_pos rfl] at HG
      clear h h2 h3 h4 hs hsl hc
      go_wp2_with fail
      refine HG.out.mono ?_
      rintro _ w7 ⟨rfl, hb7⟩
      have HBL7 := Lib.hid (HBL6.out.trans (hb7.mono HBL6.out.size))
      have HD7 := Lib.hid (HD3.out.below HBL7.out)
      obtain ⟨w8, hw8⟩ : ∃ w8, w8 = w7.alloc (.cells c.toArray 59) := ⟨_, rfl⟩
      have HW8 := Lib.hid (show (w7.alloc (.cells zc.toArray 59)).setRow w7.heap.size c.toArray = w8 by rw [hw8]; exact setRow_new rfl)
      have HAL := Lib.hid (heap_alloc_new w7 (.cells zc.toArray 59))
      have hb8 : RowKit.Below w7.heap.size w7 w8 := by rw [hw8]; exact (RowKit.Below.refl _ _).alloc (Nat.le_refl _) _
      have HB78 := Lib.hid hb8
      have HD8 := Lib.hid (HD7.out.below hb8)
      have p8 : w8.heap[w7.heap.size]? = some (.cells c.toArray 59) := by rw [hw8]; exact blkn rfl
      obtain ⟨r0, r1⟩ := HKX.out w8 (HD8.out.out HC1.out)
      obtain ⟨v, hv⟩ : ∃ v, v = (s.getD k 0).toNat := ⟨_, rfl⟩
      have r2 : w8.cell? ⟨w7.heap.size, k, none⟩ = some (.int .u8 (v : Int)) := by rw [hv, cell_of_row _ _ _ _ _ _ p8, HCE.out, List.getElem?_toArray, bcells_get (by rw [HSL.out]; exact HKL.out)]
      have r3 := frozen_of_row _ _ k _ _ p8
      obtain ⟨w9, hw9⟩ : ∃ w9, w9 = w8.setCell ⟨w7.heap.size, k, none⟩ (.int .u8 (((v : Int) + 1) % 256)) := ⟨_, rfl⟩
      have HW9 := Lib.hid hw9.symm
      have hsz7 : w.heap.size < w7.heap.size := by
        have h1 := (HD7.out.out HC1.out).size
        have h2 := HLT.out
        omega
      obtain ⟨c9, hc9⟩ : ∃ c9, c9 = bcells (turnS s k) := ⟨_, rfl⟩
      have hvb : (((v : Int) + 1) % 256) = (((s.getD k 0 + 1 : UInt8)).toNat : Int) := by rw [hv, UInt8.toNat_add]; have : (1 : UInt8).toNat = 1 := rfl; omega
      have p9 : w9.heap[w7.heap.size]? = some (.cells c9.toArray 59) := by
        rw [hw9, heap_setCell_same _ _ _ _ _ _ p8, HCE.out, hc9, hvb]
        simp [turnS, bcells, List.map_set]
      have HR9 := Lib.hid (show (w8.setCell ⟨w7.heap.size, k, none⟩ (.int .u8 (((v : Int) + 1) % 256))).rangeAt w7.heap.size 0 c9 by rw [← hw9]; exact range_row p9)
      have HC9 := Lib.hid (show Cs 64 c9 by rw [hc9]; exact cs_sec (turnS_len HSL.out))
      have r0' : (w8.setCell ⟨w7.heap.size, k, none⟩ (.int .u8 (((v : Int) + 1) % 256))).cell? ⟨w.heap.size, 0, none⟩ = some (.int .i64 k0) := by
        rw [World.cell?_setCell_other _ _ _ _ (fun e => by have := congrArg Addr.block e; simp at this; omega)]; exact r0
      have HD9 := Lib.hid (show DW w1 w9 F3 g (dB n l) from HD7.out.below (by rw [hw9]; exact ((RowKit.Below.refl _ w7).trans HB78.out).setCell (p := ⟨w7.heap.size, k, none⟩) (Nat.le_refl _) _))
      have HPT := Lib.hid (put_any g F3 (dB n l) k0 (turnS s k) w9 HD9.out.dt HK0.out (turnS_len HSL.out) (by show ([] ++ qsOf 1 (secs n l)).length < 1000; rw [List.nil_append, qsOf_length, secs_length]; have := spanN_le l.length; omega))
      unfold PutRes at HPT
      rw [← hc9, (dB_up n l).putE (by rw [dB_base, ← HM.out]; have := HT.out; rw [← HM.out] at this; omega)] at HPT
      clear hb7 hw8 hb8 p8 HG q0 q1 e1 e2 e3 e4 hw9 hc9 p9 hvb hv hsz7
      go_wp2_with (first | ((with_reducible refine wpList_storeW rfl isS _ _ rfl w7.heap.size c zc.toArray _ rfl rfl HAL.out HCC.out (by simp [zc_len]) ?_); rw [HW8.out]) | (with_reducible refine wpList_allocA rfl isS rfl ?_) | (with_reducible refine wpList_loadG isS _ rfl rfl w7.heap.size 0 c9 rfl HR9.out HC9.out ?_))
      rw [HW9.out]
      refine HPT.out.mono ?_
      rintro _ w10 ⟨rfl, hdid⟩
      obtain ⟨F10, hd10⟩ := HD9.out.next hdid
      have HD10 := Lib.hid hd10
      have HTR := Lib.hid (turned_read (n := n) (l := l) HT.out (s := turnS s k) (by rw [← HSE.out]; exact turnS_ne HSL.out HKL.out))
      have HR10 := Lib.hid (read_any g F10 ((dB n l).put k0 (turnS s k)) 1 ((M : Int) + 1) w10 HD10.out.dt (by unfold I; omega))
      rw [← HM.out] at HTR
      generalize ((dB n l).put k0 (turnS s k)).read 1 ((M : Int) + 1) = r at HTR HR10
      obtain ⟨rb, rn, rm, re⟩ := r
      clear hdid hd10 HPT
      go_wp2_with fail
      refine HR10.out.mono ?_
      rintro _ w11 ⟨a11, c11, rfl, hba, _, _, hb11⟩
      have HB11 := Lib.hid ((HD10.out.below hb11).out HB1.out)
      have hcv1 := run_conv (w := w11) hba rb.length c11 rfl
      have hcv2 := run_conv (w := w11) (HL.out.row.below HB11.out) l.length c1 rfl
      clear hb11 hba HR10
      by_cases he : re = 0
      · subst he
        by_cases hbl : rb = l
        · subst hbl
          have HNE := Lib.hid (show ((rn : Int) != (n : Int)) = true by
            have h3 : rn ≠ n := by
              rcases HTR.out with h | h | h
              · exact absurd rfl h
              · exact absurd rfl h
              · exact h
            simp; omega)
          go_wp2
          go_ret
          exact ⟨congrArg (fun b => Ending.returned (.bool b)) HNE.out, HB11.out⟩
        · have he2 : ¬ (strB rb).toList = (strB l).toList := by have := str_ne hbl; simpa using this
          clear hbl
          go_wp2
          go_ret
          exact ⟨rfl, HB11.out⟩
      · go_wp2
        go_ret
        exact ⟨rfl, HB11.out⟩
end Go.Proofs.Ytoibonalgmmkbaa
