
/- The walk of falseworklaw12.JournalRuns. -/
import Derived.Test.YtdfbpaajkpnaeaaGreatJoGJ
import Derived.Deep.DeepCutAuto
import Derived.Deep.CutBlock
namespace Go.Proofs.YtdfbpaajkpnaeaaGreat
set_option maxRecDepth 100000
open Go.RowKit Go.Lib

set_option maxRecDepth 100000 in
set_option maxHeartbeats 25600000 in
theorem journalRuns_walk (w : World) (a1 : Option Addr) (n1 c1 : Nat) (st : List UInt8) (h1 : CameB w a1 n1 c1 st) (a2 : Option Addr) (n2 c2 : Nat) (l : List Aj) (hl : CameJ w a2 n2 l) (p0 p1 : Int) (_ : I p0) (i1 : I p1) :
    Calls Tryz.prog 3 #[.agg #[.int .i64 p0, .int .i64 p1], .slice a1 n1 c1, .slice a2 n2 c2] w fun e w' => e = .returned (.bool true) ∧ RowKit.Below w.heap.size w w' := by
  have I1 := Lib.hid i1
  obtain ⟨wB, hwB⟩ : ∃ wB, wB = w.alloc (.cells #[.int .i64 p0, .int .i64 p1] 22) := ⟨_, rfl⟩
  obtain ⟨bp, hbp⟩ : ∃ bp, bp = w.heap.size := ⟨_, rfl⟩
  have HWB := Lib.hid hwB.symm
  have HBB := Lib.hid (show RowKit.Below w.heap.size w wB by rw [hwB]; exact (RowKit.Below.refl _ _).alloc (Nat.le_refl _) _)
  have HP2 := Lib.hid (show wB.heap[bp]? = some (.cells #[.int .i64 p0, .int .i64 p1] 22) by rw [hwB, hbp]; exact blkn rfl)
  have HBPL := Lib.hid (show bp < wB.heap.size from lt_of_heap HP2.out)
  have PL0 := Lib.hid (fun (W : World) (hb : RowKit.Below wB.heap.size wB W) => show W.cell? ⟨bp, 0, none⟩ = some (.int .i64 p0) by rw [cell_of_row _ _ _ _ _ _ ((hb.block _ HBPL.out).trans HP2.out)]; rfl)
  have PLC := Lib.hid (fun (W : World) (hb : RowKit.Below wB.heap.size wB W) => show W.cell? ⟨bp, 1, none⟩ = some (.int .i64 p1) by rw [cell_of_row _ _ _ _ _ _ ((hb.block _ HBPL.out).trans HP2.out)]; rfl)
  have HCS := Lib.hid (h1.below HBB.out)
  have HCA := Lib.hid (hl.below HBB.out)
  have A := Lib.hid (journalAlive_any wB)
  clear h1 hl i1 hwB
  go_enter Tryz.func3, Tryz.ntmps3
  go_wp2_with ((with_reducible refine wpList_boxA rfl _ _ rfl _ rfl ?_); rw [HWB.out])
  refine A.out.mono ?_
  rintro _ w0 ⟨rfl, hb0⟩
  rw [← hbp]
  clear hbp
  have HB0 := Lib.hid hb0
  have HGR := Lib.hid (jgreat_any l a2 n2 c2 w0 (HCA.out.below hb0))
  have pl0 := PL0.out w0 hb0
  clear hb0 A
  by_cases h60 : 60 < p0
  · have d0 : decide (60 < p0) = true := by simpa using h60
    clear h60
    go_wp2
    go_ret
    exact ⟨rfl, HBB.out.trans (HB0.out.mono HBB.out.size)⟩
  have d0 : decide (60 < p0) = false := by simpa using h60
  obtain ⟨N, hN⟩ : ∃ N, N = blankN p0 := ⟨_, rfl⟩
  have HNE := Lib.hid hN.symm
  have HP60 := Lib.hid (show p0 ≤ 60 by omega)
  clear h60 hN
  go_wp2_with fail
  refine HGR.out.mono ?_
  rintro _ w1 ⟨bg, rfl, hsm, hb1⟩
  have HB1 := Lib.hid (HB0.out.trans (hb1.mono HB0.out.size))
  have HSMA := Lib.hid hsm
  clear hsm hb1 HGR pl0
  cases bg with
  | true =>
    go_wp2
    go_ret
    exact ⟨rfl, HBB.out.trans (HB1.out.mono HBB.out.size)⟩
  | false =>
  have HS := Lib.hid (HSMA.out rfl)
  have hM40 : n2 ≤ 40 := by rw [← HCA.out.ln]; exact (HSMA.out rfl).1
  have B := Lib.hid (blank_any p0 w1)
  have pl0 := PL0.out w1 HB1.out
  clear HSMA
  by_cases h50 : 5000 < n1
  · have d1 : decide ((5000 : Int) < (n1 : Int)) = true := by simp; omega
    clear h50
    go_wp2
    go_ret
    exact ⟨rfl, HBB.out.trans (HB1.out.mono HBB.out.size)⟩
  have d1 : decide ((5000 : Int) < (n1 : Int)) = false := by simp; omega
  have HN50 := Lib.hid (show n1 ≤ 5000 by omega)
  clear h50
  go_wp2_with fail
  refine B.out.mono ?_
  rintro _ w2 ⟨g, F, rfl, hd, hb, hf⟩
  have HB2 := Lib.hid (HB1.out.trans (hb.mono HB1.out.size))
  have HFM := Lib.hid (Calls.mono (st_format (w0 := wB) (p := p0) (s := p1) (N := N) (len := n1) (cap := c1) (st := st) ⟨hd, fun i hi => Nat.le_trans HB1.out.size (hf i hi), HB2.out⟩ HP60.out HNE.out I1.out (HCS.out.row.below HB2.out) HCS.out.ln HCS.out.none HN50.out) fun _ _ h => DFmt.pf h)
  have pl1 := PLC.out w2 HB2.out
  clear hd hb hf B d0 d1 pl0
  go_wp2_with fail
  refine HFM.out.mono ?_
  rintro _ w3 ⟨v, E, b0, X0, q, rfl, hb3, hfq, hne, heq, hx⟩
  have HB3 := Lib.hid hb3
  have HFQ := Lib.hid hfq
  have HNE0 := Lib.hid hne
  have HEQ0 := Lib.hid heq
  have HX0 := Lib.hid hx
  have PW0 := Lib.hid (PL0.out w3 hb3)
  have PW1 := Lib.hid (PLC.out w3 hb3)
  have HLT := Lib.hid (show ∀ i ∈ [bp], i < w3.heap.size from fun i hi => by rw [List.mem_singleton.1 hi]; exact Nat.lt_of_lt_of_le HBPL.out HB3.out.size)
  have HK0 := Lib.hid (K9.start w3)
  have HBK := Lib.hid (fun (W : World) (y : Option Nat) (hk : K9 w3 W y) => show Calls Tryz.prog 9 #[.int .i64 p0] W (fun e w' => ∃ R, e = .returned (.agg R.toArray) ∧ E4 X0 (Dk.blank p0) R w' y ∧ RowKit.Below W.heap.size W w') by
    refine (rblank_any p0 (fun i => X0 i ∨ y = some i) W fun i hi => ?_).mono ?_
    · rcases hi with e | e
      · exact Nat.lt_of_lt_of_le (HX0.out i e) hk.bl.size
      · exact lt_of_heap (hk.hy i e).2
    · rintro _ w' ⟨A0, C0, A1, C1, rfl, k1, k2⟩
      exact ⟨_, rfl, ⟨_, ⟨A0, C0, A1, C1, rfl, k1⟩, fun _ hi => Or.inl hi, fun _ hb => Or.inr hb⟩, k2⟩)
  have HFT := Lib.hid (fun (W : World) (y : Option Nat) (hk : K9 w3 W y) (R : List Value) (he : E4 X0 (Dk.blank p0) R W y) => rfmt_any (N := N) (s := p1) (E := E) (q := q) (len := n1) (cap := c1) HFQ.out HP60.out HNE.out I1.out hk HX0.out he ((HCS.out.row.below HB3.out).below hk.bl) HCS.out.ln HCS.out.none HN50.out)
  clear hb3 hfq hne heq hx HFM pl1
  go_wp2_with fail
  apply wp_then6 (fun b _ c W => M9 X0 w3 N p1 E q b c W)
  · refine wp_region_held_drew (S := fun W => Agree [bp] w3 W) (by kernel_rfl) ?_ (fun hHeld => ?_)
    · exact fun _ _ => rfl
    refine held_take 0 (v := ?_) rfl (by kernel_rfl) (by kernel_rfl) (by kernel_rfl) (fun _ _ _ h => by cases h.1) hHeld (by rfl) ?_ ?_
    rotate_left
    · (intro W hW; go_simp; try with_reducible rfl)
    try simp only [Act.put, List.setIfInBounds_toArray, List.set_cons_zero, List.set_cons_succ]
    refine held_take 1 (v := ?_) rfl (by kernel_rfl) (by kernel_rfl) (by kernel_rfl) (fun _ _ _ h => by cases h.1) hHeld (by rfl) ?_ ?_
    rotate_left
    · (intro W hW; have e0 := hW.cell (b := bp) (by simp) PW0.out; go_simp; try with_reducible rfl)
    try simp only [Act.put, List.setIfInBounds_toArray, List.set_cons_zero, List.set_cons_succ]
    refine held_take 3 (v := ?_) rfl (by kernel_rfl) (by kernel_rfl) (by kernel_rfl) (fun _ _ _ h => by cases h.1) hHeld (by rfl) ?_ ?_
    rotate_left
    · (intro W hW; go_simp; try with_reducible rfl)
    try simp only [Act.put, List.setIfInBounds_toArray, List.set_cons_zero, List.set_cons_succ]
    refine held_take 4 (v := ?_) rfl (by kernel_rfl) (by kernel_rfl) (by kernel_rfl) (fun _ _ _ h => by cases h.1) hHeld (by rfl) ?_ ?_
    rotate_left
    · (intro W hW; have e0 := hW.cell (b := bp) (by simp) PW1.out; go_simp; try with_reducible rfl)
    try simp only [Act.put, List.setIfInBounds_toArray, List.set_cons_zero, List.set_cons_succ]
    refine held_take 5 (v := ?_) rfl (by kernel_rfl) (by kernel_rfl) (by kernel_rfl) (fun _ _ _ h => by cases h.1) hHeld (by rfl) ?_ ?_
    rotate_left
    · (intro W hW; go_simp; try with_reducible rfl)
    try simp only [Act.put, List.setIfInBounds_toArray, List.set_cons_zero, List.set_cons_succ]
    refine held_two 2 10 rfl rfl (by kernel_rfl) (by rfl) (by rfl) (fun K hK => ?_) (fun K hK => ?_)
    · go_simp
      go_at_call 9
      refine (HBK.out _ none HK0.out).mono ?_
      rintro _ wq1 ⟨R1, rfl, hee, hbq⟩
      have HE1 := Lib.hid hee
      have HK1 := Lib.hid (HK0.out.call hbq)
      clear hbq hee
      refine hK.out _ _ (fun i hi => HK1.out.bl.block i (HLT.out i hi)) (fun hHeld => ?_)
      clear hK K
      try simp only [Act.put, List.setIfInBounds_toArray, List.set_cons_zero, List.set_cons_succ]
      refine held_two 6 10 rfl rfl (by kernel_rfl) (by rfl) (by rfl) (fun K hK => ?_) (fun K hK => ?_)
      · go_simp
        go_at_call 8
        refine (HFT.out _ none HK1.out R1 HE1.out).mono ?_
        rintro _ wq2 ⟨d2, rfl, hee, hbq⟩
        have HN2 := Lib.hid hee
        have HK2 := Lib.hid (HK1.out.call hbq)
        clear hbq hee
        refine hK.out _ _ (fun i hi => HK2.out.bl.block i (HLT.out i hi)) (fun hHeld => ?_)
        clear hK K
        try simp only [Act.put, List.setIfInBounds_toArray, List.set_cons_zero, List.set_cons_succ]
        refine held_take 7 (v := ?_) rfl (by kernel_rfl) (by kernel_rfl) (by kernel_rfl) (fun _ _ _ h => by cases h.1) hHeld (by rfl) ?_ ?_
        rotate_left
        · (intro W hW; go_simp; try with_reducible rfl)
        try simp only [Act.put, List.setIfInBounds_toArray, List.set_cons_zero, List.set_cons_succ]
        refine held_take 8 (v := ?_) rfl (by kernel_rfl) (by kernel_rfl) (by kernel_rfl) (fun _ _ _ h => by cases h.1) hHeld (by rfl) ?_ ?_
        rotate_left
        · (intro W hW; go_simp; try with_reducible rfl)
        try simp only [Act.put, List.setIfInBounds_toArray, List.set_cons_zero, List.set_cons_succ]
        refine held_take 9 (v := ?_) rfl (by kernel_rfl) (by kernel_rfl) (by kernel_rfl) (fun _ _ _ h => by cases h.1) hHeld (by rfl) ?_ ?_
        rotate_left
        · (intro W hW; go_simp; try with_reducible rfl)
        try simp only [Act.put, List.setIfInBounds_toArray, List.set_cons_zero, List.set_cons_succ]
        refine held_next 10 rfl (by kernel_rfl) (by rfl) (fun K hK => ?_)
        refine jallocJ rfl (fun b3 wq3 he hbq hnq => ?_)
        have HK3 := Lib.hid (HK2.out.ay he hbq hnq)
        have HN3 := Lib.hid (HN2.out.ay he hbq)
        clear he hbq hnq
        refine hK.out _ _ (fun i hi => HK3.out.bl.block i (HLT.out i hi)) (fun hHeld => ?_)
        clear hK K
        try simp only [Act.put, List.setIfInBounds_toArray, List.set_cons_zero, List.set_cons_succ]
        refine held_next 11 rfl (by kernel_rfl) (by rfl) (fun K hK => ?_)
        refine jstoreJ _ _ rfl b3 d2 zJ9 rfl rfl (HK3.out.hy _ rfl).2 zJ9_size HN3.out.1 ?_
        refine hK.out _ _ (fun i hi => (setRow_other _ _ _ _ (by have := (HK3.out.hy _ rfl).1; have := HLT.out i hi; omega)).trans (HK3.out.bl.block i (HLT.out i hi))) (fun hHeld => ?_)
        clear hK K
        try simp only [Act.put]
        refine held_take 12 (v := ?_) rfl (by kernel_rfl) (by kernel_rfl) (by kernel_rfl) (fun _ _ _ h => by cases h.1) hHeld (by rfl) ?_ ?_
        rotate_left
        · (intro W hW; go_simp; try with_reducible rfl)
        try simp only [Act.put, List.setIfInBounds_toArray, List.set_cons_zero, List.set_cons_succ]
        exact wpAnyH_done (by kernel_rfl) ⟨rfl, b3, R1, d2, rfl, HN3.out.fin HK3.out⟩ _
      · refine jallocJ rfl (fun b4 wq4 he hbq hnq => ?_)
        have HK4 := Lib.hid (HK1.out.ay he hbq hnq)
        have HE4 := Lib.hid (HE1.out.ay he hbq)
        clear he hbq hnq
        refine hK.out _ _ (fun i hi => HK4.out.bl.block i (HLT.out i hi)) (fun hHeld => ?_)
        clear hK K
        try simp only [Act.put, List.setIfInBounds_toArray, List.set_cons_zero, List.set_cons_succ]
        refine held_next 6 rfl (by kernel_rfl) (by rfl) (fun K hK => ?_)
        go_simp
        go_at_call 8
        refine (HFT.out _ (some b4) HK4.out R1 HE4.out).mono ?_
        rintro _ wq5 ⟨d5, rfl, hee, hbq⟩
        have HN5 := Lib.hid hee
        have HK5 := Lib.hid (HK4.out.call hbq)
        clear hbq hee
        refine hK.out _ _ (fun i hi => HK5.out.bl.block i (HLT.out i hi)) (fun hHeld => ?_)
        clear hK K
        try simp only [Act.put, List.setIfInBounds_toArray, List.set_cons_zero, List.set_cons_succ]
        refine held_take 7 (v := ?_) rfl (by kernel_rfl) (by kernel_rfl) (by kernel_rfl) (fun _ _ _ h => by cases h.1) hHeld (by rfl) ?_ ?_
        rotate_left
        · (intro W hW; go_simp; try with_reducible rfl)
        try simp only [Act.put, List.setIfInBounds_toArray, List.set_cons_zero, List.set_cons_succ]
        refine held_take 8 (v := ?_) rfl (by kernel_rfl) (by kernel_rfl) (by kernel_rfl) (fun _ _ _ h => by cases h.1) hHeld (by rfl) ?_ ?_
        rotate_left
        · (intro W hW; go_simp; try with_reducible rfl)
        try simp only [Act.put, List.setIfInBounds_toArray, List.set_cons_zero, List.set_cons_succ]
        refine held_take 9 (v := ?_) rfl (by kernel_rfl) (by kernel_rfl) (by kernel_rfl) (fun _ _ _ h => by cases h.1) hHeld (by rfl) ?_ ?_
        rotate_left
        · (intro W hW; go_simp; try with_reducible rfl)
        try simp only [Act.put, List.setIfInBounds_toArray, List.set_cons_zero, List.set_cons_succ]
        refine held_next 11 rfl (by kernel_rfl) (by rfl) (fun K hK => ?_)
        refine jstoreJ _ _ rfl b4 d5 zJ9 rfl rfl (HK5.out.hy _ rfl).2 zJ9_size HN5.out.1 ?_
        refine hK.out _ _ (fun i hi => (setRow_other _ _ _ _ (by have := (HK5.out.hy _ rfl).1; have := HLT.out i hi; omega)).trans (HK5.out.bl.block i (HLT.out i hi))) (fun hHeld => ?_)
        clear hK K
        try simp only [Act.put]
        refine held_take 12 (v := ?_) rfl (by kernel_rfl) (by kernel_rfl) (by kernel_rfl) (fun _ _ _ h => by cases h.1) hHeld (by rfl) ?_ ?_
        rotate_left
        · (intro W hW; go_simp; try with_reducible rfl)
        try simp only [Act.put, List.setIfInBounds_toArray, List.set_cons_zero, List.set_cons_succ]
        exact wpAnyH_done (by kernel_rfl) ⟨rfl, b4, R1, d5, rfl, HN5.out.fin HK5.out⟩ _
    · refine jallocJ rfl (fun b6 wq6 he hbq hnq => ?_)
      have HK6 := Lib.hid (HK0.out.ay he hbq hnq)
      clear he hbq hnq
      refine hK.out _ _ (fun i hi => HK6.out.bl.block i (HLT.out i hi)) (fun hHeld => ?_)
      clear hK K
      try simp only [Act.put, List.setIfInBounds_toArray, List.set_cons_zero, List.set_cons_succ]
      refine held_next 2 rfl (by kernel_rfl) (by rfl) (fun K hK => ?_)
      go_simp
      go_at_call 9
      refine (HBK.out _ (some b6) HK6.out).mono ?_
      rintro _ wq7 ⟨R7, rfl, hee, hbq⟩
      have HE7 := Lib.hid hee
      have HK7 := Lib.hid (HK6.out.call hbq)
      clear hbq hee
      refine hK.out _ _ (fun i hi => HK7.out.bl.block i (HLT.out i hi)) (fun hHeld => ?_)
      clear hK K
      try simp only [Act.put, List.setIfInBounds_toArray, List.set_cons_zero, List.set_cons_succ]
      refine held_next 6 rfl (by kernel_rfl) (by rfl) (fun K hK => ?_)
      go_simp
      go_at_call 8
      refine (HFT.out _ (some b6) HK7.out R7 HE7.out).mono ?_
      rintro _ wq8 ⟨d8, rfl, hee, hbq⟩
      have HN8 := Lib.hid hee
      have HK8 := Lib.hid (HK7.out.call hbq)
      clear hbq hee
      refine hK.out _ _ (fun i hi => HK8.out.bl.block i (HLT.out i hi)) (fun hHeld => ?_)
      clear hK K
      try simp only [Act.put, List.setIfInBounds_toArray, List.set_cons_zero, List.set_cons_succ]
      refine held_take 7 (v := ?_) rfl (by kernel_rfl) (by kernel_rfl) (by kernel_rfl) (fun _ _ _ h => by cases h.1) hHeld (by rfl) ?_ ?_
      rotate_left
      · (intro W hW; go_simp; try with_reducible rfl)
      try simp only [Act.put, List.setIfInBounds_toArray, List.set_cons_zero, List.set_cons_succ]
      refine held_take 8 (v := ?_) rfl (by kernel_rfl) (by kernel_rfl) (by kernel_rfl) (fun _ _ _ h => by cases h.1) hHeld (by rfl) ?_ ?_
      rotate_left
      · (intro W hW; go_simp; try with_reducible rfl)
      try simp only [Act.put, List.setIfInBounds_toArray, List.set_cons_zero, List.set_cons_succ]
      refine held_take 9 (v := ?_) rfl (by kernel_rfl) (by kernel_rfl) (by kernel_rfl) (fun _ _ _ h => by cases h.1) hHeld (by rfl) ?_ ?_
      rotate_left
      · (intro W hW; go_simp; try with_reducible rfl)
      try simp only [Act.put, List.setIfInBounds_toArray, List.set_cons_zero, List.set_cons_succ]
      refine held_next 11 rfl (by kernel_rfl) (by rfl) (fun K hK => ?_)
      refine jstoreJ _ _ rfl b6 d8 zJ9 rfl rfl (HK8.out.hy _ rfl).2 zJ9_size HN8.out.1 ?_
      refine hK.out _ _ (fun i hi => (setRow_other _ _ _ _ (by have := (HK8.out.hy _ rfl).1; have := HLT.out i hi; omega)).trans (HK8.out.bl.block i (HLT.out i hi))) (fun hHeld => ?_)
      clear hK K
      try simp only [Act.put]
      refine held_take 12 (v := ?_) rfl (by kernel_rfl) (by kernel_rfl) (by kernel_rfl) (fun _ _ _ h => by cases h.1) hHeld (by rfl) ?_ ?_
      rotate_left
      · (intro W hW; go_simp; try with_reducible rfl)
      try simp only [Act.put, List.setIfInBounds_toArray, List.set_cons_zero, List.set_cons_succ]
      exact wpAnyH_done (by kernel_rfl) ⟨rfl, b6, R7, d8, rfl, HN8.out.fin HK8.out⟩ _
  intro qb R0 c9 V hM
  have HBV := Lib.hid (HB3.out.trans (hM.1.mono HB3.out.size))
  have HM := Lib.hid hM
  clear hM HBK HFT HK0 HLT PW0 PW1
  by_cases hE : E = 0
  rotate_left
  · have HV := Lib.hid (HNE0.out hE)
    have d0 : (E == 0) = false := by simpa using hE
    have d1 : (E != 0) = true := by simpa using hE
    have d2 : (E != E) = false := by simp
    rw [HV.out]
    clear hE
    go_wp2
    go_ret
    exact ⟨rfl, HBB.out.trans (HBV.out.mono HBB.out.size)⟩
  subst hE
  obtain ⟨hv0, hsx⟩ := HEQ0.out rfl
  obtain ⟨k1, k2, k3, k4⟩ := HM.out
  obtain ⟨R, rfl, hv⟩ := k4 rfl
  have HJ0 := Lib.hid (show ∃ X r R x n rd, JB wB V g b0 qb N 0 p1 X r R x n rd from ⟨X0, _, R, _, _, _, ⟨k3, hv, fun e => by have := HX0.out _ e; omega⟩, hsx.below k1, Nat.le_trans HB3.out.size k2⟩)
  subst hv0
  clear hsx k1 k2 k3 k4 hv HEQ0 HNE0 HM HFQ HX0 HB0 HB1 HB2 HB3
  go_wp2_with fail
  go_loopw [8, 73] (fun c8 c73 wr => ∃ (k b : Nat), c8 = .pointer (some ⟨b, 0, none⟩) ∧ c73 = .int .i64 (k : Int) ∧ k ≤ n2 ∧ Hid (∃ X r R x n rd, JB wB wr g b qb N k p1 X r R x n rd)) (fun _ c73 _ => n2 - (match c73 with | .int _ q => q | _ => 0).toNat)
  case atStart => exact ⟨0, b0, rfl, rfl, Nat.zero_le _, HJ0⟩
  case round =>
    clear HJ0 HBV
    obtain ⟨k, b, rfl, rfl, hk, HKK⟩ := hrel
    have HK40 := Lib.hid (show k ≤ 100 by omega)
    by_cases hlt : k < n2
    · obtain ⟨ac, hac⟩ : ∃ ac, l[k]? = some ac := ⟨_, List.getElem?_eq_getElem (by rw [HCA.out.ln]; exact hlt)⟩
      have hxm := List.mem_of_getElem? hac
      obtain ⟨X, r, R, x, n, rd, hj⟩ := HKK.out
      have HBW := Lib.hid hj.sx.bl
      have HGD := Lib.hid (HCA.out.gd ac hxm)
      have HSX := Lib.hid (HS.out.2 ac hxm)
      obtain ⟨bb, ob, ha1, _, hrb⟩ := (HCA.out.li.below HBW.out).get (f := ajs) (n := 4) (fun _ _ => rfl) (by decide) hac
      obtain ⟨c, hc⟩ : ∃ c, c = ajs ac := ⟨_, rfl⟩
      rw [← hc] at hrb
      have HRB := Lib.hid hrb
      have HCC := Lib.hid (show Cs 4 c by rw [hc]; exact ajs_cs ac)
      obtain ⟨w4, hw4⟩ : ∃ w4, w4 = wr.alloc (.cells c.toArray 47) := ⟨_, rfl⟩
      have hb4 : RowKit.Below wr.heap.size wr w4 := by rw [hw4]; exact (RowKit.Below.refl _ _).alloc (Nat.le_refl _) _
      have HW4 := Lib.hid (show (wr.alloc (.cells zAj.toArray 47)).setRow wr.heap.size c.toArray = w4 by rw [hw4]; exact setRow_new rfl)
      have HAL := Lib.hid (heap_alloc_new wr (.cells zAj.toArray 47))
      have HAC := Lib.hid (AjAt.new hc (show w4.heap[wr.heap.size]? = some (.cells c.toArray 47) by rw [hw4]; exact blkn rfl))
      have HJ4 := Lib.hid (hj.below hb4)
      have HXA := Lib.hid (show ¬ X wr.heap.size from fun e => by have := (hj.sx.jlt _ e).1; omega)
      have HMORE := Lib.hid (show ∃ X r R x n rd, JB wB w4 g b qb N (k + 1) p1 X r R x n rd from ⟨X, r, R, x, n, rd, HJ4.out.more⟩)
      have HBYT := Lib.hid (HGD.out.bp.row.below HJ4.out.sx.bl)
      have HRC := Lib.hid (rjc_cs hj.rj.vv.cs x (N : Int) n p1 rd)
      have HSZ := Lib.hid (show (rjc R x (N : Int) n p1 rd).toArray.size = 9 by simp [hj.rj.vv.cs.len])
      obtain ⟨kd, hkd⟩ : ∃ y, y = ac.kind := ⟨_, rfl⟩
      have q0 := HAC.out.c0
      have q1 := HAC.out.c1
      have q2 := HAC.out.c2
      have q3 := HAC.out.c3
      rw [← hkd] at q0
      subst ha1
      clear hac hxm hrb hc hw4 hb4 hkd hj
      go_upto_block 2 with (first | ((with_reducible refine wpList_storeW rfl isAj _ _ rfl wr.heap.size c zAj.toArray _ rfl rfl HAL.out HCC.out rfl ?_); rw [HW4.out]) | (with_reducible refine wpList_allocA rfl isAj rfl ?_) | (with_reducible refine wpList_idx elAj rfl _ _ rfl k rfl rfl rfl hlt ?_) | (with_reducible refine wpList_loadM rfl isAj _ rfl bb (ob + k * 4) c rfl HRB.out HCC.out ?_))
      go_cut [8, 14, 15] (fun c8 c14 c15 wx => ∃ (b' : Nat) (E : Int), c8 = .pointer (some ⟨b', 0, none⟩) ∧ c14 = .int .i64 E ∧ c15 = .int .i64 E ∧ Hid (∃ X r R x n rd, JB wB wx g b' qb N (k + 1) p1 X r R x n rd))
      case first =>
        clear HW4 HAL
        by_cases hk0 : kd = 0
        · as_aux_lemma =>
          subst hk0
          obtain ⟨w5, hw5⟩ : ∃ w5, w5 = w4.alloc (.cells #[] 5) := ⟨_, rfl⟩
          have HW5 := Lib.hid hw5.symm
          have HB5 := Lib.hid (show RowKit.Below w4.heap.size w4 w5 by rw [hw5]; exact (RowKit.Below.refl _ _).alloc (Nat.le_refl _) _)
          have HOL := Lib.hid (show w5.ownsRow w4.heap.size 5 1 (.slice (some ⟨w4.heap.size, 0, none⟩) 0 0) 0 [] by rw [hw5]; exact own_lit w4 w4.heap.size 5 1 (Nat.le_refl _))
          have q5 : w5.cell? ⟨wr.heap.size, 2, none⟩ = some (.slice ac.ba ac.bn ac.bc) := (HAC.out.below HB5.out).c2
          clear hw5
          have HAPF := Lib.hid (fun (W : World) (hb : RowKit.Below w4.heap.size w4 W) (a : Option Addr) (c : Nat) (hba : BAt W a ac.bs) (hnn : a = none → ac.bs = []) => st_append (len := ac.bn) (cap := c) (HJ4.out.sx.below hb) HK40.out hba HGD.out.bp.ln hnn)
          clear q1 q3
          go_wp2_with (first | ((with_reducible refine wpList_lit elB rfl rfl ?_); rw [HW5.out]) | (at_builtin; refine wpList_appO elB rfl _ _ rfl w4.heap.size (.slice (some ⟨w4.heap.size, 0, none⟩) 0 0) 0 [] ac.ba ac.bn ac.bc (bcells ac.bs) rfl rfl HOL.out (by rw [bcells_len, HGD.out.bp.ln, Nat.mul_one]) (lie_bat (HBYT.out.below HB5.out)) (fun e => by have h1 := HGD.out.bp.nil e; have h2 := HGD.out.bp.cp; omega) (bcells_one _) (by have := HSX.out.1; omega) (by decide) HB5.out.size ?_; intro v6 w6 h6; have HB6 := Lib.hid (below_appd h6 HB5.out HB5.out.size (fun i hi => by injection hi with hi; exact Nat.le_of_eq hi)); obtain ⟨a6, c6, rfl, hba6, hc6, _, hn6, _⟩ := OB.row (show OB w6 w4.heap.size v6 ac.bs by unfold OB; rw [HGD.out.bp.ln]; have h := h6.1; rwa [Nat.zero_add, List.nil_append] at h); rw [HGD.out.bp.ln]; have HBA6 := Lib.hid hba6; have HNN6 := Lib.hid (show a6 = none → ac.bs = [] from fun e => List.length_eq_zero_iff.1 (by have := hn6 e; omega)); clear h6 hba6 hc6 hn6))
          refine (HAPF.out w6 HB6.out a6 c6 HBA6.out HNN6.out).mono ?_
          rintro _ w7 ⟨p, X', hp, rfl, hs, hf⟩
          have HS7 := Lib.hid hs
          have HRJ7 := Lib.hid ((HJ4.out.rj.below HB6.out).next hf)
          have q6 : w7.cell? ⟨wr.heap.size, 2, none⟩ = some (.slice ac.ba ac.bn ac.bc) := by rw [World.cell?_of_block (a := ⟨wr.heap.size, 2, none⟩) (hf.on.block _ (HAC.out.below HB6.out).lt HXA.out)]; exact (HAC.out.below HB6.out).c2
          have HRA := Lib.hid (Sx.rapp (cap := ac.bc) HJ4.out.sx HK40.out HRJ7.out (fun i hi => (hs.jlt i hi).1) (HGD.out.bp.row.below hs.bl) HGD.out.bp.ln HGD.out.bp.none HSX.out.1)
          unfold RJRes at HRA
          rw [← hp] at HRA
          clear hp hs hf q5 HAPF HBA6 HNN6 HOL HW5
          go_wp2_with (with_reducible refine wpList_loadW rfl isJ9 _ rfl qb (rjc R x (N : Int) n p1 rd) _ rfl HRJ7.out.hq HRC.out ?_)
          refine HRA.out.mono ?_
          rintro _ w8 ⟨R', rfl, hv, hb8⟩
          have HQ8 := Lib.hid (HRJ7.out.below hb8).hq
          have HJC := Lib.hid (rjc_cs hv.cs p.2.1 (N : Int) p.2.2.1 p1 p.2.2.2.1)
          have HJB := Lib.hid (show ∃ X r R x n rd, JB wB (w8.setRow qb (rjc R' p.2.1 (N : Int) p.2.2.1 p1 p.2.2.2.1).toArray) g b qb N (k + 1) p1 X r R x n rd from ⟨X', p.1, R', _, _, _, JB.row HRJ7.out HS7.out HJ4.out.q0 hb8 hv⟩)
          clear hv hb8 HRA q6
          go_wp2_with (with_reducible refine wpList_storeW rfl isJ9 _ _ rfl qb (rjc R' p.2.1 (N : Int) p.2.2.1 p1 p.2.2.2.1) _ _ rfl rfl HQ8.out HJC.out HSZ.out ?_)
          go_meet
          case rel => exact ⟨b, p.2.2.2.2, rfl, rfl, rfl, HJB⟩
        have e0 : (kd == 0) = false := by simpa using hk0
        by_cases hk1 : kd = 1
        · as_aux_lemma =>
          subst hk1
          clear hk0 e0
          rcases HJ4.out.sx with ⟨F, lb, d, hsa⟩ | ⟨hr, F, d, hsd⟩
          · have HDE := Lib.hid (dat_dead hsa.jl.jm.dt)
            rw [hsa.al.dd] at HDE
            have HSA := Lib.hid hsa
            clear hsa
            obtain ⟨w5, hw5⟩ : ∃ w5, w5 = w4.alloc (.cells #[] 5) := ⟨_, rfl⟩
            have HW5 := Lib.hid hw5.symm
            have HB5 := Lib.hid (show RowKit.Below w4.heap.size w4 w5 by rw [hw5]; exact (RowKit.Below.refl _ _).alloc (Nat.le_refl _) _)
            have HOL := Lib.hid (show w5.ownsRow w4.heap.size 5 1 (.slice (some ⟨w4.heap.size, 0, none⟩) 0 0) 0 [] by rw [hw5]; exact own_lit w4 w4.heap.size 5 1 (Nat.le_refl _))
            have q5 : w5.cell? ⟨wr.heap.size, 2, none⟩ = some (.slice ac.ba ac.bn ac.bc) := (HAC.out.below HB5.out).c2
            clear hw5
            have HCMF := Lib.hid (fun (W : World) (hb : RowKit.Below w4.heap.size w4 W) (a : Option Addr) (c : Nat) (hba : BAt W a ac.bs) (hnn : a = none → ac.bs = []) => st_compact (len := ac.bn) (cap := c) (HSA.out.below hb) HK40.out hba HGD.out.bp.ln hnn HSX.out.1)
            clear q1 q3
            go_wp2_with fail
            refine HDE.out.mono ?_
            rintro _ _ ⟨rfl, rfl⟩
            clear HDE
            go_wp2_with (first | ((with_reducible refine wpList_lit elB rfl rfl ?_); rw [HW5.out]) | (at_builtin; refine wpList_appO elB rfl _ _ rfl w4.heap.size (.slice (some ⟨w4.heap.size, 0, none⟩) 0 0) 0 [] ac.ba ac.bn ac.bc (bcells ac.bs) rfl rfl HOL.out (by rw [bcells_len, HGD.out.bp.ln, Nat.mul_one]) (lie_bat (HBYT.out.below HB5.out)) (fun e => by have h1 := HGD.out.bp.nil e; have h2 := HGD.out.bp.cp; omega) (bcells_one _) (by have := HSX.out.1; omega) (by decide) HB5.out.size ?_; intro v6 w6 h6; have HB6 := Lib.hid (below_appd h6 HB5.out HB5.out.size (fun i hi => by injection hi with hi; exact Nat.le_of_eq hi)); obtain ⟨a6, c6, rfl, hba6, hc6, _, hn6, _⟩ := OB.row (show OB w6 w4.heap.size v6 ac.bs by unfold OB; rw [HGD.out.bp.ln]; have h := h6.1; rwa [Nat.zero_add, List.nil_append] at h); rw [HGD.out.bp.ln]; have HBA6 := Lib.hid hba6; have HNN6 := Lib.hid (show a6 = none → ac.bs = [] from fun e => List.length_eq_zero_iff.1 (by have := hn6 e; omega)); clear h6 hba6 hc6 hn6))
            refine (HCMF.out w6 HB6.out a6 c6 HBA6.out HNN6.out).mono ?_
            rintro _ w7 ⟨p, X', hp, rfl, hs, hf⟩
            have HS7 := Lib.hid hs
            have HP7 := Lib.hid hp
            have HRJ7 := Lib.hid ((HJ4.out.rj.below HB6.out).next hf)
            have q6 : w7.cell? ⟨wr.heap.size, 2, none⟩ = some (.slice ac.ba ac.bn ac.bc) := by rw [World.cell?_of_block (a := ⟨wr.heap.size, 2, none⟩) (hf.on.block _ (HAC.out.below HB6.out).lt HXA.out)]; exact (HAC.out.below HB6.out).c2
            have HRA := Lib.hid (HSA.out.rcmp (cap := ac.bc) HK40.out HRJ7.out (fun i hi => (hs.jlt i hi).1) (HGD.out.bp.row.below hs.bl) HGD.out.bp.ln HGD.out.bp.none HSX.out.1)
            unfold RJRes at HRA
            clear hp hs hf q5 HCMF HBA6 HNN6 HOL HW5
            go_wp2_with (with_reducible refine wpList_loadW rfl isJ9 _ rfl qb (rjc R x (N : Int) n p1 rd) _ rfl HRJ7.out.hq HRC.out ?_)
            refine HRA.out.mono ?_
            rintro _ w8 ⟨p', hp', R', rfl, hv, hb8⟩
            obtain rfl := HP7.out.uniq hp'
            clear hp'
            have HQ8 := Lib.hid (HRJ7.out.below hb8).hq
            have HJC := Lib.hid (rjc_cs hv.cs p.2.1 (N : Int) p.2.2.1 p1 p.2.2.2.1)
            have HJB := Lib.hid (show ∃ X r R x n rd, JB wB (w8.setRow qb (rjc R' p.2.1 (N : Int) p.2.2.1 p1 p.2.2.2.1).toArray) g b qb N (k + 1) p1 X r R x n rd from ⟨X', p.1, R', _, _, _, JB.row HRJ7.out HS7.out HJ4.out.q0 hb8 hv⟩)
            clear hv hb8 HRA q6
            go_wp2_with (with_reducible refine wpList_storeW rfl isJ9 _ _ rfl qb (rjc R' p.2.1 (N : Int) p.2.2.1 p1 p.2.2.2.1) _ _ rfl rfl HQ8.out HJC.out HSZ.out ?_)
            go_meet
            case rel => exact ⟨b, p.2.2.2.2, rfl, rfl, rfl, HJB⟩
          · have HDE := Lib.hid (dat_dead hsd.dw.dt)
            rw [hsd.de.dd] at HDE
            clear hsd hr q1 q2 q3
            go_wp2_with fail
            refine HDE.out.mono ?_
            rintro _ _ ⟨rfl, rfl⟩
            clear HDE
            go_wp2
            go_roundw
            case rel => exact ⟨k + 1, b, rfl, by go_num, by omega, HMORE⟩
            case measure => simp; omega
        have e1 : (kd == 1) = false := by simpa using hk1
        by_cases hk2 : kd = 2
        · as_aux_lemma =>
          subst hk2
          clear hk0 hk1 e0 e1
          obtain ⟨F, hds, hFX⟩ := HJ4.out.sx.ds
          have HDS := Lib.hid hds
          have HRJ := Lib.hid (HJ4.out.rj.less hFX)
          clear hds hFX q1 q2 q3
          have HOP := Lib.hid (ds_open HDS.out HK40.out)
          have pl1 := PLC.out _ HDS.out.bl
          go_wp2_with fail
          refine HOP.out.mono ?_
          rintro _ w7 ⟨b2, a7, c7, v7, L, y, X', rfl, hba, hrec, hrun, hs, hf, hb7⟩
          have HRJ7 := Lib.hid (HRJ.out.next hf)
          have HRO := Lib.hid (Ds.ropen HDS.out HK40.out HRJ7.out)
          have pl2 := PLC.out _ hs.bl
          obtain ⟨a8, c8, rfl, hbs⟩ := hrec.bs
          obtain ⟨tl, htl⟩ : ∃ tl, tl = nR (r.slot 0 p1).1.b := ⟨_, rfl⟩
          obtain ⟨f, hf0⟩ : ∃ f, f = nV (r.slot 0 p1).1.b := ⟨_, rfl⟩
          obtain ⟨m, hm⟩ : ∃ m, m = nextN r (2 * p1) (N : Int) f := ⟨_, rfl⟩
          unfold ROpJ at HRO
          rw [← htl, ← hf0, ← hm] at HRO
          rw [← htl] at hba ⊢
          rw [← hf0] at hrun hs
          rw [← hm] at hs
          have HBA := Lib.hid hba
          have HBS := Lib.hid hbs
          have HRUN := Lib.hid hrun
          have HS7 := Lib.hid hs
          have HCM := Lib.hid (show Cs 4 R from HRJ7.out.vv.cs)
          have HNS := Lib.hid (show N ≤ 2048 ∧ 1 ≤ p1 from ⟨hs.pos.1, hs.pos.2.1⟩)
          clear htl hf0 hm hba hbs hrun hs hf hb7 hrec HOP pl1
          go_wp2_with (with_reducible refine wpList_loadM rfl isD _ rfl qb 0 R rfl (range_head HRJ7.out.hq) HCM.out ?_)
          refine HRO.out.mono ?_
          rintro _ w8 ⟨v8, K, y2, rfl, hrun2, _, hyN, hown, hb8⟩
          obtain ⟨rfl, rfl⟩ := HRUN.out.uniq hrun2
          have HLL := Lib.hid (show L.length ≤ 1000000 by have h1 := run_len hrun2; have h2 := HNS.out; omega)
          clear hyN
          obtain ⟨a9, c9, rfl, hrat⟩ := own_rat hown
          have HJC := Lib.hid (rjc_cs HCM.out y (N : Int) m p1 false)
          obtain ⟨w9, hw9⟩ : ∃ w9, w9 = w8.alloc (.cells (rjc R y (N : Int) m p1 false).toArray 41) := ⟨_, rfl⟩
          have HAL8 := Lib.hid (heap_alloc_new w8 (.cells zJ9.toArray 41))
          have HW9 := Lib.hid (show (w8.alloc (.cells zJ9.toArray 41)).setRow w8.heap.size (rjc R y (N : Int) m p1 false).toArray = w9 by rw [hw9]; exact setRow_new rfl)
          have hb89 : RowKit.Below w8.heap.size w8 w9 := by rw [hw9]; exact (RowKit.Below.refl _ _).alloc (Nat.le_refl _) _
          have HP20 := Lib.hid (show w9.heap[w8.heap.size]? = some (.cells (rjc R y (N : Int) m p1 false).toArray 41) by rw [hw9]; exact blkn rfl)
          have HB9 := Lib.hid (hb8.trans (hb89.mono hb8.size))
          have HSM := Lib.hid (same10_any L L a8 a9 c8 c9 w9 (HBS.out.below HB9.out) (hrat.below hb89) HLL.out)
          rw [show decide (L = L) = true from decide_eq_true rfl] at HSM
          have cv := run_conv (w := w9) (HBA.out.below HB9.out) tl.length c7 rfl
          clear hrun2 hown hb8 hrat hw9 hb89 pl2 HRO
          go_wp2_with (first | (with_reducible refine wpList_allocA rfl isJ9 rfl ?_) | ((with_reducible refine wpList_storeW rfl isJ9 _ _ rfl w8.heap.size (rjc R y (N : Int) m p1 false) _ _ rfl rfl HAL8.out HJC.out zJ9_size ?_); rw [HW9.out]))
          refine HSM.out.mono ?_
          rintro _ w10 ⟨rfl, hb10⟩
          have HP20B := Lib.hid ((hb10.block _ (lt_of_heap HP20.out)).trans HP20.out)
          have HB10 := Lib.hid (HB9.out.trans (hb10.mono HB9.out.size))
          have HQ10 := Lib.hid (HRJ7.out.below HB10.out).hq
          have HS9 := Lib.hid (show (rjc R x (N : Int) n p1 rd).toArray.size = 9 by simp [HCM.out.len])
          have HJB := Lib.hid (show ∃ X0 r0 R0 x0 n0 rd0, JB wB (w10.setRow qb (rjc R y (N : Int) m p1 false).toArray) g b2 qb N (k + 1) p1 X0 r0 R0 x0 n0 rd0 from ⟨X', _, R, _, _, _, JB.row HRJ7.out HS7.out HJ4.out.q0 HB10.out (HRJ7.out.below HB10.out).vv⟩)
          clear hb10 HSM cv
          go_wp2_with (first | (with_reducible refine wpList_loadW rfl isJ9 _ rfl w8.heap.size (rjc R y (N : Int) m p1 false) _ rfl HP20B.out HJC.out ?_) | (with_reducible refine wpList_storeW rfl isJ9 _ _ rfl qb (rjc R y (N : Int) m p1 false) _ _ rfl rfl HQ10.out HJC.out HS9.out ?_))
          go_meet
          case rel => exact ⟨b2, 0, rfl, rfl, rfl, HJB⟩
        have e2 : (kd == 2) = false := by simpa using hk2
        by_cases hk4 : kd = 4
        · as_aux_lemma =>
          subst hk4
          clear hk0 hk1 hk2 e0 e1 e2
          obtain ⟨F4, hds, hFX⟩ := HJ4.out.sx.ds
          have HDS4 := Lib.hid hds
          have HRJ4 := Lib.hid (HJ4.out.rj.less hFX)
          have HPW := Lib.hid (ds_power (cap := ac.kc) hds (HGD.out.kp.below HJ4.out.sx.bl) HGD.out.kl (nums_off HGD.out.kp fun i hi => (hds.jlt i hi).2))
          have HRC4 := Lib.hid HRJ4.out.vv.cs
          have HFX4 := Lib.hid hFX
          clear hds hFX q1 q2
          go_wp2_with fail
          refine HPW.out.mono ?_
          rintro _ w5 ⟨rfl, F, hds, hf⟩
          have HDS5 := Lib.hid hds
          have HRJ5 := Lib.hid (HRJ4.out.next hf)
          have q6 : w5.cell? ⟨wr.heap.size, 3, none⟩ = some (.slice ac.ka ac.kn ac.kc) := by rw [World.cell?_of_block (a := ⟨wr.heap.size, 3, none⟩) (hf.on.block _ HAC.out.lt fun e => absurd (HFX4.out _ e) HXA.out)]; exact HAC.out.c3
          have HRP := Lib.hid (HRJ5.out.vv.power (c := ac.kc) (HRJ5.out.gl fun i hi => (hds.jlt i hi).1) (HGD.out.kp.below hds.bl) HGD.out.kl)
          clear hds hf q3 HPW HDS4 HRJ4
          go_wp2_with (with_reducible refine wpList_loadM rfl isD _ rfl qb 0 R rfl (range_head HRJ5.out.hq) HRC4.out ?_)
          refine HRP.out.mono ?_
          rintro _ w6 ⟨R', rfl, hv, hb6⟩
          have HQ6 := Lib.hid (HRJ5.out.below hb6).hq
          have HRC6 := Lib.hid hv.cs
          have HRJF := Lib.hid (fun (W : World) (e : W.heap[qb]? = some (.cells (R' ++ [Value.int .i64 x, Value.int .i64 (N : Int), Value.int .u64 (n : Int), Value.int .i64 p1, Value.bool rd]).toArray 41)) (ho : Only (fun i => i = qb) w6 W) => And.intro ((HRJ5.out.below hb6).set hv e ho) (HDS5.out.fin hb6 ho HRJ5.out.nq HJ4.out.q0))
          obtain ⟨r', hr'⟩ : ∃ r', r' = r.power ac.keep := ⟨_, rfl⟩
          rw [← hr'] at HRJF
          clear hv hb6 q6 HRP hr'
          go_wp2_with ((with_reducible refine wpList_storeH rfl isD _ _ rfl qb R R' _ _ rfl rfl HQ6.out HRC4.out.len HRC6.out ?_); intro V1 he1 ho1; have HRJ := Lib.hid (HRJF.out V1 he1 ho1).1; have HDS := Lib.hid (HRJF.out V1 he1 ho1).2; have pl1 := PLC.out V1 HDS.out.bl; clear he1 ho1 HRJF)
          have HOP := Lib.hid (ds_open HDS.out HK40.out)
          refine HOP.out.mono ?_
          rintro _ w7 ⟨b2, a7, c7, v7, L, y, X', rfl, hba, hrec, hrun, hs, hf, hb7⟩
          have HRJ7 := Lib.hid (HRJ.out.next hf)
          have HRO := Lib.hid (Ds.ropen HDS.out HK40.out HRJ7.out)
          have pl2 := PLC.out _ hs.bl
          obtain ⟨a8, c8, rfl, hbs⟩ := hrec.bs
          obtain ⟨tl, htl⟩ : ∃ tl, tl = nR (r'.slot 0 p1).1.b := ⟨_, rfl⟩
          obtain ⟨f, hf0⟩ : ∃ f, f = nV (r'.slot 0 p1).1.b := ⟨_, rfl⟩
          obtain ⟨m, hm⟩ : ∃ m, m = nextN r' (2 * p1) (N : Int) f := ⟨_, rfl⟩
          unfold ROpJ at HRO
          rw [← htl, ← hf0, ← hm] at HRO
          rw [← htl] at hba ⊢
          rw [← hf0] at hrun hs
          rw [← hm] at hs
          have HBA := Lib.hid hba
          have HBS := Lib.hid hbs
          have HRUN := Lib.hid hrun
          have HS7 := Lib.hid hs
          have HCM := Lib.hid (show Cs 4 R' from HRJ7.out.vv.cs)
          have HNS := Lib.hid (show N ≤ 2048 ∧ 1 ≤ p1 from ⟨hs.pos.1, hs.pos.2.1⟩)
          clear htl hf0 hm hba hbs hrun hs hf hb7 hrec HOP pl1
          go_wp2_with (with_reducible refine wpList_loadM rfl isD _ rfl qb 0 R' rfl (range_head HRJ7.out.hq) HCM.out ?_)
          refine HRO.out.mono ?_
          rintro _ w8 ⟨v8, K, y2, rfl, hrun2, _, hyN, hown, hb8⟩
          obtain ⟨rfl, rfl⟩ := HRUN.out.uniq hrun2
          have HLL := Lib.hid (show L.length ≤ 1000000 by have h1 := run_len hrun2; have h2 := HNS.out; omega)
          clear hyN
          obtain ⟨a9, c9, rfl, hrat⟩ := own_rat hown
          have HJC := Lib.hid (rjc_cs HCM.out y (N : Int) m p1 false)
          obtain ⟨w9, hw9⟩ : ∃ w9, w9 = w8.alloc (.cells (rjc R' y (N : Int) m p1 false).toArray 41) := ⟨_, rfl⟩
          have HAL8 := Lib.hid (heap_alloc_new w8 (.cells zJ9.toArray 41))
          have HW9 := Lib.hid (show (w8.alloc (.cells zJ9.toArray 41)).setRow w8.heap.size (rjc R' y (N : Int) m p1 false).toArray = w9 by rw [hw9]; exact setRow_new rfl)
          have hb89 : RowKit.Below w8.heap.size w8 w9 := by rw [hw9]; exact (RowKit.Below.refl _ _).alloc (Nat.le_refl _) _
          have HP20 := Lib.hid (show w9.heap[w8.heap.size]? = some (.cells (rjc R' y (N : Int) m p1 false).toArray 41) by rw [hw9]; exact blkn rfl)
          have HB9 := Lib.hid (hb8.trans (hb89.mono hb8.size))
          have HSM := Lib.hid (same10_any L L a8 a9 c8 c9 w9 (HBS.out.below HB9.out) (hrat.below hb89) HLL.out)
          rw [show decide (L = L) = true from decide_eq_true rfl] at HSM
          have cv := run_conv (w := w9) (HBA.out.below HB9.out) tl.length c7 rfl
          clear hrun2 hown hb8 hrat hw9 hb89 pl2 HRO
          go_wp2_with (first | (with_reducible refine wpList_allocA rfl isJ9 rfl ?_) | ((with_reducible refine wpList_storeW rfl isJ9 _ _ rfl w8.heap.size (rjc R' y (N : Int) m p1 false) _ _ rfl rfl HAL8.out HJC.out zJ9_size ?_); rw [HW9.out]))
          refine HSM.out.mono ?_
          rintro _ w10 ⟨rfl, hb10⟩
          have HP20B := Lib.hid ((hb10.block _ (lt_of_heap HP20.out)).trans HP20.out)
          have HB10 := Lib.hid (HB9.out.trans (hb10.mono HB9.out.size))
          have HQ10 := Lib.hid (HRJ7.out.below HB10.out).hq
          have HS9 := Lib.hid (show (rjc R' x (N : Int) n p1 rd).toArray.size = 9 by simp [HCM.out.len])
          have HJB := Lib.hid (show ∃ X0 r0 R0 x0 n0 rd0, JB wB (w10.setRow qb (rjc R' y (N : Int) m p1 false).toArray) g b2 qb N (k + 1) p1 X0 r0 R0 x0 n0 rd0 from ⟨X', _, R', _, _, _, JB.row HRJ7.out HS7.out HJ4.out.q0 HB10.out (HRJ7.out.below HB10.out).vv⟩)
          clear hb10 HSM cv
          go_wp2_with (first | (with_reducible refine wpList_loadW rfl isJ9 _ rfl w8.heap.size (rjc R' y (N : Int) m p1 false) _ rfl HP20B.out HJC.out ?_) | (with_reducible refine wpList_storeW rfl isJ9 _ _ rfl qb (rjc R' y (N : Int) m p1 false) _ _ rfl rfl HQ10.out HJC.out HS9.out ?_))
          go_meet
          case rel => exact ⟨b2, 0, rfl, rfl, rfl, HJB⟩
        have e4 : (kd == 4) = false := by simpa using hk4
        by_cases hk3 : kd = 3
        · as_aux_lemma =>
          subst hk3
          clear hk0 hk1 hk2 hk4 e0 e1 e2 e4
          have HFU := Lib.hid (st_fuse HJ4.out.sx HGD.out.ii)
          have HRC4 := Lib.hid HJ4.out.rj.vv.cs
          clear q2 q3
          go_wp2_with fail
          refine HFU.out.mono ?_
          rintro _ w5 ⟨rfl, X', hs, hf⟩
          have HS5 := Lib.hid hs
          have HRJ5 := Lib.hid (HJ4.out.rj.next hf)
          have q6 : w5.cell? ⟨wr.heap.size, 1, none⟩ = some (.int .i64 ac.at_) := by rw [World.cell?_of_block (a := ⟨wr.heap.size, 1, none⟩) (hf.on.block _ HAC.out.lt HXA.out)]; exact HAC.out.c1
          have HRF := Lib.hid (HRJ5.out.vv.fuse HGD.out.ii)
          clear hs hf q1 HFU
          go_wp2_with (with_reducible refine wpList_loadM rfl isD _ rfl qb 0 R rfl (range_head HRJ5.out.hq) HRC4.out ?_)
          refine HRF.out.mono ?_
          rintro _ w6 ⟨R', rfl, hv, hb6⟩
          have HQ6 := Lib.hid (HRJ5.out.below hb6).hq
          have HRC6 := Lib.hid hv.cs
          have HJBF := Lib.hid (fun (W : World) (e : W.heap[qb]? = some (.cells (R' ++ [Value.int .i64 x, Value.int .i64 (N : Int), Value.int .u64 (n : Int), Value.int .i64 p1, Value.bool rd]).toArray 41)) (ho : Only (fun i => i = qb) w6 W) => show ∃ X r R x n rd, JB wB W g b qb N (k + 1) p1 X r R x n rd from ⟨X', _, R', x, n, rd, JB.fin HRJ5.out HS5.out HJ4.out.q0 hb6 hv e ho⟩)
          clear hv hb6 q6 HRF
          go_wp2_with ((with_reducible refine wpList_storeH rfl isD _ _ rfl qb R R' _ _ rfl rfl HQ6.out HRC4.out.len HRC6.out ?_); intro V1 he1 ho1; have HJB := Lib.hid (HJBF.out V1 he1 ho1); clear he1 ho1 HJBF)
          go_meet
          case rel => exact ⟨b, 0, rfl, rfl, rfl, HJB⟩
        have e3 : (kd == 3) = false := by simpa using hk3
        clear hk0 hk1 hk2 hk3 hk4 q1 q2 q3
        as_aux_lemma =>
          go_wp2
          go_meet
          case rel => exact ⟨b, 0, rfl, rfl, rfl, HMORE⟩
      case rest =>
        obtain ⟨b', E, rfl, rfl, rfl, HC⟩ := hcut
        clear HW4 HAL HAC HJ4 HXA HMORE HBYT HRC HSZ q0 q1 q2 q3 HGD HSX HRB HCC HKK HBW
        as_aux_lemma =>
          obtain ⟨X, r, R, x, n, rd, hj⟩ := HC.out
          have HJ := Lib.hid hj
          have HRC := Lib.hid (rjc_cs hj.rj.vv.cs x (N : Int) n p1 rd)
          have HQ := Lib.hid hj.rj.hq
          have HQL := Lib.hid (lt_of_heap hj.rj.hq)
          have HQ8 := Lib.hid (rjc_cell hj.rj.vv.cs hj.rj.hq).2.2.2.2
          obtain ⟨rm, hrm⟩ : ∃ rm, rm = (if rd then (N : Int) - x else 0) := ⟨_, rfl⟩
          have HRM := Lib.hid (fun (W : World) (hb : RowKit.Below wc.heap.size wc W) => st_room (hj.sx.below hb))
          have HRR := Lib.hid (fun (W : World) (hb : RowKit.Below wc.heap.size wc W) => hj.rroom hb)
          have HRY := Lib.hid (fun (W : World) (hb : RowKit.Below wc.heap.size wc W) => st_ready (hj.sx.below hb))
          rw [← hrm] at HRM HRR
          have HB0 := Lib.hid (show RowKit.Below wc.heap.size wc wc.drew from ⟨rfl, rfl, rfl, Nat.le_refl _, fun _ _ => rfl⟩)
          clear hj hrm HC
          go_wp2_with fail
          refine wp_region_held_drew (S := fun W => RowKit.Below wc.heap.size wc W) (by kernel_rfl) ?_ (fun hHeld => ?_)
          · exact ⟨rfl, rfl, rfl, Nat.le_refl _, fun _ _ => rfl⟩
          refine held_take 0 (v := ?_) rfl (by kernel_rfl) (by kernel_rfl) (by kernel_rfl) (fun _ _ _ h => h) hHeld (by rfl) ?_ ?_
          rotate_left
          · (intro W hW; go_simp; try with_reducible rfl)
          try simp only [Act.put, List.setIfInBounds_toArray, List.set_cons_zero, List.set_cons_succ]
          refine held_take 1 (v := ?_) rfl (by kernel_rfl) (by kernel_rfl) (by kernel_rfl) (fun _ _ _ h => h) hHeld (by rfl) ?_ ?_
          rotate_left
          · (intro W hW; go_simp; try with_reducible rfl)
          try simp only [Act.put, List.setIfInBounds_toArray, List.set_cons_zero, List.set_cons_succ]
          refine held_take 2 (v := ?_) rfl (by kernel_rfl) (by kernel_rfl) (by kernel_rfl) (fun _ _ _ h => h) hHeld (by rfl) ?_ ?_
          rotate_left
          · (intro W hW; have e0 := (show (E != E) = false by simp); go_simp; try with_reducible rfl)
          try simp only [Act.put, List.setIfInBounds_toArray, List.set_cons_zero, List.set_cons_succ]
          refine held_take 3 (v := ?_) rfl (by kernel_rfl) (by kernel_rfl) (by kernel_rfl) (fun _ _ _ h => h) hHeld (by rfl) ?_ ?_
          rotate_left
          · (intro W hW; go_simp; try with_reducible rfl)
          try simp only [Act.put, List.setIfInBounds_toArray, List.set_cons_zero, List.set_cons_succ]
          refine held_take 4 (v := ?_) rfl (by kernel_rfl) (by kernel_rfl) (by kernel_rfl) (fun _ _ _ h => h) hHeld (by rfl) ?_ ?_
          rotate_left
          · (intro W hW; go_simp; try with_reducible rfl)
          try simp only [Act.put, List.setIfInBounds_toArray, List.set_cons_zero, List.set_cons_succ]
          refine held_take 6 (v := .agg (rjc R x (N : Int) n p1 rd).toArray) rfl (by kernel_rfl) (by kernel_rfl) (by kernel_rfl) (fun _ _ _ h => h) hHeld (by rfl) (fun W hW => exec_loadM isJ9 _ rfl _ _ _ rfl (range_of (range_row HQ.out) (hW.block _ HQL.out)) HRC.out) ?_
          try simp only [Act.put, List.setIfInBounds_toArray, List.set_cons_zero, List.set_cons_succ]
          refine held_next 5 rfl (by kernel_rfl) (by rfl) (fun K hK => ?_)
          go_simp
          go_at_call 22
          refine (HRM.out _ HB0.out).mono ?_
          rintro _ wq9 ⟨rfl, hbq⟩
          have HB9 := Lib.hid (HB0.out.trans (hbq.mono HB0.out.size))
          clear hbq
          refine hK.out _ _ (HB9.out) (fun hHeld => ?_)
          clear hK K
          try simp only [Act.put, List.setIfInBounds_toArray, List.set_cons_zero, List.set_cons_succ]
          refine held_next 7 rfl (by kernel_rfl) (by rfl) (fun K hK => ?_)
          go_simp
          go_at_call 23
          refine (HRR.out _ HB9.out).mono ?_
          rintro _ wq10 ⟨rfl, hbq⟩
          have HB10 := Lib.hid (HB9.out.trans (hbq.mono HB9.out.size))
          clear hbq
          refine hK.out _ _ (HB10.out) (fun hHeld => ?_)
          clear hK K
          try simp only [Act.put, List.setIfInBounds_toArray, List.set_cons_zero, List.set_cons_succ]
          refine held_take 8 (v := ?_) rfl (by kernel_rfl) (by kernel_rfl) (by kernel_rfl) (fun _ _ _ h => h) hHeld (by rfl) ?_ ?_
          rotate_left
          · (intro W hW; have e0 := (show (rm != rm) = false by simp); go_simp; try with_reducible rfl)
          try simp only [Act.put, List.setIfInBounds_toArray, List.set_cons_zero, List.set_cons_succ]
          refine held_take 9 (v := ?_) rfl (by kernel_rfl) (by kernel_rfl) (by kernel_rfl) (fun _ _ _ h => h) hHeld (by rfl) ?_ ?_
          rotate_left
          · (intro W hW; go_simp; try with_reducible rfl)
          try simp only [Act.put, List.setIfInBounds_toArray, List.set_cons_zero, List.set_cons_succ]
          refine held_take 10 (v := ?_) rfl (by kernel_rfl) (by kernel_rfl) (by kernel_rfl) (fun _ _ _ h => h) hHeld (by rfl) ?_ ?_
          rotate_left
          · (intro W hW; go_simp; try with_reducible rfl)
          try simp only [Act.put, List.setIfInBounds_toArray, List.set_cons_zero, List.set_cons_succ]
          refine held_take 11 (v := ?_) rfl (by kernel_rfl) (by kernel_rfl) (by kernel_rfl) (fun _ _ _ h => h) hHeld (by rfl) ?_ ?_
          rotate_left
          · (intro W hW; go_simp; try with_reducible rfl)
          try simp only [Act.put, List.setIfInBounds_toArray, List.set_cons_zero, List.set_cons_succ]
          refine held_take 13 (v := ?_) rfl (by kernel_rfl) (by kernel_rfl) (by kernel_rfl) (fun _ _ _ h => h) hHeld (by rfl) ?_ ?_
          rotate_left
          · (intro W hW; go_simp; try with_reducible rfl)
          try simp only [Act.put, List.setIfInBounds_toArray, List.set_cons_zero, List.set_cons_succ]
          refine held_take 14 (v := ?_) rfl (by kernel_rfl) (by kernel_rfl) (by kernel_rfl) (fun _ _ _ h => h) hHeld (by rfl) ?_ ?_
          rotate_left
          · (intro W hW; have e0 := (World.cell?_of_block (a := ⟨qb, 8, none⟩) (hW.block _ HQL.out)).trans HQ8.out; go_simp; try with_reducible rfl)
          try simp only [Act.put, List.setIfInBounds_toArray, List.set_cons_zero, List.set_cons_succ]
          refine held_next 12 rfl (by kernel_rfl) (by rfl) (fun K hK => ?_)
          go_simp
          go_at_call 24
          refine (HRY.out _ HB10.out).mono ?_
          rintro _ _ ⟨rfl, rfl⟩
          refine hK.out _ _ (HB10.out) (fun hHeld => ?_)
          clear hK K
          try simp only [Act.put, List.setIfInBounds_toArray, List.set_cons_zero, List.set_cons_succ]
          refine held_take 15 (v := ?_) rfl (by kernel_rfl) (by kernel_rfl) (by kernel_rfl) (fun _ _ _ h => h) hHeld (by rfl) ?_ ?_
          rotate_left
          · (intro W hW; have e0 := (show (rd != rd) = false by simp); go_simp; try with_reducible rfl)
          try simp only [Act.put, List.setIfInBounds_toArray, List.set_cons_zero, List.set_cons_succ]
          refine held_take 16 (v := ?_) rfl (by kernel_rfl) (by kernel_rfl) (by kernel_rfl) (fun _ _ _ h => h) hHeld (by rfl) ?_ ?_
          rotate_left
          · (intro W hW; go_simp; try with_reducible rfl)
          try simp only [Act.put, List.setIfInBounds_toArray, List.set_cons_zero, List.set_cons_succ]
          refine wpAnyH_done (by kernel_rfl) ?_ _
          go_simp
          go_wp2
          go_roundw
          case rel => exact ⟨k + 1, b', rfl, by go_num, by omega, Lib.hid ⟨X, r, R, x, n, rd, HJ.out.below HB10.out⟩⟩
          case measure => simp; omega
    · obtain rfl : k = n2 := by omega
      have HBW := Lib.hid (show RowKit.Below wB.heap.size wB wr by obtain ⟨X, r, R, x, n, rd, hj⟩ := HKK.out; exact hj.sx.bl)
      clear hlt hk
      go_wp2
      go_ret
      exact ⟨rfl, HBB.out.trans (HBW.out.mono HBB.out.size)⟩
end Go.Proofs.YtdfbpaajkpnaeaaGreat
