/- The walk of falseworklaw08.DiskDoes. -/
import Derived.Test.YtcboknigjpdmpaaDkDf
namespace Go.Proofs.Ytcboknigjpdmpaa
open Go.RowKit Go.Lib

set_option maxRecDepth 100000 in
set_option maxHeartbeats 12800000 in
theorem diskDoes_walk (w : World) (n : Int) (_ : (Lit.int .i64 n).wf = true) (a1 : Option Addr) (n1 c1 : Nat) (l : List Dd) (hl : CameD w a1 n1 l) :
    Calls Try.prog 4 #[.int .i64 n, .slice a1 n1 c1] w fun e w' => e = .returned (.bool true) ∧ RowKit.Below w.heap.size w w' := by
  have HCAME := Lib.hid hl
  have A := Lib.hid (alive_any w)
  clear hl
  go_enter Try.func4, Try.ntmps4
  go_wp2_with fail
  refine A.out.mono ?_
  rintro _ w0 ⟨rfl, hb0⟩
  have HB0 := Lib.hid hb0
  clear hb0 A
  have hcs : 30 < n ∨ (n ≤ 30 ∧ 60 < n1) ∨ (n ≤ 30 ∧ n1 ≤ 60) := by omega
  rcases hcs with h | ⟨h, h2⟩ | ⟨h, h2⟩
  · have d0 : decide (30 < n) = true := by simpa using h
    clear h
    go_wp2
    go_ret
    exact ⟨rfl, HB0.out⟩
  · have d0 : decide (30 < n) = false := by simp; omega
    have d1 : decide ((60 : Int) < (n1 : Int)) = true := by simp; omega
    clear h h2
    go_wp2
    go_ret
    exact ⟨rfl, HB0.out⟩
  · have d0 : decide (30 < n) = false := by simp; omega
    have d1 : decide ((60 : Int) < (n1 : Int)) = false := by simp; omega
    have HN := Lib.hid h2
    have HBN := Lib.hid (show blankN n ≤ 30 by unfold blankN; omega)
    have B := Lib.hid (blank_any n w0)
    clear h h2
    go_wp2_with fail
    refine B.out.mono ?_
    rintro _ w1 ⟨g, F, rfl, hd, hb, hf⟩
    have HD1 := Lib.hid hd
    have HB1 := Lib.hid (HB0.out.trans (hb.mono HB0.out.size))
    have HF1 := Lib.hid (show ∀ i, F i → w.heap.size ≤ i from fun i hi => Nat.le_trans HB0.out.size (hf i hi))
    have HRB := Lib.hid (rblank_any n F w1 hd.fl)
    clear hd hb hf B d0 d1
    go_wp2_with fail
    refine HRB.out.mono ?_
    rintro _ w2 ⟨x0, y0, x1, y1, rfl, hrm, hb2⟩
    obtain ⟨R, hR⟩ : ∃ R, R = rcs (Dk.blank n) x0 y0 x1 y1 := ⟨_, rfl⟩
    obtain ⟨b6, hb6⟩ : ∃ b6, b6 = w2.heap.size := ⟨_, rfl⟩
    rw [← hR]
    have HRC := Lib.hid (show Cs 4 R by rw [hR]; exact rcs_cs _ _ _ _ _)
    have HA6 := Lib.hid (heap_alloc_new w2 (.cells zD.toArray 36))
    have HSN := Lib.hid (show (w2.alloc (.cells zD.toArray 36)).setRow w2.heap.size R.toArray = w2.alloc (.cells R.toArray 36) from setRow_new rfl)
    obtain ⟨w3, hw3⟩ : ∃ w3, w3 = w2.alloc (.cells R.toArray 36) := ⟨_, rfl⟩
    have hb3 : RowKit.Below w2.heap.size w2 w3 := by rw [hw3]; exact (RowKit.Below.refl _ _).alloc (Nat.le_refl _) _
    have HS := Lib.hid (show ∃ F d R, DD w w3 F g b6 d R ∧ d.queue.length ≤ 0 ∧ d.base.length = blankN n from by
      refine ⟨F, Dk.blank n, R, ⟨HD1.out.below (hb2.trans (hb3.mono hb2.size)), by rw [hw3, hb6]; exact heap_alloc_new w2 _, ⟨x0, y0, x1, y1, hR, hrm.add hb3 fun i hi => hi.imp id fun e => by omega⟩, fun e => by have := HD1.out.fl _ e; have := hb2.size; omega, HF1.out, by rw [hb6]; exact Nat.le_trans HB1.out.size hb2.size, (HB1.out.trans (hb2.mono HB1.out.size)).trans (hb3.mono (Nat.le_trans HB1.out.size hb2.size))⟩, Nat.le_refl _, blank_len n⟩)
    have hn60 := HN.out
    rw [← hw3] at HSN
    clear hR hrm hb2 hb3 hw3 HRB
    go_wp2_with (first | (with_reducible refine wpList_allocA rfl isD rfl ?_) | ((with_reducible refine wpList_storeW rfl isD _ _ rfl w2.heap.size R zD.toArray _ rfl rfl HA6.out HRC.out rfl ?_); rw [HSN.out]))
    rw [← hb6]
    clear hb6 HA6 HSN
    go_loopw [34] (fun c34 wr => ∃ (k : Nat), c34 = .int .i64 (k : Int) ∧ k ≤ n1 ∧ ∃ F d R, DD w wr F g b6 d R ∧ d.queue.length ≤ k ∧ d.base.length = blankN n) (fun c34 _ => n1 - (match c34 with | .int _ q => q | _ => 0).toNat)
    case atStart => exact ⟨0, rfl, Nat.zero_le _, HS.out⟩
    case round =>
      obtain ⟨k, rfl, hk, F, d, R, hdd, hq, hbn⟩ := hrel
      have HDD := Lib.hid hdd
      have HQ := Lib.hid hq
      have HBL := Lib.hid hbn
      clear hdd hq hbn
      by_cases hlt : k < n1
      · have HKL := Lib.hid hlt
        obtain ⟨x, bd, od, _, hxm, ha0, hrd⟩ := dd_at HCAME.out HDD.out.bl hlt
        have HG := Lib.hid (HCAME.out.gd x hxm)
        obtain ⟨cd, hcd⟩ : ∃ cd, cd = dcs x := ⟨_, rfl⟩
        rw [← hcd] at hrd
        have HRD := Lib.hid hrd
        have HCC := Lib.hid (show Cs 4 cd by rw [hcd]; exact dcs_cs x)
        have HA8 := Lib.hid (heap_alloc_new wr (.cells [Value.int .i64 0, .int .i64 0, .int .u8 0, .slice none 0 0].toArray 40))
        have HSN := Lib.hid (show (wr.alloc (.cells [Value.int .i64 0, .int .i64 0, .int .u8 0, .slice none 0 0].toArray 40)).setRow wr.heap.size cd.toArray = wr.alloc (.cells cd.toArray 40) from setRow_new rfl)
        obtain ⟨w4, hw4⟩ : ∃ w4, w4 = wr.alloc (.cells cd.toArray 40) := ⟨_, rfl⟩
        have HP8 := Lib.hid (show w4.heap[wr.heap.size]? = some (.cells cd.toArray 40) by rw [hw4]; exact heap_alloc_new wr _)
        have hb4 : RowKit.Below wr.heap.size wr w4 := by rw [hw4]; exact (RowKit.Below.refl _ _).alloc (Nat.le_refl _) _
        have HD4 := Lib.hid (HDD.out.below hb4)
        obtain ⟨x0, y0, x1, y1, hR, hrm⟩ := HD4.out.rr
        have HDEED := Lib.hid (deed_any g F d x0 y0 x1 y1 x w4 HD4.out.dt (fun i => i = b6) (fun i e => by rw [e]; exact lt_of_heap HD4.out.b6h) hrm HG.out.ii (HG.out.kp.below HD4.out.bl) HG.out.kl (keep_off HG.out.kp HD4.out.fr) (by have := HQ.out; have := HN.out; omega))
        rw [← hcd, ← hR] at HDEED
        have HRC := Lib.hid (show Cs 4 R by rw [hR]; exact rcs_cs _ _ _ _ _)
        rw [← hw4] at HSN
        subst ha0
        clear hcd hrd hw4 hb4 hxm hR hrm
        go_wp2_with (first | (with_reducible refine wpList_idx elD rfl _ _ rfl k rfl rfl rfl HKL.out ?_) | (with_reducible refine wpList_loadM rfl isDd _ rfl bd (od + k * 4) cd rfl HRD.out HCC.out ?_) | (with_reducible refine wpList_allocA rfl isDd rfl ?_) | ((with_reducible refine wpList_storeW rfl isDd _ _ rfl wr.heap.size cd _ _ rfl rfl HA8.out HCC.out rfl ?_); rw [HSN.out]) | (with_reducible refine wpList_loadW rfl isD _ rfl b6 R _ rfl HD4.out.b6h HRC.out ?_) | (with_reducible refine wpList_loadW rfl isDd _ rfl wr.heap.size cd _ rfl HP8.out HCC.out ?_))
        clear HA8 HSN
        refine HDEED.out.mono ?_
        rintro _ w5 ⟨d', F', x0', y0', x1', y1', rfl, hd', hrm', hon, hF', hql, hbl⟩
        obtain ⟨R', hR'⟩ : ∃ R', R' = rcs d'.norm x0' y0' x1' y1' := ⟨_, rfl⟩
        rw [← hR']
        have HRC' := Lib.hid (show Cs 4 R' by rw [hR']; exact rcs_cs _ _ _ _ _)
        obtain ⟨b9, hb9⟩ : ∃ b9, b9 = w5.heap.size := ⟨_, rfl⟩
        have HA9 := Lib.hid (heap_alloc_new w5 (.cells zD.toArray 36))
        have HSN := Lib.hid (show (w5.alloc (.cells zD.toArray 36)).setRow w5.heap.size R'.toArray = w5.alloc (.cells R'.toArray 36) from setRow_new rfl)
        obtain ⟨w6, hw6⟩ : ∃ w6, w6 = w5.alloc (.cells R'.toArray 36) := ⟨_, rfl⟩
        have hp9 : w6.heap[b9]? = some (.cells R'.toArray 36) := by rw [hw6, hb9]; exact heap_alloc_new w5 _
        have HP9 := Lib.hid hp9
        have hb6 : RowKit.Below w5.heap.size w5 w6.drew := by rw [hw6]; exact ((RowKit.Below.refl _ _).alloc (Nat.le_refl _) _).drew
        have HQ93 := Lib.hid (show w6.cell? ⟨b9, 3, none⟩ = some (.bool d'.dead) by rw [cell_of_row _ _ _ _ _ _ hp9, hR']; rfl)
        have HDE := Lib.hid (dead_at g F' d' w6.drew (hd'.below hb6))
        have h66 : w6.drew.heap[b6]? = some (.cells R.toArray 36) := (hb6.block _ (Nat.lt_of_lt_of_le (lt_of_heap HD4.out.b6h) hon.size)).trans ((hon.block _ (lt_of_heap HD4.out.b6h) HD4.out.nf).trans HD4.out.b6h)
        have H66 := Lib.hid h66
        have HDN := Lib.hid (HD4.out.next hd' hrm' hon hF' hb6 hR')
        have HQ' := Lib.hid (show d'.queue.length ≤ k + 1 from Nat.le_trans hql (Nat.succ_le_succ HQ.out))
        have HBL' := Lib.hid (hbl.trans HBL.out)
        have HR' := Lib.hid hR'
        rw [← hw6] at HSN
        clear hd' hrm' hon hF' hql hbl hR' hw6 hp9 hb6 h66 HDEED
        go_wp2_with (first | (with_reducible refine wpList_allocA rfl isD rfl ?_) | ((with_reducible refine wpList_storeW rfl isD _ _ rfl w5.heap.size R' zD.toArray _ rfl rfl HA9.out HRC'.out rfl ?_); rw [HSN.out]))
        rw [← hb9]
        clear hb9 HA9 HSN
        refine wp_region_held_drew (S := fun W => Agree [b9] w6 W) (by kernel_rfl) ?_ (fun hHeld => ?_)
        · exact fun _ _ => rfl
        refine held_take 0 (v := ?_) rfl (by kernel_rfl) (by kernel_rfl) (by kernel_rfl) (fun _ _ _ h => h) hHeld (by rfl) ?_ ?_
        rotate_left
        · (intro W hW; go_simp; try with_reducible rfl)
        try simp only [Act.put, List.setIfInBounds_toArray, List.set_cons_zero, List.set_cons_succ]
        refine held_take 1 (v := ?_) rfl (by kernel_rfl) (by kernel_rfl) (by kernel_rfl) (fun _ _ _ h => h) hHeld (by rfl) ?_ ?_
        rotate_left
        · (intro W hW; go_simp; try with_reducible rfl)
        try simp only [Act.put, List.setIfInBounds_toArray, List.set_cons_zero, List.set_cons_succ]
        refine held_take 2 (v := ?_) rfl (by kernel_rfl) (by kernel_rfl) (by kernel_rfl) (fun _ _ _ h => h) hHeld (by rfl) ?_ ?_
        rotate_left
        · (intro W hW; go_simp; try with_reducible rfl)
        try simp only [Act.put, List.setIfInBounds_toArray, List.set_cons_zero, List.set_cons_succ]
        refine held_take 3 (v := ?_) rfl (by kernel_rfl) (by kernel_rfl) (by kernel_rfl) (fun _ _ _ h => h) hHeld (by rfl) ?_ ?_
        rotate_left
        · (intro W hW; go_simp; try with_reducible rfl)
        try simp only [Act.put, List.setIfInBounds_toArray, List.set_cons_zero, List.set_cons_succ]
        refine held_take 5 (v := ?_) rfl (by kernel_rfl) (by kernel_rfl) (by kernel_rfl) (fun _ _ _ h => h) hHeld (by rfl) ?_ ?_
        rotate_left
        · (intro W hW; go_simp; try with_reducible rfl)
        try simp only [Act.put, List.setIfInBounds_toArray, List.set_cons_zero, List.set_cons_succ]
        refine held_take 6 (v := ?_) rfl (by kernel_rfl) (by kernel_rfl) (by kernel_rfl) (fun _ _ _ h => h) hHeld (by rfl) ?_ ?_
        rotate_left
        · (intro W hW; have e := hW.cell (b := b9) (by simp) HQ93.out; go_simp; try with_reducible rfl)
        try simp only [Act.put, List.setIfInBounds_toArray, List.set_cons_zero, List.set_cons_succ]
        refine held_next 4 rfl (by kernel_rfl) (by rfl) (fun K hK => ?_)
        go_simp
        go_at_call 14
        refine HDE.out.mono ?_
        rintro _ _ ⟨rfl, rfl⟩
        refine hK.out _ _ (fun _ _ => rfl) (fun hHeld => ?_)
        clear hK K
        try simp only [Act.put, List.setIfInBounds_toArray, List.set_cons_zero, List.set_cons_succ]
        refine held_take 7 (v := ?_) rfl (by kernel_rfl) (by kernel_rfl) (by kernel_rfl) (fun _ _ _ h => h) hHeld (by rfl) ?_ ?_
        rotate_left
        · (intro W hW; go_simp; try with_reducible rfl)
        try simp only [Act.put, List.setIfInBounds_toArray, List.set_cons_zero, List.set_cons_succ]
        refine held_take 8 (v := ?_) rfl (by kernel_rfl) (by kernel_rfl) (by kernel_rfl) (fun _ _ _ h => h) hHeld (by rfl) ?_ ?_
        rotate_left
        · (intro W hW; go_simp; try with_reducible rfl)
        try simp only [Act.put, List.setIfInBounds_toArray, List.set_cons_zero, List.set_cons_succ]
        refine wpAnyH_done (by kernel_rfl) ?_ _
        go_simp
        obtain ⟨W, hW⟩ : ∃ W, W = w6.drew.setRow b6 R'.toArray := ⟨_, rfl⟩
        rw [← hW] at HDN
        have HW := Lib.hid hW
        have HP9' := Lib.hid (show w6.drew.heap[b9]? = some (.cells R'.toArray 36) from HP9.out)
        have HQU := Lib.hid (queue_any g F' d' W HDN.out.dt)
        clear hW
        go_wp2_with (first | (with_reducible refine wpList_loadW rfl isD _ rfl b9 R' _ rfl HP9'.out HRC'.out ?_) | ((with_reducible refine wpList_storeW rfl isD _ _ rfl b6 R' R.toArray _ rfl rfl H66.out HRC'.out (by simp [HRC.out.len]) ?_); rw [← HW.out]))
        refine HQU.out.mono ?_
        rintro _ w7 ⟨v, rfl, hrow, hb7⟩
        obtain ⟨aq, cq, rfl, hliq, _, _⟩ := ow_lie hrow
        have HD7 := Lib.hid (HDN.out.below hb7)
        obtain ⟨x2, y2, x3, y3, hR2, hrm2⟩ := HD7.out.rr
        have HRM := Lib.hid hrm2
        have HR2 := Lib.hid hR2
        have HLQ := Lib.hid hliq
        have HC0 := Lib.hid (show ∀ W', RowKit.Below w7.heap.size w7 W' → W'.cell? ⟨b6, 0, none⟩ = some (.slice x2 d'.base.length y2) from fun W' hb => by rw [cell_of_row _ _ _ _ _ _ (HD7.out.below hb).b6h, hR2]; rfl)
        have q61 : w7.cell? ⟨b6, 1, none⟩ = some (.slice x3 d'.queue.length y3) := by rw [cell_of_row _ _ _ _ _ _ HD7.out.b6h, hR2]; rfl
        have hq61 : d'.queue.length ≤ 61 := by have := HQ'.out; omega
        have hb31 : d'.base.length ≤ 30 := by rw [HBL'.out]; exact HBN.out
        clear hrow hb7 hliq hR2 hrm2 HQU HW
        go_wp2_with fail
        clear q61
        go_loopw [66] (fun c66 wr => ∃ (i : Nat), c66 = .int .i64 (i : Int) ∧ i ≤ d'.queue.length ∧ RowKit.Below w7.heap.size w7 wr) (fun c66 _ => d'.queue.length - (match c66 with | .int _ q => q | _ => 0).toNat)
        case atStart => exact ⟨0, rfl, Nat.zero_le _, RowKit.Below.refl _ _⟩
        case round =>
          obtain ⟨i, rfl, hi, hbw⟩ := hrel
          have HBW := Lib.hid hbw
          clear hbw
          by_cases hil : i < d'.queue.length
          · have HIL := Lib.hid hil
            obtain ⟨p, hp⟩ : ∃ p, d'.queue[i]? = some p := ⟨_, List.getElem?_eq_getElem hil⟩
            have hpl := HD7.out.dt.ok.ql p (List.mem_of_getElem? hp)
            obtain ⟨bi, oi, hx3, hbi, hri⟩ := ritem_at (HRM.out.below HBW.out).qs HRM.out.ok.ql (show d'.norm.queue[i]? = some p from hp)
            obtain ⟨bq, oq, haq, hcq⟩ := q_at (HLQ.out.below HBW.out) hp
            obtain ⟨ci, hci⟩ : ∃ ci, ci = icell p := ⟨_, rfl⟩
            rw [← hci] at hri
            have HRI := Lib.hid hri
            have HCI := Lib.hid (show Cs 65 ci by rw [hci]; exact cs_item hpl)
            have HA13 := Lib.hid (heap_alloc_new wr (.cells zi.toArray 45))
            have HSN := Lib.hid (show (wr.alloc (.cells zi.toArray 45)).setRow wr.heap.size ci.toArray = wr.alloc (.cells ci.toArray 45) from setRow_new rfl)
            obtain ⟨w8, hw8⟩ : ∃ w8, w8 = wr.alloc (.cells ci.toArray 45) := ⟨_, rfl⟩
            obtain ⟨b13, hb13⟩ : ∃ b13, b13 = wr.heap.size := ⟨_, rfl⟩
            have HP13 := Lib.hid (show w8.heap[b13]? = some (.cells ci.toArray 45) by rw [hw8, hb13]; exact heap_alloc_new wr _)
            have hb8 : RowKit.Below wr.heap.size wr w8 := by rw [hw8]; exact (RowKit.Below.refl _ _).alloc (Nat.le_refl _) _
            have HC13 := Lib.hid (show w8.cell? ⟨b13, 64, none⟩ = some (.int .i64 (p.1 : Int)) by rw [cell_of_row _ _ _ _ _ _ HP13.out, hci, List.getElem?_toArray]; unfold icell; rw [List.getElem?_append_right (by rw [bcells_len, hpl]; exact Nat.le_refl _), bcells_len, hpl]; rfl)
            have HCQ := Lib.hid (show w8.cell? ⟨bq, oq + i, none⟩ = some (.int .i64 (p.1 : Int)) by rw [World.cell?_of_block (a := ⟨bq, oq + i, none⟩) (hb8.block bq (World.block_lt_of_cell? wr _ hcq))]; exact hcq)
            have HIX := Lib.hid (show ∀ W', (Instr.indexAt 38 (.slice (some ⟨bq, oq, none⟩) d'.queue.length cq) (.int .i64 (i : Int))).run Try.prog W' = .ok (.pointer (some ⟨bq, oq + i, none⟩)) W' from fun W' => by have := run_idx (k := .i64) (b := bq) (off := oq) (cap := cq) elN (rfl : (i : Int) = (i : Int)) hil W'; rw [Nat.mul_one] at this; exact this)
            have HB8 := Lib.hid (show RowKit.Below w7.heap.size w7 w8.drew from HBW.out.trans (hb8.drew.mono HBW.out.size))
            rw [← hw8] at HSN
            subst hx3 haq
            clear hp hpl hbi hri hcq hci hw8 hb8
            go_wp2_with (first | (with_reducible refine wpList_idx elI rfl _ _ rfl i rfl rfl rfl HIL.out ?_) | (with_reducible refine wpList_loadM rfl isI _ rfl bi (oi + i * 65) ci rfl HRI.out HCI.out ?_) | (with_reducible refine wpList_allocA rfl isI rfl ?_) | ((with_reducible refine wpList_storeW rfl isI _ _ rfl wr.heap.size ci zi.toArray _ rfl rfl HA13.out HCI.out (by simp [zi_len]) ?_); rw [HSN.out]))
            rw [← hb13]
            clear HA13 HSN hb13
            refine wp_region_held_drew (S := fun W => Agree [bq, b13] w8 W) (by kernel_rfl) ?_ (fun hHeld => ?_)
            · exact fun _ _ => rfl
            refine held_take 0 (v := ?_) rfl (by kernel_rfl) (by kernel_rfl) (by kernel_rfl) (fun _ _ _ h => h) hHeld (by rfl) ?_ ?_
            rotate_left
            · (intro W hW; go_simp; try with_reducible rfl)
            try simp only [Act.put, List.setIfInBounds_toArray, List.set_cons_zero, List.set_cons_succ]
            refine held_take 1 (v := ?_) rfl (by kernel_rfl) (by kernel_rfl) (by kernel_rfl) (fun _ _ _ h => h) hHeld (by rfl) ?_ ?_
            rotate_left
            · (intro W hW; go_simp; try with_reducible rfl)
            try simp only [Act.put, List.setIfInBounds_toArray, List.set_cons_zero, List.set_cons_succ]
            refine held_take 2 (v := ?_) rfl (by kernel_rfl) (by kernel_rfl) (by kernel_rfl) (fun _ _ _ h => h) hHeld (by rfl) ?_ ?_
            rotate_left
            · (intro W hW; have e := HIX.out W; go_simp; try with_reducible rfl)
            try simp only [Act.put, List.setIfInBounds_toArray, List.set_cons_zero, List.set_cons_succ]
            refine held_take 3 (v := ?_) rfl (by kernel_rfl) (by kernel_rfl) (by kernel_rfl) (fun _ _ _ h => h) hHeld (by rfl) ?_ ?_
            rotate_left
            · (intro W hW; have e := hW.cell (b := bq) (by simp) HCQ.out; go_simp; try with_reducible rfl)
            try simp only [Act.put, List.setIfInBounds_toArray, List.set_cons_zero, List.set_cons_succ]
            refine held_take 4 (v := ?_) rfl (by kernel_rfl) (by kernel_rfl) (by kernel_rfl) (fun _ _ _ h => h) hHeld (by rfl) ?_ ?_
            rotate_left
            · (intro W hW; go_simp; try with_reducible rfl)
            try simp only [Act.put, List.setIfInBounds_toArray, List.set_cons_zero, List.set_cons_succ]
            refine held_take 5 (v := ?_) rfl (by kernel_rfl) (by kernel_rfl) (by kernel_rfl) (fun _ _ _ h => h) hHeld (by rfl) ?_ ?_
            rotate_left
            · (intro W hW; have e := hW.cell (b := b13) (by simp) HC13.out; go_simp; try with_reducible rfl)
            try simp only [Act.put, List.setIfInBounds_toArray, List.set_cons_zero, List.set_cons_succ]
            refine held_take 6 (v := ?_) rfl (by kernel_rfl) (by kernel_rfl) (by kernel_rfl) (fun _ _ _ h => h) hHeld (by rfl) ?_ ?_
            rotate_left
            · (intro W hW; go_simp; try with_reducible rfl)
            try simp only [Act.put, List.setIfInBounds_toArray, List.set_cons_zero, List.set_cons_succ]
            refine wpAnyH_done (by kernel_rfl) ?_ _
            go_simp
            go_wp2_with fail
            go_roundw
            case rel => exact ⟨i + 1, by go_num, by have := HIL.out; omega, HB8.out⟩
            case measure => simp; have := HIL.out; omega
          · obtain rfl : i = d'.queue.length := by omega
            have HB9 := Lib.hid HBW.out
            clear hi hil
            go_wp2_with fail
            go_loopw [14] (fun c14 wr => ∃ (m : Nat) (z : Int), c14 = .int .i64 z ∧ z = (m : Int) - 1 ∧ m ≤ d'.base.length + 2 ∧ RowKit.Below w7.heap.size w7 wr) (fun c14 _ => ((d'.base.length : Int) + 1 - (match c14 with | .int _ q => q | _ => 0)).toNat)
            case atStart => exact ⟨0, -1, rfl, by omega, by omega, HB9.out⟩
            case round =>
              obtain ⟨m, z, rfl, hzm, hm, hbw⟩ := hrel
              have HBW := Lib.hid hbw
              have q60 := HC0.out wr hbw
              have HZM := Lib.hid hzm
              clear hbw hzm
              by_cases hz : z ≤ (d'.base.length : Int)
              · have d1 : decide (z ≤ (d'.base.length : Int)) = true := by simpa using hz
                have HZ := Lib.hid hz
                have HGET := Lib.hid (get_any g F' d' z wr (HD7.out.below HBW.out).dt (by have := HZM.out; unfold I; omega))
                have HWR := Lib.hid (show wrap64 (z + 1) = z + 1 by have := HZM.out; unfold wrap64; omega)
                clear hz
                go_wp2_with fail
                refine HGET.out.mono ?_
                rintro _ w8 ⟨rfl, hb8⟩
                obtain ⟨cg, hcg⟩ : ∃ cg, cg = bcells (d'.at_ z) := ⟨_, rfl⟩
                obtain ⟨E, hE⟩ : ∃ E : Int, E = (if d'.has z then 0 else 81) := ⟨_, rfl⟩
                have hs64 : (d'.at_ z).length = 64 := at_len HD7.out.dt.ok _
                have HCG := Lib.hid (show Cs 64 cg by rw [hcg]; exact cs_sec hs64)
                have heq : ∀ W', (Op.equalIn 10000 28 (.agg cg.toArray) (.agg cg.toArray)).run Try.prog W' = .ok true W' := fun W' => by rw [hcg, eqS hs64 hs64]; simp
                have HEQ := Lib.hid heq
                have HA15 := Lib.hid (heap_alloc_new w8 (.cells zc.toArray 28))
                have HSN := Lib.hid (show (w8.alloc (.cells zc.toArray 28)).setRow w8.heap.size cg.toArray = w8.alloc (.cells cg.toArray 28) from setRow_new rfl)
                obtain ⟨w9, hw9⟩ : ∃ w9, w9 = w8.alloc (.cells cg.toArray 28) := ⟨_, rfl⟩
                have HP15 := Lib.hid (show w9.heap[w8.heap.size]? = some (.cells cg.toArray 28) by rw [hw9]; exact heap_alloc_new w8 _)
                have hb9 : RowKit.Below w7.heap.size w7 w9 := (HBW.out.trans (hb8.mono HBW.out.size)).trans (RowKit.Below.mono (by rw [hw9]; exact (RowKit.Below.refl _ _).alloc (Nat.le_refl _) _) (Nat.le_trans HBW.out.size hb8.size))
                have HB9' := Lib.hid hb9
                have HRG := Lib.hid (rget_any d'.norm x2 y2 x3 y3 _ z w9 (HRM.out.below hb9))
                rw [← HR2.out] at HRG
                have H69 := Lib.hid (HD7.out.below hb9).b6h
                rw [← hw9] at HSN
                rw [← hcg, ← hE]
                have HCGE := Lib.hid hcg
                have HEE := Lib.hid hE
                clear hb8 heq hs64 hw9 hb9 HGET hcg hE
                go_wp2_with (first | (with_reducible refine wpList_allocA rfl isS rfl ?_) | ((with_reducible refine wpList_storeW rfl isS _ _ rfl w8.heap.size cg zc.toArray _ rfl rfl HA15.out HCG.out (by simp [zc_len]) ?_); rw [HSN.out]) | (with_reducible refine wpList_loadW rfl isD _ rfl b6 R' _ rfl H69.out HRC'.out ?_))
                refine HRG.out.mono ?_
                rintro _ w10 ⟨rfl, hb10⟩
                rw [norm_at, show d'.norm.has z = d'.has z from rfl, ← HCGE.out, ← HEE.out]
                have HA17 := Lib.hid (heap_alloc_new w10 (.cells zc.toArray 28))
                have HSN' := Lib.hid (show (w10.alloc (.cells zc.toArray 28)).setRow w10.heap.size cg.toArray = w10.alloc (.cells cg.toArray 28) from setRow_new rfl)
                obtain ⟨w11, hw11⟩ : ∃ w11, w11 = w10.alloc (.cells cg.toArray 28) := ⟨_, rfl⟩
                have hb11 : RowKit.Below w10.heap.size w10 w11 := by rw [hw11]; exact (RowKit.Below.refl _ _).alloc (Nat.le_refl _) _
                have HP17 := Lib.hid (show w11.heap[w10.heap.size]? = some (.cells cg.toArray 28) by rw [hw11]; exact heap_alloc_new w10 _)
                have HP15' := Lib.hid (show w11.heap[w8.heap.size]? = some (.cells cg.toArray 28) from (hb11.block _ (Nat.lt_of_lt_of_le (lt_of_heap HP15.out) hb10.size)).trans ((hb10.block _ (lt_of_heap HP15.out)).trans HP15.out))
                have HB11 := Lib.hid (show RowKit.Below w7.heap.size w7 w11 from (HB9'.out.trans (hb10.mono HB9'.out.size)).trans (hb11.mono (Nat.le_trans HB9'.out.size hb10.size)))
                have heq := HEQ.out
                rw [← hw11] at HSN'
                clear hb10 hb11 hw11 HRG q60 d1
                go_wp2_with (first | (with_reducible refine wpList_allocA rfl isS rfl ?_) | ((with_reducible refine wpList_storeW rfl isS _ _ rfl w10.heap.size cg zc.toArray _ rfl rfl HA17.out HCG.out (by simp [zc_len]) ?_); rw [HSN'.out]) | (with_reducible refine wpList_loadW rfl isS _ rfl w8.heap.size cg _ rfl HP15'.out HCG.out ?_) | (with_reducible refine wpList_loadW rfl isS _ rfl w10.heap.size cg _ rfl HP17.out HCG.out ?_))
                go_roundw
                case rel => exact ⟨m + 1, z + 1, by rw [HWR.out], by have := HZM.out; omega, by have := HZ.out; have := HZM.out; omega, HB11.out⟩
                case measure => simp [HWR.out]; have := HZ.out; have := HZM.out; omega
              · have d1 : decide (z ≤ (d'.base.length : Int)) = false := by simpa using hz
                go_wp2_with fail
                go_roundw
                case rel => exact ⟨k + 1, by go_num, by have := HKL.out; omega, F', d', R', HD7.out.below HBW.out, HQ'.out, HBL'.out⟩
                case measure => simp; have := HKL.out; omega
      · obtain rfl : k = n1 := by omega
        obtain ⟨x0, y0, x1, y1, hR, hrm⟩ := HDD.out.rr
        have HQ60 := Lib.hid (show wr.cell? ⟨b6, 0, none⟩ = some (.slice x0 d.base.length y0) by rw [cell_of_row _ _ _ _ _ _ HDD.out.b6h, hR]; rfl)
        have hbd : RowKit.Below wr.heap.size wr wr.drew := (RowKit.Below.refl _ _).drew
        have HSZ := Lib.hid (size_at g F d wr.drew (HDD.out.dt.below hbd))
        have HBE := Lib.hid (HDD.out.below hbd).bl
        clear hR hrm hbd hk hlt
        go_wp2_with fail
        refine wp_region_held_drew (S := fun W => Agree [b6] wr W) (by kernel_rfl) ?_ (fun hHeld => ?_)
        · exact fun _ _ => rfl
        refine held_take 0 (v := ?_) rfl (by kernel_rfl) (by kernel_rfl) (by kernel_rfl) (fun _ _ _ h => h) hHeld (by rfl) ?_ ?_
        rotate_left
        · (intro W hW; go_simp; try with_reducible rfl)
        try simp only [Act.put, List.setIfInBounds_toArray, List.set_cons_zero, List.set_cons_succ]
        refine held_take 2 (v := ?_) rfl (by kernel_rfl) (by kernel_rfl) (by kernel_rfl) (fun _ _ _ h => h) hHeld (by rfl) ?_ ?_
        rotate_left
        · (intro W hW; go_simp; try with_reducible rfl)
        try simp only [Act.put, List.setIfInBounds_toArray, List.set_cons_zero, List.set_cons_succ]
        refine held_take 3 (v := ?_) rfl (by kernel_rfl) (by kernel_rfl) (by kernel_rfl) (fun _ _ _ h => h) hHeld (by rfl) ?_ ?_
        rotate_left
        · (intro W hW; have e := hW.cell (b := b6) (by simp) HQ60.out; go_simp; try with_reducible rfl)
        try simp only [Act.put, List.setIfInBounds_toArray, List.set_cons_zero, List.set_cons_succ]
        refine held_take 4 (v := ?_) rfl (by kernel_rfl) (by kernel_rfl) (by kernel_rfl) (fun _ _ _ h => h) hHeld (by rfl) ?_ ?_
        rotate_left
        · (intro W hW; go_simp; try with_reducible rfl)
        try simp only [Act.put, List.setIfInBounds_toArray, List.set_cons_zero, List.set_cons_succ]
        refine held_next 1 rfl (by kernel_rfl) (by rfl) (fun K hK => ?_)
        go_simp
        go_at_call 10
        refine HSZ.out.mono ?_
        rintro _ _ ⟨rfl, rfl⟩
        refine hK.out _ _ (fun _ _ => rfl) (fun hHeld => ?_)
        clear hK K
        try simp only [Act.put, List.setIfInBounds_toArray, List.set_cons_zero, List.set_cons_succ]
        refine held_take 5 (v := ?_) rfl (by kernel_rfl) (by kernel_rfl) (by kernel_rfl) (fun _ _ _ h => h) hHeld (by rfl) ?_ ?_
        rotate_left
        · (intro W hW; go_simp; try with_reducible rfl)
        try simp only [Act.put, List.setIfInBounds_toArray, List.set_cons_zero, List.set_cons_succ]
        refine held_take 6 (v := ?_) rfl (by kernel_rfl) (by kernel_rfl) (by kernel_rfl) (fun _ _ _ h => h) hHeld (by rfl) ?_ ?_
        rotate_left
        · (intro W hW; go_simp; try with_reducible rfl)
        try simp only [Act.put, List.setIfInBounds_toArray, List.set_cons_zero, List.set_cons_succ]
        refine wpAnyH_done (by kernel_rfl) ?_ _
        go_simp
        go_wp2
        go_ret
        exact ⟨rfl, HBE.out⟩
end Go.Proofs.Ytcboknigjpdmpaa
