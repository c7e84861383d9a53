
/- The walk of falseworklaw12.JournalKeeps. -/
import Derived.Test.YtdfbpaajkpnaeaaJnT
import Derived.Deep.DeepCutAuto
import Derived.Deep.CutBlock
namespace Go.Proofs.Ytdfbpaajkpnaeaa
set_option maxRecDepth 100000
open Go.RowKit Go.Lib

set_option maxRecDepth 100000 in
set_option maxHeartbeats 25600000 in
theorem journalKeeps_walk (wb : World) (z : Int) (hz : (Lit.int .i64 z).wf = true) (a0 : Option Addr) (n0 c0 : Nat) (l0 : List Aj) (h0 : CameJ wb a0 n0 l0) :
    Calls Try.prog 4 #[.int .i64 z, .slice a0 n0 c0] wb fun e w' => e = .returned (.bool true) ∧ RowKit.Below wb.heap.size wb w' := by
  have HL0 := Lib.hid h0
  have HM := Lib.hid h0.ln
  have HZ := Lib.hid (show I z from fitI hz)
  have A := Lib.hid (journalAlive_any wb)
  clear h0 hz
  go_enter Try.func4, Try.ntmps4
  go_wp2_with fail
  refine A.out.mono ?_
  rintro _ w1 ⟨rfl, hb1⟩
  have HB1 := Lib.hid hb1
  have HGR := Lib.hid (jgreat_any l0 a0 n0 c0 w1 (HL0.out.below hb1))
  clear hb1 A
  by_cases h10 : z < 10
  · have e0 : decide (z < 10) = true := by simpa using h10
    clear h10
    go_wp2
    go_ret
    exact ⟨rfl, HB1.out⟩
  by_cases h60 : 60 < z
  · have e0 : decide (z < 10) = false := by simpa using h10
    have e1 : decide (60 < z) = true := by simpa using h60
    clear h10 h60
    go_wp2
    go_ret
    exact ⟨rfl, HB1.out⟩
  have e0 : decide (z < 10) = false := by simpa using h10
  have e1 : decide (60 < z) = false := by simpa using h60
  have HZ2 := Lib.hid (show 10 ≤ z ∧ z ≤ 60 by omega)
  clear h10 h60
  go_wp2_with fail
  refine HGR.out.mono ?_
  rintro _ w2 ⟨bg, rfl, hsm, hb2⟩
  have HB2 := Lib.hid (HB1.out.trans (hb2.mono HB1.out.size))
  have HSM := Lib.hid hsm
  clear hsm hb2 HGR e0 e1
  cases bg with
  | true =>
    go_wp2
    go_ret
    exact ⟨rfl, HB2.out⟩
  | false =>
    have HS := Lib.hid (HSM.out rfl)
    have B := Lib.hid (blank_any z w2)
    obtain ⟨M, hM⟩ : ∃ M, M = n0 := ⟨_, rfl⟩
    have hM40 : M ≤ 40 := by rw [hM, ← HM.out]; exact (HSM.out rfl).1
    rw [← hM] at HM
    rw [← hM]
    clear HSM hM
    go_wp2_with fail
    refine B.out.mono ?_
    rintro _ w3 ⟨g, F3, rfl, hd3, hb3, hf3⟩
    have HD3 := Lib.hid (show DW wb w3 F3 g (Dk.blank z) from ⟨hd3, fun i hi => Nat.le_trans HB2.out.size (hf3 i hi), HB2.out.trans (hb3.mono HB2.out.size)⟩)
    have hzz := HZ2.out
    have HFM := Lib.hid (jl_format (s := 4) (st := []) (a := none) (len := 0) (cap := 0) HD3.out (by omega) (canJ_iff.2 (by rw [(Cd.blank (s := 4) (N := z) (by omega)).1]; omega)) (Or.inl rfl) rfl (fun _ => rfl) (by decide) (by rw [show (cont 0 []).length = 1 from by unfold cont; rw [uv_zero]; rfl]; decide))
    clear hd3 hb3 hf3 B hzz
    go_wp2_with fail
    refine HFM.out.mono ?_
    rintro _ w4 ⟨F4, b, lb4, d4, rfl, lv4, _, hl4, hj4⟩
    obtain ⟨N, hN⟩ : ∃ N, N = z.toNat := ⟨_, rfl⟩
    rw [← hN] at hl4
    obtain ⟨w5, hw5⟩ : ∃ w5, w5 = w4.alloc (.cells zP.toArray 39) := ⟨_, rfl⟩
    obtain ⟨w6, hw6⟩ : ∃ w6, w6 = w5.alloc (.cells zP.toArray 39) := ⟨_, rfl⟩
    have hb45 : RowKit.Below w4.heap.size w4 w5 := by rw [hw5]; exact (RowKit.Below.refl _ _).alloc (Nat.le_refl _) _
    have hb56 : RowKit.Below w5.heap.size w5 w6 := by rw [hw6]; exact (RowKit.Below.refl _ _).alloc (Nat.le_refl _) _
    have hb46 : RowKit.Below w4.heap.size w4 w6 := hb45.trans (hb56.mono hb45.size)
    have hs5 : w5.heap.size = w4.heap.size + 1 := by rw [hw5]; simp
    have HW5 := Lib.hid (show (w4.alloc (.cells zP.toArray 39)).setRow w4.heap.size zP.toArray = w5 by rw [hw5]; exact setRow_new rfl)
    have HW6 := Lib.hid (show (w5.alloc (.cells zP.toArray 39)).setRow w5.heap.size zP.toArray = w6 by rw [hw6]; exact setRow_new rfl)
    have HA4 := Lib.hid (heap_alloc_new w4 (.cells zP.toArray 39))
    have HA5 := Lib.hid (heap_alloc_new w5 (.cells zP.toArray 39))
    have hp5 : PR w6 w4.heap.size [] (.slice none 0 0) := by
      have : PR w5 w4.heap.size [] (.slice none 0 0) := by rw [hw5]; exact blkn rfl
      exact this.same (hb56.block _ this.lt)
    have hp6 : PR w6 w5.heap.size [] (.slice none 0 0) := by rw [hw6]; exact blkn rfl
    have HK0 := Lib.hid (show KS wb w6 g w4.heap.size w5.heap.size N 0 b from
      KS.ofA (recs := []) (hj4.below hb46) lv4 hl4 (Nat.le_refl _) (Nat.le_refl _) (by omega)
        ⟨fun e => by
          rcases e with e | e | e
          · have := hj4.jm.dt.fl _ e; omega
          · have := hj4.jm.ja.lt; omega
          · have := hj4.jm.lg.lt; omega,
         fun e => by
          rcases e with e | e | e
          · have := hj4.jm.dt.fl _ e; omega
          · have := hj4.jm.ja.lt; omega
          · have := hj4.jm.lg.lt; omega, by omega, hj4.bl.size, by have := hj4.bl.size; omega, ⟨_, hp5, Tx.nil _ _⟩, ⟨_, hp6, Tx.nil _ _⟩⟩)
    obtain ⟨bn, hbn⟩ : ∃ bn, bn = w4.heap.size := ⟨_, rfl⟩
    obtain ⟨bm, hbm⟩ : ∃ bm, bm = w5.heap.size := ⟨_, rfl⟩
    rw [← hbn, ← hbm] at HK0
    have HBN := Lib.hid hbn
    have HBM := Lib.hid hbm
    clear lv4 hl4 hj4 hw5 hw6 hb45 hb56 hb46 hs5 hp5 hp6 HFM HD3 hbn hbm
    go_wp2_with (first | (with_reducible refine wpList_buildP rfl rfl ?_) | (with_reducible refine wpList_allocA rfl isP rfl ?_) | ((with_reducible refine wpList_storeW rfl isP _ _ rfl w4.heap.size zP _ _ rfl rfl HA4.out zP_cs (by simp) ?_); rw [HW5.out]) | ((with_reducible refine wpList_storeW rfl isP _ _ rfl w5.heap.size zP _ _ rfl rfl HA5.out zP_cs (by simp) ?_); rw [HW6.out]))
    rw [← HBN.out, ← HBM.out]
    clear HA4 HA5 HW5 HW6
    go_loopw [6, 55] (fun c6 c55 wr => ∃ (k b : Nat), c6 = .pointer (some ⟨b, 0, none⟩) ∧ c55 = .int .i64 (k : Int) ∧ k ≤ M ∧ Hid (KS wb wr g bn bm N k b)) (fun _ c55 _ => M - (match c55 with | .int _ q => q | _ => 0).toNat)
    case atStart => exact ⟨0, b, rfl, rfl, Nat.zero_le _, HK0.out⟩
    case round =>
      clear HK0 HB1 HB2
      obtain ⟨k, b, rfl, rfl, hk, HKK⟩ := hrel
      have HK40 := Lib.hid (show k ≤ 40 by omega)
      by_cases hlt : k < M
      · obtain ⟨x, hx⟩ : ∃ x, l0[k]? = some x := ⟨_, List.getElem?_eq_getElem (by rw [HM.out]; exact hlt)⟩
        have hxm := List.mem_of_getElem? hx
        obtain ⟨X, st, st2, recs, recs2, hmm, hxl, hblw, hab⟩ := HKK.out
        have HBLW := Lib.hid hblw
        have HMM := Lib.hid hmm
        have HXL := Lib.hid hxl
        have HAB := Lib.hid hab
        have HGD := Lib.hid (HL0.out.gd x hxm)
        have HSX := Lib.hid (HS.out.2 x hxm)
        obtain ⟨bb, ob, ha1, _, hrb⟩ := (HL0.out.li.below HBLW.out).get (f := ajs) (n := 4) (fun _ _ => rfl) (by decide) hx
        obtain ⟨c, hc⟩ : ∃ c, c = ajs x := ⟨_, rfl⟩
        rw [← hc] at hrb
        have HRB := Lib.hid hrb
        have HCC := Lib.hid (show Cs 4 c by rw [hc]; exact ajs_cs x)
        obtain ⟨v, hpn, htx⟩ := hmm.nw
        obtain ⟨an, cn, hv, hrat, hlie, hnil⟩ := htx.lie
        obtain ⟨rn, hrn⟩ : ∃ rn, rn = recs.length := ⟨_, rfl⟩
        rw [← hrn] at hv hnil
        subst hv
        have HRN := Lib.hid hrn
        have HPN := Lib.hid hpn
        have HTX := Lib.hid htx
        obtain ⟨w4, hw4⟩ : ∃ w4, w4 = wr.alloc (.cells c.toArray 42) := ⟨_, rfl⟩
        obtain ⟨w5, hw5⟩ : ∃ w5, w5 = w4.alloc (.cells (psc st (.slice an rn cn)).toArray 39) := ⟨_, rfl⟩
        have hb4 : RowKit.Below wr.heap.size wr w4 := by rw [hw4]; exact (RowKit.Below.refl _ _).alloc (Nat.le_refl _) _
        have hb45 : RowKit.Below w4.heap.size w4 w5 := by rw [hw5]; exact (RowKit.Below.refl _ _).alloc (Nat.le_refl _) _
        have hb5 : RowKit.Below wr.heap.size wr w5 := hb4.trans (hb45.mono hb4.size)
        have HB5 := Lib.hid hb5
        have HS4 := Lib.hid (show w4.heap.size = wr.heap.size + 1 by rw [hw4]; simp)
        have HS5 := Lib.hid (show w5.heap.size = wr.heap.size + 2 by have := HS4.out; rw [hw5]; simp; omega)
        have HW4 := Lib.hid (show (wr.alloc (.cells zAj.toArray 42)).setRow wr.heap.size c.toArray = w4 by rw [hw4]; exact setRow_new rfl)
        have HAL := Lib.hid (heap_alloc_new wr (.cells zAj.toArray 42))
        have HW5 := Lib.hid (show (w4.alloc (.cells zP.toArray 39)).setRow w4.heap.size (psc st (.slice an rn cn)).toArray = w5 by rw [hw5]; exact setRow_new rfl)
        have HAL5 := Lib.hid (heap_alloc_new w4 (.cells zP.toArray 39))
        have HPN4 := Lib.hid (show PR w4 bn st (.slice an rn cn) from hpn.same (hb4.block _ hpn.lt))
        have HAC := Lib.hid ((AjAt.new hc (show w4.heap[wr.heap.size]? = some (.cells c.toArray 42) by rw [hw4]; exact blkn rfl)).below hb45)
        have HPX := Lib.hid (show PR w5 w4.heap.size st (.slice an rn cn) by rw [hw5]; exact blkn rfl)
        obtain ⟨kd, hkd⟩ : ∃ y, y = x.kind := ⟨_, rfl⟩
        have q0 := HAC.out.c0
        have q1 := HAC.out.c1
        have q2 := HAC.out.c2
        have q3 := HAC.out.c3
        rw [← hkd] at q0
        subst ha1
        clear hx hxm hrb hc hw4 hw5 hb4 hb45 hb5 hkd hmm hxl hblw hab hpn htx hrat hlie hnil hrn
        have HPRE := Lib.hid (show PreJ wb wr w5 bn bm wr.heap.size w4.heap.size x X st st2 recs recs2 an rn cn from
          ⟨HMM.out, HXL.out, HBLW.out, HPN.out, by have := HTX.out; exact this, HRN.out, HB5.out, by have := HS5.out; omega, by have := HS4.out; have := HS5.out; omega, HAC.out, HPX.out, HGD.out⟩)
        clear HMM HXL HPN HTX HAC HPX
        go_upto_block 2 with (first | ((with_reducible refine wpList_storeW rfl isAj _ _ rfl wr.heap.size c zAj.toArray _ rfl rfl HAL.out HCC.out rfl ?_); rw [HW4.out]) | (with_reducible refine wpList_allocA rfl isAj rfl ?_) | (with_reducible refine wpList_idx elAj rfl _ _ rfl k rfl rfl rfl hlt ?_) | (with_reducible refine wpList_loadM rfl isAj _ rfl bb (ob + k * 4) c rfl HRB.out HCC.out ?_) | (with_reducible refine wpList_loadW rfl isP _ rfl bn (psc st (.slice an rn cn)) _ rfl HPN4.out (psc_cs _ _ _ _) ?_) | (with_reducible refine wpList_allocA rfl isP rfl ?_) | ((with_reducible refine wpList_storeW rfl isP _ _ rfl w4.heap.size (psc st (.slice an rn cn)) _ _ rfl rfl HAL5.out (psc_cs _ _ _ _) (by simp) ?_); rw [HW5.out]))
        go_cut [6, 13] (fun c6 c13 wx => ∃ (E : Int) (st' : List UInt8) (a' : Option Addr) (n' c' : Nat), c6 = .pointer (some ⟨b, 0, none⟩) ∧ c13 = .int .i64 E ∧ Hid (After wb wx g bn bm N (k + 1) b w4.heap.size E st' (.slice a' n' c')))
        case first =>
          clear HW4 HAL HW5 HAL5 HPN4
          by_cases hk0 : kd = 0
          · as_aux_lemma =>
            subst hk0
            have HAP := Lib.hid (ks_append HK40.out HPRE.out HAB.out)
            clear q1 q3
            go_wp2_with fail
            refine HAP.out.mono ?_
            rintro _ w6 ⟨E, rfl, h6, hr40, haft⟩
            have H6 := Lib.hid h6
            have HR40 := Lib.hid hr40
            have HAFT := Lib.hid haft
            have HF2 := Lib.hid (fun (W : World) (hW : Only (fun i => i = w4.heap.size) w6 W) => show W.cell? ⟨bn, 1, none⟩ = some (.slice an rn cn) from (PR.cells (PR.same H6.out.pn (hW.block _ (PR.lt H6.out.pn) (by have := PR.lt HPRE.out.pn; have := HPRE.out.bxb; omega)))).2)
            have HF5 := Lib.hid (fun (W : World) (hW : Only (fun i => i = w4.heap.size) w6 W) => show W.cell? ⟨wr.heap.size, 2, none⟩ = some (.slice x.ba x.bn x.bc) from (H6.out.ac.same (hW.block _ H6.out.ac.lt (by have := HS4.out; omega)) hW.size).c2)
            have HF6 := Lib.hid (fun (W : World) (hW : Only (fun i => i = w4.heap.size) w6 W) => run_conv (w := W) (HGD.out.bp.row.below (hW.below H6.out.bl (fun i e => by rw [e]; exact Nat.le_trans HBLW.out.size HPRE.out.bxb.1) H6.out.bl.size)) x.bn x.bc HGD.out.bp.ln)
            clear h6 hr40 haft HAP q0 q2
            go_wp2_with fail
            refine wp_region_held_drew (S := fun W => Only (fun i => i = w4.heap.size) w6 W) (by kernel_rfl) ?_ (fun hHeld => ?_)
            · exact Only.of_below (RowKit.Below.refl _ _).drew
            refine held_take 1 (v := ?_) rfl (by kernel_rfl) (by kernel_rfl) (by kernel_rfl) (fun _ _ _ h => h) hHeld (by rfl) ?_ ?_
            rotate_left
            · (intro W hW; go_simp; try with_reducible rfl)
            try simp only [Act.put, List.setIfInBounds_toArray, List.set_cons_zero, List.set_cons_succ]
            refine held_take 2 (v := ?_) rfl (by kernel_rfl) (by kernel_rfl) (by kernel_rfl) (fun _ _ _ h => h) hHeld (by rfl) ?_ ?_
            rotate_left
            · (intro W hW; have e0 := HF2.out W hW; go_simp; try with_reducible rfl)
            try simp only [Act.put, List.setIfInBounds_toArray, List.set_cons_zero, List.set_cons_succ]
            refine held_take 4 (v := ?_) rfl (by kernel_rfl) (by kernel_rfl) (by kernel_rfl) (fun _ _ _ h => h) hHeld (by rfl) ?_ ?_
            rotate_left
            · (intro W hW; go_simp; try with_reducible rfl)
            try simp only [Act.put, List.setIfInBounds_toArray, List.set_cons_zero, List.set_cons_succ]
            refine held_take 5 (v := ?_) rfl (by kernel_rfl) (by kernel_rfl) (by kernel_rfl) (fun _ _ _ h => h) hHeld (by rfl) ?_ ?_
            rotate_left
            · (intro W hW; have e0 := HF5.out W hW; go_simp; try with_reducible rfl)
            try simp only [Act.put, List.setIfInBounds_toArray, List.set_cons_zero, List.set_cons_succ]
            refine held_take 6 (v := ?_) rfl (by kernel_rfl) (by kernel_rfl) (by kernel_rfl) (fun _ _ _ h => h) hHeld (by rfl) ?_ ?_
            rotate_left
            · (intro W hW; have e0 := HF6.out W hW; go_simp; try with_reducible rfl)
            try simp only [Act.put, List.setIfInBounds_toArray, List.set_cons_zero, List.set_cons_succ]
            refine held_two 0 7 rfl rfl (by kernel_rfl) (by rfl) (by rfl) (fun K hK => ?_) (fun K hK => ?_)
            · have HBl := Lib.hid (show RowKit.Below w6.heap.size w6 (w6.drew.alloc (.cells #[] 9)) from (RowKit.Below.refl _ _).drew.alloc (Nat.le_refl _) _)
              refine wp_lit elT rfl ?_
              refine hK.out _ _ (Only.of_below HBl.out) (fun hHeld => ?_)
              clear hK K
              try simp only [Act.put, List.setIfInBounds_toArray, List.set_cons_zero, List.set_cons_succ]
              refine held_two 3 7 rfl rfl (by kernel_rfl) (by rfl) (by rfl) (fun K hK => ?_) (fun K hK => ?_)
              · refine wp_appO elT (t := 37) (w := (w6.drew.alloc (.cells #[] 9))) _ _ rfl w6.heap.size (.slice (some ⟨w6.heap.size, 0, none⟩) 0 0) 0 [] an rn cn (recs.map sv) rfl rfl (World.ownsRow_lit (base := w6.heap.size) (e := 9) (size := 1) w6.drew #[] 0 (Nat.le_refl _) (by unfold maxLen; omega) (by simp)) (by rw [List.length_map, ← HRN.out, Nat.mul_one]) (H6.out.li.below HBl.out) H6.out.nil (fun u hu => by obtain ⟨y, _, rfl⟩ := List.mem_map.1 hu; rfl) (by have := HR40.out; omega) (by decide) HBl.out.size (fun v7 w7 h7 => ?_)
                have H7 := Lib.hid h7
                have HB7 := Lib.hid (below_appd h7 HBl.out HBl.out.size fun i hi => by cases hi; first | exact Nat.le_refl _ | exact HBi.out.size)
                clear h7
                refine hK.out _ _ (Only.of_below HB7.out) (fun hHeld => ?_)
                clear hK K
                try simp only [Act.put, List.setIfInBounds_toArray, List.set_cons_zero, List.set_cons_succ]
                refine held_next 7 rfl (by kernel_rfl) (by rfl) (fun K hK => ?_)
                have HB7a := Lib.hid (show RowKit.Below w6.heap.size w6 (w7.alloc (.cells #[sv x.bs] 9)) from HB7.out.alloc HB7.out.size _)
                refine wp_str1 _ rfl rfl ?_
                refine hK.out _ _ (Only.of_below HB7a.out) (fun hHeld => ?_)
                clear hK K
                try simp only [Act.put, List.setIfInBounds_toArray, List.set_cons_zero, List.set_cons_succ]
                refine held_next 8 rfl (by kernel_rfl) (by rfl) (fun K hK => ?_)
                refine wp_appO elT (t := 37) (w := (w7.alloc (.cells #[sv x.bs] 9))) _ _ rfl w6.heap.size v7 (0 + rn) ([] ++ recs.map sv) (some ⟨w7.heap.size, 0, none⟩) 1 1 [sv x.bs] rfl rfl (H7.out.1.alloc _) rfl (lie_new w7 [sv x.bs] 9) (fun e => by cases e) (fun u hu => by rw [List.mem_singleton.1 hu]; rfl) (by have := HR40.out; omega) (by decide) HB7a.out.size (fun v8 w9 h8 => ?_)
                obtain ⟨hb9, ho9⟩ := rec_end (W := w6) HRN.out HBl.out (Nat.le_refl _) H7.out (fun _ => (RowKit.Below.refl _ _).alloc (Nat.le_refl _) _) h8
                have HB9 := Lib.hid hb9
                have HO9 := Lib.hid ho9
                have HV8 := Lib.hid (show ∃ a n c, v8 = .slice a n c from by obtain ⟨a, c, e, _⟩ := own_rat ho9; exact ⟨a, _, c, e⟩)
                clear h8 hb9 ho9
                refine hK.out _ _ (Only.of_below HB9.out) (fun hHeld => ?_)
                clear hK K
                try simp only [Act.put, List.setIfInBounds_toArray, List.set_cons_zero, List.set_cons_succ]
                refine held_take 9 (v := ?_) rfl (by kernel_rfl) (by kernel_rfl) (by kernel_rfl) (fun _ _ _ h => h) hHeld (by rfl) ?_ ?_
                rotate_left
                · (intro W hW; go_simp; try with_reducible rfl)
                try simp only [Act.put, List.setIfInBounds_toArray, List.set_cons_zero, List.set_cons_succ]
                refine held_next 10 rfl (by kernel_rfl) (by rfl) (fun K hK => ?_)
                have HNX := Lib.hid (Nxt.mk' H6.out.px HB9.out HO9.out)
                refine wp_store1v _ _ _ rfl ⟨w4.heap.size, 1, none⟩ (v := v8) _ rfl rfl HV8.out (by kernel_rfl) (PR.same H6.out.px (HB9.out.block _ H6.out.lt) |> PR.cells).2 (frozen_of_row _ _ _ _ _ (PR.same H6.out.px (HB9.out.block _ H6.out.lt))) ?_
                refine hK.out _ _ (HNX.out.on) (fun hHeld => ?_)
                clear hK K
                try simp only [Act.put]
                refine wpAnyH_done (by kernel_rfl) ?_ _
                go_simp
                go_wp2
                go_meet
                case rel =>
                  obtain ⟨a8, n8, c8, rfl⟩ := HV8.out
                  exact ⟨E, st, a8, n8, c8, rfl, rfl, HAFT.out _ _ HNX.out⟩
              · have HBl2 := Lib.hid (show RowKit.Below w6.heap.size w6 ((w6.drew.alloc (.cells #[] 9)).alloc (.cells #[sv x.bs] 9)) from HBl.out.alloc HBl.out.size _)
                refine wp_str1 _ rfl rfl ?_
                refine hK.out _ _ (Only.of_below HBl2.out) (fun hHeld => ?_)
                clear hK K
                try simp only [Act.put, List.setIfInBounds_toArray, List.set_cons_zero, List.set_cons_succ]
                refine held_next 3 rfl (by kernel_rfl) (by rfl) (fun K hK => ?_)
                refine wp_appO elT (t := 37) (w := ((w6.drew.alloc (.cells #[] 9)).alloc (.cells #[sv x.bs] 9))) _ _ rfl w6.heap.size (.slice (some ⟨w6.heap.size, 0, none⟩) 0 0) 0 [] an rn cn (recs.map sv) rfl rfl ((World.ownsRow_lit (base := w6.heap.size) (e := 9) (size := 1) w6.drew #[] 0 (Nat.le_refl _) (by unfold maxLen; omega) (by simp)).alloc _) (by rw [List.length_map, ← HRN.out, Nat.mul_one]) (H6.out.li.below HBl2.out) H6.out.nil (fun u hu => by obtain ⟨y, _, rfl⟩ := List.mem_map.1 hu; rfl) (by have := HR40.out; omega) (by decide) HBl2.out.size (fun v7 w7 h7 => ?_)
                have H7 := Lib.hid h7
                have HB7 := Lib.hid (below_appd h7 HBl2.out HBl2.out.size fun i hi => by cases hi; first | exact Nat.le_refl _ | exact HBi.out.size)
                clear h7
                refine hK.out _ _ (Only.of_below HB7.out) (fun hHeld => ?_)
                clear hK K
                try simp only [Act.put, List.setIfInBounds_toArray, List.set_cons_zero, List.set_cons_succ]
                refine held_next 8 rfl (by kernel_rfl) (by rfl) (fun K hK => ?_)
                refine wp_appO elT (t := 37) (w := w7) _ _ rfl w6.heap.size v7 (0 + rn) ([] ++ recs.map sv) (some ⟨(w6.drew.alloc (.cells #[] 9)).heap.size, 0, none⟩) 1 1 [sv x.bs] rfl rfl H7.out.1 rfl (Lie.same (w := ((w6.drew.alloc (.cells #[] 9)).alloc (.cells #[sv x.bs] 9))) (a := some ⟨(w6.drew.alloc (.cells #[] 9)).heap.size, 0, none⟩) (lie_new (w6.drew.alloc (.cells #[] 9)) [sv x.bs] 9) H7.out.2.1.size (fun b hb => H7.out.2.1.block b (by obtain ⟨z, e, rfl⟩ := hb; cases e; simp) (fun e2 => by obtain ⟨z, e, rfl⟩ := hb; cases e; simp [Value.ownBlock] at e2))) (fun e => by cases e) (fun u hu => by rw [List.mem_singleton.1 hu]; rfl) (by have := HR40.out; omega) (by decide) HB7.out.size (fun v8 w9 h8 => ?_)
                obtain ⟨hb9, ho9⟩ := rec_end (W := w6) HRN.out HBl2.out (Nat.le_refl _) H7.out (fun _ => RowKit.Below.refl _ _) h8
                have HB9 := Lib.hid hb9
                have HO9 := Lib.hid ho9
                have HV8 := Lib.hid (show ∃ a n c, v8 = .slice a n c from by obtain ⟨a, c, e, _⟩ := own_rat ho9; exact ⟨a, _, c, e⟩)
                clear h8 hb9 ho9
                refine hK.out _ _ (Only.of_below HB9.out) (fun hHeld => ?_)
                clear hK K
                try simp only [Act.put, List.setIfInBounds_toArray, List.set_cons_zero, List.set_cons_succ]
                refine held_take 9 (v := ?_) rfl (by kernel_rfl) (by kernel_rfl) (by kernel_rfl) (fun _ _ _ h => h) hHeld (by rfl) ?_ ?_
                rotate_left
                · (intro W hW; go_simp; try with_reducible rfl)
                try simp only [Act.put, List.setIfInBounds_toArray, List.set_cons_zero, List.set_cons_succ]
                refine held_next 10 rfl (by kernel_rfl) (by rfl) (fun K hK => ?_)
                have HNX := Lib.hid (Nxt.mk' H6.out.px HB9.out HO9.out)
                refine wp_store1v _ _ _ rfl ⟨w4.heap.size, 1, none⟩ (v := v8) _ rfl rfl HV8.out (by kernel_rfl) (PR.same H6.out.px (HB9.out.block _ H6.out.lt) |> PR.cells).2 (frozen_of_row _ _ _ _ _ (PR.same H6.out.px (HB9.out.block _ H6.out.lt))) ?_
                refine hK.out _ _ (HNX.out.on) (fun hHeld => ?_)
                clear hK K
                try simp only [Act.put]
                refine wpAnyH_done (by kernel_rfl) ?_ _
                go_simp
                go_wp2
                go_meet
                case rel =>
                  obtain ⟨a8, n8, c8, rfl⟩ := HV8.out
                  exact ⟨E, st, a8, n8, c8, rfl, rfl, HAFT.out _ _ HNX.out⟩
            · have HBi := Lib.hid (show RowKit.Below w6.heap.size w6 (w6.drew.alloc (.cells #[sv x.bs] 9)) from (RowKit.Below.refl _ _).drew.alloc (Nat.le_refl _) _)
              refine wp_str1 _ rfl rfl ?_
              refine hK.out _ _ (Only.of_below HBi.out) (fun hHeld => ?_)
              clear hK K
              try simp only [Act.put, List.setIfInBounds_toArray, List.set_cons_zero, List.set_cons_succ]
              refine held_next 0 rfl (by kernel_rfl) (by rfl) (fun K hK => ?_)
              have HBl := Lib.hid (show RowKit.Below w6.heap.size w6 ((w6.drew.alloc (.cells #[sv x.bs] 9)).alloc (.cells #[] 9)) from HBi.out.alloc HBi.out.size _)
              refine wp_lit elT rfl ?_
              refine hK.out _ _ (Only.of_below HBl.out) (fun hHeld => ?_)
              clear hK K
              try simp only [Act.put, List.setIfInBounds_toArray, List.set_cons_zero, List.set_cons_succ]
              refine held_next 3 rfl (by kernel_rfl) (by rfl) (fun K hK => ?_)
              refine wp_appO elT (t := 37) (w := ((w6.drew.alloc (.cells #[sv x.bs] 9)).alloc (.cells #[] 9))) _ _ rfl w6.heap.size (.slice (some ⟨(w6.drew.alloc (.cells #[sv x.bs] 9)).heap.size, 0, none⟩) 0 0) 0 [] an rn cn (recs.map sv) rfl rfl (World.ownsRow_lit (base := w6.heap.size) (e := 9) (size := 1) (w6.drew.alloc (.cells #[sv x.bs] 9)) #[] 0 HBi.out.size (by unfold maxLen; omega) (by simp)) (by rw [List.length_map, ← HRN.out, Nat.mul_one]) (H6.out.li.below HBl.out) H6.out.nil (fun u hu => by obtain ⟨y, _, rfl⟩ := List.mem_map.1 hu; rfl) (by have := HR40.out; omega) (by decide) HBl.out.size (fun v7 w7 h7 => ?_)
              have H7 := Lib.hid h7
              have HB7 := Lib.hid (below_appd h7 HBl.out HBl.out.size fun i hi => by cases hi; first | exact Nat.le_refl _ | exact HBi.out.size)
              clear h7
              refine hK.out _ _ (Only.of_below HB7.out) (fun hHeld => ?_)
              clear hK K
              try simp only [Act.put, List.setIfInBounds_toArray, List.set_cons_zero, List.set_cons_succ]
              refine held_next 8 rfl (by kernel_rfl) (by rfl) (fun K hK => ?_)
              refine wp_appO elT (t := 37) (w := w7) _ _ rfl w6.heap.size v7 (0 + rn) ([] ++ recs.map sv) (some ⟨w6.heap.size, 0, none⟩) 1 1 [sv x.bs] rfl rfl H7.out.1 rfl (Lie.same (w := ((w6.drew.alloc (.cells #[sv x.bs] 9)).alloc (.cells #[] 9))) (a := some ⟨w6.heap.size, 0, none⟩) ((lie_new w6.drew [sv x.bs] 9).below ((RowKit.Below.refl _ _).alloc (Nat.le_refl _) _)) H7.out.2.1.size (fun b hb => H7.out.2.1.block b (by obtain ⟨z, e, rfl⟩ := hb; cases e; simp; omega) (fun e2 => by obtain ⟨z, e, rfl⟩ := hb; cases e; simp [Value.ownBlock] at e2))) (fun e => by cases e) (fun u hu => by rw [List.mem_singleton.1 hu]; rfl) (by have := HR40.out; omega) (by decide) HB7.out.size (fun v8 w9 h8 => ?_)
              obtain ⟨hb9, ho9⟩ := rec_end (W := w6) HRN.out HBl.out HBi.out.size H7.out (fun _ => RowKit.Below.refl _ _) h8
              have HB9 := Lib.hid hb9
              have HO9 := Lib.hid ho9
              have HV8 := Lib.hid (show ∃ a n c, v8 = .slice a n c from by obtain ⟨a, c, e, _⟩ := own_rat ho9; exact ⟨a, _, c, e⟩)
              clear h8 hb9 ho9
              refine hK.out _ _ (Only.of_below HB9.out) (fun hHeld => ?_)
              clear hK K
              try simp only [Act.put, List.setIfInBounds_toArray, List.set_cons_zero, List.set_cons_succ]
              refine held_take 9 (v := ?_) rfl (by kernel_rfl) (by kernel_rfl) (by kernel_rfl) (fun _ _ _ h => h) hHeld (by rfl) ?_ ?_
              rotate_left
              · (intro W hW; go_simp; try with_reducible rfl)
              try simp only [Act.put, List.setIfInBounds_toArray, List.set_cons_zero, List.set_cons_succ]
              refine held_next 10 rfl (by kernel_rfl) (by rfl) (fun K hK => ?_)
              have HNX := Lib.hid (Nxt.mk' H6.out.px HB9.out HO9.out)
              refine wp_store1v _ _ _ rfl ⟨w4.heap.size, 1, none⟩ (v := v8) _ rfl rfl HV8.out (by kernel_rfl) (PR.same H6.out.px (HB9.out.block _ H6.out.lt) |> PR.cells).2 (frozen_of_row _ _ _ _ _ (PR.same H6.out.px (HB9.out.block _ H6.out.lt))) ?_
              refine hK.out _ _ (HNX.out.on) (fun hHeld => ?_)
              clear hK K
              try simp only [Act.put]
              refine wpAnyH_done (by kernel_rfl) ?_ _
              go_simp
              go_wp2
              go_meet
              case rel =>
                obtain ⟨a8, n8, c8, rfl⟩ := HV8.out
                exact ⟨E, st, a8, n8, c8, rfl, rfl, HAFT.out _ _ HNX.out⟩
          by_cases hk1 : kd = 1
          · as_aux_lemma =>
            subst hk1
            rcases HAB.out with ⟨hst, hrc, hpa⟩ | hpb
            · subst st2 recs2
              have HDE := Lib.hid (show Calls Try.prog 15 #[.pointer (some ⟨g, 0, none⟩)] w5 (fun e w' => e = .returned (.bool false) ∧ w5 = w') by
                obtain ⟨F, lb, d, y, m, f, h1, h2, _⟩ := hpa.below HPRE.out.b5
                have := dead_at g F d w5 h1.jm.dt
                rw [h2.kp.dd] at this
                exact this)
              have HCM := Lib.hid (ks_compact HK40.out HSX.out.1 HPRE.out hpa)
              clear hpa HAB q1 q3
              go_wp2_with fail
              refine HDE.out.mono ?_
              rintro _ _ ⟨rfl, rfl⟩
              clear HDE
              go_wp2_with fail
              refine HCM.out.mono ?_
              rintro _ w6 ⟨E, rfl, h6, haft⟩
              have H6 := Lib.hid h6
              have HAFT := Lib.hid haft
              have cv := run_conv (w := w6) h6.by_ x.bn x.bc HGD.out.bp.ln
              have q2' := h6.ac.c2
              clear h6 haft HCM q0 q2
              go_wp2_with ((with_reducible refine wpList_storeW rfl isP _ _ rfl w4.heap.size (psc x.bs (.slice none 0 0)) _ _ rfl rfl H6.out.px (psc_cs _ _ _ _) (by simp) ?_))
              go_meet
              case rel => exact ⟨E, x.bs, none, 0, 0, rfl, rfl, HAFT⟩
            · have HDE := Lib.hid (show Calls Try.prog 15 #[.pointer (some ⟨g, 0, none⟩)] w5 (fun e w' => e = .returned (.bool true) ∧ w5 = w') by
                obtain ⟨F, d, h1, h2, _⟩ := hpb.below HPRE.out.b5
                have := dead_at g F d w5 h1.dt
                rw [h2] at this
                exact this)
              clear hpb HAB q1 q3
              go_wp2_with fail
              refine HDE.out.mono ?_
              rintro _ _ ⟨rfl, rfl⟩
              clear HDE
              go_wp2
              go_roundw
              case rel => exact ⟨k + 1, b, rfl, by go_num, by omega, HKK.out.more HB5.out⟩
              case measure => simp; omega
          by_cases hk3 : kd = 3
          · as_aux_lemma =>
            subst hk3
            have HFU := Lib.hid (ks_fuse (n := x.at_) HPRE.out HAB.out HGD.out.ii)
            clear q2 q3
            go_wp2_with fail
            refine HFU.out.mono ?_
            rintro _ w6 ⟨rfl, hks⟩
            have HKS := Lib.hid hks
            clear hks HFU
            go_wp2
            go_roundw
            case rel => exact ⟨k + 1, b, rfl, by go_num, by omega, HKS⟩
            case measure => simp; omega
          by_cases hkk : kd = 2 ∨ kd = 4
          · as_aux_lemma =>
            have e0 : (kd == 0) = false := by simpa using hk0
            have e1 : (kd == 1) = false := by simpa using hk1
            clear hk0 hk1 hk3
            go_upto_if 90 with (fail)
            go_cut [90] (fun c90 wx => c90 = .bool true ∧ w5 = wx)
            case first =>
              rcases hkk with hkk | hkk
              · subst hkk
                go_wp2
                go_meet
                case rel => exact ⟨rfl, rfl⟩
              · subst hkk
                go_wp2
                go_meet
                case rel => exact ⟨rfl, rfl⟩
            case rest =>
              obtain ⟨rfl, rfl⟩ := hcut
              go_upto_region 26 with (fail)
              go_cut [99] (fun c99 wx => ∃ bb : Bool, c99 = .bool bb ∧ Hid (bb = true ∨ ∃ F d, TL wb w5 g bn bm N k F d st st2 recs recs2) ∧ w5 = wx)
              case first =>
                rcases hkk with hkk | hkk
                · subst hkk
                  rcases HAB.out with ⟨hst, hrc, hpa⟩ | hpb
                  · subst st2 recs2
                    obtain ⟨F, d, hdd, htl⟩ := tl_alive HK40.out HPRE.out hpa
                    have HDE := Lib.hid (show Calls Try.prog 15 #[.pointer (some ⟨g, 0, none⟩)] w5 (fun e w' => e = .returned (.bool false) ∧ w5 = w') by
                      have := dead_at g F d w5 htl.dw.dt
                      rw [hdd] at this
                      exact this)
                    have HREL := Lib.hid (show ∃ F d, TL wb w5 g bn bm N k F d st st recs recs from ⟨F, d, htl⟩)
                    clear hpa hdd htl HAB
                    go_wp2_with fail
                    refine HDE.out.mono ?_
                    rintro _ _ ⟨rfl, rfl⟩
                    clear HDE
                    go_wp2
                    go_meet
                    case rel => exact ⟨false, rfl, Lib.hid (Or.inr HREL.out), rfl⟩
                  · have HDE := Lib.hid (show Calls Try.prog 15 #[.pointer (some ⟨g, 0, none⟩)] w5 (fun e w' => e = .returned (.bool true) ∧ w5 = w') by
                      obtain ⟨F, d, h1, h2, _⟩ := hpb.below HPRE.out.b5
                      have := dead_at g F d w5 h1.dt
                      rw [h2] at this
                      exact this)
                    clear hpb HAB
                    go_wp2_with fail
                    refine HDE.out.mono ?_
                    rintro _ _ ⟨rfl, rfl⟩
                    clear HDE
                    go_wp2
                    go_meet
                    case rel => exact ⟨true, rfl, Lib.hid (Or.inl rfl), rfl⟩
                · subst hkk
                  clear HAB
                  go_wp2
                  go_meet
                  case rel => exact ⟨true, rfl, Lib.hid (Or.inl rfl), rfl⟩
              case rest =>
                obtain ⟨bb, rfl, HBB, rfl⟩ := hcut
                have HPW := Lib.hid (ks_power HK40.out HPRE.out HAB.out)
                clear HAB hkk
                go_upto_if 99 with (fail)
                go_cut [] (fun wx => ∃ F d, Hid (TL wb wx g bn bm N k F d st st2 recs recs2))
                case first =>
                  cases bb with
                  | false =>
                    go_wp2
                    go_meet
                    case rel =>
                      rcases HBB.out with e | ⟨F, d, e⟩
                      · cases e
                      · exact ⟨F, d, Lib.hid e⟩
                  | true =>
                    go_wp2_with fail
                    refine HPW.out.mono ?_
                    rintro _ w6 ⟨rfl, F, d, htl⟩
                    have HTL := Lib.hid htl
                    clear htl HPW
                    go_wp2
                    go_meet
                    case rel => exact ⟨F, d, HTL⟩
                case rest =>
                  obtain ⟨F, d, HTL⟩ := hcut
                  clear HPW HBB
                  rename World => w6
                  as_aux_lemma =>
                    have HOP := Lib.hid (jl_open HTL.out.dw HTL.out.cd (by have := HK40.out; omega))
                    clear q0 q1 q2 q3
                    go_wp2_with fail
                    refine HOP.out.mono ?_
                    rintro _ wo1 ⟨b1, lb1, sa, sk, v1, s1, L1, y1, F1', rfl, hB1, _, _, hP, hsl, hst1, hrun1, hbs1, _, hn1, hrec1, _, _, hjl1⟩
                    obtain ⟨la, lc, rfl⟩ := hrec1.form
                    obtain ⟨nl, hnl⟩ : ∃ nl, nl = L1.length := ⟨_, rfl⟩
                    obtain ⟨sl, hsll⟩ : ∃ sl, sl = s1.length := ⟨_, rfl⟩
                    have HB1 := Lib.hid hB1
                    have HP := Lib.hid hP
                    have HST1 := Lib.hid hst1
                    have HRUN1 := Lib.hid hrun1
                    have HBS1 := Lib.hid hbs1
                    have HN1 := Lib.hid hn1
                    have HREC1 := Lib.hid hrec1
                    have HNL := Lib.hid hnl
                    have HSL := Lib.hid hsll
                    have HSLB := Lib.hid (show sl ≤ 13515 by
                      have := nR_len ((d).slot 0 4).1.b
                      rw [← hst1] at this
                      omega)
                    have HNK := Lib.hid (show nl ≤ k by
                      have h1 := HTL.out.l1
                      have h2 := HTL.out.l2
                      rcases hP with ⟨_, e⟩ | ⟨_, e⟩ <;> rw [hnl, e] <;> assumption)
                    have HWB1 := Lib.hid hjl1.bl
                    rw [← hnl, ← hsll]
                    obtain ⟨vn, hpn, htxn⟩ := HTL.out.mm.nw
                    obtain ⟨a3, c3, hvn, hr3, _, _⟩ := htxn.lie
                    obtain ⟨r3, hr3n⟩ : ∃ r3, r3 = recs.length := ⟨_, rfl⟩
                    rw [← hr3n] at hvn
                    subst hvn
                    obtain ⟨vm, hpm, htxm⟩ := HTL.out.mm.my
                    obtain ⟨a4, c4, hvm, hr4, _, _⟩ := htxm.lie
                    obtain ⟨r4, hr4n⟩ : ∃ r4, r4 = recs2.length := ⟨_, rfl⟩
                    rw [← hr4n] at hvm
                    subst hvm
                    have HPNP := Lib.hid hpn
                    have HPMP := Lib.hid hpm
                    have HPN1 := Lib.hid (show PR wo1 bn st (.slice a3 r3 c3) from PR.same hpn (hB1.block _ (PR.lt hpn)))
                    have HPM1 := Lib.hid (show PR wo1 bm st2 (.slice a4 r4 c4) from PR.same hpm (hB1.block _ (PR.lt hpm)))
                    have HBA1 := Lib.hid (show BsAt wo1 la L1 from hrec1.agr (Nat.le_refl _) fun i _ _ => rfl)
                    have HFT1 := Lib.hid (show Calls Try.prog 17 #[.agg #[.string (strB st), .slice a3 r3 c3], .slice sa sl sk, .slice la nl lc] wo1 (fun e w' => e = .returned (.bool (decide (s1 = st ∧ L1 = recs))) ∧ RowKit.Below wo1.heap.size wo1 w') by
                      have := fits_any st s1 recs L1 a3 sa la c3 sl sk nl lc wo1 (hr3.below hB1) hbs1 hsll.symm HBA1.out hnl.symm (by have := HNK.out; have := HK40.out; omega)
                      rwa [← hr3n] at this)
                    have HFT2 := Lib.hid (fun (W : World) (hb : RowKit.Below wo1.heap.size wo1 W) => show Calls Try.prog 17 #[.agg #[.string (strB st2), .slice a4 r4 c4], .slice sa sl sk, .slice la nl lc] W (fun e w' => e = .returned (.bool (decide (s1 = st2 ∧ L1 = recs2))) ∧ RowKit.Below W.heap.size W w') by
                      have := fits_any st2 s1 recs2 L1 a4 sa la c4 sl sk nl lc W ((hr4.below hB1).below hb) (hbs1.below hb) hsll.symm (HBA1.out.below hb) hnl.symm (by have := HNK.out; have := HK40.out; omega)
                      rwa [← hr4n] at this)
                    clear hB1 hP hsl hst1 hrun1 hbs1 hn1 hrec1 hjl1 hnl hsll hpn htxn hr3 hr3n hpm htxm hr4 hr4n HOP
                    go_upto_region 29 with (fail)
                    go_cut [126] (fun c126 wx => c126 = .bool false ∧ Hid (RowKit.Below wo1.heap.size wo1 wx))
                    case first =>
                      by_cases hft : s1 = st ∧ L1 = recs
                      · rw [decide_eq_true hft] at HFT1
                        clear hft
                        go_wp2_with (refine wpList_loadG isP _ rfl (by rfl) bn 0 (psc st (.slice a3 r3 c3)) rfl (range_row HPN1.out) (psc_cs _ _ _ _) ?_)
                        refine HFT1.out.mono ?_
                        rintro _ wf ⟨rfl, hbf⟩
                        have HBF := Lib.hid hbf
                        clear hbf
                        go_wp2
                        go_meet
                        case rel => exact ⟨rfl, HBF⟩
                      · have hft2 : s1 = st2 ∧ L1 = recs2 := HP.out.resolve_left hft
                        rw [decide_eq_false hft] at HFT1
                        rw [decide_eq_true hft2] at HFT2
                        clear hft hft2
                        go_wp2_with (refine wpList_loadG isP _ rfl (by rfl) bn 0 (psc st (.slice a3 r3 c3)) rfl (range_row HPN1.out) (psc_cs _ _ _ _) ?_)
                        refine HFT1.out.mono ?_
                        rintro _ wf ⟨rfl, hbf⟩
                        have HBF := Lib.hid hbf
                        have HFT3 := Lib.hid (HFT2.out wf hbf)
                        have HPMF := Lib.hid (show PR wf bm st2 (.slice a4 r4 c4) from PR.same HPM1.out (hbf.block _ (PR.lt HPM1.out)))
                        clear hbf HFT1 HFT2
                        go_wp2_with (refine wpList_loadG isP _ rfl (by rfl) bm 0 (psc st2 (.slice a4 r4 c4)) rfl (range_row HPMF.out) (psc_cs _ _ _ _) ?_)
                        refine HFT3.out.mono ?_
                        rintro _ wg ⟨rfl, hbg⟩
                        have HBG := Lib.hid (HBF.out.trans (hbg.mono HBF.out.size))
                        clear hbg
                        go_wp2
                        go_meet
                        case rel => exact ⟨rfl, HBG⟩
                    case rest =>
                      as_aux_lemma =>
                        obtain ⟨rfl, hcut⟩ := hcut
                        have HBF := Lib.hid hcut.out
                        have HOP2 := Lib.hid (jl_open (HTL.out.dw.below (HB1.out.trans (HBF.out.mono HB1.out.size))) HTL.out.cd (by have := HK40.out; omega))
                        clear hcut HFT1 HFT2
                        go_wp2_with fail
                        refine HOP2.out.mono ?_
                        rintro _ wo2 ⟨b2, lb2, ta, tk, v2, s2, L2, y2, F1, rfl, hB2, hb2g, hlb2g, _, _, hst2, hrun2, hbt, _, _, hrec2, hF1, hlo, hjl⟩
                        have es : s1 = s2 := HST1.out.trans hst2.symm
                        subst es
                        obtain ⟨el, _⟩ := HRUN1.out.uniq hrun2
                        subst el
                        obtain ⟨ta2, tc2, rfl⟩ := hrec2.form
                        rw [← HNL.out, ← HSL.out]
                        have HLO0 := Lib.hid (And.intro (PR.lt HPNP.out) (And.intro (PR.lt HPMP.out) HB1.out.size))
                        have HBFS := Lib.hid HBF.out.size
                        have HB12 := Lib.hid (show RowKit.Below wo1.heap.size wo1 wo2 from HBF.out.trans (hB2.mono HBF.out.size))
                        have HB2G := Lib.hid (show wo1.heap.size ≤ b2 ∧ wo1.heap.size ≤ lb2 from ⟨Nat.le_trans HBF.out.size hb2g, Nat.le_trans HBF.out.size hlb2g⟩)
                        have HPN2 := Lib.hid (show PR wo2 bn st (.slice a3 r3 c3) from PR.same HPN1.out (HB12.out.block _ (PR.lt HPN1.out)))
                        have HPM2 := Lib.hid (show PR wo2 bm st2 (.slice a4 r4 c4) from PR.same HPM1.out (HB12.out.block _ (PR.lt HPM1.out)))
                        have HBS2 := Lib.hid (HBS1.out.below HB12.out)
                        have HBT2 := Lib.hid hbt
                        have HREC2 := Lib.hid hrec2
                        have HWF := Lib.hid (Nat.le_trans HB1.out.size HBF.out.size)
                        have HF1 := Lib.hid hF1
                        have HLO := Lib.hid hlo
                        have HJ2 := Lib.hid hjl
                        have HNA := Lib.hid (show PR (wo2.alloc (.cells #[] 9)) bn st (.slice a3 r3 c3) from PR.same HPN2.out (((RowKit.Below.refl wo2.heap.size wo2).alloc (Nat.le_refl _) _).block _ (PR.lt HPN2.out)))
                        have HL1S := Lib.hid (L1P.start (s1 := s1) HPN2.out)
                        have HFD := Lib.hid (fun j (e : F j) => HTL.out.dw.dt.fl j e)
                        have cvs := run_conv (w := wo2) HBS2.out sl sk HSL.out.symm
                        have HQN := Lib.hid (show ¬ (F bn ∨ bn = b2 ∨ bn = lb2) ∧ ¬ (F bm ∨ bm = b2 ∨ bm = lb2) from by
                          have h1 := HLO0.out
                          have h2 := HB2G.out
                          refine ⟨fun e => ?_, fun e => ?_⟩
                          · rcases e with e | e | e
                            · exact HTL.out.mm.xn e
                            · omega
                            · omega
                          · rcases e with e | e | e
                            · exact HTL.out.mm.xm e
                            · omega
                            · omega)
                        clear hB2 hb2g hlb2g hst2 hrun2 hbt hrec2 hF1 hlo hjl HOP2
                        go_wp2_with ((with_reducible refine wpList_storeW rfl isP _ _ rfl bn (psc s1 (.slice (some ⟨wo2.heap.size, 0, none⟩) 0 0)) _ _ rfl rfl HNA.out (psc_cs _ _ _ _) (by simp) ?_))
                        clear cvs
                        go_loopw [140] (fun c140 wr => ∃ (i : Nat) (a : Option Addr) (c : Nat), c140 = .int .i64 (i : Int) ∧ i ≤ nl ∧ Hid (L1P wo2 wr bn s1 (L1.take i) (.slice a i c))) (fun c140 _ => nl - (match c140 with | .int _ q => q | _ => 0).toNat)
                        case atStart => exact ⟨0, some ⟨wo2.heap.size, 0, none⟩, 0, rfl, Nat.zero_le _, HL1S.out⟩
                        case round =>
                          clear HL1S
                          obtain ⟨i, a, c, rfl, hi, HLP⟩ := hrel
                          have hk40 := HK40.out
                          have hnk := HNK.out
                          by_cases hlt1 : i < nl
                          · obtain ⟨xl, hxl, htk1, _⟩ := get_lt (l := L1) (k := i) (by rw [← HNL.out]; exact hlt1)
                            have HTK := Lib.hid htk1
                            have HTKL := Lib.hid (show (L1.take i).length = i by rw [List.length_take, ← HNL.out]; omega)
                            obtain ⟨bo, off, a', c', hla, _, hget⟩ := HREC1.out.get hxl
                            obtain ⟨hca, hbx⟩ := hget wr (Nat.le_trans HB12.out.size HLP.out.on.size) fun j j0 j1 => (HLP.out.on.block j (Nat.lt_of_lt_of_le j1 HB12.out.size) (by have := HLO0.out; show ¬ j = bn; omega)).trans (HB12.out.block j j1)
                            subst hla
                            have cvx := run_conv (w := wr) hbx xl.length c' rfl
                            have p1 := (PR.cells HLP.out.pr).2
                            obtain ⟨xln, hxln⟩ : ∃ xln, xln = xl.length := ⟨_, rfl⟩
                            rw [← hxln] at hca cvx
                            have HOW := Lib.hid (show wr.ownsRow wo2.heap.size 9 1 (.slice a i c) i ((L1.take i).map sv) by have := HLP.out.ow; unfold Own at this; rwa [HTKL.out] at this)
                            have HIB := Lib.hid (show i + 1 ≤ 1000000 by omega)
                            clear hxl htk1 hget hbx hxln
                            go_wp2_with (at_builtin; refine wpList_appO elT rfl _ _ rfl wo2.heap.size (.slice a i c) i ((L1.take i).map sv) (some ⟨wr.heap.size, 0, none⟩) 1 1 [sv xl] rfl rfl (ow_same HOW.out fun i hi => heap_alloc_old wr _ (HOW.out.lt i hi).2) rfl (lie_new wr [sv xl] 9) (fun e => by cases e) (fun u hu => by rw [List.mem_singleton.1 hu]; rfl) HIB.out (by decide) (by have := HLP.out.on.size; simp; omega) ?_; intro v7 w7 h7; obtain ⟨a7, c7, rfl⟩ := appd_form h7; obtain ⟨hm1, hm2⟩ := HLP.out.mind (PR.lt HPN2.out) (by rw [HTKL.out]; exact h7); have HLP2 := Lib.hid hm2; have k1 := (PR.cells hm1).2; have f1 := frozen_of_row w7 bn 1 _ _ hm1; clear h7 hm1 hm2)
                            go_roundw
                            case rel => exact ⟨i + 1, a7, c7, by go_num, by omega, by rw [HTK.out]; exact HLP2.out⟩
                            case measure => simp; omega
                          · obtain rfl : i = nl := by omega
                            have HLF := Lib.hid (show L1P wo2 wr bn s1 L1 (.slice a i c) by have := HLP.out; rwa [List.take_of_length_le (by rw [← HNL.out]; exact Nat.le_refl _)] at this)
                            have HJA := Lib.hid (HJ2.out.nxt HLF.out.on HQN.out.1 HTL.out.mm.ln)
                            have HPMA := Lib.hid (show PR wr bm st2 (.slice a4 r4 c4) from PR.same HPM2.out (HLF.out.on.block _ (PR.lt HPM2.out) HTL.out.mm.ne.symm))
                            obtain ⟨w12, hw12⟩ : ∃ w12, w12 = wr.setRow bm (psc s1 (.slice a i c)).toArray := ⟨_, rfl⟩
                            have HW12 := Lib.hid hw12
                            have hon12 : Only (fun j => j = bm) wr w12 := by rw [hw12]; exact only_setRow _ _ _
                            have HJB := Lib.hid (HJA.out.nxt hon12 HQN.out.2 HTL.out.mm.lm)
                            have HPNB := Lib.hid (show PR w12 bn s1 (.slice a i c) from PR.same HLF.out.pr (hon12.block _ (PR.lt HLF.out.pr) HTL.out.mm.ne))
                            have HPMB := Lib.hid (show PR w12 bm s1 (.slice a i c) by rw [hw12]; exact PR.row HPMA.out)
                            have HON := Lib.hid (show Only (fun j => j = bn ∨ j = bm) wo2 w12 from (HLF.out.on.mono fun j e => Or.inl e).trans hon12 fun j e => Or.inl (Or.inr e))
                            have HAG := Lib.hid (fun j (j0 : w6.heap.size ≤ j) (j1 : j < wo2.heap.size) => HON.out.block j j1 (by have := HLO0.out; show ¬ (j = bn ∨ j = bm); omega))
                            have HFT := Lib.hid (show Calls Try.prog 17 #[.agg #[.string (strB s1), .slice a i c], .slice ta sl tk, .slice ta2 i tc2] w12 (fun e w' => e = .returned (.bool true) ∧ RowKit.Below w12.heap.size w12 w') by
                              obtain ⟨a8, c8, e8, hr8⟩ := own_rat (HLF.out.ow.same fun j hj => hon12.block j (World.ownsRow.lt HLF.out.ow j hj).2 (by have := own_up HLF.out.ow j hj; have := PR.lt HPM2.out; show ¬ j = bm; omega))
                              rw [← HNL.out] at e8
                              cases e8
                              have := fits_any s1 s1 L1 L1 a ta ta2 c sl tk i tc2 w12 hr8 (HBT2.out.rows HPN2.out HPM2.out HON.out) HSL.out.symm (HREC2.out.agr HON.out.size fun j j0 j1 => HAG.out j (Nat.le_trans HWF.out j0) j1) HNL.out.symm (by omega)
                              rw [← HNL.out] at this
                              simpa using this)
                            clear hw12 hon12 hlt1 hi
                            go_wp2_with (first | (with_reducible refine wpList_loadW rfl isP _ rfl bn (psc s1 (.slice a i c)) _ rfl HLF.out.pr (psc_cs _ _ _ _) ?_) | ((with_reducible refine wpList_storeW rfl isP _ _ rfl bm (psc s1 (.slice a i c)) _ _ rfl rfl HPMA.out (psc_cs _ _ _ _) (by simp) ?_); rw [← HW12.out]) | (refine wpList_loadG isP _ rfl (by rfl) bn 0 (psc s1 (.slice a i c)) rfl (range_row HPNB.out) (psc_cs _ _ _ _) ?_))
                            refine HFT.out.mono ?_
                            rintro _ w13 ⟨rfl, hb13⟩
                            have HJC := Lib.hid (HJB.out.below hb13)
                            have HPNC := Lib.hid (show PR w13 bn s1 (.slice a i c) from PR.same HPNB.out (hb13.block _ (PR.lt HPNB.out)))
                            have HPMC := Lib.hid (show PR w13 bm s1 (.slice a i c) from PR.same HPMB.out (hb13.block _ (PR.lt HPMB.out)))
                            have HSC := Lib.hid (show wo1.heap.size ≤ w13.heap.size ∧ Agr wo1 w13 w6.heap.size wo1.heap.size from by
                              have h1 := HB12.out.size
                              have h2 := HON.out.size
                              have h3 := hb13.size
                              refine ⟨by omega, fun j j0 j1 => ?_⟩
                              rw [hb13.block j (by omega), HAG.out j j0 (by omega)]
                              exact HB12.out.block j j1)
                            have HRC := Lib.hid (jl_recompact HJC.out HTL.out.cd (by have := HK40.out; omega) (by have := HF1.out; have := HK40.out; omega) HLO.out ((HBS2.out.rows HPN2.out HPM2.out HON.out).below hb13) HSL.out.symm HN1.out (cap := sk) (by have := HSLB.out; omega))
                            clear hb13 HFT
                            go_wp2_with fail
                            refine HRC.out.mono ?_
                            rintro _ w14 ⟨E, F14, lb14, rfl, hbl14, hE | ⟨rfl, hf14, d14, m, hm, lv14, hn14, hj14⟩⟩
                            · have d0 : (E != 0) = true := by simpa using hE
                              have HBL14 := Lib.hid hbl14
                              clear hE hbl14
                              go_wp2
                              try rw [Exit.noGoto_ret]
                              go_ret
                              exact ⟨rfl, HBL14.out⟩
                            · obtain ⟨hp14, hl2⟩ := L2P.start hj14 lv14 (hn14.trans HTL.out.nn) hf14 HSC.out.2 HSC.out.1 HFD.out HB2G.out.1 HB2G.out.2 HPNC.out HPMC.out HTL.out.mm.xn HTL.out.mm.xm HLO0.out.1 HLO0.out.2.1 HLO0.out.2.2 HTL.out.mm.ln HTL.out.mm.ne.symm
                              have HL2 := Lib.hid hl2
                              have HMB := Lib.hid hm
                              have k1 := (PR.cells hp14).2
                              have f1 := frozen_of_row w14 bn 1 _ _ hp14
                              clear hbl14 hf14 hm lv14 hn14 hj14 hp14 hl2 HRC
                              go_wp2
                              go_loopw [170] (fun c170 wr => ∃ (j : Nat) (a : Option Addr) (c : Nat) (F : Nat → Prop) (lb : Nat) (d : Dk) (x : Int), c170 = .int .i64 (j : Int) ∧ j ≤ i ∧ Hid (L2P wb wo1 wr g bn bm N w6.heap.size b2 F1 m s1 F lb d x (L1.take j) (L1.take j) (.slice a j c))) (fun c170 _ => i - (match c170 with | .int _ q => q | _ => 0).toNat)
                              case atStart => exact ⟨0, none, 0, F14, lb14, d14, 2 * 4, rfl, Nat.zero_le _, HL2.out⟩
                              case round =>
                                clear HL2 k1 f1
                                obtain ⟨j, a, c, F, lb, d, y, rfl, hj, HLQ⟩ := hrel
                                by_cases hlt2 : j < i
                                · obtain ⟨xl, hxl, htk1, _⟩ := get_lt (l := L1) (k := j) (by rw [← HNL.out]; exact hlt2)
                                  have HTK := Lib.hid htk1
                                  have HTKL := Lib.hid (show (L1.take j).length = j by rw [List.length_take, ← HNL.out]; omega)
                                  obtain ⟨bo, off, a', c', hla, hnil, hget⟩ := HREC1.out.get hxl
                                  obtain ⟨hca, hbx⟩ := hget wr HLQ.out.sz HLQ.out.ag
                                  subst hla
                                  obtain ⟨xln, hxln⟩ : ∃ xln, xln = xl.length := ⟨_, rfl⟩
                                  rw [← hxln] at hca
                                  have HXLN := Lib.hid hxln
                                  have HGT := Lib.hid hget
                                  have HAP := Lib.hid (jl_append (len := xln) (cap := c') HLQ.out.jl HLQ.out.lv (by rw [HTKL.out]; have := HF1.out; omega) hbx hxln.symm hnil)
                                  clear hxl htk1 hget hbx hxln hnil
                                  go_wp2_with fail
                                  refine HAP.out.mono ?_
                                  rintro _ w9 ⟨E, F9, lb9, d9, rfl, hfr, ⟨hE, _, _, hj9⟩ | ⟨rfl, _, _, lv9, _, hl9, hj9⟩ | ⟨rfl, _, _, _, _, _, hj9⟩⟩
                                  · have d0 : (E != 0) = true := by simpa using hE
                                    have HJ9 := Lib.hid hj9
                                    clear hE hfr hj9
                                    go_wp2
                                    try rw [Exit.noGoto_ret]
                                    go_ret
                                    exact ⟨rfl, HJ9.out.bl⟩
                                  · have HL9 := Lib.hid (HLQ.out.app hfr lv9 hl9 hj9)
                                    obtain ⟨_, hbx9⟩ := HGT.out w9 HL9.out.sz HL9.out.ag
                                    have cvx := run_conv (w := w9) hbx9 xln c' HXLN.out.symm
                                    have p1 := (PR.cells HL9.out.pr).2
                                    have HOW := Lib.hid (show w9.ownsRow wb.heap.size 9 1 (.slice a j c) j ((L1.take j).map sv) by have := HL9.out.oj.ow; unfold Own at this; rwa [HTKL.out] at this)
                                    have HIB := Lib.hid (show j + 1 ≤ 1000000 by omega)
                                    clear hfr lv9 hl9 hj9 hbx9 HAP
                                    go_wp2_with (at_builtin; refine wpList_appO elT rfl _ _ rfl wb.heap.size (.slice a j c) j ((L1.take j).map sv) (some ⟨w9.heap.size, 0, none⟩) 1 1 [sv xl] rfl rfl (ow_same HOW.out fun i hi => heap_alloc_old w9 _ (HOW.out.lt i hi).2) rfl (lie_new w9 [sv xl] 9) (fun e => by cases e) (fun u hu => by rw [List.mem_singleton.1 hu]; rfl) HIB.out (by decide) (by simp; exact Nat.le_of_lt (Nat.lt_succ_of_le HL9.out.jl.bl.size)) ?_; intro v7 w7 h7; obtain ⟨a7, c7, rfl⟩ := appd_form h7; obtain ⟨hm1, hm2⟩ := HL9.out.mind (by rw [HTKL.out]; exact h7); have HLP2 := Lib.hid hm2; have k1 := (PR.cells hm1).2; have f1 := frozen_of_row w7 bn 1 _ _ hm1; clear h7 hm1 hm2)
                                    go_roundw
                                    case rel => exact ⟨j + 1, a7, c7, F9, lb9, d9, _, by go_num, by omega, by rw [HTK.out]; exact HLP2.out⟩
                                    case measure => simp; omega
                                  · have HJ9 := Lib.hid hj9
                                    clear hfr hj9
                                    go_wp2
                                    try rw [Exit.noGoto_ret]
                                    go_ret
                                    exact ⟨rfl, HJ9.out.bl⟩
                                · obtain rfl : j = i := by omega
                                  have hLF := HLQ.out
                                  rw [List.take_of_length_le (by rw [← HNL.out]; exact Nat.le_refl _)] at hLF
                                  have HLF2 := Lib.hid hLF
                                  have HREL := Lib.hid (hLF.fin (k := k) HK40.out (by rw [← HNL.out]; exact HNK.out) HF1.out HMB.out HTL.out.mm.lm)
                                  obtain ⟨u9, y9, hpm9⟩ := hLF.pm
                                  have HPM9 := Lib.hid hpm9
                                  clear hLF hpm9 hlt2 hj
                                  go_wp2_with (first | (with_reducible refine wpList_loadW rfl isP _ rfl bn (psc s1 (.slice a j c)) _ rfl HLF2.out.pr (psc_cs _ _ _ _) ?_) | ((with_reducible refine wpList_storeW rfl isP _ _ rfl bm (psc s1 (.slice a j c)) _ _ rfl rfl HPM9.out (psc_cs _ _ _ _) (by simp) ?_)))
                                  go_roundw
                                  case rel => exact ⟨k + 1, b2, rfl, by go_num, by omega, HREL.out⟩
                                  case measure => simp; omega
          · have e0 : (kd == 0) = false := by simpa using hk0
            have e1 : (kd == 1) = false := by simpa using hk1
            have e2 : (kd == 2) = false := by simpa using fun e => hkk (Or.inl e)
            have e3 : (kd == 3) = false := by simpa using hk3
            have e4 : (kd == 4) = false := by simpa using fun e => hkk (Or.inr e)
            clear hk0 hk1 hk3 hkk
            go_wp2
            go_roundw
            case rel => exact ⟨k + 1, b, rfl, by go_num, by omega, HKK.out.more HB5.out⟩
            case measure => simp; omega
        case rest =>
          obtain ⟨E, st', a', n', c', rfl, rfl, HA⟩ := hcut
          clear HW4 HAL HW5 HAL5 HPN4 HPRE
          as_aux_lemma =>
            have HP := Lib.hid HA.out.px
            obtain ⟨u1, v1, hp1⟩ := HA.out.pn
            obtain ⟨u2, v2, hp2⟩ := HA.out.pm
            have HP1 := Lib.hid hp1
            have HP2 := Lib.hid hp2
            clear hp1 hp2
            rcases HA.out.ks with ⟨hE, hE2, hks⟩ | ⟨hE, hks⟩ | ⟨hE, hks⟩
            · have d0 : (E == 0) = false := by simpa using hE
              have d1 : (E == 82) = false := by simpa using hE2
              have HKS := Lib.hid hks
              clear hE hE2 hks
              go_wp2
              go_roundw
              case rel => exact ⟨k + 1, b, rfl, by go_num, by omega, HKS⟩
              case measure => simp; omega
            · subst hE
              have HKS := Lib.hid hks
              have HP3 := Lib.hid (show PR (wc.setRow bn (psc st' (.slice a' n' c')).toArray) w4.heap.size st' (.slice a' n' c') from PR.same HP.out (setRow_other _ _ _ _ HA.out.nx))
              have HP4 := Lib.hid (show PR (wc.setRow bn (psc st' (.slice a' n' c')).toArray) bm u2 v2 from PR.same HP2.out (setRow_other _ _ _ _ HA.out.nm))
              clear hks
              go_wp2_with (first | (with_reducible refine wpList_loadW rfl isP _ rfl w4.heap.size (psc st' (.slice a' n' c')) _ rfl HP.out (psc_cs _ _ _ _) ?_) | ((with_reducible refine wpList_storeW rfl isP _ _ rfl bn (psc st' (.slice a' n' c')) _ _ rfl rfl HP1.out (psc_cs _ _ _ _) (by simp) ?_)) | (with_reducible refine wpList_loadW rfl isP _ rfl w4.heap.size (psc st' (.slice a' n' c')) _ rfl HP3.out (psc_cs _ _ _ _) ?_) | ((with_reducible refine wpList_storeW rfl isP _ _ rfl bm (psc st' (.slice a' n' c')) _ _ rfl rfl HP4.out (psc_cs _ _ _ _) (by simp) ?_)))
              go_roundw
              case rel => exact ⟨k + 1, b, rfl, by go_num, by omega, HKS⟩
              case measure => simp; omega
            · subst hE
              have HKS := Lib.hid hks
              clear hks
              go_wp2_with (first | (with_reducible refine wpList_loadW rfl isP _ rfl w4.heap.size (psc st' (.slice a' n' c')) _ rfl HP.out (psc_cs _ _ _ _) ?_) | ((with_reducible refine wpList_storeW rfl isP _ _ rfl bm (psc st' (.slice a' n' c')) _ _ rfl rfl HP2.out (psc_cs _ _ _ _) (by simp) ?_)))
              go_roundw
              case rel => exact ⟨k + 1, b, rfl, by go_num, by omega, HKS⟩
              case measure => simp; omega
      · obtain rfl : k = M := by omega
        have HBLW := Lib.hid HKK.out.bl
        clear hlt hk
        go_wp2
        go_ret
        exact ⟨rfl, HBLW.out⟩
end Go.Proofs.Ytdfbpaajkpnaeaa
