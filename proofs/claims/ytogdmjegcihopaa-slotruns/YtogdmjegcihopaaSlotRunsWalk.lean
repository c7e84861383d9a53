
/- The walk of falseworklaw11.SlotRuns. -/
import Derived.Test.YtogdmjegcihopaaSlQ
namespace Go.Proofs.Ytogdmjegcihopaa
set_option maxRecDepth 100000
open Go.RowKit Go.Lib

set_option maxRecDepth 100000 in
set_option maxHeartbeats 25600000 in
theorem slotRuns_walk (w : World) (a1 : Option Addr) (n1 c1 : Nat) (l : List Ac) (hl : CameA w a1 n1 l) (p0 p1 p2 : Int) (_ : I p0) (i1 : I p1) (i2 : I p2) :
    Calls Try.prog 4 #[.agg #[.int .i64 p0, .int .i64 p1, .int .i64 p2], .slice a1 n1 c1] w fun e w' => e = .returned (.bool true) ∧ RowKit.Below w.heap.size w w' := by
  have I1 := Lib.hid i1
  have I2 := Lib.hid i2
  obtain ⟨wB, hwB⟩ : ∃ wB, wB = w.alloc (.cells #[.int .i64 p0, .int .i64 p1, .int .i64 p2] 33) := ⟨_, rfl⟩
  obtain ⟨b2, hb2⟩ : ∃ b2, b2 = w.heap.size := ⟨_, rfl⟩
  have HWB := Lib.hid hwB.symm
  have HBB := Lib.hid (show RowKit.Below w.heap.size w wB by rw [hwB]; exact (RowKit.Below.refl _ _).alloc (Nat.le_refl _) _)
  have HP2 := Lib.hid (show wB.heap[b2]? = some (.cells #[.int .i64 p0, .int .i64 p1, .int .i64 p2] 33) by rw [hwB, hb2]; exact blkn rfl)
  have HB2L := Lib.hid (show b2 < wB.heap.size from lt_of_heap HP2.out)
  have PL0 := Lib.hid (fun (W : World) (hb : RowKit.Below wB.heap.size wB W) => show W.cell? ⟨b2, 0, none⟩ = some (.int .i64 p0) by rw [cell_of_row _ _ _ _ _ _ ((hb.block _ HB2L.out).trans HP2.out)]; rfl)
  have PLC := Lib.hid (fun (W : World) (hb : RowKit.Below wB.heap.size wB W) => show W.cell? ⟨b2, 1, none⟩ = some (.int .i64 p1) ∧ W.cell? ⟨b2, 2, none⟩ = some (.int .i64 p2) by constructor <;> (rw [cell_of_row _ _ _ _ _ _ ((hb.block _ HB2L.out).trans HP2.out)]; rfl))
  have HCA := Lib.hid (hl.below HBB.out)
  have HBE := Lib.hid hb2
  have A := Lib.hid (slotAlive_any wB)
  clear hl i1 i2 hwB
  go_enter Try.func4, Try.ntmps4
  go_wp2_with ((with_reducible refine wpList_boxA rfl _ _ rfl _ rfl ?_); rw [HWB.out])
  refine A.out.mono ?_
  rintro _ w0 ⟨rfl, hb0⟩
  rw [← hb2]
  clear hb2
  have HB0 := Lib.hid hb0
  have HGR := Lib.hid (great_any l a1 n1 c1 w0 (HCA.out.below hb0))
  have pl0 := PL0.out w0 hb0
  clear hb0 A
  by_cases h60 : 60 < p0
  · have d0 : decide (60 < p0) = true := by simpa using h60
    clear h60
    go_wp2
    go_ret
    exact ⟨rfl, HBB.out.trans (HB0.out.mono HBB.out.size)⟩
  have d0 : decide (60 < p0) = false := by simpa using h60
  obtain ⟨N, hN⟩ : ∃ N, N = blankN p0 := ⟨_, rfl⟩
  have HN60 := Lib.hid (show N ≤ 60 by rw [hN]; unfold blankN; omega)
  have HNE := Lib.hid hN
  clear h60 hN
  go_wp2_with fail
  refine HGR.out.mono ?_
  rintro _ w1 ⟨b, rfl, hsm, hb1⟩
  have HB1 := Lib.hid (HB0.out.trans (hb1.mono HB0.out.size))
  have HSMA := Lib.hid hsm
  clear hsm hb1 HGR pl0
  cases b with
  | true =>
    go_wp2
    go_ret
    exact ⟨rfl, HBB.out.trans (HB1.out.mono HBB.out.size)⟩
  | false =>
    have HS := Lib.hid (HSMA.out rfl)
    have hM40 : n1 ≤ 40 := by rw [← HCA.out.ln]; exact (HSMA.out rfl).1
    have B := Lib.hid (blank_any p0 w1)
    have pl0 := PL0.out w1 HB1.out
    clear HSMA
    go_wp2_with fail
    refine B.out.mono ?_
    rintro _ w2 ⟨g, F, rfl, hd, hb, hf⟩
    have HD2 := Lib.hid hd
    have HB2 := Lib.hid (HB1.out.trans (hb.mono HB1.out.size))
    have HF2 := Lib.hid (show ∀ i, F i → wB.heap.size ≤ i from fun i hi => Nat.le_trans HB1.out.size (hf i hi))
    have HRB := Lib.hid (rblank_any p0 F w2 hd.fl)
    clear hd hb hf B d0 pl0
    have pl0 := PL0.out w2 HB2.out
    go_wp2_with fail
    refine HRB.out.mono ?_
    rintro _ w3 ⟨x0, y0, x1, y1, rfl, hrm, hb3⟩
    clear pl0
    obtain ⟨R, hR⟩ : ∃ R, R = rcs (Dk.blank p0) x0 y0 x1 y1 := ⟨_, rfl⟩
    obtain ⟨b8, hb8⟩ : ∃ b8, b8 = w3.heap.size := ⟨_, rfl⟩
    rw [← hR]
    have HRC := Lib.hid (show Cs 4 R by rw [hR]; exact rcs_cs _ _ _ _ _)
    have HA8 := Lib.hid (heap_alloc_new w3 (.cells [Value.slice none 0 0, Value.slice none 0 0, Value.int .i64 0, Value.bool false].toArray 39))
    have HSN := Lib.hid (show (w3.alloc (.cells [Value.slice none 0 0, Value.slice none 0 0, Value.int .i64 0, Value.bool false].toArray 39)).setRow w3.heap.size R.toArray = w3.alloc (.cells R.toArray 39) from setRow_new rfl)
    obtain ⟨w4, hw4⟩ : ∃ w4, w4 = w3.alloc (.cells R.toArray 39) := ⟨_, rfl⟩
    have hb4 : RowKit.Below w3.heap.size w3 w4 := by rw [hw4]; exact (RowKit.Below.refl _ _).alloc (Nat.le_refl _) _
    have HT4 := Lib.hid (show TD wB w4 F g b8 (Dk.blank p0) (Dk.blank p0).norm R from
      ⟨HD2.out.below (hb3.trans (hb4.mono hb3.size)), by rw [hw4, hb8]; exact heap_alloc_new w3 _, ⟨x0, y0, x1, y1, hR, by
        have h := hrm.grow hb4
        exact h.sub fun i hi => hi.imp id fun e => by omega⟩, fun e => by have := HD2.out.fl _ e; have := hb3.size; omega, HF2.out, by rw [hb8]; exact Nat.le_trans HB2.out.size hb3.size, (HB2.out.trans (hb3.mono HB2.out.size)).trans (hb4.mono (Nat.le_trans HB2.out.size hb3.size))⟩)
    rw [← hw4] at HSN
    clear hR hrm hb3 hb4 hw4 HRB
    go_wp2_with (first | (with_reducible refine wpList_allocA rfl isD rfl ?_) | ((with_reducible refine wpList_storeW rfl isD _ _ rfl w3.heap.size R [Value.slice none 0 0, Value.slice none 0 0, Value.int .i64 0, Value.bool false].toArray _ rfl rfl HA8.out HRC.out rfl ?_); rw [HSN.out]))
    rw [← hb8]
    clear hb8 HA8 HSN HRC
    go_loopw [40] (fun c40 wr => ∃ (k : Nat) (F : Nat → Prop) (d : Dk) (R : List Value), c40 = .int .i64 (k : Int) ∧ k ≤ n1 ∧ TD wB wr F g b8 d d.norm R ∧ d.queue.length ≤ 20 * k ∧ d.base.length = N) (fun c40 _ => n1 - (match c40 with | .int _ q => q | _ => 0).toNat)
    case atStart => exact ⟨0, F, _, R, rfl, Nat.zero_le _, HT4.out, Nat.zero_le _, by rw [HNE.out]; exact blank_len p0⟩
    case round =>
      clear HT4 HD2 HF2 HB2 HB1 HB0
      obtain ⟨k, F, d, R, rfl, hk, htd, hq, hbn⟩ := hrel
      have HD := Lib.hid htd
      have HQ := Lib.hid hq
      have HBN := Lib.hid hbn
      clear htd hq hbn
      by_cases hlt : k < n1
      · obtain ⟨x, hx⟩ : ∃ x, l[k]? = some x := ⟨_, List.getElem?_eq_getElem (by rw [HCA.out.ln]; exact hlt)⟩
        have hxm := List.mem_of_getElem? hx
        have HGD := Lib.hid (HCA.out.gd x hxm)
        have HSX := Lib.hid (HS.out.2 x hxm)
        obtain ⟨bb, ob, ha1, _, hrb⟩ := (HCA.out.li.below HD.out.bl).get (f := acs) (n := 5) (fun _ _ => rfl) (by decide) hx
        obtain ⟨c, hc⟩ : ∃ c, c = acs x := ⟨_, rfl⟩
        rw [← hc] at hrb
        have HRB := Lib.hid hrb
        have HCC := Lib.hid (show Cs 5 c by rw [hc]; exact acs_cs x)
        obtain ⟨w4, hw4⟩ : ∃ w4, w4 = wr.alloc (.cells c.toArray 43) := ⟨_, rfl⟩
        have HW4 := Lib.hid (show (wr.alloc (.cells zA.toArray 43)).setRow wr.heap.size c.toArray = w4 by rw [hw4]; exact setRow_new rfl)
        have HAL := Lib.hid (heap_alloc_new wr (.cells zA.toArray 43))
        have hb4 : RowKit.Below wr.heap.size wr w4 := by rw [hw4]; exact (RowKit.Below.refl _ _).alloc (Nat.le_refl _) _
        have HD4 := Lib.hid (HD.out.below hb4)
        have HAC := Lib.hid (AcAt.new hc (show w4.heap[wr.heap.size]? = some (.cells c.toArray 43) by rw [hw4]; exact blkn rfl))
        have q0 := HAC.out.c0
        have q1 := HAC.out.c1
        have q4 := HAC.out.c4
        have HBB' := HBB
        have HBB := Lib.hid (HGD.out.bp.row.below HD4.out.bl)
        have HBI := Lib.hid (show I (x.bn : Int) by have := HSX.out.1; unfold I; omega)
        obtain ⟨kd, hkd⟩ : ∃ y, y = x.kind := ⟨_, rfl⟩
        obtain ⟨st, hst⟩ : ∃ y, y = x.st := ⟨_, rfl⟩
        rw [← hkd] at q0
        have HSTE := Lib.hid hst
        have HACS := Lib.hid (show w4.cell? ⟨wr.heap.size, 2, none⟩ = some (.int .u64 (st : Int)) by rw [hst]; exact HAC.out.c2)
        have HSL := Lib.hid (show st < 18446744073709551616 by rw [hst]; exact HGD.out.sl)
        subst ha1
        clear hx hxm hrb hc hw4 hb4 hkd hst
        by_cases hk0 : kd = 0
        · clear q1 q4
          subst hk0
          obtain ⟨p, hp⟩ : ∃ p, p = d.slotW p1 p2 x.bs := ⟨_, rfl⟩
          obtain ⟨d', nw, f⟩ := p
          have HP0 := Lib.hid hp
          have HQ' := Lib.hid (show d'.queue.length ≤ 20 * (k + 1) by have h1 := (slotW_lens d p1 p2 x.bs).1; rw [← hp] at h1; have h2 := spanN_1004 HSX.out.1; rw [← HGD.out.bp.ln] at h2; have := HQ.out; simp only at h1; omega)
          have HBN' := Lib.hid (show d'.base.length = N by have h1 := (slotW_lens d p1 p2 x.bs).2; rw [← hp] at h1; exact h1.trans HBN.out)
          have HQB := Lib.hid (show d.queue.length < 9700 by have := HQ.out; omega)
          have HWR := Lib.hid (fun (W : World) (hb : RowKit.Below w4.heap.size w4 W) (a6 : Option Addr) (c6 : Nat) (h6 : BAt W a6 x.bs) (hc : a6 = none → x.bs = []) => swrite_any g F d p1 p2 x.bs a6 x.bn c6 W (HD4.out.dt.below hb) I1.out I2.out h6 HGD.out.bp.ln hc (by have := HSX.out.1; omega) HQB.out)
          unfold SwRes at HWR
          rw [← hp] at HWR
          simp only at HWR
          obtain ⟨w5, hw5⟩ : ∃ w5, w5 = w4.drew.alloc (.cells #[] 5) := ⟨_, rfl⟩
          have HB5 := Lib.hid (show RowKit.Below w4.heap.size w4 w5 by rw [hw5]; exact ((RowKit.Below.refl _ _).drew).alloc (Nat.le_refl _) _)
          have HOL := Lib.hid (show w5.ownsRow w4.heap.size 5 1 (.slice (some ⟨w4.heap.size, 0, none⟩) 0 0) 0 [] by rw [hw5]; exact own_lit w4.drew w4.heap.size 5 1 (Nat.le_refl _))
          have HLT := Lib.hid (show ∀ i ∈ [wr.heap.size, b2], i < w4.heap.size from fun i hi => by rcases List.mem_cons.1 hi with e | e; exact e ▸ HAC.out.lt; exact Nat.lt_of_lt_of_le (List.mem_singleton.1 e ▸ HB2L.out) HD4.out.bl.size)
          have HNF := Lib.hid (show ∀ i ∈ [wr.heap.size, b2], ¬ F i from fun i hi e => by rcases List.mem_cons.1 hi with e2 | e2; exact absurd (HD.out.dt.fl _ (e2 ▸ e)) (Nat.lt_irrefl _); have h1 := HD.out.fr _ e; have h2 := HB2L.out; rw [List.mem_singleton.1 e2] at h1; omega)
          have HW5 := Lib.hid hw5
          have PM1 := Lib.hid (PLC.out _ HD4.out.bl).1
          have PM2 := Lib.hid (PLC.out _ HD4.out.bl).2
          clear hp hw5
          go_wp2_with (first | ((with_reducible refine wpList_storeW rfl isAc _ _ rfl wr.heap.size c zA.toArray _ rfl rfl HAL.out HCC.out rfl ?_); rw [HW4.out]) | (with_reducible refine wpList_allocA rfl isAc rfl ?_) | (with_reducible refine wpList_idx elAc rfl _ _ rfl k rfl rfl rfl hlt ?_) | (with_reducible refine wpList_loadM rfl isAc _ rfl bb (ob + k * 5) c rfl HRB.out HCC.out ?_))
          refine wp_region_held_drew (S := fun W => Agree [wr.heap.size, b2] w4 W) (by kernel_rfl) ?_ (fun hHeld => ?_)
          · exact fun _ _ => rfl
          refine held_take 0 (v := ?_) rfl (by kernel_rfl) (by kernel_rfl) (by kernel_rfl) (fun _ _ _ h => h) hHeld (by rfl) ?_ ?_
          rotate_left
          · (intro W hW; go_simp; try with_reducible rfl)
          try simp only [Act.put, List.setIfInBounds_toArray, List.set_cons_zero, List.set_cons_succ]
          refine held_take 1 (v := ?_) rfl (by kernel_rfl) (by kernel_rfl) (by kernel_rfl) (fun _ _ _ h => h) hHeld (by rfl) ?_ ?_
          rotate_left
          · (intro W hW; go_simp; try with_reducible rfl)
          try simp only [Act.put, List.setIfInBounds_toArray, List.set_cons_zero, List.set_cons_succ]
          refine held_take 2 (v := ?_) rfl (by kernel_rfl) (by kernel_rfl) (by kernel_rfl) (fun _ _ _ h => h) hHeld (by rfl) ?_ ?_
          rotate_left
          · (intro W hW; have e := hW.cell (b := b2) (by simp) PM1.out; go_simp; try with_reducible rfl)
          try simp only [Act.put, List.setIfInBounds_toArray, List.set_cons_zero, List.set_cons_succ]
          refine held_take 3 (v := ?_) rfl (by kernel_rfl) (by kernel_rfl) (by kernel_rfl) (fun _ _ _ h => h) hHeld (by rfl) ?_ ?_
          rotate_left
          · (intro W hW; go_simp; try with_reducible rfl)
          try simp only [Act.put, List.setIfInBounds_toArray, List.set_cons_zero, List.set_cons_succ]
          refine held_take 4 (v := ?_) rfl (by kernel_rfl) (by kernel_rfl) (by kernel_rfl) (fun _ _ _ h => h) hHeld (by rfl) ?_ ?_
          rotate_left
          · (intro W hW; have e := hW.cell (b := b2) (by simp) PM2.out; go_simp; try with_reducible rfl)
          try simp only [Act.put, List.setIfInBounds_toArray, List.set_cons_zero, List.set_cons_succ]
          refine held_take 6 (v := ?_) rfl (by kernel_rfl) (by kernel_rfl) (by kernel_rfl) (fun _ _ _ h => h) hHeld (by rfl) ?_ ?_
          rotate_left
          · (intro W hW; go_simp; try with_reducible rfl)
          try simp only [Act.put, List.setIfInBounds_toArray, List.set_cons_zero, List.set_cons_succ]
          refine held_take 7 (v := ?_) rfl (by kernel_rfl) (by kernel_rfl) (by kernel_rfl) (fun _ _ _ h => h) hHeld (by rfl) ?_ ?_
          rotate_left
          · (intro W hW; have e := hW.cell (b := wr.heap.size) (by simp) HAC.out.c3; go_simp; try with_reducible rfl)
          try simp only [Act.put, List.setIfInBounds_toArray, List.set_cons_zero, List.set_cons_succ]
          refine held_next 5 rfl (by kernel_rfl) (by rfl) (fun K hK => ?_)
          refine wp_lit elB rfl ?_
          rw [show w4.drew.alloc (.cells #[] 5) = w5 from HW5.out.symm]
          refine hK.out _ _ (fun i hi => HB5.out.block i (HLT.out i hi)) (fun hHeld => ?_)
          clear hK K
          try simp only [Act.put, List.setIfInBounds_toArray, List.set_cons_zero, List.set_cons_succ]
          refine held_next 8 rfl (by kernel_rfl) (by rfl) (fun K hK => ?_)
          refine wp_appO elB _ _ rfl w4.heap.size (.slice (some ⟨w4.heap.size, 0, none⟩) 0 0) 0 [] x.ba x.bn x.bc (bcells x.bs) rfl rfl HOL.out (by rw [bcells_len, HGD.out.bp.ln, Nat.mul_one]) (lie_bat (HBB.out.below HB5.out)) (fun e => by have h1 := HGD.out.bp.nil e; have h2 := HGD.out.bp.cp; omega) (bcells_one _) (by have := HSX.out.1; omega) (by decide) HB5.out.size (fun v6 w6 h6 => ?_)
          have HB6 := Lib.hid (below_appd h6 HB5.out HB5.out.size (fun i hi => by injection hi with hi; exact Nat.le_of_eq hi))
          obtain ⟨a6, c6, rfl, hba6, hc6, _, hn6, _⟩ := OB.row (show OB w6 w4.heap.size v6 x.bs by unfold OB; rw [HGD.out.bp.ln]; have h := h6.1; rwa [Nat.zero_add, List.nil_append] at h)
          have HWR6 := Lib.hid (HWR.out w6 HB6.out a6 c6 hba6 (fun e => List.length_eq_zero_iff.1 (by have := hn6 e; omega)))
          rw [HGD.out.bp.ln]
          clear h6 hba6 hc6 hn6 HWR
          refine hK.out _ _ (fun i hi => HB6.out.block i (HLT.out i hi)) (fun hHeld => ?_)
          clear hK K
          try simp only [Act.put, List.setIfInBounds_toArray, List.set_cons_zero, List.set_cons_succ]
          refine held_next 9 rfl (by kernel_rfl) (by rfl) (fun K hK => ?_)
          go_simp
          go_at_call 9
          refine HWR6.out.mono ?_
          rintro _ w7 ⟨rfl, hdid⟩
          have HON := Lib.hid (show ∀ i ∈ [wr.heap.size, b2], w7.heap[i]? = w4.heap[i]? from fun i hi => by obtain ⟨_, _, ho, _⟩ := hdid; exact (ho.block i (Nat.lt_of_lt_of_le (HLT.out i hi) HB6.out.size) (HNF.out i hi)).trans (HB6.out.block i (HLT.out i hi)))
          have HS7 := Lib.hid (show w4.heap.size ≤ w7.heap.size by obtain ⟨_, _, ho, _⟩ := hdid; exact Nat.le_trans HB6.out.size ho.size)
          have HT7 := Lib.hid ((HD4.out.below HB6.out).did hdid)
          clear hdid HWR6
          refine hK.out _ _ (HON.out) (fun hHeld => ?_)
          clear hK K
          try simp only [Act.put, List.setIfInBounds_toArray, List.set_cons_zero, List.set_cons_succ]
          refine held_take 10 (v := ?_) rfl (by kernel_rfl) (by kernel_rfl) (by kernel_rfl) (fun _ _ _ h => h) hHeld (by rfl) ?_ ?_
          rotate_left
          · (intro W hW; go_simp; try with_reducible rfl)
          try simp only [Act.put, List.setIfInBounds_toArray, List.set_cons_zero, List.set_cons_succ]
          refine held_take 11 (v := ?_) rfl (by kernel_rfl) (by kernel_rfl) (by kernel_rfl) (fun _ _ _ h => h) hHeld (by rfl) ?_ ?_
          rotate_left
          · (intro W hW; go_simp; try with_reducible rfl)
          try simp only [Act.put, List.setIfInBounds_toArray, List.set_cons_zero, List.set_cons_succ]
          refine held_take 12 (v := ?_) rfl (by kernel_rfl) (by kernel_rfl) (by kernel_rfl) (fun _ _ _ h => h) hHeld (by rfl) ?_ ?_
          rotate_left
          · (intro W hW; go_simp; try with_reducible rfl)
          try simp only [Act.put, List.setIfInBounds_toArray, List.set_cons_zero, List.set_cons_succ]
          refine held_take 13 (v := ?_) rfl (by kernel_rfl) (by kernel_rfl) (by kernel_rfl) (fun _ _ _ h => h) hHeld (by rfl) ?_ ?_
          rotate_left
          · (intro W hW; go_simp; try with_reducible rfl)
          try simp only [Act.put, List.setIfInBounds_toArray, List.set_cons_zero, List.set_cons_succ]
          refine held_take 14 (v := ?_) rfl (by kernel_rfl) (by kernel_rfl) (by kernel_rfl) (fun _ _ _ h => h) hHeld (by rfl) ?_ ?_
          rotate_left
          · (intro W hW; go_simp; try with_reducible rfl)
          try simp only [Act.put, List.setIfInBounds_toArray, List.set_cons_zero, List.set_cons_succ]
          refine wpAnyH_done (by kernel_rfl) ?_ _
          go_simp
          obtain ⟨F7, hT7⟩ := HT7.out
          have HTT := Lib.hid hT7
          have HAC7 := Lib.hid (HAC.out.same (HON.out _ (by simp)) HS7.out)
          have HRC := Lib.hid hT7.cs
          have q3 := HAC7.out.c3
          have pr1 := (PLC.out _ hT7.bl).1
          have pr2 := (PLC.out _ hT7.bl).2
          have HRW := Lib.hid (hT7.rput (cap := x.bc) I1.out I2.out (HGD.out.bp.row.below hT7.bl) HGD.out.bp.ln HGD.out.bp.none (by have := HSX.out.1; omega) HQB.out)
          unfold RSwRes at HRW
          rw [norm_slotW, ← HP0.out] at HRW
          (try simp only at HRW)
          clear hT7 HT7
          go_wp2_with (first | (with_reducible refine wpList_loadW rfl isD _ rfl b8 R _ rfl HTT.out.h8 HRC.out ?_))
          refine HRW.out.mono ?_
          rintro _ w8 ⟨a0, c0, a1, c1, rfl, hrm, hb8⟩
          obtain ⟨R', hR'⟩ : ∃ R', R' = rcs d'.norm a0 c0 a1 c1 := ⟨_, rfl⟩
          rw [← hR']
          have HT8 := Lib.hid (HTT.out.below hb8)
          have HRC' := Lib.hid (show Cs 4 R' by rw [hR']; exact rcs_cs _ _ _ _ _)
          obtain ⟨W, hW⟩ : ∃ W, W = w8.setRow b8 R'.toArray := ⟨_, rfl⟩
          have HW := Lib.hid hW.symm
          have HT := Lib.hid (show TD wB W F7 g b8 d' d'.norm R' by rw [hW]; exact HT8.out.set hrm hR')
          clear hR' hW hrm hb8
          clear q3 pr1 pr2 HRW
          have HSR := Lib.hid (sread_any g F7 d' p1 p2 W HT.out.dt I1.out I2.out)
          obtain ⟨r1, hr1⟩ : ∃ r, r = d'.slot p1 p2 := ⟨_, rfl⟩
          have HS1 := Lib.hid hr1
          rw [← hr1] at HSR
          obtain ⟨⟨sb, sn⟩, se⟩ := r1
          clear hr1
          have pw1 := (PLC.out _ HT.out.bl).1
          have pw2 := (PLC.out _ HT.out.bl).2
          go_wp2_with (first | ((with_reducible refine wpList_storeW rfl isD _ _ rfl b8 R' R.toArray _ rfl rfl HT8.out.h8 HRC'.out (by simp [HRC.out.len]) ?_); rw [HW.out]))
          refine HSR.out.mono ?_
          rintro _ wa ⟨aa, ca, rfl, hba, _, _, hbb⟩
          have HTA := Lib.hid (HT.out.below hbb)
          have HBA := Lib.hid hba
          have HRR := Lib.hid (HTA.out.rread I1.out I2.out)
          rw [norm_slot, ← HS1.out] at HRR
          clear hba hbb HSR pw1 pw2
          have px1 := (PLC.out _ HTA.out.bl).1
          have px2 := (PLC.out _ HTA.out.bl).2
          go_wp2_with (first | (with_reducible refine wpList_loadW rfl isD _ rfl b8 R' _ rfl HTA.out.h8 HRC'.out ?_))
          refine HRR.out.mono ?_
          rintro _ wb ⟨ab, cb, rfl, hba, _, _, hbb⟩
          have HTB := Lib.hid (HTA.out.below hbb)
          have HBB := Lib.hid hba
          have HBA := Lib.hid (HBA.out.below hbb)
          have HNX := Lib.hid (snext_any g F7 d' p1 p2 wb HTB.out.dt I1.out I2.out)
          obtain ⟨r2, hr2⟩ : ∃ r, r = d'.next p1 p2 := ⟨_, rfl⟩
          have HS2 := Lib.hid hr2
          unfold NxRes at HNX
          rw [← hr2] at HNX
          obtain ⟨xn, xe⟩ := r2
          clear hba hbb HRR px1 px2 hr2
          have py1 := (PLC.out _ HTB.out.bl).1
          have py2 := (PLC.out _ HTB.out.bl).2
          go_wp2_with fail
          refine HNX.out.mono ?_
          rintro _ wc ⟨rfl, hbb⟩
          have HTC := Lib.hid (HTB.out.below hbb)
          have HBA := Lib.hid (HBA.out.below hbb)
          have HBB := Lib.hid (HBB.out.below hbb)
          have HRN := Lib.hid (HTC.out.rnext I1.out I2.out)
          unfold NxRes at HRN
          rw [norm_next, ← HS2.out] at HRN
          clear hbb HNX py1 py2
          have pz1 := (PLC.out _ HTC.out.bl).1
          have pz2 := (PLC.out _ HTC.out.bl).2
          go_wp2_with (first | (with_reducible refine wpList_loadW rfl isD _ rfl b8 R' _ rfl HTC.out.h8 HRC'.out ?_))
          refine HRN.out.mono ?_
          rintro _ wd ⟨rfl, hbb⟩
          have HTD := Lib.hid (HTC.out.below hbb)
          have cv1 := run_conv (w := wd) (HBA.out.below hbb) sb.length ca rfl
          have cv2 := run_conv (w := wd) (HBB.out.below hbb) sb.length cb rfl
          clear hbb HRN pz1 pz2
          go_wp2
          go_roundw
          case rel => exact ⟨k + 1, F7, d', R', by go_num, by omega, HTD.out, HQ'.out, HBN'.out⟩
          case measure => simp; omega
        by_cases hk1 : kd = 1
        · clear q4
          subst hk1
          obtain ⟨d', hd'⟩ : ∃ d' : Dk, d' = { d with fuse := x.at_ } := ⟨_, rfl⟩
          have HQ' := Lib.hid (show d'.queue.length ≤ 20 * (k + 1) by rw [hd']; show d.queue.length ≤ _; have := HQ.out; omega)
          have HBN' := Lib.hid (show d'.base.length = N by rw [hd']; exact HBN.out)
          have HP1 := Lib.hid hd'
          have HFL := Lib.hid (fuse_any g F d x.at_ w4 HD4.out.dt HGD.out.ii)
          rw [← hd'] at HFL
          clear hk0 hd'
          go_wp2_with (first | ((with_reducible refine wpList_storeW rfl isAc _ _ rfl wr.heap.size c zA.toArray _ rfl rfl HAL.out HCC.out rfl ?_); rw [HW4.out]) | (with_reducible refine wpList_allocA rfl isAc rfl ?_) | (with_reducible refine wpList_idx elAc rfl _ _ rfl k rfl rfl rfl hlt ?_) | (with_reducible refine wpList_loadM rfl isAc _ rfl bb (ob + k * 5) c rfl HRB.out HCC.out ?_))
          refine HFL.out.mono ?_
          rintro _ w7 ⟨rfl, hdid⟩
          obtain ⟨F7, hT7⟩ := HD4.out.did hdid
          have HTT := Lib.hid hT7
          have HAC7 := Lib.hid (show AcAt w7 wr.heap.size x by obtain ⟨_, _, ho, _⟩ := hdid; exact HAC.out.same (ho.block _ HAC.out.lt (fun e => by have := HD.out.dt.fl _ e; omega)) ho.size)
          have HRC := Lib.hid hT7.cs
          obtain ⟨a0, c0, a1, c1, hR, hrm⟩ := hT7.rr
          have HRW := Lib.hid (rfuse_any d.norm a0 c0 a1 c1 x.at_ w7)
          have hrm' : RM w7 (fun i => F7 i ∨ i = b8) d'.norm a0 a1 := by rw [HP1.out]; exact hrm.head (fu := max x.at_ (-1)) (dd := d.dead) (by obtain ⟨h1, h2⟩ := HGD.out.ii; unfold I; omega)
          rw [show ({ d.norm with fuse := max x.at_ (-1) } : Dk) = d'.norm by rw [HP1.out]; rfl, ← hR] at HRW
          have q1 := HAC7.out.c1
          clear hT7 hdid hR hrm HFL
          go_wp2_with (first | (with_reducible refine wpList_loadW rfl isD _ rfl b8 R _ rfl HTT.out.h8 HRC.out ?_))
          refine HRW.out.mono ?_
          rintro _ w8 ⟨rfl, hb8⟩
          have hrm := hrm'.below hb8
          clear hrm' q1
          obtain ⟨R', hR'⟩ : ∃ R', R' = rcs d'.norm a0 c0 a1 c1 := ⟨_, rfl⟩
          rw [← hR']
          have HT8 := Lib.hid (HTT.out.below hb8)
          have HRC' := Lib.hid (show Cs 4 R' by rw [hR']; exact rcs_cs _ _ _ _ _)
          obtain ⟨W, hW⟩ : ∃ W, W = w8.setRow b8 R'.toArray := ⟨_, rfl⟩
          have HW := Lib.hid hW.symm
          have HT := Lib.hid (show TD wB W F7 g b8 d' d'.norm R' by rw [hW]; exact HT8.out.set hrm hR')
          clear hR' hW hrm hb8
          clear HRW
          have HSR := Lib.hid (sread_any g F7 d' p1 p2 W HT.out.dt I1.out I2.out)
          obtain ⟨r1, hr1⟩ : ∃ r, r = d'.slot p1 p2 := ⟨_, rfl⟩
          have HS1 := Lib.hid hr1
          rw [← hr1] at HSR
          obtain ⟨⟨sb, sn⟩, se⟩ := r1
          clear hr1
          have pw1 := (PLC.out _ HT.out.bl).1
          have pw2 := (PLC.out _ HT.out.bl).2
          go_wp2_with (first | ((with_reducible refine wpList_storeW rfl isD _ _ rfl b8 R' R.toArray _ rfl rfl HT8.out.h8 HRC'.out (by simp [HRC.out.len]) ?_); rw [HW.out]))
          refine HSR.out.mono ?_
          rintro _ wa ⟨aa, ca, rfl, hba, _, _, hbb⟩
          have HTA := Lib.hid (HT.out.below hbb)
          have HBA := Lib.hid hba
          have HRR := Lib.hid (HTA.out.rread I1.out I2.out)
          rw [norm_slot, ← HS1.out] at HRR
          clear hba hbb HSR pw1 pw2
          have px1 := (PLC.out _ HTA.out.bl).1
          have px2 := (PLC.out _ HTA.out.bl).2
          go_wp2_with (first | (with_reducible refine wpList_loadW rfl isD _ rfl b8 R' _ rfl HTA.out.h8 HRC'.out ?_))
          refine HRR.out.mono ?_
          rintro _ wb ⟨ab, cb, rfl, hba, _, _, hbb⟩
          have HTB := Lib.hid (HTA.out.below hbb)
          have HBB := Lib.hid hba
          have HBA := Lib.hid (HBA.out.below hbb)
          have HNX := Lib.hid (snext_any g F7 d' p1 p2 wb HTB.out.dt I1.out I2.out)
          obtain ⟨r2, hr2⟩ : ∃ r, r = d'.next p1 p2 := ⟨_, rfl⟩
          have HS2 := Lib.hid hr2
          unfold NxRes at HNX
          rw [← hr2] at HNX
          obtain ⟨xn, xe⟩ := r2
          clear hba hbb HRR px1 px2 hr2
          have py1 := (PLC.out _ HTB.out.bl).1
          have py2 := (PLC.out _ HTB.out.bl).2
          go_wp2_with fail
          refine HNX.out.mono ?_
          rintro _ wc ⟨rfl, hbb⟩
          have HTC := Lib.hid (HTB.out.below hbb)
          have HBA := Lib.hid (HBA.out.below hbb)
          have HBB := Lib.hid (HBB.out.below hbb)
          have HRN := Lib.hid (HTC.out.rnext I1.out I2.out)
          unfold NxRes at HRN
          rw [norm_next, ← HS2.out] at HRN
          clear hbb HNX py1 py2
          have pz1 := (PLC.out _ HTC.out.bl).1
          have pz2 := (PLC.out _ HTC.out.bl).2
          go_wp2_with (first | (with_reducible refine wpList_loadW rfl isD _ rfl b8 R' _ rfl HTC.out.h8 HRC'.out ?_))
          refine HRN.out.mono ?_
          rintro _ wd ⟨rfl, hbb⟩
          have HTD := Lib.hid (HTC.out.below hbb)
          have cv1 := run_conv (w := wd) (HBA.out.below hbb) sb.length ca rfl
          have cv2 := run_conv (w := wd) (HBB.out.below hbb) sb.length cb rfl
          clear hbb HRN pz1 pz2
          go_wp2
          go_roundw
          case rel => exact ⟨k + 1, F7, d', R', by go_num, by omega, HTD.out, HQ'.out, HBN'.out⟩
          case measure => simp; omega
        by_cases hk2 : kd = 2
        · clear q1
          subst hk2
          obtain ⟨d', hd'⟩ : ∃ d', d' = d.power x.keep := ⟨_, rfl⟩
          have HQ' := Lib.hid (show d'.queue.length ≤ 20 * (k + 1) by rw [hd']; have := (power_lens d x.keep).1; have := HQ.out; omega)
          have HBN' := Lib.hid (show d'.base.length = N by rw [hd', (power_lens d x.keep).2]; exact HBN.out)
          have HP1 := Lib.hid hd'
          have HFL := Lib.hid (power_any g F d x.ka x.keep x.kn x.kc w4 HD4.out.dt (HGD.out.kp.below HD4.out.bl) HGD.out.kl (nums_off HGD.out.kp HD4.out.fr))
          unfold PowerRes at HFL
          rw [← hd'] at HFL
          clear hk0 hk1 hd'
          go_wp2_with (first | ((with_reducible refine wpList_storeW rfl isAc _ _ rfl wr.heap.size c zA.toArray _ rfl rfl HAL.out HCC.out rfl ?_); rw [HW4.out]) | (with_reducible refine wpList_allocA rfl isAc rfl ?_) | (with_reducible refine wpList_idx elAc rfl _ _ rfl k rfl rfl rfl hlt ?_) | (with_reducible refine wpList_loadM rfl isAc _ rfl bb (ob + k * 5) c rfl HRB.out HCC.out ?_))
          refine HFL.out.mono ?_
          rintro _ w7 ⟨rfl, hdid⟩
          obtain ⟨F7, hT7⟩ := HD4.out.did hdid
          have HTT := Lib.hid hT7
          have HAC7 := Lib.hid (show AcAt w7 wr.heap.size x by obtain ⟨_, _, ho, _⟩ := hdid; exact HAC.out.same (ho.block _ HAC.out.lt (fun e => by have := HD.out.dt.fl _ e; omega)) ho.size)
          have HRC := Lib.hid hT7.cs
          obtain ⟨a0, c0, a1, c1, hR, hrm⟩ := hT7.rr
          have HRW := Lib.hid (rpower_any d.norm a0 c0 a1 c1 (fun i => F7 i ∨ i = b8) x.ka x.keep x.kn x.kc w7 hT7.lt hrm (HGD.out.kp.below hT7.bl) HGD.out.kl)
          unfold RPowerRes at HRW
          rw [norm_power, ← HP1.out, ← hR] at HRW
          have q4' := HAC7.out.c4
          clear hT7 hdid hR hrm HFL
          go_wp2_with (first | (with_reducible refine wpList_loadW rfl isD _ rfl b8 R _ rfl HTT.out.h8 HRC.out ?_))
          refine HRW.out.mono ?_
          rintro _ w8 ⟨a0, c0, a1, c1, rfl, hrm, hb8⟩
          clear q4'
          obtain ⟨R', hR'⟩ : ∃ R', R' = rcs d'.norm a0 c0 a1 c1 := ⟨_, rfl⟩
          rw [← hR']
          have HT8 := Lib.hid (HTT.out.below hb8)
          have HRC' := Lib.hid (show Cs 4 R' by rw [hR']; exact rcs_cs _ _ _ _ _)
          obtain ⟨W, hW⟩ : ∃ W, W = w8.setRow b8 R'.toArray := ⟨_, rfl⟩
          have HW := Lib.hid hW.symm
          have HT := Lib.hid (show TD wB W F7 g b8 d' d'.norm R' by rw [hW]; exact HT8.out.set hrm hR')
          clear hR' hW hrm hb8
          clear HRW
          have HSR := Lib.hid (sread_any g F7 d' p1 p2 W HT.out.dt I1.out I2.out)
          obtain ⟨r1, hr1⟩ : ∃ r, r = d'.slot p1 p2 := ⟨_, rfl⟩
          have HS1 := Lib.hid hr1
          rw [← hr1] at HSR
          obtain ⟨⟨sb, sn⟩, se⟩ := r1
          clear hr1
          have pw1 := (PLC.out _ HT.out.bl).1
          have pw2 := (PLC.out _ HT.out.bl).2
          go_wp2_with (first | ((with_reducible refine wpList_storeW rfl isD _ _ rfl b8 R' R.toArray _ rfl rfl HT8.out.h8 HRC'.out (by simp [HRC.out.len]) ?_); rw [HW.out]))
          refine HSR.out.mono ?_
          rintro _ wa ⟨aa, ca, rfl, hba, _, _, hbb⟩
          have HTA := Lib.hid (HT.out.below hbb)
          have HBA := Lib.hid hba
          have HRR := Lib.hid (HTA.out.rread I1.out I2.out)
          rw [norm_slot, ← HS1.out] at HRR
          clear hba hbb HSR pw1 pw2
          have px1 := (PLC.out _ HTA.out.bl).1
          have px2 := (PLC.out _ HTA.out.bl).2
          go_wp2_with (first | (with_reducible refine wpList_loadW rfl isD _ rfl b8 R' _ rfl HTA.out.h8 HRC'.out ?_))
          refine HRR.out.mono ?_
          rintro _ wb ⟨ab, cb, rfl, hba, _, _, hbb⟩
          have HTB := Lib.hid (HTA.out.below hbb)
          have HBB := Lib.hid hba
          have HBA := Lib.hid (HBA.out.below hbb)
          have HNX := Lib.hid (snext_any g F7 d' p1 p2 wb HTB.out.dt I1.out I2.out)
          obtain ⟨r2, hr2⟩ : ∃ r, r = d'.next p1 p2 := ⟨_, rfl⟩
          have HS2 := Lib.hid hr2
          unfold NxRes at HNX
          rw [← hr2] at HNX
          obtain ⟨xn, xe⟩ := r2
          clear hba hbb HRR px1 px2 hr2
          have py1 := (PLC.out _ HTB.out.bl).1
          have py2 := (PLC.out _ HTB.out.bl).2
          go_wp2_with fail
          refine HNX.out.mono ?_
          rintro _ wc ⟨rfl, hbb⟩
          have HTC := Lib.hid (HTB.out.below hbb)
          have HBA := Lib.hid (HBA.out.below hbb)
          have HBB := Lib.hid (HBB.out.below hbb)
          have HRN := Lib.hid (HTC.out.rnext I1.out I2.out)
          unfold NxRes at HRN
          rw [norm_next, ← HS2.out] at HRN
          clear hbb HNX py1 py2
          have pz1 := (PLC.out _ HTC.out.bl).1
          have pz2 := (PLC.out _ HTC.out.bl).2
          go_wp2_with (first | (with_reducible refine wpList_loadW rfl isD _ rfl b8 R' _ rfl HTC.out.h8 HRC'.out ?_))
          refine HRN.out.mono ?_
          rintro _ wd ⟨rfl, hbb⟩
          have HTD := Lib.hid (HTC.out.below hbb)
          have cv1 := run_conv (w := wd) (HBA.out.below hbb) sb.length ca rfl
          have cv2 := run_conv (w := wd) (HBB.out.below hbb) sb.length cb rfl
          clear hbb HRN pz1 pz2
          go_wp2
          go_roundw
          case rel => exact ⟨k + 1, F7, d', R', by go_num, by omega, HTD.out, HQ'.out, HBN'.out⟩
          case measure => simp; omega
        by_cases hk3 : kd = 3
        · clear q1 q4
          subst hk3
          obtain ⟨d', hd'⟩ : ∃ d', d' = d.flush := ⟨_, rfl⟩
          have HQ' := Lib.hid (show d'.queue.length ≤ 20 * (k + 1) by rw [hd']; have := (flush_lens d).1; have := HQ.out; omega)
          have HBN' := Lib.hid (show d'.base.length = N by rw [hd', (flush_lens d).2]; exact HBN.out)
          obtain ⟨f, hf⟩ : ∃ f, f = d.actE := ⟨_, rfl⟩
          have HP1 := Lib.hid hd'
          have HP2 := Lib.hid hf
          have HFL := Lib.hid (flush_any g F d w4 HD4.out.dt)
          unfold FlushRes at HFL
          rw [← hd', ← hf] at HFL
          clear hk0 hk1 hk2 hd' hf
          go_wp2_with (first | ((with_reducible refine wpList_storeW rfl isAc _ _ rfl wr.heap.size c zA.toArray _ rfl rfl HAL.out HCC.out rfl ?_); rw [HW4.out]) | (with_reducible refine wpList_allocA rfl isAc rfl ?_) | (with_reducible refine wpList_idx elAc rfl _ _ rfl k rfl rfl rfl hlt ?_) | (with_reducible refine wpList_loadM rfl isAc _ rfl bb (ob + k * 5) c rfl HRB.out HCC.out ?_))
          refine HFL.out.mono ?_
          rintro _ w7 ⟨rfl, hdid⟩
          obtain ⟨F7, hT7⟩ := HD4.out.did hdid
          have HTT := Lib.hid hT7
          have HAC7 := Lib.hid (show AcAt w7 wr.heap.size x by obtain ⟨_, _, ho, _⟩ := hdid; exact HAC.out.same (ho.block _ HAC.out.lt (fun e => by have := HD.out.dt.fl _ e; omega)) ho.size)
          have HRC := Lib.hid hT7.cs
          obtain ⟨a0, c0, a1, c1, hR, hrm⟩ := hT7.rr
          have HRW := Lib.hid (rflush_any d.norm a0 c0 a1 c1 (fun i => F7 i ∨ i = b8) w7 hT7.lt hrm)
          unfold RFlushRes at HRW
          rw [norm_flush, norm_actE, ← HP1.out, ← HP2.out, ← hR] at HRW
          clear hT7 hdid hR hrm HFL
          go_wp2_with (first | (with_reducible refine wpList_loadW rfl isD _ rfl b8 R _ rfl HTT.out.h8 HRC.out ?_))
          refine HRW.out.mono ?_
          rintro _ w8 ⟨a0, c0, a1, c1, rfl, hrm, hb8⟩
          obtain ⟨R', hR'⟩ : ∃ R', R' = rcs d'.norm a0 c0 a1 c1 := ⟨_, rfl⟩
          rw [← hR']
          have HT8 := Lib.hid (HTT.out.below hb8)
          have HRC' := Lib.hid (show Cs 4 R' by rw [hR']; exact rcs_cs _ _ _ _ _)
          obtain ⟨W, hW⟩ : ∃ W, W = w8.setRow b8 R'.toArray := ⟨_, rfl⟩
          have HW := Lib.hid hW.symm
          have HT := Lib.hid (show TD wB W F7 g b8 d' d'.norm R' by rw [hW]; exact HT8.out.set hrm hR')
          clear hR' hW hrm hb8
          clear HRW
          have HSR := Lib.hid (sread_any g F7 d' p1 p2 W HT.out.dt I1.out I2.out)
          obtain ⟨r1, hr1⟩ : ∃ r, r = d'.slot p1 p2 := ⟨_, rfl⟩
          have HS1 := Lib.hid hr1
          rw [← hr1] at HSR
          obtain ⟨⟨sb, sn⟩, se⟩ := r1
          clear hr1
          have pw1 := (PLC.out _ HT.out.bl).1
          have pw2 := (PLC.out _ HT.out.bl).2
          go_wp2_with (first | ((with_reducible refine wpList_storeW rfl isD _ _ rfl b8 R' R.toArray _ rfl rfl HT8.out.h8 HRC'.out (by simp [HRC.out.len]) ?_); rw [HW.out]))
          refine HSR.out.mono ?_
          rintro _ wa ⟨aa, ca, rfl, hba, _, _, hbb⟩
          have HTA := Lib.hid (HT.out.below hbb)
          have HBA := Lib.hid hba
          have HRR := Lib.hid (HTA.out.rread I1.out I2.out)
          rw [norm_slot, ← HS1.out] at HRR
          clear hba hbb HSR pw1 pw2
          have px1 := (PLC.out _ HTA.out.bl).1
          have px2 := (PLC.out _ HTA.out.bl).2
          go_wp2_with (first | (with_reducible refine wpList_loadW rfl isD _ rfl b8 R' _ rfl HTA.out.h8 HRC'.out ?_))
          refine HRR.out.mono ?_
          rintro _ wb ⟨ab, cb, rfl, hba, _, _, hbb⟩
          have HTB := Lib.hid (HTA.out.below hbb)
          have HBB := Lib.hid hba
          have HBA := Lib.hid (HBA.out.below hbb)
          have HNX := Lib.hid (snext_any g F7 d' p1 p2 wb HTB.out.dt I1.out I2.out)
          obtain ⟨r2, hr2⟩ : ∃ r, r = d'.next p1 p2 := ⟨_, rfl⟩
          have HS2 := Lib.hid hr2
          unfold NxRes at HNX
          rw [← hr2] at HNX
          obtain ⟨xn, xe⟩ := r2
          clear hba hbb HRR px1 px2 hr2
          have py1 := (PLC.out _ HTB.out.bl).1
          have py2 := (PLC.out _ HTB.out.bl).2
          go_wp2_with fail
          refine HNX.out.mono ?_
          rintro _ wc ⟨rfl, hbb⟩
          have HTC := Lib.hid (HTB.out.below hbb)
          have HBA := Lib.hid (HBA.out.below hbb)
          have HBB := Lib.hid (HBB.out.below hbb)
          have HRN := Lib.hid (HTC.out.rnext I1.out I2.out)
          unfold NxRes at HRN
          rw [norm_next, ← HS2.out] at HRN
          clear hbb HNX py1 py2
          have pz1 := (PLC.out _ HTC.out.bl).1
          have pz2 := (PLC.out _ HTC.out.bl).2
          go_wp2_with (first | (with_reducible refine wpList_loadW rfl isD _ rfl b8 R' _ rfl HTC.out.h8 HRC'.out ?_))
          refine HRN.out.mono ?_
          rintro _ wd ⟨rfl, hbb⟩
          have HTD := Lib.hid (HTC.out.below hbb)
          have cv1 := run_conv (w := wd) (HBA.out.below hbb) sb.length ca rfl
          have cv2 := run_conv (w := wd) (HBB.out.below hbb) sb.length cb rfl
          clear hbb HRN pz1 pz2
          go_wp2
          go_roundw
          case rel => exact ⟨k + 1, F7, d', R', by go_num, by omega, HTD.out, HQ'.out, HBN'.out⟩
          case measure => simp; omega
        by_cases hk4 : kd = 4
        · clear q4
          subst hk4
          obtain ⟨p, hp⟩ : ∃ p, p = d.write x.at_ st x.bs := ⟨_, rfl⟩
          obtain ⟨d', f⟩ := p
          have HP1 := Lib.hid (show d' = (d.write x.at_ st x.bs).1 from congrArg Prod.fst hp)
          have HP2 := Lib.hid (show f = (d.write x.at_ st x.bs).2 from congrArg Prod.snd hp)
          have HQ' := Lib.hid (show d'.queue.length ≤ 20 * (k + 1) by rw [HP1.out]; have h1 := write_queue d x.at_ st x.bs; have h2 := spanN_1000 HSX.out.1; rw [← HGD.out.bp.ln] at h2; have := HQ.out; omega)
          have HBN' := Lib.hid (show d'.base.length = N by rw [HP1.out, write_base]; exact HBN.out)
          have HBND := Lib.hid (show d.queue.length + spanN x.bn < 10000 by have h2 := spanN_1000 HSX.out.1; have := HQ.out; omega)
          have HWR := Lib.hid (write_any g F d x.at_ st x.bs x.ba x.bn x.bc w4 HD4.out.dt HGD.out.ii HSL.out HBB.out HGD.out.bp.ln HGD.out.bp.cp HBND.out)
          unfold WriteRes at HWR
          rw [← hp] at HWR
          simp only at HWR
          have q2 := HACS.out
          have q3 := HAC.out.c3
          clear hk0 hk1 hk2 hk3 hp
          go_wp2_with (first | ((with_reducible refine wpList_storeW rfl isAc _ _ rfl wr.heap.size c zA.toArray _ rfl rfl HAL.out HCC.out rfl ?_); rw [HW4.out]) | (with_reducible refine wpList_allocA rfl isAc rfl ?_) | (with_reducible refine wpList_idx elAc rfl _ _ rfl k rfl rfl rfl hlt ?_) | (with_reducible refine wpList_loadM rfl isAc _ rfl bb (ob + k * 5) c rfl HRB.out HCC.out ?_))
          refine HWR.out.mono ?_
          rintro _ w7 ⟨rfl, hdid⟩
          clear q1 q2 q3
          obtain ⟨F7, hT7⟩ := HD4.out.did hdid
          have HTT := Lib.hid hT7
          have HAC7 := Lib.hid (show AcAt w7 wr.heap.size x by obtain ⟨_, _, ho, _⟩ := hdid; exact HAC.out.same (ho.block _ HAC.out.lt (fun e => by have := HD.out.dt.fl _ e; omega)) ho.size)
          have HRC := Lib.hid hT7.cs
          obtain ⟨a0, c0, a1, c1, hR, hrm⟩ := hT7.rr
          have q1 := HAC7.out.c1
          have q2 : w7.cell? ⟨wr.heap.size, 2, none⟩ = some (.int .u64 (st : Int)) := by rw [HSTE.out]; exact HAC7.out.c2
          have q3 := HAC7.out.c3
          have HRW := Lib.hid (rwrite_any d.norm a0 c0 a1 c1 (fun i => F7 i ∨ i = b8) x.at_ st x.bs x.ba x.bn x.bc w7 hT7.lt hrm HGD.out.ii HSL.out (HGD.out.bp.row.below hT7.bl) HGD.out.bp.ln HBI.out HBND.out)
          unfold RWriteRes at HRW
          rw [(norm_writeF _ _ _ _).1, (norm_writeF _ _ _ _).2, ← HP1.out, ← HP2.out, ← hR] at HRW
          (try simp only at HRW)
          clear hT7 hdid hR hrm HWR
          go_wp2_with (first | (with_reducible refine wpList_loadW rfl isD _ rfl b8 R _ rfl HTT.out.h8 HRC.out ?_))
          refine HRW.out.mono ?_
          rintro _ w8 ⟨a0, c0, a1, c1, rfl, hrm, hb8⟩
          obtain ⟨R', hR'⟩ : ∃ R', R' = rcs d'.norm a0 c0 a1 c1 := ⟨_, rfl⟩
          rw [← hR']
          have HT8 := Lib.hid (HTT.out.below hb8)
          have HRC' := Lib.hid (show Cs 4 R' by rw [hR']; exact rcs_cs _ _ _ _ _)
          obtain ⟨W, hW⟩ : ∃ W, W = w8.setRow b8 R'.toArray := ⟨_, rfl⟩
          have HW := Lib.hid hW.symm
          have HT := Lib.hid (show TD wB W F7 g b8 d' d'.norm R' by rw [hW]; exact HT8.out.set hrm hR')
          clear hR' hW hrm hb8
          clear q1 q2 q3 HRW
          have HSR := Lib.hid (sread_any g F7 d' p1 p2 W HT.out.dt I1.out I2.out)
          obtain ⟨r1, hr1⟩ : ∃ r, r = d'.slot p1 p2 := ⟨_, rfl⟩
          have HS1 := Lib.hid hr1
          rw [← hr1] at HSR
          obtain ⟨⟨sb, sn⟩, se⟩ := r1
          clear hr1
          have pw1 := (PLC.out _ HT.out.bl).1
          have pw2 := (PLC.out _ HT.out.bl).2
          go_wp2_with (first | ((with_reducible refine wpList_storeW rfl isD _ _ rfl b8 R' R.toArray _ rfl rfl HT8.out.h8 HRC'.out (by simp [HRC.out.len]) ?_); rw [HW.out]))
          refine HSR.out.mono ?_
          rintro _ wa ⟨aa, ca, rfl, hba, _, _, hbb⟩
          have HTA := Lib.hid (HT.out.below hbb)
          have HBA := Lib.hid hba
          have HRR := Lib.hid (HTA.out.rread I1.out I2.out)
          rw [norm_slot, ← HS1.out] at HRR
          clear hba hbb HSR pw1 pw2
          have px1 := (PLC.out _ HTA.out.bl).1
          have px2 := (PLC.out _ HTA.out.bl).2
          go_wp2_with (first | (with_reducible refine wpList_loadW rfl isD _ rfl b8 R' _ rfl HTA.out.h8 HRC'.out ?_))
          refine HRR.out.mono ?_
          rintro _ wb ⟨ab, cb, rfl, hba, _, _, hbb⟩
          have HTB := Lib.hid (HTA.out.below hbb)
          have HBB := Lib.hid hba
          have HBA := Lib.hid (HBA.out.below hbb)
          have HNX := Lib.hid (snext_any g F7 d' p1 p2 wb HTB.out.dt I1.out I2.out)
          obtain ⟨r2, hr2⟩ : ∃ r, r = d'.next p1 p2 := ⟨_, rfl⟩
          have HS2 := Lib.hid hr2
          unfold NxRes at HNX
          rw [← hr2] at HNX
          obtain ⟨xn, xe⟩ := r2
          clear hba hbb HRR px1 px2 hr2
          have py1 := (PLC.out _ HTB.out.bl).1
          have py2 := (PLC.out _ HTB.out.bl).2
          go_wp2_with fail
          refine HNX.out.mono ?_
          rintro _ wc ⟨rfl, hbb⟩
          have HTC := Lib.hid (HTB.out.below hbb)
          have HBA := Lib.hid (HBA.out.below hbb)
          have HBB := Lib.hid (HBB.out.below hbb)
          have HRN := Lib.hid (HTC.out.rnext I1.out I2.out)
          unfold NxRes at HRN
          rw [norm_next, ← HS2.out] at HRN
          clear hbb HNX py1 py2
          have pz1 := (PLC.out _ HTC.out.bl).1
          have pz2 := (PLC.out _ HTC.out.bl).2
          go_wp2_with (first | (with_reducible refine wpList_loadW rfl isD _ rfl b8 R' _ rfl HTC.out.h8 HRC'.out ?_))
          refine HRN.out.mono ?_
          rintro _ wd ⟨rfl, hbb⟩
          have HTD := Lib.hid (HTC.out.below hbb)
          have cv1 := run_conv (w := wd) (HBA.out.below hbb) sb.length ca rfl
          have cv2 := run_conv (w := wd) (HBB.out.below hbb) sb.length cb rfl
          clear hbb HRN pz1 pz2
          go_wp2
          go_roundw
          case rel => exact ⟨k + 1, F7, d', R', by go_num, by omega, HTD.out, HQ'.out, HBN'.out⟩
          case measure => simp; omega
        · clear q1 q4
          have e0 : (kd == 0) = false := by simpa using hk0
          have e1 : (kd == 1) = false := by simpa using hk1
          have e2 : (kd == 2) = false := by simpa using hk2
          have e3 : (kd == 3) = false := by simpa using hk3
          have e4 : (kd == 4) = false := by simpa using hk4
          obtain ⟨F7, hF7⟩ : ∃ F7, F7 = F := ⟨_, rfl⟩
          obtain ⟨d', hd'⟩ : ∃ d', d' = d := ⟨_, rfl⟩
          obtain ⟨R', hR'⟩ : ∃ R', R' = R := ⟨_, rfl⟩
          obtain ⟨W, hW⟩ : ∃ W, W = w4 := ⟨_, rfl⟩
          have HT := Lib.hid (show TD wB W F7 g b8 d' d'.norm R' by rw [hW, hF7, hd', hR']; exact HD4.out)
          have HRC' := Lib.hid HT.out.cs
          have HQ' := Lib.hid (show d'.queue.length ≤ 20 * (k + 1) by rw [hd']; have := HQ.out; omega)
          have HBN' := Lib.hid (show d'.base.length = N by rw [hd']; exact HBN.out)
          rw [← hW] at HW4 q0
          clear hk0 hk1 hk2 hk3 hk4 hd' hR' hF7
          have HSR := Lib.hid (sread_any g F7 d' p1 p2 W HT.out.dt I1.out I2.out)
          obtain ⟨r1, hr1⟩ : ∃ r, r = d'.slot p1 p2 := ⟨_, rfl⟩
          have HS1 := Lib.hid hr1
          rw [← hr1] at HSR
          obtain ⟨⟨sb, sn⟩, se⟩ := r1
          clear hr1
          have pw1 := (PLC.out _ HT.out.bl).1
          have pw2 := (PLC.out _ HT.out.bl).2
          clear hW
          go_wp2_with (first | ((with_reducible refine wpList_storeW rfl isAc _ _ rfl wr.heap.size c zA.toArray _ rfl rfl HAL.out HCC.out rfl ?_); rw [HW4.out]) | (with_reducible refine wpList_allocA rfl isAc rfl ?_) | (with_reducible refine wpList_idx elAc rfl _ _ rfl k rfl rfl rfl hlt ?_) | (with_reducible refine wpList_loadM rfl isAc _ rfl bb (ob + k * 5) c rfl HRB.out HCC.out ?_))
          refine HSR.out.mono ?_
          rintro _ wa ⟨aa, ca, rfl, hba, _, _, hbb⟩
          have HTA := Lib.hid (HT.out.below hbb)
          have HBA := Lib.hid hba
          have HRR := Lib.hid (HTA.out.rread I1.out I2.out)
          rw [norm_slot, ← HS1.out] at HRR
          clear hba hbb HSR pw1 pw2
          have px1 := (PLC.out _ HTA.out.bl).1
          have px2 := (PLC.out _ HTA.out.bl).2
          go_wp2_with (first | (with_reducible refine wpList_loadW rfl isD _ rfl b8 R' _ rfl HTA.out.h8 HRC'.out ?_))
          refine HRR.out.mono ?_
          rintro _ wb ⟨ab, cb, rfl, hba, _, _, hbb⟩
          have HTB := Lib.hid (HTA.out.below hbb)
          have HBB := Lib.hid hba
          have HBA := Lib.hid (HBA.out.below hbb)
          have HNX := Lib.hid (snext_any g F7 d' p1 p2 wb HTB.out.dt I1.out I2.out)
          obtain ⟨r2, hr2⟩ : ∃ r, r = d'.next p1 p2 := ⟨_, rfl⟩
          have HS2 := Lib.hid hr2
          unfold NxRes at HNX
          rw [← hr2] at HNX
          obtain ⟨xn, xe⟩ := r2
          clear hba hbb HRR px1 px2 hr2
          have py1 := (PLC.out _ HTB.out.bl).1
          have py2 := (PLC.out _ HTB.out.bl).2
          go_wp2_with fail
          refine HNX.out.mono ?_
          rintro _ wc ⟨rfl, hbb⟩
          have HTC := Lib.hid (HTB.out.below hbb)
          have HBA := Lib.hid (HBA.out.below hbb)
          have HBB := Lib.hid (HBB.out.below hbb)
          have HRN := Lib.hid (HTC.out.rnext I1.out I2.out)
          unfold NxRes at HRN
          rw [norm_next, ← HS2.out] at HRN
          clear hbb HNX py1 py2
          have pz1 := (PLC.out _ HTC.out.bl).1
          have pz2 := (PLC.out _ HTC.out.bl).2
          go_wp2_with (first | (with_reducible refine wpList_loadW rfl isD _ rfl b8 R' _ rfl HTC.out.h8 HRC'.out ?_))
          refine HRN.out.mono ?_
          rintro _ wd ⟨rfl, hbb⟩
          have HTD := Lib.hid (HTC.out.below hbb)
          have cv1 := run_conv (w := wd) (HBA.out.below hbb) sb.length ca rfl
          have cv2 := run_conv (w := wd) (HBB.out.below hbb) sb.length cb rfl
          clear hbb HRN pz1 pz2
          go_wp2
          go_roundw
          case rel => exact ⟨k + 1, F7, d', R', by go_num, by omega, HTD.out, HQ'.out, HBN'.out⟩
          case measure => simp; omega
      · obtain rfl : k = n1 := by omega
        clear hk hlt
        go_wp2
        go_ret
        exact ⟨rfl, HBB.out.trans (HD.out.bl.mono HBB.out.size)⟩
end Go.Proofs.Ytogdmjegcihopaa
