/- falseworkref08.Put. -/
import Derived.Test.YtoibonalgmmkbaaDkR
namespace Go.Proofs.Ytoibonalgmmkbaa
open Go.RowKit Go.Lib

theorem exec_buildI {o : Oper} {a : Act} {w : World} (x y : Operand) (ho : o.op = .build 78 #[(0, x), (1, y)]) (c : List Value) (n : Int) (hx : a.eval x = .agg c.toArray) (hy : a.eval y = .int .i64 n) (hc : c.length = 64) : (execOp a.eval o).run Try.prog w = .ok (.value (.agg (c ++ [Value.int .i64 n]).toArray)) w := by
  unfold execOp
  simp only [ho, Sem.run_bind, List.map_toArray, List.map_cons, List.map_nil, hx, hy, run_build w _ _ _ (builtI c n hc), Result.andThen_ok]
  rfl
section
variable {t e : TypeId} {size bytes : Nat}
theorem run_lit (E : El t e size bytes) (w : World) : (Instr.buildSlice t 0 #[]).run Try.prog w = .ok (.slice (some ⟨w.heap.size, 0, none⟩) 0 0) (w.alloc (.cells #[] e)) := by
  obtain ⟨i, z, hi, hz, hs1, hs8, hzs⟩ := E.inf
  simp [Instr.buildSlice, run_underlying E.und, Go.sizeOf, typeInfo, hi, Instr.fill, newRow]
  rw [show Array.range 0 = #[] from by decide]
  simp
theorem wp_lit (E : El t e size bytes) {o : Oper} {a : Act} {w : World} {K : Act → World → Prop} {Q : Exit → Act → World → Prop} (ho : o.op = .buildSlice t 0 #[]) (h : K (a.put o.dst (.slice (some ⟨w.heap.size, 0, none⟩) 0 0)) (w.alloc (.cells #[] e))) : o.wp Try.prog a w K Q := by
  unfold Oper.wp execOp
  simp only [ho, Sem.run_bind, List.map_toArray, List.map_nil, run_lit E w, Result.andThen_ok]
  exact h
end
/-- the new queue -/
theorem rq_end {W w1 w2 w3 w4 : World} {q : List (Nat × Sec)} {p : Nat × Sec} {c : List Value} {n0 : Nat} {v7 v8 : Value} (hc : c = icell p) (hb : RowKit.Below W.heap.size W w1) (hn0 : W.heap.size ≤ n0) (hl : Appd w1 W.heap.size 78 65 (.slice (some ⟨n0, 0, none⟩) 0 0) (0 + q.length) ([] ++ icells q) v7 w2)
    (hb2 : RowKit.Below W.heap.size W w2 → RowKit.Below w2.heap.size w2 w3) (hl2 : Appd w3 W.heap.size 78 65 v7 (0 + q.length + 1) ([] ++ icells q ++ c) v8 w4) :
    ∃ a c1, v8 = .slice a (q.length + 1) c1 ∧ Lie w4 a (icells (q ++ [p])) ∧ a ≠ none ∧ (∀ i, inBlk a i → W.heap.size ≤ i ∧ i < w4.heap.size) ∧ RowKit.Below W.heap.size W w4 := by
  have h2 : RowKit.Below W.heap.size W w2 := below_appd hl hb hb.size fun i hi => by cases hi; exact hn0
  have h3 := h2.trans ((hb2 h2).mono h2.size)
  have h4 : RowKit.Below W.heap.size W w4 := below_appd hl2 h3 h3.size fun i hi => (hl.1.lt i hi).1
  obtain ⟨ho, _, _⟩ := hl2
  rw [List.nil_append, Nat.zero_add] at ho
  obtain ⟨a, cp, hv, hli, _, hnn⟩ := ow_lie ho
  obtain ⟨g, cur, ha, hg⟩ := ow_head (by rw [hv] at ho; exact ho) (Nat.succ_pos _)
  refine ⟨a, cp, hv, by rw [icells_app, icells_sing, ← hc]; exact hli, (fun e => by rw [ha] at e; cases e), ?_, h4⟩
  rintro i ⟨z, e, rfl⟩
  exact ho.lt _ (by rw [hv, e]; rfl)
def RPutRes (F : Nat → Prop) (r : Dk) (x : Int) (s : Sec) (w : World) (e : Ending) (w' : World) : Prop := ∃ a0 c0 a1 c1, e = .returned (.tuple #[.agg (rcs (r.put x s) a0 c0 a1 c1).toArray, .int .i64 (r.putE x)]) ∧ RM w' F (r.put x s) a0 a1 ∧ RowKit.Below w.heap.size w w'
theorem wp_store1v {o : Oper} {a : Act} {w : World} {K : Act → World → Prop} {Q : Exit → Act → World → Prop} (T : TypeId) (x y : Operand) (ho : o.op = .store T x y) (p : Addr) {v : Value} (old : Value) (hx : a.eval x = .pointer (some p)) (hy : a.eval y = v) (hv : ∃ b n c, v = .slice b n c) (hi : (Try.prog.info? T).map (·.size) = some 1) (hc : w.cell? p = some old) (hf : w.frozen? p = false)
    (h : K (a.put o.dst undef) (w.setCell p v)) : o.wp Try.prog a w K Q := by
  obtain ⟨b, n, c, rfl⟩ := hv
  cases hq : Try.prog.info? T with
  | none => rw [hq] at hi; cases hi
  | some i =>
    have hs : i.size = 1 := by rw [hq] at hi; simpa using hi
    unfold Oper.wp execOp
    simp only [ho, hx, hy, Instr.storeAt, Instr.sureAddr, Sem.run_bind, Sem.run_pure, Result.andThen_ok, storeVar, Go.sizeOf, typeInfo]
    simp [hq, hs, Value.cells, storeCells, hc, hf, Addr.add, go_sem]
    exact h
set_option maxRecDepth 100000 in
set_option maxHeartbeats 3200000 in
theorem rput_any (r : Dk) (a0 : Option Addr) (c0 : Nat) (a1 : Option Addr) (c1 : Nat) (F : Nat → Prop) (x : Int) (s : Sec) (w : World) (hF : ∀ i, F i → i < w.heap.size) (h : RM w F r a0 a1) (hx : I x) (hs : s.length = 64) (hq : r.queue.length < 1000) :
    Calls Try.prog 34 #[.agg (rcs r a0 c0 a1 c1).toArray, .int .i64 x, .agg (bcells s).toArray] w (RPutRes F r x s w) := by
  obtain ⟨c, hc⟩ : ∃ c, c = bcells s := ⟨_, rfl⟩
  obtain ⟨R, hR⟩ : ∃ R, R = rcs r a0 c0 a1 c1 := ⟨_, rfl⟩
  have HR := Lib.hid hR
  have HRC := Lib.hid (show Cs 4 R by rw [hR]; exact rcs_cs _ _ _ _ _)
  have HCE := Lib.hid hc
  have HCs := Lib.hid (show Cs 64 c by rw [hc]; exact cs_sec hs)
  have HM := Lib.hid h
  have HF := Lib.hid hF
  have HX := Lib.hid hx
  have HQ := Lib.hid hq
  have HSL := Lib.hid hs
  obtain ⟨w3, hw3⟩ : ∃ w3, w3 = ((w.alloc (.cells R.toArray 37)).alloc (.cells c.toArray 59)).alloc (.cells [.slice none 0 0, .slice none 0 0, .int .i64 0, .bool false].toArray 37) := ⟨_, rfl⟩
  have HB3 := Lib.hid (show RowKit.Below w.heap.size w w3 by rw [hw3]; exact (((RowKit.Below.refl _ _).alloc (Nat.le_refl _) _).alloc (by simp) _).alloc (by simp; omega) _)
  have p3 : w3.heap[w.heap.size]? = some (.cells R.toArray 37) := by rw [hw3]; exact blk_in (blk_in (blkn rfl))
  have p5 : w3.heap[w.heap.size + 1]? = some (.cells c.toArray 59) := by rw [hw3]; exact blk_in (blkn (by simp))
  have p6 : w3.heap[w.heap.size + 2]? = some (.cells [.slice none 0 0, .slice none 0 0, .int .i64 0, .bool false].toArray 37) := by rw [hw3]; exact blkn (by simp)
  have q0 : w3.cell? ⟨w.heap.size, 0, none⟩ = some (.slice a0 r.base.length c0) := by rw [cell_of_row _ _ _ _ _ _ p3, hR]; rfl
  have HP3 := Lib.hid p3
  have HP5 := Lib.hid p5
  have HP6 := Lib.hid p6
  have HW3 := Lib.hid hw3
  have HSP := Lib.hid (fun W => spend_any r a0 c0 a1 c1 W h.ok.fz)
  rw [← hR] at HSP
  have hfail : r.has x = false → ∀ W, RowKit.Below w.heap.size w W → RPutRes F r x s w (.returned (.tuple #[.agg R.toArray, .int .i64 81])) W := fun hh W hb => by
    refine ⟨a0, c0, a1, c1, ?_, ?_, hb⟩
    · unfold Dk.putE Dk.put; rw [hh, hR]; rfl
    · unfold Dk.put; rw [hh]; exact h.below hb
  have hdead : r.has x = true → r.live = false → ∀ W fu dd, r.spend = { r with fuse := fu, dead := dd } → RowKit.Below w.heap.size w W → RPutRes F r x s w (.returned (.tuple #[.agg (rcs { r with fuse := fu, dead := dd } a0 c0 a1 c1).toArray, .int .i64 82])) W := fun hh hl W fu dd hsp hb => by
    have hfz := h.ok.spend.fz
    rw [hsp] at hfz
    refine ⟨a0, c0, a1, c1, ?_, ?_, hb⟩
    · unfold Dk.putE Dk.put; rw [hh, hl, hsp]; rfl
    · unfold Dk.put; rw [hh, hl, hsp]; exact (h.below hb).head hfz
  have HDEAD := Lib.hid hdead
  rw [← hc, ← hR]
  have hcs : (x < 0 ∨ (r.base.length : Int) ≤ x) ∨ (0 ≤ x ∧ x < (r.base.length : Int)) := by omega
  rcases hcs with hbad | ⟨hx0, hxN⟩
  · have HFA := Lib.hid (hfail (by unfold Dk.has; simp; omega))
    clear hfail hdead hR hc hw3 p3 p5 p6 h hF hx hs hq HDEAD
    rcases hbad with hbad | hbad
    all_goals
      first | (have d0 : decide (x < 0) = true := (by simpa using hbad); clear hbad) | (have d0 : decide (x < 0) = false := (by simp; omega); have d1 : decide ((r.base.length : Int) ≤ x) = true := (by simpa using hbad); clear hbad)
      go_enter Try.func34, Try.ntmps34
      go_wp2_with (first | (with_reducible refine wpList_boxA rfl _ _ rfl _ rfl ?_) | ((with_reducible refine wpList_allocA rfl isD rfl ?_); rw [← HW3.out]) | (with_reducible refine wpList_loadW rfl isD _ rfl w.heap.size R _ rfl HP3.out HRC.out ?_) | (with_reducible refine wpList_storeW rfl isD _ _ rfl (w.heap.size + 2) R _ _ rfl rfl HP6.out HRC.out rfl ?_))
      refine ret_cell_slot isD rfl rfl rfl (setRow_heap _ _ _ _ _ _ HP6.out) HRC.out rfl ?_
      exact HFA.out _ (below_setRow HB3.out (by omega))
  · have HHAS := Lib.hid (show r.has x = true by unfold Dk.has; simp; omega)
    have HX0 := Lib.hid hx0
    have d0 : decide (x < 0) = false := by simp; omega
    have d1 : decide ((r.base.length : Int) ≤ x) = false := by simp; omega
    clear hfail hdead hR hc hw3 p3 p5 p6 h hF hx hs hq hx0 hxN
    go_enter Try.func34, Try.ntmps34
    go_wp2_with (first | (with_reducible refine wpList_boxA rfl _ _ rfl _ rfl ?_) | ((with_reducible refine wpList_allocA rfl isD rfl ?_); rw [← HW3.out]) | (with_reducible refine wpList_loadW rfl isD _ rfl w.heap.size R _ rfl HP3.out HRC.out ?_))
    refine (HSP.out w3).mono ?_
    rintro _ w1 ⟨fu, dd, hsp, rfl, hb1⟩
    obtain ⟨R1, hR1⟩ : ∃ R1, R1 = rcs { r with fuse := fu, dead := dd } a0 c0 a1 c1 := ⟨_, rfl⟩
    have HR1 := Lib.hid hR1
    have HRC1 := Lib.hid (show Cs 4 R1 by rw [hR1]; exact rcs_cs _ _ _ _ _)
    rw [← hR1]
    have HS1 := Lib.hid hsp
    have HB1 := Lib.hid (HB3.out.trans (hb1.mono HB3.out.size))
    obtain ⟨w8, hw8⟩ : ∃ w8, w8 = w1.alloc (.cells R1.toArray 37) := ⟨_, rfl⟩
    have HW8 := Lib.hid (show (w1.alloc (.cells [.slice none 0 0, .slice none 0 0, .int .i64 0, .bool false].toArray 37)).setRow w1.heap.size R1.toArray = w8 by rw [hw8]; exact setRow_new rfl)
    have P3 := Lib.hid (show w8.heap[w.heap.size]? = some (.cells R.toArray 37) by rw [hw8]; exact blk_in ((hb1.block _ (lt_of_heap HP3.out)).trans HP3.out))
    have P5 := Lib.hid (show w8.heap[w.heap.size + 1]? = some (.cells c.toArray 59) by rw [hw8]; exact blk_in ((hb1.block _ (lt_of_heap HP5.out)).trans HP5.out))
    have P6 := Lib.hid (show w8.heap[w.heap.size + 2]? = some (.cells [.slice none 0 0, .slice none 0 0, .int .i64 0, .bool false].toArray 37) by rw [hw8]; exact blk_in ((hb1.block _ (lt_of_heap HP6.out)).trans HP6.out))
    have P8 := Lib.hid (show w8.heap[w1.heap.size]? = some (.cells R1.toArray 37) by rw [hw8]; exact blkn rfl)
    have HB8 := Lib.hid (show RowKit.Below w.heap.size w w8 by rw [hw8]; exact HB1.out.alloc HB1.out.size _)
    have HN1 := Lib.hid (show w.heap.size + 2 < w1.heap.size from Nat.lt_of_lt_of_le (lt_of_heap HP6.out) hb1.size)
    have HN8 := Lib.hid (show w8.heap.size = w1.heap.size + 1 by rw [hw8]; simp)
    have HAL := Lib.hid (heap_alloc_new w1 (.cells [.slice none 0 0, .slice none 0 0, .int .i64 0, .bool false].toArray 37))
    clear hb1 hR1 hsp hw8 q0 d0 d1
    cases hl : r.live with
    | false =>
      have HLV := Lib.hid hl
      clear hl
      go_wp2_with (first | (with_reducible refine wpList_allocA rfl isD rfl ?_) | ((with_reducible refine wpList_storeW rfl isD _ _ rfl w1.heap.size R1 _ _ rfl rfl HAL.out HRC1.out rfl ?_); rw [HW8.out]) | (with_reducible refine wpList_loadW rfl isD _ rfl w1.heap.size R1 _ rfl P8.out HRC1.out ?_) | (with_reducible refine wpList_storeW rfl isD _ _ rfl (w.heap.size + 2) R1 _ _ rfl rfl P6.out HRC1.out rfl ?_))
      refine ret_cell_slot isD rfl rfl rfl (setRow_heap _ _ _ _ _ _ P6.out) HRC1.out rfl ?_
      rw [HR1.out]
      exact HDEAD.out HHAS.out HLV.out _ fu dd HS1.out (below_setRow HB8.out (by omega))
    | true =>
      have HLV := Lib.hid hl
      clear hl HDEAD
      go_wp2_with (first | (with_reducible refine wpList_allocA rfl isD rfl ?_) | ((with_reducible refine wpList_storeW rfl isD _ _ rfl w1.heap.size R1 _ _ rfl rfl HAL.out HRC1.out rfl ?_); rw [HW8.out]))
      have HQ1 := Lib.hid (show w8.cell? ⟨w.heap.size, 1, none⟩ = some (.slice a1 r.queue.length c1) by rw [cell_of_row _ _ _ _ _ _ P3.out, HR.out]; rfl)
      have HRG := Lib.hid (show w8.rangeAt (w.heap.size + 1) 0 c from range_row P5.out)
      have HXN := Lib.hid (show ((x.toNat : Nat) : Int) = x by have := HX0.out; omega)
      have HIC := Lib.hid (show c ++ [Value.int .i64 x] = icell (x.toNat, s) by unfold icell; rw [HCE.out]; show _ = _ ++ [Value.int .i64 ((x.toNat : Nat) : Int)]; rw [HXN.out])
      obtain ⟨ci, hci⟩ : ∃ ci, ci = c ++ [Value.int .i64 x] := ⟨_, rfl⟩
      have HCI := Lib.hid hci
      have HCIC := Lib.hid (show Cs 65 ci by rw [hci, HIC.out]; exact cs_item HSL.out)
      have HLQ := Lib.hid (fun (W : World) (e : RowKit.Below w.heap.size w W) => HM.out.qs.below e)
      have HIL := Lib.hid (icells_len HM.out.ok.ql)
      have HQ0 := Lib.hid HM.out.q0
      have HEND := Lib.hid (show ∀ (W4 : World) (v8 : Value), (∃ a c1', v8 = .slice a (r.queue.length + 1) c1' ∧ Lie W4 a (icells (r.queue ++ [(x.toNat, s)])) ∧ a ≠ none ∧ (∀ i, inBlk a i → w8.heap.size ≤ i ∧ i < W4.heap.size) ∧ RowKit.Below w8.heap.size w8 W4) →
        (∃ R9, Cs 4 R9 ∧ (W4.setCell ⟨w1.heap.size, 1, none⟩ v8).heap[w1.heap.size]? = some (.cells R9.toArray 37) ∧ (W4.setCell ⟨w1.heap.size, 1, none⟩ v8).heap[w.heap.size + 2]? = some (.cells [.slice none 0 0, .slice none 0 0, .int .i64 0, .bool false].toArray 37) ∧ RPutRes F r x s w (.returned (.tuple #[.agg R9.toArray, .int .i64 0])) ((W4.setCell ⟨w1.heap.size, 1, none⟩ v8).setRow (w.heap.size + 2) R9.toArray)) from by
        rintro W4 v8 ⟨a, c1', rfl, hli, hne, hbl, hb⟩
        have h8 : W4.heap[w1.heap.size]? = some (.cells R1.toArray 37) := (hb.block _ (lt_of_heap P8.out)).trans P8.out
        have h6 : W4.heap[w.heap.size + 2]? = some _ := (hb.block _ (lt_of_heap P6.out)).trans P6.out
        have hs8 := heap_setCell_same W4 w1.heap.size 1 _ _ (.slice a (r.queue.length + 1) c1') h8
        have hput : r.put x s = { { r with fuse := fu, dead := dd } with queue := r.queue ++ [(x.toNat, s)] } := by unfold Dk.put; rw [HHAS.out, HLV.out, HS1.out]; rfl
        have hlq : (r.queue ++ [(x.toNat, s)]).length = r.queue.length + 1 := by simp
        have hR9 : (rcs (r.put x s) a0 c0 a c1').toArray = R1.toArray.setIfInBounds 1 (.slice a (r.queue.length + 1) c1') := by
          rw [hput, HR1.out]
          unfold rcs
          simp only [hlq]
          rfl
        rw [← hR9] at hs8
        have hall : RowKit.Below w.heap.size w (W4.setCell ⟨w1.heap.size, 1, none⟩ (.slice a (r.queue.length + 1) c1')) := (HB8.out.trans (hb.mono HB8.out.size)).setCell (by have := HN1.out; show w.heap.size ≤ w1.heap.size; omega) _
        have hok := HM.out.ok.put (x := x) (s := s) HSL.out HQ.out
        refine ⟨_, rcs_cs _ _ _ _ _, hs8, (heap_setCell_other _ _ _ _ (by have := HN1.out; show w.heap.size + 2 ≠ w1.heap.size; omega)).trans h6, a0, c0, a, c1', ?_, ?_, below_setRow hall (by omega)⟩
        · unfold Dk.putE; rw [HHAS.out, HLV.out]; rfl
        · have hall2 := below_setRow (g := w.heap.size + 2) (cs := (rcs (r.put x s) a0 c0 a c1').toArray) hall (by omega)
          have hm := HM.out.below hall2
          have hbse : (r.put x s).base = r.base := by rw [hput]
          refine ⟨hok, by rw [hbse]; exact hm.bs, by rw [hbse]; exact hm.b0, ?_, fun e => absurd e hne, hm.o0, fun b hi hf => ?_, hm.l0, fun b hi => ?_⟩
          · rw [show (r.put x s).queue = r.queue ++ [(x.toNat, s)] by rw [hput]]
            refine hli.same (by simp) fun b hi => ?_
            have h1 := (hbl b hi).1
            have := HN1.out; have := HN8.out
            exact (setRow_other _ _ _ _ (by omega)).trans (heap_setCell_other _ _ _ _ (by show b ≠ w1.heap.size; omega))
          · have h1 := (hbl b hi).1
            have h2 := HF.out b hf
            have := HB8.out.size
            omega
          · have h1 := (hbl b hi).2
            simpa using h1)
      clear hci
      go_wp2_with fail
      refine wp_region_held_drew (S := fun W => Agree [w.heap.size, w.heap.size + 1] w8 W) (by kernel_rfl) ?_ (fun hHeld => ?_)
      · exact fun _ _ => rfl
      refine held_take 1 (v := ?_) rfl (by kernel_rfl) (by kernel_rfl) (by kernel_rfl) (fun _ _ _ h => h) hHeld (by rfl) ?_ ?_
      rotate_left
      · (intro W hW; go_simp; try with_reducible rfl)
      try simp only [Act.put, List.setIfInBounds_toArray, List.set_cons_zero, List.set_cons_succ]
      refine held_take 2 (v := ?_) rfl (by kernel_rfl) (by kernel_rfl) (by kernel_rfl) (fun _ _ _ h => h) hHeld (by rfl) ?_ ?_
      rotate_left
      · (intro W hW; have e := hW.cell (by simp) HQ1.out; go_simp; try with_reducible rfl)
      try simp only [Act.put, List.setIfInBounds_toArray, List.set_cons_zero, List.set_cons_succ]
      refine held_take 4 (v := .agg c.toArray) rfl (by kernel_rfl) (by kernel_rfl) (by kernel_rfl) (fun _ _ _ h => h) hHeld (by rfl) (fun W hW => exec_loadM isS _ rfl _ _ c rfl (hW.range (by simp) HRG.out) HCs.out) ?_
      try simp only [Act.put, List.setIfInBounds_toArray, List.set_cons_zero, List.set_cons_succ]
      refine held_take 5 (v := ?_) rfl (by kernel_rfl) (by kernel_rfl) (by kernel_rfl) (fun _ _ _ h => h) hHeld (by rfl) ?_ ?_
      rotate_left
      · (intro W hW; go_simp; try with_reducible rfl)
      try simp only [Act.put, List.setIfInBounds_toArray, List.set_cons_zero, List.set_cons_succ]
      refine held_take 6 (v := .agg (c ++ [Value.int .i64 x]).toArray) rfl (by kernel_rfl) (by kernel_rfl) (by kernel_rfl) (fun _ _ _ h => h) hHeld (by rfl) (fun W hW => exec_buildI _ _ rfl c x rfl rfl HCs.out.len) ?_
      try simp only [Act.put, List.setIfInBounds_toArray, List.set_cons_zero, List.set_cons_succ]
      rw [← HCI.out]
      have HLT := Lib.hid (show ∀ i ∈ [w.heap.size, w.heap.size + 1], i < w8.heap.size from fun i hi => by have := HN8.out; have := HN1.out; simp at hi; rcases hi with e | e <;> omega)
      have HLT1 := Lib.hid (show ∀ i ∈ [w.heap.size, w.heap.size + 1], i < w1.heap.size from fun i hi => by have := HN1.out; simp at hi; rcases hi with e | e <;> omega)
      refine held_two 0 7 rfl rfl (by kernel_rfl) (by rfl) (by rfl) (fun K hK => ?_) (fun K hK => ?_)
      · have HBl := Lib.hid (show RowKit.Below w8.heap.size w8 ((w8.drew.alloc (.cells #[] 78))) from (RowKit.Below.refl _ _).drew.alloc (Nat.le_refl _) _)
        refine wp_lit elI rfl ?_
        refine hK.out _ _ (fun i hi => HBl.out.block i (HLT.out i hi)) (fun hHeld => ?_)
        clear hK K
        try simp only [Act.put, List.setIfInBounds_toArray, List.set_cons_zero, List.set_cons_succ]
        refine held_two 3 7 rfl rfl (by kernel_rfl) (by rfl) (by rfl) (fun K hK => ?_) (fun K hK => ?_)
        · refine wp_appO elI (t := 35) (w := (w8.drew.alloc (.cells #[] 78))) _ _ rfl w8.heap.size (.slice (some ⟨w8.heap.size, 0, none⟩) 0 0) 0 [] a1 r.queue.length c1 (icells r.queue) rfl rfl (World.ownsRow_lit (base := w8.heap.size) (e := 78) (size := 65) w8.drew #[] 0 (Nat.le_refl _) (by decide) rfl) HIL.out (HLQ.out _ (HB8.out.trans (HBl.out.mono HB8.out.size))) HQ0.out (icells_one _) (by have := HQ.out; omega) (by decide) HBl.out.size (fun v7 w7 h7 => ?_)
          have H7 := Lib.hid h7
          have HB7 := Lib.hid (below_appd h7 HBl.out HBl.out.size fun i hi => by cases hi; first | exact Nat.le_refl _ | exact HBi.out.size)
          clear h7
          refine hK.out _ _ (fun i hi => HB7.out.block i (HLT.out i hi)) (fun hHeld => ?_)
          clear hK K
          try simp only [Act.put, List.setIfInBounds_toArray, List.set_cons_zero, List.set_cons_succ]
          refine held_next 7 rfl (by kernel_rfl) (by rfl) (fun K hK => ?_)
          have HB7a := Lib.hid (show RowKit.Below w8.heap.size w8 (w7.alloc (.cells ci.toArray 78)) from HB7.out.alloc HB7.out.size _)
          refine wp_one elI _ rfl ci rfl HCIC.out.len (by decide) ?_
          refine hK.out _ _ (fun i hi => HB7a.out.block i (HLT.out i hi)) (fun hHeld => ?_)
          clear hK K
          try simp only [Act.put, List.setIfInBounds_toArray, List.set_cons_zero, List.set_cons_succ]
          refine held_next 8 rfl (by kernel_rfl) (by rfl) (fun K hK => ?_)
          refine wp_appO elI (t := 35) (w := (w7.alloc (.cells ci.toArray 78))) _ _ rfl w8.heap.size v7 (0 + r.queue.length) ([] ++ icells r.queue) (some ⟨w7.heap.size, 0, none⟩) 1 1 ci rfl rfl (H7.out.1.alloc _) (by rw [HCIC.out.len]) (lie_new w7 ci _) (fun e => by cases e) HCIC.out.one (by have := HQ.out; omega) (by decide) HB7a.out.size (fun v8 w9 h8 => ?_)
          have HRQ := Lib.hid (rq_end (W := w8) (p := (x.toNat, s)) (HCI.out.trans HIC.out) HBl.out (Nat.le_refl _) H7.out (fun _ => (RowKit.Below.refl _ _).alloc (Nat.le_refl _) _) h8)
          have HB9 := Lib.hid (show RowKit.Below w8.heap.size w8 w9 from by obtain ⟨_, _, _, _, _, _, e⟩ := HRQ.out; exact e)
          have HV8 := Lib.hid (show ∃ a n c, v8 = .slice a n c from by obtain ⟨a, c, e, _⟩ := HRQ.out; exact ⟨a, _, c, e⟩)
          have HC81 := Lib.hid (show w9.cell? ⟨w1.heap.size, 1, none⟩ = some (.slice a1 r.queue.length c1) by rw [cell_of_row _ _ _ _ _ _ ((HB9.out.block _ (lt_of_heap P8.out)).trans P8.out), HR1.out]; rfl)
          have HF81 := Lib.hid (show w9.frozen? ⟨w1.heap.size, 1, none⟩ = false from frozen_of_row _ _ _ _ _ ((HB9.out.block _ (lt_of_heap P8.out)).trans P8.out))
          clear h8
          refine hK.out _ _ (fun i hi => HB9.out.block i (HLT.out i hi)) (fun hHeld => ?_)
          clear hK K
          try simp only [Act.put, List.setIfInBounds_toArray, List.set_cons_zero, List.set_cons_succ]
          obtain ⟨R9, hc9, h89, h69, hres⟩ := HEND.out _ _ HRQ.out
          have HC9 := Lib.hid hc9
          have H89 := Lib.hid h89
          have H69 := Lib.hid h69
          have HRES := Lib.hid hres
          clear hc9 h89 h69 hres
          refine held_take 9 (v := ?_) rfl (by kernel_rfl) (by kernel_rfl) (by kernel_rfl) (fun _ _ _ h => h) hHeld (by rfl) ?_ ?_
          rotate_left
          · (intro W hW; go_simp; try with_reducible rfl)
          try simp only [Act.put, List.setIfInBounds_toArray, List.set_cons_zero, List.set_cons_succ]
          refine held_next 10 rfl (by kernel_rfl) (by rfl) (fun K hK => ?_)
          refine wp_store1v _ _ _ rfl ⟨w1.heap.size, 1, none⟩ (v := v8) _ rfl rfl HV8.out (by kernel_rfl) HC81.out HF81.out ?_
          refine hK.out _ _ (fun i hi => (heap_setCell_other _ _ _ _ (by have := HLT1.out i hi; show i ≠ w1.heap.size; omega)).trans (HB9.out.block i (HLT.out i hi))) (fun hHeld => ?_)
          clear hK K
          refine wpAnyH_done (by kernel_rfl) ?_ _
          go_simp
          go_wp2_with (first | (with_reducible refine wpList_loadW rfl isD _ rfl w1.heap.size R9 _ rfl H89.out HC9.out ?_) | (with_reducible refine wpList_storeW rfl isD _ _ rfl (w.heap.size + 2) R9 _ _ rfl rfl H69.out HC9.out rfl ?_))
          refine ret_cell_slot isD rfl rfl rfl (setRow_heap _ _ _ _ _ _ H69.out) HC9.out rfl ?_
          exact HRES.out
        · have HBl2 := Lib.hid (show RowKit.Below w8.heap.size w8 ((w8.drew.alloc (.cells #[] 78)).alloc (.cells ci.toArray 78)) from HBl.out.alloc HBl.out.size _)
          refine wp_one elI _ rfl ci rfl HCIC.out.len (by decide) ?_
          refine hK.out _ _ (fun i hi => HBl2.out.block i (HLT.out i hi)) (fun hHeld => ?_)
          clear hK K
          try simp only [Act.put, List.setIfInBounds_toArray, List.set_cons_zero, List.set_cons_succ]
          refine held_next 3 rfl (by kernel_rfl) (by rfl) (fun K hK => ?_)
          refine wp_appO elI (t := 35) (w := ((w8.drew.alloc (.cells #[] 78)).alloc (.cells ci.toArray 78))) _ _ rfl w8.heap.size (.slice (some ⟨w8.heap.size, 0, none⟩) 0 0) 0 [] a1 r.queue.length c1 (icells r.queue) rfl rfl ((World.ownsRow_lit (base := w8.heap.size) (e := 78) (size := 65) w8.drew #[] 0 (Nat.le_refl _) (by decide) rfl).alloc _) HIL.out (HLQ.out _ (HB8.out.trans (HBl2.out.mono HB8.out.size))) HQ0.out (icells_one _) (by have := HQ.out; omega) (by decide) HBl2.out.size (fun v7 w7 h7 => ?_)
          have H7 := Lib.hid h7
          have HB7 := Lib.hid (below_appd h7 HBl2.out HBl2.out.size fun i hi => by cases hi; first | exact Nat.le_refl _ | exact HBi.out.size)
          clear h7
          refine hK.out _ _ (fun i hi => HB7.out.block i (HLT.out i hi)) (fun hHeld => ?_)
          clear hK K
          try simp only [Act.put, List.setIfInBounds_toArray, List.set_cons_zero, List.set_cons_succ]
          refine held_next 8 rfl (by kernel_rfl) (by rfl) (fun K hK => ?_)
          refine wp_appO elI (t := 35) (w := w7) _ _ rfl w8.heap.size v7 (0 + r.queue.length) ([] ++ icells r.queue) (some ⟨(w8.drew.alloc (.cells #[] 78)).heap.size, 0, none⟩) 1 1 ci rfl rfl (H7.out.1) (by rw [HCIC.out.len]) (Lie.same (w := (w8.drew.alloc (.cells #[] 78)).alloc (.cells ci.toArray 78)) (a := some ⟨(w8.drew.alloc (.cells #[] 78)).heap.size, 0, none⟩) (lie_new (w8.drew.alloc (.cells #[] 78)) ci _) H7.out.2.1.size (fun b hb => H7.out.2.1.block b (by obtain ⟨z, e, rfl⟩ := hb; cases e; simp) (fun e2 => by obtain ⟨z, e, rfl⟩ := hb; cases e; simp [Value.ownBlock] at e2))) (fun e => by cases e) HCIC.out.one (by have := HQ.out; omega) (by decide) HB7.out.size (fun v8 w9 h8 => ?_)
          have HRQ := Lib.hid (rq_end (W := w8) (p := (x.toNat, s)) (HCI.out.trans HIC.out) HBl2.out (Nat.le_refl _) H7.out (fun _ => RowKit.Below.refl _ _) h8)
          have HB9 := Lib.hid (show RowKit.Below w8.heap.size w8 w9 from by obtain ⟨_, _, _, _, _, _, e⟩ := HRQ.out; exact e)
          have HV8 := Lib.hid (show ∃ a n c, v8 = .slice a n c from by obtain ⟨a, c, e, _⟩ := HRQ.out; exact ⟨a, _, c, e⟩)
          have HC81 := Lib.hid (show w9.cell? ⟨w1.heap.size, 1, none⟩ = some (.slice a1 r.queue.length c1) by rw [cell_of_row _ _ _ _ _ _ ((HB9.out.block _ (lt_of_heap P8.out)).trans P8.out), HR1.out]; rfl)
          have HF81 := Lib.hid (show w9.frozen? ⟨w1.heap.size, 1, none⟩ = false from frozen_of_row _ _ _ _ _ ((HB9.out.block _ (lt_of_heap P8.out)).trans P8.out))
          clear h8
          refine hK.out _ _ (fun i hi => HB9.out.block i (HLT.out i hi)) (fun hHeld => ?_)
          clear hK K
          try simp only [Act.put, List.setIfInBounds_toArray, List.set_cons_zero, List.set_cons_succ]
          obtain ⟨R9, hc9, h89, h69, hres⟩ := HEND.out _ _ HRQ.out
          have HC9 := Lib.hid hc9
          have H89 := Lib.hid h89
          have H69 := Lib.hid h69
          have HRES := Lib.hid hres
          clear hc9 h89 h69 hres
          refine held_take 9 (v := ?_) rfl (by kernel_rfl) (by kernel_rfl) (by kernel_rfl) (fun _ _ _ h => h) hHeld (by rfl) ?_ ?_
          rotate_left
          · (intro W hW; go_simp; try with_reducible rfl)
          try simp only [Act.put, List.setIfInBounds_toArray, List.set_cons_zero, List.set_cons_succ]
          refine held_next 10 rfl (by kernel_rfl) (by rfl) (fun K hK => ?_)
          refine wp_store1v _ _ _ rfl ⟨w1.heap.size, 1, none⟩ (v := v8) _ rfl rfl HV8.out (by kernel_rfl) HC81.out HF81.out ?_
          refine hK.out _ _ (fun i hi => (heap_setCell_other _ _ _ _ (by have := HLT1.out i hi; show i ≠ w1.heap.size; omega)).trans (HB9.out.block i (HLT.out i hi))) (fun hHeld => ?_)
          clear hK K
          refine wpAnyH_done (by kernel_rfl) ?_ _
          go_simp
          go_wp2_with (first | (with_reducible refine wpList_loadW rfl isD _ rfl w1.heap.size R9 _ rfl H89.out HC9.out ?_) | (with_reducible refine wpList_storeW rfl isD _ _ rfl (w.heap.size + 2) R9 _ _ rfl rfl H69.out HC9.out rfl ?_))
          refine ret_cell_slot isD rfl rfl rfl (setRow_heap _ _ _ _ _ _ H69.out) HC9.out rfl ?_
          exact HRES.out
      · have HBi := Lib.hid (show RowKit.Below w8.heap.size w8 ((w8.drew.alloc (.cells ci.toArray 78))) from (RowKit.Below.refl _ _).drew.alloc (Nat.le_refl _) _)
        refine wp_one elI _ rfl ci rfl HCIC.out.len (by decide) ?_
        refine hK.out _ _ (fun i hi => HBi.out.block i (HLT.out i hi)) (fun hHeld => ?_)
        clear hK K
        try simp only [Act.put, List.setIfInBounds_toArray, List.set_cons_zero, List.set_cons_succ]
        refine held_next 0 rfl (by kernel_rfl) (by rfl) (fun K hK => ?_)
        have HBl := Lib.hid (show RowKit.Below w8.heap.size w8 ((w8.drew.alloc (.cells ci.toArray 78)).alloc (.cells #[] 78)) from HBi.out.alloc HBi.out.size _)
        refine wp_lit elI rfl ?_
        refine hK.out _ _ (fun i hi => HBl.out.block i (HLT.out i hi)) (fun hHeld => ?_)
        clear hK K
        try simp only [Act.put, List.setIfInBounds_toArray, List.set_cons_zero, List.set_cons_succ]
        refine held_next 3 rfl (by kernel_rfl) (by rfl) (fun K hK => ?_)
        refine wp_appO elI (t := 35) (w := ((w8.drew.alloc (.cells ci.toArray 78)).alloc (.cells #[] 78))) _ _ rfl w8.heap.size (.slice (some ⟨(w8.drew.alloc (.cells ci.toArray 78)).heap.size, 0, none⟩) 0 0) 0 [] a1 r.queue.length c1 (icells r.queue) rfl rfl ((by have := World.ownsRow_lit (base := w8.heap.size) (e := 78) (size := 65) (w8.drew.alloc (.cells ci.toArray 78)) #[] 0 HBi.out.size (by decide) rfl; exact this)) HIL.out (HLQ.out _ (HB8.out.trans (HBl.out.mono HB8.out.size))) HQ0.out (icells_one _) (by have := HQ.out; omega) (by decide) HBl.out.size (fun v7 w7 h7 => ?_)
        have H7 := Lib.hid h7
        have HB7 := Lib.hid (below_appd h7 HBl.out HBl.out.size fun i hi => by cases hi; first | exact Nat.le_refl _ | exact HBi.out.size)
        clear h7
        refine hK.out _ _ (fun i hi => HB7.out.block i (HLT.out i hi)) (fun hHeld => ?_)
        clear hK K
        try simp only [Act.put, List.setIfInBounds_toArray, List.set_cons_zero, List.set_cons_succ]
        refine held_next 8 rfl (by kernel_rfl) (by rfl) (fun K hK => ?_)
        refine wp_appO elI (t := 35) (w := w7) _ _ rfl w8.heap.size v7 (0 + r.queue.length) ([] ++ icells r.queue) (some ⟨w8.heap.size, 0, none⟩) 1 1 ci rfl rfl (H7.out.1) (by rw [HCIC.out.len]) (Lie.same (w := (w8.drew.alloc (.cells ci.toArray 78)).alloc (.cells #[] 78)) (a := some ⟨w8.heap.size, 0, none⟩) ((lie_new w8.drew ci _).below ((RowKit.Below.refl _ _).alloc (Nat.le_refl _) _)) H7.out.2.1.size (fun b hb => H7.out.2.1.block b (by obtain ⟨z, e, rfl⟩ := hb; cases e; simp; omega) (fun e2 => by obtain ⟨z, e, rfl⟩ := hb; cases e; simp [Value.ownBlock] at e2))) (fun e => by cases e) HCIC.out.one (by have := HQ.out; omega) (by decide) HB7.out.size (fun v8 w9 h8 => ?_)
        have HRQ := Lib.hid (rq_end (W := w8) (p := (x.toNat, s)) (HCI.out.trans HIC.out) HBl.out (HBi.out.size) H7.out (fun _ => RowKit.Below.refl _ _) h8)
        have HB9 := Lib.hid (show RowKit.Below w8.heap.size w8 w9 from by obtain ⟨_, _, _, _, _, _, e⟩ := HRQ.out; exact e)
        have HV8 := Lib.hid (show ∃ a n c, v8 = .slice a n c from by obtain ⟨a, c, e, _⟩ := HRQ.out; exact ⟨a, _, c, e⟩)
        have HC81 := Lib.hid (show w9.cell? ⟨w1.heap.size, 1, none⟩ = some (.slice a1 r.queue.length c1) by rw [cell_of_row _ _ _ _ _ _ ((HB9.out.block _ (lt_of_heap P8.out)).trans P8.out), HR1.out]; rfl)
        have HF81 := Lib.hid (show w9.frozen? ⟨w1.heap.size, 1, none⟩ = false from frozen_of_row _ _ _ _ _ ((HB9.out.block _ (lt_of_heap P8.out)).trans P8.out))
        clear h8
        refine hK.out _ _ (fun i hi => HB9.out.block i (HLT.out i hi)) (fun hHeld => ?_)
        clear hK K
        try simp only [Act.put, List.setIfInBounds_toArray, List.set_cons_zero, List.set_cons_succ]
        obtain ⟨R9, hc9, h89, h69, hres⟩ := HEND.out _ _ HRQ.out
        have HC9 := Lib.hid hc9
        have H89 := Lib.hid h89
        have H69 := Lib.hid h69
        have HRES := Lib.hid hres
        clear hc9 h89 h69 hres
        refine held_take 9 (v := ?_) rfl (by kernel_rfl) (by kernel_rfl) (by kernel_rfl) (fun _ _ _ h => h) hHeld (by rfl) ?_ ?_
        rotate_left
        · (intro W hW; go_simp; try with_reducible rfl)
        try simp only [Act.put, List.setIfInBounds_toArray, List.set_cons_zero, List.set_cons_succ]
        refine held_next 10 rfl (by kernel_rfl) (by rfl) (fun K hK => ?_)
        refine wp_store1v _ _ _ rfl ⟨w1.heap.size, 1, none⟩ (v := v8) _ rfl rfl HV8.out (by kernel_rfl) HC81.out HF81.out ?_
        refine hK.out _ _ (fun i hi => (heap_setCell_other _ _ _ _ (by have := HLT1.out i hi; show i ≠ w1.heap.size; omega)).trans (HB9.out.block i (HLT.out i hi))) (fun hHeld => ?_)
        clear hK K
        refine wpAnyH_done (by kernel_rfl) ?_ _
        go_simp
        go_wp2_with (first | (with_reducible refine wpList_loadW rfl isD _ rfl w1.heap.size R9 _ rfl H89.out HC9.out ?_) | (with_reducible refine wpList_storeW rfl isD _ _ rfl (w.heap.size + 2) R9 _ _ rfl rfl H69.out HC9.out rfl ?_))
        refine ret_cell_slot isD rfl rfl rfl (setRow_heap _ _ _ _ _ _ H69.out) HC9.out rfl ?_
        exact HRES.out
end Go.Proofs.Ytoibonalgmmkbaa
