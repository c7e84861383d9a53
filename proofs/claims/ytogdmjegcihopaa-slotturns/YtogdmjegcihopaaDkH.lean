
/- Package disk: Put. -/
import Derived.Test.YtogdmjegcihopaaDkG
namespace Go.Proofs.Ytogdmjegcihopaa
set_option maxRecDepth 100000
open Go.RowKit Go.Lib

theorem wp_look {o : Oper} {a : Act} {w : World} {K : Act → World → Prop} {Q : Exit → Act → World → Prop} (mo xo : Operand) (ho : o.op = .lookup 63 mo xo false) {m : Nat} {x : Int} (hm : a.eval mo = .map (some m)) (hx : a.eval xo = .int .i64 x) {v : Value}
    (hrun : (Instr.lookup 63 (.map (some m)) (.int .i64 x) false).run Try.prog w = .ok v w) (h : K (a.put o.dst v) w) : o.wp Try.prog a w K Q := by
  unfold Oper.wp execOp
  simp only [ho, hm, hx, Sem.run_bind, Sem.run_pure, Result.andThen_ok, hrun]
  exact h
theorem wp_upd {o : Oper} {a : Act} {w : World} {K : Act → World → Prop} {Q : Exit → Act → World → Prop} (mo xo vo : Operand) (ho : o.op = .mapUpdate 63 mo xo vo) {m cnt : Nat} {f : Int → Value} {x : Int} {v : Value} (hm : a.eval mo = .map (some m)) (hx : a.eval xo = .int .i64 x) (hv : a.eval vo = v)
    (hM : MapAt w m cnt f) (hI : I x) (hc : cnt ≤ 1000000) (h : ∀ w', MapAt w' m (cnt + 1) (updF f x v) → w.grownBy w' (some m) → w'.heap.size = w.heap.size → K (a.put o.dst undef) w') : o.wp Try.prog a w K Q := by
  obtain ⟨w', hrun, h1, h2, h3⟩ := hM.put hI v hc
  unfold Oper.wp execOp
  simp only [ho, hm, hx, hv, Sem.run_bind, Sem.run_pure, Result.andThen_ok, hrun]
  exact h w' h1 h2 h3
theorem exec_loadM {o : Oper} {a : Act} {w : World} {T : TypeId} {n : Nat} {z : List Value} (h : IsAgg T n z) (x : Operand) (ho : o.op = .load T x) (b off : Nat) (c : List Value) (hx : a.eval x = .pointer (some ⟨b, off, none⟩)) (hg : w.rangeAt b off c) (hc : Cs n c) :
    (execOp a.eval o).run Try.prog w = .ok (.value (.agg c.toArray)) w := by
  unfold execOp
  simp only [ho, hx, Sem.run_bind, run_loadM h hg hc, Result.andThen_ok]
  rfl
/-- these blocks are as they were -/
def Agree (bs : List Nat) (w w' : World) : Prop := ∀ i ∈ bs, w'.heap[i]? = w.heap[i]?
theorem Agree.cell {bs : List Nat} {w w' : World} (h : Agree bs w w') {b o : Nat} {v : Value} (hb : b ∈ bs) (hc : w.cell? ⟨b, o, none⟩ = some v) : w'.cell? ⟨b, o, none⟩ = some v := by
  rw [World.cell?_of_block (a := ⟨b, o, none⟩) (h b hb)]; exact hc
theorem Agree.range {bs : List Nat} {w w' : World} (h : Agree bs w w') {b o : Nat} {c : List Value} (hb : b ∈ bs) (hc : w.rangeAt b o c) : w'.rangeAt b o c := range_of hc (h b hb)
section
variable {P : Program} {md : Region.Mode} {Q : Exit → Act → World → Prop} {S : World → Prop}
/-- two operations may come up -/
theorem held_two {l : List Oper} (i j : Nat) {oi oj : Oper} {ri rj : List Oper} {fuel : Nat} {listed : Array Bool} {a : Act} {w : World} (hi : l.drop i = oi :: ri) (hj : l.drop j = oj :: rj) (hr : Region.ready md l.toArray listed = [i, j])
    (hwi : Region.wanted oi (yielded l.toArray a.tmps) = true) (hwj : Region.wanted oj (yielded l.toArray a.tmps) = true)
    (h1 : ∀ K' : Act → World → Prop, Shut (∀ a w, S w → (S w → wpAnyH P md l.toArray Q S fuel (listed.setIfInBounds i true) a w) → K' a w) → Oper.wp P oi a w K' Q)
    (h2 : ∀ K' : Act → World → Prop, Shut (∀ a w, S w → (S w → wpAnyH P md l.toArray Q S fuel (listed.setIfInBounds j true) a w) → K' a w) → Oper.wp P oj a w K' Q) : wpAnyH P md l.toArray Q S (fuel + 1) listed a w :=
  wpAnyH_ready hr (by simp) (AllReadyH.cons (at_drop hi) (fun K hK => by rw [if_pos hwi]; exact h1 K hK) (AllReadyH.cons (at_drop hj) (fun K hK => by rw [if_pos hwj]; exact h2 K hK) AllReadyH.nil))
end
theorem put_s0 {w w2 w3 : World} {F : Nat → Prop} {g : Nat} {d : Dk} {S : Int → List Sec} {a0 : Option Addr} {c0 : Nat} {a1 : Option Addr} {c1 m cnt : Nat} {f : Int → Value} (k : DMemS w F g d S a0 c0 a1 c1 m cnt f) {x : Int} (hx : I x) {n : Nat} {xs : List Value}
    {v' : Value} (hb : RowKit.Below w.heap.size w w2) (ha : Appd w2 0 75 64 (f x) n xs v' w3) : MapAt w3 m cnt f ∧ ∀ i, i < w.heap.size → (i = g ∨ ¬ F i) → w3.heap[i]? = w.heap[i]? := by
  obtain ⟨ho, hg, hv⟩ := ha
  have k2 := k.below hb
  refine ⟨k2.mp.same (hg.block m k2.mp.lt fun e => own_map (k2.sh x hx) k2.mp e.symm), fun i hi hor => (hg.block i (Nat.lt_of_lt_of_le hi hb.size) fun e => ?_).trans (hb.block i hi)⟩
  rcases hor with h | h
  · subst h; exact own_type (k2.sh x hx) k2.blk (by decide) e.symm
  · exact h (k.fs x i hx e.symm)
def PutRes (g : Nat) (F : Nat → Prop) (d : Dk) (x : Int) (s : Sec) (w : World) (e : Ending) (w' : World) : Prop := e = .returned (.int .i64 (d.putE x)) ∧ Did g F (d.put x s) w w'
set_option maxRecDepth 100000 in
set_option maxHeartbeats 1600000 in
theorem put_any (g : Nat) (F : Nat → Prop) (d : Dk) (x : Int) (s : Sec) (w : World) (h : DAt w F g d) (hx : I x) (hs : s.length = 64) (hq : d.queue.length < 10000) :
    Calls Try.prog 42 #[.pointer (some ⟨g, 0, none⟩), .int .i64 x, .agg (bcells s).toArray] w (PutRes g F d x s w) := by
  obtain ⟨a0, c0, a1, c1, m, cnt, f, k⟩ := h
  obtain ⟨c, hc⟩ : ∃ c, c = bcells s := ⟨_, rfl⟩
  have HCs := Lib.hid (show Cs 64 c by rw [hc]; exact cs_sec hs)
  have HCE := Lib.hid hc
  have hal : RowKit.Below w.heap.size w (w.alloc (.cells c.toArray 75)) := (RowKit.Below.refl _ _).alloc (Nat.le_refl _) _
  have k0 := k.below hal
  have HK0 := Lib.hid k0
  have HK := Lib.hid k
  have HC0 := Lib.hid k0.cells.1
  have HA := Lib.hid (fun (W : World) => fun (h0 : W.cell? ⟨g, 0, none⟩ = some (.slice a0 d.base.length c0)) => has_any g d.base.length a0 c0 x W h0)
  have HB0 := Lib.hid (heap_alloc_new w (.cells c.toArray 75))
  have HX := Lib.hid hx
  have HL := Lib.hid hs
  have HQ := Lib.hid hq
  have HW := Lib.hid hal
  rw [← hc]
  cases hh : decide (0 ≤ x ∧ x < (d.base.length : Int)) with
  | false =>
    rw [hh] at HA
    have HR := Lib.hid (show PutRes g F d x s w (.returned (.int .i64 81)) (w.alloc (.cells c.toArray 75)) from by
      have hhas : d.has x = false := hh
      unfold PutRes Dk.putE Dk.put
      rw [hhas]
      exact ⟨rfl, F, ⟨_, _, _, _, _, _, _, k0⟩, Only.of_below hal, fun i hi => Or.inl hi⟩)
    clear hh hc k k0 hal hx hs hq
    go_enter Try.func42, Try.ntmps42
    go_wp2_with (first | (with_reducible refine wpList_boxA rfl _ _ rfl _ rfl ?_))
    refine (HA.out _ HC0.out).mono ?_
    rintro _ _ ⟨rfl, rfl⟩
    go_wp2
    go_ret
    exact HR.out
  | true =>
    rw [hh] at HA
    have HH := Lib.hid (show d.has x = true from hh)
    have HACT := Lib.hid (act_any g F d a0 c0 a1 c1 m cnt f _ k0)
    clear hc k k0 hal hx hs hq
    go_enter Try.func42, Try.ntmps42
    go_wp2_with (first | (with_reducible refine wpList_boxA rfl _ _ rfl _ rfl ?_))
    refine (HA.out _ HC0.out).mono ?_
    rintro _ _ ⟨rfl, rfl⟩
    go_wp2_with fail
    refine HACT.out.mono ?_
    rintro _ w1 ⟨rfl, fu, dd, hsp, k1, hg1, hs1⟩
    have HSP := Lib.hid hsp
    have HK1 := Lib.hid k1
    have HG1 := Lib.hid hg1
    have HS1 := Lib.hid hs1
    clear hsp k1 hg1 hs1 HACT
    cases hl : d.live with
    | false =>
      have HE := Lib.hid (show d.actE = 82 by unfold Dk.actE; rw [hl]; rfl)
      have HLV := Lib.hid hl
      rw [show d.actE = 82 by unfold Dk.actE; rw [hl]; rfl]
      clear hl hh
      go_wp2
      go_ret
      unfold PutRes Dk.putE Dk.put
      rw [HH.out, HLV.out, HSP.out]
      exact ⟨rfl, F, ⟨_, _, _, _, _, _, _, HK1.out⟩, (Only.of_below HW.out).trans (Only.of_grown HG1.out fun i e => by cases e; exact HK1.out.fg) (fun i hi => Or.inl hi), fun i hi => Or.inl hi⟩
    | true =>
      have HLV := Lib.hid hl
      rw [show d.actE = 0 by unfold Dk.actE; rw [hl]; rfl]
      have HXN := Lib.hid (show ((x.toNat : Nat) : Int) = x by have := hh; simp at this; omega)
      have HOK := Lib.hid (show Dk.Ok { { d with fuse := fu, dead := dd } with queue := d.queue ++ [(x.toNat, s)] } by
        have := HK.out.ok.put (x := x) (s := s) HL.out HQ.out
        unfold Dk.put at this
        rw [HH.out, HLV.out, HSP.out] at this
        exact this)
      clear hl hh
      have HB1 := Lib.hid (show w1.heap[w.heap.size]? = some (.cells c.toArray 75) from (HG1.out.block _ (by simp) (fun e => by injection e with e; have := HK.out.fl _ HK.out.fg; omega)).trans HB0.out)
      have cg1 : w1.cell? ⟨g, 1, none⟩ = some (.slice a1 d.queue.length c1) := HK1.out.cells.2.1
      have HAL := Lib.hid (show RowKit.Below w1.heap.size w1 (w1.alloc (.cells #[.int .i64 x] 3)) from (RowKit.Below.refl _ _).alloc (Nat.le_refl _) _)
      go_wp2_with (at_builtin; refine wpList_appO elN rfl _ _ rfl 0 (.slice a1 d.queue.length c1) d.queue.length (qcells d.queue) (some ⟨w1.heap.size, 0, none⟩) 1 1 [.int .i64 x] rfl rfl (HK1.out.below HAL.out).qs rfl (lie_new w1 [.int .i64 x] 3) (fun e => by cases e) (fun u hu => by rw [List.mem_singleton.1 hu]; rfl) (by have := HQ.out; omega) (by decide) (Nat.zero_le _) ?_; intro v3 w3 h3; have HP := Lib.hid (put_q HK1.out (x.toNat, s) HOK.out HAL.out (by rw [HXN.out]; exact h3)); clear h3 cg1; obtain ⟨a1', c1', hv3, k4, o4, hg4⟩ := HP.out; have q1 : w3.cell? ⟨g, 1, none⟩ = some (.slice a1 d.queue.length c1) := (by rw [cell_of_row _ _ _ _ _ _ hg4]; rfl); have f1 : w3.frozen? ⟨g, 1, none⟩ = false := frozen_of_row _ _ _ _ _ hg4; have HK4 := Lib.hid k4; have HO4 := Lib.hid o4; clear HP hg4 k4 o4; subst hv3)
      generalize hW4 : w3.setCell ⟨g, 1, none⟩ (.slice a1' (d.queue.length + 1) c1') = w4 at *
      clear hW4 q1 f1
      have HNF := Lib.hid (show ¬ F w.heap.size from fun e => by have := HK.out.fl _ e; omega)
      have HB4 := Lib.hid (HO4.out.at_ HB1.out HNF.out)
      have rb : w4.rangeAt w.heap.size 0 c := range_row HB4.out
      have q2 := HK4.out.cells.2.2.1
      have HRB := Lib.hid rb
      have HQ2 := Lib.hid q2
      have HB1' := Lib.hid HB1.out
      have HLK := Lib.hid (fun (W : World) (e : W.heap[m]? = w4.heap[m]?) => (HK4.out.mp.same e).look HX.out)
      have HNF4 := Lib.hid (show ¬ More F w1 w3 w.heap.size from fun e => e.elim HNF.out fun e2 => by have := lt_of_heap HB1'.out; omega)
      have HD6 := Lib.hid (show RowKit.Below w4.heap.size w4 (w4.drew.alloc (.cells c.toArray 75)) from ((RowKit.Below.refl _ _).drew).alloc (Nat.le_refl _) _)
      have HEND := Lib.hid (show ∀ w8 f8, (DMemS w8 (More (More F w1 w3) w4 w8) g { { d with fuse := fu, dead := dd } with queue := d.queue ++ [(x.toNat, s)] } (addS (ofQ d.queue) x s) a0 c0 a1' c1' m (cnt + 1) f8 ∧ Only (More F w1 w3) w4 w8) → PutRes g F d x s w (.returned (.int .i64 0)) w8 from fun w8 f8 h8 => by
              have hx0 : 0 ≤ x := by have := HXN.out; omega
              rw [addS_ofQ _ hx0] at h8
              have o1 : Only F w w1 := (Only.of_below HW.out).trans (Only.of_grown HG1.out fun i e => by cases e; exact HK1.out.fg) (fun i hi => Or.inl hi)
              have o4 : Only F w w4 := o1.trans HO4.out fun i hi => Or.inl hi
              have m1 : ∀ i, More F w1 w3 i → F i ∨ w.heap.size ≤ i := fun i hi => hi.elim Or.inl fun e => Or.inr (Nat.le_trans o1.size e.1)
              unfold PutRes Dk.putE Dk.put
              rw [HH.out, HLV.out, HSP.out]
              exact ⟨rfl, _, ⟨_, _, _, _, _, _, _, h8.1⟩, o4.trans h8.2 m1, fun i hi => hi.elim (m1 i) fun e => Or.inr (Nat.le_trans o4.size e.1)⟩)
      clear rb q2 HA HC0 HB0 HB1
      go_wp2_with fail
      refine wp_region_held_drew (S := fun W => Agree [g, w.heap.size] w4 W) (by kernel_rfl) ?_ (fun hHeld => ?_)
      · exact fun _ _ => rfl
      refine held_take 0 (v := ?_) rfl (by kernel_rfl) (by kernel_rfl) (by kernel_rfl) (fun _ _ _ h => h) hHeld (by rfl) ?_ ?_
      rotate_left
      · (intro W hW; go_simp; try with_reducible rfl)
      try simp only [Act.put, List.setIfInBounds_toArray, List.set_cons_zero, List.set_cons_succ]
      refine held_take 1 (v := ?_) rfl (by kernel_rfl) (by kernel_rfl) (by kernel_rfl) (fun _ _ _ h => h) hHeld (by rfl) ?_ ?_
      rotate_left
      · (intro W hW; go_simp; try with_reducible rfl)
      try simp only [Act.put, List.setIfInBounds_toArray, List.set_cons_zero, List.set_cons_succ]
      refine held_take 2 (v := ?_) rfl (by kernel_rfl) (by kernel_rfl) (by kernel_rfl) (fun _ _ _ h => h) hHeld (by rfl) ?_ ?_
      rotate_left
      · (intro W hW; go_simp; try with_reducible rfl)
      try simp only [Act.put, List.setIfInBounds_toArray, List.set_cons_zero, List.set_cons_succ]
      refine held_take 3 (v := ?_) rfl (by kernel_rfl) (by kernel_rfl) (by kernel_rfl) (fun _ _ _ h => h) hHeld (by rfl) ?_ ?_
      rotate_left
      · (intro W hW; have e := hW.cell (by simp) HQ2.out; go_simp; try with_reducible rfl)
      try simp only [Act.put, List.setIfInBounds_toArray, List.set_cons_zero, List.set_cons_succ]
      refine held_take 4 (v := ?_) rfl (by kernel_rfl) (by kernel_rfl) (by kernel_rfl) (fun _ _ _ h => h) hHeld (by rfl) ?_ ?_
      rotate_left
      · (intro W hW; go_simp; try with_reducible rfl)
      try simp only [Act.put, List.setIfInBounds_toArray, List.set_cons_zero, List.set_cons_succ]
      refine held_take 5 (v := ?_) rfl (by kernel_rfl) (by kernel_rfl) (by kernel_rfl) (fun _ _ _ h => h) hHeld (by rfl) ?_ ?_
      rotate_left
      · (intro W hW; go_simp; try with_reducible rfl)
      try simp only [Act.put, List.setIfInBounds_toArray, List.set_cons_zero, List.set_cons_succ]
      refine held_take 6 (v := ?_) rfl (by kernel_rfl) (by kernel_rfl) (by kernel_rfl) (fun _ _ _ h => h) hHeld (by rfl) ?_ ?_
      rotate_left
      · (intro W hW; go_simp; try with_reducible rfl)
      try simp only [Act.put, List.setIfInBounds_toArray, List.set_cons_zero, List.set_cons_succ]
      refine held_take 7 (v := ?_) rfl (by kernel_rfl) (by kernel_rfl) (by kernel_rfl) (fun _ _ _ h => h) hHeld (by rfl) ?_ ?_
      rotate_left
      · (intro W hW; go_simp; try with_reducible rfl)
      try simp only [Act.put, List.setIfInBounds_toArray, List.set_cons_zero, List.set_cons_succ]
      refine held_take 8 (v := ?_) rfl (by kernel_rfl) (by kernel_rfl) (by kernel_rfl) (fun _ _ _ h => h) hHeld (by rfl) ?_ ?_
      rotate_left
      · (intro W hW; have e := hW.cell (by simp) HQ2.out; go_simp; try with_reducible rfl)
      try simp only [Act.put, List.setIfInBounds_toArray, List.set_cons_zero, List.set_cons_succ]
      refine held_take 9 (v := ?_) rfl (by kernel_rfl) (by kernel_rfl) (by kernel_rfl) (fun _ _ _ h => h) hHeld (by rfl) ?_ ?_
      rotate_left
      · (intro W hW; go_simp; try with_reducible rfl)
      try simp only [Act.put, List.setIfInBounds_toArray, List.set_cons_zero, List.set_cons_succ]
      refine held_take 11 (v := .agg c.toArray) rfl (by kernel_rfl) (by kernel_rfl) (by kernel_rfl) (fun _ _ _ h => h) hHeld (by rfl) (fun W hW => exec_loadM isS _ rfl _ _ c rfl (hW.range (by simp) HRB.out) HCs.out) ?_
      try simp only [Act.put, List.setIfInBounds_toArray, List.set_cons_zero, List.set_cons_succ]
      refine held_two 10 12 rfl rfl (by kernel_rfl) (by rfl) (by rfl) (fun K hK => ?_) (fun K hK => ?_)
      · refine wp_look _ _ rfl rfl rfl (HLK.out w4.drew rfl) ?_
        refine hK.out _ _ (fun _ _ => rfl) (fun hHeld => ?_)
        clear hK K
        try simp only [Act.put, List.setIfInBounds_toArray, List.set_cons_zero, List.set_cons_succ]
        refine held_next 12 rfl (by kernel_rfl) (by rfl) (fun K hK => ?_)
        refine wp_one elS _ rfl c rfl HCs.out.len (by decide) ?_
        refine hK.out _ _ (fun i hi => by
                rcases List.mem_cons.1 hi with e | e
                · subst e; exact Go.heap_alloc_old _ _ (lt_of_heap HK4.out.blk)
                · rw [List.mem_singleton.1 e]; exact Go.heap_alloc_old _ _ (lt_of_heap HB4.out)) (fun hHeld => ?_)
        clear hK K
        try simp only [Act.put, List.setIfInBounds_toArray, List.set_cons_zero, List.set_cons_succ]
        refine held_next 13 rfl (by kernel_rfl) (by rfl) (fun K hK => ?_)
        refine wp_appO elS (t := 36) _ _ rfl 0 (f x) (ofQ d.queue x).length (scells (ofQ d.queue x)) (some ⟨w4.heap.size, 0, none⟩) 1 1 c rfl rfl ((HK4.out.below HD6.out).sh x HX.out) HCs.out.len (lie_new w4.drew c _) (fun e => by cases e) HCs.out.one (by have := ofQ_le d.queue x; have := HQ.out; omega) (by decide) (Nat.zero_le _) (fun v7 w7 h7 => ?_)
        have HAP := Lib.hid h7
        have HM7 := Lib.hid (put_s0 HK4.out HX.out HD6.out h7)
        clear h7
        refine hK.out _ _ (fun i hi => by
                  rcases List.mem_cons.1 hi with e | e
                  · subst e; exact HM7.out.2 _ (lt_of_heap HK4.out.blk) (Or.inl rfl)
                  · rw [List.mem_singleton.1 e]; exact HM7.out.2 _ (lt_of_heap HB4.out) (Or.inr HNF4.out)) (fun hHeld => ?_)
        clear hK K
        try simp only [Act.put, List.setIfInBounds_toArray, List.set_cons_zero, List.set_cons_succ]
        refine held_next 14 rfl (by kernel_rfl) (by rfl) (fun K hK => ?_)
        refine wp_upd (f := f) (cnt := cnt) (m := m) (x := x) (v := v7) _ _ _ rfl rfl rfl rfl HM7.out.1 HX.out (by have := HK.out.cn; have := HQ.out; omega) (fun w8 hm8 hg8 hs8 => ?_)
        have HFIN := Lib.hid (put_s (d := { { d with fuse := fu, dead := dd } with queue := d.queue ++ [(x.toNat, s)] }) HK4.out HX.out s (by have := HK.out.cn; show cnt + 1 ≤ (d.queue ++ _).length; rw [List.length_append]; exact Nat.succ_le_succ this) HD6.out (by rw [← HCE.out]; exact HAP.out) hm8 hg8 hs8)
        have HM8 := Lib.hid hg8
        clear hm8 hg8 hs8
        refine hK.out _ _ (fun i hi => by
                  rcases List.mem_cons.1 hi with e | e
                  · subst e; exact (HM8.out.block _ (Nat.lt_of_lt_of_le (lt_of_heap HK4.out.blk) (Nat.le_trans HD6.out.size HAP.out.2.1.size)) (fun e2 => map_row HK4.out.mp HK4.out.blk (by injection e2 with e2; exact e2.symm))).trans (HM7.out.2 _ (lt_of_heap HK4.out.blk) (Or.inl rfl))
                  · rw [List.mem_singleton.1 e]; exact (HM8.out.block _ (Nat.lt_of_lt_of_le (lt_of_heap HB4.out) (Nat.le_trans HD6.out.size HAP.out.2.1.size)) (fun e2 => HNF4.out (by injection e2 with e2; rw [e2]; exact HK4.out.fm))).trans (HM7.out.2 _ (lt_of_heap HB4.out) (Or.inr HNF4.out))) (fun hHeld => ?_)
        clear hK K
        refine wpAnyH_done (by kernel_rfl) ?_ _
        go_simp
        go_wp2
        go_ret
        exact HEND.out _ _ HFIN.out
      · refine wp_one elS _ rfl c rfl HCs.out.len (by decide) ?_
        refine hK.out _ _ (fun i hi => by
                rcases List.mem_cons.1 hi with e | e
                · subst e; exact Go.heap_alloc_old _ _ (lt_of_heap HK4.out.blk)
                · rw [List.mem_singleton.1 e]; exact Go.heap_alloc_old _ _ (lt_of_heap HB4.out)) (fun hHeld => ?_)
        clear hK K
        try simp only [Act.put, List.setIfInBounds_toArray, List.set_cons_zero, List.set_cons_succ]
        refine held_next 10 rfl (by kernel_rfl) (by rfl) (fun K hK => ?_)
        refine wp_look _ _ rfl rfl rfl (HLK.out _ (Go.heap_alloc_old _ _ HK4.out.mp.lt)) ?_
        refine hK.out _ _ (fun i hi => by
                rcases List.mem_cons.1 hi with e | e
                · subst e; exact Go.heap_alloc_old _ _ (lt_of_heap HK4.out.blk)
                · rw [List.mem_singleton.1 e]; exact Go.heap_alloc_old _ _ (lt_of_heap HB4.out)) (fun hHeld => ?_)
        clear hK K
        try simp only [Act.put, List.setIfInBounds_toArray, List.set_cons_zero, List.set_cons_succ]
        refine held_next 13 rfl (by kernel_rfl) (by rfl) (fun K hK => ?_)
        refine wp_appO elS (t := 36) _ _ rfl 0 (f x) (ofQ d.queue x).length (scells (ofQ d.queue x)) (some ⟨w4.heap.size, 0, none⟩) 1 1 c rfl rfl ((HK4.out.below HD6.out).sh x HX.out) HCs.out.len (lie_new w4.drew c _) (fun e => by cases e) HCs.out.one (by have := ofQ_le d.queue x; have := HQ.out; omega) (by decide) (Nat.zero_le _) (fun v7 w7 h7 => ?_)
        have HAP := Lib.hid h7
        have HM7 := Lib.hid (put_s0 HK4.out HX.out HD6.out h7)
        clear h7
        refine hK.out _ _ (fun i hi => by
                  rcases List.mem_cons.1 hi with e | e
                  · subst e; exact HM7.out.2 _ (lt_of_heap HK4.out.blk) (Or.inl rfl)
                  · rw [List.mem_singleton.1 e]; exact HM7.out.2 _ (lt_of_heap HB4.out) (Or.inr HNF4.out)) (fun hHeld => ?_)
        clear hK K
        try simp only [Act.put, List.setIfInBounds_toArray, List.set_cons_zero, List.set_cons_succ]
        refine held_next 14 rfl (by kernel_rfl) (by rfl) (fun K hK => ?_)
        refine wp_upd (f := f) (cnt := cnt) (m := m) (x := x) (v := v7) _ _ _ rfl rfl rfl rfl HM7.out.1 HX.out (by have := HK.out.cn; have := HQ.out; omega) (fun w8 hm8 hg8 hs8 => ?_)
        have HFIN := Lib.hid (put_s (d := { { d with fuse := fu, dead := dd } with queue := d.queue ++ [(x.toNat, s)] }) HK4.out HX.out s (by have := HK.out.cn; show cnt + 1 ≤ (d.queue ++ _).length; rw [List.length_append]; exact Nat.succ_le_succ this) HD6.out (by rw [← HCE.out]; exact HAP.out) hm8 hg8 hs8)
        have HM8 := Lib.hid hg8
        clear hm8 hg8 hs8
        refine hK.out _ _ (fun i hi => by
                  rcases List.mem_cons.1 hi with e | e
                  · subst e; exact (HM8.out.block _ (Nat.lt_of_lt_of_le (lt_of_heap HK4.out.blk) (Nat.le_trans HD6.out.size HAP.out.2.1.size)) (fun e2 => map_row HK4.out.mp HK4.out.blk (by injection e2 with e2; exact e2.symm))).trans (HM7.out.2 _ (lt_of_heap HK4.out.blk) (Or.inl rfl))
                  · rw [List.mem_singleton.1 e]; exact (HM8.out.block _ (Nat.lt_of_lt_of_le (lt_of_heap HB4.out) (Nat.le_trans HD6.out.size HAP.out.2.1.size)) (fun e2 => HNF4.out (by injection e2 with e2; rw [e2]; exact HK4.out.fm))).trans (HM7.out.2 _ (lt_of_heap HB4.out) (Or.inr HNF4.out))) (fun hHeld => ?_)
        clear hK K
        refine wpAnyH_done (by kernel_rfl) ?_ _
        go_simp
        go_wp2
        go_ret
        exact HEND.out _ _ HFIN.out
end Go.Proofs.Ytogdmjegcihopaa
