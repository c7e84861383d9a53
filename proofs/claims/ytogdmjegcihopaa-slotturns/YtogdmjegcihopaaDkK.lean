
/- Package disk: settle. -/
import Derived.Test.YtogdmjegcihopaaDkJ
namespace Go.Proofs.Ytogdmjegcihopaa
set_option maxRecDepth 100000
open Go.RowKit Go.Lib

theorem wp_then {P : Program} {c : Code} {Q : Exit → Act → World → Prop} {a : Act} {w : World} {A : Act} {W : World} (h : c.wp P (fun e a' w' => e = .normal ∧ a' = A ∧ w' = W) a w) (hQ : Q .normal A W) : c.wp P Q a w :=
  Code.wp_mono (fun e a' w' hh => by obtain ⟨rfl, rfl, rfl⟩ := hh; exact hQ) h
theorem wp_allocA {o : Oper} {a : Act} {w : World} {K : Act → World → Prop} {Q : Exit → Act → World → Prop} {T : TypeId} {n : Nat} {z : List Value} (h : IsAgg T n z) (ho : o.op = .alloc T) (hq : K (a.put o.dst (.pointer (some ⟨w.heap.size, 0, none⟩))) (w.alloc (.cells z.toArray T))) : o.wp Try.prog a w K Q := by
  unfold Oper.wp execOp
  simp only [ho, Sem.run_bind, Sem.run_pure, Result.andThen_ok, run_allocA h]
  exact hq
theorem elP : El 61 24 1 24 := ⟨Try.underlying61, inf_of (z := .slice none 0 0) (by kernel_rfl) rfl, by decide⟩
theorem wp_pair {o : Oper} {a : Act} {w : World} {K : Act → World → Prop} {Q : Exit → Act → World → Prop} (x y : Operand) (ho : o.op = .buildSlice 61 2 #[(0, x), (1, y)]) {x1 x2 : Option Addr} {n1 n2 c1 c2 : Nat} (hx : a.eval x = .slice x1 n1 c1) (hy : a.eval y = .slice x2 n2 c2)
    (h : K (a.put o.dst (.slice (some ⟨w.heap.size, 0, none⟩) 2 2)) (w.alloc (.cells #[.slice x1 n1 c1, .slice x2 n2 c2] 24))) : o.wp Try.prog a w K Q := by
  obtain ⟨i, z, hi, hz, hs1, hs8, hzs⟩ := elP.inf
  have hrun : (Instr.buildSlice 61 2 #[(0, Value.slice x1 n1 c1), (1, Value.slice x2 n2 c2)]).run Try.prog w = .ok (.slice (some ⟨w.heap.size, 0, none⟩) 2 2) (w.alloc (.cells #[.slice x1 n1 c1, .slice x2 n2 c2] 24)) := by
    refine run_buildSlice w 61 24 2 _ _ i z elP.und hi hz (by rw [hs1]; omega) (by rw [hs1]; omega) ?_
    have := Great.fill_flat [.slice x1 n1 c1, .slice x2 n2 c2] ((Array.range (2 * i.size)).map (z.cells[· % z.cells.size]!)) (by intro v hv; simp at hv; rcases hv with rfl | rfl <;> rfl) (by simp [hs1])
    rw [hs1] at this ⊢
    simpa using this
  unfold Oper.wp execOp
  simp only [ho, Sem.run_bind, List.map_toArray, List.map_cons, List.map_nil, hx, hy, hrun, Result.andThen_ok]
  exact h
theorem wp_arr {o : Oper} {a : Act} {w : World} {K : Act → World → Prop} {Q : Exit → Act → World → Prop} (x : Operand) (ho : o.op = .sliceToArrayPointer 75 x) {p : Option Addr} {n c : Nat} (hx : a.eval x = .slice p n c) (hn : 64 ≤ n) (h : K (a.put o.dst (.pointer p)) w) : o.wp Try.prog a w K Q := by
  unfold Oper.wp execOp
  simp only [ho, hx, Sem.run_bind, run_arrayAt (P := Try.prog) (w := w) 75 5 64 p n c undS hn, Result.andThen_ok]
  exact h
/-- 's[:n]' and 's[n:]' of a sector -/
theorem run_sl1 (b off n : Nat) (hn : n ≤ 64) (W : World) : (Instr.sliceAt 75 (.pointer (some ⟨b, off, none⟩)) none (some (.int .i64 (n : Int))) none).run Try.prog W = .ok (.slice (some ⟨b, off, none⟩) n 64) W := by
  have h := run_sliceAt_array_h (P := Try.prog) W 75 ⟨b, off, none⟩ (by kernel_rfl) .i64 (n : Int) (by omega) (by rw [show Try.prog.arrayLen 75 = 64 by kernel_rfl]; omega)
  rw [h, show Try.prog.elem 75 = 5 by kernel_rfl, sz8, show Try.prog.arrayLen 75 = 64 by kernel_rfl]
  simp [Result.andThen, slicedAt, Addr.add]
theorem run_sl2 (b n : Nat) (hn : n ≤ 64) (W : World) : (Instr.sliceAt 75 (.pointer (some ⟨b, 0, none⟩)) (some (.int .i64 (n : Int))) none none).run Try.prog W = .ok (.slice (cutA (some ⟨b, 0, none⟩) 64 n) (64 - n) (64 - n)) W := by
  have h := run_sliceAt_array_l (P := Try.prog) W 75 ⟨b, 0, none⟩ (by kernel_rfl) .i64 (n : Int) (by omega) (by rw [show Try.prog.arrayLen 75 = 64 by kernel_rfl]; omega)
  rw [h, show Try.prog.elem 75 = 5 by kernel_rfl, sz8, show Try.prog.arrayLen 75 = 64 by kernel_rfl]
  simp only [Result.andThen, slicedAt, cutA, Int.toNat_natCast, Nat.mul_one]
  by_cases e : 64 = n
  · rw [if_pos e, if_pos e]
  · rw [if_neg e, if_neg e]; rfl
/-- 's[1:]' of sectors -/
theorem run_sl3 (b off r cap : Nat) (W : World) : (Instr.sliceAt 36 (.slice (some ⟨b, off, none⟩) (r + 1) cap) (some (.int .i64 1)) none none).run Try.prog W = .ok (.slice (if cap = 1 then some ⟨b, off, none⟩ else some ⟨b, off + 64, none⟩) r (cap - 1)) W := by
  have h := run_slice_l (P := Try.prog) (w := W) 36 (some ⟨b, off, none⟩) (r + 1) cap (by kernel_rfl) .i64 1 (by omega) (by omega)
  rw [run_sliceAt_slice (P := Try.prog) (w := W) _ _ _ _ _ (by kernel_rfl), h, show Try.prog.elem 36 = 75 by kernel_rfl, Try.sizeOf75]
  simp [Result.andThen, sliced, Addr.add]
theorem size_setCells (b : Nat) : ∀ (vs : List Value) (o : Nat) (w : World), (w.setCells b o vs).heap.size = w.heap.size
  | [], _, _ => rfl
  | v :: r, o, w => by rw [World.setCells, size_setCells b r]; simp
theorem ow_setg {w wr wx : World} {d : Dk} {gb c0 m : Nat} {cm : Nat → Nat} {k cnt g x : Nat} {f : Int → Value} {s : Sec} (h : St w wr d (some ⟨gb, 0, none⟩) c0 m cm k cnt f) (hb : RowKit.Below wr.heap.size wr wx) (hx : x < d.base.length) (hs : s.length = 64) (hg : g ≠ gb) : (wx.setCells gb (x * 64) (bcells s)).heap[g]? = wx.heap[g]? := by
  have h4 := (h.below hb).bs
  have := (ow_setCells (bcells s) (x * 64) wx _ h4 (by rw [cells_len _ hs, h4.1]; omega)).2
  by_cases hl : g < wx.heap.size
  · exact this.block g hl fun e => hg (by injection e)
  · have e := this.size
    have e2 : (wx.setCells gb (x * 64) (bcells s)).heap.size = wx.heap.size := size_setCells _ _ _ _
    rw [Array.getElem?_eq_none (by omega), Array.getElem?_eq_none (by omega)]
theorem wpList_clear {ops : Array Oper} {rest : List Oper} {o : Oper} {a : Act} {w : World} {Q : Exit → Act → World → Prop} (hgd : o.guard = none) (x : Operand) (ho : o.op = .call { callee := .builtin .clear, args := #[x], argTypes := #[63] }) {m cnt : Nat} {f : Int → Value} (hx : a.eval x = .map (some m)) (hM : MapAt w m cnt f)
    (h : ∀ w', MapAt w' m 0 (fun _ => nilS) → w.grownBy w' (some m) → w'.heap.size = w.heap.size → wpList Try.prog ops Q rest (a.put o.dst (.tuple #[])) w') : wpList Try.prog ops Q (o :: rest) a w :=
  wpList_plain hgd fun K hK => by
    obtain ⟨w', hrun, h1, h2, h3⟩ := hM.clear o.type
    unfold Oper.wp execOp
    simp only [ho, resolve, invoke, builtin, Sem.run_bind, Sem.run_pure, Result.andThen_ok, List.map_toArray, List.map_cons, List.map_nil, hx, hrun]
    exact hK _ _ (h w' h1 h2 h3)
/-- all of the queue has gone in -/
theorem settle_end {w wr w9 : World} {F : Nat → Prop} {g : Nat} {d : Dk} {a0 : Option Addr} {c0 : Nat} {a1 : Option Addr} {c1 m cnt cnt' : Nat} {f f' : Int → Value} {cm : Nat → Nat} (kd : DMem w F g d a0 c0 a1 c1 m cnt f) (hcm : ∀ k, cm k ≤ 64) (h : St w wr d a0 c0 m cm d.queue.length cnt' f')
    (hm : MapAt w9 m 0 (fun _ => nilS)) (hg : (wr.setCell ⟨g, 1, none⟩ (.slice none 0 0)).grownBy w9 (some m)) (hs : w9.heap.size = wr.heap.size) : Did g F { d with base := stl cm d.queue d.base d.queue.length, queue := [] } w w9 := by
  have hng : ¬ ((Value.slice a0 d.base.length c0).ownBlock = some g ∨ g = m) := fun hi => hi.elim (own_type kd.bs kd.blk (by decide)) fun e => map_row kd.mp kd.blk e.symm
  have hblk := h.on.at_ kd.blk hng
  have hgm : g ≠ m := fun e => hng (Or.inr e)
  have hsz : (wr.setCell ⟨g, 1, none⟩ (.slice none 0 0)).heap.size = wr.heap.size := by simp
  have kg : ∀ i, i < wr.heap.size → i ≠ g → i ≠ m → w9.heap[i]? = wr.heap[i]? := fun i hi h1 h2 =>
    (hg.block i (by rw [hsz]; exact hi) fun e => h2 (by injection e)).trans (heap_setCell_other _ _ _ _ h1)
  have hL : (stl cm d.queue d.base d.queue.length).length = d.base.length := stl_len _ _ _ _
  refine ⟨F, ⟨a0, c0, none, 0, m, 0, fun _ => nilS, ?_⟩, ⟨?_, ?_, ?_, ?_, fun i hi hn => ?_⟩, fun i hi => Or.inl hi⟩
  · constructor
    · exact kd.ok.gone hcm kd.ok.fz
    · show _ = some (Obj.cells #[.slice a0 (stl cm d.queue d.base d.queue.length).length c0, _, _, _, _] _ _)
      rw [hL, hg.block g (by rw [hsz]; exact lt_of_heap hblk) (fun e => hgm (by injection e)), heap_setCell_same _ _ _ _ _ _ hblk]
      rfl
    · show w9.ownsRow 0 _ 64 (.slice a0 (stl cm d.queue d.base d.queue.length).length c0) (stl cm d.queue d.base d.queue.length).length _
      rw [hL]
      exact ow_same h.bs fun i hi => kg i (h.bs.lt i hi).2 (fun e => own_type h.bs hblk (by decide) (e ▸ hi)) fun e => own_map h.bs h.mp (e ▸ hi)
    · exact World.ownsRow_nil _ _ _ _
    · exact hm
    · exact Nat.zero_le _
    · exact fun x _ => World.ownsRow_nil _ _ _ _
    · exact fun x k _ h => by cases h
    · exact fun x y k _ _ _ h => by cases h
    · exact kd.fg
    · exact kd.fm
    · intro k hk
      have hk' : (Value.slice a0 d.base.length c0).ownBlock = some k := by rw [← hL]; exact hk
      exact kd.fb k hk'
    · exact fun k h => by cases h
    · exact fun x k _ h => by cases h
    · exact fun i hi => by have := kd.fl i hi; have := h.on.size; omega
  · exact hg.os.trans h.on.os
  · exact hg.tape.trans h.on.tape
  · exact hg.output.trans h.on.output
  · have := h.on.size; omega
  · have hi2 : i < wr.heap.size := Nat.lt_of_lt_of_le hi h.on.size
    exact (kg i hi2 (fun e => hn (e ▸ kd.fg)) (fun e => hn (e ▸ kd.fm))).trans (h.on.block i hi fun e => e.elim (fun e2 => hn (kd.fb i e2)) fun e2 => hn (e2 ▸ kd.fm))
set_option maxRecDepth 100000 in
set_option maxHeartbeats 3200000 in
theorem settle_any (g : Nat) (F : Nat → Prop) (d : Dk) (w : World) (h : DAt w F g d) (fid : FuncId) (cap : Array Value) (cm : Nat → Nat) (he : ∀ (args : Array Value) (w : World), (callFunc fid args).run Try.prog w = .ok (.enter fid args) w) (hcm : ∀ k, cm k ≤ 64)
    (hcl : ∀ (W : World) (k : Nat), Only F w W → k < d.queue.length → Calls Try.prog fid (#[.int .i64 (k : Int)] ++ cap) W fun e W' => e = .returned (.int .i64 (cm k : Int)) ∧ W = W') :
    Calls Try.prog 34 #[.pointer (some ⟨g, 0, none⟩), .func (.func fid) #[] cap] w fun e w' => e = .returned (.tuple #[]) ∧ Did g F { d with base := stl cm d.queue d.base d.queue.length, queue := [] } w w' := by
  obtain ⟨a0, c0, a1, c1, m, cnt, f, kd⟩ := h
  have HKD := Lib.hid kd
  have HST0 := Lib.hid (St.start kd cm)
  have HE := Lib.hid he
  have HCM := Lib.hid hcm
  have HCL := Lib.hid hcl
  have HGBF := Lib.hid (show ∀ i, (Value.slice a0 d.base.length c0).ownBlock = some i ∨ i = m → F i from fun i hi => hi.elim (kd.fb i) fun e => e ▸ kd.fm)
  have HNG := Lib.hid (show ¬ ((Value.slice a0 d.base.length c0).ownBlock = some g ∨ g = m) from fun hi => hi.elim (own_type kd.bs kd.blk (by decide)) fun e => map_row kd.mp kd.blk e.symm)
  have c1' := kd.cells.2.1
  clear kd he hcm hcl
  go_enter Try.func34, Try.ntmps34
  go_wp2_with fail
  clear c1'
  go_loopw [14] (fun c14 wr => ∃ (k cnt' : Nat) (f' : Int → Value), c14 = .int .i64 (k : Int) ∧ k ≤ d.queue.length ∧ St w wr d a0 c0 m cm k cnt' f') (fun c14 _ => d.queue.length - (match c14 with | .int _ q => q | _ => 0).toNat)
  case atStart => exact ⟨0, cnt, f, rfl, Nat.zero_le _, HST0.out⟩
  case round =>
    obtain ⟨k, cnt', f', rfl, hk, hst⟩ := hrel
    have HST := Lib.hid hst
    have HON := Lib.hid (show Only F w wr from ⟨hst.on.os, hst.on.tape, hst.on.output, hst.on.size, fun i hi hn => hst.on.block i hi fun e => hn (HGBF.out i e)⟩)
    have HBLK := Lib.hid (hst.on.at_ HKD.out.blk HNG.out)
    have hk9 : d.queue.length ≤ 10000 := HKD.out.ok.qn
    clear hst
    by_cases hlt : k < d.queue.length
    · obtain ⟨p, hp⟩ : ∃ p, d.queue[k]? = some p := ⟨_, List.getElem?_eq_getElem hlt⟩
      have HP := Lib.hid hp
      have HKL := Lib.hid hlt
      have HXL := Lib.hid (HKD.out.ok.qi p (List.mem_of_getElem? hp))
      have hpl := HKD.out.ok.ql p (List.mem_of_getElem? hp)
      have HXI := Lib.hid (show I (p.1 : Int) by have := HKD.out.ok.sz; have := HXL.out; unfold I; omega)
      obtain ⟨gb, curb, ha0, hgb⟩ := ow_head HST.out.bs (by have := HXL.out; omega)
      subst ha0
      have HGM := Lib.hid (show g ≠ m from fun e => HNG.out (Or.inr e))
      have HMB := Lib.hid (show m ≠ gb from map_row HST.out.mp hgb)
      have HGB := Lib.hid (show g ≠ gb from fun e => HNG.out (Or.inl (by rw [e]; rfl)))
      have hdr : d.queue.drop k = p :: d.queue.drop (k + 1) := by
        rw [List.drop_eq_getElem_cons hlt]
        congr 1
        rw [List.getElem?_eq_getElem hlt] at hp
        exact Option.some.inj hp
      obtain ⟨sa, scap, hsf, hsc, hsj⟩ := HST.out.sh (p.1 : Int) HXI.out
      rw [hdr, ofQ_cons, ofQ_one_same] at hsf hsc hsj
      obtain ⟨sb, so, hsa, hsb1, hsb2, hsb3, hsr⟩ := hsj 0 p.2 rfl
      subst hsa
      rw [Nat.zero_mul, Nat.add_zero] at hsr
      have HFX := Lib.hid (show f' (p.1 : Int) = .slice (some ⟨sb, so, none⟩) ((ofQ (d.queue.drop (k + 1)) (p.1 : Int)).length + 1) scap from hsf)
      have HSC := Lib.hid (show (ofQ (d.queue.drop (k + 1)) (p.1 : Int)).length + 1 ≤ scap from hsc)
      obtain ⟨L, hL⟩ : ∃ L, L = (ofQ (d.queue.drop (k + 1)) (p.1 : Int)).length := ⟨_, rfl⟩
      have HLL := Lib.hid hL
      have hlen : ∀ s ∈ stl cm d.queue d.base k, s.length = 64 := stl_ok HCM.out HKD.out.ok.bl HKD.out.ok.qi HKD.out.ok.ql k hk
      obtain ⟨old, hold⟩ : ∃ old, old = (stl cm d.queue d.base k).getD p.1 [] := ⟨_, rfl⟩
      have hol : old.length = 64 := by rw [hold]; exact hlen _ (getD_mem (by rw [stl_len]; exact HXL.out))
      obtain ⟨co, hco⟩ : ∃ co, co = bcells old := ⟨_, rfl⟩
      have HCO := Lib.hid (show Cs 64 co by rw [hco]; exact cs_sec hol)
      have HRO := Lib.hid (show wr.rangeAt gb (p.1 * 64) co from fun j v hv => by
        have := ow_range HST.out.bs (p.1 * 64 + j) v (flat_mid (f := bcells) (n := 64) (x := old) (fun s hs => cells_len s (hlen s hs)) (by rw [hold, List.getD, List.getElem?_eq_getElem (by rw [stl_len]; exact HXL.out)]; rfl) j v (by rw [← hco]; exact hv))
        rw [Nat.zero_add] at this
        exact this)
      have HSB := Lib.hid (show wr.rangeAt sb so (bcells p.2) from range_of hsr (HST.out.on.block sb hsb3 fun e => e.elim hsb1 hsb2))
      have HSBL := Lib.hid (show sb < wr.heap.size from Nat.lt_of_lt_of_le hsb3 HST.out.on.size)
      have HC0 := Lib.hid (show wr.cell? ⟨g, 0, none⟩ = some (.slice (some ⟨gb, 0, none⟩) d.base.length c0) by rw [cell_of_row _ _ _ _ _ _ HBLK.out]; rfl)
      have HC2 := Lib.hid (show wr.cell? ⟨g, 2, none⟩ = some (.map (some m)) by rw [cell_of_row _ _ _ _ _ _ HBLK.out]; rfl)
      have HIX := Lib.hid (fun (W : World) => show (Instr.indexAt 36 (.slice (some ⟨gb, 0, none⟩) d.base.length c0) (.int .i64 (p.1 : Int))).run Try.prog W = .ok (.pointer (some ⟨gb, p.1 * 64, none⟩)) W by have := run_idx elS (b := gb) (off := 0) (cap := c0) (k := .i64) rfl HXL.out W; rwa [Nat.zero_add] at this)
      have HIS := Lib.hid (fun (W : World) => show (Instr.indexAt 36 (.slice (some ⟨sb, so, none⟩) (L + 1) scap) (.int .i64 0)).run Try.prog W = .ok (.pointer (some ⟨sb, so, none⟩)) W by have := run_idx elS (b := sb) (off := so) (n := L + 1) (cap := scap) (k := .i64) (i := 0) (j := 0) rfl (Nat.succ_pos _) W; rwa [Nat.zero_mul, Nat.add_zero] at this)
      have HSL1 := Lib.hid (run_sl1 sb so (cm k) (HCM.out k))
      have HSL2 := Lib.hid (run_sl2 wr.heap.size (cm k) (HCM.out k))
      have HSL3 := Lib.hid (run_sl3 sb so L scap)
      have HLT3 := Lib.hid (show ∀ i ∈ [g, gb, m], i < wr.heap.size from fun i hi => by
        simp only [List.mem_cons, List.not_mem_nil, or_false] at hi
        rcases hi with rfl | rfl | rfl
        · exact lt_of_heap HBLK.out
        · exact lt_of_heap hgb
        · exact HST.out.mp.lt)
      obtain ⟨bq, oq, ha1, hbq, hrq⟩ := (show ∃ b off, a1 = some ⟨b, off, none⟩ ∧ b < w.heap.size ∧ w.rangeAt b off (qcells d.queue) from by
        obtain ⟨a, cp, hv, hl, _, _⟩ := ow_lie HKD.out.qs
        simp only [Value.slice.injEq, true_and] at hv
        obtain ⟨rfl, rfl⟩ := hv
        rcases hl with hl | hl
        · have := qcells_len d.queue
          rw [hl] at this
          simp at this; omega
        · exact hl)
      have hqn : (Value.slice a1 d.queue.length c1).ownBlock = some bq := by rw [ha1]; rfl
      have q1 : wr.cell? ⟨bq, oq + k, none⟩ = some (.int .i64 (p.1 : Int)) := by
        rw [World.cell?_of_block (w := w) (a := ⟨bq, oq + k, none⟩) (HST.out.on.block bq hbq fun e => e.elim (fun e2 => own_type2 HKD.out.bs HKD.out.qs (by decide) bq e2 hqn) fun e2 => own_map HKD.out.qs HKD.out.mp (e2 ▸ hqn))]
        exact hrq k _ (by simp [qcells, hp])
      subst ha1
      rw [hL.symm] at HFX HSC
      clear hp hgb hdr hsf hsc hsj hsb1 hsb2 hsb3 hsr hL hlen hbq hrq hqn
      go_wp2_with fail
      clear q1
      apply wp_then
      · refine wp_region_held_drew (S := fun W => Agree [g, gb, m] wr W) (by kernel_rfl) ?_ (fun hHeld => ?_)
        · exact fun _ _ => rfl
        refine held_take 0 (v := ?_) rfl (by kernel_rfl) (by kernel_rfl) (by kernel_rfl) (fun _ _ _ h => by cases h.1) hHeld (by rfl) ?_ ?_
        rotate_left
        · (intro W hW; go_simp; try with_reducible rfl)
        try simp only [Act.put, List.setIfInBounds_toArray, List.set_cons_zero, List.set_cons_succ]
        refine held_take 1 (v := ?_) rfl (by kernel_rfl) (by kernel_rfl) (by kernel_rfl) (fun _ _ _ h => by cases h.1) hHeld (by rfl) ?_ ?_
        rotate_left
        · (intro W hW; go_simp; try with_reducible rfl)
        try simp only [Act.put, List.setIfInBounds_toArray, List.set_cons_zero, List.set_cons_succ]
        refine held_take 3 (v := ?_) rfl (by kernel_rfl) (by kernel_rfl) (by kernel_rfl) (fun _ _ _ h => by cases h.1) hHeld (by rfl) ?_ ?_
        rotate_left
        · (intro W hW; go_simp; try with_reducible rfl)
        try simp only [Act.put, List.setIfInBounds_toArray, List.set_cons_zero, List.set_cons_succ]
        refine held_take 4 (v := ?_) rfl (by kernel_rfl) (by kernel_rfl) (by kernel_rfl) (fun _ _ _ h => by cases h.1) hHeld (by rfl) ?_ ?_
        rotate_left
        · (intro W hW; go_simp; try with_reducible rfl)
        try simp only [Act.put, List.setIfInBounds_toArray, List.set_cons_zero, List.set_cons_succ]
        refine held_take 5 (v := ?_) rfl (by kernel_rfl) (by kernel_rfl) (by kernel_rfl) (fun _ _ _ h => by cases h.1) hHeld (by rfl) ?_ ?_
        rotate_left
        · (intro W hW; go_simp; try with_reducible rfl)
        try simp only [Act.put, List.setIfInBounds_toArray, List.set_cons_zero, List.set_cons_succ]
        refine held_take 6 (v := ?_) rfl (by kernel_rfl) (by kernel_rfl) (by kernel_rfl) (fun _ _ _ h => by cases h.1) hHeld (by rfl) ?_ ?_
        rotate_left
        · (intro W hW; have e := hW.cell (by simp) HC0.out; go_simp; try with_reducible rfl)
        try simp only [Act.put, List.setIfInBounds_toArray, List.set_cons_zero, List.set_cons_succ]
        refine held_take 7 (v := ?_) rfl (by kernel_rfl) (by kernel_rfl) (by kernel_rfl) (fun _ _ _ h => by cases h.1) hHeld (by rfl) ?_ ?_
        rotate_left
        · (intro W hW; go_simp; try with_reducible rfl)
        try simp only [Act.put, List.setIfInBounds_toArray, List.set_cons_zero, List.set_cons_succ]
        refine held_take 8 (v := ?_) rfl (by kernel_rfl) (by kernel_rfl) (by kernel_rfl) (fun _ _ _ h => by cases h.1) hHeld (by rfl) ?_ ?_
        rotate_left
        · (intro W hW; have e := HIX.out W; go_simp; try with_reducible rfl)
        try simp only [Act.put, List.setIfInBounds_toArray, List.set_cons_zero, List.set_cons_succ]
        refine held_take 9 (v := .agg co.toArray) rfl (by kernel_rfl) (by kernel_rfl) (by kernel_rfl) (fun _ _ _ h => by cases h.1) hHeld (by rfl) (fun W hW => exec_loadM isS _ rfl _ _ co rfl (hW.range (by simp) HRO.out) HCO.out) ?_
        try simp only [Act.put, List.setIfInBounds_toArray, List.set_cons_zero, List.set_cons_succ]
        refine held_take 10 (v := ?_) rfl (by kernel_rfl) (by kernel_rfl) (by kernel_rfl) (fun _ _ _ h => by cases h.1) hHeld (by rfl) ?_ ?_
        rotate_left
        · (intro W hW; go_simp; try with_reducible rfl)
        try simp only [Act.put, List.setIfInBounds_toArray, List.set_cons_zero, List.set_cons_succ]
        refine held_take 11 (v := ?_) rfl (by kernel_rfl) (by kernel_rfl) (by kernel_rfl) (fun _ _ _ h => by cases h.1) hHeld (by rfl) ?_ ?_
        rotate_left
        · (intro W hW; go_simp; try with_reducible rfl)
        try simp only [Act.put, List.setIfInBounds_toArray, List.set_cons_zero, List.set_cons_succ]
        refine held_take 12 (v := ?_) rfl (by kernel_rfl) (by kernel_rfl) (by kernel_rfl) (fun _ _ _ h => by cases h.1) hHeld (by rfl) ?_ ?_
        rotate_left
        · (intro W hW; go_simp; try with_reducible rfl)
        try simp only [Act.put, List.setIfInBounds_toArray, List.set_cons_zero, List.set_cons_succ]
        refine held_take 13 (v := ?_) rfl (by kernel_rfl) (by kernel_rfl) (by kernel_rfl) (fun _ _ _ h => by cases h.1) hHeld (by rfl) ?_ ?_
        rotate_left
        · (intro W hW; have e := hW.cell (by simp) HC2.out; go_simp; try with_reducible rfl)
        try simp only [Act.put, List.setIfInBounds_toArray, List.set_cons_zero, List.set_cons_succ]
        refine held_take 14 (v := ?_) rfl (by kernel_rfl) (by kernel_rfl) (by kernel_rfl) (fun _ _ _ h => by cases h.1) hHeld (by rfl) ?_ ?_
        rotate_left
        · (intro W hW; go_simp; try with_reducible rfl)
        try simp only [Act.put, List.setIfInBounds_toArray, List.set_cons_zero, List.set_cons_succ]
        refine held_take 15 (v := ?_) rfl (by kernel_rfl) (by kernel_rfl) (by kernel_rfl) (fun _ _ _ h => by cases h.1) hHeld (by rfl) ?_ ?_
        rotate_left
        · (intro W hW; have e := (HST.out.mp.same (hW m (by simp))).look HXI.out; rw [HFX.out] at e; go_simp; try with_reducible rfl)
        try simp only [Act.put, List.setIfInBounds_toArray, List.set_cons_zero, List.set_cons_succ]
        refine held_two 2 16 rfl rfl (by kernel_rfl) (by rfl) (by rfl) (fun K hK => ?_) (fun K hK => ?_)
        · refine wp_callv _ _ rfl rfl rfl HE.out (HCL.out _ k (HON.out.trans (Only.of_below (RowKit.Below.refl _ _).drew) (fun i hi => Or.inl hi)) HKL.out) ?_
          refine hK.out _ _ (fun _ _ => rfl) (fun hHeld => ?_)
          clear hK K
          try simp only [Act.put, List.setIfInBounds_toArray, List.set_cons_zero, List.set_cons_succ]
          refine held_next 16 rfl (by kernel_rfl) (by rfl) (fun K hK => ?_)
          refine wp_allocA isS rfl ?_
          refine hK.out _ _ (fun i hi => Go.heap_alloc_old _ _ (HLT3.out i hi)) (fun hHeld => ?_)
          clear hK K
          try simp only [Act.put, List.setIfInBounds_toArray, List.set_cons_zero, List.set_cons_succ]
          refine held_take 17 (v := ?_) rfl (by kernel_rfl) (by kernel_rfl) (by kernel_rfl) (fun _ _ _ h => by cases h.1) hHeld (by rfl) ?_ ?_
          rotate_left
          · (intro W hW; go_simp; try with_reducible rfl)
          try simp only [Act.put, List.setIfInBounds_toArray, List.set_cons_zero, List.set_cons_succ]
          refine held_next 18 rfl (by kernel_rfl) (by rfl) (fun K hK => ?_)
          refine wp_store_row _ _ _ rfl wr.heap.size co.toArray rfl rfl _ zc.toArray (heap_alloc_new wr.drew _) (by rw [sizS]; simp [HCO.out.len]) (by simp [zc_len, HCO.out.len]) (all_oneCell_toArray HCO.out.one) ?_
          rw [setRow_new (w := wr.drew) (g := wr.heap.size) rfl]
          refine hK.out _ _ (fun i hi => Go.heap_alloc_old _ _ (HLT3.out i hi)) (fun hHeld => ?_)
          clear hK K
          refine held_take 19 (v := ?_) rfl (by kernel_rfl) (by kernel_rfl) (by kernel_rfl) (fun _ _ _ h => by cases h.1) hHeld (by rfl) ?_ ?_
          rotate_left
          · (intro W hW; go_simp; try with_reducible rfl)
          try simp only [Act.put, List.setIfInBounds_toArray, List.set_cons_zero, List.set_cons_succ]
          exact wpAnyH_done (by kernel_rfl) ⟨rfl, rfl, rfl⟩ _
        · refine wp_allocA isS rfl ?_
          refine hK.out _ _ (fun i hi => Go.heap_alloc_old _ _ (HLT3.out i hi)) (fun hHeld => ?_)
          clear hK K
          try simp only [Act.put, List.setIfInBounds_toArray, List.set_cons_zero, List.set_cons_succ]
          refine held_next 2 rfl (by kernel_rfl) (by rfl) (fun K hK => ?_)
          refine wp_callv _ _ rfl rfl rfl HE.out (HCL.out _ k (HON.out.trans (Only.of_below ((RowKit.Below.refl _ _).drew.alloc (Nat.le_refl _) _)) (fun i hi => Or.inl hi)) HKL.out) ?_
          refine hK.out _ _ (fun i hi => Go.heap_alloc_old _ _ (HLT3.out i hi)) (fun hHeld => ?_)
          clear hK K
          try simp only [Act.put, List.setIfInBounds_toArray, List.set_cons_zero, List.set_cons_succ]
          refine held_take 17 (v := ?_) rfl (by kernel_rfl) (by kernel_rfl) (by kernel_rfl) (fun _ _ _ h => by cases h.1) hHeld (by rfl) ?_ ?_
          rotate_left
          · (intro W hW; go_simp; try with_reducible rfl)
          try simp only [Act.put, List.setIfInBounds_toArray, List.set_cons_zero, List.set_cons_succ]
          refine held_next 18 rfl (by kernel_rfl) (by rfl) (fun K hK => ?_)
          refine wp_store_row _ _ _ rfl wr.heap.size co.toArray rfl rfl _ zc.toArray (heap_alloc_new wr.drew _) (by rw [sizS]; simp [HCO.out.len]) (by simp [zc_len, HCO.out.len]) (all_oneCell_toArray HCO.out.one) ?_
          rw [setRow_new (w := wr.drew) (g := wr.heap.size) rfl]
          refine hK.out _ _ (fun i hi => Go.heap_alloc_old _ _ (HLT3.out i hi)) (fun hHeld => ?_)
          clear hK K
          refine held_take 19 (v := ?_) rfl (by kernel_rfl) (by kernel_rfl) (by kernel_rfl) (fun _ _ _ h => by cases h.1) hHeld (by rfl) ?_ ?_
          rotate_left
          · (intro W hW; go_simp; try with_reducible rfl)
          try simp only [Act.put, List.setIfInBounds_toArray, List.set_cons_zero, List.set_cons_succ]
          exact wpAnyH_done (by kernel_rfl) ⟨rfl, rfl, rfl⟩ _
      go_wp2_with fail
      have HD4 := Lib.hid (show RowKit.Below wr.heap.size wr (wr.drew.alloc (.cells co.toArray 75)) from (RowKit.Below.refl _ _).drew.alloc (Nat.le_refl _) _)
      have HN4 := Lib.hid (show (wr.drew.alloc (.cells co.toArray 75)).heap[wr.heap.size]? = some (.cells co.toArray 75) from heap_alloc_new wr.drew _)
      generalize wr.drew.alloc (.cells co.toArray 75) = w4 at *
      have HAG := Lib.hid (fun (W : World) (e : RowKit.Below wr.heap.size wr W) => show W.heap[g]? = w4.heap[g]? from (e.block g (lt_of_heap HBLK.out)).trans (HD4.out.block g (lt_of_heap HBLK.out)).symm)
      have HC04 := Lib.hid (show w4.cell? ⟨g, 0, none⟩ = some (.slice (some ⟨gb, 0, none⟩) d.base.length c0) from (World.cell?_of_block (w := wr) (a := ⟨g, 0, none⟩) (HD4.out.block g (lt_of_heap HBLK.out))).trans HC0.out)
      have HD5 := Lib.hid (show RowKit.Below wr.heap.size wr (w4.drew.alloc (.cells #[.slice (some ⟨sb, so, none⟩) (cm k) 64, .slice (cutA (some ⟨wr.heap.size, 0, none⟩) 64 (cm k)) (64 - cm k) (64 - cm k)] 24)) from (HD4.out.drew).alloc HD4.out.size _)
      have HNL := Lib.hid (show (cutS p.2 old (cm k)).length = 64 from cutS_len hpl hol (HCM.out k))
      have HCAT := Lib.hid (show Calls Try.prog 50 #[.slice (some ⟨w4.heap.size, 0, none⟩) 2 2] (w4.drew.alloc (.cells #[.slice (some ⟨sb, so, none⟩) (cm k) 64, .slice (cutA (some ⟨wr.heap.size, 0, none⟩) 64 (cm k)) (64 - cm k) (64 - cm k)] 24)) (MadeB (cutS p.2 old (cm k)) _) from by
        have hpr : (w4.drew.alloc (.cells #[.slice (some ⟨sb, so, none⟩) (cm k) 64, .slice (cutA (some ⟨wr.heap.size, 0, none⟩) 64 (cm k)) (64 - cm k) (64 - cm k)] 24)).heap[w4.heap.size]? = some _ := heap_alloc_new w4.drew _
        have hle := HCM.out k
        have b1 : BAt (w4.drew.alloc (.cells #[.slice (some ⟨sb, so, none⟩) (cm k) 64, .slice (cutA (some ⟨wr.heap.size, 0, none⟩) 64 (cm k)) (64 - cm k) (64 - cm k)] 24)) (some ⟨sb, so, none⟩) (p.2.take (cm k)) := (bat_of (range_of HSB.out (HD5.out.block sb HSBL.out))).take _
        have b2 : BAt (w4.drew.alloc (.cells #[.slice (some ⟨sb, so, none⟩) (cm k) 64, .slice (cutA (some ⟨wr.heap.size, 0, none⟩) 64 (cm k)) (64 - cm k) (64 - cm k)] 24)) (cutA (some ⟨wr.heap.size, 0, none⟩) 64 (cm k)) (old.drop (cm k)) := BAt.drop (bat_of (by rw [← hco]; exact range_row ((Go.heap_alloc_old _ _ (lt_of_heap HN4.out)).trans HN4.out))) (by rw [hol]; exact hle) (by rw [hol]; exact Nat.le_refl _)
        exact concat_any w4.heap.size _ _ (p.2.take (cm k)) (old.drop (cm k)) (cm k) (64 - cm k) 64 (64 - cm k) _ (by rw [cell_of_row _ _ _ _ _ _ hpr]; rfl) (by rw [cell_of_row _ _ _ _ _ _ hpr]; rfl) b1 b2 (by rw [List.length_take]; omega) (by rw [List.length_drop]; omega) (fun e => by cases e) (fun e => by unfold cutA at e; split at e <;> cases e) (by omega) (by omega) (by omega))
      have HOLD := Lib.hid hold
      clear hold hol hpl hco
      refine wp_region_held_drew (S := fun W => Agree [g] w4 W) (by kernel_rfl) ?_ (fun hHeld => ?_)
      · exact fun _ _ => rfl
      refine held_take 0 (v := ?_) rfl (by kernel_rfl) (by kernel_rfl) (by kernel_rfl) (fun _ _ _ h => h) hHeld (by rfl) ?_ ?_
      rotate_left
      · (intro W hW; go_simp; try with_reducible rfl)
      try simp only [Act.put, List.setIfInBounds_toArray, List.set_cons_zero, List.set_cons_succ]
      refine held_take 1 (v := ?_) rfl (by kernel_rfl) (by kernel_rfl) (by kernel_rfl) (fun _ _ _ h => h) hHeld (by rfl) ?_ ?_
      rotate_left
      · (intro W hW; go_simp; try with_reducible rfl)
      try simp only [Act.put, List.setIfInBounds_toArray, List.set_cons_zero, List.set_cons_succ]
      refine held_take 2 (v := ?_) rfl (by kernel_rfl) (by kernel_rfl) (by kernel_rfl) (fun _ _ _ h => h) hHeld (by rfl) ?_ ?_
      rotate_left
      · (intro W hW; go_simp; try with_reducible rfl)
      try simp only [Act.put, List.setIfInBounds_toArray, List.set_cons_zero, List.set_cons_succ]
      refine held_take 3 (v := ?_) rfl (by kernel_rfl) (by kernel_rfl) (by kernel_rfl) (fun _ _ _ h => h) hHeld (by rfl) ?_ ?_
      rotate_left
      · (intro W hW; have e := hW.cell (by simp) HC04.out; go_simp; try with_reducible rfl)
      try simp only [Act.put, List.setIfInBounds_toArray, List.set_cons_zero, List.set_cons_succ]
      refine held_take 4 (v := ?_) rfl (by kernel_rfl) (by kernel_rfl) (by kernel_rfl) (fun _ _ _ h => h) hHeld (by rfl) ?_ ?_
      rotate_left
      · (intro W hW; go_simp; try with_reducible rfl)
      try simp only [Act.put, List.setIfInBounds_toArray, List.set_cons_zero, List.set_cons_succ]
      refine held_take 5 (v := ?_) rfl (by kernel_rfl) (by kernel_rfl) (by kernel_rfl) (fun _ _ _ h => h) hHeld (by rfl) ?_ ?_
      rotate_left
      · (intro W hW; go_simp; try with_reducible rfl)
      try simp only [Act.put, List.setIfInBounds_toArray, List.set_cons_zero, List.set_cons_succ]
      refine held_take 6 (v := ?_) rfl (by kernel_rfl) (by kernel_rfl) (by kernel_rfl) (fun _ _ _ h => h) hHeld (by rfl) ?_ ?_
      rotate_left
      · (intro W hW; have e := HIS.out W; go_simp; try with_reducible rfl)
      try simp only [Act.put, List.setIfInBounds_toArray, List.set_cons_zero, List.set_cons_succ]
      refine held_take 7 (v := ?_) rfl (by kernel_rfl) (by kernel_rfl) (by kernel_rfl) (fun _ _ _ h => h) hHeld (by rfl) ?_ ?_
      rotate_left
      · (intro W hW; go_simp; try with_reducible rfl)
      try simp only [Act.put, List.setIfInBounds_toArray, List.set_cons_zero, List.set_cons_succ]
      refine held_take 8 (v := ?_) rfl (by kernel_rfl) (by kernel_rfl) (by kernel_rfl) (fun _ _ _ h => h) hHeld (by rfl) ?_ ?_
      rotate_left
      · (intro W hW; have e := HSL1.out W; go_simp; try with_reducible rfl)
      try simp only [Act.put, List.setIfInBounds_toArray, List.set_cons_zero, List.set_cons_succ]
      refine held_take 9 (v := ?_) rfl (by kernel_rfl) (by kernel_rfl) (by kernel_rfl) (fun _ _ _ h => h) hHeld (by rfl) ?_ ?_
      rotate_left
      · (intro W hW; go_simp; try with_reducible rfl)
      try simp only [Act.put, List.setIfInBounds_toArray, List.set_cons_zero, List.set_cons_succ]
      refine held_take 10 (v := ?_) rfl (by kernel_rfl) (by kernel_rfl) (by kernel_rfl) (fun _ _ _ h => h) hHeld (by rfl) ?_ ?_
      rotate_left
      · (intro W hW; have e := HSL2.out W; go_simp; try with_reducible rfl)
      try simp only [Act.put, List.setIfInBounds_toArray, List.set_cons_zero, List.set_cons_succ]
      refine held_next 11 rfl (by kernel_rfl) (by rfl) (fun K hK => ?_)
      refine wp_pair _ _ rfl rfl rfl ?_
      refine hK.out _ _ (fun i hi => by rw [List.mem_singleton.1 hi]; exact HAG.out _ HD5.out) (fun hHeld => ?_)
      clear hK K
      try simp only [Act.put, List.setIfInBounds_toArray, List.set_cons_zero, List.set_cons_succ]
      refine held_next 12 rfl (by kernel_rfl) (by rfl) (fun K hK => ?_)
      go_simp
      go_at_call 50
      refine (HCAT.out).mono ?_
      rintro _ w6 hmb
      obtain ⟨ab, cb, bt, br, bn, bl, _⟩ := hmb.row
      subst bt
      have HB6 := Lib.hid (HD5.out.trans (bl.mono HD5.out.size))
      have HBR := Lib.hid br
      clear hmb br bn bl
      refine hK.out _ _ (fun i hi => by rw [List.mem_singleton.1 hi]; exact HAG.out _ HB6.out) (fun hHeld => ?_)
      clear hK K
      try simp only [Act.put, List.setIfInBounds_toArray, List.set_cons_zero, List.set_cons_succ]
      obtain ⟨rb, ro, hab, hrr⟩ := range_bat HBR.out (by rw [HNL.out]; decide)
      subst hab
      have HRR := Lib.hid hrr
      clear hrr
      refine held_next 13 rfl (by kernel_rfl) (by rfl) (fun K hK => ?_)
      refine wp_arr _ rfl rfl (by rw [HNL.out]; exact Nat.le_refl _) ?_
      refine hK.out _ _ (fun i hi => by rw [List.mem_singleton.1 hi]; exact HAG.out _ HB6.out) (fun hHeld => ?_)
      clear hK K
      try simp only [Act.put, List.setIfInBounds_toArray, List.set_cons_zero, List.set_cons_succ]
      refine held_next 14 rfl (by kernel_rfl) (by rfl) (fun K hK => ?_)
      refine wp_load_mid _ _ rfl rb ro rfl _ _ HRR.out undS rfl (by rw [sizS, cells_len _ HNL.out]) ?_
      refine hK.out _ _ (fun i hi => by rw [List.mem_singleton.1 hi]; exact HAG.out _ HB6.out) (fun hHeld => ?_)
      clear hK K
      try simp only [Act.put, List.setIfInBounds_toArray, List.set_cons_zero, List.set_cons_succ]
      refine held_take 15 (v := ?_) rfl (by kernel_rfl) (by kernel_rfl) (by kernel_rfl) (fun _ _ _ h => h) hHeld (by rfl) ?_ ?_
      rotate_left
      · (intro W hW; have e := HIX.out W; go_simp; try with_reducible rfl)
      try simp only [Act.put, List.setIfInBounds_toArray, List.set_cons_zero, List.set_cons_succ]
      refine held_next 16 rfl (by kernel_rfl) (by rfl) (fun K hK => ?_)
      refine wp_store_mid _ _ _ rfl gb (p.1 * 64) _ rfl rfl (ow_there (HST.out.below HB6.out).bs (by simp [cells_len _ HNL.out]; have := HXL.out; omega)) (by rw [sizS]; simp [cells_len _ HNL.out]) (all_oneCell_toArray (bcells_one _)) ?_
      rw [List.toList_toArray]
      refine hK.out _ _ (fun i hi => by rw [List.mem_singleton.1 hi]; exact (ow_setg HST.out HB6.out HXL.out HNL.out HGB.out).trans (HAG.out _ HB6.out)) (fun hHeld => ?_)
      clear hK K
      refine wpAnyH_done (by kernel_rfl) ?_ _
      go_simp
      have HC27 := Lib.hid (show (w6.setCells gb (p.1 * 64) (bcells (cutS p.2 old (cm k)))).cell? ⟨g, 2, none⟩ = some (.map (some m)) from (World.cell?_of_block (w := wr) (a := ⟨g, 2, none⟩) ((ow_setg HST.out HB6.out HXL.out HNL.out HGB.out).trans (HB6.out.block g (lt_of_heap HBLK.out)))).trans HC2.out)
      have HM7 := Lib.hid (HST.out.mp.same ((ow_setg HST.out HB6.out HXL.out HNL.out HMB.out).trans (HB6.out.block m HST.out.mp.lt)))
      have HG7L := Lib.hid (show g < (w6.setCells gb (p.1 * 64) (bcells (cutS p.2 old (cm k)))).heap.size by rw [size_setCells]; exact Nat.lt_of_lt_of_le (lt_of_heap HBLK.out) HB6.out.size)
      have HSTEP := Lib.hid (fun (w8 : World) (hm8 : MapAt w8 m (cnt' + 1) (updF f' (p.1 : Int) (.slice (if scap = 1 then some ⟨sb, so, none⟩ else some ⟨sb, so + 64, none⟩) L (scap - 1)))) (hg8 : (w6.setCells gb (p.1 * 64) (bcells (cutS p.2 old (cm k)))).grownBy w8 (some m)) => HST.out.step HCM.out HKD.out.ok HKL.out HP.out (by rw [← HLL.out]; exact HFX.out) HB6.out (by rw [← HLL.out]; exact hm8) (by rw [← HOLD.out]; exact hg8))
      generalize w6.setCells gb (p.1 * 64) (bcells (cutS p.2 old (cm k))) = w7 at *
      go_wp2_with fail
      refine wp_region_held_drew (S := fun W => Agree [g] w7 W) (by kernel_rfl) ?_ (fun hHeld => ?_)
      · exact fun _ _ => rfl
      refine held_take 0 (v := ?_) rfl (by kernel_rfl) (by kernel_rfl) (by kernel_rfl) (fun _ _ _ h => h) hHeld (by rfl) ?_ ?_
      rotate_left
      · (intro W hW; go_simp; try with_reducible rfl)
      try simp only [Act.put, List.setIfInBounds_toArray, List.set_cons_zero, List.set_cons_succ]
      refine held_take 1 (v := ?_) rfl (by kernel_rfl) (by kernel_rfl) (by kernel_rfl) (fun _ _ _ h => h) hHeld (by rfl) ?_ ?_
      rotate_left
      · (intro W hW; go_simp; try with_reducible rfl)
      try simp only [Act.put, List.setIfInBounds_toArray, List.set_cons_zero, List.set_cons_succ]
      refine held_take 2 (v := ?_) rfl (by kernel_rfl) (by kernel_rfl) (by kernel_rfl) (fun _ _ _ h => h) hHeld (by rfl) ?_ ?_
      rotate_left
      · (intro W hW; go_simp; try with_reducible rfl)
      try simp only [Act.put, List.setIfInBounds_toArray, List.set_cons_zero, List.set_cons_succ]
      refine held_take 3 (v := ?_) rfl (by kernel_rfl) (by kernel_rfl) (by kernel_rfl) (fun _ _ _ h => h) hHeld (by rfl) ?_ ?_
      rotate_left
      · (intro W hW; have e := hW.cell (by simp) HC27.out; go_simp; try with_reducible rfl)
      try simp only [Act.put, List.setIfInBounds_toArray, List.set_cons_zero, List.set_cons_succ]
      refine held_take 4 (v := ?_) rfl (by kernel_rfl) (by kernel_rfl) (by kernel_rfl) (fun _ _ _ h => h) hHeld (by rfl) ?_ ?_
      rotate_left
      · (intro W hW; go_simp; try with_reducible rfl)
      try simp only [Act.put, List.setIfInBounds_toArray, List.set_cons_zero, List.set_cons_succ]
      refine held_take 5 (v := ?_) rfl (by kernel_rfl) (by kernel_rfl) (by kernel_rfl) (fun _ _ _ h => h) hHeld (by rfl) ?_ ?_
      rotate_left
      · (intro W hW; go_simp; try with_reducible rfl)
      try simp only [Act.put, List.setIfInBounds_toArray, List.set_cons_zero, List.set_cons_succ]
      refine held_take 6 (v := ?_) rfl (by kernel_rfl) (by kernel_rfl) (by kernel_rfl) (fun _ _ _ h => h) hHeld (by rfl) ?_ ?_
      rotate_left
      · (intro W hW; have e := HSL3.out W; go_simp; try with_reducible rfl)
      try simp only [Act.put, List.setIfInBounds_toArray, List.set_cons_zero, List.set_cons_succ]
      refine held_next 7 rfl (by kernel_rfl) (by rfl) (fun K hK => ?_)
      refine wp_upd (w := w7.drew) (f := f') (cnt := cnt') (m := m) (x := (p.1 : Int)) _ _ _ rfl rfl rfl rfl HM7.out HXI.out (by have := HST.out.cn; have := HKD.out.ok.qn; have := HKL.out; omega) (fun w8 hm8 hg8 hs8 => ?_)
      have HS8 := Lib.hid (HSTEP.out w8 hm8 ⟨hg8.os, hg8.tape, hg8.output, hg8.size, hg8.block⟩)
      have HM8 := Lib.hid hg8
      clear hm8 hg8 hs8
      refine hK.out _ _ (fun i hi => by rw [List.mem_singleton.1 hi]; exact HM8.out.block _ HG7L.out (fun e => HGM.out (by injection e))) (fun hHeld => ?_)
      clear hK K
      refine wpAnyH_done (by kernel_rfl) ?_ _
      go_simp
      go_wp2_with fail
      go_roundw
      case rel => exact ⟨k + 1, cnt' + 1, _, by go_num, by have := HKL.out; omega, HS8.out⟩
      case measure => simp; have := HKL.out; omega
    · obtain rfl : k = d.queue.length := by omega
      have HC1 := Lib.hid (show wr.cell? ⟨g, 1, none⟩ = some (.slice a1 d.queue.length c1) by rw [cell_of_row _ _ _ _ _ _ HBLK.out]; rfl)
      have q1 := HC1.out
      have q2 : wr.cell? ⟨g, 2, none⟩ = some (.map (some m)) := by rw [cell_of_row _ _ _ _ _ _ HBLK.out]; rfl
      have f1 := frozen_of_row _ _ 1 _ _ HBLK.out
      have HMS := Lib.hid (show MapAt (wr.setCell ⟨g, 1, none⟩ (.slice none 0 0)) m cnt' f' from HST.out.mp.same (heap_setCell_other _ _ _ _ (map_row HST.out.mp HBLK.out)))
      have HNE := Lib.hid (show g ≠ m from fun e => HNG.out (Or.inr e))
      clear hk9 hk hlt
      go_wp2_with (with_reducible refine wpList_clear rfl _ rfl rfl HMS.out ?_; intro w9 hm9 hg9 hs9; have HD := Lib.hid (settle_end HKD.out HCM.out HST.out hm9 hg9 (by rw [hs9]; simp)); clear hm9 hg9 hs9)
      go_end0
      exact ⟨rfl, HD.out⟩
end Go.Proofs.Ytogdmjegcihopaa
