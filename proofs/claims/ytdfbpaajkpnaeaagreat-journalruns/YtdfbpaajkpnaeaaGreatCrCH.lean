
/- Arrays of 32 numbers, by value and in memory. falseworkref07.Start. falseworkref07: a bit is taken in. falseworkref07: a register as a number. Package crc: matrices. Package crc: what a zero byte does. -/
import Derived.Test.YtdfbpaajkpnaeaaGreatCrMB
import Derived.Laws.Rows
import Derived.Laws.Tables

namespace Go.Proofs.YtdfbpaajkpnaeaaGreat
set_option maxRecDepth 100000
open Go.RowKit Go.Lib

/-- an array of 32 numbers -/
def tab (k : IntKind) (f : Nat → Int) : Array Value := Array.ofFn (n := 32) fun j => .int k (f j)
theorem tab_size (k : IntKind) (f : Nat → Int) : (tab k f).size = 32 := by simp [tab]
theorem tab_get (k : IntKind) (f : Nat → Int) {i : Nat} (h : i < 32) : (tab k f)[i]? = some (.int k (f i)) := by simp [tab, h]
theorem tab_congr {k : IntKind} {f g : Nat → Int} (h : ∀ i, i < 32 → f i = g i) : tab k f = tab k g := by
  unfold tab
  congr 1
  funext j
  rw [h j j.isLt]
theorem tab_set (k : IntKind) (f : Nat → Int) {i : Nat} (h : i < 32) (x : Int) : (tab k f).setIfInBounds i (.int k x) = tab k (fun j => if j = i then x else f j) := by
  apply Array.ext_getElem?
  intro j
  rw [Array.getElem?_setIfInBounds, tab_size]
  by_cases e : i = j
  · subst e
    rw [if_pos rfl, if_pos h, tab_get k _ h, if_pos rfl]
  · rw [if_neg e]
    by_cases hj : j < 32
    · rw [tab_get k _ hj, tab_get k _ hj, if_neg (fun e2 => e e2.symm)]
    · rw [Array.getElem?_eq_none (by rw [tab_size]; omega), Array.getElem?_eq_none (by rw [tab_size]; omega)]
theorem tab_one (k : IntKind) (f : Nat → Int) : (tab k f).all (·.oneCell') = true := by
  rw [Array.all_eq_true_iff_forall_mem]
  intro v hv
  unfold tab at hv
  obtain ⟨j, rfl⟩ := Array.mem_ofFn.1 hv
  rfl
theorem czeroI : ∀ w, (zeroValue 164).run Tryz.prog w = .ok (.agg (tab .i64 fun _ => 0)) w := by
  intro w
  rw [Tryz.zeroValue164]
  rfl
/-- the array's type, and what its zero is -/
structure IsTab (T : TypeId) (k : IntKind) : Prop where
  zero : ∀ w, (zeroValue T).run Tryz.prog w = .ok (.agg (tab k fun _ => 0)) w
  und : ∃ e, Tryz.prog.underlying T = some (.array 32 e) ∧ ∀ w, (sizeOf e).run Tryz.prog w = .ok 1 w
  size : (Tryz.prog.info? T).map (·.size) = some 32
theorem cisI : IsTab 164 .i64 := ⟨czeroI, ⟨3, Tryz.underlying164, Tryz.sizeOf3⟩, by kernel_rfl⟩
theorem run_build0 {T : TypeId} {k : IntKind} (h : IsTab T k) (w : World) : (Instr.build T #[]).run Tryz.prog w = .ok (.agg (tab k fun _ => 0)) w := by
  obtain ⟨e, he, hs⟩ := h.und
  simp [Instr.build, Sem.run_bind, h.zero, run_underlying he, hs, Value.cells, Instr.fill]
theorem run_alloc0 {T : TypeId} {k : IntKind} (h : IsTab T k) (w : World) : (Instr.alloc T true (.tuple #[])).run Tryz.prog w = .ok (.pointer (some ⟨w.heap.size, 0, none⟩)) (w.alloc (.cells (tab k fun _ => 0) T)) := by
  simp [Instr.alloc, Sem.run_bind, h.zero, newVar, newRow, Value.cells, go_sem]
theorem wpList_alloc0 {ops : Array Oper} {rest : List Oper} {o : Oper} {a : Act} {w : World} {Q : Exit → Act → World → Prop} (hgd : o.guard = none) {T : TypeId} {k : IntKind} (h : IsTab T k) (ho : o.op = .alloc T)
    (hq : wpList Tryz.prog ops Q rest (a.put o.dst (.pointer (some ⟨w.heap.size, 0, none⟩))) (w.alloc (.cells (tab k fun _ => 0) T))) : wpList Tryz.prog ops Q (o :: rest) a w :=
  wpList_plain hgd fun K hK => by
    unfold Oper.wp execOp
    simp only [ho, Sem.run_bind, Sem.run_pure, Result.andThen_ok, run_alloc0 h]
    exact hK _ _ hq
theorem wpList_build0 {ops : Array Oper} {rest : List Oper} {o : Oper} {a : Act} {w : World} {Q : Exit → Act → World → Prop} (hgd : o.guard = none) {T : TypeId} {k : IntKind} (h : IsTab T k) (ho : o.op = .build T #[])
    (hq : wpList Tryz.prog ops Q rest (a.put o.dst (.agg (tab k fun _ => 0))) w) : wpList Tryz.prog ops Q (o :: rest) a w :=
  wpList_plain hgd fun K hK => by
    unfold Oper.wp execOp
    simp only [ho, Sem.run_bind, Sem.run_pure, Result.andThen_ok, List.map_toArray, List.map_nil, run_build0 h]
    exact hK _ _ hq
theorem run_box0 (T : TypeId) (cs : Array Value) (w : World) : (Instr.box T (.agg cs)).run Tryz.prog w = .ok (.pointer (some ⟨w.heap.size, 0, none⟩)) (w.alloc (.cells cs T)) := by
  simp [Instr.box, newVar, newRow, Value.cells, go_sem]
theorem wpList_box0 {ops : Array Oper} {rest : List Oper} {o : Oper} {a : Act} {w : World} {Q : Exit → Act → World → Prop} (hgd : o.guard = none) (T : TypeId) (x : Operand) (ho : o.op = .box T x) (cs : Array Value) (hx : a.eval x = .agg cs)
    (hq : wpList Tryz.prog ops Q rest (a.put o.dst (.pointer (some ⟨w.heap.size, 0, none⟩))) (w.alloc (.cells cs T))) : wpList Tryz.prog ops Q (o :: rest) a w :=
  wpList_plain hgd fun K hK => by
    unfold Oper.wp execOp
    simp only [ho, hx, Sem.run_bind, Sem.run_pure, Result.andThen_ok, run_box0]
    exact hK _ _ hq
theorem tabi (k : IntKind) (f : Nat → Int) {T : TypeId} (h : IsTab T k) : (Tryz.prog.info? T).map (·.size) = some (tab k f).size := by rw [h.size, tab_size]
theorem wpList_store0 {ops : Array Oper} {rest : List Oper} {o : Oper} {a : Act} {w : World} {Q : Exit → Act → World → Prop} (hgd : o.guard = none) {T : TypeId} {k : IntKind} (h : IsTab T k) (x y : Operand) (ho : o.op = .store T x y)
    (g : Nat) (f f0 : Nat → Int) (hx : a.eval x = .pointer (some ⟨g, 0, none⟩)) (hy : a.eval y = .agg (tab k f)) (hg : w.heap[g]? = some (.cells (tab k f0) T))
    (hq : wpList Tryz.prog ops Q rest (a.put o.dst undef) (w.setRow g (tab k f))) : wpList Tryz.prog ops Q (o :: rest) a w :=
  wpList_store_row hgd T x y ho g _ hx hy T _ hg (tabi k f h) (by rw [tab_size, tab_size]) (tab_one k f) hq
theorem wpList_load0 {ops : Array Oper} {rest : List Oper} {o : Oper} {a : Act} {w : World} {Q : Exit → Act → World → Prop} (hgd : o.guard = none) {T : TypeId} {k : IntKind} (h : IsTab T k) (x : Operand) (ho : o.op = .load T x)
    (g : Nat) (f : Nat → Int) (hx : a.eval x = .pointer (some ⟨g, 0, none⟩)) (hg : w.heap[g]? = some (.cells (tab k f) T))
    (hq : wpList Tryz.prog ops Q rest (a.put o.dst (.agg (tab k f))) w) : wpList Tryz.prog ops Q (o :: rest) a w := by
  obtain ⟨e, he, _⟩ := h.und
  exact wpList_load_row hgd T x ho g hx T _ (0, 0) _ hg he rfl (tabi k f h) hq
/-- an array, of whatever it is told -/
structure Arr (cs : Array Value) : Prop where
  size : cs.size = 32
  one : cs.all (·.oneCell') = true
theorem arr_tab (k : IntKind) (f : Nat → Int) : Arr (tab k f) := ⟨tab_size k f, tab_one k f⟩
theorem wpList_store1 {ops : Array Oper} {rest : List Oper} {o : Oper} {a : Act} {w : World} {Q : Exit → Act → World → Prop} (hgd : o.guard = none) {T : TypeId} {k : IntKind} (h : IsTab T k) (x y : Operand) (ho : o.op = .store T x y)
    (g : Nat) (cs old : Array Value) (hx : a.eval x = .pointer (some ⟨g, 0, none⟩)) (hy : a.eval y = .agg cs) (hg : w.heap[g]? = some (.cells old T)) (hc : Arr cs) (hold : Arr old)
    (hq : wpList Tryz.prog ops Q rest (a.put o.dst undef) (w.setRow g cs)) : wpList Tryz.prog ops Q (o :: rest) a w :=
  wpList_store_row hgd T x y ho g _ hx hy T _ hg (by rw [h.size, hc.size]) (by rw [hold.size, hc.size]) hc.one hq
theorem wpList_load1 {ops : Array Oper} {rest : List Oper} {o : Oper} {a : Act} {w : World} {Q : Exit → Act → World → Prop} (hgd : o.guard = none) {T : TypeId} {k : IntKind} (h : IsTab T k) (x : Operand) (ho : o.op = .load T x)
    (g : Nat) (cs : Array Value) (hx : a.eval x = .pointer (some ⟨g, 0, none⟩)) (hg : w.heap[g]? = some (.cells cs T)) (hc : Arr cs)
    (hq : wpList Tryz.prog ops Q rest (a.put o.dst (.agg cs)) w) : wpList Tryz.prog ops Q (o :: rest) a w := by
  obtain ⟨e, he, _⟩ := h.und
  exact wpList_load_row hgd T x ho g hx T _ (0, 0) _ hg he rfl (by rw [h.size, hc.size]) hq
/-- the result lies in a block -/
theorem ret_arr {f : Func} {T : TypeId} {k : IntKind} {R : Ending → World → Prop} {a : Act} {w : World} {p : Nat} {g : Nat} {cs : Array Value} (hT : IsTab T k) (hf : f.results = #[.cell p T]) (hp : a.tmps.getD p undef = .pointer (some ⟨g, 0, none⟩)) (hg : w.heap[g]? = some (.cells cs T)) (hc : Arr cs) (hd : a.defers = [])
    (hR : R (.returned (.agg cs)) w) : bodyPost Tryz.prog f R .ret a w := by
  obtain ⟨e, he, _⟩ := hT.und
  exact bodyPost_ret (results_cell_row hf _ w g T _ (0, 0) _ hp hg he rfl (by rw [hT.size, hc.size])) hd hR
theorem cbelow_setRow {B g : Nat} {a w : World} {cs : Array Value} (h : RowKit.Below B a w) (hg : B ≤ g) : RowKit.Below B a (w.setRow g cs) :=
  h.trans ⟨rfl, rfl, rfl, by simp, fun i hi => setRow_other w g i cs (by omega)⟩
theorem csetRow_new {w : World} {g : Nat} {cs ds : Array Value} {T : TypeId} (hg : g = w.heap.size) : (w.alloc (.cells cs T)).setRow g ds = w.alloc (.cells ds T) := by
  subst hg
  simp only [World.setRow, World.alloc]
  congr 1
  apply Array.ext_getElem?
  intro i
  rw [Array.getElem?_modify]
  by_cases h : w.heap.size = i
  · subst h
    simp
  · have h' : ¬ i = w.heap.size := fun e => h e.symm
    simp [h, h', Array.getElem?_push]
theorem blk0 (w : World) (o : Obj) : (w.alloc o).heap[w.heap.size]? = some o := Go.heap_alloc_new w o
theorem cblkn {w : World} {o : Obj} {n : Nat} (h : n = w.heap.size) : (w.alloc o).heap[n]? = some o := by subst h; exact blk0 w o
theorem cblk_in {w : World} {o x : Obj} {i : Nat} (h : w.heap[i]? = some x) : (w.alloc o).heap[i]? = some x := by
  have hl : i < w.heap.size := by
    rcases Nat.lt_or_ge i w.heap.size with h' | h'
    · exact h'
    · rw [Array.getElem?_eq_none h'] at h; cases h
  rw [RowKit.Below.heap_alloc w o i hl]; exact h
theorem blk_row {w : World} {i g : Nat} {x : Obj} {cs : Array Value} (h : w.heap[i]? = some x) (hne : i ≠ g) : (w.setRow g cs).heap[i]? = some x := by
  rw [setRow_other w g i cs hne]; exact h
theorem blk_below {w w' : World} {i : Nat} {x : Obj} (h : w.heap[i]? = some x) (hb : RowKit.Below w.heap.size w w') : w'.heap[i]? = some x := by
  have hl : i < w.heap.size := by
    rcases Nat.lt_or_ge i w.heap.size with h' | h'
    · exact h'
    · rw [Array.getElem?_eq_none h'] at h; cases h
  rw [hb.block i hl]; exact h
theorem blk_lt {w : World} {i : Nat} {x : Obj} (h : w.heap[i]? = some x) : i < w.heap.size := by
  rcases Nat.lt_or_ge i w.heap.size with h' | h'
  · exact h'
  · rw [Array.getElem?_eq_none h'] at h; cases h
/-- the result lies in a block -/
theorem ret_tab {f : Func} {T : TypeId} {k : IntKind} {R : Ending → World → Prop} {a : Act} {w : World} {p : Nat} {g : Nat} {F : Nat → Int} (hT : IsTab T k) (hf : f.results = #[.cell p T]) (hp : a.tmps.getD p undef = .pointer (some ⟨g, 0, none⟩)) (hg : w.heap[g]? = some (.cells (tab k F) T)) (hd : a.defers = [])
    (hR : R (.returned (.agg (tab k F))) w) : bodyPost Tryz.prog f R .ret a w := by
  obtain ⟨e, he, _⟩ := hT.und
  exact bodyPost_ret (results_cell_row hf _ w g T _ (0, 0) _ hp hg he rfl (tabi k F hT)) hd hR
end Go.Proofs.YtdfbpaajkpnaeaaGreat

namespace Go.Proofs.YtdfbpaajkpnaeaaGreat
set_option maxRecDepth 100000
open Go.RowKit Go.Lib

/-- what a round of a loop over an array does -/
theorem tab_step {k : IntKind} {f g : Nat → Int} {i : Nat} (hi : i < 32) {x : Int} (h : ∀ j, j < 32 → g j = if j = i then x else f j) : ∃ c c' v, c = tab k f ∧ c' = tab k g ∧ v = f i ∧ c[i]? = some (.int k v) ∧ c.setIfInBounds i (.int k x) = c' :=
  ⟨_, _, _, rfl, rfl, rfl, tab_get k f hi, (tab_set k f hi x).trans (tab_congr fun j hj => (h j hj).symm)⟩
set_option maxRecDepth 100000 in
theorem rstart_any (w : World) : Calls Tryz.prog 102 #[] w fun e w' => e = .returned (.agg (tab .i64 fun _ => 1)) ∧ RowKit.Below w.heap.size w w' := by
  go_enter Tryz.func102, Tryz.ntmps102
  go_wp2_with (first | (with_reducible refine wpList_alloc0 rfl cisI rfl ?_) | (with_reducible refine wpList_build0 rfl cisI rfl ?_) | ((with_reducible refine wpList_store0 rfl cisI _ _ rfl _ (fun _ => 0) (fun _ => 0) rfl rfl ?_ ?_); exact blk0 _ _; rw [csetRow_new rfl]))
  go_loopw [4] (fun c4 wr => ∃ k : Nat, c4 = .int .i64 (k : Int) ∧ k ≤ 32 ∧ wr = (w.alloc (.cells (tab .i64 fun _ => 0) 164)).alloc (.cells (tab .i64 fun j => if j < k then 1 else 0) 164)) (fun c4 _ => 32 - (match c4 with | .int _ q => q | _ => 0).toNat)
  case atStart => exact ⟨0, rfl, by omega, rfl⟩
  case round =>
    obtain ⟨k, rfl, hk, rfl⟩ := hrel
    by_cases hlt : k < 32
    · obtain ⟨c, c', v, hc, hc', hv, h1, h2⟩ := tab_step (k := .i64) (f := fun j => if j < k then 1 else 0) (g := fun j => if j < k + 1 then 1 else 0) hlt (x := 1) (fun j _ => by
        by_cases e : j = k
        · subst e; simp
        · simp only [if_neg e]; by_cases h : j < k
          · rw [if_pos h, if_pos (by omega)]
          · rw [if_neg h, if_neg (by omega)])
      rw [← hc]
      have HC := Lib.hid hc'
      clear hc hc' hv
      go_wp2
      go_roundw
      case rel => exact ⟨k + 1, by go_num, by omega, by rw [HC.out]⟩
      case measure => simp; omega
    · have e : k = 32 := by omega
      subst e
      go_wp2_with (first | (with_reducible refine wpList_load0 rfl cisI _ rfl _ (fun j => if j < 32 then 1 else 0) rfl (cblkn (by simp)) ?_) | (with_reducible refine wpList_store0 rfl cisI _ _ rfl _ _ (fun _ => 0) rfl rfl (cblk_in (cblkn rfl)) ?_))
      refine ret_tab cisI Tryz.results102 rfl (setRow_heap _ _ _ _ _ _ (cblk_in (blk0 _ _))) rfl ⟨?_, ?_⟩
      · rw [tab_congr (g := fun _ => 1) (fun j hj => by simp [hj])]
      · exact cbelow_setRow (((RowKit.Below.refl _ _).alloc (Nat.le_refl _) _).alloc (by simp) _) (Nat.le_refl _)
end Go.Proofs.YtdfbpaajkpnaeaaGreat

namespace Go.Proofs.YtdfbpaajkpnaeaaGreat
set_option maxRecDepth 100000
open Go.RowKit Go.Lib

/-- a register as a list of its bits -/
def rg (r : Nat) : Array Value := tab .i64 fun i => (bt r i : Int)
theorem rg_get (r : Nat) {i : Nat} (h : i < 32) : (rg r)[i]? = some (.int .i64 (bt r i : Int)) := tab_get _ _ h

theorem po_int (k : Nat) : (3988292384 / 2 ^ k : Int).tmod 2 = (bt PO k : Int) := by
  have e : (3988292384 / 2 ^ k : Int) = ((3988292384 / 2 ^ k : Nat) : Int) := by simp
  rw [e]
  unfold bt PO
  generalize (3988292384 / 2 ^ k : Nat) = m
  rw [Int.tmod_eq_emod_of_nonneg (by omega)]
  omega
theorem po_yes {k : Nat} (h : bt PO k = 1) : ((3988292384 / 2 ^ k : Int).tmod 2 == 1) = true := by rw [po_int, h]; rfl
theorem po_no {k : Nat} (h : ¬ bt PO k = 1) : ((3988292384 / 2 ^ k : Int).tmod 2 == 1) = false := by rw [po_int]; simp; omega
set_option maxRecDepth 100000 in
set_option maxHeartbeats 800000 in
theorem rin_any (r b : Nat) (w : World) (hr : r < 4294967296) (hb : b ≤ 1) : Calls Tryz.prog 109 #[.agg (rg r), .int .i64 (b : Int)] w fun e w' => e = .returned (.agg (rg (tk r b))) ∧ RowKit.Below w.heap.size w w' := by
  obtain ⟨R, hR⟩ : ∃ R, R = rg r := ⟨_, rfl⟩
  obtain ⟨Z, hZ⟩ : ∃ Z, Z = tab .i64 fun _ => 0 := ⟨_, rfl⟩
  have HG := fun (i : Nat) (h : i < 32) => rg_get r h
  rw [← hR] at HG
  have g0 := HG 0 (by omega)
  rw [← hR]
  have HZ := Lib.hid hZ
  clear hZ hR
  have HR := Lib.hid hr
  obtain ⟨x, hx⟩ : ∃ x : Nat, x = bt r 0 := ⟨_, rfl⟩
  rw [← hx] at g0
  have hx1 : x ≤ 1 := by rw [hx]; exact bt_le r 0
  have HX := Lib.hid hx
  have HGG := Lib.hid HG
  clear hx HG hr
  go_enter Tryz.func109, Tryz.ntmps109
  go_wp2_with (first | (with_reducible refine wpList_box0 rfl _ _ rfl _ rfl ?_) | (with_reducible refine wpList_alloc0 rfl cisI rfl ?_) | (with_reducible refine wpList_build0 rfl cisI rfl ?_) | ((with_reducible refine wpList_store0 rfl cisI _ _ rfl _ (fun _ => 0) (fun _ => 0) rfl rfl (cblkn (by simp)) ?_); rw [csetRow_new (by simp)]))
  rw [← HZ.out]
  go_loopw [7] (fun c7 wr => ∃ k : Nat, c7 = .int .i64 (k : Int) ∧ k ≤ 31 ∧ wr = ((w.alloc (.cells R 164)).alloc (.cells Z 164)).alloc (.cells (tab .i64 fun j => if j < k then (bt r (j + 1) : Int) else 0) 164)) (fun c7 _ => 31 - (match c7 with | .int _ q => q | _ => 0).toNat)
  case atStart => exact ⟨0, rfl, by omega, by rw [HZ.out]; rfl⟩
  case round =>
    obtain ⟨k, rfl, hk, rfl⟩ := hrel
    by_cases hlt : k < 31
    · obtain ⟨c, c', v, hc, hc', hv, h1, h2⟩ := tab_step (k := .i64) (f := fun j => if j < k then (bt r (j + 1) : Int) else 0) (g := fun j => if j < k + 1 then (bt r (j + 1) : Int) else 0) (i := k) (by omega) (x := (bt r (k + 1) : Int)) (fun j _ => by
        by_cases e : j = k
        · subst e; simp
        · simp only [if_neg e]; by_cases h : j < k
          · rw [if_pos h, if_pos (by omega)]
          · rw [if_neg h, if_neg (by omega)])
      rw [← hc]
      have HC := Lib.hid hc'
      have hg := HGG.out (k + 1) (by omega)
      clear hc hc' hv
      generalize (bt r (k + 1) : Int) = y at *
      go_wp2
      go_roundw
      case rel => exact ⟨k + 1, by go_num, by omega, by rw [HC.out]⟩
      case measure => simp; omega
    · have e : k = 31 := by omega
      subst e
      rw [tab_congr (g := fun j => (bt r (j + 1) : Int)) (fun j hj => by
        by_cases h : j < 31
        · rw [if_pos h]
        · rw [if_neg h, show j = 31 by omega, bt_big (i := 31 + 1) HR.out]; rfl)]
      go_wp2
      go_loopw [25] (fun c25 wr => ∃ k : Nat, c25 = .int .i64 (k : Int) ∧ k ≤ 32 ∧ wr = ((w.alloc (.cells R 164)).alloc (.cells Z 164)).alloc (.cells (tab .i64 fun j => if j < k then (bt (tk r b) j : Int) else (bt r (j + 1) : Int)) 164)) (fun c25 _ => 32 - (match c25 with | .int _ q => q | _ => 0).toNat)
      case atStart => exact ⟨0, rfl, by omega, rfl⟩
      case round =>
        obtain ⟨k, rfl, hk, rfl⟩ := hrel
        by_cases hlt : k < 32
        · have hbt : bt (tk r b) k = (bt r (k + 1) + (if (bt r 0 + b) % 2 = 1 then bt PO k else 0)) % 2 := by
            rcases bt_tk r b k with h | h
            · rw [h, show bt r 0 = r % 2 by unfold bt; simp]
            · omega
          have hv3 := bt_le r (k + 1)
          have nx : bt (tk r b) k = bt r (k + 1) → tab .i64 (fun j => if j < k then (bt (tk r b) j : Int) else (bt r (j + 1) : Int)) = tab .i64 (fun j => if j < k + 1 then (bt (tk r b) j : Int) else (bt r (j + 1) : Int)) := fun h => tab_congr fun j _ => by
            by_cases e : j = k
            · subst e; simp [h]
            · by_cases h : j < k
              · rw [if_pos h, if_pos (by omega)]
              · rw [if_neg h, if_neg (by omega)]
          by_cases hd : (bt r 0 + b) % 2 = 1
          · have d1 : (((x : Int) + b) % 2 == 1) = true := by rw [HX.out]; simp; omega
            rw [if_pos hd] at hbt
            by_cases hp : bt PO k = 1
            · have d2 := po_yes hp
              rw [hp] at hbt
              obtain ⟨c, c', v, hc, hc', hv, h1, h2⟩ := tab_step (k := .i64) (f := fun j => if j < k then (bt (tk r b) j : Int) else (bt r (j + 1) : Int)) (g := fun j => if j < k + 1 then (bt (tk r b) j : Int) else (bt r (j + 1) : Int)) (i := k) hlt (x := 1 - (bt r (k + 1) : Int)) (fun j _ => by
                by_cases e : j = k
                · subst e
                  rw [if_pos (by omega), if_pos rfl, hbt]
                  omega
                · simp only [if_neg e]; by_cases h : j < k
                  · rw [if_pos h, if_pos (by omega)]
                  · rw [if_neg h, if_neg (by omega)])
              rw [← hc]
              have HC := Lib.hid hc'
              have hv2 : v = (bt r (k + 1) : Int) := by rw [hv]; simp
              rw [← hv2] at h2
              have v0 : 0 ≤ v := by omega
              have v1 : v ≤ 1 := by omega
              clear hc hc' hv hv2 hbt hd hp nx hv3
              go_wp2
              go_roundw
              case rel => exact ⟨k + 1, by go_num, by omega, by rw [HC.out]⟩
              case measure => simp; omega
            · have d2 := po_no hp
              have hc := nx (by rw [hbt, show bt PO k = 0 by have := bt_le PO k; omega]; omega)
              rw [hc]
              obtain ⟨c, hc'⟩ : ∃ c, c = tab .i64 (fun j => if j < k + 1 then (bt (tk r b) j : Int) else (bt r (j + 1) : Int)) := ⟨_, rfl⟩
              rw [← hc']
              have HC := Lib.hid hc'
              clear hc hc' hbt hd hp nx hv3
              go_wp2
              go_roundw
              case rel => exact ⟨k + 1, by go_num, by omega, by rw [HC.out]⟩
              case measure => simp; omega
          · have d1 : (((x : Int) + b) % 2 == 1) = false := by rw [HX.out]; simp; omega
            rw [if_neg hd] at hbt
            have hc := nx (by rw [hbt]; omega)
            rw [hc]
            obtain ⟨c, hc'⟩ : ∃ c, c = tab .i64 (fun j => if j < k + 1 then (bt (tk r b) j : Int) else (bt r (j + 1) : Int)) := ⟨_, rfl⟩
            rw [← hc']
            have HC := Lib.hid hc'
            clear hc hc' hbt hd nx hv3
            go_wp2
            go_roundw
            case rel => exact ⟨k + 1, by go_num, by omega, by rw [HC.out]⟩
            case measure => simp; omega
        · have e : k = 32 := by omega
          subst e
          have hc : tab .i64 (fun j => if j < 32 then (bt (tk r b) j : Int) else (bt r (j + 1) : Int)) = rg (tk r b) := tab_congr fun j hj => by simp [hj]
          rw [hc]
          obtain ⟨c, hc'⟩ : ∃ c, c = rg (tk r b) := ⟨_, rfl⟩
          rw [← hc']
          have ac : Arr c := by rw [hc']; exact arr_tab _ _
          have az : Arr Z := by rw [HZ.out]; exact arr_tab _ _
          have HC := Lib.hid hc'
          clear hc hc'
          go_wp2_with (first | (with_reducible refine wpList_load1 rfl cisI _ rfl _ c rfl (cblkn (by simp)) ac ?_) | (with_reducible refine wpList_store1 rfl cisI _ _ rfl _ c Z rfl rfl (cblk_in (cblkn (by simp))) ac az ?_))
          refine ret_arr cisI Tryz.results109 rfl (setRow_heap _ _ _ _ _ _ (cblk_in (cblkn (by simp)))) ac rfl ⟨by rw [HC.out], ?_⟩
          exact cbelow_setRow ((((RowKit.Below.refl _ _).alloc (Nat.le_refl _) _).alloc (by simp) _).alloc (by simp; omega) _) (by omega)
end Go.Proofs.YtdfbpaajkpnaeaaGreat

namespace Go.Proofs.YtdfbpaajkpnaeaaGreat
set_option maxRecDepth 100000
open Go.RowKit Go.Lib

set_option maxRecDepth 100000 in
set_option maxHeartbeats 800000 in
theorem cnumber_any (r : Nat) (w : World) (hr : r < 4294967296) : Calls Tryz.prog 100 #[.agg (rg r)] w fun e w' => e = .returned (.int .u32 (r : Int)) ∧ RowKit.Below w.heap.size w w' := by
  obtain ⟨R, hR⟩ : ∃ R, R = rg r := ⟨_, rfl⟩
  have HG := fun (i : Nat) (h : i < 32) => rg_get r h
  rw [← hR] at HG
  rw [← hR]
  have HGG := Lib.hid HG
  have HR := Lib.hid hr
  clear hR HG hr
  go_enter Tryz.func100, Tryz.ntmps100
  go_wp2_with (with_reducible refine wpList_box0 rfl _ _ rfl _ rfl ?_)
  go_loopw [3, 4] (fun c3 c4 wr => ∃ (i : Int) (o : Nat), c4 = .int .i64 i ∧ c3 = .int .u32 (o : Int) ∧ -1 ≤ i ∧ i ≤ 31 ∧ Hid (o = r / 2 ^ (i + 1).toNat) ∧ wr = w.alloc (.cells R 164)) (fun _ c4 _ => (match c4 with | .int _ q => q + 1 | _ => 0).toNat)
  case atStart => exact ⟨31, 0, rfl, rfl, by omega, by omega, by show 0 = _; have := HR.out; rw [Nat.div_eq_of_lt]; exact this, rfl⟩
  case round =>
    obtain ⟨i, o, rfl, rfl, h1, h2, HO, rfl⟩ := hrel
    by_cases hlt : 0 ≤ i
    · obtain ⟨k, rfl⟩ := Int.eq_ofNat_of_zero_le hlt
      have hg := HGG.out k (by omega)
      have hb := bt_le r k
      have hd := down_next r k
      have ho : o = r / 2 ^ (k + 1) := HO.out
      have hle := Nat.div_le_self r (2 ^ k)
      rw [← ho] at hd
      generalize bt r k = v at *
      have HD := Lib.hid hd
      have hob : 2 * (o : Int) + (v : Int) ≤ 4294967295 := by have := HR.out; omega
      clear ho hd hle HO
      go_wp2
      go_roundw
      case rel => exact ⟨(k : Int) - 1, 2 * o + v, rfl, by go_num, by omega, by omega, by show _ = _; rw [HD.out]; congr 2; omega, trivial⟩
      case measure => simp
    · have e : i = -1 := by omega
      subst e
      have ho : o = r := by rw [HO.out]; simp
      subst ho
      go_wp2
      go_ret
      exact ⟨rfl, (RowKit.Below.refl _ _).alloc (Nat.le_refl _) _⟩
end Go.Proofs.YtdfbpaajkpnaeaaGreat

namespace Go.Proofs.YtdfbpaajkpnaeaaGreat
set_option maxRecDepth 100000
open Go.RowKit Go.Lib

/-- a matrix of 32 columns -/
def mx (m : Nat → Nat) : Array Value := tab .u32 fun i => (m i : Int)
/-- three arrays of one's own, the last one is written to -/
structure Sq (w wr : World) (n : Nat) (T : TypeId) (M Z C : Array Value) : Prop where
  b : RowKit.Below n w wr
  m : wr.heap[n]? = some (.cells M T)
  z : wr.heap[n + 1]? = some (.cells Z T)
  c : wr.heap[n + 1 + 1]? = some (.cells C T)
theorem Sq.below {w wr wx : World} {n : Nat} {T : TypeId} {M Z C : Array Value} (h : Sq w wr n T M Z C) (hb : RowKit.Below wr.heap.size wr wx) : Sq w wx n T M Z C :=
  ⟨h.b.trans (hb.mono (Nat.le_of_lt (blk_lt h.m))), blk_below h.m hb, blk_below h.z hb, blk_below h.c hb⟩
theorem Sq.set {w wr : World} {n : Nat} {T : TypeId} {M Z C C' : Array Value} (h : Sq w wr n T M Z C) (k : Nat) (v : Value) (hc : C.setIfInBounds k v = C') : Sq w (wr.setCell ⟨n + 1 + 1, k, none⟩ v) n T M Z C' := by
  subst hc
  exact ⟨h.b.setCell (by simp; omega) v, by rw [heap_setCell_other _ _ _ _ (by simp; omega)]; exact h.m, by rw [heap_setCell_other _ _ _ _ (by simp)]; exact h.z, heap_setCell_same _ _ _ _ _ _ h.c⟩
theorem Sq.cell {w wr : World} {n : Nat} {T : TypeId} {M Z C : Array Value} (h : Sq w wr n T M Z C) (k : Nat) : wr.cell? ⟨n + 1 + 1, k, none⟩ = C[k]? ∧ wr.frozen? ⟨n + 1 + 1, k, none⟩ = false :=
  ⟨cell_of_row _ _ _ _ _ _ h.c, frozen_of_row _ _ _ _ _ h.c⟩
end Go.Proofs.YtdfbpaajkpnaeaaGreat

namespace Go.Proofs.YtdfbpaajkpnaeaaGreat
set_option maxRecDepth 100000
open Go.RowKit Go.Lib

/-- two arrays of one's own, the last one is written to -/
structure Sw (w wr : World) (n : Nat) (T : TypeId) (Z C : Array Value) : Prop where
  b : RowKit.Below n w wr
  z : wr.heap[n]? = some (.cells Z T)
  c : wr.heap[n + 1]? = some (.cells C T)
theorem Sw.below {w wr wx : World} {n : Nat} {T : TypeId} {Z C : Array Value} (h : Sw w wr n T Z C) (hb : RowKit.Below wr.heap.size wr wx) : Sw w wx n T Z C :=
  ⟨h.b.trans (hb.mono (Nat.le_of_lt (blk_lt h.z))), blk_below h.z hb, blk_below h.c hb⟩
theorem Sw.set {w wr : World} {n : Nat} {T : TypeId} {Z C C' : Array Value} (h : Sw w wr n T Z C) (k : Nat) (v : Value) (hc : C.setIfInBounds k v = C') : Sw w (wr.setCell ⟨n + 1, k, none⟩ v) n T Z C' := by
  subst hc
  exact ⟨h.b.setCell (by simp) v, by rw [heap_setCell_other _ _ _ _ (by simp)]; exact h.z, heap_setCell_same _ _ _ _ _ _ h.c⟩
theorem Sw.cell {w wr : World} {n : Nat} {T : TypeId} {Z C : Array Value} (h : Sw w wr n T Z C) (k : Nat) : wr.cell? ⟨n + 1, k, none⟩ = C[k]? ∧ wr.frozen? ⟨n + 1, k, none⟩ = false :=
  ⟨cell_of_row _ _ _ _ _ _ h.c, frozen_of_row _ _ _ _ _ h.c⟩
theorem Sw.lt {w wr : World} {n : Nat} {T : TypeId} {Z C : Array Value} (h : Sw w wr n T Z C) : n + 1 < wr.heap.size := blk_lt h.c

theorem pow_lt32 {k : Nat} (h : k < 32) : 2 ^ k < 4294967296 := by
  have := Nat.pow_lt_pow_right (show 1 < 2 by omega) h
  exact this
theorem pow_mod32 {k : Nat} (h : k < 32) : ((2 : Int) ^ k % 4294967296) = ((2 ^ k : Nat) : Int) := by
  rw [show (2 : Int) ^ k = ((2 ^ k : Nat) : Int) by simp]
  have := pow_lt32 h
  generalize 2 ^ k = p at *
  omega
end Go.Proofs.YtdfbpaajkpnaeaaGreat
