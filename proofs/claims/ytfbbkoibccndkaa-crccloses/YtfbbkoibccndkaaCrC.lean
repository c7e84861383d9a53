/- Arrays of 32 numbers, by value and in memory. -/
import Derived.Test.YtfbbkoibccndkaaCrB
import Derived.Laws.Rows
import Derived.Laws.Tables
namespace Go.Proofs.Ytfbbkoibccndkaa
open Go.RowKit Go.Lib

/-- an array of 32 numbers -/
def tab (k : IntKind) (f : Nat → Int) : Array Value := Array.ofFn (n := 32) fun j => .int k (f j)
theorem tab_size (k : IntKind) (f : Nat → Int) : (tab k f).size = 32 := by simp [tab]
theorem tab_get (k : IntKind) (f : Nat → Int) {i : Nat} (h : i < 32) : (tab k f)[i]? = some (.int k (f i)) := by simp [tab, h]
theorem tab_congr {k : IntKind} {f g : Nat → Int} (h : ∀ i, i < 32 → f i = g i) : tab k f = tab k g := by
  unfold tab
  congr 1
  funext j
  rw [h j j.isLt]
theorem tab_set (k : IntKind) (f : Nat → Int) {i : Nat} (h : i < 32) (x : Int) : (tab k f).setIfInBounds i (.int k x) = tab k (fun j => if j = i then x else f j) := by
  apply Array.ext_getElem?
  intro j
  rw [Array.getElem?_setIfInBounds, tab_size]
  by_cases e : i = j
  · subst e
    rw [if_pos rfl, if_pos h, tab_get k _ h, if_pos rfl]
  · rw [if_neg e]
    by_cases hj : j < 32
    · rw [tab_get k _ hj, tab_get k _ hj, if_neg (fun e2 => e e2.symm)]
    · rw [Array.getElem?_eq_none (by rw [tab_size]; omega), Array.getElem?_eq_none (by rw [tab_size]; omega)]
theorem tab_one (k : IntKind) (f : Nat → Int) : (tab k f).all (·.oneCell') = true := by
  rw [Array.all_eq_true_iff_forall_mem]
  intro v hv
  unfold tab at hv
  obtain ⟨j, rfl⟩ := Array.mem_ofFn.1 hv
  rfl
theorem zeroI : ∀ w, (zeroValue 30).run Try.prog w = .ok (.agg (tab .i64 fun _ => 0)) w := by
  intro w
  rw [Try.zeroValue30]
  rfl
theorem zeroM : ∀ w, (zeroValue 46).run Try.prog w = .ok (.agg (tab .u32 fun _ => 0)) w := by
  intro w
  rw [Try.zeroValue46]
  rfl
/-- the array's type, and what its zero is -/
structure IsTab (T : TypeId) (k : IntKind) : Prop where
  zero : ∀ w, (zeroValue T).run Try.prog w = .ok (.agg (tab k fun _ => 0)) w
  und : ∃ e, Try.prog.underlying T = some (.array 32 e) ∧ ∀ w, (sizeOf e).run Try.prog w = .ok 1 w
  size : (Try.prog.info? T).map (·.size) = some 32
theorem isI : IsTab 30 .i64 := ⟨zeroI, ⟨3, Try.underlying30, Try.sizeOf3⟩, by kernel_rfl⟩
theorem isM : IsTab 46 .u32 := ⟨zeroM, ⟨26, Try.underlying46, Try.sizeOf26⟩, by kernel_rfl⟩

theorem run_build0 {T : TypeId} {k : IntKind} (h : IsTab T k) (w : World) : (Instr.build T #[]).run Try.prog w = .ok (.agg (tab k fun _ => 0)) w := by
  obtain ⟨e, he, hs⟩ := h.und
  simp [Instr.build, Sem.run_bind, h.zero, run_underlying he, hs, Value.cells, Instr.fill]
theorem run_alloc0 {T : TypeId} {k : IntKind} (h : IsTab T k) (w : World) : (Instr.alloc T true (.tuple #[])).run Try.prog w = .ok (.pointer (some ⟨w.heap.size, 0, none⟩)) (w.alloc (.cells (tab k fun _ => 0) T)) := by
  simp [Instr.alloc, Sem.run_bind, h.zero, newVar, newRow, Value.cells, go_sem]
theorem wpList_alloc0 {ops : Array Oper} {rest : List Oper} {o : Oper} {a : Act} {w : World} {Q : Exit → Act → World → Prop} (hgd : o.guard = none) {T : TypeId} {k : IntKind} (h : IsTab T k) (ho : o.op = .alloc T)
    (hq : wpList Try.prog ops Q rest (a.put o.dst (.pointer (some ⟨w.heap.size, 0, none⟩))) (w.alloc (.cells (tab k fun _ => 0) T))) : wpList Try.prog ops Q (o :: rest) a w :=
  wpList_plain hgd fun K hK => by
    unfold Oper.wp execOp
    simp only [ho, Sem.run_bind, Sem.run_pure, Result.andThen_ok, run_alloc0 h]
    exact hK _ _ hq
theorem wpList_build0 {ops : Array Oper} {rest : List Oper} {o : Oper} {a : Act} {w : World} {Q : Exit → Act → World → Prop} (hgd : o.guard = none) {T : TypeId} {k : IntKind} (h : IsTab T k) (ho : o.op = .build T #[])
    (hq : wpList Try.prog ops Q rest (a.put o.dst (.agg (tab k fun _ => 0))) w) : wpList Try.prog ops Q (o :: rest) a w :=
  wpList_plain hgd fun K hK => by
    unfold Oper.wp execOp
    simp only [ho, Sem.run_bind, Sem.run_pure, Result.andThen_ok, List.map_toArray, List.map_nil, run_build0 h]
    exact hK _ _ hq
theorem run_box0 (T : TypeId) (cs : Array Value) (w : World) : (Instr.box T (.agg cs)).run Try.prog w = .ok (.pointer (some ⟨w.heap.size, 0, none⟩)) (w.alloc (.cells cs T)) := by
  simp [Instr.box, newVar, newRow, Value.cells, go_sem]
theorem wpList_box0 {ops : Array Oper} {rest : List Oper} {o : Oper} {a : Act} {w : World} {Q : Exit → Act → World → Prop} (hgd : o.guard = none) (T : TypeId) (x : Operand) (ho : o.op = .box T x) (cs : Array Value) (hx : a.eval x = .agg cs)
    (hq : wpList Try.prog ops Q rest (a.put o.dst (.pointer (some ⟨w.heap.size, 0, none⟩))) (w.alloc (.cells cs T))) : wpList Try.prog ops Q (o :: rest) a w :=
  wpList_plain hgd fun K hK => by
    unfold Oper.wp execOp
    simp only [ho, hx, Sem.run_bind, Sem.run_pure, Result.andThen_ok, run_box0]
    exact hK _ _ hq
theorem tabi (k : IntKind) (f : Nat → Int) {T : TypeId} (h : IsTab T k) : (Try.prog.info? T).map (·.size) = some (tab k f).size := by rw [h.size, tab_size]
theorem wpList_store0 {ops : Array Oper} {rest : List Oper} {o : Oper} {a : Act} {w : World} {Q : Exit → Act → World → Prop} (hgd : o.guard = none) {T : TypeId} {k : IntKind} (h : IsTab T k) (x y : Operand) (ho : o.op = .store T x y)
    (g : Nat) (f f0 : Nat → Int) (hx : a.eval x = .pointer (some ⟨g, 0, none⟩)) (hy : a.eval y = .agg (tab k f)) (hg : w.heap[g]? = some (.cells (tab k f0) T))
    (hq : wpList Try.prog ops Q rest (a.put o.dst undef) (w.setRow g (tab k f))) : wpList Try.prog ops Q (o :: rest) a w :=
  wpList_store_row hgd T x y ho g _ hx hy T _ hg (tabi k f h) (by rw [tab_size, tab_size]) (tab_one k f) hq
theorem wpList_load0 {ops : Array Oper} {rest : List Oper} {o : Oper} {a : Act} {w : World} {Q : Exit → Act → World → Prop} (hgd : o.guard = none) {T : TypeId} {k : IntKind} (h : IsTab T k) (x : Operand) (ho : o.op = .load T x)
    (g : Nat) (f : Nat → Int) (hx : a.eval x = .pointer (some ⟨g, 0, none⟩)) (hg : w.heap[g]? = some (.cells (tab k f) T))
    (hq : wpList Try.prog ops Q rest (a.put o.dst (.agg (tab k f))) w) : wpList Try.prog ops Q (o :: rest) a w := by
  obtain ⟨e, he, _⟩ := h.und
  exact wpList_load_row hgd T x ho g hx T _ (0, 0) _ hg he rfl (tabi k f h) hq
/-- an array, of whatever it is told -/
structure Arr (cs : Array Value) : Prop where
  size : cs.size = 32
  one : cs.all (·.oneCell') = true
theorem arr_tab (k : IntKind) (f : Nat → Int) : Arr (tab k f) := ⟨tab_size k f, tab_one k f⟩
theorem wpList_store1 {ops : Array Oper} {rest : List Oper} {o : Oper} {a : Act} {w : World} {Q : Exit → Act → World → Prop} (hgd : o.guard = none) {T : TypeId} {k : IntKind} (h : IsTab T k) (x y : Operand) (ho : o.op = .store T x y)
    (g : Nat) (cs old : Array Value) (hx : a.eval x = .pointer (some ⟨g, 0, none⟩)) (hy : a.eval y = .agg cs) (hg : w.heap[g]? = some (.cells old T)) (hc : Arr cs) (hold : Arr old)
    (hq : wpList Try.prog ops Q rest (a.put o.dst undef) (w.setRow g cs)) : wpList Try.prog ops Q (o :: rest) a w :=
  wpList_store_row hgd T x y ho g _ hx hy T _ hg (by rw [h.size, hc.size]) (by rw [hold.size, hc.size]) hc.one hq
theorem wpList_load1 {ops : Array Oper} {rest : List Oper} {o : Oper} {a : Act} {w : World} {Q : Exit → Act → World → Prop} (hgd : o.guard = none) {T : TypeId} {k : IntKind} (h : IsTab T k) (x : Operand) (ho : o.op = .load T x)
    (g : Nat) (cs : Array Value) (hx : a.eval x = .pointer (some ⟨g, 0, none⟩)) (hg : w.heap[g]? = some (.cells cs T)) (hc : Arr cs)
    (hq : wpList Try.prog ops Q rest (a.put o.dst (.agg cs)) w) : wpList Try.prog ops Q (o :: rest) a w := by
  obtain ⟨e, he, _⟩ := h.und
  exact wpList_load_row hgd T x ho g hx T _ (0, 0) _ hg he rfl (by rw [h.size, hc.size]) hq
/-- the result lies in a block -/
theorem ret_arr {f : Func} {T : TypeId} {k : IntKind} {R : Ending → World → Prop} {a : Act} {w : World} {p : Nat} {g : Nat} {cs : Array Value} (hT : IsTab T k) (hf : f.results = #[.cell p T]) (hp : a.tmps.getD p undef = .pointer (some ⟨g, 0, none⟩)) (hg : w.heap[g]? = some (.cells cs T)) (hc : Arr cs) (hd : a.defers = [])
    (hR : R (.returned (.agg cs)) w) : bodyPost Try.prog f R .ret a w := by
  obtain ⟨e, he, _⟩ := hT.und
  exact bodyPost_ret (results_cell_row hf _ w g T _ (0, 0) _ hp hg he rfl (by rw [hT.size, hc.size])) hd hR
theorem below_setRow {B g : Nat} {a w : World} {cs : Array Value} (h : RowKit.Below B a w) (hg : B ≤ g) : RowKit.Below B a (w.setRow g cs) :=
  h.trans ⟨rfl, rfl, rfl, by simp, fun i hi => setRow_other w g i cs (by omega)⟩
theorem setRow_new {w : World} {g : Nat} {cs ds : Array Value} {T : TypeId} (hg : g = w.heap.size) : (w.alloc (.cells cs T)).setRow g ds = w.alloc (.cells ds T) := by
  subst hg
  simp only [World.setRow, World.alloc]
  congr 1
  apply Array.ext_getElem?
  intro i
  rw [Array.getElem?_modify]
  by_cases h : w.heap.size = i
  · subst h
    simp
  · have h' : ¬ i = w.heap.size := fun e => h e.symm
    simp [h, h', Array.getElem?_push]
theorem blk0 (w : World) (o : Obj) : (w.alloc o).heap[w.heap.size]? = some o := Go.heap_alloc_new w o
theorem blkn {w : World} {o : Obj} {n : Nat} (h : n = w.heap.size) : (w.alloc o).heap[n]? = some o := by subst h; exact blk0 w o
theorem blk_in {w : World} {o x : Obj} {i : Nat} (h : w.heap[i]? = some x) : (w.alloc o).heap[i]? = some x := by
  have hl : i < w.heap.size := by
    rcases Nat.lt_or_ge i w.heap.size with h' | h'
    · exact h'
    · rw [Array.getElem?_eq_none h'] at h; cases h
  rw [RowKit.Below.heap_alloc w o i hl]; exact h
theorem blk_row {w : World} {i g : Nat} {x : Obj} {cs : Array Value} (h : w.heap[i]? = some x) (hne : i ≠ g) : (w.setRow g cs).heap[i]? = some x := by
  rw [setRow_other w g i cs hne]; exact h
theorem blk_below {w w' : World} {i : Nat} {x : Obj} (h : w.heap[i]? = some x) (hb : RowKit.Below w.heap.size w w') : w'.heap[i]? = some x := by
  have hl : i < w.heap.size := by
    rcases Nat.lt_or_ge i w.heap.size with h' | h'
    · exact h'
    · rw [Array.getElem?_eq_none h'] at h; cases h
  rw [hb.block i hl]; exact h
theorem blk_lt {w : World} {i : Nat} {x : Obj} (h : w.heap[i]? = some x) : i < w.heap.size := by
  rcases Nat.lt_or_ge i w.heap.size with h' | h'
  · exact h'
  · rw [Array.getElem?_eq_none h'] at h; cases h
/-- the result lies in a block -/
theorem ret_tab {f : Func} {T : TypeId} {k : IntKind} {R : Ending → World → Prop} {a : Act} {w : World} {p : Nat} {g : Nat} {F : Nat → Int} (hT : IsTab T k) (hf : f.results = #[.cell p T]) (hp : a.tmps.getD p undef = .pointer (some ⟨g, 0, none⟩)) (hg : w.heap[g]? = some (.cells (tab k F) T)) (hd : a.defers = [])
    (hR : R (.returned (.agg (tab k F))) w) : bodyPost Try.prog f R .ret a w := by
  obtain ⟨e, he, _⟩ := hT.und
  exact bodyPost_ret (results_cell_row hf _ w g T _ (0, 0) _ hp hg he rfl (tabi k F hT)) hd hR
end Go.Proofs.Ytfbbkoibccndkaa
