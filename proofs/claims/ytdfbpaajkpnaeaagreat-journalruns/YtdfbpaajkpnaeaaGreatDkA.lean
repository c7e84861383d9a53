/- Package disk: sectors by value and in memory; the map of what is on its way. -/
import Derived.Test.YtdfbpaajkpnaeaaGreatDkM
import Derived.Test.YtdfbpaajkpnaeaaGreatHld
import Derived.Maps.OwnSet
import Derived.Maps.OwnIn
import Derived.Deep.MidRow
import Derived.Deep.WholeRow
import Derived.Great.BuildSlice
import Derived.Laws.Cover3
namespace Go.Proofs.YtdfbpaajkpnaeaaGreat
set_option maxRecDepth 100000
open Go.RowKit Go.Lib

theorem cells_len (s : Sec) (h : s.length = 64) : (bcells s).length = 64 := by rw [bcells_len, h]
/-- zeros -/
def zc : List Value := bcells zsec
theorem zc_len : zc.length = 64 := cells_len _ rfl
theorem zeroS : ∀ w, (zeroValue 88).run Tryz.prog w = .ok (.agg zc.toArray) w := by
  intro w
  rw [Tryz.zeroValue88]
  rfl
theorem undS : Tryz.prog.underlying 88 = some (.array 64 5) := Tryz.underlying88
theorem infS : (Tryz.prog.info? 88).map (fun i => (i.zero, i.size, i.bytes)) = some (some (.agg zc.toArray), 64, 64) := by kernel_rfl
theorem sizS : (Tryz.prog.info? 88).map (·.size) = some 64 := by kernel_rfl
theorem sizI : (Tryz.prog.info? 90).map (·.size) = some 65 := by kernel_rfl
def zi : List Value := zc ++ [.int .i64 0]
theorem zi_len : zi.length = 65 := by unfold zi; rw [List.length_append, zc_len]; rfl
theorem infI : (Tryz.prog.info? 90).map (fun i => (i.zero, i.size, i.bytes)) = some (some (.agg zi.toArray), 65, 72) := by kernel_rfl
theorem zeroI : ∀ w, (zeroValue 90).run Tryz.prog w = .ok (.agg zi.toArray) w :=
  (zero_of_info (n := 65) (by kernel_rfl)).1
theorem undI : ∃ fs, Tryz.prog.underlying 90 = some (.struct fs) := ⟨_, Tryz.underlying90⟩
/-- an array or a struct of n cells; its zero -/
structure IsAgg (T : TypeId) (n : Nat) (z : List Value) : Prop where
  zero : ∀ w, (zeroValue T).run Tryz.prog w = .ok (.agg z.toArray) w
  und : ∃ d : TypeDesc, Tryz.prog.underlying T = some d ∧ d.isRow = true
  size : (Tryz.prog.info? T).map (·.size) = some n
  zl : z.length = n
theorem isS : IsAgg 88 64 zc := ⟨zeroS, ⟨_, undS, rfl⟩, sizS, zc_len⟩
theorem isI : IsAgg 90 65 zi := ⟨zeroI, ⟨_, Tryz.underlying90, rfl⟩, sizI, zi_len⟩
/-- cells, of whatever they are told -/
structure Cs (n : Nat) (c : List Value) : Prop where
  len : c.length = n
  one : ∀ u ∈ c, u.oneCell' = true
theorem cs_sec {s : Sec} (h : s.length = 64) : Cs 64 (bcells s) := ⟨cells_len s h, bcells_one s⟩
theorem cs_item {p : Nat × Sec} (h : p.2.length = 64) : Cs 65 (icell p) := ⟨icell_len h, icell_one p⟩
theorem cs_zc : Cs 64 zc := cs_sec rfl
theorem cs_zi : Cs 65 zi := ⟨zi_len, fun u hu => by
  rcases List.mem_append.1 hu with h | h
  · exact cs_zc.one u h
  · rw [List.mem_singleton.1 h]; rfl⟩

section
variable {ops : Array Oper} {rest : List Oper} {o : Oper} {a : Act} {w : World} {Q : Exit → Act → World → Prop}
theorem run_allocA {T : TypeId} {n : Nat} {z : List Value} (h : IsAgg T n z) (w : World) : (Instr.alloc T true (.tuple #[])).run Tryz.prog w = .ok (.pointer (some ⟨w.heap.size, 0, none⟩)) (w.alloc (.cells z.toArray T)) := by
  simp [Instr.alloc, Sem.run_bind, h.zero, newVar, newRow, Value.cells, go_sem]
theorem wpList_allocA (hgd : o.guard = none) {T : TypeId} {n : Nat} {z : List Value} (h : IsAgg T n z) (ho : o.op = .alloc T)
    (hq : wpList Tryz.prog ops Q rest (a.put o.dst (.pointer (some ⟨w.heap.size, 0, none⟩))) (w.alloc (.cells z.toArray T))) : wpList Tryz.prog ops Q (o :: rest) a w :=
  wpList_plain hgd fun K hK => by
    unfold Oper.wp execOp
    simp only [ho, Sem.run_bind, Sem.run_pure, Result.andThen_ok, run_allocA h]
    exact hK _ _ hq
theorem run_boxA (T : TypeId) (cs : Array Value) (w : World) : (Instr.box T (.agg cs)).run Tryz.prog w = .ok (.pointer (some ⟨w.heap.size, 0, none⟩)) (w.alloc (.cells cs T)) := by
  simp [Instr.box, newVar, newRow, Value.cells, go_sem]
theorem wpList_boxA (hgd : o.guard = none) (T : TypeId) (x : Operand) (ho : o.op = .box T x) (cs : Array Value) (hx : a.eval x = .agg cs)
    (hq : wpList Tryz.prog ops Q rest (a.put o.dst (.pointer (some ⟨w.heap.size, 0, none⟩))) (w.alloc (.cells cs T))) : wpList Tryz.prog ops Q (o :: rest) a w :=
  wpList_plain hgd fun K hK => by
    unfold Oper.wp execOp
    simp only [ho, hx, Sem.run_bind, Sem.run_pure, Result.andThen_ok, run_boxA]
    exact hK _ _ hq
theorem built_none {T : TypeId} {e : TypeId} {n : Nat} {z : List Value} (h : IsAgg T n z) (hu : Tryz.prog.underlying T = some (.array n e)) (he : ∀ w, (sizeOf e).run Tryz.prog w = .ok 1 w) (w : World) : (Instr.build T #[]).run Tryz.prog w = .ok (.agg z.toArray) w := by
  simp [Instr.build, Sem.run_bind, h.zero, run_underlying hu, he, Value.cells, Instr.fill]
theorem wpList_buildZ (hgd : o.guard = none) (ho : o.op = .build 88 #[])
    (hq : wpList Tryz.prog ops Q rest (a.put o.dst (.agg zc.toArray)) w) : wpList Tryz.prog ops Q (o :: rest) a w :=
  wpList_plain hgd fun K hK => by
    unfold Oper.wp execOp
    simp only [ho, Sem.run_bind, Sem.run_pure, Result.andThen_ok, List.map_toArray, List.map_nil, built_none isS undS Tryz.sizeOf5]
    exact hK _ _ hq
theorem wpList_storeW (hgd : o.guard = none) {T : TypeId} {n : Nat} {z : List Value} (h : IsAgg T n z) (x y : Operand) (ho : o.op = .store T x y)
    (g : Nat) (c : List Value) (old : Array Value) (T' : TypeId) (hx : a.eval x = .pointer (some ⟨g, 0, none⟩)) (hy : a.eval y = .agg c.toArray) (hg : w.heap[g]? = some (.cells old T')) (hc : Cs n c) (hold : old.size = n)
    (hq : wpList Tryz.prog ops Q rest (a.put o.dst undef) (w.setRow g c.toArray)) : wpList Tryz.prog ops Q (o :: rest) a w :=
  wpList_store_row hgd T x y ho g _ hx hy T' _ hg (by rw [h.size]; simp [hc.len]) (by simp [hold, hc.len]) (all_oneCell_toArray hc.one) hq
theorem wpList_loadW (hgd : o.guard = none) {T : TypeId} {n : Nat} {z : List Value} (h : IsAgg T n z) (x : Operand) (ho : o.op = .load T x)
    (g : Nat) (c : List Value) (T' : TypeId) (hx : a.eval x = .pointer (some ⟨g, 0, none⟩)) (hg : w.heap[g]? = some (.cells c.toArray T')) (hc : Cs n c)
    (hq : wpList Tryz.prog ops Q rest (a.put o.dst (.agg c.toArray)) w) : wpList Tryz.prog ops Q (o :: rest) a w := by
  obtain ⟨d, hd, hr⟩ := h.und
  exact wpList_load_row hgd T x ho g hx T' _ (0, 0) _ hg hd (by cases d <;> first | rfl | cases hr) (by rw [h.size]; simp [hc.len]) hq
theorem wpList_loadM (hgd : o.guard = none) {T : TypeId} {n : Nat} {z : List Value} (h : IsAgg T n z) (x : Operand) (ho : o.op = .load T x)
    (b off : Nat) (c : List Value) (hx : a.eval x = .pointer (some ⟨b, off, none⟩)) (hg : w.rangeAt b off c) (hc : Cs n c)
    (hq : wpList Tryz.prog ops Q rest (a.put o.dst (.agg c.toArray)) w) : wpList Tryz.prog ops Q (o :: rest) a w := by
  obtain ⟨d, hd, hr⟩ := h.und
  exact wpList_load_mid hgd T x ho b off hx c d hg hd hr (by rw [h.size, hc.len]) hq
theorem run_loadM {T : TypeId} {n : Nat} {z : List Value} (h : IsAgg T n z) {b off : Nat} {c : List Value} {w : World} (hg : w.rangeAt b off c) (hc : Cs n c) : (Instr.loadAt T (.pointer (some ⟨b, off, none⟩))).run Tryz.prog w = .ok (.agg c.toArray) w := by
  obtain ⟨d, hd, hr⟩ := h.und
  exact run_loadAt_mid w b off T c d hg hd hr (by rw [h.size, hc.len])
end
theorem range_row {w : World} {g : Nat} {c : List Value} {T : TypeId} {fr : Nat × Nat} (h : w.heap[g]? = some (.cells c.toArray T fr)) : w.rangeAt g 0 c := fun j v hv => by
  rw [Nat.zero_add, cell_of_row w g j _ T fr h]
  simpa using hv
theorem range_of {w w' : World} {b off : Nat} {c : List Value} (h : w.rangeAt b off c) (e : w'.heap[b]? = w.heap[b]?) : w'.rangeAt b off c := fun j v hv => by
  rw [World.cell?_of_block (a := ⟨b, off + j, none⟩) e]; exact h j v hv
/-- the result lies in a block -/
theorem ret_cell {f : Func} {T : TypeId} {n : Nat} {z : List Value} {R : Ending → World → Prop} {a : Act} {w : World} {p : Nat} {g : Nat} {c : List Value} {T' : TypeId} (hT : IsAgg T n z) (hf : f.results = #[.cell p T]) (hp : a.tmps.getD p undef = .pointer (some ⟨g, 0, none⟩)) (hg : w.heap[g]? = some (.cells c.toArray T')) (hc : Cs n c) (hd : a.defers = [])
    (hR : R (.returned (.agg c.toArray)) w) : bodyPost Tryz.prog f R .ret a w := by
  obtain ⟨d, hu, hr⟩ := hT.und
  exact bodyPost_ret (results_cell_row hf _ w g T' _ (0, 0) _ hp hg hu (by cases d <;> first | rfl | cases hr) (by rw [hT.size]; simp [hc.len])) hd hR
/-- two results: one lies in a block, one in a slot -/
theorem ret_cell_slot {f : Func} {T : TypeId} {n : Nat} {z : List Value} {R : Ending → World → Prop} {a : Act} {w : World} {p q : Nat} {g : Nat} {c : List Value} {v : Value} {T' : TypeId} (hT : IsAgg T n z) (hf : f.results = #[.cell p T, .tmp q]) (hp : a.tmps.getD p undef = .pointer (some ⟨g, 0, none⟩)) (hq : a.tmps.getD q undef = v) (hg : w.heap[g]? = some (.cells c.toArray T')) (hc : Cs n c) (hd : a.defers = [])
    (hR : R (.returned (.tuple #[.agg c.toArray, v])) w) : bodyPost Tryz.prog f R .ret a w := by
  obtain ⟨d, hu, hr⟩ := hT.und
  have hp' : a.tmps[p]?.getD undef = .pointer (some ⟨g, 0, none⟩) := by simpa using hp
  have hq' : a.tmps[q]?.getD undef = v := by simpa using hq
  refine bodyPost_ret ?_ hd hR
  simp [results, hf, hp', hq', asAddr, run_loadVar_row w g T' T _ (0, 0) _ hg hu (by cases d <;> first | rfl | cases hr) (by rw [hT.size]; simp [hc.len])]

theorem foldl_cells (v : Value) (off : Nat) (cs : Array Value) : ∀ k, (v.cells.zipIdx.foldl (fun cs (x : Value × Nat) => cs.setIfInBounds (off + x.2) x.1) cs)[k]? = if off ≤ k ∧ k < off + v.cells.size ∧ k < cs.size then v.cells[k - off]? else cs[k]? := by
  intro k
  have := (Great.foldl_set off v.cells.toList 0 cs).2 k
  rw [← Array.foldl_toList, Array.toList_zipIdx, this]
  simp
theorem foldl_size (v : Value) (off : Nat) (cs : Array Value) : (v.cells.zipIdx.foldl (fun cs (x : Value × Nat) => cs.setIfInBounds (off + x.2) x.1) cs).size = cs.size := by
  have := (Great.foldl_set off v.cells.toList 0 cs).1
  rw [← Array.foldl_toList, Array.toList_zipIdx, this]
theorem foldl_in (v : Value) (off : Nat) (cs : Array Value) (k : Nat) (h1 : off ≤ k) (h2 : k < off + v.cells.size) (h3 : k < cs.size) : (v.cells.zipIdx.foldl (fun cs (x : Value × Nat) => cs.setIfInBounds (off + x.2) x.1) cs)[k]? = v.cells[k - off]? := by
  rw [foldl_cells, if_pos ⟨h1, h2, h3⟩]
theorem foldl_out (v : Value) (off : Nat) (cs : Array Value) (k : Nat) (h1 : k < off ∨ off + v.cells.size ≤ k ∨ cs.size ≤ k) : (v.cells.zipIdx.foldl (fun cs (x : Value × Nat) => cs.setIfInBounds (off + x.2) x.1) cs)[k]? = cs[k]? := by
  rw [foldl_cells, if_neg (by omega)]
theorem fill_step (place : Nat → Option (Nat × Nat)) (cells : Array Value) (i : Nat) (v : Value) (rest : List (Nat × Value)) (off sz : Nat) (hp : place i = some (off, sz)) (h1 : v.cells.size = sz) (h2 : off + sz ≤ cells.size) :
    Instr.fill place cells ((i, v) :: rest) = Instr.fill place (v.cells.zipIdx.foldl (fun cs (x : Value × Nat) => cs.setIfInBounds (off + x.2) x.1) cells) rest := by
  rw [Instr.fill]
  simp only [hp]
  rw [if_neg (by simp [h1]; omega)]
/-- a sector and a number are an item -/
theorem builtI (c : List Value) (n : Int) (hc : c.length = 64) : Tryz.prog.built 90 [(0, Value.agg c.toArray), (1, Value.int .i64 n)] = some (c ++ [Value.int .i64 n]).toArray := by
  have hi : ∃ it, Tryz.prog.info? 90 = some it ∧ it.zero = some (.agg zi.toArray) := by
    have h := infI
    cases hi : Tryz.prog.info? 90 with
    | none => rw [hi] at h; cases h
    | some i => rw [hi] at h; simp only [Option.map_some, Option.some.injEq, Prod.mk.injEq] at h; exact ⟨i, rfl, h.1⟩
  obtain ⟨it, hi, hz⟩ := hi
  have hp : (match Tryz.prog.underlying 90 with | some (.struct fs) => fs.toList.mapM (fun f => (Tryz.prog.info? f.type).map fun i => (f.offset, i.size)) | _ => none) = some [(0, 64), (64, 1)] := by kernel_rfl
  unfold Program.built
  rw [hi]
  rw [Tryz.underlying90] at hp ⊢
  simp only at hp ⊢
  rw [hp, hz]
  have hz65 : zi.toArray.size = 65 := by simp [zi_len]
  have hc64 : c.toArray.size = 64 := by simp [hc]
  have s1 := foldl_size (.agg c.toArray) 0 zi.toArray
  show Instr.fill _ zi.toArray _ = _
  rw [fill_step _ _ 0 (.agg c.toArray) _ 0 64 rfl hc64 (by omega), fill_step _ _ 1 (.int .i64 n) _ 64 1 rfl rfl (by rw [s1]; omega), Instr.fill]
  congr 1
  apply Array.ext_getElem?
  intro k
  have hv0 : (Value.agg c.toArray).cells.size = 64 := hc64
  have hv1 : (Value.int .i64 n).cells.size = 1 := rfl
  by_cases h : k < 64
  · rw [foldl_out _ _ _ _ (by omega), foldl_in _ _ _ _ (by omega) (by omega) (by omega)]
    show c.toArray[k - 0]? = _
    simp only [List.getElem?_toArray, Nat.sub_zero]
    rw [List.getElem?_append_left (by omega)]
  · by_cases h2 : k = 64
    · subst h2
      rw [foldl_in _ _ _ _ (by omega) (by omega) (by omega)]
      show (#[Value.int .i64 n] : Array Value)[64 - 64]? = _
      simp [hc]
    · rw [foldl_out _ _ _ _ (by omega), foldl_out _ _ _ _ (by omega)]
      rw [Array.getElem?_eq_none (by omega)]
      rw [Array.getElem?_eq_none (by simp [hc]; omega)]

/-! the map -/
def nilS : Value := .slice none 0 0
def rawR (v : Value) : Option (DataW Value × List MemPlace) := some (.held v, [])
theorem lawK : Maps.Keyed Tryz.prog 3 := Maps.int_keyed Tryz.underlying3
theorem undM : Tryz.prog.underlying 64 = some (.map 3 33) := Tryz.underlying64
theorem wfI {n : Int} (h : I n) : (Lit.int .i64 n).wf = true := by
  obtain ⟨h1, h2⟩ := h
  have e1 : IntKind.i64.min = -9223372036854775808 := by decide
  have e2 : IntKind.i64.max = 9223372036854775807 := by decide
  simp [Lit.wf, e1, e2]
  omega
/-- block m is a map, of at most cnt keys, with f's slices -/
def MapAt (w : World) (m cnt : Nat) (f : Int → Value) : Prop :=
  ∃ D, w.ownsMap Tryz.prog 3 rawR m cnt D ∧ ∀ x : Int, I x → D.atKey (.int .i64 x) (.held nilS) = .held (f x)
theorem MapAt.lt {w : World} {m cnt : Nat} {f : Int → Value} (h : MapAt w m cnt f) : m < w.heap.size := by
  obtain ⟨D, ho, _⟩ := h; exact ho.lt
theorem MapAt.same {w w' : World} {m cnt : Nat} {f : Int → Value} (h : MapAt w m cnt f) (e : w'.heap[m]? = w.heap[m]?) : MapAt w' m cnt f := by
  obtain ⟨D, ⟨es, cl, hb, r⟩, hD⟩ := h
  exact ⟨D, ⟨es, cl, e.trans hb, r⟩, hD⟩
theorem MapAt.made (w : World) : MapAt (w.alloc (.map #[] 0)) w.heap.size 0 (fun _ => nilS) :=
  ⟨.map [], World.ownsMap_made _ _ _ _, fun _ _ => rfl⟩
theorem MapAt.isMap {w : World} {m cnt : Nat} {f : Int → Value} (h : MapAt w m cnt f) : ∃ es cl, w.heap[m]? = some (.map es cl) := by
  obtain ⟨D, ⟨es, cl, hb, r⟩, hD⟩ := h
  exact ⟨es, cl, hb⟩
/-- 'm[x]' -/
theorem MapAt.look {w : World} {m cnt : Nat} {f : Int → Value} (h : MapAt w m cnt f) {x : Int} (hx : I x) :
    (Instr.lookup 64 (.map (some m)) (.int .i64 x) false).run Tryz.prog w = .ok (f x) w := by
  obtain ⟨D, ho, hD⟩ := h
  obtain ⟨v, ps, hrun, hv⟩ := ho.lookup lawK undM (Tryz.zeroValue33 w) (zd := .held nilS) (zp := []) rfl (Maps.keyOf_int_mk Tryz.underlying3 (wfI hx))
  rw [hD x hx] at hv
  unfold rawR at hv
  simp only [Option.some.injEq, Prod.mk.injEq, DataW.held.injEq] at hv
  rw [hrun, hv.1]
def updF (f : Int → Value) (x : Int) (v : Value) : Int → Value := fun y => if y = x then v else f y
theorem updF_same (f : Int → Value) (x : Int) (v : Value) : updF f x v x = v := if_pos rfl
theorem updF_other (f : Int → Value) {x y : Int} (v : Value) (h : y ≠ x) : updF f x v y = f y := if_neg h
/-- 'm[x] = v' -/
theorem MapAt.put {w : World} {m cnt : Nat} {f : Int → Value} (h : MapAt w m cnt f) {x : Int} (hx : I x) (v : Value) (hc : cnt ≤ 1000000) :
    ∃ w', (Instr.mapUpdate 64 (.map (some m)) (.int .i64 x) v).run Tryz.prog w = .ok () w' ∧ MapAt w' m (cnt + 1) (updF f x v) ∧ w.grownBy w' (some m) ∧ w'.heap.size = w.heap.size := by
  obtain ⟨D, ho, hD⟩ := h
  obtain ⟨w', hrun, ho', ht⟩ := ho.store lawK undM (by unfold maxLen; omega) (Maps.keyOf_int_mk Tryz.underlying3 (wfI hx)) (d := .held v) (ps := []) rfl
  refine ⟨w', hrun, ⟨_, ho', fun y hy => ?_⟩, ht.grown, ?_⟩
  · by_cases e : y = x
    · subst e
      rw [Maps.atKey_put_same ho.isMap (lawK.key (Maps.keyOf_int_mk Tryz.underlying3 (wfI hx))), updF_same]
    · rw [Maps.atKey_put_other (by intro e2; injection e2 with _ e3; exact e e3), hD y hy, updF_other _ _ e]
  · obtain ⟨es, cl, es', cl', hb, rfl⟩ := ht
    simp [ChangeMaps.setBlock]
/-- 'clear(m)' -/
theorem MapAt.clear {w : World} {m cnt : Nat} {f : Int → Value} (h : MapAt w m cnt f) (ty : TypeId) :
    ∃ w', (Builtin.clear_ #[64] ty #[.map (some m)]).run Tryz.prog w = .ok (.tuple #[]) w' ∧ MapAt w' m 0 (fun _ => nilS) ∧ w.grownBy w' (some m) ∧ w'.heap.size = w.heap.size := by
  obtain ⟨D, ⟨es, cl, hb, hF, _, _⟩, hD⟩ := h
  refine ⟨ChangeMaps.setBlock w m (.map #[] cl), ?_, ⟨.map [], ⟨#[], cl, ChangeMaps.heap_setBlock_same hb _, ⟨by simp, MapKept.stamped_empty cl, by simp⟩, Nat.le_refl _, rfl⟩, fun _ _ => rfl⟩, ⟨rfl, rfl, rfl, by simp [ChangeMaps.setBlock], fun i _ hi => ChangeMaps.heap_setBlock_other hb _ (fun e => hi (by rw [e]))⟩, by simp [ChangeMaps.setBlock]⟩
  simp [Builtin.clear_, run_underlying undM, MapKept.run_getObj_map hb, MapKept.run_setObj_map _ hb, Result.andThen]
  rfl
end Go.Proofs.YtdfbpaajkpnaeaaGreat
