
/- falseworkref08: a disk as a value; spend, Fuse. falseworkref08.land. falseworkref08: Blank, Put. falseworkref08.Put. falseworkref08.Flush. falseworkref08.Power. falseworkref08.Get. -/
import Derived.Test.YtdfbpaajkpnaeaaDkL

namespace Go.Proofs.Ytdfbpaajkpnaeaa
set_option maxRecDepth 100000
open Go.RowKit Go.Lib

/-- the document's disk, as a value -/
def rcs (r : Dk) (a0 : Option Addr) (c0 : Nat) (a1 : Option Addr) (c1 : Nat) : List Value := [.slice a0 r.base.length c0, .slice a1 r.queue.length c1, .int .i64 r.fuse, .bool r.dead]
theorem rcs_cs (r : Dk) (a0 : Option Addr) (c0 : Nat) (a1 : Option Addr) (c1 : Nat) : Cs 4 (rcs r a0 c0 a1 c1) := ⟨rfl, fun u hu => by
  simp [rcs] at hu
  rcases hu with rfl | rfl | rfl | rfl <;> rfl⟩
def SpendRes (r : Dk) (a0 : Option Addr) (c0 : Nat) (a1 : Option Addr) (c1 : Nat) (w : World) (e : Ending) (w' : World) : Prop := ∃ fu dd, r.spend = { r with fuse := fu, dead := dd } ∧ e = .returned (.tuple #[.agg (rcs { r with fuse := fu, dead := dd } a0 c0 a1 c1).toArray, .bool r.live]) ∧ RowKit.Below w.heap.size w w'
end Go.Proofs.Ytdfbpaajkpnaeaa

namespace Go.Proofs.Ytdfbpaajkpnaeaa
set_option maxRecDepth 100000
open Go.RowKit Go.Lib

theorem set_mid {α : Type} (A B C : List α) (i : Nat) (v : α) (hi : i < B.length) : (A ++ B ++ C).set (A.length + i) v = A ++ B.set i v ++ C := by
  rw [List.append_assoc, List.set_append_right _ _ (by omega), Nat.add_sub_cancel_left, List.set_append_left _ _ hi, List.append_assoc]
theorem cutS_zero {s old : Sec} : cutS s old 0 = old := by simp [cutS]
theorem cutS_getD {s old : Sec} {n i : Nat} (hs : s.length = 64) (_hn : n ≤ 64) : (cutS s old n)[i]? = if i < n then s[i]? else old[i]? := by
  unfold cutS
  by_cases h : i < n
  · rw [if_pos h, List.getElem?_append_left (by rw [List.length_take]; omega), List.getElem?_take, if_pos h]
  · rw [if_neg h, List.getElem?_append_right (by rw [List.length_take]; omega), List.getElem?_drop, List.length_take]
    congr 1; omega
theorem cutS_step {s old : Sec} {i : Nat} (hs : s.length = 64) (ho : old.length = 64) (hi : i < 64) : (bcells (cutS s old i)).set i (.int .u8 ((s.getD i 0).toNat : Int)) = bcells (cutS s old (i + 1)) := by
  have h1 : (cutS s old i).set i (s.getD i 0) = cutS s old (i + 1) := by
    apply List.ext_getElem?
    intro j
    rw [cutS_getD hs (by omega), List.getElem?_set, cutS_len hs ho (by omega)]
    by_cases e : i = j
    · subst e
      rw [if_pos rfl, if_pos hi, if_pos (by omega)]
      simp [List.getD, hs, hi]
    · rw [if_neg e, cutS_getD hs (by omega)]
      by_cases h : j < i
      · rw [if_pos h, if_pos (by omega)]
      · rw [if_neg h, if_neg (by omega)]
  rw [← h1]
  unfold bcells
  rw [List.map_set]
theorem land_step {b : List Sec} {s old : Sec} {x i : Nat} (hb : ∀ t ∈ b, t.length = 64) (hx : x < b.length) (hs : s.length = 64) (ho : old.length = 64) (hi : i < 64) :
    (scells (b.set x (cutS s old i))).set (x * 64 + i) (.int .u8 ((s.getD i 0).toNat : Int)) = scells (b.set x (cutS s old (i + 1))) := by
  have hf : ∀ t ∈ b, (bcells t).length = 64 := fun t ht => cells_len t (hb t ht)
  have e := fun t => (show scells (b.set x t) = (scells b).take (x * 64) ++ bcells t ++ (scells b).drop (x * 64 + 64) from flat_set hf hx)
  rw [e, e, ← cutS_step hs ho hi]
  have hl : ((scells b).take (x * 64)).length = x * 64 := by rw [List.length_take, scells_len hb]; omega
  have := set_mid ((scells b).take (x * 64)) (bcells (cutS s old i)) ((scells b).drop (x * 64 + 64)) i (.int .u8 ((s.getD i 0).toNat : Int)) (by rw [cells_len _ (cutS_len hs ho (by omega))]; exact hi)
  rw [hl] at this
  exact this
theorem wp_store1 {o : Oper} {a : Act} {w : World} {K : Act → World → Prop} {Q : Exit → Act → World → Prop} (T : TypeId) (x y : Operand) (ho : o.op = .store T x y) (p : Addr) (kk : IntKind) (nn : Int) (old : Value) (hx : a.eval x = .pointer (some p)) (hy : a.eval y = .int kk nn) (hi : (Try.prog.info? T).map (·.size) = some 1) (hc : w.cell? p = some old) (hf : w.frozen? p = false)
    (h : K (a.put o.dst undef) (w.setCell p (.int kk nn))) : o.wp Try.prog a w K Q := by
  cases hq : Try.prog.info? T with
  | none => rw [hq] at hi; cases hi
  | some i =>
    have hs : i.size = 1 := by rw [hq] at hi; simpa using hi
    unfold Oper.wp execOp
    simp only [ho, hx, hy, Instr.storeAt, Instr.sureAddr, Sem.run_bind, Sem.run_pure, Result.andThen_ok, storeVar, Go.sizeOf, typeInfo]
    simp [hq, hs, Value.cells, storeCells, hc, hf, Addr.add, go_sem]
    exact h
theorem set_getD_self {b : List Sec} {x : Nat} (h : x < b.length) : b.set x (b.getD x []) = b := by
  rw [List.getD, List.getElem?_eq_getElem h, Option.getD_some, List.set_getElem_self]
/-- how many of the first k bytes come in -/
def landN (m : Int) (k : Nat) : Nat := min k (min (max m 0) 64).toNat
def LandRes (b : List Sec) (p : Nat × Sec) (m : Int) (w : World) (e : Ending) (w' : World) : Prop := ∃ a c, e = .returned (.slice a b.length c) ∧ Lie w' a (scells (b.set p.1 (cutS p.2 (b.getD p.1 []) (min (max m 0) 64).toNat))) ∧ a ≠ none ∧ (∀ i, inBlk a i → w.heap.size ≤ i ∧ i < w'.heap.size) ∧ RowKit.Below w.heap.size w w'
end Go.Proofs.Ytdfbpaajkpnaeaa

namespace Go.Proofs.Ytdfbpaajkpnaeaa
set_option maxRecDepth 100000
open Go.RowKit Go.Lib

/-- where the document's disk lies; F: blocks that are not its own -/
structure RM (w : World) (F : Nat → Prop) (r : Dk) (a0 a1 : Option Addr) : Prop where
  ok : r.Ok
  bs : Lie w a0 (scells r.base)
  b0 : a0 = none → r.base.length = 0
  qs : Lie w a1 (icells r.queue)
  q0 : a1 = none → r.queue.length = 0
  o0 : ∀ b, inBlk a0 b → ¬ F b
  o1 : ∀ b, inBlk a1 b → ¬ F b
  l0 : ∀ b, inBlk a0 b → b < w.heap.size
  l1 : ∀ b, inBlk a1 b → b < w.heap.size
theorem RM.below {w w' : World} {F : Nat → Prop} {r : Dk} {a0 a1 : Option Addr} (h : RM w F r a0 a1) (hb : RowKit.Below w.heap.size w w') : RM w' F r a0 a1 :=
  ⟨h.ok, h.bs.below hb, h.b0, h.qs.below hb, h.q0, h.o0, h.o1, fun b hi => Nat.lt_of_lt_of_le (h.l0 b hi) hb.size, fun b hi => Nat.lt_of_lt_of_le (h.l1 b hi) hb.size⟩
/-- the other disk has done something -/
theorem RM.other {w w' : World} {F F' : Nat → Prop} {r : Dk} {a0 a1 : Option Addr} (h : RM w F r a0 a1) (ho : Only F w w') (hF : ∀ i, F' i → F i ∨ w.heap.size ≤ i) : RM w' F' r a0 a1 :=
  ⟨h.ok, h.bs.same ho.size fun b hi => ho.block b (h.l0 b hi) (h.o0 b hi), h.b0, h.qs.same ho.size fun b hi => ho.block b (h.l1 b hi) (h.o1 b hi), h.q0,
   fun b hi hf => (hF b hf).elim (h.o0 b hi) fun e => by have := h.l0 b hi; omega, fun b hi hf => (hF b hf).elim (h.o1 b hi) fun e => by have := h.l1 b hi; omega,
   fun b hi => Nat.lt_of_lt_of_le (h.l0 b hi) ho.size, fun b hi => Nat.lt_of_lt_of_le (h.l1 b hi) ho.size⟩
theorem RM.head {w : World} {F : Nat → Prop} {r : Dk} {a0 a1 : Option Addr} (h : RM w F r a0 a1) {fu : Int} {dd : Bool} (hf : I fu) : RM w F { r with fuse := fu, dead := dd } a0 a1 := ⟨h.ok.fuse hf, h.bs, h.b0, h.qs, h.q0, h.o0, h.o1, h.l0, h.l1⟩
end Go.Proofs.Ytdfbpaajkpnaeaa

namespace Go.Proofs.Ytdfbpaajkpnaeaa
set_option maxRecDepth 100000
open Go.RowKit Go.Lib

section
variable {t e : TypeId} {size bytes : Nat}
theorem run_lit (E : El t e size bytes) (w : World) : (Instr.buildSlice t 0 #[]).run Try.prog w = .ok (.slice (some ⟨w.heap.size, 0, none⟩) 0 0) (w.alloc (.cells #[] e)) := by
  obtain ⟨i, z, hi, hz, hs1, hs8, hzs⟩ := E.inf
  simp [Instr.buildSlice, run_underlying E.und, Go.sizeOf, typeInfo, hi, Instr.fill, newRow]
  rw [show Array.range 0 = #[] from by decide]
  simp
theorem wp_lit (E : El t e size bytes) {o : Oper} {a : Act} {w : World} {K : Act → World → Prop} {Q : Exit → Act → World → Prop} (ho : o.op = .buildSlice t 0 #[]) (h : K (a.put o.dst (.slice (some ⟨w.heap.size, 0, none⟩) 0 0)) (w.alloc (.cells #[] e))) : o.wp Try.prog a w K Q := by
  unfold Oper.wp execOp
  simp only [ho, Sem.run_bind, List.map_toArray, List.map_nil, run_lit E w, Result.andThen_ok]
  exact h
end
def RPutRes (F : Nat → Prop) (r : Dk) (x : Int) (s : Sec) (w : World) (e : Ending) (w' : World) : Prop := ∃ a0 c0 a1 c1, e = .returned (.tuple #[.agg (rcs (r.put x s) a0 c0 a1 c1).toArray, .int .i64 (r.putE x)]) ∧ RM w' F (r.put x s) a0 a1 ∧ RowKit.Below w.heap.size w w'
theorem wp_store1v {o : Oper} {a : Act} {w : World} {K : Act → World → Prop} {Q : Exit → Act → World → Prop} (T : TypeId) (x y : Operand) (ho : o.op = .store T x y) (p : Addr) {v : Value} (old : Value) (hx : a.eval x = .pointer (some p)) (hy : a.eval y = v) (hv : ∃ b n c, v = .slice b n c) (hi : (Try.prog.info? T).map (·.size) = some 1) (hc : w.cell? p = some old) (hf : w.frozen? p = false)
    (h : K (a.put o.dst undef) (w.setCell p v)) : o.wp Try.prog a w K Q := by
  obtain ⟨b, n, c, rfl⟩ := hv
  cases hq : Try.prog.info? T with
  | none => rw [hq] at hi; cases hi
  | some i =>
    have hs : i.size = 1 := by rw [hq] at hi; simpa using hi
    unfold Oper.wp execOp
    simp only [ho, hx, hy, Instr.storeAt, Instr.sureAddr, Sem.run_bind, Sem.run_pure, Result.andThen_ok, storeVar, Go.sizeOf, typeInfo]
    simp [hq, hs, Value.cells, storeCells, hc, hf, Addr.add, go_sem]
    exact h
end Go.Proofs.Ytdfbpaajkpnaeaa

namespace Go.Proofs.Ytdfbpaajkpnaeaa
set_option maxRecDepth 100000
open Go.RowKit Go.Lib

theorem item_at {w : World} {a1 : Option Addr} {q : List (Nat × Sec)} (h : Lie w a1 (icells q)) (hq : ∀ y ∈ q, y.2.length = 64) {k : Nat} {p : Nat × Sec} (hp : q[k]? = some p) : ∃ b off, a1 = some ⟨b, off, none⟩ ∧ b < w.heap.size ∧ w.rangeAt b (off + k * 65) (icell p) :=
  Lie.get h (fun y hy => icell_len (hq y hy)) (by decide) hp
/-- where a base lies that is not F's: not in block n, nor behind the call's own two -/
def Loc (w wr : World) (F : Nat → Prop) (n : Nat) (a : Option Addr) : Prop := ∀ b, inBlk a b → ¬ F b ∧ (b < w.heap.size ∨ n < b) ∧ b < wr.heap.size
theorem Loc.below {w wr wx : World} {F : Nat → Prop} {n : Nat} {a : Option Addr} (h : Loc w wr F n a) (hs : wr.heap.size ≤ wx.heap.size) : Loc w wx F n a := fun b hb => ⟨(h b hb).1, (h b hb).2.1, Nat.lt_of_lt_of_le (h b hb).2.2 hs⟩
def RFlushRes (F : Nat → Prop) (r : Dk) (w : World) (e : Ending) (w' : World) : Prop := ∃ a0 c0 a1 c1, e = .returned (.tuple #[.agg (rcs r.flush a0 c0 a1 c1).toArray, .int .i64 r.actE]) ∧ RM w' F r.flush a0 a1 ∧ RowKit.Below w.heap.size w w'
/-- k of the queue have gone in -/
structure FS (w wr : World) (F : Nat → Prop) (r : Dk) (cm : Nat → Nat) (n : Nat) (k : Nat) (ak : Option Addr) : Prop where
  li : Lie wr ak (scells (stl cm r.queue r.base k))
  nn : ak = none → r.base.length = 0
  lo : Loc w wr F n ak
  bl : RowKit.Below w.heap.size w wr
theorem FS.below {w wr wx : World} {F : Nat → Prop} {r : Dk} {cm : Nat → Nat} {n k : Nat} {ak : Option Addr} (h : FS w wr F r cm n k ak) (hb : RowKit.Below wr.heap.size wr wx) : FS w wx F r cm n k ak :=
  ⟨h.li.below hb, h.nn, h.lo.below hb.size, h.bl.trans (hb.mono h.bl.size)⟩
theorem FS.set {w wr : World} {F : Nat → Prop} {r : Dk} {cm : Nat → Nat} {n k : Nat} {ak : Option Addr} (h : FS w wr F r cm n k ak) {p : Addr} (v : Value) (hp : w.heap.size ≤ p.block) (hp2 : p.block ≤ n) : FS w (wr.setCell p v) F r cm n k ak :=
  ⟨h.li.same (by simp) fun b hb => heap_setCell_other _ _ _ _ (by have := (h.lo b hb).2.1; omega), h.nn, h.lo.below (by simp), h.bl.setCell hp v⟩
theorem FS.row {w wr : World} {F : Nat → Prop} {r : Dk} {cm : Nat → Nat} {n k : Nat} {ak : Option Addr} (h : FS w wr F r cm n k ak) {g : Nat} (cs : Array Value) (hp : w.heap.size ≤ g) (hp2 : g ≤ n) : FS w (wr.setRow g cs) F r cm n k ak :=
  ⟨h.li.same (by simp) fun b hb => setRow_other _ _ _ _ (by have := (h.lo b hb).2.1; omega), h.nn, h.lo.below (by simp), below_setRow h.bl hp⟩
/-- what land leaves is the next one -/
theorem FS.next {w wr w' : World} {F : Nat → Prop} {r : Dk} {cm : Nat → Nat} {n k : Nat} {ak a : Option Addr} (h : FS w wr F r cm n k ak) {p : Nat × Sec} (hp : r.queue[k]? = some p) {m : Int} (hm : (min (max m 0) 64).toNat = cm k)
    (hl : Lie w' a (scells ((stl cm r.queue r.base k).set p.1 (cutS p.2 ((stl cm r.queue r.base k).getD p.1 []) (min (max m 0) 64).toNat)))) (ha : a ≠ none) (hi : ∀ i, inBlk a i → wr.heap.size ≤ i ∧ i < w'.heap.size) (hb : RowKit.Below wr.heap.size wr w') (hF : ∀ i, F i → i < w.heap.size) (hn : n < wr.heap.size) : FS w w' F r cm n (k + 1) a := by
  refine ⟨?_, fun e => absurd e ha, fun b hb2 => ?_, h.bl.trans (hb.mono h.bl.size)⟩
  · rw [stl, show r.queue.getD k (0, []) = p by rw [List.getD, hp]; rfl, ← hm]
    exact hl
  · obtain ⟨h1, h2⟩ := hi b hb2
    have := h.bl.size
    exact ⟨fun hf => by have := hF b hf; omega, Or.inr (by omega), h2⟩
theorem FS.skip {w wr : World} {F : Nat → Prop} {r : Dk} {cm : Nat → Nat} {n k : Nat} {ak : Option Addr} (h : FS w wr F r cm n k ak) (hok : r.Ok) {p : Nat × Sec} (hp : r.queue[k]? = some p) (hm : cm k = 0) : FS w wr F r cm n (k + 1) ak := by
  refine ⟨?_, h.nn, h.lo, h.bl⟩
  have hk := (List.getElem?_eq_some_iff.1 hp).1
  have hi := hok.qi p (List.mem_of_getElem? hp)
  rw [stl, show r.queue.getD k (0, []) = p by rw [List.getD, hp]; rfl, hm, cutS_zero, set_getD_self (by rw [stl_len]; exact hi)]
  exact h.li
end Go.Proofs.Ytdfbpaajkpnaeaa

namespace Go.Proofs.Ytdfbpaajkpnaeaa
set_option maxRecDepth 100000
open Go.RowKit Go.Lib

def RPowerRes (F : Nat → Prop) (r : Dk) (l : List Int) (w : World) (e : Ending) (w' : World) : Prop := ∃ a0 c0 a1 c1, e = .returned (.agg (rcs (r.power l) a0 c0 a1 c1).toArray) ∧ RM w' F (r.power l) a0 a1 ∧ RowKit.Below w.heap.size w w'
end Go.Proofs.Ytdfbpaajkpnaeaa

namespace Go.Proofs.Ytdfbpaajkpnaeaa
set_option maxRecDepth 100000
open Go.RowKit Go.Lib

/-- what a sector is behind the first k of the queue -/
def outK (r : Dk) (x : Int) (k : Nat) : Sec := ((ofQ (r.queue.take k) x).getLast?).getD (r.base.getD x.toNat [])
theorem outK_same {r : Dk} {k : Nat} {p : Nat × Sec} (hp : r.queue[k]? = some p) : outK r (p.1 : Int) (k + 1) = p.2 := by
  unfold outK
  have hk := (List.getElem?_eq_some_iff.1 hp).1
  rw [List.take_succ_eq_append_getElem hk, ofQ_app]
  have : r.queue[k] = p := by rw [List.getElem?_eq_getElem hk] at hp; exact Option.some.inj hp
  rw [this, ofQ_one_same]
  simp
theorem outK_other {r : Dk} {k : Nat} {p : Nat × Sec} {x : Int} (hp : r.queue[k]? = some p) (hx : x ≠ (p.1 : Int)) : outK r x (k + 1) = outK r x k := by
  unfold outK
  have hk := (List.getElem?_eq_some_iff.1 hp).1
  rw [List.take_succ_eq_append_getElem hk, ofQ_app]
  have : r.queue[k] = p := by rw [List.getElem?_eq_getElem hk] at hp; exact Option.some.inj hp
  rw [this, ofQ_one_other _ hx, List.append_nil]
theorem outK_len {r : Dk} (h : r.Ok) {x : Int} (hx : 0 ≤ x ∧ x < r.base.length) : ∀ k, k ≤ r.queue.length → (outK r x k).length = 64
  | 0, _ => h.bl _ (getD_mem (by omega))
  | k + 1, hk => by
    obtain ⟨p, hp⟩ : ∃ p, r.queue[k]? = some p := ⟨_, List.getElem?_eq_getElem (by omega)⟩
    by_cases e : x = (p.1 : Int)
    · subst e; rw [outK_same hp]; exact h.ql p (List.mem_of_getElem? hp)
    · rw [outK_other hp e]; exact outK_len h hx k (by omega)
theorem outK_all {r : Dk} {x : Int} (hx : 0 ≤ x ∧ x < r.base.length) : outK r x r.queue.length = r.at_ x := by
  unfold outK Dk.at_
  rw [if_pos hx, List.take_length]
end Go.Proofs.Ytdfbpaajkpnaeaa
