
/- Sectors are equal; falseworklaw08.diskAlive. -/
import Derived.Test.YtdfbpaajkpnaeaaGreatDkPV
import Derived.ChangeKeysEq
import Derived.Laws.StructEq
namespace Go.Proofs.YtdfbpaajkpnaeaaGreat
set_option maxRecDepth 100000
open Go.RowKit Go.Lib

theorem inf8 : ∃ i, Tryz.prog.info? 5 = some i := by obtain ⟨i, h, _⟩ := info8; exact ⟨i, h⟩
theorem cellsOf8 : Tryz.prog.cellsOf 5 = 1 := by kernel_rfl
theorem part8 {s : Sec} {i : Nat} (h : i < s.length) (w : World) : (part 5 (bcells s).toArray (i * 1)).run Tryz.prog w = .ok (.int .u8 ((s.getD i 0).toNat : Int)) w := by
  have hc : (bcells s).toArray[i * 1]? = some (.int .u8 ((s.getD i 0).toNat : Int)) := by rw [Nat.mul_one, List.getElem?_toArray, bcells_get h]
  simp only [part, Sem.run_bind, Tryz.isAgg5, Result.andThen_ok]
  simp only [hc]
  rfl
theorem eqItems8 {s t : Sec} (hs : s.length = 64) (ht : t.length = 64) : ∀ (is : List Nat), (∀ i ∈ is, i < 64) → ∀ w, (Op.eqItems 9999 5 1 (bcells s).toArray (bcells t).toArray is).run Tryz.prog w = .ok (is.all fun i => s.getD i 0 == t.getD i 0) w
  | [], _, w => by simp [Op.eqItems]
  | i :: is, h, w => by
    have hi := h i (by simp)
    have e1 := part8 (s := s) (i := i) (by omega) w
    have e2 := part8 (s := t) (i := i) (by omega) w
    have e3 : (Op.equalIn 9999 5 (.int .u8 ((s.getD i 0).toNat : Int)) (.int .u8 ((t.getD i 0).toNat : Int))).run Tryz.prog w = .ok (s.getD i 0 == t.getD i 0) w := by
      rw [show (9999 : Nat) = 9998 + 1 from rfl, run_equalIn_int w 9998 _ _ _ _ _ Tryz.underlying5]
      congr 1
      rw [Bool.eq_iff_iff, beq_iff_eq, beq_iff_eq, Int.ofNat_inj, UInt8.toNat_inj]
    have ih := eqItems8 hs ht is (fun j hj => h j (by simp [hj])) w
    simp only [Op.eqItems, Sem.run_bind, e1, e2, e3, Result.andThen_ok, List.all_cons]
    cases s.getD i 0 == t.getD i 0 with
    | true => simpa using ih
    | false => simp
theorem all_eq {s t : Sec} (hs : s.length = 64) (ht : t.length = 64) : ((List.range 64).all fun i => s.getD i 0 == t.getD i 0) = decide (s = t) := by
  rw [Bool.eq_iff_iff, List.all_eq_true, decide_eq_true_iff]
  constructor
  · intro h
    rw [sec_of hs, sec_of ht]
    exact sec_congr fun i hi => by simpa using h i (List.mem_range.2 hi)
  · rintro rfl i _
    simp
theorem eqS {s t : Sec} (hs : s.length = 64) (ht : t.length = 64) (w : World) : (Op.equalIn 10000 88 (.agg (bcells s).toArray) (.agg (bcells t).toArray)).run Tryz.prog w = .ok (decide (s = t)) w := by
  obtain ⟨i, hi⟩ := inf8
  rw [show (10000 : Nat) = 9999 + 1 from rfl, run_equalIn_array w 9999 _ _ undS hi, cellsOf8, eqItems8 hs ht _ (fun i hi => List.mem_range.1 hi), all_eq hs ht]
theorem eqlS {s t : Sec} (hs : s.length = 64) (ht : t.length = 64) (w : World) : (binOp .eql 88 (.agg (bcells s).toArray) (.agg (bcells t).toArray)).run Tryz.prog w = .ok (.bool (decide (s = t))) w := by
  rw [run_eql_struct, eqS hs ht]; rfl
theorem neqS {s t : Sec} (hs : s.length = 64) (ht : t.length = 64) (w : World) : (binOp .neq 88 (.agg (bcells s).toArray) (.agg (bcells t).toArray)).run Tryz.prog w = .ok (.bool (!decide (s = t))) w := by
  rw [run_neq_struct, eqS hs ht]; rfl
theorem wpList_wanted {P : Program} {ops : Array Oper} {Q : Exit → Act → World → Prop} {a : Act} {w : World} {rest : List Oper} {o : Oper} (hw : Region.wanted o (yielded ops a.tmps) = true) (h : ∀ K : Act → World → Prop, (∀ a w, wpList P ops Q rest a w → K a w) → o.wp P a w K Q) : wpList P ops Q (o :: rest) a w :=
  wpList_step fun K hK => by rw [if_pos hw]; exact h K hK
/-- a guarded load of a sector -/
theorem wpList_loadG {ops : Array Oper} {rest : List Oper} {o : Oper} {a : Act} {w : World} {Q : Exit → Act → World → Prop} {T : TypeId} {n : Nat} {z : List Value} (h : IsAgg T n z) (x : Operand) (ho : o.op = .load T x) (hw : Region.wanted o (yielded ops a.tmps) = true)
    (b off : Nat) (c : List Value) (hx : a.eval x = .pointer (some ⟨b, off, none⟩)) (hg : w.rangeAt b off c) (hc : Cs n c)
    (hq : wpList Tryz.prog ops Q rest (a.put o.dst (.agg c.toArray)) w) : wpList Tryz.prog ops Q (o :: rest) a w :=
  wpList_wanted hw fun K hK => by
    obtain ⟨d, hd, hr⟩ := h.und
    exact wp_load_mid T x ho b off hx c d hg hd hr (by rw [h.size, hc.len]) (hK _ _ hq)
/-- a guarded literal -/
theorem wpList_buildG {ops : Array Oper} {rest : List Oper} {o : Oper} {a : Act} {w : World} {Q : Exit → Act → World → Prop} (T : TypeId) (x0 x1 x2 : Operand) (v0 v1 v2 : Value) (ho : o.op = .build T #[(0, x0), (1, x1), (2, x2)]) (hw : Region.wanted o (yielded ops a.tmps) = true) (h0 : a.eval x0 = v0) (h1 : a.eval x1 = v1) (h2 : a.eval x2 = v2) (c : List Value)
    (hr : (Instr.build T #[(0, v0), (1, v1), (2, v2)]).run Tryz.prog w = .ok (.agg c.toArray) w) (hq : wpList Tryz.prog ops Q rest (a.put o.dst (.agg c.toArray)) w) : wpList Tryz.prog ops Q (o :: rest) a w :=
  wpList_wanted hw fun K hK => by
    unfold Oper.wp execOp
    simp only [ho, Sem.run_bind, List.map_toArray, List.map_cons, List.map_nil, h0, h1, h2, hr, Result.andThen_ok]
    exact hK _ _ hq
/-- the example's sector -/
def ex3 : Sec := [9, 10, 11] ++ List.replicate 61 0
theorem ex3_len : ex3.length = 64 := by decide
theorem built3 : Tryz.prog.built 88 [(0, Value.int .u8 9), (1, Value.int .u8 10), (2, Value.int .u8 11)] = some (bcells ex3).toArray := by kernel_rfl
theorem run_build3 (w : World) : (Instr.build 88 #[(0, Value.int .u8 9), (1, Value.int .u8 10), (2, Value.int .u8 11)]).run Tryz.prog w = .ok (.agg (bcells ex3).toArray) w := run_build w _ _ _ built3
theorem ex3_eq : ((((Dk.blank 2).put 1 (paint 9)).power [3]).at_ 1) = ex3 := by decide
theorem blank_ok (n : Int) (x : Int) (h : 0 ≤ x ∧ x < blankN n) : (Dk.blank n).putE x = 0 := by
  unfold Dk.putE
  rw [show (Dk.blank n).has x = true from Dk.has_iff.2 (by rw [show (Dk.blank n).base.length = blankN n from List.length_replicate]; exact h), show (Dk.blank n).live = true from rfl]
  rfl
theorem nums_new (w : World) (l : List Int) (e : TypeId) : Nums (w.alloc (.cells (l.map (Value.int .i64)).toArray e)) (some ⟨w.heap.size, 0, none⟩) l := lie_new w _ e
end Go.Proofs.YtdfbpaajkpnaeaaGreat
