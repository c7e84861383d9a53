/- Bytes in memory: where they lie, slices of the call's own, append, cuts, texts. -/
import Derived.Test.YtdfbpaajkpnaeaaGreatPkM
import Derived.Test.YtdfbpaajkpnaeaaGreatChecked
import Derived.ProofKit
import Derived.OpenShut
import Derived.Below
import Derived.Handy
import Derived.Lib.Hide
import Derived.Deep.LoopGhost
import Derived.Deep.QuietTactic
import Derived.BigQuiet
import Derived.Deep.Draws
import Derived.Maps.AppendAt
import Derived.Lib.AppendStr
import Derived.Laws.BytesArg
import Derived.Laws.OwnMore
import Derived.Laws.MakeOwn
import Derived.Lib.SliceRun
namespace Go.Proofs.YtdfbpaajkpnaeaaGreat
set_option maxRecDepth 100000
open Go.RowKit Go.Lib

def bcells (l : List UInt8) : List Value := l.map fun b => Value.int .u8 (b.toNat : Int)
theorem bcells_len (l : List UInt8) : (bcells l).length = l.length := by simp [bcells]
theorem bcells_app (l k : List UInt8) : bcells (l ++ k) = bcells l ++ bcells k := by simp [bcells]
theorem bcells_one (l : List UInt8) : ∀ u ∈ bcells l, u.oneCell' = true := by
  intro u hu
  obtain ⟨_, _, rfl⟩ := List.mem_map.1 hu
  rfl
theorem bcells_get {l : List UInt8} {i : Nat} (h : i < l.length) : (bcells l)[i]? = some (.int .u8 ((l.getD i 0).toNat : Int)) := by
  simp [bcells, List.getD, h]

/-- the bytes l lie, one behind the other, from a on -/
def BAt (w : World) (a : Option Addr) (l : List UInt8) : Prop :=
  l = [] ∨ ∃ b off, a = some ⟨b, off, none⟩ ∧ b < w.heap.size ∧ ∀ i, i < l.length → w.cell? ⟨b, off + i, none⟩ = some (.int .u8 ((l.getD i 0).toNat : Int))
theorem BAt.below {w w' : World} {a : Option Addr} {l : List UInt8} (h : BAt w a l) (hb : RowKit.Below w.heap.size w w') : BAt w' a l := by
  rcases h with h | ⟨b, off, ha, hlt, hc⟩
  · exact Or.inl h
  · refine Or.inr ⟨b, off, ha, Nat.lt_of_lt_of_le hlt hb.size, fun i hi => ?_⟩
    rw [hb.cell (p := ⟨b, off + i, none⟩) hlt]
    exact hc i hi
/-- which block it lies in -/
def inBlk (a : Option Addr) (g : Nat) : Prop := ∃ p, a = some p ∧ p.block = g
theorem BAt.grown {w w' : World} {a : Option Addr} {l : List UInt8} {row : Option Nat} (h : BAt w a l) (hg : w.grownBy w' row) (hr : l = [] ∨ ∀ g, row = some g → ¬ inBlk a g) : BAt w' a l := by
  rcases h with h | ⟨b, off, ha, hlt, hc⟩
  · exact Or.inl h
  · rcases hr with hr | hr
    · exact Or.inl hr
    · refine Or.inr ⟨b, off, ha, Nat.lt_of_lt_of_le hlt hg.size, fun i hi => ?_⟩
      exact hg.cell (hc i hi) (fun e => hr b e.symm ⟨_, ha, rfl⟩)
theorem BAt.cells {w : World} {a : Addr} {l : List UInt8} (h : BAt w (some a) l) : ∀ j u, (bcells l)[j]? = some u → w.cell? (a.add j) = some u := by
  intro j u hu
  have hj : j < l.length := by
    rcases Nat.lt_or_ge j l.length with h' | h'
    · exact h'
    · rw [List.getElem?_eq_none (by rw [bcells_len]; exact h')] at hu; cases hu
  rw [bcells_get hj] at hu
  rcases h with h | ⟨b, off, ha, hlt, hc⟩
  · subst h; cases hj
  · cases ha
    have := hc j hj
    rw [← hu, ← this]
    unfold Addr.add
    split
    · next h0 => simp [h0]
    · simp
theorem BAt.take {w : World} {a : Option Addr} {l : List UInt8} (h : BAt w a l) (k : Nat) : BAt w a (l.take k) := by
  rcases h with h | ⟨b, off, ha, hlt, hc⟩
  · left; rw [h]; simp
  · refine Or.inr ⟨b, off, ha, hlt, fun i hi => ?_⟩
    rw [List.length_take] at hi
    rw [hc i (by omega)]
    simp [List.getD, show i < k by omega]
/-- where a[k:] lies -/
def cutA (a : Option Addr) (cap k : Nat) : Option Addr := if cap = k then a else a.map (·.add k)
theorem BAt.drop {w : World} {a : Option Addr} {l : List UInt8} (h : BAt w a l) {cap k : Nat} (hk : k ≤ l.length) (hc : l.length ≤ cap) : BAt w (cutA a cap k) (l.drop k) := by
  by_cases e : k = l.length
  · left; simp [e]
  · rcases h with h | ⟨b, off, ha, hlt, hcell⟩
    · left; rw [h]; simp
    · refine Or.inr ⟨b, off + k, ?_, hlt, fun i hi => ?_⟩
      · unfold cutA; rw [if_neg (by omega), ha]
        simp [Addr.add]
      · rw [List.length_drop] at hi
        rw [Nat.add_assoc, hcell (k + i) (by omega)]
        simp [List.getD]
theorem cutA_blk {a : Option Addr} {cap k g : Nat} (h : inBlk (cutA a cap k) g) : inBlk a g := by
  unfold cutA at h
  obtain ⟨p, h, hp⟩ := h
  split at h
  · exact ⟨p, h, hp⟩
  · cases a with
    | none => simp at h
    | some q =>
      simp only [Option.map_some, Option.some.injEq] at h
      refine ⟨q, rfl, ?_⟩
      rw [← hp, ← h]
      unfold Addr.add
      split <;> rfl
theorem sz8 : ∀ w, (Go.sizeOf 5).run Tryz.prog w = .ok 1 w := Tryz.sizeOf5
theorem run_from (a : Option Addr) (n cap k : Nat) (hk : k ≤ n) (W : World) : (Instr.slice 23 (.slice a n cap) (some (.int .i64 (k : Int))) none none).run Tryz.prog W = .ok (.slice (cutA a cap k) (n - k) (cap - k)) W := by
  have h := run_slice_l (P := Tryz.prog) (w := W) 23 a n cap (by kernel_rfl) .i64 (k : Int) (by omega) (by omega)
  rw [h]
  have e : Tryz.prog.elem 23 = 5 := by kernel_rfl
  rw [e, sz8]
  simp [Result.andThen, sliced, cutA]
theorem run_to (a : Option Addr) (n cap k : Nat) (hk : k ≤ cap) (W : World) : (Instr.slice 23 (.slice a n cap) none (some (.int .i64 (k : Int))) none).run Tryz.prog W = .ok (.slice a k cap) W := by
  have h := run_slice_h (P := Tryz.prog) (w := W) 23 a n cap (by kernel_rfl) .i64 (k : Int) (by omega) (by omega)
  rw [h]
  have e : Tryz.prog.elem 23 = 5 := by kernel_rfl
  rw [e, sz8]
  have z : a.map (fun x : Addr => x.add 0) = a := by cases a <;> simp [Addr.add]
  simp [Result.andThen, sliced, z]

/-- a text of bytes -/
def strB (l : List UInt8) : ByteArray := ⟨l.toArray⟩
theorem strB_inj {l k : List UInt8} : strB l = strB k ↔ l = k := by
  constructor
  · intro h
    have := congrArg (fun s : ByteArray => s.data.toList) h
    simpa [strB] using this
  · intro h; rw [h]
theorem strB_size (l : List UInt8) : (strB l).size = l.length := by simp [strB, ByteArray.size]
theorem strB_data (s : ByteArray) : strB s.data.toList = s := by simp [strB]
theorem strOf_nums (l : List UInt8) : strOfNums (l.map fun b => (b.toNat : Int)) = strB l := by
  unfold strOfNums strB
  rw [List.map_map]
  congr 2
  rw [show ((fun n : Int => UInt8.ofNat n.toNat) ∘ fun b : UInt8 => (b.toNat : Int)) = id from by funext b; simp]
  simp
theorem run_conv {w : World} {a : Option Addr} {l : List UInt8} (h : BAt w a l) (n c : Nat) (hn : l.length = n) : (convert 23 9 (.slice a n c)).run Tryz.prog w = .ok (.string (strB l)) w := by
  subst hn
  rcases h with h | ⟨b, off, ha, hlt, hc⟩
  · subst h
    rw [List.length_nil, run_convert_bytes_string w 23 9 5 _ 0 c Tryz.underlying23 Tryz.underlying5 Tryz.underlying9]
    cases a <;> simp [Conv.bytesToString, loadCells] <;> rfl
  · subst ha
    rw [run_convert_bytes_arg (P := Tryz.prog) w 23 5 Tryz.underlying23 Tryz.underlying5 b off l.length c (l.map fun b => (b.toNat : Int)) (by simp) (fun i hi => by rw [hc i hi]; simp [List.getD, hi]) 9 Tryz.underlying9, strOf_nums]

/-- v is a slice of the call's own (it lies from block 'base' on) that holds l -/
def OB (w : World) (base : Nat) (v : Value) (l : List UInt8) : Prop := w.ownsRow base 5 1 v l.length (bcells l)
theorem OB.row {w : World} {base : Nat} {v : Value} {l : List UInt8} (h : OB w base v l) : ∃ a cap, v = .slice a l.length cap ∧ BAt w a l ∧ l.length ≤ cap ∧ cap ≤ maxLen ∧ (a = none → cap = 0) ∧ (∀ g, inBlk a g ↔ v.ownBlock = some g) := by
  have h' := h
  unfold OB at h'
  rcases h'.2 with ⟨hv, hn⟩ | ⟨g, cap, cur, hv, hb, hg, hr⟩
  · exact ⟨none, 0, by rw [hv, hn], Or.inl (List.length_eq_zero_iff.mp hn), by omega, by decide, fun _ => rfl, fun g => by rw [hv]; simp [inBlk, Value.ownBlock]⟩
  · refine ⟨_, _, hv, Or.inr ⟨g, 0, rfl, ?_, fun i hi => ?_⟩, hr.1, hr.2.1, (fun e => by cases e), fun k => by rw [hv]; simp [inBlk, Value.ownBlock]⟩
    · rcases Nat.lt_or_ge g w.heap.size with hlt | hge
      · exact hlt
      · rw [Array.getElem?_eq_none hge] at hg; cases hg
    · rw [Nat.zero_add]
      rw [hv] at h'
      rw [World.ownsRow.cellAt h' i (by omega), bcells_get hi]
theorem OB.own {w : World} {base : Nat} {v : Value} {l : List UInt8} (h : OB w base v l) : ∀ k, v.ownBlock = some k → base ≤ k ∧ k < w.heap.size := by
  unfold OB at h
  rcases h.2 with ⟨hv, hn⟩ | ⟨g, cap, cur, hv, hb, hg, hr⟩
  · intro k hk; rw [hv] at hk; cases hk
  · intro k hk
    rw [hv] at hk
    have : g = k := by simpa [Value.ownBlock] using hk
    subst this
    refine ⟨hb, ?_⟩
    rcases Nat.lt_or_ge g w.heap.size with hlt | hge
    · exact hlt
    · rw [Array.getElem?_eq_none hge] at hg; cases hg
theorem OB.nil (w : World) (base : Nat) : OB w base (.slice none 0 0) [] := World.ownsRow_nil w base _ 1
theorem OB.lit {w : World} {base : Nat} (hb : base ≤ w.heap.size) : OB (w.alloc (.cells #[] 5)) base (.slice (some ⟨w.heap.size, 0, none⟩) 0 0) [] :=
  World.ownsRow_lit w #[] 0 hb (by decide) rfl
theorem OB.lit1 {w : World} {base : Nat} (hb : base ≤ w.heap.size) (x : UInt8) (n : Int) (hn : n = (x.toNat : Int)) : OB (w.alloc (.cells #[.int .u8 n] 5)) base (.slice (some ⟨w.heap.size, 0, none⟩) 1 1) [x] := by
  subst hn
  exact World.ownsRow_lit w #[.int .u8 (x.toNat : Int)] 1 hb (by decide) rfl
theorem OB.mono {w : World} {base b2 : Nat} {v : Value} {l : List UInt8} (h : OB w base v l) (hb : b2 ≤ base) : OB w b2 v l := by
  unfold OB at *
  rcases h.2 with h0 | ⟨g, cap, cur, hv, hg, r⟩
  · exact ⟨h.1, .inl h0⟩
  · exact ⟨h.1, .inr ⟨g, cap, cur, hv, Nat.le_trans hb hg, r⟩⟩
theorem OB.kept {w w' : World} {base : Nat} {v : Value} {l : List UInt8} {row : Option Nat} (h : OB w base v l) (hg : w.grownBy w' row) (hne : ∀ k, row = some k → v.ownBlock ≠ some k) : OB w' base v l := by
  unfold OB at *
  rcases h.2 with h0 | ⟨g, cap, cur, hv, hb, hh, r⟩
  · exact ⟨h.1, .inl h0⟩
  · have hlt : g < w.heap.size := by
      rcases Nat.lt_or_ge g w.heap.size with hlt | hge
      · exact hlt
      · rw [Array.getElem?_eq_none hge] at hh; cases hh
    exact ⟨h.1, .inr ⟨g, cap, cur, hv, hb, (hg.block g hlt (fun e => hne g e.symm (by rw [hv]; rfl))).trans hh, r⟩⟩

/-- a slice v that is appended to: only its block, and what is new, has turned -/
structure Upd (w w' : World) (v v' : Value) : Prop where
  g : w.grownBy w' v.ownBlock
  b : v'.ownBlock = v.ownBlock ∨ ∃ k, v'.ownBlock = some k ∧ w.heap.size ≤ k
theorem Upd.refl (w : World) (v : Value) : Upd w w v v := ⟨World.grownBy.refl w _, Or.inl rfl⟩
theorem Upd.trans {a b c : World} {u v x : Value} (h : Upd a b u v) (k : Upd b c v x) : Upd a c u x := by
  refine ⟨⟨k.g.os.trans h.g.os, k.g.tape.trans h.g.tape, k.g.output.trans h.g.output, Nat.le_trans h.g.size k.g.size, fun i hi hne => ?_⟩, ?_⟩
  · refine (k.g.block i (Nat.lt_of_lt_of_le hi h.g.size) ?_).trans (h.g.block i hi hne)
    rcases h.b with e | ⟨j, e, hj⟩
    · rw [e]; exact hne
    · rw [e]; intro e2; injection e2 with e2; omega
  · rcases k.b with e | ⟨j, e, hj⟩
    · rw [e]
      exact h.b
    · exact Or.inr ⟨j, e, Nat.le_trans h.g.size hj⟩
theorem grown_more {w a b : World} {row : Option Nat} (h : w.grownBy a row) (k : RowKit.Below a.heap.size a b) : w.grownBy b row :=
  ⟨k.os.trans h.os, k.tape.trans h.tape, k.output.trans h.output, Nat.le_trans h.size k.size, fun i hi hne => (k.block i (Nat.lt_of_lt_of_le hi h.size)).trans (h.block i hi hne)⟩
theorem Upd.pre {w a b : World} {v v' : Value} (k : RowKit.Below w.heap.size w a) (h : Upd a b v v') : Upd w b v v' :=
  ⟨⟨h.g.os.trans k.os, h.g.tape.trans k.tape, h.g.output.trans k.output, Nat.le_trans k.size h.g.size, fun i hi hne => (h.g.block i (Nat.lt_of_lt_of_le hi k.size) hne).trans (k.block i hi)⟩,
    h.b.imp id fun ⟨j, e, hj⟩ => ⟨j, e, Nat.le_trans k.size hj⟩⟩
theorem Upd.post {w a b : World} {v v' : Value} (h : Upd w a v v') (k : RowKit.Below a.heap.size a b) : Upd w b v v' := ⟨grown_more h.g k, h.b⟩
theorem Upd.below {w w' : World} {v v' : Value} {base : Nat} {l : List UInt8} {w0 : World} (h : Upd w w' v v') (ho : OB w base v l) (hb : base ≤ w.heap.size) (hB : RowKit.Below base w0 w) : RowKit.Below base w0 w' :=
  hB.grown h.g hb fun k hk => (ho.own k hk).1
theorem OB.below {w w' : World} {base : Nat} {v : Value} {l : List UInt8} (h : OB w base v l) (hb : RowKit.Below w.heap.size w w') : OB w' base v l :=
  h.kept (row := none) ⟨hb.os, hb.tape, hb.output, hb.size, fun i hi _ => hb.block i hi⟩ (fun _ e => by cases e)

theorem info8 : ∃ i, Tryz.prog.info? 5 = some i ∧ i.zero = some (.int .u8 0) ∧ i.size = 1 ∧ i.bytes = 1 := by
  have h : (Tryz.prog.info? 5).map (fun i => (i.zero, i.size, i.bytes)) = some (some (.int .u8 0), 1, 1) := by kernel_rfl
  cases hi : Tryz.prog.info? 5 with
  | none => rw [hi] at h; cases h
  | some i =>
    rw [hi] at h
    simp only [Option.map_some, Option.some.injEq, Prod.mk.injEq] at h
    exact ⟨i, rfl, h.1, h.2.1, h.2.2⟩

/-- what append makes of a slice of the call's own -/
def Apd (w : World) (base : Nat) (v : Value) (l : List UInt8) (v' : Value) (w' : World) : Prop := OB w' base v' l ∧ Upd w w' v v' ∧ base ≤ w'.heap.size ∧ (v' = .slice none 0 0 → l = [] ∧ v = .slice none 0 0)
theorem app_run {w : World} (base : Nat) (v : Value) (l news : List UInt8) (ad : Option Addr) (c : Nat) (ty : TypeId) (hown : OB w base v l) (hr : BAt w ad news) (hn : ad = none → news = []) (hlen : l.length + news.length ≤ 1000000000) (hb : base ≤ w.heap.size) :
    ∃ v' w', (Builtin.append_ #[23, 23] ty #[v, .slice ad news.length c]).run Tryz.prog w = .ok v' w' ∧ Apd w base v (l ++ news) v' w' := by
  obtain ⟨i, hi, hz, hs1, hs8⟩ := info8
  have hown' := hown
  unfold OB at hown'
  cases ad with
  | none =>
    have e := hn rfl
    subst e
    refine ⟨v, w, ?_, by rw [List.append_nil]; exact hown, Upd.refl _ _, hb, ?_⟩
    · rcases hown'.2 with ⟨rfl, h0⟩ | ⟨g, cap, cur, rfl, _, _, hnc, _⟩
      · simp [Builtin.append_, run_underlying Tryz.underlying23, Go.sizeOf, typeInfo, hi, Builtin.lenOf, Builtin.firstCells]
      · simp [Builtin.append_, run_underlying Tryz.underlying23, Go.sizeOf, typeInfo, hi, Builtin.lenOf, Builtin.firstCells, hnc, storeCells]
    · intro e
      rw [List.append_nil]
      refine ⟨?_, e⟩
      obtain ⟨a, cap, hv, _⟩ := hown.row
      rw [hv] at e
      have e := (Value.slice.inj e).2.1
      exact List.eq_nil_of_length_eq_zero e
  | some p =>
    obtain ⟨v', w', hrun, h2, h3, h4, h5⟩ := run_append_own_at (P := Tryz.prog) w base 23 ty 5 i (.int .u8 0) 1 1 Tryz.underlying23 hi hz hs1 hs8 rfl (by omega) v l.length (bcells l) hown' p news.length c (bcells news) (by rw [bcells_len, Nat.mul_one])
      hr.cells (bcells_one _) (by unfold maxLen; omega) (by omega) hb
    refine ⟨v', w', hrun, ?_, ⟨h3, h5.imp id fun e => ⟨_, e, Nat.le_refl _⟩⟩, Nat.le_trans hb h3.size, fun e => ?_⟩
    · unfold OB
      rw [List.length_append, bcells_app]
      exact h2
    · obtain ⟨e1, e2⟩ := h4.mp e
      refine ⟨?_, e1⟩
      obtain ⟨a, cap, hv, _⟩ := hown.row
      rw [hv] at e1
      have e1 := (Value.slice.inj e1).2.1
      rw [List.eq_nil_of_length_eq_zero e1, List.eq_nil_of_length_eq_zero e2]; rfl
theorem wpList_appB {ops : Array Oper} {rest : List Oper} {o : Oper} {a : Act} {w : World} {Q : Exit → Act → World → Prop} (hgd : o.guard = none) (s x : Operand)
    (ho : o.op = .call { callee := .builtin .append, args := #[s, x], argTypes := #[23, 23] }) (base : Nat) (v : Value) (l news : List UInt8) (ad : Option Addr) (c n : Nat) (hs : a.eval s = v) (hx : a.eval x = .slice ad n c) (hn : news.length = n)
    (hown : OB w base v l) (hr : BAt w ad news) (hnil : ad = none → news = []) (hlen : l.length + news.length ≤ 1000000000) (hb : base ≤ w.heap.size)
    (h : ∀ v' w', Apd w base v (l ++ news) v' w' → wpList Tryz.prog ops Q rest (a.put o.dst v') w') : wpList Tryz.prog ops Q (o :: rest) a w :=
  wpList_plain hgd fun K hK => by
    subst hn
    obtain ⟨v', w', hrun, h2⟩ := app_run base v l news ad c o.type hown hr hnil hlen hb
    unfold Oper.wp execOp
    simp only [ho, resolve, invoke, builtin, Sem.run_bind, Sem.run_pure, Result.andThen_ok, List.map_toArray, List.map_cons, List.map_nil, hs, hx, hrun]
    exact hK _ _ (h v' w' h2)
theorem strCells_b (s : ByteArray) : strCells s = bcells s.data.toList := rfl
theorem app_str {w : World} (base : Nat) (v : Value) (l : List UInt8) (s : ByteArray) (ty : TypeId) (hown : OB w base v l) (hlen : l.length + s.size ≤ 1000000000) (hb : base ≤ w.heap.size) (hv : v ≠ .slice none 0 0) :
    ∃ v' w', (Builtin.append_ #[23, 9] ty #[v, .string s]).run Tryz.prog w = .ok v' w' ∧ OB w' base v' (l ++ s.data.toList) ∧ w.grownBy w' v.ownBlock ∧ base ≤ w'.heap.size ∧ v' ≠ .slice none 0 0 := by
  obtain ⟨i, hi, hz, hs1, hs8⟩ := info8
  have hown' := hown
  unfold OB at hown'
  obtain ⟨v', w', hrun, h2, h3, h4⟩ := run_append_own_string (P := Tryz.prog) w base 23 9 ty 5 i Tryz.underlying23 Tryz.underlying9 hi hz hs1 hs8 v l.length (bcells l) hown' s (by unfold maxLen; omega) (by omega) hb
  refine ⟨v', w', hrun, ?_, h3, Nat.le_trans hb h3.size, fun e => hv (h4.mp e).1⟩
  unfold OB
  rw [List.length_append, bcells_app, ← strCells_b, show s.data.toList.length = s.size by simp]
  exact h2
theorem wpList_appS {ops : Array Oper} {rest : List Oper} {o : Oper} {a : Act} {w : World} {Q : Exit → Act → World → Prop} (hgd : o.guard = none) (s x : Operand)
    (ho : o.op = .call { callee := .builtin .append, args := #[s, x], argTypes := #[23, 9] }) (base : Nat) (v : Value) (l : List UInt8) (t : ByteArray) (hs : a.eval s = v) (hx : a.eval x = .string t)
    (hown : OB w base v l) (hlen : l.length + t.size ≤ 1000000000) (hb : base ≤ w.heap.size) (hv : v ≠ .slice none 0 0)
    (h : ∀ v' w', OB w' base v' (l ++ t.data.toList) → w.grownBy w' v.ownBlock → base ≤ w'.heap.size → v' ≠ .slice none 0 0 → wpList Tryz.prog ops Q rest (a.put o.dst v') w') : wpList Tryz.prog ops Q (o :: rest) a w :=
  wpList_plain hgd fun K hK => by
    obtain ⟨v', w', hrun, h2, h3, h4, h5⟩ := app_str base v l t o.type hown hlen hb hv
    unfold Oper.wp execOp
    simp only [ho, resolve, invoke, builtin, Sem.run_bind, Sem.run_pure, Result.andThen_ok, List.map_toArray, List.map_cons, List.map_nil, hs, hx, hrun]
    exact hK _ _ (h v' w' h2 h3 h4 h5)
theorem one_byte (W : World) (x : UInt8) (n : Int) (t : TypeId) (hn : n = (x.toNat : Int)) : BAt (W.alloc (.cells #[.int .u8 n] t)) (some ⟨W.heap.size, 0, none⟩) [x] := by
  subst hn
  refine Or.inr ⟨W.heap.size, 0, rfl, by simp, fun i hi => ?_⟩
  obtain rfl : i = 0 := by simp at hi; exact hi
  simp
theorem ret_bool {a b : Bool} (h : a = b) : Ending.returned (.bool a) = .returned (.bool b) := by rw [h]
theorem ret_int {k : IntKind} {a b : Int} (h : a = b) : Ending.returned (.int k a) = .returned (.int k b) := by rw [h]
theorem below_drewN {B : Nat} {a w : World} (h : RowKit.Below B a w) (n : Nat) : RowKit.Below B a (w.drewN n) := ⟨h.os, h.tape, h.output, h.size, h.block⟩
theorem mixedT : Tryz.prog.follows .mixedOrders = true := by kernel_rfl
/-- a number that fits -/
def I (n : Int) : Prop := -9223372036854775808 ≤ n ∧ n ≤ 9223372036854775807
end Go.Proofs.YtdfbpaajkpnaeaaGreat
