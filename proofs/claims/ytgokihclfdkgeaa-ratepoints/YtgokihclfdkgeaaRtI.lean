/- Numbers of the call's own in memory: append, make, stores. -/
import Derived.Test.YtgokihclfdkgeaaRtR
import Derived.Maps.AppendAt
import Derived.Laws.MakeOwn
namespace Go.Proofs.Ytgokihclfdkgeaa
open Go.RowKit Go.Sort

/-- the numbers l lie, one behind the other, from a on -/
def RowAt (k : IntKind) (w : World) (a : Option Addr) (l : List Int) : Prop :=
  l = [] ∨ ∃ b off, a = some ⟨b, off, none⟩ ∧ b < w.heap.size ∧ ∀ i, i < l.length → w.cell? ⟨b, off + i, none⟩ = some (.int k (l.getD i 0))

theorem RowAt.below {k : IntKind} {w w' : World} {a : Option Addr} {l : List Int} (h : RowAt k w a l) (hb : RowKit.Below w.heap.size w w') : RowAt k w' a l := by
  rcases h with h | ⟨b, off, ha, hlt, hc⟩
  · exact Or.inl h
  · refine Or.inr ⟨b, off, ha, Nat.lt_of_lt_of_le hlt hb.size, fun i hi => ?_⟩
    rw [hb.cell (p := ⟨b, off + i, none⟩) hlt]
    exact hc i hi

/-- v is a slice of the call's own (it lies from block 'base' on) that holds l -/
def OW (w : World) (base : Nat) (v : Value) (l : List Int) : Prop := w.ownsRow base 2 1 v l.length (l.map (Value.int .i64))

theorem OW.row {w : World} {base : Nat} {v : Value} {l : List Int} (h : OW w base v l) : ∃ a cap, v = .slice a l.length cap ∧ RowAt .i64 w a l := by
  have h' := h
  unfold OW at h'
  rcases h'.2 with ⟨hv, hn⟩ | ⟨g, cap, cur, hv, hb, hg, hr⟩
  · exact ⟨none, 0, by rw [hv, hn], Or.inl (List.length_eq_zero_iff.mp hn)⟩
  · refine ⟨_, _, hv, Or.inr ⟨g, 0, rfl, ?_, fun i hi => ?_⟩⟩
    · rcases Nat.lt_or_ge g w.heap.size with hlt | hge
      · exact hlt
      · rw [Array.getElem?_eq_none hge] at hg; cases hg
    · rw [Nat.zero_add]
      rw [hv] at h'
      rw [World.ownsRow.cellAt h' i (by omega)]
      simp [List.getD, hi]

theorem OW.own {w : World} {base : Nat} {v : Value} {l : List Int} (h : OW w base v l) : ∀ k, v.ownBlock = some k → base ≤ k := by
  unfold OW at h
  rcases h.2 with ⟨hv, hn⟩ | ⟨g, cap, cur, hv, hb, hg, hr⟩
  · intro k hk; rw [hv] at hk; cases hk
  · intro k hk
    rw [hv] at hk
    have : g = k := by simpa [Value.ownBlock] using hk
    omega

theorem info64 : ∃ i, Try.prog.info? 2 = some i ∧ i.zero = some (.int .i64 0) ∧ i.size = 1 ∧ i.bytes = 8 := by
  have h : (Try.prog.info? 2).map (fun i => (i.zero, i.size, i.bytes)) = some (some (.int .i64 0), 1, 8) := by kernel_rfl
  cases hi : Try.prog.info? 2 with
  | none => rw [hi] at h; cases h
  | some i =>
    rw [hi] at h
    simp only [Option.map_some, Option.some.injEq, Prod.mk.injEq] at h
    exact ⟨i, rfl, h.1, h.2.1, h.2.2⟩

theorem app_run {w : World} (w0 : World) (base : Nat) (v : Value) (l news : List Int) (ad : Addr) (c : Nat) (ty : TypeId) (hown : OW w base v l)
    (hr : ∀ i, i < news.length → w.cell? (ad.add i) = some (.int .i64 (news.getD i 0))) (hlen : l.length + news.length ≤ 1000000) (hB : RowKit.Below base w0 w) (hb : base ≤ w.heap.size) :
    ∃ v' w', (Builtin.append_ #[59, 59] ty #[v, .slice (some ad) news.length c]).run Try.prog w = .ok v' w' ∧ OW w' base v' (l ++ news) ∧ RowKit.Below base w0 w' ∧ base ≤ w'.heap.size := by
  obtain ⟨i, hi, hz, hs1, hs8⟩ := info64
  have hown' := hown
  unfold OW at hown'
  obtain ⟨v', w', hrun, h2, h3, _, h5⟩ := run_append_own_at (P := Try.prog) w base 59 ty 2 i (.int .i64 0) 1 8 Try.underlying59 hi hz hs1 hs8 rfl (by omega) v l.length (l.map (Value.int .i64)) hown' ad news.length c (news.map (Value.int .i64)) (by simp)
    (fun j u hj => by
      have hj' : j < news.length := by
        rcases Nat.lt_or_ge j news.length with h | h
        · exact h
        · rw [List.getElem?_eq_none (by simpa using h)] at hj; cases hj
      rw [hr j hj']
      simp [List.getD, hj'] at hj ⊢
      exact hj)
    (fun u hu => by obtain ⟨n, _, rfl⟩ := List.mem_map.mp hu; rfl) (by unfold maxLen; omega) (by omega) hb
  refine ⟨v', w', hrun, ?_, hB.grown h3 hb hown.own, Nat.le_trans hb h3.size⟩
  unfold OW
  rw [List.length_append, List.map_append]
  exact h2

/-- an empty slice literal -/
theorem OW.lit {w : World} {base : Nat} (hb : base ≤ w.heap.size) : OW (w.alloc (.cells #[] 2)) base (.slice (some ⟨w.heap.size, 0, none⟩) 0 0) [] :=
  World.ownsRow_lit w #[] 0 hb (by decide) rfl

/-- n numbers lie in block b, and may be written -/
structure IntsAt (w : World) (b n : Nat) (f : Nat → Int) : Prop where
  c : ∀ j, j < n → w.cell? ⟨b, j, none⟩ = some (.int .i64 (f j))
  fz : ∀ j, j < n → w.frozen? ⟨b, j, none⟩ = false
  lt : b < w.heap.size

theorem IntsAt.below {w w' : World} {b n : Nat} {f : Nat → Int} (h : IntsAt w b n f) (hb : RowKit.Below w.heap.size w w') : IntsAt w' b n f :=
  ⟨fun j hj => by rw [hb.cell (p := ⟨b, j, none⟩) h.lt]; exact h.c j hj, fun j hj => by rw [hb.frozen (p := ⟨b, j, none⟩) h.lt]; exact h.fz j hj, Nat.lt_of_lt_of_le h.lt hb.size⟩
theorem IntsAt.of {w w' : World} {b n : Nat} {f : Nat → Int} {base : Nat} (h : IntsAt w b n f) (hb : RowKit.Below base w w') (hlt : b < base) : IntsAt w' b n f :=
  ⟨fun j hj => by rw [hb.cell (p := ⟨b, j, none⟩) hlt]; exact h.c j hj, fun j hj => by rw [hb.frozen (p := ⟨b, j, none⟩) hlt]; exact h.fz j hj, Nat.lt_of_lt_of_le h.lt hb.size⟩
theorem IntsAt.set {w : World} {b n : Nat} {f : Nat → Int} (h : IntsAt w b n f) (i : Nat) (hi : i < n) (v : Int) : IntsAt (w.setCell ⟨b, i, none⟩ (.int .i64 v)) b n (fun j => if j = i then v else f j) := by
  refine ⟨fun j hj => ?_, fun j hj => ?_, by simpa using h.lt⟩
  · by_cases e : j = i
    · subst e; rw [if_pos rfl]; exact World.cell?_setCell_same _ _ _ (h.c j hj)
    · rw [if_neg e, World.cell?_setCell_other _ _ _ _ (fun e' => e (by injection e'; omega))]; exact h.c j hj
  · rw [World.frozen?_setCell]; exact h.fz j hj
theorem IntsAt.other {w : World} {b n : Nat} {f : Nat → Int} (h : IntsAt w b n f) (c i : Nat) (hc : c ≠ b) (v : Value) : IntsAt (w.setCell ⟨c, i, none⟩ v) b n f := by
  refine ⟨fun j hj => ?_, fun j hj => ?_, by simpa using h.lt⟩
  · rw [World.cell?_setCell_other _ _ _ _ (fun e' => hc (by injection e'))]; exact h.c j hj
  · rw [World.frozen?_setCell]; exact h.fz j hj
theorem IntsAt.congr {w : World} {b n : Nat} {f g : Nat → Int} (h : IntsAt w b n f) (e : ∀ j, j < n → f j = g j) : IntsAt w b n g := ⟨fun j hj => by rw [← e j hj]; exact h.c j hj, h.fz, h.lt⟩
theorem IntsAt.drew {w : World} {b n : Nat} {f : Nat → Int} (h : IntsAt w b n f) : IntsAt w.drew b n f := h.below (RowKit.Below.refl _ _).drew
theorem IntsAt.drewN {w : World} {b n : Nat} {f : Nat → Int} (h : IntsAt w b n f) (k : Nat) : IntsAt (w.drewN k) b n f := h.below (below_drewN (RowKit.Below.refl _ _) k)

/-- as many zeros -/
def zeroRow (n : Nat) (t : TypeId) : Obj := .cells (madeCells #[.int .i64 0] n) t
theorem zeros_get (n j : Nat) (h : j < n) : (madeCells #[Value.int .i64 0] n)[j]? = some (.int .i64 0) := by
  unfold madeCells
  simp [h, Nat.mod_one]
theorem IntsAt.made (w : World) (n : Nat) (t : TypeId) : IntsAt (w.alloc (zeroRow n t)) w.heap.size n (fun _ => 0) := by
  have hb : (w.alloc (zeroRow n t)).heap[w.heap.size]? = some (.cells (madeCells #[.int .i64 0] n) t) := heap_alloc_new w _
  refine ⟨fun j hj => ?_, fun j hj => ?_, by simp⟩
  · rw [cell_of_row _ w.heap.size j _ t (0, 0) hb]
    exact zeros_get n j hj
  · unfold World.frozen?
    rw [hb]
    rfl
theorem mk_int64 (n : Nat) (hn : n ≤ 1000000) (w : World) : (Instr.makeSlice 59 (.int .i64 (n : Int)) (.int .i64 (n : Int))).run Try.prog w = .ok (.slice (some ⟨w.heap.size, 0, none⟩) n n) (w.alloc (zeroRow n 2)) := by
  obtain ⟨i, hi, hz, h1, h8⟩ := info64
  have h := run_make (P := Try.prog) w 59 2 i (.int .i64 0) Try.underlying59 hi hz .i64 .i64 n n (by omega) (Int.le_refl _) (by rw [h8]; omega) (by omega)
  rw [h1, Nat.mul_one, Int.toNat_natCast] at h
  exact h

theorem wpList_app {ops : Array Oper} {rest : List Oper} {o : Oper} {a : Act} {w : World} {Q : Exit → Act → World → Prop} (hgd : o.guard = none) (s x : Operand)
    (ho : o.op = .call { callee := .builtin .append, args := #[s, x], argTypes := #[59, 59] }) (w0 : World) (base : Nat) (v : Value) (l news : List Int) (ad : Addr) (c n : Nat) (hs : a.eval s = v) (hx : a.eval x = .slice (some ad) n c) (hn : news.length = n)
    (hown : OW w base v l) (hr : ∀ i, i < news.length → w.cell? (ad.add i) = some (.int .i64 (news.getD i 0))) (hlen : l.length + news.length ≤ 1000000) (hB : RowKit.Below base w0 w) (hb : base ≤ w.heap.size)
    (h : ∀ v' w', OW w' base v' (l ++ news) → RowKit.Below base w0 w' → base ≤ w'.heap.size → wpList Try.prog ops Q rest (a.put o.dst v') w') : wpList Try.prog ops Q (o :: rest) a w :=
  wpList_plain hgd fun K hK => by
    subst hn
    obtain ⟨v', w', hrun, h2, h3, h4⟩ := app_run w0 base v l news ad c o.type hown hr hlen hB hb
    unfold Oper.wp execOp
    simp only [ho, resolve, invoke, builtin, Sem.run_bind, Sem.run_pure, Result.andThen_ok, List.map_toArray, List.map_cons, List.map_nil, hs, hx, hrun]
    exact hK _ _ (h v' w' h2 h3 h4)
theorem OW.alloc {w : World} {base : Nat} {v : Value} {l : List Int} (h : OW w base v l) (o : Obj) : OW (w.alloc o) base v l := World.ownsRow.alloc h o
theorem bl_over {w u v : World} {n : Nat} (h : RowKit.Below n w u) (hn : n ≤ u.heap.size) (k : RowKit.Below u.heap.size u v) : RowKit.Below n w v := h.trans (k.mono hn)
theorem one_cell (W : World) (x : Int) (t : TypeId) : ∀ i, i < [x].length → (W.alloc (.cells #[.int .i64 x] t)).cell? ((⟨W.heap.size, 0, none⟩ : Addr).add i) = some (.int .i64 ([x].getD i 0)) := by
  intro i hi
  obtain rfl : i = 0 := by simp at hi; exact hi
  simp [Addr.add]
end Go.Proofs.Ytgokihclfdkgeaa
