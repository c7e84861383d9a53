/- Two slices of the call's own: the parts and the rests. -/
import Derived.Test.YtaebbfaheaghfaaOwnInts
import Derived.Test.YtaebbfaheaghfaaRefH
namespace Go.Proofs.Ytaebbfaheaghfaa
open Go.RowKit

/-- a number's eleven cells -/
def numC (n : Int) : List Value := (V n).cells.toList
theorem numC_len (n : Int) : (numC n).length = 11 := rfl
def numsC (rs : List Int) : List Value := rs.flatMap numC
theorem numsC_len (rs : List Int) : (numsC rs).length = rs.length * 11 := by
  induction rs with
  | nil => rfl
  | cons a rs ih => simp only [numsC, List.flatMap_cons, List.length_append, numC_len, List.length_cons] at *; omega
theorem numsC_app (a b : List Int) : numsC (a ++ b) = numsC a ++ numsC b := by simp [numsC]
theorem numsC_at (rs : List Int) (j c : Nat) (hj : j < rs.length) (hc : c < 11) : (numsC rs)[j * 11 + c]? = (numC (rs.getD j 0))[c]? := by
  induction rs generalizing j with
  | nil => simp at hj
  | cons a rs ih =>
    have e : numsC (a :: rs) = numC a ++ numsC rs := by simp [numsC]
    rw [e]
    cases j with
    | zero => rw [List.getElem?_append_left (by rw [numC_len]; omega)]; simp
    | succ j =>
      rw [List.getElem?_append_right (by rw [numC_len]; omega), numC_len, show (j + 1) * 11 + c - 11 = j * 11 + c by omega, ih j (by simpa using hj)]
      simp

/-- v is a slice of the call's own that holds the numbers rs -/
def NW (w : World) (base : Nat) (v : Value) (rs : List Int) : Prop := w.ownsRow base 31 11 v rs.length (numsC rs)

/-- a row abides where its block is not touched -/
theorem row_abides {W W' : World} {base : Nat} {e : TypeId} {size n : Nat} {v : Value} {xs : List Value} (h : W.ownsRow base e size v n xs) (hb : ∀ k, v.ownBlock = some k → k < W.heap.size → W'.heap[k]? = W.heap[k]?) : W'.ownsRow base e size v n xs := by
  obtain ⟨h1, h2⟩ := h
  refine ⟨h1, ?_⟩
  rcases h2 with h2 | ⟨g, cap, cur, hv, hg, hh, r⟩
  · exact Or.inl h2
  · refine Or.inr ⟨g, cap, cur, hv, hg, ?_, r⟩
    have hlt : g < W.heap.size := by
      rcases Nat.lt_or_ge g W.heap.size with c | c
      · exact c
      · rw [Array.getElem?_eq_none c] at hh; cases hh
    rw [hb g (by rw [hv]; rfl) hlt]
    exact hh
theorem row_block {W : World} {base : Nat} {e : TypeId} {size n : Nat} {v : Value} {xs : List Value} (h : W.ownsRow base e size v n xs) (k : Nat) (hk : v.ownBlock = some k) : k < W.heap.size ∧ base ≤ k := by
  obtain ⟨h1, h2⟩ := h
  rcases h2 with ⟨h2, _⟩ | ⟨g, cap, cur, hv, hg, hh, r⟩
  · rw [h2] at hk; cases hk
  · rw [hv] at hk
    have e : g = k := by simpa [Value.ownBlock] using hk
    subst e
    refine ⟨?_, hg⟩
    rcases Nat.lt_or_ge g W.heap.size with c | c
    · exact c
    · rw [Array.getElem?_eq_none c] at hh; cases hh

/-- the two slices, in blocks that are not the same -/
structure Two (w : World) (base : Nat) (vo vr : Value) (lo lr : List Int) : Prop where
  out : OW w base vo lo
  rest : NW w base vr lr
  apart : ∃ bo br, vo.ownBlock = some bo ∧ vr.ownBlock = some br ∧ bo ≠ br

theorem Two.below {w w' : World} {base : Nat} {vo vr : Value} {lo lr : List Int} (h : Two w base vo vr lo lr) (hb : RowKit.Below w.heap.size w w') : Two w' base vo vr lo lr :=
  ⟨row_abides h.out (fun k _ hk => hb.block k hk), row_abides h.rest (fun k _ hk => hb.block k hk), h.apart⟩
theorem Two.alloc {w : World} {base : Nat} {vo vr : Value} {lo lr : List Int} (h : Two w base vo vr lo lr) (o : Obj) : Two (w.alloc o) base vo vr lo lr := h.below ((RowKit.Below.refl _ _).alloc (Nat.le_refl _) o)
theorem Two.start (w : World) (base : Nat) (hb : base ≤ w.heap.size) : Two ((w.alloc (.cells #[] 2)).alloc (.cells #[] 31)) base (.slice (some ⟨w.heap.size, 0, none⟩) 0 0) (.slice (some ⟨w.heap.size + 1, 0, none⟩) 0 0) [] [] := by
  have h1 : OW (w.alloc (.cells #[] 2)) base (.slice (some ⟨w.heap.size, 0, none⟩) 0 0) [] := OW.lit hb
  have h2 : NW ((w.alloc (.cells #[] 2)).alloc (.cells #[] 31)) base (.slice (some ⟨(w.alloc (.cells #[] 2)).heap.size, 0, none⟩) 0 0) [] :=
    World.ownsRow_lit (w.alloc (.cells #[] 2)) #[] 0 (by simp; omega) (by decide) rfl
  rw [show (w.alloc (.cells #[] 2)).heap.size = w.heap.size + 1 by simp] at h2
  exact ⟨World.ownsRow.alloc h1 _, h2, w.heap.size, w.heap.size + 1, rfl, rfl, by omega⟩

theorem infoNum : ∃ i, Try.prog.info? 31 = some i ∧ i.zero = some (V 0) ∧ i.size = 11 ∧ i.bytes = 88 := by
  have h : (Try.prog.info? 31).map (fun i => (i.zero, i.size, i.bytes)) = some (some (V 0), 11, 88) := by kernel_rfl
  cases hi : Try.prog.info? 31 with
  | none => rw [hi] at h; cases h
  | some i =>
    rw [hi] at h
    simp only [Option.map_some, Option.some.injEq, Prod.mk.injEq] at h
    exact ⟨i, rfl, h.1, h.2.1, h.2.2⟩
theorem numC_one (n : Int) : ∀ u ∈ numC n, u.oneCell' = true := by
  intro u hu
  simp [numC, Value.cells] at hu
  rcases hu with rfl | rfl | rfl | rfl | rfl | rfl | rfl | rfl | rfl | rfl | rfl <;> rfl

/-- append of one more part -/
theorem Two.appO {w : World} (w0 : World) {base : Nat} {vo vr : Value} {lo lr : List Int} (h : Two w base vo vr lo lr) (x : Int) (ad : Addr) (c : Nat) (ty : TypeId) (hr : ∀ i, i < [x].length → w.cell? (ad.add i) = some (.int .i64 ([x].getD i 0)))
    (hlen : lo.length + 1 ≤ 1000000) (hB : RowKit.Below base w0 w) (hb : base ≤ w.heap.size) :
    ∃ v' w', (Builtin.append_ #[40, 40] ty #[vo, .slice (some ad) 1 c]).run Try.prog w = .ok v' w' ∧ Two w' base v' vr (lo ++ [x]) lr ∧ RowKit.Below base w0 w' ∧ base ≤ w'.heap.size := by
  obtain ⟨i, hi, hz, hs1, hs8⟩ := info64
  have hown := h.out
  unfold OW at hown
  obtain ⟨v', w', hrun, h2, h3, _, h5⟩ := run_append_own_at (P := Try.prog) w base 40 ty 2 i (.int .i64 0) 1 8 Try.underlying40 hi hz hs1 hs8 rfl (by omega) vo lo.length (lo.map (Value.int .i64)) hown ad 1 c [.int .i64 x] rfl
    (fun j u hj => by
      cases j with
      | zero => have := hr 0 (by simp); simp at hj this ⊢; rw [this, hj]
      | succ j => simp at hj)
    (fun u hu => by simp at hu; subst hu; rfl) (by unfold maxLen; omega) (by omega) hb
  obtain ⟨bo, br, e1, e2, e3⟩ := h.apart
  have k2 := row_block h.rest br e2
  refine ⟨v', w', hrun, ⟨?_, ?_, ?_⟩, hB.grown h3 hb h.out.own, Nat.le_trans hb h3.size⟩
  · unfold OW
    rw [List.length_append, List.map_append]
    exact h2
  · refine row_abides h.rest (fun k hk hlt => h3.block k hlt ?_)
    rw [e1]
    intro q
    rw [e2] at hk
    simp at q hk
    omega
  · rcases h5 with h5 | h5
    · exact ⟨bo, br, h5.trans e1, e2, e3⟩
    · exact ⟨_, br, h5, e2, by omega⟩
/-- append of one more rest -/
theorem Two.appR {w : World} (w0 : World) {base : Nat} {vo vr : Value} {lo lr : List Int} (h : Two w base vo vr lo lr) (x : Int) (ad : Addr) (c : Nat) (ty : TypeId) (hr : ∀ i, i < 11 → w.cell? (ad.add i) = (numC x)[i]?)
    (hlen : lr.length + 1 ≤ 1000000) (hB : RowKit.Below base w0 w) (hb : base ≤ w.heap.size) :
    ∃ v' w', (Builtin.append_ #[73, 73] ty #[vr, .slice (some ad) 1 c]).run Try.prog w = .ok v' w' ∧ Two w' base vo v' lo (lr ++ [x]) ∧ RowKit.Below base w0 w' ∧ base ≤ w'.heap.size := by
  obtain ⟨i, hi, hz, hs1, hs8⟩ := infoNum
  have hown := h.rest
  unfold NW at hown
  obtain ⟨v', w', hrun, h2, h3, _, h5⟩ := run_append_own_at (P := Try.prog) w base 73 ty 31 i (V 0) 11 88 Try.underlying73 hi hz hs1 hs8 rfl (by omega) vr lr.length (numsC lr) hown ad 1 c (numC x) (by rw [numC_len])
    (fun j u hj => by
      have hj' : j < 11 := by
        rcases Nat.lt_or_ge j 11 with c | c
        · exact c
        · rw [List.getElem?_eq_none (by rw [numC_len]; exact c)] at hj; cases hj
      rw [hr j hj']
      exact hj)
    (numC_one x) (by unfold maxLen; omega) (by omega) hb
  obtain ⟨bo, br, e1, e2, e3⟩ := h.apart
  have k2 := row_block h.out bo e1
  refine ⟨v', w', hrun, ⟨?_, ?_, ?_⟩, hB.grown h3 hb (fun k hk => (row_block h.rest k hk).2), Nat.le_trans hb h3.size⟩
  · refine row_abides h.out (fun k hk hlt => h3.block k hlt ?_)
    rw [e2]
    intro q
    rw [e1] at hk
    simp at q hk
    omega
  · unfold NW
    rw [List.length_append, numsC_app, show numsC [x] = numC x by simp [numsC]]
    exact h2
  · rcases h5 with h5 | h5
    · exact ⟨bo, br, e1, h5.trans e2, e3⟩
    · exact ⟨bo, _, e1, h5, by omega⟩
theorem wpList_appO {ops : Array Oper} {rest : List Oper} {o : Oper} {a : Act} {w : World} {Q : Exit → Act → World → Prop} (hgd : o.guard = none) (s x : Operand)
    (ho : o.op = .call { callee := .builtin .append, args := #[s, x], argTypes := #[40, 40] }) (w0 : World) (base : Nat) (vo vr : Value) (lo lr : List Int) (z : Int) (ad : Addr) (c : Nat) (hs : a.eval s = vo) (hx : a.eval x = .slice (some ad) 1 c)
    (hown : Two w base vo vr lo lr) (hr : ∀ i, i < [z].length → w.cell? (ad.add i) = some (.int .i64 ([z].getD i 0))) (hlen : lo.length + 1 ≤ 1000000) (hB : RowKit.Below base w0 w) (hb : base ≤ w.heap.size)
    (h : ∀ v' w', Two w' base v' vr (lo ++ [z]) lr → RowKit.Below base w0 w' → base ≤ w'.heap.size → wpList Try.prog ops Q rest (a.put o.dst v') w') : wpList Try.prog ops Q (o :: rest) a w :=
  wpList_plain hgd fun K hK => by
    obtain ⟨v', w', hrun, h2, h3, h4⟩ := hown.appO w0 z ad c o.type hr hlen hB hb
    unfold Oper.wp execOp
    simp only [ho, resolve, invoke, builtin, Sem.run_bind, Sem.run_pure, Result.andThen_ok, List.map_toArray, List.map_cons, List.map_nil, hs, hx, hrun]
    exact hK _ _ (h v' w' h2 h3 h4)
theorem wpList_appR {ops : Array Oper} {rest : List Oper} {o : Oper} {a : Act} {w : World} {Q : Exit → Act → World → Prop} (hgd : o.guard = none) (s x : Operand)
    (ho : o.op = .call { callee := .builtin .append, args := #[s, x], argTypes := #[73, 73] }) (w0 : World) (base : Nat) (vo vr : Value) (lo lr : List Int) (z : Int) (ad : Addr) (c : Nat) (hs : a.eval s = vr) (hx : a.eval x = .slice (some ad) 1 c)
    (hown : Two w base vo vr lo lr) (hr : ∀ i, i < 11 → w.cell? (ad.add i) = (numC z)[i]?) (hlen : lr.length + 1 ≤ 1000000) (hB : RowKit.Below base w0 w) (hb : base ≤ w.heap.size)
    (h : ∀ v' w', Two w' base vo v' lo (lr ++ [z]) → RowKit.Below base w0 w' → base ≤ w'.heap.size → wpList Try.prog ops Q rest (a.put o.dst v') w') : wpList Try.prog ops Q (o :: rest) a w :=
  wpList_plain hgd fun K hK => by
    obtain ⟨v', w', hrun, h2, h3, h4⟩ := hown.appR w0 z ad c o.type hr hlen hB hb
    unfold Oper.wp execOp
    simp only [ho, resolve, invoke, builtin, Sem.run_bind, Sem.run_pure, Result.andThen_ok, List.map_toArray, List.map_cons, List.map_nil, hs, hx, hrun]
    exact hK _ _ (h v' w' h2 h3 h4)
theorem bl_over2 {w u v : World} {n : Nat} (h : RowKit.Below n w u) (hn : n ≤ u.heap.size) (k : RowKit.Below u.heap.size u v) : RowKit.Below n w v := h.trans (k.mono hn)
theorem one_cell2 (W : World) (x : Int) (t : TypeId) : ∀ i, i < [x].length → (W.alloc (.cells #[.int .i64 x] t)).cell? ((⟨W.heap.size, 0, none⟩ : Addr).add i) = some (.int .i64 ([x].getD i 0)) := by
  intro i hi
  obtain rfl : i = 0 := by simp at hi; exact hi
  simp [Addr.add]
theorem num_cells (W : World) (n : Int) (b : Bool) (d0 d1 d2 d3 d4 d5 d6 d7 d8 d9 : Int) (t : TypeId) (h : V n = .agg #[.bool b, .int .u64 d0, .int .u64 d1, .int .u64 d2, .int .u64 d3, .int .u64 d4, .int .u64 d5, .int .u64 d6, .int .u64 d7, .int .u64 d8, .int .u64 d9]) :
    ∀ i, i < 11 → (W.alloc (.cells #[.bool b, .int .u64 d0, .int .u64 d1, .int .u64 d2, .int .u64 d3, .int .u64 d4, .int .u64 d5, .int .u64 d6, .int .u64 d7, .int .u64 d8, .int .u64 d9] t)).cell? ((⟨W.heap.size, 0, none⟩ : Addr).add i) = (numC n)[i]? := by
  intro i hi
  unfold numC
  rw [h]
  have hi' : i = 0 ∨ i = 1 ∨ i = 2 ∨ i = 3 ∨ i = 4 ∨ i = 5 ∨ i = 6 ∨ i = 7 ∨ i = 8 ∨ i = 9 ∨ i = 10 := by omega
  rcases hi' with rfl | rfl | rfl | rfl | rfl | rfl | rfl | rfl | rfl | rfl | rfl <;> simp [Addr.add, Value.cells]
end Go.Proofs.Ytaebbfaheaghfaa
