/- Resets of the call's own: append to an empty one, and append where there may be room. -/
import Derived.Test.YtgokihclfdkgeaaRtD
import Derived.Laws.OwnMore
namespace Go.Proofs.Ytgokihclfdkgeaa
open Go.RowKit Go.Sort

theorem OR.lit {w : World} {base : Nat} (hb : base ≤ w.heap.size) : OR (w.alloc (.cells #[] 42)) base (.slice (some ⟨w.heap.size, 0, none⟩) 0 0) [] :=
  World.ownsRow_lit w #[] 0 hb (by decide) rfl
theorem OR.mono {w : World} {base b2 : Nat} {v : Value} {l : List Rs} (h : OR w base v l) (hb : b2 ≤ base) : OR w b2 v l := by
  unfold OR at *
  rcases h.2 with h0 | ⟨g, cap, cur, hv, hg, r⟩
  · exact ⟨h.1, .inl h0⟩
  · exact ⟨h.1, .inr ⟨g, cap, cur, hv, Nat.le_trans hb hg, r⟩⟩
theorem OR.gr {w w' : World} {base : Nat} {v : Value} {l : List Rs} (h : OR w base v l) (hg : Gr w w') : OR w' base v l := by
  unfold OR at *
  rcases h.2 with h0 | ⟨g, cap, cur, hv, hb, hh, r⟩
  · exact ⟨h.1, .inl h0⟩
  · have hlt : g < w.heap.size := by
      rcases Nat.lt_or_ge g w.heap.size with hlt | hge
      · exact hlt
      · rw [Array.getElem?_eq_none hge] at hh; cases hh
    exact ⟨h.1, .inr ⟨g, cap, cur, hv, hb, (hg.below.block g hlt).trans hh, r⟩⟩

/-- append to an empty literal: nothing is written -/
theorem app_lit {w : World} (base : Nat) (g : Nat) (k : List Rs) (ad : Option Addr) (c : Nat) (ty : TypeId) (hown : OR w base (.slice (some ⟨g, 0, none⟩) 0 0) []) (hb : base ≤ w.heap.size) (hc : ad = none → c = 0)
    (hr : RsAt w ad k) (hk : ad = none → k = []) (hlen : k.length ≤ 1000000) :
    ∃ v' w', (Builtin.append_ #[40, 40] ty #[.slice (some ⟨g, 0, none⟩) 0 0, .slice ad k.length c]).run Try.prog w = .ok v' w' ∧ OR w' base v' k ∧ Gr w w' := by
  obtain ⟨i, hi, hz, hs1, hs8⟩ := infoR
  cases ad with
  | none =>
    rw [hc rfl, hk rfl]
    have hown' := hown
    unfold OR at hown'
    have hrun := run_append_owned_none (P := Try.prog) w base 40 ty 42 i 2 Try.underlying40 hi (.slice (some ⟨g, 0, none⟩) 0 0) 0 (cellsR []) hown'
    exact ⟨_, w, hrun, hown, Gr.refl _⟩
  | some p =>
    cases k with
    | nil =>
      refine ⟨.slice (some ⟨g, 0, none⟩) 0 0, w, ?_, hown, Gr.refl _⟩
      simp [Builtin.append_, run_underlying Try.underlying40, sizeOf, typeInfo, hi, Builtin.lenOf, Builtin.firstCells, storeCells, loadCells, loadCellsFrom]
    | cons r k =>
      obtain ⟨v', w', h1, h2, h3, _⟩ := app_full w (some ⟨g, 0, none⟩) [] (r :: k) p 0 c ty (Or.inl rfl) (fun _ => rfl) hr (by simpa using hlen) (by simp)
      exact ⟨v', w', h1, h2.mono hb, h3⟩

/-- append to a slice of the call's own -/
theorem app_own {w : World} (w0 : World) (base : Nat) (v : Value) (l news : List Rs) (ad : Addr) (c : Nat) (ty : TypeId) (hown : OR w base v l) (hr : RsAt w (some ad) news) (hlen : l.length + news.length ≤ 1000000) (hB : RowKit.Below base w0 w) (hb : base ≤ w.heap.size) :
    ∃ v' w', (Builtin.append_ #[40, 40] ty #[v, .slice (some ad) news.length c]).run Try.prog w = .ok v' w' ∧ OR w' base v' (l ++ news) ∧ RowKit.Below base w0 w' ∧ base ≤ w'.heap.size := by
  obtain ⟨i, hi, hz, hs1, hs8⟩ := infoR
  have hown' := hown
  unfold OR at hown'
  obtain ⟨v', w', hrun, h2, h3, _, h5⟩ := run_append_own_at (P := Try.prog) w base 40 ty 42 i _ 2 16 Try.underlying40 hi hz hs1 hs8 rfl (by omega) v l.length (cellsR l) hown' ad news.length c (cellsR news) (cellsR_len _)
    hr.cells cellsR_one (by unfold maxLen; omega) (by omega) hb
  refine ⟨v', w', hrun, ?_, hB.grown h3 hb hown.own, Nat.le_trans hb h3.size⟩
  unfold OR
  rw [List.length_append, cellsR_app]
  exact h2

theorem wpList_lit {ops : Array Oper} {rest : List Oper} {o : Oper} {a : Act} {w : World} {Q : Exit → Act → World → Prop} (hgd : o.guard = none) (s x : Operand)
    (ho : o.op = .call { callee := .builtin .append, args := #[s, x], argTypes := #[40, 40] }) (base g : Nat) (k : List Rs) (ad : Option Addr) (c n : Nat) (hs : a.eval s = .slice (some ⟨g, 0, none⟩) 0 0) (hx : a.eval x = .slice ad n c) (hn : k.length = n)
    (hown : OR w base (.slice (some ⟨g, 0, none⟩) 0 0) []) (hb : base ≤ w.heap.size) (hc : ad = none → c = 0) (hr : RsAt w ad k) (hk : ad = none → k = []) (hlen : k.length ≤ 1000000)
    (h : ∀ v' w', OR w' base v' k → Gr w w' → wpList Try.prog ops Q rest (a.put o.dst v') w') : wpList Try.prog ops Q (o :: rest) a w :=
  wpList_plain hgd fun K hK => by
    subst hn
    obtain ⟨v', w', hrun, h2, h3⟩ := app_lit base g k ad c o.type hown hb hc hr hk hlen
    unfold Oper.wp execOp
    simp only [ho, resolve, invoke, builtin, Sem.run_bind, Sem.run_pure, Result.andThen_ok, List.map_toArray, List.map_cons, List.map_nil, hs, hx, hrun]
    exact hK _ _ (h v' w' h2 h3)
theorem step_lit {ops : Array Oper} {o : Oper} {a : Act} {w : World} {K : Act → World → Prop} {Q : Exit → Act → World → Prop} {E : Prop} (hgd : o.guard = none) (s x : Operand)
    (ho : o.op = .call { callee := .builtin .append, args := #[s, x], argTypes := #[40, 40] }) (base g : Nat) (k : List Rs) (ad : Option Addr) (c n : Nat) (hs : a.eval s = .slice (some ⟨g, 0, none⟩) 0 0) (hx : a.eval x = .slice ad n c) (hn : k.length = n)
    (hown : OR w base (.slice (some ⟨g, 0, none⟩) 0 0) []) (hb : base ≤ w.heap.size) (hc : ad = none → c = 0) (hr : RsAt w ad k) (hk : ad = none → k = []) (hlen : k.length ≤ 1000000)
    (h : ∀ v' w', OR w' base v' k → Gr w w' → K (a.put o.dst v') w') : if Region.wanted o (yielded ops a.tmps) = true then Oper.wp Try.prog o a w K Q else E := by
  have hw : Region.wanted o (yielded ops a.tmps) = true := by simp [Region.wanted, hgd]
  rw [if_pos hw]
  subst hn
  obtain ⟨v', w', hrun, h2, h3⟩ := app_lit base g k ad c o.type hown hb hc hr hk hlen
  unfold Oper.wp execOp
  simp only [ho, resolve, invoke, builtin, Sem.run_bind, Sem.run_pure, Result.andThen_ok, List.map_toArray, List.map_cons, List.map_nil, hs, hx, hrun]
  exact h v' w' h2 h3
theorem step_own {ops : Array Oper} {o : Oper} {a : Act} {w : World} {K : Act → World → Prop} {Q : Exit → Act → World → Prop} {E : Prop} (hgd : o.guard = none) (s x : Operand)
    (ho : o.op = .call { callee := .builtin .append, args := #[s, x], argTypes := #[40, 40] }) (w0 : World) (base : Nat) (v : Value) (l news : List Rs) (ad : Addr) (c n : Nat) (hs : a.eval s = v) (hx : a.eval x = .slice (some ad) n c) (hn : news.length = n)
    (hown : OR w base v l) (hr : RsAt w (some ad) news) (hlen : l.length + news.length ≤ 1000000) (hB : RowKit.Below base w0 w) (hb : base ≤ w.heap.size)
    (h : ∀ v' w', OR w' base v' (l ++ news) → RowKit.Below base w0 w' → base ≤ w'.heap.size → K (a.put o.dst v') w') : if Region.wanted o (yielded ops a.tmps) = true then Oper.wp Try.prog o a w K Q else E := by
  have hw : Region.wanted o (yielded ops a.tmps) = true := by simp [Region.wanted, hgd]
  rw [if_pos hw]
  subst hn
  obtain ⟨v', w', hrun, h2, h3, h4⟩ := app_own w0 base v l news ad c o.type hown hr hlen hB hb
  unfold Oper.wp execOp
  simp only [ho, resolve, invoke, builtin, Sem.run_bind, Sem.run_pure, Result.andThen_ok, List.map_toArray, List.map_cons, List.map_nil, hs, hx, hrun]
  exact h v' w' h2 h3 h4
end Go.Proofs.Ytgokihclfdkgeaa
