/- Several slices of the call's own. -/
import Derived.Test.YtcahmijcfmakjaaPkH
namespace Go.Proofs.Ytcahmijcfmakjaa
open Go.RowKit Go.Lib

theorem own_kept {w w' : World} {base : Nat} {e : TypeId} {v : Value} {n : Nat} {xs : List Value} {row : Option Nat} (h : w.ownsRow base e 1 v n xs) (hg : w.grownBy w' row) (hne : ∀ k, row = some k → v.ownBlock ≠ some k) : w'.ownsRow base e 1 v n xs := by
  rcases h.2 with h0 | ⟨g, cap, cur, hv, hb, hh, r⟩
  · exact ⟨h.1, .inl h0⟩
  · have hlt : g < w.heap.size := by
      rcases Nat.lt_or_ge g w.heap.size with hlt | hge
      · exact hlt
      · rw [Array.getElem?_eq_none hge] at hh; cases hh
    exact ⟨h.1, .inr ⟨g, cap, cur, hv, hb, (hg.block g hlt (fun e => hne g e.symm (by rw [hv]; rfl))).trans hh, r⟩⟩
theorem own_lt {w : World} {base : Nat} {e : TypeId} {v : Value} {n : Nat} {xs : List Value} (h : w.ownsRow base e 1 v n xs) : ∀ k, v.ownBlock = some k → base ≤ k ∧ k < w.heap.size := by
  rcases h.2 with ⟨hv, hn⟩ | ⟨g, cap, cur, hv, hb, hg, hr⟩
  · intro k hk; rw [hv] at hk; cases hk
  · intro k hk
    rw [hv] at hk
    have : g = k := by simpa [Value.ownBlock] using hk
    subst this
    refine ⟨hb, ?_⟩
    rcases Nat.lt_or_ge g w.heap.size with hlt | hge
    · exact hlt
    · rw [Array.getElem?_eq_none hge] at hg; cases hg
/-- rows of the call's own, no two of them in one block -/
structure Rws (w : World) (base : Nat) (vs : List Value) (es : List TypeId) (xs : List (List Value)) : Prop where
  own : ∀ (i : Nat) v e x, vs[i]? = some v → es[i]? = some e → xs[i]? = some x → w.ownsRow base e 1 v x.length x
  blk : ∀ (i : Nat) v, vs[i]? = some v → ∃ k, v.ownBlock = some k ∧ base ≤ k ∧ k < w.heap.size
  ne : ∀ (i j : Nat) u v, i ≠ j → vs[i]? = some u → vs[j]? = some v → u.ownBlock ≠ v.ownBlock
theorem Rws.nil (w : World) (base : Nat) : Rws w base [] [] [] := ⟨by simp, by simp, by simp⟩
theorem Rws.below {w w' : World} {base : Nat} {vs : List Value} {es : List TypeId} {xs : List (List Value)} (h : Rws w base vs es xs) (hb : RowKit.Below w.heap.size w w') : Rws w' base vs es xs :=
  ⟨fun i v e x a b c => own_kept (h.own i v e x a b c) (row := none) (grown_of_below hb none) (fun _ e => by cases e), fun i v a => by obtain ⟨k, h1, h2, h3⟩ := h.blk i v a; exact ⟨k, h1, h2, Nat.lt_of_lt_of_le h3 hb.size⟩, h.ne⟩
theorem Rws.upd {w w' : World} {base : Nat} {vs : List Value} {es : List TypeId} {xs : List (List Value)} (h : Rws w base vs es xs) (i : Nat) {v v' : Value} {e : TypeId} {x' : List Value} (hv : vs[i]? = some v) (he : es[i]? = some e)
    (ho : w'.ownsRow base e 1 v' x'.length x') (hU : Upd w w' v v') : Rws w' base (vs.set i v') es (xs.set i x') := by
  have hi : i < vs.length := (List.getElem?_eq_some_iff.1 hv).1
  obtain ⟨k, hk1, hk2, hk3⟩ := h.blk i v hv
  have hb' : ∃ k', v'.ownBlock = some k' ∧ (k' = k ∨ w.heap.size ≤ k') := by
    rcases hU.b with e | ⟨j, e, hj⟩
    · exact ⟨k, e.trans hk1, Or.inl rfl⟩
    · exact ⟨j, e, Or.inr hj⟩
  obtain ⟨k', hk', hor⟩ := hb'
  have other : ∀ (j : Nat) u, j ≠ i → (vs.set i v')[j]? = some u → vs[j]? = some u := fun j u hj hu => by rwa [List.getElem?_set_ne (fun e => hj e.symm)] at hu
  have far : ∀ (j : Nat) u, j ≠ i → vs[j]? = some u → u.ownBlock ≠ v'.ownBlock := fun j u hj hu => by
    obtain ⟨m, hm1, _, hm3⟩ := h.blk j u hu
    rcases hor with e | e
    · rw [hk', e, ← hk1]; exact h.ne j i u v hj hu hv
    · rw [hk', hm1]; intro e2; injection e2 with e2; omega
  refine ⟨fun j u e2 x hu he2 hx => ?_, fun j u hu => ?_, fun j m u z hjm hu hz => ?_⟩
  · by_cases hj : j = i
    · subst hj
      rw [List.getElem?_set_self hi] at hu
      injection hu with hu
      rw [he] at he2
      injection he2 with he2
      have hx' : x = x' := by
        rcases Nat.lt_or_ge j xs.length with hl | hl
        · rw [List.getElem?_set_self hl] at hx; injection hx with hx; exact hx.symm
        · rw [List.getElem?_eq_none (by rw [List.length_set]; exact hl)] at hx; cases hx
      subst hu he2 hx'
      exact ho
    · rw [List.getElem?_set_ne (fun e => hj e.symm)] at hx
      have hu' := other j u hj hu
      refine own_kept (h.own j u e2 x hu' he2 hx) hU.g (fun m hm => ?_)
      rw [← hm]
      exact h.ne j i u v hj hu' hv
  · by_cases hj : j = i
    · subst hj
      rw [List.getElem?_set_self hi] at hu
      injection hu with hu
      subst hu
      have := own_lt ho k' hk'
      exact ⟨k', hk', this⟩
    · obtain ⟨m, h1, h2, h3⟩ := h.blk j u (other j u hj hu)
      exact ⟨m, h1, h2, Nat.lt_of_lt_of_le h3 hU.g.size⟩
  · by_cases hj : j = i
    · subst hj
      rw [List.getElem?_set_self hi] at hu
      injection hu with hu
      subst hu
      exact (far m z (fun e => hjm e.symm) (other m z (fun e => hjm e.symm) hz)).symm
    · by_cases hm : m = i
      · subst hm
        rw [List.getElem?_set_self hi] at hz
        injection hz with hz
        subst hz
        exact far j u hj (other j u hj hu)
      · exact h.ne j m u z hjm (other j u hj hu) (other m z hm hz)
/-- one row more, in a new block -/
theorem Rws.push {w w' : World} {base : Nat} {vs : List Value} {es : List TypeId} {xs : List (List Value)} (h : Rws w base vs es xs) (h1 : vs.length = es.length) (h2 : vs.length = xs.length) {v : Value} {e : TypeId} {x : List Value} {b2 : Nat}
    (ho : w'.ownsRow b2 e 1 v x.length x) (hb2 : base ≤ b2) (hb : RowKit.Below w.heap.size w w') (hk : ∃ k, v.ownBlock = some k ∧ w.heap.size ≤ k) : Rws w' base (vs ++ [v]) (es ++ [e]) (xs ++ [x]) := by
  obtain ⟨k, hk1, hk2⟩ := hk
  have hk3 := (own_lt ho k hk1).2
  have h' := h.below hb
  have ho' : w'.ownsRow base e 1 v x.length x := by
    rcases ho.2 with h0 | ⟨g, cap, cur, hv, hg, r⟩
    · exact ⟨ho.1, .inl h0⟩
    · exact ⟨ho.1, .inr ⟨g, cap, cur, hv, Nat.le_trans hb2 hg, r⟩⟩
  have lst : ∀ {α : Type} {l : List α} {y z : α} {j : Nat}, (l ++ [y])[j]? = some z → (j < l.length ∧ l[j]? = some z) ∨ (j = l.length ∧ z = y) := by
    intro α l y z j hz
    rcases Nat.lt_trichotomy j l.length with hlt | heq | hgt
    · rw [List.getElem?_append_left hlt] at hz; exact Or.inl ⟨hlt, hz⟩
    · subst heq; rw [List.getElem?_append_right (Nat.le_refl _)] at hz; simp at hz; exact Or.inr ⟨rfl, hz.symm⟩
    · rw [List.getElem?_eq_none (by rw [List.length_append]; simp; omega)] at hz; cases hz
  refine ⟨fun i u e2 y hu he2 hy => ?_, fun i u hu => ?_, fun i j u z hij hu hz => ?_⟩
  · rcases lst hu with ⟨hi, hu'⟩ | ⟨rfl, rfl⟩
    · rcases lst he2 with ⟨_, he'⟩ | ⟨e0, _⟩
      · rcases lst hy with ⟨_, hy'⟩ | ⟨e0, _⟩
        · exact h'.own i u e2 y hu' he' hy'
        · omega
      · omega
    · rcases lst he2 with ⟨e0, _⟩ | ⟨_, rfl⟩
      · omega
      · rcases lst hy with ⟨e0, _⟩ | ⟨_, rfl⟩
        · omega
        · exact ho'
  · rcases lst hu with ⟨_, hu'⟩ | ⟨rfl, rfl⟩
    · exact h'.blk i u hu'
    · exact ⟨k, hk1, by have := (own_lt ho k hk1).1; omega, hk3⟩
  · rcases lst hu with ⟨hi, hu'⟩ | ⟨rfl, rfl⟩
    · rcases lst hz with ⟨hj, hz'⟩ | ⟨rfl, rfl⟩
      · exact h.ne i j u z hij hu' hz'
      · obtain ⟨m, hm1, _, hm3⟩ := h.blk i u hu'
        rw [hm1, hk1]; intro e; injection e with e; omega
    · rcases lst hz with ⟨hj, hz'⟩ | ⟨rfl, _⟩
      · obtain ⟨m, hm1, _, hm3⟩ := h.blk j z hz'
        rw [hm1, hk1]; intro e; injection e with e; omega
      · exact absurd rfl hij
theorem Rws.size {w : World} {base : Nat} {v : Value} {vs : List Value} {es : List TypeId} {xs : List (List Value)} (h : Rws w base (v :: vs) es xs) : base ≤ w.heap.size := by
  obtain ⟨k, _, h2, h3⟩ := h.blk 0 v rfl
  omega
theorem ob_of {w : World} {base : Nat} {v : Value} {l : List UInt8} (h : w.ownsRow base 5 1 v (bcells l).length (bcells l)) : OB w base v l := by unfold OB; rw [bcells_len] at h; exact h
theorem of_ob {w : World} {base : Nat} {v : Value} {l : List UInt8} (h : OB w base v l) : w.ownsRow base 5 1 v (bcells l).length (bcells l) := by rw [bcells_len]; exact h
theorem own_rat {α : Type} {f : α → Value} {w : World} {base : Nat} {e : TypeId} {v : Value} {l : List α} (h : w.ownsRow base e 1 v (l.map f).length (l.map f)) : ∃ a cap, v = .slice a l.length cap ∧ RAt f w a l := by
  rw [List.length_map] at h
  have h' := h
  rcases h.2 with ⟨hv, hn⟩ | ⟨g, cap, cur, hv, hb, hg, hr⟩
  · exact ⟨none, 0, by rw [hv, hn], Or.inl (List.length_eq_zero_iff.mp hn)⟩
  · refine ⟨_, _, hv, Or.inr ⟨g, 0, rfl, ?_, fun i x hi => ?_⟩⟩
    · rcases Nat.lt_or_ge g w.heap.size with hlt | hge
      · exact hlt
      · rw [Array.getElem?_eq_none hge] at hg; cases hg
    · have hl : i < l.length := (List.getElem?_eq_some_iff.1 hi).1
      rw [Nat.zero_add]
      rw [hv] at h'
      rw [World.ownsRow.cellAt h' i (by omega)]
      simp [hi]
/-- a new slice of the call's own -/
def Fresh (W w' : World) (v : Value) (l : List UInt8) : Prop := OB w' W.heap.size v l ∧ RowKit.Below W.heap.size W w' ∧ ∃ k, v.ownBlock = some k ∧ W.heap.size ≤ k
theorem OB.some_ {w : World} {base : Nat} {v : Value} {l : List UInt8} (h : OB w base v l) (hv : v ≠ .slice none 0 0) : ∃ k, v.ownBlock = some k ∧ base ≤ k := by
  have h' := h
  unfold OB at h'
  rcases h'.2 with ⟨e, _⟩ | ⟨g, cap, cur, e, hb, _⟩
  · exact absurd e hv
  · exact ⟨g, by rw [e]; rfl, hb⟩
theorem wpList_fresh {ops : Array Oper} {rest : List Oper} {o : Oper} {a : Act} {W : World} {Q : Exit → Act → World → Prop} (hgd : o.guard = none) (s x : Operand)
    (ho : o.op = .call { callee := .builtin .append, args := #[s, x], argTypes := #[22, 22] }) (l : List UInt8) (ad : Option Addr) (c n : Nat) (hs : a.eval s = .slice (some ⟨W.heap.size, 0, none⟩) 0 0) (hx : a.eval x = .slice ad n c) (hn : l.length = n)
    (hr : BAt W ad l) (hnil : ad = none → l = []) (hlen : l.length ≤ 1000000)
    (h : ∀ v' w', Fresh W w' v' l → wpList Try.prog ops Q rest (a.put o.dst v') w') : wpList Try.prog ops Q (o :: rest) a (W.alloc (.cells #[] 5)) :=
  wpList_appB hgd s x ho W.heap.size _ [] l ad c n hs hx hn (OB.lit (Nat.le_refl _)) (hr.below ((RowKit.Below.refl _ _).alloc (Nat.le_refl _) _)) hnil (by simp; omega) (by simp)
    (fun v' w' h3 => h v' w' ⟨h3.1, h3.2.1.below (OB.lit (Nat.le_refl _)) (by simp) ((RowKit.Below.refl _ _).alloc (Nat.le_refl _) _), h3.1.some_ (fun e => by cases (h3.2.2.2 e).2)⟩)
/-- append of one thing to a slice of the call's own -/
theorem wpList_one {ops : Array Oper} {rest : List Oper} {o : Oper} {a : Act} {W : World} {Q : Exit → Act → World → Prop} (hgd : o.guard = none) (s x : Operand) (t e : TypeId) (i : TypeInfo) (z : Value)
    (ho : o.op = .call { callee := .builtin .append, args := #[s, x], argTypes := #[t, t] }) (ht : Try.prog.underlying t = some (.slice e)) (hi : Try.prog.info? e = some i) (hz : i.zero = some z) (h1 : i.size = 1) (h8 : i.bytes = 8) (hzs : z.cells.size = 1)
    (base : Nat) (v u : Value) (xs : List Value) (hs : a.eval s = v) (hx : a.eval x = .slice (some ⟨W.heap.size, 0, none⟩) 1 1) (hu : u.oneCell' = true)
    (hown : W.ownsRow base e 1 v xs.length xs) (hlen : xs.length ≤ 1000000) (hb : base ≤ W.heap.size)
    (h : ∀ v' w', w'.ownsRow base e 1 v' (xs ++ [u]).length (xs ++ [u]) → Upd W w' v v' → wpList Try.prog ops Q rest (a.put o.dst v') w') : wpList Try.prog ops Q (o :: rest) a (W.alloc (.cells #[u] e)) :=
  wpList_plain hgd fun K hK => by
    obtain ⟨v', w', hrun, h2, h3, h4, h5⟩ := run_append_own_at (P := Try.prog) (W.alloc (.cells #[u] e)) base t o.type e i z 1 8 ht hi hz h1 h8 hzs (by omega) v xs.length xs (own_kept hown (row := none) (World.grownBy_alloc W _ none) (fun _ e => by cases e)) ⟨W.heap.size, 0, none⟩ 1 1 [u] rfl
      (fun j y hj => by cases j with
        | zero => simp at hj; subst hj; simp [Addr.add]
        | succ j => simp at hj)
      (fun y hy => by rw [List.mem_singleton.1 hy]; exact hu) (by unfold maxLen; omega) (by omega) (by simp; omega)
    unfold Oper.wp execOp
    simp only [ho, resolve, invoke, builtin, Sem.run_bind, Sem.run_pure, Result.andThen_ok, List.map_toArray, List.map_cons, List.map_nil, hs, hx, hrun]
    refine hK _ _ (h v' w' (by rw [List.length_append]; exact h2) (Upd.pre ((RowKit.Below.refl _ _).alloc (Nat.le_refl _) _) ⟨h3, h5.imp id fun e => ⟨_, e, by simp⟩⟩))
theorem infoU : ∃ i, Try.prog.info? 28 = some i ∧ i.zero = some (.int .u64 0) ∧ i.size = 1 ∧ i.bytes = 8 := by
  have h : (Try.prog.info? 28).map (fun i => (i.zero, i.size, i.bytes)) = some (some (.int .u64 0), 1, 8) := by kernel_rfl
  cases hi : Try.prog.info? 28 with
  | none => rw [hi] at h; cases h
  | some i =>
    rw [hi] at h
    simp only [Option.map_some, Option.some.injEq, Prod.mk.injEq] at h
    exact ⟨i, rfl, h.1, h.2.1, h.2.2⟩
theorem infoF : ∃ i, Try.prog.info? 35 = some i ∧ i.zero = some (.float .f64 0) ∧ i.size = 1 ∧ i.bytes = 8 := by
  have h : (Try.prog.info? 35).map (fun i => (i.zero, i.size, i.bytes)) = some (some (.float .f64 0), 1, 8) := by kernel_rfl
  cases hi : Try.prog.info? 35 with
  | none => rw [hi] at h; cases h
  | some i =>
    rw [hi] at h
    simp only [Option.map_some, Option.some.injEq, Prod.mk.injEq] at h
    exact ⟨i, rfl, h.1, h.2.1, h.2.2⟩
end Go.Proofs.Ytcahmijcfmakjaa
