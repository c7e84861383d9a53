
/- falseworklaw12.JournalKeeps: an Append, a Compact, whatever the journal is. -/
import Derived.Test.YtdfbpaajkpnaeaaJnR
namespace Go.Proofs.Ytdfbpaajkpnaeaa
set_option maxRecDepth 100000
open Go.RowKit Go.Lib

/-- what is there behind the switch: next lies in bx; what the answer E makes of it -/
structure After (wb W3 : World) (g bn bm N k b bx : Nat) (E : Int) (st' : List UInt8) (v' : Value) : Prop where
  form : ∃ a n c, v' = .slice a n c
  px : PR W3 bx st' v'
  pn : ∃ u v, PR W3 bn u v
  pm : ∃ u v, PR W3 bm u v
  nx : bx ≠ bn
  nm : bm ≠ bn
  ks : (E ≠ 0 ∧ E ≠ 82 ∧ KS wb W3 g bn bm N k b) ∨ (E = 0 ∧ KS wb ((W3.setRow bn (psc st' v').toArray).setRow bm (psc st' v').toArray) g bn bm N k b) ∨ (E = 82 ∧ KS wb (W3.setRow bm (psc st' v').toArray) g bn bm N k b)
/-- what next is made of, behind a call -/
structure Six (wb w6 : World) (bn ax bx : Nat) (x : Aj) (st : List UInt8) (an : Option Addr) (rn cn : Nat) (recs : List (List UInt8)) : Prop where
  px : PR w6 bx st (.slice an rn cn)
  pn : PR w6 bn st (.slice an rn cn)
  ac : AjAt w6 ax x
  by_ : BAt w6 x.ba x.bs
  li : Lie w6 an (recs.map sv)
  nil : an = none → rn = 0
  rnb : rn = recs.length
  bl : RowKit.Below wb.heap.size wb w6
  lt : bx < w6.heap.size
structure PreJ (wb wr w5 : World) (bn bm ax bx : Nat) (x : Aj) (X : Nat → Prop) (st st2 : List UInt8) (recs recs2 : List (List UInt8)) (an : Option Addr) (rn cn : Nat) : Prop where
  mm : MM wb wr X bn bm st st2 recs recs2
  xl : ∀ i, X i → i < wr.heap.size ∧ wb.heap.size ≤ i
  bl : RowKit.Below wb.heap.size wb wr
  pn : PR wr bn st (.slice an rn cn)
  tx : Tx wr (fun i => X i ∨ i = bn ∨ i = bm) (.slice an rn cn) recs
  rnb : rn = recs.length
  b5 : RowKit.Below wr.heap.size wr w5
  axb : wr.heap.size ≤ ax ∧ ax < w5.heap.size
  bxb : wr.heap.size ≤ bx ∧ bx < w5.heap.size
  ac : AjAt w5 ax x
  px : PR w5 bx st (.slice an rn cn)
  gd : x.Good wb
theorem PreJ.six {wb wr w5 w6 : World} {bn bm ax bx : Nat} {x : Aj} {X : Nat → Prop} {st st2 : List UInt8} {recs recs2 : List (List UInt8)} {an : Option Addr} {rn cn : Nat} (h : PreJ wb wr w5 bn bm ax bx x X st st2 recs recs2 an rn cn) (ho : Only X w5 w6) (hb : RowKit.Below wb.heap.size wb w6) : Six wb w6 bn ax bx x st an rn cn recs := by
  have hs5 := h.b5.size
  have hx : ∀ i, wr.heap.size ≤ i → i < w5.heap.size → w6.heap[i]? = w5.heap[i]? := fun i h1 h2 => ho.block i h2 fun e => by have := (h.xl i e).1; omega
  have htx : Tx w6 (fun _ => False) (.slice an rn cn) recs := (h.tx.keep hs5 (fun i hi _ => h.b5.block i hi) fun i e => Or.inl e).keep ho.size (fun i hi hn => ho.block i hi fun e => hn (Or.inl e)) fun i e => e.elim
  obtain ⟨a', c', hv', _, hli6, hnil⟩ := htx.lie
  cases hv'
  exact ⟨PR.same h.px (hx _ h.bxb.1 h.bxb.2), PR.same (PR.same h.pn (h.b5.block _ (PR.lt h.pn))) (ho.block _ (Nat.lt_of_lt_of_le (PR.lt h.pn) hs5) h.mm.xn), h.ac.same (hx _ h.axb.1 h.axb.2) ho.size, h.gd.bp.row.below hb, hli6, hnil, rfl, hb, Nat.lt_of_lt_of_le h.bxb.2 ho.size⟩
/-- what is beside the journal, behind all that -/
theorem PreJ.side {wb wr w5 w6 W3 : World} {bn bm ax bx : Nat} {x : Aj} {X X6 : Nat → Prop} {st st2 : List UInt8} {recs recs2 : List (List UInt8)} {an : Option Addr} {rn cn : Nat} (h : PreJ wb wr w5 bn bm ax bx x X st st2 recs recs2 an rn cn) (ho : Only X w5 w6) (h3 : Only (fun i => i = bx) w6 W3) (hX6 : ∀ i, X6 i → X i ∨ wr.heap.size ≤ i) :
    MM wb W3 X6 bn bm st st2 recs recs2 ∧ (∃ u v, PR W3 bn u v) ∧ (∃ u v, PR W3 bm u v) ∧ bx ≠ bn ∧ bm ≠ bn ∧ wb.heap.size ≤ bx := by
  have hm : MM wb W3 X6 bn bm st st2 recs recs2 := h.mm.next' (Y := fun i => X i ∨ wr.heap.size ≤ i) (((Only.of_below h.b5 : Only (fun i => X i ∨ wr.heap.size ≤ i) wr w5).trans ho fun i e => Or.inl (Or.inl e)).trans h3 fun i e => Or.inl (Or.inr (by rw [e]; exact h.bxb.1))) (fun i e => e) hX6
  obtain ⟨v, p1, _⟩ := hm.nw
  obtain ⟨u, p2, _⟩ := hm.my
  have := PR.lt h.pn
  exact ⟨hm, ⟨_, _, p1⟩, ⟨_, _, p2⟩, by have := h.bxb.1; omega, hm.ne.symm, Nat.le_trans h.bl.size h.bxb.1⟩
/-- the journal's own blocks behind a call -/
theorem foot_next {w0 w5 w6 : World} {wr : World} {X : Nat → Prop} {F F6 : Nat → Prop} {b lb lb6 bx : Nat} (hX : X = fun i => F i ∨ i = b ∨ i = lb) (xl : ∀ i, X i → i < wr.heap.size ∧ w0.heap.size ≤ i) (hb : RowKit.Below wr.heap.size wr w5) (hbx : wr.heap.size ≤ bx ∧ bx < w5.heap.size) (hf : JFr F b lb w5 w6 F6 lb6) :
    (∀ i, (F6 i ∨ i = b ∨ i = lb6) → X i ∨ wr.heap.size ≤ i) ∧ ¬ (F6 bx ∨ bx = b ∨ bx = lb6) := by
  subst hX
  have hs := hb.size
  refine ⟨fun i e => ?_, fun e => ?_⟩
  · rcases e with e | e | e
    · exact (hf.fr i e).elim (fun e => Or.inl (Or.inl e)) fun e => Or.inr (Nat.le_trans hs e)
    · exact Or.inl (Or.inr (Or.inl e))
    · exact hf.lr.elim (fun e2 => Or.inl (Or.inr (Or.inr (e.trans e2)))) fun e2 => Or.inr (by rw [e]; exact Nat.le_trans hs e2)
  · rcases e with e | e | e
    · exact (hf.fr _ e).elim (fun e => by have := (xl _ (Or.inl e)).1; omega) fun e => by omega
    · have := (xl _ (Or.inr (Or.inl e))).1; omega
    · exact hf.lr.elim (fun e2 => by have := (xl _ (Or.inr (Or.inr (e.trans e2)))).1; omega) fun e2 => by omega
/-- an Append -/
theorem ks_append {wb wr w5 : World} {g bn bm N k b ax bx : Nat} {x : Aj} {X : Nat → Prop} {st st2 : List UInt8} {recs recs2 : List (List UInt8)} {an : Option Addr} {rn cn : Nat} (hk : k ≤ 40) (h : PreJ wb wr w5 bn bm ax bx x X st st2 recs recs2 an rn cn) (hab : (st2 = st ∧ recs2 = recs ∧ PA wb wr g N k b X st recs) ∨ PB wb wr g N k b X st st2 recs recs2) :
    Calls Try.prog 11 #[.pointer (some ⟨b, 0, none⟩), .slice x.ba x.bn x.bc] w5 (fun e w6 => ∃ E, e = .returned (.int .i64 E) ∧ Six wb w6 bn ax bx x st an rn cn recs ∧ rn ≤ 40 ∧ ∀ W3 v2, Nxt w6 W3 bx st v2 (recs ++ [x.bs]) → After wb W3 g bn bm N (k + 1) b bx E st v2) := by
  rcases hab with ⟨hst, hrc, F, lb, d, y, m, f, hj, lv, hN, hk5, hk6, hk7, hX⟩ | hpb
  · subst st2 recs2
    have hj5 := hj.below h.b5
    refine (jl_append (cap := x.bc) hj5 lv (by omega) (h.gd.bp.row.below hj5.bl) h.gd.bp.ln h.gd.bp.none).mono ?_
    rintro e w6 ⟨E, F6, lb6, d6, rfl, hfr, hcase⟩
    have hon : Only X w5 w6 := by rw [hX]; exact hfr.on
    have hoff := (hj5.off hfr).1
    have hsix := h.six hon hoff
    obtain ⟨hX6, hQ⟩ := foot_next hX h.xl h.b5 h.bxb hfr
    refine ⟨E, rfl, hsix, by rw [h.rnb]; omega, fun W3 v2 hn => ?_⟩
    obtain ⟨hm3, p1, p2, e1, e2, hwb⟩ := h.side hon hn.on hX6
    have hform : ∃ a n c, v2 = .slice a n c := by
      obtain ⟨a, c, e, _⟩ := own_rat hn.ow
      exact ⟨a, _, c, e⟩
    have htv : ∀ {n rd y}, JL wb w6 F6 g b lb6 d6 4 y n rd → Tx W3 (fun i => (F6 i ∨ i = b ∨ i = lb6) ∨ i = bn ∨ i = bm) v2 (recs ++ [x.bs]) := fun hj6 => own_tx hn.ow fun i hi e => by
      have h1 := hn.up i hi
      have l1 := PR.lt hsix.pn
      have l2 : bm < w6.heap.size := by
        obtain ⟨u, q, _⟩ := h.mm.my
        exact Nat.lt_of_lt_of_le (Nat.lt_of_lt_of_le (PR.lt q) h.b5.size) hon.size
      rcases e with e | e | e
      · have := (hj6.foot i e).1; omega
      · omega
      · omega
    refine ⟨hform, hn.pr, p1, p2, e1, e2, ?_⟩
    rcases hcase with ⟨hE, hE2, _, hj6⟩ | ⟨rfl, _, _, lv6, _, hl6, hj6⟩ | ⟨rfl, hl1, hl2, ht6, y6, n6, hj6⟩
    · left
      exact ⟨hE, hE2, KS.ofA (hj6.nxt hn.on hQ hwb) lv hN (by omega) (by omega) (by omega) hm3⟩
    · right; left
      have hlen : (recs ++ [x.bs]).length = recs.length + 1 := by simp
      exact ⟨rfl, KS.ofA (((hj6.nxt hn.on hQ hwb).nxt (only_setRow _ _ _) hm3.xn hm3.ln).nxt (only_setRow _ _ _) hm3.xm hm3.lm) lv6 (hl6.trans hN) (by omega) (by omega) (by omega) (hm3.setboth (htv hj6))⟩
    · right; right
      have hlen : (recs ++ [x.bs]).length = recs.length + 1 := by simp
      have hj7 := (hj6.nxt hn.on hQ hwb).nxt (only_setRow W3 bm (psc st v2).toArray) hm3.xm hm3.lm
      refine ⟨rfl, KS.ofB hj7.dw ht6.dd (by rw [ht6.bs]; exact hN) hj7.jm.nb hj7.lb0 hj7.jm.ja.lt hj7.jm.ja.cells.2.2.2 (fun keep => ((lv.torn_app (by omega) ht6 hl1 hl2 hj7.jm.dt.ok keep).wk (by omega) (by omega)).mono ?_) (by omega) (by omega) ((hm3.setmay (htv hj6)).less fun i e => Or.inl (e.elim Or.inl fun e => Or.inr (Or.inl e)))⟩
      rintro a c ⟨e1, e2⟩
      exact e2.imp (fun e => ⟨e1, e⟩) fun e => ⟨e1, e⟩
  · obtain ⟨F, d, q1, q2, q3, q4, q5, q6, q7, q8, q9, q10, q11⟩ := hpb.below h.b5
    refine (jappend_no b (.slice x.ba x.bn x.bc) w5 q7).mono ?_
    rintro e w6 ⟨rfl, rfl⟩
    have hon := Only.refl X w5
    have hsix := h.six hon (h.bl.trans (h.b5.mono h.bl.size))
    refine ⟨121, rfl, hsix, by rw [h.rnb]; omega, fun W3 v2 hn => ?_⟩
    obtain ⟨hm3, p1, p2, e1, e2, hwb⟩ := h.side (X6 := X) hon hn.on fun i e => Or.inl e
    have hxl := h.xl
    rw [q11] at hxl
    have hb := (hxl b (Or.inr rfl)).1
    have hbx := h.bxb.1
    refine ⟨by obtain ⟨a, c, e, _⟩ := own_rat hn.ow; exact ⟨a, _, c, e⟩, hn.pr, p1, p2, e1, e2, Or.inl ⟨by decide, by decide, KS.ofB (q1.nxt hn.on (fun e => by have := (hxl _ (Or.inl e)).1; omega) hwb) q2 q3 q4 q5 (Nat.lt_of_lt_of_le q6 hn.on.size) ?_ (fun keep => (q8 keep).wk (by omega) (by omega)) (by omega) (by omega) (by rwa [q11] at hm3)⟩⟩
    rw [World.cell?_of_block (a := ⟨b, 3, none⟩) (hn.on.block b q6 (by show ¬ b = bx; omega))]
    exact q7
/-- a Compact, while it lives -/
theorem ks_compact {wb wr w5 : World} {g bn bm N k b ax bx : Nat} {x : Aj} {X : Nat → Prop} {st : List UInt8} {recs : List (List UInt8)} {an : Option Addr} {rn cn : Nat} (hk : k ≤ 40) (hx : x.bn ≤ 5000) (h : PreJ wb wr w5 bn bm ax bx x X st st recs recs an rn cn) (hpa : PA wb wr g N k b X st recs) :
    Calls Try.prog 10 #[.pointer (some ⟨b, 0, none⟩), .slice x.ba x.bn x.bc] w5 (fun e w6 => ∃ E, e = .returned (.int .i64 E) ∧ Six wb w6 bn ax bx x st an rn cn recs ∧ After wb (w6.setRow bx (psc x.bs (.slice none 0 0)).toArray) g bn bm N (k + 1) b bx E x.bs (.slice none 0 0)) := by
  obtain ⟨F, lb, d, y, m, f, hj, lv, hN, hk5, hk6, hk7, hX⟩ := hpa
  have hj5 := hj.below h.b5
  have hln := h.gd.bp.ln
  refine (jl_compact (st1 := x.bs) (cap := x.bc) hj5 lv (by omega) (by omega) (h.gd.bp.row.below hj5.bl) hln h.gd.bp.none (by omega)).mono ?_
  rintro e w6 ⟨E, F6, lb6, d6, rfl, hfr, hcase⟩
  have hon : Only X w5 w6 := by rw [hX]; exact hfr.on
  have hoff := (hj5.off hfr).1
  have hsix := h.six hon hoff
  obtain ⟨hX6, hQ⟩ := foot_next hX h.xl h.b5 h.bxb hfr
  refine ⟨E, rfl, hsix, ?_⟩
  have h3 := only_setRow w6 bx (psc x.bs (.slice none 0 0)).toArray
  obtain ⟨hm3, p1, p2, e1, e2, hwb⟩ := h.side hon h3 hX6
  refine ⟨⟨none, 0, 0, rfl⟩, PR.row hsix.px, p1, p2, e1, e2, ?_⟩
  rcases hcase with ⟨hE, hj6⟩ | ⟨rfl, hl1, _, lv6, _, hl6, hj6⟩ | ⟨rfl, hl1, hl2, ht6, hd6, ho6, hb6⟩
  · left
    refine ⟨by rcases hE with ⟨e, _⟩ | ⟨e, _⟩ <;> rw [e] <;> decide, by rcases hE with ⟨e, _⟩ | ⟨e, _⟩ <;> rw [e] <;> decide, KS.ofA (hj6.nxt h3 hQ hwb) lv hN (by omega) (by omega) (by omega) hm3⟩
  · right; left
    exact ⟨rfl, KS.ofA (((hj6.nxt h3 hQ hwb).nxt (only_setRow _ _ _) hm3.xn hm3.ln).nxt (only_setRow _ _ _) hm3.xm hm3.lm) lv6 (hl6.trans hN) (Nat.zero_le _) (by simp; omega) (by omega) (hm3.setboth (Tx.nil _ _))⟩
  · right; right
    have hd7 := (hd6.nxt h3 (fun e => hQ (Or.inl e)) hwb).nxt (only_setRow (w6.setRow bx (psc x.bs (.slice none 0 0)).toArray) bm (psc x.bs (.slice none 0 0)).toArray) (fun e => hm3.xm (Or.inl e)) hm3.lm
    have hbb : b < wr.heap.size ∧ wb.heap.size ≤ b := h.xl b (by rw [hX]; exact Or.inr (Or.inl rfl))
    have hbx := h.bxb.1
    have hbm : b ≠ bm := fun e => hm3.xm (Or.inr (Or.inl e.symm))
    have hb6s : b < w6.heap.size := lt_of_heap ho6
    refine ⟨rfl, KS.ofB hd7 ht6.dd (by rw [ht6.bs]; exact hN) hb6 hbb.2 (by simpa using hb6s) ?_ (fun keep => ((lv.torn_cmp (by omega) (by omega) hl1 hl2 ht6 hd7.dt.ok keep).wk (by omega) (by omega)).mono fun a c e => e) (by omega) (Nat.zero_le _) ((hm3.setmay (Tx.nil _ _)).less fun i e => Or.inl (e.elim Or.inl fun e => Or.inr (Or.inl e)))⟩
    rw [World.cell?_of_block (a := ⟨b, 3, none⟩) (w := w6) ((setRow_other _ _ _ _ hbm).trans (setRow_other _ _ _ _ (by omega)))]
    exact JOff.cells ho6
/-- a fuse -/
theorem ks_fuse {wb wr w5 : World} {g bn bm N k b ax bx : Nat} {x : Aj} {X : Nat → Prop} {st st2 : List UInt8} {recs recs2 : List (List UInt8)} {an : Option Addr} {rn cn : Nat} {n : Int} (h : PreJ wb wr w5 bn bm ax bx x X st st2 recs recs2 an rn cn) (hab : (st2 = st ∧ recs2 = recs ∧ PA wb wr g N k b X st recs) ∨ PB wb wr g N k b X st st2 recs recs2) (hn : I n) :
    Calls Try.prog 18 #[.pointer (some ⟨g, 0, none⟩), .int .i64 n] w5 (fun e w6 => e = .returned (.tuple #[]) ∧ KS wb w6 g bn bm N (k + 1) b) := by
  rcases hab with ⟨hst, hrc, F, lb, d, y, m, f, hj, lv, hN, hk5, hk6, hk7, hX⟩ | hpb
  · subst st2 recs2
    have hj5 := hj.below h.b5
    refine (fuse_any g F d n w5 hj5.jm.dt hn).mono ?_
    rintro e w6 ⟨rfl, hdid⟩
    obtain ⟨F6, hj6, hf⟩ := hj5.jm.did hdid
    obtain ⟨hX6, _⟩ := foot_next hX h.xl h.b5 h.bxb hf
    refine ⟨rfl, KS.ofA (hj5.next hf hj6) (lv.fuse hn) hN (by omega) (by omega) (by omega) ?_⟩
    exact h.mm.next' (Y := fun i => X i ∨ wr.heap.size ≤ i) ((Only.of_below h.b5 : Only (fun i => X i ∨ wr.heap.size ≤ i) wr w5).trans (F' := X) (by rw [hX]; exact hf.on) fun i e => Or.inl (Or.inl e)) (fun i e => e) hX6
  · obtain ⟨F, d, q1, q2, q3, q4, q5, q6, q7, q8, q9, q10, q11⟩ := hpb.below h.b5
    refine (fuse_any g F d n w5 q1.dt hn).mono ?_
    rintro e w6 ⟨rfl, F6, k1, k2, k3⟩
    have hs := h.b5.size
    have hd6 : DW wb w6 F6 g { d with fuse := n } := ⟨k1, fun i hi => (k3 i hi).elim (q1.fr i) fun e => Nat.le_trans q1.bl.size e, k2.below q1.bl q1.fr q1.bl.size⟩
    refine ⟨rfl, KS.ofB hd6 q2 q3 (fun e => (k3 b e).elim q4 fun e => by omega) q5 (Nat.lt_of_lt_of_le q6 k2.size) ?_ (fun keep => ((q8 keep).wk (by omega) (by omega))) (by omega) (by omega) ?_⟩
    · rw [World.cell?_of_block (a := ⟨b, 3, none⟩) (k2.block b q6 q4)]; exact q7
    · exact h.mm.next' (Y := fun i => X i ∨ wr.heap.size ≤ i) ((Only.of_below h.b5 : Only (fun i => X i ∨ wr.heap.size ≤ i) wr w5).trans k2 fun i e => Or.inl (Or.inl (by rw [q11]; exact Or.inl e))) (fun i e => e) fun i e => by
        rw [q11]
        rcases e with e | e
        · exact (k3 i e).elim (fun e => Or.inl (Or.inl e)) fun e => Or.inr (Nat.le_trans hs e)
        · exact Or.inl (Or.inr e)
theorem wp_str1 {o : Oper} {a : Act} {w : World} {K : Act → World → Prop} {Q : Exit → Act → World → Prop} (x : Operand) (ho : o.op = .buildSlice 37 1 #[(0, x)]) {s : ByteArray} (hx : a.eval x = .string s)
    (h : K (a.put o.dst (.slice (some ⟨w.heap.size, 0, none⟩) 1 1)) (w.alloc (.cells #[.string s] 9))) : o.wp Try.prog a w K Q := by
  obtain ⟨i, z, hi, hz, hs1, hs8, hzs⟩ := elT.inf
  have hrun : (Instr.buildSlice 37 1 #[(0, Value.string s)]).run Try.prog w = .ok (.slice (some ⟨w.heap.size, 0, none⟩) 1 1) (w.alloc (.cells #[.string s] 9)) := by
    refine run_buildSlice w 37 9 1 _ _ i z elT.und hi hz (by rw [hs1]; omega) (by rw [hs1]; omega) ?_
    have := Great.fill_flat [.string s] ((Array.range (1 * i.size)).map (z.cells[· % z.cells.size]!)) (by intro v hv; simp at hv; subst hv; rfl) (by simp [hs1])
    rw [hs1] at this ⊢
    simpa using this
  unfold Oper.wp execOp
  simp only [ho, Sem.run_bind, List.map_toArray, List.map_cons, List.map_nil, hx, hrun, Result.andThen_ok]
  exact h
/-- what two appends leave: the records, and one more, in a slice of its own -/
theorem rec_end {W w1 w2 w3 w4 : World} {recs : List (List UInt8)} {l : List UInt8} {n0 rn : Nat} {v7 v8 : Value} (hr : rn = recs.length) (hb : RowKit.Below W.heap.size W w1) (hn0 : W.heap.size ≤ n0) (hl : Appd w1 W.heap.size 9 1 (.slice (some ⟨n0, 0, none⟩) 0 0) (0 + rn) ([] ++ recs.map sv) v7 w2)
    (hb2 : RowKit.Below W.heap.size W w2 → RowKit.Below w2.heap.size w2 w3) (hl2 : Appd w3 W.heap.size 9 1 v7 (0 + rn + 1) ([] ++ recs.map sv ++ [sv l]) v8 w4) :
    RowKit.Below W.heap.size W w4 ∧ Own w4 W.heap.size v8 (recs ++ [l]) := by
  have h2 : RowKit.Below W.heap.size W w2 := below_appd hl hb hb.size fun i hi => by cases hi; exact hn0
  have h3 := h2.trans ((hb2 h2).mono h2.size)
  have h4 : RowKit.Below W.heap.size W w4 := below_appd hl2 h3 h3.size fun i hi => (hl.1.lt i hi).1
  refine ⟨h4, ?_⟩
  obtain ⟨ho, _, _⟩ := hl2
  unfold Own
  rw [List.length_append, List.map_append, ← hr]
  rw [List.nil_append, Nat.zero_add] at ho
  exact ho
end Go.Proofs.Ytdfbpaajkpnaeaa
