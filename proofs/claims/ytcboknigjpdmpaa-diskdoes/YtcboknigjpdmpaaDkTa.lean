/- DiskTears: what is known of its disk, and of its three arrays. -/
import Derived.Test.YtcboknigjpdmpaaDkZ
import Derived.Laws.IdiomArrays
namespace Go.Proofs.Ytcboknigjpdmpaa
open Go.RowKit Go.Lib Go.ChangeShapes Go.WideShapes Go.ChangeAt

def upD (o : Sec) (k : Nat) : Dk := { base := List.replicate 3 zsec, queue := (List.range k).map (fun i => (i, paint (o.getD i 0))), fuse := -1, dead := false }
theorem three {k : Nat} (h : k < 3) : k = 0 ∨ k = 1 ∨ k = 2 := by omega
theorem up_put {o : Sec} {k : Nat} (h : k < 3) : (upD o k).put (k : Int) (paint (o.getD k 0)) = upD o (k + 1) ∧ (upD o k).putE (k : Int) = 0 := by
  rcases three h with rfl | rfl | rfl <;> exact ⟨rfl, rfl⟩
def dnD (o f : Sec) (m : Nat) : Dk := { base := [paint (o.getD 0 0), paint (o.getD 1 0), paint (o.getD 2 0)], queue := (List.range m).map (fun i => (2 - i, paint (f.getD (2 - i) 0))), fuse := -1, dead := false }
theorem up_flush {o : Sec} (f : Sec) : (upD o 3).flush = dnD o f 0 ∧ (upD o 3).actE = 0 := by
  refine ⟨?_, rfl⟩
  have e : ∀ c, cutS (paint c) zsec 64 = paint c := fun c => cutS_full (paint_len c) List.length_replicate
  have h : (upD o 3).flush = { upD o 3 with base := [cutS (paint (o.getD 0 0)) zsec 64, cutS (paint (o.getD 1 0)) zsec 64, cutS (paint (o.getD 2 0)) zsec 64], queue := [] } := rfl
  rw [h, e, e, e]
  rfl
theorem dn_put {o f : Sec} {m : Nat} (h : m < 3) : (dnD o f m).put (2 - (m : Int)) (paint (f.getD (2 - m) 0)) = dnD o f (m + 1) ∧ (dnD o f m).putE (2 - (m : Int)) = 0 := by
  rcases three h with rfl | rfl | rfl <;> exact ⟨rfl, rfl⟩
theorem dn_at {o f : Sec} (l : List Int) {i : Nat} (h : i < 3) : ((dnD o f 3).power l).at_ (i : Int) = cutS (paint (f.getD i 0)) (paint (o.getD i 0)) (keepF l (2 - i)) := by
  rcases three h with rfl | rfl | rfl <;> rfl
theorem cut_lo {s t : Sec} {n j : Nat} (hs : s.length = 64) (hn : n ≤ 64) (h : j < n) : (cutS s t n).getD j 0 = s.getD j 0 := by
  unfold cutS
  rw [List.getD, List.getElem?_append_left (by simp; omega), List.getElem?_take_of_lt h, List.getD]
theorem cut_hi {s t : Sec} {n j : Nat} (hs : s.length = 64) (hn : n ≤ 64) (h : n ≤ j) : (cutS s t n).getD j 0 = t.getD j 0 := by
  unfold cutS
  have e : (s.take n).length = n := by simp; omega
  rw [List.getD, List.getElem?_append_right (by omega), e, List.getElem?_drop, List.getD, show n + (j - n) = j by omega]
def icl (l : List Int) : List Value := l.map (Value.int .i64)
theorem is3b : IsAgg 49 3 [.int .u8 0, .int .u8 0, .int .u8 0] := ⟨(zero_of_info (n := 3) (by kernel_rfl)).1, ⟨_, Try.underlying49, rfl⟩, by kernel_rfl, rfl⟩
theorem run_index3 {M : Array Value} {i : Nat} {v : Value} (h : M[i]? = some v) (hi : i < 3) (w : World) : (Instr.index 49 (.agg M) (.int .i64 (i : Int))).run Try.prog w = .ok v w := by
  have e0 : (0 : Int) ≤ (i : Int) ∧ (i : Int) < ((3 : Nat) : Int) := by omega
  simp only [Instr.index, asIntOf, Sem.run_bind, Sem.run_pure, Result.andThen_ok, run_underlying Try.underlying49, if_pos e0, Try.sizeOf5, part, Try.isAgg5]
  simp [h]
theorem run_indexS {M : Array Value} {i : Nat} {v : Value} (h : M[i]? = some v) (hi : i < 64) (w : World) : (Instr.index 28 (.agg M) (.int .i64 (i : Int))).run Try.prog w = .ok v w := by
  have e0 : (0 : Int) ≤ (i : Int) ∧ (i : Int) < ((64 : Nat) : Int) := by omega
  simp only [Instr.index, asIntOf, Sem.run_bind, Sem.run_pure, Result.andThen_ok, run_underlying undS, if_pos e0, Try.sizeOf5, part, Try.isAgg5]
  simp [h]
theorem exec_idx3 {o : Oper} {a : Act} {w : World} (x y : Operand) (ho : o.op = .indexAddr 49 x y) {b : Nat} {i : Int} (j : Nat) (hx : a.eval x = .pointer (some ⟨b, 0, none⟩)) (hy : a.eval y = .int .i64 i) (hi : i = (j : Int)) (h : j < 3) :
    (execOp a.eval o).run Try.prog w = .ok (.value (.pointer (some ⟨b, j, none⟩))) w := by
  subst hi
  have : (Instr.indexAt 49 (.pointer (some ⟨b, 0, none⟩)) (.int .i64 (j : Int))).run Try.prog w = .ok (.pointer (some ⟨b, j, none⟩)) w := by
    simp [Instr.indexAt, asIntOf, Instr.sureAddr, run_underlying Try.underlying49, Try.sizeOf5, Sem.run_bind, Nat.not_le.2 h, Addr.add_mid]
  unfold execOp
  simp only [ho, hx, hy, Sem.run_bind, this, Result.andThen_ok]
  rfl
/-! what came in -/
section
variable {H : Type} {enc : TypeId × Value → H} {w : World} {base : Nat} {spare : Nat → Bool} {held : Bool}
theorem array3 (T : Array Value) (h : T.size = 3) : ∃ v0 v1 v2 : Value, T = #[v0, v1, v2] := by
  rcases T with ⟨l⟩
  match l, h with
  | [a, b, c], _ => exact ⟨a, b, c, rfl⟩
theorem byte_cell {b : Int} (hb : 0 ≤ b ∧ b < 256) : Value.int .u8 ((b.toNat.toUInt8).toNat : Int) = .int .u8 b := by
  have : (b.toNat.toUInt8).toNat = b.toNat % 256 := by simp [Nat.toUInt8]
  rw [this]; congr 1; omega
theorem open_b3 {r : Reach} {b0 : Nat} {v : Value} {x : DataW H} {p : List MemPlace} (hv : Value.okWide Try.prog w r b0 49 v) (h : DataW.Trod enc Try.prog w base spare held 49 v x p) : ∃ o : Sec, o.length = 3 ∧ v = .agg (bcells o).toArray := by
  simp only [Value.okWide, Try.underlying49] at hv
  obtain ⟨cs, rfl, hsz, _⟩ := hv
  obtain ⟨c0, c1, c2, rfl⟩ := array3 _ (hsz.trans (show Try.prog.cellsOf 49 = 3 by kernel_rfl))
  obtain ⟨fuel, hf⟩ := h
  obtain ⟨y0, y1, y2, n, _, g0, g1, g2⟩ := trod_array3 Try.underlying49 (by kernel_rfl) hf
  obtain ⟨k0, e0, _, w0⟩ := DataW.trod_int Try.underlying5 g0
  obtain ⟨k1, e1, _, w1⟩ := DataW.trod_int Try.underlying5 g1
  obtain ⟨k2, e2, _, w2⟩ := DataW.trod_int Try.underlying5 g2
  simp at e0 e1 e2
  subst e0 e1 e2
  refine ⟨[k0.toNat.toUInt8, k1.toNat.toUInt8, k2.toNat.toUInt8], rfl, ?_⟩
  show _ = Value.agg #[Value.int .u8 ((k0.toNat.toUInt8).toNat : Int), Value.int .u8 ((k1.toNat.toUInt8).toNat : Int), Value.int .u8 ((k2.toNat.toUInt8).toNat : Int)]
  rw [byte_cell (byte_wf w0), byte_cell (byte_wf w1), byte_cell (byte_wf w2)]
theorem open_i3 {r : Reach} {b0 : Nat} {v : Value} {x : DataW H} {p : List MemPlace} (hv : Value.okWide Try.prog w r b0 50 v) (h : DataW.Trod enc Try.prog w base spare held 50 v x p) : ∃ k0 k1 k2 : Int, v = .agg #[.int .i64 k0, .int .i64 k1, .int .i64 k2] ∧ I k0 ∧ I k1 ∧ I k2 := by
  simp only [Value.okWide, Try.underlying50] at hv
  obtain ⟨cs, rfl, hsz, _⟩ := hv
  obtain ⟨c0, c1, c2, rfl⟩ := array3 _ (hsz.trans (show Try.prog.cellsOf 50 = 3 by kernel_rfl))
  obtain ⟨fuel, hf⟩ := h
  obtain ⟨y0, y1, y2, n, _, g0, g1, g2⟩ := trod_array3 Try.underlying50 (by kernel_rfl) hf
  obtain ⟨k0, e0, _, w0⟩ := DataW.trod_int Try.underlying3 g0
  obtain ⟨k1, e1, _, w1⟩ := DataW.trod_int Try.underlying3 g1
  obtain ⟨k2, e2, _, w2⟩ := DataW.trod_int Try.underlying3 g2
  simp at e0 e1 e2
  subst e0 e1 e2
  exact ⟨k0, k1, k2, rfl, fitI w0, fitI w1, fitI w2⟩
end
/-! the disk, and what lies below it -/
structure T3 (w0 w : World) (F : Nat → Prop) (g : Nat) (d : Dk) : Prop where
  dt : DAt w F g d
  fr : ∀ i, F i → w0.heap.size ≤ i
  bl : RowKit.Below w0.heap.size w0 w
theorem T3.next {w0 w w' : World} {F : Nat → Prop} {g : Nat} {d d' : Dk} (h : T3 w0 w F g d) (hd : Did g F d' w w') : ∃ F', T3 w0 w' F' g d' := by
  obtain ⟨F', h1, h2, h3⟩ := hd
  exact ⟨F', h1, fun i hi => (h3 i hi).elim (h.fr i) fun e => Nat.le_trans h.bl.size e, h2.below h.bl h.fr h.bl.size⟩
theorem T3.below {w0 w w' : World} {F : Nat → Prop} {g : Nat} {d : Dk} (h : T3 w0 w F g d) (hb : RowKit.Below w.heap.size w w') : T3 w0 w' F g d :=
  ⟨h.dt.below hb, h.fr, h.bl.trans (hb.mono h.bl.size)⟩
/-! two new sectors, in whichever order -/
structure Q2 (w7 W : World) (x y : Option Nat) : Prop where
  bl : RowKit.Below w7.heap.size w7 W
  hx : ∀ b, x = some b → w7.heap.size ≤ b ∧ W.heap[b]? = some (.cells zc.toArray 28)
  hy : ∀ b, y = some b → w7.heap.size ≤ b ∧ W.heap[b]? = some (.cells zc.toArray 28)
  ne : ∀ b c, x = some b → y = some c → b ≠ c
theorem Q2.start (w7 : World) : Q2 w7 w7.drew none none := ⟨⟨rfl, rfl, rfl, Nat.le_refl _, fun _ _ => rfl⟩, nofun, nofun, nofun⟩
theorem Q2.call {w7 W W' : World} {x y : Option Nat} (h : Q2 w7 W x y) (hb : RowKit.Below W.heap.size W W') : Q2 w7 W' x y :=
  ⟨h.bl.trans (hb.mono h.bl.size), fun b e => ⟨(h.hx b e).1, (hb.block _ (lt_of_heap (h.hx b e).2)).trans (h.hx b e).2⟩, fun b e => ⟨(h.hy b e).1, (hb.block _ (lt_of_heap (h.hy b e).2)).trans (h.hy b e).2⟩, h.ne⟩
theorem Q2.ax {w7 W W' : World} {y : Option Nat} {b : Nat} (h : Q2 w7 W none y) (he : b = W.heap.size) (hb : RowKit.Below W.heap.size W W') (hn : W'.heap[b]? = some (.cells zc.toArray 28)) : Q2 w7 W' (some b) y :=
  ⟨(h.call hb).bl, fun c e => by cases e; exact ⟨he ▸ h.bl.size, hn⟩, (h.call hb).hy, fun c d e e2 => by cases e; have := lt_of_heap (h.hy d e2).2; omega⟩
theorem Q2.ay {w7 W W' : World} {x : Option Nat} {b : Nat} (h : Q2 w7 W x none) (he : b = W.heap.size) (hb : RowKit.Below W.heap.size W W') (hn : W'.heap[b]? = some (.cells zc.toArray 28)) : Q2 w7 W' x (some b) :=
  ⟨(h.call hb).bl, (h.call hb).hx, fun c e => by cases e; exact ⟨he ▸ h.bl.size, hn⟩, fun c d e e2 => by cases e2; have := lt_of_heap (h.hx c e).2; omega⟩
def End2 (w7 : World) (cw cf : List Value) (b c : Nat) (W : World) : Prop := RowKit.Below w7.heap.size w7 W ∧ W.heap[b]? = some (.cells cw.toArray 28) ∧ W.heap[c]? = some (.cells cf.toArray 28)
theorem Q2.fin {w7 W : World} {b c : Nat} (h : Q2 w7 W (some b) (some c)) (cw cf : List Value) : End2 w7 cw cf b c ((W.setRow b cw.toArray).setRow c cf.toArray) := by
  have hb := h.hx b rfl
  have hc := h.hy c rfl
  have hne := h.ne b c rfl rfl
  have hc2 : (W.setRow b cw.toArray).heap[c]? = some (.cells zc.toArray 28) := (setRow_other _ _ _ _ hne.symm).trans hc.2
  exact ⟨below_setRow (below_setRow h.bl hb.1) hc.1, (setRow_other _ _ _ _ hne).trans (setRow_heap _ _ _ _ _ _ hb.2), setRow_heap _ _ _ _ _ _ hc2⟩
section
variable {P : Program} {md : Region.Mode} {Q : Exit → Act → World → Prop} {S : World → Prop}
theorem held_three {l : List Oper} (i j k : Nat) {oi oj ok : Oper} {ri rj rk : List Oper} {fuel : Nat} {listed : Array Bool} {a : Act} {w : World} (hi : l.drop i = oi :: ri) (hj : l.drop j = oj :: rj) (hk : l.drop k = ok :: rk) (hr : Region.ready md l.toArray listed = [i, j, k])
    (hwi : Region.wanted oi (yielded l.toArray a.tmps) = true) (hwj : Region.wanted oj (yielded l.toArray a.tmps) = true) (hwk : Region.wanted ok (yielded l.toArray a.tmps) = true)
    (h1 : ∀ K' : Act → World → Prop, Shut (∀ a w, S w → (S w → wpAnyH P md l.toArray Q S fuel (listed.setIfInBounds i true) a w) → K' a w) → Oper.wp P oi a w K' Q)
    (h2 : ∀ K' : Act → World → Prop, Shut (∀ a w, S w → (S w → wpAnyH P md l.toArray Q S fuel (listed.setIfInBounds j true) a w) → K' a w) → Oper.wp P oj a w K' Q)
    (h3 : ∀ K' : Act → World → Prop, Shut (∀ a w, S w → (S w → wpAnyH P md l.toArray Q S fuel (listed.setIfInBounds k true) a w) → K' a w) → Oper.wp P ok a w K' Q) : wpAnyH P md l.toArray Q S (fuel + 1) listed a w :=
  wpAnyH_ready hr (by simp) (AllReadyH.cons (at_drop hi) (fun K hK => by rw [if_pos hwi]; exact h1 K hK) (AllReadyH.cons (at_drop hj) (fun K hK => by rw [if_pos hwj]; exact h2 K hK) (AllReadyH.cons (at_drop hk) (fun K hK => by rw [if_pos hwk]; exact h3 K hK) AllReadyH.nil)))
end
theorem wp_then2 {P : Program} {c : Code} {Q : Exit → Act → World → Prop} {a : Act} {w : World} (M : Nat → Nat → World → Prop) {A : Nat → Nat → Act} (h : c.wp P (fun e a' w' => e = .normal ∧ ∃ x y, a' = A x y ∧ M x y w') a w) (hQ : ∀ x y W, M x y W → Q .normal (A x y) W) : c.wp P Q a w :=
  Code.wp_mono (fun e a' w' hh => by obtain ⟨rfl, x, y, rfl, h2⟩ := hh; exact hQ x y w' h2) h
theorem wp_allocN {o : Oper} {a : Act} {w : World} {K : Act → World → Prop} {Q : Exit → Act → World → Prop} (ho : o.op = .alloc 28)
    (hq : ∀ b W, b = w.heap.size → RowKit.Below w.heap.size w W → W.heap[b]? = some (.cells zc.toArray 28) → K (a.put o.dst (.pointer (some ⟨b, 0, none⟩))) W) : o.wp Try.prog a w K Q :=
  wp_allocA isS ho (hq _ _ rfl ((RowKit.Below.refl _ _).alloc (Nat.le_refl _) _) (heap_alloc_new w _))
theorem wp_storeN {o : Oper} {a : Act} {w : World} {K : Act → World → Prop} {Q : Exit → Act → World → Prop} (x y : Operand) (ho : o.op = .store 28 x y) (b : Nat) (c : List Value) (hx : a.eval x = .pointer (some ⟨b, 0, none⟩)) (hy : a.eval y = .agg c.toArray) (hg : w.heap[b]? = some (.cells zc.toArray 28)) (hc : Cs 64 c)
    (hq : K (a.put o.dst undef) (w.setRow b c.toArray)) : o.wp Try.prog a w K Q :=
  wp_store_row _ _ _ ho b c.toArray hx hy _ zc.toArray hg (by rw [sizS]; simp [hc.len]) (by simp [zc_len, hc.len]) (all_oneCell_toArray hc.one) hq
end Go.Proofs.Ytcboknigjpdmpaa
