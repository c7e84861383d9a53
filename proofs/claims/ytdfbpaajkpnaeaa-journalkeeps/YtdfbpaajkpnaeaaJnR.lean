
/- falseworklaw12.JournalKeeps: what it keeps in mind. past.fits. Compact behind a crash. -/
import Derived.Test.YtdfbpaajkpnaeaaJnMP
import Derived.Test.YtdfbpaajkpnaeaaJnQ
namespace Go.Proofs.Ytdfbpaajkpnaeaa
set_option maxRecDepth 100000
open Go.RowKit Go.Lib

abbrev psc (st : List UInt8) (v : Value) : List Value := [.string (strB st), v]
abbrev zP : List Value := [.string ⟨#[]⟩, .slice none 0 0]
theorem isP : IsAgg 39 2 zP := ⟨Try.zeroValue39, ⟨_, Try.underlying39, rfl⟩, by kernel_rfl, rfl⟩
theorem psc_cs (st : List UInt8) (a : Option Addr) (n c : Nat) : Cs 2 (psc st (.slice a n c)) := ⟨rfl, fun u hu => by
  simp [psc] at hu
  rcases hu with rfl | rfl <;> rfl⟩
theorem zP_cs : Cs 2 zP := ⟨rfl, by decide⟩
theorem str_nil : strB [] = ⟨#[]⟩ := rfl
theorem zP_psc : zP = psc [] (.slice none 0 0) := rfl
/-- block b holds a past -/
abbrev PR (w : World) (b : Nat) (st : List UInt8) (v : Value) : Prop := w.heap[b]? = some (.cells (psc st v).toArray 39)
theorem PR.cells {w : World} {b : Nat} {st : List UInt8} {v : Value} (h : PR w b st v) : w.cell? ⟨b, 0, none⟩ = some (.string (strB st)) ∧ w.cell? ⟨b, 1, none⟩ = some v := by
  refine ⟨?_, ?_⟩ <;> rw [cell_of_row w b _ _ _ _ h] <;> rfl
theorem PR.lt {w : World} {b : Nat} {st : List UInt8} {v : Value} (h : PR w b st v) : b < w.heap.size := lt_of_heap h
theorem PR.same {w w' : World} {b : Nat} {st : List UInt8} {v : Value} (h : PR w b st v) (e : w'.heap[b]? = w.heap[b]?) : PR w' b st v := e.trans h
theorem PR.set {w : World} {b : Nat} {st : List UInt8} {v : Value} (h : PR w b st v) (v' : Value) : PR (w.setCell ⟨b, 1, none⟩ v') b st v' := by
  unfold PR
  rw [heap_setCell_same w b 1 _ _ _ h]
  rfl
theorem PR.row {w : World} {b : Nat} {st st' : List UInt8} {v v' : Value} (h : PR w b st v) : PR (w.setRow b (psc st' v').toArray) b st' v' := setRow_heap _ _ _ _ _ _ h
/-- texts in a row, in no block of X -/
def Tx (w : World) (X : Nat → Prop) (v : Value) (K : List (List UInt8)) : Prop := ∃ a c, v = .slice a K.length c ∧ RAt sv w a K ∧ (K = [] ∨ ∀ k, inBlk a k → k < w.heap.size ∧ ¬ X k)
theorem Tx.nil (w : World) (X : Nat → Prop) : Tx w X (.slice none 0 0) [] := ⟨none, 0, rfl, Or.inl rfl, Or.inl rfl⟩
theorem Tx.keep {w w' : World} {X X' : Nat → Prop} {v : Value} {K : List (List UInt8)} (h : Tx w X v K) (hs : w.heap.size ≤ w'.heap.size) (hb : ∀ i, i < w.heap.size → ¬ X i → w'.heap[i]? = w.heap[i]?) (hX : ∀ i, X' i → X i ∨ w.heap.size ≤ i) : Tx w' X' v K := by
  obtain ⟨a, c, rfl, hr, hn⟩ := h
  rcases hn with e | hn
  · subst e
    exact ⟨a, c, rfl, Or.inl rfl, Or.inl rfl⟩
  · refine ⟨a, c, rfl, ?_, Or.inr fun k hk => ⟨Nat.lt_of_lt_of_le (hn k hk).1 hs, fun e => (hX k e).elim (hn k hk).2 fun e => by have := (hn k hk).1; omega⟩⟩
    rcases hr with e | ⟨b, off, rfl, hlt, hc⟩
    · exact Or.inl e
    · exact Or.inr ⟨b, off, rfl, Nat.lt_of_lt_of_le hlt hs, fun i x hi => by
        rw [World.cell?_of_block (a := ⟨b, off + i, none⟩) (hb b (hn b ⟨_, rfl, rfl⟩).1 (hn b ⟨_, rfl, rfl⟩).2)]
        exact hc i x hi⟩
theorem Tx.lie {w : World} {X : Nat → Prop} {v : Value} {K : List (List UInt8)} (h : Tx w X v K) : ∃ a c, v = .slice a K.length c ∧ RAt sv w a K ∧ Lie w a (K.map sv) ∧ (a = none → K.length = 0) := by
  obtain ⟨a, c, rfl, hr, _⟩ := h
  refine ⟨a, c, rfl, hr, ?_, fun e => ?_⟩
  · rcases hr with e | ⟨b, off, ha, hlt, hc⟩
    · exact Or.inl (by rw [e]; rfl)
    · exact Or.inr ⟨b, off, ha, hlt, fun i u hu => by
        rw [List.getElem?_map] at hu
        cases hk : K[i]? with
        | none => rw [hk] at hu; cases hu
        | some x =>
          rw [hk] at hu
          cases hu
          exact hc i x hk⟩
  · rcases hr with e2 | ⟨b, off, ha, _⟩
    · rw [e2]; rfl
    · rw [e] at ha; cases ha
theorem own_tx {w : World} {base : Nat} {X : Nat → Prop} {v : Value} {K : List (List UInt8)} (h : Own w base v K) (hX : ∀ i, v.ownBlock = some i → ¬ X i) : Tx w X v K := by
  obtain ⟨a, c, hv, hr⟩ := own_rat h
  subst hv
  exact ⟨a, c, rfl, hr, Or.inr fun k hk => by
    obtain ⟨p, hp, rfl⟩ := hk
    subst hp
    exact ⟨(World.ownsRow.lt h _ rfl).2, hX _ rfl⟩⟩
/-- what it has, and what it may have, in the blocks bn and bm, beside X -/
structure MM (w0 w : World) (X : Nat → Prop) (bn bm : Nat) (st st2 : List UInt8) (recs recs2 : List (List UInt8)) : Prop where
  xn : ¬ X bn
  xm : ¬ X bm
  ne : bn ≠ bm
  ln : w0.heap.size ≤ bn
  lm : w0.heap.size ≤ bm
  nw : ∃ v, PR w bn st v ∧ Tx w (fun i => X i ∨ i = bn ∨ i = bm) v recs
  my : ∃ v, PR w bm st2 v ∧ Tx w (fun i => X i ∨ i = bn ∨ i = bm) v recs2
theorem MM.next {w0 w w' : World} {X X' : Nat → Prop} {bn bm : Nat} {st st2 : List UInt8} {recs recs2 : List (List UInt8)} (h : MM w0 w X bn bm st st2 recs recs2) (ho : Only X w w') (hX : ∀ i, X' i → X i ∨ w.heap.size ≤ i) : MM w0 w' X' bn bm st st2 recs recs2 := by
  obtain ⟨v, h1, h2⟩ := h.nw
  obtain ⟨u, h3, h4⟩ := h.my
  have l1 := h1.lt
  have l3 := h3.lt
  exact ⟨fun e => (hX bn e).elim h.xn fun e => by omega, fun e => (hX bm e).elim h.xm fun e => by omega, h.ne, h.ln, h.lm,
    ⟨v, h1.same (ho.block bn l1 h.xn), h2.keep ho.size (fun i hi hn => ho.block i hi fun e => hn (Or.inl e)) fun i e => e.elim (fun e => (hX i e).imp Or.inl id) fun e => Or.inl (Or.inr e)⟩,
    ⟨u, h3.same (ho.block bm l3 h.xm), h4.keep ho.size (fun i hi hn => ho.block i hi fun e => hn (Or.inl e)) fun i e => e.elim (fun e => (hX i e).imp Or.inl id) fun e => Or.inl (Or.inr e)⟩⟩
theorem MM.below {w0 w w' : World} {X : Nat → Prop} {bn bm : Nat} {st st2 : List UInt8} {recs recs2 : List (List UInt8)} (h : MM w0 w X bn bm st st2 recs recs2) (hb : RowKit.Below w.heap.size w w') : MM w0 w' X bn bm st st2 recs recs2 :=
  h.next (Only.of_below hb) fun _ e => Or.inl e
theorem MM.less {w0 w : World} {X X' : Nat → Prop} {bn bm : Nat} {st st2 : List UInt8} {recs recs2 : List (List UInt8)} (h : MM w0 w X bn bm st st2 recs recs2) (hX : ∀ i, X' i → X i ∨ w.heap.size ≤ i) : MM w0 w X' bn bm st st2 recs recs2 := h.next (Only.refl _ _) hX
theorem MM.setnow {w0 w : World} {X : Nat → Prop} {bn bm : Nat} {st st2 st' : List UInt8} {recs recs2 recs' : List (List UInt8)} {v' : Value} (h : MM w0 w X bn bm st st2 recs recs2) (ht : Tx w (fun i => X i ∨ i = bn ∨ i = bm) v' recs') : MM w0 (w.setRow bn (psc st' v').toArray) X bn bm st' st2 recs' recs2 := by
  obtain ⟨v, h1, h2⟩ := h.nw
  obtain ⟨u, h3, h4⟩ := h.my
  have hs : w.heap.size ≤ (w.setRow bn (psc st' v').toArray).heap.size := by rw [size_setRow]; exact Nat.le_refl _
  exact ⟨h.xn, h.xm, h.ne, h.ln, h.lm, ⟨v', h1.row, ht.keep hs (fun i _ hn => setRow_other _ _ _ _ fun e => hn (Or.inr (Or.inl e))) fun i e => Or.inl e⟩,
    ⟨u, h3.same (setRow_other _ _ _ _ h.ne.symm), h4.keep hs (fun i _ hn => setRow_other _ _ _ _ fun e => hn (Or.inr (Or.inl e))) fun i e => Or.inl e⟩⟩
theorem MM.setmay {w0 w : World} {X : Nat → Prop} {bn bm : Nat} {st st2 st' : List UInt8} {recs recs2 recs' : List (List UInt8)} {v' : Value} (h : MM w0 w X bn bm st st2 recs recs2) (ht : Tx w (fun i => X i ∨ i = bn ∨ i = bm) v' recs') : MM w0 (w.setRow bm (psc st' v').toArray) X bn bm st st' recs recs' := by
  obtain ⟨v, h1, h2⟩ := h.nw
  obtain ⟨u, h3, h4⟩ := h.my
  have hs : w.heap.size ≤ (w.setRow bm (psc st' v').toArray).heap.size := by rw [size_setRow]; exact Nat.le_refl _
  exact ⟨h.xn, h.xm, h.ne, h.ln, h.lm, ⟨v, h1.same (setRow_other _ _ _ _ h.ne), h2.keep hs (fun i _ hn => setRow_other _ _ _ _ fun e => hn (Or.inr (Or.inr e))) fun i e => Or.inl e⟩,
    ⟨v', h3.row, ht.keep hs (fun i _ hn => setRow_other _ _ _ _ fun e => hn (Or.inr (Or.inr e))) fun i e => Or.inl e⟩⟩
theorem MM.setboth {w0 w : World} {X : Nat → Prop} {bn bm : Nat} {st st2 st' : List UInt8} {recs recs2 recs' : List (List UInt8)} {v' : Value} (h : MM w0 w X bn bm st st2 recs recs2) (ht : Tx w (fun i => X i ∨ i = bn ∨ i = bm) v' recs') : MM w0 ((w.setRow bn (psc st' v').toArray).setRow bm (psc st' v').toArray) X bn bm st' st' recs' recs' :=
  (h.setnow ht).setmay (ht.keep (by rw [size_setRow]; exact Nat.le_refl _) (fun i _ hn => setRow_other _ _ _ _ fun e => hn (Or.inr (Or.inl e))) fun i e => Or.inl e)
/-! past.fits -/
set_option maxRecDepth 100000 in
set_option maxHeartbeats 3200000 in
theorem fits_any (st0 st : List UInt8) (K L : List (List UInt8)) (a sa ra : Option Addr) (c n sc m rc : Nat) (w : World) (hK : RAt sv w a K) (hs : BAt w sa st) (hn : st.length = n) (hL : BsAt w ra L) (hm : L.length = m) (hl : m ≤ 1000000) :
    Calls Try.prog 17 #[.agg #[.string (strB st0), .slice a K.length c], .slice sa n sc, .slice ra m rc] w fun e w' => e = .returned (.bool (decide (st = st0 ∧ L = K))) ∧ RowKit.Below w.heap.size w w' := by
  obtain ⟨M, hM⟩ : ∃ M, M = K.length := ⟨_, rfl⟩
  have HK := Lib.hid hK
  have HLL := Lib.hid hL
  have HB := Lib.hid (show RowKit.Below w.heap.size w (w.alloc (.cells #[.string (strB st0), .slice a K.length c] 39)) from (RowKit.Below.refl _ _).alloc (Nat.le_refl _) _)
  have cv := run_conv (hs.below HB.out) n sc hn
  have HSM := Lib.hid (fun (W : World) (hb : RowKit.Below w.heap.size w W) => same10_any L K ra a rc c W (hL.below hb) (hK.below hb) (by omega))
  rw [hm] at HSM
  by_cases h : st = st0
  · subst h
    have HE := Lib.hid (show decide (st = st ∧ L = K) = decide (L = K) by simp)
    obtain ⟨q, hq⟩ : ∃ q, q = decide (L = K) := ⟨_, rfl⟩
    rw [← hq] at HSM HE
    clear hK hs hn hL hm hl hq
    go_enter Try.func17, Try.ntmps17
    go_wp2_with fail
    refine (HSM.out _ HB.out).mono ?_
    rintro _ w2 ⟨rfl, hb2⟩
    have HB2 := Lib.hid (HB.out.trans (hb2.mono HB.out.size))
    clear hb2
    go_wp2
    go_ret
    exact ⟨by rw [HE.out]; rfl, HB2.out⟩
  · have hne := str_ne h
    have HE := Lib.hid (show decide (st = st0 ∧ L = K) = false from decide_eq_false fun e => h e.1)
    clear hK hs hn hL hm hl h
    go_enter Try.func17, Try.ntmps17
    go_wp2
    go_ret
    exact ⟨by rw [HE.out]; rfl, HB.out⟩
/-! Compact behind a crash -/
theorem Cd.wk {d : Dk} {s : Int} {M G M' G' : Nat} {P : List UInt8 → List (List UInt8) → Prop} (h : Cd d s M G P) (hM : M ≤ M') (hG : G ≤ G') : Cd d s M' G' P := by
  obtain ⟨f, st, h1, h2⟩ := h.sl
  exact ⟨h.ok, h.q, h.dd, h.cj, fun y y0 y1 => Nat.le_trans (h.tp y y0 y1) hM, fun y y0 y1 => Nat.le_trans (h.lo y y0 y1) hG, f, st, Nat.le_trans h1 hG, h2⟩
def JRec (w0 : World) (F : Nat → Prop) (g b lb : Nat) (d : Dk) (s : Int) (M F1 : Nat) (st1 : List UInt8) (w : World) (e : Ending) (w' : World) : Prop :=
  ∃ E F' lb', e = .returned (.int .i64 E) ∧ RowKit.Below w0.heap.size w0 w' ∧
    (E ≠ 0 ∨ (E = 0 ∧ JFr F b lb w w' F' lb' ∧ ∃ d' m, m ≤ M + 2 ∧ Lv d' s (2 * s) m F1 st1 [] ∧ d'.base.length = d.base.length ∧ JL w0 w' F' g b lb' d' s (2 * s) (F1 + 1 + ([] : List (List UInt8)).length) true))
theorem jl_recompact {w0 w : World} {F : Nat → Prop} {g b lb : Nat} {d : Dk} {s y : Int} {M G F1 : Nat} {P : List UInt8 → List (List UInt8) → Prop} {st1 : List UInt8} {rd : Bool} (h : JL w0 w F g b lb d s y (F1 + 1) rd) (cd : Cd d s M G P) (hM : M + 2 < 18446744073709551616) (hF : F1 ≤ 1152921504606846976) (hlo : ∀ y, 2 * s ≤ y → y < (d.base.length : Int) → stN (d.at_ y) ≤ F1)
    {a : Option Addr} {len cap : Nat} (hb : BAt w a st1) (hln : st1.length = len) (ha : a = none → st1 = []) (hl : len ≤ 400000) :
    Calls Try.prog 10 #[.pointer (some ⟨b, 0, none⟩), .slice a len cap] w (JRec w0 F g b lb d s M F1 st1 w) := by
  refine (jcompact_any w F g b lb d s y (d.base.length : Int) (F1 + 1) rd st1 a len cap h.jm cd.cj rfl (by omega) (by omega) hb hln ha hl (by rw [cd.q]; show 0 < 9700; omega)).mono ?_
  intro e w' hc
  unfold CmpJ at hc
  rw [Nat.add_sub_cancel] at hc
  rcases hc with ⟨h1, rfl, hB⟩ | ⟨h1, _, rfl, F', lb', hf, hc⟩
  · exact ⟨121, F, lb, rfl, h.bl.trans (hB.mono h.bl.size), Or.inl (by decide)⟩
  · refine ⟨_, F', lb', rfl, (h.off hf).1, ?_⟩
    have e1 := (slotW_lens d 0 s (cont F1 st1)).2
    by_cases hE : (d.slotW 0 s (cont F1 st1)).2.2 = 0
    · right
      obtain ⟨m, k1, k2⟩ := cd.cmp hM hF hlo h1 hE
      rcases hc with ⟨q, _⟩ | ⟨_, L, y, hr, _, _, hj⟩ | ⟨q, _⟩
      · rw [hE] at q; cases q
      · rw [← e1] at hr hj
        have hkn := k2.kp.next (by omega)
        obtain ⟨_, rfl⟩ := k2.kp.run (by simp; omega) hr
        rw [hkn] at hj
        exact ⟨hE, hf, _, m, k1, k2, e1, h.next hf hj⟩
      · exact absurd hE q
    · exact Or.inl hE
theorem wpList_buildP {ops : Array Oper} {rest : List Oper} {o : Oper} {a : Act} {w : World} {Q : Exit → Act → World → Prop} (hgd : o.guard = none) (ho : o.op = .build 39 #[])
    (hq : wpList Try.prog ops Q rest (a.put o.dst (.agg zP.toArray)) w) : wpList Try.prog ops Q (o :: rest) a w :=
  wpList_plain hgd fun K hK => by
    unfold Oper.wp execOp
    have e : (Instr.build 39 #[]).run Try.prog w = .ok (.agg zP.toArray) w := by
      simp [Instr.build, Sem.run_bind, isP.zero, run_underlying Try.underlying39, Value.cells, Instr.fill]
    simp only [ho, Sem.run_bind, Sem.run_pure, Result.andThen_ok, List.map_toArray, List.map_nil, e]
    exact hK _ _ hq
theorem AjAt.same {w w' : World} {b : Nat} {x : Aj} (h : AjAt w b x) (e : w'.heap[b]? = w.heap[b]?) (hs : w.heap.size ≤ w'.heap.size) : AjAt w' b x := by
  refine ⟨?_, ?_, ?_, ?_, Nat.lt_of_lt_of_le h.lt hs⟩ <;> rw [World.cell?_of_block (by exact e)]
  · exact h.c0
  · exact h.c1
  · exact h.c2
  · exact h.c3
/-- the records with one more, in a slice of its own, put into the past in block bx -/
structure Nxt (w6 W3 : World) (bx : Nat) (st : List UInt8) (v2 : Value) (K : List (List UInt8)) : Prop where
  ow : Own W3 w6.heap.size v2 K
  pr : PR W3 bx st v2
  on : Only (fun i => i = bx) w6 W3
  up : ∀ i, v2.ownBlock = some i → w6.heap.size ≤ i
theorem own_up {w : World} {base : Nat} {v : Value} {K : List (List UInt8)} (h : Own w base v K) : ∀ i, v.ownBlock = some i → base ≤ i := fun i hi => (World.ownsRow.lt h i hi).1
theorem next_bl {w6 W1 W2 : World} {v0 v1 v2 : Value} {n1 n2 : Nat} {x1 x2 xs0 : List Value} {l : List UInt8} (ho0 : (w6.alloc (.cells #[] 9)).ownsRow w6.heap.size 9 1 v0 xs0.length xs0) (h1 : Appd (w6.alloc (.cells #[] 9)) w6.heap.size 9 1 v0 n1 x1 v1 W1) (h2 : Appd (W1.alloc (.cells #[sv l] 9)) w6.heap.size 9 1 v1 n2 x2 v2 W2) :
    RowKit.Below w6.heap.size w6 W1 ∧ RowKit.Below w6.heap.size w6 W2 := by
  have b0 : RowKit.Below w6.heap.size w6 (w6.alloc (.cells #[] 9)) := (RowKit.Below.refl _ _).alloc (Nat.le_refl _) _
  have b1 : RowKit.Below w6.heap.size w6 W1 := b0.grown h1.2.1 (by simp) fun i hi => (World.ownsRow.lt ho0 i hi).1
  refine ⟨b1, ?_⟩
  have b2 : RowKit.Below w6.heap.size w6 (W1.alloc (.cells #[sv l] 9)) := b1.alloc b1.size _
  exact b2.grown h2.2.1 (by have := b1.size; simp; omega) fun i hi => (World.ownsRow.lt h1.1 i hi).1
theorem Nxt.mk' {w6 W2 : World} {bx : Nat} {st : List UInt8} {v v2 : Value} {K : List (List UInt8)} (hp : PR w6 bx st v) (hb : RowKit.Below w6.heap.size w6 W2) (ho : Own W2 w6.heap.size v2 K) : Nxt w6 (W2.setCell ⟨bx, 1, none⟩ v2) bx st v2 K := by
  have hlt := hp.lt
  refine ⟨ho.same fun i hi => setCell_other i fun e => ?_, (hp.same (hb.block bx hlt)).set v2, ?_, own_up ho⟩
  · have := own_up ho i hi
    omega
  · exact (Only.of_below hb : Only (fun i => i = bx) w6 W2).trans (F' := fun i => i = bx) ⟨rfl, rfl, rfl, by simp, fun i _ hi => setCell_other i hi⟩ fun i e => Or.inl e
/-- alive -/
def PA (wb w : World) (g N k b : Nat) (X : Nat → Prop) (st : List UInt8) (recs : List (List UInt8)) : Prop :=
  ∃ F lb d x m f, JL wb w F g b lb d 4 x (f + 1 + recs.length) true ∧ Lv d 4 x m f st recs ∧ d.base.length = N ∧ recs.length ≤ k ∧ f + recs.length ≤ 100 * k ∧ m ≤ 100 * (k + 1) ∧ X = fun i => F i ∨ i = b ∨ i = lb
/-- cut off -/
def PB (wb w : World) (g N k b : Nat) (X : Nat → Prop) (st st2 : List UInt8) (recs recs2 : List (List UInt8)) : Prop :=
  ∃ F d, DW wb w F g d ∧ d.dead = true ∧ d.base.length = N ∧ ¬ F b ∧ wb.heap.size ≤ b ∧ b < w.heap.size ∧ w.cell? ⟨b, 3, none⟩ = some (.bool false) ∧ (∀ keep, Cd (d.power keep) 4 (100 * (k + 1)) (100 * k) fun a c => (a = st ∧ c = recs) ∨ (a = st2 ∧ c = recs2)) ∧ recs.length ≤ k ∧ recs2.length ≤ k ∧ X = fun i => F i ∨ i = b
def KS (wb w : World) (g bn bm N k b : Nat) : Prop :=
  ∃ X st st2 recs recs2, MM wb w X bn bm st st2 recs recs2 ∧ (∀ i, X i → i < w.heap.size ∧ wb.heap.size ≤ i) ∧ RowKit.Below wb.heap.size wb w ∧ ((st2 = st ∧ recs2 = recs ∧ PA wb w g N k b X st recs) ∨ PB wb w g N k b X st st2 recs recs2)
theorem JL.foot {w0 w : World} {F : Nat → Prop} {g b lb : Nat} {d : Dk} {s x : Int} {n : Nat} {rd : Bool} (h : JL w0 w F g b lb d s x n rd) : ∀ i, (F i ∨ i = b ∨ i = lb) → i < w.heap.size ∧ w0.heap.size ≤ i := fun i hi => by
  rcases hi with hi | rfl | rfl
  · exact ⟨h.jm.dt.fl i hi, h.fr i hi⟩
  · exact ⟨h.jm.ja.lt, h.lb0⟩
  · exact ⟨h.jm.lg.lt, h.ll⟩
theorem KS.ofA {wb w : World} {g bn bm N k b : Nat} {F : Nat → Prop} {lb : Nat} {d : Dk} {x : Int} {m f : Nat} {st : List UInt8} {recs : List (List UInt8)} (h1 : JL wb w F g b lb d 4 x (f + 1 + recs.length) true) (h2 : Lv d 4 x m f st recs) (h3 : d.base.length = N) (h4 : recs.length ≤ k) (h5 : f + recs.length ≤ 100 * k) (h6 : m ≤ 100 * (k + 1)) (h7 : MM wb w (fun i => F i ∨ i = b ∨ i = lb) bn bm st st recs recs) : KS wb w g bn bm N k b :=
  ⟨_, st, st, recs, recs, h7, h1.foot, h1.bl, Or.inl ⟨rfl, rfl, F, lb, d, x, m, f, h1, h2, h3, h4, h5, h6, rfl⟩⟩
theorem KS.ofB {wb w : World} {g bn bm N k b : Nat} {F : Nat → Prop} {d : Dk} {st st2 : List UInt8} {recs recs2 : List (List UInt8)} (h1 : DW wb w F g d) (h2 : d.dead = true) (h3 : d.base.length = N) (h4 : ¬ F b) (h5 : wb.heap.size ≤ b) (h6 : b < w.heap.size) (h7 : w.cell? ⟨b, 3, none⟩ = some (.bool false)) (h8 : ∀ keep, Cd (d.power keep) 4 (100 * (k + 1)) (100 * k) fun a c => (a = st ∧ c = recs) ∨ (a = st2 ∧ c = recs2)) (h9 : recs.length ≤ k) (h10 : recs2.length ≤ k) (h11 : MM wb w (fun i => F i ∨ i = b) bn bm st st2 recs recs2) : KS wb w g bn bm N k b :=
  ⟨_, st, st2, recs, recs2, h11, fun i hi => hi.elim (fun e => ⟨h1.dt.fl i e, h1.fr i e⟩) fun e => by rw [e]; exact ⟨h6, h5⟩, h1.bl, Or.inr ⟨F, d, h1, h2, h3, h4, h5, h6, h7, h8, h9, h10, rfl⟩⟩
theorem PA.below {wb w w' : World} {g N k b : Nat} {X : Nat → Prop} {st : List UInt8} {recs : List (List UInt8)} (h : PA wb w g N k b X st recs) (hb : RowKit.Below w.heap.size w w') : PA wb w' g N k b X st recs := by
  obtain ⟨F, lb, d, x, m, f, h1, h2⟩ := h
  exact ⟨F, lb, d, x, m, f, h1.below hb, h2⟩
theorem PB.below {wb w w' : World} {g N k b : Nat} {X : Nat → Prop} {st st2 : List UInt8} {recs recs2 : List (List UInt8)} (h : PB wb w g N k b X st st2 recs recs2) (hb : RowKit.Below w.heap.size w w') : PB wb w' g N k b X st st2 recs recs2 := by
  obtain ⟨F, d, h1, h2, h3, h4, h5, h6, h7, h8⟩ := h
  exact ⟨F, d, h1.below hb, h2, h3, h4, h5, Nat.lt_of_lt_of_le h6 hb.size, cell_bl h7 hb, h8⟩
theorem KS.bl {wb w : World} {g bn bm N k b : Nat} (h : KS wb w g bn bm N k b) : RowKit.Below wb.heap.size wb w := by
  obtain ⟨_, _, _, _, _, _, _, h, _⟩ := h
  exact h
theorem KS.more {wb w w' : World} {g bn bm N k b : Nat} (h : KS wb w g bn bm N k b) (hb : RowKit.Below w.heap.size w w') : KS wb w' g bn bm N (k + 1) b := by
  obtain ⟨X, st, st2, recs, recs2, h1, h2, h3, h4⟩ := h
  refine ⟨X, st, st2, recs, recs2, h1.below hb, fun i hi => ⟨Nat.lt_of_lt_of_le (h2 i hi).1 hb.size, (h2 i hi).2⟩, h3.trans (hb.mono h3.size), ?_⟩
  rcases h4 with ⟨e1, e2, h5⟩ | h5
  · obtain ⟨F, lb, d, x, m, f, k1, k2, k3, k4, k5, k6, k7⟩ := h5.below hb
    exact Or.inl ⟨e1, e2, F, lb, d, x, m, f, k1, k2, k3, by omega, by omega, by omega, k7⟩
  · obtain ⟨F, d, k1, k2, k3, k4, k5, k6, k7, k8, k9, k10, k11⟩ := h5.below hb
    exact Or.inr ⟨F, d, k1, k2, k3, k4, k5, k6, k7, fun keep => (k8 keep).wk (by omega) (by omega), by omega, by omega, k11⟩
theorem MM.next' {w0 w w' : World} {X Y X' : Nat → Prop} {bn bm : Nat} {st st2 : List UInt8} {recs recs2 : List (List UInt8)} (h : MM w0 w X bn bm st st2 recs recs2) (ho : Only Y w w') (hY : ∀ i, Y i → X i ∨ w.heap.size ≤ i) (hX : ∀ i, X' i → X i ∨ w.heap.size ≤ i) : MM w0 w' X' bn bm st st2 recs recs2 :=
  h.next ⟨ho.os, ho.tape, ho.output, ho.size, fun i hi hn => ho.block i hi fun e => (hY i e).elim hn fun e => by omega⟩ hX
theorem JL.nxt {w0 w w' : World} {F : Nat → Prop} {g b lb : Nat} {d : Dk} {s x : Int} {n : Nat} {rd : Bool} {q : Nat} (h : JL w0 w F g b lb d s x n rd) (ho : Only (fun i => i = q) w w') (hq : ¬ (F q ∨ q = b ∨ q = lb)) (hb : w0.heap.size ≤ q) : JL w0 w' F g b lb d s x n rd :=
  h.same ho.size (fun i hi e => ho.block i hi fun e2 => hq (e2 ▸ e)) (ho.below h.bl (fun i e => by rw [e]; exact hb) h.bl.size)
theorem DW.nxt {w0 w w' : World} {F : Nat → Prop} {g : Nat} {d : Dk} {q : Nat} (h : DW w0 w F g d) (ho : Only (fun i => i = q) w w') (hq : ¬ F q) (hb : w0.heap.size ≤ q) : DW w0 w' F g d :=
  ⟨h.dt.same ho.size fun i hi => ho.block i (h.dt.fl i hi) fun e => hq (e ▸ hi), h.fr, ho.below h.bl (fun i e => by rw [e]; exact hb) h.bl.size⟩
theorem only_setRow (w : World) (q : Nat) (cs : Array Value) : Only (fun i => i = q) w (w.setRow q cs) :=
  ⟨rfl, rfl, rfl, by rw [size_setRow]; exact Nat.le_refl _, fun i _ hn => setRow_other _ _ _ _ hn⟩
theorem only_cell (w : World) (q j : Nat) (v : Value) : Only (fun i => i = q) w (w.setCell ⟨q, j, none⟩ v) :=
  ⟨rfl, rfl, rfl, by simp, fun i _ hn => setCell_other i hn⟩
end Go.Proofs.Ytdfbpaajkpnaeaa
