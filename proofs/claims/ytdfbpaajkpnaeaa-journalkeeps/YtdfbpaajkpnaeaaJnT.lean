
/- falseworklaw12.JournalKeeps: behind a crash. -/
import Derived.Test.YtdfbpaajkpnaeaaJnS
namespace Go.Proofs.Ytdfbpaajkpnaeaa
set_option maxRecDepth 100000
open Go.RowKit Go.Lib

/-- the blocks from x to y are as they were -/
def Agr (w w' : World) (x y : Nat) : Prop := ∀ i, x ≤ i → i < y → w'.heap[i]? = w.heap[i]?
theorem Recs.agr {w w' : World} {base : Nat} {a : Option Addr} {c : Nat} {L : List (List UInt8)} (h : Recs w base (.slice a L.length c) L) (hs : w.heap.size ≤ w'.heap.size) (ha : Agr w w' base w.heap.size) : BsAt w' a L := by
  obtain ⟨a', c', e, hb⟩ := (h.same hs ha).bs
  cases e
  exact hb
/-- bytes don't lie where a past lies -/
theorem bat_off {w : World} {a : Option Addr} {l : List UInt8} {q : Nat} {st : List UInt8} {x : Option Addr} {n c : Nat} (h : BAt w a l) (hp : PR w q st (.slice x n c)) : l = [] ∨ ∀ k, inBlk a k → k ≠ q := by
  rcases h with h | ⟨b, off, rfl, hlt, hc⟩
  · exact Or.inl h
  · by_cases hl : l = []
    · exact Or.inl hl
    · right
      rintro k ⟨p, e, rfl⟩ hk
      cases e
      have hk : b = q := hk
      subst hk
      have h0 := hc 0 (List.length_pos_iff.2 hl)
      rw [cell_of_row w b _ _ _ _ hp] at h0
      cases off with
      | zero => cases h0
      | succ off =>
        cases off with
        | zero => cases h0
        | succ off => cases h0
theorem BAt.rows {w w' : World} {a : Option Addr} {l : List UInt8} {bn bm : Nat} {st st2 : List UInt8} {x y : Option Addr} {n c n2 c2 : Nat} (h : BAt w a l) (hn : PR w bn st (.slice x n c)) (hm : PR w bm st2 (.slice y n2 c2)) (ho : Only (fun i => i = bn ∨ i = bm) w w') : BAt w' a l := by
  refine h.same ho.size ?_
  rcases bat_off h hn with e | e1
  · exact Or.inl e
  · rcases bat_off h hm with e | e2
    · exact Or.inl e
    · rcases h.lt with e | e3
      · exact Or.inl e
      · exact Or.inr fun k hk => ho.block k (e3 k hk) fun e => e.elim (e1 k hk) (e2 k hk)
/-- behind a crash, or none -/
structure TL (wb wp : World) (g bn bm N k : Nat) (F : Nat → Prop) (d : Dk) (st st2 : List UInt8) (recs recs2 : List (List UInt8)) : Prop where
  dw : DW wb wp F g d
  cd : Cd d 4 (100 * (k + 1)) (100 * k) fun a c => (a = st ∧ c = recs) ∨ (a = st2 ∧ c = recs2)
  nn : d.base.length = N
  l1 : recs.length ≤ k
  l2 : recs2.length ≤ k
  mm : MM wb wp F bn bm st st2 recs recs2
theorem tl_alive {wb wr w5 : World} {g bn bm N k b ax bx : Nat} {x : Aj} {X : Nat → Prop} {st : List UInt8} {recs : List (List UInt8)} {an : Option Addr} {rn cn : Nat} (hk : k ≤ 40) (h : PreJ wb wr w5 bn bm ax bx x X st st recs recs an rn cn) (hpa : PA wb wr g N k b X st recs) : ∃ F d, d.dead = false ∧ TL wb w5 g bn bm N k F d st st recs recs := by
  obtain ⟨F, lb, d, y, m, f, hj, lv, hN, hk5, hk6, hk7, hX⟩ := hpa
  have hj5 := hj.below h.b5
  exact ⟨F, d, lv.kp.dd, hj5.dw, ((lv.cd (by omega)).wk (by omega) (by omega)).mono fun a c e => Or.inl e, hN, hk5, hk5, (h.mm.below h.b5).less fun i e => Or.inl (by rw [hX]; exact Or.inl e)⟩
theorem ks_power {wb wr w5 : World} {g bn bm N k b ax bx : Nat} {x : Aj} {X : Nat → Prop} {st st2 : List UInt8} {recs recs2 : List (List UInt8)} {an : Option Addr} {rn cn : Nat} (hk : k ≤ 40) (h : PreJ wb wr w5 bn bm ax bx x X st st2 recs recs2 an rn cn) (hab : (st2 = st ∧ recs2 = recs ∧ PA wb wr g N k b X st recs) ∨ PB wb wr g N k b X st st2 recs recs2) :
    Calls Try.prog 16 #[.pointer (some ⟨g, 0, none⟩), .slice x.ka x.kn x.kc] w5 (fun e w6 => e = .returned (.tuple #[]) ∧ ∃ F d, TL wb w6 g bn bm N k F d st st2 recs recs2) := by
  have hall : ∃ F d, DW wb w5 F g d ∧ d.base.length = N ∧ (∀ keep, Cd (d.power keep) 4 (100 * (k + 1)) (100 * k) fun a c => (a = st ∧ c = recs) ∨ (a = st2 ∧ c = recs2)) ∧ recs.length ≤ k ∧ recs2.length ≤ k ∧ ∀ i, F i → X i := by
    rcases hab with ⟨hst, hrc, F, lb, d, y, m, f, hj, lv, hN, hk5, hk6, hk7, hX⟩ | hpb
    · subst st2 recs2
      exact ⟨F, d, (hj.below h.b5).dw, hN, fun keep => (((lv.power keep).cd (by omega)).wk (by omega) (by omega)).mono fun a c e => Or.inl e, hk5, hk5, fun i e => by rw [hX]; exact Or.inl e⟩
    · obtain ⟨F, d, q1, q2, q3, q4, q5, q6, q7, q8, q9, q10, q11⟩ := hpb.below h.b5
      exact ⟨F, d, q1, q3, q8, q9, q10, fun i e => by rw [q11]; exact Or.inl e⟩
  obtain ⟨F, d, q1, q2, q3, q4, q5, q6⟩ := hall
  have hnum := h.gd.kp
  have hoff : x.keep = [] ∨ ∀ b, inBlk x.ka b → ¬ F b := by
    rcases hnum with hh | ⟨b, off, ha, hlt, _⟩
    · left; simpa using hh
    · right
      rintro c ⟨p, e, rfl⟩ hf
      rw [ha] at e
      cases e
      have := q1.fr _ hf
      have e2 : (⟨b, off, none⟩ : Addr).block = b := rfl
      omega
  refine (power_any g F d x.ka x.keep x.kn x.kc w5 q1.dt (hnum.below q1.bl) h.gd.kl hoff).mono ?_
  rintro e w6 ⟨rfl, F6, k1, k2, k3⟩
  have hs := h.b5.size
  refine ⟨rfl, F6, d.power x.keep, ⟨k1, fun i hi => (k3 i hi).elim (q1.fr i) fun e => Nat.le_trans q1.bl.size e, k2.below q1.bl q1.fr q1.bl.size⟩, q3 x.keep, by rw [show (d.power x.keep).base.length = d.base.length from stl_len _ _ _ _]; exact q2, q4, q5, ?_⟩
  exact h.mm.next' (Y := fun i => X i ∨ wr.heap.size ≤ i) ((Only.of_below h.b5 : Only (fun i => X i ∨ wr.heap.size ≤ i) wr w5).trans k2 fun i e => Or.inl (Or.inl (q6 i e))) (fun i e => e) fun i e => (k3 i e).elim (fun e => Or.inl (q6 i e)) fun e => Or.inr (Nat.le_trans hs e)
/-- the records again, one behind the other: K are appended, Kn are in mind -/
structure L2P (wb wo1 wr2 : World) (g bn bm N lo b2 F1 m : Nat) (s1 : List UInt8) (F : Nat → Prop) (lb : Nat) (d : Dk) (x : Int) (K Kn : List (List UInt8)) (v : Value) : Prop where
  jl : JL wb wr2 F g b2 lb d 4 x (F1 + 1 + K.length) true
  lv : Lv d 4 x m F1 s1 K
  nn : d.base.length = N
  pr : PR wr2 bn s1 v
  pm : ∃ u y, PR wr2 bm u y
  oj : OJ wb wr2 F b2 lb v Kn
  up : ∀ j, v.ownBlock = some j → wo1.heap.size ≤ j
  ag : Agr wo1 wr2 lo wo1.heap.size
  sz : wo1.heap.size ≤ wr2.heap.size
  fl : ∀ j, F j → j < lo ∨ wo1.heap.size ≤ j
  fn : ¬ F bn
  fm : ¬ F bm
  bo : wo1.heap.size ≤ b2
  lo_ : wo1.heap.size ≤ lb
  bl : bn < lo
  ml : bm < lo
  ll : lo ≤ wo1.heap.size
  wn : wb.heap.size ≤ bn
  ne : bm ≠ bn
theorem L2P.app {wb wo1 w w' : World} {g bn bm N lo b2 F1 m : Nat} {s1 : List UInt8} {F F' : Nat → Prop} {lb lb' : Nat} {d d' : Dk} {x x' : Int} {K Kn : List (List UInt8)} {v : Value} {l : List UInt8} (h : L2P wb wo1 w g bn bm N lo b2 F1 m s1 F lb d x K Kn v) (hf : JFr F b2 lb w w' F' lb') (lv : Lv d' 4 x' m F1 s1 (K ++ [l])) (hN : d'.base.length = d.base.length) (hj : JL wb w' F' g b2 lb' d' 4 x' (F1 + 1 + (K ++ [l]).length) true) :
    L2P wb wo1 w' g bn bm N lo b2 F1 m s1 F' lb' d' x' (K ++ [l]) Kn v := by
  have hs := hf.on.size
  have l1 := h.bl
  have l2 := h.ml
  have l3 := h.ll
  have l4 := h.bo
  have l5 := h.lo_
  have l6 := h.sz
  have hno : ∀ i, i < wo1.heap.size → ¬ F i → ¬ (F i ∨ i = b2 ∨ i = lb) := fun i hi hn e => by
    rcases e with e | e | e
    · exact hn e
    · omega
    · omega
  refine ⟨hj, lv, hN.trans h.nn, PR.same h.pr (hf.on.block _ (PR.lt h.pr) (hno _ (by omega) h.fn)), ?_, h.oj.next hf, h.up, fun i i0 i1 => ?_, by omega, fun j e => ?_, fun e => ?_, fun e => ?_, h.bo, ?_, h.bl, h.ml, h.ll, h.wn, h.ne⟩
  · obtain ⟨u, y, hp⟩ := h.pm
    exact ⟨u, y, PR.same hp (hf.on.block _ (PR.lt hp) (hno _ (by omega) h.fm))⟩
  · rw [hf.on.block i (by omega) (hno i i1 fun e => (h.fl i e).elim (fun e => by omega) fun e => by omega)]
    exact h.ag i i0 i1
  · exact (hf.fr j e).elim (h.fl j) fun e => Or.inr (by omega)
  · exact (hf.fr bn e).elim h.fn fun e => by omega
  · exact (hf.fr bm e).elim h.fm fun e => by omega
  · exact hf.lr.elim (fun e => by rw [e]; exact l5) fun e => by omega
theorem L2P.mind {wb wo1 w w' : World} {g bn bm N lo b2 F1 m : Nat} {s1 : List UInt8} {F : Nat → Prop} {lb : Nat} {d : Dk} {x : Int} {K Kn : List (List UInt8)} {v v' : Value} {l : List UInt8} (h : L2P wb wo1 w g bn bm N lo b2 F1 m s1 F lb d x K Kn v)
    (ha : Appd (w.alloc (.cells #[sv l] 9)) wb.heap.size 9 1 v (Kn.length + 1) (Kn.map sv ++ [sv l]) v' w') : PR w' bn s1 v ∧ L2P wb wo1 (w'.setCell ⟨bn, 1, none⟩ v') g bn bm N lo b2 F1 m s1 F lb d x K (Kn ++ [l]) v' := by
  obtain ⟨oj, jl⟩ := h.oj.app h.jl ha
  obtain ⟨_, hg, hv⟩ := ha
  have hsz : w.heap.size ≤ w'.heap.size := Nat.le_trans (by simp) hg.size
  have l1 := h.bl
  have l2 := h.ml
  have l3 := h.ll
  have l4 := h.bo
  have l5 := h.lo_
  have l6 := h.sz
  have hup : ∀ j, v'.ownBlock = some j → wo1.heap.size ≤ j := fun j hj => by
    rcases hv with e | e
    · exact h.up j (e ▸ hj)
    · rw [e] at hj
      injection hj with hj
      simp at hj
      omega
  have hblk : ∀ i, i < wo1.heap.size → w'.heap[i]? = w.heap[i]? := fun i hi => (hg.block i (by simp; omega) (fun e => by have := h.up i e.symm; omega)).trans (((RowKit.Below.refl w.heap.size w).alloc (Nat.le_refl _) _).block i (by omega))
  have hpr : PR w' bn s1 v := PR.same h.pr (hblk _ (by omega))
  have hq : ¬ (F bn ∨ bn = b2 ∨ bn = lb) := fun e => by
    rcases e with e | e | e
    · exact h.fn e
    · omega
    · omega
  obtain ⟨u, y, hp⟩ := h.pm
  have hsc : (w'.setCell ⟨bn, 1, none⟩ v').heap.size = w'.heap.size := by simp
  have hwb := h.wn
  refine ⟨hpr, jl.nxt (only_cell _ _ _ _) hq hwb, h.lv, h.nn, PR.set hpr v', ⟨u, y, ?_⟩, ⟨oj.ow.same fun i hi => setCell_other i fun e => ?_, oj.fr⟩, hup, fun i i0 i1 => ?_, by omega, h.fl, h.fn, h.fm, h.bo, h.lo_, h.bl, h.ml, h.ll, h.wn, h.ne⟩
  · exact PR.same (PR.same hp (hblk _ (by omega))) (setCell_other bm h.ne)
  · have := hup i hi; omega
  · rw [setCell_other i (by omega), hblk i i1]
    exact h.ag i i0 i1
/-- all of them are back -/
theorem L2P.fin {wb wo1 w : World} {g bn bm N k lo b2 F1 m : Nat} {s1 : List UInt8} {F : Nat → Prop} {lb : Nat} {d : Dk} {x : Int} {K : List (List UInt8)} {v : Value} (h : L2P wb wo1 w g bn bm N lo b2 F1 m s1 F lb d x K K v) (hk : k ≤ 40) (hK : K.length ≤ k) (hF : F1 ≤ 100 * k) (hm : m ≤ 100 * (k + 1) + 2) (hwm : wb.heap.size ≤ bm) : KS wb (w.setRow bm (psc s1 v).toArray) g bn bm N (k + 1) b2 := by
  have l1 := h.bl
  have l2 := h.ml
  have l3 := h.ll
  have l4 := h.bo
  have l5 := h.lo_
  have hq : ∀ q, q < wo1.heap.size → ¬ F q → ¬ (F q ∨ q = b2 ∨ q = lb) := fun q hq hn e => by
    rcases e with e | e | e
    · exact hn e
    · omega
    · omega
  obtain ⟨u, y, hp⟩ := h.pm
  have htx : Tx (w.setRow bm (psc s1 v).toArray) (fun i => (F i ∨ i = b2 ∨ i = lb) ∨ i = bn ∨ i = bm) v K := (own_tx h.oj.ow (X := fun i => (F i ∨ i = b2 ∨ i = lb) ∨ i = bn ∨ i = bm) fun i hi e => by
    have := h.up i hi
    rcases e with e | e | e
    · exact h.oj.fr i hi e
    · omega
    · omega).keep (by rw [size_setRow]; exact Nat.le_refl _) (fun i _ hn => setRow_other _ _ _ _ fun e => hn (Or.inr (Or.inr e))) fun i e => Or.inl e
  exact KS.ofA (h.jl.nxt (only_setRow _ _ _) (hq bm (by omega) h.fm) hwm) h.lv h.nn (by omega) (by omega) (by omega)
    ⟨hq bn (by omega) h.fn, hq bm (by omega) h.fm, h.ne.symm, h.wn, hwm, ⟨v, PR.same h.pr (setRow_other _ _ _ _ h.ne.symm), htx⟩, ⟨v, PR.row hp, htx⟩⟩
theorem L2P.start {wb wo1 w13 w14 : World} {g bn bm N lo b2 F1 m : Nat} {s1 st2 : List UInt8} {F F14 : Nat → Prop} {lb2 lb14 : Nat} {d14 : Dk} {v y : Value} (hj : JL wb w14 F14 g b2 lb14 d14 4 (2 * 4) (F1 + 1 + ([] : List (List UInt8)).length) true) (lv : Lv d14 4 (2 * 4) m F1 s1 []) (hN : d14.base.length = N) (hf : JFr F b2 lb2 w13 w14 F14 lb14) (hag : Agr wo1 w13 lo wo1.heap.size) (hs : wo1.heap.size ≤ w13.heap.size) (hfl : ∀ j, F j → j < lo) (hb : wo1.heap.size ≤ b2) (hlb : wo1.heap.size ≤ lb2) (hpn : PR w13 bn s1 v) (hpm : PR w13 bm st2 y) (hfn : ¬ F bn) (hfm : ¬ F bm) (bl : bn < lo) (ml : bm < lo) (ll : lo ≤ wo1.heap.size) (wn : wb.heap.size ≤ bn) (ne : bm ≠ bn) :
    PR w14 bn s1 v ∧ L2P wb wo1 (w14.setCell ⟨bn, 1, none⟩ (.slice none 0 0)) g bn bm N lo b2 F1 m s1 F14 lb14 d14 (2 * 4) [] [] (.slice none 0 0) := by
  have hs2 := hf.on.size
  have hno : ∀ i, i < wo1.heap.size → ¬ F i → ¬ (F i ∨ i = b2 ∨ i = lb2) := fun i hi hn e => by
    rcases e with e | e | e
    · exact hn e
    · omega
    · omega
  have p1 : PR w14 bn s1 v := PR.same hpn (hf.on.block _ (PR.lt hpn) (hno _ (by omega) hfn))
  have p2 : PR w14 bm st2 y := PR.same hpm (hf.on.block _ (PR.lt hpm) (hno _ (by omega) hfm))
  have e1 : ∀ j, F14 j → j < lo ∨ wo1.heap.size ≤ j := fun j e => (hf.fr j e).elim (fun e => Or.inl (hfl j e)) fun e => Or.inr (by omega)
  have e2 : ¬ F14 bn := fun e => (hf.fr bn e).elim hfn fun e => by omega
  have e3 : ¬ F14 bm := fun e => (hf.fr bm e).elim hfm fun e => by omega
  have e4 : wo1.heap.size ≤ lb14 := hf.lr.elim (fun e => by rw [e]; exact hlb) fun e => by omega
  refine ⟨p1, hj.nxt (only_cell _ _ _ _) (fun e => by
    rcases e with e | e | e
    · exact e2 e
    · omega
    · omega) wn, lv, hN, PR.set p1 _, ⟨_, _, PR.same p2 (setCell_other bm ne)⟩, ⟨World.ownsRow_nil _ _ _ 1, (fun i hi => by cases hi)⟩, (fun j hj => by cases hj), fun i i0 i1 => ?_, (by simp; omega), e1, e2, e3, hb, e4, bl, ml, ll, wn, ne⟩
  rw [setCell_other i (by omega), hf.on.block i (by omega) (hno i i1 fun e => by have := hfl i e; omega)]
  exact hag i i0 i1
theorem Recs.get {w : World} {base : Nat} {a : Option Addr} {c : Nat} {L : List (List UInt8)} (h : Recs w base (.slice a L.length c) L) {i : Nat} {x : List UInt8} (hx : L[i]? = some x) :
    ∃ bo off a' c', a = some ⟨bo, off, none⟩ ∧ (a' = none → x = []) ∧ ∀ W, w.heap.size ≤ W.heap.size → Agr w W base w.heap.size → W.cell? ⟨bo, off + i, none⟩ = some (.slice a' x.length c') ∧ BAt W a' x := by
  obtain ⟨vs, ho, hr⟩ := h
  obtain ⟨a', c', h1, h2, h3⟩ := hr i x hx
  have hlt := ho.lt
  obtain ⟨a9, c9, hv, hl, _, _⟩ := ow_lie ho
  cases hv
  rcases hl with hl | ⟨bo, off, rfl, hbo, hra⟩
  · subst hl; simp at h1
  · refine ⟨bo, off, a', c', rfl, fun e => ?_, fun W hs hag => ⟨?_, h2.same hs ?_⟩⟩
    · rcases h2 with e2 | ⟨_, _, e2, _⟩
      · exact e2
      · rw [e] at e2; cases e2
    · have hb := hlt bo rfl
      rw [World.cell?_of_block (a := ⟨bo, off + i, none⟩) (hag bo hb.1 hb.2)]
      exact hra i _ h1
    · rcases h3 with e | h3
      · exact Or.inl e
      · rcases h2.lt with e | h4
        · exact Or.inl e
        · exact Or.inr fun k hk => hag k (h3 k hk).1 (h4 k hk)
/-- the texts of what was opened, in mind: i of them -/
structure L1P (wo2 wr : World) (bn : Nat) (s1 : List UInt8) (K : List (List UInt8)) (v : Value) : Prop where
  on : Only (fun i => i = bn) wo2 wr
  pr : PR wr bn s1 v
  ow : Own wr wo2.heap.size v K
theorem L1P.start {wo2 : World} {bn : Nat} {s1 st : List UInt8} {u : Value} (hp : PR wo2 bn st u) : L1P wo2 ((wo2.alloc (.cells #[] 9)).setRow bn (psc s1 (.slice (some ⟨wo2.heap.size, 0, none⟩) 0 0)).toArray) bn s1 [] (.slice (some ⟨wo2.heap.size, 0, none⟩) 0 0) := by
  have hlt := PR.lt hp
  have hb : RowKit.Below wo2.heap.size wo2 (wo2.alloc (.cells #[] 9)) := (RowKit.Below.refl _ _).alloc (Nat.le_refl _) _
  refine ⟨(Only.of_below hb : Only (fun i => i = bn) wo2 _).trans (only_setRow _ _ _) fun i e => Or.inl e, PR.row (PR.same hp (hb.block _ hlt)), (own_start wo2 wo2 (Nat.le_refl _)).same fun i hi => setRow_other _ _ _ _ fun e => ?_⟩
  have hi : wo2.heap.size = i := by simpa [Value.ownBlock] using hi
  omega
theorem L1P.mind {wo2 w w' : World} {bn : Nat} {s1 : List UInt8} {K : List (List UInt8)} {v v' : Value} {l : List UInt8} (h : L1P wo2 w bn s1 K v) (hbn : bn < wo2.heap.size) (ha : Appd (w.alloc (.cells #[sv l] 9)) wo2.heap.size 9 1 v (K.length + 1) (K.map sv ++ [sv l]) v' w') : PR w' bn s1 v ∧ L1P wo2 (w'.setCell ⟨bn, 1, none⟩ v') bn s1 (K ++ [l]) v' := by
  obtain ⟨ho, hg, hv⟩ := ha
  have hs := h.on.size
  have hblk : ∀ i, i < wo2.heap.size → w'.heap[i]? = w.heap[i]? := fun i hi => (hg.block i (by simp; omega) (fun e => by have := own_up h.ow i e.symm; omega)).trans (((RowKit.Below.refl w.heap.size w).alloc (Nat.le_refl _) _).block i (by omega))
  have hsz : w.heap.size ≤ w'.heap.size := Nat.le_trans (by simp) hg.size
  have hpr : PR w' bn s1 v := PR.same h.pr (hblk _ hbn)
  have how : Own w' wo2.heap.size v' (K ++ [l]) := by
    unfold Own
    rw [List.length_append, List.map_append]
    exact ho
  refine ⟨hpr, ⟨hg.os.trans ?_, hg.tape.trans ?_, hg.output.trans ?_, by simp; omega, fun i hi hn => ?_⟩, PR.set hpr v', how.same fun i hi => setCell_other i fun e => by have := own_up how i hi; omega⟩
  · exact h.on.os
  · exact h.on.tape
  · exact h.on.output
  · rw [setCell_other i hn, hblk i hi]
    exact h.on.block i hi hn
end Go.Proofs.Ytdfbpaajkpnaeaa
