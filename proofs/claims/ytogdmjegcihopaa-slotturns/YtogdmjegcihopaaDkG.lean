
/- Package disk: what Put leaves in memory. -/
import Derived.Test.YtogdmjegcihopaaDkF
namespace Go.Proofs.Ytogdmjegcihopaa
set_option maxRecDepth 100000
open Go.RowKit Go.Lib

theorem own_type {w : World} {B : Nat} {e e' : TypeId} {n k g : Nat} {v : Value} {xs : List Value} {cs : Array Value} (ho : w.ownsRow B e n v k xs) (hg : w.heap[g]? = some (.cells cs e')) (hne : e ≠ e') : v.ownBlock ≠ some g := by
  intro h
  rcases ho.2 with ⟨hv, _⟩ | ⟨g', cap, cur, hv, _, hgg, _⟩
  · rw [hv] at h; cases h
  · rw [hv] at h
    have : g' = g := by simpa [Value.ownBlock] using h
    subst this
    rw [hg] at hgg
    injection hgg with hgg
    injection hgg with _ e3
    exact hne e3.symm
theorem own_type2 {w : World} {B B' : Nat} {e e' : TypeId} {n n' k k' : Nat} {v v' : Value} {xs xs' : List Value} (ho : w.ownsRow B e n v k xs) (ho' : w.ownsRow B' e' n' v' k' xs') (hne : e ≠ e') : ∀ i, v.ownBlock = some i → v'.ownBlock ≠ some i := by
  intro i hi
  rcases ho.2 with ⟨hv, _⟩ | ⟨g', cap, cur, hv, _, hgg, _⟩
  · rw [hv] at hi; cases hi
  · rw [hv] at hi
    have : g' = i := by simpa [Value.ownBlock] using hi
    subst this
    exact own_type ho' hgg (Ne.symm hne)
theorem own_map {w : World} {B : Nat} {e : TypeId} {n k m cnt : Nat} {v : Value} {xs : List Value} {f : Int → Value} (ho : w.ownsRow B e n v k xs) (hm : MapAt w m cnt f) : v.ownBlock ≠ some m := by
  intro h
  obtain ⟨es, cl, hb⟩ := hm.isMap
  rcases ho.2 with ⟨hv, _⟩ | ⟨g', cap, cur, hv, _, hgg, _⟩
  · rw [hv] at h; cases h
  · rw [hv] at h
    have : g' = m := by simpa [Value.ownBlock] using h
    subst this
    rw [hb] at hgg
    cases hgg
theorem map_row {w : World} {m cnt g : Nat} {f : Int → Value} {cs : Array Value} {e : TypeId} (hm : MapAt w m cnt f) (hg : w.heap[g]? = some (.cells cs e)) : m ≠ g := by
  obtain ⟨es, cl, hb⟩ := hm.isMap
  intro e2
  subst e2
  rw [hb] at hg
  cases hg
/-- F and what is new -/
def More (F : Nat → Prop) (w w' : World) : Nat → Prop := fun i => F i ∨ (w.heap.size ≤ i ∧ i < w'.heap.size)
theorem More.or {F : Nat → Prop} {w w' : World} {i : Nat} (h : More F w w' i) : F i ∨ w.heap.size ≤ i := h.imp id And.left
/-- append to the queue, and into the field -/
theorem put_q {w w2 w3 : World} {F : Nat → Prop} {g : Nat} {d : Dk} {S : Int → List Sec} {a0 : Option Addr} {c0 : Nat} {a1 : Option Addr} {c1 m cnt : Nat} {f : Int → Value} (k : DMemS w F g d S a0 c0 a1 c1 m cnt f) (p : Nat × Sec)
    (hok : Dk.Ok { d with queue := d.queue ++ [p] }) {v' : Value} (hb : RowKit.Below w.heap.size w w2) (ha : Appd w2 0 3 1 (.slice a1 d.queue.length c1) (d.queue.length + 1) (qcells d.queue ++ [.int .i64 (p.1 : Int)]) v' w3) :
    ∃ a1' c1', v' = .slice a1' (d.queue.length + 1) c1' ∧ DMemS (w3.setCell ⟨g, 1, none⟩ v') (More F w w3) g { d with queue := d.queue ++ [p] } S a0 c0 a1' c1' m cnt f ∧ Only F w (w3.setCell ⟨g, 1, none⟩ v') ∧
      w3.heap[g]? = some (.cells #[.slice a0 d.base.length c0, .slice a1 d.queue.length c1, .map (some m), .int .i64 d.fuse, .bool d.dead] 65) := by
  obtain ⟨ho, hg, hv⟩ := ha
  have k2 := k.below hb
  obtain ⟨a1', c1', hv', _, _, _⟩ := ow_lie ho
  have hgne : (Value.slice a1 d.queue.length c1).ownBlock ≠ some g := own_type k2.qs k2.blk (by decide)
  have hg3 : w3.heap[g]? = some (.cells #[.slice a0 d.base.length c0, .slice a1 d.queue.length c1, .map (some m), .int .i64 d.fuse, .bool d.dead] 65) :=
    (hg.block g (lt_of_heap k2.blk) (fun e => hgne e.symm)).trans k2.blk
  have hs3 : w.heap.size ≤ w3.heap.size := Nat.le_trans hb.size hg.size
  have kg : ∀ i, i < w2.heap.size → (Value.slice a1 d.queue.length c1).ownBlock ≠ some i → i ≠ g → (w3.setCell ⟨g, 1, none⟩ v').heap[i]? = w2.heap[i]? := fun i hi hne hig => by
    rw [heap_setCell_other _ _ _ _ hig]
    exact hg.block i hi fun e => hne e.symm
  have kept : ∀ {e : TypeId} {n kk : Nat} {v : Value} {xs : List Value}, w2.ownsRow 0 e n v kk xs → e ≠ 3 → e ≠ 65 → (w3.setCell ⟨g, 1, none⟩ v').ownsRow 0 e n v kk xs := fun {e n kk v xs} hx h1 h2 =>
    ow_same hx fun i hi => kg i (hx.lt i hi).2 (own_type2 hx k2.qs h1 i hi) fun e2 => own_type hx k2.blk h2 (e2 ▸ hi)
  have hsz : (w3.setCell ⟨g, 1, none⟩ v').heap.size = w3.heap.size := by simp
  have hgv : v'.ownBlock ≠ some g := own_type ho hg3 (by decide)
  subst hv'
  refine ⟨a1', c1', rfl, ?_, ⟨?_, ?_, ?_, by rw [hsz]; exact hs3, fun i hi hn => ?_⟩, hg3⟩
  · have hl : (d.queue ++ [p]).length = d.queue.length + 1 := by simp
    constructor
    · exact hok
    · show _ = some (Obj.cells #[_, .slice a1' (d.queue ++ [p]).length c1', _, _, _] _ _)
      rw [heap_setCell_same _ _ _ _ _ _ hg3, hl]
      rfl
    · exact kept k2.bs (by decide) (by decide)
    · show (w3.setCell _ _).ownsRow 0 _ 1 (.slice a1' (d.queue ++ [p]).length c1') (d.queue ++ [p]).length (qcells (d.queue ++ [p]))
      rw [hl, qcells_app]
      exact ow_same ho fun i hi => heap_setCell_other _ _ _ _ fun e => hgv (by rw [show i = g from e] at hi; exact hi)
    · exact k2.mp.same (kg m k2.mp.lt (own_map k2.qs k2.mp) (map_row k2.mp k2.blk))
    · show cnt ≤ (d.queue ++ [p]).length
      have := k.cn
      rw [hl]; omega
    · exact fun x hx => kept (k2.sh x hx) (by decide) (by decide)
    · exact k.nb
    · exact k.ne
    · exact Or.inl k.fg
    · exact Or.inl k.fm
    · exact fun i hi => Or.inl (k.fb i hi)
    · intro i hi
      have hi' : (Value.slice a1' (d.queue.length + 1) c1').ownBlock = some i := by rw [← hl]; exact hi
      rcases hv with e | e
      · rw [hi'] at e; exact Or.inl (k.fq i e.symm)
      · rw [hi'] at e
        injection e with e
        exact Or.inr ⟨by rw [e]; exact hb.size, by have := (ho.lt i hi').2; omega⟩
    · exact fun x i hx hi => Or.inl (k.fs x i hx hi)
    · intro i hi
      rw [hsz]
      rcases hi with hi | hi
      · exact Nat.lt_of_lt_of_le (k.fl i hi) hs3
      · exact hi.2
  · show w3.os = w.os; exact hg.os.trans hb.os
  · show w3.tape = w.tape; exact hg.tape.trans hb.tape
  · show w3.output = w.output; exact hg.output.trans hb.output
  · exact (kg i (by have := hb.size; omega) (fun e => hn (k.fq i e)) (fun e => hn (e ▸ k.fg))).trans (hb.block i hi)
/-- one more on its way to x -/
def addS (S : Int → List Sec) (x : Int) (s : Sec) : Int → List Sec := fun y => if y = x then S x ++ [s] else S y
theorem put_s {w w2 w3 w4 : World} {F : Nat → Prop} {g : Nat} {d : Dk} {S : Int → List Sec} {a0 : Option Addr} {c0 : Nat} {a1 : Option Addr} {c1 m cnt : Nat} {f : Int → Value} (k : DMemS w F g d S a0 c0 a1 c1 m cnt f) {x : Int} (hx : I x) (s : Sec) (hc : cnt + 1 ≤ d.queue.length)
    {v' : Value} (hb : RowKit.Below w.heap.size w w2) (ha : Appd w2 0 75 64 (f x) ((S x).length + 1) (scells (S x) ++ bcells s) v' w3) (hm : MapAt w4 m (cnt + 1) (updF f x v')) (hg4 : w3.grownBy w4 (some m)) (hs4 : w4.heap.size = w3.heap.size) :
    DMemS w4 (More F w w4) g d (addS S x s) a0 c0 a1 c1 m (cnt + 1) (updF f x v') ∧ Only F w w4 := by
  obtain ⟨ho, hg, hv⟩ := ha
  have k2 := k.below hb
  have hs3 : w.heap.size ≤ w3.heap.size := Nat.le_trans hb.size hg.size
  have hv3 : v'.ownBlock ≠ some m := by
    rcases hv with e | e
    · rw [e]; exact own_map (k2.sh x hx) k2.mp
    · rw [e]; intro e2; injection e2 with e2; have := k2.mp.lt; omega
  have kg : ∀ i, i < w2.heap.size → (f x).ownBlock ≠ some i → i ≠ m → w4.heap[i]? = w2.heap[i]? := fun i hi hne him =>
    (hg4.block i (Nat.lt_of_lt_of_le hi hg.size) (fun e => him (by injection e))).trans (hg.block i hi fun e => hne e.symm)
  have kept : ∀ {e : TypeId} {n kk : Nat} {v : Value} {xs : List Value}, w2.ownsRow 0 e n v kk xs → (∀ i, v.ownBlock = some i → (f x).ownBlock ≠ some i) → w4.ownsRow 0 e n v kk xs := fun {e n kk v xs} hx h1 =>
    ow_same hx fun i hi => kg i (hx.lt i hi).2 (h1 i hi) fun e2 => own_map hx k2.mp (e2 ▸ hi)
  have hvn : ∀ i, v'.ownBlock = some i → (f x).ownBlock = some i ∨ (w.heap.size ≤ i ∧ w2.heap.size ≤ i ∧ i < w4.heap.size) := fun i hi => by
    rcases hv with e | e
    · left; rw [← e]; exact hi
    · right
      have h3 := (ho.lt i hi).2
      rw [hi] at e
      injection e with e
      exact ⟨by rw [e]; exact hb.size, by omega, by omega⟩
  have hlt : ∀ {e : TypeId} {n kk : Nat} {v : Value} {xs : List Value}, w2.ownsRow 0 e n v kk xs → ∀ i, v.ownBlock = some i → i < w2.heap.size := fun ho i hi => (ho.lt i hi).2
  refine ⟨?_, ⟨hg4.os.trans (hg.os.trans hb.os), hg4.tape.trans (hg.tape.trans hb.tape), hg4.output.trans (hg.output.trans hb.output), by omega, fun i hi hn => ?_⟩⟩
  · constructor
    · exact k.ok
    · exact (kg g (lt_of_heap k2.blk) (own_type (k2.sh x hx) k2.blk (by decide)) (fun e => map_row k2.mp k2.blk e.symm)).trans k2.blk
    · exact kept k2.bs fun i hi e => k.nb x i hx e hi
    · exact kept k2.qs fun i hi => own_type2 k2.qs (k2.sh x hx) (by decide) i hi
    · exact hm
    · exact hc
    · intro y hy
      by_cases e : y = x
      · subst e
        rw [updF_same, show addS S y s y = S y ++ [s] from if_pos rfl, scells_app, scells_sing, List.length_append]
        exact ow_same ho fun i hi => hg4.block i (ho.lt i hi).2 fun e => hv3 (e ▸ hi)
      · rw [updF_other _ _ e, show addS S x s y = S y from if_neg e]
        exact kept (k2.sh y hy) fun i hi => k.ne y x i hy hx e hi
    · intro y i hy hi
      by_cases e : y = x
      · subst e
        rw [updF_same] at hi
        rcases hvn i hi with h | h
        · exact k.nb y i hy h
        · intro h2; have := hlt k2.bs i h2; omega
      · rw [updF_other _ _ e] at hi
        exact k.nb y i hy hi
    · intro y z i hy hz hyz hi
      by_cases e : y = x
      · subst e
        rw [updF_other _ _ (Ne.symm hyz)]
        rw [updF_same] at hi
        rcases hvn i hi with h | h
        · exact k.ne y z i hy hz hyz h
        · intro h2; have := hlt (k2.sh z hz) i h2; omega
      · rw [updF_other _ _ e] at hi
        by_cases e2 : z = x
        · subst e2
          rw [updF_same]
          intro h2
          rcases hvn i h2 with h | h
          · exact k.ne y z i hy hz hyz hi h
          · have := hlt (k2.sh y hy) i hi; omega
        · rw [updF_other _ _ e2]
          exact k.ne y z i hy hz hyz hi
    · exact Or.inl k.fg
    · exact Or.inl k.fm
    · exact fun i hi => Or.inl (k.fb i hi)
    · exact fun i hi => Or.inl (k.fq i hi)
    · intro y i hy hi
      by_cases e : y = x
      · subst e
        rw [updF_same] at hi
        rcases hvn i hi with h | h
        · exact Or.inl (k.fs y i hy h)
        · exact Or.inr ⟨h.1, h.2.2⟩
      · rw [updF_other _ _ e] at hi
        exact Or.inl (k.fs y i hy hi)
    · intro i hi
      rcases hi with hi | hi
      · have := k.fl i hi; omega
      · exact hi.2
  · exact (kg i (by have := hb.size; omega) (fun e => hn (k.fs x i hx e)) (fun e => hn (e ▸ k.fm))).trans (hb.block i hi)
theorem addS_ofQ (q : List (Nat × Sec)) {x : Int} (h0 : 0 ≤ x) (s : Sec) : addS (ofQ q) x s = ofQ (q ++ [(x.toNat, s)]) := by
  funext y
  have hxx : ((x.toNat : Nat) : Int) = x := by omega
  unfold addS
  rw [ofQ_app]
  by_cases e : y = x
  · subst e
    rw [if_pos rfl]
    have := ofQ_one_same (y.toNat, s)
    rw [show (((y.toNat, s) : Nat × Sec).1 : Int) = y from hxx] at this
    rw [this]
  · rw [if_neg e, ofQ_one_other _ (by rw [show (((x.toNat, s) : Nat × Sec).1 : Int) = x from hxx]; exact e), List.append_nil]
end Go.Proofs.Ytogdmjegcihopaa
