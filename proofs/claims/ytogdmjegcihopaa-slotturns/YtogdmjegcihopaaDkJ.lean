
/- Package disk: settle, what a round leaves. -/
import Derived.Test.YtogdmjegcihopaaDkI
namespace Go.Proofs.Ytogdmjegcihopaa
set_option maxRecDepth 100000
open Go.RowKit Go.Lib

theorem ow_setCells {B : Nat} {e : TypeId} {size g n cap : Nat} : ∀ (vs : List Value) (o : Nat) (w : World) (xs : List Value), w.ownsRow B e size (.slice (some ⟨g, 0, none⟩) n cap) n xs → o + vs.length ≤ xs.length →
    (w.setCells g o vs).ownsRow B e size (.slice (some ⟨g, 0, none⟩) n cap) n (xs.take o ++ vs ++ xs.drop (o + vs.length)) ∧ w.grownBy (w.setCells g o vs) (some g)
  | [], o, w, xs, h, _ => by
    rw [World.setCells]
    refine ⟨?_, ⟨rfl, rfl, rfl, Nat.le_refl _, fun _ _ _ => rfl⟩⟩
    simpa using h
  | v :: r, o, w, xs, h, hl => by
    rw [List.length_cons] at hl
    have hs := World.ownsRow.stored h o v
    have ih := ow_setCells r (o + 1) (w.setCell ⟨g, o, none⟩ v) (xs.set o v) hs.1 (by rw [List.length_set]; omega)
    rw [World.setCells]
    refine ⟨?_, hs.2.trans ih.2⟩
    have e1 : (xs.set o v).take (o + 1) = xs.take o ++ [v] := by
      rw [List.take_succ_eq_append_getElem (by rw [List.length_set]; omega), List.getElem_set_self, List.take_set, List.set_eq_of_length_le (by rw [List.length_take]; exact Nat.min_le_left _ _)]
    have e2 : (xs.set o v).drop (o + 1 + r.length) = xs.drop (o + (v :: r).length) := by
      rw [List.drop_set_of_lt (by omega), List.length_cons]
      congr 1; omega
    have := ih.1
    rw [e1, e2] at this
    simpa using this
theorem ow_head {w : World} {B : Nat} {e : TypeId} {size n k cap : Nat} {a : Option Addr} {xs : List Value} (h : w.ownsRow B e size (.slice a n cap) k xs) (hk : 0 < k) : ∃ g cur, a = some ⟨g, 0, none⟩ ∧ w.heap[g]? = some (.cells cur e) := by
  rcases h.2 with ⟨hv, h0⟩ | ⟨g, cap', cur, hv, _, hg, _⟩
  · omega
  · simp only [Value.slice.injEq] at hv
    exact ⟨g, cur, hv.1, hg⟩
theorem ow_range {w : World} {B : Nat} {e : TypeId} {size n cap g : Nat} {xs : List Value} (h : w.ownsRow B e size (.slice (some ⟨g, 0, none⟩) n cap) n xs) : w.rangeAt g 0 xs := fun j v hv => by
  have hj : j < n * size := by rw [← h.1]; exact (List.getElem?_eq_some_iff.1 hv).1
  rw [Nat.zero_add, World.ownsRow.cellAt h j hj]; exact hv
theorem ow_there {w : World} {B : Nat} {e : TypeId} {size n cap g : Nat} {xs : List Value} (h : w.ownsRow B e size (.slice (some ⟨g, 0, none⟩) n cap) n xs) {o l : Nat} (hl : o + l ≤ n * size) : w.there g o l := fun j hj => by
  refine ⟨?_, World.ownsRow.frozenAt h _⟩
  rw [World.ownsRow.cellAt h (o + j) (by omega), List.getElem?_eq_getElem (by rw [h.1]; omega)]
  rfl
/-- what is left on its way to a sector -/
def Sh (w : World) (V : Value) (m : Nat) (v : Value) (L : List Sec) : Prop :=
  ∃ a cap, v = .slice a L.length cap ∧ L.length ≤ cap ∧ ∀ j s, L[j]? = some s → ∃ b off, a = some ⟨b, off, none⟩ ∧ V.ownBlock ≠ some b ∧ b ≠ m ∧ b < w.heap.size ∧ w.rangeAt b (off + j * 64) (bcells s)
theorem Sh.tail {w : World} {V : Value} {m : Nat} {b off cap : Nat} {s : Sec} {L : List Sec} (h : Sh w V m (.slice (some ⟨b, off, none⟩) (L.length + 1) cap) (s :: L)) : Sh w V m (.slice (if cap = 1 then some ⟨b, off, none⟩ else some ⟨b, off + 64, none⟩) L.length (cap - 1)) L := by
  obtain ⟨a, cap', hv, hc, hj⟩ := h
  simp only [Value.slice.injEq] at hv
  obtain ⟨rfl, _, rfl⟩ := hv
  rw [List.length_cons] at hc
  refine ⟨_, _, rfl, by omega, fun j s' hs => ?_⟩
  have hl : j < L.length := (List.getElem?_eq_some_iff.1 hs).1
  obtain ⟨b', off', ha, h1, h2, h3, h4⟩ := hj (j + 1) s' (by rw [List.getElem?_cons_succ]; exact hs)
  cases ha
  rw [if_neg (by omega)]
  exact ⟨b, off + 64, rfl, h1, h2, h3, by rw [show off + 64 + j * 64 = off + (j + 1) * 64 by omega]; exact h4⟩
/-- k of the queue have gone into the base -/
structure St (w wr : World) (d : Dk) (a0 : Option Addr) (c0 m : Nat) (cm : Nat → Nat) (k cnt : Nat) (f : Int → Value) : Prop where
  mp : MapAt wr m cnt f
  cn : cnt ≤ d.queue.length + k
  bs : wr.ownsRow 0 75 64 (.slice a0 d.base.length c0) d.base.length (scells (stl cm d.queue d.base k))
  on : Only (fun i => (Value.slice a0 d.base.length c0).ownBlock = some i ∨ i = m) w wr
  sh : ∀ x, I x → Sh w (.slice a0 d.base.length c0) m (f x) (ofQ (d.queue.drop k) x)
theorem St.start {w : World} {F : Nat → Prop} {g : Nat} {d : Dk} {a0 : Option Addr} {c0 : Nat} {a1 : Option Addr} {c1 m cnt : Nat} {f : Int → Value} (h : DMem w F g d a0 c0 a1 c1 m cnt f) (cm : Nat → Nat) : St w w d a0 c0 m cm 0 cnt f := by
  refine ⟨h.mp, by have := h.cn; omega, h.bs, Only.refl _ _, fun x hx => ?_⟩
  rw [List.drop_zero]
  obtain ⟨a, cap, hv, hl, hc, _⟩ := ow_lie (h.sh x hx)
  refine ⟨a, cap, hv, hc, fun j s hs => ?_⟩
  obtain ⟨b, off, ha, hb, hr⟩ := hl.get (fun s hs => cells_len s (by obtain ⟨p, hp, rfl, _⟩ := ofQ_mem hs; exact h.ok.ql p hp)) (by decide) hs
  have hob : (f x).ownBlock = some b := by rw [hv, ha]; rfl
  exact ⟨b, off, ha, h.nb x b hx hob, fun e => own_map (h.sh x hx) h.mp (e ▸ hob), hb, hr⟩
/-- worlds in which nothing but new blocks has come -/
theorem St.below {w wr wx : World} {d : Dk} {a0 : Option Addr} {c0 m : Nat} {cm : Nat → Nat} {k cnt : Nat} {f : Int → Value} (h : St w wr d a0 c0 m cm k cnt f) (hb : RowKit.Below wr.heap.size wr wx) : St w wx d a0 c0 m cm k cnt f :=
  ⟨h.mp.same (hb.block _ h.mp.lt), h.cn, ow_same h.bs fun i hi => hb.block i (h.bs.lt i hi).2, h.on.trans (Only.of_below hb) fun _ hi => Or.inl hi, h.sh⟩
/-- a round -/
theorem St.step {w wr w4 w5 : World} {d : Dk} {g0 c0 m : Nat} {cm : Nat → Nat} {k cnt : Nat} {f : Int → Value} (hm : ∀ k, cm k ≤ 64) (hd : d.Ok) (h : St w wr d (some ⟨g0, 0, none⟩) c0 m cm k cnt f) (hk : k < d.queue.length) {p : Nat × Sec} (hp : d.queue[k]? = some p) {b off cap : Nat}
    (hs : f (p.1 : Int) = .slice (some ⟨b, off, none⟩) ((ofQ (d.queue.drop (k + 1)) (p.1 : Int)).length + 1) cap) (hb : RowKit.Below wr.heap.size wr w4)
    (hM : MapAt w5 m (cnt + 1) (updF f (p.1 : Int) (.slice (if cap = 1 then some ⟨b, off, none⟩ else some ⟨b, off + 64, none⟩) (ofQ (d.queue.drop (k + 1)) (p.1 : Int)).length (cap - 1)))) (hg : (w4.setCells g0 (p.1 * 64) (bcells (cutS p.2 ((stl cm d.queue d.base k).getD p.1 []) (cm k)))).grownBy w5 (some m)) :
    St w w5 d (some ⟨g0, 0, none⟩) c0 m cm (k + 1) (cnt + 1) (updF f (p.1 : Int) (.slice (if cap = 1 then some ⟨b, off, none⟩ else some ⟨b, off + 64, none⟩) (ofQ (d.queue.drop (k + 1)) (p.1 : Int)).length (cap - 1))) := by
  have h4 := h.below hb
  have hmem := List.mem_of_getElem? hp
  have hi := hd.qi p hmem
  have hpl := hd.ql p hmem
  have hI : I (p.1 : Int) := by have := hd.sz; unfold I; omega
  have hlen : ∀ s ∈ stl cm d.queue d.base k, s.length = 64 := stl_ok hm hd.bl hd.qi hd.ql k (by omega)
  have hbl : (stl cm d.queue d.base k).length = d.base.length := stl_len _ _ _ _
  have hold : ((stl cm d.queue d.base k).getD p.1 []).length = 64 := hlen _ (getD_mem (by rw [hbl]; exact hi))
  have hcl := cutS_len hpl hold (hm k)
  have hsl := cells_len _ hcl
  have hsc : (scells (stl cm d.queue d.base k)).length = d.base.length * 64 := by rw [scells_len hlen, hbl]
  obtain ⟨ho, hgr⟩ := ow_setCells (bcells (cutS p.2 ((stl cm d.queue d.base k).getD p.1 []) (cm k))) (p.1 * 64) w4 _ h4.bs (by rw [hsl, hsc]; omega)
  rw [hsl] at ho
  have hst : stl cm d.queue d.base (k + 1) = (stl cm d.queue d.base k).set p.1 (cutS p.2 ((stl cm d.queue d.base k).getD p.1 []) (cm k)) := by
    rw [stl, show d.queue.getD k (0, []) = p by rw [List.getD, hp]; rfl]
  have hmg : m ≠ g0 := by
    obtain ⟨g', cur, e1, e2⟩ := ow_head h4.bs (by omega)
    cases e1
    exact map_row h4.mp e2
  refine ⟨hM, by have := h.cn; omega, ?_, ?_, fun x hx => ?_⟩
  · rw [hst]
    have e : scells ((stl cm d.queue d.base k).set p.1 (cutS p.2 ((stl cm d.queue d.base k).getD p.1 []) (cm k))) = (scells (stl cm d.queue d.base k)).take (p.1 * 64) ++ bcells (cutS p.2 ((stl cm d.queue d.base k).getD p.1 []) (cm k)) ++ (scells (stl cm d.queue d.base k)).drop (p.1 * 64 + 64) :=
      flat_set (fun y hy => cells_len y (hlen y hy)) (by rw [hbl]; exact hi)
    rw [e]
    refine ow_same ho fun i hi => hg.block i (ho.lt i hi).2 fun e => ?_
    injection e with e
    have : i = g0 := by cases hi; rfl
    exact hmg (e.symm.trans this)
  · refine h4.on.trans (F' := fun i => i = g0 ∨ i = m) ⟨hg.os.trans hgr.os, hg.tape.trans hgr.tape, hg.output.trans hgr.output, Nat.le_trans hgr.size hg.size, fun i hi hn => ?_⟩ (fun i hi => ?_)
    · exact (hg.block i (Nat.lt_of_lt_of_le hi hgr.size) (fun e => hn (Or.inr (by injection e)))).trans (hgr.block i hi fun e => hn (Or.inl (by injection e)))
    · rcases hi with e | e
      · exact Or.inl (Or.inl (by rw [e]; rfl))
      · exact Or.inl (Or.inr e)
  · have hdr : d.queue.drop k = p :: d.queue.drop (k + 1) := by
      rw [List.drop_eq_getElem_cons hk]
      congr 1
      rw [List.getElem?_eq_getElem hk] at hp
      exact Option.some.inj hp
    have hsx := h.sh x hx
    rw [hdr, ofQ_cons] at hsx
    by_cases e : x = (p.1 : Int)
    · subst e
      rw [updF_same]
      rw [ofQ_one_same, hs] at hsx
      exact hsx.tail
    · rw [updF_other _ _ e]
      rw [ofQ_one_other _ e, List.nil_append] at hsx
      exact hsx
end Go.Proofs.Ytogdmjegcihopaa
