/- DiskDoes: the two disks side by side. -/
import Derived.Test.YtcboknigjpdmpaaDkDe
namespace Go.Proofs.Ytcboknigjpdmpaa
open Go.RowKit Go.Lib

theorem dd_at {w w' : World} {a : Option Addr} {n : Nat} {l : List Dd} (h : CameD w a n l) (hb : RowKit.Below w.heap.size w w') {k : Nat} (hk : k < n) : ∃ x b off, l[k]? = some x ∧ x ∈ l ∧ a = some ⟨b, off, none⟩ ∧ w'.rangeAt b (off + k * 4) (dcs x) := by
  obtain ⟨x, hx⟩ : ∃ x, l[k]? = some x := ⟨_, List.getElem?_eq_getElem (by rw [h.ln]; exact hk)⟩
  obtain ⟨b, off, ha, _, hr⟩ := (h.li.below hb).get (n := 4) (fun _ _ => rfl) (by decide) hx
  exact ⟨x, b, off, hx, List.mem_of_getElem? hx, ha, hr⟩
theorem q_at {w : World} {a : Option Addr} {q : List (Nat × Sec)} (h : Lie w a (qcells q)) {i : Nat} {p : Nat × Sec} (hp : q[i]? = some p) : ∃ b off, a = some ⟨b, off, none⟩ ∧ w.cell? ⟨b, off + i, none⟩ = some (.int .i64 (p.1 : Int)) := by
  rcases h with h | ⟨b, off, ha, hb, hr⟩
  · rw [List.map_eq_nil_iff.1 h] at hp; cases hp
  · exact ⟨b, off, ha, hr i _ (by unfold qcells; rw [List.getElem?_map, hp]; rfl)⟩
/-- the project's disk at g, the document's in block b6 -/
structure DD (w wr : World) (F : Nat → Prop) (g b6 : Nat) (d : Dk) (R : List Value) : Prop where
  dt : DAt wr F g d
  b6h : wr.heap[b6]? = some (.cells R.toArray 36)
  rr : ∃ a0 c0 a1 c1, R = rcs d.norm a0 c0 a1 c1 ∧ RM wr (FB F fun i => i = b6) d.norm a0 a1
  nf : ¬ F b6
  fr : ∀ i, F i → w.heap.size ≤ i
  b6l : w.heap.size ≤ b6
  bl : RowKit.Below w.heap.size w wr
theorem DD.below {w wr w' : World} {F : Nat → Prop} {g b6 : Nat} {d : Dk} {R : List Value} (h : DD w wr F g b6 d R) (hb : RowKit.Below wr.heap.size wr w') : DD w w' F g b6 d R := by
  obtain ⟨a0, c0, a1, c1, e, hr⟩ := h.rr
  exact ⟨h.dt.below hb, (hb.block _ (lt_of_heap h.b6h)).trans h.b6h, ⟨a0, c0, a1, c1, e, hr.below hb⟩, h.nf, h.fr, h.b6l, h.bl.trans (hb.mono h.bl.size)⟩
theorem DD.next {w W w5 w6 : World} {F F' : Nat → Prop} {g b6 : Nat} {d d' : Dk} {R R' : List Value} {a0 : Option Addr} {c0 : Nat} {a1 : Option Addr} {c1 : Nat} (h : DD w W F g b6 d R) (hd : DAt w5 F' g d') (hr : RM w5 (FB F' fun i => i = b6) d'.norm a0 a1) (ho : Only F W w5) (hF : ∀ i, F' i → F i ∨ W.heap.size ≤ i) (hb : RowKit.Below w5.heap.size w5 w6) (hR : R' = rcs d'.norm a0 c0 a1 c1) : DD w (w6.setRow b6 R'.toArray) F' g b6 d' R' := by
  have hlt := lt_of_heap h.b6h
  have hnf : ¬ F' b6 := fun e => (hF _ e).elim h.nf fun e => by omega
  have h6 : w6.heap[b6]? = some (.cells R.toArray 36) := (hb.block _ (Nat.lt_of_lt_of_le hlt ho.size)).trans ((ho.block _ hlt h.nf).trans h.b6h)
  have hbl : RowKit.Below w.heap.size w w6 := (ho.below h.bl h.fr h.bl.size).trans (hb.mono (Nat.le_trans h.bl.size ho.size))
  exact ⟨(hd.below hb).same (by simp) fun i hi => setRow_other _ _ _ _ fun e => hnf (e ▸ hi), setRow_heap _ _ _ _ _ _ h6, ⟨a0, c0, a1, c1, hR, (hr.below hb).other (only_setRow w6 (Or.inr rfl) _) fun i hi => Or.inl hi⟩, hnf, fun i hi => (hF i hi).elim (h.fr i) fun e => Nat.le_trans h.bl.size e, h.b6l, below_setRow hbl h.b6l⟩
end Go.Proofs.Ytcboknigjpdmpaa
