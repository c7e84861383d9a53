/- A deed done to both disks: what stays apart. -/
import Derived.Test.YtcboknigjpdmpaaDkTa
namespace Go.Proofs.Ytcboknigjpdmpaa
open Go.RowKit Go.Lib

theorem Only.wide {F G : Nat → Prop} {w w' : World} (h : Only F w w') (hG : ∀ i, F i → G i) : Only G w w' := ⟨h.os, h.tape, h.output, h.size, fun i hi hn => h.block i hi fun e => hn (hG i e)⟩
theorem only_setRow {G : Nat → Prop} (w : World) {b : Nat} (hb : G b) (cs : Array Value) : Only G w (w.setRow b cs) := ⟨rfl, rfl, rfl, by simp, fun i _ hn => setRow_other _ _ _ _ fun e => hn (e ▸ hb)⟩
theorem RM.narrow {w : World} {F G : Nat → Prop} {r : Dk} {a0 a1 : Option Addr} (h : RM w G r a0 a1) (hF : ∀ i, F i → G i) : RM w F r a0 a1 := ⟨h.ok, h.bs, h.b0, h.qs, h.q0, fun b hb e => h.o0 b hb (hF b e), fun b hb e => h.o1 b hb (hF b e), h.l0, h.l1⟩
/-- new blocks are not its own -/
theorem RM.add {w w' : World} {F G : Nat → Prop} {r : Dk} {a0 a1 : Option Addr} (h : RM w G r a0 a1) (hb : RowKit.Below w.heap.size w w') (hF : ∀ i, F i → G i ∨ w.heap.size ≤ i) : RM w' F r a0 a1 :=
  ⟨h.ok, (h.below hb).bs, h.b0, (h.below hb).qs, h.q0, fun b hi e => (hF b e).elim (h.o0 b hi) fun e => by have := h.l0 b hi; omega, fun b hi e => (hF b e).elim (h.o1 b hi) fun e => by have := h.l1 b hi; omega, (h.below hb).l0, (h.below hb).l1⟩
abbrev zD : List Value := [.slice none 0 0, .slice none 0 0, .int .i64 0, .bool false]
/-- the three blocks of the call's own -/
def Own3 (F : Nat → Prop) (w : World) (i : Nat) : Prop := F i ∨ (w.heap.size ≤ i ∧ i < w.heap.size + 3)
structure K3 (w3 W : World) (y : Option Nat) : Prop where
  bl : RowKit.Below w3.heap.size w3 W
  hy : ∀ b, y = some b → w3.heap.size ≤ b ∧ W.heap[b]? = some (.cells zD.toArray 36)
theorem K3.start (w3 : World) : K3 w3 w3.drew none := ⟨⟨rfl, rfl, rfl, Nat.le_refl _, fun _ _ => rfl⟩, nofun⟩
theorem K3.call {w3 W W' : World} {y : Option Nat} (h : K3 w3 W y) (hb : RowKit.Below W.heap.size W W') : K3 w3 W' y :=
  ⟨h.bl.trans (hb.mono h.bl.size), fun b e => ⟨(h.hy b e).1, (hb.block _ (lt_of_heap (h.hy b e).2)).trans (h.hy b e).2⟩⟩
theorem K3.ay {w3 W W' : World} {b : Nat} (h : K3 w3 W none) (he : b = W.heap.size) (hb : RowKit.Below W.heap.size W W') (hn : W'.heap[b]? = some (.cells zD.toArray 36)) : K3 w3 W' (some b) :=
  ⟨(h.call hb).bl, fun c e => by cases e; exact ⟨he ▸ h.bl.size, hn⟩⟩
/-- the document's next disk is there, apart from these -/
def E3 (F : Nat → Prop) (w : World) (r : Dk) (R : List Value) (W : World) (y : Option Nat) : Prop := ∃ (G : Nat → Prop) (a0 : Option Addr) (c0 : Nat) (a1 : Option Addr) (c1 : Nat), R = rcs r a0 c0 a1 c1 ∧ RM W G r a0 a1 ∧ (∀ i, Own3 F w i → G i) ∧ ∀ b, y = some b → G b
theorem E3.call {F : Nat → Prop} {w W W' : World} {r : Dk} {R : List Value} {y : Option Nat} (h : E3 F w r R W y) (hb : RowKit.Below W.heap.size W W') : E3 F w r R W' y := by
  obtain ⟨G, a0, c0, a1, c1, h1, h2, h3, h4⟩ := h
  exact ⟨G, a0, c0, a1, c1, h1, h2.below hb, h3, h4⟩
theorem E3.ay {F : Nat → Prop} {w W W' : World} {r : Dk} {R : List Value} {b : Nat} (h : E3 F w r R W none) (he : b = W.heap.size) (hb : RowKit.Below W.heap.size W W') : E3 F w r R W' (some b) := by
  obtain ⟨G, a0, c0, a1, c1, h1, h2, h3, _⟩ := h
  exact ⟨fun i => G i ∨ i = b, a0, c0, a1, c1, h1, h2.add hb fun i hi => hi.elim Or.inl fun e => Or.inr (by omega), fun i hi => Or.inl (h3 i hi), fun c e => by cases e; exact Or.inr rfl⟩
/-- and now it lies in block b -/
def M3 (F : Nat → Prop) (w w3 : World) (r : Dk) (b : Nat) (R : List Value) (W : World) : Prop := RowKit.Below w3.heap.size w3 W ∧ w3.heap.size ≤ b ∧ W.heap[b]? = some (.cells R.toArray 36) ∧ ∃ a0 c0 a1 c1, R = rcs r a0 c0 a1 c1 ∧ RM W (Own3 F w) r a0 a1
theorem E3.fin {F : Nat → Prop} {w w3 W : World} {r : Dk} {R : List Value} {b : Nat} (h : E3 F w r R W (some b)) (k : K3 w3 W (some b)) : M3 F w w3 r b R (W.setRow b R.toArray) := by
  obtain ⟨G, a0, c0, a1, c1, h1, h2, h3, h4⟩ := h
  have hk := k.hy b rfl
  exact ⟨below_setRow k.bl hk.1, hk.1, setRow_heap _ _ _ _ _ _ hk.2, a0, c0, a1, c1, h1, h2.other (only_setRow W (h4 b rfl) _) fun i hi => Or.inl (h3 i hi)⟩
theorem wp_then3 {P : Program} {c : Code} {Q : Exit → Act → World → Prop} {a : Act} {w : World} (M : Nat → List Value → World → Prop) {A : Nat → List Value → Act} (h : c.wp P (fun e a' w' => e = .normal ∧ ∃ x y, a' = A x y ∧ M x y w') a w) (hQ : ∀ x y W, M x y W → Q .normal (A x y) W) : c.wp P Q a w :=
  Code.wp_mono (fun e a' w' hh => by obtain ⟨rfl, x, y, rfl, h2⟩ := hh; exact hQ x y w' h2) h
theorem wp_allocD {o : Oper} {a : Act} {w : World} {K : Act → World → Prop} {Q : Exit → Act → World → Prop} (ho : o.op = .alloc 36)
    (hq : ∀ b W, b = w.heap.size → RowKit.Below w.heap.size w W → W.heap[b]? = some (.cells zD.toArray 36) → K (a.put o.dst (.pointer (some ⟨b, 0, none⟩))) W) : o.wp Try.prog a w K Q :=
  wp_allocA isD ho (hq _ _ rfl ((RowKit.Below.refl _ _).alloc (Nat.le_refl _) _) (heap_alloc_new w _))
theorem wp_storeD {o : Oper} {a : Act} {w : World} {K : Act → World → Prop} {Q : Exit → Act → World → Prop} (x y : Operand) (ho : o.op = .store 36 x y) (b : Nat) (c old : List Value) (hx : a.eval x = .pointer (some ⟨b, 0, none⟩)) (hy : a.eval y = .agg c.toArray) (hg : w.heap[b]? = some (.cells old.toArray 36)) (hl : old.length = 4) (hc : Cs 4 c)
    (hq : K (a.put o.dst undef) (w.setRow b c.toArray)) : o.wp Try.prog a w K Q :=
  wp_store_row _ _ _ ho b c.toArray hx hy _ old.toArray hg (by rw [isD.size]; simp [hc.len]) (by simp [hl, hc.len]) (all_oneCell_toArray hc.one) hq
theorem put_len (d : Dk) (x : Int) (s : Sec) : (d.put x s).queue.length ≤ d.queue.length + 1 ∧ (d.put x s).base.length = d.base.length := by
  have h1 : d.spend.queue = d.queue ∧ d.spend.base = d.base := by unfold Dk.spend; split <;> exact ⟨rfl, rfl⟩
  unfold Dk.put
  split
  · split
    · exact ⟨by show (d.queue ++ _).length ≤ _; rw [List.length_append]; exact Nat.le_refl _, by first | rfl | exact congrArg _ h1.2⟩
    · exact ⟨by rw [h1.1]; omega, by rw [h1.2]⟩
  · exact ⟨by omega, rfl⟩
/-- two sets of blocks -/
abbrev FB (F B : Nat → Prop) : Nat → Prop := fun i => F i ∨ B i
/-- what a deed comes to; B: blocks that the document's disk keeps off -/
def DeedRes (g : Nat) (F B : Nat → Prop) (d : Dk) (w : World) (e : Ending) (w' : World) : Prop := ∃ d' F' a0 c0 a1 c1, e = .returned (.tuple #[.agg (rcs d'.norm a0 c0 a1 c1).toArray, .bool true]) ∧ DAt w' F' g d' ∧ RM w' (FB F' B) d'.norm a0 a1 ∧ Only F w w' ∧ (∀ i, F' i → F i ∨ w.heap.size ≤ i) ∧ d'.queue.length ≤ d.queue.length + 1 ∧ d'.base.length = d.base.length
/-- the end: the project's disk has done it too, the answer is laid into the result's block -/
theorem deed_end {g : Nat} {F B : Nat → Prop} {d d' : Dk} {w w3 W w9 : World} {R : List Value} {a0 : Option Addr} {c0 : Nat} {a1 : Option Addr} {c1 : Nat} (hF : ∀ i, F i → i < w.heap.size) (h3 : RowKit.Below w.heap.size w w3) (hn : w3.heap.size = w.heap.size + 3) (hb : RowKit.Below w3.heap.size w3 W) (hR : R = rcs d'.norm a0 c0 a1 c1) (hr : RM W (Own3 (FB F B) w) d'.norm a0 a1)
    (hd : Did g F d' W w9) (hq : d'.queue.length ≤ d.queue.length + 1) (hl : d'.base.length = d.base.length) : DeedRes g F B d w (.returned (.tuple #[.agg R.toArray, .bool true])) (w9.setRow (w.heap.size + 2) R.toArray) := by
  obtain ⟨F', k1, k2, k3⟩ := hd
  have hs : w.heap.size + 3 ≤ W.heap.size := by have := hb.size; omega
  have hnF : ¬ F' (w.heap.size + 2) := fun e => (k3 _ e).elim (fun e => by have := hF _ e; omega) fun e => by omega
  have hr9 : RM w9 (fun i => FB F' B i ∨ i = w.heap.size + 2) d'.norm a0 a1 := hr.other (k2.wide fun i hi => Or.inl (Or.inl hi)) fun i hi => hi.elim (fun e => e.elim (fun e => (k3 i e).elim (fun e => Or.inl (Or.inl (Or.inl e))) Or.inr) fun e => Or.inl (Or.inl (Or.inr e))) fun e => Or.inl (Or.inr (by omega))
  have o1 : Only F w W := Only.of_below (h3.trans (hb.mono h3.size))
  refine ⟨d', F', a0, c0, a1, c1, by rw [hR], k1.same (by simp) (fun i hi => setRow_other _ _ _ _ fun e => hnF (e ▸ hi)), hr9.other (only_setRow w9 (Or.inr rfl) _) (fun i hi => Or.inl (Or.inl hi)), ?_, fun i hi => (k3 i hi).imp id fun e => by omega, hq, hl⟩
  have o2 : Only F w w9 := o1.trans k2 fun i hi => Or.inl hi
  exact o2.trans (only_setRow (G := fun i => i = w.heap.size + 2) w9 rfl _) fun i hi => Or.inr (by omega)
end Go.Proofs.Ytcboknigjpdmpaa
