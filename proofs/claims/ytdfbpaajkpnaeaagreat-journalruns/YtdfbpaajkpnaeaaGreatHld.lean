/- A drawn region, by hand: the condition on worlds may be made stronger on the way. -/
import Derived.Test.YtdfbpaajkpnaeaaGreatPkB
import Derived.Deep.RegionHeld3
namespace Go.Proofs.YtdfbpaajkpnaeaaGreat
set_option maxRecDepth 100000
open Go.RowKit Go.Lib

section
variable {P : Program} {md : Region.Mode} {Q : Exit → Act → World → Prop} {S : World → Prop}
theorem held_mono {ops : Array Oper} {S S' : World → Prop} (h : ∀ w, S' w → S w) :
    ∀ (fuel : Nat) (listed : Array Bool) (a : Act) (w : World), wpAnyH P md ops Q S' fuel listed a w → wpAnyH P md ops Q S fuel listed a w
  | 0, _, _, _, k => k
  | fuel + 1, _, _, _, k => ⟨k.1, fun i hi => wpOp_mono (fun a' w' h' => ⟨h w' h'.1, held_mono h fuel _ a' w' h'.2⟩) (k.2 i hi)⟩
/-- from here on: all that was there is as it was -/
theorem held_since {ops : Array Oper} {w0 w1 : World} {fuel : Nat} {listed : Array Bool} {a : Act} {w : World} (hb : RowKit.Below w0.heap.size w0 w1)
    (h : RowKit.Below w1.heap.size w1 w1 → wpAnyH P md ops Q (fun W => RowKit.Below w1.heap.size w1 W) fuel listed a w) : wpAnyH P md ops Q (fun W => RowKit.Below w0.heap.size w0 W) fuel listed a w :=
  held_mono (fun _ k => hb.trans (k.mono hb.size)) _ _ _ _ (h (RowKit.Below.refl _ _))
theorem at_drop {l : List Oper} {i : Nat} {oi : Oper} {rest : List Oper} (hd : l.drop i = oi :: rest) : l.toArray[i]? = some oi := by
  have : (l.drop i)[0]? = some oi := by rw [hd]; rfl
  rw [List.getElem?_drop] at this
  simpa using this
/-- an operation is taken first -/
theorem held_take {l : List Oper} (i : Nat) {oi : Oper} {rest : List Oper} {v : Value} {fuel : Nat} {listed : Array Bool} {a : Act} {w : World} (hd : l.drop i = oi :: rest)
    (hs : Region.noSelect l.toArray = true) (hf : Region.free md l.toArray listed i = true) (hr : (Region.ready md l.toArray listed).contains i = true)
    (hQ : ∀ c a w, Q (.panic c) (a.put oi.dst v) w → Q (.panic c) a w) (hS : S w) (hw : Region.wanted oi (yielded l.toArray a.tmps) = true)
    (hy : ∀ w, S w → (execOp a.eval oi).run P w = .ok (.value v) w)
    (h : wpAnyH P md l.toArray Q S fuel (listed.setIfInBounds i true) (a.put oi.dst v) w) : wpAnyH P md l.toArray Q S (fuel + 1) listed a w :=
  wpAnyH_take (at_drop hd) hs hf hr hQ (Or.inl ⟨hw, hy⟩) hS h
/-- the one operation that may come up -/
theorem held_next {l : List Oper} (i : Nat) {oi : Oper} {rest : List Oper} {fuel : Nat} {listed : Array Bool} {a : Act} {w : World} (hd : l.drop i = oi :: rest) (hr : Region.ready md l.toArray listed = [i])
    (hw : Region.wanted oi (yielded l.toArray a.tmps) = true)
    (h : ∀ K' : Act → World → Prop, Shut (∀ a w, S w → (S w → wpAnyH P md l.toArray Q S fuel (listed.setIfInBounds i true) a w) → K' a w) → Oper.wp P oi a w K' Q) : wpAnyH P md l.toArray Q S (fuel + 1) listed a w :=
  wpAnyH_ready hr (by simp) (AllReadyH.cons (at_drop hd) (fun K hK => by rw [if_pos hw]; exact h K hK) AllReadyH.nil)
end
end Go.Proofs.YtdfbpaajkpnaeaaGreat
