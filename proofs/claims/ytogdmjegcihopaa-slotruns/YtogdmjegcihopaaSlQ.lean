
/- Both disks in one world: the document's slot; a place of three numbers. -/
import Derived.Test.YtogdmjegcihopaaSlDE
import Derived.Test.YtogdmjegcihopaaSlFG
import Derived.Test.YtogdmjegcihopaaSlPS
import Derived.Test.YtogdmjegcihopaaSnA
import Derived.Laws.IdiomArrays
namespace Go.Proofs.Ytogdmjegcihopaa
set_option maxRecDepth 100000
open Go.ChangeShapes Go.WideShapes Go.ChangeAt Go.RowKit Go.Lib

theorem TD.rread {w0 wr : World} {F : Nat → Prop} {g b8 : Nat} {d r : Dk} {R : List Value} (h : TD w0 wr F g b8 d r R) {x s : Int} (hx : I x) (hs : I s) :
    Calls Try.prog 23 #[.agg R.toArray, .int .i64 x, .int .i64 s] wr (SlRes (r.slot x s) wr) := by
  obtain ⟨a0, c0, a1, c1, e, k⟩ := h.rr
  rw [e]
  exact rsread_any r a0 c0 a1 c1 _ x s wr k hx hs
theorem TD.rnext {w0 wr : World} {F : Nat → Prop} {g b8 : Nat} {d r : Dk} {R : List Value} (h : TD w0 wr F g b8 d r R) {x s : Int} (hx : I x) (hs : I s) :
    Calls Try.prog 24 #[.agg R.toArray, .int .i64 x, .int .i64 s] wr (NxRes (r.next x s) wr) := by
  obtain ⟨a0, c0, a1, c1, e, k⟩ := h.rr
  rw [e]
  exact rsnext_any r a0 c0 a1 c1 _ x s wr k hx hs
theorem TD.rput {w0 wr : World} {F : Nat → Prop} {g b8 : Nat} {d r : Dk} {R : List Value} (h : TD w0 wr F g b8 d r R) {x s : Int} (hx : I x) (hs : I s) {l : List UInt8} {a : Option Addr} {len cap : Nat} (hb : BAt wr a l) (hl : l.length = len) (ha : a = none → l = []) (hm : len ≤ 500000) (hq : r.queue.length < 9700) :
    Calls Try.prog 14 #[.agg R.toArray, .int .i64 x, .int .i64 s, .slice a len cap] wr (RSwRes (fun i => F i ∨ i = b8) (r.slotW x s l) wr) := by
  obtain ⟨a0, c0, a1, c1, e, k⟩ := h.rr
  rw [e]
  exact rsput_any r a0 c0 a1 c1 _ x s l a len cap wr h.lt k hx hs hb hl ha hm hq
theorem CameA.below {w w' : World} {a : Option Addr} {n : Nat} {l : List Ac} (h : CameA w a n l) (hb : RowKit.Below w.heap.size w w') : CameA w' a n l :=
  ⟨h.li.below hb, h.ln, fun x hx => ⟨⟨(h.gd x hx).bp.row.below hb, (h.gd x hx).bp.ln, (h.gd x hx).bp.cp, (h.gd x hx).bp.max, (h.gd x hx).bp.nil⟩, (h.gd x hx).kp.below hb, (h.gd x hx).kl, (h.gd x hx).ik, (h.gd x hx).ii, (h.gd x hx).sl⟩⟩
theorem spanN_1004 {n : Nat} (h : n ≤ 1000) : spanN (n + 4) ≤ 20 := by unfold spanN; rw [if_pos (by omega)]; omega
theorem array3 (T : Array Value) (h : T.size = 3) : ∃ v0 v1 v2 : Value, T = #[v0, v1, v2] := by
  rcases T with ⟨l⟩
  match l, h with
  | [a, b, c], _ => exact ⟨a, b, c, rfl⟩
section
variable {H : Type} {enc : TypeId × Value → H} {w : World} {base : Nat} {spare : Nat → Bool} {held : Bool}
theorem open_i3 {r : Reach} {b0 : Nat} {v : Value} {x : DataW H} {p : List MemPlace} (hv : Value.okWide Try.prog w r b0 33 v) (h : DataW.Trod enc Try.prog w base spare held 33 v x p) : ∃ k0 k1 k2 : Int, v = .agg #[.int .i64 k0, .int .i64 k1, .int .i64 k2] ∧ I k0 ∧ I k1 ∧ I k2 := by
  simp only [Value.okWide, Try.underlying33] at hv
  obtain ⟨cs, rfl, hsz, _⟩ := hv
  obtain ⟨c0, c1, c2, rfl⟩ := array3 _ (hsz.trans (show Try.prog.cellsOf 33 = 3 by kernel_rfl))
  obtain ⟨fuel, hf⟩ := h
  obtain ⟨y0, y1, y2, n, _, g0, g1, g2⟩ := trod_array3 Try.underlying33 (by kernel_rfl) hf
  obtain ⟨k0, e0, _, w0⟩ := DataW.trod_int Try.underlying3 g0
  obtain ⟨k1, e1, _, w1⟩ := DataW.trod_int Try.underlying3 g1
  obtain ⟨k2, e2, _, w2⟩ := DataW.trod_int Try.underlying3 g2
  simp at e0 e1 e2
  subst e0 e1 e2
  exact ⟨k0, k1, k2, rfl, fitI w0, fitI w1, fitI w2⟩
end
end Go.Proofs.Ytogdmjegcihopaa
