
/- falseworklaw09: what came in: two numbers, acts. -/
import Derived.Test.YtmgakmdcncemoaaSmO
import Derived.Test.YtmgakmdcncemoaaDkY
import Derived.Deep.Slices
import Derived.Lib.SmallJoins
namespace Go.Proofs.Ytmgakmdcncemoaa
open Go.ChangeShapes Go.WideShapes Go.ChangeAt Go.RowKit Go.Lib

/-- an act: of which kind, where, a stamp, bytes, how many bytes come in -/
structure Ac where
  kind : Int
  at_ : Int
  st : Nat
  ba : Option Addr
  bn : Nat
  bc : Nat
  bs : List UInt8
  ka : Option Addr
  kn : Nat
  kc : Nat
  keep : List Int
instance : Inhabited Ac := ⟨⟨0, 0, 0, none, 0, 0, [], none, 0, 0, []⟩⟩
def acs (x : Ac) : List Value := [.int .i64 x.kind, .int .i64 x.at_, .int .u64 (x.st : Int), .slice x.ba x.bn x.bc, .slice x.ka x.kn x.kc]
theorem acs_cs (x : Ac) : Cs 5 (acs x) := ⟨rfl, fun u hu => by
  simp [acs] at hu
  rcases hu with rfl | rfl | rfl | rfl | rfl <;> rfl⟩
def zA : List Value := [.int .i64 0, .int .i64 0, .int .u64 0, .slice none 0 0, .slice none 0 0]
structure Ac.Good (w : World) (x : Ac) : Prop where
  bp : CameB w x.ba x.bn x.bc x.bs
  kp : Nums w x.ka x.keep
  kl : x.keep.length = x.kn
  ik : I x.kind
  ii : I x.at_
  sl : x.st < 18446744073709551616
structure CameA (w : World) (a : Option Addr) (len : Nat) (l : List Ac) : Prop where
  li : Lie w a (l.flatMap acs)
  ln : l.length = len
  gd : ∀ x ∈ l, x.Good w
theorem u64_wf {n : Int} (h : (Lit.int .u64 n).wf = true) : 0 ≤ n ∧ n < 18446744073709551616 := by
  have e1 : IntKind.u64.min = 0 := by decide
  have e2 : IntKind.u64.max = 18446744073709551615 := by decide
  simp [Lit.wf, e1, e2] at h
  omega
section
variable {H : Type} {enc : TypeId × Value → H} {w : World} {base : Nat} {spare : Nat → Bool} {held : Bool}
theorem open_i2 {r : Reach} {b0 : Nat} {v : Value} {x : DataW H} {p : List MemPlace} (hv : Value.okWide Try.prog w r b0 35 v) (h : DataW.Trod enc Try.prog w base spare held 35 v x p) :
    ∃ y m : Int, v = .agg #[.int .i64 y, .int .i64 m] ∧ I y ∧ I m := by
  simp only [Value.okWide, Try.underlying35] at hv
  obtain ⟨cs, rfl, hsz, _⟩ := hv
  obtain ⟨c0, c1, rfl⟩ := Joins.array2 (hsz.trans (show Try.prog.cellsOf 35 = 2 by kernel_rfl))
  obtain ⟨fuel, hf⟩ := h
  obtain ⟨xs, m, _, hx, hl, hn, hget⟩ := DataW.trod_array Try.underlying35 hf
  have g0 := hget 0 (by omega)
  have g1 := hget 1 (by omega)
  obtain ⟨y0, e0⟩ : ∃ y, xs[0]? = some y := ⟨xs[0], List.getElem?_eq_getElem (by omega)⟩
  obtain ⟨y1, e1⟩ : ∃ y, xs[1]? = some y := ⟨xs[1], List.getElem?_eq_getElem (by omega)⟩
  rw [e0] at g0
  rw [e1] at g1
  obtain ⟨x, hx0, _, w0⟩ := DataW.trod_int Try.underlying3 g0
  obtain ⟨y, hy0, _, w1⟩ := DataW.trod_int Try.underlying3 g1
  have hE : Try.prog.cellsOf 3 = 1 := by kernel_rfl
  simp [Value.cells, hE] at hx0 hy0
  exact ⟨x, y, by rw [hx0, hy0], fitI w0, fitI w1⟩
end
end Go.Proofs.Ytmgakmdcncemoaa
