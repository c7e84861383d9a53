
/- falseworklaw09: what came in: two numbers, acts. -/
import Derived.Test.YtdfbpaajkpnaeaaSmO
import Derived.Test.YtdfbpaajkpnaeaaDkY
import Derived.Deep.Slices
import Derived.Lib.SmallJoins
namespace Go.Proofs.Ytdfbpaajkpnaeaa
set_option maxRecDepth 100000
open Go.ChangeShapes Go.WideShapes Go.ChangeAt Go.RowKit Go.Lib

/-- an act: of which kind, where, a stamp, bytes, how many bytes come in -/
structure Ac where
  kind : Int
  at_ : Int
  st : Nat
  ba : Option Addr
  bn : Nat
  bc : Nat
  bs : List UInt8
  ka : Option Addr
  kn : Nat
  kc : Nat
  keep : List Int
instance : Inhabited Ac := ⟨⟨0, 0, 0, none, 0, 0, [], none, 0, 0, []⟩⟩
def acs (x : Ac) : List Value := [.int .i64 x.kind, .int .i64 x.at_, .int .u64 (x.st : Int), .slice x.ba x.bn x.bc, .slice x.ka x.kn x.kc]
theorem acs_cs (x : Ac) : Cs 5 (acs x) := ⟨rfl, fun u hu => by
  simp [acs] at hu
  rcases hu with rfl | rfl | rfl | rfl | rfl <;> rfl⟩
def zA : List Value := [.int .i64 0, .int .i64 0, .int .u64 0, .slice none 0 0, .slice none 0 0]
structure Ac.Good (w : World) (x : Ac) : Prop where
  bp : CameB w x.ba x.bn x.bc x.bs
  kp : Nums w x.ka x.keep
  kl : x.keep.length = x.kn
  ik : I x.kind
  ii : I x.at_
  sl : x.st < 18446744073709551616
structure CameA (w : World) (a : Option Addr) (len : Nat) (l : List Ac) : Prop where
  li : Lie w a (l.flatMap acs)
  ln : l.length = len
  gd : ∀ x ∈ l, x.Good w
theorem u64_wf {n : Int} (h : (Lit.int .u64 n).wf = true) : 0 ≤ n ∧ n < 18446744073709551616 := by
  have e1 : IntKind.u64.min = 0 := by decide
  have e2 : IntKind.u64.max = 18446744073709551615 := by decide
  simp [Lit.wf, e1, e2] at h
  omega
section
variable {H : Type} {enc : TypeId × Value → H} {w : World} {base : Nat} {spare : Nat → Bool} {held : Bool}
end
end Go.Proofs.Ytdfbpaajkpnaeaa
