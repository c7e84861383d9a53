
/- What the arguments are: deeds. -/
import Derived.Test.YtdfbpaajkpnaeaaDkX
import Derived.Test.YtdfbpaajkpnaeaaCame
import Derived.Deep.Slices
namespace Go.Proofs.Ytdfbpaajkpnaeaa
set_option maxRecDepth 100000
open Go.ChangeShapes Go.WideShapes Go.ChangeAt Go.RowKit

/-- a deed: of which kind, a number, a byte, how many bytes come in -/
structure Dd where
  kind : Int
  n : Int
  paint : UInt8
  ka : Option Addr
  kn : Nat
  kc : Nat
  keep : List Int
instance : Inhabited Dd := ⟨⟨0, 0, 0, none, 0, 0, []⟩⟩
def dcs (x : Dd) : List Value := [.int .i64 x.kind, .int .i64 x.n, .int .u8 (x.paint.toNat : Int), .slice x.ka x.kn x.kc]
theorem dcs_cs (x : Dd) : Cs 4 (dcs x) := ⟨rfl, fun u hu => by
  simp [dcs] at hu
  rcases hu with rfl | rfl | rfl | rfl <;> rfl⟩
structure Dd.Good (w : World) (x : Dd) : Prop where
  kp : Nums w x.ka x.keep
  kl : x.keep.length = x.kn
  ik : I x.kind
  ii : I x.n
structure CameD (w : World) (a : Option Addr) (len : Nat) (l : List Dd) : Prop where
  li : Lie w a (l.flatMap dcs)
  ln : l.length = len
  gd : ∀ x ∈ l, x.Good w
theorem fitI {n : Int} (h : (Lit.int .i64 n).wf = true) : I n := by
  simp [Lit.wf] at h
  have h1 : IntKind.i64.min = -9223372036854775808 := by decide
  have h2 : IntKind.i64.max = 9223372036854775807 := by decide
  unfold I; omega
section
variable {H : Type} {enc : TypeId × Value → H} {w : World} {base : Nat} {held : Bool}
theorem nums_came {a : Option Addr} {len cap : Nat} {x : DataW H} {p : List MemPlace} (h : DataW.Trod enc Try.prog w base (fun _ => true) held 40 (.slice a len cap) x p) : ∃ l : List Int, Nums w a l ∧ l.length = len ∧ ∀ n ∈ l, I n := by
  obtain ⟨l, hc, hw⟩ := ints_came Try.underlying40 Try.underlying3 (by kernel_rfl) h
  refine ⟨l, ?_, hc.ln, fun n hn => fitI (hw n hn)⟩
  rcases hc.row with e | ⟨b, off, ha, hb, hr⟩
  · exact Or.inl (by rw [e]; rfl)
  · refine Or.inr ⟨b, off, ha, hb, fun j v hv => ?_⟩
    rw [List.getElem?_map] at hv
    cases hx : l[j]? with
    | none => rw [hx] at hv; cases hv
    | some y => rw [hx] at hv; cases hv; exact hr j y hx
theorem trod_slice_form {t e : TypeId} (ht : Try.prog.underlying t = some (.slice e)) {fuel : Nat} {v : Value} {y : DataW H × List MemPlace} (h : DataW.trod enc Try.prog w base (fun _ => true) held fuel t [v] = some y) : ∃ a n c, v = .slice a n c := by
  rcases Deep.open_slice ht h with ⟨e1, _⟩ | ⟨a, len, cap, _, _, _, _, e1, _⟩
  · exact ⟨none, 0, 0, by simpa using e1⟩
  · exact ⟨some a, len, cap, by simpa using e1⟩
end
end Go.Proofs.Ytdfbpaajkpnaeaa
