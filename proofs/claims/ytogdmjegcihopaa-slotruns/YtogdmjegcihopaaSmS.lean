
/- falseworklaw09: great. -/
import Derived.Test.YtogdmjegcihopaaSmP
import Derived.Test.YtogdmjegcihopaaSmR
namespace Go.Proofs.Ytogdmjegcihopaa
set_option maxRecDepth 100000
open Go.RowKit Go.Lib

def Small (l : List Ac) : Prop := l.length ≤ 40 ∧ ∀ x ∈ l, x.bn ≤ 1000 ∧ x.kn ≤ 400
/-- an act in a new block -/
structure AcAt (w : World) (b : Nat) (x : Ac) : Prop where
  c0 : w.cell? ⟨b, 0, none⟩ = some (.int .i64 x.kind)
  c1 : w.cell? ⟨b, 1, none⟩ = some (.int .i64 x.at_)
  c2 : w.cell? ⟨b, 2, none⟩ = some (.int .u64 (x.st : Int))
  c3 : w.cell? ⟨b, 3, none⟩ = some (.slice x.ba x.bn x.bc)
  c4 : w.cell? ⟨b, 4, none⟩ = some (.slice x.ka x.kn x.kc)
  lt : b < w.heap.size
theorem AcAt.below {w w' : World} {b : Nat} {x : Ac} (h : AcAt w b x) (hb : RowKit.Below w.heap.size w w') : AcAt w' b x :=
  ⟨cell_bl h.c0 hb, cell_bl h.c1 hb, cell_bl h.c2 hb, cell_bl h.c3 hb, cell_bl h.c4 hb, Nat.lt_of_lt_of_le h.lt hb.size⟩
end Go.Proofs.Ytogdmjegcihopaa
