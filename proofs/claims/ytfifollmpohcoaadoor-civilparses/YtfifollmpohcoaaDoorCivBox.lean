/- The walk of falseworklaw03.CivilBack: its parts. -/
import Derived.Test.YtfifollmpohcoaaDoorCivK
namespace Go.Proofs.YtfifollmpohcoaaDoor
open Go.RowKit Go.Sort

/-- a date lies in block b -/
def Box (w : World) (b : Nat) (y m d : Int) : Prop := b < w.heap.size ∧ w.cell? ⟨b, 0, none⟩ = some (.int .i64 y) ∧ w.cell? ⟨b, 1, none⟩ = some (.int .i64 m) ∧ w.cell? ⟨b, 2, none⟩ = some (.int .i64 d)
theorem Box.made (w : World) (y m d : Int) : Box (w.alloc (Obj.cells #[Value.int IntKind.i64 y, Value.int IntKind.i64 m, Value.int IntKind.i64 d] 23)) w.heap.size y m d := by
  obtain ⟨a, b, c⟩ := boxed w y m d 23
  exact ⟨by simp, a, b, c⟩
theorem Box.gr {w w' : World} {b : Nat} {y m d : Int} (h : Box w b y m d) (g : Gr w w') : Box w' b y m d :=
  ⟨Nat.lt_of_lt_of_le h.1 g.size, gcell g h.1 h.2.1, gcell g h.1 h.2.2.1, gcell g h.1 h.2.2.2⟩
end Go.Proofs.YtfifollmpohcoaaDoor
