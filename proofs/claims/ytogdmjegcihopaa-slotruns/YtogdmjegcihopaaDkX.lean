
/- Package disk: Size and Dead of a disk in memory. -/
import Derived.Test.YtogdmjegcihopaaDkW
namespace Go.Proofs.Ytogdmjegcihopaa
set_option maxRecDepth 100000
open Go.RowKit Go.Lib

theorem size_at (g : Nat) (F : Nat → Prop) (d : Dk) (w : World) (h : DAt w F g d) : Calls Try.prog 41 #[.pointer (some ⟨g, 0, none⟩)] w fun e w' => e = .returned (.int .i64 (d.base.length : Int)) ∧ w = w' := by
  obtain ⟨_, _, _, _, _, _, _, k⟩ := h
  exact size_any g _ _ _ w k.cells.1
theorem blank_len (n : Int) : (Dk.blank n).base.length = blankN n := List.length_replicate
end Go.Proofs.Ytogdmjegcihopaa
