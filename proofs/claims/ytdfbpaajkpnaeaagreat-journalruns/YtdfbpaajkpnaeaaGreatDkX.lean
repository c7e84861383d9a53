
/- Package disk: Size and Dead of a disk in memory. -/
import Derived.Test.YtdfbpaajkpnaeaaGreatDkW
namespace Go.Proofs.YtdfbpaajkpnaeaaGreat
set_option maxRecDepth 100000
open Go.RowKit Go.Lib

theorem size_at (g : Nat) (F : Nat → Prop) (d : Dk) (w : World) (h : DAt w F g d) : Calls Tryz.prog 44 #[.pointer (some ⟨g, 0, none⟩)] w fun e w' => e = .returned (.int .i64 (d.base.length : Int)) ∧ w = w' := by
  obtain ⟨_, _, _, _, _, _, _, k⟩ := h
  exact size_any g _ _ _ w k.cells.1
theorem dead_at (g : Nat) (F : Nat → Prop) (d : Dk) (w : World) (h : DAt w F g d) : Calls Tryz.prog 12 #[.pointer (some ⟨g, 0, none⟩)] w fun e w' => e = .returned (.bool d.dead) ∧ w = w' := by
  obtain ⟨_, _, _, _, _, _, _, k⟩ := h
  exact dead_any g _ w k.cells.2.2.2.2
theorem blank_len (n : Int) : (Dk.blank n).base.length = blankN n := List.length_replicate
end Go.Proofs.YtdfbpaajkpnaeaaGreat
