/- The table of the months' lengths, as the rows lay it; a date as an argument. -/
import Derived.Test.YtfifollmpohcoaaDoorCivB
import Derived.WalkKit
import Derived.ProofKit
import Derived.OpenShut
import Derived.ShutString
import Derived.ChangeOld
import Derived.Below
import Derived.SevenTiedAt
import Derived.Lib.SmallJoins
import Derived.Deep.DeepHandedRow
import Derived.Lib.LaidTab
namespace Go.Proofs.YtfifollmpohcoaaDoor
open Go.ChangeShapes Go.WideShapes Go.ChangeAt Go.RowKit

theorem own : ownKnob Tryd.prog.godebug = none := by kernel_rfl
theorem gTab : Tryd.prog.globalNamed "falsework/civil.lengths" = some 0 := by kernel_rfl
theorem gTabType : (Tryd.prog.globals[0]?).map (·.type) = some 46 := by kernel_rfl
theorem cellsTab : Tryd.prog.cellsOf 46 = 12 := by kernel_rfl
theorem cellsInt : Tryd.prog.cellsOf 3 = 1 := by kernel_rfl
theorem cell_lt {w : World} {b o : Nat} {v : Value} (h : w.cell? ⟨b, o, none⟩ = some v) : b < w.heap.size := by
  by_cases c : b < w.heap.size
  · exact c
  · have : w.heap[b]? = none := by simp; omega
    simp [World.cell?, this] at h
theorem lens_of {W : World} (h : laidMetH Tryd.prog [("falsework/civil.lengths", Rows.laid_falsework_civil_lengths)] W) : Lens W := by
  have t : Lib.TabIs Tryd.prog W "falsework/civil.lengths" .i64 lensL := Lib.tabIs_of_head (rest := []) gTab gTabType Tryd.underlying46 Tryd.underlying3 cellsInt cellsTab h
  exact ⟨cell_lt (t.cell gTab 0 (by decide)), fun i hi => t.cell gTab i hi⟩
theorem fits {a : Int} (h : (Lit.int .i64 a).wf = true) : I a := bounds_i64 h
end Go.Proofs.YtfifollmpohcoaaDoor
