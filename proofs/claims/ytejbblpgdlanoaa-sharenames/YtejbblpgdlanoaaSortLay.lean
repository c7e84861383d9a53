/- slices.insertionSortCmpFunc at []int: the library's contract, laid at this program. -/
import Derived.Test.YtejbblpgdlanoaaAlive1
import Derived.Shelf.SlSortCmp.Insertion1
namespace Go.Proofs.Ytejbblpgdlanoaa
open Go.RowKit Go.Shelf

/-- which numbers the functions and types of the library's text have here -/
def srt : Ren := ⟨fun _ => 68, fun k => if k = 22 then 76 else if k = 24 then 3 else if k = 25 then 90 else if k = 3 then 3 else if k = 4 then 4 else k, fun k => k⟩

theorem srtLay : SlLaysF.n20 Try.prog srt where
  mixed := by kernel_rfl
  f20 := Exists.intro "slices.insertionSortCmpFunc[int]" ⟨by decide, Try.func68.trans (congrArg some (by kernel_rfl))⟩
  t0 := by kernel_rfl
  a0 := fun _ => by rfl
  z0 := fun _ => by rfl
  v0 := fun _ => by rfl
  t3 := by kernel_rfl
  a3 := Try.isAgg3
  z3 := Try.sizeOf3
  v3 := fun _ => by rfl
  t4 := by kernel_rfl
  a4 := Try.isAgg4
  z4 := Try.sizeOf4
  v4 := fun _ => by rfl
  t22 := by kernel_rfl
  a22 := Try.isAgg76
  z22 := Try.sizeOf76
  v22 := fun _ => by rfl
  a24 := Try.isAgg3
  z24 := Try.sizeOf3
  t25 := by kernel_rfl
  a25 := Try.isAgg90
  z25 := Try.sizeOf90
  v25 := fun _ => by rfl
end Go.Proofs.Ytejbblpgdlanoaa
