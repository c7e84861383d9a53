/- Bytes of a constant: laid, marked, converted. -/
import Derived.Test.YtdfbpaajkpnaeaaGreatPkB
import Derived.Lib.SlBytesConst
namespace Go.Proofs.YtdfbpaajkpnaeaaGreat
set_option maxRecDepth 100000
open Go.RowKit Go.Lib

/-- bytes that were just laid, and marked -/
theorem bat_mark (w : World) (l : List UInt8) (vs : Array Value) (t : TypeId) (fr : Nat × Nat) {g : Nat} (hg : g = w.heap.size) (h : vs.toList = bcells l) : BAt (w.alloc (.cells vs t fr)) (some ⟨g, 0, none⟩) l := by
  subst hg
  refine Or.inr ⟨w.heap.size, 0, rfl, by simp, fun i hi => ?_⟩
  rw [Nat.zero_add, cell_of_row _ _ _ vs t fr (heap_alloc_new _ _), ← Array.getElem?_toList, h, bcells_get hi]
theorem conv_const (W : World) (C : Array Value) (g n c : Nat) (hg : g = W.heap.size) : (convert 23 23 (.slice (some ⟨g, 0, none⟩) n c)).run Tryz.prog (W.alloc (.cells C 5)) = .ok (.slice (some ⟨g, 0, none⟩) n c) (W.alloc (.cells C 5 (C.size, C.size + 1))) := by
  subst hg
  exact run_convert_bytes_const (P := Tryz.prog) W 23 5 C n c Tryz.underlying23 Tryz.underlying5
end Go.Proofs.YtdfbpaajkpnaeaaGreat
