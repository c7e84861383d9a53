/- The contracts of falseworkref01, tenth part: what Divide wants. -/
import Derived.Test.YtejbblpgdlanoaaDigMem
import Derived.Test.YtejbblpgdlanoaaDivdMath
import Derived.Test.YtejbblpgdlanoaaTimesA
import Derived.Deep.RegionWith
namespace Go.Proofs.Ytejbblpgdlanoaa
open Go.RowKit

theorem Room10.alloc {w : World} {b : Nat} (h : Room10 w b) (o : Obj) : Room10 (w.alloc o) b := h.below ((Below.refl _ _).alloc (Nat.le_refl _) o)
theorem Room10.drewN {w : World} {b : Nat} (h : Room10 w b) (n : Nat) : Room10 (w.drewN n) b := h.below (below_drewN (Below.refl _ _) n)
theorem Room10.drew {w : World} {b : Nat} (h : Room10 w b) : Room10 w.drew b := h.below (Below.refl _ _).drew
theorem cmp_le {x y : Int} (h : x ≤ y) : decide (cmpI x y ≤ 0) = true := by unfold cmpI; split <;> (try split) <;> simp <;> omega
theorem cmp_one {x y : Int} (h : y < x) : cmpI x y = 1 := by unfold cmpI; rw [if_neg (by omega), if_pos h]
theorem cmp_gt {x y : Int} (h : y < x) : decide (cmpI x y ≤ 0) = false := by unfold cmpI; split <;> (try split) <;> simp <;> omega
/-- at whatever world of which R holds -/
theorem wp_gen {P : Program} {c : Code} {Q : Exit → Act → World → Prop} {a : Act} {w : World} (R : World → Prop) (h : R w) (k : ∀ w', R w' → Code.wp P c Q a w') : Code.wp P c Q a w := k w h
/-- the outermost loops of a text -/
def loopsOf : Code → List Code
  | .loop c => [c]
  | .seq a b => loopsOf a ++ loopsOf b
  | .block _ c => loopsOf c
  | .scope c => loopsOf c
  | .cond _ a b => loopsOf a ++ loopsOf b
  | _ => []
end Go.Proofs.Ytejbblpgdlanoaa
