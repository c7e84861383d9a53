/- share.greatestFirst's comparison of two places. -/
import Derived.Test.YtejbblpgdlanoaaSortLay
import Derived.Test.YtejbblpgdlanoaaWide2
import Derived.Deep.QuietTactic
import Derived.BigQuiet
namespace Go.Proofs.Ytejbblpgdlanoaa
open Go.RowKit Go.Shelf

/-- a place as a value -/
abbrev encP {n : Nat} (x : Fin (n + 1)) : Value := .int .i64 ((x.val : Nat) : Int)
/-- which of two places is first: the one of the greater rest -/
def cfP {n : Nat} (r : Fin (n + 1) → Int) (x y : Fin (n + 1)) : Int := cmpI (r y) (r x)

set_option maxHeartbeats 4000000 in
theorem closure_any (n : Nat) (bb rb : Nat) (r : Fin (n + 1) → Int) (x y : Fin (n + 1)) (W : World)
    (hh : W.cell? ⟨bb, 0, none⟩ = some (.slice (some ⟨rb, 0, none⟩) (n + 1) (n + 1))) (hc : ∀ k : Fin (n + 1), W.cell? ⟨rb, k.val, none⟩ = some (.int .i64 (r k))) :
    Calls Try.prog 62 #[encP x, encP y, .pointer (some ⟨bb, 0, none⟩)] W fun e w' => e = .returned (.int .i64 (cfP r x y)) ∧ ∃ q, w' = W.drewN q := by
  have hx := hc x
  have hy := hc y
  have bx := x.isLt
  have ly := y.isLt
  unfold cfP
  generalize r x = rx at *
  generalize r y = ry at *
  obtain ⟨i, hi⟩ := x
  obtain ⟨j, hj⟩ := y
  simp only [encP] at *
  clear hc
  have b1 : (0 : Int) ≤ (i : Int) := by omega
  have b2 : (i : Int) < ((n + 1 : Nat) : Int) := by omega
  have b3 : (0 : Int) ≤ (j : Int) := by omega
  have b4 : (j : Int) < ((n + 1 : Nat) : Int) := by omega
  go_enter Try.func62, Try.ntmps62
  go_wp2_with fail
  have hC := fun w => (cmp_i64 ry rx w).mono (fun e w' (h : _ ∧ w = w') => (⟨h.1, h.2.symm⟩ : _ ∧ w' = w))
  go_quiet ((go_at_call 45; exact Calls.quiet_of_same (hC _)))
  go_wp2
  go_ret
  exact ⟨rfl, _, rfl⟩
end Go.Proofs.Ytejbblpgdlanoaa
