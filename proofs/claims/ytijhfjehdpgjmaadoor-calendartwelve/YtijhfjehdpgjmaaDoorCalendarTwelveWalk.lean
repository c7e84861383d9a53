/- The walk of falseworklaw04.CalendarTwelve. -/
import Derived.Test.YtijhfjehdpgjmaaDoorCalTwB
import Derived.Test.YtijhfjehdpgjmaaDoorCalTwC
namespace Go.Proofs.YtijhfjehdpgjmaaDoor
open Go.RowKit Go.Sort

theorem calendarTwelve_walk (y m d p q : Int) (w : World) (hy : I y) (_ : I m) (_ : I d) (_ : I p) (_ : I q) (hL : Lens w) :
    Calls Tryd.prog 8 #[.agg #[.int .i64 y, .int .i64 m, .int .i64 d], .int .i64 p, .int .i64 q] w fun e w' => e = .returned (.bool true) ∧ RowKit.Below w.heap.size w w' := by
  suffices h : Calls Tryd.prog 8 #[.agg #[.int .i64 y, .int .i64 m, .int .i64 d], .int .i64 p, .int .i64 q] w fun e w' => e = .returned (.bool true) ∧ Gr w w' from h.mono fun e w' ⟨he, hg⟩ => ⟨he, hg.below⟩
  by_cases hf : p < -2000 ∨ 2000 < p ∨ q < -2000 ∨ 2000 < q ∨ ¬ rightP y m d ∨ (28 < d ∧ d ≠ lenF y m)
  · exact law_twelve_early y m d p q w hy hL hf
  have hR : rightP y m d := Classical.byContradiction fun h => hf (Or.inr (Or.inr (Or.inr (Or.inr (Or.inl h)))))
  have hp : -2000 ≤ p ∧ p ≤ 2000 := by omega
  have hq : -2000 ≤ q ∧ q ≤ 2000 := by omega
  have hd : d ≤ 28 ∨ d = lenF y m := by omega
  clear hf
  by_cases o1 : okM y m d p
  · have r1 := okM_right o1
    have hy1 : I (mY y m p) := ⟨by have := r1.1; omega, by have := r1.2.1; omega⟩
    by_cases o2 : okM (mY y m p) (mM y m p) (mD y m d p) q
    · by_cases o3 : okM y m d (p + q)
      · exact law_twelve_ok y m d p q _ _ _ _ _ _ _ _ _ _ w hL hR hp hq hd (fun W hW => months_yes W hW o1) (fun W hW => months_yes W hW o2) (fun W hW => months_yes W hW o3) (fun W hW => thirty_yes W hW hR r1)
          (fun hc => ⟨(m_twice y m p q).1.symm, (m_twice y m p q).2.symm, (twice_same hR o1 hc).symm⟩) (fun hc => th_months hR hc)
      · exact law_twelve_err y m d p q _ _ _ _ _ _ 0 0 0 0 0 31 w hL hR hp hq hd (fun W hW => months_yes W hW o1) (fun W hW => months_yes W hW o2) (fun W hW => months_no W hy hW o3) (by omega)
    · by_cases o3 : okM y m d (p + q)
      · exact law_twelve_err y m d p q _ _ _ 0 0 0 _ _ _ 0 31 0 w hL hR hp hq hd (fun W hW => months_yes W hW o1) (fun W hW => months_no W hy1 hW o2) (fun W hW => months_yes W hW o3) (by omega)
      · exact law_twelve_err y m d p q _ _ _ 0 0 0 0 0 0 0 31 31 w hL hR hp hq hd (fun W hW => months_yes W hW o1) (fun W hW => months_no W hy1 hW o2) (fun W hW => months_no W hy hW o3) (by omega)
  · have o2 : ¬ okM 0 0 0 q := fun h => by have := h.1.1; omega
    by_cases o3 : okM y m d (p + q)
    · exact law_twelve_err y m d p q 0 0 0 0 0 0 _ _ _ 31 31 0 w hL hR hp hq hd (fun W hW => months_no W hy hW o1) (fun W hW => months_no W ⟨by omega, by omega⟩ hW o2) (fun W hW => months_yes W hW o3) (by omega)
    · exact law_twelve_err y m d p q 0 0 0 0 0 0 0 0 0 31 31 31 w hL hR hp hq hd (fun W hW => months_no W hy hW o1) (fun W hW => months_no W ⟨by omega, by omega⟩ hW o2) (fun W hW => months_no W hy hW o3) (by omega)
end Go.Proofs.YtijhfjehdpgjmaaDoor
