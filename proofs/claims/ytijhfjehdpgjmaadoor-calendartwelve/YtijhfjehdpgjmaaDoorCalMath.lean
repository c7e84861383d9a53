/- Months, in numbers. -/
import Derived.Test.YtijhfjehdpgjmaaDoorCivMath
namespace Go.Proofs.YtijhfjehdpgjmaaDoor

/-- all months from the year 0 on -/
def mF (y m n : Int) : Int := y * 12 + m - 1 + n
def mY (y m n : Int) : Int := mF y m n / 12
def mM (y m n : Int) : Int := mF y m n % 12 + 1
def mD (y m d n : Int) : Int := if d = lenF y m then lenF (mY y m n) (mM y m n) else if d ≤ lenF (mY y m n) (mM y m n) then d else lenF (mY y m n) (mM y m n)
/-- where Months has an answer -/
def okM (y m d n : Int) : Prop := rightP y m d ∧ -4800 ≤ n ∧ n ≤ 4800 ∧ 1900 ≤ mY y m n ∧ mY y m n ≤ 2299
instance (y m d : Int) : Decidable (rightP y m d) := by unfold rightP; infer_instance
instance (y m d n : Int) : Decidable (okM y m d n) := by unfold okM; infer_instance

theorem mM_in (y m n : Int) : 1 ≤ mM y m n ∧ mM y m n ≤ 12 := by unfold mM; omega
theorem mF_eq (y m n : Int) : mF y m n = mY y m n * 12 + mM y m n - 1 := by unfold mY mM; omega
theorem mF_bd {y m d n : Int} (h : rightP y m d) (h0 : -4800 ≤ n) (h1 : n ≤ 4800) : 18000 ≤ mF y m n ∧ mF y m n ≤ 32400 := by
  obtain ⟨a1, a2, a3, a4, _⟩ := h
  unfold mF; omega
theorem mY_bd {y m d n : Int} (h : rightP y m d) (h0 : -4800 ≤ n) (h1 : n ≤ 4800) : 1500 ≤ mY y m n ∧ mY y m n ≤ 2700 := by
  have := mF_bd h h0 h1
  unfold mY; omega
theorem mD_bd {y m d n : Int} (h : rightP y m d) : 1 ≤ mD y m d n ∧ mD y m d n ≤ lenF (mY y m n) (mM y m n) := by
  obtain ⟨a1, a2, a3, a4, a5, a6⟩ := h
  have := mM_in y m n
  have := lenF_lo (mY y m n) (mM y m n) (by omega) (by omega)
  unfold mD
  repeat' split <;> omega
theorem okM_right {y m d n : Int} (h : okM y m d n) : rightP (mY y m n) (mM y m n) (mD y m d n) := by
  obtain ⟨hr, h0, h1, h2, h3⟩ := h
  have := mM_in y m n
  have := mD_bd (n := n) hr
  exact ⟨h2, h3, by omega, by omega, by omega, by omega⟩
theorem okM_wrong {y m d n : Int} (hr : rightP y m d) (h0 : -4800 ≤ n) (h1 : n ≤ 4800) (h : ¬ okM y m d n) : ¬ rightP (mY y m n) (mM y m n) (mD y m d n) := by
  intro h'
  exact h ⟨hr, h0, h1, h'.1, h'.2.1⟩
theorem m_zero (y m : Int) (h0 : 1 ≤ m) (h1 : m ≤ 12) : mY y m 0 = y ∧ mM y m 0 = m := by unfold mY mM mF; omega
theorem m_up (y m : Int) (k : Int) : (mM y m k = 12 → mY y m (k + 1) = mY y m k + 1 ∧ mM y m (k + 1) = 1) ∧ (mM y m k ≠ 12 → mY y m (k + 1) = mY y m k ∧ mM y m (k + 1) = mM y m k + 1) := by unfold mY mM mF; omega
theorem m_down (y m : Int) (k : Int) : (mM y m k = 1 → mY y m (k - 1) = mY y m k - 1 ∧ mM y m (k - 1) = 12) ∧ (mM y m k ≠ 1 → mY y m (k - 1) = mY y m k ∧ mM y m (k - 1) = mM y m k - 1) := by unfold mY mM mF; omega
end Go.Proofs.YtijhfjehdpgjmaaDoor
