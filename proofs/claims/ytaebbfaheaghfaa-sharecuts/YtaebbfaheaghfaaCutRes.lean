/- share.Cut, whatever it is given. -/
import Derived.Test.YtaebbfaheaghfaaOrderAny
import Derived.Test.YtaebbfaheaghfaaShareB
namespace Go.Proofs.Ytaebbfaheaghfaa
open Go.RowKit Go.Shelf Go.Sort

/-- the parts as a list -/
def partsL (t : Int) (l : List Int) : List Int := (List.range l.length).map (cutF t l)
/-- Cut's answer -/
def CutSpec (t : Int) (l x : List Int) (er : Int) : Prop := ((t < 0 ∨ ¬ okW l) ∧ x = [] ∧ er = 21) ∨ (0 ≤ t ∧ okW l ∧ I l.sum ∧ x = partsL t l ∧ er = 0) ∨ (0 ≤ t ∧ okW l ∧ ¬ I l.sum ∧ x = [] ∧ er = 11)
/-- Cut's answer in memory -/
def CutRes (t : Int) (l : List Int) (w : World) (e : Ending) (w' : World) : Prop :=
  ∃ (v : Option Addr) (cap : Nat) (x : List Int) (er : Int), CutSpec t l x er ∧ e = .returned (.tuple #[.slice v x.length cap, .int .i64 er]) ∧ Below w.heap.size w w' ∧ RowAt .i64 w' v x

theorem partsL_len (t : Int) (l : List Int) : (partsL t l).length = l.length := by simp [partsL]
theorem partsL_get (t : Int) (l : List Int) (j : Nat) (h : j < l.length) : (partsL t l).getD j 0 = cutF t l j := by simp [partsL, List.getD, h]

theorem cut_res (a : Option Addr) (l : List Int) (cap : Nat) (t : Int) (w : World) (hT : I t) (hI : ∀ x ∈ l, I x) (hr : RowAt .i64 w a l) :
    Calls Try.prog 23 #[.int .i64 t, .slice a l.length cap] w (CutRes t l w) := by
  by_cases ht : t < 0
  · refine (cut_neg a l.length cap t w ht).mono ?_
    rintro e w' ⟨rfl, rfl⟩
    exact ⟨none, 0, [], 21, Or.inl ⟨Or.inl ht, rfl, rfl⟩, rfl, RowKit.Below.refl _ _, Or.inl rfl⟩
  · by_cases hok : okW l
    · have h0 := hok.1
      obtain ⟨b, off, rfl⟩ : ∃ b off, a = some ⟨b, off, none⟩ := by
        rcases hr with h | ⟨b, off, h, _⟩
        · rw [h] at h0; simp at h0
        · exact ⟨b, off, h⟩
      by_cases hS : I l.sum
      · refine (cut_yes b off cap t l w (by omega) hT hok hS hI hr).mono ?_
        rintro e w' ⟨pb, rfl, hb, _, hIn⟩
        refine ⟨some ⟨pb, 0, none⟩, l.length, partsL t l, 0, Or.inr (Or.inl ⟨by omega, hok, hS, rfl, rfl⟩), by rw [partsL_len], hb, ?_⟩
        have hIn' : IntsAt w' pb (partsL t l).length (cutF t l) := by rw [partsL_len]; exact hIn
        exact hIn'.row (fun j hj => (partsL_get t l j (by rw [partsL_len] at hj; exact hj)).symm)
      · refine (cut_over b off cap t l w (by omega) hok hS hI hr).mono ?_
        rintro e w' ⟨rfl, hb⟩
        exact ⟨none, 0, [], 11, Or.inr (Or.inr ⟨by omega, hok, hS, rfl, rfl⟩), rfl, hb, Or.inl rfl⟩
    · refine (cut_bad a l cap t w (by omega) hr hok).mono ?_
      rintro e w' ⟨rfl, rfl⟩
      exact ⟨none, 0, [], 21, Or.inl ⟨Or.inr hok, rfl, rfl⟩, rfl, RowKit.Below.refl _ _, Or.inl rfl⟩
end Go.Proofs.Ytaebbfaheaghfaa
