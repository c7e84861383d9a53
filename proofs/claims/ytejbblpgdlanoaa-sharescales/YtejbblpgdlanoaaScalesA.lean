/- falseworklaw02.ShareScales: what the two cuts answer. -/
import Derived.Test.YtejbblpgdlanoaaCutRes
import Derived.Test.YtejbblpgdlanoaaScaleMath
namespace Go.Proofs.Ytejbblpgdlanoaa

theorem scale_I {k w : Int} (hk : 0 < k) (hk2 : k ≤ 1000000) (hw : w ≤ 1000000000) : -1000000 ≤ scale k w ∧ scale k w ≤ 1000000000000000 := by
  unfold scale
  split
  · rw [Int.neg_one_mul]; omega
  · have h1 : w * k ≤ 1000000000 * k := Int.mul_le_mul_of_nonneg_right hw (Int.le_of_lt hk)
    have h2 : -1 * k ≤ w * k := Int.mul_le_mul_of_nonneg_right (by omega) (Int.le_of_lt hk)
    rw [Int.neg_one_mul] at h2
    omega
theorem sum_small (c : Int) (hc : 0 ≤ c) : ∀ (l : List Int), (∀ w ∈ l, 0 ≤ w ∧ w ≤ c) → 0 ≤ l.sum ∧ l.sum ≤ l.length * c
  | [], _ => by simp
  | w :: l, h => by
    have ih := sum_small c hc l (fun x hx => h x (List.mem_cons_of_mem _ hx))
    have hw := h w List.mem_cons_self
    rw [List.sum_cons, List.length_cons, Int.natCast_add, Int.add_mul]
    simp
    omega
/-- the two answers are one -/
theorem spec_scale {k t : Int} {l x y : List Int} {er es : Int} (hk : 0 < k) (hk2 : k ≤ 1000000) (hl : ∀ w ∈ l, w ≤ 1000000000) (h1 : CutSpec t l x er) (h2 : CutSpec t (scaleL k l) y es) : x = y ∧ er = es := by
  by_cases hb : t < 0 ∨ ¬ okW l
  · have hb2 : t < 0 ∨ ¬ okW (scaleL k l) := by rw [okW_scale hk]; exact hb
    rcases h1 with ⟨_, rfl, rfl⟩ | ⟨g1, g2, _⟩ | ⟨g1, g2, _⟩
    · rcases h2 with ⟨_, rfl, rfl⟩ | ⟨g1, g2, _⟩ | ⟨g1, g2, _⟩
      · exact ⟨rfl, rfl⟩
      · rcases hb2 with h | h
        · omega
        · exact absurd g2 h
      · rcases hb2 with h | h
        · omega
        · exact absurd g2 h
    · rcases hb with h | h
      · omega
      · exact absurd g2 h
    · rcases hb with h | h
      · omega
      · exact absurd g2 h
  · have ht : 0 ≤ t := by
      rcases Int.lt_or_le t 0 with h | h
      · exact absurd (Or.inl h) hb
      · exact h
    have hok : okW l := Classical.byContradiction fun h => hb (Or.inr h)
    have hok2 : okW (scaleL k l) := (okW_scale hk).mpr hok
    have hlen := hok.2.1
    have hs1 := sum_small 1000000000 (by omega) l (fun w hw => ⟨ok_mem hok w hw, hl w hw⟩)
    have hs2 := sum_small 1000000000000000 (by omega) (scaleL k l) (fun w hw => ⟨ok_mem hok2 w hw, by obtain ⟨u, hu, rfl⟩ := List.mem_map.mp hw; exact (scale_I hk hk2 (hl u hu)).2⟩)
    rw [scaleL_len] at hs2
    have i1 : I l.sum := by unfold I; omega
    have i2 : I (scaleL k l).sum := by unfold I; omega
    have e1 : x = partsL t l ∧ er = 0 := by
      rcases h1 with ⟨g, _⟩ | ⟨_, _, _, rfl, rfl⟩ | ⟨_, _, g, _⟩
      · exact absurd g hb
      · exact ⟨rfl, rfl⟩
      · exact absurd i1 g
    have e2 : y = partsL t (scaleL k l) ∧ es = 0 := by
      rcases h2 with ⟨g, _⟩ | ⟨_, _, _, rfl, rfl⟩ | ⟨_, _, g, _⟩
      · rcases g with g | g
        · omega
        · exact absurd hok2 g
      · exact ⟨rfl, rfl⟩
      · exact absurd i2 g
    refine ⟨?_, by rw [e1.2, e2.2]⟩
    rw [e1.1, e2.1]
    unfold partsL
    rw [scaleL_len]
    exact List.map_congr_left (fun j hj => (cutF_scale hk hok j (by simpa using hj)).symm)
end Go.Proofs.Ytejbblpgdlanoaa
