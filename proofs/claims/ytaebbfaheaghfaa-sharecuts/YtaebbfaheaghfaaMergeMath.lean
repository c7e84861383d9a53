/- Plain arithmetic of merging two sorted parts of a row. No program in it. -/
import Derived.Test.YtaebbfaheaghfaaSymAB
namespace Go.Proofs.Ytaebbfaheaghfaa
open Go.Sort

theorem ext_len {α : Type} (d : Array α) (a b : Nat) (hb : b ≤ d.size) : (d.extract a b).toList.length = b - a := by simp; omega
theorem ext_none {α : Type} (d : Array α) (a b k : Nat) (h : ¬ k < b - a) (hb : b ≤ d.size) : (d.extract a b).toList[k]? = none := List.getElem?_eq_none (by rw [ext_len d a b hb]; omega)
section
variable {α : Type} [Inhabited α] {d d' : Array α} {x i j : Nat}
theorem ext_get (d : Array α) (a b k : Nat) (h : k < b - a) (hb : b ≤ d.size) : (d.extract a b).toList[k]? = some d[a + k]! := by
  rw [getElem!_pos d (a + k) (by omega)]
  rw [Array.getElem?_toList, Array.getElem?_eq_getElem (by simp; omega)]
  simp
theorem ext_app (d : Array α) (a m b : Nat) (h1 : a ≤ m) (h2 : m ≤ b) (hb : b ≤ d.size) : (d.extract a b).toList = (d.extract a m).toList ++ (d.extract m b).toList := by
  apply List.ext_getElem?
  intro k
  by_cases h : k < m - a
  · rw [List.getElem?_append_left (by rw [ext_len d a m (by omega)]; exact h), ext_get d a m k h (by omega), ext_get d a b k (by omega) hb]
  · rw [List.getElem?_append_right (by rw [ext_len d a m (by omega)]; omega), ext_len d a m (by omega)]
    by_cases h3 : k < b - a
    · rw [ext_get d a b k h3 hb, ext_get d m b _ (by omega) hb, show m + (k - (m - a)) = a + k by omega]
    · rw [ext_none d a b k h3 hb, ext_none d m b _ (by omega) hb]
theorem ext_eq (d d' : Array α) (a b a' b' : Nat) (hl : b - a = b' - a') (hb : b ≤ d.size) (hb' : b' ≤ d'.size) (h : ∀ k, k < b - a → d[a + k]! = d'[a' + k]!) : (d.extract a b).toList = (d'.extract a' b').toList := by
  apply List.ext_getElem?
  intro k
  by_cases h3 : k < b - a
  · rw [ext_get d a b k h3 hb, ext_get d' a' b' k (by omega) hb', h k h3]
  · rw [ext_none d a b k h3 hb, ext_none d' a' b' k (by omega) hb']
theorem rot_perm (h : Rot d d' x i j) (hx : x + i + j ≤ d.size) : PermIn x (x + i + j) d d' := by
  have hz := h.size
  refine ⟨h.size, fun k hk => h.out k hk, ?_⟩
  rw [ext_app d x (x + i) (x + i + j) (by omega) (by omega) hx, ext_app d' x (x + j) (x + i + j) (by omega) (by omega) (by omega)]
  have e1 : (d'.extract x (x + j)).toList = (d.extract (x + i) (x + i + j)).toList := ext_eq d' d x (x + j) (x + i) (x + i + j) (by omega) (by omega) hx (fun k hk => h.fst k (by omega))
  have e2 : (d'.extract (x + j) (x + i + j)).toList = (d.extract x (x + i)).toList := ext_eq d' d (x + j) (x + i + j) x (x + i) (by omega) (by omega) (by omega) (fun k hk => h.snd k (by omega))
  rw [e1, e2]
  exact List.perm_append_comm
end

section
variable {n : Nat} {r : Fin (n + 1) → Int}
/-- two sorted parts, each place of the left one below each of the right one -/
structure Pre (r : Fin (n + 1) → Int) (d : Array (Fin (n + 1))) (a m b : Nat) : Prop where
  left : SortedIn (ahd r) a m d
  right : SortedIn (ahd r) m b d
  apart : ∀ p q, a ≤ p → p < m → m ≤ q → q < b → d[p]!.val < d[q]!.val
def Merged (r : Fin (n + 1) → Int) (d d' : Array (Fin (n + 1))) (a b : Nat) : Prop := PermIn a b d d' ∧ SortedIn (ahd r) a b d'

variable {d d1 d2 d3 : Array (Fin (n + 1))} {a s m e b mid : Nat}
theorem nt {x y z : Fin (n + 1)} (h1 : ahd r x y = false) (h2 : ahd r y z = false) : ahd r x z = false := (ahd_swo r).ntrans x y z h1 h2
theorem sorted_le (h : SortedIn (ahd r) a b d) (p q : Nat) (h1 : a ≤ p) (h2 : p ≤ q) (h3 : q < b) : ahd r d[q]! d[p]! = false := by
  by_cases e : p = q
  · subst e; exact (ahd_swo r).irrefl _
  · exact h p q h1 (by omega) h3

/-- where things are behind the turning -/
theorem at1 (R : Rot d d1 s (m - s) (e - m)) (h1 : s ≤ m) (h2 : m ≤ e) (hmid : mid + m = s + e) :
    (∀ p, p < s → d1[p]! = d[p]!) ∧ (∀ p, s ≤ p → p < mid → d1[p]! = d[m + (p - s)]!) ∧ (∀ p, mid ≤ p → p < e → d1[p]! = d[s + (p - mid)]!) ∧ (∀ p, e ≤ p → d1[p]! = d[p]!) := by
  refine ⟨fun p hp => R.out p (by omega), fun p h3 h4 => ?_, fun p h3 h4 => ?_, fun p hp => R.out p (by omega)⟩
  · have h := R.fst (p - s) (by omega)
    rw [show s + (p - s) = p by omega, show s + (m - s) + (p - s) = m + (p - s) by omega] at h
    exact h
  · have h := R.snd (p - mid) (by omega)
    rw [show s + (e - m) + (p - mid) = p by omega] at h
    exact h

theorem cross1 (P : Pre r d a m b) (R : Rot d d1 s (m - s) (e - m)) (h0 : a ≤ s) (h1 : s ≤ m) (h2 : m ≤ e) (h3 : e ≤ b) (hmid : mid + m = s + e)
    (c1 : a < s → e < b → ahd r d[e]! d[s - 1]! = false) (c2 : s < m → m < e → ahd r d[s]! d[e - 1]! = false) :
    ∀ p q, a ≤ p → p < mid → mid ≤ q → q < b → ahd r d1[q]! d1[p]! = false := by
  obtain ⟨A, B, C, D⟩ := at1 R h1 h2 hmid
  intro p q hp1 hp2 hq1 hq2
  by_cases hps : p < s
  · rw [A p hps]
    by_cases hqe : q < e
    · rw [C q hq1 hqe]
      exact sorted_le P.left p _ hp1 (by omega) (by omega)
    · rw [D q (by omega)]
      exact nt (sorted_le P.right e q h2 (by omega) hq2) (nt (c1 (by omega) (by omega)) (sorted_le P.left p (s - 1) hp1 (by omega) (by omega)))
  · rw [B p (by omega) hp2]
    by_cases hqe : q < e
    · rw [C q hq1 hqe]
      exact nt (sorted_le P.left s _ h0 (by omega) (by omega)) (nt (c2 (by omega) (by omega)) (sorted_le P.right _ (e - 1) (by omega) (by omega) (by omega)))
    · rw [D q (by omega)]
      exact sorted_le P.right _ q (by omega) (by omega) hq2

theorem merge_all (P : Pre r d a m b) (R : Rot d d1 s (m - s) (e - m)) (h0 : a ≤ s) (h1 : s ≤ m) (h2 : m ≤ e) (h3 : e ≤ b) (hb : b ≤ d.size) (hmid : mid + m = s + e)
    (c1 : a < s → e < b → ahd r d[e]! d[s - 1]! = false) (c2 : s < m → m < e → ahd r d[s]! d[e - 1]! = false) (M2 : Merged r d1 d2 a mid) (M3 : Merged r d2 d3 mid b) : Merged r d d3 a b := by
  have X := cross1 P R h0 h1 h2 h3 hmid c1 c2
  have hz1 := R.size
  have hz2 := M2.1.1
  have hz3 := M3.1.1
  have P1 : PermIn a b d d1 := by
    have h := rot_perm R (by omega)
    rw [show s + (m - s) + (e - m) = e by omega] at h
    exact permIn_mono d d1 s e a b h0 h3 hb h
  have P2 : PermIn a b d1 d2 := permIn_mono d1 d2 a mid a b (Nat.le_refl _) (by omega) (by omega) M2.1
  have P3 : PermIn a b d2 d3 := permIn_mono d2 d3 mid b a b (by omega) (Nat.le_refl _) (by omega) M3.1
  refine ⟨permIn_trans _ _ _ a b P1 (permIn_trans _ _ _ a b P2 P3), fun p q hp hpq hq => ?_⟩
  by_cases hpm : p < mid
  · by_cases hqm : q < mid
    · rw [M3.1.2.1 p (Or.inl hpm), M3.1.2.1 q (Or.inl hqm)]
      exact M2.2 p q hp hpq hqm
    · rw [M3.1.2.1 p (Or.inl hpm)]
      refine permIn_all d2 d3 mid b (fun y => ahd r y d2[p]! = false) (by omega) M3.1 (fun k hk1 hk2 => ?_) q (by omega) hq
      show ahd r d2[k]! d2[p]! = false
      rw [M2.1.2.1 k (Or.inr hk1)]
      exact permIn_all d1 d2 a mid (fun y => ahd r d1[k]! y = false) (by omega) M2.1 (fun l hl1 hl2 => X l k hl1 hl2 hk1 hk2) p hp hpm
  · exact M3.2 p q (by omega) hpq hq

theorem pre_left (P : Pre r d a m b) (R : Rot d d1 s (m - s) (e - m)) (h1 : s ≤ m) (h2 : m ≤ e) (h3 : e ≤ b) (hmid : mid + m = s + e) : Pre r d1 a s mid := by
  obtain ⟨A, B, C, D⟩ := at1 R h1 h2 hmid
  refine ⟨fun p q h4 h5 h6 => ?_, fun p q h4 h5 h6 => ?_, fun p q h4 h5 h6 h7 => ?_⟩
  · rw [A p (by omega), A q h6]; exact P.left p q h4 h5 (by omega)
  · rw [B p h4 (by omega), B q (by omega) h6]; exact P.right _ _ (by omega) (by omega) (by omega)
  · rw [A p h5, B q h6 h7]; exact P.apart _ _ h4 (by omega) (by omega) (by omega)
theorem pre_right (P : Pre r d a m b) (R : Rot d d1 s (m - s) (e - m)) (h0 : a ≤ s) (h1 : s ≤ m) (h2 : m ≤ e) (hmid : mid + m = s + e) (hp : PermIn a mid d1 d2) : Pre r d2 mid e b := by
  obtain ⟨A, B, C, D⟩ := at1 R h1 h2 hmid
  have G : ∀ k, mid ≤ k → d2[k]! = d1[k]! := fun k hk => hp.2.1 k (Or.inr hk)
  refine ⟨fun p q h4 h5 h6 => ?_, fun p q h4 h5 h6 => ?_, fun p q h4 h5 h6 h7 => ?_⟩
  · rw [G p h4, G q (by omega), C p h4 (by omega), C q (by omega) h6]; exact P.left _ _ (by omega) (by omega) (by omega)
  · rw [G p (by omega), G q (by omega), D p h4, D q (by omega)]; exact P.right _ _ (by omega) h5 h6
  · rw [G p h4, G q (by omega), C p h4 h5, D q h6]; exact P.apart _ _ (by omega) (by omega) (by omega) h7
theorem left_done (P : Pre r d1 a s mid) (h0 : a ≤ s) (h : s = a ∨ mid ≤ s) : Merged r d1 d1 a mid := by
  refine ⟨permIn_refl _ _ _, ?_⟩
  rcases h with rfl | h
  · exact P.right
  · exact fun p q h4 h5 h6 => P.left p q h4 h5 (by omega)
end
end Go.Proofs.Ytaebbfaheaghfaa
