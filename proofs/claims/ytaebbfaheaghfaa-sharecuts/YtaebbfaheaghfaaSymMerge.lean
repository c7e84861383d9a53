/- slices.symMergeCmpFunc at []int. -/
import Derived.Test.YtaebbfaheaghfaaSymCD
namespace Go.Proofs.Ytaebbfaheaghfaa
open Go.RowKit Go.Shelf Go.Sort Go.Lib

theorem merged_one {n : Nat} {r : Fin (n + 1) → Int} {d d' : Array (Fin (n + 1))} {a m b i : Nat} (P : Pre r d a m b) (hm : m = a + 1) (hmi : m ≤ i) (hib : i ≤ b) (hb : b ≤ d.size) (R : Rot d d' a 1 (i - m)) (h1 : i = m ∨ ltOf (cfP r) d[i - 1]! d[a]! = true) (h2 : i = b ∨ ltOf (cfP r) d[i]! d[a]! = false) : Merged r d d' a b := by
  have R' : Rot d d' a (m - a) (i - m) := by rw [show m - a = 1 by omega]; exact R
  have hmid : (a + (i - m)) + m = a + i := by omega
  obtain ⟨A, B, C, D⟩ := at1 R' (by omega) hmi hmid
  have PL := pre_left P R' (by omega) hmi hib hmid
  have PR := pre_right P R' (Nat.le_refl _) (by omega) hmi hmid (permIn_refl d' a (a + (i - m)))
  refine merge_all (s := a) (e := i) P R' (Nat.le_refl _) (by omega) hmi hib hb hmid (fun h => by omega) (fun _ hme => ?_) (left_done PL (Nat.le_refl _) (Or.inl rfl)) ⟨permIn_refl _ _ _, fun p q hp hpq hq => ?_⟩
  · rcases h1 with h | h
    · omega
    · rw [lt_ahd r (P.apart a (i - 1) (Nat.le_refl _) (by omega) (by omega) (by omega))] at h
      exact (ahd_swo r).asymmA h
  · by_cases hpe : i ≤ p
    · exact PR.right p q hpe hpq hq
    · obtain rfl : p = a + (i - m) := by omega
      have hqi : i ≤ q := by omega
      rw [C _ (Nat.le_refl _) (by omega), D q hqi, Nat.sub_self]
      show ahd r d[q]! d[a]! = false
      rcases h2 with h | h
      · omega
      · rw [lt_ahd r (P.apart a i (Nat.le_refl _) (by omega) hmi (by omega))] at h
        exact nt (sorted_le P.right i q hmi hqi hq) h

theorem merged_last {n : Nat} {r : Fin (n + 1) → Int} {d d' : Array (Fin (n + 1))} {a m b i : Nat} (P : Pre r d a m b) (hm : b = m + 1) (hai : a ≤ i) (him : i ≤ m) (hb : b ≤ d.size) (R : Rot d d' i (m - i) 1) (h1 : i = a ∨ ltOf (cfP r) d[m]! d[i - 1]! = false) (h2 : i = m ∨ ltOf (cfP r) d[m]! d[i]! = true) : Merged r d d' a b := by
  have R' : Rot d d' i (m - i) (b - m) := by rw [show b - m = 1 by omega]; exact R
  have hmid : (i + 1) + m = i + b := by omega
  obtain ⟨A, B, C, D⟩ := at1 R' him (by omega) hmid
  have PL := pre_left P R' him (by omega) (Nat.le_refl _) hmid
  have PR := pre_right P R' hai him (by omega) hmid (permIn_refl d' a (i + 1))
  refine merge_all (s := i) (e := b) P R' hai him (by omega) (Nat.le_refl _) hb hmid (fun _ h => by omega) (fun hsm _ => ?_) ⟨permIn_refl _ _ _, fun p q hp hpq hq => ?_⟩ (left_done PR (by omega) (Or.inr (Nat.le_refl _)))
  · rcases h2 with h | h
    · omega
    · rw [show b - 1 = m by omega]
      rw [lt_ahd r (P.apart i m hai hsm (Nat.le_refl _) (by omega))] at h
      exact (ahd_swo r).asymmA h
  · by_cases hqi : q < i
    · exact PL.left p q hp hpq hqi
    · obtain rfl : q = i := by omega
      rw [A p hpq, B q (Nat.le_refl _) (by omega), Nat.sub_self]
      show ahd r d[m]! d[p]! = false
      rcases h1 with h | h
      · omega
      · rw [lt_ahd r (P.apart (q - 1) m (by omega) (by omega) (Nat.le_refl _) (by omega))] at h
        exact nt h (sorted_le P.left p (q - 1) hp (by omega) (by omega))

theorem sym_any {q : Nat} {r : Fin (q + 1) → Int} {cb : Array Value} {blk cap : Nat} {d0 : Array (Fin (q + 1))} {w0 : World} (hcmp : CmpLays1 Try.prog gP cb encP (cfP r) blk 0 d0.size w0) (R : Row1 encP w0 blk 0 d0) (hsz : d0.size < 1000000) (k : Nat) :
    ∀ (a m b : Nat) (d : Array (Fin (q + 1))) (w : World), b - a ≤ k → a < m → m < b → b ≤ d0.size → d.size = d0.size → Pre r d a m b → SW encP w0 blk 0 d w →
    Calls Try.prog 66 #[.slice (some ⟨blk, 0, none⟩) d0.size cap, .int .i64 a, .int .i64 m, .int .i64 b, .func (.func gP) #[] cb] w fun e w' => e = .returned (.tuple #[]) ∧ ∃ d', Merged r d d' a b ∧ SW encP w0 blk 0 d' w' := by
  induction k with
  | zero => intro a m b d w h1 h2 h3; omega
  | succ k ih =>
    intro a m b d w h1 h2 h3 hb hd P S
    have IH : ∀ (a' m' b' : Nat) (dk : Array (Fin (q + 1))) (W : World), b' - a' < b - a → a' < m' → m' < b' → b' ≤ d.size → dk.size = d.size → Pre r dk a' m' b' → SW encP w0 blk 0 dk W → Calls Try.prog 66 #[.slice (some ⟨blk, 0, none⟩) d.size cap, .int .i64 a', .int .i64 m', .int .i64 b', .func (.func gP) #[] cb] W fun e w' => e = .returned (.tuple #[]) ∧ ∃ d', Merged r dk d' a' b' ∧ SW encP w0 blk 0 d' w' := by
      intro a' m' b' dk W g1 g2 g3 g4 g5 g6 g7
      rw [hd]
      exact ih a' m' b' dk W (by omega) g2 g3 (by omega) (by omega) g6 g7
    rw [← hd]
    by_cases hA : m = a + 1
    · refine (sym_one blk cap a m b d0 d w0 w hcmp R hd.symm S hA h3 (by omega) (by omega)).mono ?_
      rintro e w' ⟨rfl, d', i, g1, g2, g3, g4, g5, g6⟩
      exact ⟨rfl, d', merged_one P hA g1 g2 (by omega) g3 g4 g5, g6⟩
    · by_cases hB : b = m + 1
      · refine (sym_last blk cap a m b d0 d w0 w hcmp R hd.symm S (by omega) hB (by omega) (by omega)).mono ?_
        rintro e w' ⟨rfl, d', i, g1, g2, g3, g4, g5, g6⟩
        exact ⟨rfl, d', merged_last P hB g1 g2 (by omega) g3 g4 g5, g6⟩
      · by_cases hC : (a + b) / 2 < m
        · exact sym_gt blk cap a m b _ d0 d w0 w hcmp R hd.symm S (by omega) (by omega) (by omega) (by omega) rfl hC P IH
        · exact sym_le blk cap a m b _ d0 d w0 w hcmp R hd.symm S (by omega) (by omega) (by omega) (by omega) rfl (by omega) P IH
end Go.Proofs.Ytaebbfaheaghfaa
