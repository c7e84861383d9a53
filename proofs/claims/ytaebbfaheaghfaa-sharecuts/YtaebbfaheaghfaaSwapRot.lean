/- slices.swapRangeCmpFunc at []int. slices.rotateCmpFunc at []int. -/
import Derived.Test.YtaebbfaheaghfaaSortBase
import Derived.Deep.LoopGhost
import Derived.Handy

namespace Go.Proofs.Ytaebbfaheaghfaa
open Go.RowKit Go.Shelf Go.Sort Go.Lib

/-- n places from a on, and n from b on, exchanged -/
structure SwR {α : Type} [Inhabited α] (d d' : Array α) (a b n : Nat) : Prop where
  size : d'.size = d.size
  fst : ∀ k, k < n → d'[a + k]! = d[b + k]!
  snd : ∀ k, k < n → d'[b + k]! = d[a + k]!
  out : ∀ k, (k < a ∨ a + n ≤ k) → (k < b ∨ b + n ≤ k) → d'[k]! = d[k]!

theorem SwR.zero {α : Type} [Inhabited α] (d : Array α) (a b : Nat) : SwR d d a b 0 := ⟨rfl, fun k h => by omega, fun k h => by omega, fun _ _ _ => rfl⟩
theorem SwR.step {α : Type} [Inhabited α] {d dk : Array α} {a b i : Nat} (h : SwR d dk a b i) (hab : a + (i + 1) ≤ b) (hb : b + (i + 1) ≤ d.size) : SwR d (swp dk (a + i) (b + i)) a b (i + 1) := by
  have ga := h.out (a + i) (by omega) (by omega)
  have gb := h.out (b + i) (by omega) (by omega)
  have hz := h.size
  refine ⟨by rw [size_swp, h.size], fun k hk => ?_, fun k hk => ?_, fun k h1 h2 => ?_⟩
  · by_cases e : k = i
    · subst e; rw [swp_left dk (a + k) (b + k) (by omega) (by omega), gb]
    · rw [swp_other dk (a + i) (b + i) (a + k) (by omega) (by omega)]; exact h.fst k (by omega)
  · by_cases e : k = i
    · subst e; rw [swp_right dk (a + k) (b + k) (by omega), ga]
    · rw [swp_other dk (a + i) (b + i) (b + k) (by omega) (by omega)]; exact h.snd k (by omega)
  · rw [swp_other dk (a + i) (b + i) k (by omega) (by omega)]; exact h.out k (by omega) (by omega)

set_option maxHeartbeats 16000000 in
set_option maxRecDepth 1000000 in
theorem swapR_any {m : Nat} (blk cap a b n : Nat) (fv : Value) (d0 d : Array (Fin (m + 1))) (w0 w : World) (R : Row1 encP w0 blk 0 d0) (hs : d0.size = d.size) (S : SW encP w0 blk 0 d w) (hab : a + n ≤ b) (hb : b + n ≤ d.size) (hsz : d.size < 1000000) :
    Calls Try.prog 68 #[.slice (some ⟨blk, 0, none⟩) d.size cap, .int .i64 a, .int .i64 b, .int .i64 n, fv] w fun e w' => e = .returned (.tuple #[]) ∧ ∃ d', SwR d d' a b n ∧ SW encP w0 blk 0 d' w' := by
  have mixed := srtLay.mixed
  have S0 := Lib.hid S
  obtain ⟨z, hz⟩ : ∃ z, z = d.size := ⟨_, rfl⟩
  have HZ := Lib.hid hz
  rw [← hz] at hs hb hsz ⊢
  clear S hz
  go_enter Try.func68, Try.ntmps68
  go_wp2
  go_loopg [10] n (fun g c10 wr => ∃ (i : Nat) (dk : Array (Fin (m + 1))), c10 = .int .i64 i ∧ i + g = n ∧ Hid (SwR d dk a b i) ∧ Hid (SW encP w0 blk 0 dk wr))
  case atStart => exact ⟨0, d, rfl, by omega, SwR.zero d a b, S0.out⟩
  case round =>
    obtain ⟨i, dk, rfl, hi, HR, HS⟩ := hrel
    clear S0
    by_cases hlt : i < n
    · have hlz : (i : Int) < (n : Int) := by omega
      have hdk : dk.size = z := by rw [HR.out.size, HZ.out]
      have hd0 : dk.size = d0.size := by rw [hdk, hs]
      obtain ⟨iN, hiN⟩ : ∃ q, q = a + i := ⟨_, rfl⟩
      obtain ⟨jN, hjN⟩ : ∃ q, q = b + i := ⟨_, rfl⟩
      have ea : ((a : Int) + (i : Int)).toNat = iN := by omega
      have pa : (0 : Int) ≤ (a : Int) + (i : Int) := by omega
      have ba : (a : Int) + (i : Int) < (z : Int) := by omega
      have ra : IntKind.i64.wrap ((a : Int) + (i : Int)) = (a : Int) + (i : Int) := by rw [IntKind.wrap_i64]; omega
      have ec : ((b : Int) + (i : Int)).toNat = jN := by omega
      have pc : (0 : Int) ≤ (b : Int) + (i : Int) := by omega
      have bc : (b : Int) + (i : Int) < (z : Int) := by omega
      have rc : IntKind.i64.wrap ((b : Int) + (i : Int)) = (b : Int) + (i : Int) := by rw [IntKind.wrap_i64]; omega
      obtain ⟨x, hx⟩ : ∃ x, x = dk[a + i]! := ⟨_, rfl⟩
      obtain ⟨y, hy⟩ : ∃ x, x = dk[b + i]! := ⟨_, rfl⟩
      have S3 := Lib.hid (HS.out.swapped R (a + i) (b + i) (by omega) (by omega))
      have ca := HS.out.c1 R hd0 (a + i) (by omega)
      have cb := HS.out.c1 R hd0 (b + i) (by omega)
      have fa := HS.out.f1 R hd0 (a + i) (by omega)
      have fb := HS.out.f1 R hd0 (b + i) (by omega)
      obtain ⟨u, cc⟩ := HS.out.c2 R hd0 (a + i) (b + i) (by omega) (by omega) (encP y)
      rw [← hx, ← hy, ← hiN, ← hjN] at S3
      rw [← hjN, ← hiN] at cc
      rw [← hx, ← hiN] at ca
      rw [← hy, ← hjN] at cb
      rw [← hiN] at fa
      rw [← hjN] at fb
      rw [Nat.zero_add] at ca cb fa fb
      rw [Nat.zero_add, Nat.zero_add] at cc S3
      have HI := Lib.hid hiN
      have HJ := Lib.hid hjN
      clear HS hx hy hiN hjN hdk hd0
      go_wp2_with fail
      go_big_region_o
      clear ca cb cc fa fb
      generalize ((wr.setCell ⟨blk, iN, none⟩ (.int .i64 ((y.val : Nat) : Int))).setCell ⟨blk, jN, none⟩ (.int .i64 ((x.val : Nat) : Int))).drew = w3 at S3 ⊢
      clear ea ec
      go_wp2
      go_roundg (gk - 1)
      case measure => omega
      case rel =>
        refine ⟨i + 1, swp dk iN jN, by go_num, by omega, ?_, S3.out⟩
        rw [HI.out, HJ.out]
        exact HR.out.step (by omega) (by rw [← HZ.out]; omega)
    · have hlz : ¬ (i : Int) < (n : Int) := by omega
      obtain rfl : i = n := by omega
      go_wp2
      go_end0
      exact ⟨rfl, dk, HR.out, HS.out⟩
end Go.Proofs.Ytaebbfaheaghfaa

namespace Go.Proofs.Ytaebbfaheaghfaa
open Go.RowKit Go.Shelf Go.Sort Go.Lib

/-- the places from x on, i of them, and the j behind them, turned -/
structure Rot {α : Type} [Inhabited α] (d d' : Array α) (x i j : Nat) : Prop where
  size : d'.size = d.size
  fst : ∀ k, k < j → d'[x + k]! = d[x + i + k]!
  snd : ∀ k, k < i → d'[x + j + k]! = d[x + k]!
  out : ∀ k, (k < x ∨ x + i + j ≤ k) → d'[k]! = d[k]!

section
variable {α : Type} [Inhabited α] {d e d' : Array α} {x i j : Nat}
theorem rot_left (h : SwR d e x (x + (i + j)) j) (r : Rot e d' (x + j) i j) : Rot d d' x (i + j) j := by
  refine ⟨by rw [r.size, h.size], fun k hk => ?_, fun k hk => ?_, fun k hk => ?_⟩
  · rw [r.out (x + k) (by omega), h.fst k hk]
  · by_cases e1 : k < j
    · have h1 := r.fst k e1
      have h2 := h.snd k e1
      rw [show x + (i + j) + k = x + j + i + k by omega] at h2
      rw [h1, h2]
    · have h1 := r.snd (k - j) (by omega)
      rw [show x + j + j + (k - j) = x + j + k by omega] at h1
      rw [h1, show x + j + (k - j) = x + k by omega, h.out (x + k) (by omega) (by omega)]
  · rw [r.out k (by omega), h.out k (by omega) (by omega)]
theorem rot_right (h : SwR d e x (x + i + j) i) (r : Rot e d' x i j) : Rot d d' x i (j + i) := by
  refine ⟨by rw [r.size, h.size], fun k hk => ?_, fun k hk => ?_, fun k hk => ?_⟩
  · by_cases e1 : k < j
    · rw [r.fst k e1, h.out (x + i + k) (by omega) (by omega)]
    · have h1 := r.snd (k - j) (by omega)
      rw [show x + j + (k - j) = x + k by omega] at h1
      rw [h1, h.fst (k - j) (by omega)]
      congr 1; omega
  · have h1 := h.snd k hk
    rw [show x + (j + i) + k = x + i + j + k by omega, r.out _ (by omega), h1]
  · rw [r.out k (by omega), h.out k (by omega) (by omega)]
theorem rot_even (h : SwR d e x (x + i) i) : Rot d e x i i := by
  refine ⟨h.size, fun k hk => h.fst k hk, fun k hk => h.snd k hk, fun k hk => h.out k (by omega) (by omega)⟩
end

set_option maxHeartbeats 16000000 in
set_option maxRecDepth 1000000 in
theorem rotate_any {q : Nat} (blk cap a m b : Nat) (fv : Value) (d0 d : Array (Fin (q + 1))) (w0 w : World) (R : Row1 encP w0 blk 0 d0) (hs : d0.size = d.size) (S : SW encP w0 blk 0 d w) (ham : a < m) (hmb : m < b) (hb : b ≤ d.size) (hsz : d.size < 1000000) :
    Calls Try.prog 67 #[.slice (some ⟨blk, 0, none⟩) d.size cap, .int .i64 a, .int .i64 m, .int .i64 b, fv] w fun e w' => e = .returned (.tuple #[]) ∧ ∃ d', Rot d d' a (m - a) (b - m) ∧ SW encP w0 blk 0 d' w' := by
  have S0 := Lib.hid S
  obtain ⟨z, hz⟩ : ∃ z, z = d.size := ⟨_, rfl⟩
  have HZ := Lib.hid hz
  rw [← hz] at hs hb hsz ⊢
  clear S hz
  have C : ∀ (x y n : Nat) (dk : Array (Fin (q + 1))) (W : World), dk.size = z → SW encP w0 blk 0 dk W → x + n ≤ y → y + n ≤ z → Hid (Calls Try.prog 68 #[.slice (some ⟨blk, 0, none⟩) z cap, .int .i64 x, .int .i64 y, .int .i64 n, fv] W fun e w' => e = .returned (.tuple #[]) ∧ ∃ d', SwR dk d' x y n ∧ SW encP w0 blk 0 d' w') := fun x y n dk W h1 h2 h3 h4 => by
    have h := swapR_any blk cap x y n fv d0 dk w0 W R (by omega) h2 h3 (by omega) (by omega)
    rw [h1] at h
    exact h
  go_enter Try.func67, Try.ntmps67
  go_wp2
  go_loopg [10, 11] (b - a) (fun g c10 c11 wr => ∃ (i j x : Nat) (dk : Array (Fin (q + 1))), c10 = .int .i64 i ∧ c11 = .int .i64 j ∧ i + j ≤ g ∧ 0 < i ∧ 0 < j ∧ x + i = m ∧ m + j ≤ b ∧ Hid (dk.size = z) ∧ Hid (∀ d', Rot dk d' x i j → Rot d d' a (m - a) (b - m)) ∧ Hid (SW encP w0 blk 0 dk wr))
  case atStart =>
    refine ⟨m - a, b - m, a, d, by congr 1; omega, by congr 1; omega, by omega, by omega, by omega, by omega, by omega, HZ.out.symm, fun d' h => h, S0.out⟩
  case round =>
    obtain ⟨i, j, x, dk, rfl, rfl, hg, hi0, hj0, hxm, hjb, HD, HT, HS⟩ := hrel
    clear S0
    have em : (m : Int) - (i : Int) = (x : Int) := by omega
    rcases Nat.lt_trichotomy i j with hlt | heq | hgt
    · have hne : ((i : Int) != (j : Int)) = true := by simp; omega
      have hne' : ¬ ((i : Int) = (j : Int)) := by omega
      have hng : decide ((j : Int) < (i : Int)) = false := by simp only [decide_eq_false_iff_not]; omega
      have hng' : ¬ ((j : Int) < (i : Int)) := by omega
      obtain ⟨j', hj'⟩ : ∃ j', j = j' + i := ⟨j - i, by omega⟩
      obtain ⟨y, hy⟩ : ∃ y, y = x + i + j' := ⟨_, rfl⟩
      have ey : (m : Int) + (j : Int) - (i : Int) = (y : Int) := by omega
      have ej : (j : Int) - (i : Int) = (j' : Int) := by omega
      have C1 := C x y i dk wr HD.out HS.out (by omega) (by omega)
      have HJ := Lib.hid hj'
      have HY := Lib.hid hy
      have j0 : 0 < j' := by omega
      have g0 : i + j' < gk := by omega
      have g1 : m + j' ≤ b := by omega
      clear hj' hy HS C
      go_wp2_with fail
      (with_reducible refine C1.out.mono ?_)
      rintro e w1 ⟨rfl, d2, hW, hS⟩
      have HW := Lib.hid hW
      have HS2 := Lib.hid hS
      clear hW hS
      go_wp2
      go_roundg (i + j')
      case measure => omega
      case rel =>
        refine ⟨i, j', x, d2, rfl, by first | rfl | go_num, Nat.le_refl _, hi0, j0, hxm, g1, HW.out.size.trans HD.out, fun d' r => HT.out d' ?_, HS2.out⟩
        have hw := HW.out
        rw [HY.out] at hw
        have := rot_right hw r
        rw [← HJ.out] at this
        exact this
    · subst heq
      have hne : ((i : Int) != (i : Int)) = false := by simp
      have C1 := C x m i dk wr HD.out HS.out (by omega) (by omega)
      clear HS C
      go_wp2_with fail
      (with_reducible refine C1.out.mono ?_)
      rintro e w1 ⟨rfl, d2, hW, hS⟩
      have HW := Lib.hid hW
      have HS2 := Lib.hid hS
      clear hW hS
      go_wp2
      go_end0
      refine ⟨rfl, d2, HT.out d2 ?_, HS2.out⟩
      have hw := HW.out
      rw [← hxm] at hw
      exact rot_even hw
    · have hne : ((i : Int) != (j : Int)) = true := by simp; omega
      have hne' : ¬ ((i : Int) = (j : Int)) := by omega
      have hng : decide ((j : Int) < (i : Int)) = true := by simp only [decide_eq_true_eq]; omega
      have hng' : (j : Int) < (i : Int) := by omega
      obtain ⟨i', hi'⟩ : ∃ i', i = i' + j := ⟨i - j, by omega⟩
      have ei : (i : Int) - (j : Int) = (i' : Int) := by omega
      have C1 := C x m j dk wr HD.out HS.out (by omega) (by omega)
      have HI := Lib.hid hi'
      have i0 : 0 < i' := by omega
      have g0 : i' + j < gk := by omega
      have g1 : x + j + i' = m := by omega
      clear hi' HS C
      go_wp2_with fail
      (with_reducible refine C1.out.mono ?_)
      rintro e w1 ⟨rfl, d2, hW, hS⟩
      have HW := Lib.hid hW
      have HS2 := Lib.hid hS
      clear hW hS
      go_wp2
      go_roundg (i' + j)
      case measure => omega
      case rel =>
        refine ⟨i', j, x + j, d2, by first | rfl | go_num, rfl, Nat.le_refl _, i0, hj0, g1, hjb, HW.out.size.trans HD.out, fun d' r => HT.out d' ?_, HS2.out⟩
        have hw := HW.out
        rw [← hxm, HI.out] at hw
        have := rot_left hw r
        rw [← HI.out] at this
        exact this
end Go.Proofs.Ytaebbfaheaghfaa
