/- slices.swapRangeCmpFunc at []int. -/
import Derived.Test.YtaebbfaheaghfaaSortBase
import Derived.Deep.LoopGhost
import Derived.Handy
namespace Go.Proofs.Ytaebbfaheaghfaa
open Go.RowKit Go.Shelf Go.Sort Go.Lib

/-- n places from a on, and n from b on, exchanged -/
structure SwR {α : Type} [Inhabited α] (d d' : Array α) (a b n : Nat) : Prop where
  size : d'.size = d.size
  fst : ∀ k, k < n → d'[a + k]! = d[b + k]!
  snd : ∀ k, k < n → d'[b + k]! = d[a + k]!
  out : ∀ k, (k < a ∨ a + n ≤ k) → (k < b ∨ b + n ≤ k) → d'[k]! = d[k]!

theorem SwR.zero {α : Type} [Inhabited α] (d : Array α) (a b : Nat) : SwR d d a b 0 := ⟨rfl, fun k h => by omega, fun k h => by omega, fun _ _ _ => rfl⟩
theorem SwR.step {α : Type} [Inhabited α] {d dk : Array α} {a b i : Nat} (h : SwR d dk a b i) (hab : a + (i + 1) ≤ b) (hb : b + (i + 1) ≤ d.size) : SwR d (swp dk (a + i) (b + i)) a b (i + 1) := by
  have ga := h.out (a + i) (by omega) (by omega)
  have gb := h.out (b + i) (by omega) (by omega)
  have hz := h.size
  refine ⟨by rw [size_swp, h.size], fun k hk => ?_, fun k hk => ?_, fun k h1 h2 => ?_⟩
  · by_cases e : k = i
    · subst e; rw [swp_left dk (a + k) (b + k) (by omega) (by omega), gb]
    · rw [swp_other dk (a + i) (b + i) (a + k) (by omega) (by omega)]; exact h.fst k (by omega)
  · by_cases e : k = i
    · subst e; rw [swp_right dk (a + k) (b + k) (by omega), ga]
    · rw [swp_other dk (a + i) (b + i) (b + k) (by omega) (by omega)]; exact h.snd k (by omega)
  · rw [swp_other dk (a + i) (b + i) k (by omega) (by omega)]; exact h.out k (by omega) (by omega)

set_option maxHeartbeats 16000000 in
set_option maxRecDepth 1000000 in
theorem swapR_any {m : Nat} (blk cap a b n : Nat) (fv : Value) (d0 d : Array (Fin (m + 1))) (w0 w : World) (R : Row1 encP w0 blk 0 d0) (hs : d0.size = d.size) (S : SW encP w0 blk 0 d w) (hab : a + n ≤ b) (hb : b + n ≤ d.size) (hsz : d.size < 1000000) :
    Calls Try.prog 68 #[.slice (some ⟨blk, 0, none⟩) d.size cap, .int .i64 a, .int .i64 b, .int .i64 n, fv] w fun e w' => e = .returned (.tuple #[]) ∧ ∃ d', SwR d d' a b n ∧ SW encP w0 blk 0 d' w' := by
  have mixed := srtLay.mixed
  have S0 := Lib.hid S
  obtain ⟨z, hz⟩ : ∃ z, z = d.size := ⟨_, rfl⟩
  have HZ := Lib.hid hz
  rw [← hz] at hs hb hsz ⊢
  clear S hz
  go_enter Try.func68, Try.ntmps68
  go_wp2
  go_loopg [10] n (fun g c10 wr => ∃ (i : Nat) (dk : Array (Fin (m + 1))), c10 = .int .i64 i ∧ i + g = n ∧ Hid (SwR d dk a b i) ∧ Hid (SW encP w0 blk 0 dk wr))
  case atStart => exact ⟨0, d, rfl, by omega, SwR.zero d a b, S0.out⟩
  case round =>
    obtain ⟨i, dk, rfl, hi, HR, HS⟩ := hrel
    clear S0
    by_cases hlt : i < n
    · have hlz : (i : Int) < (n : Int) := by omega
      have hdk : dk.size = z := by rw [HR.out.size, HZ.out]
      have hd0 : dk.size = d0.size := by rw [hdk, hs]
      obtain ⟨iN, hiN⟩ : ∃ q, q = a + i := ⟨_, rfl⟩
      obtain ⟨jN, hjN⟩ : ∃ q, q = b + i := ⟨_, rfl⟩
      have ea : ((a : Int) + (i : Int)).toNat = iN := by omega
      have pa : (0 : Int) ≤ (a : Int) + (i : Int) := by omega
      have ba : (a : Int) + (i : Int) < (z : Int) := by omega
      have ra : IntKind.i64.wrap ((a : Int) + (i : Int)) = (a : Int) + (i : Int) := by rw [IntKind.wrap_i64]; omega
      have ec : ((b : Int) + (i : Int)).toNat = jN := by omega
      have pc : (0 : Int) ≤ (b : Int) + (i : Int) := by omega
      have bc : (b : Int) + (i : Int) < (z : Int) := by omega
      have rc : IntKind.i64.wrap ((b : Int) + (i : Int)) = (b : Int) + (i : Int) := by rw [IntKind.wrap_i64]; omega
      obtain ⟨x, hx⟩ : ∃ x, x = dk[a + i]! := ⟨_, rfl⟩
      obtain ⟨y, hy⟩ : ∃ x, x = dk[b + i]! := ⟨_, rfl⟩
      have S3 := Lib.hid (HS.out.swapped R (a + i) (b + i) (by omega) (by omega))
      have ca := HS.out.c1 R hd0 (a + i) (by omega)
      have cb := HS.out.c1 R hd0 (b + i) (by omega)
      have fa := HS.out.f1 R hd0 (a + i) (by omega)
      have fb := HS.out.f1 R hd0 (b + i) (by omega)
      obtain ⟨u, cc⟩ := HS.out.c2 R hd0 (a + i) (b + i) (by omega) (by omega) (encP y)
      rw [← hx, ← hy, ← hiN, ← hjN] at S3
      rw [← hjN, ← hiN] at cc
      rw [← hx, ← hiN] at ca
      rw [← hy, ← hjN] at cb
      rw [← hiN] at fa
      rw [← hjN] at fb
      rw [Nat.zero_add] at ca cb fa fb
      rw [Nat.zero_add, Nat.zero_add] at cc S3
      have HI := Lib.hid hiN
      have HJ := Lib.hid hjN
      clear HS hx hy hiN hjN hdk hd0
      go_wp2_with fail
      go_big_region_o
      clear ca cb cc fa fb
      generalize ((wr.setCell ⟨blk, iN, none⟩ (.int .i64 ((y.val : Nat) : Int))).setCell ⟨blk, jN, none⟩ (.int .i64 ((x.val : Nat) : Int))).drew = w3 at S3 ⊢
      clear ea ec
      go_wp2
      go_roundg (gk - 1)
      case measure => omega
      case rel =>
        refine ⟨i + 1, swp dk iN jN, by go_num, by omega, ?_, S3.out⟩
        rw [HI.out, HJ.out]
        exact HR.out.step (by omega) (by rw [← HZ.out]; omega)
    · have hlz : ¬ (i : Int) < (n : Int) := by omega
      obtain rfl : i = n := by omega
      go_wp2
      go_end0
      exact ⟨rfl, dk, HR.out, HS.out⟩
end Go.Proofs.Ytaebbfaheaghfaa
