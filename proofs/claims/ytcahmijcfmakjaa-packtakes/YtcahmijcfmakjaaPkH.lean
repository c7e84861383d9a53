/- The document's bytes of a float. -/
import Derived.Test.YtcahmijcfmakjaaPkF
namespace Go.Proofs.Ytcahmijcfmakjaa
open Go.RowKit Go.Lib

/-- so many bytes, the lowest first -/
def leR : Nat → Nat → List UInt8
  | 0, _ => []
  | j + 1, m => m.toUInt8 :: leR j (m / 256)
theorem leR_8 (n : Nat) : leR 8 n = leB n := by
  simp [leR, leB, Nat.div_div_eq_div_mul]
set_option maxHeartbeats 800000 in
theorem reffloat (x : Nat) (w : World) (hx : x < 18446744073709551616) : Calls Try.prog 16 #[.float .f64 x] w (Made (leB x) w) := by
  have fb := f64bits x
  obtain ⟨y, hy⟩ : ∃ y : Int, y = (x : Int) := ⟨_, rfl⟩
  rw [← hy] at fb
  have hy1 : 0 ≤ y := by omega
  have hy2 : y < 18446744073709551616 := by omega
  have HY := Lib.hid (show y.toNat = x by omega)
  have HO := Lib.hid (OB.lit (w := w) (Nat.le_refl _))
  clear hy hx
  go_enter Try.func16, Try.ntmps16
  go_wp2_with (simp only [fb])
  clear fb
  go_loopg [3, 4, 5] 8 (fun g c3 c4 c5 wr => ∃ (k : Nat) (m : Int) (q : List UInt8), c5 = .int .i64 (k : Int) ∧ c3 = .int .u64 m ∧ 0 ≤ m ∧ m < 18446744073709551616 ∧ k ≤ 8 ∧ Hid (g + k = 8) ∧ Hid (q ++ leR (8 - k) m.toNat = leB x) ∧ Hid (OB wr w.heap.size c4 q) ∧ Hid (RowKit.Below w.heap.size w wr))
  case atStart => exact ⟨0, y, [], rfl, rfl, hy1, hy2, by omega, rfl, (show _ = _ by rw [HY.out, List.nil_append, leR_8]), HO.out, (RowKit.Below.refl _ _).alloc (Nat.le_refl _) _⟩
  case round =>
    obtain ⟨k, m, q, rfl, rfl, hm0, hm1, hk, HG, HQ, HO, HW⟩ := hrel
    obtain ⟨a, c, hv, _⟩ := HO.out.row
    subst hv
    have HQL := Lib.hid (show q.length ≤ 8 by have := congrArg List.length HQ.out; rw [List.length_append, leB_len] at this; omega)
    by_cases hlt : k < 8
    · obtain ⟨z, hz⟩ : ∃ z : UInt8, z = m.toNat.toUInt8 := ⟨_, rfl⟩
      have HK := Lib.hid (show m % 256 = (z.toNat : Int) by rw [hz]; exact low8 hm0)
      have HZ := Lib.hid hz
      clear hz
      go_wp2_with (at_builtin; refine wpList_appB rfl _ _ rfl w.heap.size _ q [z] (some ⟨wr.heap.size, 0, none⟩) 1 1 (by rfl) (by rfl) rfl (HO.out.below ((RowKit.Below.refl _ _).alloc (Nat.le_refl _) _)) (one_byte wr z _ _ HK.out) (fun h => by cases h) (by have := HQL.out; simp; omega) (by have := HW.out.size; simp; omega) ?_; intro v3 w3 h3)
      have HO3 := Lib.hid h3.1
      have HW3 := Lib.hid (h3.2.1.below (base := w.heap.size) (HO.out.below ((RowKit.Below.refl _ _).alloc (Nat.le_refl _) _)) (by have := HW.out.size; simp; omega) (HW.out.alloc HW.out.size _))
      clear h3
      go_wp2
      go_roundg (8 - (k + 1))
      case measure => have := HG.out; omega
      case rel =>
        refine ⟨k + 1, m / 256, q ++ [z], by go_num, rfl, by omega, by omega, by omega, show _ = _ by omega, ?_, HO3.out, HW3.out⟩
        show _ = _
        rw [← HQ.out, show 8 - k = (8 - (k + 1)) + 1 by omega, leR, HZ.out, List.append_assoc, show (m / 256).toNat = m.toNat / 256 by omega]
        rfl
    · have E := Lib.hid (show leB x = q by rw [← HQ.out, show 8 - k = 0 by omega, leR, List.append_nil])
      go_wp2
      go_ret
      exact ⟨_, rfl, by rw [E.out]; exact HO.out, HW.out⟩
end Go.Proofs.Ytcahmijcfmakjaa
