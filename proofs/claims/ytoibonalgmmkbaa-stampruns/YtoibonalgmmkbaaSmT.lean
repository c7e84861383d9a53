/- falseworkref09: Span, Number. -/
import Derived.Test.YtoibonalgmmkbaaSmQ
namespace Go.Proofs.Ytoibonalgmmkbaa
open Go.RowKit Go.Lib

theorem rspan_any (n : Int) (w : World) : Calls Try.prog 24 #[.int .i64 n] w fun e w' => e = .returned (.int .i64 (spanI n)) ∧ w = w' := by
  by_cases h0 : n < 0
  · have d0 : decide (n < 0) = true := by simpa using h0
    have H := Lib.hid (show spanI n = 0 by unfold spanI; rw [if_neg (by omega)])
    clear h0
    go_enter Try.func24, Try.ntmps24
    go_wp2
    go_ret
    exact ⟨by rw [H.out]; rfl, rfl⟩
  · have d0 : decide (n < 0) = false := by simp; omega
    by_cases h1 : 13515 < n
    · have d1 : decide (13515 < n) = true := by simpa using h1
      have H := Lib.hid (show spanI n = 0 by unfold spanI spanN; rw [if_pos (by omega), if_neg (by omega)]; rfl)
      clear h0 h1
      go_enter Try.func24, Try.ntmps24
      go_wp2
      go_ret
      exact ⟨by rw [H.out]; rfl, rfl⟩
    · have d1 : decide (13515 < n) = false := by simp; omega
      obtain ⟨m, rfl⟩ : ∃ k : Nat, n = (k : Int) := ⟨n.toNat, by omega⟩
      have hm : m ≤ 13515 := by omega
      have HM := Lib.hid hm
      have HS := Lib.hid (show spanI (m : Int) = ((max 1 ((m + 52) / 53) : Nat) : Int) by rw [spanI_nat]; unfold spanN; rw [if_pos hm])
      clear h0 h1 hm
      go_enter Try.func24, Try.ntmps24
      go_wp2
      go_loopw [3] (fun c3 wr => ∃ k : Nat, c3 = .int .i64 (k : Int) ∧ 1 ≤ k ∧ (k = 1 ∨ 53 * (k - 1) < m) ∧ w = wr) (fun c3 _ => 14000 - (match c3 with | .int _ q => q | _ => 0).toNat)
      case atStart => exact ⟨1, rfl, Nat.le_refl _, Or.inl rfl, rfl⟩
      case round =>
        clear d0 d1
        obtain ⟨k, rfl, hk1, hk, rfl⟩ := hrel
        have hk3 : k ≤ 300 := by have := HM.out; omega
        have HK := Lib.hid hk
        clear hk
        by_cases hlt : 53 * k < m
        · have d0 : decide ((53 : Int) * (k : Int) < (m : Int)) = true := by simp; omega
          go_wp2
          go_roundw
          case rel => exact ⟨k + 1, by go_num, by omega, Or.inr (by omega), trivial⟩
          case measure => simp; omega
        · have d0 : decide ((53 : Int) * (k : Int) < (m : Int)) = false := by simp; omega
          have HR := Lib.hid (show spanI (m : Int) = (k : Int) by rw [HS.out]; have := HK.out; omega)
          clear hlt
          go_wp2
          go_ret
          exact ⟨by rw [HR.out]; rfl, rfl⟩
theorem num8_drop {s : Sec} {i : Nat} (hi : i < s.length) : num8 (s.drop i) = (s.getD i 0).toNat + 256 * num8 (s.drop (i + 1)) := by
  rw [List.drop_eq_getElem_cons hi, num8, List.getD, List.getElem?_eq_getElem hi]
  rfl
set_option maxRecDepth 100000 in
set_option maxHeartbeats 1600000 in
theorem number_any (s : Sec) (hs : s.length = 64) (w : World) : Calls Try.prog 43 #[.agg (bcells s).toArray] w fun e w' => e = .returned (.int .u64 (stN s : Int)) ∧ RowKit.Below w.heap.size w w' := by
  obtain ⟨c, hc⟩ : ∃ c, c = bcells s := ⟨_, rfl⟩
  have HC := Lib.hid hc
  have HS := Lib.hid hs
  obtain ⟨w1, hw1⟩ : ∃ w1, w1 = w.alloc (.cells c.toArray 59) := ⟨_, rfl⟩
  have HB1 := Lib.hid (show RowKit.Below w.heap.size w w1 by rw [hw1]; exact (RowKit.Below.refl _ _).alloc (Nat.le_refl _) _)
  have hp : w1.heap[w.heap.size]? = some (.cells c.toArray 59) := by rw [hw1]; exact blkn rfl
  have HX := Lib.hid (show ∀ k, k < 64 → w1.cell? ⟨w.heap.size, k, none⟩ = some (.int .u8 ((s.getD k 0).toNat : Int)) from fun k hk => by rw [cell_of_row _ _ _ _ _ _ hp, hc, List.getElem?_toArray, bcells_get (by omega)])
  have HW1 := Lib.hid hw1
  rw [← hc]
  clear hc hs hw1 hp
  go_enter Try.func43, Try.ntmps43
  go_wp2_with (with_reducible refine wpList_boxA rfl _ _ rfl _ rfl ?_)
  rw [← HW1.out]
  go_loopw [3, 4] (fun c3 c4 wr => ∃ (j : Nat) (z : Int), c3 = .int .u64 ((num8 (s.drop (56 + j)) : Nat) : Int) ∧ c4 = .int .i64 z ∧ z = 55 + (j : Int) ∧ j ≤ 8 ∧ wr = w1) (fun _ c4 _ => ((match c4 with | .int _ q => q | _ => 0) - 55).toNat)
  case atStart => exact ⟨8, 63, by rw [List.drop_of_length_le (by rw [HS.out]; omega)]; rfl, rfl, by omega, by omega, rfl⟩
  case round =>
    obtain ⟨j, z, rfl, rfl, hz, hj, rfl⟩ := hrel
    cases j with
    | succ j =>
      obtain rfl : z = ((56 + j : Nat) : Int) := by omega
      obtain ⟨m, hm⟩ : ∃ m, m = num8 (s.drop (56 + (j + 1))) := ⟨_, rfl⟩
      have hml : m < 72057594037927936 := by
        rw [hm]
        refine pow256 (n := 7 - j) (Nat.lt_of_lt_of_le (num8_lt _) (Nat.pow_le_pow_right (by omega) ?_)) (by omega)
        rw [List.length_drop, HS.out]; omega
      rw [← hm]
      obtain ⟨b, hb⟩ : ∃ b, b = s.getD (56 + j) 0 := ⟨_, rfl⟩
      have q := HX.out (56 + j) (by omega)
      rw [← hb] at q
      have HNX := Lib.hid (show num8 (s.drop (56 + j)) = m * 256 + b.toNat by rw [num8_drop (by rw [HS.out]; omega), hm, hb, show 56 + j + 1 = 56 + (j + 1) by omega]; omega)
      have hbl := b.toNat_lt
      have e1 : IntKind.u64.wrap ((m : Int) * 256) = (m : Int) * 256 := by rw [IntKind.wrap_u64]; omega
      have e2 : IntKind.u64.wrap ((m : Int) * 256 + (b.toNat : Int)) = (m : Int) * 256 + (b.toNat : Int) := by rw [IntKind.wrap_u64]; omega
      have e3 : IntKind.u64.wrap ((b.toNat : Int)) = ((b.toNat : Nat) : Int) := by rw [IntKind.wrap_u64]; omega
      have d0 : decide ((56 : Int) ≤ ((56 + j : Nat) : Int)) = true := by simp; omega
      clear hz hm hml hb hbl
      go_wp2
      go_roundw
      case rel => exact ⟨j, 55 + (j : Int), by rw [HNX.out, Int.natCast_add, Int.natCast_mul]; rfl, by go_num, rfl, by omega, trivial⟩
      case measure => simp; omega
    | zero =>
      have d0 : decide ((56 : Int) ≤ z) = false := by simp; omega
      obtain ⟨m, hm⟩ : ∃ m, m = num8 (s.drop (56 + 0)) := ⟨_, rfl⟩
      have HR := Lib.hid (show stN s = m by rw [hm]; rfl)
      rw [← hm]
      clear hz hm
      go_wp2
      go_ret
      exact ⟨by rw [HR.out]; rfl, HB1.out⟩
end Go.Proofs.Ytoibonalgmmkbaa
