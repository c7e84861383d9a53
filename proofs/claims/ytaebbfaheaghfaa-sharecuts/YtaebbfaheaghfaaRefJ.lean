/- The contracts of falseworkref01, tenth part: Divide. -/
import Derived.Test.YtaebbfaheaghfaaDivU
import Derived.Test.YtaebbfaheaghfaaDivX
import Derived.Test.YtaebbfaheaghfaaDivTS
namespace Go.Proofs.Ytaebbfaheaghfaa
open Go.RowKit

theorem dC_twice1 (c : Int) (r : Nat) : 2 * dC c (r + 1) = dC c (r + 1 + 1) := dC_twice c r
theorem dC_mono (c : Int) {r s : Nat} (h : r ≤ s) (hc : 0 < c) : dC c (r + 1) ≤ dC c (s + 1) := by
  induction s with
  | zero =>
    obtain rfl : r = 0 := by omega
    exact Int.le_refl _
  | succ s ih =>
    rcases Nat.lt_or_ge s r with hl | hl
    · obtain rfl : r = s + 1 := by omega
      exact Int.le_refl _
    · have := ih hl
      have := dC_twice1 c s
      have := dC_pos c s hc
      omega
/-- what holds at the head of the first loop -/
def Up (w : World) (a c : Int) (wr : World) (s : Nat) : Prop :=
  Below w.heap.size w wr ∧ DigAt wr (w.heap.size) a ∧ DigAt wr (w.heap.size + 1) (dC c (s + 1)) ∧ Room10 wr (w.heap.size + 1 + 1) ∧ Room10 wr (w.heap.size + 1 + 1 + 1) ∧ DigAt wr (w.heap.size + 1 + 1 + 1 + 1) (dC 1 (s + 1))
/-- what holds at the head of the second loop: g rounds to come -/
def Down (w : World) (a c : Int) (b : Nat) (wr : World) (g : Nat) (x q : Int) : Prop :=
  0 ≤ x ∧ x < dC c (g + 1) ∧ 0 ≤ q ∧ q * c + x = a ∧ Below w.heap.size w wr ∧ DigAt wr (w.heap.size) x ∧ DigAt wr (w.heap.size + 1) (dC c g) ∧ Room10 wr (w.heap.size + 1 + 1) ∧ Room10 wr (w.heap.size + 1 + 1 + 1) ∧ DigAt wr (w.heap.size + 1 + 1 + 1 + 1) (dC 1 g) ∧ DigAt wr b q

set_option maxHeartbeats 80000000 in
set_option maxRecDepth 100000 in
theorem divide_any (a c : Int) (w : World) (a0 : 0 ≤ a) (a1 : a < 1361129467683753853853498429727072845824) (c0 : 0 < c) (c1 : c ≤ 18446744073709551616) :
    Calls Try.prog 48 #[D a, D c] w fun e w' => e = .returned (.tuple #[D (a / c), D (a % c)]) ∧ Below w.heap.size w w' := by
  go_enter Try.func48, Try.ntmps48
  go_wp2
  go_loopg [7] 140 (fun g c7 wr => ∃ s : Nat, c7 = .int .i64 s ∧ g + s = 140 ∧ (s = 0 ∨ dC c (s + 1) ≤ a) ∧ Up w a c wr s)
  case atStart =>
    refine ⟨0, rfl, rfl, Or.inl rfl, ?_⟩
    have e1 := dC_one c
    have e2 := dC_one 1
    unfold Up
    rw [e1, e2]
    refine ⟨by go_grown, ⟨?_, ?_, ?_, ?_, ?_, ?_, ?_, ?_, ?_, ?_, ?_, ?_⟩, ⟨?_, ?_, ?_, ?_, ?_, ?_, ?_, ?_, ?_, ?_, ?_, ?_⟩, DigAt.room (x := 0) ⟨?_, ?_, ?_, ?_, ?_, ?_, ?_, ?_, ?_, ?_, ?_, ?_⟩, DigAt.room (x := 0) ⟨?_, ?_, ?_, ?_, ?_, ?_, ?_, ?_, ?_, ?_, ?_, ?_⟩, ⟨?_, ?_, ?_, ?_, ?_, ?_, ?_, ?_, ?_, ?_, ?_, ?_⟩⟩
    all_goals first | (intro i; simp [go_sem]; done) | (simp [go_sem, dgt_zero]; done) | (simp [go_sem]; decide) | (simp; done) | (simp; omega)
  case round =>
    obtain ⟨s, rfl, hg, hs, hU⟩ := hrel
    unfold Up at hU
    obtain ⟨hb, n2, n3, n4, n5, n6⟩ := hU
    have d1 := dC_pos c s c0
    have d2 := dC_pos 1 s (by omega)
    have d3 := dC_le c s c0
    have d4 : dC c (s + 1) < 1361129467683753853853498429727072845824 := by
      rcases hs with rfl | hs
      · rw [dC_one]; omega
      · omega
    have t3 := dC_big s (by omega)
    by_cases h2 : 2 * dC c (s + 1) ≤ a
    · refine up_go a (dC c (s + 1)) (dC 1 (s + 1)) s w wr _ _ _ _ _ _ _ _ _ _ _ _ _ _ _ _ _ _ _ _ _ _ _ _ _ _ _ _ _ _ _ _ _ _ _ _ _ _ _ _ _ _ _ _ _ _ _ _ _ _ _ _ _ _ _ _ (Lib.hid hb) (Lib.hid n2) (Lib.hid n3) (Lib.hid n4) (Lib.hid n5) (Lib.hid n6) t3 a0 a1 d1 d4 d2 d3 h2 (Lib.hid ?_)
      clear hb n2 n3 n4 n5 n6
      intro u12 u13 u14 u15 u16 u17 u18 u19 u20 u21 u22 u23 u24 u25 u26 w' hb n2 n3 n4 n5 n6
      rw [dC_twice1] at n3 n6 h2
      go_wp2
      go_roundg (gk - 1)
      case measure => omega
      case rel => exact ⟨s + 1, rfl, by omega, Or.inr h2, ⟨hb, n2, n3, n4, n5, n6⟩⟩
    · refine up_stop a (dC c (s + 1)) (dC 1 (s + 1)) s w wr _ _ _ _ _ _ _ _ _ _ _ _ _ _ _ _ _ _ _ _ _ _ _ _ _ _ _ _ _ _ _ _ _ _ _ _ _ _ _ _ _ _ _ _ _ _ _ _ _ _ _ _ _ _ _ _ (Lib.hid hb) (Lib.hid n2) (Lib.hid n3) (Lib.hid n4) (Lib.hid n5) (Lib.hid n6) a0 a1 d1 d4 d2 d3 (by omega) (Lib.hid ?_)
      clear hb n2 n3 n4 n5 n6
      intro u12 u13 u14 u15 u16 u17 u18 u19 u20 u21 u22 u23 u24 u25 u26 wq hb n2 n3 n4 n5 n6
      have l6 := n6.lt
      have N2 := Lib.hid n2
      have N3 := Lib.hid n3
      have N4 := Lib.hid n4
      have N5 := Lib.hid n5
      have N6 := Lib.hid n6
      have HB := Lib.hid hb
      clear hb n2 n3 n4 n5 n6
      go_wp2
      go_loopg [9] (s + 1) (fun g c9 wr => ∃ (k : Nat) (x q : Int), c9 = .int .i64 k ∧ k + g = s + 1 ∧ Down w a c wq.heap.size wr g x q)
      case atStart =>
        refine ⟨0, a, 0, rfl, by omega, ⟨a0, by rw [← dC_twice1]; omega, by omega, by omega, ?_, ?_, ?_, ?_, ?_, ?_, ?_⟩⟩
        · have hb := HB.out
          repeat' (first | (with_reducible exact hb) | (with_reducible exact Below.refl _ _) | (with_reducible refine below_drewN ?_ _) | (with_reducible refine Below.drew ?_) | (with_reducible refine Below.alloc ?_ ?_ _) | (with_reducible refine Below.setCell ?_ ?_ _) | (simp; done) | (simp; omega) | omega)
        · repeat' (with_reducible first | exact N2.out | refine DigAt.drewN ?_ _ | refine DigAt.drew ?_ | refine DigAt.alloc ?_ _ | refine DigAt.other ?_ _ (by omega))
        · repeat' (with_reducible first | exact N3.out | refine DigAt.drewN ?_ _ | refine DigAt.drew ?_ | refine DigAt.alloc ?_ _ | refine DigAt.other ?_ _ (by omega))
        · repeat' (with_reducible first | exact N4.out | refine Room10.drewN ?_ _ | refine Room10.drew ?_ | refine Room10.alloc ?_ _ | refine Room10.other ?_ _)
        · repeat' (with_reducible first | exact N5.out | refine Room10.drewN ?_ _ | refine Room10.drew ?_ | refine Room10.alloc ?_ _ | refine Room10.other ?_ _)
        · repeat' (with_reducible first | exact N6.out | refine DigAt.drewN ?_ _ | refine DigAt.drew ?_ | refine DigAt.alloc ?_ _ | refine DigAt.other ?_ _ (by omega))
        · refine ⟨?_, ?_, ?_, ?_, ?_, ?_, ?_, ?_, ?_, ?_, ?_, ?_⟩
          all_goals first | (intro i; simp [go_sem]; done) | (simp [go_sem, dgt_zero]; done) | (simp; done) | (simp; omega)
      case round =>
        obtain ⟨k, x, q, rfl, hk, hD⟩ := hrel
        unfold Down at hD
        obtain ⟨x0, x1, q0, hqx, hb, n2, n3, n4, n5, n6, n8⟩ := hD
        clear N2 N3 N4 N5 N6 HB
        cases gk with
        | zero =>
          have hl8 := n8.lt
          have e := dv_end x q c a hqx x0 (by rw [dC_one] at x1; exact x1)
          have hkd : decide ((k : Int) ≤ (s : Int)) = false := by simp only [decide_eq_false_iff_not]; omega
          have hk' : ¬ (k ≤ s) := by omega
          have l2 := n2.lt
          have l4 := n4.lt
          have l5 := n5.lt
          have E := Lib.hid e
          have N2 := Lib.hid n2
          have N4 := Lib.hid n4
          have N5 := Lib.hid n5
          have N8 := Lib.hid n8
          have HB := Lib.hid hb
          clear e hb n2 n3 n4 n5 n6 n8 hqx x0 x1 q0 d1 d2 d3 d4 h2 hs hg hk
          have hn1 : ¬ (w.heap.size + 1 + 1 = wq.heap.size) := by omega
          have hn2 : ¬ (w.heap.size + 1 + 1 + 1 = wq.heap.size) := by omega
          have hn3 : ¬ (wq.heap.size = w.heap.size + 1 + 1) := by omega
          have hn4 : ¬ (wq.heap.size = w.heap.size + 1 + 1 + 1) := by omega
          have x0 := N2.out.c0
          have x1 := N2.out.c1
          have x2 := N2.out.c2
          have x3 := N2.out.c3
          have x4 := N2.out.c4
          have x5 := N2.out.c5
          have x6 := N2.out.c6
          have x7 := N2.out.c7
          have x8 := N2.out.c8
          have x9 := N2.out.c9
          have o0 := N8.out.c0
          have o1 := N8.out.c1
          have o2 := N8.out.c2
          have o3 := N8.out.c3
          have o4 := N8.out.c4
          have o5 := N8.out.c5
          have o6 := N8.out.c6
          have o7 := N8.out.c7
          have o8 := N8.out.c8
          have o9 := N8.out.c9
          obtain ⟨yv0, y0⟩ := N4.out.ex 0 (by omega)
          obtain ⟨yv1, y1⟩ := N4.out.ex 1 (by omega)
          obtain ⟨yv2, y2⟩ := N4.out.ex 2 (by omega)
          obtain ⟨yv3, y3⟩ := N4.out.ex 3 (by omega)
          obtain ⟨yv4, y4⟩ := N4.out.ex 4 (by omega)
          obtain ⟨yv5, y5⟩ := N4.out.ex 5 (by omega)
          obtain ⟨yv6, y6⟩ := N4.out.ex 6 (by omega)
          obtain ⟨yv7, y7⟩ := N4.out.ex 7 (by omega)
          obtain ⟨yv8, y8⟩ := N4.out.ex 8 (by omega)
          obtain ⟨yv9, y9⟩ := N4.out.ex 9 (by omega)
          obtain ⟨zv0, z0⟩ := N5.out.ex 0 (by omega)
          obtain ⟨zv1, z1⟩ := N5.out.ex 1 (by omega)
          obtain ⟨zv2, z2⟩ := N5.out.ex 2 (by omega)
          obtain ⟨zv3, z3⟩ := N5.out.ex 3 (by omega)
          obtain ⟨zv4, z4⟩ := N5.out.ex 4 (by omega)
          obtain ⟨zv5, z5⟩ := N5.out.ex 5 (by omega)
          obtain ⟨zv6, z6⟩ := N5.out.ex 6 (by omega)
          obtain ⟨zv7, z7⟩ := N5.out.ex 7 (by omega)
          obtain ⟨zv8, z8⟩ := N5.out.ex 8 (by omega)
          obtain ⟨zv9, z9⟩ := N5.out.ex 9 (by omega)
          have f0 := N4.out.f 0
          have f1 := N4.out.f 1
          have f2 := N4.out.f 2
          have f3 := N4.out.f 3
          have f4 := N4.out.f 4
          have f5 := N4.out.f 5
          have f6 := N4.out.f 6
          have f7 := N4.out.f 7
          have f8 := N4.out.f 8
          have f9 := N4.out.f 9
          have g0 := N5.out.f 0
          have g1 := N5.out.f 1
          have g2 := N5.out.f 2
          have g3 := N5.out.f 3
          have g4 := N5.out.f 4
          have g5 := N5.out.f 5
          have g6 := N5.out.f 6
          have g7 := N5.out.f 7
          have g8 := N5.out.f 8
          have g9 := N5.out.f 9
          go_wp2
          go_region
          all_goals
            go_wp2
            refine bodyPost_ret (v := .tuple #[D q, D x]) (by simp [results, Try.results48, go_sem, y0, z0, y1, z1, y2, z2, y3, z3, y4, z4, y5, z5, y6, z6, y7, z7, y8, z8, y9, z9]) rfl ⟨by rw [← E.out.1, ← E.out.2], ?_⟩
            have hb := HB.out
            repeat' (first | (with_reducible exact hb) | (with_reducible exact Below.refl _ _) | (with_reducible refine below_drewN ?_ _) | (with_reducible refine Below.drew ?_) | (with_reducible refine Below.alloc ?_ ?_ _) | (with_reducible refine Below.setCell ?_ ?_ _) | (simp; done) | (simp; omega) | omega)
        | succ r =>
          have e1 := dC_pos c r c0
          have e2 := dC_pos 1 r (by omega)
          have e3 := dC_le c r c0
          have e4 := dC_mono c (show r ≤ s by omega) c0
          have e5 := dv_q x q c a hqx x0 q0 c0
          have e6 : x ≤ a := by have := Int.mul_nonneg q0 (Int.le_of_lt c0); omega
          have e7 := dC_twice1 c r
          by_cases hc : dC c (r + 1) ≤ x
          · refine down_take x (dC c (r + 1)) (dC 1 (r + 1)) q s k wq.heap.size w wr _ _ _ _ _ _ _ _ _ _ _ _ _ _ _ _ _ _ _ _ _ _ _ _ _ _ _ _ _ _ _ _ _ _ _ _ _ _ _ _ _ _ _ _ _ _ _ _ _ _ _ _ _ _ (Lib.hid hb) (Lib.hid n2) (Lib.hid n3) (Lib.hid n4) (Lib.hid n5) (Lib.hid n6) (Lib.hid n8) t3 (by omega) l6 x0 (by omega) e1 (by omega) e2 e3 q0 (by omega) hc (Lib.hid ?_)
            clear hb n2 n3 n4 n5 n6 n8
            intro u10 u28 u29 u30 u31 u32 u33 u34 u35 u36 u37 u38 u39 u40 u41 u42 u43 u44 u45 u46 u47 u48 u49 u50 u51 u52 u53 u54 u55 u56 u57 w' hb n2 n3 n4 n5 n6 n8
            rw [dC_half] at n3 n6
            go_wp2
            go_roundg r
            case measure => omega
            case rel => exact ⟨k + 1, x - dC c (r + 1), q + dC 1 (r + 1), rfl, by omega, ⟨by omega, by omega, by omega, dv_take x q c a r hqx, hb, n2, n3, n4, n5, n6, n8⟩⟩
          · refine down_skip x (dC c (r + 1)) (dC 1 (r + 1)) q s k wq.heap.size w wr _ _ _ _ _ _ _ _ _ _ _ _ _ _ _ _ _ _ _ _ _ _ _ _ _ _ _ _ _ _ _ _ _ _ _ _ _ _ _ _ _ _ _ _ _ _ _ _ _ _ _ _ _ _ (Lib.hid hb) (Lib.hid n2) (Lib.hid n3) (Lib.hid n4) (Lib.hid n5) (Lib.hid n6) (Lib.hid n8) t3 (by omega) l6 x0 (by omega) e1 (by omega) e2 e3 (by omega) (Lib.hid ?_)
            clear hb n2 n3 n4 n5 n6 n8
            intro u10 u28 u29 u30 u31 u32 u33 u34 u35 u36 u37 u38 u39 u40 u41 u42 u43 u44 u45 u46 u47 u48 u49 u50 u51 u52 u53 u54 u55 u56 u57 w' hb n2 n3 n4 n5 n6 n8
            rw [dC_half] at n3 n6
            go_wp2
            go_roundg r
            case measure => omega
            case rel => exact ⟨k + 1, x, q, rfl, by omega, ⟨x0, by omega, q0, hqx, hb, n2, n3, n4, n5, n6, n8⟩⟩
end Go.Proofs.Ytaebbfaheaghfaa
