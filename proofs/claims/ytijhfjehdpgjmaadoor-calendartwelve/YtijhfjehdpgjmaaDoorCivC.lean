/- Number, of the program and of the document's answer. -/
import Derived.Test.YtijhfjehdpgjmaaDoorCivB
namespace Go.Proofs.YtijhfjehdpgjmaaDoor
open Go.RowKit Go.Sort

set_option maxHeartbeats 400000 in
theorem number_no (y m d : Int) (w : World) (hy : I y) (hL : Lens w) (hR : ¬ rightP y m d) : Calls Tryd.prog 29 #[.agg #[.int .i64 y, .int .i64 m, .int .i64 d]] w fun e w' => e = .returned (.tuple #[.int .i64 0, .int .i64 31]) ∧ Gr w w' := by
  have C : ∀ W, Lens W → Hid (Calls Tryd.prog 30 #[.agg #[.int .i64 y, .int .i64 m, .int .i64 d]] W fun e w' => e = .returned (.bool false) ∧ Gr W w') := fun W h => right_no W hy h hR
  have HL := Lib.hid hL
  clear hL hy hR
  obtain ⟨c0, c1, c2⟩ := boxed w y m d 32
  have hG := Lib.hid ((Gr.refl w).alloc (Obj.cells #[Value.int IntKind.i64 y, Value.int IntKind.i64 m, Value.int IntKind.i64 d] 32))
  go_enter Tryd.func29, Tryd.ntmps29
  go_wp2_with fail
  refine (C _ (HL.out.gr hG.out)).out.mono ?_
  rintro e w1 ⟨rfl, hg⟩
  have HG := Lib.hid (hG.out.trans hg)
  clear hg
  go_wp2
  go_ret2
  exact ⟨rfl, HG.out⟩

set_option maxHeartbeats 400000 in
theorem number_yes (y m d : Int) (w : World) (hL : Lens w) (hR : rightP y m d) : Calls Tryd.prog 29 #[.agg #[.int .i64 y, .int .i64 m, .int .i64 d]] w fun e w' => e = .returned (.tuple #[.int .i64 (numF y m d), .int .i64 0]) ∧ Gr w w' := by
  obtain ⟨a1, a2, a3, a4, a5, a6⟩ := hR
  have a7 := lenF_hi y m
  have hy : I y := ⟨by omega, by omega⟩
  have C : ∀ W, Lens W → Hid (Calls Tryd.prog 30 #[.agg #[.int .i64 y, .int .i64 m, .int .i64 d]] W fun e w' => e = .returned (.bool true) ∧ Gr W w') := fun W h => right_yes W hy h ⟨a1, a2, a3, a4, a5, a6⟩
  have D : ∀ W, Hid (Calls Tryd.prog 40 #[.int .i64 y] W fun e w' => e = .returned (.int .i64 (nyF y)) ∧ W = w') := fun W => ny_any y W a1 (by omega)
  have HN := Lib.hid (show numF y m d = nyF y + monF y (m - 1).toNat + (d - 1) by unfold numF; omega)
  have hny := ny_bd y a1 (by omega)
  have HL := Lib.hid hL
  clear hL
  have d5 : d ≤ 31 := by omega
  clear a7 a6
  obtain ⟨c0, c1, c2⟩ := boxed w y m d 32
  have hG := Lib.hid ((Gr.refl w).alloc (Obj.cells #[Value.int IntKind.i64 y, Value.int IntKind.i64 m, Value.int IntKind.i64 d] 32))
  have hS := Lib.hid (show w.heap.size < (w.alloc (Obj.cells #[Value.int IntKind.i64 y, Value.int IntKind.i64 m, Value.int IntKind.i64 d] 32)).heap.size by simp)
  go_enter Tryd.func29, Tryd.ntmps29
  go_wp2_with fail
  refine (C _ (HL.out.gr hG.out)).out.mono ?_
  rintro e w1 ⟨rfl, hg⟩
  have HG := Lib.hid (hG.out.trans hg)
  have e0 := gcell hg hS.out c0
  have e1 := gcell hg hS.out c1
  have e2 := gcell hg hS.out c2
  have HL1 := Lib.hid (HL.out.gr HG.out)
  have HS0 := Lib.hid (Nat.lt_of_lt_of_le hS.out hg.size)
  clear hg c0 c1 c2 C hG HL
  go_wp2_with fail
  refine (D _).out.mono ?_
  rintro e w2 ⟨rfl, rfl⟩
  clear D
  generalize nyF y = N at *
  have HS1 := HS0
  clear hS
  go_wp2
  go_loopg [4, 5] 12 (fun g c4 c5 wr => ∃ k : Nat, c4 = .int .i64 (N + monF y k) ∧ c5 = .int .i64 ((k : Int) + 1) ∧ (k : Int) + 1 ≤ m ∧ g + k = 12 ∧ Hid (Gr w1 wr))
  case atStart => exact ⟨0, by simp [monF], by simp, by omega, by omega, Lib.hid (Gr.refl _)⟩
  case round =>
    obtain ⟨k, rfl, rfl, hk, hg, HW⟩ := hrel
    have f0 := gcell HW.out HS1.out e0
    have f1 := gcell HW.out HS1.out e1
    have f2 := gcell HW.out HS1.out e2
    clear e0 e1 e2
    have HLr := Lib.hid (HL1.out.gr HW.out)
    have m0 := mon_nn y k
    have m1 := mon_le y k (by omega)
    have m2 := ylF_hi y
    by_cases hlt : (k : Int) + 1 < m
    · have HM := Lib.hid (mon_next y k)
      have l0 := lenF_nn y ((k : Int) + 1)
      have l1 := lenF_hi y ((k : Int) + 1)
      have C : ∀ n, Hid (Calls Tryd.prog 31 #[.int .i64 y, .int .i64 ((k : Int) + 1)] (wr.drewN n) fun e w' => e = .returned (.int .i64 (lenF y ((k : Int) + 1))) ∧ wr.drewN n = w') := fun n => length_any y _ _ hy (HLr.out.gr ((Gr.refl _).drewN n))
      generalize lenF y ((k : Int) + 1) = L at *
      have m3 : monF y k ≤ 366 := by omega
      clear m1 m2
      generalize monF y k = M at *
      go_wp2_with fail
      first
        | (refine (C 0).out.mono ?_; rintro e w2 ⟨rfl, rfl⟩)
        | go_quiet ((go_at_call 31; exact Calls.same' (C _).out))
      go_wp2
      go_roundg (gk - 1)
      case measure => omega
      case rel => exact ⟨k + 1, by rw [HM.out]; go_num, by go_num, by omega, by omega, Lib.hid (HW.out.drewN _)⟩
    · obtain rfl : m = (k : Int) + 1 := by omega
      have HN2 := Lib.hid (show numF y ((k : Int) + 1) d = N + monF y k + (d - 1) by have := HN.out; rw [show ((k : Int) + 1 - 1).toNat = k by omega] at this; exact this)
      have m3 : monF y k ≤ 366 := by omega
      clear m1 m2
      go_wp2
      go_ret2
      exact ⟨by rw [HN2.out]; rfl, HG.out.trans HW.out⟩

set_option maxHeartbeats 400000 in
theorem ryear_any (y : Int) (w : World) (h : I y) : Calls Tryd.prog 32 #[.int .i64 y] w fun e w' => e = .returned (.int .i64 (ylF y)) ∧ w = w' := by
  by_cases hy : leapP y
  · have C : ∀ W, Hid (Calls Tryd.prog 38 #[.int .i64 y] W fun e w' => e = .returned (.bool true) ∧ W = w') := fun W => Lib.hid (by have := rleap_any y W h; simpa only [decide_eq_true_iff, hy, decide_true, decide_false] using this)
    have HY := Lib.hid (show ylF y = 366 by unfold ylF; rw [if_pos hy])
    clear hy h
    go_enter Tryd.func32, Tryd.ntmps32
    go_wp2_with fail
    refine (C _).out.mono ?_
    rintro e w1 ⟨rfl, rfl⟩
    go_wp2
    go_ret
    exact ⟨by rw [HY.out]; rfl, rfl⟩
  · have C : ∀ W, Hid (Calls Tryd.prog 38 #[.int .i64 y] W fun e w' => e = .returned (.bool false) ∧ W = w') := fun W => Lib.hid (by have := rleap_any y W h; simpa only [decide_eq_true_iff, hy, decide_true, decide_false] using this)
    have HY := Lib.hid (show ylF y = 365 by unfold ylF; rw [if_neg hy])
    clear hy h
    go_enter Tryd.func32, Tryd.ntmps32
    go_wp2_with fail
    refine (C _).out.mono ?_
    rintro e w1 ⟨rfl, rfl⟩
    go_wp2
    go_ret
    exact ⟨by rw [HY.out]; rfl, rfl⟩

set_option maxHeartbeats 400000 in
theorem rnumber_no (y m d : Int) (w : World) (hy : I y) (hR : ¬ rightP y m d) : Calls Tryd.prog 18 #[.agg #[.int .i64 y, .int .i64 m, .int .i64 d]] w fun e w' => e = .returned (.tuple #[.int .i64 0, .int .i64 31]) ∧ Gr w w' := by
  have C : ∀ W, Hid (Calls Tryd.prog 26 #[.agg #[.int .i64 y, .int .i64 m, .int .i64 d]] W fun e w' => e = .returned (.bool false) ∧ Gr W w') := fun W => rright_no W hy hR
  clear hy hR
  have hG := Lib.hid ((Gr.refl w).alloc (Obj.cells #[Value.int IntKind.i64 y, Value.int IntKind.i64 m, Value.int IntKind.i64 d] 32))
  go_enter Tryd.func18, Tryd.ntmps18
  go_wp2_with fail
  refine (C _).out.mono ?_
  rintro e w1 ⟨rfl, hg⟩
  have HG := Lib.hid (hG.out.trans hg)
  clear hg
  go_wp2
  go_ret2
  exact ⟨rfl, HG.out⟩

set_option maxHeartbeats 800000 in
theorem rnumber_yes (y m d : Int) (w : World) (hR : rightP y m d) : Calls Tryd.prog 18 #[.agg #[.int .i64 y, .int .i64 m, .int .i64 d]] w fun e w' => e = .returned (.tuple #[.int .i64 (numF y m d), .int .i64 0]) ∧ Gr w w' := by
  obtain ⟨a1, a2, a3, a4, a5, a6⟩ := hR
  have a7 := lenF_hi y m
  have hy : I y := ⟨by omega, by omega⟩
  have C : ∀ W, Hid (Calls Tryd.prog 26 #[.agg #[.int .i64 y, .int .i64 m, .int .i64 d]] W fun e w' => e = .returned (.bool true) ∧ Gr W w') := fun W => rright_yes W hy ⟨a1, a2, a3, a4, a5, a6⟩
  have HN := Lib.hid (show numF y m d = nyF y + monF y (m - 1).toNat + d - 1 from rfl)
  have HNY := Lib.hid (ny_bd y a1 (by omega))
  have d5 : d ≤ 31 := by omega
  clear a7 a6
  obtain ⟨c0, c1, c2⟩ := boxed w y m d 32
  have hG := Lib.hid ((Gr.refl w).alloc (Obj.cells #[Value.int IntKind.i64 y, Value.int IntKind.i64 m, Value.int IntKind.i64 d] 32))
  have hS := Lib.hid (show w.heap.size < (w.alloc (Obj.cells #[Value.int IntKind.i64 y, Value.int IntKind.i64 m, Value.int IntKind.i64 d] 32)).heap.size by simp)
  go_enter Tryd.func18, Tryd.ntmps18
  go_wp2_with fail
  refine (C _).out.mono ?_
  rintro e w1 ⟨rfl, hg⟩
  have HG := Lib.hid (hG.out.trans hg)
  have e0 := gcell hg hS.out c0
  have e1 := gcell hg hS.out c1
  have e2 := gcell hg hS.out c2
  have HS1 := Lib.hid (Nat.lt_of_lt_of_le hS.out hg.size)
  clear hg c0 c1 c2 C hG hS
  go_wp2
  go_loopg [4, 5] 400 (fun g c4 c5 wr => ∃ k : Nat, c4 = .int .i64 (nyF (1900 + (k : Int))) ∧ c5 = .int .i64 (1900 + (k : Int)) ∧ 1900 + (k : Int) ≤ y ∧ g + k = 400 ∧ Hid (Gr w1 wr))
  case atStart => exact ⟨0, by simp [ny_first], by simp, by omega, by omega, Lib.hid (Gr.refl _)⟩
  case round =>
    obtain ⟨k, rfl, rfl, hk, hg, HW⟩ := hrel
    have f0 := gcell HW.out HS1.out e0
    have f1 := gcell HW.out HS1.out e1
    have f2 := gcell HW.out HS1.out e2
    clear e0 e1 e2
    by_cases hlt : 1900 + (k : Int) < y
    · have HM := Lib.hid (ny_next (1900 + (k : Int)))
      have l0 := ylF_lo (1900 + (k : Int))
      have l1 := ylF_hi (1900 + (k : Int))
      have l2 := ny_bd (1900 + (k : Int)) (by omega) (by omega)
      have C : ∀ n, Hid (Calls Tryd.prog 32 #[.int .i64 (1900 + (k : Int))] (wr.drewN n) fun e w' => e = .returned (.int .i64 (ylF (1900 + (k : Int)))) ∧ wr.drewN n = w') := fun n => ryear_any _ _ ⟨by omega, by omega⟩
      generalize ylF (1900 + (k : Int)) = L at *
      generalize nyF (1900 + (k : Int)) = M at *
      go_wp2_with fail
      first
        | (refine (C 0).out.mono ?_; rintro e w2 ⟨rfl, rfl⟩)
        | go_quiet ((go_at_call 32; exact Calls.same' (C _).out))
      go_wp2
      go_roundg (gk - 1)
      case measure => omega
      case rel => exact ⟨k + 1, by rw [show (1900 : Int) + ((k + 1 : Nat) : Int) = 1900 + (k : Int) + 1 by omega, HM.out], by go_num, by omega, by omega, Lib.hid (HW.out.drewN _)⟩
    · obtain rfl : y = 1900 + (k : Int) := by omega
      have HG2 := Lib.hid (HG.out.trans HW.out)
      have HS2 := Lib.hid (Nat.lt_of_lt_of_le HS1.out HW.out.size)
      have hny := HNY.out
      clear HG HW HS1 HNY
      generalize hY : 1900 + (k : Int) = Y at *
      generalize nyF Y = N at *
      have z4 : decide (Y < Y) = false := by simp
      have HYe := Lib.hid hY
      clear hk hlt hY
      go_wp2
      go_loopg [4, 6] 12 (fun g c4 c5 wr2 => ∃ k : Nat, c4 = .int .i64 (N + monF Y k) ∧ c5 = .int .i64 ((k : Int) + 1) ∧ (k : Int) + 1 ≤ m ∧ g + k = 12 ∧ Hid (Gr wr wr2))
      case atStart => exact ⟨0, by simp [monF], by simp, by omega, by omega, Lib.hid (Gr.refl _)⟩
      case round =>
        obtain ⟨k, rfl, rfl, hk, hg, HW⟩ := hrel
        rename World => wr2
        have e0 := gcell HW.out HS2.out f0
        have e1 := gcell HW.out HS2.out f1
        have e2 := gcell HW.out HS2.out f2
        clear f0 f1 f2
        have m0 := mon_nn Y k
        have m1 := mon_le Y k (by omega)
        have m2 := ylF_hi Y
        by_cases hlt : (k : Int) + 1 < m
        · have HM := Lib.hid (mon_next Y k)
          have l0 := lenF_nn Y ((k : Int) + 1)
          have l1 := lenF_hi Y ((k : Int) + 1)
          have C : ∀ n, Hid (Calls Tryd.prog 27 #[.int .i64 Y, .int .i64 ((k : Int) + 1)] (wr2.drewN n) fun e w' => e = .returned (.int .i64 (lenF Y ((k : Int) + 1))) ∧ wr2.drewN n = w') := fun n => rlength_any Y _ _ hy
          generalize lenF Y ((k : Int) + 1) = L at *
          have m3 : monF Y k ≤ 366 := by omega
          clear m1 m2
          generalize monF Y k = M at *
          go_wp2_with fail
          first
            | (refine (C 0).out.mono ?_; rintro e w2 ⟨rfl, rfl⟩)
            | go_quiet ((go_at_call 27; exact Calls.same' (C _).out))
          go_wp2
          go_roundg (gk - 1)
          case measure => omega
          case rel => exact ⟨k + 1, by rw [HM.out]; go_num, by go_num, by omega, by omega, Lib.hid (HW.out.drewN _)⟩
        · obtain rfl : m = (k : Int) + 1 := by omega
          have HN2 := Lib.hid (show numF Y ((k : Int) + 1) d = N + monF Y k + d - 1 by have := HN.out; rw [show ((k : Int) + 1 - 1).toNat = k by omega] at this; exact this)
          have m3 : monF Y k ≤ 366 := by omega
          clear m1 m2
          go_wp2
          go_ret2
          exact ⟨by rw [HYe.out, HN2.out]; rfl, HG2.out.trans HW.out⟩
end Go.Proofs.YtijhfjehdpgjmaaDoor
