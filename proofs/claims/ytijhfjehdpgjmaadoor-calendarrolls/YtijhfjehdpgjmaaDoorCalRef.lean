/- Business, There, Seek and Modified of the document's answer. -/
import Derived.Test.YtijhfjehdpgjmaaDoorCalMod
namespace Go.Proofs.YtijhfjehdpgjmaaDoor
open Go.RowKit Go.Sort

theorem RowAt.at {w : World} {a : Option Addr} {l : List Int} (h : RowAt w a l) {k : Nat} (hk : k < l.length) : ∃ b off, a = some ⟨b, off, none⟩ ∧ w.cell? ⟨b, off + k, none⟩ = some (.int .i64 (l.getD k 0)) := by
  rcases h with h | ⟨b, off, ha, hlt, hc⟩
  · subst h; simp at hk
  · exact ⟨b, off, ha, hc k hk⟩
theorem mem_take_succ (l : List Int) (k : Nat) (h : k < l.length) (n : Int) : n ∈ l.take (k + 1) ↔ n ∈ l.take k ∨ n = l.getD k 0 := by
  rw [take_succ l k h]; simp

set_option maxHeartbeats 800000 in
theorem rbusiness_any (a : Option Addr) (l : List Int) (cap : Nat) (n : Int) (w : World) (hn : I n) (hr : RowAt w a l) (hl : l.length ≤ 1000000) :
    Calls Tryd.prog 24 #[.slice a l.length cap, .int .i64 n] w fun e w' => e = .returned (.bool (decide (biz l n))) ∧ w = w' := by
  have HR := Lib.hid hr; clear hr
  have C : ∀ W, Hid (Calls Tryd.prog 37 #[.int .i64 n] W fun e w' => e = .returned (.int .i64 (n % 7)) ∧ W = w') := fun W => rweek_any n W hn
  have HB := Lib.hid (show biz l n ↔ n ∉ l ∧ n % 7 < 5 from Iff.rfl)
  generalize n % 7 = r at *
  go_enter Tryd.func24, Tryd.ntmps24
  go_wp2
  go_loopg [9] l.length (fun g c9 wr => ∃ k : Nat, k ≤ l.length ∧ c9 = .int .i64 (k : Int) ∧ g + k = l.length ∧ n ∉ l.take k ∧ wr = w)
  case atStart => exact ⟨0, by omega, rfl, by omega, by simp, rfl⟩
  case round =>
    obtain ⟨k, hk, rfl, hg, hm, rfl⟩ := hrel
    by_cases hlt : k < l.length
    · obtain ⟨b, off, rfl, hc⟩ := HR.out.at hlt
      have hx : l.getD k 0 ∈ l := by simp [hlt]
      have HS := Lib.hid (mem_take_succ l k hlt n)
      generalize l.getD k 0 = x at *
      by_cases he : x = n
      · subst he
        have HE := Lib.hid (show decide (biz l x) = false by rw [decide_eq_false_iff_not, HB.out]; exact fun h => h.1 hx)
        clear hx hm HS
        go_wp2
        go_ret
        exact ⟨by rw [HE.out]; rfl, rfl⟩
      · have HM := Lib.hid (show n ∉ l.take (k + 1) by rw [HS.out]; intro h; rcases h with h | h; exact hm h; exact he h.symm)
        clear hx hm HS
        go_wp2
        go_roundg (gk - 1)
        case measure => omega
        case rel => exact ⟨k + 1, by omega, by go_num, by omega, HM.out, rfl⟩
    · obtain rfl : k = l.length := by omega
      rw [List.take_length] at hm
      have HE := Lib.hid (show decide (biz l n) = decide (r < 5) by rw [decide_eq_decide, HB.out]; exact ⟨fun h => h.2, fun h => ⟨hm, h⟩⟩)
      clear hm
      go_wp2_with fail
      refine (C _).out.mono ?_
      rintro e w1 ⟨rfl, rfl⟩
      go_wp2
      go_ret
      exact ⟨by rw [HE.out]; rfl, rfl⟩

theorem rthere_yes (n : Int) (w : World) (h : 0 ≤ n ∧ n < 146097) : Calls Tryd.prog 34 #[.int .i64 n] w fun e w' => e = .returned (.bool true) ∧ Gr w w' := by
  go_enter Tryd.func34, Tryd.ntmps34
  go_wp2_with fail
  refine (rof_yes n _ h.1 h.2).mono ?_
  rintro e w1 ⟨⟨y, m, d, _, _, rfl⟩, hg1⟩
  have HG1 := Lib.hid hg1
  clear hg1
  go_wp2
  go_ret
  exact ⟨rfl, HG1.out.alloc _⟩
theorem rthere_no (n : Int) (w : World) (h : ¬ (0 ≤ n ∧ n < 146097)) : Calls Tryd.prog 34 #[.int .i64 n] w fun e w' => e = .returned (.bool false) ∧ Gr w w' := by
  go_enter Tryd.func34, Tryd.ntmps34
  go_wp2_with fail
  refine (rof_no n _ (by omega)).mono ?_
  rintro e w1 ⟨rfl, hg1⟩
  have HG1 := Lib.hid hg1
  clear hg1
  go_wp2
  go_ret
  exact ⟨rfl, HG1.out.alloc _⟩

theorem rseek_out (a : Option Addr) (len cap : Nat) (n s : Int) (w : World) (h : ¬ (0 ≤ n ∧ n < 146097)) :
    Calls Tryd.prog 21 #[.slice a len cap, .int .i64 n, .int .i64 s] w fun e w' => e = .returned (.tuple #[.int .i64 0, .int .i64 41]) ∧ Gr w w' := by
  go_enter Tryd.func21, Tryd.ntmps21
  go_wp2_with fail
  refine (rthere_no n _ h).mono ?_
  rintro e w1 ⟨rfl, hg1⟩
  have HG1 := Lib.hid hg1
  clear hg1
  go_wp2
  go_ret2
  exact ⟨rfl, HG1.out⟩

set_option maxHeartbeats 1600000 in
theorem rseek_up (a : Option Addr) (l : List Int) (cap : Nat) (n : Int) (w : World) (h : 0 ≤ n ∧ n < 146097) (hr : RowAt w a l) (hl : l.length ≤ 1000000) :
    Calls Tryd.prog 21 #[.slice a l.length cap, .int .i64 n, .int .i64 1] w fun e w' => e = .returned (.tuple #[.int .i64 (seekV (seekF l 1 32 n)), .int .i64 (seekE (seekF l 1 32 n))]) ∧ Gr w w' := by
  have HR := Lib.hid hr; clear hr
  generalize hF : seekF l 1 32 n = F
  have HF := Lib.hid hF
  clear hF
  go_enter Tryd.func21, Tryd.ntmps21
  go_wp2_with fail
  refine (rthere_yes n _ h).mono ?_
  rintro e w1 ⟨rfl, hg1⟩
  have HG1 := Lib.hid hg1
  clear hg1
  go_wp2
  go_loopg [8] 32 (fun g c8 wr => ∃ k : Nat, k ≤ 32 ∧ c8 = .int .i64 (k : Int) ∧ g + k = 32 ∧ Hid (seekF l 1 (32 - k) (n + (k : Int)) = F ∨ (F = none ∧ 146097 ≤ n + (k : Int))) ∧ Hid (Gr w wr))
  case atStart => exact ⟨0, by omega, rfl, by omega, Lib.hid (Or.inl (by simpa using HF.out)), HG1⟩
  case round =>
    obtain ⟨k, hk, rfl, hg, HQ, HW⟩ := hrel
    have HRr := Lib.hid (HR.out.gr HW.out)
    by_cases hlt : k < 32
    · by_cases hin : 0 ≤ n + (k : Int) ∧ n + (k : Int) < 146097
      · have hq : seekF l 1 (32 - k) (n + (k : Int)) = F := by rcases HQ.out with h | h; exact h; exfalso; omega
        rw [show 32 - k = 32 - (k + 1) + 1 by omega] at hq
        have A : ∀ W, Hid (Calls Tryd.prog 34 #[.int .i64 (n + (k : Int))] W fun e w' => e = .returned (.bool true) ∧ Gr W w') := fun W => rthere_yes _ W hin
        by_cases hb : biz l (n + (k : Int))
        · have HF2 := Lib.hid (show F = some (n + (k : Int)) by rw [← hq, seek_hit hin hb])
          have B : ∀ W, Gr wr W → Hid (Calls Tryd.prog 24 #[.slice a l.length cap, .int .i64 (n + (k : Int))] W fun e w' => e = .returned (.bool true) ∧ W = w') := fun W hW => Lib.hid (by have := rbusiness_any a l cap (n + (k : Int)) W ⟨by omega, by omega⟩ (HRr.out.gr hW) hl; rwa [decide_eq_true hb] at this)
          clear hq hb HQ
          go_wp2_with fail
          refine (A _).out.mono ?_
          rintro e w2 ⟨rfl, hg2⟩
          have HG2 := Lib.hid hg2
          clear hg2
          go_wp2_with fail
          refine (B _ HG2.out).out.mono ?_
          rintro e w3 ⟨rfl, rfl⟩
          go_wp2
          go_ret2
          exact ⟨by rw [HF2.out]; rfl, HW.out.trans HG2.out⟩
        · have HF2 := Lib.hid (show seekF l 1 (32 - (k + 1)) (n + ((k : Int) + 1)) = F by rw [← hq, seek_miss hin hb]; congr 1; omega)
          have B : ∀ W, Gr wr W → Hid (Calls Tryd.prog 24 #[.slice a l.length cap, .int .i64 (n + (k : Int))] W fun e w' => e = .returned (.bool false) ∧ W = w') := fun W hW => Lib.hid (by have := rbusiness_any a l cap (n + (k : Int)) W ⟨by omega, by omega⟩ (HRr.out.gr hW) hl; rwa [decide_eq_false hb] at this)
          clear hq hb HQ
          go_wp2_with fail
          refine (A _).out.mono ?_
          rintro e w2 ⟨rfl, hg2⟩
          have HG2 := Lib.hid hg2
          clear hg2
          go_wp2_with fail
          refine (B _ HG2.out).out.mono ?_
          rintro e w3 ⟨rfl, rfl⟩
          go_wp2
          go_roundg (gk - 1)
          case measure => omega
          case rel => exact ⟨k + 1, by omega, by go_num, by omega, Lib.hid (Or.inl (by rw [show ((k + 1 : Nat) : Int) = (k : Int) + 1 by omega]; exact HF2.out)), Lib.hid (HW.out.trans HG2.out)⟩
      · have HF2 := Lib.hid (show F = none by
          rcases HQ.out with h | h
          · rw [show 32 - k = 32 - (k + 1) + 1 by omega, seek_out hin] at h; exact h.symm
          · exact h.1)
        have A : ∀ W, Hid (Calls Tryd.prog 34 #[.int .i64 (n + (k : Int))] W fun e w' => e = .returned (.bool false) ∧ Gr W w') := fun W => rthere_no _ W hin
        clear HQ
        go_wp2_with fail
        refine (A _).out.mono ?_
        rintro e w2 ⟨rfl, hg2⟩
        have HG2 := Lib.hid hg2
        clear hg2
        go_wp2
        go_roundg (gk - 1)
        case measure => omega
        case rel => exact ⟨k + 1, by omega, by go_num, by omega, Lib.hid (Or.inr ⟨HF2.out, by omega⟩), Lib.hid (HW.out.trans HG2.out)⟩
    · obtain rfl : k = 32 := by omega
      have HF2 := Lib.hid (show F = none by rcases HQ.out with h | h; exact h.symm; exact h.1)
      go_wp2
      go_ret2
      exact ⟨by rw [HF2.out]; rfl, HW.out⟩

set_option maxHeartbeats 1600000 in
theorem rseek_down (a : Option Addr) (l : List Int) (cap : Nat) (n : Int) (w : World) (h : 0 ≤ n ∧ n < 146097) (hr : RowAt w a l) (hl : l.length ≤ 1000000) :
    Calls Tryd.prog 21 #[.slice a l.length cap, .int .i64 n, .int .i64 (-1)] w fun e w' => e = .returned (.tuple #[.int .i64 (seekV (seekF l (-1) 32 n)), .int .i64 (seekE (seekF l (-1) 32 n))]) ∧ Gr w w' := by
  have HR := Lib.hid hr; clear hr
  generalize hF : seekF l (-1) 32 n = F
  have HF := Lib.hid hF
  clear hF
  go_enter Tryd.func21, Tryd.ntmps21
  go_wp2_with fail
  refine (rthere_yes n _ h).mono ?_
  rintro e w1 ⟨rfl, hg1⟩
  have HG1 := Lib.hid hg1
  clear hg1
  go_wp2
  go_loopg [8] 32 (fun g c8 wr => ∃ k : Nat, k ≤ 32 ∧ c8 = .int .i64 (k : Int) ∧ g + k = 32 ∧ Hid (seekF l (-1) (32 - k) (n + -(k : Int)) = F ∨ (F = none ∧ n + -(k : Int) < 0)) ∧ Hid (Gr w wr))
  case atStart => exact ⟨0, by omega, rfl, by omega, Lib.hid (Or.inl (by simpa using HF.out)), HG1⟩
  case round =>
    obtain ⟨k, hk, rfl, hg, HQ, HW⟩ := hrel
    have HRr := Lib.hid (HR.out.gr HW.out)
    by_cases hlt : k < 32
    · by_cases hin : 0 ≤ n + -(k : Int) ∧ n + -(k : Int) < 146097
      · have hq : seekF l (-1) (32 - k) (n + -(k : Int)) = F := by rcases HQ.out with h | h; exact h; exfalso; omega
        rw [show 32 - k = 32 - (k + 1) + 1 by omega] at hq
        have A : ∀ W, Hid (Calls Tryd.prog 34 #[.int .i64 (n + -(k : Int))] W fun e w' => e = .returned (.bool true) ∧ Gr W w') := fun W => rthere_yes _ W hin
        by_cases hb : biz l (n + -(k : Int))
        · have HF2 := Lib.hid (show F = some (n + -(k : Int)) by rw [← hq, seek_hit hin hb])
          have B : ∀ W, Gr wr W → Hid (Calls Tryd.prog 24 #[.slice a l.length cap, .int .i64 (n + -(k : Int))] W fun e w' => e = .returned (.bool true) ∧ W = w') := fun W hW => Lib.hid (by have := rbusiness_any a l cap (n + -(k : Int)) W ⟨by omega, by omega⟩ (HRr.out.gr hW) hl; rwa [decide_eq_true hb] at this)
          clear hq hb HQ
          go_wp2_with fail
          refine (A _).out.mono ?_
          rintro e w2 ⟨rfl, hg2⟩
          have HG2 := Lib.hid hg2
          clear hg2
          go_wp2_with fail
          refine (B _ HG2.out).out.mono ?_
          rintro e w3 ⟨rfl, rfl⟩
          go_wp2
          go_ret2
          exact ⟨by rw [HF2.out]; rfl, HW.out.trans HG2.out⟩
        · have HF2 := Lib.hid (show seekF l (-1) (32 - (k + 1)) (n + -((k : Int) + 1)) = F by rw [← hq, seek_miss hin hb]; congr 1; omega)
          have B : ∀ W, Gr wr W → Hid (Calls Tryd.prog 24 #[.slice a l.length cap, .int .i64 (n + -(k : Int))] W fun e w' => e = .returned (.bool false) ∧ W = w') := fun W hW => Lib.hid (by have := rbusiness_any a l cap (n + -(k : Int)) W ⟨by omega, by omega⟩ (HRr.out.gr hW) hl; rwa [decide_eq_false hb] at this)
          clear hq hb HQ
          go_wp2_with fail
          refine (A _).out.mono ?_
          rintro e w2 ⟨rfl, hg2⟩
          have HG2 := Lib.hid hg2
          clear hg2
          go_wp2_with fail
          refine (B _ HG2.out).out.mono ?_
          rintro e w3 ⟨rfl, rfl⟩
          go_wp2
          go_roundg (gk - 1)
          case measure => omega
          case rel => exact ⟨k + 1, by omega, by go_num, by omega, Lib.hid (Or.inl (by rw [show ((k + 1 : Nat) : Int) = (k : Int) + 1 by omega]; exact HF2.out)), Lib.hid (HW.out.trans HG2.out)⟩
      · have HF2 := Lib.hid (show F = none by
          rcases HQ.out with h | h
          · rw [show 32 - k = 32 - (k + 1) + 1 by omega, seek_out hin] at h; exact h.symm
          · exact h.1)
        have A : ∀ W, Hid (Calls Tryd.prog 34 #[.int .i64 (n + -(k : Int))] W fun e w' => e = .returned (.bool false) ∧ Gr W w') := fun W => rthere_no _ W hin
        clear HQ
        go_wp2_with fail
        refine (A _).out.mono ?_
        rintro e w2 ⟨rfl, hg2⟩
        have HG2 := Lib.hid hg2
        clear hg2
        go_wp2
        go_roundg (gk - 1)
        case measure => omega
        case rel => exact ⟨k + 1, by omega, by go_num, by omega, Lib.hid (Or.inr ⟨HF2.out, by omega⟩), Lib.hid (HW.out.trans HG2.out)⟩
    · obtain rfl : k = 32 := by omega
      have HF2 := Lib.hid (show F = none by rcases HQ.out with h | h; exact h.symm; exact h.1)
      go_wp2
      go_ret2
      exact ⟨by rw [HF2.out]; rfl, HW.out⟩
end Go.Proofs.YtijhfjehdpgjmaaDoor
