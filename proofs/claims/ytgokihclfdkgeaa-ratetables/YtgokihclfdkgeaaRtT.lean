/- Tables of resets: Table, At, of the program and of the document's answer. -/
import Derived.Test.YtgokihclfdkgeaaRtR
namespace Go.Proofs.Ytgokihclfdkgeaa
open Go.RowKit Go.Sort

def rsD (l : List Rs) (i : Nat) : Int := (l.getD i (0, 0)).1
def rsX (l : List Rs) (i : Nat) : Int := (l.getD i (0, 0)).2
/-- the reset at i may lie behind the one before it -/
def rowOk (l : List Rs) (i : Nat) : Bool := sgB (rsX l i) && (i == 0 || decide (rsD l (i - 1) < rsD l i))
def tabB (l : List Rs) : Bool := decide (l.length ≤ 64) && (List.range l.length).all (rowOk l)
theorem tab_long {l : List Rs} (h : 64 < l.length) : tabB l = false := by
  unfold tabB
  rw [decide_eq_false (by omega)]; rfl
theorem tab_no {l : List Rs} {i : Nat} (hi : i < l.length) (h : rowOk l i = false) : tabB l = false := by
  unfold tabB
  have : (List.range l.length).all (rowOk l) = false := by
    rw [List.all_eq_false]
    exact ⟨i, List.mem_range.2 hi, by rw [h]; simp⟩
  rw [this, Bool.and_false]
theorem tab_yes {l : List Rs} (h : ∀ i, i < l.length → rowOk l i = true) : tabB l = decide (l.length ≤ 64) := by
  unfold tabB
  have : (List.range l.length).all (rowOk l) = true := by
    rw [List.all_eq_true]
    exact fun i hi => h i (List.mem_range.1 hi)
  rw [this, Bool.and_true]

/-- where the resets lie, and that each is two numbers -/
theorem RsAt.at {w : World} {a : Option Addr} {l : List Rs} {i : Nat} (h : RsAt w a l) (hi : i < l.length) : ∃ b off, a = some ⟨b, off, none⟩ ∧ b < w.heap.size ∧ ∀ i, i < l.length → w.cell? ⟨b, off + i * 2, none⟩ = some (.int .i64 (rsD l i)) ∧ w.cell? ⟨b, off + i * 2 + 1, none⟩ = some (.int .i64 (rsX l i)) := by
  rcases h with h | h
  · subst h; cases hi
  · exact h

set_option maxHeartbeats 1600000 in
theorem table_any (a : Option Addr) (l : List Rs) (cap : Nat) (w : World) (hr : RsAt w a l) (hl : l.length ≤ 1000) :
    Calls Try.prog 22 #[.slice a l.length cap] w fun e w' => e = .returned (.bool (tabB l)) ∧ Gr w w' := by
  by_cases h64 : 64 < l.length
  · have ht := Lib.hid (tab_long h64)
    go_enter Try.func22, Try.ntmps22
    go_wp2
    go_ret
    exact ⟨ret_bool ht.out.symm, Gr.refl _⟩
  · have HR := Lib.hid hr
    clear hr
    have h64' : decide ((64 : Int) < (l.length : Int)) = false := by simp; omega
    go_enter Try.func22, Try.ntmps22
    go_wp2
    go_loopg [10] l.length (fun g c10 wr => ∃ i : Nat, c10 = .int .i64 i ∧ i + g = l.length ∧ Hid (Gr w wr) ∧ Hid (∀ j, j < i → rowOk l j = true))
    case atStart => exact ⟨0, rfl, by omega, Lib.hid (Gr.refl _), Lib.hid fun j hj => by omega⟩
    case round =>
      obtain ⟨i, rfl, hi, HG, HO⟩ := hrel
      by_cases hlt : i < l.length
      · have hlz : (i : Int) < (l.length : Int) := by omega
        obtain ⟨b, off, rfl, hb, hc⟩ := (HR.out.gr HG.out).at hlt
        obtain ⟨c0, c1⟩ := hc i hlt
        have HC := Lib.hid hc
        clear hc
        obtain ⟨D, hD⟩ : ∃ D, D = rsD l i := ⟨_, rfl⟩
        obtain ⟨X, hX⟩ : ∃ X, X = rsX l i := ⟨_, rfl⟩
        rw [← hD] at c0
        rw [← hX] at c1
        have HD := Lib.hid hD
        have HX := Lib.hid hX
        clear hD hX
        have S : ∀ W, Hid (Calls Try.prog 30 #[.int .i64 X] W fun e w' => e = .returned (.bool (sgB X)) ∧ W = w') := fun W => signed_any X W
        have HG2 := Lib.hid (HG.out.alloc (Obj.cells #[.int .i64 D, .int .i64 X] 42))
        have z0 : (wr.alloc (Obj.cells #[.int .i64 D, .int .i64 X] 42)).cell? ⟨wr.heap.size, 0, none⟩ = some (.int .i64 D) := by simp
        have z1 : (wr.alloc (Obj.cells #[.int .i64 D, .int .i64 X] 42)).cell? ⟨wr.heap.size, 1, none⟩ = some (.int .i64 X) := by simp
        have HC2 : Hid (∀ j, j < l.length → (wr.alloc (Obj.cells #[.int .i64 D, .int .i64 X] 42)).cell? ⟨b, off + j * 2, none⟩ = some (.int .i64 (rsD l j))) := Lib.hid fun j hj => gcell ((Gr.refl _).alloc _) hb (HC.out j hj).1
        clear HC
        cases hS : sgB X
        · rw [hS] at S
          have HN := Lib.hid (tab_no hlt (show rowOk l i = false by unfold rowOk; rw [← HX.out, hS]; rfl))
          clear hS
          go_wp2_with fail
          generalize wr.alloc (Obj.cells #[Value.int IntKind.i64 D, Value.int IntKind.i64 X] 42) = W at *
          go_quiet ((go_at_call 30; exact Calls.same' (S _).out))
          go_wp2
          go_ret
          exact ⟨ret_bool HN.out.symm, HG2.out.drewN _⟩
        · rw [hS] at S
          have HS := Lib.hid hS
          clear hS
          by_cases h0 : i = 0
          · have d0 : decide (0 < i) = false := by simp; omega
            have HN := Lib.hid (show rowOk l i = true by unfold rowOk; rw [← HX.out, HS.out, h0]; rfl)
            clear h0
            go_wp2_with fail
            generalize wr.alloc (Obj.cells #[Value.int IntKind.i64 D, Value.int IntKind.i64 X] 42) = W at *
            go_quiet ((go_at_call 30; exact Calls.same' (S _).out))
            go_wp2
            go_roundg (gk - 1)
            case measure => omega
            case rel =>
              refine ⟨i + 1, by go_num, by omega, Lib.hid (HG2.out.drewN _), Lib.hid fun j hj => ?_⟩
              by_cases e : j = i
              · rw [e]; exact HN.out
              · exact HO.out j (by omega)
          · have d0 : decide (0 < i) = true := by simp; omega
            obtain ⟨k, hk⟩ : ∃ k, i = k + 1 := ⟨i - 1, by omega⟩
            obtain ⟨P, hP⟩ : ∃ P, P = rsD l k := ⟨_, rfl⟩
            have cP := HC2.out k (by omega)
            rw [← hP] at cP
            have HN := Lib.hid (show rowOk l i = decide (P < D) by unfold rowOk; rw [← HX.out, HS.out, ← HD.out, hk, hP]; simp)
            have hk1 : (0 : Int) ≤ (k : Int) := by omega
            have hk2 : (k : Int) < (l.length : Int) := by omega
            have hk5 : k < l.length := by omega
            have hk3 : IntKind.i64.wrap ((i : Int) - 1) = (k : Int) := by rw [IntKind.wrap_i64]; omega
            have hk4 : (i : Int) - 1 = (k : Int) := by omega
            clear h0 hP
            have HK := Lib.hid hk
            clear hk
            by_cases hle : D ≤ P
            · have dle : decide (D ≤ P) = true := by simpa using hle
              go_wp2_with fail
              generalize wr.alloc (Obj.cells #[Value.int IntKind.i64 D, Value.int IntKind.i64 X] 42) = W at *
              go_quiet ((go_at_call 30; exact Calls.same' (S _).out))
              go_wp2
              go_ret
              exact ⟨ret_bool (tab_no hlt (by rw [HN.out]; simp; omega)).symm, HG2.out.drewN _⟩
            · have dle : decide (D ≤ P) = false := by simpa using hle
              go_wp2_with fail
              generalize wr.alloc (Obj.cells #[Value.int IntKind.i64 D, Value.int IntKind.i64 X] 42) = W at *
              go_quiet ((go_at_call 30; exact Calls.same' (S _).out))
              clear hk3 hk4
              go_wp2
              go_roundg (gk - 1)
              case measure => omega
              case rel =>
                refine ⟨i + 1, by go_num, by omega, Lib.hid (HG2.out.drewN _), Lib.hid fun j hj => ?_⟩
                by_cases e : j = i
                · rw [e, HN.out]; simp; omega
                · exact HO.out j (by omega)
      · have hlz : ¬ (i : Int) < (l.length : Int) := by omega
        have HT := Lib.hid (show tabB l = true by
          rw [tab_yes (fun j hj => HO.out j (by omega))]; simp; omega)
        go_wp2
        go_ret
        exact ⟨ret_bool HT.out.symm, HG.out⟩

set_option maxHeartbeats 1600000 in
theorem rtable_any (a : Option Addr) (l : List Rs) (cap : Nat) (w : World) (hr : RsAt w a l) (hl : l.length ≤ 1000) :
    Calls Try.prog 19 #[.slice a l.length cap] w fun e w' => e = .returned (.bool (tabB l)) ∧ Gr w w' := by
  have HR := Lib.hid hr
  clear hr
  go_enter Try.func19, Try.ntmps19
  go_wp2
  go_loopg [7] l.length (fun g c7 wr => ∃ i : Nat, c7 = .int .i64 i ∧ i + g = l.length ∧ Hid (Gr w wr) ∧ Hid (∀ j, j < i → rowOk l j = true))
  case atStart => exact ⟨0, rfl, by omega, Lib.hid (Gr.refl _), Lib.hid fun j hj => by omega⟩
  case round =>
    obtain ⟨i, rfl, hi, HG, HO⟩ := hrel
    by_cases hlt : i < l.length
    · have hlz : (i : Int) < (l.length : Int) := by omega
      obtain ⟨b, off, rfl, hb, hc⟩ := (HR.out.gr HG.out).at hlt
      obtain ⟨c0, c1⟩ := hc i hlt
      have HC := Lib.hid hc
      clear hc
      obtain ⟨D, hD⟩ : ∃ D, D = rsD l i := ⟨_, rfl⟩
      obtain ⟨X, hX⟩ : ∃ X, X = rsX l i := ⟨_, rfl⟩
      rw [← hD] at c0
      rw [← hX] at c1
      have HD := Lib.hid hD
      have HX := Lib.hid hX
      clear hD hX
      have HG2 := Lib.hid (HG.out.alloc (Obj.cells #[.int .i64 D, .int .i64 X] 42))
      have z0 : (wr.alloc (Obj.cells #[.int .i64 D, .int .i64 X] 42)).cell? ⟨wr.heap.size, 0, none⟩ = some (.int .i64 D) := by simp
      have HC2 : Hid (∀ j, j < l.length → (wr.alloc (Obj.cells #[.int .i64 D, .int .i64 X] 42)).cell? ⟨b, off + j * 2, none⟩ = some (.int .i64 (rsD l j))) := Lib.hid fun j hj => gcell ((Gr.refl _).alloc _) hb (HC.out j hj).1
      clear HC
      by_cases hx1 : X < -10000
      · have HN := Lib.hid (tab_no hlt (show rowOk l i = false by unfold rowOk sgB; rw [← HX.out, decide_eq_false (by omega)]; rfl))
        go_wp2
        go_ret
        exact ⟨ret_bool HN.out.symm, HG2.out⟩
      by_cases hx2 : 10000 < X
      · have HN := Lib.hid (tab_no hlt (show rowOk l i = false by unfold rowOk sgB; rw [← HX.out, decide_eq_false (by omega)]; rfl))
        have dx1 : decide (X < -10000) = false := by simp; omega
        have dx2 : decide (10000 < X) = true := by simp; omega
        go_wp2
        go_ret
        exact ⟨ret_bool HN.out.symm, HG2.out⟩
      have HS := Lib.hid (show sgB X = true by unfold sgB; rw [decide_eq_true_eq]; omega)
      have dx1 : decide (X < -10000) = false := by simp; omega
      have dx2 : decide (10000 < X) = false := by simp; omega
      by_cases h0 : i = 0
      · have d0 : decide (0 < i) = false := by simp; omega
        have HN := Lib.hid (show rowOk l i = true by unfold rowOk; rw [← HX.out, HS.out, h0]; rfl)
        clear h0
        go_wp2_with fail
        generalize wr.alloc (Obj.cells #[Value.int IntKind.i64 D, Value.int IntKind.i64 X] 42) = W at *
        go_quiet (fail)
        go_wp2
        go_roundg (gk - 1)
        case measure => omega
        case rel =>
          refine ⟨i + 1, by go_num, by omega, Lib.hid (HG2.out.drewN _), Lib.hid fun j hj => ?_⟩
          by_cases e : j = i
          · rw [e]; exact HN.out
          · exact HO.out j (by omega)
      · have d0 : decide (0 < i) = true := by simp; omega
        obtain ⟨k, hk⟩ : ∃ k, i = k + 1 := ⟨i - 1, by omega⟩
        obtain ⟨P, hP⟩ : ∃ P, P = rsD l k := ⟨_, rfl⟩
        have cP := HC2.out k (by omega)
        rw [← hP] at cP
        have HN := Lib.hid (show rowOk l i = decide (P < D) by unfold rowOk; rw [← HX.out, HS.out, ← HD.out, hk, hP]; simp)
        have hk1 : (0 : Int) ≤ (k : Int) := by omega
        have hk2 : (k : Int) < (l.length : Int) := by omega
        have hk5 : k < l.length := by omega
        have hk3 : IntKind.i64.wrap ((i : Int) - 1) = (k : Int) := by rw [IntKind.wrap_i64]; omega
        have hk4 : (i : Int) - 1 = (k : Int) := by omega
        clear h0 hP
        have HK := Lib.hid hk
        clear hk
        by_cases hle : D ≤ P
        · have dle : decide (D ≤ P) = true := by simpa using hle
          go_wp2_with fail
          generalize wr.alloc (Obj.cells #[Value.int IntKind.i64 D, Value.int IntKind.i64 X] 42) = W at *
          go_quiet (fail)
          go_wp2
          go_ret
          exact ⟨ret_bool (tab_no hlt (by rw [HN.out]; simp; omega)).symm, HG2.out.drewN _⟩
        · have dle : decide (D ≤ P) = false := by simpa using hle
          go_wp2_with fail
          generalize wr.alloc (Obj.cells #[Value.int IntKind.i64 D, Value.int IntKind.i64 X] 42) = W at *
          go_quiet (fail)
          clear hk3 hk4
          go_wp2
          go_roundg (gk - 1)
          case measure => omega
          case rel =>
            refine ⟨i + 1, by go_num, by omega, Lib.hid (HG2.out.drewN _), Lib.hid fun j hj => ?_⟩
            by_cases e : j = i
            · rw [e, HN.out]; simp; omega
            · exact HO.out j (by omega)
    · have hlz : ¬ (i : Int) < (l.length : Int) := by omega
      have HT := Lib.hid (tab_yes (l := l) (fun j hj => HO.out j (by omega)))
      go_wp2
      go_ret
      exact ⟨ret_bool (by rw [HT.out, decide_eq_decide]; omega), HG.out⟩
end Go.Proofs.Ytgokihclfdkgeaa
