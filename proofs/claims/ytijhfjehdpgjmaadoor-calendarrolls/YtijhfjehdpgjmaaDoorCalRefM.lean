/- Modified of the document's answer. -/
import Derived.Test.YtijhfjehdpgjmaaDoorCalRef
namespace Go.Proofs.YtijhfjehdpgjmaaDoor
open Go.RowKit Go.Sort

theorem num_first : numF 1900 1 1 = 0 := by decide
theorem right_first : rightP 1900 1 1 := by decide

set_option maxHeartbeats 1600000 in
/-- where n is a date's number: x and er are Seek's answer, and x is a date's number too -/
theorem rmod_core (a : Option Addr) (l : List Int) (cap : Nat) (n x er y m d y' m' d' : Int) (G : Option Int) (w : World) (hin : 0 ≤ n ∧ n < 146097) (hr : RowAt w a l) (hl : l.length ≤ 1000000)
    (r : rightP y m d) (e : numF y m d = n) (r' : rightP y' m' d') (e' : numF y' m' d' = x)
    (hu : seekV (seekF l 1 32 n) = x) (hv : seekE (seekF l 1 32 n) = er) (h1 : er = 0 ∧ m' = m → G = some x) (h2 : ¬ (er = 0 ∧ m' = m) → G = seekF l (-1) 32 n) :
    Calls Tryd.prog 22 #[.slice a l.length cap, .int .i64 n] w fun e w' => e = .returned (.tuple #[.int .i64 (seekV G), .int .i64 (seekE G)]) ∧ Gr w w' := by
  have A : ∀ W, Hid (Calls Tryd.prog 35 #[.int .i64 n] W fun e w' => e = .returned (.tuple #[.agg #[.int .i64 y, .int .i64 m, .int .i64 d], .int .i64 0]) ∧ Gr W w') := fun W => rof_at W r e
  have B : ∀ W, Hid (Calls Tryd.prog 35 #[.int .i64 x] W fun e w' => e = .returned (.tuple #[.agg #[.int .i64 y', .int .i64 m', .int .i64 d'], .int .i64 0]) ∧ Gr W w') := fun W => rof_at W r' e'
  have C : ∀ W, Gr w W → Hid (Calls Tryd.prog 21 #[.slice a l.length cap, .int .i64 n, .int .i64 1] W fun e w' => e = .returned (.tuple #[.int .i64 x, .int .i64 er]) ∧ Gr W w') := fun W hg => Lib.hid (by have := rseek_up a l cap n W hin (hr.gr hg) hl; rwa [hu, hv] at this)
  have D : ∀ W, Gr w W → Hid (Calls Tryd.prog 21 #[.slice a l.length cap, .int .i64 n, .int .i64 (-1)] W fun e w' => e = .returned (.tuple #[.int .i64 (seekV (seekF l (-1) 32 n)), .int .i64 (seekE (seekF l (-1) 32 n))]) ∧ Gr W w') := fun W hg => rseek_down a l cap n W hin (hr.gr hg) hl
  have T := Lib.hid (rthere_yes n w hin)
  have H1 := Lib.hid h1
  have H2 := Lib.hid h2
  clear h1 h2 hu hv r e r' e' hr hin
  generalize seekF l (-1) 32 n = S at *
  go_enter Tryd.func22, Tryd.ntmps22
  go_wp2_with fail
  refine T.out.mono ?_
  rintro e w1 ⟨rfl, hg1⟩
  have HG1 := Lib.hid hg1
  clear hg1 T
  go_wp2_with fail
  refine (A _).out.mono ?_
  rintro e w2 ⟨rfl, hg2⟩
  have HG2 := Lib.hid (HG1.out.trans hg2)
  clear hg2 A HG1
  have hS : w2.heap.size < (w2.alloc (Obj.cells #[Value.int IntKind.i64 y, Value.int IntKind.i64 m, Value.int IntKind.i64 d] 32)).heap.size := by simp
  have k1 := (boxed w2 y m d 32).2.1
  go_wp2_with fail
  refine (C _ (HG2.out.alloc _)).out.mono ?_
  rintro e w3 ⟨rfl, hg3⟩
  have HG3 := Lib.hid ((HG2.out.alloc _).trans hg3)
  have k2 := gcell hg3 hS k1
  have hS3 := Nat.lt_of_lt_of_le hS hg3.size
  clear hg3 C HG2 hS k1
  go_wp2_with fail
  refine (B _).out.mono ?_
  rintro e w4 ⟨rfl, hg4⟩
  have HG4 := Lib.hid (HG3.out.trans hg4)
  have k3 := gcell hg4 hS3 k2
  have hS4 := Nat.lt_of_lt_of_le hS3 hg4.size
  have gA := (Gr.refl w4).alloc (Obj.cells #[Value.int IntKind.i64 y', Value.int IntKind.i64 m', Value.int IntKind.i64 d'] 32)
  have k4 := gcell gA hS4 k3
  have HG5 := Lib.hid (HG4.out.trans gA)
  have q1 := (boxed w4 y' m' d' 32).2.1
  clear hg4 B HG3 HG4 hS3 k2 k3 gA
  by_cases he : er = 0
  · subst he
    by_cases hm : m' = m
    · have HGG := Lib.hid (H1.out ⟨rfl, hm⟩)
      subst hm
      go_wp2
      go_ret2
      exact ⟨by rw [HGG.out]; rfl, HG5.out⟩
    · have HGG := Lib.hid (H2.out (fun h => hm h.2))
      go_wp2_with fail
      refine (D _ HG5.out).out.mono ?_
      rintro e w6 ⟨rfl, hg6⟩
      have HG6 := Lib.hid (HG5.out.trans hg6)
      clear hg6
      go_wp2
      go_ret2
      exact ⟨by rw [HGG.out]; rfl, HG6.out⟩
  · have HGG := Lib.hid (H2.out (fun h => he h.1))
    go_wp2_with fail
    refine (D _ HG5.out).out.mono ?_
    rintro e w6 ⟨rfl, hg6⟩
    have HG6 := Lib.hid (HG5.out.trans hg6)
    clear hg6
    go_wp2
    go_ret2
    exact ⟨by rw [HGG.out]; rfl, HG6.out⟩

theorem rmod_out (a : Option Addr) (len cap : Nat) (n : Int) (w : World) (h : ¬ (0 ≤ n ∧ n < 146097)) :
    Calls Tryd.prog 22 #[.slice a len cap, .int .i64 n] w fun e w' => e = .returned (.tuple #[.int .i64 0, .int .i64 41]) ∧ Gr w w' := by
  go_enter Tryd.func22, Tryd.ntmps22
  go_wp2_with fail
  refine (rthere_no n _ h).mono ?_
  rintro e w1 ⟨rfl, hg1⟩
  have HG1 := Lib.hid hg1
  clear hg1
  go_wp2
  go_ret2
  exact ⟨rfl, HG1.out⟩

theorem rmodified_any (a : Option Addr) (l : List Int) (cap : Nat) (n : Int) (w : World) (hr : RowAt w a l) (hl : l.length ≤ 1000000) :
    Calls Tryd.prog 22 #[.slice a l.length cap, .int .i64 n] w fun e w' => e = .returned (.tuple #[.int .i64 (seekV (modF l n)), .int .i64 (seekE (modF l n))]) ∧ Gr w w' := by
  by_cases hin : 0 ≤ n ∧ n < 146097
  · obtain ⟨y, m, d, r, e⟩ := date_of n hin.1 hin.2
    cases hs : seekF l 1 32 n with
    | none => exact rmod_core a l cap n 0 41 y m d 1900 1 1 (modF l n) w hin hr hl r e right_first num_first (by rw [hs]; rfl) (by rw [hs]; rfl) (fun h => by omega) (fun _ => modF_none hs)
    | some x =>
      have hx := seek_in hs
      have hu := seek_up hs
      obtain ⟨y', m', d', r', e'⟩ := date_of x hx.1 hx.2.1
      have hsm := smP_near r r' e e' (by omega) (by omega)
      exact rmod_core a l cap n x 0 y m d y' m' d' (modF l n) w hin hr hl r e r' e' (by rw [hs]; rfl) (by rw [hs]; rfl) (fun h => modF_same hs (hsm.mpr h.2)) (fun h => modF_else hs (fun h' => h ⟨rfl, hsm.mp h'⟩))
  · have e1 : modF l n = none := by rw [modF_none (seek_none_out hin), seek_none_out hin]
    rw [e1]
    exact rmod_out a l.length cap n w hin
theorem rseek1_any (a : Option Addr) (l : List Int) (cap : Nat) (n : Int) (w : World) (hr : RowAt w a l) (hl : l.length ≤ 1000000) :
    Calls Tryd.prog 21 #[.slice a l.length cap, .int .i64 n, .int .i64 1] w fun e w' => e = .returned (.tuple #[.int .i64 (seekV (seekF l 1 32 n)), .int .i64 (seekE (seekF l 1 32 n))]) ∧ Gr w w' := by
  by_cases hin : 0 ≤ n ∧ n < 146097
  · exact rseek_up a l cap n w hin hr hl
  · rw [seek_none_out hin]; exact rseek_out a l.length cap n 1 w hin
theorem rseek2_any (a : Option Addr) (l : List Int) (cap : Nat) (n : Int) (w : World) (hr : RowAt w a l) (hl : l.length ≤ 1000000) :
    Calls Tryd.prog 21 #[.slice a l.length cap, .int .i64 n, .int .i64 (-1)] w fun e w' => e = .returned (.tuple #[.int .i64 (seekV (seekF l (-1) 32 n)), .int .i64 (seekE (seekF l (-1) 32 n))]) ∧ Gr w w' := by
  by_cases hin : 0 ≤ n ∧ n < 146097
  · exact rseek_down a l cap n w hin hr hl
  · rw [seek_none_out hin]; exact rseek_out a l.length cap n (-1) w hin
end Go.Proofs.YtijhfjehdpgjmaaDoor
