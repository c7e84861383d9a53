/- The walk of falseworklaw04.CalendarNear. -/
import Derived.Test.YtijhfjehdpgjmaaDoorCalAlive
import Derived.Test.YtijhfjehdpgjmaaDoorCalNearMath
import Derived.Test.YtijhfjehdpgjmaaDoorCalIn
namespace Go.Proofs.YtijhfjehdpgjmaaDoor
open Go.RowKit Go.Sort

theorem law_near_far (a : Option Addr) (len cap : Nat) (n : Int) (w : World) (hL : Lens w) (h2 : len ≤ 9223372036854775807) (h : 100 < len ∨ n < 100 ∨ 140000 < n) :
    Calls Tryd.prog 9 #[.slice a len cap, .int .i64 n] w fun e w' => e = .returned (.bool true) ∧ Gr w w' := by
  have A := Lib.hid (alive_any w hL)
  clear hL
  go_enter Tryd.func9, Tryd.ntmps9
  go_wp2_with fail
  refine A.out.mono ?_
  rintro e w1 ⟨rfl, hg1⟩
  have HG1 := Lib.hid hg1
  clear hg1 A
  by_cases c1 : 100 < len
  · go_wp2
    go_ret
    exact ⟨rfl, HG1.out⟩
  · by_cases c2 : n < 100
    · go_wp2
      go_ret
      exact ⟨rfl, HG1.out⟩
    · have c3 : 140000 < n := by omega
      go_wp2
      go_ret
      exact ⟨rfl, HG1.out⟩

set_option maxHeartbeats 1600000 in
/-- up to what the three roads answer, and what follows there -/
theorem law_near_none (a : Option Addr) (l : List Int) (cap : Nat) (n f g h x y z : Int) (w : World) (hL : Lens w) (hl : l.length ≤ 100) (h0 : 100 ≤ n) (h1 : n ≤ 140000) (hr : RowAt w a l) (hI : ∀ n ∈ l, I n)
    (e1 : seekV (seekF l 1 32 n) = x) (e2 : seekE (seekF l 1 32 n) = f) (e3 : seekV (seekF l (-1) 32 n) = y) (e4 : seekE (seekF l (-1) 32 n) = g) (e5 : seekV (modF l n) = z) (e6 : seekE (modF l n) = h)
    (hno : f ≠ 0 ∨ g ≠ 0 ∨ h ≠ 0) (h20 : 20 < l.length) :
    Calls Tryd.prog 9 #[.slice a l.length cap, .int .i64 n] w fun e w' => e = .returned (.bool true) ∧ Gr w w' := by
  have A := Lib.hid (alive_any w hL)
  have C : ∀ W, RowAt W a l → Hid (Calls Tryd.prog 11 #[.slice a l.length cap] W (NewYes l W)) := fun W h => new_any a l cap W h hI (by omega)
  have D : ∀ b W, Cal W b l → Lens W → Hid (Calls Tryd.prog 12 #[.pointer (some ⟨b, 0, none⟩), .int .i64 n] W fun e w' => e = .returned (.tuple #[.int .i64 x, .int .i64 f]) ∧ Gr W w') := fun b W hc hW => Lib.hid (by have := roll_any b l n W ⟨by omega, by omega⟩ hc hW; rwa [e1, e2] at this)
  have E : ∀ b W, Cal W b l → Lens W → Hid (Calls Tryd.prog 19 #[.pointer (some ⟨b, 0, none⟩), .int .i64 n] W fun e w' => e = .returned (.tuple #[.int .i64 y, .int .i64 g]) ∧ Gr W w') := fun b W hc hW => Lib.hid (by have := back_any b l n W ⟨by omega, by omega⟩ hc hW; rwa [e3, e4] at this)
  have F : ∀ b W, Cal W b l → Lens W → Hid (Calls Tryd.prog 20 #[.pointer (some ⟨b, 0, none⟩), .int .i64 n] W fun e w' => e = .returned (.tuple #[.int .i64 z, .int .i64 h]) ∧ Gr W w') := fun b W hc hW => Lib.hid (by have := modified_any b l n W ⟨by omega, by omega⟩ hc hW; rwa [e5, e6] at this)
  have HR := Lib.hid hr
  have HL := Lib.hid hL
  clear hL hr hI e1 e2 e3 e4 e5 e6
  go_enter Tryd.func9, Tryd.ntmps9
  go_wp2_with fail
  refine A.out.mono ?_
  rintro e w1 ⟨rfl, hg1⟩
  have HG1 := Lib.hid hg1
  clear hg1 A
  go_wp2_with fail
  refine (C _ (HR.out.gr HG1.out)).out.mono ?_
  rintro e w2 ⟨⟨b, rfl, hc⟩, hg2⟩
  have HC2 := Lib.hid hc
  have HG2 := Lib.hid (HG1.out.trans hg2)
  clear hc hg2 C HG1
  go_wp2_with fail
  refine (D b _ HC2.out (HL.out.gr HG2.out)).out.mono ?_
  rintro e w3 ⟨rfl, hg3⟩
  have HG3 := Lib.hid (HG2.out.trans hg3)
  have HC3 := Lib.hid (HC2.out.gr hg3)
  clear hg3 D HC2 HG2
  go_wp2_with fail
  refine (E b _ HC3.out (HL.out.gr HG3.out)).out.mono ?_
  rintro e w4 ⟨rfl, hg4⟩
  have HG4 := Lib.hid (HG3.out.trans hg4)
  have HC4 := Lib.hid (HC3.out.gr hg4)
  clear hg4 E HC3 HG3
  go_wp2_with fail
  refine (F b _ HC4.out (HL.out.gr HG4.out)).out.mono ?_
  rintro e w5 ⟨rfl, hg5⟩
  have HG5 := Lib.hid (HG4.out.trans hg5)
  clear hg5 F HC4 HG4
  by_cases c1 : f = 0
  · subst c1
    by_cases c2 : g = 0
    · subst c2
      have c3 : ¬ h = 0 := by omega
      go_wp2
      go_ret
      exact ⟨by simp [go_sem]; omega, HG5.out⟩
    · go_wp2
      go_ret
      exact ⟨by simp [go_sem]; omega, HG5.out⟩
  · go_wp2
    go_ret
    exact ⟨by simp [go_sem]; omega, HG5.out⟩

set_option maxHeartbeats 1600000 in
/-- n is a business day -/
theorem law_near_day (a : Option Addr) (l : List Int) (cap : Nat) (n : Int) (w : World) (hL : Lens w) (hl : l.length ≤ 100) (h0 : 100 ≤ n) (h1 : n ≤ 140000) (hr : RowAt w a l) (hI : ∀ n ∈ l, I n) (hb : biz l n) :
    Calls Tryd.prog 9 #[.slice a l.length cap, .int .i64 n] w fun e w' => e = .returned (.bool true) ∧ Gr w w' := by
  have hin : 0 ≤ n ∧ n < 146097 := by omega
  have s1 : ∀ s, seekF l s 32 n = some n := fun s => seek_hit hin hb
  have s2 : modF l n = some n := modF_same (s1 1) (smP_self hin)
  have A := Lib.hid (alive_any w hL)
  have C : ∀ W, RowAt W a l → Hid (Calls Tryd.prog 11 #[.slice a l.length cap] W (NewYes l W)) := fun W h => new_any a l cap W h hI (by omega)
  have D : ∀ b W, Cal W b l → Lens W → Hid (Calls Tryd.prog 12 #[.pointer (some ⟨b, 0, none⟩), .int .i64 n] W fun e w' => e = .returned (.tuple #[.int .i64 n, .int .i64 0]) ∧ Gr W w') := fun b W hc hW => Lib.hid (by have := roll_any b l n W ⟨by omega, by omega⟩ hc hW; rwa [s1] at this)
  have E : ∀ b W, Cal W b l → Lens W → Hid (Calls Tryd.prog 19 #[.pointer (some ⟨b, 0, none⟩), .int .i64 n] W fun e w' => e = .returned (.tuple #[.int .i64 n, .int .i64 0]) ∧ Gr W w') := fun b W hc hW => Lib.hid (by have := back_any b l n W ⟨by omega, by omega⟩ hc hW; rwa [s1] at this)
  have F : ∀ b W, Cal W b l → Lens W → Hid (Calls Tryd.prog 20 #[.pointer (some ⟨b, 0, none⟩), .int .i64 n] W fun e w' => e = .returned (.tuple #[.int .i64 n, .int .i64 0]) ∧ Gr W w') := fun b W hc hW => Lib.hid (by have := modified_any b l n W ⟨by omega, by omega⟩ hc hW; rwa [s2] at this)
  have G : ∀ b W, Cal W b l → Hid (Calls Tryd.prog 23 #[.pointer (some ⟨b, 0, none⟩), .int .i64 n] W fun e w' => e = .returned (.bool true) ∧ Gr W w') := fun b W hc => Lib.hid (by have := business_any b l n W ⟨by omega, by omega⟩ hc; rwa [decide_eq_true hb] at this)
  have K : ∀ b W, Cal W b l → Hid (Calls Tryd.prog 25 #[.pointer (some ⟨b, 0, none⟩), .int .i64 n, .int .i64 (n + 1)] W fun e w' => e = .returned (.int .i64 1) ∧ Gr W w') := fun b W hc => Lib.hid (by
    have := between_any b l n (n + 1) W ⟨by omega, by omega⟩ ⟨by omega, by omega⟩ (by omega) (by omega) hc
    rwa [show (n + 1 - n).toNat = 0 + 1 by omega, cnt_yes (by simpa using hb), show cntF l n 0 = 0 from rfl] at this)
  have HR := Lib.hid hr
  have HL := Lib.hid hL
  clear hL hr hI s1 s2 hb hin
  go_enter Tryd.func9, Tryd.ntmps9
  go_wp2_with fail
  refine A.out.mono ?_
  rintro e w1 ⟨rfl, hg1⟩
  have HG1 := Lib.hid hg1
  clear hg1 A
  go_wp2_with fail
  refine (C _ (HR.out.gr HG1.out)).out.mono ?_
  rintro e w2 ⟨⟨b, rfl, hc⟩, hg2⟩
  have HC2 := Lib.hid hc
  have HG2 := Lib.hid (HG1.out.trans hg2)
  clear hc hg2 C HG1
  go_wp2_with fail
  refine (D b _ HC2.out (HL.out.gr HG2.out)).out.mono ?_
  rintro e w3 ⟨rfl, hg3⟩
  have HG3 := Lib.hid (HG2.out.trans hg3)
  have HC3 := Lib.hid (HC2.out.gr hg3)
  clear hg3 D HC2 HG2
  go_wp2_with fail
  refine (E b _ HC3.out (HL.out.gr HG3.out)).out.mono ?_
  rintro e w4 ⟨rfl, hg4⟩
  have HG4 := Lib.hid (HG3.out.trans hg4)
  have HC4 := Lib.hid (HC3.out.gr hg4)
  clear hg4 E HC3 HG3
  go_wp2_with fail
  refine (F b _ HC4.out (HL.out.gr HG4.out)).out.mono ?_
  rintro e w5 ⟨rfl, hg5⟩
  have HG5 := Lib.hid (HG4.out.trans hg5)
  have HC5 := Lib.hid (HC4.out.gr hg5)
  clear hg5 F HC4 HG4
  go_wp2_with fail
  refine (G b _ HC5.out).out.mono ?_
  rintro e w6 ⟨rfl, hg6⟩
  have HG6 := Lib.hid (HG5.out.trans hg6)
  have HC6 := Lib.hid (HC5.out.gr hg6)
  clear hg6 G HC5 HG5
  go_wp2_with fail
  refine (K b _ HC6.out).out.mono ?_
  rintro e w7 ⟨rfl, hg7⟩
  have HG7 := Lib.hid (HG6.out.trans hg7)
  clear hg7 K HC6 HG6
  go_wp2
  go_ret
  exact ⟨rfl, HG7.out⟩

set_option maxHeartbeats 1600000 in
/-- n is none -/
theorem law_near_else (a : Option Addr) (l : List Int) (cap : Nat) (n x y z : Int) (w : World) (hL : Lens w) (hl : l.length ≤ 100) (h0 : 100 ≤ n) (h1 : n ≤ 140000) (hr : RowAt w a l) (hI : ∀ n ∈ l, I n) (hb : ¬ biz l n)
    (e1 : seekF l 1 32 n = some x) (e2 : seekF l (-1) 32 n = some y) (e3 : modF l n = some z) :
    Calls Tryd.prog 9 #[.slice a l.length cap, .int .i64 n] w fun e w' => e = .returned (.bool true) ∧ Gr w w' := by
  obtain ⟨x0, x1, x2⟩ := seek_in e1
  obtain ⟨y0, y1, y2⟩ := seek_in e2
  obtain ⟨x3, x4⟩ := seek_up e1
  obtain ⟨y3, y4, y5⟩ := seek_down_all e2
  have x5 := seek_up_all e1
  have hx : n < x := by
    have : x ≠ n := fun h => hb (h ▸ x2)
    omega
  have hy : y < n := by
    have : y ≠ n := fun h => hb (h ▸ y2)
    omega
  have hz : z = x ∨ z = y := by
    rcases mod_some e1 e2 with h | h <;> rw [e3] at h <;> cases h
    · exact Or.inl rfl
    · exact Or.inr rfl
  have hc0 : cntF l (y + 1) (x - (y + 1)).toNat = 0 := cnt_zero (fun j hj => by
    by_cases hj2 : y + 1 + (j : Int) ≤ n
    · exact y5 _ (by omega) hj2
    · exact x5 _ (by omega) (by omega))
  have A := Lib.hid (alive_any w hL)
  have C : ∀ W, RowAt W a l → Hid (Calls Tryd.prog 11 #[.slice a l.length cap] W (NewYes l W)) := fun W h => new_any a l cap W h hI (by omega)
  have D : ∀ b W, Cal W b l → Lens W → Hid (Calls Tryd.prog 12 #[.pointer (some ⟨b, 0, none⟩), .int .i64 n] W fun e w' => e = .returned (.tuple #[.int .i64 x, .int .i64 0]) ∧ Gr W w') := fun b W hc hW => Lib.hid (by have := roll_any b l n W ⟨by omega, by omega⟩ hc hW; rwa [e1] at this)
  have E : ∀ b W, Cal W b l → Lens W → Hid (Calls Tryd.prog 19 #[.pointer (some ⟨b, 0, none⟩), .int .i64 n] W fun e w' => e = .returned (.tuple #[.int .i64 y, .int .i64 0]) ∧ Gr W w') := fun b W hc hW => Lib.hid (by have := back_any b l n W ⟨by omega, by omega⟩ hc hW; rwa [e2] at this)
  have F : ∀ b W, Cal W b l → Lens W → Hid (Calls Tryd.prog 20 #[.pointer (some ⟨b, 0, none⟩), .int .i64 n] W fun e w' => e = .returned (.tuple #[.int .i64 z, .int .i64 0]) ∧ Gr W w') := fun b W hc hW => Lib.hid (by have := modified_any b l n W ⟨by omega, by omega⟩ hc hW; rwa [e3] at this)
  have G : ∀ b W, Cal W b l → Hid (Calls Tryd.prog 23 #[.pointer (some ⟨b, 0, none⟩), .int .i64 n] W fun e w' => e = .returned (.bool false) ∧ Gr W w') := fun b W hc => Lib.hid (by have := business_any b l n W ⟨by omega, by omega⟩ hc; rwa [decide_eq_false hb] at this)
  have G1 : ∀ b W, Cal W b l → Hid (Calls Tryd.prog 23 #[.pointer (some ⟨b, 0, none⟩), .int .i64 x] W fun e w' => e = .returned (.bool true) ∧ Gr W w') := fun b W hc => Lib.hid (by have := business_any b l x W ⟨by omega, by omega⟩ hc; rwa [decide_eq_true x2] at this)
  have G2 : ∀ b W, Cal W b l → Hid (Calls Tryd.prog 23 #[.pointer (some ⟨b, 0, none⟩), .int .i64 y] W fun e w' => e = .returned (.bool true) ∧ Gr W w') := fun b W hc => Lib.hid (by have := business_any b l y W ⟨by omega, by omega⟩ hc; rwa [decide_eq_true y2] at this)
  have K : ∀ b W, Cal W b l → Hid (Calls Tryd.prog 25 #[.pointer (some ⟨b, 0, none⟩), .int .i64 (y + 1), .int .i64 x] W fun e w' => e = .returned (.int .i64 0) ∧ Gr W w') := fun b W hc => Lib.hid (by
    have := between_any b l (y + 1) x W ⟨by omega, by omega⟩ ⟨by omega, by omega⟩ (by omega) (by omega) hc
    rwa [hc0] at this)
  have HR := Lib.hid hr
  have HL := Lib.hid hL
  clear hL hr hI e1 e2 e3 hb hc0 x5 y5 x2 y2
  go_enter Tryd.func9, Tryd.ntmps9
  go_wp2_with fail
  refine A.out.mono ?_
  rintro e w1 ⟨rfl, hg1⟩
  have HG1 := Lib.hid hg1
  clear hg1 A
  go_wp2_with fail
  refine (C _ (HR.out.gr HG1.out)).out.mono ?_
  rintro e w2 ⟨⟨b, rfl, hc⟩, hg2⟩
  have HC2 := Lib.hid hc
  have HG2 := Lib.hid (HG1.out.trans hg2)
  clear hc hg2 C HG1
  go_wp2_with fail
  refine (D b _ HC2.out (HL.out.gr HG2.out)).out.mono ?_
  rintro e w3 ⟨rfl, hg3⟩
  have HG3 := Lib.hid (HG2.out.trans hg3)
  have HC3 := Lib.hid (HC2.out.gr hg3)
  clear hg3 D HC2 HG2
  go_wp2_with fail
  refine (E b _ HC3.out (HL.out.gr HG3.out)).out.mono ?_
  rintro e w4 ⟨rfl, hg4⟩
  have HG4 := Lib.hid (HG3.out.trans hg4)
  have HC4 := Lib.hid (HC3.out.gr hg4)
  clear hg4 E HC3 HG3
  go_wp2_with fail
  refine (F b _ HC4.out (HL.out.gr HG4.out)).out.mono ?_
  rintro e w5 ⟨rfl, hg5⟩
  have HG5 := Lib.hid (HG4.out.trans hg5)
  have HC5 := Lib.hid (HC4.out.gr hg5)
  clear hg5 F HC4 HG4
  go_wp2_with fail
  refine (G b _ HC5.out).out.mono ?_
  rintro e w6 ⟨rfl, hg6⟩
  have HG6 := Lib.hid (HG5.out.trans hg6)
  have HC6 := Lib.hid (HC5.out.gr hg6)
  clear hg6 G HC5 HG5
  go_wp2_with fail
  refine (G1 b _ HC6.out).out.mono ?_
  rintro e w7 ⟨rfl, hg7⟩
  have HG7 := Lib.hid (HG6.out.trans hg7)
  have HC7 := Lib.hid (HC6.out.gr hg7)
  clear hg7 G1 HC6 HG6
  go_wp2_with fail
  refine (G2 b _ HC7.out).out.mono ?_
  rintro e w8 ⟨rfl, hg8⟩
  have HG8 := Lib.hid (HG7.out.trans hg8)
  have HC8 := Lib.hid (HC7.out.gr hg8)
  clear hg8 G2 HC7 HG7
  go_wp2_with fail
  refine (K b _ HC8.out).out.mono ?_
  rintro e w9 ⟨rfl, hg9⟩
  have HG9 := Lib.hid (HG8.out.trans hg9)
  clear hg9 K HC8 HG8
  rcases hz with rfl | rfl
  · go_wp2
    go_ret
    exact ⟨rfl, HG9.out⟩
  · have hne : ¬ z = x := by omega
    go_wp2
    go_ret
    exact ⟨rfl, HG9.out⟩

theorem calendarNear_walk (a : Option Addr) (len cap : Nat) (zs : List Int) (n : Int) (w : World) (hr : CameRow w a len cap zs) (_ : I n) (hL : Lens w) :
    Calls Tryd.prog 9 #[.slice a len cap, .int .i64 n] w fun e w' => e = .returned (.bool true) ∧ Below w.heap.size w w' := by
  obtain ⟨h1, h2, h3, h4, _⟩ := row_of hr
  suffices h : Calls Tryd.prog 9 #[.slice a len cap, .int .i64 n] w fun e w' => e = .returned (.bool true) ∧ Gr w w' from h.mono fun e w' ⟨he, hg⟩ => ⟨he, hg.below⟩
  by_cases hf : 100 < len ∨ n < 100 ∨ 140000 < n
  · exact law_near_far a len cap n w hL h4 hf
  · generalize zs.take len = l at *
    subst h2
    by_cases hb : biz l n
    · exact law_near_day a l cap n w hL (by omega) (by omega) (by omega) h1 h3 hb
    · cases e1 : seekF l 1 32 n with
      | none =>
        by_cases h20 : l.length ≤ 20
        · obtain ⟨x, hx⟩ := seek_near (l := l) (s := 1) (n := n) (Or.inl rfl) (by omega) (by omega) h20
          rw [e1] at hx; cases hx
        · exact law_near_none a l cap n _ _ _ _ _ _ w hL (by omega) (by omega) (by omega) h1 h3 rfl rfl rfl rfl rfl rfl (Or.inl (by rw [e1]; decide)) (by omega)
      | some x =>
        cases e2 : seekF l (-1) 32 n with
        | none =>
          by_cases h20 : l.length ≤ 20
          · obtain ⟨x, hx⟩ := seek_near (l := l) (s := -1) (n := n) (Or.inr rfl) (by omega) (by omega) h20
            rw [e2] at hx; cases hx
          · exact law_near_none a l cap n _ _ _ _ _ _ w hL (by omega) (by omega) (by omega) h1 h3 rfl rfl rfl rfl rfl rfl (Or.inr (Or.inl (by rw [e2]; decide))) (by omega)
        | some y =>
          rcases mod_some e1 e2 with e3 | e3
          · exact law_near_else a l cap n x y x w hL (by omega) (by omega) (by omega) h1 h3 hb e1 e2 e3
          · exact law_near_else a l cap n x y y w hL (by omega) (by omega) (by omega) h1 h3 hb e1 e2 e3
end Go.Proofs.YtijhfjehdpgjmaaDoor
