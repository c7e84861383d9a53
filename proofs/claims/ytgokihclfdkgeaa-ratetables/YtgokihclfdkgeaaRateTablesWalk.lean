/- The walk of falseworklaw05.RateTables. -/
import Derived.Test.YtgokihclfdkgeaaRtN
import Derived.Test.YtgokihclfdkgeaaRtZ
import Derived.Test.YtgokihclfdkgeaaRtY
import Derived.Test.YtgokihclfdkgeaaRtO
import Derived.Deep.DeepCutAuto
namespace Go.Proofs.Ytgokihclfdkgeaa
open Go.RowKit Go.Sort

theorem RBox.below {w w' : World} {b : Nat} {x y : Int} (h : RBox w b x y) (g : RowKit.Below w.heap.size w w') : RBox w' b x y := by
  refine ⟨Nat.lt_of_lt_of_le h.1 g.size, ?_, ?_⟩
  · rw [g.cell (p := ⟨b, 0, none⟩) h.1]; exact h.2.1
  · rw [g.cell (p := ⟨b, 1, none⟩) h.1]; exact h.2.2

set_option maxHeartbeats 1600000 in
theorem tables_long (m f c x y : Int) (a : Option Addr) (len cap : Nat) (w : World) (h : 100 < len) :
    Calls Try.prog 5 #[.agg #[.int .i64 m, .int .i64 f, .int .i64 c], .slice a len cap, .agg #[.int .i64 x, .int .i64 y]] w fun e w' => e = .returned (.bool true) ∧ RowKit.Below w.heap.size w w' := by
  have d1 : decide ((100 : Int) < (len : Int)) = true := by simp; omega
  go_enter Try.func5, Try.ntmps5
  go_wp2_with fail
  refine (alive_any _).mono ?_
  rintro _ w1 ⟨rfl, hg1⟩
  have HG1 := Lib.hid ((((Gr.refl _).alloc _).alloc _).trans hg1)
  clear hg1
  go_wp2
  go_ret
  exact ⟨rfl, HG1.out.below⟩

theorem OR.lit_at {w : World} {base g : Nat} (hg : g = w.heap.size) (hb : base ≤ w.heap.size) : OR (w.alloc (.cells #[] 42)) base (.slice (some ⟨g, 0, none⟩) 0 0) [] := by
  subst hg; exact OR.lit hb
theorem one_at {w : World} {g : Nat} (x y : Int) (hg : g = w.heap.size) : RsAt (w.alloc (.cells #[.int .i64 x, .int .i64 y] 42)) (some ⟨g, 0, none⟩) [(x, y)] := by
  subst hg; exact one_rs w x y _
/-- what Add answers, in one -/
def AddTwo (l : List Rs) (x y : Int) (w : World) (e : Ending) (w' : World) : Prop :=
  ∃ v n cap er, e = .returned (.tuple #[.slice v n cap, .int .i64 er]) ∧ Gr w w' ∧ ((addOk l x y = false ∧ n = 0 ∧ er = 52) ∨ (addOk l x y = true ∧ n = l.length + 1 ∧ er = 0 ∧ RsAt w' v (l ++ [(x, y)])))
theorem add_two {l : List Rs} {x y : Int} {w : World} {e : Ending} {w' : World} (h : AddRes l x y w e w') : AddTwo l x y w e w' := by
  obtain ⟨hg, ⟨h1, rfl⟩ | ⟨h1, v, cap, rfl, hr⟩⟩ := h
  · exact ⟨none, 0, 0, 52, rfl, hg, Or.inl ⟨h1, rfl, rfl⟩⟩
  · exact ⟨v, _, cap, 0, rfl, hg, Or.inr ⟨h1, rfl, rfl, hr⟩⟩

set_option maxHeartbeats 3200000 in
set_option maxRecDepth 100000 in
theorem tables_core (m f c x y : Int) (a : Option Addr) (l : List Rs) (cap : Nat) (w : World) (hr : RsAt w a l) (hl : l.length ≤ 100) (hcap : l.length ≤ cap) (hnil : a = none → cap = 0) :
    Calls Try.prog 5 #[.agg #[.int .i64 m, .int .i64 f, .int .i64 c], .slice a l.length cap, .agg #[.int .i64 x, .int .i64 y]] w fun e w' => e = .returned (.bool true) ∧ RowKit.Below w.heap.size w w' := by
  have d1 : decide ((100 : Int) < (l.length : Int)) = false := by simp; omega
  have HR := Lib.hid hr
  have HM := Lib.hid (TBox.made w m f c 33)
  have HN := Lib.hid hnil
  have HN2 : Hid (a = none → l = []) := Lib.hid fun h => List.eq_nil_of_length_eq_zero (by have := hnil h; omega)
  have A : ∀ b W, (b = none → l.length = 0) → RsAt W b l → Hid (Calls Try.prog 18 #[.slice b l.length l.length, .agg #[.int .i64 x, .int .i64 y]] W (AddTwo l x y W)) := fun b W hb h => Lib.hid ((add_any b l l.length x y W h (by omega) (Nat.le_refl _) hb).mono fun _ _ h => add_two h)
  have T : ∀ W, RsAt W a l → Hid (Calls Try.prog 19 #[.slice a l.length cap] W fun e w' => e = .returned (.bool (tabB l)) ∧ Gr W w') := fun W h => Lib.hid (rtable_any a l cap W h (by omega))
  have T2 : ∀ v cp W, RsAt W v (l ++ [(x, y)]) → Hid (Calls Try.prog 19 #[.slice v (l.length + 1) cp] W fun e w' => e = .returned (.bool (tabB (l ++ [(x, y)]))) ∧ Gr W w') := fun v cp W h => Lib.hid (by have := rtable_any v _ cp W h (by simp; omega); rw [show (l ++ [(x, y)]).length = l.length + 1 by simp] at this; exact this)
  have S : ∀ b cb W, RsAt W b l → RsAt W a l → Hid (Calls Try.prog 23 #[.slice b l.length cb, .slice a l.length cap] W fun e w' => e = .returned (.bool true) ∧ Gr W w') := fun b cb W h k => Lib.hid (rsame_yes b a l cb cap W h k (by omega))
  have S2 : ∀ b cb d cd W, RsAt W b (l ++ [(x, y)]) → RsAt W d (l ++ [(x, y)]) → Hid (Calls Try.prog 23 #[.slice b (l.length + 1) cb, .slice d (l.length + 1) cd] W fun e w' => e = .returned (.bool true) ∧ Gr W w') := fun b cb d cd W h k => Lib.hid (by have := rsame_yes b d _ cb cd W h k (by simp; omega); rw [show (l ++ [(x, y)]).length = l.length + 1 by simp] at this; exact this)
  have P1 : Hid (∀ W, Calls Try.prog 20 #[.agg #[.int .i64 m, .int .i64 f, .int .i64 c]] W fun e w' => e = .returned (.bool (rightB m f c)) ∧ Gr W w') := Lib.hid (right_any m f c)
  have P2 : Hid (∀ W, Calls Try.prog 21 #[.agg #[.int .i64 m, .int .i64 f, .int .i64 c]] W fun e w' => e = .returned (.bool (rightB m f c)) ∧ Gr W w') := Lib.hid (rright_any m f c)
  have T1 : ∀ W, RsAt W a l → Hid (Calls Try.prog 22 #[.slice a l.length cap] W fun e w' => e = .returned (.bool (tabB l)) ∧ Gr W w') := fun W h => Lib.hid (table_any a l cap W h (by omega))
  clear hr hnil
  go_enter Try.func5, Try.ntmps5
  go_wp2_with fail
  refine (alive_any _).mono ?_
  rintro _ w1 ⟨rfl, hg1⟩
  have HG1 := Lib.hid ((((Gr.refl _).alloc _).alloc _).trans hg1)
  have HM1 := Lib.hid (HM.out.gr (((Gr.refl _).alloc _).trans hg1))
  have HB1 := Lib.hid ((RBox.made (w.alloc (.cells #[.int .i64 m, .int .i64 f, .int .i64 c] 33)) x y 42).gr hg1)
  have hz1 := HG1.out.size
  clear hg1 HM
  have hz' : (w.alloc (.cells #[.int .i64 m, .int .i64 f, .int .i64 c] 33)).heap.size = w.heap.size + 1 := by simp
  rw [hz'] at HB1
  clear hz'
  have HR1 := Lib.hid (HR.out.gr HG1.out)
  go_wp2_with (at_builtin; refine wpList_lit rfl _ _ rfl w1.heap.size w1.heap.size l a cap l.length (by rfl) (by rfl) rfl (OR.lit (Nat.le_refl _)) (by simp) HN.out (HR1.out.gr ((Gr.refl _).alloc _)) HN2.out (by omega) ?_; intro v3 w3 ho3 hg3)
  obtain ⟨ao, co, rfl, hro, hco, hno⟩ := ho3.row
  have hno2 : ao = none → l.length = 0 := fun h => by have := hno h; omega
  have HO3 := Lib.hid hro
  have HA3 := Lib.hid (HR1.out.gr (((Gr.refl _).alloc _).trans hg3))
  have HM3 := Lib.hid (HM1.out.gr (((Gr.refl _).alloc _).trans hg3))
  have HB3 := Lib.hid (HB1.out.gr (((Gr.refl _).alloc _).trans hg3))
  have HG3 := Lib.hid ((HG1.out.alloc _).trans hg3)
  have HNO := Lib.hid hno2
  obtain ⟨_, b0, b1⟩ := HB3.out
  have h5 : (l.length : Int) ≤ (co : Int) := by omega
  have h6 : (0 : Int) ≤ (l.length : Int) := by omega
  clear hno2 hro hno ho3 hg3 HG1 HM1 HB1 HR1 HR
  go_region_law (go_simp; go_at_call 18; refine (A ao _ HNO.out (HO3.out.gr (by first | exact (Gr.refl _).drew | exact Gr.refl _))).out.mono ?_; rintro e w4 ⟨va, na, ca, ea, rfl, hg4, hk4⟩; go_simp)
  have HG4 := Lib.hid (HG3.out.drew.trans hg4)
  have HA4 := Lib.hid (HA3.out.gr ((Gr.refl _).drew.trans hg4))
  have HO4 := Lib.hid (HO3.out.gr ((Gr.refl _).drew.trans hg4))
  have HM4 := Lib.hid (HM3.out.gr ((Gr.refl _).drew.trans hg4))
  have HB4 := Lib.hid (HB3.out.gr ((Gr.refl _).drew.trans hg4))
  have HK4 := Lib.hid hk4
  clear hk4 hg4 HG3 HA3 HO3 HM3 HB3 b0 b1 h5 h6
  go_simp
  go_upto_region 7 with (fail)
  go_cut [10] (fun s10 wx => ∃ al cl, s10 = .slice al (l.length + 1) cl ∧ Hid (RowKit.Below w4.heap.size w4 wx) ∧ Hid (RsAt wx al (l ++ [(x, y)])))
  case first =>
    obtain ⟨_, b0, b1⟩ := HB4.out
    go_region_law (first
      | (refine step_lit (by rfl) _ _ (by rfl) w4.heap.size _ l a cap l.length (by rfl) (by rfl) rfl ?_ (by first | (simp; done) | (simp; omega)) HN.out (HA4.out.gr (by repeat' (first | with_reducible exact Gr.refl _ | with_reducible refine Gr.alloc ?_ _ | with_reducible refine Gr.drew ?_))) HN2.out (by omega) ?_
         · first
             | exact OR.lit_at (w := w4) rfl (Nat.le_refl _)
             | exact (OR.lit_at (w := w4) rfl (Nat.le_refl _)).gr (by repeat' (first | with_reducible exact Gr.refl _ | with_reducible refine Gr.alloc ?_ _ | with_reducible refine Gr.drew ?_))
             | exact (OR.lit_at (w := w4.alloc (.cells #[.int .i64 x, .int .i64 y] 42)) (by simp) (by simp)).gr (by repeat' (first | with_reducible exact Gr.refl _ | with_reducible refine Gr.alloc ?_ _ | with_reducible refine Gr.drew ?_))
         intro v5 w5 ho5 hg5
         obtain ⟨_, e0, e1⟩ := HB4.out.gr (Gr.trans (by repeat' (first | with_reducible exact Gr.refl _ | with_reducible refine Gr.alloc ?_ _ | with_reducible refine Gr.drew ?_)) hg5))
      | (refine step_own (by rfl) _ _ (by rfl) w4 w4.heap.size v5 l [(x, y)] _ 1 1 (by rfl) (by rfl) rfl ?_ ?_ (by simp; omega) ?_ ?_ ?_
         · exact ho5.gr (by repeat' (first | with_reducible exact Gr.refl _ | with_reducible refine Gr.alloc ?_ _ | with_reducible refine Gr.drew ?_))
         · first
             | exact one_rs w5 _ _ _
             | exact (one_at (w := w4) x y rfl).gr (Gr.trans (by repeat' (first | with_reducible exact Gr.refl _ | with_reducible refine Gr.alloc ?_ _ | with_reducible refine Gr.drew ?_)) hg5)
             | exact (one_at (w := w4.alloc (.cells #[] 42)) x y (by simp)).gr (Gr.trans (by repeat' (first | with_reducible exact Gr.refl _ | with_reducible refine Gr.alloc ?_ _ | with_reducible refine Gr.drew ?_)) hg5)
         · first
             | exact (Gr.trans (by repeat' (first | with_reducible exact Gr.refl _ | with_reducible refine Gr.alloc ?_ _ | with_reducible refine Gr.drew ?_)) hg5).below
             | exact ((Gr.trans (by repeat' (first | with_reducible exact Gr.refl _ | with_reducible refine Gr.alloc ?_ _ | with_reducible refine Gr.drew ?_)) hg5).alloc _).below
         · first
             | exact (Gr.trans (by repeat' (first | with_reducible exact Gr.refl _ | with_reducible refine Gr.alloc ?_ _ | with_reducible refine Gr.drew ?_)) hg5).size
             | exact ((Gr.trans (by repeat' (first | with_reducible exact Gr.refl _ | with_reducible refine Gr.alloc ?_ _ | with_reducible refine Gr.drew ?_)) hg5).alloc _).size
         intro v6 w6 ho6 hb6 hz6))
    all_goals
      obtain ⟨al, cl, rfl, hr6, _, _⟩ := ho6.row
      go_wp2_with fail
      go_meet
      case rel => exact ⟨al, cl, by simp, Lib.hid hb6, Lib.hid hr6⟩
  case rest =>
    obtain ⟨al, cl, rfl, HB5, HL5⟩ := hcut
    obtain ⟨w5, hw5⟩ : ∃ W, W = wc := ⟨_, rfl⟩
    subst hw5
    have HA5 := Lib.hid (HA4.out.below HB5.out)
    have HO5 := Lib.hid (HO4.out.below HB5.out)
    have HM5 := Lib.hid (HM4.out.below HB5.out)
    have HW5 : Hid (RowKit.Below w.heap.size w w5) := Lib.hid (HG4.out.below.trans (HB5.out.mono HG4.out.size))
    have HZ5 : Hid (w.heap.size ≤ w5.heap.size) := Lib.hid (Nat.le_trans HG4.out.size HB5.out.size)
    have HK5 : Hid ((addOk l x y = false ∧ na = 0 ∧ ea = 52) ∨ (addOk l x y = true ∧ na = l.length + 1 ∧ ea = 0 ∧ RsAt w5 va (l ++ [(x, y)]))) := Lib.hid (by
      rcases HK4.out with h | ⟨h1, h2, h3, h4⟩
      · exact Or.inl h
      · exact Or.inr ⟨h1, h2, h3, h4.below HB5.out⟩)
    clear HA4 HO4 HM4 HG4 HK4 HB5 HB4 A HN HN2 HNO
    go_upto_region 8 with (fail)
    go_cut [11] (fun s11 wx => s11 = .bool (addOk l x y) ∧ Hid (Gr w5 wx))
    case first =>
      have HT := Lib.hid (show addOk l x y = (tabB l && tabB (l ++ [(x, y)])) from rfl)
      generalize addOk l x y = ok at *
      generalize tabB l = t1 at *
      generalize tabB (l ++ [(x, y)]) = t2 at *
      go_wp2_with fail
      refine (T _ HA5.out).out.mono ?_
      rintro _ w6 ⟨rfl, hg6⟩
      have HG6 := Lib.hid hg6
      clear hg6
      cases t1
      · go_wp2_with fail
        go_meet
        case rel => exact ⟨by rw [HT.out]; rfl, HG6⟩
      · go_wp2_with fail
        refine (T2 _ _ _ (HL5.out.gr HG6.out)).out.mono ?_
        rintro _ w7 ⟨rfl, hg7⟩
        have HG7 := Lib.hid (HG6.out.trans hg7)
        clear hg7
        go_wp2_with fail
        go_meet
        case rel => exact ⟨by rw [HT.out]; rfl, HG7⟩
    case rest =>
      obtain ⟨rfl, HG5⟩ := hcut
      obtain ⟨w6, hw6⟩ : ∃ W, W = wc := ⟨_, rfl⟩
      subst hw6
      have HA6 := Lib.hid (HA5.out.gr HG5.out)
      have HO6 := Lib.hid (HO5.out.gr HG5.out)
      have HL6 := Lib.hid (HL5.out.gr HG5.out)
      have HM6 := Lib.hid (HM5.out.gr HG5.out)
      have HW6 : Hid (RowKit.Below w.heap.size w w6) := Lib.hid (HW5.out.trans (HG5.out.below.mono HZ5.out))
      have HZ6 : Hid (w.heap.size ≤ w6.heap.size) := Lib.hid (Nat.le_trans HZ5.out HG5.out.size)
      have HK6 : Hid ((addOk l x y = false ∧ na = 0 ∧ ea = 52) ∨ (addOk l x y = true ∧ na = l.length + 1 ∧ ea = 0 ∧ RsAt w6 va (l ++ [(x, y)]))) := Lib.hid (by
        rcases HK5.out with h | ⟨h1, h2, h3, h4⟩
        · exact Or.inl h
        · exact Or.inr ⟨h1, h2, h3, h4.gr HG5.out⟩)
      clear HA5 HO5 HL5 HM5 HW5 HZ5 HK5 HG5 T2
      generalize addOk l x y = ok at *
      obtain ⟨z3, a3, b3, c3⟩ := HM6.out
      have mixed := mixedT
      have f0 := fun n os => cell_grown (a := ⟨w.heap.size, 0, none⟩) z3 a3 n os
      have f1 := fun n os => cell_grown (a := ⟨w.heap.size, 1, none⟩) z3 b3 n os
      have f2 := fun n os => cell_grown (a := ⟨w.heap.size, 2, none⟩) z3 c3 n os
      have HAg := Lib.hid (show ∀ n os, RsAt (grow (w6.drewN n) os) a l from fun n os => HA6.out.gr ((Gr.refl _).grow n os))
      have HOg := Lib.hid (show ∀ n os, RsAt (grow (w6.drewN n) os) ao l from fun n os => HO6.out.gr ((Gr.refl _).grow n os))
      clear a3 b3 c3 HM6 HA6 HO6
      generalize rightB m f c = rb at *
      generalize tabB l = tb at *
      go_wp2_with fail
      go_quiet_grown (first
        | (go_at_call 20; with_reducible exact Calls.gr_of (P1.out _))
        | (go_at_call 21; with_reducible exact Calls.gr_of (P2.out _))
        | (go_at_call 22; with_reducible exact Calls.gr_of (T1 _ (HAg.out _ _)).out)
        | (go_at_call 19; with_reducible exact Calls.gr_of (T _ (HAg.out _ _)).out)
        | (go_at_call 23; with_reducible exact Calls.gr_of (S _ _ _ (HOg.out _ _) (HAg.out _ _)).out))
      have HG7 := Lib.hid ((Gr.refl w6).grow nq osq)
      generalize grow (w6.drewN nq) osq = w7 at *
      have HW7 : Hid (RowKit.Below w.heap.size w w7) := Lib.hid (HW6.out.trans (HG7.out.below.mono HZ6.out))
      have HZ7 : Hid (w.heap.size ≤ w7.heap.size) := Lib.hid (Nat.le_trans HZ6.out HG7.out.size)
      have HL7 := Lib.hid (HL6.out.gr HG7.out)
      rcases HK6.out with ⟨rfl, rfl, rfl⟩ | ⟨rfl, rfl, rfl, h4⟩
      · clear HK6
        go_wp2
        go_ret
        exact ⟨rfl, HW7.out⟩
      · have HV7 := Lib.hid (h4.gr HG7.out)
        clear HK6 h4
        go_wp2_with fail
        refine (S2 _ _ _ _ _ HV7.out HL7.out).out.mono ?_
        rintro _ w8 ⟨rfl, hg8⟩
        have HW8 : Hid (RowKit.Below w.heap.size w w8) := Lib.hid (HW7.out.trans (hg8.below.mono HZ7.out))
        clear hg8
        go_wp2
        go_ret
        exact ⟨rfl, HW8.out⟩

theorem rateTables_walk (m f c : Int) (a : Option Addr) (len cap : Nat) (l : List Rs) {w : World} (h : CameRs w a len cap l) (x y : Int) (_hx : I x) (_hd : I y) (w1 : World) (e : w1 = w := by rfl) :
    Calls Try.prog 5 #[.agg #[.int .i64 m, .int .i64 f, .int .i64 c], .slice a len cap, .agg #[.int .i64 x, .int .i64 y]] w1 fun e w' => e = .returned (.bool true) ∧ RowKit.Below w1.heap.size w1 w' := by
  subst e
  obtain ⟨hr, rfl, _, hc, _, hn, _⟩ := h
  by_cases hl : 100 < l.length
  · exact tables_long m f c x y a l.length cap w1 hl
  · exact tables_core m f c x y a l cap w1 hr (by omega) hc hn
end Go.Proofs.Ytgokihclfdkgeaa
