/- The walk of falseworkref05.Points. -/
import Derived.Test.YtgokihclfdkgeaaRtQ
import Derived.Test.YtgokihclfdkgeaaRtI
import Derived.Test.YtgokihclfdkgeaaRtA
namespace Go.Proofs.Ytgokihclfdkgeaa
open Go.RowKit Go.Sort

def digs (F k : Nat) : List Int := (List.range k).map fun t => ((dk F t : Nat) : Int)
theorem digs_len (F k : Nat) : (digs F k).length = k := by unfold digs; simp
theorem digs_succ (F k : Nat) : digs F (k + 1) = digs F k ++ [((dk F k : Nat) : Int)] := by unfold digs; rw [List.range_succ, List.map_append]; rfl
theorem digs_get (F k t : Nat) (h : t < k) : (digs F k).getD t 0 = ((dk F t : Nat) : Int) := by unfold digs; simp [List.getD, h]

set_option maxHeartbeats 3200000 in
set_option maxRecDepth 100000 in
theorem rpoints_pos (x : Nat) (w : World) (hx : x ≤ W100) :
    Calls Try.prog 17 #[.float .f64 x] w fun r w' => r = .returned (.tuple #[.int .i64 ((pts x : Nat) : Int), .int .i64 0]) ∧ RowKit.Below w.heap.size w w' := by
  have k1 : (FloatKind.f64.format.order x 0 == some .gt || FloatKind.f64.format.order x 0 == some .eq) = true := ge0_pos (W_inf hx)
  have k2 : (FloatKind.f64.format.order x 4636737291354636288 == some .lt || FloatKind.f64.format.order x 4636737291354636288 == some .eq) = true := (le100_pos (W_inf hx)).trans (by simpa using hx)
  have hF : V x % U < U := Nat.mod_lt _ U_pos
  obtain ⟨f1, f2⟩ := fl_whole hx
  obtain ⟨f3, f4⟩ := fl_part hx
  have c1 : ∀ W : World, (convert 25 2 (.float .f64 x)).run Try.prog W = .ok (.int .i64 ((V x / U : Nat) : Int)) W := fun W => run_convert_float_int W 25 2 .f64 .i64 x _ (by kernel_rfl) Try.underlying2 f1
  have s1 : ∀ (W : World) ty, (binOp .sub ty (.float .f64 x) (.float .f64 (floatOfInt .f64 ((V x / U : Nat) : Int)))).run Try.prog W = .ok (.float .f64 (R (V x % U))) W := fun W ty => run_float_arith W .sub ty .f64 _ _ _ f3
  have hz := pk_zero hF
  have LO := fun K Q h hb => Lib.hid (@pts_low x K Q hx h hb)
  have HI := fun M Q s h hb hs h1 => Lib.hid (@pts_high x M Q s hx h hb hs h1)
  have MI := fun M Q h hb h1 => Lib.hid (@pts_mid x M Q hx h hb h1)
  have HREP := Lib.hid (pk_rep hF f4)
  clear f1 f3 f4 hx
  generalize pts x = P at *
  generalize V x % U = F at *
  generalize V x / U = q at *
  rw [← hz] at s1
  have HF := Lib.hid hF
  clear hz hF
  go_enter Try.func17, Try.ntmps17
  go_wp2
  go_loopg [5, 6] 1074 (fun g c5 c6 wr => ∃ k : Nat, c5 = .float .f64 (R (pk F k)) ∧ k + g = 1074 ∧ Hid (OW wr w.heap.size c6 (digs F k)) ∧ Hid (RowKit.Below w.heap.size w wr) ∧ w.heap.size ≤ wr.heap.size)
  case atStart => exact ⟨0, rfl, by omega, Lib.hid (OW.lit (Nat.le_refl _)), Lib.hid ((RowKit.Below.refl _ _).alloc (Nat.le_refl _) _), by simp⟩
  case round =>
    obtain ⟨k, rfl, hk, HO, HB, hzr⟩ := hrel
    clear c1 s1 k1 k2
    have hl := pk_lt F k
    have r1 := HREP.out k
    have g0 := fl_gt0 (D := pk F k) (by omega) r1
    by_cases h0 : 0 < pk F k
    · rw [decide_eq_true h0] at g0
      have hk2 : k < 1074 := by
        rcases Nat.lt_or_ge k 1074 with h | h
        · exact h
        · have e : k = 1074 := by omega
          rw [e, pk_end] at h0; omega
      have m1 : ∀ (W : World) ty, (binOp .mul ty (.float .f64 (R (pk F k))) (.float .f64 4611686018427387904)).run Try.prog W = .ok (.float .f64 (R (2 * pk F k))) W := fun W ty => run_float_arith W .mul ty .f64 _ _ _ (fl_two (by omega) r1)
      have g1 := fl_ge1 (D := 2 * pk F k) (by omega) (rep_two r1)
      obtain ⟨a6, c6, hv6, hr6⟩ := HO.out.row
      rw [digs_len] at hv6
      subst hv6
      by_cases hu : U ≤ 2 * pk F k
      · rw [decide_eq_true hu] at g1
        have m2 : ∀ (W : World) ty, (binOp .sub ty (.float .f64 (R (2 * pk F k))) (.float .f64 4607182418800017408)).run Try.prog W = .ok (.float .f64 (R (2 * pk F k - U))) W := fun W ty => run_float_arith W .sub ty .f64 _ _ _ (fl_less (by omega) (rep_two r1) hu)
        obtain ⟨n1, n2⟩ := pk_big hu
        have HN := Lib.hid n1
        have HD := Lib.hid n2
        rw [← n1] at m2
        clear n1 n2 hl h0 hu r1
        generalize R (pk F k) = p0 at *
        generalize R (2 * pk F k) = p1 at *
        generalize hp2 : R (pk F (k + 1)) = p2 at *
        have HP2 := Lib.hid hp2
        clear hp2
        go_wp2_with (at_builtin; refine wpList_app rfl _ _ rfl w w.heap.size _ (digs F k) [1] ⟨wr.heap.size, 0, none⟩ 1 1 (by rfl) (by rfl) rfl (HO.out.alloc _) (one_cell wr 1 _) (by rw [digs_len]; simp; omega) (HB.out.alloc hzr _) (by simp; omega) ?_; intro v3 w3 ho3 hb3 hz3)
        go_roundg (gk - 1)
        case measure => omega
        case rel => exact ⟨k + 1, by rw [HP2.out], by omega, Lib.hid (by rw [digs_succ, HD.out]; exact ho3), Lib.hid hb3, hz3⟩
      · rw [decide_eq_false hu] at g1
        obtain ⟨n1, n2⟩ := pk_small hu
        have HN := Lib.hid n1
        have HD := Lib.hid n2
        clear n1 n2 hl h0 hu r1
        generalize R (pk F k) = p0 at *
        generalize hp1 : R (2 * pk F k) = p1 at *
        have HP1 := Lib.hid hp1
        clear hp1
        go_wp2_with (at_builtin; refine wpList_app rfl _ _ rfl w w.heap.size _ (digs F k) [0] ⟨wr.heap.size, 0, none⟩ 1 1 (by rfl) (by rfl) rfl (HO.out.alloc _) (one_cell wr 0 _) (by rw [digs_len]; simp; omega) (HB.out.alloc hzr _) (by simp; omega) ?_; intro v3 w3 ho3 hb3 hz3)
        go_roundg (gk - 1)
        case measure => omega
        case rel => exact ⟨k + 1, by rw [HN.out, HP1.out], by omega, Lib.hid (by rw [digs_succ, HD.out]; exact ho3), Lib.hid hb3, hz3⟩
    · rw [decide_eq_false h0] at g0
      obtain ⟨W1, rfl⟩ : ∃ W, W = wr := ⟨_, rfl⟩
      obtain ⟨Q, hQ, hd⟩ := dig_Q (F := F) (K := k) (by omega)
      have hQl := Q_lt HF.out hQ
      have LO2 := fun hb => LO k Q hQ hb
      have HI2 := fun M (e : k = M + 1) s hb hs h1 => HI M Q s (by rw [← e]; exact hQ) hb hs h1
      have MI2 := fun M (e : k = M + 1) hb h1 => MI M Q (by rw [← e]; exact hQ) hb h1
      have HDG := Lib.hid hd
      have hk3 : k ≤ 1074 := by omega
      obtain ⟨a6, c6, hv6, hr6⟩ := HO.out.row
      rw [digs_len] at hv6
      subst hv6
      have HR6 := Lib.hid hr6
      have hmk := mk_int64 k (by omega)
      have HIN := Lib.hid (IntsAt.made W1 k 2)
      clear LO HI MI hQ hQl hd hr6 hl r1 h0 HREP HO HF
      generalize R (pk F k) = p0 at *
      go_wp2
      go_loopg [8, 10] k (fun g c8 c10 wq => ∃ j : Nat, c10 = .int .i64 ((j : Int) - 1) ∧ c8 = .int .i64 ((crS Q (k - j) : Nat) : Int) ∧ j ≤ g ∧ g ≤ j ∧ j ≤ k ∧ Hid (IntsAt wq W1.heap.size k (fun t => if j ≤ t then ((btS Q (k - 1 - t) : Nat) : Int) else 0)) ∧ Hid (RowKit.Below W1.heap.size W1 wq))
      case atStart =>
        exact ⟨k, rfl, by rw [Nat.sub_self, cr_zero]; rfl, Nat.le_refl _, Nat.le_refl _, Nat.le_refl _, Lib.hid (HIN.out.congr fun t ht => by rw [if_neg (by omega)]), Lib.hid ((RowKit.Below.refl _ _).alloc (Nat.le_refl _) _)⟩
      case round =>
        obtain ⟨j, rfl, rfl, hj1, hj2, hj, HI3, HB3⟩ := hrel
        clear HIN hmk
        by_cases hj0 : j = 0
        · subst hj0
          have e0 : ((0 : Nat) : Int) - 1 = -1 := rfl
          rw [e0, Nat.sub_zero]
          have hcr := cr_le Q k
          have HBE := Lib.hid (bl_over HB.out hzr HB3.out)
          have HC := Lib.hid HI3.out.c
          clear HB HB3 HDG HR6 e0 hj hj1 hj2 HI3
          by_cases hk0 : k = 0
          · have hkz : ((k : Int) == 0) = true := by rw [hk0]; rfl
            have hP := Lib.hid (LO2 (Or.inl hk0)).out
            clear hk0 LO2 HI2 MI2
            generalize crS Q k = C at *
            go_wp2
            go_ret2
            exact ⟨ret_pair (by have := hP.out; omega) rfl, HBE.out⟩
          · obtain ⟨M, rfl⟩ : ∃ M, k = M + 1 := ⟨k - 1, by omega⟩
            have hkz : (((M + 1 : Nat) : Int) == 0) = false := beq_eq_false_iff_ne.2 (by omega)
            have hc0 := HC.out 0 (by omega)
            simp only [Nat.zero_le, if_true, Nat.add_sub_cancel, Nat.sub_zero] at hc0
            have hb1 : btS Q M ≤ 1 := by unfold btS; omega
            have hkp : (0 : Int) < ((M + 1 : Nat) : Int) := by omega
            have HL := fun (h : btS Q M = 0) => Lib.hid (LO2 (Or.inr h)).out
            have HH := fun s hb hs h1 => Lib.hid (HI2 M rfl s hb hs h1).out
            have HM := fun hb h1 => Lib.hid (MI2 M rfl hb h1).out
            clear hk0 LO2 HI2 MI2
            generalize crS Q (M + 1) = C at *
            by_cases hy : btS Q M = 0
            · have hP := Lib.hid (HL hy).out
              rw [hy] at hc0
              clear HL HH HM hy hb1
              go_wp2
              go_ret2
              exact ⟨ret_pair (by have := hP.out; omega) rfl, HBE.out⟩
            · have hy1 : btS Q M = 1 := by omega
              rw [hy1] at hc0
              have HH2 := fun s hs h1 => HH s hy1 hs h1
              have HM2 := fun h1 => HM hy1 h1
              clear HL HH HM hy hb1 hy1
              by_cases hM : M = 0
              · subst hM
                have hP := Lib.hid (HM2 (fun s hs => by omega)).out
                clear HH2 HM2
                go_wp2
                go_loop [82] (fun c82 => c82 = .int .i64 0) (fun _ => 0)
                case atStart => rfl
                case round =>
                  subst hrel
                  go_wp2
                  go_ret2
                  exact ⟨ret_pair (by have := hP.out; omega) rfl, HBE.out⟩
              · have hM1 : ¬ M + 1 = 1 := by omega
                have hM2 : (1 : Int) ≤ ((M + 1 : Nat) : Int) := by omega
                go_wp2
                go_loop [82] (fun c82 => ∃ i : Nat, i ≤ M ∧ c82 = .int .i64 i ∧ Hid (∀ t, t < i → btS Q (M - 1 - t) = 0)) (fun c82 => M - (intOf c82).toNat)
                case atStart => exact ⟨0, Nat.zero_le _, rfl, Lib.hid fun t ht => by omega⟩
                case round =>
                  obtain ⟨i, hi, rfl, HZ⟩ := hrel
                  by_cases hlt : i < M
                  · have hiz : (i : Int) < (M : Int) := by omega
                    have hci := HC.out (1 + i) (by omega)
                    have e1 : M + 1 - 1 - (1 + i) = M - 1 - i := by omega
                    rw [if_pos (by omega), e1] at hci
                    have hb1 : btS Q (M - 1 - i) ≤ 1 := by unfold btS; omega
                    clear e1
                    by_cases hy : btS Q (M - 1 - i) = 1
                    · have hP := Lib.hid (HH2 _ (by omega) hy).out
                      rw [hy] at hci
                      clear HH2 HM2 hy hb1
                      go_wp2
                      go_ret2
                      exact ⟨ret_pair (by have := hP.out; omega) rfl, HBE.out⟩
                    · have hy0 : btS Q (M - 1 - i) = 0 := by omega
                      rw [hy0] at hci
                      have HY := Lib.hid hy0
                      clear HH2 HM2 hy hb1 hy0
                      go_wp2
                      go_round
                      case rel =>
                        refine ⟨i + 1, by omega, by go_num, Lib.hid fun t ht => ?_⟩
                        by_cases e : t = i
                        · rw [e]; exact HY.out
                        · exact HZ.out t (by omega)
                      case measure => simp [intOf]; omega
                  · have hiz : ¬ (i : Int) < (M : Int) := by omega
                    have hP := Lib.hid (HM2 (fun s hs => by
                      have := HZ.out (M - 1 - s) (by omega)
                      rwa [show M - 1 - (M - 1 - s) = s by omega] at this)).out
                    clear HH2 HM2
                    go_wp2
                    go_ret2
                    exact ⟨ret_pair (by have := hP.out; omega) rfl, HBE.out⟩
        · obtain ⟨i, rfl⟩ : ∃ i, j = i + 1 := ⟨j - 1, by omega⟩
          have ei : ((i + 1 : Nat) : Int) - 1 = (i : Int) := by omega
          rw [ei]
          clear ei LO2 HI2 MI2 hj0
          obtain ⟨st1, st2⟩ := cr_step Q (k - (i + 1))
          have hcr := cr_le Q (k - (i + 1))
          have es : k - 1 - i = k - (i + 1) := by omega
          have es2 : k - i = k - (i + 1) + 1 := by omega
          have HES := Lib.hid es
          have hdi := HDG.out i (by omega)
          rw [es] at hdi
          rw [← es2] at st2
          rw [← hdi] at st1 st2
          have hdl : dk F i ≤ 1 := by rw [hdi]; omega
          obtain ⟨b, off, rfl, hb, hc⟩ : ∃ b off, a6 = some ⟨b, off, none⟩ ∧ b < wr.heap.size ∧ wr.cell? ⟨b, off + i, none⟩ = some (.int .i64 ((dk F i : Nat) : Int)) := by
            rcases HR6.out.below HB3.out with h | ⟨b, off, e, hb, hc⟩
            · have := digs_len F k; rw [h] at this; simp at this; omega
            · have := hc i (by rw [digs_len]; omega)
              rw [digs_get F k i (by omega)] at this
              exact ⟨b, off, e, hb, this⟩
          have hcell := HI3.out.c i (by omega)
          have hfz := HI3.out.fz i (by omega)
          have hil : i < k := by omega
          have hiz : (i : Int) < (k : Int) := by omega
          have hi0 : (0 : Int) ≤ (i : Int) := by omega
          have ST1 := Lib.hid st1
          have ST2 := Lib.hid st2
          clear st1 st2 es es2 hdi
          generalize dk F i = D at *
          generalize crS Q (k - (i + 1)) = C at *
          generalize (if i + 1 ≤ i then ((btS Q (k - 1 - i) : Nat) : Int) else 0) = y at hcell
          go_wp2
          go_roundg i
          case measure => omega
          case rel =>
            refine ⟨i, rfl, ?_, Nat.le_refl _, Nat.le_refl _, by omega, Lib.hid ((HI3.out.set i hil _).congr fun t ht => ?_), Lib.hid (HB3.out.setCell (p := ⟨W1.heap.size, i, none⟩) (Nat.le_refl _) _)⟩
            · rw [ST2.out]; go_num
            · by_cases e : t = i
              · rw [if_pos e, if_pos (by omega), e, HES.out, ST1.out]; omega
              · rw [if_neg e]
                by_cases e2 : i + 1 ≤ t
                · rw [if_pos e2, if_pos (by omega)]
                · rw [if_neg e2, if_neg (by omega)]
end Go.Proofs.Ytgokihclfdkgeaa
