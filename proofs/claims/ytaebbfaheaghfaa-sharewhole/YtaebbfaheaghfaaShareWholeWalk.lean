/- The walk of falseworklaw02.ShareWhole. -/
import Derived.Test.YtaebbfaheaghfaaWholeSum
import Derived.Test.YtaebbfaheaghfaaShare5
import Derived.Test.YtaebbfaheaghfaaRefI
import Derived.Test.YtaebbfaheaghfaaRefH
namespace Go.Proofs.Ytaebbfaheaghfaa
open Go.RowKit Go.Shelf Go.Sort

set_option maxHeartbeats 400000 in
set_option maxRecDepth 100000 in
theorem whole_empty (a0 : Option Addr) (n cap : Nat) (t er : Int) (w : World) (hl : n ≤ 64) (her : er ≠ 0)
    (C : ∀ W, RowKit.Below w.heap.size w W → Calls Try.prog 23 #[.int .i64 t, .slice a0 n cap] W fun e w' => (∃ v k, e = .returned (.tuple #[.slice v 0 k, .int .i64 er])) ∧ RowKit.Below W.heap.size W w') :
    Calls Try.prog 7 #[.int .i64 t, .slice a0 n cap] w fun e w' => e = .returned (.bool true) ∧ RowKit.Below w.heap.size w w' := by
  have HC := Lib.hid C
  clear C
  have d1 : decide ((64 : Int) < (n : Int)) = false := by simp only [decide_eq_false_iff_not]; omega
  go_enter Try.func7, Try.ntmps7
  go_wp2_with fail
  refine (alive2_any _).mono ?_
  rintro e w1 ⟨rfl, hb1⟩
  have HB1 := Lib.hid hb1
  clear hb1
  go_wp2_with fail
  refine (HC.out _ HB1.out).mono ?_
  rintro e w2 ⟨⟨v, k, rfl⟩, hb2⟩
  have HB2 := Lib.hid (bl_trans HB1.out hb2)
  clear hb2 HC
  go_wp2
  go_ret
  exact ⟨rfl, HB2.out⟩

set_option maxHeartbeats 2000000 in
set_option maxRecDepth 100000 in
theorem whole_main (a0 : Option Addr) (l x : List Int) (cap : Nat) (t S : Int) (w : World) (hl : l.length ≤ 64) (hx : x.length = l.length) (hI : ∀ y ∈ l, I y) (hJ : ∀ y ∈ x, I y) (hT : I t) (hS : I S) (hlS : l.sum = S) (hxS : x.sum = t)
    (hF : ∀ i, i < l.length → 0 ≤ x.getD i 0 ∧ (l.getD i 0 = 0 → x.getD i 0 = 0) ∧ (x.getD i 0 - 1) * S < t * l.getD i 0 ∧ t * l.getD i 0 < (x.getD i 0 + 1) * S ∧ ∀ j, j < l.length → l.getD j 0 < l.getD i 0 → x.getD j 0 ≤ x.getD i 0)
    (C : ∀ W, RowKit.Below w.heap.size w W → Calls Try.prog 23 #[.int .i64 t, .slice a0 l.length cap] W fun e w' => ∃ v k, e = .returned (.tuple #[.slice v x.length k, .int .i64 0]) ∧ RowKit.Below W.heap.size W w' ∧ RowAt .i64 w' a0 l ∧ RowAt .i64 w' v x) :
    Calls Try.prog 7 #[.int .i64 t, .slice a0 l.length cap] w fun e w' => e = .returned (.bool true) ∧ RowKit.Below w.heap.size w w' := by
  have HC := Lib.hid C
  clear C
  have S1 := fun W h => Lib.hid (refSum_any a0 l cap W h hI (by omega))
  have S2 := fun v k W h => Lib.hid (refSum_any v x k W h hJ (by omega))
  rw [hxS, cutV_in hT, cutE_in hT] at S2
  rw [hlS, cutV_in hS, cutE_in hS] at S1
  have HI := Lib.hid hI
  have HJ := Lib.hid hJ
  have HF := Lib.hid hF
  clear hI hJ hlS hxS hF
  have d1 : decide ((64 : Int) < (l.length : Int)) = false := by simp only [decide_eq_false_iff_not]; omega
  rw [hx] at HC S2
  generalize hn : l.length = n at *
  go_enter Try.func7, Try.ntmps7
  go_wp2_with fail
  refine (alive2_any _).mono ?_
  rintro e w1 ⟨rfl, hb1⟩
  have HB1 := Lib.hid hb1
  clear hb1
  go_wp2_with fail
  refine (HC.out _ HB1.out).mono ?_
  rintro e w2 ⟨v, k, rfl, hb2, hr2, hx2⟩
  have HB2 := Lib.hid (bl_trans HB1.out hb2)
  have HR2 := Lib.hid hr2
  have HX2 := Lib.hid hx2
  clear hb2 HC hr2 hx2 HB1
  go_wp2_with fail
  refine (S1 _ HR2.out).out.mono ?_
  rintro e w3 ⟨rfl, hb3⟩
  have HB3 := Lib.hid (bl_trans HB2.out hb3)
  have HR3 := Lib.hid (HR2.out.below hb3)
  have HX3 := Lib.hid (HX2.out.below hb3)
  clear hb3 S1 HR2 HX2 HB2
  go_wp2_with fail
  refine (S2 _ _ _ HX3.out).out.mono ?_
  rintro e w4 ⟨rfl, hb4⟩
  have HB4 := Lib.hid (bl_trans HB3.out hb4)
  have HR4 := Lib.hid (HR3.out.below hb4)
  have HX4 := Lib.hid (HX3.out.below hb4)
  clear hb4 S2 HR3 HX3 HB3
  go_wp2_with fail
  go_loopg [61] n (fun g c61 wr => ∃ i : Nat, c61 = .int .i64 i ∧ i + g = n ∧ i ≤ n ∧ Hid (RowKit.Below w4.heap.size w4 wr))
  case atStart => exact ⟨0, rfl, by omega, by omega, Lib.hid (RowKit.Below.refl _ _)⟩
  case round =>
    obtain ⟨i, rfl, hi, hin, HBr⟩ := hrel
    by_cases hlt : i < n
    · obtain ⟨b0, o0, rfl, hb0, hc0⟩ : ∃ b off, a0 = some ⟨b, off, none⟩ ∧ b < w4.heap.size ∧ ∀ i, i < l.length → w4.cell? ⟨b, off + i, none⟩ = some (.int .i64 (l.getD i 0)) := by
        rcases HR4.out with h | h
        · subst h; simp at hn; omega
        · exact h
      obtain ⟨b1, o1, rfl, hb1, hc1⟩ : ∃ b off, v = some ⟨b, off, none⟩ ∧ b < w4.heap.size ∧ ∀ i, i < x.length → w4.cell? ⟨b, off + i, none⟩ = some (.int .i64 (x.getD i 0)) := by
        rcases HX4.out with h | h
        · subst h; simp at hx; omega
        · exact h
      have HC0 := Lib.hid hc0
      have HC1 := Lib.hid hc1
      have HB0 := Lib.hid hb0
      have HB1 := Lib.hid hb1
      have hli := getD_I l HI.out i (by omega)
      have hxi := getD_I x HJ.out i (by omega)
      obtain ⟨f1, f2, f3, f4, f5⟩ := HF.out i (by omega)
      have cl : wr.cell? ⟨b0, o0 + i, none⟩ = some (.int .i64 (l.getD i 0)) := by rw [HBr.out.cell (p := ⟨b0, o0 + i, none⟩) hb0]; exact hc0 i (by omega)
      have cx : wr.cell? ⟨b1, o1 + i, none⟩ = some (.int .i64 (x.getD i 0)) := by rw [HBr.out.cell (p := ⟨b1, o1 + i, none⟩) hb1]; exact hc1 i (by omega)
      have HF5 := Lib.hid f5
      clear hc0 hc1 hb0 hb1 f5
      have hlz : (i : Int) < (n : Int) := by omega
      have i0 : (0 : Int) ≤ (i : Int) := by omega
      generalize hla : l.getD i 0 = la at *
      generalize hxa : x.getD i 0 = xa at *
      have HLA := Lib.hid hla
      have HXA := Lib.hid hxa
      clear hla hxa
      have K1 : ∀ W, Hid (Calls Try.prog 29 #[.int .i64 (xa - 1), .int .i64 S, .int .i64 t, .int .i64 la] W fun e w' => e = .returned (.int .i64 (-1)) ∧ RowKit.Below W.heap.size W w') := fun W => Lib.hid (by
        have := refCross_any (xa - 1) S t la W ⟨by omega, by have := hxi.2; omega⟩ hS hT hli
        rwa [show cmpI ((xa - 1) * S) (t * la) = -1 by unfold cmpI; rw [if_pos f3]] at this)
      have K2 : xa < 9223372036854775807 → ∀ W, Hid (Calls Try.prog 29 #[.int .i64 (xa + 1), .int .i64 S, .int .i64 t, .int .i64 la] W fun e w' => e = .returned (.int .i64 1) ∧ RowKit.Below W.heap.size W w') := fun hm W => Lib.hid (by
        have := refCross_any (xa + 1) S t la W ⟨by have := hxi.1; omega, by omega⟩ hS hT hli
        rwa [show cmpI ((xa + 1) * S) (t * la) = 1 by unfold cmpI; rw [if_neg (by omega), if_pos f4]] at this)
      have g1 : decide (xa < 0) = false := by simp only [decide_eq_false_iff_not]; omega
      have hxu := hxi.2
      have hxl := hxi.1
      clear f3 f4 HF hli hxi
      have HK2 := Lib.hid K2
      clear K2
      by_cases hz : la = 0
      · have hxz := f2 hz
        subst hxz
        subst hz
        have hmx : (0 : Int) < 9223372036854775807 := by omega
        have g3 : decide ((0 : Int) < 9223372036854775807) = true := by simp only [decide_eq_true_eq]; exact hmx
        have K2 := HK2.out hmx
        go_wp2_with fail
        refine (K1 _).out.mono ?_
        rintro e w5 ⟨rfl, hb5'⟩
        have cl5 : w5.cell? ⟨b0, o0 + i, none⟩ = some (.int .i64 0) := by rw [hb5'.cell (p := ⟨b0, o0 + i, none⟩) (Nat.lt_of_lt_of_le HB0.out HBr.out.size)]; exact cl
        have HBr5 := Lib.hid (bl_trans HBr.out hb5')
        clear hb5'
        go_wp2_with fail
        refine (K2 _).out.mono ?_
        rintro e w6 ⟨rfl, hb6⟩
        have hb5 := hb6
        replace HBr := HBr5
        clear HBr5 hb6 K2 cl5
        have HBs := Lib.hid (bl_trans HBr.out hb5)
        clear hb5 K1 HK2
        go_wp2
        go_loopg [109] n (fun g c109 wq => ∃ j : Nat, c109 = .int .i64 j ∧ j + g = n ∧ j ≤ n ∧ Hid (RowKit.Below w4.heap.size w4 wq))
        case atStart => exact ⟨0, rfl, by omega, by omega, HBs⟩
        case round =>
          obtain ⟨j, rfl, hj, hjn, HBq⟩ := hrel
          by_cases hjl : j < n
          · have ck : wr.cell? ⟨b0, o0 + i, none⟩ = some (.int .i64 0) := by rw [HBq.out.cell (p := ⟨b0, o0 + i, none⟩) HB0.out, HC0.out i (by omega), HLA.out]
            have cj : wr.cell? ⟨b0, o0 + j, none⟩ = some (.int .i64 (l.getD j 0)) := by rw [HBq.out.cell (p := ⟨b0, o0 + j, none⟩) HB0.out]; exact HC0.out j (by omega)
            have cy : wr.cell? ⟨b1, o1 + j, none⟩ = some (.int .i64 (x.getD j 0)) := by rw [HBq.out.cell (p := ⟨b1, o1 + j, none⟩) HB1.out]; exact HC1.out j (by omega)
            have hjz : (j : Int) < (n : Int) := by omega
            have j0 : (0 : Int) ≤ (j : Int) := by omega
            have hm := HF5.out j (by omega)
            generalize l.getD j 0 = lj at *
            generalize x.getD j 0 = xj at *
            by_cases hgt : lj < 0
            · have q1 : decide (lj < 0) = true := by simp only [decide_eq_true_eq]; exact hgt
              have q2 : decide (0 < xj) = false := by simp only [decide_eq_false_iff_not]; have := hm hgt; omega
              clear hm hgt
              go_wp2
              go_quiet (fail)
              go_wp2
              go_roundg (n - (j + 1))
              case measure => omega
              case rel => exact ⟨j + 1, by go_num, by omega, by omega, Lib.hid (below_drewN HBq.out _)⟩
            · have q1 : decide (lj < 0) = false := by simp only [decide_eq_false_iff_not]; exact hgt
              clear hm hgt
              go_wp2
              first | go_region | fail
              go_wp2
              go_roundg (n - (j + 1))
              case measure => omega
              case rel => exact ⟨j + 1, by go_num, by omega, by omega, Lib.hid HBq.out.drew⟩
          · have hjz : ¬ (j : Int) < (n : Int) := by omega
            go_wp2
            go_roundg (n - (i + 1))
            case measure => omega
            case rel => exact ⟨i + 1, by go_num, by omega, by omega, HBq⟩
      · have g2 : decide (la = 0) = false := by simp only [decide_eq_false_iff_not]; exact hz
        clear f2
        by_cases hmm : xa < 9223372036854775807
        · skip
          have hmx : xa < 9223372036854775807 := by omega
          have g3 : decide (xa < 9223372036854775807) = true := by simp only [decide_eq_true_eq]; exact hmx
          have K2 := HK2.out hmx
          go_wp2_with fail
          refine (K1 _).out.mono ?_
          rintro e w5 ⟨rfl, hb5'⟩
          have cl5 : w5.cell? ⟨b0, o0 + i, none⟩ = some (.int .i64 la) := by rw [hb5'.cell (p := ⟨b0, o0 + i, none⟩) (Nat.lt_of_lt_of_le HB0.out HBr.out.size)]; exact cl
          have HBr5 := Lib.hid (bl_trans HBr.out hb5')
          clear hb5'
          go_wp2_with fail
          refine (K2 _).out.mono ?_
          rintro e w6 ⟨rfl, hb6⟩
          have hb5 := hb6
          replace HBr := HBr5
          clear HBr5 hb6 K2 cl5
          have HBs := Lib.hid (bl_trans HBr.out hb5)
          clear hb5 K1 HK2
          go_wp2
          go_loopg [109] n (fun g c109 wq => ∃ j : Nat, c109 = .int .i64 j ∧ j + g = n ∧ j ≤ n ∧ Hid (RowKit.Below w4.heap.size w4 wq))
          case atStart => exact ⟨0, rfl, by omega, by omega, HBs⟩
          case round =>
            obtain ⟨j, rfl, hj, hjn, HBq⟩ := hrel
            by_cases hjl : j < n
            · have ck : wr.cell? ⟨b0, o0 + i, none⟩ = some (.int .i64 la) := by rw [HBq.out.cell (p := ⟨b0, o0 + i, none⟩) HB0.out, HC0.out i (by omega), HLA.out]
              have cj : wr.cell? ⟨b0, o0 + j, none⟩ = some (.int .i64 (l.getD j 0)) := by rw [HBq.out.cell (p := ⟨b0, o0 + j, none⟩) HB0.out]; exact HC0.out j (by omega)
              have cy : wr.cell? ⟨b1, o1 + j, none⟩ = some (.int .i64 (x.getD j 0)) := by rw [HBq.out.cell (p := ⟨b1, o1 + j, none⟩) HB1.out]; exact HC1.out j (by omega)
              have hjz : (j : Int) < (n : Int) := by omega
              have j0 : (0 : Int) ≤ (j : Int) := by omega
              have hm := HF5.out j (by omega)
              generalize l.getD j 0 = lj at *
              generalize x.getD j 0 = xj at *
              by_cases hgt : lj < la
              · have q1 : decide (lj < la) = true := by simp only [decide_eq_true_eq]; exact hgt
                have q2 : decide (xa < xj) = false := by simp only [decide_eq_false_iff_not]; have := hm hgt; omega
                clear hm hgt
                go_wp2
                go_quiet (fail)
                go_wp2
                go_roundg (n - (j + 1))
                case measure => omega
                case rel => exact ⟨j + 1, by go_num, by omega, by omega, Lib.hid (below_drewN HBq.out _)⟩
              · have q1 : decide (lj < la) = false := by simp only [decide_eq_false_iff_not]; exact hgt
                clear hm hgt
                go_wp2
                first | go_region | fail
                go_wp2
                go_roundg (n - (j + 1))
                case measure => omega
                case rel => exact ⟨j + 1, by go_num, by omega, by omega, Lib.hid HBq.out.drew⟩
            · have hjz : ¬ (j : Int) < (n : Int) := by omega
              go_wp2
              go_roundg (n - (i + 1))
              case measure => omega
              case rel => exact ⟨i + 1, by go_num, by omega, by omega, HBq⟩
        · have hmx : ¬ xa < 9223372036854775807 := hmm
          have g3 : decide (xa < 9223372036854775807) = false := by simp only [decide_eq_false_iff_not]; exact hmx
          go_wp2_with fail
          refine (K1 _).out.mono ?_
          rintro e w5 ⟨rfl, hb5⟩
          have HBs := Lib.hid (bl_trans HBr.out hb5)
          clear hb5 K1 HK2
          go_wp2
          go_loopg [109] n (fun g c109 wq => ∃ j : Nat, c109 = .int .i64 j ∧ j + g = n ∧ j ≤ n ∧ Hid (RowKit.Below w4.heap.size w4 wq))
          case atStart => exact ⟨0, rfl, by omega, by omega, HBs⟩
          case round =>
            obtain ⟨j, rfl, hj, hjn, HBq⟩ := hrel
            by_cases hjl : j < n
            · have ck : wr.cell? ⟨b0, o0 + i, none⟩ = some (.int .i64 la) := by rw [HBq.out.cell (p := ⟨b0, o0 + i, none⟩) HB0.out, HC0.out i (by omega), HLA.out]
              have cj : wr.cell? ⟨b0, o0 + j, none⟩ = some (.int .i64 (l.getD j 0)) := by rw [HBq.out.cell (p := ⟨b0, o0 + j, none⟩) HB0.out]; exact HC0.out j (by omega)
              have cy : wr.cell? ⟨b1, o1 + j, none⟩ = some (.int .i64 (x.getD j 0)) := by rw [HBq.out.cell (p := ⟨b1, o1 + j, none⟩) HB1.out]; exact HC1.out j (by omega)
              have hjz : (j : Int) < (n : Int) := by omega
              have j0 : (0 : Int) ≤ (j : Int) := by omega
              have hm := HF5.out j (by omega)
              generalize l.getD j 0 = lj at *
              generalize x.getD j 0 = xj at *
              by_cases hgt : lj < la
              · have q1 : decide (lj < la) = true := by simp only [decide_eq_true_eq]; exact hgt
                have q2 : decide (xa < xj) = false := by simp only [decide_eq_false_iff_not]; have := hm hgt; omega
                clear hm hgt
                go_wp2
                go_quiet (fail)
                go_wp2
                go_roundg (n - (j + 1))
                case measure => omega
                case rel => exact ⟨j + 1, by go_num, by omega, by omega, Lib.hid (below_drewN HBq.out _)⟩
              · have q1 : decide (lj < la) = false := by simp only [decide_eq_false_iff_not]; exact hgt
                clear hm hgt
                go_wp2
                first | go_region | fail
                go_wp2
                go_roundg (n - (j + 1))
                case measure => omega
                case rel => exact ⟨j + 1, by go_num, by omega, by omega, Lib.hid HBq.out.drew⟩
            · have hjz : ¬ (j : Int) < (n : Int) := by omega
              go_wp2
              go_roundg (n - (i + 1))
              case measure => omega
              case rel => exact ⟨i + 1, by go_num, by omega, by omega, HBq⟩
    · have hlz : ¬ (i : Int) < (n : Int) := by omega
      go_wp2
      go_ret
      exact ⟨rfl, bl_trans HB4.out HBr.out⟩

set_option maxHeartbeats 400000 in
theorem whole_long (a0 : Option Addr) (n cap : Nat) (t : Int) (w : World) (hl : 64 < n) :
    Calls Try.prog 7 #[.int .i64 t, .slice a0 n cap] w fun e w' => e = .returned (.bool true) ∧ RowKit.Below w.heap.size w w' := by
  have d1 : decide ((64 : Int) < (n : Int)) = true := by simp only [decide_eq_true_eq]; omega
  go_enter Try.func7, Try.ntmps7
  go_wp2_with fail
  refine (alive2_any _).mono ?_
  rintro e w1 ⟨rfl, hb1⟩
  go_wp2
  go_ret
  exact ⟨rfl, hb1⟩

theorem shareWhole_walk (a0 : Int) (a1 : Option Addr) (len1 cap1 : Nat) (z1 : List Int) (w : World) (w0 : (Lit.int .i64 a0).wf = true) (w1 : IsRow .i64 w a1 len1 cap1 z1) :
    Calls Try.prog 7 #[.int .i64 a0, .slice a1 len1 cap1] w fun e w' => e = .returned (.bool true) ∧ RowKit.Below w.heap.size w w' := by
  obtain ⟨hr, hlen, hI, hm⟩ := row_of w1
  have hT := I_of_wf w0
  by_cases hout : 64 < len1
  · exact whole_long a1 len1 cap1 a0 w hout
  · generalize z1.take len1 = l at *
    subst hlen
    by_cases hok : 0 ≤ a0 ∧ okW l
    · obtain ⟨ht, hok⟩ := hok
      by_cases hS : I l.sum
      · refine whole_main a1 l (partsL a0 l) cap1 a0 l.sum w (by omega) (partsL_len _ _) hI ?_ hT hS rfl (cut_sum hok ht) ?_ ?_
        · intro y hy
          obtain ⟨j, hj, rfl⟩ := List.mem_map.mp hy
          exact (cut_I hok ht hT j (by simpa using hj)).1
        · intro i hi
          rw [partsL_get _ _ _ hi]
          refine ⟨cut_bd hok ht i hi, cut_zero hok ht i, (cut_near hok ht i).1, (cut_near hok ht i).2, fun j hj hw => ?_⟩
          rw [partsL_get _ _ _ hj]
          exact cut_mono hok ht i j hi hj hw
        · intro W hb
          refine (cut_res a1 l cap1 a0 W hT hI (hr.below hb)).mono ?_
          rintro e w' ⟨v, k, x, er, sp, rfl, hb2, hrx⟩
          rcases sp with ⟨h, _⟩ | ⟨_, _, _, rfl, rfl⟩ | ⟨_, _, h, _⟩
          · rcases h with h | h
            · omega
            · exact absurd hok h
          · exact ⟨v, k, rfl, hb2, (hr.below hb).below hb2, hrx⟩
          · exact absurd hS h
      · refine whole_empty a1 l.length cap1 a0 11 w (by omega) (by omega) fun W hb => ?_
        refine (cut_res a1 l cap1 a0 W hT hI (hr.below hb)).mono ?_
        rintro e w' ⟨v, k, x, er, sp, rfl, hb2, hrx⟩
        rcases sp with ⟨h, _⟩ | ⟨_, _, h, _⟩ | ⟨_, _, _, rfl, rfl⟩
        · rcases h with h | h
          · omega
          · exact absurd hok h
        · exact absurd h hS
        · exact ⟨⟨v, k, rfl⟩, hb2⟩
    · refine whole_empty a1 l.length cap1 a0 21 w (by omega) (by omega) fun W hb => ?_
      refine (cut_res a1 l cap1 a0 W hT hI (hr.below hb)).mono ?_
      rintro e w' ⟨v, k, x, er, sp, rfl, hb2, hrx⟩
      rcases sp with ⟨_, rfl, rfl⟩ | ⟨h, h2, _⟩ | ⟨h, h2, _⟩
      · exact ⟨⟨v, k, rfl⟩, hb2⟩
      · exact absurd ⟨h, h2⟩ hok
      · exact absurd ⟨h, h2⟩ hok
end Go.Proofs.Ytaebbfaheaghfaa
