/- The document's own Cut (falseworkref02.Cut), where the weights can be and their sum is in range. -/
import Derived.Test.YtaebbfaheaghfaaCutsP
import Derived.Test.YtaebbfaheaghfaaRefK
import Derived.Test.YtaebbfaheaghfaaRefH
import Derived.Test.YtaebbfaheaghfaaRefI
import Derived.Test.YtaebbfaheaghfaaCutsN
namespace Go.Proofs.Ytaebbfaheaghfaa
open Go.RowKit Go.Shelf Go.Sort

/-- the first i parts, and their rests -/
def qsL (t : Int) (l : List Int) (i : Nat) : List Int := (List.range i).map (qf t l)
def rsL (t : Int) (l : List Int) (i : Nat) : List Int := (List.range i).map (rf t l)
theorem qsL_next (t : Int) (l : List Int) (i : Nat) : qsL t l (i + 1) = qsL t l i ++ [qf t l i] := by simp [qsL, List.range_succ]
theorem rsL_next (t : Int) (l : List Int) (i : Nat) : rsL t l (i + 1) = rsL t l i ++ [rf t l i] := by simp [rsL, List.range_succ]
theorem qsL_len (t : Int) (l : List Int) (i : Nat) : (qsL t l i).length = i := by simp [qsL]
theorem rsL_len (t : Int) (l : List Int) (i : Nat) : (rsL t l i).length = i := by simp [rsL]

set_option maxHeartbeats 400000 in
set_option maxRecDepth 100000 in
theorem rcut_core (a0 : Option Addr) (l : List Int) (cap : Nat) (t : Int) (w : World) (hT : I t) (ht : 0 ≤ t) (hok : okW l) (hS : I l.sum) (hI : ∀ x ∈ l, I x) (hr : RowAt .i64 w a0 l) :
    Calls Try.prog 24 #[.int .i64 t, .slice a0 l.length cap] w (CutRes t l w) := by
  have HR := Lib.hid hr
  have HI := Lib.hid hI
  have HOK := Lib.hid hok
  have R1 := Lib.hid (ref02Right_any a0 l cap t w hr)
  have S1 := fun W h => Lib.hid (refSum_any a0 l cap W h hI (by have := hok.2.1; omega))
  rw [cutV_in hS, cutE_in hS] at S1
  have hl := hok.2.1
  clear hr hI hok
  generalize hs : l.sum = S at *
  go_enter Try.func24, Try.ntmps24
  go_wp2_with fail
  refine R1.out.mono ?_
  rintro e w1 ⟨⟨r, hr1, rfl⟩, rfl⟩
  obtain rfl : r = true := hr1.mpr ⟨ht, HOK.out⟩
  clear hr1 R1
  go_wp2_with fail
  refine (S1 _ HR.out).out.mono ?_
  rintro e w2 ⟨rfl, hb2⟩
  have HB2 := Lib.hid hb2
  have HR2 := Lib.hid (HR.out.below hb2)
  clear hb2 S1
  have hz2 : w.heap.size ≤ w2.heap.size := HB2.out.size
  go_wp2_with fail
  go_loopg [8, 9, 10, 33] l.length (fun g c8 c9 c10 c33 wr => ∃ i : Nat, c33 = .int .i64 i ∧ i + g = l.length ∧ c10 = .int .i64 (sumTo (qf t l) i) ∧ Hid (Two wr w.heap.size c8 c9 (qsL t l i) (rsL t l i)) ∧ Hid (RowKit.Below w.heap.size w wr) ∧ w.heap.size ≤ wr.heap.size)
  case atStart => exact ⟨0, rfl, by omega, rfl, Lib.hid (Two.start w2 w.heap.size hz2), Lib.hid ((HB2.out.alloc hz2 _).alloc (by simp; omega) _), by simp; omega⟩
  case round =>
    obtain ⟨i, rfl, hi, rfl, HT, HB, hzr⟩ := hrel
    clear HB2 hz2
    by_cases hlt : i < l.length
    · have hlz : (i : Int) < (l.length : Int) := by omega
      have b1 : (0 : Int) ≤ (i : Int) := by omega
      obtain ⟨p1, o1, rfl, hc1⟩ : ∃ b off, a0 = some ⟨b, off, none⟩ ∧ wr.cell? ⟨b, off + i, none⟩ = some (.int .i64 (l.getD i 0)) := by
        rcases HR.out.below HB.out with h | ⟨b, off, e, _, hc⟩
        · rw [h] at hlt; simp at hlt
        · exact ⟨b, off, e, hc i hlt⟩
      have hyI := getD_I l HI.out i hlt
      have q0 := qf_bd HOK.out ht i hlt
      have q1 := qsum_nn HOK.out ht (i + 1) (by omega)
      have q2 := qsum_le HOK.out ht (i + 1) (by omega)
      have hSp := sum_pos HOK.out
      have hrf := rf_bd (t := t) HOK.out i
      have hqr := qr (t := t) (l := l) i
      rw [hs] at hSp hrf hqr
      have HQ := Lib.hid (show sumTo (qf t l) (i + 1) = sumTo (qf t l) i + qf t l i from rfl)
      have q3 := qsum_nn HOK.out ht i (by omega)
      obtain ⟨y, hy⟩ : ∃ y, y = l.getD i 0 := ⟨_, rfl⟩
      rw [← hy] at hc1 hyI hqr
      have hqv : qf t l i = t * y / S := by unfold qf; rw [hs, ← hy]
      have qI : I (qf t l i) := by unfold I at hT ⊢; omega
      have FL := fun W => Lib.hid (refFloor_any t y S W hT hyI hS)
      rw [show flV (t * y) S = qf t l i by unfold flV; rw [if_neg (by omega), ← hqv, cutV_in qI], show flE (t * y) S = 0 by unfold flE; rw [if_neg (by omega), ← hqv, cutE_in qI]] at FL
      have T1 := fun W => Lib.hid (times_any t y W hT hyI)
      have T2 := fun W => Lib.hid (times_any (qf t l i) S W qI hS)
      have N1 := fun W => Lib.hid (neg_any (qf t l i * S) W (by have := far_abs (far_prod qI hS); omega))
      have fneg : Far (-(qf t l i * S)) := by have := far_prod qI hS; unfold Far at *; omega
      have P1 := fun W => Lib.hid (plus_any2 (t * y) (-(qf t l i * S)) W (far_prod hT hyI) fneg)
      rw [show t * y + -(qf t l i * S) = rf t l i by rw [← hqr, Int.mul_comm S]; omega] at P1
      have HY := Lib.hid hy
      have hd0 : 0 ≤ sumTo (qf t l) i := q3.1
      have hd1 : sumTo (qf t l) i + qf t l i ≤ 9223372036854775807 := by have := HQ.out; have := hT.2; omega
      have q00 := q0.1
      clear hy hqv hqr hrf q0 q1 q2 q3 fneg hyI
      generalize hQ : qf t l i = q at *
      generalize sumTo (qf t l) i = gv at *
      generalize hv1 : V (t * y) = v1 at *
      generalize hv2 : V (q * S) = v2 at *
      generalize hv3 : V (-(q * S)) = v3 at *
      obtain ⟨bb, d0, d1, d2, d3, d4, d5, d6, d7, d8, d9, hv4⟩ : ∃ bb d0 d1 d2 d3 d4 d5 d6 d7 d8 d9, V (rf t l i) = .agg #[.bool bb, .int .u64 d0, .int .u64 d1, .int .u64 d2, .int .u64 d3, .int .u64 d4, .int .u64 d5, .int .u64 d6, .int .u64 d7, .int .u64 d8, .int .u64 d9] := ⟨_, _, _, _, _, _, _, _, _, _, _, rfl⟩
      rw [hv4] at P1
      have HV4 := Lib.hid hv4
      clear hv1 hv2 hv3 hv4
      go_wp2_with fail
      refine (FL _).out.mono ?_
      rintro e w3 ⟨rfl, hb3⟩
      have HB3 := Lib.hid (bl_over2 HB.out hzr hb3)
      have HT3 := Lib.hid (HT.out.below hb3)
      have hz3 : w.heap.size ≤ w3.heap.size := Nat.le_trans hzr hb3.size
      clear hb3 HB HT hzr FL hc1
      obtain ⟨a7, k7, hv7, _⟩ := HT3.out.out.row
      subst hv7
      go_wp2_with (at_builtin; refine wpList_appO rfl _ _ rfl w w.heap.size _ _ (qsL t l i) (rsL t l i) q ⟨w3.heap.size, 0, none⟩ 1 (by rfl) (by rfl) (HT3.out.alloc _) (one_cell2 w3 q _) (by rw [qsL_len]; omega) (HB3.out.alloc hz3 _) (by simp; omega) ?_; intro v5 w5 ho5 hb5 hz5)
      clear HT3 HB3 hz3
      have HO5 := Lib.hid ho5
      have HB5 := Lib.hid hb5
      clear ho5 hb5
      refine (T1 _).out.mono ?_
      rintro e w6 ⟨rfl, hb6⟩
      have HB6 := Lib.hid (bl_over2 HB5.out hz5 hb6)
      have HT6 := Lib.hid (HO5.out.below hb6)
      have hz6 : w.heap.size ≤ w6.heap.size := Nat.le_trans hz5 hb6.size
      clear hb6 HO5 HB5 T1 hz5
      go_wp2_with fail
      refine (T2 _).out.mono ?_
      rintro e w7 ⟨rfl, hb7⟩
      have HB7 := Lib.hid (bl_over2 HB6.out hz6 hb7)
      have HT7 := Lib.hid (HT6.out.below hb7)
      have hz7 : w.heap.size ≤ w7.heap.size := Nat.le_trans hz6 hb7.size
      clear hb7 HT6 HB6 T2 hz6
      go_wp2_with fail
      refine (N1 _).out.mono ?_
      rintro e w8' ⟨rfl, X1, Y1, hw8⟩
      have hb8 : RowKit.Below w7.heap.size w7 w8' := by rw [hw8]; exact ((RowKit.Below.refl _ _).alloc (Nat.le_refl _) _).alloc (by simp) _
      clear hw8
      have HB8 := Lib.hid (bl_over2 HB7.out hz7 hb8)
      have HT8 := Lib.hid (HT7.out.below hb8)
      have hz8 : w.heap.size ≤ w8'.heap.size := Nat.le_trans hz7 hb8.size
      clear hb8 HT7 HB7 N1 hz7
      go_wp2_with fail
      refine (P1 _).out.mono ?_
      rintro e w9 ⟨rfl, hm9⟩
      have hb9 := hm9.below
      have HB9 := Lib.hid (bl_over2 HB8.out hz8 hb9)
      have HT9 := Lib.hid (HT8.out.below hb9)
      have hz9 : w.heap.size ≤ w9.heap.size := Nat.le_trans hz8 hb9.size
      clear hb9 hm9 HT8 HB8 P1 hz8
      obtain ⟨br, cap9, hv9⟩ : ∃ br c, u9 = .slice (some ⟨br, 0, none⟩) (rsL t l i).length c := by
        have h := HT9.out.rest
        rcases h.2 with ⟨h2, _⟩ | ⟨g, c, cur, hv, _⟩
        · obtain ⟨_, br, _, e2, _⟩ := HT9.out.apart
          rw [h2] at e2; cases e2
        · exact ⟨g, c, hv⟩
      subst hv9
      go_wp2_with (at_builtin; refine wpList_appR rfl _ _ rfl w w.heap.size _ _ (qsL t l i ++ [q]) (rsL t l i) (rf t l i) ⟨w9.heap.size, 0, none⟩ 1 (by rfl) (by rfl) (HT9.out.alloc _) (num_cells w9 _ _ _ _ _ _ _ _ _ _ _ _ _ HV4.out) (by rw [rsL_len]; omega) (HB9.out.alloc hz9 _) (by simp; omega) ?_; intro v10 w10 ho10 hb10 hz10)
      go_roundg (gk - 1)
      case measure => omega
      case rel =>
        refine ⟨i + 1, by go_num, by omega, by rw [HQ.out], ?_, hb10, hz10⟩
        rw [qsL_next, rsL_next, hQ]
        exact ho10
    · have hlz : ¬ (i : Int) < (l.length : Int) := by omega
      obtain rfl : i = l.length := by omega
      obtain ⟨bo, br, co, cr, e8, e9, hbo, hbr, hC⟩ := HT.out.cells
      have hC0 := hC l.length (qsL_len _ _ _).symm (rsL_len _ _ _).symm
      rw [qsL_len] at e8
      rw [rsL_len] at e9
      have HC0 := Lib.hid (hC0.congr (O' := OG t l 0) (R' := RG t l 0) (fun j hj => by rw [OG_zero]; simp [qsL, List.getD, hj]) (fun j hj => by rw [RG_zero t l j hj]; simp [rsL, List.getD, hj]))
      have hlo := left_bd HOK.out ht
      have hqn := (qsum_nn HOK.out ht l.length (Nat.le_refl _)).1
      have htS : t = sumTo (qf t l) l.length + ((leftOf t l).toNat : Int) := by have : leftOf t l = t - sumTo (qf t l) l.length := rfl; omega
      have hLn : (leftOf t l).toNat < l.length := by omega
      have HLE := Lib.hid (fun k hk j hj => OG_le HOK.out ht hT k hk j hj)
      have HFIN := Lib.hid (show ∀ j, OG t l (leftOf t l).toNat j = cutF t l j from fun j => rfl)
      subst e8 e9
      clear hC hC0 HT hlo
      generalize (leftOf t l).toNat = L at *
      generalize sumTo (qf t l) l.length = gv at *
      generalize hnl : l.length = n at *
      have hT1 := hT.1
      have hT2 := hT.2
      go_wp2_with fail
      go_loopg [10] L (fun g c10 wq => ∃ k : Nat, c10 = .int .i64 (gv + (k : Int)) ∧ k + g = L ∧ Hid (TwoC wq bo br n (OG t l k) (RG t l k)) ∧ Hid (RowKit.Below w.heap.size w wq) ∧ w.heap.size ≤ wq.heap.size)
      case atStart => exact ⟨0, by simp, by omega, HC0, HB, hzr⟩
      case round =>
        obtain ⟨k, rfl, hk, HC, HBq, hzq⟩ := hrel
        clear HC0 HB hzr
        by_cases hlt2 : k < L
        · have g1 : gv + (k : Int) < t := by omega
          go_wp2_with fail
          go_loopg [15, 68] n (fun g c15 c68 wq2 => ∃ (i b : Nat), c15 = .int .i64 b ∧ c68 = .int .i64 i ∧ i + g = n ∧ i ≤ n ∧ b < n ∧ Hid ((∀ j, j < i → RG t l k j ≤ RG t l k b) ∧ (∀ j, j < b → RG t l k j < RG t l k b)) ∧ Hid (TwoC wq2 bo br n (OG t l k) (RG t l k)) ∧ Hid (RowKit.Below w.heap.size w wq2) ∧ w.heap.size ≤ wq2.heap.size)
          case atStart => exact ⟨0, 0, rfl, rfl, by omega, by omega, by omega, Lib.hid ⟨fun j hj => by omega, fun j hj => by omega⟩, HC, HBq, hzq⟩
          case round =>
            obtain ⟨i, b, rfl, rfl, hi2, hin, hbn, HM, HCi, HBi, hzi⟩ := hrel
            clear HC HBq hzq
            by_cases hil : i < n
            · have hilz : (i : Int) < (n : Int) := by omega
              have i0 : (0 : Int) ≤ (i : Int) := by omega
              have hbz : (b : Int) < (n : Int) := by omega
              have b0 : (0 : Int) ≤ (b : Int) := by omega
              have mixed := srtLay.mixed
              have hRi := RG_bd t l HOK.out k i
              have hRb := RG_bd t l HOK.out k b
              rw [hs] at hRi hRb
              have fi : Far (RG t l k i) := by unfold Far; have := hS.2; omega
              have fb : Far (RG t l k b) := by unfold Far; have := hS.2; omega
              have CG := Lib.hid (fun q os => compare_grow (RG t l k i) (RG t l k b) wr q os fi fb)
              have LI := Lib.hid (rest_load HCi.out i hil)
              have LB := Lib.hid (rest_load HCi.out b hbn)
              clear hRi hRb fi fb
              obtain ⟨cv, hcv⟩ : ∃ cv, cv = cmpI (RG t l k i) (RG t l k b) := ⟨_, rfl⟩
              rw [← hcv] at CG
              have HCV := Lib.hid hcv
              clear hcv
              generalize hvi : V (RG t l k i) = vi at CG LI
              generalize hvb : V (RG t l k b) = vb at CG LB
              clear hvi hvb
              go_wp2_with fail
              refine wp_region_quiet_grown mixed (by kernel_rfl) ?_
              quiet_step (fail)
              quiet_step (fail)
              quiet_step (fail)
              refine wpQuiet_load rfl _ _ rfl (.pointer (some ⟨br, i * 11, none⟩)) rfl vi (by rintro _ ⟨p, rfl⟩; exact LI.out _ _) ?_
              quiet_step (fail)
              quiet_step (fail)
              quiet_step (fail)
              refine wpQuiet_load rfl _ _ rfl (.pointer (some ⟨br, b * 11, none⟩)) rfl vb (by rintro _ ⟨p, rfl⟩; exact LB.out _ _) ?_
              quiet_step (exact CG.out _ _)
              quiet_step (fail)
              refine wpQuiet_nil ?_
              intro _ hw'
              obtain ⟨⟨nq, osq⟩, hw''⟩ := hw'
              subst hw''
              clear CG LI LB
              have hb1 := grow_below wr nq osq
              have HC3 := Lib.hid (HCi.out.below hb1)
              have HB3 := Lib.hid (bl_over2 HBi.out hzi hb1)
              have hz3 : w.heap.size ≤ (grow (wr.drewN nq) osq).heap.size := Nat.le_trans hzi hb1.size
              clear hb1 HCi HBi hzi
              show Exit.then _ _ _ _ (grow (wr.drewN nq) osq)
              generalize grow (wr.drewN nq) osq = w3 at *
              by_cases hgt : 0 < cv
              · have dg : decide (0 < cv) = true := by simpa using hgt
                have hlt3 : RG t l k b < RG t l k i := by
                  have := HCV.out
                  unfold cmpI at this
                  split at this
                  · omega
                  · split at this <;> omega
                have HM' := Lib.hid (show (∀ j, j < i + 1 → RG t l k j ≤ RG t l k i) ∧ (∀ j, j < i → RG t l k j < RG t l k i) from
                  ⟨fun j hj => by
                    by_cases e : j = i
                    · rw [e]; exact Int.le_refl _
                    · have := HM.out.1 j (by omega); omega, fun j hj => by have := HM.out.1 j hj; omega⟩)
                clear hlt3 HM HCV
                go_wp2_with fail
                go_roundg (gk - 1)
                case measure => omega
                case rel => exact ⟨i + 1, i, rfl, by go_num, by omega, by omega, by omega, HM', HC3, HB3, hz3⟩
              · have dg : decide (0 < cv) = false := by simpa using hgt
                have hlt3 : RG t l k i ≤ RG t l k b := by
                  have := HCV.out
                  unfold cmpI at this
                  split at this
                  · omega
                  · split at this <;> omega
                have HM' := Lib.hid (show (∀ j, j < i + 1 → RG t l k j ≤ RG t l k b) ∧ (∀ j, j < b → RG t l k j < RG t l k b) from
                  ⟨fun j hj => by
                    by_cases e : j = i
                    · rw [e]; exact hlt3
                    · exact HM.out.1 j (by omega), HM.out.2⟩)
                clear hlt3 HM HCV
                go_wp2_with fail
                go_roundg (gk - 1)
                case measure => omega
                case rel => exact ⟨i + 1, b, rfl, by go_num, by omega, by omega, by omega, HM', HC3, HB3, hz3⟩
            · have hilz : ¬ (i : Int) < (n : Int) := by omega
              obtain rfl : i = n := by omega
              have hbz : (b : Int) < (i : Int) := by omega
              have b0 : (0 : Int) ≤ (b : Int) := by omega
              have c1 := HCi.out.oc b hbn
              have c2 := HCi.out.ofz b
              obtain ⟨PR, PO⟩ := pick_next t l HOK.out k b (by omega) (by omega) (fun j hj => HM.out.1 j (by omega)) HM.out.2
              have OB := HLE.out (k + 1) (by omega) b (by omega)
              have OB2 := HLE.out k (by omega) b (by omega)
              rw [PO b (by omega), if_pos rfl] at OB
              have HPR := Lib.hid PR
              have HPO := Lib.hid PO
              obtain ⟨ca, hca⟩ : ∃ ca : Array Value, ca = (numC (-1)).toArray := ⟨_, rfl⟩
              have OFM := fun W => Lib.hid (of_any (-1) W (by unfold I; omega))
              rw [show V (-1) = .agg ca by rw [hca]; exact (numC_arr _).symm] at OFM
              have SI := Lib.hid (show (Try.prog.info? 31).map (·.size) = some ca.size by rw [sizeNum, hca, List.size_toArray, numC_len])
              have ON := Lib.hid (show ca.all (·.oneCell') = true by rw [hca]; exact all_oneCell_toArray (numC_one _))
              have HCA := Lib.hid (show ca.toList = numC (-1) by rw [hca])
              have HSZ := Lib.hid (show ca.size = 11 by rw [hca, List.size_toArray, numC_len])
              clear hca
              clear PR PO HM
              obtain ⟨ov, hov⟩ : ∃ ov, ov = OG t l k b := ⟨_, rfl⟩
              rw [← hov] at OB OB2 c1
              have HOV := Lib.hid hov
              clear hov
              have ob1 : ov + 1 ≤ 9223372036854775807 := by omega
              have ob2 : 0 ≤ ov := OB2.1
              clear OB OB2
              go_wp2_with fail
              refine (OFM _).out.mono ?_
              rintro e w4 ⟨rfl, X4, Y4, hw4⟩
              have z4 : (wr.setCell ⟨bo, b, none⟩ (.int .i64 (ov + 1))).heap.size = wr.heap.size := by simp [World.setCell]
              have hb4 : RowKit.Below wr.heap.size (wr.setCell ⟨bo, b, none⟩ (.int .i64 (ov + 1))) w4 := by
                rw [hw4, ← z4]
                exact ((RowKit.Below.refl _ _).alloc (Nat.le_refl _) _).alloc (by simp) _
              have HC4 := Lib.hid ((HCi.out.setO b hbn (ov + 1)).below (by rw [z4]; exact hb4))
              have HB4 := Lib.hid ((HBi.out.setCell (p := ⟨bo, b, none⟩) hbo (.int .i64 (ov + 1))).trans (hb4.mono hzi))
              have hz4 : w.heap.size ≤ w4.heap.size := by have := hb4.size; rw [z4] at this; exact Nat.le_trans hzi this
              clear hw4 hb4 z4 HCi HBi hzi c1 c2 OFM
              have hgk : gv + (k : Int) + 1 ≤ 9223372036854775807 := by omega
              have TH := Lib.hid (show w4.there br (b * 11) ca.size by rw [HSZ.out]; exact HC4.out.there b hbn)
              go_wp2_with (refine wpList_store_mid rfl _ _ _ rfl br (b * 11) ca rfl rfl TH.out SI.out ON.out ?_)
              go_roundg (L - (k + 1))
              case measure => omega
              case rel =>
                rw [HCA.out]
                refine ⟨k + 1, by go_num, by omega, Lib.hid ((HC4.out.setR b hbn (-1)).congr (fun j hj => ?_) (fun j hj => ?_)), Lib.hid (below_setCells br hbr _ _ _ _ HB4.out), by rw [size_setCells]; exact hz4⟩
                · rw [HPO.out j (by omega), HOV.out]
                · rw [HPR.out j (by omega)]
        · have g1 : ¬ gv + (k : Int) < t := by omega
          obtain rfl : k = L := by omega
          have FIN := Lib.hid (show CutRes t l w (.returned (.tuple #[.slice (some ⟨bo, 0, none⟩) n co, .int .i64 0])) wr from
            ⟨some ⟨bo, 0, none⟩, co, partsL t l, 0, Or.inr (Or.inl ⟨ht, HOK.out, by rw [hs]; exact hS, rfl, rfl⟩), by rw [partsL_len, hnl], HBq.out, HC.out.parts t l hnl HFIN.out⟩)
          go_wp2_with fail
          go_ret2
          have fin := FIN.out
          rw [htS] at fin
          exact fin
end Go.Proofs.Ytaebbfaheaghfaa
