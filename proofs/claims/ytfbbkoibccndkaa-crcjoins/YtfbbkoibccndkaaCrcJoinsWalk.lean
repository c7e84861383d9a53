/- The walk of falseworklaw07.CrcJoins. -/
import Derived.Test.YtfbbkoibccndkaaCrQ
import Derived.Test.YtfbbkoibccndkaaCame
namespace Go.Proofs.Ytfbbkoibccndkaa
open Go.RowKit Go.Lib

theorem join_nat (a b n : Nat) (w : World) (ha : a < 4294967296) (hb : b < 4294967296) (hn : n ≤ 1000000) : Calls Try.prog 17 #[.int .u32 (a : Int), .int .u32 (b : Int), .int .i64 (n : Int)] w fun e w' => e = .returned (.int .u32 (jn a b n : Int)) ∧ RowKit.Below w.heap.size w w' := by
  have := join_any a b (n : Int) w ha hb (by omega)
  rw [Int.toNat_natCast] at this
  exact this
theorem join_two (a b m n : Nat) (w : World) (ha : a < 4294967296) (hb : b < 4294967296) (hm : m ≤ 1000000) (hn : n ≤ 1000000) : Calls Try.prog 17 #[.int .u32 (a : Int), .int .u32 (b : Int), .int .i64 ((m : Int) + (n : Int))] w fun e w' => e = .returned (.int .u32 (jn a b (m + n) : Int)) ∧ RowKit.Below w.heap.size w w' := by
  have := join_any a b ((m : Int) + (n : Int)) w ha hb (by omega)
  rw [show ((m : Int) + (n : Int)).toNat = m + n by omega] at this
  exact this
set_option maxRecDepth 100000 in
set_option maxHeartbeats 1600000 in
theorem joins_in (w : World) (a0 : Option Addr) (n0 c0 : Nat) (l0 : List UInt8) (a1 : Option Addr) (n1 c1 : Nat) (l1 : List UInt8) (a2 : Option Addr) (n2 c2 : Nat) (l2 : List UInt8) (b0 : BAt w a0 l0) (b1 : BAt w a1 l1) (b2 : BAt w a2 l2) (e0 : l0.length = n0) (e1 : l1.length = n1) (e2 : l2.length = n2) (h0 : n0 ≤ 300) (h1 : n1 ≤ 300) (h2 : n2 ≤ 300) :
    Calls Try.prog 6 #[.slice a0 n0 c0, .slice a1 n1 c1, .slice a2 n2 c2] w fun e w' => e = .returned (.bool true) ∧ RowKit.Below w.heap.size w w' := by
  obtain ⟨p, hp⟩ : ∃ p, p = ad 4294967295 l0 := ⟨_, rfl⟩
  obtain ⟨q, hq⟩ : ∃ q, q = ad 4294967295 l1 := ⟨_, rfl⟩
  obtain ⟨r, hr⟩ : ∃ r, r = ad 4294967295 l2 := ⟨_, rfl⟩
  obtain ⟨s, hs⟩ : ∃ s, s = ad p l1 := ⟨_, rfl⟩
  obtain ⟨t, ht⟩ : ∃ t, t = ad s l2 := ⟨_, rfl⟩
  have p1 : p < 4294967296 := by rw [hp]; exact ad_lt (by omega) _
  have q1 : q < 4294967296 := by rw [hq]; exact ad_lt (by omega) _
  have r1 : r < 4294967296 := by rw [hr]; exact ad_lt (by omega) _
  have s1 : s < 4294967296 := by rw [hs]; exact ad_lt p1 _
  have t1 : t < 4294967296 := by rw [ht]; exact ad_lt s1 _
  have A0 := fun (W : World) (h : BAt W a0 l0) => Lib.hid (add_any 4294967295 a0 l0 n0 c0 W (by omega) h e0 (by omega))
  have A1 := fun (W : World) (h : BAt W a1 l1) => Lib.hid (add_any 4294967295 a1 l1 n1 c1 W (by omega) h e1 (by omega))
  have A2 := fun (W : World) (h : BAt W a2 l2) => Lib.hid (add_any 4294967295 a2 l2 n2 c2 W (by omega) h e2 (by omega))
  have A3 := fun (W : World) (h : BAt W a1 l1) => Lib.hid (add_any p a1 l1 n1 c1 W p1 h e1 (by omega))
  have A4 := fun (W : World) (h : BAt W a2 l2) => Lib.hid (add_any s a2 l2 n2 c2 W s1 h e2 (by omega))
  rw [← hp] at A0
  rw [← hq] at A1
  rw [← hr] at A2
  rw [← hs] at A3
  rw [← ht] at A4
  have S0 := fun (W : World) => Lib.hid (sum_any p W p1)
  have S1 := fun (W : World) => Lib.hid (sum_any q W q1)
  have S2 := fun (W : World) => Lib.hid (sum_any r W r1)
  have S3 := fun (W : World) => Lib.hid (sum_any t W t1)
  have k1 : jn (sm p) (sm q) n1 = sm s := by rw [hq, ← e1, jn_sum, ← hs]
  have k2 : jn (sm s) (sm r) n2 = sm t := by rw [hr, ← e2, jn_sum, ← ht]
  have k3 : jn (sm p) (jn (sm q) (sm r) n2) (n1 + n2) = sm t := by rw [jn_three, k1, k2]
  have k4 : jn (sm p) 0 0 = sm p := jn_none _
  have J0 := fun (W : World) => Lib.hid (join_nat (sm p) (sm q) n1 W (sm_lt p1) (sm_lt q1) (by omega))
  have J1 := fun (W : World) => Lib.hid (join_nat (sm s) (sm r) n2 W (sm_lt s1) (sm_lt r1) (by omega))
  have J2 := fun (W : World) => Lib.hid (join_nat (sm q) (sm r) n2 W (sm_lt q1) (sm_lt r1) (by omega))
  have J3 := fun (W : World) => Lib.hid (join_two (sm p) (jn (sm q) (sm r) n2) n1 n2 W (sm_lt p1) (jn_lt (sm_lt q1) (sm_lt r1) _) (by omega) (by omega))
  have J4 := fun (W : World) => Lib.hid (join_any (sm p) 0 0 W (sm_lt p1) (by omega) (by omega))
  have J5 := fun (W : World) => Lib.hid (join_any (sm p) 0 (-5) W (sm_lt p1) (by omega) (by omega))
  rw [k1] at J0
  rw [k2] at J1
  rw [k3] at J3
  rw [show (0 : Int).toNat = 0 from rfl, k4] at J4
  rw [show (-5 : Int).toNat = 0 from rfl, k4] at J5
  generalize jn (sm q) (sm r) n2 = y at *
  generalize sm p = X at *
  generalize sm q = Y at *
  generalize sm r = Z at *
  generalize sm s = U at *
  generalize sm t = V at *
  have HB0 := Lib.hid b0
  have HB1 := Lib.hid b1
  have HB2 := Lib.hid b2
  have d0 : decide ((300 : Int) < (n0 : Int)) = false := by simp; omega
  have d1 : decide ((300 : Int) < (n1 : Int)) = false := by simp; omega
  have d2 : decide ((300 : Int) < (n2 : Int)) = false := by simp; omega
  clear hp hq hr hs ht p1 q1 r1 s1 t1 k1 k2 k3 k4 b0 b1 b2 e0 e1 e2
  go_enter Try.func6, Try.ntmps6
  go_wp2_with fail
  refine (alive_any _).mono ?_
  rintro _ w1 ⟨rfl, hb1⟩
  have HW := Lib.hid hb1
  have HD0 := Lib.hid (HB0.out.below hb1)
  have HD1 := Lib.hid (HB1.out.below hb1)
  have HD2 := Lib.hid (HB2.out.below hb1)
  clear hb1 HB0 HB1 HB2
  go_wp2_with fail
  refine (start_any _).mono ?_
  rintro _ _ ⟨rfl, rfl⟩
  go_wp2_with fail
  refine (A0 _ HD0.out).out.mono ?_
  rintro _ _ ⟨rfl, rfl⟩
  go_wp2_with fail
  refine (S0 _).out.mono ?_
  rintro _ _ ⟨rfl, rfl⟩
  go_wp2_with fail
  refine (start_any _).mono ?_
  rintro _ _ ⟨rfl, rfl⟩
  go_wp2_with fail
  refine (A1 _ HD1.out).out.mono ?_
  rintro _ _ ⟨rfl, rfl⟩
  go_wp2_with fail
  refine (S1 _).out.mono ?_
  rintro _ _ ⟨rfl, rfl⟩
  go_wp2_with fail
  refine (start_any _).mono ?_
  rintro _ _ ⟨rfl, rfl⟩
  go_wp2_with fail
  refine (A2 _ HD2.out).out.mono ?_
  rintro _ _ ⟨rfl, rfl⟩
  go_wp2_with fail
  refine (S2 _).out.mono ?_
  rintro _ _ ⟨rfl, rfl⟩
  go_wp2_with fail
  refine (start_any _).mono ?_
  rintro _ _ ⟨rfl, rfl⟩
  go_wp2_with fail
  refine (A0 _ HD0.out).out.mono ?_
  rintro _ _ ⟨rfl, rfl⟩
  go_wp2_with fail
  refine (A3 _ HD1.out).out.mono ?_
  rintro _ _ ⟨rfl, rfl⟩
  go_wp2_with fail
  refine (A4 _ HD2.out).out.mono ?_
  rintro _ _ ⟨rfl, rfl⟩
  go_wp2_with fail
  refine (S3 _).out.mono ?_
  rintro _ _ ⟨rfl, rfl⟩
  go_wp2_with fail
  refine (J0 _).out.mono ?_
  rintro _ v1 ⟨rfl, hb1⟩
  have HV1 := Lib.hid (HW.out.trans (hb1.mono HW.out.size))
  clear hb1
  go_wp2_with fail
  refine (J1 _).out.mono ?_
  rintro _ v2 ⟨rfl, hb2⟩
  have HV2 := Lib.hid (HV1.out.trans (hb2.mono HV1.out.size))
  clear hb2
  go_wp2_with fail
  refine (J2 _).out.mono ?_
  rintro _ v3 ⟨rfl, hb3⟩
  have HV3 := Lib.hid (HV2.out.trans (hb3.mono HV2.out.size))
  clear hb3
  go_wp2_with fail
  refine (J3 _).out.mono ?_
  rintro _ v4 ⟨rfl, hb4⟩
  have HV4 := Lib.hid (HV3.out.trans (hb4.mono HV3.out.size))
  clear hb4
  go_wp2_with fail
  refine (J4 _).out.mono ?_
  rintro _ v5 ⟨rfl, hb5⟩
  have HV5 := Lib.hid (HV4.out.trans (hb5.mono HV4.out.size))
  clear hb5
  go_wp2_with fail
  refine (J5 _).out.mono ?_
  rintro _ v6 ⟨rfl, hb6⟩
  have HV6 := Lib.hid (HV5.out.trans (hb6.mono HV5.out.size))
  clear hb6
  go_wp2_with fail
  go_ret
  exact ⟨rfl, HV6.out⟩
set_option maxRecDepth 100000 in
theorem joins_out (w : World) (a0 : Option Addr) (n0 c0 : Nat) (a1 : Option Addr) (n1 c1 : Nat) (a2 : Option Addr) (n2 c2 : Nat) (h : 300 < n0 ∨ 300 < n1 ∨ 300 < n2) :
    Calls Try.prog 6 #[.slice a0 n0 c0, .slice a1 n1 c1, .slice a2 n2 c2] w fun e w' => e = .returned (.bool true) ∧ RowKit.Below w.heap.size w w' := by
  by_cases h0 : 300 < n0
  all_goals by_cases h1 : 300 < n1
  all_goals by_cases h2 : 300 < n2
  all_goals first
    | omega
    | (have d0 : decide ((300 : Int) < (n0 : Int)) = decide (300 < n0) := decide_eq_decide.2 (by omega)
       have d1 : decide ((300 : Int) < (n1 : Int)) = decide (300 < n1) := decide_eq_decide.2 (by omega)
       have d2 : decide ((300 : Int) < (n2 : Int)) = decide (300 < n2) := decide_eq_decide.2 (by omega)
       simp only [h0, h1, h2, decide_true, decide_false] at d0 d1 d2
       clear h
       go_enter Try.func6, Try.ntmps6
       go_wp2_with fail
       refine (alive_any _).mono ?_
       rintro _ w1 ⟨rfl, hb1⟩
       have HW := Lib.hid hb1
       clear hb1
       go_wp2_with fail
       go_ret
       exact ⟨rfl, HW.out⟩)
theorem crcJoins_walk (w : World) (a0 : Option Addr) (len0 cap0 : Nat) (l0 : List UInt8) (w0 : CameB w a0 len0 cap0 l0) (a1 : Option Addr) (len1 cap1 : Nat) (l1 : List UInt8) (w1 : CameB w a1 len1 cap1 l1) (a2 : Option Addr) (len2 cap2 : Nat) (l2 : List UInt8) (w2 : CameB w a2 len2 cap2 l2) :
    Calls Try.prog 6 #[.slice a0 len0 cap0, .slice a1 len1 cap1, .slice a2 len2 cap2] w fun e w' => e = .returned (.bool true) ∧ RowKit.Below w.heap.size w w' := by
  by_cases h : 300 < len0 ∨ 300 < len1 ∨ 300 < len2
  · exact joins_out w a0 len0 cap0 a1 len1 cap1 a2 len2 cap2 h
  · exact joins_in w a0 len0 cap0 l0 a1 len1 cap1 l1 a2 len2 cap2 l2 w0.row w1.row w2.row w0.ln w1.ln w2.ln (by omega) (by omega) (by omega)
end Go.Proofs.Ytfbbkoibccndkaa
