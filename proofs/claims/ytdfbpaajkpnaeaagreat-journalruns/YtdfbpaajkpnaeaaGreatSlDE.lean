
/- falseworkref11: Right, stands, Read, Next. falseworkref11: Put. -/
import Derived.Test.YtdfbpaajkpnaeaaGreatSlAC
import Derived.Test.YtdfbpaajkpnaeaaGreatSnA
import Derived.Test.YtdfbpaajkpnaeaaGreatCrSU

namespace Go.Proofs.YtdfbpaajkpnaeaaGreat
set_option maxRecDepth 100000
open Go.RowKit Go.Lib

set_option maxRecDepth 100000 in
set_option maxHeartbeats 1600000 in
theorem rcan_any (r : Dk) (a0 : Option Addr) (c0 : Nat) (a1 : Option Addr) (c1 : Nat) (F : Nat → Prop) (x s : Int) (w : World) (h : RM w F r a0 a1) (hx : I x) (hs : I s) :
    Calls Tryz.prog 62 #[.agg (rcs r a0 c0 a1 c1).toArray, .int .i64 x, .int .i64 s] w fun e w' => e = .returned (.bool (canB r x s)) ∧ RowKit.Below w.heap.size w w' := by
  obtain ⟨R, hR⟩ : ∃ R, R = rcs r a0 c0 a1 c1 := ⟨_, rfl⟩
  have HRE := Lib.hid hR
  obtain ⟨w0, hw0⟩ : ∃ w0, w0 = w.alloc (.cells R.toArray 36) := ⟨_, rfl⟩
  have HW0 := Lib.hid hw0.symm
  have HB0 := Lib.hid (show RowKit.Below w.heap.size w w0 by rw [hw0]; exact (RowKit.Below.refl _ _).alloc (Nat.le_refl _) _)
  have HP3 := Lib.hid (show w0.heap[w.heap.size]? = some (.cells R.toArray 36) by rw [hw0]; exact blkn rfl)
  obtain ⟨N, hN⟩ : ∃ N, N = r.base.length := ⟨_, rfl⟩
  have q30 : w0.cell? ⟨w.heap.size, 0, none⟩ = some (.slice a0 N c0) := by rw [cell_of_row _ _ _ _ _ _ HP3.out, HRE.out, hN]; rfl
  have hsz : N ≤ 2048 := by rw [hN]; exact h.ok.sz
  obtain ⟨hx1, hx2⟩ := hx
  obtain ⟨hs1, hs2⟩ := hs
  have HCA : ∀ q : Bool, (q = true ↔ 0 ≤ x ∧ 1 ≤ s ∧ s ≤ 255 ∧ x + 2 * s ≤ (N : Int)) → canB r x s = q := fun q hq => by
    apply Bool.eq_iff_iff.2
    rw [hq, canB_iff, hN]
  rw [← hR]
  clear hR hw0 hN h
  by_cases k1 : 0 ≤ x
  · have d1 : decide (0 ≤ x) = true := by simpa using k1
    by_cases k2 : 1 ≤ s
    · have d2 : decide (1 ≤ s) = true := by simpa using k2
      by_cases k3 : s ≤ 255
      · have d3 : decide (s ≤ 255) = true := by simpa using k3
        by_cases k4 : x ≤ (N : Int)
        · have d4 : decide (x ≤ (N : Int)) = true := by simpa using k4
          have HE := Lib.hid (HCA (decide (x + 2 * s ≤ (N : Int))) (by rw [decide_eq_true_iff]; omega))
          clear HCA
          go_enter Tryz.func62, Tryz.ntmps62
          go_wp2_with ((with_reducible refine wpList_boxA rfl _ _ rfl _ rfl ?_); rw [HW0.out])
          go_ret
          exact ⟨by rw [HE.out]; rfl, HB0.out⟩
        · have d4 : decide (x ≤ (N : Int)) = false := by simpa using k4
          have HE := Lib.hid (HCA false (by simp; omega))
          clear HCA
          go_enter Tryz.func62, Tryz.ntmps62
          go_wp2_with ((with_reducible refine wpList_boxA rfl _ _ rfl _ rfl ?_); rw [HW0.out])
          go_ret
          exact ⟨by rw [HE.out]; rfl, HB0.out⟩
      · have d3 : decide (s ≤ 255) = false := by simpa using k3
        have HE := Lib.hid (HCA false (by simp; omega))
        clear HCA
        go_enter Tryz.func62, Tryz.ntmps62
        go_wp2_with ((with_reducible refine wpList_boxA rfl _ _ rfl _ rfl ?_); rw [HW0.out])
        go_ret
        exact ⟨by rw [HE.out]; rfl, HB0.out⟩
    · have d2 : decide (1 ≤ s) = false := by simpa using k2
      have HE := Lib.hid (HCA false (by simp; omega))
      clear HCA
      go_enter Tryz.func62, Tryz.ntmps62
      go_wp2_with ((with_reducible refine wpList_boxA rfl _ _ rfl _ rfl ?_); rw [HW0.out])
      go_ret
      exact ⟨by rw [HE.out]; rfl, HB0.out⟩
  · have d1 : decide (0 ≤ x) = false := by simpa using k1
    have HE := Lib.hid (HCA false (by simp; omega))
    clear HCA
    go_enter Tryz.func62, Tryz.ntmps62
    go_wp2_with ((with_reducible refine wpList_boxA rfl _ _ rfl _ rfl ?_); rw [HW0.out])
    go_ret
    exact ⟨by rw [HE.out]; rfl, HB0.out⟩
theorem okay_iff (l : List UInt8) : Okay l ↔ okB l = true := by
  unfold Okay okB cutB
  rw [decide_eq_true_iff]
set_option maxRecDepth 100000 in
set_option maxHeartbeats 1600000 in
theorem rstands_any (r : Dk) (a0 : Option Addr) (c0 : Nat) (a1 : Option Addr) (c1 : Nat) (F : Nat → Prop) (p s : Int) (k : Nat) (w : World) (h : RM w F r a0 a1) (hp : 0 ≤ p ∧ 1 ≤ s ∧ p + s ≤ 2048) (hk : k < 2) :
    Calls Tryz.prog 70 #[.agg (rcs r a0 c0 a1 c1).toArray, .int .i64 p, .int .i64 s, .int .i64 (k : Int)] w (GenRes (r.stand p s k) w) := by
  obtain ⟨R, hR⟩ : ∃ R, R = rcs r a0 c0 a1 c1 := ⟨_, rfl⟩
  have HRC := Lib.hid (show Cs 4 R by rw [hR]; exact rcs_cs _ _ _ _ _)
  obtain ⟨w0, hw0⟩ : ∃ w0, w0 = w.alloc (.cells R.toArray 36) := ⟨_, rfl⟩
  have HW0 := Lib.hid hw0.symm
  have HB0 := Lib.hid (show RowKit.Below w.heap.size w w0 by rw [hw0]; exact (RowKit.Below.refl _ _).alloc (Nat.le_refl _) _)
  have HP4 := Lib.hid (show w0.heap[w.heap.size]? = some (.cells R.toArray 36) by rw [hw0]; exact blkn rfl)
  obtain ⟨p0, s0, p1⟩ := hp
  have HRD := Lib.hid (rread_any r a0 c0 a1 c1 F p (p + s) w0 (h.below HB0.out) (by unfold I; omega))
  have HL := Lib.hid (read_n_lt h.ok p (p + s))
  have HIN := Lib.hid (fun e => read_in (d := r) (x := p) (z := p + s) e)
  have HST := Lib.hid (show r.stand p s k = if (r.read p (p + s)).e = 0 ∧ (r.read p (p + s)).n % 2 = k ∧ okB (r.read p (p + s)).b = true then ⟨cutB (r.read p (p + s)).b, (r.read p (p + s)).n⟩ else Gen.none from rfl)
  have HRL := Lib.hid (show (r.read p (p + s)).b.length ≤ 13515 by
    by_cases e : (r.read p (p + s)).e = 0
    · exact (read_in e).2.2.2.2.2.2.2.1
    · unfold Dk.read readL at *
      split
      · exact Nat.zero_le _
      · next q =>
        rw [if_neg q] at e
        split
        · next q2 => rw [if_pos q2] at e; exact absurd rfl e
        · exact Nat.zero_le _)
  obtain ⟨q, hq⟩ : ∃ q, q = r.read p (p + s) := ⟨_, rfl⟩
  rw [← hq] at HRD HL HIN HST HRL
  rw [← hR] at HRD ⊢
  obtain ⟨rb, rn, rm, re⟩ := q
  have HKK := Lib.hid hk
  clear h hq hR hw0 hk
  go_enter Tryz.func70, Tryz.ntmps70
  go_wp2_with (first | ((with_reducible refine wpList_boxA rfl _ _ rfl _ rfl ?_); rw [HW0.out]) | (with_reducible refine wpList_loadW rfl isD _ rfl w.heap.size R _ rfl HP4.out HRC.out ?_))
  refine HRD.out.mono ?_
  rintro _ w1 ⟨a1', c1', rfl, hba, hlc, hnn, hb1⟩
  simp only at hba hlc hnn
  have HB1 := Lib.hid (HB0.out.trans (hb1.mono HB0.out.size))
  have HBA := Lib.hid hba
  have HLC := Lib.hid hlc
  have HNN := Lib.hid hnn
  have HRO := Lib.hid (ropen_any a1' rb c1' w1 hba hnn hlc (by have := HRL.out; omega))
  clear hb1 hba hlc hnn HRD HRL
  go_wp2_with fail
  refine HRO.out.mono ?_
  rintro _ w2 (⟨ho, rfl, hb2⟩ | ⟨ho, rfl, hb2⟩)
  · have HO := Lib.hid ((okay_iff rb).1 ho)
    have HB2 := Lib.hid (HB1.out.trans (hb2.mono HB1.out.size))
    have HBC := Lib.hid (BAt.take (HBA.out.below hb2) (rb.length - 4))
    have HYES := Lib.hid (fun (e0 : re = 0) (e1 : rn % 2 = k) => show GenRes (r.stand p s k) w (.returned (.tuple #[.slice a1' (rb.length - 4) c1', .int .u64 (rn : Int)])) w2 by
      rw [HST.out, if_pos ⟨e0, e1, HO.out⟩]
      have hcl : (cutB rb).length = rb.length - 4 := by unfold cutB; rw [List.length_take]; omega
      refine ⟨a1', c1', by show _ = Ending.returned (.tuple #[.slice a1' (cutB rb).length c1', .int .u64 (rn : Int)]); rw [hcl], HBC.out, by show (cutB rb).length ≤ c1'; have := HLC.out; omega, fun e => ?_, HB2.out⟩
      show cutB rb = []
      unfold cutB
      rw [HNN.out e]
      rfl)
    have HNO := Lib.hid (fun (e : ¬ (re = 0 ∧ rn % 2 = k)) => show GenRes (r.stand p s k) w (.returned (.tuple #[.slice none 0 0, .int .u64 0])) w2 by
      rw [HST.out, if_neg (fun q => e ⟨q.1, q.2.1⟩)]
      exact GenRes.no HB2.out)
    clear ho hb2 HRO
    by_cases he : re = 0
    · by_cases hpr : rn % 2 = k
      · have HR := Lib.hid (HYES.out he hpr)
        have hpi : (((rn : Int) % 2) == (k : Int)) = true := by rw [beq_iff_eq]; omega
        clear hpr
        subst he
        go_wp2
        go_ret2
        exact HR.out
      · have HR := Lib.hid (HNO.out (fun q => hpr q.2))
        have hpi : (((rn : Int) % 2) == (k : Int)) = false := by rw [beq_eq_false_iff_ne]; omega
        clear hpr
        subst he
        go_wp2
        go_ret2
        exact HR.out
    · have HR := Lib.hid (HNO.out (fun q => he q.1))
      have d0 : (re == 0) = false := by simpa using he
      clear he
      go_wp2
      go_ret2
      exact HR.out
  · have HR := Lib.hid (show GenRes (r.stand p s k) w (.returned (.tuple #[.slice none 0 0, .int .u64 0])) w2 by
      rw [HST.out, if_neg (fun q => ho ((okay_iff rb).2 q.2.2))]
      exact GenRes.no (HB1.out.trans (hb2.mono HB1.out.size)))
    clear ho hb2 HRO
    by_cases he : re = 0
    · subst he
      go_wp2
      go_ret2
      exact HR.out
    · have d0 : (re == 0) = false := by simpa using he
      have d1 : (re != 0) = true := by simpa using he
      clear he
      go_wp2
      all_goals go_ret2
      all_goals exact HR.out
set_option maxRecDepth 100000 in
set_option maxHeartbeats 1600000 in
theorem rsread_any (r : Dk) (a0 : Option Addr) (c0 : Nat) (a1 : Option Addr) (c1 : Nat) (F : Nat → Prop) (x s : Int) (w : World) (h : RM w F r a0 a1) (hx : I x) (hs : I s) :
    Calls Tryz.prog 41 #[.agg (rcs r a0 c0 a1 c1).toArray, .int .i64 x, .int .i64 s] w (SlRes (r.slot x s) w) := by
  obtain ⟨R, hR⟩ : ∃ R, R = rcs r a0 c0 a1 c1 := ⟨_, rfl⟩
  have HRC := Lib.hid (show Cs 4 R by rw [hR]; exact rcs_cs _ _ _ _ _)
  obtain ⟨w0, hw0⟩ : ∃ w0, w0 = w.alloc (.cells R.toArray 36) := ⟨_, rfl⟩
  have HW0 := Lib.hid hw0.symm
  have HS0 := Lib.hid (show w0.heap.size = w.heap.size + 1 by rw [hw0]; simp)
  have HB0 := Lib.hid (show RowKit.Below w.heap.size w w0 by rw [hw0]; exact (RowKit.Below.refl _ _).alloc (Nat.le_refl _) _)
  have HP3 := Lib.hid (fun (W : World) (hb : RowKit.Below w0.heap.size w0 W) => show W.heap[w.heap.size]? = some (.cells R.toArray 36) from (hb.block _ (by rw [HS0.out]; omega)).trans (by rw [hw0]; exact blkn rfl))
  have HCB := Lib.hid (rcan_any r a0 c0 a1 c1 F x s w0 (h.below HB0.out) hx hs)
  have p30 := HP3.out w0 (RowKit.Below.refl _ _)
  rw [← hR] at HCB
  cases hc : canB r x s with
  | false =>
    have HR := Lib.hid (fun (W : World) (hb : RowKit.Below w0.heap.size w0 W) => show SlRes (r.slot x s) w (.returned (.tuple #[.slice none 0 0, .int .u64 0, .int .i64 111])) W by
      unfold Dk.slot
      rw [if_neg (fun e => by rw [hc] at e; cases e.1)]
      exact SlRes.no (HB0.out.trans (hb.mono HB0.out.size)))
    rw [hc] at HCB
    rw [← hR]
    have P30 := Lib.hid p30
    clear h hx hs hc hR hw0 p30
    go_enter Tryz.func41, Tryz.ntmps41
    go_wp2_with (first | ((with_reducible refine wpList_boxA rfl _ _ rfl _ rfl ?_); rw [HW0.out]) | (with_reducible refine wpList_loadW rfl isD _ rfl w.heap.size R _ rfl P30.out HRC.out ?_))
    refine HCB.out.mono ?_
    rintro _ w1 ⟨rfl, hb1⟩
    have HB1 := Lib.hid hb1
    clear hb1
    go_wp2
    go_ret3
    exact HR.out _ HB1.out
  | true =>
    have hr := canB_iff.1 hc
    have hsz := h.ok.sz
    rw [hc] at HCB
    have HSA := Lib.hid (fun (W : World) (hb : RowKit.Below w0.heap.size w0 W) => show Calls Tryz.prog 70 #[.agg (rcs r a0 c0 a1 c1).toArray, .int .i64 x, .int .i64 s, .int .i64 0] W (GenRes (r.stand x s 0) W) from rstands_any r a0 c0 a1 c1 F x s 0 W ((h.below HB0.out).below hb) (by omega) (by omega))
    have HSB := Lib.hid (fun (W : World) (hb : RowKit.Below w0.heap.size w0 W) => show Calls Tryz.prog 70 #[.agg (rcs r a0 c0 a1 c1).toArray, .int .i64 (x + s), .int .i64 s, .int .i64 1] W (GenRes (r.stand (x + s) s 1) W) from rstands_any r a0 c0 a1 c1 F (x + s) s 1 W ((h.below HB0.out).below hb) (by omega) (by omega))
    rw [← hR] at HSA HSB ⊢
    have hpA := stand_par r x s 0
    have hpB := stand_par r (x + s) s 1
    obtain ⟨A, hA⟩ : ∃ A, A = r.stand x s 0 := ⟨_, rfl⟩
    obtain ⟨B, hB⟩ : ∃ B, B = r.stand (x + s) s 1 := ⟨_, rfl⟩
    have HBO := Lib.hid (show r.both x s = if A.n < B.n then B else A by rw [hA, hB]; rfl)
    have HSL := Lib.hid (show r.slot x s = if (r.both x s).n ≠ 0 then (r.both x s, 0) else (Gen.none, 111) by
      unfold Dk.slot
      rw [hc]
      by_cases e : (r.both x s).n ≠ 0
      · rw [if_pos ⟨rfl, e⟩, if_pos e]
      · rw [if_neg (fun q => e q.2), if_neg e])
    rw [← hA] at HSA hpA
    rw [← hB] at HSB hpB
    obtain ⟨Ab, An⟩ := A
    obtain ⟨Bb, Bn⟩ := B
    obtain ⟨h0, h1, h2, h3⟩ := hr
    have HPP := Lib.hid (show (An = 0 ∧ Bn = 0) ∨ An < Bn ∨ Bn < An by
      have e1 : An = 0 ∨ An % 2 = 0 := hpA
      have e2 : Bn = 0 ∨ Bn % 2 = 1 := hpB
      omega)
    have hxs : x + s ≤ 2048 := by omega
    have P30 := Lib.hid p30
    clear h hx hs hc hA hB hR hw0 hpA hpB hsz h3 p30
    go_enter Tryz.func41, Tryz.ntmps41
    go_wp2_with (first | ((with_reducible refine wpList_boxA rfl _ _ rfl _ rfl ?_); rw [HW0.out]) | (with_reducible refine wpList_loadW rfl isD _ rfl w.heap.size R _ rfl P30.out HRC.out ?_))
    refine HCB.out.mono ?_
    rintro _ w1 ⟨rfl, hb1⟩
    have HB1 := Lib.hid hb1
    have P31 := Lib.hid (HP3.out w1 hb1)
    clear hb1 HCB
    go_wp2_with (with_reducible refine wpList_loadW rfl isD _ rfl w.heap.size R _ rfl P31.out HRC.out ?_)
    refine (HSA.out _ HB1.out).mono ?_
    rintro _ w2 ⟨a2, c2, rfl, hba2, hlc2, hn2, hb2⟩
    have HB2 := Lib.hid (HB1.out.trans (hb2.mono HB1.out.size))
    have P32 := Lib.hid (HP3.out w2 HB2.out)
    have HA2 := Lib.hid (And.intro hba2 (And.intro hlc2 hn2))
    clear hba2 hlc2 hn2 hb2 HSA
    go_wp2_with (with_reducible refine wpList_loadW rfl isD _ rfl w.heap.size R _ rfl P32.out HRC.out ?_)
    refine (HSB.out _ HB2.out).mono ?_
    rintro _ w3 ⟨a3, c3, rfl, hba3, hlc3, hn3, hb3⟩
    have HB3 := Lib.hid (HB0.out.trans ((HB2.out.trans (hb3.mono HB2.out.size)).mono HB0.out.size))
    have HA3 := Lib.hid (And.intro hba3 (And.intro hlc3 hn3))
    have HA2 := Lib.hid (And.intro (HA2.out.1.below hb3) HA2.out.2)
    clear hba3 hlc3 hn3 hb3 HSB
    rcases HPP.out with ⟨e1, e2⟩ | hlt | hlt
    · subst e1 e2
      have HR := Lib.hid (show SlRes (r.slot x s) w (.returned (.tuple #[.slice none 0 0, .int .u64 0, .int .i64 111])) w3 by
        rw [HSL.out, HBO.out, if_neg (show ¬ (Gen.mk Ab 0).n < (Gen.mk Bb 0).n by show ¬ 0 < 0; omega), if_neg (by show ¬ (0 ≠ 0); omega)]
        exact SlRes.no HB3.out)
      go_wp2
      go_ret3
      exact HR.out
    · have d0 : ((Bn : Int) == 0) = false := by simp; omega
      have d1 : decide ((Bn : Int) < (An : Int)) = false := by simp; omega
      have d2 : decide (Bn < An) = false := by simp; omega
      have HR := Lib.hid (show SlRes (r.slot x s) w (.returned (.tuple #[.slice a3 Bb.length c3, .int .u64 (Bn : Int), .int .i64 0])) w3 by
        rw [HSL.out, HBO.out, if_pos (show (Gen.mk Ab An).n < (Gen.mk Bb Bn).n from hlt), if_pos (by show Bn ≠ 0; omega)]
        exact ⟨a3, c3, rfl, HA3.out.1, HA3.out.2.1, HA3.out.2.2, HB3.out⟩)
      by_cases e0 : An = 0
      · subst e0
        clear hlt
        go_wp2
        go_ret3
        exact HR.out
      · have d3 : ((An : Int) == 0) = false := by simp; omega
        clear hlt e0
        go_wp2
        go_ret3
        exact HR.out
    · have d0 : ((An : Int) == 0) = false := by simp; omega
      have d1 : decide ((Bn : Int) < (An : Int)) = true := by simp; omega
      have d2 : decide (Bn < An) = true := by simp; omega
      have HR := Lib.hid (show SlRes (r.slot x s) w (.returned (.tuple #[.slice a2 Ab.length c2, .int .u64 (An : Int), .int .i64 0])) w3 by
        rw [HSL.out, HBO.out, if_neg (show ¬ (Gen.mk Ab An).n < (Gen.mk Bb Bn).n by show ¬ An < Bn; omega), if_pos (by show An ≠ 0; omega)]
        exact ⟨a2, c2, rfl, HA2.out.1, HA2.out.2.1, HA2.out.2.2, HB3.out⟩)
      clear hlt
      go_wp2
      go_ret3
      exact HR.out
set_option maxRecDepth 100000 in
set_option maxHeartbeats 1600000 in
theorem rsnext_any (r : Dk) (a0 : Option Addr) (c0 : Nat) (a1 : Option Addr) (c1 : Nat) (F : Nat → Prop) (x s : Int) (w : World) (h : RM w F r a0 a1) (hx : I x) (hs : I s) :
    Calls Tryz.prog 63 #[.agg (rcs r a0 c0 a1 c1).toArray, .int .i64 x, .int .i64 s] w (NxRes (r.next x s) w) := by
  obtain ⟨R, hR⟩ : ∃ R, R = rcs r a0 c0 a1 c1 := ⟨_, rfl⟩
  have HRC := Lib.hid (show Cs 4 R by rw [hR]; exact rcs_cs _ _ _ _ _)
  obtain ⟨w0, hw0⟩ : ∃ w0, w0 = w.alloc (.cells R.toArray 36) := ⟨_, rfl⟩
  have HW0 := Lib.hid hw0.symm
  have HS0 := Lib.hid (show w0.heap.size = w.heap.size + 1 by rw [hw0]; simp)
  have HB0 := Lib.hid (show RowKit.Below w.heap.size w w0 by rw [hw0]; exact (RowKit.Below.refl _ _).alloc (Nat.le_refl _) _)
  have HP3 := Lib.hid (fun (W : World) (hb : RowKit.Below w0.heap.size w0 W) => show W.heap[w.heap.size]? = some (.cells R.toArray 36) from (hb.block _ (by rw [HS0.out]; omega)).trans (by rw [hw0]; exact blkn rfl))
  have HCB := Lib.hid (rcan_any r a0 c0 a1 c1 F x s w0 (h.below HB0.out) hx hs)
  have P30 := Lib.hid (HP3.out w0 (RowKit.Below.refl _ _))
  rw [← hR] at HCB
  cases hc : canB r x s with
  | false =>
    have HR := Lib.hid (fun (W : World) (hb : RowKit.Below w0.heap.size w0 W) => show NxRes (r.next x s) w (.returned (.tuple #[.int .u64 0, .int .i64 111])) W by
      unfold Dk.next
      rw [hc]
      exact ⟨rfl, HB0.out.trans (hb.mono HB0.out.size)⟩)
    rw [hc] at HCB
    rw [← hR]
    clear h hx hs hc hR hw0
    go_enter Tryz.func63, Tryz.ntmps63
    go_wp2_with (first | ((with_reducible refine wpList_boxA rfl _ _ rfl _ rfl ?_); rw [HW0.out]) | (with_reducible refine wpList_loadW rfl isD _ rfl w.heap.size R _ rfl P30.out HRC.out ?_))
    refine HCB.out.mono ?_
    rintro _ w1 ⟨rfl, hb1⟩
    have HB1 := Lib.hid hb1
    clear hb1
    go_wp2
    go_ret2
    exact HR.out _ HB1.out
  | true =>
    obtain ⟨h0, h1, h2, h3⟩ := canB_iff.1 hc
    have hsz := h.ok.sz
    rw [hc] at HCB
    obtain ⟨t, ht⟩ : ∃ t, t = topN r x (2 * s).toNat := ⟨_, rfl⟩
    have htop : r.top x (x + 2 * s) = (t, 0) := by
      unfold Dk.top
      rw [if_neg (by omega), if_neg (by omega), ht, show x + 2 * s - x = 2 * s by omega]
    have HTP := Lib.hid (fun (W : World) (hb : RowKit.Below w0.heap.size w0 W) => rtop_any r a0 c0 a1 c1 F x (x + 2 * s) W ((h.below HB0.out).below hb) hx (by unfold I; omega))
    unfold TopRes at HTP
    rw [htop, ← hR] at HTP
    have HRD := Lib.hid (fun (W : World) (hb : RowKit.Below w0.heap.size w0 W) => rsread_any r a0 c0 a1 c1 F x s W ((h.below HB0.out).below hb) hx hs)
    have ht64 : t < 18446744073709551616 := by rw [ht]; exact topN_lt h.ok _ _
    obtain ⟨q, hq⟩ : ∃ q, q = r.slot x s := ⟨_, rfl⟩
    obtain ⟨T, hT⟩ : ∃ T, T = (t + 1) % 18446744073709551616 := ⟨_, rfl⟩
    obtain ⟨U, hU⟩ : ∃ U, U = (T + 1) % 18446744073709551616 := ⟨_, rfl⟩
    have HN := Lib.hid (show r.next x s = (if q.2 = 0 ∧ T % 2 = q.1.n % 2 then U else T, 0) by
      unfold Dk.next Dk.nextG
      rw [hc, if_pos rfl, ← hq, ← ht, ← hT, ← hU])
    have hw1 : IntKind.u64.wrap ((t : Int) + 1) = (T : Int) := by rw [IntKind.wrap_u64]; omega
    have hw2 : IntKind.u64.wrap ((t : Int) + 2) = (U : Int) := by rw [IntKind.wrap_u64]; omega
    rw [← hq, ← hR] at HRD
    rw [← hR]
    obtain ⟨⟨rb, rn⟩, re⟩ := q
    clear h hc ht htop hq hT hU ht64 hx hs hR hw0
    go_enter Tryz.func63, Tryz.ntmps63
    go_wp2_with (first | ((with_reducible refine wpList_boxA rfl _ _ rfl _ rfl ?_); rw [HW0.out]) | (with_reducible refine wpList_loadW rfl isD _ rfl w.heap.size R _ rfl P30.out HRC.out ?_))
    refine HCB.out.mono ?_
    rintro _ w1 ⟨rfl, hb1⟩
    have HB1 := Lib.hid hb1
    have P31 := Lib.hid (HP3.out w1 hb1)
    clear hb1 HCB
    go_wp2_with (with_reducible refine wpList_loadW rfl isD _ rfl w.heap.size R _ rfl P31.out HRC.out ?_)
    refine (HTP.out _ HB1.out).mono ?_
    rintro _ w2 ⟨rfl, hb2⟩
    have HB2 := Lib.hid (HB1.out.trans (hb2.mono HB1.out.size))
    have P32 := Lib.hid (HP3.out w2 HB2.out)
    clear hb2 HTP
    go_wp2_with (with_reducible refine wpList_loadW rfl isD _ rfl w.heap.size R _ rfl P32.out HRC.out ?_)
    refine (HRD.out _ HB2.out).mono ?_
    rintro _ w3 ⟨a3, c3, rfl, _, _, _, hb3⟩
    have HB3 := Lib.hid (HB0.out.trans ((HB2.out.trans (hb3.mono HB2.out.size)).mono HB0.out.size))
    clear hb3 HRD
    have htm := tm2 T rn
    by_cases he : re = 0
    · subst he
      by_cases hp : T % 2 = rn % 2
      · rw [decide_eq_true hp] at htm
        have HR := Lib.hid (show NxRes (r.next x s) w (.returned (.tuple #[.int .u64 (U : Int), .int .i64 0])) w3 by
          rw [HN.out, if_pos ⟨rfl, hp⟩]
          exact ⟨rfl, HB3.out⟩)
        clear hp
        go_wp2
        go_ret2
        exact HR.out
      · rw [decide_eq_false hp] at htm
        have HR := Lib.hid (show NxRes (r.next x s) w (.returned (.tuple #[.int .u64 (T : Int), .int .i64 0])) w3 by
          rw [HN.out, if_neg (fun q => hp q.2)]
          exact ⟨rfl, HB3.out⟩)
        clear hp
        go_wp2
        go_ret2
        exact HR.out
    · have d0 : (re == 0) = false := by simpa using he
      have HR := Lib.hid (show NxRes (r.next x s) w (.returned (.tuple #[.int .u64 (T : Int), .int .i64 0])) w3 by
        rw [HN.out, if_neg (fun q => he q.1)]
        exact ⟨rfl, HB3.out⟩)
      clear he htm
      go_wp2
      go_ret2
      exact HR.out
end Go.Proofs.YtdfbpaajkpnaeaaGreat

namespace Go.Proofs.YtdfbpaajkpnaeaaGreat
set_option maxRecDepth 100000
open Go.RowKit Go.Lib

/-- three results: one lies in a block, two in slots -/
theorem ret_cell_slot3 {f : Func} {T : TypeId} {n : Nat} {z : List Value} {R : Ending → World → Prop} {a : Act} {w : World} {p q q2 : Nat} {g : Nat} {c : List Value} {v v2 : Value} {T' : TypeId} (hT : IsAgg T n z) (hf : f.results = #[.cell p T, .tmp q, .tmp q2]) (hp : a.tmps.getD p undef = .pointer (some ⟨g, 0, none⟩)) (hq : a.tmps.getD q undef = v) (hq2 : a.tmps.getD q2 undef = v2) (hg : w.heap[g]? = some (.cells c.toArray T')) (hc : Cs n c) (hd : a.defers = [])
    (hR : R (.returned (.tuple #[.agg c.toArray, v, v2])) w) : bodyPost Tryz.prog f R .ret a w := by
  obtain ⟨d, hu, hr⟩ := hT.und
  have hp' : a.tmps[p]?.getD undef = .pointer (some ⟨g, 0, none⟩) := by simpa using hp
  have hq' : a.tmps[q]?.getD undef = v := by simpa using hq
  have hq2' : a.tmps[q2]?.getD undef = v2 := by simpa using hq2
  refine bodyPost_ret ?_ hd hR
  simp [results, hf, hp', hq', hq2', asAddr, run_loadVar_row w g T' T _ (0, 0) _ hg hu (by cases d <;> first | rfl | cases hr) (by rw [hT.size]; simp [hc.len])]
/-- the document's disk r, as R -/
def Val (w : World) (G : Nat → Prop) (r : Dk) (R : List Value) : Prop := ∃ a0 c0 a1 c1, R = rcs r a0 c0 a1 c1 ∧ RM w G r a0 a1
theorem Val.cs {w : World} {G : Nat → Prop} {r : Dk} {R : List Value} (h : Val w G r R) : Cs 4 R := by
  obtain ⟨a0, c0, a1, c1, e, _⟩ := h
  rw [e]; exact rcs_cs _ _ _ _ _
theorem Val.below {w w' : World} {G : Nat → Prop} {r : Dk} {R : List Value} (h : Val w G r R) (hb : RowKit.Below w.heap.size w w') : Val w' G r R := by
  obtain ⟨a0, c0, a1, c1, e, k⟩ := h
  exact ⟨a0, c0, a1, c1, e, k.below hb⟩
/-- the disk in block b4, what will be answered in block b8 -/
structure PS (w wr : World) (F : Nat → Prop) (b4 b8 : Nat) (r : Dk) (R : List Value) : Prop where
  h4 : wr.heap[b4]? = some (.cells R.toArray 36)
  h8 : wr.heap[b8]? = some (.cells zD.toArray 36)
  rr : Val wr (fun i => F i ∨ i = b4 ∨ i = b8) r R
  bl : RowKit.Below w.heap.size w wr
  fl : ∀ i, F i → i < w.heap.size
  s4 : w.heap.size ≤ b4
  s8 : w.heap.size ≤ b8
  ne : b4 ≠ b8
theorem PS.below {w wr w' : World} {F : Nat → Prop} {b4 b8 : Nat} {r : Dk} {R : List Value} (h : PS w wr F b4 b8 r R) (hb : RowKit.Below wr.heap.size wr w') : PS w w' F b4 b8 r R :=
  ⟨(hb.block _ (lt_of_heap h.h4)).trans h.h4, (hb.block _ (lt_of_heap h.h8)).trans h.h8, h.rr.below hb, h.bl.trans (hb.mono h.bl.size), h.fl, h.s4, h.s8, h.ne⟩
theorem PS.gl {w wr : World} {F : Nat → Prop} {b4 b8 : Nat} {r : Dk} {R : List Value} (h : PS w wr F b4 b8 r R) : ∀ i, (F i ∨ i = b4 ∨ i = b8) → i < wr.heap.size := fun i hi => by
  rcases hi with e | e | e
  · exact Nat.lt_of_lt_of_le (h.fl i e) h.bl.size
  · rw [e]; exact lt_of_heap h.h4
  · rw [e]; exact lt_of_heap h.h8
theorem PS.set {w wr : World} {F : Nat → Prop} {b4 b8 : Nat} {r r' : Dk} {R R' : List Value} (h : PS w wr F b4 b8 r R) (hv : Val wr (fun i => F i ∨ i = b4 ∨ i = b8) r' R') : PS w (wr.setRow b4 R'.toArray) F b4 b8 r' R' := by
  obtain ⟨a0, c0, a1, c1, e, k⟩ := hv
  exact ⟨setRow_heap _ _ _ _ _ _ h.h4, (setRow_other _ _ _ _ (fun e => h.ne e.symm)).trans h.h8, ⟨a0, c0, a1, c1, e, k.same (only_row (Or.inr (Or.inl rfl)))⟩, below_setRow h.bl h.s4, h.fl, h.s4, h.s8, h.ne⟩
/-- what a write answers -/
def RSwRes (F : Nat → Prop) (r : Dk × Nat × Int) (w : World) (e : Ending) (w' : World) : Prop := ∃ a0 c0 a1 c1, e = .returned (.tuple #[.agg (rcs r.1 a0 c0 a1 c1).toArray, .int .u64 (r.2.1 : Int), .int .i64 r.2.2]) ∧ RM w' F r.1 a0 a1 ∧ RowKit.Below w.heap.size w w'
theorem PS.fin {w wr : World} {F : Nat → Prop} {b4 b8 : Nat} {r : Dk} {R : List Value} {n : Nat} {e : Int} {q : Dk × Nat × Int} (h : PS w wr F b4 b8 r R) (hq : q = (r, n, e)) : RSwRes F q w (.returned (.tuple #[.agg R.toArray, .int .u64 (n : Int), .int .i64 e])) (wr.setRow b8 R.toArray) := by
  obtain ⟨a0, c0, a1, c1, ee, k⟩ := h.rr
  rw [hq]
  exact ⟨a0, c0, a1, c1, by rw [ee], (k.same (only_row (Or.inr (Or.inr rfl)))).sub (fun _ e => Or.inl e), below_setRow h.bl h.s8⟩
theorem PS.can {w wr : World} {F : Nat → Prop} {b4 b8 : Nat} {r : Dk} {R : List Value} (h : PS w wr F b4 b8 r R) {x s : Int} (hx : I x) (hs : I s) :
    Calls Tryz.prog 62 #[.agg R.toArray, .int .i64 x, .int .i64 s] wr fun e w' => e = .returned (.bool (canB r x s)) ∧ RowKit.Below wr.heap.size wr w' := by
  obtain ⟨a0, c0, a1, c1, e, k⟩ := h.rr
  rw [e]
  exact rcan_any r a0 c0 a1 c1 _ x s wr k hx hs
theorem PS.next {w wr : World} {F : Nat → Prop} {b4 b8 : Nat} {r : Dk} {R : List Value} (h : PS w wr F b4 b8 r R) {x s : Int} (hx : I x) (hs : I s) :
    Calls Tryz.prog 63 #[.agg R.toArray, .int .i64 x, .int .i64 s] wr (NxRes (r.next x s) wr) := by
  obtain ⟨a0, c0, a1, c1, e, k⟩ := h.rr
  rw [e]
  exact rsnext_any r a0 c0 a1 c1 _ x s wr k hx hs
theorem PS.put {w wr : World} {F : Nat → Prop} {b4 b8 : Nat} {r : Dk} {R : List Value} (h : PS w wr F b4 b8 r R) {x : Int} {n : Nat} {l : List UInt8} {a : Option Addr} {cap : Nat} (hx : I x) (hn : n < 18446744073709551616) (hb : BAt wr a l) (hI : I (l.length : Int)) (hq : r.queue.length + spanN l.length < 10000) :
    Calls Tryz.prog 54 #[.agg R.toArray, .int .i64 x, .int .u64 (n : Int), .slice a l.length cap] wr fun e w' => ∃ R', e = .returned (.tuple #[.agg R'.toArray, .int .i64 (r.write x n l).2]) ∧ Val w' (fun i => F i ∨ i = b4 ∨ i = b8) (r.write x n l).1 R' ∧ RowKit.Below wr.heap.size wr w' := by
  obtain ⟨a0, c0, a1, c1, e, k⟩ := h.rr
  rw [e]
  refine (rwrite_any r a0 c0 a1 c1 _ x n l a l.length cap wr h.gl k hx hn hb rfl hI hq).mono ?_
  rintro _ w' ⟨A0, C0, A1, C1, rfl, k1, k2⟩
  exact ⟨_, rfl, ⟨A0, C0, A1, C1, rfl, k1⟩, k2⟩
theorem PS.flush {w wr : World} {F : Nat → Prop} {b4 b8 : Nat} {r : Dk} {R : List Value} (h : PS w wr F b4 b8 r R) :
    Calls Tryz.prog 56 #[.agg R.toArray] wr fun e w' => ∃ R', e = .returned (.tuple #[.agg R'.toArray, .int .i64 r.actE]) ∧ Val w' (fun i => F i ∨ i = b4 ∨ i = b8) r.flush R' ∧ RowKit.Below wr.heap.size wr w' := by
  obtain ⟨a0, c0, a1, c1, e, k⟩ := h.rr
  rw [e]
  refine (rflush_any r a0 c0 a1 c1 _ wr h.gl k).mono ?_
  rintro _ w' ⟨A0, C0, A1, C1, rfl, k1, k2⟩
  exact ⟨_, rfl, ⟨A0, C0, A1, C1, rfl, k1⟩, k2⟩
theorem plc_ref {n : Nat} (x s : Int) : (n % 2 = 0 ∧ plc n x s = x) ∨ (n % 2 = 1 ∧ plc n x s = x + s) := by
  unfold plc
  rcases Nat.mod_two_eq_zero_or_one n with e | e
  · left; rw [if_pos e]; exact ⟨e, rfl⟩
  · right; rw [if_neg (by omega)]; exact ⟨e, rfl⟩
set_option maxRecDepth 100000 in
set_option maxHeartbeats 1600000 in
theorem rsput_any (r : Dk) (a0 : Option Addr) (c0 : Nat) (a1 : Option Addr) (c1 : Nat) (F : Nat → Prop) (x s : Int) (l : List UInt8) (a : Option Addr) (len cap : Nat) (w : World) (hF : ∀ i, F i → i < w.heap.size) (h : RM w F r a0 a1) (hx : I x) (hs : I s) (hb : BAt w a l) (hl : l.length = len) (ha : a = none → l = []) (hm : len ≤ 500000) (hq : r.queue.length < 9700) :
    Calls Tryz.prog 34 #[.agg (rcs r a0 c0 a1 c1).toArray, .int .i64 x, .int .i64 s, .slice a len cap] w (RSwRes F (r.slotW x s l) w) := by
  obtain ⟨R, hR⟩ : ∃ R, R = rcs r a0 c0 a1 c1 := ⟨_, rfl⟩
  have HRC := Lib.hid (show Cs 4 R by rw [hR]; exact rcs_cs _ _ _ _ _)
  obtain ⟨w3, hw3⟩ : ∃ w3, w3 = (w.alloc (.cells R.toArray 36)).alloc (.cells zD.toArray 36) := ⟨_, rfl⟩
  have HB3 := Lib.hid (show RowKit.Below w.heap.size w w3 by rw [hw3]; exact ((RowKit.Below.refl _ _).alloc (Nat.le_refl _) _).alloc (by simp) _)
  obtain ⟨b4, hb4⟩ : ∃ b4, b4 = w.heap.size := ⟨_, rfl⟩
  obtain ⟨b8, hb8⟩ : ∃ b8, b8 = w.heap.size + 1 := ⟨_, rfl⟩
  have HB4 := Lib.hid hb4
  have HB8 := Lib.hid hb8
  have HPS := Lib.hid (show PS w w3 F b4 b8 r R from ⟨by rw [hw3, hb4]; exact blk_in (blkn rfl), by rw [hw3, hb8]; exact blkn (by simp), ⟨a0, c0, a1, c1, hR, (h.grow HB3.out).sub (fun i e => by rcases e with e | e | e; exact Or.inl e; exact Or.inr (by omega); exact Or.inr (by omega))⟩, HB3.out, hF, by omega, by omega, by omega⟩)
  have HAW := Lib.hid (show (w.alloc (.cells R.toArray 36)).alloc (.cells [Value.slice none 0 0, .slice none 0 0, .int .i64 0, .bool false].toArray 36) = w3 from hw3.symm)
  obtain ⟨C, hC⟩ : ∃ C, C = closed l := ⟨_, rfl⟩
  have hCl : C.length = l.length + 4 := by rw [hC, closed_len]
  have HCL := Lib.hid (rclose_any a l len cap w3 (hb.below HB3.out) hl ha hm)
  rw [show l ++ sealL l = C from hC.symm] at HCL
  obtain ⟨m, hmm⟩ : ∃ m, m = spanN (l.length + 4) := ⟨_, rfl⟩
  have hkey : spanI (C.length : Int) = (m : Int) := by rw [spanI_nat, hCl, ← hmm]
  have HSP := Lib.hid (fun W => rspan_any (C.length : Int) W)
  rw [hkey] at HSP
  have HX := Lib.hid hx
  have HS := Lib.hid hs
  have HM := Lib.hid (show (C.length : Int) ≤ 500004 by rw [hCl]; omega)
  have HQ := Lib.hid (show r.queue.length + spanN C.length < 10000 by have := spanN_le C.length; omega)
  have hsz := h.ok.sz
  obtain ⟨n, hn⟩ : ∃ n, n = r.nextG x s := ⟨_, rfl⟩
  have HN64 := Lib.hid (show n < 18446744073709551616 by rw [hn]; exact nextG_lt r x s)
  have HSW := Lib.hid (show r.slotW x s l = if canB r x s = false then (r, 0, 111) else if m = 0 ∨ s < (m : Int) then (r, 0, 111) else if (r.write (plc n x s) n C).2 ≠ 0 then ((r.write (plc n x s) n C).1, 0, (r.write (plc n x s) n C).2) else if (r.write (plc n x s) n C).1.actE ≠ 0 then ((r.write (plc n x s) n C).1.flush, 0, (r.write (plc n x s) n C).1.actE) else ((r.write (plc n x s) n C).1.flush, n, 0) by
    unfold Dk.slotW
    rw [← hmm, ← hn, ← hC])
  have hmle : m ≤ 255 := by rw [hmm]; exact spanN_le _
  have HCI := Lib.hid (fun (e : canB r x s = true) => canB_iff.1 e)
  have HNX := Lib.hid (fun (e : canB r x s = true) => show r.next x s = (n, 0) by unfold Dk.next; rw [e, if_pos rfl, ← hn])
  have HSZ := Lib.hid hsz
  rw [← hR]
  clear h hb hl ha hm hq hF hR hw3 hC hCl hmm hx hs hn hsz hkey
  go_enter Tryz.func34, Tryz.ntmps34
  go_wp2_with (first | (with_reducible refine wpList_boxA rfl _ _ rfl _ rfl ?_) | ((with_reducible refine wpList_allocA rfl isD rfl ?_); rw [HAW.out]))
  refine HCL.out.mono ?_
  rintro _ w4 ⟨v, rfl, hob, hb4', _⟩
  have HP4 := Lib.hid (HPS.out.below hb4')
  obtain ⟨a4, c4, rfl, hba, hlc, _, _, _⟩ := hob.row
  have HBA := Lib.hid hba
  clear hob hba hlc hb4' HCL HPS
  rw [← hb8, ← hb4]
  clear hb4 hb8
  go_wp2_with fail
  refine (HSP.out _).mono ?_
  rintro _ _ ⟨rfl, rfl⟩
  have HCN := Lib.hid (HP4.out.can HX.out HS.out)
  go_wp2_with (with_reducible refine wpList_loadW rfl isD _ rfl b4 R _ rfl HP4.out.h4 HRC.out ?_)
  refine HCN.out.mono ?_
  rintro _ w5 ⟨rfl, hb5⟩
  have HP5 := Lib.hid (HP4.out.below hb5)
  have HBA5 := Lib.hid (HBA.out.below hb5)
  clear hb5 HCN HP4 HBA
  cases hc : canB r x s with
  | false =>
    have HE := Lib.hid (show r.slotW x s l = (r, 0, 111) by rw [HSW.out, if_pos hc])
    have HF := Lib.hid (HP5.out.fin HE.out)
    clear hc
    go_wp2_with (first | (with_reducible refine wpList_loadW rfl isD _ rfl b4 R _ rfl HP5.out.h4 HRC.out ?_) | (with_reducible refine wpList_storeW rfl isD _ _ rfl b8 R zD.toArray _ rfl rfl HP5.out.h8 HRC.out rfl ?_))
    refine ret_cell_slot3 isD rfl rfl rfl rfl (setRow_heap _ _ _ _ _ _ HP5.out.h8) HRC.out rfl ?_
    exact HF.out
  | true =>
    obtain ⟨x0, s1, s2, x2⟩ := HCI.out hc
    have hnx := HNX.out hc
    by_cases hcs : m = 0 ∨ s < (m : Int)
    · have HE := Lib.hid (show r.slotW x s l = (r, 0, 111) by rw [HSW.out, if_neg (by rw [hc]; exact Bool.noConfusion), if_pos hcs])
      have HF := Lib.hid (HP5.out.fin HE.out)
      clear hc hnx
      by_cases hz : m = 0
      · subst hz
        clear hcs
        go_wp2_with (first | (with_reducible refine wpList_loadW rfl isD _ rfl b4 R _ rfl HP5.out.h4 HRC.out ?_) | (with_reducible refine wpList_storeW rfl isD _ _ rfl b8 R zD.toArray _ rfl rfl HP5.out.h8 HRC.out rfl ?_))
        refine ret_cell_slot3 isD rfl rfl rfl rfl (setRow_heap _ _ _ _ _ _ HP5.out.h8) HRC.out rfl ?_
        exact HF.out
      · have hz0 : ((m : Int) == 0) = false := by simp; omega
        have hz1 : decide (s < (m : Int)) = true := by simp; omega
        clear hcs hz
        go_wp2_with (first | (with_reducible refine wpList_loadW rfl isD _ rfl b4 R _ rfl HP5.out.h4 HRC.out ?_) | (with_reducible refine wpList_storeW rfl isD _ _ rfl b8 R zD.toArray _ rfl rfl HP5.out.h8 HRC.out rfl ?_))
        refine ret_cell_slot3 isD rfl rfl rfl rfl (setRow_heap _ _ _ _ _ _ HP5.out.h8) HRC.out rfl ?_
        exact HF.out
    · have hz0 : ((m : Int) == 0) = false := by simp; omega
      have hz1 : decide (s < (m : Int)) = false := by simp; omega
      obtain ⟨p, hp⟩ : ∃ p, p = plc n x s := ⟨_, rfl⟩
      have hpi : I p := by have := plc_in (n := n) x0 s1 x2; have := HSZ.out; unfold I; omega
      obtain ⟨q, hqq⟩ : ∃ q, q = r.write p n C := ⟨_, rfl⟩
      have HSW := Lib.hid (show r.slotW x s l = if q.2 ≠ 0 then (q.1, 0, q.2) else if q.1.actE ≠ 0 then (q.1.flush, 0, q.1.actE) else (q.1.flush, n, 0) by
        rw [HSW.out, if_neg (by rw [hc]; exact Bool.noConfusion), if_neg hcs, ← hp, ← hqq])
      have HNEX := Lib.hid (HP5.out.next HX.out HS.out)
      rw [hnx] at HNEX
      have hpp := plc_ref (n := n) x s
      rw [← hp] at hpp
      have HPP := Lib.hid hpp
      have HPI := Lib.hid hpi
      have HQQ := Lib.hid hqq
      have HXS := Lib.hid (And.intro x0 (And.intro s1 (And.intro s2 x2)))
      obtain ⟨r1, E⟩ := q
      clear hc hnx hcs hp hpi hqq hpp x0 s1 s2 x2
      go_wp2_with (with_reducible refine wpList_loadW rfl isD _ rfl b4 R _ rfl HP5.out.h4 HRC.out ?_)
      refine HNEX.out.mono ?_
      rintro _ w6 ⟨rfl, hb6⟩
      have HP6 := Lib.hid (HP5.out.below hb6)
      have HPT := Lib.hid (HP6.out.put (cap := c4) HPI.out HN64.out (HBA5.out.below hb6) (by have := HM.out; unfold I; omega) HQ.out)
      rw [← HQQ.out] at HPT
      clear hb6 HNEX
      obtain ⟨x0, s1, s2, x2⟩ := HXS.out
      have hsz := HSZ.out
      have hor : ((n : Int) % 2 = 0 ∧ x = p) ∨ ((n : Int) % 2 = 1 ∧ x + s = p) := by
        have := HPP.out
        omega
      clear HPP HQQ HXS
      rcases hor with ⟨hpar, hpe⟩ | ⟨hpar, hpe⟩
      · rw [← hpe] at HPT
        clear hpe
        go_wp2_with (with_reducible refine wpList_loadW rfl isD _ rfl b4 R _ rfl HP6.out.h4 HRC.out ?_)
        refine HPT.out.mono ?_
        rintro _ w7 ⟨R1, rfl, hv7, hb7⟩
        have HP7 := Lib.hid (HP6.out.below hb7)
        obtain ⟨w8, hw8⟩ : ∃ w8, w8 = w7.setRow b4 R1.toArray := ⟨_, rfl⟩
        have HW8 := Lib.hid hw8.symm
        have HP8 := Lib.hid (show PS w w8 F b4 b8 r1 R1 by rw [hw8]; exact HP7.out.set hv7)
        have HRC1 := Lib.hid hv7.cs
        have HRS := Lib.hid (show R.toArray.size = 4 by rw [List.size_toArray]; exact HRC.out.len)
        clear hv7 hb7 hw8 HPT hpar
        simp only
        by_cases hE : E = 0
        · have HFL := Lib.hid (HP8.out.flush)
          subst hE
          go_wp2_with (first | ((with_reducible refine wpList_storeW rfl isD _ _ rfl b4 R1 R.toArray _ rfl rfl HP7.out.h4 HRC1.out HRS.out ?_); rw [HW8.out]) | (with_reducible refine wpList_loadW rfl isD _ rfl b4 R1 _ rfl HP8.out.h4 HRC1.out ?_))
          refine HFL.out.mono ?_
          rintro _ w9 ⟨R2, rfl, hv9, hb9⟩
          have HP9 := Lib.hid (HP8.out.below hb9)
          obtain ⟨wa, hwa⟩ : ∃ wa, wa = w9.setRow b4 R2.toArray := ⟨_, rfl⟩
          have HWA := Lib.hid hwa.symm
          have HPA := Lib.hid (show PS w wa F b4 b8 r1.flush R2 by rw [hwa]; exact HP9.out.set hv9)
          have HRC2 := Lib.hid hv9.cs
          have HRS1 := Lib.hid (show R1.toArray.size = 4 by rw [List.size_toArray]; exact HRC1.out.len)
          obtain ⟨f, hf⟩ : ∃ f, f = r1.actE := ⟨_, rfl⟩
          rw [← hf]
          clear hv9 hb9 hwa HFL
          by_cases hf0 : f = 0
          · have HE := Lib.hid (show r.slotW x s l = (r1.flush, n, 0) by rw [HSW.out, if_neg (fun e => e rfl), if_neg (by rw [← hf]; exact fun e => e hf0)])
            have HF := Lib.hid (HPA.out.fin HE.out)
            clear hf
            subst hf0
            go_wp2_with (first | ((with_reducible refine wpList_storeW rfl isD _ _ rfl b4 R2 R1.toArray _ rfl rfl HP9.out.h4 HRC2.out HRS1.out ?_); rw [HWA.out]) | (with_reducible refine wpList_loadW rfl isD _ rfl b4 R2 _ rfl HPA.out.h4 HRC2.out ?_) | (with_reducible refine wpList_storeW rfl isD _ _ rfl b8 R2 zD.toArray _ rfl rfl HPA.out.h8 HRC2.out rfl ?_))
            refine ret_cell_slot3 isD rfl rfl rfl rfl (setRow_heap _ _ _ _ _ _ HPA.out.h8) HRC2.out rfl ?_
            exact HF.out
          · have HE := Lib.hid (show r.slotW x s l = (r1.flush, 0, f) by rw [HSW.out, if_neg (fun e => e rfl), if_pos (by rw [← hf]; exact hf0), ← hf])
            have HF := Lib.hid (HPA.out.fin HE.out)
            have d9 : (f == 0) = false := by simpa using hf0
            clear hf hf0
            go_wp2_with (first | ((with_reducible refine wpList_storeW rfl isD _ _ rfl b4 R2 R1.toArray _ rfl rfl HP9.out.h4 HRC2.out HRS1.out ?_); rw [HWA.out]) | (with_reducible refine wpList_loadW rfl isD _ rfl b4 R2 _ rfl HPA.out.h4 HRC2.out ?_) | (with_reducible refine wpList_storeW rfl isD _ _ rfl b8 R2 zD.toArray _ rfl rfl HPA.out.h8 HRC2.out rfl ?_))
            refine ret_cell_slot3 isD rfl rfl rfl rfl (setRow_heap _ _ _ _ _ _ HPA.out.h8) HRC2.out rfl ?_
            exact HF.out
        · have HE := Lib.hid (show r.slotW x s l = (r1, 0, E) by rw [HSW.out, if_pos hE])
          have HF := Lib.hid (HP8.out.fin HE.out)
          have d9 : (E == 0) = false := by simpa using hE
          clear hE
          go_wp2_with (first | ((with_reducible refine wpList_storeW rfl isD _ _ rfl b4 R1 R.toArray _ rfl rfl HP7.out.h4 HRC1.out HRS.out ?_); rw [HW8.out]) | (with_reducible refine wpList_loadW rfl isD _ rfl b4 R1 _ rfl HP8.out.h4 HRC1.out ?_) | (with_reducible refine wpList_storeW rfl isD _ _ rfl b8 R1 zD.toArray _ rfl rfl HP8.out.h8 HRC1.out rfl ?_))
          refine ret_cell_slot3 isD rfl rfl rfl rfl (setRow_heap _ _ _ _ _ _ HP8.out.h8) HRC1.out rfl ?_
          exact HF.out
      · rw [← hpe] at HPT
        clear hpe
        go_wp2_with (with_reducible refine wpList_loadW rfl isD _ rfl b4 R _ rfl HP6.out.h4 HRC.out ?_)
        refine HPT.out.mono ?_
        rintro _ w7 ⟨R1, rfl, hv7, hb7⟩
        have HP7 := Lib.hid (HP6.out.below hb7)
        obtain ⟨w8, hw8⟩ : ∃ w8, w8 = w7.setRow b4 R1.toArray := ⟨_, rfl⟩
        have HW8 := Lib.hid hw8.symm
        have HP8 := Lib.hid (show PS w w8 F b4 b8 r1 R1 by rw [hw8]; exact HP7.out.set hv7)
        have HRC1 := Lib.hid hv7.cs
        have HRS := Lib.hid (show R.toArray.size = 4 by rw [List.size_toArray]; exact HRC.out.len)
        clear hv7 hb7 hw8 HPT hpar
        simp only
        by_cases hE : E = 0
        · have HFL := Lib.hid (HP8.out.flush)
          subst hE
          go_wp2_with (first | ((with_reducible refine wpList_storeW rfl isD _ _ rfl b4 R1 R.toArray _ rfl rfl HP7.out.h4 HRC1.out HRS.out ?_); rw [HW8.out]) | (with_reducible refine wpList_loadW rfl isD _ rfl b4 R1 _ rfl HP8.out.h4 HRC1.out ?_))
          refine HFL.out.mono ?_
          rintro _ w9 ⟨R2, rfl, hv9, hb9⟩
          have HP9 := Lib.hid (HP8.out.below hb9)
          obtain ⟨wa, hwa⟩ : ∃ wa, wa = w9.setRow b4 R2.toArray := ⟨_, rfl⟩
          have HWA := Lib.hid hwa.symm
          have HPA := Lib.hid (show PS w wa F b4 b8 r1.flush R2 by rw [hwa]; exact HP9.out.set hv9)
          have HRC2 := Lib.hid hv9.cs
          have HRS1 := Lib.hid (show R1.toArray.size = 4 by rw [List.size_toArray]; exact HRC1.out.len)
          obtain ⟨f, hf⟩ : ∃ f, f = r1.actE := ⟨_, rfl⟩
          rw [← hf]
          clear hv9 hb9 hwa HFL
          by_cases hf0 : f = 0
          · have HE := Lib.hid (show r.slotW x s l = (r1.flush, n, 0) by rw [HSW.out, if_neg (fun e => e rfl), if_neg (by rw [← hf]; exact fun e => e hf0)])
            have HF := Lib.hid (HPA.out.fin HE.out)
            clear hf
            subst hf0
            go_wp2_with (first | ((with_reducible refine wpList_storeW rfl isD _ _ rfl b4 R2 R1.toArray _ rfl rfl HP9.out.h4 HRC2.out HRS1.out ?_); rw [HWA.out]) | (with_reducible refine wpList_loadW rfl isD _ rfl b4 R2 _ rfl HPA.out.h4 HRC2.out ?_) | (with_reducible refine wpList_storeW rfl isD _ _ rfl b8 R2 zD.toArray _ rfl rfl HPA.out.h8 HRC2.out rfl ?_))
            refine ret_cell_slot3 isD rfl rfl rfl rfl (setRow_heap _ _ _ _ _ _ HPA.out.h8) HRC2.out rfl ?_
            exact HF.out
          · have HE := Lib.hid (show r.slotW x s l = (r1.flush, 0, f) by rw [HSW.out, if_neg (fun e => e rfl), if_pos (by rw [← hf]; exact hf0), ← hf])
            have HF := Lib.hid (HPA.out.fin HE.out)
            have d9 : (f == 0) = false := by simpa using hf0
            clear hf hf0
            go_wp2_with (first | ((with_reducible refine wpList_storeW rfl isD _ _ rfl b4 R2 R1.toArray _ rfl rfl HP9.out.h4 HRC2.out HRS1.out ?_); rw [HWA.out]) | (with_reducible refine wpList_loadW rfl isD _ rfl b4 R2 _ rfl HPA.out.h4 HRC2.out ?_) | (with_reducible refine wpList_storeW rfl isD _ _ rfl b8 R2 zD.toArray _ rfl rfl HPA.out.h8 HRC2.out rfl ?_))
            refine ret_cell_slot3 isD rfl rfl rfl rfl (setRow_heap _ _ _ _ _ _ HPA.out.h8) HRC2.out rfl ?_
            exact HF.out
        · have HE := Lib.hid (show r.slotW x s l = (r1, 0, E) by rw [HSW.out, if_pos hE])
          have HF := Lib.hid (HP8.out.fin HE.out)
          have d9 : (E == 0) = false := by simpa using hE
          clear hE
          go_wp2_with (first | ((with_reducible refine wpList_storeW rfl isD _ _ rfl b4 R1 R.toArray _ rfl rfl HP7.out.h4 HRC1.out HRS.out ?_); rw [HW8.out]) | (with_reducible refine wpList_loadW rfl isD _ rfl b4 R1 _ rfl HP8.out.h4 HRC1.out ?_) | (with_reducible refine wpList_storeW rfl isD _ _ rfl b8 R1 zD.toArray _ rfl rfl HP8.out.h8 HRC1.out rfl ?_))
          refine ret_cell_slot3 isD rfl rfl rfl rfl (setRow_heap _ _ _ _ _ _ HP8.out.h8) HRC1.out rfl ?_
          exact HF.out
end Go.Proofs.YtdfbpaajkpnaeaaGreat
