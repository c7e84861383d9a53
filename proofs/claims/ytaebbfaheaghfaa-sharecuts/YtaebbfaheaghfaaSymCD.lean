/- slices.symMergeCmpFunc at []int: the general step, m right of the middle. slices.symMergeCmpFunc at []int: the general step, m not right of the middle. -/
import Derived.Test.YtaebbfaheaghfaaMergeMath

namespace Go.Proofs.Ytaebbfaheaghfaa
open Go.RowKit Go.Shelf Go.Sort Go.Lib

set_option maxHeartbeats 64000000 in
set_option maxRecDepth 1000000 in
theorem sym_gt {q : Nat} {r : Fin (q + 1) → Int} {cb : Array Value} (blk cap a m b mid : Nat) (d0 d : Array (Fin (q + 1))) (w0 w : World) (hcmp : CmpLays1 Try.prog gP cb encP (cfP r) blk 0 d0.size w0) (R : Row1 encP w0 blk 0 d0) (hs : d0.size = d.size) (S : SW encP w0 blk 0 d w) (ham : a + 1 < m) (hmb : m + 1 < b) (hb : b ≤ d.size) (hsz : d.size < 1000000) (hmid : mid = (a + b) / 2) (hgm : mid < m) (P : Pre r d a m b)
    (IH : ∀ (a' m' b' : Nat) (dk : Array (Fin (q + 1))) (W : World), b' - a' < b - a → a' < m' → m' < b' → b' ≤ d.size → dk.size = d.size → Pre r dk a' m' b' → SW encP w0 blk 0 dk W → Calls Try.prog 66 #[.slice (some ⟨blk, 0, none⟩) d.size cap, .int .i64 a', .int .i64 m', .int .i64 b', .func (.func gP) #[] cb] W fun e w' => e = .returned (.tuple #[]) ∧ ∃ d', Merged r dk d' a' b' ∧ SW encP w0 blk 0 d' w') :
    Calls Try.prog 66 #[.slice (some ⟨blk, 0, none⟩) d.size cap, .int .i64 a, .int .i64 m, .int .i64 b, .func (.func gP) #[] cb] w fun e w' => e = .returned (.tuple #[]) ∧ ∃ d', Merged r d d' a b ∧ SW encP w0 blk 0 d' w' := by
  have mixed := srtLay.mixed
  have eg := eg_any
  have S0 := Lib.hid S
  have HCM := Lib.hid hcmp
  have HP := Lib.hid P
  have HIH := Lib.hid IH
  have HROT := fun (s e : Nat) W (h1 : s < m) (h2 : m < e) (h3 : e ≤ b) (hS : SW encP w0 blk 0 d W) => Lib.hid (rotate_any blk cap s m e (.func (.func gP) #[] cb) d0 d w0 W R hs hS h1 h2 (by omega) hsz)
  obtain ⟨z, hz⟩ : ∃ z, z = d.size := ⟨_, rfl⟩
  have HZ := Lib.hid hz
  have HD0 := Lib.hid hs.symm
  rw [← hz] at hs hb hsz HIH HROT ⊢
  have HSZ := Lib.hid hs
  have ea1 : ((m : Int) - (a : Int) == 1) = false := by simp; omega
  have ea2 : ¬ ((m : Int) - (a : Int) = 1) := by omega
  have eb1 : ((b : Int) - (m : Int) == 1) = false := by simp; omega
  have eb2 : ¬ ((b : Int) - (m : Int) = 1) := by omega
  have emid : ((a : Int) + (b : Int)) / 2 = (mid : Int) := by omega
  have hmd1 : 2 * mid ≤ a + b := by omega
  have hmd2 : a + b ≤ 2 * mid + 1 := by omega
  obtain ⟨n, hn⟩ : ∃ n, n = mid + m := ⟨_, rfl⟩
  have en : (mid : Int) + (m : Int) = (n : Int) := by omega
  obtain ⟨p, hp⟩ : ∃ p, p + 1 = n := ⟨n - 1, by omega⟩
  have ep : (n : Int) - 1 = (p : Int) := by omega
  obtain ⟨lo, hlo⟩ : ∃ lo, lo + b = n := ⟨n - b, by omega⟩
  have elo : (n : Int) - (b : Int) = (lo : Int) := by omega
  obtain ⟨hi, hhi⟩ : ∃ hi, hi = mid := ⟨_, rfl⟩
  have dgm : decide ((mid : Int) < (m : Int)) = true := by simp only [decide_eq_true_eq]; omega
  have dgm' : (mid : Int) < (m : Int) := by omega
  have lo1 : lo + b ≤ n := by omega
  have lo2 : n ≤ lo + b := by omega
  have hi1 : hi ≤ mid := by omega
  have hi2 : mid ≤ hi := by omega
  clear hlo hhi
  have HN := Lib.hid hn
  have HPP := Lib.hid hp
  have bn1 : n ≤ mid + m := by omega
  have bn2 : mid + m ≤ n := by omega
  have bp1 : p < n := by omega
  have bp2 : n < p + 2 := by omega
  clear S hcmp hz hs hmid P IH hn hp
  go_enter Try.func66, Try.ntmps66
  go_wp2
  go_loopg [20, 21] (hi - lo) (fun g c20 c21 wr => ∃ (s t : Nat), c20 = .int .i64 s ∧ c21 = .int .i64 t ∧ t ≤ g + s ∧ lo ≤ s ∧ s ≤ t ∧ t ≤ hi ∧ Hid (s = lo ∨ ltOf (cfP r) d[n - s]! d[s - 1]! = false) ∧ Hid (t = hi ∨ ltOf (cfP r) d[p - t]! d[t]! = true) ∧ Hid (SW encP w0 blk 0 d wr))
  case atStart => exact ⟨lo, hi, by first | rfl | (congr 1; omega), by first | rfl | (congr 1; omega), by omega, Nat.le_refl _, by omega, Nat.le_refl _, Or.inl rfl, Or.inl rfl, S0.out⟩
  case round =>
    obtain ⟨s, t, rfl, rfl, hg, hls, hst, hth, HI, HJ, HS⟩ := hrel
    clear S0
    by_cases hlt : s < t
    · have hlz : (s : Int) < (t : Int) := by omega
      obtain ⟨c, hc0⟩ : ∃ c, c = (s + t) / 2 := ⟨_, rfl⟩
      have eh : ((s : Int) + (t : Int)) / 2 = (c : Int) := by omega
      have h1 : s ≤ c := by omega
      have h2 : c < t := by omega
      clear hc0
      obtain ⟨pc, hpc⟩ : ∃ pc, pc = p - c := ⟨_, rfl⟩
      have ec : (p : Int) - (c : Int) = (pc : Int) := by omega
      have rc : IntKind.i64.wrap ((p : Int) - (c : Int)) = (pc : Int) := by rw [IntKind.wrap_i64]; omega
      have rd : IntKind.i64.wrap (pc : Int) = (pc : Int) := by rw [IntKind.wrap_i64]; omega
      have hpc1 : pc < z := by omega
      have hcz : c < z := by omega
      have b1 : (0 : Int) ≤ (c : Int) := by omega
      have b2 : (c : Int) < (z : Int) := by omega
      have b3 : (0 : Int) ≤ (pc : Int) := by omega
      have b4 : (pc : Int) < (z : Int) := by omega
      have hpn : n - (c + 1) = pc := by omega
      have HPC := Lib.hid hpc
      have HPN := Lib.hid hpn
      clear hpc hpn
      cases hlv : ltOf (cfP r) d[pc]! d[c]! with
      | true =>
        have hd0 := HD0.out
        have hzz := HSZ.out
        obtain ⟨x, hx⟩ : ∃ x, x = d[pc]! := ⟨_, rfl⟩
        obtain ⟨y, hy⟩ : ∃ x, x = d[c]! := ⟨_, rfl⟩
        have la := fun n os => HS.out.cl R hd0 pc (by omega) n os
        have lb := fun n os => HS.out.cl R hd0 c (by omega) n os
        rw [← hx] at la
        rw [← hy] at lb
        simp only [Nat.zero_add] at la lb
        have hc := HS.out.cmp HCM.out hd0 x y
        have hv : cfP r x y < 0 := by rw [hx, hy]; exact of_decide_eq_true hlv
        have hd : decide (cfP r x y < 0) = true := decide_eq_true hv
        clear hx hy hd0 hzz
        go_wp2_with fail
        go_quiet_grown (first | (go_at_fn gP; refine Calls.grown_of (hc _ _)))
        have S2 := Lib.hid (HS.out.grown nq osq)
        clear la lb hc HS
        generalize grow (wr.drewN nq) osq = w2 at S2 ⊢
        clear nq osq
        go_wp2
        go_roundg (c - s)
        case measure => omega
        case rel => exact ⟨s, c, rfl, rfl, by omega, hls, by omega, by omega, HI.out, Or.inr (by rw [← HPC.out]; exact hlv), S2.out⟩
      | false =>
        have hd0 := HD0.out
        have hzz := HSZ.out
        obtain ⟨x, hx⟩ : ∃ x, x = d[pc]! := ⟨_, rfl⟩
        obtain ⟨y, hy⟩ : ∃ x, x = d[c]! := ⟨_, rfl⟩
        have la := fun n os => HS.out.cl R hd0 pc (by omega) n os
        have lb := fun n os => HS.out.cl R hd0 c (by omega) n os
        rw [← hx] at la
        rw [← hy] at lb
        simp only [Nat.zero_add] at la lb
        have hc := HS.out.cmp HCM.out hd0 x y
        have hv : ¬ cfP r x y < 0 := by rw [hx, hy]; exact of_decide_eq_false hlv
        have hd : decide (cfP r x y < 0) = false := decide_eq_false hv
        clear hx hy hd0 hzz
        go_wp2_with fail
        go_quiet_grown (first | (go_at_fn gP; refine Calls.grown_of (hc _ _)))
        have S2 := Lib.hid (HS.out.grown nq osq)
        clear la lb hc HS
        generalize grow (wr.drewN nq) osq = w2 at S2 ⊢
        clear nq osq
        go_wp2
        go_roundg (t - (c + 1))
        case measure => omega
        case rel => exact ⟨c + 1, t, by go_num, rfl, by omega, by omega, by omega, hth, Or.inr (by rw [HPN.out, Nat.add_sub_cancel]; exact hlv), HJ.out, S2.out⟩
    · have hlz : ¬ (s : Int) < (t : Int) := by omega
      obtain rfl : s = t := by omega
      obtain ⟨e, he⟩ : ∃ e, e = n - s := ⟨_, rfl⟩
      have ee : (n : Int) - (s : Int) = (e : Int) := by omega
      have hsm : s ≤ m := by omega
      have has : a ≤ s := by omega
      have hme : m ≤ e := by omega
      have heb : e ≤ b := by omega
      have hmid : mid + m = s + e := by omega
      have c1 : a < s → e < b → ahd r d[e]! d[s - 1]! = false := fun h1 h2 => by
        rcases HI.out with h | h
        · exfalso; omega
        · rw [← he] at h
          rw [lt_ahd r (HP.out.apart (s - 1) e (by omega) (by omega) hme h2)] at h
          exact h
      have c2 : s < m → m < e → ahd r d[s]! d[e - 1]! = false := fun h1 h2 => by
        rcases HJ.out with h | h
        · exfalso; omega
        · rw [show p - s = e - 1 by omega] at h
          rw [lt_ahd r (HP.out.apart s (e - 1) has h1 (by omega) (by omega))] at h
          exact (ahd_swo r).asymmA h
      have HC1 := Lib.hid c1
      have HC2 := Lib.hid c2
      have HMID := Lib.hid hmid
      have HE := Lib.hid he
      have hmd3 : mid ≤ b := by omega
      clear c1 c2 he hmid HI HJ
      rcases Nat.lt_or_ge s m with hA | hA
      · have dA : decide ((s : Int) < (m : Int)) = true := by simp only [decide_eq_true_eq]; omega
        have dA' : (s : Int) < (m : Int) := by omega
        have dM : decide ((mid : Int) < (e : Int)) = true := by have := HMID.out; simp only [decide_eq_true_eq]; omega
        have dM' : (mid : Int) < (e : Int) := by have := HMID.out; omega
        rcases Nat.lt_or_ge m e with hB | hB
        · have dB : decide ((m : Int) < (e : Int)) = true := by simp only [decide_eq_true_eq]; omega
          have dB' : (m : Int) < (e : Int) := by omega
          have dN : decide ((s : Int) < (mid : Int)) = true := by have := HMID.out; simp only [decide_eq_true_eq]; omega
          have dN' : (s : Int) < (mid : Int) := by have := HMID.out; omega
          have CR := HROT s e wr hA hB heb HS.out
          rcases Nat.lt_or_ge a s with hC | hC
          · have dC : decide ((a : Int) < (s : Int)) = true := by simp only [decide_eq_true_eq]; omega
            have dC' : (a : Int) < (s : Int) := by omega
            rcases Nat.lt_or_ge e b with hD | hD
            · have dD : decide ((e : Int) < (b : Int)) = true := by simp only [decide_eq_true_eq]; omega
              have dD' : (e : Int) < (b : Int) := by omega
              go_wp2_with fail
              (with_reducible refine CR.out.mono ?_)
              rintro e' w1 ⟨rfl, d1, hR, hS1⟩
              have hm1 := HMID.out
              have PL := pre_left HP.out hR hsm hme heb hm1
              have hz1 : d1.size = z := by rw [hR.size, HZ.out]
              have C1 := Lib.hid (HIH.out a s mid d1 w1 (by omega) (by omega) (by omega) (by omega) hz1 PL hS1)
              have HR := Lib.hid hR
              have HS1 := Lib.hid hS1
              clear hm1 PL hz1 hR hS1
              go_wp2_with fail
              (with_reducible refine C1.out.mono ?_)
              rintro e' w2 ⟨rfl, d2, hM1, hS2⟩
              have HM1 := Lib.hid hM1
              have HS2 := Lib.hid hS2
              clear hM1 hS2
              have hm1 := HMID.out
              have PR := pre_right HP.out HR.out has hsm hme hm1 HM1.out.1
              have hz2 : d2.size = z := by rw [HM1.out.1.1, HR.out.size, HZ.out]
              have C2 := Lib.hid (HIH.out mid e b d2 w2 (by omega) (by omega) (by omega) (by omega) hz2 PR HS2.out)
              clear hm1 PR hz2
              go_wp2_with fail
              (with_reducible refine C2.out.mono ?_)
              rintro e' w3 ⟨rfl, d3, hM2, hS3⟩
              have HM2 := Lib.hid hM2
              have HS3 := Lib.hid hS3
              clear hM2 hS3
              go_wp2
              go_end0
              exact ⟨rfl, d3, merge_all HP.out HR.out has hsm hme heb (by rw [← HZ.out]; exact hb) HMID.out HC1.out HC2.out HM1.out HM2.out, HS3.out⟩
            · have dD : decide ((e : Int) < (b : Int)) = false := by simp only [decide_eq_false_iff_not]; omega
              have dD' : ¬ (e : Int) < (b : Int) := by omega
              go_wp2_with fail
              (with_reducible refine CR.out.mono ?_)
              rintro e' w1 ⟨rfl, d1, hR, hS1⟩
              have hm1 := HMID.out
              have PL := pre_left HP.out hR hsm hme heb hm1
              have hz1 : d1.size = z := by rw [hR.size, HZ.out]
              have C1 := Lib.hid (HIH.out a s mid d1 w1 (by omega) (by omega) (by omega) (by omega) hz1 PL hS1)
              have HR := Lib.hid hR
              have HS1 := Lib.hid hS1
              clear hm1 PL hz1 hR hS1
              go_wp2_with fail
              (with_reducible refine C1.out.mono ?_)
              rintro e' w2 ⟨rfl, d2, hM1, hS2⟩
              have HM1 := Lib.hid hM1
              have HS2 := Lib.hid hS2
              clear hM1 hS2
              have hm1 := HMID.out
              have PR := pre_right HP.out HR.out has hsm hme hm1 HM1.out.1
              have hz2 : d2.size = z := by rw [HM1.out.1.1, HR.out.size, HZ.out]
              have HM2 := Lib.hid (left_done PR (by omega) (by omega))
              clear hm1 PR hz2
              go_wp2
              go_end0
              exact ⟨rfl, d2, merge_all HP.out HR.out has hsm hme heb (by rw [← HZ.out]; exact hb) HMID.out HC1.out HC2.out HM1.out HM2.out, HS2.out⟩
          · have dC : decide ((a : Int) < (s : Int)) = false := by simp only [decide_eq_false_iff_not]; omega
            have dC' : ¬ (a : Int) < (s : Int) := by omega
            rcases Nat.lt_or_ge e b with hD | hD
            · have dD : decide ((e : Int) < (b : Int)) = true := by simp only [decide_eq_true_eq]; omega
              have dD' : (e : Int) < (b : Int) := by omega
              exfalso
              have hm1 := HMID.out
              have he1 := HE.out
              omega
            · have dD : decide ((e : Int) < (b : Int)) = false := by simp only [decide_eq_false_iff_not]; omega
              have dD' : ¬ (e : Int) < (b : Int) := by omega
              go_wp2_with fail
              (with_reducible refine CR.out.mono ?_)
              rintro e' w1 ⟨rfl, d1, hR, hS1⟩
              have hm1 := HMID.out
              have PL := pre_left HP.out hR hsm hme heb hm1
              have hz1 : d1.size = z := by rw [hR.size, HZ.out]
              have M1 : Merged r d1 d1 a mid := left_done PL has (by omega)
              have HR := Lib.hid hR
              have HS1 := Lib.hid hS1
              have HM1 := Lib.hid M1
              clear hm1 PL hz1 hR hS1 M1
              have hm1 := HMID.out
              have PR := pre_right HP.out HR.out has hsm hme hm1 HM1.out.1
              have hz2 : d1.size = z := by rw [HM1.out.1.1, HR.out.size, HZ.out]
              have HM2 := Lib.hid (left_done PR (by omega) (by omega))
              clear hm1 PR hz2
              go_wp2
              go_end0
              exact ⟨rfl, d1, merge_all HP.out HR.out has hsm hme heb (by rw [← HZ.out]; exact hb) HMID.out HC1.out HC2.out HM1.out HM2.out, HS1.out⟩
        · have dB : decide ((m : Int) < (e : Int)) = false := by simp only [decide_eq_false_iff_not]; omega
          have dB' : ¬ (m : Int) < (e : Int) := by omega
          have dN : decide ((s : Int) < (mid : Int)) = false := by have := HMID.out; simp only [decide_eq_false_iff_not]; omega
          have dN' : ¬ (s : Int) < (mid : Int) := by have := HMID.out; omega
          have dD : decide ((e : Int) < (b : Int)) = true := by simp only [decide_eq_true_eq]; omega
          have dD' : (e : Int) < (b : Int) := by omega
          have hR : Rot d d s (m - s) (e - m) := by rw [show e - m = 0 by omega]; exact ⟨rfl, fun k hk => by omega, fun k hk => rfl, fun k hk => rfl⟩
          rcases Nat.lt_or_ge a s with hC | hC
          · have dC : decide ((a : Int) < (s : Int)) = true := by simp only [decide_eq_true_eq]; omega
            have dC' : (a : Int) < (s : Int) := by omega
            have hm1 := HMID.out
            have PL := pre_left HP.out hR hsm hme heb hm1
            have hz1 : d.size = z := by rw [hR.size, HZ.out]
            have M1 : Merged r d d a mid := left_done PL has (by omega)
            have HR := Lib.hid hR
            have HM1 := Lib.hid M1
            clear hm1 PL hz1 hR M1
            have hm1 := HMID.out
            have PR := pre_right HP.out HR.out has hsm hme hm1 HM1.out.1
            have hz2 : d.size = z := by rw [HM1.out.1.1, HR.out.size, HZ.out]
            have C2 := Lib.hid (HIH.out mid e b d wr (by omega) (by omega) (by omega) (by omega) hz2 PR HS.out)
            clear hm1 PR hz2
            go_wp2_with fail
            (with_reducible refine C2.out.mono ?_)
            rintro e' w3 ⟨rfl, d3, hM2, hS3⟩
            have HM2 := Lib.hid hM2
            have HS3 := Lib.hid hS3
            clear hM2 hS3
            go_wp2
            go_end0
            exact ⟨rfl, d3, merge_all HP.out HR.out has hsm hme heb (by rw [← HZ.out]; exact hb) HMID.out HC1.out HC2.out HM1.out HM2.out, HS3.out⟩
          · have dC : decide ((a : Int) < (s : Int)) = false := by simp only [decide_eq_false_iff_not]; omega
            have dC' : ¬ (a : Int) < (s : Int) := by omega
            have hm1 := HMID.out
            have PL := pre_left HP.out hR hsm hme heb hm1
            have hz1 : d.size = z := by rw [hR.size, HZ.out]
            have M1 : Merged r d d a mid := left_done PL has (by omega)
            have HR := Lib.hid hR
            have HM1 := Lib.hid M1
            clear hm1 PL hz1 hR M1
            have hm1 := HMID.out
            have PR := pre_right HP.out HR.out has hsm hme hm1 HM1.out.1
            have hz2 : d.size = z := by rw [HM1.out.1.1, HR.out.size, HZ.out]
            have C2 := Lib.hid (HIH.out mid e b d wr (by omega) (by omega) (by omega) (by omega) hz2 PR HS.out)
            clear hm1 PR hz2
            go_wp2_with fail
            (with_reducible refine C2.out.mono ?_)
            rintro e' w3 ⟨rfl, d3, hM2, hS3⟩
            have HM2 := Lib.hid hM2
            have HS3 := Lib.hid hS3
            clear hM2 hS3
            go_wp2
            go_end0
            exact ⟨rfl, d3, merge_all HP.out HR.out has hsm hme heb (by rw [← HZ.out]; exact hb) HMID.out HC1.out HC2.out HM1.out HM2.out, HS3.out⟩
      · have dA : decide ((s : Int) < (m : Int)) = false := by simp only [decide_eq_false_iff_not]; omega
        have dA' : ¬ (s : Int) < (m : Int) := by omega
        have dM : decide ((mid : Int) < (e : Int)) = false := by have := HMID.out; simp only [decide_eq_false_iff_not]; omega
        have dM' : ¬ (mid : Int) < (e : Int) := by have := HMID.out; omega
        have dC : decide ((a : Int) < (s : Int)) = true := by simp only [decide_eq_true_eq]; omega
        have dC' : (a : Int) < (s : Int) := by omega
        have hR : Rot d d s (m - s) (e - m) := by rw [show m - s = 0 by omega]; exact ⟨rfl, fun k hk => rfl, fun k hk => by omega, fun k hk => rfl⟩
        rcases Nat.lt_or_ge m e with hB | hB
        · have dN : decide ((s : Int) < (mid : Int)) = true := by have := HMID.out; simp only [decide_eq_true_eq]; omega
          have dN' : (s : Int) < (mid : Int) := by have := HMID.out; omega
          exfalso
          have hm1 := HMID.out
          have he1 := HE.out
          omega
        · have dN : decide ((s : Int) < (mid : Int)) = false := by have := HMID.out; simp only [decide_eq_false_iff_not]; omega
          have dN' : ¬ (s : Int) < (mid : Int) := by have := HMID.out; omega
          exfalso
          have hm1 := HMID.out
          have he1 := HE.out
          omega
end Go.Proofs.Ytaebbfaheaghfaa

namespace Go.Proofs.Ytaebbfaheaghfaa
open Go.RowKit Go.Shelf Go.Sort Go.Lib

set_option maxHeartbeats 64000000 in
set_option maxRecDepth 1000000 in
theorem sym_le {q : Nat} {r : Fin (q + 1) → Int} {cb : Array Value} (blk cap a m b mid : Nat) (d0 d : Array (Fin (q + 1))) (w0 w : World) (hcmp : CmpLays1 Try.prog gP cb encP (cfP r) blk 0 d0.size w0) (R : Row1 encP w0 blk 0 d0) (hs : d0.size = d.size) (S : SW encP w0 blk 0 d w) (ham : a + 1 < m) (hmb : m + 1 < b) (hb : b ≤ d.size) (hsz : d.size < 1000000) (hmid : mid = (a + b) / 2) (hgm : m ≤ mid) (P : Pre r d a m b)
    (IH : ∀ (a' m' b' : Nat) (dk : Array (Fin (q + 1))) (W : World), b' - a' < b - a → a' < m' → m' < b' → b' ≤ d.size → dk.size = d.size → Pre r dk a' m' b' → SW encP w0 blk 0 dk W → Calls Try.prog 66 #[.slice (some ⟨blk, 0, none⟩) d.size cap, .int .i64 a', .int .i64 m', .int .i64 b', .func (.func gP) #[] cb] W fun e w' => e = .returned (.tuple #[]) ∧ ∃ d', Merged r dk d' a' b' ∧ SW encP w0 blk 0 d' w') :
    Calls Try.prog 66 #[.slice (some ⟨blk, 0, none⟩) d.size cap, .int .i64 a, .int .i64 m, .int .i64 b, .func (.func gP) #[] cb] w fun e w' => e = .returned (.tuple #[]) ∧ ∃ d', Merged r d d' a b ∧ SW encP w0 blk 0 d' w' := by
  have mixed := srtLay.mixed
  have eg := eg_any
  have S0 := Lib.hid S
  have HCM := Lib.hid hcmp
  have HP := Lib.hid P
  have HIH := Lib.hid IH
  have HROT := fun (s e : Nat) W (h1 : s < m) (h2 : m < e) (h3 : e ≤ b) (hS : SW encP w0 blk 0 d W) => Lib.hid (rotate_any blk cap s m e (.func (.func gP) #[] cb) d0 d w0 W R hs hS h1 h2 (by omega) hsz)
  obtain ⟨z, hz⟩ : ∃ z, z = d.size := ⟨_, rfl⟩
  have HZ := Lib.hid hz
  have HD0 := Lib.hid hs.symm
  rw [← hz] at hs hb hsz HIH HROT ⊢
  have HSZ := Lib.hid hs
  have ea1 : ((m : Int) - (a : Int) == 1) = false := by simp; omega
  have ea2 : ¬ ((m : Int) - (a : Int) = 1) := by omega
  have eb1 : ((b : Int) - (m : Int) == 1) = false := by simp; omega
  have eb2 : ¬ ((b : Int) - (m : Int) = 1) := by omega
  have emid : ((a : Int) + (b : Int)) / 2 = (mid : Int) := by omega
  have hmd1 : 2 * mid ≤ a + b := by omega
  have hmd2 : a + b ≤ 2 * mid + 1 := by omega
  obtain ⟨n, hn⟩ : ∃ n, n = mid + m := ⟨_, rfl⟩
  have en : (mid : Int) + (m : Int) = (n : Int) := by omega
  obtain ⟨p, hp⟩ : ∃ p, p + 1 = n := ⟨n - 1, by omega⟩
  have ep : (n : Int) - 1 = (p : Int) := by omega
  obtain ⟨lo, hlo⟩ : ∃ lo, lo = a := ⟨_, rfl⟩
  obtain ⟨hi, hhi⟩ : ∃ hi, hi = m := ⟨_, rfl⟩
  have dgm : decide ((mid : Int) < (m : Int)) = false := by simp only [decide_eq_false_iff_not]; omega
  have dgm' : ¬ (mid : Int) < (m : Int) := by omega
  have lo1 : lo ≤ a := by omega
  have lo2 : a ≤ lo := by omega
  have hi1 : hi ≤ m := by omega
  have hi2 : m ≤ hi := by omega
  clear hlo hhi
  have HN := Lib.hid hn
  have HPP := Lib.hid hp
  have bn1 : n ≤ mid + m := by omega
  have bn2 : mid + m ≤ n := by omega
  have bp1 : p < n := by omega
  have bp2 : n < p + 2 := by omega
  clear S hcmp hz hs hmid P IH hn hp
  go_enter Try.func66, Try.ntmps66
  go_wp2
  go_loopg [20, 21] (hi - lo) (fun g c20 c21 wr => ∃ (s t : Nat), c20 = .int .i64 s ∧ c21 = .int .i64 t ∧ t ≤ g + s ∧ lo ≤ s ∧ s ≤ t ∧ t ≤ hi ∧ Hid (s = lo ∨ ltOf (cfP r) d[n - s]! d[s - 1]! = false) ∧ Hid (t = hi ∨ ltOf (cfP r) d[p - t]! d[t]! = true) ∧ Hid (SW encP w0 blk 0 d wr))
  case atStart => exact ⟨lo, hi, by first | rfl | (congr 1; omega), by first | rfl | (congr 1; omega), by omega, Nat.le_refl _, by omega, Nat.le_refl _, Or.inl rfl, Or.inl rfl, S0.out⟩
  case round =>
    obtain ⟨s, t, rfl, rfl, hg, hls, hst, hth, HI, HJ, HS⟩ := hrel
    clear S0
    by_cases hlt : s < t
    · have hlz : (s : Int) < (t : Int) := by omega
      obtain ⟨c, hc0⟩ : ∃ c, c = (s + t) / 2 := ⟨_, rfl⟩
      have eh : ((s : Int) + (t : Int)) / 2 = (c : Int) := by omega
      have h1 : s ≤ c := by omega
      have h2 : c < t := by omega
      clear hc0
      obtain ⟨pc, hpc⟩ : ∃ pc, pc = p - c := ⟨_, rfl⟩
      have ec : (p : Int) - (c : Int) = (pc : Int) := by omega
      have rc : IntKind.i64.wrap ((p : Int) - (c : Int)) = (pc : Int) := by rw [IntKind.wrap_i64]; omega
      have rd : IntKind.i64.wrap (pc : Int) = (pc : Int) := by rw [IntKind.wrap_i64]; omega
      have hpc1 : pc < z := by omega
      have hcz : c < z := by omega
      have b1 : (0 : Int) ≤ (c : Int) := by omega
      have b2 : (c : Int) < (z : Int) := by omega
      have b3 : (0 : Int) ≤ (pc : Int) := by omega
      have b4 : (pc : Int) < (z : Int) := by omega
      have hpn : n - (c + 1) = pc := by omega
      have HPC := Lib.hid hpc
      have HPN := Lib.hid hpn
      clear hpc hpn
      cases hlv : ltOf (cfP r) d[pc]! d[c]! with
      | true =>
        have hd0 := HD0.out
        have hzz := HSZ.out
        obtain ⟨x, hx⟩ : ∃ x, x = d[pc]! := ⟨_, rfl⟩
        obtain ⟨y, hy⟩ : ∃ x, x = d[c]! := ⟨_, rfl⟩
        have la := fun n os => HS.out.cl R hd0 pc (by omega) n os
        have lb := fun n os => HS.out.cl R hd0 c (by omega) n os
        rw [← hx] at la
        rw [← hy] at lb
        simp only [Nat.zero_add] at la lb
        have hc := HS.out.cmp HCM.out hd0 x y
        have hv : cfP r x y < 0 := by rw [hx, hy]; exact of_decide_eq_true hlv
        have hd : decide (cfP r x y < 0) = true := decide_eq_true hv
        clear hx hy hd0 hzz
        go_wp2_with fail
        go_quiet_grown (first | (go_at_fn gP; refine Calls.grown_of (hc _ _)))
        have S2 := Lib.hid (HS.out.grown nq osq)
        clear la lb hc HS
        generalize grow (wr.drewN nq) osq = w2 at S2 ⊢
        clear nq osq
        go_wp2
        go_roundg (c - s)
        case measure => omega
        case rel => exact ⟨s, c, rfl, rfl, by omega, hls, by omega, by omega, HI.out, Or.inr (by rw [← HPC.out]; exact hlv), S2.out⟩
      | false =>
        have hd0 := HD0.out
        have hzz := HSZ.out
        obtain ⟨x, hx⟩ : ∃ x, x = d[pc]! := ⟨_, rfl⟩
        obtain ⟨y, hy⟩ : ∃ x, x = d[c]! := ⟨_, rfl⟩
        have la := fun n os => HS.out.cl R hd0 pc (by omega) n os
        have lb := fun n os => HS.out.cl R hd0 c (by omega) n os
        rw [← hx] at la
        rw [← hy] at lb
        simp only [Nat.zero_add] at la lb
        have hc := HS.out.cmp HCM.out hd0 x y
        have hv : ¬ cfP r x y < 0 := by rw [hx, hy]; exact of_decide_eq_false hlv
        have hd : decide (cfP r x y < 0) = false := decide_eq_false hv
        clear hx hy hd0 hzz
        go_wp2_with fail
        go_quiet_grown (first | (go_at_fn gP; refine Calls.grown_of (hc _ _)))
        have S2 := Lib.hid (HS.out.grown nq osq)
        clear la lb hc HS
        generalize grow (wr.drewN nq) osq = w2 at S2 ⊢
        clear nq osq
        go_wp2
        go_roundg (t - (c + 1))
        case measure => omega
        case rel => exact ⟨c + 1, t, by go_num, rfl, by omega, by omega, by omega, hth, Or.inr (by rw [HPN.out, Nat.add_sub_cancel]; exact hlv), HJ.out, S2.out⟩
    · have hlz : ¬ (s : Int) < (t : Int) := by omega
      obtain rfl : s = t := by omega
      obtain ⟨e, he⟩ : ∃ e, e = n - s := ⟨_, rfl⟩
      have ee : (n : Int) - (s : Int) = (e : Int) := by omega
      have hsm : s ≤ m := by omega
      have has : a ≤ s := by omega
      have hme : m ≤ e := by omega
      have heb : e ≤ b := by omega
      have hmid : mid + m = s + e := by omega
      have c1 : a < s → e < b → ahd r d[e]! d[s - 1]! = false := fun h1 h2 => by
        rcases HI.out with h | h
        · exfalso; omega
        · rw [← he] at h
          rw [lt_ahd r (HP.out.apart (s - 1) e (by omega) (by omega) hme h2)] at h
          exact h
      have c2 : s < m → m < e → ahd r d[s]! d[e - 1]! = false := fun h1 h2 => by
        rcases HJ.out with h | h
        · exfalso; omega
        · rw [show p - s = e - 1 by omega] at h
          rw [lt_ahd r (HP.out.apart s (e - 1) has h1 (by omega) (by omega))] at h
          exact (ahd_swo r).asymmA h
      have HC1 := Lib.hid c1
      have HC2 := Lib.hid c2
      have HMID := Lib.hid hmid
      have HE := Lib.hid he
      have hmd3 : mid ≤ b := by omega
      clear c1 c2 he hmid HI HJ
      rcases Nat.lt_or_ge s m with hA | hA
      · have dA : decide ((s : Int) < (m : Int)) = true := by simp only [decide_eq_true_eq]; omega
        have dA' : (s : Int) < (m : Int) := by omega
        have dM : decide ((mid : Int) < (e : Int)) = true := by have := HMID.out; simp only [decide_eq_true_eq]; omega
        have dM' : (mid : Int) < (e : Int) := by have := HMID.out; omega
        rcases Nat.lt_or_ge m e with hB | hB
        · have dB : decide ((m : Int) < (e : Int)) = true := by simp only [decide_eq_true_eq]; omega
          have dB' : (m : Int) < (e : Int) := by omega
          have dN : decide ((s : Int) < (mid : Int)) = true := by have := HMID.out; simp only [decide_eq_true_eq]; omega
          have dN' : (s : Int) < (mid : Int) := by have := HMID.out; omega
          have CR := HROT s e wr hA hB heb HS.out
          rcases Nat.lt_or_ge a s with hC | hC
          · have dC : decide ((a : Int) < (s : Int)) = true := by simp only [decide_eq_true_eq]; omega
            have dC' : (a : Int) < (s : Int) := by omega
            rcases Nat.lt_or_ge e b with hD | hD
            · have dD : decide ((e : Int) < (b : Int)) = true := by simp only [decide_eq_true_eq]; omega
              have dD' : (e : Int) < (b : Int) := by omega
              go_wp2_with fail
              (with_reducible refine CR.out.mono ?_)
              rintro e' w1 ⟨rfl, d1, hR, hS1⟩
              have hm1 := HMID.out
              have PL := pre_left HP.out hR hsm hme heb hm1
              have hz1 : d1.size = z := by rw [hR.size, HZ.out]
              have C1 := Lib.hid (HIH.out a s mid d1 w1 (by omega) (by omega) (by omega) (by omega) hz1 PL hS1)
              have HR := Lib.hid hR
              have HS1 := Lib.hid hS1
              clear hm1 PL hz1 hR hS1
              go_wp2_with fail
              (with_reducible refine C1.out.mono ?_)
              rintro e' w2 ⟨rfl, d2, hM1, hS2⟩
              have HM1 := Lib.hid hM1
              have HS2 := Lib.hid hS2
              clear hM1 hS2
              have hm1 := HMID.out
              have PR := pre_right HP.out HR.out has hsm hme hm1 HM1.out.1
              have hz2 : d2.size = z := by rw [HM1.out.1.1, HR.out.size, HZ.out]
              have C2 := Lib.hid (HIH.out mid e b d2 w2 (by omega) (by omega) (by omega) (by omega) hz2 PR HS2.out)
              clear hm1 PR hz2
              go_wp2_with fail
              (with_reducible refine C2.out.mono ?_)
              rintro e' w3 ⟨rfl, d3, hM2, hS3⟩
              have HM2 := Lib.hid hM2
              have HS3 := Lib.hid hS3
              clear hM2 hS3
              go_wp2
              go_end0
              exact ⟨rfl, d3, merge_all HP.out HR.out has hsm hme heb (by rw [← HZ.out]; exact hb) HMID.out HC1.out HC2.out HM1.out HM2.out, HS3.out⟩
            · have dD : decide ((e : Int) < (b : Int)) = false := by simp only [decide_eq_false_iff_not]; omega
              have dD' : ¬ (e : Int) < (b : Int) := by omega
              exfalso
              have hm1 := HMID.out
              have he1 := HE.out
              omega
          · have dC : decide ((a : Int) < (s : Int)) = false := by simp only [decide_eq_false_iff_not]; omega
            have dC' : ¬ (a : Int) < (s : Int) := by omega
            rcases Nat.lt_or_ge e b with hD | hD
            · have dD : decide ((e : Int) < (b : Int)) = true := by simp only [decide_eq_true_eq]; omega
              have dD' : (e : Int) < (b : Int) := by omega
              go_wp2_with fail
              (with_reducible refine CR.out.mono ?_)
              rintro e' w1 ⟨rfl, d1, hR, hS1⟩
              have hm1 := HMID.out
              have PL := pre_left HP.out hR hsm hme heb hm1
              have hz1 : d1.size = z := by rw [hR.size, HZ.out]
              have M1 : Merged r d1 d1 a mid := left_done PL has (by omega)
              have HR := Lib.hid hR
              have HS1 := Lib.hid hS1
              have HM1 := Lib.hid M1
              clear hm1 PL hz1 hR hS1 M1
              have hm1 := HMID.out
              have PR := pre_right HP.out HR.out has hsm hme hm1 HM1.out.1
              have hz2 : d1.size = z := by rw [HM1.out.1.1, HR.out.size, HZ.out]
              have C2 := Lib.hid (HIH.out mid e b d1 w1 (by omega) (by omega) (by omega) (by omega) hz2 PR HS1.out)
              clear hm1 PR hz2
              go_wp2_with fail
              (with_reducible refine C2.out.mono ?_)
              rintro e' w3 ⟨rfl, d3, hM2, hS3⟩
              have HM2 := Lib.hid hM2
              have HS3 := Lib.hid hS3
              clear hM2 hS3
              go_wp2
              go_end0
              exact ⟨rfl, d3, merge_all HP.out HR.out has hsm hme heb (by rw [← HZ.out]; exact hb) HMID.out HC1.out HC2.out HM1.out HM2.out, HS3.out⟩
            · have dD : decide ((e : Int) < (b : Int)) = false := by simp only [decide_eq_false_iff_not]; omega
              have dD' : ¬ (e : Int) < (b : Int) := by omega
              go_wp2_with fail
              (with_reducible refine CR.out.mono ?_)
              rintro e' w1 ⟨rfl, d1, hR, hS1⟩
              have hm1 := HMID.out
              have PL := pre_left HP.out hR hsm hme heb hm1
              have hz1 : d1.size = z := by rw [hR.size, HZ.out]
              have M1 : Merged r d1 d1 a mid := left_done PL has (by omega)
              have HR := Lib.hid hR
              have HS1 := Lib.hid hS1
              have HM1 := Lib.hid M1
              clear hm1 PL hz1 hR hS1 M1
              have hm1 := HMID.out
              have PR := pre_right HP.out HR.out has hsm hme hm1 HM1.out.1
              have hz2 : d1.size = z := by rw [HM1.out.1.1, HR.out.size, HZ.out]
              have HM2 := Lib.hid (left_done PR (by omega) (by omega))
              clear hm1 PR hz2
              go_wp2
              go_end0
              exact ⟨rfl, d1, merge_all HP.out HR.out has hsm hme heb (by rw [← HZ.out]; exact hb) HMID.out HC1.out HC2.out HM1.out HM2.out, HS1.out⟩
        · have dB : decide ((m : Int) < (e : Int)) = false := by simp only [decide_eq_false_iff_not]; omega
          have dB' : ¬ (m : Int) < (e : Int) := by omega
          have dN : decide ((s : Int) < (mid : Int)) = false := by have := HMID.out; simp only [decide_eq_false_iff_not]; omega
          have dN' : ¬ (s : Int) < (mid : Int) := by have := HMID.out; omega
          have dD : decide ((e : Int) < (b : Int)) = true := by simp only [decide_eq_true_eq]; omega
          have dD' : (e : Int) < (b : Int) := by omega
          have hR : Rot d d s (m - s) (e - m) := by rw [show e - m = 0 by omega]; exact ⟨rfl, fun k hk => by omega, fun k hk => rfl, fun k hk => rfl⟩
          rcases Nat.lt_or_ge a s with hC | hC
          · have dC : decide ((a : Int) < (s : Int)) = true := by simp only [decide_eq_true_eq]; omega
            have dC' : (a : Int) < (s : Int) := by omega
            exfalso
            have hm1 := HMID.out
            have he1 := HE.out
            omega
          · have dC : decide ((a : Int) < (s : Int)) = false := by simp only [decide_eq_false_iff_not]; omega
            have dC' : ¬ (a : Int) < (s : Int) := by omega
            exfalso
            have hm1 := HMID.out
            have he1 := HE.out
            omega
      · have dA : decide ((s : Int) < (m : Int)) = false := by simp only [decide_eq_false_iff_not]; omega
        have dA' : ¬ (s : Int) < (m : Int) := by omega
        have dM : decide ((mid : Int) < (e : Int)) = false := by have := HMID.out; simp only [decide_eq_false_iff_not]; omega
        have dM' : ¬ (mid : Int) < (e : Int) := by have := HMID.out; omega
        have dC : decide ((a : Int) < (s : Int)) = true := by simp only [decide_eq_true_eq]; omega
        have dC' : (a : Int) < (s : Int) := by omega
        have hR : Rot d d s (m - s) (e - m) := by rw [show m - s = 0 by omega]; exact ⟨rfl, fun k hk => rfl, fun k hk => by omega, fun k hk => rfl⟩
        rcases Nat.lt_or_ge m e with hB | hB
        · have dN : decide ((s : Int) < (mid : Int)) = true := by have := HMID.out; simp only [decide_eq_true_eq]; omega
          have dN' : (s : Int) < (mid : Int) := by have := HMID.out; omega
          have hm1 := HMID.out
          have PL := pre_left HP.out hR hsm hme heb hm1
          have hz1 : d.size = z := by rw [hR.size, HZ.out]
          have C1 := Lib.hid (HIH.out a s mid d wr (by omega) (by omega) (by omega) (by omega) hz1 PL HS.out)
          have HR := Lib.hid hR
          clear hm1 PL hz1 hR
          go_wp2_with fail
          (with_reducible refine C1.out.mono ?_)
          rintro e' w2 ⟨rfl, d2, hM1, hS2⟩
          have HM1 := Lib.hid hM1
          have HS2 := Lib.hid hS2
          clear hM1 hS2
          have hm1 := HMID.out
          have PR := pre_right HP.out HR.out has hsm hme hm1 HM1.out.1
          have hz2 : d2.size = z := by rw [HM1.out.1.1, HR.out.size, HZ.out]
          have HM2 := Lib.hid (left_done PR (by omega) (by omega))
          clear hm1 PR hz2
          go_wp2
          go_end0
          exact ⟨rfl, d2, merge_all HP.out HR.out has hsm hme heb (by rw [← HZ.out]; exact hb) HMID.out HC1.out HC2.out HM1.out HM2.out, HS2.out⟩
        · have dN : decide ((s : Int) < (mid : Int)) = false := by have := HMID.out; simp only [decide_eq_false_iff_not]; omega
          have dN' : ¬ (s : Int) < (mid : Int) := by have := HMID.out; omega
          have hm1 := HMID.out
          have PL := pre_left HP.out hR hsm hme heb hm1
          have hz1 : d.size = z := by rw [hR.size, HZ.out]
          have M1 : Merged r d d a mid := left_done PL has (by omega)
          have HR := Lib.hid hR
          have HM1 := Lib.hid M1
          clear hm1 PL hz1 hR M1
          have hm1 := HMID.out
          have PR := pre_right HP.out HR.out has hsm hme hm1 HM1.out.1
          have hz2 : d.size = z := by rw [HM1.out.1.1, HR.out.size, HZ.out]
          have HM2 := Lib.hid (left_done PR (by omega) (by omega))
          clear hm1 PR hz2
          go_wp2
          go_end0
          exact ⟨rfl, d, merge_all HP.out HR.out has hsm hme heb (by rw [← HZ.out]; exact hb) HMID.out HC1.out HC2.out HM1.out HM2.out, HS.out⟩
end Go.Proofs.Ytaebbfaheaghfaa
