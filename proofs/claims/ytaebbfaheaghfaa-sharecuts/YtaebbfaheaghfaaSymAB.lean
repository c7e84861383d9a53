/- slices.symMergeCmpFunc at []int: one place on the left. slices.symMergeCmpFunc at []int: one place on the right. -/
import Derived.Test.YtaebbfaheaghfaaSwapRot

namespace Go.Proofs.Ytaebbfaheaghfaa
open Go.RowKit Go.Shelf Go.Sort Go.Lib

section
variable {α : Type} [Inhabited α] {d d' : Array α}
/-- a place moved up, one exchange after the other -/
theorem rot_up {x j : Nat} (h : Rot d d' x 1 j) (hx : x + j + 1 < d.size) : Rot d (swp d' (x + j) (x + j + 1)) x 1 (j + 1) := by
  have hz := h.size
  have h0 := h.snd 0 (by omega)
  have hn := h.out (x + j + 1) (by omega)
  refine ⟨by rw [size_swp, h.size], fun k hk => ?_, fun k hk => ?_, fun k hk => ?_⟩
  · by_cases e : k = j
    · subst e
      rw [swp_left d' _ _ (by omega) (by omega), hn]
      congr 1; omega
    · rw [swp_other d' _ _ _ (by omega) (by omega)]; exact h.fst k (by omega)
  · obtain rfl : k = 0 := by omega
    rw [show x + (j + 1) + 0 = x + j + 1 by omega, swp_right d' _ _ (by omega)]
    exact h0
  · rw [swp_other d' _ _ _ (by omega) (by omega)]; exact h.out k (by omega)
theorem rot_none (x : Nat) : Rot d d x 1 0 := ⟨rfl, fun k hk => by omega, fun k hk => rfl, fun k hk => rfl⟩
end

set_option maxHeartbeats 16000000 in
set_option maxRecDepth 1000000 in
theorem sym_one {q : Nat} {r : Fin (q + 1) → Int} {cb : Array Value} (blk cap a m b : Nat) (d0 d : Array (Fin (q + 1))) (w0 w : World) (hcmp : CmpLays1 Try.prog gP cb encP (cfP r) blk 0 d0.size w0) (R : Row1 encP w0 blk 0 d0) (hs : d0.size = d.size) (S : SW encP w0 blk 0 d w) (hm : m = a + 1) (hmb : m < b) (hb : b ≤ d.size) (hsz : d.size < 1000000) :
    Calls Try.prog 66 #[.slice (some ⟨blk, 0, none⟩) d.size cap, .int .i64 a, .int .i64 m, .int .i64 b, .func (.func gP) #[] cb] w fun e w' => e = .returned (.tuple #[]) ∧ ∃ d' i, m ≤ i ∧ i ≤ b ∧ Rot d d' a 1 (i - m) ∧ (i = m ∨ ltOf (cfP r) d[i - 1]! d[a]! = true) ∧ (i = b ∨ ltOf (cfP r) d[i]! d[a]! = false) ∧ SW encP w0 blk 0 d' w' := by
  have mixed := srtLay.mixed
  have eg := eg_any
  have S0 := Lib.hid S
  have HCM := Lib.hid hcmp
  obtain ⟨z, hz⟩ : ∃ z, z = d.size := ⟨_, rfl⟩
  have HZ := Lib.hid hz
  have HD0 := Lib.hid hs.symm
  rw [← hz] at hs hb hsz ⊢
  have HSZ := Lib.hid hs
  have em : (m : Int) - (a : Int) = 1 := by omega
  have am1 : a < m := by omega
  have am2 : m < a + 2 := by omega
  clear S hcmp hz hs hm
  go_enter Try.func66, Try.ntmps66
  go_wp2
  go_loopg [10, 11] (b - m) (fun g c10 c11 wr => ∃ (i j : Nat), c10 = .int .i64 i ∧ c11 = .int .i64 j ∧ j ≤ g + i ∧ m ≤ i ∧ i ≤ j ∧ j ≤ b ∧ Hid (i = m ∨ ltOf (cfP r) d[i - 1]! d[a]! = true) ∧ Hid (j = b ∨ ltOf (cfP r) d[j]! d[a]! = false) ∧ Hid (SW encP w0 blk 0 d wr))
  case atStart => exact ⟨m, b, rfl, rfl, by omega, Nat.le_refl _, by omega, Nat.le_refl _, Or.inl rfl, Or.inl rfl, S0.out⟩
  case round =>
    obtain ⟨i, j, rfl, rfl, hg, hmi, hij, hjb, HI, HJ, HS⟩ := hrel
    clear S0
    by_cases hlt : i < j
    · have hlz : (i : Int) < (j : Int) := by omega
      obtain ⟨h, hh⟩ : ∃ h, h = (i + j) / 2 := ⟨_, rfl⟩
      have eh : ((i : Int) + (j : Int)) / 2 = (h : Int) := by omega
      have h1 : i ≤ h := by omega
      have h2 : h < j := by omega
      have b1 : (0 : Int) ≤ (h : Int) := by omega
      have b2 : (h : Int) < (z : Int) := by omega
      have b3 : (0 : Int) ≤ (a : Int) := by omega
      have b4 : (a : Int) < (z : Int) := by omega
      clear hh
      cases hlv : ltOf (cfP r) d[h]! d[a]! with
      | true =>
        have hd0 := HD0.out
        have hzz := HSZ.out
        obtain ⟨x, hx⟩ : ∃ x, x = d[h]! := ⟨_, rfl⟩
        obtain ⟨y, hy⟩ : ∃ x, x = d[a]! := ⟨_, rfl⟩
        have la := fun n os => HS.out.cl R hd0 h (by omega) n os
        have lb := fun n os => HS.out.cl R hd0 a (by omega) n os
        rw [← hx] at la
        rw [← hy] at lb
        simp only [Nat.zero_add] at la lb
        have hc := HS.out.cmp HCM.out hd0 x y
        have hv : cfP r x y < 0 := by rw [hx, hy]; exact of_decide_eq_true hlv
        have hd : decide (cfP r x y < 0) = true := decide_eq_true hv
        clear hx hy hd0 hzz
        go_wp2_with fail
        go_quiet_grown (first | (go_at_fn gP; refine Calls.grown_of (hc _ _)))
        have S2 := Lib.hid (HS.out.grown nq osq)
        clear la lb hc HS
        generalize grow (wr.drewN nq) osq = w2 at S2 ⊢
        clear nq osq
        go_wp2
        go_roundg (j - (h + 1))
        case measure => omega
        case rel => exact ⟨h + 1, j, by go_num, rfl, by omega, by omega, by omega, hjb, Or.inr (by rw [Nat.add_sub_cancel]; exact hlv), HJ.out, S2.out⟩
      | false =>
        have hd0 := HD0.out
        have hzz := HSZ.out
        obtain ⟨x, hx⟩ : ∃ x, x = d[h]! := ⟨_, rfl⟩
        obtain ⟨y, hy⟩ : ∃ x, x = d[a]! := ⟨_, rfl⟩
        have la := fun n os => HS.out.cl R hd0 h (by omega) n os
        have lb := fun n os => HS.out.cl R hd0 a (by omega) n os
        rw [← hx] at la
        rw [← hy] at lb
        simp only [Nat.zero_add] at la lb
        have hc := HS.out.cmp HCM.out hd0 x y
        have hv : ¬ cfP r x y < 0 := by rw [hx, hy]; exact of_decide_eq_false hlv
        have hd : decide (cfP r x y < 0) = false := decide_eq_false hv
        clear hx hy hd0 hzz
        go_wp2_with fail
        go_quiet_grown (first | (go_at_fn gP; refine Calls.grown_of (hc _ _)))
        have S2 := Lib.hid (HS.out.grown nq osq)
        clear la lb hc HS
        generalize grow (wr.drewN nq) osq = w2 at S2 ⊢
        clear nq osq
        go_wp2
        go_roundg (h - i)
        case measure => omega
        case rel => exact ⟨i, h, rfl, rfl, by omega, hmi, by omega, by omega, HI.out, Or.inr hlv, S2.out⟩
    · have hlz : ¬ (i : Int) < (j : Int) := by omega
      obtain rfl : i = j := by omega
      go_wp2
      go_loopg [13] (i - m) (fun g c13 wr => ∃ (k : Nat) (dk : Array (Fin (q + 1))), c13 = .int .i64 k ∧ k + g + 1 = i ∧ a ≤ k ∧ Hid (Rot d dk a 1 (k - a)) ∧ Hid (SW encP w0 blk 0 dk wr))
      case atStart => exact ⟨a, d, rfl, by omega, Nat.le_refl _, by show Rot d d a 1 (a - a); rw [Nat.sub_self]; exact rot_none a, HS.out⟩
      case round =>
        obtain ⟨k, dk, rfl, hk, hak, HR, HK⟩ := hrel
        clear HS
        by_cases hlt2 : k + 1 < i
        · have hl2 : (k : Int) < (i : Int) - 1 := by omega
          have hdk : dk.size = z := by rw [HR.out.size, ← HZ.out]
          have hd1 : dk.size = d0.size := by have := HSZ.out; omega
          obtain ⟨p, hp⟩ : ∃ p, p = k + 1 := ⟨_, rfl⟩
          have ec : (k : Int) + 1 = (p : Int) := by omega
          have b1 : (0 : Int) ≤ (k : Int) := by omega
          have b2 : (k : Int) < (z : Int) := by omega
          have b3 : (0 : Int) ≤ (p : Int) := by omega
          have b4 : (p : Int) < (z : Int) := by omega
          have rc : IntKind.i64.wrap ((k : Int) + 1) = (p : Int) := by rw [IntKind.wrap_i64]; omega
          have HP := Lib.hid hp
          obtain ⟨x, hx⟩ : ∃ x, x = dk[k]! := ⟨_, rfl⟩
          obtain ⟨y, hy⟩ : ∃ x, x = dk[p]! := ⟨_, rfl⟩
          have S3 := Lib.hid (HK.out.swapped R k p (by omega) (by omega))
          have ca := HK.out.c1 R hd1 k (by omega)
          have cb' := HK.out.c1 R hd1 p (by omega)
          have fa := HK.out.f1 R hd1 k (by omega)
          have fb := HK.out.f1 R hd1 p (by omega)
          obtain ⟨u, cc⟩ := HK.out.c2 R hd1 k p (by omega) (by omega) (encP y)
          rw [← hx, ← hy] at S3
          rw [← hx] at ca
          rw [← hy] at cb'
          rw [Nat.zero_add] at ca cb' fa fb
          rw [Nat.zero_add, Nat.zero_add] at cc S3
          clear HK hx hy hdk hd1 hp
          go_wp2_with fail
          go_big_region_o
          clear ca cb' cc fa fb
          generalize ((wr.setCell ⟨blk, k, none⟩ (.int .i64 ((y.val : Nat) : Int))).setCell ⟨blk, p, none⟩ (.int .i64 ((x.val : Nat) : Int))).drew = w3 at S3 ⊢
          go_wp2
          go_roundg (gk - 1)
          case measure => omega
          case rel =>
            have hp := HP.out
            refine ⟨p, swp dk k p, by first | rfl | go_num, by omega, by omega, ?_, S3.out⟩
            have h3 := rot_up HR.out (by rw [← HZ.out]; omega)
            rw [show a + (k - a) = k by omega, show k - a + 1 = p - a by omega, ← HP.out] at h3
            exact h3
        · have hl2 : ¬ (k : Int) < (i : Int) - 1 := by omega
          go_wp2
          refine bodyPost_ret (v := .tuple #[]) (by simp [results, Try.results66, go_sem]) rfl ⟨rfl, dk, i, hmi, hjb, ?_, HI.out, HJ.out, HK.out⟩
          have h3 := HR.out
          rw [show k - a = i - m by omega] at h3
          exact h3
end Go.Proofs.Ytaebbfaheaghfaa

namespace Go.Proofs.Ytaebbfaheaghfaa
open Go.RowKit Go.Shelf Go.Sort Go.Lib

section
variable {α : Type} [Inhabited α] {d d' : Array α}
/-- a place moved down, one exchange after the other -/
theorem rot_down {x i : Nat} (h : Rot d d' (x + 1) i 1) (hx : x + 1 + i < d.size) : Rot d (swp d' (x + 1) x) x (i + 1) 1 := by
  have hz := h.size
  have h0 := h.fst 0 (by omega)
  have hn := h.out x (by omega)
  refine ⟨by rw [size_swp, h.size], fun k hk => ?_, fun k hk => ?_, fun k hk => ?_⟩
  · obtain rfl : k = 0 := by omega
    show (swp d' (x + 1) x)[x]! = d[x + (i + 1)]!
    have h0' : d'[x + 1]! = d[x + 1 + i]! := h0
    rw [swp_right d' (x + 1) x (by omega), h0']
    congr 1; omega
  · by_cases e : k = 0
    · subst e
      show (swp d' (x + 1) x)[x + 1]! = d[x]!
      rw [swp_left d' (x + 1) x (by omega) (by omega), hn]
    · have h3 := h.snd (k - 1) (by omega)
      rw [swp_other d' _ _ _ (by omega) (by omega), show x + 1 + k = x + 1 + 1 + (k - 1) by omega, h3]
      congr 1; omega
  · rw [swp_other d' _ _ _ (by omega) (by omega)]; exact h.out k (by omega)
theorem rot_none2 (x : Nat) : Rot d d x 0 1 := ⟨rfl, fun k hk => rfl, fun k hk => by omega, fun k hk => rfl⟩
end

set_option maxHeartbeats 16000000 in
set_option maxRecDepth 1000000 in
theorem sym_last {q : Nat} {r : Fin (q + 1) → Int} {cb : Array Value} (blk cap a m b : Nat) (d0 d : Array (Fin (q + 1))) (w0 w : World) (hcmp : CmpLays1 Try.prog gP cb encP (cfP r) blk 0 d0.size w0) (R : Row1 encP w0 blk 0 d0) (hs : d0.size = d.size) (S : SW encP w0 blk 0 d w) (ham : a + 1 < m) (hm : b = m + 1) (hb : b ≤ d.size) (hsz : d.size < 1000000) :
    Calls Try.prog 66 #[.slice (some ⟨blk, 0, none⟩) d.size cap, .int .i64 a, .int .i64 m, .int .i64 b, .func (.func gP) #[] cb] w fun e w' => e = .returned (.tuple #[]) ∧ ∃ d' i, a ≤ i ∧ i ≤ m ∧ Rot d d' i (m - i) 1 ∧ (i = a ∨ ltOf (cfP r) d[m]! d[i - 1]! = false) ∧ (i = m ∨ ltOf (cfP r) d[m]! d[i]! = true) ∧ SW encP w0 blk 0 d' w' := by
  have mixed := srtLay.mixed
  have eg := eg_any
  have S0 := Lib.hid S
  have HCM := Lib.hid hcmp
  obtain ⟨z, hz⟩ : ∃ z, z = d.size := ⟨_, rfl⟩
  have HZ := Lib.hid hz
  have HD0 := Lib.hid hs.symm
  rw [← hz] at hs hb hsz ⊢
  have HSZ := Lib.hid hs
  have eb : (b : Int) - (m : Int) = 1 := by omega
  have ea1 : ((m : Int) - (a : Int) == 1) = false := by simp; omega
  have ea2 : ¬ ((m : Int) - (a : Int) = 1) := by omega
  have bm1 : m < b := by omega
  clear S hcmp hz hs hm
  go_enter Try.func66, Try.ntmps66
  go_wp2
  go_loopg [14, 15] (m - a) (fun g c14 c15 wr => ∃ (i j : Nat), c14 = .int .i64 i ∧ c15 = .int .i64 j ∧ j ≤ g + i ∧ a ≤ i ∧ i ≤ j ∧ j ≤ m ∧ Hid (i = a ∨ ltOf (cfP r) d[m]! d[i - 1]! = false) ∧ Hid (j = m ∨ ltOf (cfP r) d[m]! d[j]! = true) ∧ Hid (SW encP w0 blk 0 d wr))
  case atStart => exact ⟨a, m, rfl, rfl, by omega, Nat.le_refl _, by omega, Nat.le_refl _, Or.inl rfl, Or.inl rfl, S0.out⟩
  case round =>
    obtain ⟨i, j, rfl, rfl, hg, hmi, hij, hjb, HI, HJ, HS⟩ := hrel
    clear S0
    by_cases hlt : i < j
    · have hlz : (i : Int) < (j : Int) := by omega
      obtain ⟨h, hh⟩ : ∃ h, h = (i + j) / 2 := ⟨_, rfl⟩
      have eh : ((i : Int) + (j : Int)) / 2 = (h : Int) := by omega
      have h1 : i ≤ h := by omega
      have h2 : h < j := by omega
      have b1 : (0 : Int) ≤ (h : Int) := by omega
      have b2 : (h : Int) < (z : Int) := by omega
      have b3 : (0 : Int) ≤ (m : Int) := by omega
      have b4 : (m : Int) < (z : Int) := by omega
      clear hh
      cases hlv : ltOf (cfP r) d[m]! d[h]! with
      | true =>
        have hd0 := HD0.out
        have hzz := HSZ.out
        obtain ⟨x, hx⟩ : ∃ x, x = d[m]! := ⟨_, rfl⟩
        obtain ⟨y, hy⟩ : ∃ x, x = d[h]! := ⟨_, rfl⟩
        have la := fun n os => HS.out.cl R hd0 m (by omega) n os
        have lb := fun n os => HS.out.cl R hd0 h (by omega) n os
        rw [← hx] at la
        rw [← hy] at lb
        simp only [Nat.zero_add] at la lb
        have hc := HS.out.cmp HCM.out hd0 x y
        have hv : cfP r x y < 0 := by rw [hx, hy]; exact of_decide_eq_true hlv
        have hd : decide (cfP r x y < 0) = true := decide_eq_true hv
        clear hx hy hd0 hzz
        go_wp2_with fail
        go_quiet_grown (first | (go_at_fn gP; refine Calls.grown_of (hc _ _)))
        have S2 := Lib.hid (HS.out.grown nq osq)
        clear la lb hc HS
        generalize grow (wr.drewN nq) osq = w2 at S2 ⊢
        clear nq osq
        go_wp2
        go_roundg (h - i)
        case measure => omega
        case rel => exact ⟨i, h, rfl, rfl, by omega, hmi, by omega, by omega, HI.out, Or.inr hlv, S2.out⟩
      | false =>
        have hd0 := HD0.out
        have hzz := HSZ.out
        obtain ⟨x, hx⟩ : ∃ x, x = d[m]! := ⟨_, rfl⟩
        obtain ⟨y, hy⟩ : ∃ x, x = d[h]! := ⟨_, rfl⟩
        have la := fun n os => HS.out.cl R hd0 m (by omega) n os
        have lb := fun n os => HS.out.cl R hd0 h (by omega) n os
        rw [← hx] at la
        rw [← hy] at lb
        simp only [Nat.zero_add] at la lb
        have hc := HS.out.cmp HCM.out hd0 x y
        have hv : ¬ cfP r x y < 0 := by rw [hx, hy]; exact of_decide_eq_false hlv
        have hd : decide (cfP r x y < 0) = false := decide_eq_false hv
        clear hx hy hd0 hzz
        go_wp2_with fail
        go_quiet_grown (first | (go_at_fn gP; refine Calls.grown_of (hc _ _)))
        have S2 := Lib.hid (HS.out.grown nq osq)
        clear la lb hc HS
        generalize grow (wr.drewN nq) osq = w2 at S2 ⊢
        clear nq osq
        go_wp2
        go_roundg (j - (h + 1))
        case measure => omega
        case rel => exact ⟨h + 1, j, by go_num, rfl, by omega, by omega, by omega, hjb, Or.inr (by rw [Nat.add_sub_cancel]; exact hlv), HJ.out, S2.out⟩
    · have hlz : ¬ (i : Int) < (j : Int) := by omega
      obtain rfl : i = j := by omega
      go_wp2
      go_loopg [17] (m - i) (fun g c17 wr => ∃ (k : Nat) (dk : Array (Fin (q + 1))), c17 = .int .i64 k ∧ i + g = k ∧ k ≤ m ∧ Hid (Rot d dk k (m - k) 1) ∧ Hid (SW encP w0 blk 0 dk wr))
      case atStart => exact ⟨m, d, rfl, by omega, Nat.le_refl _, by show Rot d d m (m - m) 1; rw [Nat.sub_self]; exact rot_none2 m, HS.out⟩
      case round =>
        obtain ⟨k, dk, rfl, hk, hak, HR, HK⟩ := hrel
        clear HS
        by_cases hlt2 : i < k
        · have hl2 : (i : Int) < (k : Int) := by omega
          have hdk : dk.size = z := by rw [HR.out.size, ← HZ.out]
          have hd1 : dk.size = d0.size := by have := HSZ.out; omega
          obtain ⟨p, hp⟩ : ∃ p, p + 1 = k := ⟨k - 1, by omega⟩
          have ec : (k : Int) - 1 = (p : Int) := by omega
          have b1 : (0 : Int) ≤ (k : Int) := by omega
          have b2 : (k : Int) < (z : Int) := by omega
          have b3 : (0 : Int) ≤ (p : Int) := by omega
          have b4 : (p : Int) < (z : Int) := by omega
          have rc : IntKind.i64.wrap ((k : Int) - 1) = (p : Int) := by rw [IntKind.wrap_i64]; omega
          have HP := Lib.hid hp
          obtain ⟨x, hx⟩ : ∃ x, x = dk[k]! := ⟨_, rfl⟩
          obtain ⟨y, hy⟩ : ∃ x, x = dk[p]! := ⟨_, rfl⟩
          have S3 := Lib.hid (HK.out.swapped R k p (by omega) (by omega))
          have ca := HK.out.c1 R hd1 k (by omega)
          have cb' := HK.out.c1 R hd1 p (by omega)
          have fa := HK.out.f1 R hd1 k (by omega)
          have fb := HK.out.f1 R hd1 p (by omega)
          obtain ⟨u, cc⟩ := HK.out.c2 R hd1 k p (by omega) (by omega) (encP y)
          rw [← hx, ← hy] at S3
          rw [← hx] at ca
          rw [← hy] at cb'
          rw [Nat.zero_add] at ca cb' fa fb
          rw [Nat.zero_add, Nat.zero_add] at cc S3
          clear HK hx hy hdk hd1 hp
          go_wp2_with fail
          go_big_region_o
          clear ca cb' cc fa fb
          generalize ((wr.setCell ⟨blk, k, none⟩ (.int .i64 ((y.val : Nat) : Int))).setCell ⟨blk, p, none⟩ (.int .i64 ((x.val : Nat) : Int))).drew = w3 at S3 ⊢
          go_wp2
          go_roundg (gk - 1)
          case measure => omega
          case rel =>
            have hp := HP.out
            refine ⟨p, swp dk k p, by first | rfl | go_num, by omega, by omega, ?_, S3.out⟩
            have h3 := HR.out
            rw [← hp] at h3
            have h4 := rot_down h3 (by rw [← HZ.out]; omega)
            rw [hp, show m - k + 1 = m - p by omega] at h4
            exact h4
        · have hl2 : ¬ (i : Int) < (k : Int) := by omega
          obtain rfl : i = k := by omega
          go_wp2
          refine bodyPost_ret (v := .tuple #[]) (by simp [results, Try.results66, go_sem]) rfl ⟨rfl, dk, i, hmi, hjb, HR.out, HI.out, HJ.out, HK.out⟩
end Go.Proofs.Ytaebbfaheaghfaa
