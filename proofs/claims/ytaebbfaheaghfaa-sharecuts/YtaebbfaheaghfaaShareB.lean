/- share.Cut's errors, share.Strip, share.Exact, falseworkref02.Same, falseworklaw02.shareAlive. falseworklaw02.shareAlive, share.Strip, share.Exact, falseworkref02.Strip. -/
import Derived.Test.YtaebbfaheaghfaaCutCore
import Derived.Deep.QuietTactic
import Derived.BigQuiet

namespace Go.Proofs.Ytaebbfaheaghfaa
open Go.RowKit Go.Shelf Go.Sort

/-- no parts, and an error -/
abbrev noCut (e : Int) : Ending := .returned (.tuple #[.slice none 0 0, .int .i64 e])

set_option maxHeartbeats 2000000 in
theorem cut_neg (a : Option Addr) (len cap : Nat) (t : Int) (w : World) (ht : t < 0) :
    Calls Try.prog 23 #[.int .i64 t, .slice a len cap] w fun e w' => e = noCut 21 ∧ w = w' := by
  have d0 : decide (t < 0) = true := by simpa using ht
  go_enter Try.func23, Try.ntmps23
  go_wp2
  go_ret2
  exact ⟨rfl, rfl⟩

set_option maxHeartbeats 2000000 in
theorem cut_not (a : Option Addr) (len cap : Nat) (t : Int) (w : World) (ht : 0 ≤ t) (hP : Calls Try.prog 40 #[.slice a len cap] w fun e w' => e = .returned (.bool false) ∧ w = w') :
    Calls Try.prog 23 #[.int .i64 t, .slice a len cap] w fun e w' => e = noCut 21 ∧ w = w' := by
  have d0 : decide (t < 0) = false := by simp only [decide_eq_false_iff_not]; omega
  have HP := Lib.hid hP
  clear hP
  go_enter Try.func23, Try.ntmps23
  go_wp2_with fail
  refine HP.out.mono ?_
  rintro e w1 ⟨rfl, rfl⟩
  go_wp2
  go_ret2
  exact ⟨rfl, rfl⟩

/-- weights that can't be -/
theorem cut_bad (a : Option Addr) (l : List Int) (cap : Nat) (t : Int) (w : World) (ht : 0 ≤ t) (hr : RowAt .i64 w a l) (hn : ¬ okW l) :
    Calls Try.prog 23 #[.int .i64 t, .slice a l.length cap] w fun e w' => e = noCut 21 ∧ w = w' := by
  rcases okW_or l with h | h | ⟨h0, h64, h⟩
  · exact absurd h hn
  · exact cut_not a l.length cap t w ht (possible_len a l.length cap w h)
  · rcases hr with hr | ⟨b, off, rfl, hb, hc⟩
    · rw [hr] at h0; simp at h0
    · exact cut_not _ l.length cap t w ht (possible_no b off cap l w h0 h64 h hc)

set_option maxHeartbeats 2000000 in
theorem cut_over (b off cap : Nat) (t : Int) (l : List Int) (w : World) (ht : 0 ≤ t) (hok : okW l) (hS : ¬ I l.sum) (hI : ∀ x ∈ l, I x) (hr : RowAt .i64 w (some ⟨b, off, none⟩) l) :
    Calls Try.prog 23 #[.int .i64 t, .slice (some ⟨b, off, none⟩) l.length cap] w fun e w' => e = noCut 11 ∧ Below w.heap.size w w' := by
  have h0 := hok.1
  have h64 := hok.2.1
  obtain ⟨hbl, hcell⟩ : b < w.heap.size ∧ ∀ i, i < l.length → w.cell? ⟨b, off + i, none⟩ = some (.int .i64 (l.getD i 0)) := by
    rcases hr with h | ⟨b', off', e, h1, h2⟩
    · rw [h] at h0; simp at h0
    · cases e; exact ⟨h1, h2⟩
  have P1 := Lib.hid (possible_yes b off cap l w hok hcell)
  have hsum := sum_any (some ⟨b, off, none⟩) l cap w hr hI (by omega)
  rw [cutV_out hS, cutE_out hS] at hsum
  have P2 := Lib.hid hsum
  have d0 : decide (t < 0) = false := by simp only [decide_eq_false_iff_not]; omega
  clear hcell hsum hok hr hI hS
  go_enter Try.func23, Try.ntmps23
  go_wp2_with fail
  refine P1.out.mono ?_
  rintro e w1 ⟨rfl, rfl⟩
  go_wp2_with fail
  refine P2.out.mono ?_
  rintro e w2 ⟨rfl, hb2⟩
  go_wp2
  go_ret2
  exact ⟨rfl, hb2⟩

/-- of fewer than twenty weights -/
theorem cut_small (b off cap : Nat) (t : Int) (l : List Int) (w : World) (ht : 0 ≤ t) (hT : I t) (hok : okW l) (h20 : l.length < 20) (hS : I l.sum) (hI : ∀ x ∈ l, I x) (hr : RowAt .i64 w (some ⟨b, off, none⟩) l) :
    Calls Try.prog 23 #[.int .i64 t, .slice (some ⟨b, off, none⟩) l.length cap] w (CutIs t l w) := by
  obtain ⟨n, hn⟩ : ∃ n, l.length = n + 1 := ⟨l.length - 1, by have := hok.1; omega⟩
  exact cut_core b off cap n t l w ht hT hok hS hI hn hr (fun rb W h1 h2 => order_small rb l.length W hn h20 h1 h2)

/-- whether the first k of two rows are the same -/
def sameTo (x y : List Int) (k : Nat) : Prop := ∀ j, j < k → x.getD j 0 = y.getD j 0

theorem sameTo_all {x y : List Int} (hl : x.length = y.length) (h : sameTo x y x.length) : x = y := by
  refine List.ext_getElem hl (fun i h1 h2 => ?_)
  have := h i h1
  simpa [List.getD, h1, h2] using this

/-- the answer b, and draws alone -/
def Said (b : Bool) (w : World) (e : Ending) (w' : World) : Prop := e = .returned (.bool b) ∧ ∃ q, w' = w.drewN q

set_option maxHeartbeats 2000000 in
theorem same_any (a1 a2 : Option Addr) (c1 c2 : Nat) (x y : List Int) (w : World) (h1 : RowAt .i64 w a1 x) (h2 : RowAt .i64 w a2 y) (hx : x.length ≤ 1000000) :
    Calls Try.prog 25 #[.slice a1 x.length c1, .slice a2 y.length c2] w (Said (decide (x = y)) w) := by
  by_cases hlen : x.length = y.length
  case neg =>
    have e : decide (x = y) = false := by simp only [decide_eq_false_iff_not]; intro e; exact hlen (by rw [e])
    rw [e]
    have d1 : ((x.length : Int) != (y.length : Int)) = true := by simp; omega
    have d2 : ¬ ((x.length : Int) = (y.length : Int)) := by omega
    clear h1 h2
    go_enter Try.func25, Try.ntmps25
    go_wp2
    go_ret
    exact ⟨rfl, 0, rfl⟩
  case pos =>
    have H1 := Lib.hid h1
    have H2 := Lib.hid h2
    have HL := Lib.hid hlen
    obtain ⟨m, hm⟩ : ∃ m, m = x.length := ⟨_, rfl⟩
    have HM := Lib.hid hm
    rw [← hlen, ← hm]
    rw [← hm] at hx
    clear h1 h2 hlen hm
    go_enter Try.func25, Try.ntmps25
    go_wp2
    go_loopg [13] m (fun g c13 wr => ∃ k : Nat, c13 = .int .i64 k ∧ k + g = m ∧ Hid (sameTo x y k) ∧ ∃ q, wr = w.drewN q)
    case atStart => exact ⟨0, rfl, by omega, fun j hj => by omega, 0, rfl⟩
    case round =>
      obtain ⟨k, rfl, hk, HS, q, rfl⟩ := hrel
      by_cases hlt : k < m
      · have hlz : (k : Int) < (m : Int) := by omega
        have b1 : (0 : Int) ≤ (k : Int) := by omega
        obtain ⟨p1, o1, rfl, hc1⟩ : ∃ b off, a1 = some ⟨b, off, none⟩ ∧ w.cell? ⟨b, off + k, none⟩ = some (.int .i64 (x.getD k 0)) := by
          rcases H1.out with h | ⟨b, off, rfl, _, hc⟩
          · have h1 := HM.out; rw [h, List.length_nil] at h1; omega
          · exact ⟨b, off, rfl, hc k (by have := HM.out; omega)⟩
        obtain ⟨p2, o2, rfl, hc2⟩ : ∃ b off, a2 = some ⟨b, off, none⟩ ∧ w.cell? ⟨b, off + k, none⟩ = some (.int .i64 (y.getD k 0)) := by
          rcases H2.out with h | ⟨b, off, rfl, _, hc⟩
          · have h1 := HM.out; have h2 := HL.out; rw [h, List.length_nil] at h2; omega
          · exact ⟨b, off, rfl, hc k (by have := HM.out; have := HL.out; omega)⟩
        obtain ⟨u, hu⟩ : ∃ u, u = x.getD k 0 := ⟨_, rfl⟩
        obtain ⟨v, hv⟩ : ∃ v, v = y.getD k 0 := ⟨_, rfl⟩
        rw [← hu] at hc1
        rw [← hv] at hc2
        have HU := Lib.hid hu
        have HV := Lib.hid hv
        clear hu hv
        by_cases he : u = v
        · subst he
          go_wp2_with fail
          go_quiet (fail)
          go_wp2
          go_roundg (gk - 1)
          case measure => omega
          case rel =>
            refine ⟨k + 1, by go_num, by omega, fun j hj => ?_, _, rfl⟩
            by_cases e : j = k
            · subst e; rw [← HU.out, ← HV.out]
            · exact HS.out j (by omega)
        · have hne : (u != v) = true := by simpa using he
          have e : decide (x = y) = false := by
            simp only [decide_eq_false_iff_not]
            intro e
            exact he (by rw [HU.out, HV.out, e])
          go_wp2_with fail
          go_quiet (fail)
          go_wp2
          go_ret
          exact ⟨by first | rfl | (rw [e]; rfl), _, World.drewN_drewN _ _ _⟩
      · have hlz : ¬ (k : Int) < (m : Int) := by omega
        obtain rfl : k = m := by omega
        have e : decide (x = y) = true := by
          simp only [decide_eq_true_eq]
          exact sameTo_all HL.out (by have := HM.out; rw [← this]; exact HS.out)
        go_wp2
        go_ret
        exact ⟨by first | rfl | (rw [e]; rfl), _, rfl⟩
end Go.Proofs.Ytaebbfaheaghfaa

namespace Go.Proofs.Ytaebbfaheaghfaa
open Go.RowKit Go.Shelf Go.Sort

theorem IntsAt.row {w : World} {b : Nat} {f : Nat → Int} {l : List Int} (h : IntsAt w b l.length f) (e : ∀ j, j < l.length → f j = l.getD j 0) : RowAt .i64 w (some ⟨b, 0, none⟩) l :=
  Or.inr ⟨b, 0, rfl, h.lt, fun i hi => by rw [Nat.zero_add, h.c i hi, e i hi]⟩
theorem row_lit3 (w : World) (x y z : Int) (t : TypeId) : RowAt .i64 (w.alloc (.cells #[.int .i64 x, .int .i64 y, .int .i64 z] t)) (some ⟨w.heap.size, 0, none⟩) [x, y, z] := by
  refine Or.inr ⟨_, 0, rfl, by simp, fun i hi => ?_⟩
  have : i = 0 ∨ i = 1 ∨ i = 2 := by simp at hi; omega
  rcases this with rfl | rfl | rfl <;> simp
theorem row_lit2 (w : World) (x y : Int) (t : TypeId) : RowAt .i64 (w.alloc (.cells #[.int .i64 x, .int .i64 y] t)) (some ⟨w.heap.size, 0, none⟩) [x, y] := by
  refine Or.inr ⟨_, 0, rfl, by simp, fun i hi => ?_⟩
  have : i = 0 ∨ i = 1 := by simp at hi; omega
  rcases this with rfl | rfl <;> simp

theorem ok111 : okW [1, 1, 1] := ⟨by decide, by decide, by decide, 0, by decide, by decide⟩
theorem cut111 : ∀ j, j < 3 → cutF 10 [1, 1, 1] j = [4, 3, 3].getD j 0 := by decide

set_option maxHeartbeats 2000000 in
theorem alive2_any (w : World) : Calls Try.prog 22 #[] w fun e w' => e = .returned (.bool true) ∧ Below w.heap.size w w' := by
  have C : ∀ W b, RowAt .i64 W (some ⟨b, 0, none⟩) [1, 1, 1] → Hid (Calls Try.prog 23 #[.int .i64 10, .slice (some ⟨b, 0, none⟩) 3 3] W (CutIs 10 [1, 1, 1] W)) := fun W b h =>
    cut_small b 0 3 10 [1, 1, 1] W (by decide) (by decide) ok111 (by decide) (by decide) (by decide) h
  go_enter Try.func22, Try.ntmps22
  go_wp2_with fail
  refine (C _ _ (row_lit3 w 1 1 1 _)).out.mono ?_
  rintro e w1 ⟨pb, rfl, hb1, hp, hI⟩
  have hR : RowAt .i64 w1 (some ⟨pb, 0, none⟩) [4, 3, 3] := IntsAt.row (l := [4, 3, 3]) hI cut111
  have HR := Lib.hid hR
  have hz := hb1.size
  have hB : Below w.heap.size w w1 := by
    refine RowKit.Below.trans ((RowKit.Below.refl _ _).alloc (Nat.le_refl _) _) (hb1.mono (by simp))
  have HB := Lib.hid hB
  have S : ∀ W b, RowAt .i64 W (some ⟨pb, 0, none⟩) [4, 3, 3] → RowAt .i64 W (some ⟨b, 0, none⟩) [4, 3, 3] → Hid (Calls Try.prog 25 #[.slice (some ⟨pb, 0, none⟩) 3 3, .slice (some ⟨b, 0, none⟩) 3 3] W (Said true W)) := fun W b h1 h2 =>
    same_any _ _ 3 3 [4, 3, 3] [4, 3, 3] W h1 h2 (by decide)
  clear hR hI hB C hb1
  go_wp2_with fail
  refine (S _ _ (HR.out.below ((RowKit.Below.refl _ _).alloc (Nat.le_refl _) _)) (row_lit3 w1 4 3 3 _)).out.mono ?_
  rintro e w2 ⟨rfl, q, rfl⟩
  go_wp2
  go_ret
  exact ⟨rfl, below_drewN (HB.out.alloc (by have := HB.out.size; omega) _) _⟩

set_option maxHeartbeats 2000000 in
theorem strip_no (t p : Int) (w : World) (h : t < 0 ∨ p < 0 ∨ 10000 < p) :
    Calls Try.prog 26 #[.int .i64 t, .int .i64 p] w fun e w' => e = .returned (.tuple #[.int .i64 0, .int .i64 0, .int .i64 21]) ∧ w = w' := by
  by_cases h1 : t < 0
  · have d1 : decide (t < 0) = true := by simpa using h1
    go_enter Try.func26, Try.ntmps26
    go_wp2
    go_ret3
    exact ⟨rfl, rfl⟩
  · have d1 : decide (t < 0) = false := by simpa using h1
    by_cases h2 : p < 0
    · have d2 : decide (p < 0) = true := by simpa using h2
      go_enter Try.func26, Try.ntmps26
      go_wp2
      go_ret3
      exact ⟨rfl, rfl⟩
    · have d2 : decide (p < 0) = false := by simpa using h2
      have h3 : 10000 < p := by omega
      have d3 : decide (10000 < p) = true := by simpa using h3
      go_enter Try.func26, Try.ntmps26
      go_wp2
      go_ret3
      exact ⟨rfl, rfl⟩
end Go.Proofs.Ytaebbfaheaghfaa
