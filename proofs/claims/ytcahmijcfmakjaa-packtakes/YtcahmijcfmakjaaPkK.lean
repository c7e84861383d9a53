/- The document's reader: numbers of any sign, small ones. -/
import Derived.Test.YtcahmijcfmakjaaPkJ
import Derived.Deep.RegionWith
namespace Go.Proofs.Ytcahmijcfmakjaa
open Go.RowKit Go.Lib

theorem RV.set {w w1 : World} {A A' : Option Addr} {cap' : Nat} {r bs : List UInt8} (h : RV w1 A' cap' r) (hs : Sub A' A) (h0 : BAt w A bs) (hl : r.length ≤ bs.length) {g : Nat} (hg : w.heap.size ≤ g) (i : Nat) (v : Value) : RV (w1.setCell ⟨g, i, none⟩ v) A' cap' r := by
  refine ⟨h.1.grown (grown_set w1 g i v) ?_, h.2⟩
  rcases h0 with e | ⟨b, off, ha, hlt, _⟩
  · left; exact List.eq_nil_of_length_eq_zero (by rw [e] at hl; simpa using hl)
  · right
    intro k e hin
    injection e with e
    subst e
    obtain ⟨p, hp, hq⟩ := hs _ hin
    rw [ha] at hp
    injection hp with hp
    rw [← hp] at hq
    have : b = g := hq
    omega

theorem back_even {q : Int} (h0 : 0 ≤ q) (h : q % 2 = 0) : unfoldN q.toNat = q / 2 := unfold_even h0 h
theorem back_odd {q : Int} (h0 : 0 ≤ q) (h : q % 2 = 1) : unfoldN q.toNat = -(q / 2) - 1 := by rw [unfold_odd h0 h]; omega
set_option maxHeartbeats 400000 in
theorem back_any (q : Int) (w : World) (h0 : 0 ≤ q) (h1 : q < 18446744073709551616) : Calls Try.prog 39 #[.int .u64 q] w fun e w' => e = .returned (.int .i64 (unfoldN q.toNat)) ∧ w = w' := by
  by_cases h : q % 2 = 0
  · have HF := Lib.hid (back_even h0 h)
    go_enter Try.func39, Try.ntmps39
    go_wp2
    go_ret
    exact ⟨ret_int (by rw [HF.out]), rfl⟩
  · have h : q % 2 = 1 := by omega
    have d : (q % 2 == 0) = false := by simp; omega
    have HF := Lib.hid (back_odd h0 h)
    go_enter Try.func39, Try.ntmps39
    go_wp2
    go_ret
    exact ⟨ret_int (by rw [HF.out]), rfl⟩

/-- what TakeInt answers -/
def TakenI (A0 : Option Addr) (bs : List UInt8) (w : World) (e : Ending) (w' : World) : Prop :=
  ∃ A cap, e = .returned (.tuple #[.agg #[.slice A (nR bs).length cap, .bool (!nO bs)], .int .i64 (unfoldN (nV bs))]) ∧ RV w' A cap (nR bs) ∧ RowKit.Below w.heap.size w w' ∧ Sub A A0

set_option maxHeartbeats 1600000 in
set_option maxRecDepth 100000 in
theorem rtakeint (A : Option Addr) (cap : Nat) (bs : List UInt8) (f : Bool) (w : World) (h : RV w A cap bs) (hl : bs.length ≤ 400) :
    Calls Try.prog 22 #[.agg #[.slice A bs.length cap, .bool f]] w (TakenI A bs w) := by
  have H := Lib.hid h
  have HT := Lib.hid (TB.start w A bs.length cap f)
  have HL := Lib.hid (nR_len bs)
  have CN := fun (W : World) (h : RV W A cap bs) => Lib.hid (rtakenum A cap bs f W h hl)
  have hv := nV_lt bs
  obtain ⟨q, hq⟩ : ∃ q : Int, q = (nV bs : Int) := ⟨_, rfl⟩
  have q0 : 0 ≤ q := by omega
  have q1 : q < 18446744073709551616 := by omega
  have HE := Lib.hid (show unfoldN (nV bs) = unfoldN q.toNat by rw [hq, Int.toNat_natCast])
  have HQ := Lib.hid hq
  clear h hv hq
  go_enter Try.func22, Try.ntmps22
  go_wp2_with fail
  refine (CN _ (H.out.below HT.out.2.2.2.2.2.2)).out.mono ?_
  rintro _ w1 ⟨A1, c1, rfl, hv1, hb1, hs1⟩
  obtain ⟨_, g2, g3, g4, g5, g6, g7⟩ := HT.out.below hb1
  have HV1 := Lib.hid hv1
  have HW1 := Lib.hid g7
  have HS1 := Lib.hid hs1
  have hne : w.heap.size + 1 < w1.heap.size := by omega
  rw [← HQ.out]
  clear hv1 hb1 hs1 g7 g6 CN
  generalize hr : nR bs = r at *
  generalize ho : nO bs = o at *
  -- TAIL
  go_wp2
  go_region_with (first | (go_at_call 39; refine (back_any q _ q0 q1).mono ?_; rintro _ _ ⟨rfl, rfl⟩))
  all_goals
    go_simp
    go_wp2
    refine bodyPost_ret (v := .tuple #[.agg #[.slice A1 r.length c1, .bool !o], .int .i64 (unfoldN q.toNat)]) (by simp [results, Try.results22, go_sem, g2, g3, hne]) rfl ?_
    refine ⟨A1, c1, ?_, ?_, ?_, HS1.out⟩
    · rw [hr, ho, HE.out]
    · rw [hr]
      have hv := (HV1.out.set (w := w) (g := w.heap.size + 1) HS1.out H.out.1 HL.out (by omega) 0 (.slice A1 r.length c1)).set (w := w) (g := w.heap.size + 1) HS1.out H.out.1 HL.out (by omega) 1 (.bool !o)
      exact hv.below ((RowKit.Below.refl _ _).alloc (Nat.le_refl _) _).drew
    · have hb := RowKit.Below.setCell (p := ⟨w.heap.size + 1, 1, none⟩) (RowKit.Below.setCell (p := ⟨w.heap.size + 1, 0, none⟩) HW1.out (by show w.heap.size ≤ w.heap.size + 1; omega) (.slice A1 r.length c1)) (by show w.heap.size ≤ w.heap.size + 1; omega) (.bool !o)
      exact (hb.alloc (by have := HW1.out.size; simp; omega) _).drew

/-- what TakeSmall answers -/
def TakenS (A0 : Option Addr) (bs : List UInt8) (m : Nat) (w : World) (e : Ending) (w' : World) : Prop :=
  ∃ A cap, e = .returned (.tuple #[.agg #[.slice A (sR bs m).length cap, .bool (!sO bs m)], .int .i64 (sV bs m : Int)]) ∧ RV w' A cap (sR bs m) ∧ RowKit.Below w.heap.size w w' ∧ Sub A A0
set_option maxHeartbeats 1600000 in
set_option maxRecDepth 100000 in
theorem rtakesmall (A : Option Addr) (cap : Nat) (bs : List UInt8) (f : Bool) (m : Int) (w : World) (h : RV w A cap bs) (hl : bs.length ≤ 400) (m0 : 0 ≤ m) (m1 : m < 18446744073709551616) :
    Calls Try.prog 24 #[.agg #[.slice A bs.length cap, .bool f], .int .u64 m] w (TakenS A bs m.toNat w) := by
  have H := Lib.hid h
  have HT := Lib.hid (TB.start w A bs.length cap f)
  have HL := Lib.hid (nR_len bs)
  have CN := fun (W : World) (h : RV W A cap bs) => Lib.hid (rtakenum A cap bs f W h hl)
  have hv := nV_lt bs
  obtain ⟨q, hq⟩ : ∃ q : Int, q = (nV bs : Int) := ⟨_, rfl⟩
  have q0 : 0 ≤ q := by omega
  have q1 : q < 18446744073709551616 := by omega
  have HQ := Lib.hid hq
  by_cases hc : q ≤ m ∧ q ≤ 2147483648
  · have c' : nV bs ≤ m.toNat ∧ nV bs ≤ 2147483648 := by omega
    have HE := Lib.hid (show (sV bs m.toNat : Int) = q ∧ sR bs m.toNat = nR bs ∧ sO bs m.toNat = nO bs by
      unfold sV sR sO
      rw [if_pos c', if_pos c', hq]
      exact ⟨rfl, rfl, by simp [c']⟩)
    obtain ⟨c1', c2'⟩ := hc
    clear h hv hq c'
    go_enter Try.func24, Try.ntmps24
    go_wp2_with fail
    refine (CN _ (H.out.below HT.out.2.2.2.2.2.2)).out.mono ?_
    rintro _ w1 ⟨A1, c1, rfl, hv1, hb1, hs1⟩
    obtain ⟨_, g2, g3, g4, g5, g6, g7⟩ := HT.out.below hb1
    have HV1 := Lib.hid hv1
    have HW1 := Lib.hid g7
    have HS1 := Lib.hid hs1
    have hne : w.heap.size + 1 < w1.heap.size := by omega
    rw [← HQ.out]
    clear hv1 hb1 hs1 g7 g6 CN
    generalize hr : nR bs = r at *
    generalize ho : nO bs = o at *
    go_wp2
    refine bodyPost_ret (v := .tuple #[.agg #[.slice A1 r.length c1, .bool !o], .int .i64 q]) (by simp [results, Try.results24, go_sem, g2, g3, hne]) rfl ?_
    refine ⟨A1, c1, ?_, ?_, ?_, HS1.out⟩
    · rw [HE.out.1, HE.out.2.1, HE.out.2.2]
    · rw [HE.out.2.1]
      have hv := (HV1.out.set (w := w) (g := w.heap.size + 1) HS1.out H.out.1 HL.out (by omega) 0 (.slice A1 r.length c1)).set (w := w) (g := w.heap.size + 1) HS1.out H.out.1 HL.out (by omega) 1 (.bool !o)
      exact hv.below ((RowKit.Below.refl _ _).alloc (Nat.le_refl _) _)
    · have hb := RowKit.Below.setCell (p := ⟨w.heap.size + 1, 1, none⟩) (RowKit.Below.setCell (p := ⟨w.heap.size + 1, 0, none⟩) HW1.out (by show w.heap.size ≤ w.heap.size + 1; omega) (.slice A1 r.length c1)) (by show w.heap.size ≤ w.heap.size + 1; omega) (.bool !o)
      exact (hb.alloc (by have := HW1.out.size; simp; omega) _)
  · have c' : ¬ (nV bs ≤ m.toNat ∧ nV bs ≤ 2147483648) := by omega
    have HE := Lib.hid (show (sV bs m.toNat : Int) = 0 ∧ sR bs m.toNat = [] ∧ sO bs m.toNat = false by
      unfold sV sR sO
      rw [if_neg c', if_neg c']
      exact ⟨rfl, rfl, by simp [c']⟩)
    have hor : m < q ∨ (q ≤ m ∧ 2147483648 < q) := by omega
    clear h hv hq c' hc
    rcases hor with hm | ⟨hm, hm2⟩
    all_goals
      go_enter Try.func24, Try.ntmps24
      go_wp2_with fail
      refine (CN _ (H.out.below HT.out.2.2.2.2.2.2)).out.mono ?_
      rintro _ w1 ⟨A1, c1, rfl, hv1, hb1, hs1⟩
      have HB1 := Lib.hid hb1
      rw [← HQ.out]
      clear hv1 hb1 hs1 CN
      generalize hr : nR bs = r at *
      generalize ho : nO bs = o at *
      go_wp2_with fail
      refine (failed_any _).mono ?_
      rintro _ w2 ⟨rfl, hb2⟩
      obtain ⟨_, g2, g3, g4, g5, g6, g7⟩ := HT.out.below (bl_trans HB1.out (bl_trans ((RowKit.Below.refl _ _).alloc (Nat.le_refl _) _) hb2))
      have HW2 := Lib.hid g7
      clear g7 g6 hb2
      go_wp2
      refine bodyPost_ret (v := .tuple #[.agg #[.slice none 0 0, .bool true], .int .i64 0]) (by simp [results, Try.results24, go_sem, g2, g3]) rfl ?_
      refine ⟨none, 0, ?_, ?_, ?_, Sub.none _⟩
      · rw [HE.out.1, HE.out.2.1, HE.out.2.2]; rfl
      · rw [HE.out.2.1]; exact RV.nil _
      · exact RowKit.Below.setCell (p := ⟨w.heap.size + 1, 1, none⟩) (RowKit.Below.setCell (p := ⟨w.heap.size + 1, 0, none⟩) HW2.out (by show w.heap.size ≤ w.heap.size + 1; omega) _) (by show w.heap.size ≤ w.heap.size + 1; omega) _
end Go.Proofs.Ytcahmijcfmakjaa
