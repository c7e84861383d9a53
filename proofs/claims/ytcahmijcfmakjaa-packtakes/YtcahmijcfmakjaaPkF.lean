/- The document's bytes: of a number, a text, a float. -/
import Derived.Test.YtcahmijcfmakjaaPkL
namespace Go.Proofs.Ytcahmijcfmakjaa
open Go.RowKit Go.Lib

theorem big_byte {k : Int} (h0 : 0 ≤ k) : (128 + k % 128 : Int) = (((k.toNat % 128 + 128).toUInt8).toNat : Int) := by
  have e : ((k.toNat % 128 + 128).toUInt8).toNat = k.toNat % 128 + 128 := by simp [Nat.toUInt8]; omega
  rw [e]; omega
theorem small_byte {k : Int} (h0 : 0 ≤ k) (h1 : k < 128) : k = ((k.toNat.toUInt8).toNat : Int) := by
  have e : (k.toNat.toUInt8).toNat = k.toNat := by simp [Nat.toUInt8]; omega
  rw [e]; omega

set_option maxHeartbeats 800000 in
theorem refnum_any : ∀ (m : Nat) (n : Int) (w : World), n.toNat < m → 0 ≤ n → n < 18446744073709551616 → Calls Try.prog 14 #[.int .u64 n] w (Made (uvarint n.toNat) w)
  | 0, n, w, h, _, _ => absurd h (by omega)
  | m + 1, n, w, h, h0, h1 => by
    have IH := fun (W : World) (hlt : 128 ≤ n) => Lib.hid (refnum_any m (n / 128) W (by omega) (by omega) (by omega))
    by_cases hs : n < 128
    · have EU := Lib.hid (uvarint_small (x := n.toNat) (by omega))
      have HY := Lib.hid (small_byte h0 hs)
      clear IH h
      go_enter Try.func14, Try.ntmps14
      go_wp2
      go_ret
      refine ⟨_, rfl, ?_, (RowKit.Below.refl _ _).alloc (Nat.le_refl _) _⟩
      rw [EU.out]
      exact OB.lit1 (Nat.le_refl _) _ _ HY.out
    · have hb : 128 ≤ n := by omega
      have EU := Lib.hid (uvarint_big (x := n.toNat) (by omega))
      obtain ⟨y, hy⟩ : ∃ y : UInt8, y = (n.toNat % 128 + 128).toUInt8 := ⟨_, rfl⟩
      have HY := Lib.hid (show (128 + n % 128 : Int) = (y.toNat : Int) by rw [hy]; exact big_byte h0)
      have HYE := Lib.hid hy
      have UL := Lib.hid (uv_len h1)
      have IH := fun W => IH W hb
      rw [show (n / 128).toNat = n.toNat / 128 by omega] at IH
      generalize hU : uvarint (n.toNat / 128) = U at *
      have HUL := Lib.hid (show U.length ≤ 10 by have := UL.out; rw [EU.out, List.length_cons] at this; omega)
      clear hy h hU UL
      go_enter Try.func14, Try.ntmps14
      go_wp2_with fail
      refine (IH _).out.mono ?_
      rintro _ w1 h1'
      obtain ⟨a1, c1, rfl, hb1, hn1, hB1, _⟩ := h1'.row
      have HB1 := Lib.hid hb1
      have HN1 := Lib.hid hn1
      have HW1 := Lib.hid hB1
      clear h1' hb1 hn1 hB1 IH
      go_wp2_with (at_builtin; refine wpList_appB rfl _ _ rfl w.heap.size _ [y] U a1 _ U.length (by rfl) (by rfl) rfl ((OB.lit1 (Nat.le_refl _) y _ HY.out).below HW1.out) HB1.out HN1.out (by have := HUL.out; simp; omega) (by have := HW1.out.size; simp at this; omega) ?_; intro v3 w3 h3)
      have H3 := Lib.hid (show Made (uvarint n.toNat) w (.returned v3) w3 from ⟨v3, rfl, by rw [EU.out, ← HYE.out]; exact h3.1, h3.2.1.below ((OB.lit1 (Nat.le_refl _) y _ HY.out).below HW1.out) (by have := HW1.out.size; simp at this; omega) (((RowKit.Below.refl _ _).alloc (Nat.le_refl _) _).trans (HW1.out.mono (by simp)))⟩)
      clear h3
      go_wp2
      go_ret
      exact H3.out
theorem refnum (n : Int) (w : World) (h0 : 0 ≤ n) (h1 : n < 18446744073709551616) : Calls Try.prog 14 #[.int .u64 n] w (Made (uvarint n.toNat) w) := refnum_any (n.toNat + 1) n w (by omega) h0 h1

set_option maxHeartbeats 400000 in
theorem turn_any (n : Int) (w : World) (h1 : -9223372036854775808 ≤ n) (h2 : n ≤ 9223372036854775807) : Calls Try.prog 36 #[.int .i64 n] w fun e w' => e = .returned (.int .u64 (foldN n : Int)) ∧ w = w' := by
  by_cases h : n < 0
  · have HF := Lib.hid (fold_low h)
    go_enter Try.func36, Try.ntmps36
    go_wp2
    go_ret
    exact ⟨ret_int (by rw [HF.out]; omega), rfl⟩
  · have HF := Lib.hid (fold_up (n := n) (by omega))
    have h' : 0 ≤ n := by omega
    go_enter Try.func36, Try.ntmps36
    go_wp2
    go_ret
    exact ⟨ret_int (by rw [HF.out]; omega), rfl⟩
set_option maxHeartbeats 400000 in
theorem refint (n : Int) (w : World) (h1 : -9223372036854775808 ≤ n) (h2 : n ≤ 9223372036854775807) : Calls Try.prog 15 #[.int .i64 n] w (Made (uvarint (foldN n)) w) := by
  have T := Lib.hid (turn_any n w h1 h2)
  have hf := foldN_lt h1 h2
  obtain ⟨y, hy⟩ : ∃ y : Int, y = (foldN n : Int) := ⟨_, rfl⟩
  have N := Lib.hid (refnum y w (by omega) (by omega))
  rw [show y.toNat = foldN n by omega] at N
  rw [← hy] at T
  clear hy hf
  go_enter Try.func15, Try.ntmps15
  go_wp2_with fail
  refine T.out.mono ?_
  rintro _ _ ⟨rfl, rfl⟩
  go_wp2_with fail
  refine N.out.mono ?_
  rintro _ w2 h2'
  obtain ⟨a, c, rfl, _⟩ := h2'.row
  have H2 := Lib.hid h2'
  clear h2' T N
  go_wp2
  go_ret
  exact H2.out
set_option maxHeartbeats 400000 in
theorem reftext (t : ByteArray) (w : World) (ht : t.size ≤ 65536) : Calls Try.prog 17 #[.string t] w (Made (uvarint t.size ++ t.data.toList) w) := by
  have N := Lib.hid (refnum (t.size : Int) w (by omega) (by omega))
  rw [Int.toNat_natCast] at N
  have UL := Lib.hid (uvarint_length64 (show t.size < 18446744073709551616 by omega))
  have UP := Lib.hid (uvarint_pos t.size)
  have HS := Lib.hid ht
  generalize hU : uvarint t.size = U at *
  clear hU
  go_enter Try.func17, Try.ntmps17
  go_wp2_with fail
  refine N.out.mono ?_
  rintro _ w1 ⟨v1, rfl, ho1, hb1⟩
  obtain ⟨a1, c1, hv1, _⟩ := ho1.row
  subst hv1
  have HO1 := Lib.hid ho1
  have HW1 := Lib.hid hb1
  clear ho1 hb1 N
  go_wp2_with (at_builtin; refine wpList_appS rfl _ _ rfl w.heap.size _ U t (by rfl) (by rfl) HO1.out (by have := UL.out; have := HS.out; omega) HW1.out.size (HO1.out.nn (by intro e; have := UP.out; rw [e] at this; simp at this)) ?_; intro v4 w4 ho4 hg4 hz4 _)
  have H4 := Lib.hid (show Made (U ++ t.data.toList) w (.returned v4) w4 from ⟨v4, rfl, ho4, HW1.out.grown hg4 HW1.out.size fun k hk => (HO1.out.own k hk).1⟩)
  clear ho4 hg4 hz4
  go_wp2
  go_ret
  exact H4.out
end Go.Proofs.Ytcahmijcfmakjaa
