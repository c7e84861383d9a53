
/- Package pack: a reader takes a number. -/
import Derived.Test.YtdfbpaajkpnaeaaPkR
import Derived.Deep.DeepCutAuto
import Derived.Lib.EndianBits
namespace Go.Proofs.Ytdfbpaajkpnaeaa
set_option maxRecDepth 100000
open Go.RowKit Go.Lib

/-- what Num answers -/
def NumRes (base g : Nat) (bs : List UInt8) (f : Bool) (w : World) (e : Ending) (w' : World) : Prop :=
  (∃ n c, dec bs = some (n, c) ∧ e = .returned (.int .u64 (n : Int)) ∧ To base g (bs.drop c) f w w') ∨ (dec bs = none ∧ e = .returned (.int .u64 0) ∧ To base g [] true w w')

theorem pow_int (n : Nat) : (2 : Int) ^ n = ((2 ^ n : Nat) : Int) := by simp
/-- seven bits more -/
theorem join7 {k xn : Nat} {acc : Int} (ha : 0 ≤ acc) (hac : acc.toNat < 2 ^ (7 * k)) (hb : xn % 128 * 2 ^ (7 * k) < 18446744073709551616) (h64 : 7 * k ≤ 64) :
    IntKind.u64.wrap ((xn : Int) % 128 * 2 ^ (7 * k)) = ((xn % 128 * 2 ^ (7 * k) : Nat) : Int) ∧ bits .or .u64 acc ((xn % 128 * 2 ^ (7 * k) : Nat) : Int) = ((acc.toNat + xn % 128 * 2 ^ (7 * k) : Nat) : Int) := by
  have e : (xn : Int) % 128 * 2 ^ (7 * k) = ((xn % 128 * 2 ^ (7 * k) : Nat) : Int) := by
    rw [Int.natCast_mul, Int.natCast_emod, ← pow_int]; rfl
  have e64' : (2 : Int) ^ 64 = 18446744073709551616 := by decide
  refine ⟨by rw [e]; exact wraps_u64 _ (by omega) (by rw [e64']; omega), ?_⟩
  have hp : (2 : Nat) ^ (7 * k) ≤ 2 ^ 64 := Nat.pow_le_pow_right (by omega) h64
  have e64 : (2 : Nat) ^ 64 = 18446744073709551616 := by decide
  have hm : ((xn % 128 * 2 ^ (7 * k) : Nat) : Int) % 2 ^ (7 * k) = 0 := by
    rw [pow_int, ← Int.natCast_emod, Nat.mul_mod_left]; rfl
  rw [bits_join_low .u64 64 (by decide) wraps_u64 (7 * k) acc _ ha (by rw [pow_int]; omega) (by rw [e64']; omega) (by omega) hm (by rw [e64']; omega)]
  omega

set_option maxRecDepth 100000 in
set_option maxHeartbeats 3200000 in
theorem rnum_any (base g : Nat) (bs : List UInt8) (f : Bool) (w : World) (h : RD w base g bs f) (hl : bs.length ≤ 900000000) :
    Calls Try.prog 36 #[.pointer (some ⟨g, 0, none⟩)] w (NumRes base g bs f w) := by
  have H := Lib.hid h
  obtain ⟨A, cap, h1, h2, h3, h4, h5, h6, h7, h8, h9, h10, h11⟩ := h
  have HA := Lib.hid h8
  have HL := Lib.hid hl
  clear h2 h3 h4 h5 h6 h7 h8 h9 h10 h11 hl
  go_enter Try.func36, Try.ntmps36
  go_wp2
  go_step3
  go_wp2
  go_step3
  go_wp2
  go_loopg [3, 4, 12] 10 (fun q c3 c4 c12 wr => ∃ (k : Nat) (acc : Int), c12 = .int .i64 (k : Int) ∧ c3 = .int .u64 acc ∧ c4 = .int .i64 0 ∧ k ≤ 9 ∧ k ≤ bs.length ∧ Hid (q + k = 10) ∧ 0 ≤ acc ∧ Hid (acc.toNat < 2 ^ (7 * k)) ∧ Hid (decF k acc.toNat (bs.drop k) = dec bs) ∧ wr = w)
  case atStart => exact ⟨0, 0, rfl, rfl, rfl, by omega, by omega, Nat.add_zero _, by omega, (show _ < _ by decide), rfl, rfl⟩
  case round =>
    obtain ⟨k, acc, rfl, rfl, rfl, hk9, hkl, HG, ha0, HAC, HD, rfl⟩ := hrel
    by_cases hlt : k < bs.length
    · have d1 : decide (k < bs.length) = true := by simpa using hlt
      obtain ⟨x, hx, _, _⟩ := get_lt hlt
      have hcell : ∃ b off, A = some ⟨b, off, none⟩ ∧ wr.cell? ⟨b, off + k, none⟩ = some (.int .u8 (x.toNat : Int)) := by
        rcases HA.out with e | ⟨b, off, ha, hlt', hc⟩
        · rw [e] at hlt; simp at hlt
        · refine ⟨b, off, ha, ?_⟩
          rw [hc k hlt]
          simp [List.getD, hx]
      obtain ⟨b, off, rfl, hcell⟩ := hcell
      have hdr : bs.drop k = x :: bs.drop (k + 1) := by
        rw [List.drop_eq_getElem_cons hlt]
        rw [List.getElem?_eq_getElem hlt] at hx
        injection hx with hx
        rw [hx]
      have hD := HD.out
      rw [hdr, decF] at hD
      have hx256 := u8lt x
      generalize x.toNat = xn at *
      clear hx hdr
      have hbd : (k ≤ 8 ∨ xn ≤ 1) → xn % 128 * 2 ^ (7 * k) < 18446744073709551616 := by
        intro hc
        have e63 : (2 : Nat) ^ 63 = 9223372036854775808 := by decide
        rcases hc with hc | hc
        · have hp : (2 : Nat) ^ (7 * k) ≤ 2 ^ 56 := Nat.pow_le_pow_right (by omega) (by omega)
          have e56 : (2 : Nat) ^ 56 = 72057594037927936 := by decide
          have := Nat.mul_le_mul (show xn % 128 ≤ 127 by omega) hp
          omega
        · have hp : (2 : Nat) ^ (7 * k) ≤ 2 ^ 63 := Nat.pow_le_pow_right (by omega) (by omega)
          have := Nat.mul_le_mul (show xn % 128 ≤ 1 by omega) hp
          omega
      by_cases hA : 9 ≤ k ∧ 2 ≤ xn
      · rw [if_pos ⟨by omega, by omega⟩] at hD
        have HN := Lib.hid hD.symm
        clear hD hbd HD
        obtain ⟨a1, a2⟩ := hA
        go_wp2_with fail
        refine (fail_any base g bs f _ H.out).mono ?_
        rintro _ w3 ⟨rfl, ht3⟩
        have HT3 := Lib.hid ht3
        clear ht3
        go_wp2
        try rw [Exit.noGoto_ret]
        go_ret
        exact Or.inr ⟨HN.out, rfl, HT3.out⟩
      have HX := Lib.hid (join7 ha0 HAC.out (hbd (by omega)) (by omega))
      rw [if_neg (by omega)] at hD
      by_cases hB : 1 ≤ k ∧ xn ≤ 0
      · rw [if_pos ⟨by omega, by omega⟩] at hD
        have HN := Lib.hid hD.symm
        clear hD hbd HD
        obtain ⟨a1, a2⟩ := hB
        by_cases h9 : 9 ≤ k
        all_goals
          go_wp2_with fail
          refine (fail_any base g bs f _ H.out).mono ?_
          rintro _ w3 ⟨rfl, ht3⟩
          have HT3 := Lib.hid ht3
          clear ht3
          go_wp2
          try rw [Exit.noGoto_ret]
          go_ret
          exact Or.inr ⟨HN.out, rfl, HT3.out⟩
      rw [if_neg (by omega)] at hD
      have hb' := hbd (by omega)
      obtain ⟨ew, eb⟩ := HX.out
      obtain ⟨s, hs⟩ : ∃ s : Int, s = ((xn % 128 * 2 ^ (7 * k) : Nat) : Int) := ⟨_, rfl⟩
      rw [← hs] at ew eb
      obtain ⟨t, ht⟩ : ∃ t : Int, t = ((acc.toNat + xn % 128 * 2 ^ (7 * k) : Nat) : Int) := ⟨_, rfl⟩
      rw [← ht, ← ew] at eb
      have HTT := Lib.hid ht
      have EB := Lib.hid eb
      clear eb ew hs ht hbd hb' HX HD
      by_cases hC : xn < 128
      · rw [if_pos hC] at hD
        have HN := Lib.hid hD.symm
        clear hD
        have HTV := Lib.hid (show t = ((acc.toNat + xn * 2 ^ (7 * k) : Nat) : Int) by rw [HTT.out, Nat.mod_eq_of_lt hC])
        have TK := Lib.hid (take_yes base g bs f (k + 1) wr H.out (by omega))
        rw [show ((k + 1 : Nat) : Int) = (k : Int) + 1 by omega] at TK
        have hne : ((k : Int) + 1 == 0) = false := by simp; omega
        have f9 : k ≤ 8 ∨ (9 ≤ k ∧ xn ≤ 1) := by omega
        have f0 : k ≤ 0 ∨ (1 ≤ k ∧ 1 ≤ xn) := by omega
        clear hA hB
        rcases f9 with h9 | ⟨h9, h9'⟩ <;> rcases f0 with h0 | ⟨h0, h0'⟩
        · skip
          go_upto_region 7 with (fail)
          rw [EB.out]
          go_wp2_with fail
          refine TK.out.mono ?_
          rintro _ w3 ⟨A3, c3, rfl, _, _, _, _, ht3⟩
          have HT3 := Lib.hid ht3
          clear ht3
          go_wp2
          try rw [Exit.noGoto_ret]
          go_ret
          exact Or.inl ⟨_, _, HN.out, ret_int HTV.out, HT3.out⟩
        · skip
          go_upto_region 7 with (fail)
          rw [EB.out]
          go_wp2_with fail
          refine TK.out.mono ?_
          rintro _ w3 ⟨A3, c3, rfl, _, _, _, _, ht3⟩
          have HT3 := Lib.hid ht3
          clear ht3
          go_wp2
          try rw [Exit.noGoto_ret]
          go_ret
          exact Or.inl ⟨_, _, HN.out, ret_int HTV.out, HT3.out⟩
        · omega
        · have e10 : (k : Int) + 1 = 10 := by omega
          rw [e10] at TK
          clear e10 hne
          go_upto_region 7 with (fail)
          rw [EB.out]
          go_wp2_with fail
          refine TK.out.mono ?_
          rintro _ w3 ⟨A3, c3, rfl, _, _, _, _, ht3⟩
          have HT3 := Lib.hid ht3
          clear ht3
          go_wp2
          try rw [Exit.noGoto_ret]
          go_ret
          exact Or.inl ⟨_, _, HN.out, ret_int HTV.out, HT3.out⟩
      · rw [if_neg hC] at hD
        have HN := Lib.hid hD
        clear hD
        have h8 : k ≤ 8 := by omega
        have HAC2 := Lib.hid (show t.toNat < 2 ^ (7 * (k + 1)) by
          rw [HTT.out, Int.toNat_natCast, p128]
          have := Nat.mul_le_mul_right (2 ^ (7 * k)) (show xn % 128 ≤ 127 by omega)
          have := HAC.out
          omega)
        have HD2 := Lib.hid (show decF (k + 1) t.toNat (bs.drop (k + 1)) = dec bs by rw [HTT.out, Int.toNat_natCast]; exact HN.out)
        have ht0 : 0 ≤ t := by have := HTT.out; omega
        have f0 : k ≤ 0 ∨ 1 ≤ k := by omega
        clear hA hB
        rcases f0 with h0 | h0
        all_goals
          go_upto_region 7 with (fail)
          rw [EB.out]
          go_wp2
          go_roundg (10 - (k + 1))
          case measure => have := HG.out; omega
          case rel => exact ⟨k + 1, t, by go_num, rfl, rfl, by omega, by omega, show _ = _ by omega, ht0, HAC2.out, HD2.out, rfl⟩
    · have d1 : decide (k < bs.length) = false := by simpa using hlt
      have HN := Lib.hid (show dec bs = none by rw [← HD.out, List.drop_eq_nil_of_le (by omega)]; rfl)
      go_wp2_with fail
      refine (fail_any base g bs f _ H.out).mono ?_
      rintro _ w3 ⟨rfl, ht3⟩
      have HT3 := Lib.hid ht3
      clear ht3
      go_wp2
      try rw [Exit.noGoto_ret]
      go_ret
      exact Or.inr ⟨HN.out, rfl, HT3.out⟩
end Go.Proofs.Ytdfbpaajkpnaeaa
