/- Package pack: a reader takes numbers of any sign, small ones, texts, floats. -/
import Derived.Test.YtcahmijcfmakjaaPkN
import Derived.Test.YtcahmijcfmakjaaPkQ
namespace Go.Proofs.Ytcahmijcfmakjaa
open Go.RowKit Go.Lib

/-- a number is taken: it, what is left, and did it go well? -/
def nV (bs : List UInt8) : Nat := match dec bs with | some (n, _) => n | none => 0
def nR (bs : List UInt8) : List UInt8 := match dec bs with | some (_, c) => bs.drop c | none => []
def nO (bs : List UInt8) : Bool := match dec bs with | some _ => true | none => false
theorem nV_lt (bs : List UInt8) : nV bs < 18446744073709551616 := by
  unfold nV
  split
  · next h => exact (dec_le h).2.2
  · omega
theorem nR_len (bs : List UInt8) : (nR bs).length ≤ bs.length := by
  unfold nR
  split
  · simp
  · simp
theorem rnum (base g : Nat) (bs : List UInt8) (f : Bool) (w : World) (h : RD w base g bs f) (hl : bs.length ≤ 900000000) :
    Calls Try.prog 10 #[.pointer (some ⟨g, 0, none⟩)] w fun e w' => e = .returned (.int .u64 (nV bs : Int)) ∧ To base g (nR bs) (f || !nO bs) w w' := by
  refine (rnum_any base g bs f w h hl).mono ?_
  rintro e w' (⟨n, c, hd, he, ht⟩ | ⟨hd, he, ht⟩)
  · simp only [nV, nR, nO, hd]
    exact ⟨he, by simpa using ht⟩
  · simp only [nV, nR, nO, hd]
    exact ⟨he, by simpa using ht⟩

theorem unfold_even {q : Int} (h0 : 0 ≤ q) (h : q % 2 = 0) : unfoldN q.toNat = q / 2 := by unfold unfoldN; rw [if_pos (by omega)]; omega
theorem unfold_odd {q : Int} (h0 : 0 ≤ q) (h : q % 2 = 1) : unfoldN q.toNat = -1 - q / 2 := by unfold unfoldN; rw [if_neg (by omega)]; omega
set_option maxHeartbeats 400000 in
theorem unfold_any (q : Int) (w : World) (h0 : 0 ≤ q) (h1 : q < 18446744073709551616) : Calls Try.prog 40 #[.int .u64 q] w fun e w' => e = .returned (.int .i64 (unfoldN q.toNat)) ∧ w = w' := by
  by_cases h : q % 2 = 0
  · have HF := Lib.hid (unfold_even h0 h)
    have d : (q % 2 == 1) = false := by simp; omega
    go_enter Try.func40, Try.ntmps40
    go_wp2
    go_ret
    exact ⟨ret_int (by rw [HF.out]), rfl⟩
  · have h : q % 2 = 1 := by omega
    have HF := Lib.hid (unfold_odd h0 h)
    go_enter Try.func40, Try.ntmps40
    go_wp2
    go_ret
    exact ⟨ret_int (by rw [HF.out]), rfl⟩
set_option maxHeartbeats 400000 in
theorem rint (base g : Nat) (bs : List UInt8) (f : Bool) (w : World) (h : RD w base g bs f) (hl : bs.length ≤ 900000000) :
    Calls Try.prog 23 #[.pointer (some ⟨g, 0, none⟩)] w fun e w' => e = .returned (.int .i64 (unfoldN (nV bs))) ∧ To base g (nR bs) (f || !nO bs) w w' := by
  have C := Lib.hid (rnum base g bs f w h hl)
  have hb := nV_lt bs
  obtain ⟨q, hq⟩ : ∃ q : Int, q = (nV bs : Int) := ⟨_, rfl⟩
  have HE := Lib.hid (show unfoldN (nV bs) = unfoldN q.toNat by rw [hq, Int.toNat_natCast])
  have h0 : 0 ≤ q := by omega
  have h1 : q < 18446744073709551616 := by omega
  rw [← hq] at C
  clear hq hb h hl
  go_enter Try.func23, Try.ntmps23
  go_wp2_with fail
  refine C.out.mono ?_
  rintro _ w1 ⟨rfl, ht⟩
  have HT := Lib.hid ht
  clear ht C
  go_wp2_with fail
  refine (unfold_any q _ h0 h1).mono ?_
  rintro _ _ ⟨rfl, rfl⟩
  go_wp2
  go_ret
  exact ⟨ret_int HE.out.symm, HT.out⟩

/-- a small number is taken -/
def sO (bs : List UInt8) (most : Nat) : Bool := nO bs && decide (nV bs ≤ most ∧ nV bs ≤ 2147483648)
def sV (bs : List UInt8) (most : Nat) : Nat := if nV bs ≤ most ∧ nV bs ≤ 2147483648 then nV bs else 0
def sR (bs : List UInt8) (most : Nat) : List UInt8 := if nV bs ≤ most ∧ nV bs ≤ 2147483648 then nR bs else []
set_option maxHeartbeats 400000 in
theorem rsmall (base g : Nat) (bs : List UInt8) (f : Bool) (m : Int) (w : World) (h : RD w base g bs f) (hl : bs.length ≤ 900000000) (hm0 : 0 ≤ m) (hm1 : m < 18446744073709551616) :
    Calls Try.prog 25 #[.pointer (some ⟨g, 0, none⟩), .int .u64 m] w fun e w' => e = .returned (.int .i64 (sV bs m.toNat : Int)) ∧ To base g (sR bs m.toNat) (f || !sO bs m.toNat) w w' := by
  have C := Lib.hid (rnum base g bs f w h hl)
  have hb := nV_lt bs
  obtain ⟨q, hq⟩ : ∃ q : Int, q = (nV bs : Int) := ⟨_, rfl⟩
  have h0 : 0 ≤ q := by omega
  have h1 : q < 18446744073709551616 := by omega
  rw [← hq] at C
  by_cases hc : q ≤ m ∧ q ≤ 2147483648
  · have c' : nV bs ≤ m.toNat ∧ nV bs ≤ 2147483648 := by omega
    have HV := Lib.hid (show (sV bs m.toNat : Int) = q by unfold sV; rw [if_pos c', hq])
    have HR := Lib.hid (show sR bs m.toNat = nR bs ∧ sO bs m.toNat = nO bs by unfold sR sO; rw [if_pos c']; simp [c'])
    obtain ⟨c1, c2⟩ := hc
    clear hq hb h hl c'
    by_cases hmb : 2147483648 < m
    all_goals
      go_enter Try.func25, Try.ntmps25
      go_wp2_with fail
      refine C.out.mono ?_
      rintro _ w1 ⟨rfl, ht⟩
      have HT := Lib.hid ht
      clear ht C
      go_wp2
      go_ret
      exact ⟨ret_int HV.out.symm, by rw [HR.out.1, HR.out.2]; exact HT.out⟩
  · have c' : ¬ (nV bs ≤ m.toNat ∧ nV bs ≤ 2147483648) := by omega
    have HV := Lib.hid (show (sV bs m.toNat : Int) = 0 by unfold sV; rw [if_neg c']; rfl)
    have HR := Lib.hid (show sR bs m.toNat = [] ∧ (f || !sO bs m.toNat) = true by unfold sR sO; rw [if_neg c']; simp [c'])
    have hlt : min m 2147483648 < q := by omega
    clear hq hb h hl c' hc
    by_cases hmb : 2147483648 < m
    · have hx : 2147483648 < q := by omega
      go_enter Try.func25, Try.ntmps25
      go_wp2_with fail
      refine C.out.mono ?_
      rintro _ w1 ⟨rfl, ht⟩
      have HT := Lib.hid ht
      clear ht C
      go_wp2_with fail
      refine (fail_any base g _ _ _ HT.out.1).mono ?_
      rintro _ w2 ⟨rfl, ht2⟩
      have HT2 := Lib.hid (HT.out.trans ht2)
      clear ht2
      go_wp2
      go_ret
      exact ⟨ret_int HV.out.symm, by rw [HR.out.1, HR.out.2]; exact HT2.out⟩
    · have hx : m < q := by omega
      go_enter Try.func25, Try.ntmps25
      go_wp2_with fail
      refine C.out.mono ?_
      rintro _ w1 ⟨rfl, ht⟩
      have HT := Lib.hid ht
      clear ht C
      go_wp2_with fail
      refine (fail_any base g _ _ _ HT.out.1).mono ?_
      rintro _ w2 ⟨rfl, ht2⟩
      have HT2 := Lib.hid (HT.out.trans ht2)
      clear ht2
      go_wp2
      go_ret
      exact ⟨ret_int HV.out.symm, by rw [HR.out.1, HR.out.2]; exact HT2.out⟩
theorem sR_len (bs : List UInt8) (m : Nat) : (sR bs m).length ≤ bs.length := by
  unfold sR
  split
  · exact nR_len bs
  · simp

/-- a text is taken -/
def tC (bs : List UInt8) : Bool := decide (sV bs 65536 ≤ (sR bs 65536).length)
def tO (bs : List UInt8) : Bool := sO bs 65536 && tC bs
def tV (bs : List UInt8) : List UInt8 := if sV bs 65536 ≤ (sR bs 65536).length then (sR bs 65536).take (sV bs 65536) else []
def tR (bs : List UInt8) : List UInt8 := if sV bs 65536 ≤ (sR bs 65536).length then (sR bs 65536).drop (sV bs 65536) else []
set_option maxHeartbeats 400000 in
theorem rtext (base g : Nat) (bs : List UInt8) (f : Bool) (w : World) (h : RD w base g bs f) (hl : bs.length ≤ 900000000) :
    Calls Try.prog 27 #[.pointer (some ⟨g, 0, none⟩)] w fun e w' => e = .returned (.string (strB (tV bs))) ∧ To base g (tR bs) (f || !tO bs) w w' := by
  have C := Lib.hid (rsmall base g bs f 65536 w h hl (by omega) (by omega))
  rw [show (65536 : Int).toNat = 65536 from rfl] at C
  have cv : ∀ (W : World) (A : Option Addr) (n c : Nat) (l : List UInt8), BAt W A l → l.length = n → Hid ((convert 22 9 (.slice A n c)).run Try.prog W = .ok (.string (strB l)) W) := fun W A n c l hb hn => Lib.hid (run_conv hb n c hn)
  by_cases hc : sV bs 65536 ≤ (sR bs 65536).length
  · have HV := Lib.hid (show tV bs = (sR bs 65536).take (sV bs 65536) ∧ tR bs = (sR bs 65536).drop (sV bs 65536) ∧ tO bs = sO bs 65536 by unfold tV tR tO tC; rw [if_pos hc, if_pos hc]; simp [hc])
    have HC := Lib.hid hc
    clear hc h hl
    generalize sV bs 65536 = n at *
    generalize sR bs 65536 = r at *
    go_enter Try.func27, Try.ntmps27
    go_wp2_with fail
    refine C.out.mono ?_
    rintro _ w1 ⟨rfl, ht⟩
    have HT := Lib.hid ht
    clear ht C
    go_wp2_with fail
    refine (take_yes base g r _ n _ HT.out.1 HC.out).mono ?_
    rintro _ w2 ⟨A, cap, rfl, hb2, _, _, _, ht2⟩
    have HT2 := Lib.hid (HT.out.trans ht2)
    have e1 := (cv w2 A n cap _ hb2 (by rw [List.length_take]; have := HC.out; omega)).out
    rw [← HV.out.1] at e1
    clear ht2 hb2 cv
    go_wp2
    go_ret
    exact ⟨rfl, by rw [HV.out.2.1, HV.out.2.2]; exact HT2.out⟩
  · have HV := Lib.hid (show tV bs = [] ∧ tR bs = [] ∧ (f || !tO bs) = true by unfold tV tR tO tC; rw [if_neg hc, if_neg hc]; simp [hc])
    have HC := Lib.hid (show (sR bs 65536).length < sV bs 65536 by omega)
    clear hc h hl
    generalize sV bs 65536 = n at *
    generalize sR bs 65536 = r at *
    go_enter Try.func27, Try.ntmps27
    go_wp2_with fail
    refine C.out.mono ?_
    rintro _ w1 ⟨rfl, ht⟩
    have HT := Lib.hid ht
    clear ht C
    go_wp2_with fail
    refine (take_no base g r _ n _ HT.out.1 HC.out).mono ?_
    rintro _ w2 ⟨rfl, ht2⟩
    have HT2 := Lib.hid (HT.out.trans ht2)
    have e1 := (cv w2 none 0 0 [] (Or.inl rfl) rfl).out
    rw [← HV.out.1] at e1
    clear ht2 cv
    go_wp2
    go_ret
    exact ⟨rfl, by rw [HV.out.2.1, HV.out.2.2]; exact HT2.out⟩

/-- a float is taken -/
def fO (bs : List UInt8) : Bool := decide (8 ≤ bs.length)
def fV (bs : List UInt8) : Nat := if 8 ≤ bs.length then spell (bs.take 8) else 0
def fR (bs : List UInt8) : List UInt8 := if 8 ≤ bs.length then bs.drop 8 else []
theorem spell_snoc : ∀ (l : List UInt8) (x : UInt8), spell (l ++ [x]) = spell l + x.toNat * 2 ^ (8 * l.length)
  | [], x => by simp [spell]
  | y :: r, x => by
    rw [List.cons_append, spell, spell_snoc r x, spell, List.length_cons, show 8 * (r.length + 1) = 8 * r.length + 8 by omega, Nat.pow_add, Nat.add_mul]
    rw [show x.toNat * (2 ^ (8 * r.length) * 2 ^ 8) = x.toNat * 2 ^ (8 * r.length) * 256 by rw [← Nat.mul_assoc]]
    omega
theorem spell_lt : ∀ l : List UInt8, spell l < 2 ^ (8 * l.length)
  | [] => by simp [spell]
  | x :: r => by
    rw [spell, List.length_cons, show 8 * (r.length + 1) = 8 * r.length + 8 by omega, Nat.pow_add]
    have := spell_lt r
    have := u8lt x
    omega
theorem join8 {k xn : Nat} {acc : Int} (ha : 0 ≤ acc) (hac : acc.toNat < 2 ^ (8 * k)) (hx : xn < 256) (hk : k ≤ 7) :
    bits .or .u64 acc (IntKind.u64.wrap ((xn : Int) * 2 ^ (8 * k))) = ((acc.toNat + xn * 2 ^ (8 * k) : Nat) : Int) := by
  have hp : (2 : Nat) ^ (8 * k) ≤ 2 ^ 56 := Nat.pow_le_pow_right (by omega) (by omega)
  have e56 : (2 : Nat) ^ 56 = 72057594037927936 := by decide
  have hb : xn * 2 ^ (8 * k) < 18446744073709551616 := by
    have := Nat.mul_le_mul (show xn ≤ 255 by omega) hp
    omega
  have e : (xn : Int) * 2 ^ (8 * k) = ((xn * 2 ^ (8 * k) : Nat) : Int) := by rw [Int.natCast_mul, ← pow_int]
  have e64' : (2 : Int) ^ 64 = 18446744073709551616 := by decide
  have hm : ((xn * 2 ^ (8 * k) : Nat) : Int) % 2 ^ (8 * k) = 0 := by
    rw [pow_int, ← Int.natCast_emod, Nat.mul_mod_left]; rfl
  rw [e, wraps_u64 _ (by omega) (by rw [e64']; omega)]
  rw [bits_join_low .u64 64 (by decide) wraps_u64 (8 * k) acc _ ha (by rw [pow_int]; omega) (by rw [e64']; omega) (by omega) hm (by rw [e64']; omega)]
  omega
set_option maxHeartbeats 800000 in
set_option maxRecDepth 100000 in
theorem rfloat (base g : Nat) (bs : List UInt8) (f : Bool) (w : World) (h : RD w base g bs f) :
    Calls Try.prog 30 #[.pointer (some ⟨g, 0, none⟩)] w fun e w' => e = .returned (.float .f64 (fV bs)) ∧ To base g (fR bs) (f || !fO bs) w w' := by
  by_cases hc : 8 ≤ bs.length
  · have HV := Lib.hid (show fV bs = spell (bs.take 8) ∧ fR bs = bs.drop 8 ∧ fO bs = true by unfold fV fR fO; rw [if_pos hc, if_pos hc]; simp [hc])
    have C := Lib.hid (take_yes base g bs f 8 w h hc)
    have HL := Lib.hid (show (bs.take 8).length = 8 by rw [List.length_take]; omega)
    clear hc h
    go_enter Try.func30, Try.ntmps30
    go_wp2_with fail
    refine C.out.mono ?_
    rintro _ w1 ⟨A, cap, rfl, hb1, hcap, _, _, ht1⟩
    have HT := Lib.hid ht1
    have HB := Lib.hid hb1
    clear ht1 hb1 C
    generalize bs.take 8 = l at *
    go_wp2
    go_loopg [3, 9] 8 (fun q c3 c9 wr => ∃ (k : Nat) (acc : Int), c9 = .int .i64 (k : Int) ∧ c3 = .int .u64 acc ∧ k ≤ 8 ∧ Hid (q + k = 8) ∧ 0 ≤ acc ∧ Hid (acc.toNat = spell (l.take k)) ∧ wr = w1)
    case atStart => exact ⟨0, 0, rfl, rfl, by omega, rfl, by omega, (show _ = _ by simp [spell]), rfl⟩
    case round =>
      obtain ⟨k, acc, rfl, rfl, hk8, HG, ha0, HAC, rfl⟩ := hrel
      by_cases hlt : k < 8
      · have hkl : k < l.length := by have := HL.out; omega
        obtain ⟨x, hx, htk, _⟩ := get_lt hkl
        have hcell : ∃ b off, A = some ⟨b, off, none⟩ ∧ wr.cell? ⟨b, off + k, none⟩ = some (.int .u8 (x.toNat : Int)) := by
          rcases HB.out with e | ⟨b, off, ha, hlt', hc⟩
          · rw [e] at hkl; simp at hkl
          · refine ⟨b, off, ha, ?_⟩
            rw [hc k hkl]
            simp [List.getD, hx]
        obtain ⟨b, off, rfl, hcell⟩ := hcell
        have hlk : (l.take k).length = k := by rw [List.length_take]; omega
        have hsp := spell_lt (l.take k)
        rw [hlk] at hsp
        have EB := Lib.hid (join8 ha0 (by rw [HAC.out]; exact hsp) (u8lt x) (by omega))
        have E2 := Lib.hid (show acc.toNat + x.toNat * 2 ^ (8 * k) = spell (l.take (k + 1)) by rw [htk, spell_snoc, hlk, HAC.out])
        have hx256 := u8lt x
        clear hx htk hlk hsp
        generalize x.toNat = xn at *
        obtain ⟨t, ht⟩ : ∃ t : Int, t = ((acc.toNat + xn * 2 ^ (8 * k) : Nat) : Int) := ⟨_, rfl⟩
        rw [← ht] at EB
        have HTT := Lib.hid ht
        have ht0 : 0 ≤ t := by omega
        clear ht
        go_upto_region 6 with (fail)
        rw [EB.out]
        go_wp2
        go_roundg (8 - (k + 1))
        case measure => have := HG.out; omega
        case rel => exact ⟨k + 1, t, by go_num, rfl, by omega, show _ = _ by omega, ht0, (show _ = _ by rw [HTT.out, Int.toNat_natCast, E2.out]), rfl⟩
      · have HK := Lib.hid (show l.take k = l by rw [List.take_of_length_le]; have := HL.out; omega)
        have fb := f64from acc.toNat
        rw [Int.toNat_of_nonneg ha0] at fb
        go_wp2_with (simp only [fb])
        go_ret
        exact ⟨by rw [HV.out.1, HAC.out, HK.out]; rfl, by rw [HV.out.2.1, HV.out.2.2]; simpa using HT.out⟩
  · have HV := Lib.hid (show fV bs = 0 ∧ fR bs = [] ∧ (f || !fO bs) = true by unfold fV fR fO; rw [if_neg hc, if_neg hc]; simp [hc])
    have C := Lib.hid (take_no base g bs f 8 w h (by omega))
    clear hc h
    go_enter Try.func30, Try.ntmps30
    go_wp2_with fail
    refine C.out.mono ?_
    rintro _ w1 ⟨rfl, ht1⟩
    have HT := Lib.hid ht1
    clear ht1 C
    go_wp2
    go_loopg [3, 9] 0 (fun q c3 c9 wr => c9 = .int .i64 0 ∧ c3 = .int .u64 0 ∧ wr = w1)
    case atStart => exact ⟨rfl, rfl, rfl⟩
    case round =>
      obtain ⟨rfl, rfl, rfl⟩ := hrel
      have fb : ∀ W, (callFunc 13 #[.int .u64 0]).run Try.prog W = .ok (.value (.float .f64 0)) W := f64from 0
      go_wp2_with (simp only [fb])
      go_ret
      exact ⟨by rw [HV.out.1]; rfl, by rw [HV.out.2.1, HV.out.2.2]; exact HT.out⟩
end Go.Proofs.Ytcahmijcfmakjaa
