/- Numbers as bytes: what is read back, and that it is one way alone. Mathematics alone. -/
import Derived.Lib.Varint
namespace Go.Proofs.YtdfbpaajkpnaeaaGreat
set_option maxRecDepth 100000
open Go.Lib

/-- the number with which bytes begin (i bytes are read, they give acc), and how many it has -/
def decF : Nat → Nat → List UInt8 → Option (Nat × Nat)
  | _, _, [] => none
  | i, acc, x :: r =>
    if i = 9 ∧ 1 < x.toNat then none
    else if 0 < i ∧ x.toNat = 0 then none
    else if x.toNat < 128 then some (acc + x.toNat * 2 ^ (7 * i), i + 1)
    else decF (i + 1) (acc + x.toNat % 128 * 2 ^ (7 * i)) r
def dec (l : List UInt8) : Option (Nat × Nat) := decF 0 0 l

theorem p128 (i : Nat) : 2 ^ (7 * (i + 1)) = 128 * 2 ^ (7 * i) := by
  rw [show 7 * (i + 1) = 7 + 7 * i by omega, Nat.pow_add]
theorem ofToNat (x : UInt8) : x.toNat.toUInt8 = x := by simp [Nat.toUInt8]
theorem u8lt (x : UInt8) : x.toNat < 256 := x.toNat_lt

/-- what is read is a number's bytes -/
theorem decF_some : ∀ (l : List UInt8) (i acc n c : Nat), decF i acc l = some (n, c) → i ≤ 9 → acc < 2 ^ (7 * i) →
    ∃ m k, n = acc + m * 2 ^ (7 * i) ∧ c = i + k ∧ (uvarint m).length = k ∧ l = uvarint m ++ l.drop k ∧ (0 < i → m ≠ 0) ∧ n < 2 ^ 64
  | [], i, acc, n, c, h, _, _ => by simp [decF] at h
  | x :: r, i, acc, n, c, h, hi, ha => by
    have hx := u8lt x
    rw [decF] at h
    by_cases h1 : i = 9 ∧ 1 < x.toNat
    · rw [if_pos h1] at h; cases h
    rw [if_neg h1] at h
    by_cases h2 : 0 < i ∧ x.toNat = 0
    · rw [if_pos h2] at h; cases h
    rw [if_neg h2] at h
    by_cases h3 : x.toNat < 128
    · rw [if_pos h3] at h
      simp only [Option.some.injEq, Prod.mk.injEq] at h
      refine ⟨x.toNat, 1, h.1.symm, h.2.symm, by rw [uvarint_small h3]; rfl, by rw [uvarint_small h3, ofToNat]; rfl, by omega, ?_⟩
      rw [← h.1]
      by_cases h9 : i = 9
      · subst h9
        have : x.toNat * 2 ^ (7 * 9) ≤ 1 * 2 ^ (7 * 9) := Nat.mul_le_mul_right _ (by omega)
        have e : (2 : Nat) ^ (7 * 9) = 9223372036854775808 := by decide
        have e2 : (2 : Nat) ^ 64 = 18446744073709551616 := by decide
        omega
      · have hp : 2 ^ (7 * (i + 1)) ≤ 2 ^ 63 := Nat.pow_le_pow_right (by omega) (by omega)
        have : x.toNat * 2 ^ (7 * i) ≤ 127 * 2 ^ (7 * i) := Nat.mul_le_mul_right _ (by omega)
        rw [p128] at hp
        have e2 : (2 : Nat) ^ 64 = 2 * 2 ^ 63 := by decide
        omega
    · rw [if_neg h3] at h
      have hi9 : i ≠ 9 := fun e => h1 ⟨e, by omega⟩
      have ha' : acc + x.toNat % 128 * 2 ^ (7 * i) < 2 ^ (7 * (i + 1)) := by
        rw [p128]
        have : x.toNat % 128 * 2 ^ (7 * i) ≤ 127 * 2 ^ (7 * i) := Nat.mul_le_mul_right _ (by omega)
        omega
      obtain ⟨m, k, hn, hc, hk, hl, hm, hb⟩ := decF_some r (i + 1) _ n c h (by omega) ha'
      have hm0 := hm (by omega)
      have ev : uvarint (x.toNat % 128 + 128 * m) = x :: uvarint m := by
        rw [uvarint_big (by omega), show (x.toNat % 128 + 128 * m) % 128 + 128 = x.toNat by omega, show (x.toNat % 128 + 128 * m) / 128 = m by omega, ofToNat]
      refine ⟨x.toNat % 128 + 128 * m, k + 1, ?_, by omega, by rw [ev, List.length_cons, hk], by rw [ev, List.drop_succ_cons, List.cons_append, ← hl], by omega, hb⟩
      rw [hn, p128, Nat.add_mul, Nat.add_assoc, ← Nat.mul_assoc, Nat.mul_comm m 128]

/-- a number's bytes are read -/
theorem decF_of : ∀ (k m : Nat), m < k → ∀ (i acc : Nat) (r : List UInt8), i ≤ 9 → acc + m * 2 ^ (7 * i) < 2 ^ 64 → (0 < i → m ≠ 0) →
    decF i acc (uvarint m ++ r) = some (acc + m * 2 ^ (7 * i), i + (uvarint m).length)
  | 0, m, hk, _, _, _, _, _, _ => by omega
  | k + 1, m, hk, i, acc, r, hi, hb, h0 => by
    have nine : i = 9 → m ≤ 1 := fun e => by
      subst e
      have e : (2 : Nat) ^ (7 * 9) = 9223372036854775808 := by decide
      have e2 : (2 : Nat) ^ 64 = 18446744073709551616 := by decide
      rw [e, e2] at hb
      omega
    by_cases h3 : m < 128
    · rw [uvarint_small h3]
      have e : (m.toUInt8).toNat = m := by simp [Nat.toUInt8]; omega
      show decF i acc (m.toUInt8 :: r) = _
      rw [decF, e, if_neg (fun h => by have := nine h.1; omega), if_neg (fun h => h0 h.1 h.2), if_pos h3]
      rfl
    · have i9 : i ≠ 9 := fun e => by have := nine e; omega
      rw [uvarint_big (by omega)]
      have e : ((m % 128 + 128).toUInt8).toNat = m % 128 + 128 := by simp [Nat.toUInt8]; omega
      rw [List.cons_append, decF, e, if_neg (fun h => i9 h.1), if_neg (by omega), if_neg (by omega), show (m % 128 + 128) % 128 = m % 128 by omega]
      have hs : acc + m % 128 * 2 ^ (7 * i) + m / 128 * 2 ^ (7 * (i + 1)) = acc + m * 2 ^ (7 * i) := by
        rw [p128, ← Nat.mul_assoc, Nat.add_assoc, ← Nat.add_mul, show m % 128 + m / 128 * 128 = m by omega]
      rw [decF_of k (m / 128) (by omega) (i + 1) _ r (by omega) (by rw [hs]; exact hb) (fun _ => by omega), hs, List.length_cons]
      simp only [Option.some.injEq, Prod.mk.injEq, true_and]
      omega

theorem dec_of (n : Nat) (r : List UInt8) (h : n < 2 ^ 64) : dec (uvarint n ++ r) = some (n, (uvarint n).length) := by
  have := decF_of (n + 1) n (by omega) 0 0 r (by omega) (by simpa using h) (by omega)
  simpa [dec] using this
theorem dec_some {l : List UInt8} {n c : Nat} (h : dec l = some (n, c)) : (uvarint n).length = c ∧ l = uvarint n ++ l.drop c ∧ n < 2 ^ 64 := by
  obtain ⟨m, k, hn, hc, hk, hl, _, hb⟩ := decF_some l 0 0 n c h (by omega) (by simp)
  simp at hn hc
  subst hn hc
  exact ⟨hk, hl, hb⟩
theorem dec_le {l : List UInt8} {n c : Nat} (h : dec l = some (n, c)) : 1 ≤ c ∧ c ≤ l.length ∧ n < 18446744073709551616 := by
  obtain ⟨h1, h2, h3⟩ := dec_some h
  have := uvarint_pos n
  have h4 := congrArg List.length h2
  rw [List.length_append] at h4
  exact ⟨by omega, by omega, h3⟩
/-- bytes that begin with a number's: just one is read -/
theorem dec_take {l : List UInt8} {m k : Nat} (hm : m < 2 ^ 64) (h : l.take k = uvarint m) (hk : k ≤ l.length) : dec l = some (m, k) := by
  have e : l = uvarint m ++ l.drop k := by rw [← h, List.take_append_drop]
  rw [e, dec_of _ _ hm, ← h, List.length_take]
  simp; omega
/-- what is left of a number's bytes is no number -/
theorem dec_cut {n : Nat} (hn : n < 2 ^ 64) {p q : List UInt8} (h : uvarint n = p ++ q) (hq : q ≠ []) : dec p = none := by
  cases e : dec p with
  | none => rfl
  | some r =>
    exfalso
    obtain ⟨m, c⟩ := r
    obtain ⟨h1, h2, h3⟩ := dec_some e
    have a := dec_of n [] hn
    rw [List.append_nil, h, h2, List.append_assoc, dec_of _ _ h3] at a
    simp only [Option.some.injEq, Prod.mk.injEq] at a
    have h5 := congrArg List.length h
    rw [List.length_append] at h5
    have h6 : 0 < q.length := List.length_pos_iff.mpr hq
    have h7 := (dec_le e).2.1
    obtain ⟨rfl, h8⟩ := a
    omega

/-- the number that low bits spell -/
def valL : List UInt8 → Nat
  | [] => 0
  | x :: r => (valL r * 128 + x.toNat % 128) % 18446744073709551616
theorem valL_lt : ∀ l, valL l < 18446744073709551616
  | [] => by decide
  | x :: r => by rw [valL]; omega
theorem valL_u : ∀ (k n : Nat), n < k → n < 18446744073709551616 → valL (uvarint n) = n
  | 0, n, hk, _ => by omega
  | k + 1, n, hk, hn => by
    by_cases h : n < 128
    · rw [uvarint_small h]
      have e : (n.toUInt8).toNat = n := by simp [Nat.toUInt8]; omega
      rw [valL, e]
      simp [valL]
      omega
    · rw [uvarint_big (by omega), valL, valL_u k (n / 128) (by omega) (by omega)]
      have e : ((n % 128 + 128).toUInt8).toNat = n % 128 + 128 := by simp [Nat.toUInt8]; omega
      rw [e]
      omega
theorem val_uv {n : Nat} (h : n < 18446744073709551616) : valL (uvarint n) = n := valL_u (n + 1) n (by omega) h

/-- eight bytes, the lowest first -/
def leB (n : Nat) : List UInt8 := [n.toUInt8, (n / 256).toUInt8, (n / 65536).toUInt8, (n / 16777216).toUInt8, (n / 4294967296).toUInt8, (n / 1099511627776).toUInt8, (n / 281474976710656).toUInt8, (n / 72057594037927936).toUInt8]
theorem leB_len (n : Nat) : (leB n).length = 8 := rfl
/-- what bytes spell, the lowest first -/
def spell : List UInt8 → Nat
  | [] => 0
  | x :: r => spell r * 256 + x.toNat

/-- a number of any sign as one of none -/
def foldN (n : Int) : Nat := if 0 ≤ n then (2 * n).toNat else (2 * (-1 - n) + 1).toNat
def unfoldN (n : Nat) : Int := if n % 2 = 0 then ((n / 2 : Nat) : Int) else -1 - ((n / 2 : Nat) : Int)
theorem unfold_fold (n : Int) : unfoldN (foldN n) = n := by
  unfold unfoldN foldN
  by_cases h : 0 ≤ n
  · rw [if_pos h, if_pos (by omega)]; omega
  · rw [if_neg h, if_neg (by omega)]; omega
theorem foldN_lt {n : Int} (h1 : -9223372036854775808 ≤ n) (h2 : n ≤ 9223372036854775807) : foldN n < 18446744073709551616 := by
  unfold foldN
  by_cases h : 0 ≤ n
  · rw [if_pos h]; omega
  · rw [if_neg h]; omega
theorem unfoldN_b {n : Nat} (h : n < 18446744073709551616) : -9223372036854775808 ≤ unfoldN n ∧ unfoldN n ≤ 9223372036854775807 := by
  unfold unfoldN
  by_cases h : n % 2 = 0
  · rw [if_pos h]; omega
  · rw [if_neg h]; omega
end Go.Proofs.YtdfbpaajkpnaeaaGreat
