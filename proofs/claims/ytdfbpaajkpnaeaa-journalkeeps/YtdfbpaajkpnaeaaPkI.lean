
/- Package pack: a reader takes numbers of any sign, small ones, texts, floats. -/
import Derived.Test.YtdfbpaajkpnaeaaPkN
import Derived.Test.YtdfbpaajkpnaeaaPkQ
namespace Go.Proofs.Ytdfbpaajkpnaeaa
set_option maxRecDepth 100000
open Go.RowKit Go.Lib

/-- a number is taken: it, what is left, and did it go well? -/
def nV (bs : List UInt8) : Nat := match dec bs with | some (n, _) => n | none => 0
def nR (bs : List UInt8) : List UInt8 := match dec bs with | some (_, c) => bs.drop c | none => []
def nO (bs : List UInt8) : Bool := match dec bs with | some _ => true | none => false
theorem nV_lt (bs : List UInt8) : nV bs < 18446744073709551616 := by
  unfold nV
  split
  · next h => exact (dec_le h).2.2
  · omega
theorem nR_len (bs : List UInt8) : (nR bs).length ≤ bs.length := by
  unfold nR
  split
  · simp
  · simp
theorem rnum (base g : Nat) (bs : List UInt8) (f : Bool) (w : World) (h : RD w base g bs f) (hl : bs.length ≤ 900000000) :
    Calls Try.prog 36 #[.pointer (some ⟨g, 0, none⟩)] w fun e w' => e = .returned (.int .u64 (nV bs : Int)) ∧ To base g (nR bs) (f || !nO bs) w w' := by
  refine (rnum_any base g bs f w h hl).mono ?_
  rintro e w' (⟨n, c, hd, he, ht⟩ | ⟨hd, he, ht⟩)
  · simp only [nV, nR, nO, hd]
    exact ⟨he, by simpa using ht⟩
  · simp only [nV, nR, nO, hd]
    exact ⟨he, by simpa using ht⟩

theorem unfold_even {q : Int} (h0 : 0 ≤ q) (h : q % 2 = 0) : unfoldN q.toNat = q / 2 := by unfold unfoldN; rw [if_pos (by omega)]; omega
theorem unfold_odd {q : Int} (h0 : 0 ≤ q) (h : q % 2 = 1) : unfoldN q.toNat = -1 - q / 2 := by unfold unfoldN; rw [if_neg (by omega)]; omega
/-- a small number is taken -/
def sO (bs : List UInt8) (most : Nat) : Bool := nO bs && decide (nV bs ≤ most ∧ nV bs ≤ 2147483648)
def sV (bs : List UInt8) (most : Nat) : Nat := if nV bs ≤ most ∧ nV bs ≤ 2147483648 then nV bs else 0
def sR (bs : List UInt8) (most : Nat) : List UInt8 := if nV bs ≤ most ∧ nV bs ≤ 2147483648 then nR bs else []
theorem sR_len (bs : List UInt8) (m : Nat) : (sR bs m).length ≤ bs.length := by
  unfold sR
  split
  · exact nR_len bs
  · simp

/-- a text is taken -/
def tC (bs : List UInt8) : Bool := decide (sV bs 65536 ≤ (sR bs 65536).length)
def tO (bs : List UInt8) : Bool := sO bs 65536 && tC bs
def tV (bs : List UInt8) : List UInt8 := if sV bs 65536 ≤ (sR bs 65536).length then (sR bs 65536).take (sV bs 65536) else []
def tR (bs : List UInt8) : List UInt8 := if sV bs 65536 ≤ (sR bs 65536).length then (sR bs 65536).drop (sV bs 65536) else []
/-- a float is taken -/
def fO (bs : List UInt8) : Bool := decide (8 ≤ bs.length)
def fV (bs : List UInt8) : Nat := if 8 ≤ bs.length then spell (bs.take 8) else 0
def fR (bs : List UInt8) : List UInt8 := if 8 ≤ bs.length then bs.drop 8 else []
theorem spell_snoc : ∀ (l : List UInt8) (x : UInt8), spell (l ++ [x]) = spell l + x.toNat * 2 ^ (8 * l.length)
  | [], x => by simp [spell]
  | y :: r, x => by
    rw [List.cons_append, spell, spell_snoc r x, spell, List.length_cons, show 8 * (r.length + 1) = 8 * r.length + 8 by omega, Nat.pow_add, Nat.add_mul]
    rw [show x.toNat * (2 ^ (8 * r.length) * 2 ^ 8) = x.toNat * 2 ^ (8 * r.length) * 256 by rw [← Nat.mul_assoc]]
    omega
theorem spell_lt : ∀ l : List UInt8, spell l < 2 ^ (8 * l.length)
  | [] => by simp [spell]
  | x :: r => by
    rw [spell, List.length_cons, show 8 * (r.length + 1) = 8 * r.length + 8 by omega, Nat.pow_add]
    have := spell_lt r
    have := u8lt x
    omega
theorem join8 {k xn : Nat} {acc : Int} (ha : 0 ≤ acc) (hac : acc.toNat < 2 ^ (8 * k)) (hx : xn < 256) (hk : k ≤ 7) :
    bits .or .u64 acc (IntKind.u64.wrap ((xn : Int) * 2 ^ (8 * k))) = ((acc.toNat + xn * 2 ^ (8 * k) : Nat) : Int) := by
  have hp : (2 : Nat) ^ (8 * k) ≤ 2 ^ 56 := Nat.pow_le_pow_right (by omega) (by omega)
  have e56 : (2 : Nat) ^ 56 = 72057594037927936 := by decide
  have hb : xn * 2 ^ (8 * k) < 18446744073709551616 := by
    have := Nat.mul_le_mul (show xn ≤ 255 by omega) hp
    omega
  have e : (xn : Int) * 2 ^ (8 * k) = ((xn * 2 ^ (8 * k) : Nat) : Int) := by rw [Int.natCast_mul, ← pow_int]
  have e64' : (2 : Int) ^ 64 = 18446744073709551616 := by decide
  have hm : ((xn * 2 ^ (8 * k) : Nat) : Int) % 2 ^ (8 * k) = 0 := by
    rw [pow_int, ← Int.natCast_emod, Nat.mul_mod_left]; rfl
  rw [e, wraps_u64 _ (by omega) (by rw [e64']; omega)]
  rw [bits_join_low .u64 64 (by decide) wraps_u64 (8 * k) acc _ ha (by rw [pow_int]; omega) (by rw [e64']; omega) (by omega) hm (by rw [e64']; omega)]
  omega
end Go.Proofs.Ytdfbpaajkpnaeaa
