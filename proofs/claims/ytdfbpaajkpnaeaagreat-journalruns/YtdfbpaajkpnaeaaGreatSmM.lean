/- Package stamp, mathematics: bytes as sectors that bear a number, and back. -/
import Derived.Test.YtdfbpaajkpnaeaaGreatDkM
namespace Go.Proofs.YtdfbpaajkpnaeaaGreat
set_option maxRecDepth 100000
open Go.RowKit Go.Lib

/-- the lowest byte first -/
def num8 : List UInt8 → Nat
  | [] => 0
  | b :: l => b.toNat + 256 * num8 l
def le8 : Nat → Nat → List UInt8
  | 0, _ => []
  | k + 1, n => UInt8.ofNat (n % 256) :: le8 k (n / 256)
theorem le8_len : ∀ k n, (le8 k n).length = k
  | 0, _ => rfl
  | k + 1, n => by rw [le8, List.length_cons, le8_len k]
theorem num8_lt : ∀ l : List UInt8, num8 l < 256 ^ l.length
  | [] => by decide
  | b :: l => by
    have h := num8_lt l
    have hb := b.toNat_lt
    rw [num8, List.length_cons, Nat.pow_succ]
    omega
theorem num8_le8 : ∀ k n, num8 (le8 k n) = n % 256 ^ k
  | 0, n => by simp [le8, num8, Nat.mod_one]
  | k + 1, n => by
    have e1 : 256 ^ (k + 1) = 256 * 256 ^ k := by rw [Nat.pow_succ, Nat.mul_comm]
    have e2 : (UInt8.ofNat (n % 256)).toNat = n % 256 := by rw [UInt8.toNat_ofNat']; omega
    rw [le8, num8, num8_le8 k, e1, e2, Nat.mod_mul]
theorem le8_num8 : ∀ l : List UInt8, le8 l.length (num8 l) = l
  | [] => rfl
  | b :: l => by
    have hb := b.toNat_lt
    rw [num8, List.length_cons, le8]
    have e1 : (b.toNat + 256 * num8 l) % 256 = b.toNat := by omega
    have e2 : (b.toNat + 256 * num8 l) / 256 = num8 l := by omega
    rw [e1, e2, le8_num8 l, UInt8.ofNat_toNat]
theorem num8_app : ∀ l k : List UInt8, num8 (l ++ k) = num8 l + 256 ^ l.length * num8 k
  | [], k => by simp [num8]
  | b :: l, k => by
    rw [List.cons_append, num8, num8, num8_app l k, List.length_cons, Nat.pow_succ, Nat.mul_add, ← Nat.mul_assoc, Nat.mul_comm 256 (256 ^ l.length)]
    omega
/-- the number that a sector bears -/
def stN (s : Sec) : Nat := num8 (s.drop 56)
theorem stN_lt {s : Sec} (h : s.length = 64) : stN s < 18446744073709551616 := by
  have := num8_lt (s.drop 56)
  rw [List.length_drop, h] at this
  exact this
/-- how many sectors so many bytes have -/
def spanN (n : Nat) : Nat := if n ≤ 13515 then max 1 ((n + 52) / 53) else 0
def mkS (i many : Nat) (p : List UInt8) (n : Nat) : Sec := [UInt8.ofNat i, UInt8.ofNat many, UInt8.ofNat p.length] ++ (p ++ List.replicate (53 - p.length) 0) ++ le8 8 n
theorem mkS_len {i many : Nat} {p : List UInt8} {n : Nat} (h : p.length ≤ 53) : (mkS i many p n).length = 64 := by
  simp [mkS, le8_len]; omega
def piece (l : List UInt8) (i : Nat) : List UInt8 := (l.drop (53 * i)).take 53
theorem piece_len (l : List UInt8) (i : Nat) : (piece l i).length = min 53 (l.length - 53 * i) := by simp [piece]
theorem piece_le (l : List UInt8) (i : Nat) : (piece l i).length ≤ 53 := by rw [piece_len]; omega
def secOf (n : Nat) (l : List UInt8) (i : Nat) : Sec := mkS i (spanN l.length) (piece l i) n
theorem secOf_len (n : Nat) (l : List UInt8) (i : Nat) : (secOf n l i).length = 64 := mkS_len (piece_le l i)
def secs (n : Nat) (l : List UInt8) : List Sec := (List.range (spanN l.length)).map (secOf n l)
def layL (n : Nat) (l : List UInt8) : List Sec := if n = 0 then [] else secs n l
theorem secs_length (n : Nat) (l : List UInt8) : (secs n l).length = spanN l.length := by simp [secs]
theorem secs_get {n : Nat} {l : List UInt8} {i : Nat} (h : i < spanN l.length) : (secs n l)[i]? = some (secOf n l i) := by simp [secs, h]
theorem secs_64 (n : Nat) (l : List UInt8) : ∀ s ∈ secs n l, s.length = 64 := fun s hs => by
  obtain ⟨i, _, rfl⟩ := List.mem_map.1 hs
  exact secOf_len n l i
theorem layL_64 (n : Nat) (l : List UInt8) : ∀ s ∈ layL n l, s.length = 64 := fun s hs => by
  unfold layL at hs
  split at hs
  · cases hs
  · exact secs_64 n l s hs
theorem spanN_le (n : Nat) : spanN n ≤ 255 := by unfold spanN; split <;> omega
theorem spanN_pos {n : Nat} (h : n ≤ 13515) : 1 ≤ spanN n := by unfold spanN; rw [if_pos h]; omega
theorem spanN_hi {n : Nat} (h : n ≤ 13515) : n ≤ 53 * spanN n := by unfold spanN; rw [if_pos h]; omega
theorem spanN_lo {n : Nat} (h : n ≤ 13515) : 53 * (spanN n - 1) ≤ n := by unfold spanN; rw [if_pos h]; omega
/-- the bytes of each sector, as many as it tells that it has -/
def gatS (s : Sec) : List UInt8 := (s.drop 3).take (min (s.getD 2 0).toNat 53)
def gat (L : List Sec) : List UInt8 := L.flatMap gatS
theorem gatS_len {s : Sec} (h : s.length = 64) : (gatS s).length = min (s.getD 2 0).toNat 53 := by simp [gatS]; omega
theorem gatS_le (s : Sec) : (gatS s).length ≤ 53 := by simp [gatS]; omega
theorem gat_le : ∀ L : List Sec, (gat L).length ≤ 53 * L.length
  | [] => by simp [gat]
  | s :: L => by
    have h := gat_le L
    have := gatS_le s
    rw [gat, List.flatMap_cons, List.length_append, List.length_cons]
    unfold gat at h
    omega
theorem gat_app (L K : List Sec) : gat (L ++ K) = gat L ++ gat K := List.flatMap_append
theorem gatS_mk {i many : Nat} {p : List UInt8} {n : Nat} (h : p.length ≤ 53) : gatS (mkS i many p n) = p := by
  have e : (mkS i many p n).getD 2 0 = UInt8.ofNat p.length := by simp [mkS]
  unfold gatS
  rw [e, UInt8.toNat_ofNat', Nat.mod_eq_of_lt (by omega), Nat.min_eq_left h]
  simp [mkS]
theorem stN_mk {i many : Nat} {p : List UInt8} {n : Nat} (h : p.length ≤ 53) (hn : n < 18446744073709551616) : stN (mkS i many p n) = n := by
  unfold stN
  have : (mkS i many p n).drop 56 = le8 8 n := by
    unfold mkS
    rw [List.drop_append, List.drop_of_length_le (by simp; omega)]
    have : 56 - ([UInt8.ofNat i, UInt8.ofNat many, UInt8.ofNat p.length] ++ (p ++ List.replicate (53 - p.length) (0 : UInt8))).length = 0 := by simp; omega
    rw [this]
    simp
  rw [this, num8_le8]
  exact Nat.mod_eq_of_lt hn
theorem take_pieces (l : List UInt8) : ∀ k, (List.range k).flatMap (piece l) = l.take (53 * k)
  | 0 => by simp
  | k + 1 => by
    rw [List.range_succ, List.flatMap_append, take_pieces l k]
    simp only [List.flatMap_cons, List.flatMap_nil, List.append_nil, piece]
    rw [Nat.mul_succ, List.take_add]
theorem gat_secs {n : Nat} {l : List UInt8} (h : l.length ≤ 13515) : gat (secs n l) = l := by
  unfold gat secs
  rw [List.flatMap_map]
  have : (fun a => gatS (secOf n l a)) = piece l := funext fun i => gatS_mk (piece_le l i)
  rw [this, take_pieces]
  exact List.take_of_length_le (spanN_hi h)
theorem stN_sec {n : Nat} {l : List UInt8} {i : Nat} (hn : n < 18446744073709551616) : stN (secOf n l i) = n := stN_mk (piece_le l i) hn

/-- the sectors from x on -/
def Dk.secsAt (d : Dk) (x : Int) (k : Nat) : List Sec := (List.range k).map fun (i : Nat) => d.at_ (x + (i : Int))
theorem secsAt_length (d : Dk) (x : Int) (k : Nat) : (d.secsAt x k).length = k := by simp [Dk.secsAt]
theorem secsAt_get {d : Dk} {x : Int} {k i : Nat} (h : i < k) : (d.secsAt x k)[i]? = some (d.at_ (x + (i : Int))) := by simp [Dk.secsAt, h]
theorem secsAt_64 {d : Dk} (h : d.Ok) (x : Int) (k : Nat) : ∀ s ∈ d.secsAt x k, s.length = 64 := fun s hs => by
  obtain ⟨i, _, rfl⟩ := List.mem_map.1 hs
  exact at_len h _
theorem secsAt_succ (d : Dk) (x : Int) (k : Nat) : d.secsAt x (k + 1) = d.secsAt x k ++ [d.at_ (x + (k : Int))] := by simp [Dk.secsAt, List.range_succ]
def manyAt (s : Sec) : Nat := (s.getD 1 0).toNat
theorem manyAt_lt (s : Sec) : manyAt s < 256 := UInt8.toNat_lt _
/-- as many as the first one tells -/
def Dk.stands (d : Dk) (x z : Int) : List Sec := if z ≤ x then [] else if z - x < (manyAt (d.at_ x) : Int) then [] else d.secsAt x (manyAt (d.at_ x))
theorem stands_64 {d : Dk} (h : d.Ok) (x z : Int) : ∀ s ∈ d.stands x z, s.length = 64 := fun s hs => by
  unfold Dk.stands at hs
  split at hs
  · cases hs
  · split at hs
    · cases hs
    · exact secsAt_64 h _ _ s hs
theorem stands_le (d : Dk) (x z : Int) : (d.stands x z).length ≤ 255 := by
  unfold Dk.stands
  split
  · simp
  · split
    · simp
    · rw [secsAt_length]; have := manyAt_lt (d.at_ x); omega
structure Rd where
  b : List UInt8
  n : Nat
  many : Nat
  e : Int
def Rd.none (e : Int) : Rd := ⟨[], 0, 0, e⟩
def readL (L : List Sec) : Rd := if L ≠ [] ∧ L = layL (stN (L.headD [])) (gat L) then ⟨gat L, stN (L.headD []), L.length, 0⟩ else Rd.none 91
def Dk.read (d : Dk) (x z : Int) : Rd := if x < 0 ∨ (d.base.length : Int) < z then Rd.none 81 else readL (d.stands x z)
theorem norm_read (d : Dk) (x z : Int) : d.norm.read x z = d.read x z := rfl
theorem secs_ne {n : Nat} {l : List UInt8} (h : l.length ≤ 13515) : secs n l ≠ [] := fun e => by
  have := secs_length n l
  rw [e] at this
  have := spanN_pos h
  simp at *
  omega
theorem secs_head {n : Nat} {l : List UInt8} (h : l.length ≤ 13515) : (secs n l).headD [] = secOf n l 0 := by
  have := secs_get (n := n) (l := l) (i := 0) (spanN_pos h)
  cases hs : secs n l with
  | nil => exact absurd hs (secs_ne h)
  | cons s L => rw [hs] at this; simpa using this
theorem readL_secs {n : Nat} {l : List UInt8} (h : l.length ≤ 13515) (h0 : n ≠ 0) (hn : n < 18446744073709551616) : readL (secs n l) = ⟨l, n, spanN l.length, 0⟩ := by
  unfold readL
  rw [secs_head h, stN_sec hn, gat_secs h, secs_length]
  unfold layL
  rw [if_neg h0, if_pos ⟨secs_ne h, rfl⟩]
theorem readL_ok {L : List Sec} (h : (readL L).e = 0) : L ≠ [] ∧ L = layL (stN (L.headD [])) (gat L) ∧ readL L = ⟨gat L, stN (L.headD []), L.length, 0⟩ := by
  unfold readL at *
  split
  · next k => exact ⟨k.1, k.2, rfl⟩
  · next k => rw [if_neg k] at h; cases h
end Go.Proofs.YtdfbpaajkpnaeaaGreat
