
/- falseworklaw09.StampBack, mathematics. -/
import Derived.Test.YtdfbpaajkpnaeaaSmL
import Derived.Test.YtdfbpaajkpnaeaaCame
import Derived.Laws.IdiomArrays
namespace Go.Proofs.Ytdfbpaajkpnaeaa
set_option maxRecDepth 100000
open Go.RowKit Go.Lib

theorem blank_at (n y : Int) : (Dk.blank n).at_ y = zsec := by
  unfold Dk.at_
  split
  · next h =>
    unfold Dk.blank at *
    simp only [List.length_replicate] at h
    simp only [ofQ_nil, List.getLast?_nil, Option.getD_none, List.getD_eq_getElem?_getD]
    rw [List.getElem?_replicate, if_pos (by omega)]
    rfl
  · rfl
/-- the disk on which n and l were written at 1 -/
def dB (n : Nat) (l : List UInt8) : Dk := { Dk.blank ((spanN l.length : Int) + 2) with queue := (Dk.blank ((spanN l.length : Int) + 2)).queue ++ qsOf 1 (secs n l) }
theorem dB_base (n : Nat) (l : List UInt8) : (dB n l).base.length = spanN l.length + 2 := by
  have := spanN_le l.length
  unfold dB Dk.blank
  simp only [List.length_replicate]
  unfold blankN
  omega
theorem dB_up (n : Nat) (l : List UInt8) : Up (dB n l) := ⟨rfl, rfl⟩
theorem dB_blank (l : List UInt8) : ((Dk.blank ((spanN l.length : Int) + 2)).base.length : Int) = (spanN l.length : Int) + 2 := by
  have := spanN_le l.length
  unfold Dk.blank
  simp only [List.length_replicate]
  unfold blankN
  omega
theorem wB {n : Nat} {l : List UInt8} (hn : n ≠ 0) (hl : l.length ≤ 2000) : (Dk.blank ((spanN l.length : Int) + 2)).write 1 n l = (dB n l, 0) := by
  unfold dB
  exact write_up (Up.blank _) hn (by omega) (by omega) (by rw [dB_blank]; omega)
theorem rB {n : Nat} {l : List UInt8} (hn : n ≠ 0) (hn2 : n < 18446744073709551616) (hl : l.length ≤ 2000) : (dB n l).read 1 ((spanN l.length : Int) + 1) = ⟨l, n, spanN l.length, 0⟩ := by
  unfold dB
  exact written_read (d := Dk.blank ((spanN l.length : Int) + 2)) (by omega) hn hn2 (by omega) (by omega) (by rw [dB_blank]; omega)
theorem sB (n : Nat) (l : List UInt8) : Stand (dB n l) 1 n l := by
  unfold dB
  exact Stand.written (d := Dk.blank ((spanN l.length : Int) + 2)) (by omega) (by rw [dB_blank]; omega)
theorem at_B {n : Nat} {l : List UInt8} {t : Int} (h : 1 ≤ t ∧ t ≤ (spanN l.length : Int)) : (dB n l).at_ t = secOf n l (t - 1).toNat := by
  have := sB n l (t - 1).toNat (by omega)
  rw [show (1 : Int) + (((t - 1).toNat : Nat) : Int) = t by omega] at this
  exact this
theorem readL_nil : readL [] = Rd.none 91 := if_neg (fun h => h.1 rfl)
theorem rB1 {n : Nat} {l : List UInt8} (hl : l.length ≤ 2000) : (dB n l).read 1 (spanN l.length : Int) = Rd.none 91 := by
  have hs := spanN_pos (n := l.length) (by omega)
  have hst : (dB n l).stands 1 (spanN l.length : Int) = [] := by
    unfold Dk.stands
    split
    · rfl
    · next h =>
      have h0 := sB n l 0 (by omega)
      rw [show (1 : Int) + ((0 : Nat) : Int) = 1 by omega] at h0
      rw [h0, many_sec, if_pos (by omega)]
  unfold Dk.read
  rw [dB_base, if_neg (by omega), hst, readL_nil]
theorem head_sec {n : Nat} {l : List UInt8} {i : Nat} : (secOf n l i).getD 0 0 = UInt8.ofNat i := by simp [secOf, mkS]
theorem readL_other {L : List Sec} (hL : L.headD [] = [] ∨ (L.headD []).getD 0 0 ≠ 0) : readL L = Rd.none 91 := by
  unfold readL
  rw [if_neg]
  rintro ⟨h1, h2⟩
  have hg := gat_le L
  generalize gat L = b at *
  generalize stN (L.headD []) = n at *
  unfold layL at h2
  split at h2
  · exact h1 h2
  · by_cases hb : b.length ≤ 13515
    · have hh := secs_head (n := n) hb
      rw [← h2] at hh
      rw [hh] at hL
      rcases hL with hL | hL
      · have := secOf_len n b 0
        rw [hL] at this
        simp at this
      · exact hL (by rw [head_sec]; rfl)
    · have : (secs n b).length = 0 := by rw [secs_length]; unfold spanN; rw [if_neg hb]
      rw [← h2] at this
      exact h1 (List.eq_nil_of_length_eq_zero this)
theorem rB2 {n : Nat} {l : List UInt8} (hl : l.length ≤ 2000) : (dB n l).read 2 ((spanN l.length : Int) + 2) = Rd.none 91 := by
  have hs := spanN_pos (n := l.length) (by omega)
  have hle : spanN l.length ≤ 200 := by unfold spanN; split <;> omega
  unfold Dk.read
  rw [dB_base, if_neg (by omega)]
  apply readL_other
  unfold Dk.stands
  rw [if_neg (by omega)]
  by_cases h1 : spanN l.length = 1
  · have hz : (dB n l).at_ 2 = zsec := by
      have := at_qs (d := Dk.blank ((spanN l.length : Int) + 2)) (L := secs n l) (x := 1) (by omega) (by rw [secs_length, dB_blank]; omega) 2
      rw [secs_length, if_neg (by omega)] at this
      unfold dB
      rw [this]
      exact blank_at _ _
    left
    rw [hz, show manyAt zsec = 0 from rfl, if_neg (by omega)]
    rfl
  · have h0 : (dB n l).at_ 2 = secOf n l 1 := at_B (n := n) (l := l) (t := 2) (by omega)
    right
    rw [h0, many_sec, if_neg (by omega)]
    obtain ⟨m, hm⟩ : ∃ m, spanN l.length = m + 1 := ⟨spanN l.length - 1, by omega⟩
    have : (Dk.secsAt (dB n l) 2 (spanN l.length)).headD [] = secOf n l 1 := by
      rw [hm]
      simp only [Dk.secsAt, List.range_succ_eq_map, List.map_cons, List.headD_cons]
      exact h0
    rw [this, head_sec]
    decide
/-- one byte turned -/
def turnS (s : Sec) (k : Nat) : Sec := s.set k (s.getD k 0 + 1)
theorem turnS_len {s : Sec} {k : Nat} (h : s.length = 64) : (turnS s k).length = 64 := by unfold turnS; rw [List.length_set, h]
theorem turnS_ne {s : Sec} {k : Nat} (h : s.length = 64) (hk : k < 64) : turnS s k ≠ s := fun e => by
  have h1 : (turnS s k).getD k 0 = s.getD k 0 + 1 := by unfold turnS; rw [List.getD, List.getElem?_set_self (by omega)]; rfl
  rw [e] at h1
  have h2 := congrArg UInt8.toNat h1
  rw [UInt8.toNat_add] at h2
  have := (s.getD k 0).toNat_lt
  have h3 : (1 : UInt8).toNat = 1 := rfl
  omega
theorem turned_read {n : Nat} {l : List UInt8} {t : Int} (ht : 1 ≤ t ∧ t ≤ (spanN l.length : Int)) {s : Sec} (hs : s ≠ secOf n l (t - 1).toNat) :
    (((dB n l).put t s).read 1 ((spanN l.length : Int) + 1)).e ≠ 0 ∨ (((dB n l).put t s).read 1 ((spanN l.length : Int) + 1)).b ≠ l ∨ (((dB n l).put t s).read 1 ((spanN l.length : Int) + 1)).n ≠ n := by
  have hb := dB_base n l
  have hput : (dB n l).put t s = { dB n l with queue := (dB n l).queue ++ qsOf t [s] } := by
    rw [(dB_up n l).put (by omega)]; rfl
  have hat : ((dB n l).put t s).at_ t = s := by
    rw [hput, at_qs (by omega) (by simp; omega), if_pos (by simp; omega), Int.sub_self]
    rfl
  have hbp : ((dB n l).put t s).base.length = spanN l.length + 2 := by rw [put_base, hb]
  apply Classical.byContradiction
  intro hno
  have hno := not_or.1 hno
  obtain ⟨h1, h23⟩ := hno
  obtain ⟨h2, h3⟩ := not_or.1 h23
  have h1 := Classical.not_not.1 h1
  have h2 := Classical.not_not.1 h2
  have h3 := Classical.not_not.1 h3
  unfold Dk.read at h1 h2 h3
  rw [hbp, if_neg (by omega)] at h1 h2 h3
  obtain ⟨k1, k2, k3⟩ := readL_ok h1
  rw [k3] at h2 h3
  simp only at h2 h3
  rw [h2, h3] at k2
  have hlay : layL n l = secs n l := by
    unfold layL
    split
    · next e => unfold layL at k2; rw [if_pos e] at k2; exact absurd k2 k1
    · rfl
  rw [hlay] at k2
  have hlen := congrArg List.length k2
  rw [secs_length] at hlen
  have hst : ((dB n l).put t s).stands 1 ((spanN l.length : Int) + 1) = ((dB n l).put t s).secsAt 1 (spanN l.length) := by
    have e : ((dB n l).put t s).stands 1 ((spanN l.length : Int) + 1) = ((dB n l).put t s).secsAt 1 (manyAt (((dB n l).put t s).at_ 1)) := by
      unfold Dk.stands at *
      split
      · next h => rw [if_pos h] at k1; exact absurd rfl k1
      · next h =>
        split
        · next h' => rw [if_neg h, if_pos h'] at k1; exact absurd rfl k1
        · rfl
    rw [e, secsAt_length] at hlen
    rw [e, hlen]
  rw [hst] at k2
  have hi : (t - 1).toNat < spanN l.length := by omega
  have g1 := secsAt_get (d := (dB n l).put t s) (x := 1) hi
  rw [k2, secs_get hi, show (1 : Int) + (((t - 1).toNat : Nat) : Int) = t by omega, hat] at g1
  exact hs (Option.some.inj g1).symm
/-! the disk, and what lies below it -/
structure DW (w0 w : World) (F : Nat → Prop) (g : Nat) (d : Dk) : Prop where
  dt : DAt w F g d
  fr : ∀ i, F i → w0.heap.size ≤ i
  bl : RowKit.Below w0.heap.size w0 w
theorem DW.next {w0 w w' : World} {F : Nat → Prop} {g : Nat} {d d' : Dk} (h : DW w0 w F g d) (hd : Did g F d' w w') : ∃ F', DW w0 w' F' g d' := by
  obtain ⟨F', h1, h2, h3⟩ := hd
  exact ⟨F', h1, fun i hi => (h3 i hi).elim (h.fr i) fun e => Nat.le_trans h.bl.size e, h2.below h.bl h.fr h.bl.size⟩
theorem DW.below {w0 w w' : World} {F : Nat → Prop} {g : Nat} {d : Dk} (h : DW w0 w F g d) (hb : RowKit.Below w.heap.size w w') : DW w0 w' F g d :=
  ⟨h.dt.below hb, h.fr, h.bl.trans (hb.mono h.bl.size)⟩
theorem DW.out {a w0 w : World} {F : Nat → Prop} {g : Nat} {d : Dk} (h : DW w0 w F g d) (hb : RowKit.Below a.heap.size a w0) : RowKit.Below a.heap.size a w := hb.trans (h.bl.mono hb.size)
end Go.Proofs.Ytdfbpaajkpnaeaa
