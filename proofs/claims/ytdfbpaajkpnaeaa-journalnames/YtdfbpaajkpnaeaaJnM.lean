
/- Package journal, mathematics: what counts, when a Write was cut off; a journal that lives; what is there behind a crash. -/
import Derived.Test.YtdfbpaajkpnaeaaJnA

namespace Go.Proofs.Ytdfbpaajkpnaeaa
set_option maxRecDepth 100000
open Go.RowKit Go.Lib

/-! one write, flushed -/
def Dk.wr (d : Dk) (p : Int) (n : Nat) (l : List UInt8) : Dk × Int :=
  if (d.write p n (closed l)).2 = 0 then ((d.write p n (closed l)).1.flush, (d.write p n (closed l)).1.actE) else d.write p n (closed l)
/-- what a write leaves that was not cut off -/
structure Wrote (d d' : Dk) (p : Int) (n : Nat) (l : List UInt8) : Prop where
  ok : d'.Ok
  bl : d'.base.length = d.base.length
  q : d'.queue = []
  dd : d'.dead = false
  at_ : ∀ y, d'.at_ y = if p ≤ y ∧ y < p + (spanN (l.length + 4) : Int) then (secs n (closed l)).getD (y - p).toNat [] else d.at_ y
  fu : d.fuse < 0 → d'.fuse < 0
theorem wr_fuse {d : Dk} (ok : d.Ok) (q : d.queue = []) (dd : d.dead = false) {p : Int} {n : Nat} {l : List UInt8} (hl : l.length + 4 ≤ 13515) (hn : n ≠ 0) (h0 : 0 ≤ p) (h1 : p + (spanN (l.length + 4) : Int) ≤ d.base.length) :
    ((d.wr p n l).2 = 0 ∧ Wrote d (d.wr p n l).1 p n l) ∨ ((d.wr p n l).2 = 82 ∧ Torn d (d.wr p n l).1 p n l) := by
  have hcl := closed_len l
  have hsp := spanN_pos (n := (closed l).length) (by omega)
  have hlay : layL n (closed l) = secs n (closed l) := if_neg hn
  have hsl : (secs n (closed l)).length = spanN (l.length + 4) := by rw [secs_length, hcl]
  have hwr : d.write p n (closed l) = putAll d p (secs n (closed l)) := by
    unfold Dk.write
    rw [hlay, if_neg (by rw [hsl]; rw [hcl] at hsp; omega), if_neg (by rw [hsl]; omega)]
  have hok1 := write_ok ok p n (closed l) (by rw [q]; exact Nat.zero_le _)
  obtain ⟨j, k1, k2, k3, k4, k5⟩ := putAll_fuse (secs n (closed l)) d p dd h0 (by rw [hsl]; omega)
  rw [← hwr] at k2 k3 k4 k5
  rw [q, List.nil_append] at k3
  unfold Dk.wr
  generalize d.write p n (closed l) = r at *
  obtain ⟨d1, E⟩ := r
  simp only at *
  rcases k4 with ⟨a, b, c⟩ | ⟨a, b, c⟩
  · subst a
    rw [if_pos rfl]
    subst b
    rw [List.take_length] at k3
    by_cases hlv : d1.live = true
    · left
      have hA : d1.actE = 0 := by unfold Dk.actE; rw [if_pos hlv]
      have hspd : d1.spend = { d1 with fuse := if 0 < d1.fuse then d1.fuse - 1 else d1.fuse } := by unfold Dk.spend; rw [if_pos hlv]
      have hfl : d1.flush = { d1.spend with base := stl (fun _ => 64) d1.queue d1.base d1.queue.length, queue := [] } := by unfold Dk.flush; rw [if_pos hlv]
      refine ⟨hA, ⟨hok1.flush, ?_, ?_, ?_, fun y => ?_, fun hf => ?_⟩⟩
      · rw [hfl]
        show (stl _ _ _ _).length = _
        rw [stl_len, k2]
      · rw [hfl]
      · rw [hfl, hspd]; exact c
      · rw [flush_at hok1 hlv y, ← hsl, ← at_qs (d := d) (L := secs n (closed l)) h0 (by rw [hsl]; omega) y]
        exact at_eq (d := { d with queue := d.queue ++ qsOf p (secs n (closed l)) }) k2 (by rw [k3, q]; rfl) y
      · rw [hfl, hspd]
        have := k5 hf
        show (if 0 < d1.fuse then d1.fuse - 1 else d1.fuse) < 0
        rw [if_neg (by omega)]; exact this
    · right
      have hA : d1.actE = 82 := by unfold Dk.actE; rw [if_neg hlv]
      have hfl : d1.flush = { d1 with dead := true } := by unfold Dk.flush Dk.spend; rw [if_neg hlv, if_neg hlv]
      have hf0 : ¬ d.fuse < 0 := fun hf => by
        have := k5 hf
        unfold Dk.live at hlv
        rw [c] at hlv
        simp at hlv
        omega
      exact ⟨hA, ⟨by rw [hfl]; exact k2, ⟨spanN (l.length + 4), Nat.le_refl _, by rw [hfl]; show d1.queue = _; rw [k3, ← hsl, List.take_length]⟩, by rw [hfl], by omega⟩⟩
  · subst a
    right
    rw [if_neg (by decide)]
    exact ⟨rfl, ⟨k2, ⟨j, by rw [← hsl]; exact k1, k3⟩, b, c⟩⟩
theorem slotW_wr {d : Dk} {s : Int} {l : List UInt8} (hc : canB d 0 s = true) (h0 : l.length + 4 ≤ 13515) (hs : (spanN (l.length + 4) : Int) ≤ s) :
    (d.slotW 0 s l).1 = (d.wr (plc (d.nextG 0 s) 0 s) (d.nextG 0 s) l).1 ∧ (d.slotW 0 s l).2.2 = (d.wr (plc (d.nextG 0 s) 0 s) (d.nextG 0 s) l).2 := by
  have hsp := spanN_pos h0
  unfold Dk.slotW Dk.wr
  rw [if_neg (by rw [hc]; exact Bool.noConfusion), if_neg (by omega)]
  by_cases h3 : (d.write (plc (d.nextG 0 s) 0 s) (d.nextG 0 s) (closed l)).2 = 0
  · rw [if_neg (not_not_intro h3), if_pos h3]
    by_cases h4 : (d.write (plc (d.nextG 0 s) 0 s) (d.nextG 0 s) (closed l)).1.actE = 0
    · rw [if_neg (not_not_intro h4)]
      exact ⟨rfl, h4.symm⟩
    · rw [if_pos h4]
      exact ⟨rfl, rfl⟩
  · rw [if_pos h3, if_neg h3]
    exact ⟨rfl, rfl⟩
theorem slotW_no {d : Dk} {s : Int} {l : List UInt8} (h : 13515 < l.length + 4 ∨ s < (spanN (l.length + 4) : Int)) : d.slotW 0 s l = (d, 0, 111) := by
  unfold Dk.slotW
  split
  · rfl
  · rw [if_pos]
    rcases h with h | h
    · left
      unfold spanN
      rw [if_neg (by omega)]
    · exact Or.inr h
theorem app_wr {d : Dk} {x z : Int} {n : Nat} {l : List UInt8} (h1 : l.length ≤ 4096) (h2 : (spanN (l.length + 4) : Int) ≤ z - x) : d.app x z n l = d.wr x n l := by
  unfold Dk.app Dk.wr
  rw [if_neg (by omega), if_neg (by omega)]
/-! what was cut off -/
theorem Torn.at_ {d d' : Dk} {x : Int} {n : Nat} {l : List UInt8} (ht : Torn d d' x n l) (q : d.queue = []) (h0 : 0 ≤ x) (h1 : x + (spanN (l.length + 4) : Int) ≤ d.base.length) (keep : List Int) :
    ∃ j : Nat, j ≤ spanN (l.length + 4) ∧ ∀ y, (d'.power keep).at_ y = if x ≤ y ∧ y < x + (j : Int) then cutS (secOf n (closed l) (y - x).toNat) (d.at_ y) (keepF keep (y - x).toNat) else d.at_ y := by
  obtain ⟨j, hj, hq⟩ := ht.qu
  have hcl := closed_len l
  have hlen : ((secs n (closed l)).take j).length = j := by rw [List.length_take, secs_length, hcl]; omega
  refine ⟨j, hj, fun y => ?_⟩
  have hp := power_qs (d := d) (x := x) (L := (secs n (closed l)).take j) (keep := keep) q h0 (by rw [hlen]; omega) y
  rw [hlen] at hp
  rw [power_eq (d := { d with queue := qsOf x ((secs n (closed l)).take j) }) (d' := d') ht.bs hq, hp]
  split
  · next h =>
    have hs : ((secs n (closed l)).take j).getD (y - x).toNat [] = secOf n (closed l) (y - x).toNat := by
      rw [List.getD, List.getElem?_take_of_lt (by omega), secs_get (by rw [hcl]; omega)]; rfl
    rw [hs]
  · rfl
theorem Torn.len {d d' : Dk} {x : Int} {n : Nat} {l : List UInt8} (ht : Torn d d' x n l) (keep : List Int) : (d'.power keep).base.length = d.base.length := by
  rw [show (d'.power keep).base.length = d'.base.length from stl_len _ _ _ _, ht.bs]
/-- the number that a sector bears that was cut off is no greater -/
theorem stN_cut {s old : Sec} {k : Nat} (hs : s.length = 64) (ho : old.length = 64) (h : stN old ≤ stN s) : stN (cutS s old k) ≤ stN s := by
  by_cases hk : k ≤ 56
  · unfold stN at *
    rw [cut_hi hs hk]
    exact h
  · by_cases hk2 : 64 ≤ k
    · have e : cutS s old k = s := by
        unfold cutS
        rw [List.take_of_length_le (by omega), List.drop_of_length_le (by omega), List.append_nil]
      rw [e]
      exact Nat.le_refl _
    · obtain ⟨j, rfl⟩ : ∃ j, k = 56 + j := ⟨k - 56, by omega⟩
      unfold stN at *
      have e : (cutS s old (56 + j)).drop 56 = (s.drop 56).take j ++ (old.drop 56).drop j := by
        unfold cutS
        rw [List.drop_append, List.length_take, hs, show 56 - min (56 + j) 64 = 0 by omega, List.drop_zero, List.drop_take, show 56 + j - 56 = j by omega, List.drop_drop]
      rw [e]
      generalize hA : s.drop 56 = A at *
      generalize hB : old.drop 56 = B at *
      have hAl : A.length = 8 := by rw [← hA, List.length_drop, hs]
      have hBl : B.length = 8 := by rw [← hB, List.length_drop, ho]
      have e1 := num8_app (A.take j) (A.drop j)
      have e2 := num8_app (B.take j) (B.drop j)
      have e3 := num8_app (A.take j) (B.drop j)
      rw [List.take_append_drop] at e1 e2
      have l1 : (A.take j).length = j := by rw [List.length_take]; omega
      have l2 : (B.take j).length = j := by rw [List.length_take]; omega
      have b1 := num8_lt (A.take j)
      rw [l1] at e1 e3 b1
      rw [l2] at e2
      rw [e3, e1]
      apply Nat.add_le_add_left
      apply Nat.mul_le_mul_left
      by_cases hc : num8 (B.drop j) ≤ num8 (A.drop j)
      · exact hc
      · exfalso
        have h4 : 256 ^ j * (num8 (A.drop j) + 1) ≤ 256 ^ j * num8 (B.drop j) := Nat.mul_le_mul_left _ (by omega)
        rw [Nat.mul_add, Nat.mul_one] at h4
        omega
/-! what counts -/
/-- what counts is b with the generation m, above all that the places' sectors bear -/
structure Pl (d : Dk) (s : Int) (m : Nat) (b : List UInt8) : Prop where
  can : canB d 0 s = true
  cur : d.slot 0 s = (⟨b, m⟩, 0)
  m0 : m ≠ 0
  top : ∀ y, 0 ≤ y → y < 2 * s → stN (d.at_ y) ≤ m
theorem slot_same {d d' : Dk} {s : Int} (hb : d'.base.length = d.base.length) (h : ∀ t, 0 ≤ t → t < 2 * s → d'.at_ t = d.at_ t) (hc : canB d 0 s = true) : d'.slot 0 s = d.slot 0 s ∧ canB d' 0 s = true := by
  obtain ⟨_, s1, _, _⟩ := canB_iff.1 hc
  have hc2 : canB d' 0 s = true := by rw [canB_iff, hb]; exact canB_iff.1 hc
  have h1 : d'.stand 0 s 0 = d.stand 0 s 0 := stand_same hb fun t h1 h2 => h t h1 (by omega)
  have h2 : d'.stand (0 + s) s 1 = d.stand (0 + s) s 1 := stand_same hb fun t h1 h2 => h t (by omega) (by omega)
  refine ⟨?_, hc2⟩
  unfold Dk.slot Dk.both
  rw [h1, h2, hc, hc2]
theorem Pl.same {d d' : Dk} {s : Int} {m : Nat} {b : List UInt8} (h : Pl d s m b) (hb : d'.base.length = d.base.length) (ha : ∀ t, 0 ≤ t → t < 2 * s → d'.at_ t = d.at_ t) : Pl d' s m b := by
  obtain ⟨h1, h2⟩ := slot_same hb ha h.can
  exact ⟨h2, h1.trans h.cur, h.m0, fun y y0 y1 => by rw [ha y y0 y1]; exact h.top y y0 y1⟩
theorem stand_lt {d : Dk} {p s : Int} {k n : Nat} (hn : 0 < n) (h : p < p + s → stN (d.at_ p) < n) : (d.stand p s k).n < n := by
  unfold Dk.stand
  split
  · next h1 =>
    show (d.read p (p + s)).n < n
    obtain ⟨_, k2, _, _, _, _, k7, _⟩ := read_in h1.1
    rw [k7]
    exact h k2
  · exact hn
theorem Pl.parts {d : Dk} {s : Int} {m : Nat} {b : List UInt8} (h : Pl d s m b) : (m % 2 = 0 ∧ d.stand 0 s 0 = ⟨b, m⟩) ∨ (m % 2 = 1 ∧ d.stand s s 1 = ⟨b, m⟩) := by
  have hc := h.cur
  have hm := h.m0
  unfold Dk.slot at hc
  rw [h.can] at hc
  by_cases h0 : (d.both 0 s).n ≠ 0
  · rw [if_pos ⟨rfl, h0⟩] at hc
    have hb : d.both 0 s = ⟨b, m⟩ := (Prod.mk.inj hc).1
    unfold Dk.both at hb
    rw [Int.zero_add] at hb
    split at hb
    · right
      have := stand_par d s s 1
      rw [hb] at this
      exact ⟨by simp only at this; omega, hb⟩
    · left
      have := stand_par d 0 s 0
      rw [hb] at this
      exact ⟨by simp only at this; omega, hb⟩
  · rw [if_neg (fun e => h0 e.2)] at hc
    have := (Prod.mk.inj hc).2
    omega
/-- the next one is one more -/
theorem Pl.nextG {d : Dk} {s : Int} {m : Nat} {b : List UInt8} (h : Pl d s m b) (hm : m + 1 < 18446744073709551616) : d.nextG 0 s = m + 1 := by
  obtain ⟨_, s1, _, _⟩ := canB_iff.1 h.can
  have hub : topN d 0 (2 * s).toNat ≤ m := topN_ub fun i hi => h.top _ (by omega) (by omega)
  have hlb : m ≤ topN d 0 (2 * s).toNat := by
    rcases h.parts with ⟨_, e⟩ | ⟨_, e⟩
    · have := stand_le (d := d) (x := 0) (s := s) (p := 0) (k := 0) (by omega) (by omega)
      rwa [e] at this
    · have := stand_le (d := d) (x := 0) (s := s) (p := s) (k := 1) (by omega) (by omega)
      rwa [e] at this
  have e : topN d 0 (2 * s).toNat = m := by omega
  unfold Dk.nextG
  rw [e, h.cur, Nat.mod_eq_of_lt hm]
  rw [if_neg (fun q => by have := q.2; simp only at this; omega)]
/-- a generation that is above all, and not far above -/
theorem nextG_in {d : Dk} {s : Int} {M : Nat} (s1 : 1 ≤ s) (h : ∀ y, 0 ≤ y → y < 2 * s → stN (d.at_ y) ≤ M) (hM : M + 2 < 18446744073709551616) : (∀ y, 0 ≤ y → y < 2 * s → stN (d.at_ y) < d.nextG 0 s) ∧ d.nextG 0 s ≤ M + 2 := by
  have hub : topN d 0 (2 * s).toNat ≤ M := topN_ub fun i hi => h _ (by omega) (by omega)
  have e1 : (topN d 0 (2 * s).toNat + 1) % 18446744073709551616 = topN d 0 (2 * s).toNat + 1 := Nat.mod_eq_of_lt (by omega)
  have e2 : (topN d 0 (2 * s).toNat + 1 + 1) % 18446744073709551616 = topN d 0 (2 * s).toNat + 1 + 1 := Nat.mod_eq_of_lt (by omega)
  have hn : topN d 0 (2 * s).toNat < d.nextG 0 s ∧ d.nextG 0 s ≤ M + 2 := by
    unfold Dk.nextG
    rw [e1, e2]
    split <;> omega
  refine ⟨fun y y0 y1 => ?_, hn.2⟩
  have := topN_le (d := d) (x := 0) (k := (2 * s).toNat) (i := y.toNat) (by omega)
  rw [show (0 : Int) + ((y.toNat : Nat) : Int) = y by omega] at this
  omega
theorem plc_0 (n : Nat) (s : Int) : (n % 2 = 0 ∧ plc n 0 s = 0) ∨ (n % 2 = 1 ∧ plc n 0 s = s) := by
  unfold plc
  split
  · next h => exact Or.inl ⟨h, rfl⟩
  · next h => exact Or.inr ⟨by omega, by omega⟩
/-- a content that was written whole counts -/
theorem Wrote.pl {d d' : Dk} {s : Int} {n : Nat} {l : List UInt8} (h : Wrote d d' (plc n 0 s) n l) (hc : canB d 0 s = true) (hn0 : n ≠ 0) (hn : n < 18446744073709551616) (hl : l.length + 4 ≤ 13515) (hs : (spanN (l.length + 4) : Int) ≤ s) (top : ∀ y, 0 ≤ y → y < 2 * s → stN (d.at_ y) < n) :
    Pl d' s n l ∧ ∀ y, 2 * s ≤ y → d'.at_ y = d.at_ y := by
  obtain ⟨_, s1, s2, s3⟩ := canB_iff.1 hc
  have hcl := closed_len l
  obtain ⟨p, hp⟩ : ∃ p, p = plc n 0 s := ⟨_, rfl⟩
  rw [← hp] at h
  have hpl := plc_0 n s
  rw [← hp] at hpl
  have hst : Stand d' p n (closed l) := fun i hi => by
    rw [hcl] at hi
    rw [h.at_, if_pos (by omega), show (p + (i : Int) - p).toNat = i by omega, secs_getD (by rw [hcl]; exact hi)]
  have hrd : d'.read p (p + s) = ⟨closed l, n, spanN (closed l).length, 0⟩ := hst.read (by omega) hn0 hn (by omega) (by rw [hcl]; omega) (by rw [h.bl]; omega)
  have hown : ∀ k, n % 2 = k → d'.stand p s k = ⟨l, n⟩ := fun k hk => by
    unfold Dk.stand
    rw [hrd, if_pos ⟨rfl, hk, okB_close l⟩]
    show Gen.mk (cutB (closed l)) n = _
    rw [show cutB (closed l) = l from cutB_close l]
  have hother : ∀ p' k, 0 ≤ p' → p' < 2 * s → (p' + s ≤ p ∨ p + s ≤ p') → (d'.stand p' s k).n < n := fun p' k a1 a2 a3 => stand_lt (by omega) fun _ => by
    rw [h.at_, if_neg (by omega)]
    exact top p' a1 a2
  have hcan : canB d' 0 s = true := by rw [canB_iff, h.bl]; exact canB_iff.1 hc
  have hboth : d'.both 0 s = ⟨l, n⟩ := by
    unfold Dk.both
    rw [Int.zero_add]
    rcases hpl with ⟨e, ep⟩ | ⟨e, ep⟩
    · have h1 := hown 0 e
      rw [ep] at h1
      have h2 := hother s 1 (by omega) (by omega) (by omega)
      rw [h1, if_neg (by show ¬ (n < _); omega)]
    · have h1 := hown 1 e
      rw [ep] at h1
      have h2 := hother 0 0 (by omega) (by omega) (by omega)
      rw [h1, if_pos (by show _ < n; omega)]
  refine ⟨⟨hcan, ?_, hn0, fun y y0 y1 => ?_⟩, fun y hy => by rw [h.at_, if_neg (by omega)]⟩
  · unfold Dk.slot
    rw [hboth, if_pos ⟨hcan, hn0⟩]
  · rw [h.at_]
    split
    · rw [secs_getD (by rw [hcl]; omega), stN_sec hn]
      exact Nat.le_refl _
    · exact Nat.le_of_lt (top y y0 y1)
/-- behind a Write that was cut off the old counts, or the new -/
theorem Pl.torn {d d' : Dk} {s : Int} {m : Nat} {b l : List UInt8} (h : Pl d s m b) (ok : d.Ok) (q : d.queue = []) (hm : m + 1 < 18446744073709551616) (hl : l.length + 4 ≤ 13515) (hs : (spanN (l.length + 4) : Int) ≤ s) (ht : Torn d d' (plc (m + 1) 0 s) (m + 1) l) (keep : List Int) (hok : (d'.power keep).Ok) :
    ((d'.power keep).slot 0 s).2 = 0 ∧ (((d'.power keep).slot 0 s).1.b = b ∨ ((d'.power keep).slot 0 s).1.b = l) ∧ (∀ y, 0 ≤ y → y < 2 * s → stN ((d'.power keep).at_ y) ≤ m + 1) ∧ ∀ y, 2 * s ≤ y → (d'.power keep).at_ y = d.at_ y := by
  obtain ⟨_, s1, s2, s3⟩ := canB_iff.1 h.can
  have hcl := closed_len l
  obtain ⟨p, hp⟩ : ∃ p, p = plc (m + 1) 0 s := ⟨_, rfl⟩
  rw [← hp] at ht
  have hpl := plc_0 (m + 1) s
  rw [← hp] at hpl
  obtain ⟨j, hj, hat⟩ := ht.at_ q (by omega) (by omega) keep
  have hbl := ht.len keep
  obtain ⟨D, hD⟩ : ∃ D, D = d'.power keep := ⟨_, rfl⟩
  rw [← hD] at hat hbl hok ⊢
  have hcan : canB D 0 s = true := by rw [canB_iff, hbl]; exact canB_iff.1 h.can
  have htorn : ∀ k, (D.stand p s k).n ≤ m ∨ (D.stand p s k).b = l := fun k => by
    unfold Dk.stand
    split
    · next h1 =>
      by_cases hr : m < (D.read p (p + s)).n
      · right
        have htg := torn_gen (D := D) (x := p) (n := m + 1) (l := closed l) (top := m) hok (by omega) (p + s) (fun i hi => by
          rw [hcl] at hi
          have hold := h.top (p + (i : Int)) (by omega) (by omega)
          rw [hat]
          by_cases hij : i < j
          · rw [if_pos (by omega), show (p + (i : Int) - p).toNat = i by omega]
            by_cases hk : keepF keep i ≤ 56
            · left
              unfold stN at hold ⊢
              rw [cut_hi (secOf_len _ _ _) hk]
              exact hold
            · right
              exact cut_lo (secOf_len _ _ _) (by omega)
          · rw [if_neg (by omega)]
            left; exact hold) h1.1 hr
        show cutB (D.read p (p + s)).b = l
        rw [htg.1]
        exact cutB_close l
      · left
        show (D.read p (p + s)).n ≤ m
        omega
    · left
      exact Nat.zero_le _
  have hsame : ∀ p' k, (p' + s ≤ p ∨ p + s ≤ p') → D.stand p' s k = d.stand p' s k := fun p' k a => stand_same hbl fun t t1 t2 => by rw [hat, if_neg (by omega)]
  have hslot : (D.slot 0 s).2 = 0 ∧ ((D.slot 0 s).1.b = b ∨ (D.slot 0 s).1.b = l) := by
    have hm0 := h.m0
    have key : (D.both 0 s).n ≠ 0 ∧ ((D.both 0 s).b = b ∨ (D.both 0 s).b = l) := by
      unfold Dk.both
      rw [Int.zero_add]
      rcases h.parts with ⟨e, es⟩ | ⟨e, es⟩
      · have ep : p = s := by omega
        have h1 : D.stand 0 s 0 = ⟨b, m⟩ := (hsame 0 0 (by omega)).trans es
        have h2 := htorn 1
        rw [ep] at h2
        rw [h1]
        split
        · next hlt =>
          simp only at hlt
          exact ⟨by omega, Or.inr (h2.resolve_left (by omega))⟩
        · exact ⟨hm0, Or.inl rfl⟩
      · have ep : p = 0 := by omega
        have h1 : D.stand s s 1 = ⟨b, m⟩ := (hsame s 1 (by omega)).trans es
        have h2 := htorn 0
        rw [ep] at h2
        have h3 := stand_par D 0 s 0
        rw [h1]
        split
        · exact ⟨hm0, Or.inl rfl⟩
        · next hlt =>
          simp only at hlt
          exact ⟨by omega, Or.inr (h2.resolve_left (by omega))⟩
    unfold Dk.slot
    rw [if_pos ⟨hcan, key.1⟩]
    exact ⟨rfl, key.2⟩
  refine ⟨hslot.1, hslot.2, fun y y0 y1 => ?_, fun y hy => by rw [hat, if_neg (by omega)]⟩
  have hold := h.top y y0 y1
  rw [hat]
  split
  · have := stN_cut (s := secOf (m + 1) (closed l) (y - p).toNat) (old := d.at_ y) (k := keepF keep (y - p).toNat) (secOf_len _ _ _) (at_len ok y) (by rw [stN_sec hm]; omega)
    rw [stN_sec hm] at this
    exact this
  · omega
end Go.Proofs.Ytdfbpaajkpnaeaa
