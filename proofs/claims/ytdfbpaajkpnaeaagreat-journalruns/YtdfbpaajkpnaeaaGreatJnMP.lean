
/- Package journal, mathematics: what counts, when a Write was cut off; a journal that lives; what is there behind a crash. Package journal: a journal's life; what is there behind a crash; a journal above a world. Package journal: a new one on a blank disk; opened again. falseworklaw12.journalAlive. Package journal: texts of one's own beside a journal. -/
import Derived.Test.YtdfbpaajkpnaeaaGreatJnAC
import Derived.Test.YtdfbpaajkpnaeaaGreatLgO

namespace Go.Proofs.YtdfbpaajkpnaeaaGreat
set_option maxRecDepth 100000
open Go.RowKit Go.Lib

/-! one write, flushed -/
def Dk.wr (d : Dk) (p : Int) (n : Nat) (l : List UInt8) : Dk × Int :=
  if (d.write p n (closed l)).2 = 0 then ((d.write p n (closed l)).1.flush, (d.write p n (closed l)).1.actE) else d.write p n (closed l)
/-- what a write leaves that was not cut off -/
structure Wrote (d d' : Dk) (p : Int) (n : Nat) (l : List UInt8) : Prop where
  ok : d'.Ok
  bl : d'.base.length = d.base.length
  q : d'.queue = []
  dd : d'.dead = false
  at_ : ∀ y, d'.at_ y = if p ≤ y ∧ y < p + (spanN (l.length + 4) : Int) then (secs n (closed l)).getD (y - p).toNat [] else d.at_ y
  fu : d.fuse < 0 → d'.fuse < 0
theorem wr_fuse {d : Dk} (ok : d.Ok) (q : d.queue = []) (dd : d.dead = false) {p : Int} {n : Nat} {l : List UInt8} (hl : l.length + 4 ≤ 13515) (hn : n ≠ 0) (h0 : 0 ≤ p) (h1 : p + (spanN (l.length + 4) : Int) ≤ d.base.length) :
    ((d.wr p n l).2 = 0 ∧ Wrote d (d.wr p n l).1 p n l) ∨ ((d.wr p n l).2 = 82 ∧ Torn d (d.wr p n l).1 p n l) := by
  have hcl := closed_len l
  have hsp := spanN_pos (n := (closed l).length) (by omega)
  have hlay : layL n (closed l) = secs n (closed l) := if_neg hn
  have hsl : (secs n (closed l)).length = spanN (l.length + 4) := by rw [secs_length, hcl]
  have hwr : d.write p n (closed l) = putAll d p (secs n (closed l)) := by
    unfold Dk.write
    rw [hlay, if_neg (by rw [hsl]; rw [hcl] at hsp; omega), if_neg (by rw [hsl]; omega)]
  have hok1 := write_ok ok p n (closed l) (by rw [q]; exact Nat.zero_le _)
  obtain ⟨j, k1, k2, k3, k4, k5⟩ := putAll_fuse (secs n (closed l)) d p dd h0 (by rw [hsl]; omega)
  rw [← hwr] at k2 k3 k4 k5
  rw [q, List.nil_append] at k3
  unfold Dk.wr
  generalize d.write p n (closed l) = r at *
  obtain ⟨d1, E⟩ := r
  simp only at *
  rcases k4 with ⟨a, b, c⟩ | ⟨a, b, c⟩
  · subst a
    rw [if_pos rfl]
    subst b
    rw [List.take_length] at k3
    by_cases hlv : d1.live = true
    · left
      have hA : d1.actE = 0 := by unfold Dk.actE; rw [if_pos hlv]
      have hspd : d1.spend = { d1 with fuse := if 0 < d1.fuse then d1.fuse - 1 else d1.fuse } := by unfold Dk.spend; rw [if_pos hlv]
      have hfl : d1.flush = { d1.spend with base := stl (fun _ => 64) d1.queue d1.base d1.queue.length, queue := [] } := by unfold Dk.flush; rw [if_pos hlv]
      refine ⟨hA, ⟨hok1.flush, ?_, ?_, ?_, fun y => ?_, fun hf => ?_⟩⟩
      · rw [hfl]
        show (stl _ _ _ _).length = _
        rw [stl_len, k2]
      · rw [hfl]
      · rw [hfl, hspd]; exact c
      · rw [flush_at hok1 hlv y, ← hsl, ← at_qs (d := d) (L := secs n (closed l)) h0 (by rw [hsl]; omega) y]
        exact at_eq (d := { d with queue := d.queue ++ qsOf p (secs n (closed l)) }) k2 (by rw [k3, q]; rfl) y
      · rw [hfl, hspd]
        have := k5 hf
        show (if 0 < d1.fuse then d1.fuse - 1 else d1.fuse) < 0
        rw [if_neg (by omega)]; exact this
    · right
      have hA : d1.actE = 82 := by unfold Dk.actE; rw [if_neg hlv]
      have hfl : d1.flush = { d1 with dead := true } := by unfold Dk.flush Dk.spend; rw [if_neg hlv, if_neg hlv]
      have hf0 : ¬ d.fuse < 0 := fun hf => by
        have := k5 hf
        unfold Dk.live at hlv
        rw [c] at hlv
        simp at hlv
        omega
      exact ⟨hA, ⟨by rw [hfl]; exact k2, ⟨spanN (l.length + 4), Nat.le_refl _, by rw [hfl]; show d1.queue = _; rw [k3, ← hsl, List.take_length]⟩, by rw [hfl], by omega⟩⟩
  · subst a
    right
    rw [if_neg (by decide)]
    exact ⟨rfl, ⟨k2, ⟨j, by rw [← hsl]; exact k1, k3⟩, b, c⟩⟩
theorem slotW_wr {d : Dk} {s : Int} {l : List UInt8} (hc : canB d 0 s = true) (h0 : l.length + 4 ≤ 13515) (hs : (spanN (l.length + 4) : Int) ≤ s) :
    (d.slotW 0 s l).1 = (d.wr (plc (d.nextG 0 s) 0 s) (d.nextG 0 s) l).1 ∧ (d.slotW 0 s l).2.2 = (d.wr (plc (d.nextG 0 s) 0 s) (d.nextG 0 s) l).2 := by
  have hsp := spanN_pos h0
  unfold Dk.slotW Dk.wr
  rw [if_neg (by rw [hc]; exact Bool.noConfusion), if_neg (by omega)]
  by_cases h3 : (d.write (plc (d.nextG 0 s) 0 s) (d.nextG 0 s) (closed l)).2 = 0
  · rw [if_neg (not_not_intro h3), if_pos h3]
    by_cases h4 : (d.write (plc (d.nextG 0 s) 0 s) (d.nextG 0 s) (closed l)).1.actE = 0
    · rw [if_neg (not_not_intro h4)]
      exact ⟨rfl, h4.symm⟩
    · rw [if_pos h4]
      exact ⟨rfl, rfl⟩
  · rw [if_pos h3, if_neg h3]
    exact ⟨rfl, rfl⟩
theorem slotW_no {d : Dk} {s : Int} {l : List UInt8} (h : 13515 < l.length + 4 ∨ s < (spanN (l.length + 4) : Int)) : d.slotW 0 s l = (d, 0, 111) := by
  unfold Dk.slotW
  split
  · rfl
  · rw [if_pos]
    rcases h with h | h
    · left
      unfold spanN
      rw [if_neg (by omega)]
    · exact Or.inr h
theorem app_wr {d : Dk} {x z : Int} {n : Nat} {l : List UInt8} (h1 : l.length ≤ 4096) (h2 : (spanN (l.length + 4) : Int) ≤ z - x) : d.app x z n l = d.wr x n l := by
  unfold Dk.app Dk.wr
  rw [if_neg (by omega), if_neg (by omega)]
/-! what was cut off -/
theorem Torn.at_ {d d' : Dk} {x : Int} {n : Nat} {l : List UInt8} (ht : Torn d d' x n l) (q : d.queue = []) (h0 : 0 ≤ x) (h1 : x + (spanN (l.length + 4) : Int) ≤ d.base.length) (keep : List Int) :
    ∃ j : Nat, j ≤ spanN (l.length + 4) ∧ ∀ y, (d'.power keep).at_ y = if x ≤ y ∧ y < x + (j : Int) then cutS (secOf n (closed l) (y - x).toNat) (d.at_ y) (keepF keep (y - x).toNat) else d.at_ y := by
  obtain ⟨j, hj, hq⟩ := ht.qu
  have hcl := closed_len l
  have hlen : ((secs n (closed l)).take j).length = j := by rw [List.length_take, secs_length, hcl]; omega
  refine ⟨j, hj, fun y => ?_⟩
  have hp := power_qs (d := d) (x := x) (L := (secs n (closed l)).take j) (keep := keep) q h0 (by rw [hlen]; omega) y
  rw [hlen] at hp
  rw [power_eq (d := { d with queue := qsOf x ((secs n (closed l)).take j) }) (d' := d') ht.bs hq, hp]
  split
  · next h =>
    have hs : ((secs n (closed l)).take j).getD (y - x).toNat [] = secOf n (closed l) (y - x).toNat := by
      rw [List.getD, List.getElem?_take_of_lt (by omega), secs_get (by rw [hcl]; omega)]; rfl
    rw [hs]
  · rfl
theorem Torn.len {d d' : Dk} {x : Int} {n : Nat} {l : List UInt8} (ht : Torn d d' x n l) (keep : List Int) : (d'.power keep).base.length = d.base.length := by
  rw [show (d'.power keep).base.length = d'.base.length from stl_len _ _ _ _, ht.bs]
/-- the number that a sector bears that was cut off is no greater -/
theorem stN_cut {s old : Sec} {k : Nat} (hs : s.length = 64) (ho : old.length = 64) (h : stN old ≤ stN s) : stN (cutS s old k) ≤ stN s := by
  by_cases hk : k ≤ 56
  · unfold stN at *
    rw [cut_hi hs hk]
    exact h
  · by_cases hk2 : 64 ≤ k
    · have e : cutS s old k = s := by
        unfold cutS
        rw [List.take_of_length_le (by omega), List.drop_of_length_le (by omega), List.append_nil]
      rw [e]
      exact Nat.le_refl _
    · obtain ⟨j, rfl⟩ : ∃ j, k = 56 + j := ⟨k - 56, by omega⟩
      unfold stN at *
      have e : (cutS s old (56 + j)).drop 56 = (s.drop 56).take j ++ (old.drop 56).drop j := by
        unfold cutS
        rw [List.drop_append, List.length_take, hs, show 56 - min (56 + j) 64 = 0 by omega, List.drop_zero, List.drop_take, show 56 + j - 56 = j by omega, List.drop_drop]
      rw [e]
      generalize hA : s.drop 56 = A at *
      generalize hB : old.drop 56 = B at *
      have hAl : A.length = 8 := by rw [← hA, List.length_drop, hs]
      have hBl : B.length = 8 := by rw [← hB, List.length_drop, ho]
      have e1 := num8_app (A.take j) (A.drop j)
      have e2 := num8_app (B.take j) (B.drop j)
      have e3 := num8_app (A.take j) (B.drop j)
      rw [List.take_append_drop] at e1 e2
      have l1 : (A.take j).length = j := by rw [List.length_take]; omega
      have l2 : (B.take j).length = j := by rw [List.length_take]; omega
      have b1 := num8_lt (A.take j)
      rw [l1] at e1 e3 b1
      rw [l2] at e2
      rw [e3, e1]
      apply Nat.add_le_add_left
      apply Nat.mul_le_mul_left
      by_cases hc : num8 (B.drop j) ≤ num8 (A.drop j)
      · exact hc
      · exfalso
        have h4 : 256 ^ j * (num8 (A.drop j) + 1) ≤ 256 ^ j * num8 (B.drop j) := Nat.mul_le_mul_left _ (by omega)
        rw [Nat.mul_add, Nat.mul_one] at h4
        omega
/-! what counts -/
/-- what counts is b with the generation m, above all that the places' sectors bear -/
structure Pl (d : Dk) (s : Int) (m : Nat) (b : List UInt8) : Prop where
  can : canB d 0 s = true
  cur : d.slot 0 s = (⟨b, m⟩, 0)
  m0 : m ≠ 0
  top : ∀ y, 0 ≤ y → y < 2 * s → stN (d.at_ y) ≤ m
theorem slot_same {d d' : Dk} {s : Int} (hb : d'.base.length = d.base.length) (h : ∀ t, 0 ≤ t → t < 2 * s → d'.at_ t = d.at_ t) (hc : canB d 0 s = true) : d'.slot 0 s = d.slot 0 s ∧ canB d' 0 s = true := by
  obtain ⟨_, s1, _, _⟩ := canB_iff.1 hc
  have hc2 : canB d' 0 s = true := by rw [canB_iff, hb]; exact canB_iff.1 hc
  have h1 : d'.stand 0 s 0 = d.stand 0 s 0 := stand_same hb fun t h1 h2 => h t h1 (by omega)
  have h2 : d'.stand (0 + s) s 1 = d.stand (0 + s) s 1 := stand_same hb fun t h1 h2 => h t (by omega) (by omega)
  refine ⟨?_, hc2⟩
  unfold Dk.slot Dk.both
  rw [h1, h2, hc, hc2]
theorem Pl.same {d d' : Dk} {s : Int} {m : Nat} {b : List UInt8} (h : Pl d s m b) (hb : d'.base.length = d.base.length) (ha : ∀ t, 0 ≤ t → t < 2 * s → d'.at_ t = d.at_ t) : Pl d' s m b := by
  obtain ⟨h1, h2⟩ := slot_same hb ha h.can
  exact ⟨h2, h1.trans h.cur, h.m0, fun y y0 y1 => by rw [ha y y0 y1]; exact h.top y y0 y1⟩
theorem stand_lt {d : Dk} {p s : Int} {k n : Nat} (hn : 0 < n) (h : p < p + s → stN (d.at_ p) < n) : (d.stand p s k).n < n := by
  unfold Dk.stand
  split
  · next h1 =>
    show (d.read p (p + s)).n < n
    obtain ⟨_, k2, _, _, _, _, k7, _⟩ := read_in h1.1
    rw [k7]
    exact h k2
  · exact hn
theorem Pl.parts {d : Dk} {s : Int} {m : Nat} {b : List UInt8} (h : Pl d s m b) : (m % 2 = 0 ∧ d.stand 0 s 0 = ⟨b, m⟩) ∨ (m % 2 = 1 ∧ d.stand s s 1 = ⟨b, m⟩) := by
  have hc := h.cur
  have hm := h.m0
  unfold Dk.slot at hc
  rw [h.can] at hc
  by_cases h0 : (d.both 0 s).n ≠ 0
  · rw [if_pos ⟨rfl, h0⟩] at hc
    have hb : d.both 0 s = ⟨b, m⟩ := (Prod.mk.inj hc).1
    unfold Dk.both at hb
    rw [Int.zero_add] at hb
    split at hb
    · right
      have := stand_par d s s 1
      rw [hb] at this
      exact ⟨by simp only at this; omega, hb⟩
    · left
      have := stand_par d 0 s 0
      rw [hb] at this
      exact ⟨by simp only at this; omega, hb⟩
  · rw [if_neg (fun e => h0 e.2)] at hc
    have := (Prod.mk.inj hc).2
    omega
/-- the next one is one more -/
theorem Pl.nextG {d : Dk} {s : Int} {m : Nat} {b : List UInt8} (h : Pl d s m b) (hm : m + 1 < 18446744073709551616) : d.nextG 0 s = m + 1 := by
  obtain ⟨_, s1, _, _⟩ := canB_iff.1 h.can
  have hub : topN d 0 (2 * s).toNat ≤ m := topN_ub fun i hi => h.top _ (by omega) (by omega)
  have hlb : m ≤ topN d 0 (2 * s).toNat := by
    rcases h.parts with ⟨_, e⟩ | ⟨_, e⟩
    · have := stand_le (d := d) (x := 0) (s := s) (p := 0) (k := 0) (by omega) (by omega)
      rwa [e] at this
    · have := stand_le (d := d) (x := 0) (s := s) (p := s) (k := 1) (by omega) (by omega)
      rwa [e] at this
  have e : topN d 0 (2 * s).toNat = m := by omega
  unfold Dk.nextG
  rw [e, h.cur, Nat.mod_eq_of_lt hm]
  rw [if_neg (fun q => by have := q.2; simp only at this; omega)]
/-- a generation that is above all, and not far above -/
theorem nextG_in {d : Dk} {s : Int} {M : Nat} (s1 : 1 ≤ s) (h : ∀ y, 0 ≤ y → y < 2 * s → stN (d.at_ y) ≤ M) (hM : M + 2 < 18446744073709551616) : (∀ y, 0 ≤ y → y < 2 * s → stN (d.at_ y) < d.nextG 0 s) ∧ d.nextG 0 s ≤ M + 2 := by
  have hub : topN d 0 (2 * s).toNat ≤ M := topN_ub fun i hi => h _ (by omega) (by omega)
  have e1 : (topN d 0 (2 * s).toNat + 1) % 18446744073709551616 = topN d 0 (2 * s).toNat + 1 := Nat.mod_eq_of_lt (by omega)
  have e2 : (topN d 0 (2 * s).toNat + 1 + 1) % 18446744073709551616 = topN d 0 (2 * s).toNat + 1 + 1 := Nat.mod_eq_of_lt (by omega)
  have hn : topN d 0 (2 * s).toNat < d.nextG 0 s ∧ d.nextG 0 s ≤ M + 2 := by
    unfold Dk.nextG
    rw [e1, e2]
    split <;> omega
  refine ⟨fun y y0 y1 => ?_, hn.2⟩
  have := topN_le (d := d) (x := 0) (k := (2 * s).toNat) (i := y.toNat) (by omega)
  rw [show (0 : Int) + ((y.toNat : Nat) : Int) = y by omega] at this
  omega
theorem plc_0 (n : Nat) (s : Int) : (n % 2 = 0 ∧ plc n 0 s = 0) ∨ (n % 2 = 1 ∧ plc n 0 s = s) := by
  unfold plc
  split
  · next h => exact Or.inl ⟨h, rfl⟩
  · next h => exact Or.inr ⟨by omega, by omega⟩
/-- a content that was written whole counts -/
theorem Wrote.pl {d d' : Dk} {s : Int} {n : Nat} {l : List UInt8} (h : Wrote d d' (plc n 0 s) n l) (hc : canB d 0 s = true) (hn0 : n ≠ 0) (hn : n < 18446744073709551616) (hl : l.length + 4 ≤ 13515) (hs : (spanN (l.length + 4) : Int) ≤ s) (top : ∀ y, 0 ≤ y → y < 2 * s → stN (d.at_ y) < n) :
    Pl d' s n l ∧ ∀ y, 2 * s ≤ y → d'.at_ y = d.at_ y := by
  obtain ⟨_, s1, s2, s3⟩ := canB_iff.1 hc
  have hcl := closed_len l
  obtain ⟨p, hp⟩ : ∃ p, p = plc n 0 s := ⟨_, rfl⟩
  rw [← hp] at h
  have hpl := plc_0 n s
  rw [← hp] at hpl
  have hst : Stand d' p n (closed l) := fun i hi => by
    rw [hcl] at hi
    rw [h.at_, if_pos (by omega), show (p + (i : Int) - p).toNat = i by omega, secs_getD (by rw [hcl]; exact hi)]
  have hrd : d'.read p (p + s) = ⟨closed l, n, spanN (closed l).length, 0⟩ := hst.read (by omega) hn0 hn (by omega) (by rw [hcl]; omega) (by rw [h.bl]; omega)
  have hown : ∀ k, n % 2 = k → d'.stand p s k = ⟨l, n⟩ := fun k hk => by
    unfold Dk.stand
    rw [hrd, if_pos ⟨rfl, hk, okB_close l⟩]
    show Gen.mk (cutB (closed l)) n = _
    rw [show cutB (closed l) = l from cutB_close l]
  have hother : ∀ p' k, 0 ≤ p' → p' < 2 * s → (p' + s ≤ p ∨ p + s ≤ p') → (d'.stand p' s k).n < n := fun p' k a1 a2 a3 => stand_lt (by omega) fun _ => by
    rw [h.at_, if_neg (by omega)]
    exact top p' a1 a2
  have hcan : canB d' 0 s = true := by rw [canB_iff, h.bl]; exact canB_iff.1 hc
  have hboth : d'.both 0 s = ⟨l, n⟩ := by
    unfold Dk.both
    rw [Int.zero_add]
    rcases hpl with ⟨e, ep⟩ | ⟨e, ep⟩
    · have h1 := hown 0 e
      rw [ep] at h1
      have h2 := hother s 1 (by omega) (by omega) (by omega)
      rw [h1, if_neg (by show ¬ (n < _); omega)]
    · have h1 := hown 1 e
      rw [ep] at h1
      have h2 := hother 0 0 (by omega) (by omega) (by omega)
      rw [h1, if_pos (by show _ < n; omega)]
  refine ⟨⟨hcan, ?_, hn0, fun y y0 y1 => ?_⟩, fun y hy => by rw [h.at_, if_neg (by omega)]⟩
  · unfold Dk.slot
    rw [hboth, if_pos ⟨hcan, hn0⟩]
  · rw [h.at_]
    split
    · rw [secs_getD (by rw [hcl]; omega), stN_sec hn]
      exact Nat.le_refl _
    · exact Nat.le_of_lt (top y y0 y1)
/-- behind a Write that was cut off the old counts, or the new -/
theorem Pl.torn {d d' : Dk} {s : Int} {m : Nat} {b l : List UInt8} (h : Pl d s m b) (ok : d.Ok) (q : d.queue = []) (hm : m + 1 < 18446744073709551616) (hl : l.length + 4 ≤ 13515) (hs : (spanN (l.length + 4) : Int) ≤ s) (ht : Torn d d' (plc (m + 1) 0 s) (m + 1) l) (keep : List Int) (hok : (d'.power keep).Ok) :
    ((d'.power keep).slot 0 s).2 = 0 ∧ (((d'.power keep).slot 0 s).1.b = b ∨ ((d'.power keep).slot 0 s).1.b = l) ∧ (∀ y, 0 ≤ y → y < 2 * s → stN ((d'.power keep).at_ y) ≤ m + 1) ∧ ∀ y, 2 * s ≤ y → (d'.power keep).at_ y = d.at_ y := by
  obtain ⟨_, s1, s2, s3⟩ := canB_iff.1 h.can
  have hcl := closed_len l
  obtain ⟨p, hp⟩ : ∃ p, p = plc (m + 1) 0 s := ⟨_, rfl⟩
  rw [← hp] at ht
  have hpl := plc_0 (m + 1) s
  rw [← hp] at hpl
  obtain ⟨j, hj, hat⟩ := ht.at_ q (by omega) (by omega) keep
  have hbl := ht.len keep
  obtain ⟨D, hD⟩ : ∃ D, D = d'.power keep := ⟨_, rfl⟩
  rw [← hD] at hat hbl hok ⊢
  have hcan : canB D 0 s = true := by rw [canB_iff, hbl]; exact canB_iff.1 h.can
  have htorn : ∀ k, (D.stand p s k).n ≤ m ∨ (D.stand p s k).b = l := fun k => by
    unfold Dk.stand
    split
    · next h1 =>
      by_cases hr : m < (D.read p (p + s)).n
      · right
        have htg := torn_gen (D := D) (x := p) (n := m + 1) (l := closed l) (top := m) hok (by omega) (p + s) (fun i hi => by
          rw [hcl] at hi
          have hold := h.top (p + (i : Int)) (by omega) (by omega)
          rw [hat]
          by_cases hij : i < j
          · rw [if_pos (by omega), show (p + (i : Int) - p).toNat = i by omega]
            by_cases hk : keepF keep i ≤ 56
            · left
              unfold stN at hold ⊢
              rw [cut_hi (secOf_len _ _ _) hk]
              exact hold
            · right
              exact cut_lo (secOf_len _ _ _) (by omega)
          · rw [if_neg (by omega)]
            left; exact hold) h1.1 hr
        show cutB (D.read p (p + s)).b = l
        rw [htg.1]
        exact cutB_close l
      · left
        show (D.read p (p + s)).n ≤ m
        omega
    · left
      exact Nat.zero_le _
  have hsame : ∀ p' k, (p' + s ≤ p ∨ p + s ≤ p') → D.stand p' s k = d.stand p' s k := fun p' k a => stand_same hbl fun t t1 t2 => by rw [hat, if_neg (by omega)]
  have hslot : (D.slot 0 s).2 = 0 ∧ ((D.slot 0 s).1.b = b ∨ (D.slot 0 s).1.b = l) := by
    have hm0 := h.m0
    have key : (D.both 0 s).n ≠ 0 ∧ ((D.both 0 s).b = b ∨ (D.both 0 s).b = l) := by
      unfold Dk.both
      rw [Int.zero_add]
      rcases h.parts with ⟨e, es⟩ | ⟨e, es⟩
      · have ep : p = s := by omega
        have h1 : D.stand 0 s 0 = ⟨b, m⟩ := (hsame 0 0 (by omega)).trans es
        have h2 := htorn 1
        rw [ep] at h2
        rw [h1]
        split
        · next hlt =>
          simp only at hlt
          exact ⟨by omega, Or.inr (h2.resolve_left (by omega))⟩
        · exact ⟨hm0, Or.inl rfl⟩
      · have ep : p = 0 := by omega
        have h1 : D.stand s s 1 = ⟨b, m⟩ := (hsame s 1 (by omega)).trans es
        have h2 := htorn 0
        rw [ep] at h2
        have h3 := stand_par D 0 s 0
        rw [h1]
        split
        · exact ⟨hm0, Or.inl rfl⟩
        · next hlt =>
          simp only at hlt
          exact ⟨by omega, Or.inr (h2.resolve_left (by omega))⟩
    unfold Dk.slot
    rw [if_pos ⟨hcan, key.1⟩]
    exact ⟨rfl, key.2⟩
  refine ⟨hslot.1, hslot.2, fun y y0 y1 => ?_, fun y hy => by rw [hat, if_neg (by omega)]⟩
  have hold := h.top y y0 y1
  rw [hat]
  split
  · have := stN_cut (s := secOf (m + 1) (closed l) (y - p).toNat) (old := d.at_ y) (k := keepF keep (y - p).toNat) (secOf_len _ _ _) (at_len ok y) (by rw [stN_sec hm]; omega)
    rw [stN_sec hm] at this
    exact this
  · omega
end Go.Proofs.YtdfbpaajkpnaeaaGreat

namespace Go.Proofs.YtdfbpaajkpnaeaaGreat
set_option maxRecDepth 100000
open Go.RowKit Go.Lib

theorem Row.stamps {d : Dk} : ∀ {L : List (List UInt8)} {x : Int} {n : Nat} {y : Int}, Row d x n L y → n + L.length ≤ 18446744073709551616 → ∀ t, x ≤ t → t < y → stN (d.at_ t) < n + L.length
  | [], x, n, y, h, _, t, h1, h2 => by have : y = x := h; omega
  | l :: L, x, n, y, h, hn, t, h1, h2 => by
    rw [List.length_cons] at hn ⊢
    by_cases ht : t < x + (spanN (l.length + 4) : Int)
    · have hs := h.2.1 (t - x).toNat (by rw [closed_len]; omega)
      rw [show x + (((t - x).toNat : Nat) : Int) = t by omega] at hs
      rw [hs, stN_sec (by omega)]
      omega
    · have := Row.stamps h.2.2 (by omega) t (by omega) h2
      omega
theorem Kp.all {d : Dk} {x0 z x : Int} {fl : Nat} {done : List (List UInt8)} (h : Kp d x0 z x fl done) (hn : fl + 1 + done.length ≤ 18446744073709551616) : ∀ y, x0 ≤ y → y < z → stN (d.at_ y) ≤ fl + done.length := fun y h1 h2 => by
  by_cases hy : y < x
  · have := Row.stamps h.row hn y h1 hy
    omega
  · have := h.lo y (by omega) h2
    omega
theorem Run.uniq {d : Dk} {z : Int} : ∀ {L : List (List UInt8)} {x : Int} {m : Nat} {y : Int}, Run d z x m L y → ∀ {K : List (List UInt8)} {t : Int}, Run d z x m K t → L = K ∧ y = t
  | [], x, m, y, h, K, t, k => by
    rcases h.inv with ⟨h1, _, e⟩ | ⟨_, _, _, _, e, _⟩
    · rcases k.inv with ⟨_, e1, e2⟩ | ⟨k1, k2, k3, _⟩
      · exact ⟨e1.symm, e.trans e2.symm⟩
      · rcases h1 with q | q | q
        · exact absurd k1 q
        · omega
        · rw [k3] at q; cases q
    · cases e
  | l :: L, x, m, y, h, K, t, k => by
    rcases h.inv with ⟨_, e, _⟩ | ⟨h1, h2, h3, L2, e, h4⟩
    · cases e
    · rcases k.inv with ⟨q, _⟩ | ⟨_, _, _, K2, e2, k4⟩
      · exfalso
        rcases q with q | q | q
        · exact q h1
        · omega
        · rw [h3] at q; cases q
      · injection e with e3 e4
        subst e4
        obtain ⟨r1, r2⟩ := Run.uniq h4 k4
        rw [e2, e3, r1]
        exact ⟨rfl, r2⟩
/-- a journal that lives: its state, and the records since -/
structure Lv (d : Dk) (s x : Int) (m f : Nat) (st : List UInt8) (recs : List (List UInt8)) : Prop where
  pl : Pl d s m (cont f st)
  cj : canJ d s = true
  kp : Kp d (2 * s) (d.base.length : Int) x f recs
theorem Lv.fuse {d : Dk} {s x : Int} {m f : Nat} {st : List UInt8} {recs : List (List UInt8)} (h : Lv d s x m f st recs) {n : Int} (hn : I n) : Lv { d with fuse := n } s x m f st recs :=
  ⟨h.pl.same rfl fun _ _ _ => rfl, h.cj, h.kp.fuse hn⟩
theorem Lv.power {d : Dk} {s x : Int} {m f : Nat} {st : List UInt8} {recs : List (List UInt8)} (h : Lv d s x m f st recs) (l : List Int) : Lv (d.power l) s x m f st recs := by
  have e : (d.power l).base.length = d.base.length := stl_len _ _ _ _
  refine ⟨h.pl.same e fun t _ _ => power_at h.kp.q l t, canJ_iff.2 (by rw [e]; exact canJ_iff.1 h.cj), ?_⟩
  rw [e]
  exact h.kp.power l
theorem Lv.app {d : Dk} {s x : Int} {m f : Nat} {st : List UInt8} {recs : List (List UInt8)} (h : Lv d s x m f st recs) (l : List UInt8) :
    ((d.app x (d.base.length : Int) (f + 1 + recs.length) l).2 ≠ 0 ∧ (d.app x (d.base.length : Int) (f + 1 + recs.length) l).2 ≠ 82 ∧ (d.app x (d.base.length : Int) (f + 1 + recs.length) l).1 = d ∧ (4096 < l.length ∨ (d.base.length : Int) - x < (spanN (l.length + 4) : Int))) ∨
    (l.length ≤ 4096 ∧ (spanN (l.length + 4) : Int) ≤ (d.base.length : Int) - x ∧ (((d.app x (d.base.length : Int) (f + 1 + recs.length) l).2 = 0 ∧ Lv (d.app x (d.base.length : Int) (f + 1 + recs.length) l).1 s (x + (spanN (l.length + 4) : Int)) m f st (recs ++ [l]) ∧ (d.fuse < 0 → (d.app x (d.base.length : Int) (f + 1 + recs.length) l).1.fuse < 0)) ∨
      ((d.app x (d.base.length : Int) (f + 1 + recs.length) l).2 = 82 ∧ Torn d (d.app x (d.base.length : Int) (f + 1 + recs.length) l).1 x (f + 1 + recs.length) l))) := by
  rcases h.kp.app l with ⟨h1, h2⟩ | ⟨h1, h2, h3⟩ | ⟨h1, h2, ⟨h3, h4, h5⟩ | ⟨h3, h4⟩⟩
  · left
    rw [h2]
    exact ⟨by show (101 : Int) ≠ 0; decide, by show (101 : Int) ≠ 82; decide, rfl, Or.inl h1⟩
  · left
    rw [h3]
    exact ⟨by show (102 : Int) ≠ 0; decide, by show (102 : Int) ≠ 82; decide, rfl, Or.inr h2⟩
  · right
    refine ⟨h1, h2, Or.inl ⟨h3, ?_, h5⟩⟩
    have hle := h.kp.le
    have hxs := h.kp.xs
    have e := app_lens d x (d.base.length : Int) (f + 1 + recs.length) l
    have hw := wr_fuse (p := x) (n := f + 1 + recs.length) (l := l) h.kp.ok h.kp.q h.kp.dd (by omega) (by omega) (by omega) (by omega)
    rw [← app_wr h1 h2, h3] at hw
    rcases hw with ⟨_, hw⟩ | ⟨q, _⟩
    · refine ⟨h.pl.same e fun t _ ht => by rw [hw.at_, if_neg (by omega)], canJ_iff.2 (by rw [e]; exact canJ_iff.1 h.cj), ?_⟩
      rw [e]
      exact h4
    · cases q
  · right
    exact ⟨h1, h2, Or.inr ⟨h3, h4⟩⟩
theorem Lv.cmp {d : Dk} {s x : Int} {m f : Nat} {st : List UInt8} {recs : List (List UInt8)} (h : Lv d s x m f st recs) (hf : f + recs.length ≤ 1152921504606846976) (hm : m + 1 < 18446744073709551616) {st1 : List UInt8} (hst : st1.length ≤ 12288) :
    (s < (spanN ((cont (f + recs.length) st1).length + 4) : Int) ∧ d.slotW 0 s (cont (f + recs.length) st1) = (d, 0, 111)) ∨
    ((spanN ((cont (f + recs.length) st1).length + 4) : Int) ≤ s ∧ (((d.slotW 0 s (cont (f + recs.length) st1)).2.2 = 0 ∧ Lv (d.slotW 0 s (cont (f + recs.length) st1)).1 s (2 * s) (m + 1) (f + recs.length) st1 [] ∧ (d.fuse < 0 → (d.slotW 0 s (cont (f + recs.length) st1)).1.fuse < 0)) ∨
      ((d.slotW 0 s (cont (f + recs.length) st1)).2.2 = 82 ∧ Torn d (d.slotW 0 s (cont (f + recs.length) st1)).1 (plc (m + 1) 0 s) (m + 1) (cont (f + recs.length) st1)))) := by
  have hcl := cont_len (f := f + recs.length) (by omega) st1
  obtain ⟨l, hl⟩ : ∃ l, l = cont (f + recs.length) st1 := ⟨_, rfl⟩
  rw [← hl] at hcl ⊢
  by_cases hs : s < (spanN (l.length + 4) : Int)
  · exact Or.inl ⟨hs, slotW_no (Or.inr hs)⟩
  · right
    obtain ⟨_, s1, s2, s3⟩ := canB_iff.1 h.pl.can
    have hnx := h.pl.nextG hm
    have hpl := plc_0 (m + 1) s
    have hw := wr_fuse (p := plc (m + 1) 0 s) (n := m + 1) (l := l) h.kp.ok h.kp.q h.kp.dd (by omega) (by omega) (by omega) (by omega)
    have he := slotW_wr (l := l) h.pl.can (by omega) (by omega)
    rw [hnx] at he
    rw [← he.1, ← he.2] at hw
    refine ⟨by omega, ?_⟩
    rcases hw with ⟨e, hw⟩ | ⟨e, hw⟩
    · left
      obtain ⟨k1, k2⟩ := hw.pl h.pl.can (by omega) hm (by omega) (by omega) fun y y0 y1 => by have := h.pl.top y y0 y1; omega
      have hbl := hw.bl
      have hcj := canJ_iff.1 h.cj
      refine ⟨e, ⟨by rw [← hl]; exact k1, canJ_iff.2 (by rw [hbl]; exact hcj), ?_⟩, hw.fu⟩
      rw [hbl]
      exact Kp.start hw.ok (by rw [hbl]; exact Int.le_refl _) hw.q hw.dd (by omega) fun y y0 y1 => by
        rw [k2 y y0]
        exact h.kp.all (by omega) y y0 y1
    · right
      exact ⟨e, hw⟩
/-- what is there behind a crash: of each state and records that may be opened P holds -/
structure Cd (d : Dk) (s : Int) (M G : Nat) (P : List UInt8 → List (List UInt8) → Prop) : Prop where
  ok : d.Ok
  q : d.queue = []
  dd : d.dead = false
  cj : canJ d s = true
  tp : ∀ y, 0 ≤ y → y < 2 * s → stN (d.at_ y) ≤ M
  lo : ∀ y, 2 * s ≤ y → y < (d.base.length : Int) → stN (d.at_ y) ≤ G
  sl : ∃ f st, f ≤ G ∧ (d.slot 0 s).2 = 0 ∧ (d.slot 0 s).1.b = cont f st ∧ ∀ K t, Run d (d.base.length : Int) (2 * s) f K t → P st K
theorem Cd.mono {d : Dk} {s : Int} {M G : Nat} {P P' : List UInt8 → List (List UInt8) → Prop} (h : Cd d s M G P) (hP : ∀ a b, P a b → P' a b) : Cd d s M G P' := by
  obtain ⟨f, st, h1, h2, h3, h4⟩ := h.sl
  exact ⟨h.ok, h.q, h.dd, h.cj, h.tp, h.lo, f, st, h1, h2, h3, fun K t hr => hP _ _ (h4 K t hr)⟩
theorem Lv.cd {d : Dk} {s x : Int} {m f : Nat} {st : List UInt8} {recs : List (List UInt8)} (h : Lv d s x m f st recs) (hn : f + 1 + recs.length ≤ 18446744073709551616) : Cd d s m (f + recs.length) fun a b => a = st ∧ b = recs :=
  ⟨h.kp.ok, h.kp.q, h.kp.dd, h.cj, h.pl.top, h.kp.all hn, f, st, by omega, by rw [h.pl.cur], by rw [h.pl.cur], fun _ _ hr => ⟨rfl, (h.kp.run hn hr).1⟩⟩
theorem Lv.torn_app {d d' : Dk} {s x : Int} {m f : Nat} {st : List UInt8} {recs : List (List UInt8)} {l : List UInt8} (h : Lv d s x m f st recs) (hn : f + 1 + recs.length < 18446744073709551616) (ht : Torn d d' x (f + 1 + recs.length) l) (hl : l.length ≤ 4096) (hs : (spanN (l.length + 4) : Int) ≤ (d.base.length : Int) - x) (hok : d'.Ok) (keep : List Int) :
    Cd (d'.power keep) s m (f + 1 + recs.length) fun a b => a = st ∧ (b = recs ∨ b = recs ++ [l]) := by
  have hle := h.kp.le
  have hxs := h.kp.xs
  have hcj := canJ_iff.1 h.cj
  have e := ht.len keep
  obtain ⟨j, hj, hat⟩ := ht.at_ h.kp.q (by omega) (by omega) keep
  have hpl : Pl (d'.power keep) s m (cont f st) := h.pl.same e fun t _ t1 => by rw [hat, if_neg (by omega)]
  refine ⟨hok.power keep, rfl, rfl, canJ_iff.2 (by rw [e]; exact hcj), hpl.top, fun y y0 y1 => ?_, f, st, by omega, by rw [hpl.cur], by rw [hpl.cur], fun K t hr => ⟨rfl, ?_⟩⟩
  · rw [e] at y1
    have hold := h.kp.all (by omega) y y0 y1
    rw [hat]
    split
    · have := stN_cut (s := secOf (f + 1 + recs.length) (closed l) (y - x).toNat) (old := d.at_ y) (k := keepF keep (y - x).toNat) (secOf_len _ _ _) (at_len h.kp.ok y) (by rw [stN_sec hn]; omega)
      rw [stN_sec hn] at this
      exact this
    · omega
  · rw [e] at hr
    exact h.kp.torn_run ht hl hs hn keep (hok.power keep) hr
theorem Lv.torn_cmp {d d' : Dk} {s x : Int} {m f : Nat} {st : List UInt8} {recs : List (List UInt8)} {st1 : List UInt8} (h : Lv d s x m f st recs) (hf : f + recs.length ≤ 1152921504606846976) (hm : m + 1 < 18446744073709551616) (hst : st1.length ≤ 12288) (hs : (spanN ((cont (f + recs.length) st1).length + 4) : Int) ≤ s) (ht : Torn d d' (plc (m + 1) 0 s) (m + 1) (cont (f + recs.length) st1)) (hok : d'.Ok) (keep : List Int) :
    Cd (d'.power keep) s (m + 1) (f + recs.length) fun a b => (a = st ∧ b = recs) ∨ (a = st1 ∧ b = []) := by
  have hcl := cont_len (f := f + recs.length) (by omega) st1
  have e := ht.len keep
  have hcj := canJ_iff.1 h.cj
  obtain ⟨k1, k2, k3, k4⟩ := h.pl.torn h.kp.ok h.kp.q hm (by omega) hs ht keep (hok.power keep)
  have hkp : Kp (d'.power keep) (2 * s) (d.base.length : Int) x f recs := by
    refine ⟨hok.power keep, by rw [e]; exact h.kp.bl, rfl, rfl, Row.same h.kp.row fun t t0 _ => k4 t t0, h.kp.xs, fun y y0 y1 => ?_⟩
    have := h.kp.le
    rw [k4 y (by omega)]
    exact h.kp.lo y y0 y1
  have hlo : ∀ y, 2 * s ≤ y → y < ((d'.power keep).base.length : Int) → stN ((d'.power keep).at_ y) ≤ f + recs.length := fun y y0 y1 => by
    rw [e] at y1
    rw [k4 y y0]
    exact h.kp.all (by omega) y y0 y1
  rcases k2 with k2 | k2
  · exact ⟨hok.power keep, rfl, rfl, canJ_iff.2 (by rw [e]; exact hcj), k3, hlo, f, st, by omega, k1, k2, fun K t hr => by
      rw [e] at hr
      exact Or.inl ⟨rfl, (hkp.run (by omega) hr).1⟩⟩
  · exact ⟨hok.power keep, rfl, rfl, canJ_iff.2 (by rw [e]; exact hcj), k3, hlo, f + recs.length, st1, Nat.le_refl _, k1, k2, fun K t hr => by
      rw [e] at hr
      exact Or.inr ⟨rfl, (hkp.run_above (by omega) (Nat.le_refl _) hr).1⟩⟩
/-- the stamp of a log that was opened: above all of them -/
theorem Cd.next {d : Dk} {s : Int} {M G : Nat} {P : List UInt8 → List (List UInt8) → Prop} (h : Cd d s M G P) (hG : G + 1 < 18446744073709551616) {f : Nat} (hf : f ≤ G) :
    ∃ F1, nextN d (2 * s) (d.base.length : Int) f = F1 + 1 ∧ F1 ≤ G ∧ f ≤ F1 ∧ ∀ y, 2 * s ≤ y → y < (d.base.length : Int) → stN (d.at_ y) ≤ F1 := by
  have hub := topN_low (d := d) (x := 2 * s) (m := G) ((d.base.length : Int) - 2 * s).toNat fun i hi => h.lo _ (by omega) (by omega)
  refine ⟨max f (topN d (2 * s) ((d.base.length : Int) - 2 * s).toNat), ?_, by omega, by omega, fun y y0 y1 => ?_⟩
  · unfold nextN
    exact Nat.mod_eq_of_lt (by omega)
  · have := topN_le (d := d) (x := 2 * s) (k := ((d.base.length : Int) - 2 * s).toNat) (i := (y - 2 * s).toNat) (by omega)
    rw [show 2 * s + (((y - 2 * s).toNat : Nat) : Int) = y by omega] at this
    omega
theorem Cd.cmp {d : Dk} {s : Int} {M G : Nat} {P : List UInt8 → List (List UInt8) → Prop} (h : Cd d s M G P) (hM : M + 2 < 18446744073709551616) {F1 : Nat} (hF : F1 ≤ 1152921504606846976) (hlo : ∀ y, 2 * s ≤ y → y < (d.base.length : Int) → stN (d.at_ y) ≤ F1) {st1 : List UInt8} (hst : st1.length ≤ 12288) (h0 : (d.slotW 0 s (cont F1 st1)).2.2 = 0) :
    ∃ m, m ≤ M + 2 ∧ Lv (d.slotW 0 s (cont F1 st1)).1 s (2 * s) m F1 st1 [] := by
  have hcl := cont_len (f := F1) (by omega) st1
  have hcan := canJ_B h.cj
  obtain ⟨_, s1, s2, s3⟩ := canB_iff.1 hcan
  obtain ⟨l, hl⟩ : ∃ l, l = cont F1 st1 := ⟨_, rfl⟩
  rw [← hl] at hcl h0 ⊢
  by_cases hs : s < (spanN (l.length + 4) : Int)
  · rw [slotW_no (Or.inr hs)] at h0
    cases h0
  · obtain ⟨n1, n2⟩ := nextG_in s1 h.tp hM
    have hpl := plc_0 (d.nextG 0 s) s
    have hn0 : d.nextG 0 s ≠ 0 := by have := n1 0 (by omega) (by omega); omega
    have hw := wr_fuse (p := plc (d.nextG 0 s) 0 s) (n := d.nextG 0 s) (l := l) h.ok h.q h.dd (by omega) hn0 (by omega) (by omega)
    have he := slotW_wr (l := l) hcan (by omega) (by omega)
    rw [← he.1, ← he.2, h0] at hw
    rcases hw with ⟨_, hw⟩ | ⟨e, _⟩
    · obtain ⟨k1, k2⟩ := hw.pl hcan hn0 (by omega) (by omega) (by omega) n1
      have hbl := hw.bl
      have hcj := canJ_iff.1 h.cj
      refine ⟨d.nextG 0 s, n2, ⟨by rw [← hl]; exact k1, canJ_iff.2 (by rw [hbl]; exact hcj), ?_⟩⟩
      rw [hbl]
      exact Kp.start hw.ok (by rw [hbl]; exact Int.le_refl _) hw.q hw.dd (by omega) fun y y0 y1 => by
        rw [k2 y y0]
        exact hlo y y0 y1
    · cases e
/-- a blank disk -/
theorem Cd.blank {N s : Int} (hN : 0 ≤ N ∧ N ≤ 2048) : (Dk.blank N).base.length = N.toNat ∧ (∀ y, (stN ((Dk.blank N).at_ y)) = 0) ∧ nextN (Dk.blank N) (2 * s) ((Dk.blank N).base.length : Int) 0 = 1 := by
  have h1 : (Dk.blank N).base.length = N.toNat := by rw [blank_len]; unfold blankN; omega
  have h2 : ∀ y, (stN ((Dk.blank N).at_ y)) = 0 := fun y => by rw [blank_at, zsec_stN]
  refine ⟨h1, h2, ?_⟩
  have := topN_low (d := Dk.blank N) (x := 2 * s) (m := 0) (((Dk.blank N).base.length : Int) - 2 * s).toNat fun i _ => Nat.le_of_eq (h2 _)
  unfold nextN
  rw [Nat.le_zero.1 this]
  rfl
/-- the first content on a blank disk -/
theorem blank_fmt {N s : Int} (hN : 0 ≤ N ∧ N ≤ 2048) (hc : canJ (Dk.blank N) s = true) {st : List UInt8} (hst : st.length ≤ 12288) :
    (s < (spanN ((cont 0 st).length + 4) : Int) ∧ (Dk.blank N).slotW 0 s (cont 0 st) = (Dk.blank N, 0, 111)) ∨
    ((spanN ((cont 0 st).length + 4) : Int) ≤ s ∧ ((Dk.blank N).slotW 0 s (cont 0 st)).2.2 = 0 ∧ Lv ((Dk.blank N).slotW 0 s (cont 0 st)).1 s (2 * s) 1 0 st [] ∧ ((Dk.blank N).slotW 0 s (cont 0 st)).1.fuse < 0 ∧ ((Dk.blank N).slotW 0 s (cont 0 st)).1.base.length = N.toNat) := by
  obtain ⟨b1, b2, b3⟩ := Cd.blank (s := s) hN
  have hcl := cont_len (f := 0) (by omega) st
  have hcan := canJ_B hc
  obtain ⟨_, s1, s2, s3⟩ := canB_iff.1 hcan
  obtain ⟨l, hl⟩ : ∃ l, l = cont 0 st := ⟨_, rfl⟩
  rw [← hl] at hcl ⊢
  by_cases hs : s < (spanN (l.length + 4) : Int)
  · exact Or.inl ⟨hs, slotW_no (Or.inr hs)⟩
  · right
    have hnx : (Dk.blank N).nextG 0 s = 1 := by
      have ht : topN (Dk.blank N) 0 (2 * s).toNat = 0 := Nat.le_zero.1 (topN_ub fun i _ => Nat.le_of_eq (b2 _))
      have hr : ∀ p z, ((Dk.blank N).read p z).e ≠ 0 := fun p z e => by
        obtain ⟨_, _, _, k4, _, k6, _⟩ := read_in e
        rw [k6, blank_at] at k4
        exact absurd k4 (by decide)
      have hsl : ((Dk.blank N).slot 0 s).2 ≠ 0 := by
        have e1 : (Dk.blank N).stand 0 s 0 = Gen.none := by unfold Dk.stand; rw [if_neg (fun e => hr _ _ e.1)]
        have e2 : (Dk.blank N).stand (0 + s) s 1 = Gen.none := by unfold Dk.stand; rw [if_neg (fun e => hr _ _ e.1)]
        unfold Dk.slot Dk.both
        rw [e1, e2, if_neg (fun e => e.2 (by rfl))]
        show (111 : Int) ≠ 0
        decide
      unfold Dk.nextG
      rw [ht, if_neg (fun e => hsl e.1)]
    have hpl := plc_0 1 s
    have hok : (Dk.blank N).Ok := Dk.Ok.blank N
    have hw := wr_fuse (p := plc 1 0 s) (n := 1) (l := l) hok rfl rfl (by omega) (by omega) (by omega) (by omega)
    have he := slotW_wr (l := l) hcan (by omega) (by omega)
    rw [hnx] at he
    rw [← he.1, ← he.2] at hw
    rcases hw with ⟨e, hw⟩ | ⟨e, hw⟩
    · obtain ⟨k1, k2⟩ := hw.pl hcan (by omega) (by omega) (by omega) (by omega) fun y _ _ => by rw [b2]; omega
      have hbl := hw.bl
      have hcj := canJ_iff.1 hc
      refine ⟨by omega, e, ⟨by rw [← hl]; exact k1, canJ_iff.2 (by rw [hbl]; exact hcj), ?_⟩, hw.fu (by show (-1 : Int) < 0; decide), by rw [hbl, b1]⟩
      rw [hbl]
      exact Kp.start hw.ok (by rw [hbl]; exact Int.le_refl _) hw.q hw.dd (by omega) fun y y0 y1 => by rw [k2 y y0, b2]; exact Nat.le_refl _
    · have := hw.fu
      exact absurd this (by show ¬ (0 : Int) ≤ -1; decide)
/-! a journal above a world -/
structure JL (w0 w : World) (F : Nat → Prop) (g b lb : Nat) (d : Dk) (s x : Int) (n : Nat) (rd : Bool) : Prop where
  jm : JM w F g b lb d s x (d.base.length : Int) n rd
  fr : ∀ i, F i → w0.heap.size ≤ i
  lb0 : w0.heap.size ≤ b
  ll : w0.heap.size ≤ lb
  bl : RowKit.Below w0.heap.size w0 w
theorem JL.below {w0 w w' : World} {F : Nat → Prop} {g b lb : Nat} {d : Dk} {s x : Int} {n : Nat} {rd : Bool} (h : JL w0 w F g b lb d s x n rd) (hb : RowKit.Below w.heap.size w w') : JL w0 w' F g b lb d s x n rd :=
  ⟨h.jm.below hb, h.fr, h.lb0, h.ll, h.bl.trans (hb.mono h.bl.size)⟩
/-- what has turned lies above -/
theorem JL.next {w0 w w' : World} {F F' : Nat → Prop} {g b lb lb' : Nat} {d d' : Dk} {s x y : Int} {n m : Nat} {rd rd' : Bool} (h : JL w0 w F g b lb d s x n rd) (hf : JFr F b lb w w' F' lb') (hj : JM w' F' g b lb' d' s y (d'.base.length : Int) m rd') : JL w0 w' F' g b lb' d' s y m rd' :=
  ⟨hj, fun i hi => (hf.fr i hi).elim (h.fr i) fun e => Nat.le_trans h.bl.size e, h.lb0, hf.lr.elim (fun e => e ▸ h.ll) fun e => Nat.le_trans h.bl.size e, hf.on.below h.bl (fun i hi => hi.elim (h.fr i) fun e => e.elim (fun e => e ▸ h.lb0) fun e => e ▸ h.ll) h.bl.size⟩
theorem JL.off {w0 w w' : World} {F F' : Nat → Prop} {g b lb lb' : Nat} {d : Dk} {s x : Int} {n : Nat} {rd : Bool} (h : JL w0 w F g b lb d s x n rd) (hf : JFr F b lb w w' F' lb') : RowKit.Below w0.heap.size w0 w' ∧ ∀ i, F' i → w0.heap.size ≤ i :=
  ⟨hf.on.below h.bl (fun i hi => hi.elim (h.fr i) fun e => e.elim (fun e => e ▸ h.lb0) fun e => e ▸ h.ll) h.bl.size, fun i hi => (hf.fr i hi).elim (h.fr i) fun e => Nat.le_trans h.bl.size e⟩
theorem JL.dw {w0 w : World} {F : Nat → Prop} {g b lb : Nat} {d : Dk} {s x : Int} {n : Nat} {rd : Bool} (h : JL w0 w F g b lb d s x n rd) : DW w0 w F g d := ⟨h.jm.dt, h.fr, h.bl⟩
def JApp (w0 : World) (F : Nat → Prop) (g b lb : Nat) (d : Dk) (s x : Int) (m f : Nat) (st : List UInt8) (recs : List (List UInt8)) (l : List UInt8) (w : World) (e : Ending) (w' : World) : Prop :=
  ∃ E F' lb' d', e = .returned (.int .i64 E) ∧ JFr F b lb w w' F' lb' ∧
    ((E ≠ 0 ∧ E ≠ 82 ∧ (4096 < l.length ∨ (d.base.length : Int) - x < (spanN (l.length + 4) : Int)) ∧ JL w0 w' F' g b lb' d s x (f + 1 + recs.length) true) ∨
     (E = 0 ∧ l.length ≤ 4096 ∧ (spanN (l.length + 4) : Int) ≤ (d.base.length : Int) - x ∧ Lv d' s (x + (spanN (l.length + 4) : Int)) m f st (recs ++ [l]) ∧ (d.fuse < 0 → d'.fuse < 0) ∧ d'.base.length = d.base.length ∧ JL w0 w' F' g b lb' d' s (x + (spanN (l.length + 4) : Int)) (f + 1 + (recs ++ [l]).length) true) ∨
     (E = 82 ∧ l.length ≤ 4096 ∧ (spanN (l.length + 4) : Int) ≤ (d.base.length : Int) - x ∧ Torn d d' x (f + 1 + recs.length) l ∧ ∃ y n, JL w0 w' F' g b lb' d' s y n false))
theorem jl_append {w0 w : World} {F : Nat → Prop} {g b lb : Nat} {d : Dk} {s x : Int} {m f : Nat} {st : List UInt8} {recs : List (List UInt8)} {l : List UInt8} (h : JL w0 w F g b lb d s x (f + 1 + recs.length) true) (lv : Lv d s x m f st recs) (hn : f + 2 + recs.length < 18446744073709551616)
    {a : Option Addr} {len cap : Nat} (hb : BAt w a l) (hln : l.length = len) (ha : a = none → l = []) :
    Calls Tryz.prog 10 #[.pointer (some ⟨b, 0, none⟩), .slice a len cap] w (JApp w0 F g b lb d s x m f st recs l w) := by
  refine (jappend_any w F g b lb d s x (d.base.length : Int) (f + 1 + recs.length) l a len cap h.jm lv.cj rfl ⟨lv.kp.le, lv.kp.xs.2⟩ (by omega) hb hln ha (by rw [lv.kp.q]; show 0 + 100 < 10000; omega)).mono ?_
  rintro e w' ⟨F', lb', hf, rfl, hc⟩
  have e1 := app_lens d x (d.base.length : Int) (f + 1 + recs.length) l
  refine ⟨_, F', lb', (d.app x (d.base.length : Int) (f + 1 + recs.length) l).1, rfl, hf, ?_⟩
  rcases lv.app l with ⟨h1, h2, h3, h4⟩ | ⟨h1, h2, ⟨h3, h4, h5⟩ | ⟨h3, h4⟩⟩
  · left
    rcases hc with ⟨_, rfl, hj⟩ | ⟨q, _⟩
    · rw [if_neg h1, if_neg h1, h3] at hj
      exact ⟨h1, h2, h4, h.next hf hj⟩
    · exact absurd q h2
  · right; left
    rcases hc with ⟨_, rfl, hj⟩ | ⟨q, _⟩
    · rw [if_pos h3, if_pos h3] at hj
      exact ⟨h3, h1, h2, h4, h5, e1, h.next hf (by rw [List.length_append, e1]; exact hj)⟩
    · rw [h3] at q; cases q
  · right; right
    rcases hc with ⟨q, _⟩ | ⟨_, y, n, hj, _⟩
    · exact absurd h3 q
    · exact ⟨h3, h1, h2, h4, y, n, h.next hf (by rw [e1]; exact hj)⟩
def JCmp (w0 : World) (F : Nat → Prop) (g b lb : Nat) (d : Dk) (s x : Int) (m f : Nat) (recs : List (List UInt8)) (st1 : List UInt8) (rd : Bool) (w : World) (e : Ending) (w' : World) : Prop :=
  ∃ E F' lb' d', e = .returned (.int .i64 E) ∧ JFr F b lb w w' F' lb' ∧
    ((((E = 121 ∧ 12288 < st1.length) ∨ (E = 111 ∧ st1.length ≤ 12288 ∧ s < (spanN ((cont (f + recs.length) st1).length + 4) : Int))) ∧ JL w0 w' F' g b lb' d s x (f + 1 + recs.length) rd) ∨
     (E = 0 ∧ st1.length ≤ 12288 ∧ (spanN ((cont (f + recs.length) st1).length + 4) : Int) ≤ s ∧ Lv d' s (2 * s) (m + 1) (f + recs.length) st1 [] ∧ (d.fuse < 0 → d'.fuse < 0) ∧ d'.base.length = d.base.length ∧ JL w0 w' F' g b lb' d' s (2 * s) (f + recs.length + 1 + ([] : List (List UInt8)).length) true) ∨
     (E = 82 ∧ st1.length ≤ 12288 ∧ (spanN ((cont (f + recs.length) st1).length + 4) : Int) ≤ s ∧ Torn d d' (plc (m + 1) 0 s) (m + 1) (cont (f + recs.length) st1) ∧ DW w0 w' F' g d' ∧ JOff w' b ∧ ¬ F' b))
theorem jl_compact {w0 w : World} {F : Nat → Prop} {g b lb : Nat} {d : Dk} {s x : Int} {m f : Nat} {st : List UInt8} {recs : List (List UInt8)} {st1 : List UInt8} {rd : Bool} (h : JL w0 w F g b lb d s x (f + 1 + recs.length) rd) (lv : Lv d s x m f st recs) (hn : f + recs.length ≤ 1152921504606846976) (hm : m + 1 < 18446744073709551616)
    {a : Option Addr} {len cap : Nat} (hb : BAt w a st1) (hln : st1.length = len) (ha : a = none → st1 = []) (hl : len ≤ 400000) :
    Calls Tryz.prog 13 #[.pointer (some ⟨b, 0, none⟩), .slice a len cap] w (JCmp w0 F g b lb d s x m f recs st1 rd w) := by
  refine (jcompact_any w F g b lb d s x (d.base.length : Int) (f + 1 + recs.length) rd st1 a len cap h.jm lv.cj rfl (by omega) (by omega) hb hln ha hl (by rw [lv.kp.q]; show 0 < 9700; omega)).mono ?_
  have en : f + 1 + recs.length - 1 = f + recs.length := by omega
  intro e w' hc
  unfold CmpJ at hc
  rw [en] at hc
  rcases hc with ⟨h1, rfl, hB⟩ | ⟨h1, _, rfl, F', lb', hf, hc⟩
  · exact ⟨121, F, lb, d, rfl, (JFr.refl F b lb w).below hB, Or.inl ⟨Or.inl ⟨rfl, h1.resolve_right (by omega)⟩, h.below hB⟩⟩
  · refine ⟨_, F', lb', (d.slotW 0 s (cont (f + recs.length) st1)).1, rfl, hf, ?_⟩
    have e1 := (slotW_lens d 0 s (cont (f + recs.length) st1)).2
    rcases lv.cmp hn hm h1 with ⟨k1, k2⟩ | ⟨k1, ⟨k2, k3, k4⟩ | ⟨k2, k3⟩⟩
    · left
      rw [k2] at hc ⊢
      rcases hc with ⟨q, _⟩ | ⟨q, _⟩ | ⟨_, _, rfl, hj⟩
      · cases q
      · cases q
      · exact ⟨Or.inr ⟨rfl, h1, k1⟩, h.next hf hj⟩
    · right; left
      rcases hc with ⟨q, _⟩ | ⟨_, L, y, hr, _, _, hj⟩ | ⟨q, _⟩
      · rw [k2] at q; cases q
      · rw [← e1] at hr hj
        have hkn := k3.kp.next (by omega)
        obtain ⟨_, rfl⟩ := k3.kp.run (by simp; omega) hr
        rw [hkn] at hj
        exact ⟨k2, h1, k1, k3, k4, e1, h.next hf hj⟩
      · exact absurd k2 q
    · right; right
      rcases hc with ⟨_, hd, ho, hb2⟩ | ⟨q, _⟩ | ⟨_, q, _⟩
      · obtain ⟨o1, o2⟩ := h.off hf
        exact ⟨k2, h1, k1, k3, ⟨hd, o2, o1⟩, ho, hb2⟩
      · rw [k2] at q; cases q
      · exact absurd k2 q
/-- Open of what is there behind a crash -/
def JOpn (w0 : World) (F : Nat → Prop) (g : Nat) (d : Dk) (s : Int) (G : Nat) (P : List UInt8 → List (List UInt8) → Prop) (w : World) (e : Ending) (w' : World) : Prop :=
  ∃ b lb a k v st L y F1, e = .returned (.tuple #[.pointer (some ⟨b, 0, none⟩), .slice a st.length k, v, .int .i64 0]) ∧ RowKit.Below w.heap.size w w' ∧ w.heap.size ≤ b ∧ w.heap.size ≤ lb ∧ P st L ∧ (d.slot 0 s).1.b.length ≤ 13515 ∧ st = nR (d.slot 0 s).1.b ∧ Run d (d.base.length : Int) (2 * s) (nV (d.slot 0 s).1.b) L y ∧
    BAt w' a st ∧ st.length ≤ k ∧ (a = none → st = []) ∧ Recs w' w.heap.size v L ∧ F1 ≤ G ∧ (∀ y, 2 * s ≤ y → y < (d.base.length : Int) → stN (d.at_ y) ≤ F1) ∧ JL w0 w' F g b lb d s y (F1 + 1) false
theorem jl_open {w0 w : World} {F : Nat → Prop} {g : Nat} {d : Dk} {s : Int} {M G : Nat} {P : List UInt8 → List (List UInt8) → Prop} (h : DW w0 w F g d) (cd : Cd d s M G P) (hG : G ≤ 1152921504606846976) :
    Calls Tryz.prog 17 #[.pointer (some ⟨g, 0, none⟩), .int .i64 s] w (JOpn w0 F g d s G P w) := by
  have hcj := canJ_iff.1 cd.cj
  obtain ⟨f, st, k1, k2, k3, k4⟩ := cd.sl
  obtain ⟨p1, p2, p3, p4⟩ := cont_part (f := f) (by omega) st
  have hsl := slot_len d 0 s
  refine (jopen_any g F d s w h.dt (by unfold I; omega)).mono ?_
  intro e w' hc
  rcases hc with ⟨hc | ⟨_, q, _⟩ | ⟨_, _, q, _⟩, _⟩ | ⟨_, _, _, hB, b, lb, a, k, v, L, y, rfl, q1, q2, q3, q4, q5, q6, q7, q8, q9, hj⟩
  · rw [cd.cj] at hc; cases hc.1
  · exact absurd k2 q
  · rw [k3, p4] at q; cases q
  · rw [k3] at q3 q4 q5 q7 hj hsl ⊢
    rw [p1] at q7 hj
    rw [p2] at q3 q4 q5 ⊢
    obtain ⟨F1, n1, n2, n3, n4⟩ := cd.next (by omega) k1
    rw [n1] at hj
    refine ⟨b, lb, a, k, v, st, L, y, F1, rfl, hB, q1, q2, k4 L y q7, ?_, ?_, ?_, q3, q4, q5, q6, n2, n4, ⟨hj, h.fr, Nat.le_trans h.bl.size q1, Nat.le_trans h.bl.size q2, h.bl.trans (hB.mono h.bl.size)⟩⟩
    · rw [k3]; exact hsl
    · rw [k3]; exact p2.symm
    · rw [k3, p1]; exact q7
end Go.Proofs.YtdfbpaajkpnaeaaGreat

namespace Go.Proofs.YtdfbpaajkpnaeaaGreat
set_option maxRecDepth 100000
open Go.RowKit Go.Lib

theorem Row.last {d : Dk} : ∀ {L : List (List UInt8)} {x : Int} {n : Nat} {y : Int}, Row d x n L y → L ≠ [] → n + L.length ≤ 18446744073709551616 → ∃ t, x ≤ t ∧ t < y ∧ stN (d.at_ t) + 1 = n + L.length
  | [], _, _, _, _, h, _ => absurd rfl h
  | l :: L, x, n, y, h, _, hn => by
    rw [List.length_cons] at hn ⊢
    have hl := h.1
    have hp := spanN_pos (n := l.length + 4) (by omega)
    have hle := Row.le h.2.2
    by_cases hL : L = []
    · subst hL
      have hs := h.2.1 0 (by rw [closed_len]; omega)
      rw [show x + ((0 : Nat) : Int) = x by omega] at hs
      exact ⟨x, by omega, by omega, by rw [hs, stN_sec (by omega)]; rfl⟩
    · obtain ⟨t, h1, h2, h3⟩ := Row.last h.2.2 hL (by omega)
      exact ⟨t, by omega, h2, by omega⟩
theorem Lv.next {d : Dk} {s x : Int} {m f : Nat} {st : List UInt8} {recs : List (List UInt8)} (h : Lv d s x m f st recs) (hn : f + 1 + recs.length < 18446744073709551616) : nextN d (2 * s) (d.base.length : Int) f = f + 1 + recs.length := by
  have hub := topN_low (d := d) (x := 2 * s) (m := f + recs.length) ((d.base.length : Int) - 2 * s).toNat fun i hi => h.kp.all (by omega) _ (by omega) (by omega)
  have hlb : max f (topN d (2 * s) ((d.base.length : Int) - 2 * s).toNat) = f + recs.length := by
    by_cases hr : recs = []
    · subst hr
      simp only [List.length_nil, Nat.add_zero] at hub ⊢
      omega
    · obtain ⟨t, h1, h2, h3⟩ := Row.last h.kp.row hr (by omega)
      have hxs := h.kp.xs
      have := topN_le (d := d) (x := 2 * s) (k := ((d.base.length : Int) - 2 * s).toNat) (i := (t - 2 * s).toNat) (by omega)
      rw [show 2 * s + (((t - 2 * s).toNat : Nat) : Int) = t by omega] at this
      omega
  unfold nextN
  rw [hlb, Nat.mod_eq_of_lt (by omega)]
  omega
theorem JApp.quiet {w0 : World} {F : Nat → Prop} {g b lb : Nat} {d : Dk} {s x : Int} {m f : Nat} {st : List UInt8} {recs : List (List UInt8)} {l : List UInt8} {w : World} {e : Ending} {w' : World} (h : JApp w0 F g b lb d s x m f st recs l w e w') (hf : d.fuse < 0) :
    ∃ E F' lb' d', e = .returned (.int .i64 E) ∧ JFr F b lb w w' F' lb' ∧
    ((E ≠ 0 ∧ (4096 < l.length ∨ (d.base.length : Int) - x < (spanN (l.length + 4) : Int)) ∧ JL w0 w' F' g b lb' d s x (f + 1 + recs.length) true) ∨
     (E = 0 ∧ Lv d' s (x + (spanN (l.length + 4) : Int)) m f st (recs ++ [l]) ∧ d'.fuse < 0 ∧ d'.base.length = d.base.length ∧ JL w0 w' F' g b lb' d' s (x + (spanN (l.length + 4) : Int)) (f + 1 + (recs ++ [l]).length) true)) := by
  obtain ⟨E, F', lb', d', rfl, hfr, ⟨h1, _, h2, h3⟩ | ⟨h1, _, _, h2, h3, h4, h5⟩ | ⟨_, _, _, h1, _⟩⟩ := h
  · exact ⟨E, F', lb', d, rfl, hfr, Or.inl ⟨h1, h2, h3⟩⟩
  · exact ⟨E, F', lb', d', rfl, hfr, Or.inr ⟨h1, h2, h3 hf, h4, h5⟩⟩
  · have := h1.fu; omega
theorem JCmp.quiet {w0 : World} {F : Nat → Prop} {g b lb : Nat} {d : Dk} {s x : Int} {m f : Nat} {recs : List (List UInt8)} {st1 : List UInt8} {rd : Bool} {w : World} {e : Ending} {w' : World} (h : JCmp w0 F g b lb d s x m f recs st1 rd w e w') (hf : d.fuse < 0) (hl : st1.length ≤ 12288) (hs : (spanN ((cont (f + recs.length) st1).length + 4) : Int) ≤ s) :
    ∃ F' lb' d', e = .returned (.int .i64 0) ∧ JFr F b lb w w' F' lb' ∧ Lv d' s (2 * s) (m + 1) (f + recs.length) st1 [] ∧ d'.fuse < 0 ∧ d'.base.length = d.base.length ∧ JL w0 w' F' g b lb' d' s (2 * s) (f + recs.length + 1 + ([] : List (List UInt8)).length) true := by
  obtain ⟨E, F', lb', d', rfl, hfr, ⟨⟨_, h1⟩ | ⟨_, _, h1⟩, _⟩ | ⟨h1, _, _, h2, h3, h4, h5⟩ | ⟨_, _, _, h1, _⟩⟩ := h
  · omega
  · omega
  · exact ⟨F', lb', d', by rw [h1], hfr, h2, h3 hf, h4, h5⟩
  · have := h1.fu; omega
/-- a new one on a blank disk -/
def JFmt (w0 : World) (g : Nat) (N s : Int) (st : List UInt8) (e : Ending) (w' : World) : Prop :=
  ∃ F b lb d, e = .returned (.tuple #[.pointer (some ⟨b, 0, none⟩), .int .i64 0]) ∧ Lv d s (2 * s) 1 0 st [] ∧ d.fuse < 0 ∧ d.base.length = N.toNat ∧ JL w0 w' F g b lb d s (2 * s) (0 + 1 + ([] : List (List UInt8)).length) true
theorem jl_format {w0 w : World} {F : Nat → Prop} {g : Nat} {N s : Int} {st : List UInt8} {a : Option Addr} {len cap : Nat} (h : DW w0 w F g (Dk.blank N)) (hN : 0 ≤ N ∧ N ≤ 2048) (hc : canJ (Dk.blank N) s = true) (hb : BAt w a st) (hln : st.length = len) (ha : a = none → st = []) (hl : st.length ≤ 12288) (hs : (spanN ((cont 0 st).length + 4) : Int) ≤ s) :
    Calls Tryz.prog 7 #[.pointer (some ⟨g, 0, none⟩), .int .i64 s, .slice a len cap] w (JFmt w0 g N s st) := by
  have hcj := canJ_iff.1 hc
  refine (jformat_any g F (Dk.blank N) s 0 st a len cap w h.dt (by unfold I; omega) (fun _ => (Cd.blank (s := s) hN).2.2) hb hln ha (by omega) (by show 0 < 9700; omega)).mono ?_
  intro e w' hr
  rcases blank_fmt hN hc hl with ⟨q, _⟩ | ⟨_, k1, k2, k3, k4⟩
  · omega
  · rcases hr with ⟨q, _⟩ | ⟨_, q, _⟩ | ⟨_, _, _, F', ho, hfr, ⟨q, _⟩ | ⟨_, b, lb, L, y, rfl, q1, q2, q3, _, _, hj⟩⟩
    · rw [hc] at q; cases q
    · omega
    · exact absurd k1 q
    · have e1 := (slotW_lens (Dk.blank N) 0 s (cont 0 st)).2
      rw [← e1] at q3 hj
      have hkn := k2.kp.next (by omega)
      obtain ⟨_, rfl⟩ := k2.kp.run (by simp) q3
      rw [hkn] at hj
      exact ⟨F', b, lb, _, rfl, k2, k3, k4, ⟨hj, fun i hi => (hfr i hi).elim (h.fr i) fun e => Nat.le_trans h.bl.size e, Nat.le_trans h.bl.size q1, Nat.le_trans h.bl.size q2, ho.below h.bl h.fr h.bl.size⟩⟩
/-- opened again, while it lives -/
def JAgn (w0 : World) (F : Nat → Prop) (g : Nat) (d : Dk) (s x : Int) (f : Nat) (st : List UInt8) (recs : List (List UInt8)) (w : World) (e : Ending) (w' : World) : Prop :=
  ∃ b lb a k a2 k2, e = .returned (.tuple #[.pointer (some ⟨b, 0, none⟩), .slice a st.length k, .slice a2 recs.length k2, .int .i64 0]) ∧ RowKit.Below w.heap.size w w' ∧ w.heap.size ≤ b ∧ w.heap.size ≤ lb ∧
    BAt w' a st ∧ st.length ≤ k ∧ (a = none → st = []) ∧ Recs w' w.heap.size (.slice a2 recs.length k2) recs ∧ JL w0 w' F g b lb d s x (f + 1 + recs.length) false
theorem jl_again {w0 w : World} {F : Nat → Prop} {g : Nat} {d : Dk} {s x : Int} {m f : Nat} {st : List UInt8} {recs : List (List UInt8)} (h : DW w0 w F g d) (lv : Lv d s x m f st recs) (hf : f + recs.length ≤ 1152921504606846976) :
    Calls Tryz.prog 17 #[.pointer (some ⟨g, 0, none⟩), .int .i64 s] w (JAgn w0 F g d s x f st recs w) := by
  have hcj := canJ_iff.1 lv.cj
  obtain ⟨p1, p2, p3, p4⟩ := cont_part (f := f) (by omega) st
  have k2 : (d.slot 0 s).2 = 0 := by rw [lv.pl.cur]
  have k3 : (d.slot 0 s).1.b = cont f st := by rw [lv.pl.cur]
  refine (jopen_any g F d s w h.dt (by unfold I; omega)).mono ?_
  intro e w' hc
  rcases hc with ⟨hc | ⟨_, q, _⟩ | ⟨_, _, q, _⟩, _⟩ | ⟨_, _, _, hB, b, lb, a, k, v, L, y, rfl, q1, q2, q3, q4, q5, q6, q7, q8, q9, hj⟩
  · rw [lv.cj] at hc; cases hc.1
  · exact absurd k2 q
  · rw [k3, p4] at q; cases q
  · rw [k3] at q3 q4 q5 q7 hj ⊢
    rw [p1] at q7 hj
    rw [p2] at q3 q4 q5 ⊢
    obtain ⟨rfl, rfl⟩ := lv.kp.run (by omega) q7
    rw [lv.next (by omega)] at hj
    obtain ⟨a2, c2, rfl⟩ := q6.form
    exact ⟨b, lb, a, k, a2, c2, rfl, hB, q1, q2, q3, q4, q5, q6, ⟨hj, h.fr, Nat.le_trans h.bl.size q1, Nat.le_trans h.bl.size q2, h.bl.trans (hB.mono h.bl.size)⟩⟩
theorem jready_lv {w : World} {F : Nat → Prop} {g b lb : Nat} {d : Dk} {s x z : Int} {n : Nat} {rd : Bool} (h : JM w F g b lb d s x z n rd) :
    Calls Tryz.prog 24 #[.pointer (some ⟨b, 0, none⟩)] w fun e w' => e = .returned (.bool rd) ∧ w = w' := jready_any b rd w h.ja.cells.2.2.2
theorem two_bytes (W : World) (t : TypeId) : BAt (W.alloc (.cells #[.int .u8 97, .int .u8 98] t)) (some ⟨W.heap.size, 0, none⟩) [97, 98] := bat_mark _ _ _ _ _ rfl rfl
set_option maxRecDepth 100000 in
set_option maxHeartbeats 3200000 in
theorem journalAlive_any (w : World) : Calls Tryz.prog 4 #[] w fun e w' => e = .returned (.bool true) ∧ RowKit.Below w.heap.size w w' := by
  have B := Lib.hid (blank_any 8 w)
  have cv := conv_const
  go_enter Tryz.func4, Tryz.ntmps4
  go_wp2_with fail
  refine B.out.mono ?_
  rintro _ w1 ⟨g, F, rfl, hd, hb1, hf⟩
  have HD1 := Lib.hid (show DW w w1 F g (Dk.blank 8) from ⟨hd, hf, hb1⟩)
  have HF := Lib.hid (fun (W : World) (hb : RowKit.Below w1.heap.size w1 W) (q : Nat) (h : BAt W (some ⟨q, 0, none⟩) [97, 98]) => jl_format (w0 := w) (s := 2) (HD1.out.below hb) (by omega) (by decide) h (len := 2) (cap := 2) rfl (fun e => by cases e) (by decide) (by rw [show (cont 0 [97, 98]).length = 3 from by unfold cont; rw [uv_zero]; rfl]; decide))
  clear hd hb1 hf B
  go_wp2_with fail
  refine (HF.out _ ((RowKit.Below.refl _ _).alloc (Nat.le_refl _) _) _ (bat_mark _ _ _ _ _ rfl rfl)).mono ?_
  rintro _ w2 ⟨F2, b, lb, d2, rfl, lv2, hf2, hl2, hj2⟩
  have HJ2 := Lib.hid hj2
  have HL2 := Lib.hid lv2
  have HB2 := Lib.hid hl2
  have HR2 := Lib.hid (jready_lv hj2.jm)
  have HAP := Lib.hid (fun (W : World) (hb : RowKit.Below w2.heap.size w2 W) (q : Nat) (h : BAt W (some ⟨q, 0, none⟩) [99]) => (jl_append (hj2.below hb) lv2 (by simp) h (len := 1) (cap := 1) rfl (fun e => by cases e)).mono fun e w' k => k.quiet hf2)
  clear lv2 hf2 hl2 hj2 HF
  go_wp2_with fail
  refine HR2.out.mono ?_
  rintro _ _ ⟨rfl, rfl⟩
  clear HR2
  go_wp2_with fail
  refine (HAP.out _ ((RowKit.Below.refl _ _).alloc (Nat.le_refl _) _) _ (bat_mark _ _ _ _ _ rfl rfl)).mono ?_
  rintro _ w3 ⟨E, F3, lb3, d3, rfl, _, ⟨_, q, _⟩ | ⟨rfl, lv3, hf3, hl3, hj3⟩⟩
  · exfalso
    rw [HB2.out] at q
    revert q
    decide
  · have HJ3 := Lib.hid hj3
    have HOP := Lib.hid (fun (W : World) (hb : RowKit.Below w3.heap.size w3 W) => jl_again (hj3.below hb).dw lv3 (by simp))
    clear lv3 hf3 hl3 hj3 HAP
    go_wp2_with fail
    refine (HOP.out w3 (RowKit.Below.refl _ _)).mono ?_
    rintro _ w4 ⟨b4, lb4, a4, k4, a5, k5, rfl, hb4, _, _, hst, hk4, ha4, hrec, hj4⟩
    have HJ4 := Lib.hid hj4
    have HR4 := Lib.hid (jready_lv hj4.jm)
    obtain ⟨a6, c6, e6, hbs⟩ := hrec.bs
    cases e6
    have HBS := Lib.hid hbs
    have HSM := Lib.hid (fun (W : World) (hb : RowKit.Below w4.heap.size w4 W) (a : Option Addr) (h : RAt sv W a [[99]]) => same10_any [[99]] [[99]] a5 a k5 1 W (hbs.below hb) h (by decide))
    have cv2 := run_conv (w := w4) hst 2 k4 rfl
    have hq : (strB [97, 98]).toList = [97, 98] := by rw [ByteArray.toList_eq]; rfl
    clear hrec hb4 hbs hst hk4 ha4 HOP hj4
    go_wp2_with fail
    refine HR4.out.mono ?_
    rintro _ _ ⟨rfl, rfl⟩
    clear HR4
    go_wp2_with fail
    refine (HSM.out _ ((RowKit.Below.refl _ _).alloc (Nat.le_refl _) _) _ (rat_one _ _)).mono ?_
    rintro _ w6 ⟨rfl, hb6⟩
    have HB6 := Lib.hid (HJ4.out.bl.trans (((RowKit.Below.refl w4.heap.size w4).alloc (Nat.le_refl _) _).trans (hb6.mono (by simp)) |>.mono HJ4.out.bl.size))
    clear hb6 HSM
    go_wp2
    go_ret
    exact ⟨rfl, HB6.out⟩
end Go.Proofs.YtdfbpaajkpnaeaaGreat

namespace Go.Proofs.YtdfbpaajkpnaeaaGreat
set_option maxRecDepth 100000
open Go.RowKit Go.Lib

theorem JL.same {w0 w w' : World} {F : Nat → Prop} {g b lb : Nat} {d : Dk} {s x : Int} {n : Nat} {rd : Bool} (h : JL w0 w F g b lb d s x n rd) (hs : w.heap.size ≤ w'.heap.size) (hb : ∀ i, i < w.heap.size → (F i ∨ i = b ∨ i = lb) → w'.heap[i]? = w.heap[i]?) (bl : RowKit.Below w0.heap.size w0 w') : JL w0 w' F g b lb d s x n rd :=
  ⟨⟨h.jm.dt.same hs fun i hi => hb i (h.jm.dt.fl i hi) (Or.inl hi), h.jm.ja.same (hb b h.jm.ja.lt (Or.inr (Or.inl rfl))), h.jm.lg.same (hb lb h.jm.lg.lt (Or.inr (Or.inr rfl))), h.jm.nb, h.jm.nl, h.jm.ne⟩, h.fr, h.lb0, h.ll, bl⟩
/-- texts of one's own beside a journal -/
structure OJ (w0 w : World) (F : Nat → Prop) (b lb : Nat) (v : Value) (K : List (List UInt8)) : Prop where
  ow : Own w w0.heap.size v K
  fr : ∀ i, v.ownBlock = some i → ¬ (F i ∨ i = b ∨ i = lb)
theorem OJ.lt {w0 w : World} {F : Nat → Prop} {b lb : Nat} {v : Value} {K : List (List UInt8)} (h : OJ w0 w F b lb v K) : ∀ i, v.ownBlock = some i → i < w.heap.size := fun i hi => (World.ownsRow.lt h.ow i hi).2
theorem OJ.below {w0 w w' : World} {F : Nat → Prop} {b lb : Nat} {v : Value} {K : List (List UInt8)} (h : OJ w0 w F b lb v K) (hb : RowKit.Below w.heap.size w w') : OJ w0 w' F b lb v K := ⟨h.ow.below hb, h.fr⟩
theorem OJ.next {w0 w w' : World} {F F' : Nat → Prop} {b lb lb' : Nat} {v : Value} {K : List (List UInt8)} (h : OJ w0 w F b lb v K) (hf : JFr F b lb w w' F' lb') : OJ w0 w' F' b lb' v K :=
  ⟨h.ow.same fun i hi => hf.on.block i (h.lt i hi) (h.fr i hi), fun i hi e => by
    have h1 := h.lt i hi
    have h2 := h.fr i hi
    rcases e with e | e | e
    · exact (hf.fr i e).elim (fun e => h2 (Or.inl e)) fun e => by omega
    · exact h2 (Or.inr (Or.inl e))
    · exact hf.lr.elim (fun e2 => h2 (Or.inr (Or.inr (e.trans e2)))) fun e2 => by omega⟩
theorem OJ.form {w0 w : World} {F : Nat → Prop} {b lb : Nat} {v : Value} {K : List (List UInt8)} (h : OJ w0 w F b lb v K) : ∃ a c, v = .slice a K.length c := by
  obtain ⟨a, c, hv, _⟩ := own_rat h.ow
  exact ⟨a, c, hv⟩
theorem OJ.start {w0 w : World} {F : Nat → Prop} {g b lb : Nat} {d : Dk} {s x : Int} {n : Nat} {rd : Bool} (h : JL w0 w F g b lb d s x n rd) : OJ w0 (w.alloc (.cells #[] 9)) F b lb (.slice (some ⟨w.heap.size, 0, none⟩) 0 0) [] :=
  ⟨own_start w0 w h.bl.size, fun i hi e => by
    have hi : w.heap.size = i := by simpa [Value.ownBlock] using hi
    subst hi
    rcases e with e | e | e
    · have := h.jm.dt.fl _ e; omega
    · have := h.jm.ja.lt; omega
    · have := h.jm.lg.lt; omega⟩
/-- one text more -/
theorem OJ.app {w0 w w' : World} {F : Nat → Prop} {g b lb : Nat} {d : Dk} {s x : Int} {n : Nat} {rd : Bool} {v v' : Value} {K : List (List UInt8)} {l : List UInt8} (h : OJ w0 w F b lb v K) (hl : JL w0 w F g b lb d s x n rd)
    (ha : Appd (w.alloc (.cells #[sv l] 9)) w0.heap.size 9 1 v (K.length + 1) (K.map sv ++ [sv l]) v' w') : OJ w0 w' F b lb v' (K ++ [l]) ∧ JL w0 w' F g b lb d s x n rd := by
  obtain ⟨ho, hg, hv⟩ := ha
  have hsz : w.heap.size ≤ w'.heap.size := Nat.le_trans (by simp) hg.size
  have hblk : ∀ i, i < w.heap.size → v.ownBlock ≠ some i → w'.heap[i]? = w.heap[i]? := fun i hi hn => (hg.block i (by simp; omega) (fun e => hn e.symm)).trans (((RowKit.Below.refl w.heap.size w).alloc (Nat.le_refl _) _).block i hi)
  refine ⟨⟨?_, fun i hi => ?_⟩, hl.same hsz (fun i hi e => hblk i hi fun e2 => h.fr i e2 e) ((hl.bl.alloc hl.bl.size _).grown hg (Nat.le_trans hl.bl.size (by simp)) fun i hi => (World.ownsRow.lt h.ow i hi).1)⟩
  · unfold Own
    rw [List.length_append, List.map_append]
    exact ho
  · rcases hv with e | e
    · exact h.fr i (e ▸ hi)
    · rw [e] at hi
      injection hi with hi
      simp at hi
      intro e2
      rcases e2 with e2 | e2 | e2
      · have := hl.jm.dt.fl i e2; omega
      · have := hl.jm.ja.lt; omega
      · have := hl.jm.lg.lt; omega
end Go.Proofs.YtdfbpaajkpnaeaaGreat
