
/- falseworklaw09.StampTorn, mathematics. -/
import Derived.Test.YtdfbpaajkpnaeaaGreatSmKQ
namespace Go.Proofs.YtdfbpaajkpnaeaaGreat
set_option maxRecDepth 100000
open Go.RowKit Go.Lib

theorem cut_hi {s old : Sec} {k : Nat} (hs : s.length = 64) (hk : k ≤ 56) : (cutS s old k).drop 56 = old.drop 56 := by
  unfold cutS
  rw [List.drop_append, List.drop_of_length_le (by rw [List.length_take]; omega), List.nil_append, List.drop_drop, List.length_take, hs]
  congr 1
  omega
theorem cut_lo {s old : Sec} {k : Nat} (hs : s.length = 64) (hk : 56 < k) : (cutS s old k).take 56 = s.take 56 := by
  unfold cutS
  rw [List.take_append_of_le_length (by rw [List.length_take]; omega), List.take_take, Nat.min_eq_left (by omega)]
theorem get_take {s t : Sec} (h : s.take 56 = t.take 56) {i : Nat} (hi : i < 56) : s.getD i 0 = t.getD i 0 := by
  have h2 := congrArg (fun l => l[i]?) h
  simp only [List.getElem?_take_of_lt hi] at h2
  rw [List.getD, List.getD, h2]
theorem many_take {s t : Sec} (h : s.take 56 = t.take 56) : manyAt s = manyAt t := by unfold manyAt; rw [get_take h (by omega)]
theorem gatS_take {s t : Sec} (h : s.take 56 = t.take 56) : gatS s = gatS t := by
  unfold gatS
  rw [get_take h (by omega)]
  have h2 := congrArg (fun l => (l.drop 3).take (min (t.getD 2 0).toNat 53)) h
  simp only [List.drop_take, List.take_take] at h2
  rw [Nat.min_eq_left (by omega)] at h2
  exact h2
/-- what has gone into the base -/
theorem stl_qs {cm : Nat → Nat} {x : Int} {L b : List Sec} (h0 : 0 ≤ x) (h1 : x + (L.length : Int) ≤ b.length) : ∀ k, k ≤ L.length → ∀ y : Int, 0 ≤ y → y < (b.length : Int) →
    (stl cm (qsOf x L) b k).getD y.toNat [] = if x ≤ y ∧ y < x + (k : Int) then cutS (L.getD (y - x).toNat []) (b.getD y.toNat []) (cm (y - x).toNat) else b.getD y.toNat []
  | 0, _, y, _, _ => by rw [if_neg (by omega)]; rfl
  | k + 1, hk, y, hy0, hy1 => by
    have ih := stl_qs (cm := cm) h0 h1 k (by omega)
    have hq : (qsOf x L).getD k (0, []) = ((x + (k : Int)).toNat, L.getD k []) := by rw [List.getD, qsOf_get L x k (by omega)]; rfl
    rw [stl, hq]
    simp only
    by_cases e : y = x + (k : Int)
    · have e2 : (y - x).toNat = k := by omega
      have e3 := ih y hy0 hy1
      rw [if_neg (by omega)] at e3
      rw [if_pos (by omega), e2, ← e, e3, List.getD_eq_getElem?_getD, List.getElem?_set_self (by rw [stl_len]; omega)]
      rfl
    · have e3 := ih y hy0 hy1
      rw [List.getD_eq_getElem?_getD, List.getElem?_set_ne (by omega), ← List.getD_eq_getElem?_getD, e3]
      by_cases h : x ≤ y ∧ y < x + (k : Int)
      · rw [if_pos h, if_pos (by omega)]
      · rw [if_neg h, if_neg (by omega)]
theorem at_none {d : Dk} (hq : d.queue = []) {y : Int} (hy : 0 ≤ y ∧ y < (d.base.length : Int)) : d.at_ y = d.base.getD y.toNat [] := by
  unfold Dk.at_
  rw [if_pos hy, hq]
  rfl
/-- the disk that was cut off in a write at 3 -/
def dT (d : Dk) (n : Nat) (l : List UInt8) (keep : List Int) : Dk := Dk.power { d with queue := d.queue ++ qsOf 3 (secs n l) } keep
theorem at_T {d : Dk} {n : Nat} {l : List UInt8} {keep : List Int} (hq : d.queue = []) (hl : 3 + (spanN l.length : Int) ≤ d.base.length) {i : Nat} (hi : i < spanN l.length) :
    (dT d n l keep).at_ (3 + (i : Int)) = cutS (secOf n l i) (d.at_ (3 + (i : Int))) (keepF keep i) := by
  have hb : (dT d n l keep).base.length = d.base.length := stl_len _ _ _ _
  rw [at_none (d := dT d n l keep) rfl (by rw [hb]; omega), at_none hq (by omega)]
  have h := stl_qs (cm := keepF keep) (x := 3) (L := secs n l) (b := d.base) (by omega) (by rw [secs_length]; exact hl) (secs n l).length (Nat.le_refl _) (3 + (i : Int)) (by omega) (by omega)
  rw [secs_length, if_pos (by omega), show (3 + (i : Int) - 3).toNat = i by omega, secs_getD hi] at h
  have e : (dT d n l keep).base = stl (keepF keep) (qsOf 3 (secs n l)) d.base (spanN l.length) := by
    show stl (keepF keep) (d.queue ++ qsOf 3 (secs n l)) d.base (d.queue ++ qsOf 3 (secs n l)).length = _
    rw [hq, List.nil_append, qsOf_length, secs_length]
  rw [e]
  exact h
theorem torn_read {d : Dk} {n : Nat} {l : List UInt8} {keep : List Int} {top : Nat} (hok : d.Ok) (hq : d.queue = []) (hl : l.length ≤ 13515) (hb : 3 + (spanN l.length : Int) ≤ d.base.length) (z : Int)
    (ht : ∀ i : Nat, (i : Int) < d.base.length → stN (d.at_ (i : Int)) ≤ top) (he : ((dT d n l keep).read 3 z).e = 0) (hr : top < ((dT d n l keep).read 3 z).n) :
    ((dT d n l keep).read 3 z).b = l ∧ ((dT d n l keep).read 3 z).many = spanN l.length := by
  have hs := spanN_pos hl
  obtain ⟨L, hL⟩ : ∃ L, L = (dT d n l keep).stands 3 z := ⟨_, rfl⟩
  have hread : (dT d n l keep).read 3 z = readL L := by
    unfold Dk.read at *
    split
    · next h => rw [if_pos h] at he; cases he
    · rw [hL]
  rw [hread] at he hr ⊢
  obtain ⟨k1, k2, k3⟩ := readL_ok he
  rw [k3] at hr ⊢
  simp only at hr ⊢
  obtain ⟨N, hN⟩ : ∃ N, N = stN (L.headD []) := ⟨_, rfl⟩
  rw [← hN] at hr k2
  obtain ⟨c, hc⟩ : ∃ c, c = gat L := ⟨_, rfl⟩
  rw [← hc] at k2
  have hlay : layL N c = secs N c := if_neg (by omega)
  rw [hlay] at k2
  have hLm : L = (dT d n l keep).secsAt 3 (manyAt ((dT d n l keep).at_ 3)) := by
    rw [hL]
    unfold Dk.stands at *
    split
    · next h => rw [if_pos h] at hL; exact absurd hL k1
    · next h =>
      split
      · next h' => rw [if_neg h, if_pos h'] at hL; exact absurd hL k1
      · rfl
  have hN64 : N < 18446744073709551616 := by
    rw [hN]
    cases hLc : L with
    | nil => exact absurd hLc k1
    | cons s K =>
      have hm : s ∈ (dT d n l keep).secsAt 3 (manyAt ((dT d n l keep).at_ 3)) := by rw [← hLm, hLc]; simp
      obtain ⟨i, _, rfl⟩ := List.mem_map.1 hm
      have hok2 : (dT d n l keep).Ok := by
        have hsl : ∀ p ∈ d.queue ++ qsOf 3 (secs n l), p.1 < d.base.length ∧ p.2.length = 64 := fun p hp => by
          rw [hq, List.nil_append] at hp
          obtain ⟨j, hj⟩ := List.getElem?_of_mem hp
          have hjl : j < (secs n l).length := by have := (List.getElem?_eq_some_iff.1 hj).1; rwa [qsOf_length] at this
          rw [qsOf_get _ _ _ hjl] at hj
          rw [secs_length] at hjl
          have := Option.some.inj hj
          subst this
          exact ⟨by show (3 + (j : Int)).toNat < _; omega, by show ((secs n l).getD j []).length = 64; rw [secs_getD hjl]; exact secOf_len _ _ _⟩
        exact Dk.Ok.power (d := { d with queue := d.queue ++ qsOf 3 (secs n l) }) ⟨hok.bl, fun p hp => (hsl p hp).1, fun p hp => (hsl p hp).2, hok.sz, by show (d.queue ++ qsOf 3 (secs n l)).length ≤ 10000; rw [hq, List.nil_append, qsOf_length, secs_length]; have := spanN_le l.length; omega, hok.fz⟩ keep
      exact stN_lt (at_len hok2 _)
  have hget : ∀ i, i < manyAt ((dT d n l keep).at_ 3) → stN ((dT d n l keep).at_ (3 + (i : Int))) = N := fun i hi => by
    have g1 := secsAt_get (d := dT d n l keep) (x := 3) hi
    have hlen := congrArg List.length hLm
    rw [secsAt_length] at hlen
    rw [← hLm, k2] at g1
    have hi2 : i < spanN c.length := by
      have h2 := congrArg List.length k2
      rw [secs_length] at h2
      omega
    rw [secs_get hi2] at g1
    rw [← Option.some.inj g1]
    exact stN_sec hN64
  have hpre : ∀ i, i < spanN l.length → i < manyAt ((dT d n l keep).at_ 3) → ((dT d n l keep).at_ (3 + (i : Int))).take 56 = (secOf n l i).take 56 := fun i hi hi2 => by
    have h1 := hget i hi2
    rw [at_T hq hb hi] at h1 ⊢
    by_cases hk : keepF keep i ≤ 56
    · exfalso
      unfold stN at h1
      rw [cut_hi (secOf_len _ _ _) hk] at h1
      have h2 := ht (3 + i) (by omega)
      rw [show (((3 + i : Nat)) : Int) = 3 + (i : Int) by omega] at h2
      unfold stN at h2
      omega
    · exact cut_lo (secOf_len _ _ _) (by omega)
  have hm0 : 0 < manyAt ((dT d n l keep).at_ 3) := by
    apply Nat.pos_of_ne_zero
    intro e
    rw [e] at hLm
    exact k1 hLm
  have hmany : manyAt ((dT d n l keep).at_ 3) = spanN l.length := by
    have h0 := hpre 0 (by omega) hm0
    rw [show (3 : Int) + ((0 : Nat) : Int) = 3 by omega] at h0
    rw [many_take h0, many_sec]
  have hgat : gat L = l := by
    rw [hLm, hmany]
    have : gat ((dT d n l keep).secsAt 3 (spanN l.length)) = gat (secs n l) := by
      unfold gat Dk.secsAt secs
      rw [List.flatMap_map, List.flatMap_map]
      have hall : ∀ i ∈ List.range (spanN l.length), gatS ((dT d n l keep).at_ (3 + (i : Int))) = gatS (secOf n l i) := fun i hi => gatS_take (hpre i (List.mem_range.1 hi) (by rw [hmany]; exact List.mem_range.1 hi))
      clear hpre hget
      generalize List.range (spanN l.length) = R at hall
      induction R with
      | nil => rfl
      | cons a R ih => rw [List.flatMap_cons, List.flatMap_cons, hall a (by simp), ih (fun i hi => hall i (by simp [hi]))]
    rw [this, gat_secs hl]
  refine ⟨hgat, ?_⟩
  have := congrArg List.length hLm
  rw [secsAt_length, hmany] at this
  exact this
/-! stamps below 2 to the power of 62 -/
def Low (s : Sec) : Prop := s.length = 64 ∧ (s.getD 63 0).toNat < 64
theorem low_stN {s : Sec} (h : Low s) : stN s < 4611686018427387904 := by
  have h8 : (s.drop 56).length = 8 := by rw [List.length_drop, h.1]
  have e : s.drop 56 = (s.drop 56).take 7 ++ [s.getD 63 0] := by
    have h2 : (s.drop 56).drop 7 = [s.getD 63 0] := by
      rw [List.drop_drop]
      have h63 : 63 < s.length := by rw [h.1]; omega
      rw [show 56 + 7 = 63 from rfl, List.drop_eq_getElem_cons h63, List.drop_of_length_le (by rw [h.1]; omega), List.getD, List.getElem?_eq_getElem h63]
      rfl
    rw [← h2, List.take_append_drop]
  have h7 : ((s.drop 56).take 7).length = 7 := by rw [List.length_take, h8]; rfl
  unfold stN
  rw [e, num8_app, h7]
  have hlo := num8_lt ((s.drop 56).take 7)
  rw [h7] at hlo
  have hb := h.2
  have e7 : 256 ^ 7 = 72057594037927936 := by decide
  rw [e7] at *
  show _ + 72057594037927936 * (_ + 256 * 0) < _
  omega
theorem low_z : Low zsec := ⟨rfl, by decide⟩
theorem low_sec {n : Nat} {l : List UInt8} {i : Nat} (hn : n < 4611686018427387904) : Low (secOf n l i) := by
  refine ⟨secOf_len _ _ _, ?_⟩
  have h := piece_le l i
  have : (secOf n l i).getD 63 0 = UInt8.ofNat (n / 256 ^ 7 % 256) := by
    unfold secOf mkS
    rw [List.getD, List.getElem?_append_right (by simp; omega)]
    have e : 63 - ([UInt8.ofNat i, UInt8.ofNat (spanN l.length), UInt8.ofNat (piece l i).length] ++ (piece l i ++ List.replicate (53 - (piece l i).length) (0 : UInt8))).length = 7 := by simp; omega
    rw [e, le8_get (by omega)]
    rfl
  rw [this, UInt8.toNat_ofNat']
  have e7 : 256 ^ 7 = 72057594037927936 := by decide
  rw [e7]
  omega
theorem low_cut {s old : Sec} {k : Nat} (hs : Low s) (ho : Low old) (hk : k ≤ 64) : Low (cutS s old k) := by
  refine ⟨cutS_len hs.1 ho.1 hk, ?_⟩
  have : (cutS s old k).getD 63 0 = if 63 < k then s.getD 63 0 else old.getD 63 0 := by
    rw [List.getD, cutS_getD hs.1 hk]
    split <;> rfl
  rw [this]
  split
  · exact hs.2
  · exact ho.2
theorem low_stl {cm : Nat → Nat} {q : List (Nat × Sec)} {b : List Sec} (hc : ∀ k, cm k ≤ 64) (hb : ∀ s ∈ b, Low s) (hi : ∀ p ∈ q, p.1 < b.length) (hq : ∀ p ∈ q, Low p.2) : ∀ k, k ≤ q.length → ∀ s ∈ stl cm q b k, Low s
  | 0, _ => hb
  | k + 1, hk => fun s hs => by
    have ih := low_stl hc hb hi hq k (by omega)
    rw [stl] at hs
    rcases List.mem_or_eq_of_mem_set hs with h | rfl
    · exact ih s h
    · have hm := getD_mem (x := ((0 : Nat), ([] : Sec))) (show k < q.length by omega)
      exact low_cut (hq _ hm) (ih _ (getD_mem (by rw [stl_len]; exact hi _ hm))) (hc k)
/-- what holds while the old ones are written -/
structure Old (d : Dk) (k : Nat) : Prop where
  up : Up d
  bl : d.base.length = 30
  qn : d.queue.length ≤ 20 * k
  qi : ∀ p ∈ d.queue, p.1 < d.base.length
  lb : ∀ s ∈ d.base, Low s
  lq : ∀ p ∈ d.queue, Low p.2
theorem Old.start : Old (Dk.blank 30) 0 :=
  ⟨Up.blank 30, List.length_replicate, Nat.le_refl _, (fun p hp => by cases hp), (fun s hs => by rw [(List.mem_replicate.1 hs).2]; exact low_z), fun p hp => by cases hp⟩
theorem Old.more {d : Dk} {k : Nat} (h : Old d k) : Old d (k + 1) := ⟨h.up, h.bl, by have := h.qn; omega, h.qi, h.lb, h.lq⟩
theorem spanN_1000 {n : Nat} (h : n ≤ 1000) : spanN n ≤ 20 := by unfold spanN; rw [if_pos (by omega)]; omega
theorem Old.write {d : Dk} {k : Nat} (h : Old d k) (x : Int) {n : Nat} {l : List UInt8} (hn : n < 4611686018427387904) (hl : l.length ≤ 1000) : Old (d.write x n l).1 (k + 1) := by
  have hs := spanN_1000 hl
  have hp := spanN_pos (n := l.length) (by omega)
  by_cases h0 : n = 0
  · have : (layL n l).length = 0 := by unfold layL; rw [if_pos h0]; rfl
    unfold Dk.write
    rw [if_pos this]
    exact h.more
  · have e : layL n l = secs n l := if_neg h0
    by_cases hx : x < 0 ∨ (d.base.length : Int) - (spanN l.length : Int) < x
    · unfold Dk.write
      rw [e, secs_length, if_neg (by omega), if_pos hx]
      exact h.more
    · rw [write_up h.up h0 (by omega) (by omega) (by omega)]
      have hqs : ∀ p ∈ qsOf x (secs n l), p.1 < d.base.length ∧ Low p.2 := fun p hp => by
        obtain ⟨j, hj⟩ := List.getElem?_of_mem hp
        have hjl : j < (secs n l).length := by have := (List.getElem?_eq_some_iff.1 hj).1; rwa [qsOf_length] at this
        rw [qsOf_get _ _ _ hjl] at hj
        rw [secs_length] at hjl
        have := Option.some.inj hj
        subst this
        exact ⟨by show (x + (j : Int)).toNat < _; omega, by show Low ((secs n l).getD j []); rw [secs_getD hjl]; exact low_sec hn⟩
      refine ⟨⟨h.up.fu, h.up.dd⟩, h.bl, ?_, fun p hp => ?_, h.lb, fun p hp => ?_⟩
      · show (d.queue ++ qsOf x (secs n l)).length ≤ _
        rw [List.length_append, qsOf_length, secs_length]
        have := h.qn
        omega
      · rcases List.mem_append.1 hp with hp | hp
        · exact h.qi p hp
        · exact (hqs p hp).1
      · rcases List.mem_append.1 hp with hp | hp
        · exact h.lq p hp
        · exact (hqs p hp).2
theorem Old.power {d : Dk} {k : Nat} (h : Old d k) (l : List Int) : Old (d.power l) (k + 1) :=
  ⟨Up.power d l, (stl_len _ _ _ _).trans h.bl, Nat.zero_le _, (fun p hp => by cases hp), low_stl (keepF_le l) h.lb h.qi h.lq _ (Nat.le_refl _), fun p hp => by cases hp⟩
theorem Old.flush {d : Dk} {k : Nat} (h : Old d k) : Old d.flush 0 ∧ d.flush.queue = [] := by
  rw [h.up.flush]
  exact ⟨⟨⟨h.up.fu, h.up.dd⟩, (stl_len _ _ _ _).trans h.bl, Nat.le_refl _, (fun p hp => by cases hp), low_stl (fun _ => Nat.le_refl _) h.lb h.qi h.lq _ (Nat.le_refl _), fun p hp => by cases hp⟩, rfl⟩
theorem Old.at_ {d : Dk} {k : Nat} (h : Old d k) (hq : d.queue = []) (y : Int) : Low (d.at_ y) := by
  by_cases hy : 0 ≤ y ∧ y < (d.base.length : Int)
  · rw [at_none hq hy]
    exact h.lb _ (getD_mem (by omega))
  · unfold Dk.at_
    rw [if_neg hy]
    exact low_z
theorem Old.topN {d : Dk} {k : Nat} (h : Old d k) (hq : d.queue = []) (x : Int) : ∀ m, topN d x m < 4611686018427387904
  | 0 => by show 0 < _; omega
  | m + 1 => by
    have h1 := h.topN hq x m
    have h2 := low_stN (h.at_ hq (x + (m : Int)))
    show max _ _ < _
    omega
end Go.Proofs.YtdfbpaajkpnaeaaGreat
