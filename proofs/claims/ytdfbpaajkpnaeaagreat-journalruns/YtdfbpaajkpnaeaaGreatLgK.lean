
/- Package log, mathematics: a log's life, with a fuse. -/
import Derived.Test.YtdfbpaajkpnaeaaGreatLgBD
namespace Go.Proofs.YtdfbpaajkpnaeaaGreat
set_option maxRecDepth 100000
open Go.RowKit Go.Lib

theorem at_eq {d d' : Dk} (hb : d'.base = d.base) (hq : d'.queue = d.queue) (y : Int) : d'.at_ y = d.at_ y := by
  unfold Dk.at_
  rw [hb, hq]
theorem power_eq {d d' : Dk} (hb : d'.base = d.base) (hq : d'.queue = d.queue) (k : List Int) : d'.power k = d.power k := by
  unfold Dk.power
  rw [hb, hq]
theorem putAll_ok : ∀ (L : List Sec) (d : Dk) (x : Int), d.Ok → (∀ s ∈ L, s.length = 64) → d.queue.length + L.length ≤ 10000 → (putAll d x L).1.Ok
  | [], _, _, h, _, _ => h
  | s :: L, d, x, h, h64, hq => by
    rw [List.length_cons] at hq
    have h1 := h.put (x := x) (s := s) (h64 s (by simp)) (by omega)
    have h2 := put_queue_le d x s
    unfold putAll
    split
    · exact putAll_ok L _ _ h1 (fun s hs => h64 s (by simp [hs])) (by omega)
    · exact h1
theorem write_ok {d : Dk} (h : d.Ok) (x : Int) (n : Nat) (l : List UInt8) (hq : d.queue.length ≤ 9000) : (d.write x n l).1.Ok := by
  have h1 := layL_length_le n l
  have h2 := spanN_le l.length
  unfold Dk.write
  split
  · exact h
  · split
    · exact h
    · exact putAll_ok _ _ _ h (layL_64 n l) (by omega)
theorem putAll_fuse : ∀ (L : List Sec) (d : Dk) (x : Int), d.dead = false → 0 ≤ x → x + (L.length : Int) ≤ d.base.length →
    ∃ j, j ≤ L.length ∧ (putAll d x L).1.base = d.base ∧ (putAll d x L).1.queue = d.queue ++ qsOf x (L.take j) ∧ (((putAll d x L).2 = 0 ∧ j = L.length ∧ (putAll d x L).1.dead = false) ∨ ((putAll d x L).2 = 82 ∧ (putAll d x L).1.dead = true ∧ 0 ≤ d.fuse)) ∧ (d.fuse < 0 → (putAll d x L).1.fuse < 0)
  | [], d, x, hd, _, _ => ⟨0, Nat.le_refl _, rfl, by simp [putAll, qsOf], Or.inl ⟨rfl, rfl, hd⟩, fun h => h⟩
  | s :: L, d, x, hd, h0, h1 => by
    rw [List.length_cons] at h1
    have hx : d.has x = true := Dk.has_iff.2 (by omega)
    unfold putAll
    by_cases hl : d.live = true
    · have he : d.putE x = 0 := by unfold Dk.putE; rw [if_pos hx, if_pos hl]
      have hp : d.put x s = { d.spend with queue := d.queue ++ [(x.toNat, s)] } := by unfold Dk.put; rw [if_pos hx, if_pos hl]
      have hsp : d.spend = { d with fuse := if 0 < d.fuse then d.fuse - 1 else d.fuse } := by unfold Dk.spend; rw [if_pos hl]
      have pb : (d.put x s).base = d.base := put_base d x s
      have pq : (d.put x s).queue = d.queue ++ [(x.toNat, s)] := by rw [hp]
      have pd : (d.put x s).dead = false := by rw [hp, hsp]; exact hd
      have pf : d.fuse < 0 → (d.put x s).fuse < 0 := fun h => by
        rw [hp, hsp]
        show (if 0 < d.fuse then d.fuse - 1 else d.fuse) < 0
        rw [if_neg (by omega)]; exact h
      have pg : 0 ≤ (d.put x s).fuse → 0 ≤ d.fuse := fun h => by
        have h' : 0 ≤ (if 0 < d.fuse then d.fuse - 1 else d.fuse) := by rw [hp, hsp] at h; exact h
        split at h' <;> omega
      obtain ⟨j, k1, k2, k3, k4, k5⟩ := putAll_fuse L (d.put x s) (x + 1) pd (by omega) (by rw [pb]; omega)
      rw [if_pos he]
      refine ⟨j + 1, by rw [List.length_cons]; omega, k2.trans pb, ?_, ?_, fun h => k5 (pf h)⟩
      · rw [k3, pq, List.append_assoc, List.take_succ_cons]
        rfl
      · rcases k4 with ⟨a, b, c⟩ | ⟨a, b, c⟩
        · exact Or.inl ⟨a, by rw [List.length_cons, b], c⟩
        · exact Or.inr ⟨a, b, pg c⟩
    · have he : d.putE x = 82 := by unfold Dk.putE; rw [if_pos hx, if_neg hl]
      have hp : d.put x s = { d with dead := true } := by unfold Dk.put Dk.spend; rw [if_pos hx, if_neg hl, if_neg hl]
      have hf : d.fuse = 0 := by
        unfold Dk.live at hl
        rw [hd] at hl
        simpa using hl
      rw [if_neg (by rw [he]; decide), he, hp]
      exact ⟨0, Nat.zero_le _, rfl, by simp [qsOf], Or.inr ⟨rfl, rfl, by omega⟩, fun h => h⟩
/-- a log that lives: these records, from x0 to x -/
structure Kp (d : Dk) (x0 z x : Int) (fl : Nat) (done : List (List UInt8)) : Prop where
  ok : d.Ok
  bl : z ≤ (d.base.length : Int)
  q : d.queue = []
  dd : d.dead = false
  row : Row d x0 (fl + 1) done x
  xs : 0 ≤ x0 ∧ x ≤ z
  lo : ∀ y, x ≤ y → y < z → stN (d.at_ y) ≤ fl
theorem Kp.start {d : Dk} {x0 z : Int} {fl : Nat} (ok : d.Ok) (bl : z ≤ (d.base.length : Int)) (q : d.queue = []) (dd : d.dead = false) (xs : 0 ≤ x0 ∧ x0 ≤ z) (lo : ∀ y, x0 ≤ y → y < z → stN (d.at_ y) ≤ fl) : Kp d x0 z x0 fl [] :=
  ⟨ok, bl, q, dd, rfl, xs, lo⟩
theorem Kp.le {d : Dk} {x0 z x : Int} {fl : Nat} {done : List (List UInt8)} (h : Kp d x0 z x fl done) : x0 ≤ x := Row.le h.row
theorem Kp.fuse {d : Dk} {x0 z x : Int} {fl : Nat} {done : List (List UInt8)} (h : Kp d x0 z x fl done) {n : Int} (hn : I n) : Kp { d with fuse := n } x0 z x fl done :=
  ⟨h.ok.fuse hn, h.bl, h.q, h.dd, Row.same (d' := { d with fuse := n }) h.row (fun _ _ _ => rfl), h.xs, h.lo⟩
theorem Kp.power {d : Dk} {x0 z x : Int} {fl : Nat} {done : List (List UInt8)} (h : Kp d x0 z x fl done) (l : List Int) : Kp (d.power l) x0 z x fl done :=
  ⟨h.ok.power l, by rw [show (d.power l).base.length = d.base.length from stl_len _ _ _ _]; exact h.bl, rfl, rfl, Row.same h.row (fun _ _ _ => power_at h.q l _), h.xs, fun y h1 h2 => by rw [power_at h.q]; exact h.lo y h1 h2⟩
/-- what Open finds -/
theorem Kp.run {d : Dk} {x0 z x : Int} {fl : Nat} {done : List (List UInt8)} (h : Kp d x0 z x fl done) (hn : fl + 1 + done.length ≤ 18446744073709551616) {K : List (List UInt8)} {t : Int} (hr : Run d z x0 fl K t) : K = done ∧ t = x := by
  obtain ⟨K', e, r⟩ := Row.run h.bl h.row (by omega) hn h.xs.1 h.xs.2 (K := K) (t := t) hr
  obtain ⟨e2, e3⟩ := r.none fun hz => Nat.le_trans (h.lo x (Int.le_refl _) hz) (by omega)
  rw [e2, List.append_nil] at e
  exact ⟨e, e3⟩
/-- above all of them there is none -/
theorem Kp.run_above {d : Dk} {x0 z x : Int} {fl m : Nat} {done : List (List UInt8)} (h : Kp d x0 z x fl done) (hn : fl + 1 + done.length ≤ 18446744073709551616) (hm : fl + done.length ≤ m) {K : List (List UInt8)} {t : Int} (hr : Run d z x0 m K t) : K = [] ∧ t = x0 := by
  refine hr.none fun hz => ?_
  cases done with
  | nil =>
    have e : x = x0 := h.row
    exact Nat.le_trans (h.lo x0 (by omega) hz) (by omega)
  | cons l L =>
    have hs := h.row.2.1
    have hl := h.row.1
    have hp := spanN_pos (n := (closed l).length) (by rw [closed_len]; omega)
    have h0 := hs 0 (by omega)
    rw [show x0 + ((0 : Nat) : Int) = x0 by omega] at h0
    rw [List.length_cons] at hn hm
    rw [h0, stN_sec (by omega)]
    omega
/-- what an Append leaves that was cut off -/
structure Torn (d d' : Dk) (x : Int) (n : Nat) (l : List UInt8) : Prop where
  bs : d'.base = d.base
  qu : ∃ j, j ≤ spanN (l.length + 4) ∧ d'.queue = qsOf x ((secs n (closed l)).take j)
  dd : d'.dead = true
  fu : 0 ≤ d.fuse
theorem Kp.app {d : Dk} {x0 z x : Int} {fl : Nat} {done : List (List UInt8)} (h : Kp d x0 z x fl done) (l : List UInt8) :
    (4096 < l.length ∧ d.app x z (fl + 1 + done.length) l = (d, 101)) ∨ (l.length ≤ 4096 ∧ z - x < (spanN (l.length + 4) : Int) ∧ d.app x z (fl + 1 + done.length) l = (d, 102)) ∨
    (l.length ≤ 4096 ∧ (spanN (l.length + 4) : Int) ≤ z - x ∧ (((d.app x z (fl + 1 + done.length) l).2 = 0 ∧ Kp (d.app x z (fl + 1 + done.length) l).1 x0 z (x + (spanN (l.length + 4) : Int)) fl (done ++ [l]) ∧ (d.fuse < 0 → (d.app x z (fl + 1 + done.length) l).1.fuse < 0)) ∨
      ((d.app x z (fl + 1 + done.length) l).2 = 82 ∧ Torn d (d.app x z (fl + 1 + done.length) l).1 x (fl + 1 + done.length) l))) := by
  obtain ⟨n, hn⟩ : ∃ n, n = fl + 1 + done.length := ⟨_, rfl⟩
  rw [← hn]
  have hle := h.le
  by_cases h1 : 4096 < l.length
  · left
    refine ⟨h1, ?_⟩
    unfold Dk.app
    rw [if_pos h1]
  · right
    by_cases h2 : z - x < (spanN (l.length + 4) : Int)
    · left
      refine ⟨by omega, h2, ?_⟩
      unfold Dk.app
      rw [if_neg h1, if_pos h2]
    · right
      refine ⟨by omega, by omega, ?_⟩
      have hap : d.app x z n l = if (d.write x n (closed l)).2 = 0 then ((d.write x n (closed l)).1.flush, (d.write x n (closed l)).1.actE) else d.write x n (closed l) := by
        unfold Dk.app
        rw [if_neg h1, if_neg h2]
      have hcl := closed_len l
      have hsp := spanN_pos (n := (closed l).length) (by omega)
      have hx0 := h.xs
      have hbl := h.bl
      have hlay : layL n (closed l) = secs n (closed l) := if_neg (by omega)
      have hsl : (secs n (closed l)).length = spanN (l.length + 4) := by rw [secs_length, hcl]
      have hwr : d.write x n (closed l) = putAll d x (secs n (closed l)) := by
        unfold Dk.write
        rw [hlay, if_neg (by rw [hsl]; rw [hcl] at hsp; omega), if_neg (by rw [hsl]; omega)]
      have hok1 := write_ok h.ok x n (closed l) (by rw [h.q]; exact Nat.zero_le _)
      obtain ⟨j, k1, k2, k3, k4, k5⟩ := putAll_fuse (secs n (closed l)) d x h.dd (by omega) (by rw [hsl]; omega)
      rw [← hwr] at k2 k3 k4 k5
      rw [h.q, List.nil_append] at k3
      rw [hap]
      generalize d.write x n (closed l) = p at *
      obtain ⟨d1, E⟩ := p
      simp only at *
      rcases k4 with ⟨a, b, c⟩ | ⟨a, b, c⟩
      · subst a
        rw [if_pos rfl]
        subst b
        rw [List.take_length] at k3
        by_cases hlv : d1.live = true
        · left
          have hA : d1.actE = 0 := by unfold Dk.actE; rw [if_pos hlv]
          have hspd : d1.spend = { d1 with fuse := if 0 < d1.fuse then d1.fuse - 1 else d1.fuse } := by unfold Dk.spend; rw [if_pos hlv]
          have hfl : d1.flush = { d1.spend with base := stl (fun _ => 64) d1.queue d1.base d1.queue.length, queue := [] } := by unfold Dk.flush; rw [if_pos hlv]
          have hat : ∀ y, d1.flush.at_ y = if x ≤ y ∧ y < x + (spanN (l.length + 4) : Int) then (secs n (closed l)).getD (y - x).toNat [] else d.at_ y := fun y => by
            rw [flush_at hok1 hlv y, ← hsl, ← at_qs (d := d) (L := secs n (closed l)) (by omega) (by rw [hsl]; omega) y]
            exact at_eq (d := { d with queue := d.queue ++ qsOf x (secs n (closed l)) }) k2 (by rw [k3, h.q]; rfl) y
          refine ⟨hA, ⟨hok1.flush, ?_, ?_, ?_, ?_, ⟨hx0.1, by omega⟩, fun y h3 h4 => ?_⟩, fun hf => ?_⟩
          · rw [hfl]
            show z ≤ ((stl _ _ _ _).length : Int)
            rw [stl_len, k2]; exact hbl
          · rw [hfl]
          · rw [hfl, hspd]; exact c
          · refine Row.snoc (Row.same h.row fun t ht1 ht2 => by rw [hat t, if_neg (by omega)]) (by omega) fun i hi => ?_
            rw [hcl] at hi
            rw [hat, if_pos (by omega), show (x + (i : Int) - x).toNat = i by omega, secs_getD (by rw [hcl]; exact hi), hn]
          · rw [hat y, if_neg (by omega)]
            exact h.lo y (by omega) h4
          · rw [hfl, hspd]
            have := k5 hf
            show (if 0 < d1.fuse then d1.fuse - 1 else d1.fuse) < 0
            rw [if_neg (by omega)]; exact this
        · right
          have hA : d1.actE = 82 := by unfold Dk.actE; rw [if_neg hlv]
          have hfl : d1.flush = { d1 with dead := true } := by unfold Dk.flush Dk.spend; rw [if_neg hlv, if_neg hlv]
          have hf0 : ¬ d.fuse < 0 := fun hf => by
            have := k5 hf
            unfold Dk.live at hlv
            rw [c] at hlv
            simp at hlv
            omega
          exact ⟨hA, ⟨by rw [hfl]; exact k2, ⟨spanN (l.length + 4), Nat.le_refl _, by rw [hfl]; show d1.queue = _; rw [k3, ← hsl, List.take_length]⟩, by rw [hfl], by omega⟩⟩
      · subst a
        right
        rw [if_neg (by decide)]
        exact ⟨rfl, ⟨k2, ⟨j, by rw [← hsl]; exact k1, k3⟩, b, c⟩⟩
/-- behind a crash that cut off an Append -/
theorem Kp.torn_run {d d' : Dk} {x0 z x : Int} {fl : Nat} {done : List (List UInt8)} {l : List UInt8} (h : Kp d x0 z x fl done) (ht : Torn d d' x (fl + 1 + done.length) l) (hl : l.length ≤ 4096) (hsp : (spanN (l.length + 4) : Int) ≤ z - x) (hn : fl + 1 + done.length < 18446744073709551616) (keep : List Int) (hok : (d'.power keep).Ok)
    {K : List (List UInt8)} {t : Int} (hr : Run (d'.power keep) z x0 fl K t) : K = done ∨ K = done ++ [l] := by
  obtain ⟨j, hj, hq⟩ := ht.qu
  have hle := h.le
  have hx0 := h.xs
  have hbl := h.bl
  have hcl := closed_len l
  obtain ⟨n, hne⟩ : ∃ n, n = fl + 1 + done.length := ⟨_, rfl⟩
  rw [← hne] at hq
  obtain ⟨D, hD⟩ : ∃ D, D = d'.power keep := ⟨_, rfl⟩
  have hlen : ((secs n (closed l)).take j).length = j := by rw [List.length_take, secs_length, hcl]; omega
  have hat : ∀ y, D.at_ y = if x ≤ y ∧ y < x + (j : Int) then cutS (((secs n (closed l)).take j).getD (y - x).toNat []) (d.at_ y) (keepF keep (y - x).toNat) else d.at_ y := fun y => by
    have hp := power_qs (d := d) (x := x) (L := (secs n (closed l)).take j) (keep := keep) h.q (by omega) (by rw [hlen]; omega) y
    rw [hlen] at hp
    rw [← hp, hD, power_eq (d := { d with queue := qsOf x ((secs n (closed l)).take j) }) (d' := d') ht.bs hq]
  have hbD : z ≤ (D.base.length : Int) := by
    rw [hD, show (d'.power keep).base.length = d'.base.length from stl_len _ _ _ _, ht.bs]; exact hbl
  rw [← hD] at hr hok
  have hrow : Row D x0 (fl + 1) done x := Row.same h.row fun t h1 h2 => by rw [hat t, if_neg (by omega)]
  obtain ⟨K', e, r⟩ := Row.run hbD hrow (by omega) (by omega) hx0.1 hx0.2 (K := K) (t := t) hr
  rw [← hne] at r
  rcases r.inv with ⟨_, e2, _⟩ | ⟨h1, h2, h3, K2, e2, r2⟩
  · left; rw [e, e2, List.append_nil]
  · have htg := torn_gen (D := D) (x := x) (n := n) (l := closed l) (top := n - 1) hok (by omega) z (fun i hi => by
      rw [hcl] at hi
      have hold := h.lo (x + (i : Int)) (by omega) (by omega)
      rw [hat]
      by_cases hij : i < j
      · rw [if_pos (by omega), show (x + (i : Int) - x).toNat = i by omega]
        have hs : ((secs n (closed l)).take j).getD i [] = secOf n (closed l) i := by
          rw [List.getD, List.getElem?_take_of_lt hij, secs_get (by rw [hcl]; exact hi)]; rfl
        rw [hs]
        by_cases hk : keepF keep i ≤ 56
        · left
          unfold stN at hold ⊢
          rw [cut_hi (secOf_len _ _ _) hk]
          omega
        · right
          exact cut_lo (secOf_len _ _ _) (by omega)
      · rw [if_neg (by omega)]
        left; omega) h1 h2
    rw [htg.1] at e2
    rw [htg.2, hcl] at r2
    have hnone := r2.none fun hz => by
      rw [hat, if_neg (by omega)]
      have := h.lo (x + (spanN (l.length + 4) : Int)) (by omega) hz
      omega
    right
    rw [e, e2, hnone.1, show cutB (closed l) = l from cutB_close l]
end Go.Proofs.YtdfbpaajkpnaeaaGreat
