
/- Package journal: a journal's life; what is there behind a crash; a journal above a world. -/
import Derived.Test.YtdfbpaajkpnaeaaJnM
import Derived.Test.YtdfbpaajkpnaeaaJnC

namespace Go.Proofs.Ytdfbpaajkpnaeaa
set_option maxRecDepth 100000
open Go.RowKit Go.Lib

theorem Row.stamps {d : Dk} : ∀ {L : List (List UInt8)} {x : Int} {n : Nat} {y : Int}, Row d x n L y → n + L.length ≤ 18446744073709551616 → ∀ t, x ≤ t → t < y → stN (d.at_ t) < n + L.length
  | [], x, n, y, h, _, t, h1, h2 => by have : y = x := h; omega
  | l :: L, x, n, y, h, hn, t, h1, h2 => by
    rw [List.length_cons] at hn ⊢
    by_cases ht : t < x + (spanN (l.length + 4) : Int)
    · have hs := h.2.1 (t - x).toNat (by rw [closed_len]; omega)
      rw [show x + (((t - x).toNat : Nat) : Int) = t by omega] at hs
      rw [hs, stN_sec (by omega)]
      omega
    · have := Row.stamps h.2.2 (by omega) t (by omega) h2
      omega
theorem Kp.all {d : Dk} {x0 z x : Int} {fl : Nat} {done : List (List UInt8)} (h : Kp d x0 z x fl done) (hn : fl + 1 + done.length ≤ 18446744073709551616) : ∀ y, x0 ≤ y → y < z → stN (d.at_ y) ≤ fl + done.length := fun y h1 h2 => by
  by_cases hy : y < x
  · have := Row.stamps h.row hn y h1 hy
    omega
  · have := h.lo y (by omega) h2
    omega
theorem Run.uniq {d : Dk} {z : Int} : ∀ {L : List (List UInt8)} {x : Int} {m : Nat} {y : Int}, Run d z x m L y → ∀ {K : List (List UInt8)} {t : Int}, Run d z x m K t → L = K ∧ y = t
  | [], x, m, y, h, K, t, k => by
    rcases h.inv with ⟨h1, _, e⟩ | ⟨_, _, _, _, e, _⟩
    · rcases k.inv with ⟨_, e1, e2⟩ | ⟨k1, k2, k3, _⟩
      · exact ⟨e1.symm, e.trans e2.symm⟩
      · rcases h1 with q | q | q
        · exact absurd k1 q
        · omega
        · rw [k3] at q; cases q
    · cases e
  | l :: L, x, m, y, h, K, t, k => by
    rcases h.inv with ⟨_, e, _⟩ | ⟨h1, h2, h3, L2, e, h4⟩
    · cases e
    · rcases k.inv with ⟨q, _⟩ | ⟨_, _, _, K2, e2, k4⟩
      · exfalso
        rcases q with q | q | q
        · exact q h1
        · omega
        · rw [h3] at q; cases q
      · injection e with e3 e4
        subst e4
        obtain ⟨r1, r2⟩ := Run.uniq h4 k4
        rw [e2, e3, r1]
        exact ⟨rfl, r2⟩
/-- a journal that lives: its state, and the records since -/
structure Lv (d : Dk) (s x : Int) (m f : Nat) (st : List UInt8) (recs : List (List UInt8)) : Prop where
  pl : Pl d s m (cont f st)
  cj : canJ d s = true
  kp : Kp d (2 * s) (d.base.length : Int) x f recs
theorem Lv.fuse {d : Dk} {s x : Int} {m f : Nat} {st : List UInt8} {recs : List (List UInt8)} (h : Lv d s x m f st recs) {n : Int} (hn : I n) : Lv { d with fuse := n } s x m f st recs :=
  ⟨h.pl.same rfl fun _ _ _ => rfl, h.cj, h.kp.fuse hn⟩
theorem Lv.power {d : Dk} {s x : Int} {m f : Nat} {st : List UInt8} {recs : List (List UInt8)} (h : Lv d s x m f st recs) (l : List Int) : Lv (d.power l) s x m f st recs := by
  have e : (d.power l).base.length = d.base.length := stl_len _ _ _ _
  refine ⟨h.pl.same e fun t _ _ => power_at h.kp.q l t, canJ_iff.2 (by rw [e]; exact canJ_iff.1 h.cj), ?_⟩
  rw [e]
  exact h.kp.power l
theorem Lv.app {d : Dk} {s x : Int} {m f : Nat} {st : List UInt8} {recs : List (List UInt8)} (h : Lv d s x m f st recs) (l : List UInt8) :
    ((d.app x (d.base.length : Int) (f + 1 + recs.length) l).2 ≠ 0 ∧ (d.app x (d.base.length : Int) (f + 1 + recs.length) l).2 ≠ 82 ∧ (d.app x (d.base.length : Int) (f + 1 + recs.length) l).1 = d ∧ (4096 < l.length ∨ (d.base.length : Int) - x < (spanN (l.length + 4) : Int))) ∨
    (l.length ≤ 4096 ∧ (spanN (l.length + 4) : Int) ≤ (d.base.length : Int) - x ∧ (((d.app x (d.base.length : Int) (f + 1 + recs.length) l).2 = 0 ∧ Lv (d.app x (d.base.length : Int) (f + 1 + recs.length) l).1 s (x + (spanN (l.length + 4) : Int)) m f st (recs ++ [l]) ∧ (d.fuse < 0 → (d.app x (d.base.length : Int) (f + 1 + recs.length) l).1.fuse < 0)) ∨
      ((d.app x (d.base.length : Int) (f + 1 + recs.length) l).2 = 82 ∧ Torn d (d.app x (d.base.length : Int) (f + 1 + recs.length) l).1 x (f + 1 + recs.length) l))) := by
  rcases h.kp.app l with ⟨h1, h2⟩ | ⟨h1, h2, h3⟩ | ⟨h1, h2, ⟨h3, h4, h5⟩ | ⟨h3, h4⟩⟩
  · left
    rw [h2]
    exact ⟨by show (101 : Int) ≠ 0; decide, by show (101 : Int) ≠ 82; decide, rfl, Or.inl h1⟩
  · left
    rw [h3]
    exact ⟨by show (102 : Int) ≠ 0; decide, by show (102 : Int) ≠ 82; decide, rfl, Or.inr h2⟩
  · right
    refine ⟨h1, h2, Or.inl ⟨h3, ?_, h5⟩⟩
    have hle := h.kp.le
    have hxs := h.kp.xs
    have e := app_lens d x (d.base.length : Int) (f + 1 + recs.length) l
    have hw := wr_fuse (p := x) (n := f + 1 + recs.length) (l := l) h.kp.ok h.kp.q h.kp.dd (by omega) (by omega) (by omega) (by omega)
    rw [← app_wr h1 h2, h3] at hw
    rcases hw with ⟨_, hw⟩ | ⟨q, _⟩
    · refine ⟨h.pl.same e fun t _ ht => by rw [hw.at_, if_neg (by omega)], canJ_iff.2 (by rw [e]; exact canJ_iff.1 h.cj), ?_⟩
      rw [e]
      exact h4
    · cases q
  · right
    exact ⟨h1, h2, Or.inr ⟨h3, h4⟩⟩
theorem Lv.cmp {d : Dk} {s x : Int} {m f : Nat} {st : List UInt8} {recs : List (List UInt8)} (h : Lv d s x m f st recs) (hf : f + recs.length ≤ 1152921504606846976) (hm : m + 1 < 18446744073709551616) {st1 : List UInt8} (hst : st1.length ≤ 12288) :
    (s < (spanN ((cont (f + recs.length) st1).length + 4) : Int) ∧ d.slotW 0 s (cont (f + recs.length) st1) = (d, 0, 111)) ∨
    ((spanN ((cont (f + recs.length) st1).length + 4) : Int) ≤ s ∧ (((d.slotW 0 s (cont (f + recs.length) st1)).2.2 = 0 ∧ Lv (d.slotW 0 s (cont (f + recs.length) st1)).1 s (2 * s) (m + 1) (f + recs.length) st1 [] ∧ (d.fuse < 0 → (d.slotW 0 s (cont (f + recs.length) st1)).1.fuse < 0)) ∨
      ((d.slotW 0 s (cont (f + recs.length) st1)).2.2 = 82 ∧ Torn d (d.slotW 0 s (cont (f + recs.length) st1)).1 (plc (m + 1) 0 s) (m + 1) (cont (f + recs.length) st1)))) := by
  have hcl := cont_len (f := f + recs.length) (by omega) st1
  obtain ⟨l, hl⟩ : ∃ l, l = cont (f + recs.length) st1 := ⟨_, rfl⟩
  rw [← hl] at hcl ⊢
  by_cases hs : s < (spanN (l.length + 4) : Int)
  · exact Or.inl ⟨hs, slotW_no (Or.inr hs)⟩
  · right
    obtain ⟨_, s1, s2, s3⟩ := canB_iff.1 h.pl.can
    have hnx := h.pl.nextG hm
    have hpl := plc_0 (m + 1) s
    have hw := wr_fuse (p := plc (m + 1) 0 s) (n := m + 1) (l := l) h.kp.ok h.kp.q h.kp.dd (by omega) (by omega) (by omega) (by omega)
    have he := slotW_wr (l := l) h.pl.can (by omega) (by omega)
    rw [hnx] at he
    rw [← he.1, ← he.2] at hw
    refine ⟨by omega, ?_⟩
    rcases hw with ⟨e, hw⟩ | ⟨e, hw⟩
    · left
      obtain ⟨k1, k2⟩ := hw.pl h.pl.can (by omega) hm (by omega) (by omega) fun y y0 y1 => by have := h.pl.top y y0 y1; omega
      have hbl := hw.bl
      have hcj := canJ_iff.1 h.cj
      refine ⟨e, ⟨by rw [← hl]; exact k1, canJ_iff.2 (by rw [hbl]; exact hcj), ?_⟩, hw.fu⟩
      rw [hbl]
      exact Kp.start hw.ok (by rw [hbl]; exact Int.le_refl _) hw.q hw.dd (by omega) fun y y0 y1 => by
        rw [k2 y y0]
        exact h.kp.all (by omega) y y0 y1
    · right
      exact ⟨e, hw⟩
/-- what is there behind a crash: of each state and records that may be opened P holds -/
structure Cd (d : Dk) (s : Int) (M G : Nat) (P : List UInt8 → List (List UInt8) → Prop) : Prop where
  ok : d.Ok
  q : d.queue = []
  dd : d.dead = false
  cj : canJ d s = true
  tp : ∀ y, 0 ≤ y → y < 2 * s → stN (d.at_ y) ≤ M
  lo : ∀ y, 2 * s ≤ y → y < (d.base.length : Int) → stN (d.at_ y) ≤ G
  sl : ∃ f st, f ≤ G ∧ (d.slot 0 s).2 = 0 ∧ (d.slot 0 s).1.b = cont f st ∧ ∀ K t, Run d (d.base.length : Int) (2 * s) f K t → P st K
theorem Cd.mono {d : Dk} {s : Int} {M G : Nat} {P P' : List UInt8 → List (List UInt8) → Prop} (h : Cd d s M G P) (hP : ∀ a b, P a b → P' a b) : Cd d s M G P' := by
  obtain ⟨f, st, h1, h2, h3, h4⟩ := h.sl
  exact ⟨h.ok, h.q, h.dd, h.cj, h.tp, h.lo, f, st, h1, h2, h3, fun K t hr => hP _ _ (h4 K t hr)⟩
theorem Lv.cd {d : Dk} {s x : Int} {m f : Nat} {st : List UInt8} {recs : List (List UInt8)} (h : Lv d s x m f st recs) (hn : f + 1 + recs.length ≤ 18446744073709551616) : Cd d s m (f + recs.length) fun a b => a = st ∧ b = recs :=
  ⟨h.kp.ok, h.kp.q, h.kp.dd, h.cj, h.pl.top, h.kp.all hn, f, st, by omega, by rw [h.pl.cur], by rw [h.pl.cur], fun _ _ hr => ⟨rfl, (h.kp.run hn hr).1⟩⟩
theorem Lv.torn_app {d d' : Dk} {s x : Int} {m f : Nat} {st : List UInt8} {recs : List (List UInt8)} {l : List UInt8} (h : Lv d s x m f st recs) (hn : f + 1 + recs.length < 18446744073709551616) (ht : Torn d d' x (f + 1 + recs.length) l) (hl : l.length ≤ 4096) (hs : (spanN (l.length + 4) : Int) ≤ (d.base.length : Int) - x) (hok : d'.Ok) (keep : List Int) :
    Cd (d'.power keep) s m (f + 1 + recs.length) fun a b => a = st ∧ (b = recs ∨ b = recs ++ [l]) := by
  have hle := h.kp.le
  have hxs := h.kp.xs
  have hcj := canJ_iff.1 h.cj
  have e := ht.len keep
  obtain ⟨j, hj, hat⟩ := ht.at_ h.kp.q (by omega) (by omega) keep
  have hpl : Pl (d'.power keep) s m (cont f st) := h.pl.same e fun t _ t1 => by rw [hat, if_neg (by omega)]
  refine ⟨hok.power keep, rfl, rfl, canJ_iff.2 (by rw [e]; exact hcj), hpl.top, fun y y0 y1 => ?_, f, st, by omega, by rw [hpl.cur], by rw [hpl.cur], fun K t hr => ⟨rfl, ?_⟩⟩
  · rw [e] at y1
    have hold := h.kp.all (by omega) y y0 y1
    rw [hat]
    split
    · have := stN_cut (s := secOf (f + 1 + recs.length) (closed l) (y - x).toNat) (old := d.at_ y) (k := keepF keep (y - x).toNat) (secOf_len _ _ _) (at_len h.kp.ok y) (by rw [stN_sec hn]; omega)
      rw [stN_sec hn] at this
      exact this
    · omega
  · rw [e] at hr
    exact h.kp.torn_run ht hl hs hn keep (hok.power keep) hr
theorem Lv.torn_cmp {d d' : Dk} {s x : Int} {m f : Nat} {st : List UInt8} {recs : List (List UInt8)} {st1 : List UInt8} (h : Lv d s x m f st recs) (hf : f + recs.length ≤ 1152921504606846976) (hm : m + 1 < 18446744073709551616) (hst : st1.length ≤ 12288) (hs : (spanN ((cont (f + recs.length) st1).length + 4) : Int) ≤ s) (ht : Torn d d' (plc (m + 1) 0 s) (m + 1) (cont (f + recs.length) st1)) (hok : d'.Ok) (keep : List Int) :
    Cd (d'.power keep) s (m + 1) (f + recs.length) fun a b => (a = st ∧ b = recs) ∨ (a = st1 ∧ b = []) := by
  have hcl := cont_len (f := f + recs.length) (by omega) st1
  have e := ht.len keep
  have hcj := canJ_iff.1 h.cj
  obtain ⟨k1, k2, k3, k4⟩ := h.pl.torn h.kp.ok h.kp.q hm (by omega) hs ht keep (hok.power keep)
  have hkp : Kp (d'.power keep) (2 * s) (d.base.length : Int) x f recs := by
    refine ⟨hok.power keep, by rw [e]; exact h.kp.bl, rfl, rfl, Row.same h.kp.row fun t t0 _ => k4 t t0, h.kp.xs, fun y y0 y1 => ?_⟩
    have := h.kp.le
    rw [k4 y (by omega)]
    exact h.kp.lo y y0 y1
  have hlo : ∀ y, 2 * s ≤ y → y < ((d'.power keep).base.length : Int) → stN ((d'.power keep).at_ y) ≤ f + recs.length := fun y y0 y1 => by
    rw [e] at y1
    rw [k4 y y0]
    exact h.kp.all (by omega) y y0 y1
  rcases k2 with k2 | k2
  · exact ⟨hok.power keep, rfl, rfl, canJ_iff.2 (by rw [e]; exact hcj), k3, hlo, f, st, by omega, k1, k2, fun K t hr => by
      rw [e] at hr
      exact Or.inl ⟨rfl, (hkp.run (by omega) hr).1⟩⟩
  · exact ⟨hok.power keep, rfl, rfl, canJ_iff.2 (by rw [e]; exact hcj), k3, hlo, f + recs.length, st1, Nat.le_refl _, k1, k2, fun K t hr => by
      rw [e] at hr
      exact Or.inr ⟨rfl, (hkp.run_above (by omega) (Nat.le_refl _) hr).1⟩⟩
/-- the stamp of a log that was opened: above all of them -/
theorem Cd.next {d : Dk} {s : Int} {M G : Nat} {P : List UInt8 → List (List UInt8) → Prop} (h : Cd d s M G P) (hG : G + 1 < 18446744073709551616) {f : Nat} (hf : f ≤ G) :
    ∃ F1, nextN d (2 * s) (d.base.length : Int) f = F1 + 1 ∧ F1 ≤ G ∧ f ≤ F1 ∧ ∀ y, 2 * s ≤ y → y < (d.base.length : Int) → stN (d.at_ y) ≤ F1 := by
  have hub := topN_low (d := d) (x := 2 * s) (m := G) ((d.base.length : Int) - 2 * s).toNat fun i hi => h.lo _ (by omega) (by omega)
  refine ⟨max f (topN d (2 * s) ((d.base.length : Int) - 2 * s).toNat), ?_, by omega, by omega, fun y y0 y1 => ?_⟩
  · unfold nextN
    exact Nat.mod_eq_of_lt (by omega)
  · have := topN_le (d := d) (x := 2 * s) (k := ((d.base.length : Int) - 2 * s).toNat) (i := (y - 2 * s).toNat) (by omega)
    rw [show 2 * s + (((y - 2 * s).toNat : Nat) : Int) = y by omega] at this
    omega
theorem Cd.cmp {d : Dk} {s : Int} {M G : Nat} {P : List UInt8 → List (List UInt8) → Prop} (h : Cd d s M G P) (hM : M + 2 < 18446744073709551616) {F1 : Nat} (hF : F1 ≤ 1152921504606846976) (hlo : ∀ y, 2 * s ≤ y → y < (d.base.length : Int) → stN (d.at_ y) ≤ F1) {st1 : List UInt8} (hst : st1.length ≤ 12288) (h0 : (d.slotW 0 s (cont F1 st1)).2.2 = 0) :
    ∃ m, m ≤ M + 2 ∧ Lv (d.slotW 0 s (cont F1 st1)).1 s (2 * s) m F1 st1 [] := by
  have hcl := cont_len (f := F1) (by omega) st1
  have hcan := canJ_B h.cj
  obtain ⟨_, s1, s2, s3⟩ := canB_iff.1 hcan
  obtain ⟨l, hl⟩ : ∃ l, l = cont F1 st1 := ⟨_, rfl⟩
  rw [← hl] at hcl h0 ⊢
  by_cases hs : s < (spanN (l.length + 4) : Int)
  · rw [slotW_no (Or.inr hs)] at h0
    cases h0
  · obtain ⟨n1, n2⟩ := nextG_in s1 h.tp hM
    have hpl := plc_0 (d.nextG 0 s) s
    have hn0 : d.nextG 0 s ≠ 0 := by have := n1 0 (by omega) (by omega); omega
    have hw := wr_fuse (p := plc (d.nextG 0 s) 0 s) (n := d.nextG 0 s) (l := l) h.ok h.q h.dd (by omega) hn0 (by omega) (by omega)
    have he := slotW_wr (l := l) hcan (by omega) (by omega)
    rw [← he.1, ← he.2, h0] at hw
    rcases hw with ⟨_, hw⟩ | ⟨e, _⟩
    · obtain ⟨k1, k2⟩ := hw.pl hcan hn0 (by omega) (by omega) (by omega) n1
      have hbl := hw.bl
      have hcj := canJ_iff.1 h.cj
      refine ⟨d.nextG 0 s, n2, ⟨by rw [← hl]; exact k1, canJ_iff.2 (by rw [hbl]; exact hcj), ?_⟩⟩
      rw [hbl]
      exact Kp.start hw.ok (by rw [hbl]; exact Int.le_refl _) hw.q hw.dd (by omega) fun y y0 y1 => by
        rw [k2 y y0]
        exact hlo y y0 y1
    · cases e
/-- a blank disk -/
theorem Cd.blank {N s : Int} (hN : 0 ≤ N ∧ N ≤ 2048) : (Dk.blank N).base.length = N.toNat ∧ (∀ y, (stN ((Dk.blank N).at_ y)) = 0) ∧ nextN (Dk.blank N) (2 * s) ((Dk.blank N).base.length : Int) 0 = 1 := by
  have h1 : (Dk.blank N).base.length = N.toNat := by rw [blank_len]; unfold blankN; omega
  have h2 : ∀ y, (stN ((Dk.blank N).at_ y)) = 0 := fun y => by rw [blank_at, zsec_stN]
  refine ⟨h1, h2, ?_⟩
  have := topN_low (d := Dk.blank N) (x := 2 * s) (m := 0) (((Dk.blank N).base.length : Int) - 2 * s).toNat fun i _ => Nat.le_of_eq (h2 _)
  unfold nextN
  rw [Nat.le_zero.1 this]
  rfl
/-- the first content on a blank disk -/
theorem blank_fmt {N s : Int} (hN : 0 ≤ N ∧ N ≤ 2048) (hc : canJ (Dk.blank N) s = true) {st : List UInt8} (hst : st.length ≤ 12288) :
    (s < (spanN ((cont 0 st).length + 4) : Int) ∧ (Dk.blank N).slotW 0 s (cont 0 st) = (Dk.blank N, 0, 111)) ∨
    ((spanN ((cont 0 st).length + 4) : Int) ≤ s ∧ ((Dk.blank N).slotW 0 s (cont 0 st)).2.2 = 0 ∧ Lv ((Dk.blank N).slotW 0 s (cont 0 st)).1 s (2 * s) 1 0 st [] ∧ ((Dk.blank N).slotW 0 s (cont 0 st)).1.fuse < 0 ∧ ((Dk.blank N).slotW 0 s (cont 0 st)).1.base.length = N.toNat) := by
  obtain ⟨b1, b2, b3⟩ := Cd.blank (s := s) hN
  have hcl := cont_len (f := 0) (by omega) st
  have hcan := canJ_B hc
  obtain ⟨_, s1, s2, s3⟩ := canB_iff.1 hcan
  obtain ⟨l, hl⟩ : ∃ l, l = cont 0 st := ⟨_, rfl⟩
  rw [← hl] at hcl ⊢
  by_cases hs : s < (spanN (l.length + 4) : Int)
  · exact Or.inl ⟨hs, slotW_no (Or.inr hs)⟩
  · right
    have hnx : (Dk.blank N).nextG 0 s = 1 := by
      have ht : topN (Dk.blank N) 0 (2 * s).toNat = 0 := Nat.le_zero.1 (topN_ub fun i _ => Nat.le_of_eq (b2 _))
      have hr : ∀ p z, ((Dk.blank N).read p z).e ≠ 0 := fun p z e => by
        obtain ⟨_, _, _, k4, _, k6, _⟩ := read_in e
        rw [k6, blank_at] at k4
        exact absurd k4 (by decide)
      have hsl : ((Dk.blank N).slot 0 s).2 ≠ 0 := by
        have e1 : (Dk.blank N).stand 0 s 0 = Gen.none := by unfold Dk.stand; rw [if_neg (fun e => hr _ _ e.1)]
        have e2 : (Dk.blank N).stand (0 + s) s 1 = Gen.none := by unfold Dk.stand; rw [if_neg (fun e => hr _ _ e.1)]
        unfold Dk.slot Dk.both
        rw [e1, e2, if_neg (fun e => e.2 (by rfl))]
        show (111 : Int) ≠ 0
        decide
      unfold Dk.nextG
      rw [ht, if_neg (fun e => hsl e.1)]
    have hpl := plc_0 1 s
    have hok : (Dk.blank N).Ok := Dk.Ok.blank N
    have hw := wr_fuse (p := plc 1 0 s) (n := 1) (l := l) hok rfl rfl (by omega) (by omega) (by omega) (by omega)
    have he := slotW_wr (l := l) hcan (by omega) (by omega)
    rw [hnx] at he
    rw [← he.1, ← he.2] at hw
    rcases hw with ⟨e, hw⟩ | ⟨e, hw⟩
    · obtain ⟨k1, k2⟩ := hw.pl hcan (by omega) (by omega) (by omega) (by omega) fun y _ _ => by rw [b2]; omega
      have hbl := hw.bl
      have hcj := canJ_iff.1 hc
      refine ⟨by omega, e, ⟨by rw [← hl]; exact k1, canJ_iff.2 (by rw [hbl]; exact hcj), ?_⟩, hw.fu (by show (-1 : Int) < 0; decide), by rw [hbl, b1]⟩
      rw [hbl]
      exact Kp.start hw.ok (by rw [hbl]; exact Int.le_refl _) hw.q hw.dd (by omega) fun y y0 y1 => by rw [k2 y y0, b2]; exact Nat.le_refl _
    · have := hw.fu
      exact absurd this (by show ¬ (0 : Int) ≤ -1; decide)
/-! a journal above a world -/
structure JL (w0 w : World) (F : Nat → Prop) (g b lb : Nat) (d : Dk) (s x : Int) (n : Nat) (rd : Bool) : Prop where
  jm : JM w F g b lb d s x (d.base.length : Int) n rd
  fr : ∀ i, F i → w0.heap.size ≤ i
  lb0 : w0.heap.size ≤ b
  ll : w0.heap.size ≤ lb
  bl : RowKit.Below w0.heap.size w0 w
theorem JL.below {w0 w w' : World} {F : Nat → Prop} {g b lb : Nat} {d : Dk} {s x : Int} {n : Nat} {rd : Bool} (h : JL w0 w F g b lb d s x n rd) (hb : RowKit.Below w.heap.size w w') : JL w0 w' F g b lb d s x n rd :=
  ⟨h.jm.below hb, h.fr, h.lb0, h.ll, h.bl.trans (hb.mono h.bl.size)⟩
/-- what has turned lies above -/
theorem JL.next {w0 w w' : World} {F F' : Nat → Prop} {g b lb lb' : Nat} {d d' : Dk} {s x y : Int} {n m : Nat} {rd rd' : Bool} (h : JL w0 w F g b lb d s x n rd) (hf : JFr F b lb w w' F' lb') (hj : JM w' F' g b lb' d' s y (d'.base.length : Int) m rd') : JL w0 w' F' g b lb' d' s y m rd' :=
  ⟨hj, fun i hi => (hf.fr i hi).elim (h.fr i) fun e => Nat.le_trans h.bl.size e, h.lb0, hf.lr.elim (fun e => e ▸ h.ll) fun e => Nat.le_trans h.bl.size e, hf.on.below h.bl (fun i hi => hi.elim (h.fr i) fun e => e.elim (fun e => e ▸ h.lb0) fun e => e ▸ h.ll) h.bl.size⟩
theorem JL.off {w0 w w' : World} {F F' : Nat → Prop} {g b lb lb' : Nat} {d : Dk} {s x : Int} {n : Nat} {rd : Bool} (h : JL w0 w F g b lb d s x n rd) (hf : JFr F b lb w w' F' lb') : RowKit.Below w0.heap.size w0 w' ∧ ∀ i, F' i → w0.heap.size ≤ i :=
  ⟨hf.on.below h.bl (fun i hi => hi.elim (h.fr i) fun e => e.elim (fun e => e ▸ h.lb0) fun e => e ▸ h.ll) h.bl.size, fun i hi => (hf.fr i hi).elim (h.fr i) fun e => Nat.le_trans h.bl.size e⟩
theorem JL.dw {w0 w : World} {F : Nat → Prop} {g b lb : Nat} {d : Dk} {s x : Int} {n : Nat} {rd : Bool} (h : JL w0 w F g b lb d s x n rd) : DW w0 w F g d := ⟨h.jm.dt, h.fr, h.bl⟩
def JApp (w0 : World) (F : Nat → Prop) (g b lb : Nat) (d : Dk) (s x : Int) (m f : Nat) (st : List UInt8) (recs : List (List UInt8)) (l : List UInt8) (w : World) (e : Ending) (w' : World) : Prop :=
  ∃ E F' lb' d', e = .returned (.int .i64 E) ∧ JFr F b lb w w' F' lb' ∧
    ((E ≠ 0 ∧ E ≠ 82 ∧ (4096 < l.length ∨ (d.base.length : Int) - x < (spanN (l.length + 4) : Int)) ∧ JL w0 w' F' g b lb' d s x (f + 1 + recs.length) true) ∨
     (E = 0 ∧ l.length ≤ 4096 ∧ (spanN (l.length + 4) : Int) ≤ (d.base.length : Int) - x ∧ Lv d' s (x + (spanN (l.length + 4) : Int)) m f st (recs ++ [l]) ∧ (d.fuse < 0 → d'.fuse < 0) ∧ d'.base.length = d.base.length ∧ JL w0 w' F' g b lb' d' s (x + (spanN (l.length + 4) : Int)) (f + 1 + (recs ++ [l]).length) true) ∨
     (E = 82 ∧ l.length ≤ 4096 ∧ (spanN (l.length + 4) : Int) ≤ (d.base.length : Int) - x ∧ Torn d d' x (f + 1 + recs.length) l ∧ ∃ y n, JL w0 w' F' g b lb' d' s y n false))
theorem jl_append {w0 w : World} {F : Nat → Prop} {g b lb : Nat} {d : Dk} {s x : Int} {m f : Nat} {st : List UInt8} {recs : List (List UInt8)} {l : List UInt8} (h : JL w0 w F g b lb d s x (f + 1 + recs.length) true) (lv : Lv d s x m f st recs) (hn : f + 2 + recs.length < 18446744073709551616)
    {a : Option Addr} {len cap : Nat} (hb : BAt w a l) (hln : l.length = len) (ha : a = none → l = []) :
    Calls Try.prog 11 #[.pointer (some ⟨b, 0, none⟩), .slice a len cap] w (JApp w0 F g b lb d s x m f st recs l w) := by
  refine (jappend_any w F g b lb d s x (d.base.length : Int) (f + 1 + recs.length) l a len cap h.jm lv.cj rfl ⟨lv.kp.le, lv.kp.xs.2⟩ (by omega) hb hln ha (by rw [lv.kp.q]; show 0 + 100 < 10000; omega)).mono ?_
  rintro e w' ⟨F', lb', hf, rfl, hc⟩
  have e1 := app_lens d x (d.base.length : Int) (f + 1 + recs.length) l
  refine ⟨_, F', lb', (d.app x (d.base.length : Int) (f + 1 + recs.length) l).1, rfl, hf, ?_⟩
  rcases lv.app l with ⟨h1, h2, h3, h4⟩ | ⟨h1, h2, ⟨h3, h4, h5⟩ | ⟨h3, h4⟩⟩
  · left
    rcases hc with ⟨_, rfl, hj⟩ | ⟨q, _⟩
    · rw [if_neg h1, if_neg h1, h3] at hj
      exact ⟨h1, h2, h4, h.next hf hj⟩
    · exact absurd q h2
  · right; left
    rcases hc with ⟨_, rfl, hj⟩ | ⟨q, _⟩
    · rw [if_pos h3, if_pos h3] at hj
      exact ⟨h3, h1, h2, h4, h5, e1, h.next hf (by rw [List.length_append, e1]; exact hj)⟩
    · rw [h3] at q; cases q
  · right; right
    rcases hc with ⟨q, _⟩ | ⟨_, y, n, hj, _⟩
    · exact absurd h3 q
    · exact ⟨h3, h1, h2, h4, y, n, h.next hf (by rw [e1]; exact hj)⟩
def JCmp (w0 : World) (F : Nat → Prop) (g b lb : Nat) (d : Dk) (s x : Int) (m f : Nat) (recs : List (List UInt8)) (st1 : List UInt8) (rd : Bool) (w : World) (e : Ending) (w' : World) : Prop :=
  ∃ E F' lb' d', e = .returned (.int .i64 E) ∧ JFr F b lb w w' F' lb' ∧
    ((((E = 121 ∧ 12288 < st1.length) ∨ (E = 111 ∧ st1.length ≤ 12288 ∧ s < (spanN ((cont (f + recs.length) st1).length + 4) : Int))) ∧ JL w0 w' F' g b lb' d s x (f + 1 + recs.length) rd) ∨
     (E = 0 ∧ st1.length ≤ 12288 ∧ (spanN ((cont (f + recs.length) st1).length + 4) : Int) ≤ s ∧ Lv d' s (2 * s) (m + 1) (f + recs.length) st1 [] ∧ (d.fuse < 0 → d'.fuse < 0) ∧ d'.base.length = d.base.length ∧ JL w0 w' F' g b lb' d' s (2 * s) (f + recs.length + 1 + ([] : List (List UInt8)).length) true) ∨
     (E = 82 ∧ st1.length ≤ 12288 ∧ (spanN ((cont (f + recs.length) st1).length + 4) : Int) ≤ s ∧ Torn d d' (plc (m + 1) 0 s) (m + 1) (cont (f + recs.length) st1) ∧ DW w0 w' F' g d' ∧ JOff w' b ∧ ¬ F' b))
theorem jl_compact {w0 w : World} {F : Nat → Prop} {g b lb : Nat} {d : Dk} {s x : Int} {m f : Nat} {st : List UInt8} {recs : List (List UInt8)} {st1 : List UInt8} {rd : Bool} (h : JL w0 w F g b lb d s x (f + 1 + recs.length) rd) (lv : Lv d s x m f st recs) (hn : f + recs.length ≤ 1152921504606846976) (hm : m + 1 < 18446744073709551616)
    {a : Option Addr} {len cap : Nat} (hb : BAt w a st1) (hln : st1.length = len) (ha : a = none → st1 = []) (hl : len ≤ 400000) :
    Calls Try.prog 10 #[.pointer (some ⟨b, 0, none⟩), .slice a len cap] w (JCmp w0 F g b lb d s x m f recs st1 rd w) := by
  refine (jcompact_any w F g b lb d s x (d.base.length : Int) (f + 1 + recs.length) rd st1 a len cap h.jm lv.cj rfl (by omega) (by omega) hb hln ha hl (by rw [lv.kp.q]; show 0 < 9700; omega)).mono ?_
  have en : f + 1 + recs.length - 1 = f + recs.length := by omega
  intro e w' hc
  unfold CmpJ at hc
  rw [en] at hc
  rcases hc with ⟨h1, rfl, hB⟩ | ⟨h1, _, rfl, F', lb', hf, hc⟩
  · exact ⟨121, F, lb, d, rfl, (JFr.refl F b lb w).below hB, Or.inl ⟨Or.inl ⟨rfl, h1.resolve_right (by omega)⟩, h.below hB⟩⟩
  · refine ⟨_, F', lb', (d.slotW 0 s (cont (f + recs.length) st1)).1, rfl, hf, ?_⟩
    have e1 := (slotW_lens d 0 s (cont (f + recs.length) st1)).2
    rcases lv.cmp hn hm h1 with ⟨k1, k2⟩ | ⟨k1, ⟨k2, k3, k4⟩ | ⟨k2, k3⟩⟩
    · left
      rw [k2] at hc ⊢
      rcases hc with ⟨q, _⟩ | ⟨q, _⟩ | ⟨_, _, rfl, hj⟩
      · cases q
      · cases q
      · exact ⟨Or.inr ⟨rfl, h1, k1⟩, h.next hf hj⟩
    · right; left
      rcases hc with ⟨q, _⟩ | ⟨_, L, y, hr, _, _, hj⟩ | ⟨q, _⟩
      · rw [k2] at q; cases q
      · rw [← e1] at hr hj
        have hkn := k3.kp.next (by omega)
        obtain ⟨_, rfl⟩ := k3.kp.run (by simp; omega) hr
        rw [hkn] at hj
        exact ⟨k2, h1, k1, k3, k4, e1, h.next hf hj⟩
      · exact absurd k2 q
    · right; right
      rcases hc with ⟨_, hd, ho, hb2⟩ | ⟨q, _⟩ | ⟨_, q, _⟩
      · obtain ⟨o1, o2⟩ := h.off hf
        exact ⟨k2, h1, k1, k3, ⟨hd, o2, o1⟩, ho, hb2⟩
      · rw [k2] at q; cases q
      · exact absurd k2 q
/-- Open of what is there behind a crash -/
def JOpn (w0 : World) (F : Nat → Prop) (g : Nat) (d : Dk) (s : Int) (G : Nat) (P : List UInt8 → List (List UInt8) → Prop) (w : World) (e : Ending) (w' : World) : Prop :=
  ∃ b lb a k v st L y F1, e = .returned (.tuple #[.pointer (some ⟨b, 0, none⟩), .slice a st.length k, v, .int .i64 0]) ∧ RowKit.Below w.heap.size w w' ∧ w.heap.size ≤ b ∧ w.heap.size ≤ lb ∧ P st L ∧ (d.slot 0 s).1.b.length ≤ 13515 ∧ st = nR (d.slot 0 s).1.b ∧ Run d (d.base.length : Int) (2 * s) (nV (d.slot 0 s).1.b) L y ∧
    BAt w' a st ∧ st.length ≤ k ∧ (a = none → st = []) ∧ Recs w' w.heap.size v L ∧ F1 ≤ G ∧ (∀ y, 2 * s ≤ y → y < (d.base.length : Int) → stN (d.at_ y) ≤ F1) ∧ JL w0 w' F g b lb d s y (F1 + 1) false
theorem jl_open {w0 w : World} {F : Nat → Prop} {g : Nat} {d : Dk} {s : Int} {M G : Nat} {P : List UInt8 → List (List UInt8) → Prop} (h : DW w0 w F g d) (cd : Cd d s M G P) (hG : G ≤ 1152921504606846976) :
    Calls Try.prog 9 #[.pointer (some ⟨g, 0, none⟩), .int .i64 s] w (JOpn w0 F g d s G P w) := by
  have hcj := canJ_iff.1 cd.cj
  obtain ⟨f, st, k1, k2, k3, k4⟩ := cd.sl
  obtain ⟨p1, p2, p3, p4⟩ := cont_part (f := f) (by omega) st
  have hsl := slot_len d 0 s
  refine (jopen_any g F d s w h.dt (by unfold I; omega)).mono ?_
  intro e w' hc
  rcases hc with ⟨hc | ⟨_, q, _⟩ | ⟨_, _, q, _⟩, _⟩ | ⟨_, _, _, hB, b, lb, a, k, v, L, y, rfl, q1, q2, q3, q4, q5, q6, q7, q8, q9, hj⟩
  · rw [cd.cj] at hc; cases hc.1
  · exact absurd k2 q
  · rw [k3, p4] at q; cases q
  · rw [k3] at q3 q4 q5 q7 hj hsl ⊢
    rw [p1] at q7 hj
    rw [p2] at q3 q4 q5 ⊢
    obtain ⟨F1, n1, n2, n3, n4⟩ := cd.next (by omega) k1
    rw [n1] at hj
    refine ⟨b, lb, a, k, v, st, L, y, F1, rfl, hB, q1, q2, k4 L y q7, ?_, ?_, ?_, q3, q4, q5, q6, n2, n4, ⟨hj, h.fr, Nat.le_trans h.bl.size q1, Nat.le_trans h.bl.size q2, h.bl.trans (hB.mono h.bl.size)⟩⟩
    · rw [k3]; exact hsl
    · rw [k3]; exact p2.symm
    · rw [k3, p1]; exact q7
end Go.Proofs.Ytdfbpaajkpnaeaa
