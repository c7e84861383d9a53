
/- Package journal: a new one on a blank disk; opened again. falseworklaw12.journalAlive. -/
import Derived.Test.YtdfbpaajkpnaeaaJnN

namespace Go.Proofs.Ytdfbpaajkpnaeaa
set_option maxRecDepth 100000
open Go.RowKit Go.Lib

theorem Row.last {d : Dk} : ∀ {L : List (List UInt8)} {x : Int} {n : Nat} {y : Int}, Row d x n L y → L ≠ [] → n + L.length ≤ 18446744073709551616 → ∃ t, x ≤ t ∧ t < y ∧ stN (d.at_ t) + 1 = n + L.length
  | [], _, _, _, _, h, _ => absurd rfl h
  | l :: L, x, n, y, h, _, hn => by
    rw [List.length_cons] at hn ⊢
    have hl := h.1
    have hp := spanN_pos (n := l.length + 4) (by omega)
    have hle := Row.le h.2.2
    by_cases hL : L = []
    · subst hL
      have hs := h.2.1 0 (by rw [closed_len]; omega)
      rw [show x + ((0 : Nat) : Int) = x by omega] at hs
      exact ⟨x, by omega, by omega, by rw [hs, stN_sec (by omega)]; rfl⟩
    · obtain ⟨t, h1, h2, h3⟩ := Row.last h.2.2 hL (by omega)
      exact ⟨t, by omega, h2, by omega⟩
theorem Lv.next {d : Dk} {s x : Int} {m f : Nat} {st : List UInt8} {recs : List (List UInt8)} (h : Lv d s x m f st recs) (hn : f + 1 + recs.length < 18446744073709551616) : nextN d (2 * s) (d.base.length : Int) f = f + 1 + recs.length := by
  have hub := topN_low (d := d) (x := 2 * s) (m := f + recs.length) ((d.base.length : Int) - 2 * s).toNat fun i hi => h.kp.all (by omega) _ (by omega) (by omega)
  have hlb : max f (topN d (2 * s) ((d.base.length : Int) - 2 * s).toNat) = f + recs.length := by
    by_cases hr : recs = []
    · subst hr
      simp only [List.length_nil, Nat.add_zero] at hub ⊢
      omega
    · obtain ⟨t, h1, h2, h3⟩ := Row.last h.kp.row hr (by omega)
      have hxs := h.kp.xs
      have := topN_le (d := d) (x := 2 * s) (k := ((d.base.length : Int) - 2 * s).toNat) (i := (t - 2 * s).toNat) (by omega)
      rw [show 2 * s + (((t - 2 * s).toNat : Nat) : Int) = t by omega] at this
      omega
  unfold nextN
  rw [hlb, Nat.mod_eq_of_lt (by omega)]
  omega
theorem JApp.quiet {w0 : World} {F : Nat → Prop} {g b lb : Nat} {d : Dk} {s x : Int} {m f : Nat} {st : List UInt8} {recs : List (List UInt8)} {l : List UInt8} {w : World} {e : Ending} {w' : World} (h : JApp w0 F g b lb d s x m f st recs l w e w') (hf : d.fuse < 0) :
    ∃ E F' lb' d', e = .returned (.int .i64 E) ∧ JFr F b lb w w' F' lb' ∧
    ((E ≠ 0 ∧ (4096 < l.length ∨ (d.base.length : Int) - x < (spanN (l.length + 4) : Int)) ∧ JL w0 w' F' g b lb' d s x (f + 1 + recs.length) true) ∨
     (E = 0 ∧ Lv d' s (x + (spanN (l.length + 4) : Int)) m f st (recs ++ [l]) ∧ d'.fuse < 0 ∧ d'.base.length = d.base.length ∧ JL w0 w' F' g b lb' d' s (x + (spanN (l.length + 4) : Int)) (f + 1 + (recs ++ [l]).length) true)) := by
  obtain ⟨E, F', lb', d', rfl, hfr, ⟨h1, _, h2, h3⟩ | ⟨h1, _, _, h2, h3, h4, h5⟩ | ⟨_, _, _, h1, _⟩⟩ := h
  · exact ⟨E, F', lb', d, rfl, hfr, Or.inl ⟨h1, h2, h3⟩⟩
  · exact ⟨E, F', lb', d', rfl, hfr, Or.inr ⟨h1, h2, h3 hf, h4, h5⟩⟩
  · have := h1.fu; omega
theorem JCmp.quiet {w0 : World} {F : Nat → Prop} {g b lb : Nat} {d : Dk} {s x : Int} {m f : Nat} {recs : List (List UInt8)} {st1 : List UInt8} {rd : Bool} {w : World} {e : Ending} {w' : World} (h : JCmp w0 F g b lb d s x m f recs st1 rd w e w') (hf : d.fuse < 0) (hl : st1.length ≤ 12288) (hs : (spanN ((cont (f + recs.length) st1).length + 4) : Int) ≤ s) :
    ∃ F' lb' d', e = .returned (.int .i64 0) ∧ JFr F b lb w w' F' lb' ∧ Lv d' s (2 * s) (m + 1) (f + recs.length) st1 [] ∧ d'.fuse < 0 ∧ d'.base.length = d.base.length ∧ JL w0 w' F' g b lb' d' s (2 * s) (f + recs.length + 1 + ([] : List (List UInt8)).length) true := by
  obtain ⟨E, F', lb', d', rfl, hfr, ⟨⟨_, h1⟩ | ⟨_, _, h1⟩, _⟩ | ⟨h1, _, _, h2, h3, h4, h5⟩ | ⟨_, _, _, h1, _⟩⟩ := h
  · omega
  · omega
  · exact ⟨F', lb', d', by rw [h1], hfr, h2, h3 hf, h4, h5⟩
  · have := h1.fu; omega
/-- a new one on a blank disk -/
def JFmt (w0 : World) (g : Nat) (N s : Int) (st : List UInt8) (e : Ending) (w' : World) : Prop :=
  ∃ F b lb d, e = .returned (.tuple #[.pointer (some ⟨b, 0, none⟩), .int .i64 0]) ∧ Lv d s (2 * s) 1 0 st [] ∧ d.fuse < 0 ∧ d.base.length = N.toNat ∧ JL w0 w' F g b lb d s (2 * s) (0 + 1 + ([] : List (List UInt8)).length) true
theorem jl_format {w0 w : World} {F : Nat → Prop} {g : Nat} {N s : Int} {st : List UInt8} {a : Option Addr} {len cap : Nat} (h : DW w0 w F g (Dk.blank N)) (hN : 0 ≤ N ∧ N ≤ 2048) (hc : canJ (Dk.blank N) s = true) (hb : BAt w a st) (hln : st.length = len) (ha : a = none → st = []) (hl : st.length ≤ 12288) (hs : (spanN ((cont 0 st).length + 4) : Int) ≤ s) :
    Calls Try.prog 7 #[.pointer (some ⟨g, 0, none⟩), .int .i64 s, .slice a len cap] w (JFmt w0 g N s st) := by
  have hcj := canJ_iff.1 hc
  refine (jformat_any g F (Dk.blank N) s 0 st a len cap w h.dt (by unfold I; omega) (fun _ => (Cd.blank (s := s) hN).2.2) hb hln ha (by omega) (by show 0 < 9700; omega)).mono ?_
  intro e w' hr
  rcases blank_fmt hN hc hl with ⟨q, _⟩ | ⟨_, k1, k2, k3, k4⟩
  · omega
  · rcases hr with ⟨q, _⟩ | ⟨_, q, _⟩ | ⟨_, _, _, F', ho, hfr, ⟨q, _⟩ | ⟨_, b, lb, L, y, rfl, q1, q2, q3, _, _, hj⟩⟩
    · rw [hc] at q; cases q
    · omega
    · exact absurd k1 q
    · have e1 := (slotW_lens (Dk.blank N) 0 s (cont 0 st)).2
      rw [← e1] at q3 hj
      have hkn := k2.kp.next (by omega)
      obtain ⟨_, rfl⟩ := k2.kp.run (by simp) q3
      rw [hkn] at hj
      exact ⟨F', b, lb, _, rfl, k2, k3, k4, ⟨hj, fun i hi => (hfr i hi).elim (h.fr i) fun e => Nat.le_trans h.bl.size e, Nat.le_trans h.bl.size q1, Nat.le_trans h.bl.size q2, ho.below h.bl h.fr h.bl.size⟩⟩
/-- opened again, while it lives -/
def JAgn (w0 : World) (F : Nat → Prop) (g : Nat) (d : Dk) (s x : Int) (f : Nat) (st : List UInt8) (recs : List (List UInt8)) (w : World) (e : Ending) (w' : World) : Prop :=
  ∃ b lb a k a2 k2, e = .returned (.tuple #[.pointer (some ⟨b, 0, none⟩), .slice a st.length k, .slice a2 recs.length k2, .int .i64 0]) ∧ RowKit.Below w.heap.size w w' ∧ w.heap.size ≤ b ∧ w.heap.size ≤ lb ∧
    BAt w' a st ∧ st.length ≤ k ∧ (a = none → st = []) ∧ Recs w' w.heap.size (.slice a2 recs.length k2) recs ∧ JL w0 w' F g b lb d s x (f + 1 + recs.length) false
theorem jl_again {w0 w : World} {F : Nat → Prop} {g : Nat} {d : Dk} {s x : Int} {m f : Nat} {st : List UInt8} {recs : List (List UInt8)} (h : DW w0 w F g d) (lv : Lv d s x m f st recs) (hf : f + recs.length ≤ 1152921504606846976) :
    Calls Try.prog 9 #[.pointer (some ⟨g, 0, none⟩), .int .i64 s] w (JAgn w0 F g d s x f st recs w) := by
  have hcj := canJ_iff.1 lv.cj
  obtain ⟨p1, p2, p3, p4⟩ := cont_part (f := f) (by omega) st
  have k2 : (d.slot 0 s).2 = 0 := by rw [lv.pl.cur]
  have k3 : (d.slot 0 s).1.b = cont f st := by rw [lv.pl.cur]
  refine (jopen_any g F d s w h.dt (by unfold I; omega)).mono ?_
  intro e w' hc
  rcases hc with ⟨hc | ⟨_, q, _⟩ | ⟨_, _, q, _⟩, _⟩ | ⟨_, _, _, hB, b, lb, a, k, v, L, y, rfl, q1, q2, q3, q4, q5, q6, q7, q8, q9, hj⟩
  · rw [lv.cj] at hc; cases hc.1
  · exact absurd k2 q
  · rw [k3, p4] at q; cases q
  · rw [k3] at q3 q4 q5 q7 hj ⊢
    rw [p1] at q7 hj
    rw [p2] at q3 q4 q5 ⊢
    obtain ⟨rfl, rfl⟩ := lv.kp.run (by omega) q7
    rw [lv.next (by omega)] at hj
    obtain ⟨a2, c2, rfl⟩ := q6.form
    exact ⟨b, lb, a, k, a2, c2, rfl, hB, q1, q2, q3, q4, q5, q6, ⟨hj, h.fr, Nat.le_trans h.bl.size q1, Nat.le_trans h.bl.size q2, h.bl.trans (hB.mono h.bl.size)⟩⟩
theorem jready_lv {w : World} {F : Nat → Prop} {g b lb : Nat} {d : Dk} {s x z : Int} {n : Nat} {rd : Bool} (h : JM w F g b lb d s x z n rd) :
    Calls Try.prog 13 #[.pointer (some ⟨b, 0, none⟩)] w fun e w' => e = .returned (.bool rd) ∧ w = w' := jready_any b rd w h.ja.cells.2.2.2
theorem two_bytes (W : World) (t : TypeId) : BAt (W.alloc (.cells #[.int .u8 97, .int .u8 98] t)) (some ⟨W.heap.size, 0, none⟩) [97, 98] := bat_mark _ _ _ _ _ rfl rfl
set_option maxRecDepth 100000 in
set_option maxHeartbeats 3200000 in
theorem journalAlive_any (w : World) : Calls Try.prog 6 #[] w fun e w' => e = .returned (.bool true) ∧ RowKit.Below w.heap.size w w' := by
  have B := Lib.hid (blank_any 8 w)
  have cv := conv_const
  go_enter Try.func6, Try.ntmps6
  go_wp2_with fail
  refine B.out.mono ?_
  rintro _ w1 ⟨g, F, rfl, hd, hb1, hf⟩
  have HD1 := Lib.hid (show DW w w1 F g (Dk.blank 8) from ⟨hd, hf, hb1⟩)
  have HF := Lib.hid (fun (W : World) (hb : RowKit.Below w1.heap.size w1 W) (q : Nat) (h : BAt W (some ⟨q, 0, none⟩) [97, 98]) => jl_format (w0 := w) (s := 2) (HD1.out.below hb) (by omega) (by decide) h (len := 2) (cap := 2) rfl (fun e => by cases e) (by decide) (by rw [show (cont 0 [97, 98]).length = 3 from by unfold cont; rw [uv_zero]; rfl]; decide))
  clear hd hb1 hf B
  go_wp2_with fail
  refine (HF.out _ ((RowKit.Below.refl _ _).alloc (Nat.le_refl _) _) _ (bat_mark _ _ _ _ _ rfl rfl)).mono ?_
  rintro _ w2 ⟨F2, b, lb, d2, rfl, lv2, hf2, hl2, hj2⟩
  have HJ2 := Lib.hid hj2
  have HL2 := Lib.hid lv2
  have HB2 := Lib.hid hl2
  have HR2 := Lib.hid (jready_lv hj2.jm)
  have HAP := Lib.hid (fun (W : World) (hb : RowKit.Below w2.heap.size w2 W) (q : Nat) (h : BAt W (some ⟨q, 0, none⟩) [99]) => (jl_append (hj2.below hb) lv2 (by simp) h (len := 1) (cap := 1) rfl (fun e => by cases e)).mono fun e w' k => k.quiet hf2)
  clear lv2 hf2 hl2 hj2 HF
  go_wp2_with fail
  refine HR2.out.mono ?_
  rintro _ _ ⟨rfl, rfl⟩
  clear HR2
  go_wp2_with fail
  refine (HAP.out _ ((RowKit.Below.refl _ _).alloc (Nat.le_refl _) _) _ (bat_mark _ _ _ _ _ rfl rfl)).mono ?_
  rintro _ w3 ⟨E, F3, lb3, d3, rfl, _, ⟨_, q, _⟩ | ⟨rfl, lv3, hf3, hl3, hj3⟩⟩
  · exfalso
    rw [HB2.out] at q
    revert q
    decide
  · have HJ3 := Lib.hid hj3
    have HOP := Lib.hid (fun (W : World) (hb : RowKit.Below w3.heap.size w3 W) => jl_again (hj3.below hb).dw lv3 (by simp))
    clear lv3 hf3 hl3 hj3 HAP
    go_wp2_with fail
    refine (HOP.out w3 (RowKit.Below.refl _ _)).mono ?_
    rintro _ w4 ⟨b4, lb4, a4, k4, a5, k5, rfl, hb4, _, _, hst, hk4, ha4, hrec, hj4⟩
    have HJ4 := Lib.hid hj4
    have HR4 := Lib.hid (jready_lv hj4.jm)
    obtain ⟨a6, c6, e6, hbs⟩ := hrec.bs
    cases e6
    have HBS := Lib.hid hbs
    have HSM := Lib.hid (fun (W : World) (hb : RowKit.Below w4.heap.size w4 W) (a : Option Addr) (h : RAt sv W a [[99]]) => same10_any [[99]] [[99]] a5 a k5 1 W (hbs.below hb) h (by decide))
    have cv2 := run_conv (w := w4) hst 2 k4 rfl
    have hq : (strB [97, 98]).toList = [97, 98] := by rw [ByteArray.toList_eq]; rfl
    clear hrec hb4 hbs hst hk4 ha4 HOP hj4
    go_wp2_with fail
    refine HR4.out.mono ?_
    rintro _ _ ⟨rfl, rfl⟩
    clear HR4
    go_wp2_with fail
    refine (HSM.out _ ((RowKit.Below.refl _ _).alloc (Nat.le_refl _) _) _ (rat_one _ _)).mono ?_
    rintro _ w6 ⟨rfl, hb6⟩
    have HB6 := Lib.hid (HJ4.out.bl.trans (((RowKit.Below.refl w4.heap.size w4).alloc (Nat.le_refl _) _).trans (hb6.mono (by simp)) |>.mono HJ4.out.bl.size))
    clear hb6 HSM
    go_wp2
    go_ret
    exact ⟨rfl, HB6.out⟩
end Go.Proofs.Ytdfbpaajkpnaeaa
