
/- Package journal: Format, Open. -/
import Derived.Test.YtdfbpaajkpnaeaaJnB

namespace Go.Proofs.Ytdfbpaajkpnaeaa
set_option maxRecDepth 100000
open Go.RowKit Go.Lib

theorem rowJ (w : World) (g lb : Nat) (s : Int) : JAt (w.alloc (.cells #[.pointer (some ⟨g, 0, none⟩), .int .i64 s, .pointer (some ⟨lb, 0, none⟩), .bool false] 55)) w.heap.size g lb s false := ⟨Go.heap_alloc_new w _⟩
/-- what Format answers: r is what the Write of the first content does -/
def FmtRes (F : Nat → Prop) (g : Nat) (d : Dk) (s : Int) (f : Nat) (st : List UInt8) (r : Dk × Nat × Int) (w : World) (e : Ending) (w' : World) : Prop :=
  (canJ d s = false ∧ e = .returned (.tuple #[.pointer none, .int .i64 121]) ∧ w = w') ∨
  (canJ d s = true ∧ (12288 < st.length ∨ 1152921504606846976 < f) ∧ e = .returned (.tuple #[.pointer none, .int .i64 121]) ∧ RowKit.Below w.heap.size w w') ∨
  (canJ d s = true ∧ st.length ≤ 12288 ∧ f ≤ 1152921504606846976 ∧ ∃ F', Only F w w' ∧ (∀ i, F' i → F i ∨ w.heap.size ≤ i) ∧
    ((r.2.2 ≠ 0 ∧ e = .returned (.tuple #[.pointer none, .int .i64 r.2.2])) ∨
     (r.2.2 = 0 ∧ ∃ b lb L y, e = .returned (.tuple #[.pointer (some ⟨b, 0, none⟩), .int .i64 0]) ∧ w.heap.size ≤ b ∧ w.heap.size ≤ lb ∧ Run r.1 (d.base.length : Int) (2 * s) f L y ∧ 2 * s ≤ y ∧ y ≤ (d.base.length : Int) ∧ JM w' F' g b lb r.1 s y (d.base.length : Int) (nextN r.1 (2 * s) (d.base.length : Int) f) true)))
set_option maxRecDepth 100000 in
set_option maxHeartbeats 3200000 in
theorem jformat_any (g : Nat) (F : Nat → Prop) (d : Dk) (s : Int) (f : Nat) (st : List UInt8) (a : Option Addr) (len cap : Nat) (w : World) (h : DAt w F g d) (hs : I s) (hf : canJ d s = true → nextN d (2 * s) (d.base.length : Int) 0 = f + 1)
    (hb : BAt w a st) (hln : st.length = len) (ha : a = none → st = []) (hl : len ≤ 400000) (hq : d.queue.length < 9700) :
    Calls Try.prog 7 #[.pointer (some ⟨g, 0, none⟩), .int .i64 s, .slice a len cap] w (FmtRes F g d s f st (d.slotW 0 s (cont f st)) w) := by
  have HCN := Lib.hid (jcan_any g F d s w h hs)
  cases hc : canJ d s with
  | false =>
    rw [hc] at HCN
    have HR := Lib.hid (show FmtRes F g d s f st (d.slotW 0 s (cont f st)) w (.returned (.tuple #[.pointer none, .int .i64 121])) w from Or.inl ⟨hc, rfl, rfl⟩)
    clear h hs hf hb hln ha hl hq hc
    go_enter Try.func7, Try.ntmps7
    go_wp2_with fail
    refine HCN.out.mono ?_
    rintro _ _ ⟨rfl, rfl⟩
    go_wp2
    go_ret2
    exact HR.out
  | true =>
    rw [hc] at HCN
    have hfn := hf hc
    have hfl : f + 1 < 18446744073709551616 := by rw [← hfn]; exact Nat.mod_lt _ (by decide)
    have HLG := Lib.hid (fun (W : World) (hB : RowKit.Below w.heap.size w W) => show Calls Try.prog 21 #[.pointer (some ⟨g, 0, none⟩), .int .i64 s, .int .u64 0] W (JLog g d s 0 W) from jlog_any g F d s 0 W (h.below hB) hc (by omega))
    have HCM := Lib.hid (fun (W : World) (hB : RowKit.Below w.heap.size w W) (b lb : Nat) (y : Int) (hj : JM W F g b lb d s y (d.base.length : Int) (f + 1) false) => jcompact_any W F g b lb d s y (d.base.length : Int) (f + 1) false st a len cap hj hc rfl (by omega) hfl (hb.below hB) hln ha hl hq)
    have HFN := Lib.hid hfn
    have HF := Lib.hid h
    have HC := Lib.hid hc
    clear h hs hf hb hln ha hl hq hc hfn hfl
    go_enter Try.func7, Try.ntmps7
    go_wp2_with fail
    refine HCN.out.mono ?_
    rintro _ _ ⟨rfl, rfl⟩
    go_wp2_with fail
    refine (HLG.out w (RowKit.Below.refl _ _)).mono ?_
    rintro _ w1 ⟨lb, v1, L1, y1, rfl, hnb, hrun, hrec, hlg, hy1, hy2, hb1⟩
    have HNB := Lib.hid hnb
    have HL1 := Lib.hid hlg
    have HB1 := Lib.hid hb1
    clear hnb hrun hrec hlg hy1 hy2 hb1 HLG HCN
    go_wp2_with fail
    obtain ⟨w2, hw2⟩ : ∃ w2, w2 = w1.alloc (.cells #[.pointer (some ⟨g, 0, none⟩), .int .i64 s, .pointer (some ⟨lb, 0, none⟩), .bool false] 55) := ⟨_, rfl⟩
    have HB12 := Lib.hid (show RowKit.Below w1.heap.size w1 w2 by rw [hw2]; exact (RowKit.Below.refl _ _).alloc (Nat.le_refl _) _)
    have HB2 := Lib.hid (show RowKit.Below w.heap.size w w2 from HB1.out.trans (HB12.out.mono HB1.out.size))
    have HJ2 := Lib.hid (show JM w2 F g w1.heap.size lb d s y1 (d.base.length : Int) (f + 1) false by
      have h1 := HL1.out.lt
      have h2 := HB1.out.size
      refine ⟨HF.out.below HB2.out, by rw [hw2]; exact rowJ _ _ _ _, ?_, fun e => by have := HF.out.fl _ e; omega, fun e => by have := HF.out.fl _ e; have := HNB.out; omega, by omega⟩
      have hl := HL1.out
      rw [HFN.out] at hl
      exact hl.same (HB12.out.block _ hl.lt))
    have HBS := Lib.hid (show w.heap.size ≤ w1.heap.size from HB1.out.size)
    obtain ⟨b, hbb⟩ : ∃ b, b = w1.heap.size := ⟨_, rfl⟩
    rw [← hbb] at HJ2 HBS ⊢
    first | rw [← hw2] | skip
    clear hw2 hbb
    refine (HCM.out w2 HB2.out b lb y1 HJ2.out).mono ?_
    rintro e w3 h3
    have HFR := Lib.hid (fun (F3 : Nat → Prop) (lb3 : Nat) (k : JFr F b lb w2 w3 F3 lb3) => show Only F w w3 ∧ (∀ i, F3 i → F i ∨ w.heap.size ≤ i) from by
      have hs2 := HB2.out.size
      refine ⟨(Only.of_below HB2.out : Only F w w2).trans k.on fun i hi => ?_, fun i hi => ?_⟩
      · rcases hi with hi | hi | hi
        · exact Or.inl hi
        · exact Or.inr (hi ▸ HBS.out)
        · exact Or.inr (hi ▸ HNB.out)
      · exact (k.fr i hi).imp id fun e => Nat.le_trans hs2 e)
    rcases h3 with ⟨h4, rfl, h5⟩ | ⟨h4, h5, rfl, F3, lb3, hfr, h6⟩
    · have HR := Lib.hid (show FmtRes F g d s f st (d.slotW 0 s (cont f st)) w (.returned (.tuple #[.pointer none, .int .i64 121])) w3 from Or.inr (Or.inl ⟨HC.out, by simpa using h4, rfl, HB2.out.trans (h5.mono HB2.out.size)⟩))
      clear h4 h5 HFR
      go_wp2
      go_ret2
      exact HR.out
    · rw [Nat.add_sub_cancel] at h5 h6 ⊢
      have hfr2 := HFR.out F3 lb3 hfr
      have HGO := Lib.hid (fun (e : Ending) (k : (((d.slotW 0 s (cont f st)).2.2 ≠ 0 ∧ e = .returned (.tuple #[.pointer none, .int .i64 (d.slotW 0 s (cont f st)).2.2])) ∨
         ((d.slotW 0 s (cont f st)).2.2 = 0 ∧ ∃ b lb L y, e = .returned (.tuple #[.pointer (some ⟨b, 0, none⟩), .int .i64 0]) ∧ w.heap.size ≤ b ∧ w.heap.size ≤ lb ∧ Run (d.slotW 0 s (cont f st)).1 (d.base.length : Int) (2 * s) f L y ∧ 2 * s ≤ y ∧ y ≤ (d.base.length : Int) ∧ JM w3 F3 g b lb (d.slotW 0 s (cont f st)).1 s y (d.base.length : Int) (nextN (d.slotW 0 s (cont f st)).1 (2 * s) (d.base.length : Int) f) true))) => show FmtRes F g d s f st (d.slotW 0 s (cont f st)) w e w3 from Or.inr (Or.inr ⟨HC.out, h4, h5, F3, hfr2.1, hfr2.2, k⟩))
      have HLB := Lib.hid (show w.heap.size ≤ lb3 from hfr.lr.elim (fun e => by rw [e]; exact HNB.out) fun e => Nat.le_trans HB2.out.size e)
      clear hfr hfr2 HFR h4 h5
      generalize hEE : (d.slotW 0 s (cont f st)).2.2 = E at h6 HGO ⊢
      clear hEE
      by_cases hE : E = 0
      · subst hE
        have HR := Lib.hid (show FmtRes F g d s f st (d.slotW 0 s (cont f st)) w (.returned (.tuple #[.pointer (some ⟨b, 0, none⟩), .int .i64 0])) w3 by
          refine HGO.out _ (Or.inr ⟨rfl, ?_⟩)
          rcases h6 with ⟨e, _⟩ | ⟨_, L, y, k1, k2, k3, k4⟩ | ⟨e, _⟩
          · cases e
          · exact ⟨b, lb3, L, y, rfl, HBS.out, HLB.out, k1, k2, k3, k4⟩
          · exact absurd rfl e)
        clear h6
        go_wp2
        go_ret2
        exact HR.out
      · have d1' : (E != 0) = true := by simpa using hE
        have HR := Lib.hid (show FmtRes F g d s f st (d.slotW 0 s (cont f st)) w (.returned (.tuple #[.pointer none, .int .i64 E])) w3 from HGO.out _ (Or.inl ⟨hE, rfl⟩))
        clear h6 hE
        go_wp2
        go_ret2
        exact HR.out
/-- what Open answers -/
def OpnRes (F : Nat → Prop) (g : Nat) (d : Dk) (s : Int) (w : World) (e : Ending) (w' : World) : Prop :=
  (((canJ d s = false ∧ e = .returned (.tuple #[.pointer none, .slice none 0 0, .slice none 0 0, .int .i64 121])) ∨
    (canJ d s = true ∧ (d.slot 0 s).2 ≠ 0 ∧ e = .returned (.tuple #[.pointer none, .slice none 0 0, .slice none 0 0, .int .i64 (d.slot 0 s).2])) ∨
    (canJ d s = true ∧ (d.slot 0 s).2 = 0 ∧ ptO (d.slot 0 s).1.b = false ∧ e = .returned (.tuple #[.pointer none, .slice none 0 0, .slice none 0 0, .int .i64 121]))) ∧ RowKit.Below w.heap.size w w') ∨
  (canJ d s = true ∧ (d.slot 0 s).2 = 0 ∧ ptO (d.slot 0 s).1.b = true ∧ RowKit.Below w.heap.size w w' ∧
    ∃ b lb a k v L y, e = .returned (.tuple #[.pointer (some ⟨b, 0, none⟩), .slice a (nR (d.slot 0 s).1.b).length k, v, .int .i64 0]) ∧ w.heap.size ≤ b ∧ w.heap.size ≤ lb ∧
      BAt w' a (nR (d.slot 0 s).1.b) ∧ (nR (d.slot 0 s).1.b).length ≤ k ∧ (a = none → nR (d.slot 0 s).1.b = []) ∧ Recs w' w.heap.size v L ∧ Run d (d.base.length : Int) (2 * s) (nV (d.slot 0 s).1.b) L y ∧ 2 * s ≤ y ∧ y ≤ (d.base.length : Int) ∧
      JM w' F g b lb d s y (d.base.length : Int) (nextN d (2 * s) (d.base.length : Int) (nV (d.slot 0 s).1.b)) false)
theorem slot_len (d : Dk) (x s : Int) : (d.slot x s).1.b.length ≤ 13515 := by
  unfold Dk.slot
  split
  · exact both_len d x s
  · exact Nat.zero_le _
set_option maxRecDepth 100000 in
set_option maxHeartbeats 3200000 in
theorem jopen_any (g : Nat) (F : Nat → Prop) (d : Dk) (s : Int) (w : World) (h : DAt w F g d) (hs : I s) :
    Calls Try.prog 9 #[.pointer (some ⟨g, 0, none⟩), .int .i64 s] w (OpnRes F g d s w) := by
  have HCN := Lib.hid (jcan_any g F d s w h hs)
  cases hc : canJ d s with
  | false =>
    rw [hc] at HCN
    have HR := Lib.hid (show OpnRes F g d s w (.returned (.tuple #[.pointer none, .slice none 0 0, .slice none 0 0, .int .i64 121])) w from Or.inl ⟨Or.inl ⟨hc, rfl⟩, RowKit.Below.refl _ _⟩)
    clear h hs hc
    go_enter Try.func9, Try.ntmps9
    go_wp2_with fail
    refine HCN.out.mono ?_
    rintro _ _ ⟨rfl, rfl⟩
    go_wp2
    (try simp only [Exit.inBlock, Exit.then])
    refine bodyPost_ret (results_tmp4 rfl _ _ _) rfl ?_
    exact HR.out
  | true =>
    rw [hc] at HCN
    have HSR := Lib.hid (sread_any g F d 0 s w h (by unfold I; omega) hs)
    have HSL := Lib.hid (slot_len d 0 s)
    have HG : ∀ (G : Gen) (E : Int) (e : Ending) (w' : World), (G, E) = d.slot 0 s → ((((E ≠ 0 ∧ e = .returned (.tuple #[.pointer none, .slice none 0 0, .slice none 0 0, .int .i64 E])) ∨
        (E = 0 ∧ ptO G.b = false ∧ e = .returned (.tuple #[.pointer none, .slice none 0 0, .slice none 0 0, .int .i64 121]))) ∧ RowKit.Below w.heap.size w w') ∨
      (E = 0 ∧ ptO G.b = true ∧ RowKit.Below w.heap.size w w' ∧
        ∃ b lb a k v L y, e = .returned (.tuple #[.pointer (some ⟨b, 0, none⟩), .slice a (nR G.b).length k, v, .int .i64 0]) ∧ w.heap.size ≤ b ∧ w.heap.size ≤ lb ∧
          BAt w' a (nR G.b) ∧ (nR G.b).length ≤ k ∧ (a = none → nR G.b = []) ∧ Recs w' w.heap.size v L ∧ Run d (d.base.length : Int) (2 * s) (nV G.b) L y ∧ 2 * s ≤ y ∧ y ≤ (d.base.length : Int) ∧
          JM w' F g b lb d s y (d.base.length : Int) (nextN d (2 * s) (d.base.length : Int) (nV G.b)) false)) → OpnRes F g d s w e w' := fun G E e w' hr k => by
      unfold OpnRes
      rw [← hr]
      rcases k with ⟨k | k, hb⟩ | k
      · exact Or.inl ⟨Or.inr (Or.inl ⟨hc, k⟩), hb⟩
      · exact Or.inl ⟨Or.inr (Or.inr ⟨hc, k⟩), hb⟩
      · exact Or.inr ⟨hc, k⟩
    have HGO := Lib.hid HG
    have HLG := Lib.hid (fun (W : World) (hB : RowKit.Below w.heap.size w W) (m : Nat) (hm : m < 18446744073709551616) => jlog_any g F d s m W (h.below hB) hc hm)
    have HF := Lib.hid h
    unfold SlRes at HSR
    obtain ⟨r, hr⟩ : ∃ r, r = d.slot 0 s := ⟨_, rfl⟩
    rw [← hr] at HSR HSL HGO
    obtain ⟨G, E⟩ := r
    simp only at HSR HSL
    obtain ⟨c, hcb⟩ : ∃ c, c = G.b := ⟨_, rfl⟩
    have HG2 := Lib.hid (fun e w' => HGO.out G E e w' rfl)
    rw [← hcb] at HSR HSL HG2
    have HV := Lib.hid (nV_lt c)
    clear h hs hc HG HGO hr hcb
    go_enter Try.func9, Try.ntmps9
    go_wp2_with fail
    refine HCN.out.mono ?_
    rintro _ _ ⟨rfl, rfl⟩
    go_wp2_with fail
    refine HSR.out.mono ?_
    rintro _ w1 ⟨a1, c1, rfl, hb1, hc1, ha1, hB1⟩
    have HB1 := Lib.hid hB1
    clear HCN HSR
    by_cases hE : E = 0
    · subst hE
      have HPT := Lib.hid (jpart_any c a1 c.length c1 w1 hb1 rfl ha1 hc1 (by have := HSL.out; omega))
      clear hb1 hc1 ha1 hB1
      go_wp2_with fail
      refine HPT.out.mono ?_
      rintro _ w2 ⟨hb2, ⟨hp, a2, k2, rfl, hb2', hk2, ha2⟩ | ⟨hp, rfl⟩⟩
      · have HB2 := Lib.hid (show RowKit.Below w.heap.size w w2 from HB1.out.trans (hb2.mono HB1.out.size))
        have HA2 := Lib.hid (And.intro hb2' (And.intro hk2 ha2))
        have HP := Lib.hid hp
        clear hb2 hb2' hk2 ha2 hp HPT
        go_wp2_with fail
        refine (HLG.out w2 HB2.out _ HV.out).mono ?_
        rintro _ w3 ⟨lb, v3, L3, y3, rfl, hnb, hrun, hrec, hlg, hy1, hy2, hb3⟩
        have HS2 := Lib.hid HB2.out.size
        obtain ⟨w4, hw4⟩ : ∃ w4, w4 = w3.alloc (.cells #[.pointer (some ⟨g, 0, none⟩), .int .i64 s, .pointer (some ⟨lb, 0, none⟩), .bool false] 55) := ⟨_, rfl⟩
        have hb4 : RowKit.Below w3.heap.size w3 w4 := by rw [hw4]; exact (RowKit.Below.refl _ _).alloc (Nat.le_refl _) _
        have hb34 : RowKit.Below w2.heap.size w2 w4 := hb3.trans (hb4.mono hb3.size)
        have hb04 : RowKit.Below w.heap.size w w4 := HB2.out.trans (hb34.mono HB2.out.size)
        have hrow : JAt w4 w3.heap.size g lb s false := by rw [hw4]; exact rowJ _ _ _ _
        have hs3 := hb3.size
        have hs2 := HS2.out
        have hlt := hlg.lt
        have HR := Lib.hid (show OpnRes F g d s w (.returned (.tuple #[.pointer (some ⟨w3.heap.size, 0, none⟩), .slice a2 (nR c).length k2, v3, .int .i64 0])) w4 by
          refine HG2.out _ _ (Or.inr ⟨by trivial, HP.out, hb04, w3.heap.size, lb, a2, k2, v3, L3, y3, rfl, by omega, by omega, HA2.out.1.below hb34, HA2.out.2.1, HA2.out.2.2, (hrec.below hb4).mono hs2, hrun, hy1, hy2, ?_⟩)
          exact ⟨HF.out.below hb04, hrow, hlg.same (hb4.block _ hlg.lt), fun e => by have := HF.out.fl _ e; omega, fun e => by have := HF.out.fl _ e; omega, by omega⟩)
        clear hnb hrun hrec hlg hy1 hy2 hb3 hb4 hb34 hb04 hrow hs3 hs2 hlt HLG
        go_wp2
        (try simp only [Exit.inBlock, Exit.then])
        refine bodyPost_ret (results_tmp4 rfl _ _ _) rfl ?_
        first | (rw [← hw4]; exact HR.out) | (rw [hw4] at HR; exact HR.out)
      · have HR := Lib.hid (show OpnRes F g d s w (.returned (.tuple #[.pointer none, .slice none 0 0, .slice none 0 0, .int .i64 121])) w2 from HG2.out _ _ (Or.inl ⟨Or.inr ⟨by trivial, hp, rfl⟩, HB1.out.trans (hb2.mono HB1.out.size)⟩))
        clear hb2 hp HPT
        go_wp2
        (try simp only [Exit.inBlock, Exit.then])
        refine bodyPost_ret (results_tmp4 rfl _ _ _) rfl ?_
        exact HR.out
    · have d0 : (E != 0) = true := by simpa using hE
      have HR := Lib.hid (show OpnRes F g d s w (.returned (.tuple #[.pointer none, .slice none 0 0, .slice none 0 0, .int .i64 E])) w1 from HG2.out _ _ (Or.inl ⟨Or.inl ⟨hE, rfl⟩, HB1.out⟩))
      clear hb1 hc1 ha1 hB1 hE
      go_wp2
      (try simp only [Exit.inBlock, Exit.then])
      refine bodyPost_ret (results_tmp4 rfl _ _ _) rfl ?_
      exact HR.out
end Go.Proofs.Ytdfbpaajkpnaeaa
