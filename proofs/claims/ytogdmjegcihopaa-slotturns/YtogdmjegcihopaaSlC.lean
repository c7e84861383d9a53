
/- Package slot: Next, Write. -/
import Derived.Test.YtogdmjegcihopaaSlB
namespace Go.Proofs.Ytogdmjegcihopaa
set_option maxRecDepth 100000
open Go.RowKit Go.Lib

/-- what Next tells -/
def NxRes (r : Nat × Int) (w : World) (e : Ending) (w' : World) : Prop := e = .returned (.tuple #[.int .u64 (r.1 : Int), .int .i64 r.2]) ∧ RowKit.Below w.heap.size w w'
theorem tm2 (a b : Nat) : ((a : Int) % 2 == (b : Int) % 2) = decide (a % 2 = b % 2) := by
  apply Bool.eq_iff_iff.2
  rw [decide_eq_true_iff, beq_iff_eq]
  omega
set_option maxRecDepth 100000 in
set_option maxHeartbeats 800000 in
theorem snext_any (g : Nat) (F : Nat → Prop) (d : Dk) (x s : Int) (w : World) (h : DAt w F g d) (hx : I x) (hs : I s) :
    Calls Try.prog 10 #[.pointer (some ⟨g, 0, none⟩), .int .i64 x, .int .i64 s] w (NxRes (d.next x s) w) := by
  have HCB := Lib.hid (canBe_any g F d x s w h hx hs)
  cases hc : canB d x s with
  | false =>
    have HR := Lib.hid (show NxRes (d.next x s) w (.returned (.tuple #[.int .u64 0, .int .i64 111])) w by
      unfold Dk.next
      rw [hc]
      exact ⟨rfl, RowKit.Below.refl _ _⟩)
    rw [hc] at HCB
    clear h hx hs hc
    go_enter Try.func10, Try.ntmps10
    go_wp2_with fail
    refine HCB.out.mono ?_
    rintro _ _ ⟨rfl, rfl⟩
    go_wp2
    go_ret2
    exact HR.out
  | true =>
    obtain ⟨h0, h1, h2, h3⟩ := canB_iff.1 hc
    have hsz := h.ok.sz
    rw [hc] at HCB
    obtain ⟨t, ht⟩ : ∃ t, t = topN d x (2 * s).toNat := ⟨_, rfl⟩
    have htop : d.top x (x + 2 * s) = (t, 0) := by
      unfold Dk.top
      rw [if_neg (by omega), if_neg (by omega), ht, show x + 2 * s - x = 2 * s by omega]
    have HTP := Lib.hid (top_any g F d x (x + 2 * s) w h hx (by unfold I; omega))
    unfold TopRes at HTP
    rw [htop] at HTP
    have HRD := Lib.hid (fun (W : World) (hb : RowKit.Below w.heap.size w W) => sread_any g F d x s W (h.below hb) hx hs)
    have ht64 : t < 18446744073709551616 := by rw [ht]; exact topN_lt h.ok _ _
    obtain ⟨r, hr⟩ : ∃ r, r = d.slot x s := ⟨_, rfl⟩
    obtain ⟨T, hT⟩ : ∃ T, T = (t + 1) % 18446744073709551616 := ⟨_, rfl⟩
    obtain ⟨U, hU⟩ : ∃ U, U = (T + 1) % 18446744073709551616 := ⟨_, rfl⟩
    have HN := Lib.hid (show d.next x s = (if r.2 = 0 ∧ T % 2 = r.1.n % 2 then U else T, 0) by
      unfold Dk.next Dk.nextG
      rw [hc, if_pos rfl, ← hr, ← ht, ← hT, ← hU])
    have hw1 : IntKind.u64.wrap ((t : Int) + 1) = (T : Int) := by rw [IntKind.wrap_u64]; omega
    have HW2 := Lib.hid (show IntKind.u64.wrap ((T : Int) + 1) = (U : Int) by rw [IntKind.wrap_u64]; omega)
    have hT64 : T < 18446744073709551616 := by rw [hT]; exact Nat.mod_lt _ (by decide)
    rw [← hr] at HRD
    obtain ⟨⟨rb, rn⟩, re⟩ := r
    clear h hc ht htop hr hT hU ht64 hx hs
    have HTT := Lib.hid hT64
    go_enter Try.func10, Try.ntmps10
    go_wp2_with fail
    refine HCB.out.mono ?_
    rintro _ _ ⟨rfl, rfl⟩
    go_wp2_with fail
    refine HTP.out.mono ?_
    rintro _ w1 ⟨rfl, hb1⟩
    have HB1 := Lib.hid hb1
    clear hb1 HTP HCB
    go_wp2_with fail
    refine (HRD.out _ HB1.out).mono ?_
    rintro _ w2 ⟨a, c, rfl, _, _, _, hb2⟩
    have HB2 := Lib.hid (HB1.out.trans (hb2.mono HB1.out.size))
    clear hb2 HRD
    have htm := tm2 T rn
    by_cases he : re = 0
    · subst he
      by_cases hp : T % 2 = rn % 2
      · rw [decide_eq_true hp] at htm
        have HR := Lib.hid (show NxRes (d.next x s) w (.returned (.tuple #[.int .u64 (U : Int), .int .i64 0])) w2 by
          rw [HN.out, if_pos ⟨rfl, hp⟩]
          exact ⟨rfl, HB2.out⟩)
        have hw2 := HW2.out
        clear hp
        go_wp2
        go_ret2
        exact HR.out
      · rw [decide_eq_false hp] at htm
        have HR := Lib.hid (show NxRes (d.next x s) w (.returned (.tuple #[.int .u64 (T : Int), .int .i64 0])) w2 by
          rw [HN.out, if_neg (fun q => hp q.2)]
          exact ⟨rfl, HB2.out⟩)
        clear hp
        go_wp2
        go_ret2
        exact HR.out
    · have d0 : (re == 0) = false := by simpa using he
      have HR := Lib.hid (show NxRes (d.next x s) w (.returned (.tuple #[.int .u64 (T : Int), .int .i64 0])) w2 by
        rw [HN.out, if_neg (fun q => he q.1)]
        exact ⟨rfl, HB2.out⟩)
      clear he htm
      go_wp2
      go_ret2
      exact HR.out
/-- a write: the disk behind it, the generation, the error -/
def Dk.slotW (d : Dk) (x s : Int) (l : List UInt8) : Dk × Nat × Int :=
  if canB d x s = false then (d, 0, 111)
  else if spanN (l.length + 4) = 0 ∨ s < (spanN (l.length + 4) : Int) then (d, 0, 111)
  else if (d.write (plc (d.nextG x s) x s) (d.nextG x s) (closed l)).2 ≠ 0 then ((d.write (plc (d.nextG x s) x s) (d.nextG x s) (closed l)).1, 0, (d.write (plc (d.nextG x s) x s) (d.nextG x s) (closed l)).2)
  else if (d.write (plc (d.nextG x s) x s) (d.nextG x s) (closed l)).1.actE ≠ 0 then ((d.write (plc (d.nextG x s) x s) (d.nextG x s) (closed l)).1.flush, 0, (d.write (plc (d.nextG x s) x s) (d.nextG x s) (closed l)).1.actE)
  else ((d.write (plc (d.nextG x s) x s) (d.nextG x s) (closed l)).1.flush, d.nextG x s, 0)
theorem Did.trans {g : Nat} {F F1 : Nat → Prop} {d2 : Dk} {w w1 w2 : World} (ho : Only F w w1) (hf : ∀ i, F1 i → F i ∨ w.heap.size ≤ i) (h : Did g F1 d2 w1 w2) : Did g F d2 w w2 := by
  obtain ⟨F2, k1, k2, k3⟩ := h
  exact ⟨F2, k1, ho.trans k2 hf, fun i hi => (k3 i hi).elim (hf i) fun e => Or.inr (Nat.le_trans ho.size e)⟩
/-- what a write answers -/
def SwRes (g : Nat) (F : Nat → Prop) (r : Dk × Nat × Int) (w : World) (e : Ending) (w' : World) : Prop := e = .returned (.tuple #[.int .u64 (r.2.1 : Int), .int .i64 r.2.2]) ∧ Did g F r.1 w w'
theorem plc_in {n : Nat} {x s N : Int} (h0 : 0 ≤ x) (h1 : 1 ≤ s) (h2 : x + 2 * s ≤ N) : 0 ≤ plc n x s ∧ plc n x s + s ≤ N := by unfold plc; split <;> omega
set_option maxRecDepth 100000 in
set_option maxHeartbeats 800000 in
theorem swrite_any (g : Nat) (F : Nat → Prop) (d : Dk) (x s : Int) (l : List UInt8) (a : Option Addr) (len cap : Nat) (w : World) (h : DAt w F g d) (hx : I x) (hs : I s) (hb : BAt w a l) (hl : l.length = len) (ha : a = none → l = []) (hm : len ≤ 500000) (hq : d.queue.length < 9700) :
    Calls Try.prog 9 #[.pointer (some ⟨g, 0, none⟩), .int .i64 x, .int .i64 s, .slice a len cap] w (SwRes g F (d.slotW x s l) w) := by
  have HNX := Lib.hid (snext_any g F d x s w h hx hs)
  cases hc : canB d x s with
  | false =>
    have HR := Lib.hid (fun (w' : World) (hb : RowKit.Below w.heap.size w w') => show SwRes g F (d.slotW x s l) w (.returned (.tuple #[.int .u64 0, .int .i64 111])) w' by
      unfold Dk.slotW
      rw [if_pos hc]
      exact ⟨rfl, (Did.refl h).below hb⟩)
    have e : d.next x s = (0, 111) := by unfold Dk.next; rw [hc]; rfl
    rw [e] at HNX
    clear h hx hs hb hl ha hm hq hc e
    go_enter Try.func9, Try.ntmps9
    go_wp2_with fail
    refine HNX.out.mono ?_
    rintro _ w1 ⟨rfl, hb1⟩
    have HB1 := Lib.hid hb1
    clear hb1
    go_wp2
    go_ret2
    exact HR.out _ HB1.out
  | true =>
    obtain ⟨h0, h1, h2, h3⟩ := canB_iff.1 hc
    have hsz := h.ok.sz
    obtain ⟨n, hn⟩ : ∃ n, n = d.nextG x s := ⟨_, rfl⟩
    have e : d.next x s = (n, 0) := by unfold Dk.next; rw [hc, if_pos rfl, ← hn]
    rw [e] at HNX
    clear e
    obtain ⟨m, hmm⟩ : ∃ m, m = spanN (l.length + 4) := ⟨_, rfl⟩
    have hm255 : m ≤ 255 := by rw [hmm]; exact spanN_le _
    have hspan : spanI ((len : Int) + 4) = (m : Int) := by rw [hmm, hl, ← spanI_nat]; congr 1
    have HSP := Lib.hid (fun W => span_any ((len : Int) + 4) W)
    rw [hspan] at HSP
    have hSW : d.slotW x s l = if m = 0 ∨ s < (m : Int) then (d, 0, 111) else if (d.write (plc n x s) n (closed l)).2 ≠ 0 then ((d.write (plc n x s) n (closed l)).1, 0, (d.write (plc n x s) n (closed l)).2) else if (d.write (plc n x s) n (closed l)).1.actE ≠ 0 then ((d.write (plc n x s) n (closed l)).1.flush, 0, (d.write (plc n x s) n (closed l)).1.actE) else ((d.write (plc n x s) n (closed l)).1.flush, n, 0) := by
      unfold Dk.slotW
      rw [if_neg (by rw [hc]; exact Bool.noConfusion), ← hmm, ← hn]
    by_cases hcs : m = 0 ∨ s < (m : Int)
    · have HR := Lib.hid (fun (w' : World) (hb : RowKit.Below w.heap.size w w') => show SwRes g F (d.slotW x s l) w (.returned (.tuple #[.int .u64 0, .int .i64 111])) w' by
        rw [hSW, if_pos hcs]
        exact ⟨rfl, (Did.refl h).below hb⟩)
      clear h hb ha hq hc hn hmm hspan hSW hx hs hl
      rcases hcs with hz | hz
      · subst hz
        go_enter Try.func9, Try.ntmps9
        go_wp2_with fail
        refine HNX.out.mono ?_
        rintro _ w1 ⟨rfl, hb1⟩
        have HB1 := Lib.hid hb1
        clear hb1
        go_wp2_with fail
        refine (HSP.out _).mono ?_
        rintro _ _ ⟨rfl, rfl⟩
        go_wp2
        go_ret2
        exact HR.out _ HB1.out
      · have hz0 : ((m : Int) == 0) = false := by simp; omega
        have hz1 : decide (s < (m : Int)) = true := by simpa using hz
        clear hz
        go_enter Try.func9, Try.ntmps9
        go_wp2_with fail
        refine HNX.out.mono ?_
        rintro _ w1 ⟨rfl, hb1⟩
        have HB1 := Lib.hid hb1
        clear hb1
        go_wp2_with fail
        refine (HSP.out _).mono ?_
        rintro _ _ ⟨rfl, rfl⟩
        go_wp2
        go_ret2
        exact HR.out _ HB1.out
    · have hz0 : ((m : Int) == 0) = false := by simp; omega
      have hz1 : decide (s < (m : Int)) = false := by simp; omega
      rw [if_neg hcs] at hSW
      obtain ⟨C, hC⟩ : ∃ C, C = closed l := ⟨_, rfl⟩
      have hCl : C.length = len + 4 := by rw [hC, closed_len, hl]
      have hn64 : n < 18446744073709551616 := by rw [hn]; exact nextG_lt d x s
      have HPL := Lib.hid (fun W => placeOf_any n x s W ⟨h0, h1, h2, by omega⟩)
      obtain ⟨p, hp⟩ : ∃ p, p = plc n x s := ⟨_, rfl⟩
      have hpi : I p := by have := plc_in (n := n) h0 h1 h3; unfold I; omega
      obtain ⟨q, hqq⟩ : ∃ q, q = d.write p n C := ⟨_, rfl⟩
      obtain ⟨d1, E⟩ := q
      have HCL := Lib.hid (fun (W : World) (hW : RowKit.Below w.heap.size w W) => close_any a l len cap W (hb.below hW) hl ha hm)
      rw [show l ++ sealL l = C from hC.symm] at HCL
      have HWR := Lib.hid (fun (W : World) (hW : RowKit.Below w.heap.size w W) (a3 : Option Addr) (c3 : Nat) (k3 : BAt W a3 C) (hc : C.length ≤ c3) => write_any g F d p n C a3 C.length c3 W (h.below hW) hpi hn64 k3 rfl hc (by have := spanN_le C.length; omega))
      unfold WriteRes at HWR
      rw [← hC, ← hp, ← hqq] at hSW
      rw [← hqq] at HWR
      rw [← hp] at HPL
      simp only at HWR hSW
      have HSW := Lib.hid hSW
      clear h hb ha hq hc hn hmm hspan hSW hx hs hl hcs hp hqq hC hpi hn64 hCl
      go_enter Try.func9, Try.ntmps9
      go_wp2_with fail
      refine HNX.out.mono ?_
      rintro _ w1 ⟨rfl, hb1⟩
      have HB1 := Lib.hid hb1
      clear hb1
      go_wp2_with fail
      refine (HSP.out _).mono ?_
      rintro _ _ ⟨rfl, rfl⟩
      go_wp2_with fail
      refine (HPL.out _).mono ?_
      rintro _ _ ⟨rfl, rfl⟩
      go_wp2_with fail
      refine (HCL.out _ HB1.out).mono ?_
      rintro _ w2 ⟨v, rfl, hob, hb2, _⟩
      have HB2 := Lib.hid (HB1.out.trans (hb2.mono HB1.out.size))
      obtain ⟨a3, c3, rfl, hba, hlc, _, _, _⟩ := hob.row
      have HW3 := Lib.hid (HWR.out _ HB2.out a3 c3 hba hlc)
      clear hob hba hlc hb2 HWR HCL
      go_wp2_with fail
      refine HW3.out.mono ?_
      rintro _ w3 ⟨rfl, hdid⟩
      have HDID := Lib.hid (Did.pre HB2.out hdid)
      clear hdid HW3
      by_cases hE : E = 0
      · subst hE
        obtain ⟨F1, hd1, ho1, hf1⟩ := HDID.out
        have HO1 := Lib.hid (And.intro ho1 hf1)
        have HFL := Lib.hid (flush_any g F1 d1 w3 hd1)
        clear hd1 ho1 hf1 HDID
        go_wp2_with fail
        refine HFL.out.mono ?_
        rintro _ w4 ⟨rfl, hdid⟩
        have HD4 := Lib.hid (Did.trans HO1.out.1 HO1.out.2 hdid)
        clear hdid HFL
        obtain ⟨f, hf⟩ : ∃ f, f = d1.actE := ⟨_, rfl⟩
        rw [← hf]
        by_cases hf0 : f = 0
        · have HR := Lib.hid (show SwRes g F (d.slotW x s l) w (.returned (.tuple #[.int .u64 (n : Int), .int .i64 0])) w4 by
            rw [HSW.out, if_neg (by decide), if_neg (by rw [← hf]; exact fun e => e hf0)]
            exact ⟨rfl, HD4.out⟩)
          clear hf
          subst hf0
          go_wp2
          go_ret2
          exact HR.out
        · have HR := Lib.hid (show SwRes g F (d.slotW x s l) w (.returned (.tuple #[.int .u64 0, .int .i64 f])) w4 by
            rw [HSW.out, if_neg (by decide), if_pos (by rw [← hf]; exact hf0), ← hf]
            exact ⟨rfl, HD4.out⟩)
          have dd : (f == 0) = false := by simpa using hf0
          clear hf hf0
          go_wp2
          go_ret2
          exact HR.out
      · have HR := Lib.hid (show SwRes g F (d.slotW x s l) w (.returned (.tuple #[.int .u64 0, .int .i64 E])) w3 by
          rw [HSW.out, if_pos hE]
          exact ⟨rfl, HDID.out⟩)
        have dd : (E == 0) = false := by simpa using hE
        clear hE
        go_wp2
        go_ret2
        exact HR.out
end Go.Proofs.Ytogdmjegcihopaa
