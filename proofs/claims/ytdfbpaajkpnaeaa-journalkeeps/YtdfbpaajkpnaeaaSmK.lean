
/- Package stamp: Read. -/
import Derived.Test.YtdfbpaajkpnaeaaSmHJ
namespace Go.Proofs.Ytdfbpaajkpnaeaa
set_option maxRecDepth 100000
open Go.RowKit Go.Lib

theorem results_tmp4 {fn : Func} {t u v x : Tmp} (h : fn.results = #[.tmp t, .tmp u, .tmp v, .tmp x]) (tmps : Array Value) (P : Program) (w : World) :
    (results fn tmps).run P w = .ok (.tuple #[tmps.getD t undef, tmps.getD u undef, tmps.getD v undef, tmps.getD x undef]) w := by
  simp [results, h]
theorem GatRes.row {l : List UInt8} {w : World} {e : Ending} {w' : World} (h : GatRes l w e w') : ∃ a cap, e = .returned (.slice a l.length cap) ∧ BAt w' a l ∧ l.length ≤ cap ∧ (a = none → l = []) ∧ RowKit.Below w.heap.size w w' := by
  obtain ⟨v, rfl, ho, hb⟩ := h
  obtain ⟨a, cap, hv, h1, h2, _, h3, _⟩ := ho.row
  exact ⟨a, cap, by rw [hv], h1, h2, fun e => List.eq_nil_of_length_eq_zero (by have := h3 e; omega), hb⟩
def RdRes (r : Rd) (w : World) (e : Ending) (w' : World) : Prop := ∃ a c, e = .returned (.tuple #[.slice a r.b.length c, .int .u64 (r.n : Int), .int .i64 (r.many : Int), .int .i64 r.e]) ∧ BAt w' a r.b ∧ r.b.length ≤ c ∧ (a = none → r.b = []) ∧ RowKit.Below w.heap.size w w'
theorem RdRes.no {e : Int} {w w' : World} (hb : RowKit.Below w.heap.size w w') : RdRes (Rd.none e) w (.returned (.tuple #[.slice none 0 0, .int .u64 0, .int .i64 0, .int .i64 e])) w' := ⟨none, 0, rfl, Or.inl rfl, Nat.le_refl _, fun _ => rfl, hb⟩
set_option maxRecDepth 100000 in
set_option maxHeartbeats 3200000 in
theorem read_any (g : Nat) (F : Nat → Prop) (d : Dk) (x z : Int) (w : World) (h : DAt w F g d) (hx : I x) :
    Calls Try.prog 49 #[.pointer (some ⟨g, 0, none⟩), .int .i64 x, .int .i64 z] w (RdRes (d.read x z) w) := by
  have HD := Lib.hid h
  have hsz := h.ok.sz
  obtain ⟨N, hN⟩ : ∃ N, N = d.base.length := ⟨_, rfl⟩
  have HN := Lib.hid hN
  have HSZ := Lib.hid (fun (W : World) (hb : RowKit.Below w.heap.size w W) => size_at g F d W (h.below hb))
  rw [← hN] at hsz HSZ
  have hcs : x < 0 ∨ (0 ≤ x ∧ (N : Int) < z) ∨ (0 ≤ x ∧ z ≤ (N : Int)) := by omega
  rcases hcs with hx0 | ⟨hx0, hz⟩ | ⟨hx0, hz⟩
  · have HR := Lib.hid (show RdRes (d.read x z) w (.returned (.tuple #[.slice none 0 0, .int .u64 0, .int .i64 0, .int .i64 81])) w by unfold Dk.read; rw [if_pos (Or.inl hx0)]; exact RdRes.no (RowKit.Below.refl _ _))
    have d0 : decide (x < 0) = true := by simpa using hx0
    clear h hx hN hx0
    go_enter Try.func49, Try.ntmps49
    go_wp2
    (try simp only [Exit.inBlock, Exit.then])
    refine bodyPost_ret (results_tmp4 rfl _ _ _) rfl ?_
    exact HR.out
  · have HR := Lib.hid (show RdRes (d.read x z) w (.returned (.tuple #[.slice none 0 0, .int .u64 0, .int .i64 0, .int .i64 81])) w by unfold Dk.read; rw [if_pos (Or.inr (by rw [← hN]; exact hz))]; exact RdRes.no (RowKit.Below.refl _ _))
    have d0 : decide (x < 0) = false := by simp; omega
    have d1 : decide ((N : Int) < z) = true := by simpa using hz
    clear h hx hN hx0 hz
    go_enter Try.func49, Try.ntmps49
    go_wp2_with fail
    refine (HSZ.out _ (RowKit.Below.refl _ _)).mono ?_
    rintro _ _ ⟨rfl, rfl⟩
    go_wp2
    (try simp only [Exit.inBlock, Exit.then])
    refine bodyPost_ret (results_tmp4 rfl _ _ _) rfl ?_
    exact HR.out
  · have HRD := Lib.hid (show d.read x z = readL (d.stands x z) by unfold Dk.read; rw [if_neg (by rw [← hN]; omega)])
    have d0 : decide (x < 0) = false := by simp; omega
    have d1 : decide ((N : Int) < z) = false := by simp; omega
    have HST := Lib.hid (standing_any g F d x z w h hx0 (by rw [← hN]; exact hz) hx)
    obtain ⟨L, hL⟩ : ∃ L, L = d.stands x z := ⟨_, rfl⟩
    have HL64 := Lib.hid (show ∀ s ∈ L, s.length = 64 by rw [hL]; exact stands_64 h.ok x z)
    have HLN := Lib.hid (show L.length ≤ 255 by rw [hL]; exact stands_le d x z)
    rw [← hL] at HST HRD
    obtain ⟨M, hM⟩ : ∃ M, M = L.length := ⟨_, rfl⟩
    have HM := Lib.hid hM
    clear h hx hN hx0 hz hL hM
    go_enter Try.func49, Try.ntmps49
    go_wp2_with fail
    refine (HSZ.out _ (RowKit.Below.refl _ _)).mono ?_
    rintro _ _ ⟨rfl, rfl⟩
    go_wp2_with fail
    refine HST.out.mono ?_
    rintro _ w2 ⟨a2, c2, rfl, hli, _, hin, hb2⟩
    have HLI := Lib.hid hli
    have HIN := Lib.hid hin
    have HB2 := Lib.hid hb2
    rw [← HM.out]
    clear hli hin hb2 d0 d1
    by_cases hM0 : M = 0
    · subst hM0
      have HR := Lib.hid (show RdRes (d.read x z) w (.returned (.tuple #[.slice none 0 0, .int .u64 0, .int .i64 0, .int .i64 91])) w2 by
        rw [HRD.out]
        have e : L = [] := List.eq_nil_of_length_eq_zero HM.out.symm
        unfold readL
        rw [if_neg (fun k => k.1 e)]
        exact RdRes.no HB2.out)
      go_wp2
      (try simp only [Exit.inBlock, Exit.then])
      refine bodyPost_ret (results_tmp4 rfl _ _ _) rfl ?_
      exact HR.out
    · have d0 : ((M : Int) == 0) = false := by simp; exact hM0
      obtain ⟨s, K, hLK⟩ : ∃ s K, L = s :: K := by
        cases L with
        | nil => exact absurd HM.out hM0
        | cons s K => exact ⟨s, K, rfl⟩
      have hs0 : L[0]? = some s := by rw [hLK]; rfl
      have hsl := HL64.out s (by rw [hLK]; simp)
      have HSL := Lib.hid hsl
      have HHD := Lib.hid (show L.headD [] = s by rw [hLK]; rfl)
      have HNE := Lib.hid (show L ≠ [] by rw [hLK]; simp)
      obtain ⟨bb, ob, ha2, hbb, hrb⟩ := HLI.out.get (f := bcells) (n := 64) (fun s hs => cells_len s (HL64.out s hs)) (by decide) hs0
      rw [Nat.zero_mul, Nat.add_zero] at hrb
      obtain ⟨c, hc⟩ : ∃ c, c = bcells s := ⟨_, rfl⟩
      rw [← hc] at hrb
      have HRB := Lib.hid hrb
      have HBBL := Lib.hid hbb
      have HCC := Lib.hid (show Cs 64 c by rw [hc]; exact cs_sec hsl)
      have HIX := Lib.hid (fun (W : World) => show (Instr.indexAt 56 (.slice (some ⟨bb, ob, none⟩) M c2) (.int .i64 0)).run Try.prog W = .ok (.pointer (some ⟨bb, ob, none⟩)) W from by
        have := run_idx elS (b := bb) (off := ob) (n := M) (cap := c2) (k := .i64) (i := 0) (j := 0) rfl (by omega) W
        rw [Nat.zero_mul, Nat.add_zero] at this; exact this)
      obtain ⟨b, hb⟩ : ∃ b, b = gat L := ⟨_, rfl⟩
      obtain ⟨n, hn⟩ : ∃ n, n = stN s := ⟨_, rfl⟩
      have HBE := Lib.hid hb
      have HNEQ := Lib.hid hn
      have HNL := Lib.hid (show n < 18446744073709551616 by rw [hn]; exact stN_lt hsl)
      subst ha2
      have HGA := Lib.hid (fun (W : World) (hb : RowKit.Below w2.heap.size w2 W) => (gather_any L (some ⟨bb, ob, none⟩) c2 W (HLI.out.below hb) HL64.out HLN.out).mono (fun _ _ k => k.row))
      rw [← hb, ← HM.out] at HGA
      have HSO := Lib.hid (fun W => stampOf_any s hsl W)
      rw [← hc, ← hn] at HSO
      have HB2d := Lib.hid (HB2.out.trans ((RowKit.Below.refl _ w2).drew.mono HB2.out.size))
      clear hs0 hsl hbb hrb hc hb hn hLK
      go_wp2
      refine wp_region_held_drew (S := fun W => Agree [bb] w2 W) (by kernel_rfl) ?_ (fun hHeld => ?_)
      · exact fun _ _ => rfl
      refine held_take 0 (v := ?_) rfl (by kernel_rfl) (by kernel_rfl) (by kernel_rfl) (fun _ _ _ h => h) hHeld (by rfl) ?_ ?_
      rotate_left
      · (intro W hW; go_simp; try with_reducible rfl)
      try simp only [Act.put, List.setIfInBounds_toArray, List.set_cons_zero, List.set_cons_succ]
      refine held_take 2 (v := ?_) rfl (by kernel_rfl) (by kernel_rfl) (by kernel_rfl) (fun _ _ _ h => h) hHeld (by rfl) ?_ ?_
      rotate_left
      · (intro W hW; go_simp; try with_reducible rfl)
      try simp only [Act.put, List.setIfInBounds_toArray, List.set_cons_zero, List.set_cons_succ]
      refine held_take 3 (v := ?_) rfl (by kernel_rfl) (by kernel_rfl) (by kernel_rfl) (fun _ _ _ h => h) hHeld (by rfl) ?_ ?_
      rotate_left
      · (intro W hW; have e := HIX.out W; go_simp; try with_reducible rfl)
      try simp only [Act.put, List.setIfInBounds_toArray, List.set_cons_zero, List.set_cons_succ]
      refine held_take 4 (v := .agg c.toArray) rfl (by kernel_rfl) (by kernel_rfl) (by kernel_rfl) (fun _ _ _ h => h) hHeld (by rfl) (fun W hW => exec_loadM isS _ rfl _ _ c rfl (hW.range (by simp) HRB.out) HCC.out) ?_
      try simp only [Act.put, List.setIfInBounds_toArray, List.set_cons_zero, List.set_cons_succ]
      refine held_next 1 rfl (by kernel_rfl) (by rfl) (fun K hK => ?_)
      go_simp
      go_at_call 65
      refine (HGA.out _ (RowKit.Below.refl _ w2).drew).mono ?_
      rintro _ w3 ⟨a3, c3, rfl, hb3, hl3, hn3, hbl3⟩
      have HB3 := Lib.hid (HB2d.out.trans (hbl3.mono HB2d.out.size))
      have HBA3 := Lib.hid hb3
      have HL3 := Lib.hid hl3
      have HN3 := Lib.hid hn3
      have HBL3 := Lib.hid hbl3
      clear hb3 hl3 hn3 hbl3
      refine hK.out _ _ ((fun i hi => by rw [List.mem_singleton.1 hi]; exact HBL3.out.block _ HBBL.out)) (fun hHeld => ?_)
      clear hK K
      try simp only [Act.put, List.setIfInBounds_toArray, List.set_cons_zero, List.set_cons_succ]
      refine held_next 5 rfl (by kernel_rfl) (by rfl) (fun K hK => ?_)
      go_simp
      go_at_call 63
      refine (HSO.out _).mono ?_
      rintro _ w4 ⟨rfl, hb4⟩
      have HB4 := Lib.hid (HB3.out.trans (hb4.mono HB3.out.size))
      have HBA4 := Lib.hid (HBA3.out.below hb4)
      have HBL4 := Lib.hid (HBL3.out.trans (hb4.mono HBL3.out.size))
      clear hb4
      refine hK.out _ _ ((fun i hi => by rw [List.mem_singleton.1 hi]; exact HBL4.out.block _ HBBL.out)) (fun hHeld => ?_)
      clear hK K
      try simp only [Act.put, List.setIfInBounds_toArray, List.set_cons_zero, List.set_cons_succ]
      refine held_take 6 (v := ?_) rfl (by kernel_rfl) (by kernel_rfl) (by kernel_rfl) (fun _ _ _ h => h) hHeld (by rfl) ?_ ?_
      rotate_left
      · (intro W hW; go_simp; try with_reducible rfl)
      try simp only [Act.put, List.setIfInBounds_toArray, List.set_cons_zero, List.set_cons_succ]
      refine held_take 7 (v := ?_) rfl (by kernel_rfl) (by kernel_rfl) (by kernel_rfl) (fun _ _ _ h => h) hHeld (by rfl) ?_ ?_
      rotate_left
      · (intro W hW; go_simp; try with_reducible rfl)
      try simp only [Act.put, List.setIfInBounds_toArray, List.set_cons_zero, List.set_cons_succ]
      refine wpAnyH_done (by kernel_rfl) ?_ _
      go_simp
      have HLAY := Lib.hid (lay_any n b a3 b.length c3 w4 HNL.out HBA4.out rfl HL3.out)
      obtain ⟨K, hK⟩ : ∃ K, K = layL n b := ⟨_, rfl⟩
      have HK64 := Lib.hid (show ∀ s ∈ K, s.length = 64 by rw [hK]; exact layL_64 n b)
      have HKN := Lib.hid (show K.length ≤ 255 by rw [hK]; exact Nat.le_trans (layL_length_le n b) (spanN_le _))
      rw [← hK] at HLAY
      have HKE := Lib.hid hK
      clear hK
      go_wp2_with fail
      refine HLAY.out.mono ?_
      rintro _ w5 ⟨a5, c5, rfl, hli5, _, _, hb5⟩
      have HLI5 := Lib.hid hli5
      have HB5 := Lib.hid (HB4.out.trans (hb5.mono HB4.out.size))
      have HBL5 := Lib.hid (HBL4.out.trans (hb5.mono HBL4.out.size))
      have HBA5 := Lib.hid (HBA4.out.below hb5)
      have HEQ := Lib.hid (equal_any L K (some ⟨bb, ob, none⟩) a5 c2 c5 w5 (HLI.out.below ((RowKit.Below.refl _ w2).drew.trans (HBL5.out.mono (Nat.le_refl _)))) hli5 HL64.out HK64.out (by have := HLN.out; omega) (by have := HKN.out; omega))
      rw [← HM.out] at HEQ
      obtain ⟨q, hq⟩ : ∃ q, q = decide (L = K) := ⟨_, rfl⟩
      rw [← hq] at HEQ
      have HQ := Lib.hid hq
      clear hli5 hb5 hq HLAY
      go_wp2_with fail
      refine HEQ.out.mono ?_
      rintro _ w6 ⟨rfl, hb6⟩
      have HB6 := Lib.hid (HB5.out.trans (hb6.mono HB5.out.size))
      have HBA6 := Lib.hid (HBA5.out.below hb6)
      clear hb6
      cases q with
      | true =>
        have HR := Lib.hid (show RdRes (d.read x z) w (.returned (.tuple #[.slice a3 b.length c3, .int .u64 (n : Int), .int .i64 (M : Int), .int .i64 0])) w6 by
          have e : L = K := of_decide_eq_true HQ.out.symm
          rw [HRD.out]
          unfold readL
          rw [HHD.out, ← HBE.out, ← HNEQ.out, ← HKE.out, if_pos ⟨HNE.out, e⟩, ← HM.out]
          exact ⟨a3, c3, rfl, HBA6.out, HL3.out, HN3.out, HB6.out⟩)
        go_wp2
        (try simp only [Exit.inBlock, Exit.then])
        refine bodyPost_ret (results_tmp4 rfl _ _ _) rfl ?_
        exact HR.out
      | false =>
        have HR := Lib.hid (show RdRes (d.read x z) w (.returned (.tuple #[.slice none 0 0, .int .u64 0, .int .i64 0, .int .i64 91])) w6 by
          have e : ¬ L = K := of_decide_eq_false HQ.out.symm
          rw [HRD.out]
          unfold readL
          rw [HHD.out, ← HBE.out, ← HNEQ.out, ← HKE.out, if_neg (fun k => e k.2)]
          exact RdRes.no HB6.out)
        go_wp2
        (try simp only [Exit.inBlock, Exit.then])
        refine bodyPost_ret (results_tmp4 rfl _ _ _) rfl ?_
        exact HR.out
end Go.Proofs.Ytdfbpaajkpnaeaa
