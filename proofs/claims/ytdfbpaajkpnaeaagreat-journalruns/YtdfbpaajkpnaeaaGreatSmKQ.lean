
/- Package stamp: Read. Package stamp, mathematics: what is written is read; what is cut off. Package stamp: Top. -/
import Derived.Test.YtdfbpaajkpnaeaaGreatSmHJ

namespace Go.Proofs.YtdfbpaajkpnaeaaGreat
set_option maxRecDepth 100000
open Go.RowKit Go.Lib

theorem results_tmp4 {fn : Func} {t u v x : Tmp} (h : fn.results = #[.tmp t, .tmp u, .tmp v, .tmp x]) (tmps : Array Value) (P : Program) (w : World) :
    (results fn tmps).run P w = .ok (.tuple #[tmps.getD t undef, tmps.getD u undef, tmps.getD v undef, tmps.getD x undef]) w := by
  simp [results, h]
theorem GatRes.row {l : List UInt8} {w : World} {e : Ending} {w' : World} (h : GatRes l w e w') : ∃ a cap, e = .returned (.slice a l.length cap) ∧ BAt w' a l ∧ l.length ≤ cap ∧ (a = none → l = []) ∧ RowKit.Below w.heap.size w w' := by
  obtain ⟨v, rfl, ho, hb⟩ := h
  obtain ⟨a, cap, hv, h1, h2, _, h3, _⟩ := ho.row
  exact ⟨a, cap, by rw [hv], h1, h2, fun e => List.eq_nil_of_length_eq_zero (by have := h3 e; omega), hb⟩
def RdRes (r : Rd) (w : World) (e : Ending) (w' : World) : Prop := ∃ a c, e = .returned (.tuple #[.slice a r.b.length c, .int .u64 (r.n : Int), .int .i64 (r.many : Int), .int .i64 r.e]) ∧ BAt w' a r.b ∧ r.b.length ≤ c ∧ (a = none → r.b = []) ∧ RowKit.Below w.heap.size w w'
theorem RdRes.no {e : Int} {w w' : World} (hb : RowKit.Below w.heap.size w w') : RdRes (Rd.none e) w (.returned (.tuple #[.slice none 0 0, .int .u64 0, .int .i64 0, .int .i64 e])) w' := ⟨none, 0, rfl, Or.inl rfl, Nat.le_refl _, fun _ => rfl, hb⟩
set_option maxRecDepth 100000 in
set_option maxHeartbeats 3200000 in
theorem read_any (g : Nat) (F : Nat → Prop) (d : Dk) (x z : Int) (w : World) (h : DAt w F g d) (hx : I x) :
    Calls Tryz.prog 88 #[.pointer (some ⟨g, 0, none⟩), .int .i64 x, .int .i64 z] w (RdRes (d.read x z) w) := by
  have HD := Lib.hid h
  have hsz := h.ok.sz
  obtain ⟨N, hN⟩ : ∃ N, N = d.base.length := ⟨_, rfl⟩
  have HN := Lib.hid hN
  have HSZ := Lib.hid (fun (W : World) (hb : RowKit.Below w.heap.size w W) => size_at g F d W (h.below hb))
  rw [← hN] at hsz HSZ
  have hcs : x < 0 ∨ (0 ≤ x ∧ (N : Int) < z) ∨ (0 ≤ x ∧ z ≤ (N : Int)) := by omega
  rcases hcs with hx0 | ⟨hx0, hz⟩ | ⟨hx0, hz⟩
  · have HR := Lib.hid (show RdRes (d.read x z) w (.returned (.tuple #[.slice none 0 0, .int .u64 0, .int .i64 0, .int .i64 81])) w by unfold Dk.read; rw [if_pos (Or.inl hx0)]; exact RdRes.no (RowKit.Below.refl _ _))
    have d0 : decide (x < 0) = true := by simpa using hx0
    clear h hx hN hx0
    go_enter Tryz.func88, Tryz.ntmps88
    go_wp2
    (try simp only [Exit.inBlock, Exit.then])
    refine bodyPost_ret (results_tmp4 rfl _ _ _) rfl ?_
    exact HR.out
  · have HR := Lib.hid (show RdRes (d.read x z) w (.returned (.tuple #[.slice none 0 0, .int .u64 0, .int .i64 0, .int .i64 81])) w by unfold Dk.read; rw [if_pos (Or.inr (by rw [← hN]; exact hz))]; exact RdRes.no (RowKit.Below.refl _ _))
    have d0 : decide (x < 0) = false := by simp; omega
    have d1 : decide ((N : Int) < z) = true := by simpa using hz
    clear h hx hN hx0 hz
    go_enter Tryz.func88, Tryz.ntmps88
    go_wp2_with fail
    refine (HSZ.out _ (RowKit.Below.refl _ _)).mono ?_
    rintro _ _ ⟨rfl, rfl⟩
    go_wp2
    (try simp only [Exit.inBlock, Exit.then])
    refine bodyPost_ret (results_tmp4 rfl _ _ _) rfl ?_
    exact HR.out
  · have HRD := Lib.hid (show d.read x z = readL (d.stands x z) by unfold Dk.read; rw [if_neg (by rw [← hN]; omega)])
    have d0 : decide (x < 0) = false := by simp; omega
    have d1 : decide ((N : Int) < z) = false := by simp; omega
    have HST := Lib.hid (standing_any g F d x z w h hx0 (by rw [← hN]; exact hz) hx)
    obtain ⟨L, hL⟩ : ∃ L, L = d.stands x z := ⟨_, rfl⟩
    have HL64 := Lib.hid (show ∀ s ∈ L, s.length = 64 by rw [hL]; exact stands_64 h.ok x z)
    have HLN := Lib.hid (show L.length ≤ 255 by rw [hL]; exact stands_le d x z)
    rw [← hL] at HST HRD
    obtain ⟨M, hM⟩ : ∃ M, M = L.length := ⟨_, rfl⟩
    have HM := Lib.hid hM
    clear h hx hN hx0 hz hL hM
    go_enter Tryz.func88, Tryz.ntmps88
    go_wp2_with fail
    refine (HSZ.out _ (RowKit.Below.refl _ _)).mono ?_
    rintro _ _ ⟨rfl, rfl⟩
    go_wp2_with fail
    refine HST.out.mono ?_
    rintro _ w2 ⟨a2, c2, rfl, hli, _, hin, hb2⟩
    have HLI := Lib.hid hli
    have HIN := Lib.hid hin
    have HB2 := Lib.hid hb2
    rw [← HM.out]
    clear hli hin hb2 d0 d1
    by_cases hM0 : M = 0
    · subst hM0
      have HR := Lib.hid (show RdRes (d.read x z) w (.returned (.tuple #[.slice none 0 0, .int .u64 0, .int .i64 0, .int .i64 91])) w2 by
        rw [HRD.out]
        have e : L = [] := List.eq_nil_of_length_eq_zero HM.out.symm
        unfold readL
        rw [if_neg (fun k => k.1 e)]
        exact RdRes.no HB2.out)
      go_wp2
      (try simp only [Exit.inBlock, Exit.then])
      refine bodyPost_ret (results_tmp4 rfl _ _ _) rfl ?_
      exact HR.out
    · have d0 : ((M : Int) == 0) = false := by simp; exact hM0
      obtain ⟨s, K, hLK⟩ : ∃ s K, L = s :: K := by
        cases L with
        | nil => exact absurd HM.out hM0
        | cons s K => exact ⟨s, K, rfl⟩
      have hs0 : L[0]? = some s := by rw [hLK]; rfl
      have hsl := HL64.out s (by rw [hLK]; simp)
      have HSL := Lib.hid hsl
      have HHD := Lib.hid (show L.headD [] = s by rw [hLK]; rfl)
      have HNE := Lib.hid (show L ≠ [] by rw [hLK]; simp)
      obtain ⟨bb, ob, ha2, hbb, hrb⟩ := HLI.out.get (f := bcells) (n := 64) (fun s hs => cells_len s (HL64.out s hs)) (by decide) hs0
      rw [Nat.zero_mul, Nat.add_zero] at hrb
      obtain ⟨c, hc⟩ : ∃ c, c = bcells s := ⟨_, rfl⟩
      rw [← hc] at hrb
      have HRB := Lib.hid hrb
      have HBBL := Lib.hid hbb
      have HCC := Lib.hid (show Cs 64 c by rw [hc]; exact cs_sec hsl)
      have HIX := Lib.hid (fun (W : World) => show (Instr.indexAt 33 (.slice (some ⟨bb, ob, none⟩) M c2) (.int .i64 0)).run Tryz.prog W = .ok (.pointer (some ⟨bb, ob, none⟩)) W from by
        have := run_idx elS (b := bb) (off := ob) (n := M) (cap := c2) (k := .i64) (i := 0) (j := 0) rfl (by omega) W
        rw [Nat.zero_mul, Nat.add_zero] at this; exact this)
      obtain ⟨b, hb⟩ : ∃ b, b = gat L := ⟨_, rfl⟩
      obtain ⟨n, hn⟩ : ∃ n, n = stN s := ⟨_, rfl⟩
      have HBE := Lib.hid hb
      have HNEQ := Lib.hid hn
      have HNL := Lib.hid (show n < 18446744073709551616 by rw [hn]; exact stN_lt hsl)
      subst ha2
      have HGA := Lib.hid (fun (W : World) (hb : RowKit.Below w2.heap.size w2 W) => (gather_any L (some ⟨bb, ob, none⟩) c2 W (HLI.out.below hb) HL64.out HLN.out).mono (fun _ _ k => k.row))
      rw [← hb, ← HM.out] at HGA
      have HSO := Lib.hid (fun W => stampOf_any s hsl W)
      rw [← hc, ← hn] at HSO
      have HB2d := Lib.hid (HB2.out.trans ((RowKit.Below.refl _ w2).drew.mono HB2.out.size))
      clear hs0 hsl hbb hrb hc hb hn hLK
      go_wp2
      refine wp_region_held_drew (S := fun W => Agree [bb] w2 W) (by kernel_rfl) ?_ (fun hHeld => ?_)
      · exact fun _ _ => rfl
      refine held_take 0 (v := ?_) rfl (by kernel_rfl) (by kernel_rfl) (by kernel_rfl) (fun _ _ _ h => h) hHeld (by rfl) ?_ ?_
      rotate_left
      · (intro W hW; go_simp; try with_reducible rfl)
      try simp only [Act.put, List.setIfInBounds_toArray, List.set_cons_zero, List.set_cons_succ]
      refine held_take 2 (v := ?_) rfl (by kernel_rfl) (by kernel_rfl) (by kernel_rfl) (fun _ _ _ h => h) hHeld (by rfl) ?_ ?_
      rotate_left
      · (intro W hW; go_simp; try with_reducible rfl)
      try simp only [Act.put, List.setIfInBounds_toArray, List.set_cons_zero, List.set_cons_succ]
      refine held_take 3 (v := ?_) rfl (by kernel_rfl) (by kernel_rfl) (by kernel_rfl) (fun _ _ _ h => h) hHeld (by rfl) ?_ ?_
      rotate_left
      · (intro W hW; have e := HIX.out W; go_simp; try with_reducible rfl)
      try simp only [Act.put, List.setIfInBounds_toArray, List.set_cons_zero, List.set_cons_succ]
      refine held_take 4 (v := .agg c.toArray) rfl (by kernel_rfl) (by kernel_rfl) (by kernel_rfl) (fun _ _ _ h => h) hHeld (by rfl) (fun W hW => exec_loadM isS _ rfl _ _ c rfl (hW.range (by simp) HRB.out) HCC.out) ?_
      try simp only [Act.put, List.setIfInBounds_toArray, List.set_cons_zero, List.set_cons_succ]
      refine held_next 1 rfl (by kernel_rfl) (by rfl) (fun K hK => ?_)
      go_simp
      go_at_call 104
      refine (HGA.out _ (RowKit.Below.refl _ w2).drew).mono ?_
      rintro _ w3 ⟨a3, c3, rfl, hb3, hl3, hn3, hbl3⟩
      have HB3 := Lib.hid (HB2d.out.trans (hbl3.mono HB2d.out.size))
      have HBA3 := Lib.hid hb3
      have HL3 := Lib.hid hl3
      have HN3 := Lib.hid hn3
      have HBL3 := Lib.hid hbl3
      clear hb3 hl3 hn3 hbl3
      refine hK.out _ _ ((fun i hi => by rw [List.mem_singleton.1 hi]; exact HBL3.out.block _ HBBL.out)) (fun hHeld => ?_)
      clear hK K
      try simp only [Act.put, List.setIfInBounds_toArray, List.set_cons_zero, List.set_cons_succ]
      refine held_next 5 rfl (by kernel_rfl) (by rfl) (fun K hK => ?_)
      go_simp
      go_at_call 94
      refine (HSO.out _).mono ?_
      rintro _ w4 ⟨rfl, hb4⟩
      have HB4 := Lib.hid (HB3.out.trans (hb4.mono HB3.out.size))
      have HBA4 := Lib.hid (HBA3.out.below hb4)
      have HBL4 := Lib.hid (HBL3.out.trans (hb4.mono HBL3.out.size))
      clear hb4
      refine hK.out _ _ ((fun i hi => by rw [List.mem_singleton.1 hi]; exact HBL4.out.block _ HBBL.out)) (fun hHeld => ?_)
      clear hK K
      try simp only [Act.put, List.setIfInBounds_toArray, List.set_cons_zero, List.set_cons_succ]
      refine held_take 6 (v := ?_) rfl (by kernel_rfl) (by kernel_rfl) (by kernel_rfl) (fun _ _ _ h => h) hHeld (by rfl) ?_ ?_
      rotate_left
      · (intro W hW; go_simp; try with_reducible rfl)
      try simp only [Act.put, List.setIfInBounds_toArray, List.set_cons_zero, List.set_cons_succ]
      refine held_take 7 (v := ?_) rfl (by kernel_rfl) (by kernel_rfl) (by kernel_rfl) (fun _ _ _ h => h) hHeld (by rfl) ?_ ?_
      rotate_left
      · (intro W hW; go_simp; try with_reducible rfl)
      try simp only [Act.put, List.setIfInBounds_toArray, List.set_cons_zero, List.set_cons_succ]
      refine wpAnyH_done (by kernel_rfl) ?_ _
      go_simp
      have HLAY := Lib.hid (lay_any n b a3 b.length c3 w4 HNL.out HBA4.out rfl HL3.out)
      obtain ⟨K, hK⟩ : ∃ K, K = layL n b := ⟨_, rfl⟩
      have HK64 := Lib.hid (show ∀ s ∈ K, s.length = 64 by rw [hK]; exact layL_64 n b)
      have HKN := Lib.hid (show K.length ≤ 255 by rw [hK]; exact Nat.le_trans (layL_length_le n b) (spanN_le _))
      rw [← hK] at HLAY
      have HKE := Lib.hid hK
      clear hK
      go_wp2_with fail
      refine HLAY.out.mono ?_
      rintro _ w5 ⟨a5, c5, rfl, hli5, _, _, hb5⟩
      have HLI5 := Lib.hid hli5
      have HB5 := Lib.hid (HB4.out.trans (hb5.mono HB4.out.size))
      have HBL5 := Lib.hid (HBL4.out.trans (hb5.mono HBL4.out.size))
      have HBA5 := Lib.hid (HBA4.out.below hb5)
      have HEQ := Lib.hid (equal_any L K (some ⟨bb, ob, none⟩) a5 c2 c5 w5 (HLI.out.below ((RowKit.Below.refl _ w2).drew.trans (HBL5.out.mono (Nat.le_refl _)))) hli5 HL64.out HK64.out (by have := HLN.out; omega) (by have := HKN.out; omega))
      rw [← HM.out] at HEQ
      obtain ⟨q, hq⟩ : ∃ q, q = decide (L = K) := ⟨_, rfl⟩
      rw [← hq] at HEQ
      have HQ := Lib.hid hq
      clear hli5 hb5 hq HLAY
      go_wp2_with fail
      refine HEQ.out.mono ?_
      rintro _ w6 ⟨rfl, hb6⟩
      have HB6 := Lib.hid (HB5.out.trans (hb6.mono HB5.out.size))
      have HBA6 := Lib.hid (HBA5.out.below hb6)
      clear hb6
      cases q with
      | true =>
        have HR := Lib.hid (show RdRes (d.read x z) w (.returned (.tuple #[.slice a3 b.length c3, .int .u64 (n : Int), .int .i64 (M : Int), .int .i64 0])) w6 by
          have e : L = K := of_decide_eq_true HQ.out.symm
          rw [HRD.out]
          unfold readL
          rw [HHD.out, ← HBE.out, ← HNEQ.out, ← HKE.out, if_pos ⟨HNE.out, e⟩, ← HM.out]
          exact ⟨a3, c3, rfl, HBA6.out, HL3.out, HN3.out, HB6.out⟩)
        go_wp2
        (try simp only [Exit.inBlock, Exit.then])
        refine bodyPost_ret (results_tmp4 rfl _ _ _) rfl ?_
        exact HR.out
      | false =>
        have HR := Lib.hid (show RdRes (d.read x z) w (.returned (.tuple #[.slice none 0 0, .int .u64 0, .int .i64 0, .int .i64 91])) w6 by
          have e : ¬ L = K := of_decide_eq_false HQ.out.symm
          rw [HRD.out]
          unfold readL
          rw [HHD.out, ← HBE.out, ← HNEQ.out, ← HKE.out, if_neg (fun k => e k.2)]
          exact RdRes.no HB6.out)
        go_wp2
        (try simp only [Exit.inBlock, Exit.then])
        refine bodyPost_ret (results_tmp4 rfl _ _ _) rfl ?_
        exact HR.out
end Go.Proofs.YtdfbpaajkpnaeaaGreat

namespace Go.Proofs.YtdfbpaajkpnaeaaGreat
set_option maxRecDepth 100000
open Go.RowKit Go.Lib

/-- power, and no fuse -/
structure Up (d : Dk) : Prop where
  fu : d.fuse = -1
  dd : d.dead = false
theorem Up.live {d : Dk} (h : Up d) : d.live = true := by unfold Dk.live; rw [h.fu, h.dd]; rfl
theorem Up.spend {d : Dk} (h : Up d) : d.spend = d := by
  have e : (if 0 < d.fuse then d.fuse - 1 else d.fuse) = d.fuse := if_neg (by rw [h.fu]; omega)
  unfold Dk.spend; rw [if_pos h.live, e]
theorem Up.putE {d : Dk} (h : Up d) {x : Int} (hx : 0 ≤ x ∧ x < d.base.length) : d.putE x = 0 := by
  unfold Dk.putE; rw [if_pos (Dk.has_iff.2 hx), if_pos h.live]
theorem Up.put {d : Dk} (h : Up d) {x : Int} (hx : 0 ≤ x ∧ x < d.base.length) (s : Sec) : d.put x s = { d with queue := d.queue ++ [(x.toNat, s)] } := by
  unfold Dk.put; rw [if_pos (Dk.has_iff.2 hx), if_pos h.live, h.spend]
theorem Up.blank (n : Int) : Up (Dk.blank n) := ⟨rfl, rfl⟩
theorem Up.power (d : Dk) (l : List Int) : Up (d.power l) := ⟨rfl, rfl⟩
theorem Up.flush {d : Dk} (h : Up d) : d.flush = { d with base := stl (fun _ => 64) d.queue d.base d.queue.length, queue := [] } := by
  unfold Dk.flush; rw [if_pos h.live, h.spend]
def qsOf : Int → List Sec → List (Nat × Sec)
  | _, [] => []
  | x, s :: L => (x.toNat, s) :: qsOf (x + 1) L
theorem qsOf_length : ∀ (L : List Sec) (x : Int), (qsOf x L).length = L.length
  | [], _ => rfl
  | s :: L, x => by rw [qsOf, List.length_cons, List.length_cons, qsOf_length L]
theorem qsOf_get : ∀ (L : List Sec) (x : Int) (i : Nat), i < L.length → (qsOf x L)[i]? = some ((x + (i : Int)).toNat, L.getD i [])
  | [], _, i, h => by simp at h
  | s :: L, x, 0, _ => by simp [qsOf]
  | s :: L, x, i + 1, h => by
    rw [qsOf, List.getElem?_cons_succ, qsOf_get L (x + 1) i (by simpa using h), show x + 1 + (i : Int) = x + ((i + 1 : Nat) : Int) by omega]
    rfl
theorem putAll_up : ∀ (L : List Sec) (d : Dk) (x : Int), Up d → 0 ≤ x → x + (L.length : Int) ≤ d.base.length → putAll d x L = ({ d with queue := d.queue ++ qsOf x L }, 0)
  | [], d, x, _, _, _ => by simp [putAll, qsOf]
  | s :: L, d, x, h, h0, h1 => by
    rw [List.length_cons] at h1
    have hx : 0 ≤ x ∧ x < (d.base.length : Int) := by omega
    have hu : Up { d with queue := d.queue ++ [(x.toNat, s)] } := ⟨h.fu, h.dd⟩
    rw [putAll, if_pos (h.putE hx), h.put hx, putAll_up L _ (x + 1) hu (by omega) (by show x + 1 + (L.length : Int) ≤ d.base.length; omega)]
    simp [qsOf]
theorem ofQ_qs : ∀ (L : List Sec) (x y : Int), 0 ≤ x → ofQ (qsOf x L) y = if x ≤ y ∧ y < x + (L.length : Int) then [L.getD (y - x).toNat []] else []
  | [], x, y, _ => by rw [qsOf, if_neg (by simp)]; rfl
  | s :: L, x, y, h => by
    rw [qsOf, ofQ_cons, ofQ_qs L (x + 1) y (by omega)]
    have ex : ((x.toNat : Nat) : Int) = x := by omega
    by_cases e : y = x
    · subst e
      have := ofQ_one_same ((y.toNat, s) : Nat × Sec)
      rw [ex] at this
      rw [this, if_neg (by omega), if_pos (by rw [List.length_cons]; omega), Int.sub_self]
      simp
    · rw [ofQ_one_other ((x.toNat, s) : Nat × Sec) (by rw [ex]; exact e), List.nil_append]
      by_cases h2 : x + 1 ≤ y ∧ y < x + 1 + (L.length : Int)
      · rw [if_pos h2, if_pos (by rw [List.length_cons]; omega), show (y - x).toNat = (y - (x + 1)).toNat + 1 by omega]
        simp
      · rw [if_neg h2, if_neg (by rw [List.length_cons]; omega)]
theorem at_qs {d : Dk} {L : List Sec} {x : Int} (h0 : 0 ≤ x) (h1 : x + (L.length : Int) ≤ d.base.length) (y : Int) :
    Dk.at_ { d with queue := d.queue ++ qsOf x L } y = if x ≤ y ∧ y < x + (L.length : Int) then L.getD (y - x).toNat [] else d.at_ y := by
  unfold Dk.at_
  simp only [ofQ_app, ofQ_qs L x y h0]
  by_cases h : x ≤ y ∧ y < x + (L.length : Int)
  · rw [if_pos h, if_pos (by omega), if_pos h]
    simp
  · rw [if_neg h, if_neg h, List.append_nil]
theorem write_up {d : Dk} (h : Up d) {x : Int} {n : Nat} {l : List UInt8} (hn : n ≠ 0) (hl : l.length ≤ 13515) (h0 : 0 ≤ x) (h1 : x + (spanN l.length : Int) ≤ d.base.length) :
    d.write x n l = ({ d with queue := d.queue ++ qsOf x (secs n l) }, 0) := by
  have e : layL n l = secs n l := if_neg hn
  have hs := spanN_pos hl
  unfold Dk.write
  rw [e, if_neg (by rw [secs_length]; omega), if_neg (by rw [secs_length]; omega), putAll_up _ _ _ h h0 (by rw [secs_length]; exact h1)]
theorem secs_getD {n : Nat} {l : List UInt8} {i : Nat} (h : i < spanN l.length) : (secs n l).getD i [] = secOf n l i := by rw [List.getD, secs_get h]; rfl
/-- n and l stand at x -/
def Stand (d : Dk) (x : Int) (n : Nat) (l : List UInt8) : Prop := ∀ i, i < spanN l.length → d.at_ (x + (i : Int)) = secOf n l i
theorem many_sec {n : Nat} {l : List UInt8} {i : Nat} : manyAt (secOf n l i) = spanN l.length := by
  have : (secOf n l i).getD 1 0 = UInt8.ofNat (spanN l.length) := by simp [secOf, mkS]
  have h2 := spanN_le l.length
  unfold manyAt
  rw [this, UInt8.toNat_ofNat']
  omega
theorem Stand.stands {d : Dk} {x z : Int} {n : Nat} {l : List UInt8} (h : Stand d x n l) (hl : l.length ≤ 13515) (hz : x + (spanN l.length : Int) ≤ z) : d.stands x z = secs n l := by
  have hs := spanN_pos hl
  have h0 := h 0 (by omega)
  rw [show x + ((0 : Nat) : Int) = x by omega] at h0
  unfold Dk.stands
  rw [if_neg (by omega), h0, many_sec, if_neg (by omega)]
  unfold Dk.secsAt secs
  exact List.map_congr_left fun i hi => h i (List.mem_range.1 hi)
theorem Stand.read {d : Dk} {x z : Int} {n : Nat} {l : List UInt8} (h : Stand d x n l) (hl : l.length ≤ 13515) (hn : n ≠ 0) (hn2 : n < 18446744073709551616) (h0 : 0 ≤ x) (hz : x + (spanN l.length : Int) ≤ z) (hz2 : z ≤ d.base.length) : d.read x z = ⟨l, n, spanN l.length, 0⟩ := by
  unfold Dk.read
  rw [if_neg (by omega), h.stands hl hz, readL_secs hl hn hn2]
theorem Stand.written {d : Dk} {x : Int} {n : Nat} {l : List UInt8} (h0 : 0 ≤ x) (h1 : x + (spanN l.length : Int) ≤ d.base.length) : Stand { d with queue := d.queue ++ qsOf x (secs n l) } x n l := fun i hi => by
  rw [at_qs h0 (by rw [secs_length]; exact h1), if_pos (by rw [secs_length]; omega), show x + (i : Int) - x = i by omega, Int.toNat_natCast, secs_getD hi]
theorem written_read {d : Dk} {x z : Int} {n : Nat} {l : List UInt8} (hl : l.length ≤ 13515) (hn : n ≠ 0) (hn2 : n < 18446744073709551616) (h0 : 0 ≤ x) (hz : x + (spanN l.length : Int) ≤ z) (hz2 : z ≤ d.base.length) :
    Dk.read { d with queue := d.queue ++ qsOf x (secs n l) } x z = ⟨l, n, spanN l.length, 0⟩ :=
  Stand.read (d := { d with queue := d.queue ++ qsOf x (secs n l) }) (Stand.written h0 (by omega)) hl hn hn2 h0 hz hz2
end Go.Proofs.YtdfbpaajkpnaeaaGreat

namespace Go.Proofs.YtdfbpaajkpnaeaaGreat
set_option maxRecDepth 100000
open Go.RowKit Go.Lib

/-- the greatest of k stamps -/
def topN (d : Dk) (x : Int) : Nat → Nat
  | 0 => 0
  | k + 1 => max (topN d x k) (stN (d.at_ (x + (k : Int))))
theorem topN_lt {d : Dk} (h : d.Ok) (x : Int) : ∀ k, topN d x k < 18446744073709551616
  | 0 => by show 0 < _; omega
  | k + 1 => by
    have h1 := topN_lt h x k
    have h2 := stN_lt (at_len h (x + (k : Int)))
    show max _ _ < _
    omega
theorem topN_le {d : Dk} {x : Int} : ∀ {k i : Nat}, i < k → stN (d.at_ (x + (i : Int))) ≤ topN d x k
  | k + 1, i, h => by
    show _ ≤ max _ _
    by_cases e : i = k
    · subst e; exact Nat.le_max_right _ _
    · have := topN_le (d := d) (x := x) (k := k) (i := i) (by omega)
      exact Nat.le_trans this (Nat.le_max_left _ _)
def Dk.top (d : Dk) (x z : Int) : Nat × Int := if z ≤ x then (0, 0) else if x < 0 ∨ (d.base.length : Int) < z then (0, 81) else (topN d x (z - x).toNat, 0)
theorem norm_topN (d : Dk) (x : Int) : ∀ k, topN d.norm x k = topN d x k
  | 0 => rfl
  | k + 1 => by show max _ _ = max _ _; rw [norm_topN d x k, norm_at]
theorem norm_top (d : Dk) (x z : Int) : d.norm.top x z = d.top x z := by
  unfold Dk.top
  rw [norm_topN]
  rfl
def TopRes (t : Nat × Int) (w : World) (e : Ending) (w' : World) : Prop := e = .returned (.tuple #[.int .u64 (t.1 : Int), .int .i64 t.2]) ∧ RowKit.Below w.heap.size w w'
set_option maxRecDepth 100000 in
set_option maxHeartbeats 3200000 in
theorem top_any (g : Nat) (F : Nat → Prop) (d : Dk) (x z : Int) (w : World) (h : DAt w F g d) (hx : I x) (hz : I z) :
    Calls Tryz.prog 72 #[.pointer (some ⟨g, 0, none⟩), .int .i64 x, .int .i64 z] w (TopRes (d.top x z) w) := by
  have HD := Lib.hid h
  have hsz := h.ok.sz
  obtain ⟨N, hN⟩ : ∃ N, N = d.base.length := ⟨_, rfl⟩
  have HN := Lib.hid hN
  rw [← hN] at hsz
  have HX := Lib.hid hx
  have HZ := Lib.hid hz
  have HSZ := Lib.hid hsz
  clear h hN hx hz hsz
  go_enter Tryz.func72, Tryz.ntmps72
  go_wp2
  go_loopw [8, 9] (fun c8 c9 wr => ∃ (k : Nat) (y : Int), c8 = .int .u64 ((topN d x k : Nat) : Int) ∧ c9 = .int .i64 y ∧ y = x + (k : Int) ∧ (k = 0 ∨ (0 ≤ x ∧ y ≤ (N : Int) ∧ y ≤ z)) ∧ RowKit.Below w.heap.size w wr) (fun _ c9 _ => (z - (match c9 with | .int _ q => q | _ => 0)).toNat)
  case atStart => exact ⟨0, x, rfl, rfl, by omega, Or.inl rfl, RowKit.Below.refl _ _⟩
  case round =>
    obtain ⟨k, y, rfl, rfl, hy, hk, hbl⟩ := hrel
    have HY := Lib.hid hy
    have HK := Lib.hid hk
    have HBL := Lib.hid hbl
    obtain ⟨a, ha⟩ : ∃ a, a = topN d x k := ⟨_, rfl⟩
    rw [← ha]
    have HA := Lib.hid ha
    have hal : a < 18446744073709551616 := by rw [ha]; exact topN_lt HD.out.ok x k
    have HAL := Lib.hid hal
    clear hy hk hbl ha hal
    by_cases hyz : y < z
    · have d0 : decide (y < z) = true := by simpa using hyz
      have HYZ := Lib.hid hyz
      have hyI : I y := by obtain ⟨q1, q2⟩ := HX.out; obtain ⟨q3, q4⟩ := HZ.out; have := HY.out; unfold I; omega
      have HG := Lib.hid (get_any g F d y wr (HD.out.below HBL.out) hyI)
      obtain ⟨s, hs⟩ : ∃ s, s = d.at_ y := ⟨_, rfl⟩
      have hsl : s.length = 64 := by rw [hs]; exact at_len HD.out.ok y
      obtain ⟨c, hc⟩ : ∃ c, c = bcells s := ⟨_, rfl⟩
      have HCC := Lib.hid (show Cs 64 c by rw [hc]; exact cs_sec hsl)
      unfold GetRes at HG
      rw [← hs, ← hc] at HG
      by_cases hh : d.has y = true
      · rw [hh, if_pos rfl] at HG
        obtain ⟨b, hb⟩ : ∃ b, b = stN s := ⟨_, rfl⟩
        have HST := Lib.hid (fun W => stampOf_any s hsl W)
        rw [← hc, ← hb] at HST
        have HH := Lib.hid (Dk.has_iff.1 hh)
        rw [← HN.out] at HH
        have HNX := Lib.hid (show topN d x (k + 1) = max a b by show max _ _ = _; rw [← HA.out, hb, hs, HY.out])
        have hbl : b < 18446744073709551616 := by rw [hb]; exact stN_lt hsl
        have HYB := Lib.hid (show -1 ≤ y ∧ y ≤ 2048 by have := HH.out; have := HSZ.out; omega)
        clear hyz hyI hs hsl hc hh hb
        go_wp2_with fail
        refine HG.out.mono ?_
        rintro _ w1 ⟨rfl, hb1⟩
        have HB1 := Lib.hid (HBL.out.trans (hb1.mono HBL.out.size))
        have HAL1 := Lib.hid (heap_alloc_new w1 (.cells zc.toArray 88))
        obtain ⟨w2, hw2⟩ : ∃ w2, w2 = w1.alloc (.cells c.toArray 88) := ⟨_, rfl⟩
        have HW2 := Lib.hid (show (w1.alloc (.cells zc.toArray 88)).setRow w1.heap.size c.toArray = w2 by rw [hw2]; exact setRow_new rfl)
        have HP2 := Lib.hid (show w2.heap[w1.heap.size]? = some (.cells c.toArray 88) by rw [hw2]; exact blkn rfl)
        have HB2 := Lib.hid (show RowKit.Below w.heap.size w w2 by rw [hw2]; exact HB1.out.alloc HB1.out.size _)
        clear hb1 hw2 HG
        go_wp2_with (first | ((with_reducible refine wpList_storeW rfl isS _ _ rfl w1.heap.size c zc.toArray _ rfl rfl HAL1.out HCC.out (by simp [zc_len]) ?_); rw [HW2.out]) | (with_reducible refine wpList_allocA rfl isS rfl ?_) | (with_reducible refine wpList_loadW rfl isS _ rfl w1.heap.size c _ rfl HP2.out HCC.out ?_))
        refine (HST.out _).mono ?_
        rintro _ w3 ⟨rfl, hb3⟩
        have HB3 := Lib.hid (HB2.out.trans (hb3.mono HB2.out.size))
        have hal := HAL.out
        obtain ⟨hy1, hy2⟩ := HYB.out
        clear hb3 HST
        by_cases hab : (a : Int) < (b : Int)
        · have HM := Lib.hid (show topN d x (k + 1) = b by rw [HNX.out]; omega)
          go_wp2
          go_roundw
          case rel => exact ⟨k + 1, y + 1, by rw [HM.out], by go_num, by have := HY.out; omega, Or.inr (by have := HH.out; have := HYZ.out; have := HK.out; have := HY.out; omega), HB3.out⟩
          case measure => simp; have := HYZ.out; omega
        · have HM := Lib.hid (show topN d x (k + 1) = a by rw [HNX.out]; omega)
          have hab' : (b : Int) ≤ (a : Int) := by omega
          clear hab
          go_wp2
          go_roundw
          case rel => exact ⟨k + 1, y + 1, by rw [HM.out], by go_num, by have := HY.out; omega, Or.inr (by have := HH.out; have := HYZ.out; have := HK.out; have := HY.out; omega), HB3.out⟩
          case measure => simp; have := HYZ.out; omega
      · rw [if_neg hh] at HG
        have HT := Lib.hid (show d.top x z = (0, 81) by
          have h1 : ¬ (0 ≤ y ∧ y < (N : Int)) := fun e => hh (Dk.has_iff.2 (by rw [← HN.out]; exact e))
          have := HY.out
          have := HK.out
          unfold Dk.top
          rw [if_neg (by omega), if_pos (by rw [← HN.out]; omega)])
        clear hyz hyI hs hsl hc hh
        go_wp2_with fail
        refine HG.out.mono ?_
        rintro _ w1 ⟨rfl, hb1⟩
        have HB1 := Lib.hid (HBL.out.trans (hb1.mono HBL.out.size))
        have HAL1 := Lib.hid (heap_alloc_new w1 (.cells zc.toArray 88))
        obtain ⟨w2, hw2⟩ : ∃ w2, w2 = w1.alloc (.cells c.toArray 88) := ⟨_, rfl⟩
        have HW2 := Lib.hid (show (w1.alloc (.cells zc.toArray 88)).setRow w1.heap.size c.toArray = w2 by rw [hw2]; exact setRow_new rfl)
        have HB2 := Lib.hid (show RowKit.Below w.heap.size w w2 by rw [hw2]; exact HB1.out.alloc HB1.out.size _)
        clear hb1 hw2 HG
        go_wp2_with (first | ((with_reducible refine wpList_storeW rfl isS _ _ rfl w1.heap.size c zc.toArray _ rfl rfl HAL1.out HCC.out (by simp [zc_len]) ?_); rw [HW2.out]) | (with_reducible refine wpList_allocA rfl isS rfl ?_))
        try rw [Exit.noGoto_ret]
        go_ret2
        unfold TopRes
        rw [HT.out]
        exact ⟨rfl, HB2.out⟩
    · have d0 : decide (y < z) = false := by simpa using hyz
      have HT := Lib.hid (show d.top x z = (a, 0) by
        have := HY.out
        unfold Dk.top
        rcases HK.out with h | ⟨h1, h2, h3⟩
        · subst h
          rw [if_pos (by omega), HA.out]; rfl
        · by_cases hk0 : k = 0
          · subst hk0
            rw [if_pos (by omega), HA.out]; rfl
          · rw [if_neg (by omega), if_neg (by rw [← HN.out]; omega), HA.out]
            rw [show (z - x).toNat = k by omega])
      clear hyz
      go_wp2
      go_ret2
      unfold TopRes
      rw [HT.out]
      exact ⟨rfl, HBL.out⟩
end Go.Proofs.YtdfbpaajkpnaeaaGreat
