/- The walk of falseworklaw08.DiskBurns. -/
import Derived.Test.YtcboknigjpdmpaaDkX
import Derived.Test.YtcboknigjpdmpaaCame
namespace Go.Proofs.Ytcboknigjpdmpaa
open Go.RowKit Go.Lib

/-- what is known of a disk whose fuse burns -/
structure BI (d : Dk) (L : Int) (k : Nat) : Prop where
  bl : d.base.length = 2
  qn : d.queue.length ≤ k
  fu : d.fuse = L
  dd : d.dead = true → L = 0
  l0 : 0 ≤ L
theorem BI.dead_of {d : Dk} {L : Int} {k : Nat} (h : BI d L k) (hL : 0 < L) : d.dead = false := by
  cases hd : d.dead with
  | true => have := h.dd hd; omega
  | false => rfl
theorem BI.live_no {d : Dk} {k : Nat} (h : BI d 0 k) : d.live = false := by unfold Dk.live; rw [h.fu]; simp
theorem BI.live_yes {d : Dk} {L : Int} {k : Nat} (h : BI d L k) (hL : 0 < L) : d.live = true := by
  unfold Dk.live; rw [h.fu, h.dead_of hL, show (L == 0) = false by simp; omega]; rfl
theorem BI.spend_no {d : Dk} {k : Nat} (h : BI d 0 k) : d.spend = { d with dead := true } := by unfold Dk.spend; rw [h.live_no]; rfl
theorem BI.spend_yes {d : Dk} {L : Int} {k : Nat} (h : BI d L k) (hL : 0 < L) : d.spend = { d with fuse := L - 1 } := by unfold Dk.spend; rw [h.live_yes hL, if_pos rfl, h.fu, if_pos hL]
theorem BI.flush_no {d : Dk} {k : Nat} (h : BI d 0 k) : d.actE = 82 ∧ d.flush.dead = true ∧ BI d.flush 0 (k + 1) := by
  have e : d.flush = { d with dead := true } := by unfold Dk.flush; rw [h.live_no]; exact h.spend_no
  refine ⟨by unfold Dk.actE; rw [h.live_no]; rfl, by rw [e], ?_⟩
  rw [e]
  exact ⟨h.bl, Nat.le_succ_of_le h.qn, h.fu, fun _ => rfl, h.l0⟩
theorem BI.flush_yes {d : Dk} {L : Int} {k : Nat} (h : BI d L k) (hL : 0 < L) : d.actE = 0 ∧ d.flush.dead = false ∧ BI d.flush (L - 1) (k + 1) := by
  have e : d.flush = { { d with fuse := L - 1 } with base := stl (fun _ => 64) d.queue d.base d.queue.length, queue := [] } := by unfold Dk.flush; rw [h.live_yes hL, h.spend_yes hL]; rfl
  refine ⟨by unfold Dk.actE; rw [h.live_yes hL]; rfl, by rw [e]; exact h.dead_of hL, ?_⟩
  rw [e]
  exact ⟨(stl_len _ _ _ _).trans h.bl, Nat.zero_le _, rfl, fun hd => absurd ((h.dead_of hL).symm.trans hd) (by decide), by show 0 ≤ L - 1; omega⟩
theorem BI.has1 {d : Dk} {L : Int} {k : Nat} (h : BI d L k) : d.has 1 = true := Dk.has_iff.2 (by rw [h.bl]; omega)
theorem BI.put_no {d : Dk} {k : Nat} {s : Sec} (h : BI d 0 k) : d.putE 1 = 82 ∧ (d.put 1 s).dead = true ∧ BI (d.put 1 s) 0 (k + 1) := by
  have e : d.put 1 s = { d with dead := true } := by unfold Dk.put; rw [h.has1, h.live_no]; exact h.spend_no
  refine ⟨by unfold Dk.putE; rw [h.has1, h.live_no]; rfl, by rw [e], ?_⟩
  rw [e]
  exact ⟨h.bl, Nat.le_succ_of_le h.qn, h.fu, fun _ => rfl, h.l0⟩
theorem BI.put_yes {d : Dk} {L : Int} {k : Nat} {s : Sec} (h : BI d L k) (hL : 0 < L) : d.putE 1 = 0 ∧ (d.put 1 s).dead = false ∧ BI (d.put 1 s) (L - 1) (k + 1) := by
  have e : d.put 1 s = { { d with fuse := L - 1 } with queue := d.queue ++ [((1 : Int).toNat, s)] } := by unfold Dk.put; rw [h.has1, h.live_yes hL, h.spend_yes hL]; rfl
  refine ⟨by unfold Dk.putE; rw [h.has1, h.live_yes hL]; rfl, by rw [e]; exact h.dead_of hL, ?_⟩
  rw [e]
  exact ⟨h.bl, by show (d.queue ++ _).length ≤ _; rw [List.length_append]; exact Nat.succ_le_succ h.qn, rfl, fun hd => absurd ((h.dead_of hL).symm.trans hd) (by decide), by show 0 ≤ L - 1; omega⟩
theorem BI.put_out {d : Dk} {L : Int} {k : Nat} {s : Sec} (h : BI d L k) {x : Int} (hx : 2 ≤ x) : d.putE x = 81 ∧ d.put x s = d ∧ BI d L (k + 1) := by
  have e : d.has x = false := by unfold Dk.has; rw [h.bl]; simp; omega
  exact ⟨by unfold Dk.putE; rw [e]; rfl, by unfold Dk.put; rw [e]; rfl, h.bl, Nat.le_succ_of_le h.qn, h.fu, h.dd, h.l0⟩
theorem RAt.int_at {w w' : World} {a : Option Addr} {l : List Int} (h : RAt (Value.int .i64) w a l) (hb : RowKit.Below w.heap.size w w') {k : Nat} (hk : k < l.length) : ∃ b off, a = some ⟨b, off, none⟩ ∧ w'.cell? ⟨b, off + k, none⟩ = some (.int .i64 (l.getD k 0)) := by
  obtain ⟨b, off, ha, hc⟩ := (h.below hb).at_ (k := k) (x := l.getD k 0) (by rw [List.getD, List.getElem?_eq_getElem hk]; rfl)
  exact ⟨b, off, ha, hc⟩
theorem wf_I {n : Int} (h : (Lit.int .i64 n).wf = true) : I n := by
  simp [Lit.wf] at h
  have h1 : IntKind.i64.min = -9223372036854775808 := by decide
  have h2 : IntKind.i64.max = 9223372036854775807 := by decide
  unfold I; omega
set_option maxRecDepth 100000 in
set_option maxHeartbeats 6400000 in
theorem diskBurns_walk (w : World) (acts : Int) (hw0 : (Lit.int .i64 acts).wf = true) (a1 : Option Addr) (n1 c1 : Nat) (l : List Int) (hl : Came (Value.int .i64) w a1 n1 c1 l ∧ ∀ n ∈ l, (Lit.int .i64 n).wf = true) :
    Calls Try.prog 6 #[.int .i64 acts, .slice a1 n1 c1] w fun e w' => e = .returned (.bool true) ∧ RowKit.Below w.heap.size w w' := by
  obtain ⟨hcame, hwf⟩ := hl
  have hI := wf_I hw0
  have HCAME := Lib.hid hcame
  have HWF := Lib.hid (fun k (hk : k < l.length) => wf_I (hwf _ (getD_mem (x := (0 : Int)) hk)))
  have A := Lib.hid (alive_any w)
  have HI := Lib.hid hI
  clear hw0 hcame hwf hI
  go_enter Try.func6, Try.ntmps6
  go_wp2_with fail
  refine A.out.mono ?_
  rintro _ w0 ⟨rfl, hb0⟩
  have HB0 := Lib.hid hb0
  clear hb0 A
  have hcs : acts < 0 ∨ (0 ≤ acts ∧ 50 < n1) ∨ (0 ≤ acts ∧ n1 ≤ 50) := by omega
  rcases hcs with h | ⟨h, h2⟩ | ⟨h, h2⟩
  · have d0 : decide (acts < 0) = true := by simpa using h
    clear h
    go_wp2
    go_ret
    exact ⟨rfl, HB0.out⟩
  · have d0 : decide (acts < 0) = false := by simp; omega
    have d1 : decide ((50 : Int) < (n1 : Int)) = true := by simp; omega
    clear h h2
    go_wp2
    go_ret
    exact ⟨rfl, HB0.out⟩
  · have d0 : decide (acts < 0) = false := by simp; omega
    have d1 : decide ((50 : Int) < (n1 : Int)) = false := by simp; omega
    have HL0 := Lib.hid h
    have HN := Lib.hid h2
    have B := Lib.hid (blank_any 2 w0)
    clear h h2
    go_wp2_with fail
    refine B.out.mono ?_
    rintro _ w1 ⟨g, F, rfl, hd, hb, hf⟩
    have HB1 := Lib.hid (HB0.out.trans (hb.mono HB0.out.size))
    have HF := Lib.hid (show ∀ i, F i → w.heap.size ≤ i from fun i hi => Nat.le_trans HB0.out.size (hf i hi))
    have HFU := Lib.hid (fuse_any g F _ acts w1 hd HI.out)
    clear hd hb hf B
    go_wp2_with fail
    refine HFU.out.mono ?_
    rintro _ w2 ⟨rfl, F2, hd2, ho2, hf2⟩
    have HS := Lib.hid (show ∃ F d, DAt w2 F g d ∧ BI d acts 0 ∧ (∀ i, F i → w.heap.size ≤ i) ∧ RowKit.Below w.heap.size w w2 from ⟨F2, _, hd2, ⟨rfl, Nat.zero_le _, rfl, (fun e => by cases e), HL0.out⟩, fun i hi => (hf2 i hi).elim (HF.out i) fun e => Nat.le_trans HB1.out.size e, ho2.below HB1.out HF.out HB1.out.size⟩)
    have hn50 := HN.out
    clear hd2 ho2 hf2 HFU d0 d1
    go_wp2_with fail
    go_loopw [6, 28] (fun c6 c28 wr => ∃ (k : Nat) (L : Int), c6 = .int .i64 L ∧ I L ∧ c28 = .int .i64 (k : Int) ∧ k ≤ n1 ∧ ∃ F d, DAt wr F g d ∧ BI d L k ∧ (∀ i, F i → w.heap.size ≤ i) ∧ RowKit.Below w.heap.size w wr) (fun _ c28 _ => n1 - (match c28 with | .int _ q => q | _ => 0).toNat)
    case atStart => exact ⟨0, acts, rfl, HI.out, rfl, Nat.zero_le _, HS.out⟩
    case round =>
      obtain ⟨k, L, rfl, hLI, rfl, hk, F, d, hd, hbi, hf, hbw⟩ := hrel
      have HD := Lib.hid hd
      have HBI := Lib.hid hbi
      have HFF := Lib.hid hf
      have HBW := Lib.hid hbw
      have HLI := Lib.hid hLI
      have hqn : d.queue.length < 1000 := by have := hbi.qn; omega
      have HFLU := Lib.hid (flush_any g F d wr hd)
      have HPUT := Lib.hid (fun (x : Int) (hx : I x) (W : World) (hb : RowKit.Below wr.heap.size wr W) => put_any g F d x (paint 5) W (hd.below hb) hx (paint_len 5) hqn)
      have HPA := Lib.hid (painted_any 5 wr)
      have HPOST := Lib.hid (show ∀ (W w9 : World) (d9 : Dk) (L9 : Int), RowKit.Below wr.heap.size wr W → Did g F d9 W w9 → BI d9 L9 (k + 1) → ∃ F d, DAt w9 F g d ∧ BI d L9 (k + 1) ∧ (∀ i, F i → w.heap.size ≤ i) ∧ RowKit.Below w.heap.size w w9 from fun W w9 d9 L9 hb ⟨F', h1, h2, h3⟩ h4 =>
        have hbw2 := HBW.out.trans (hb.mono HBW.out.size)
        ⟨F', d9, h1, h4, fun i hi => (h3 i hi).elim (HFF.out i) fun e => Nat.le_trans hbw2.size e, h2.below hbw2 HFF.out hbw2.size⟩)
      have hbi0 := hbi.l0
      clear hd hbi hf hbw hLI hqn
      by_cases hlt : k < n1
      · have HKL := Lib.hid hlt
        obtain ⟨b, off, ha1, hxv⟩ := HCAME.out.row.int_at HBW.out (k := k) (by rw [HCAME.out.ln]; exact hlt)
        have hxI := HWF.out k (by rw [HCAME.out.ln]; exact hlt)
        obtain ⟨x, hx⟩ : ∃ x, x = l.getD k 0 := ⟨_, rfl⟩
        rw [← hx] at hxv hxI
        have HXI := Lib.hid hxI
        have HFL0 := Lib.hid (show L = 0 → d.actE = 82 ∧ d.flush.dead = true ∧ BI d.flush 0 (k + 1) from fun e => (by rw [e] at HBI; exact HBI.out.flush_no))
        have HPU0 := Lib.hid (show L = 0 → d.putE 1 = 82 ∧ (d.put 1 (paint 5)).dead = true ∧ BI (d.put 1 (paint 5)) 0 (k + 1) from fun e => (by rw [e] at HBI; exact HBI.out.put_no))
        subst ha1
        clear hx hxI
        have hL : L = 0 ∨ L = 1 ∨ 1 < L := by omega
        have hX : x = 0 ∨ x = 1 ∨ (x ≠ 0 ∧ x ≠ 1) := by omega
        rcases hX with rfl | rfl | ⟨hx0, hx1⟩
        · rcases hL with rfl | rfl | hL
          · obtain ⟨hE, hDD, hB⟩ := HFL0.out rfl
            have hL9 : ((0 : Int)) = 0 := rfl
            have HE := Lib.hid hE
            have HDD := Lib.hid hDD
            have HBB := Lib.hid hB
            clear hE hDD hB hL9
            go_wp2_with fail
            refine HFLU.out.mono ?_
            rintro _ w9 ⟨rfl, hdid⟩
            rw [HE.out]
            have HDE := Lib.hid (fun (F' : Nat → Prop) (h : DAt w9 F' g (d.flush)) => dead_at g F' _ w9 h)
            have HDID := Lib.hid hdid
            clear hdid
            obtain ⟨F9, h91, h92, h93⟩ := HDID.out
            have HD9 := Lib.hid h91
            clear h91 h92 h93
            go_wp2_with fail
            refine (HDE.out F9 HD9.out).mono ?_
            rintro _ _ ⟨rfl, rfl⟩
            rw [HDD.out]
            go_wp2_with fail
            go_roundw
            case rel => exact ⟨k + 1, 0, rfl, by unfold I; omega, by go_num, by have := HKL.out; omega, HPOST.out _ _ _ _ (RowKit.Below.refl _ _) HDID.out HBB.out⟩
            case measure => simp; have := HKL.out; omega
          · obtain ⟨hE, hDD, hB⟩ := HBI.out.flush_yes (by omega)
            have HE := Lib.hid hE
            have HDD := Lib.hid hDD
            have HBB := Lib.hid hB
            clear hE hDD hB
            go_wp2_with fail
            refine HFLU.out.mono ?_
            rintro _ w9 ⟨rfl, hdid⟩
            rw [HE.out]
            have HDE := Lib.hid (fun (F' : Nat → Prop) (h : DAt w9 F' g (d.flush)) => dead_at g F' _ w9 h)
            have HDID := Lib.hid hdid
            clear hdid
            obtain ⟨F9, h91, h92, h93⟩ := HDID.out
            have HD9 := Lib.hid h91
            clear h91 h92 h93
            go_wp2_with fail
            refine (HDE.out F9 HD9.out).mono ?_
            rintro _ _ ⟨rfl, rfl⟩
            rw [HDD.out]
            go_wp2_with fail
            go_roundw
            case rel => exact ⟨k + 1, 0, rfl, by unfold I; omega, by go_num, by have := HKL.out; omega, HPOST.out _ _ _ _ (RowKit.Below.refl _ _) HDID.out (by simpa using HBB.out)⟩
            case measure => simp; have := HKL.out; omega
          · obtain ⟨hE, hDD, hB⟩ := HBI.out.flush_yes (by omega)
            have r1 : IntKind.i64.wrap (L - 1) = L - 1 := IntWalk.i64_in _ (by obtain ⟨q1, q2⟩ := HLI.out; omega)
            have d5 : decide (0 < L) = true := by simp; omega
            have d7 : (L == 0) = false := by simp; omega
            have HE := Lib.hid hE
            have HDD := Lib.hid hDD
            have HBB := Lib.hid hB
            clear hE hDD hB
            go_wp2_with fail
            refine HFLU.out.mono ?_
            rintro _ w9 ⟨rfl, hdid⟩
            rw [HE.out]
            have HDE := Lib.hid (fun (F' : Nat → Prop) (h : DAt w9 F' g (d.flush)) => dead_at g F' _ w9 h)
            have HDID := Lib.hid hdid
            clear hdid
            obtain ⟨F9, h91, h92, h93⟩ := HDID.out
            have HD9 := Lib.hid h91
            clear h91 h92 h93
            go_wp2_with fail
            refine (HDE.out F9 HD9.out).mono ?_
            rintro _ _ ⟨rfl, rfl⟩
            rw [HDD.out]
            go_wp2_with fail
            go_roundw
            case rel => exact ⟨k + 1, L - 1, rfl, (by obtain ⟨q1, q2⟩ := HLI.out; unfold I; omega), by go_num, by have := HKL.out; omega, HPOST.out _ _ _ _ (RowKit.Below.refl _ _) HDID.out HBB.out⟩
            case measure => simp; have := HKL.out; omega
        · rcases hL with rfl | rfl | hL
          · obtain ⟨hE, hDD, hB⟩ := HPU0.out rfl
            have hL9 : ((0 : Int)) = 0 := rfl
            have HE := Lib.hid hE
            have HDD := Lib.hid hDD
            have HBB := Lib.hid hB
            clear hE hDD hB hL9
            go_wp2_with fail
            refine HPA.out.mono ?_
            rintro _ wp ⟨rfl, hbp⟩
            have HBP := Lib.hid hbp
            clear hbp
            go_wp2_with fail
            refine (HPUT.out 1 (by unfold I; omega) wp HBP.out).mono ?_
            rintro _ w9 ⟨rfl, hdid⟩
            rw [HE.out]
            have HDE := Lib.hid (fun (F' : Nat → Prop) (h : DAt w9 F' g (d.put 1 (paint 5))) => dead_at g F' _ w9 h)
            have HDID := Lib.hid hdid
            clear hdid
            obtain ⟨F9, h91, h92, h93⟩ := HDID.out
            have HD9 := Lib.hid h91
            clear h91 h92 h93
            go_wp2_with fail
            refine (HDE.out F9 HD9.out).mono ?_
            rintro _ _ ⟨rfl, rfl⟩
            rw [HDD.out]
            go_wp2_with fail
            go_roundw
            case rel => exact ⟨k + 1, 0, rfl, by unfold I; omega, by go_num, by have := HKL.out; omega, HPOST.out _ _ _ _ HBP.out HDID.out HBB.out⟩
            case measure => simp; have := HKL.out; omega
          · obtain ⟨hE, hDD, hB⟩ := HBI.out.put_yes (by omega) (s := paint 5)
            have HE := Lib.hid hE
            have HDD := Lib.hid hDD
            have HBB := Lib.hid hB
            clear hE hDD hB
            go_wp2_with fail
            refine HPA.out.mono ?_
            rintro _ wp ⟨rfl, hbp⟩
            have HBP := Lib.hid hbp
            clear hbp
            go_wp2_with fail
            refine (HPUT.out 1 (by unfold I; omega) wp HBP.out).mono ?_
            rintro _ w9 ⟨rfl, hdid⟩
            rw [HE.out]
            have HDE := Lib.hid (fun (F' : Nat → Prop) (h : DAt w9 F' g (d.put 1 (paint 5))) => dead_at g F' _ w9 h)
            have HDID := Lib.hid hdid
            clear hdid
            obtain ⟨F9, h91, h92, h93⟩ := HDID.out
            have HD9 := Lib.hid h91
            clear h91 h92 h93
            go_wp2_with fail
            refine (HDE.out F9 HD9.out).mono ?_
            rintro _ _ ⟨rfl, rfl⟩
            rw [HDD.out]
            go_wp2_with fail
            go_roundw
            case rel => exact ⟨k + 1, 0, rfl, by unfold I; omega, by go_num, by have := HKL.out; omega, HPOST.out _ _ _ _ HBP.out HDID.out (by simpa using HBB.out)⟩
            case measure => simp; have := HKL.out; omega
          · obtain ⟨hE, hDD, hB⟩ := HBI.out.put_yes (by omega) (s := paint 5)
            have r1 : IntKind.i64.wrap (L - 1) = L - 1 := IntWalk.i64_in _ (by obtain ⟨q1, q2⟩ := HLI.out; omega)
            have d5 : decide (0 < L) = true := by simp; omega
            have d7 : (L == 0) = false := by simp; omega
            have HE := Lib.hid hE
            have HDD := Lib.hid hDD
            have HBB := Lib.hid hB
            clear hE hDD hB
            go_wp2_with fail
            refine HPA.out.mono ?_
            rintro _ wp ⟨rfl, hbp⟩
            have HBP := Lib.hid hbp
            clear hbp
            go_wp2_with fail
            refine (HPUT.out 1 (by unfold I; omega) wp HBP.out).mono ?_
            rintro _ w9 ⟨rfl, hdid⟩
            rw [HE.out]
            have HDE := Lib.hid (fun (F' : Nat → Prop) (h : DAt w9 F' g (d.put 1 (paint 5))) => dead_at g F' _ w9 h)
            have HDID := Lib.hid hdid
            clear hdid
            obtain ⟨F9, h91, h92, h93⟩ := HDID.out
            have HD9 := Lib.hid h91
            clear h91 h92 h93
            go_wp2_with fail
            refine (HDE.out F9 HD9.out).mono ?_
            rintro _ _ ⟨rfl, rfl⟩
            rw [HDD.out]
            go_wp2_with fail
            go_roundw
            case rel => exact ⟨k + 1, L - 1, rfl, (by obtain ⟨q1, q2⟩ := HLI.out; unfold I; omega), by go_num, by have := HKL.out; omega, HPOST.out _ _ _ _ HBP.out HDID.out HBB.out⟩
            case measure => simp; have := HKL.out; omega
        · have b0 : (x == 0) = false := by simpa using hx0
          have b1 : (x == 1) = false := by simpa using hx1
          clear hx0 hx1
          obtain ⟨m, hm, hm2, hmI⟩ : ∃ m : Int, m = max 2 x ∧ 2 ≤ m ∧ I m := ⟨_, rfl, by omega, by obtain ⟨q1, q2⟩ := HXI.out; unfold I; omega⟩
          obtain ⟨hE, hP, hB⟩ := HBI.out.put_out (s := paint 5) hm2
          have HE := Lib.hid hE
          have HP := Lib.hid hP
          have HBB := Lib.hid hB
          have HMI := Lib.hid hmI
          clear hE hP hB hmI hm2
          have hmx : x < 2 ∨ x = 2 ∨ 2 < x := by omega
          have hcs2 : (d.dead = true ∧ L = 0) ∨ (d.dead = false ∧ L = 0) ∨ (d.dead = false ∧ 0 < L) := by
            cases hdd : d.dead with
            | true => exact Or.inl ⟨rfl, HBI.out.dd hdd⟩
            | false => rcases hL with h | h | h
                       · exact Or.inr (Or.inl ⟨rfl, h⟩)
                       · exact Or.inr (Or.inr ⟨rfl, by omega⟩)
                       · exact Or.inr (Or.inr ⟨rfl, by omega⟩)
          have HCS2 := Lib.hid hcs2
          clear hcs2 hL
          rcases hmx with hmx | rfl | hmx
          · have hm3 : m = 2 := by omega
            subst hm3
            clear hm
            go_wp2_with fail
            refine HPA.out.mono ?_
            rintro _ wp ⟨rfl, hbp⟩
            have HBP := Lib.hid hbp
            clear hbp
            go_wp2_with fail
            refine (HPUT.out _ HMI.out wp HBP.out).mono ?_
            rintro _ w9 ⟨rfl, hdid⟩
            rw [HE.out]
            rw [HP.out] at hdid
            have HDID := Lib.hid hdid
            obtain ⟨F9, h91, h92, h93⟩ := hdid
            have HDE := Lib.hid (dead_at g F9 d w9 h91)
            clear h91 h92 h93
            go_wp2_with fail
            refine HDE.out.mono ?_
            rintro _ _ ⟨rfl, rfl⟩
            rcases HCS2.out with ⟨hdd, rfl⟩ | ⟨hdd, rfl⟩ | ⟨hdd, hL⟩
            · rw [hdd]
              clear hdd
              go_wp2_with fail
              go_roundw
              case rel => exact ⟨k + 1, _, rfl, by unfold I; omega, by go_num, by have := HKL.out; omega, HPOST.out _ _ _ _ HBP.out HDID.out HBB.out⟩
              case measure => simp; have := HKL.out; omega
            · rw [hdd]
              clear hdd
              go_wp2_with fail
              go_roundw
              case rel => exact ⟨k + 1, _, rfl, by unfold I; omega, by go_num, by have := HKL.out; omega, HPOST.out _ _ _ _ HBP.out HDID.out HBB.out⟩
              case measure => simp; have := HKL.out; omega
            · rw [hdd]
              have r1 : IntKind.i64.wrap (L - 0) = L := (by rw [Int.sub_zero]; exact IntWalk.i64_in _ (by obtain ⟨q1, q2⟩ := HLI.out; omega))
              have r2 : IntKind.i64.wrap L = L := IntWalk.i64_in _ (by obtain ⟨q1, q2⟩ := HLI.out; omega)
              clear hdd
              go_wp2_with fail
              go_roundw
              case rel => exact ⟨k + 1, _, rfl, HLI.out, by go_num, by have := HKL.out; omega, HPOST.out _ _ _ _ HBP.out HDID.out HBB.out⟩
              case measure => simp; have := HKL.out; omega
          · have hm3 : m = 2 := by omega
            subst hm3
            clear hm
            go_wp2_with fail
            refine HPA.out.mono ?_
            rintro _ wp ⟨rfl, hbp⟩
            have HBP := Lib.hid hbp
            clear hbp
            go_wp2_with fail
            refine (HPUT.out _ HMI.out wp HBP.out).mono ?_
            rintro _ w9 ⟨rfl, hdid⟩
            rw [HE.out]
            rw [HP.out] at hdid
            have HDID := Lib.hid hdid
            obtain ⟨F9, h91, h92, h93⟩ := hdid
            have HDE := Lib.hid (dead_at g F9 d w9 h91)
            clear h91 h92 h93
            go_wp2_with fail
            refine HDE.out.mono ?_
            rintro _ _ ⟨rfl, rfl⟩
            rcases HCS2.out with ⟨hdd, rfl⟩ | ⟨hdd, rfl⟩ | ⟨hdd, hL⟩
            · rw [hdd]
              clear hdd
              go_wp2_with fail
              go_roundw
              case rel => exact ⟨k + 1, _, rfl, by unfold I; omega, by go_num, by have := HKL.out; omega, HPOST.out _ _ _ _ HBP.out HDID.out HBB.out⟩
              case measure => simp; have := HKL.out; omega
            · rw [hdd]
              clear hdd
              go_wp2_with fail
              go_roundw
              case rel => exact ⟨k + 1, _, rfl, by unfold I; omega, by go_num, by have := HKL.out; omega, HPOST.out _ _ _ _ HBP.out HDID.out HBB.out⟩
              case measure => simp; have := HKL.out; omega
            · rw [hdd]
              have r1 : IntKind.i64.wrap (L - 0) = L := (by rw [Int.sub_zero]; exact IntWalk.i64_in _ (by obtain ⟨q1, q2⟩ := HLI.out; omega))
              have r2 : IntKind.i64.wrap L = L := IntWalk.i64_in _ (by obtain ⟨q1, q2⟩ := HLI.out; omega)
              clear hdd
              go_wp2_with fail
              go_roundw
              case rel => exact ⟨k + 1, _, rfl, HLI.out, by go_num, by have := HKL.out; omega, HPOST.out _ _ _ _ HBP.out HDID.out HBB.out⟩
              case measure => simp; have := HKL.out; omega
          · have hm3 : m = x := by omega
            subst hm3
            clear hm
            go_wp2_with fail
            refine HPA.out.mono ?_
            rintro _ wp ⟨rfl, hbp⟩
            have HBP := Lib.hid hbp
            clear hbp
            go_wp2_with fail
            refine (HPUT.out _ HMI.out wp HBP.out).mono ?_
            rintro _ w9 ⟨rfl, hdid⟩
            rw [HE.out]
            rw [HP.out] at hdid
            have HDID := Lib.hid hdid
            obtain ⟨F9, h91, h92, h93⟩ := hdid
            have HDE := Lib.hid (dead_at g F9 d w9 h91)
            clear h91 h92 h93
            go_wp2_with fail
            refine HDE.out.mono ?_
            rintro _ _ ⟨rfl, rfl⟩
            rcases HCS2.out with ⟨hdd, rfl⟩ | ⟨hdd, rfl⟩ | ⟨hdd, hL⟩
            · rw [hdd]
              clear hdd
              go_wp2_with fail
              go_roundw
              case rel => exact ⟨k + 1, _, rfl, by unfold I; omega, by go_num, by have := HKL.out; omega, HPOST.out _ _ _ _ HBP.out HDID.out HBB.out⟩
              case measure => simp; have := HKL.out; omega
            · rw [hdd]
              clear hdd
              go_wp2_with fail
              go_roundw
              case rel => exact ⟨k + 1, _, rfl, by unfold I; omega, by go_num, by have := HKL.out; omega, HPOST.out _ _ _ _ HBP.out HDID.out HBB.out⟩
              case measure => simp; have := HKL.out; omega
            · rw [hdd]
              have r1 : IntKind.i64.wrap (L - 0) = L := (by rw [Int.sub_zero]; exact IntWalk.i64_in _ (by obtain ⟨q1, q2⟩ := HLI.out; omega))
              have r2 : IntKind.i64.wrap L = L := IntWalk.i64_in _ (by obtain ⟨q1, q2⟩ := HLI.out; omega)
              clear hdd
              go_wp2_with fail
              go_roundw
              case rel => exact ⟨k + 1, _, rfl, HLI.out, by go_num, by have := HKL.out; omega, HPOST.out _ _ _ _ HBP.out HDID.out HBB.out⟩
              case measure => simp; have := HKL.out; omega
      · obtain rfl : k = n1 := by omega
        have HDE := Lib.hid (dead_at g F d wr HD.out)
        have HFUS := Lib.hid (fuse_any g F d (-1) wr HD.out (by unfold I; omega))
        clear hk hlt hn50 hbi0
        go_wp2_with fail
        refine HDE.out.mono ?_
        rintro _ _ ⟨rfl, rfl⟩
        go_wp2_with fail
        refine HFUS.out.mono ?_
        rintro _ w3 ⟨rfl, F3, hd3, ho3, hf3⟩
        have HB3 := Lib.hid (ho3.below HBW.out HFF.out HBW.out.size)
        have HF3 := Lib.hid (show ∀ i, F3 i → w.heap.size ≤ i from fun i hi => (hf3 i hi).elim (HFF.out i) fun e => Nat.le_trans HBW.out.size e)
        have HFL3 := Lib.hid (flush_any g F3 _ w3 hd3)
        clear hd3 ho3 hf3 HDE HFUS
        go_wp2_with fail
        refine HFL3.out.mono ?_
        rintro _ w4 ⟨rfl, F4, hd4, ho4, hf4⟩
        have HB4 := Lib.hid (ho4.below HB3.out HF3.out HB3.out.size)
        have HF4 := Lib.hid (show ∀ i, F4 i → w.heap.size ≤ i from fun i hi => (hf4 i hi).elim (HF3.out i) fun e => Nat.le_trans HB3.out.size e)
        have HPW := Lib.hid (power_any g F4 _ none [] 0 0 w4 hd4 (Or.inl rfl) rfl (by rintro b ⟨q, e, rfl⟩; cases e))
        clear hd4 ho4 hf4 HFL3
        have hE : Dk.actE { d with fuse := -1 } = if d.dead then 82 else 0 := by unfold Dk.actE Dk.live; cases d.dead <;> rfl
        rw [hE]
        clear hE
        cases hdd : d.dead
        all_goals
          clear hdd
          go_wp2_with fail
          refine HPW.out.mono ?_
          rintro _ w5 ⟨rfl, F5, hd5, ho5, hf5⟩
          have HB5 := Lib.hid (ho5.below HB4.out HF4.out HB4.out.size)
          have HF5 := Lib.hid (show ∀ i, F5 i → w.heap.size ≤ i from fun i hi => (hf5 i hi).elim (HF4.out i) fun e => Nat.le_trans HB4.out.size e)
          have HDE5 := Lib.hid (dead_at g F5 _ w5 hd5)
          have HFL5 := Lib.hid (flush_any g F5 _ w5 hd5)
          clear hd5 ho5 hf5
          go_wp2_with fail
          refine HDE5.out.mono ?_
          rintro _ _ ⟨rfl, rfl⟩
          rw [show (Dk.power _ []).dead = false from rfl]
          go_wp2_with fail
          refine HFL5.out.mono ?_
          rintro _ w6 ⟨rfl, F6, hd6, ho6, hf6⟩
          have HB6 := Lib.hid (ho6.below HB5.out HF5.out HB5.out.size)
          clear hd6 ho6 hf6
          rw [show Dk.actE (Dk.power _ []) = 0 from rfl]
          go_wp2
          go_ret
          exact ⟨rfl, HB6.out⟩
end Go.Proofs.Ytcboknigjpdmpaa
