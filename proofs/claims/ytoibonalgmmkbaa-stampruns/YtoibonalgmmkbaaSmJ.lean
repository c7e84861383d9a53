/- slices.Equal of sectors. -/
import Derived.Test.YtoibonalgmmkbaaSmI
namespace Go.Proofs.Ytoibonalgmmkbaa
open Go.RowKit Go.Lib

theorem take_next {L K : List Sec} {k : Nat} {s t : Sec} (hl : L[k]? = some s) (hk : K[k]? = some t) (h : L.take k = K.take k) (e : s = t) : L.take (k + 1) = K.take (k + 1) := by rw [List.take_add_one, List.take_add_one, h, hl, hk, e]
set_option maxRecDepth 100000 in
set_option maxHeartbeats 3200000 in
theorem equal_any (L K : List Sec) (a a2 : Option Addr) (c c2 : Nat) (w : World) (hl : Lie w a (scells L)) (hk : Lie w a2 (scells K)) (h64 : ∀ s ∈ L, s.length = 64) (k64 : ∀ s ∈ K, s.length = 64) (hLN : L.length ≤ 1000) (hKN : K.length ≤ 1000) :
    Calls Try.prog 31 #[.slice a L.length c, .slice a2 K.length c2] w fun e w' => e = .returned (.bool (decide (L = K))) ∧ RowKit.Below w.heap.size w w' := by
  have HL := Lib.hid hl
  have HK := Lib.hid hk
  have HL64 := Lib.hid h64
  have HK64 := Lib.hid k64
  obtain ⟨M, hM⟩ : ∃ M, M = L.length := ⟨_, rfl⟩
  obtain ⟨N, hN⟩ : ∃ N, N = K.length := ⟨_, rfl⟩
  have HM := Lib.hid hM
  have HN := Lib.hid hN
  rw [← hM, ← hN]
  rw [← hM] at hLN
  rw [← hN] at hKN
  clear hl hk h64 k64 hM hN
  by_cases hMN : M = N
  · subst hMN
    have d0 : ((M : Int) == (M : Int)) = true := by simp
    clear hKN
    go_enter Try.func31, Try.ntmps31
    go_wp2
    go_loopw [13] (fun c13 wr => ∃ k : Nat, c13 = .int .i64 (k : Int) ∧ k ≤ M ∧ L.take k = K.take k ∧ RowKit.Below w.heap.size w wr) (fun c13 _ => M - (match c13 with | .int _ q => q | _ => 0).toNat)
    case atStart => exact ⟨0, rfl, Nat.zero_le _, rfl, RowKit.Below.refl _ _⟩
    case round =>
      obtain ⟨k, rfl, hk, htk, hbl⟩ := hrel
      have HT := Lib.hid htk
      have HB := Lib.hid hbl
      clear htk hbl
      by_cases hlt : k < M
      · obtain ⟨s, hs⟩ : ∃ s, L[k]? = some s := ⟨_, List.getElem?_eq_getElem (by rw [← HM.out]; exact hlt)⟩
        obtain ⟨t, ht⟩ : ∃ t, K[k]? = some t := ⟨_, List.getElem?_eq_getElem (by rw [← HN.out]; exact hlt)⟩
        have HS := Lib.hid hs
        have HTT := Lib.hid ht
        have hsl := HL64.out s (List.mem_of_getElem? hs)
        have htl := HK64.out t (List.mem_of_getElem? ht)
        obtain ⟨b1, o1, ha1, _, hr1⟩ := (HL.out.below HB.out).get (f := bcells) (n := 64) (fun s hs => cells_len s (HL64.out s hs)) (by decide) hs
        obtain ⟨b2, o2, ha2, _, hr2⟩ := (HK.out.below HB.out).get (f := bcells) (n := 64) (fun s hs => cells_len s (HK64.out s hs)) (by decide) ht
        obtain ⟨cx, hcx⟩ : ∃ cx, cx = bcells s := ⟨_, rfl⟩
        obtain ⟨cy, hcy⟩ : ∃ cy, cy = bcells t := ⟨_, rfl⟩
        obtain ⟨q, hq⟩ : ∃ q, q = decide (s = t) := ⟨_, rfl⟩
        have HNE := Lib.hid (show ∀ W, (Op.equalIn 10000 59 (.agg cx.toArray) (.agg cy.toArray)).run Try.prog W = .ok q W by rw [hcx, hcy, hq]; exact eqS hsl htl)
        have HQ := Lib.hid hq
        rw [← hcx] at hr1
        rw [← hcy] at hr2
        have HR1 := Lib.hid hr1
        have HR2 := Lib.hid hr2
        have HC1 := Lib.hid (show Cs 64 cx by rw [hcx]; exact cs_sec hsl)
        have HC2 := Lib.hid (show Cs 64 cy by rw [hcy]; exact cs_sec htl)
        subst ha1 ha2
        clear hs ht hsl htl hr1 hr2 hcx hcy hq
        go_wp2
        refine wp_region_held_drew (S := fun W => Agree [b1, b2] wr W) (by kernel_rfl) ?_ (fun hHeld => ?_)
        · exact fun _ _ => rfl
        refine held_take 0 (v := ?_) rfl (by kernel_rfl) (by kernel_rfl) (by kernel_rfl) (fun _ _ _ h => h) hHeld (by rfl) ?_ ?_
        rotate_left
        · (intro W hW; go_simp; try with_reducible rfl)
        try simp only [Act.put, List.setIfInBounds_toArray, List.set_cons_zero, List.set_cons_succ]
        refine held_take 1 (v := ?_) rfl (by kernel_rfl) (by kernel_rfl) (by kernel_rfl) (fun _ _ _ h => h) hHeld (by rfl) ?_ ?_
        rotate_left
        · (intro W hW; go_simp; try with_reducible rfl)
        try simp only [Act.put, List.setIfInBounds_toArray, List.set_cons_zero, List.set_cons_succ]
        refine held_take 2 (v := ?_) rfl (by kernel_rfl) (by kernel_rfl) (by kernel_rfl) (fun _ _ _ h => h) hHeld (by rfl) ?_ ?_
        rotate_left
        · (intro W hW; have e := run_idx elS (b := b1) (off := o1) (n := M) (cap := c) (k := .i64) (i := (k : Int)) (j := k) rfl hlt W; go_simp; try with_reducible rfl)
        try simp only [Act.put, List.setIfInBounds_toArray, List.set_cons_zero, List.set_cons_succ]
        refine held_take 3 (v := .agg cx.toArray) rfl (by kernel_rfl) (by kernel_rfl) (by kernel_rfl) (fun _ _ _ h => h) hHeld (by rfl) (fun W hW => exec_loadM isS _ rfl _ _ cx rfl (hW.range (by simp) HR1.out) HC1.out) ?_
        try simp only [Act.put, List.setIfInBounds_toArray, List.set_cons_zero, List.set_cons_succ]
        refine held_take 4 (v := ?_) rfl (by kernel_rfl) (by kernel_rfl) (by kernel_rfl) (fun _ _ _ h => h) hHeld (by rfl) ?_ ?_
        rotate_left
        · (intro W hW; go_simp; try with_reducible rfl)
        try simp only [Act.put, List.setIfInBounds_toArray, List.set_cons_zero, List.set_cons_succ]
        refine held_take 5 (v := ?_) rfl (by kernel_rfl) (by kernel_rfl) (by kernel_rfl) (fun _ _ _ h => h) hHeld (by rfl) ?_ ?_
        rotate_left
        · (intro W hW; go_simp; try with_reducible rfl)
        try simp only [Act.put, List.setIfInBounds_toArray, List.set_cons_zero, List.set_cons_succ]
        refine held_take 6 (v := ?_) rfl (by kernel_rfl) (by kernel_rfl) (by kernel_rfl) (fun _ _ _ h => h) hHeld (by rfl) ?_ ?_
        rotate_left
        · (intro W hW; have e := run_idx elS (b := b2) (off := o2) (n := M) (cap := c2) (k := .i64) (i := (k : Int)) (j := k) rfl hlt W; go_simp; try with_reducible rfl)
        try simp only [Act.put, List.setIfInBounds_toArray, List.set_cons_zero, List.set_cons_succ]
        refine held_take 7 (v := .agg cy.toArray) rfl (by kernel_rfl) (by kernel_rfl) (by kernel_rfl) (fun _ _ _ h => h) hHeld (by rfl) (fun W hW => exec_loadM isS _ rfl _ _ cy rfl (hW.range (by simp) HR2.out) HC2.out) ?_
        try simp only [Act.put, List.setIfInBounds_toArray, List.set_cons_zero, List.set_cons_succ]
        refine held_take 8 (v := ?_) rfl (by kernel_rfl) (by kernel_rfl) (by kernel_rfl) (fun _ _ _ h => h) hHeld (by rfl) ?_ ?_
        rotate_left
        · (intro W hW; have e := HNE.out W; go_simp; try with_reducible rfl)
        try simp only [Act.put, List.setIfInBounds_toArray, List.set_cons_zero, List.set_cons_succ]
        refine wpAnyH_done (by kernel_rfl) ?_ _
        go_simp
        cases q with
        | true =>
          have hst : s = t := of_decide_eq_true HQ.out.symm
          have HNX := Lib.hid (take_next HS.out HTT.out HT.out hst)
          clear hst
          go_wp2
          go_roundw
          case rel => exact ⟨k + 1, by go_num, by omega, HNX.out, HB.out.trans ((RowKit.Below.refl _ _).drew.mono HB.out.size)⟩
          case measure => simp; omega
        | false =>
          have hst : ¬ s = t := of_decide_eq_false HQ.out.symm
          have HNX := Lib.hid (show decide (L = K) = false from decide_eq_false fun e => by
            have := HS.out
            rw [e, HTT.out] at this
            exact hst (Option.some.inj this).symm)
          have HBD := Lib.hid (HB.out.trans ((RowKit.Below.refl _ wr).drew.mono HB.out.size))
          clear hst
          go_wp2
          try rw [Exit.noGoto_ret]
          go_ret
          exact ⟨by rw [HNX.out]; rfl, HBD.out⟩
      · obtain rfl : k = M := by omega
        have HE := Lib.hid (show decide (L = K) = true from decide_eq_true (by
          have e := HT.out
          have e1 : L.take k = L := by rw [HM.out]; exact List.take_length
          have e2 : K.take k = K := by rw [HN.out]; exact List.take_length
          rw [e1, e2] at e
          exact e))
        clear hk hlt
        go_wp2
        go_ret
        exact ⟨by rw [HE.out]; rfl, HB.out⟩
  · have d0 : ((M : Int) == (N : Int)) = false := by simp; omega
    have HE := Lib.hid (show decide (L = K) = false from decide_eq_false fun e => hMN (by rw [HM.out, HN.out, e]))
    clear hMN
    go_enter Try.func31, Try.ntmps31
    go_wp2
    go_ret
    exact ⟨by rw [HE.out]; rfl, RowKit.Below.refl _ _⟩
end Go.Proofs.Ytoibonalgmmkbaa
