/- Package stamp: lay. -/
import Derived.Test.YtoibonalgmmkbaaSmC
namespace Go.Proofs.Ytoibonalgmmkbaa
open Go.RowKit Go.Lib

theorem run_sl4 (b off : Nat) (W : World) : (Instr.sliceAt 59 (.pointer (some ⟨b, off, none⟩)) (some (.int .i64 3)) (some (.int .i64 56)) none).run Try.prog W = .ok (.slice (some ⟨b, off + 3, none⟩) 53 61) W := by
  have h := run_sliceAt_array_lh (P := Try.prog) W 59 ⟨b, off, none⟩ (by kernel_rfl) .i64 .i64 3 56 (by omega) (by omega) (by rw [show Try.prog.arrayLen 59 = 64 by kernel_rfl]; omega)
  rw [h, show Try.prog.elem 59 = 5 by kernel_rfl, sz8, show Try.prog.arrayLen 59 = 64 by kernel_rfl]
  rfl
def layK (n : Nat) (l : List UInt8) (i : Nat) : List Sec := (List.range (spanN l.length)).map fun j => if j < i then secOf n l j else zsec
theorem layK_len (n : Nat) (l : List UInt8) (i : Nat) : (layK n l i).length = spanN l.length := by simp [layK]
theorem layK_zero (n : Nat) (l : List UInt8) : layK n l 0 = List.replicate (spanN l.length) zsec := by
  unfold layK
  rw [List.map_congr_left (g := fun _ => zsec) (fun _ _ => if_neg (Nat.not_lt_zero _)), List.map_const', List.length_range]
theorem layK_all (n : Nat) (l : List UInt8) : layK n l (spanN l.length) = secs n l := List.map_congr_left fun _ hj => if_pos (List.mem_range.1 hj)
theorem layK_64 (n : Nat) (l : List UInt8) (i : Nat) : ∀ s ∈ layK n l i, s.length = 64 := fun s hs => by
  obtain ⟨j, _, rfl⟩ := List.mem_map.1 hs
  split
  · exact secOf_len n l j
  · rfl
theorem layK_get {n : Nat} {l : List UInt8} {i : Nat} (h : i < spanN l.length) : (layK n l i)[i]? = some zsec := by simp [layK, h]
theorem layK_set {n : Nat} {l : List UInt8} {i : Nat} (_h : i < spanN l.length) : (layK n l i).set i (secOf n l i) = layK n l (i + 1) := by
  apply List.ext_getElem?
  intro j
  rw [List.getElem?_set]
  split
  · next e => subst e; rw [if_pos (by rw [layK_len]; omega)]; simp [layK, _h]
  · next e =>
    simp only [layK, List.getElem?_map]
    cases h : (List.range (spanN l.length))[j]? with
    | none => rfl
    | some k =>
      have : k = j := by
        have hj : j < spanN l.length := by have := (List.getElem?_eq_some_iff.1 h).1; simpa using this
        rw [List.getElem?_range hj] at h; exact (Option.some.inj h).symm
      subst this
      simp only [Option.map_some, Option.some.injEq]
      by_cases hk : k < i
      · rw [if_pos hk, if_pos (by omega)]
      · rw [if_neg hk, if_neg (by omega)]
def LayRes (L : List Sec) (w : World) (e : Ending) (w' : World) : Prop := ∃ a c, e = .returned (.slice a L.length c) ∧ Lie w' a (scells L) ∧ (a = none → L.length = 0) ∧ (∀ b, inBlk a b → w.heap.size ≤ b ∧ b < w'.heap.size) ∧ RowKit.Below w.heap.size w w'
theorem LayRes.nil (w : World) : LayRes [] w (.returned (.slice none 0 0)) w := ⟨none, 0, rfl, Or.inl rfl, fun _ => rfl, fun b h => (by obtain ⟨p, e, _⟩ := h; cases e), RowKit.Below.refl _ _⟩
set_option maxRecDepth 100000 in
set_option maxHeartbeats 3200000 in
theorem lay_any (n : Nat) (l : List UInt8) (a : Option Addr) (len cap : Nat) (w : World) (hn : n < 18446744073709551616) (hb : BAt w a l) (hl : l.length = len) (hc : len ≤ cap) :
    Calls Try.prog 32 #[.int .u64 (n : Int), .slice a len cap] w (LayRes (layL n l) w) := by
  by_cases h0 : n = 0
  · subst h0
    have HF := Lib.hid (LayRes.nil w)
    rw [show layL 0 l = [] from if_pos rfl]
    clear hb hl hc hn
    go_enter Try.func32, Try.ntmps32
    go_wp2
    go_ret
    exact HF.out
  · have d0 : ((n : Int) == 0) = false := by simp; exact h0
    rw [show layL n l = secs n l from if_neg h0]
    have HL := Lib.hid hl
    have HC := Lib.hid hc
    have HB := Lib.hid hb
    have HN := Lib.hid hn
    obtain ⟨N, hN⟩ : ∃ N, N = spanN l.length := ⟨_, rfl⟩
    have HNE := Lib.hid hN
    have hN255 : N ≤ 255 := by rw [hN]; exact spanN_le _
    have HSP := Lib.hid (show ∀ W, Calls Try.prog 11 #[.int .i64 (len : Int)] W fun e W' => e = .returned (.int .i64 (N : Int)) ∧ W = W' from fun W => by
      have := span_any (len : Int) W
      rw [spanI_nat, ← hl, ← hN] at this
      rw [← hl]
      exact this)
    obtain ⟨w1, hrun, ho, hg, hs⟩ := run_make N (by omega) w
    have HR0 := Lib.hid (show SRow w1 w.heap.size (layK n l 0) by unfold SRow; rw [layK_zero, List.length_replicate, ← hN]; exact ⟨ho.1, ho.2.elim (fun h => .inl h) fun ⟨g, cap, cur, e1, _, e2⟩ => .inr ⟨g, cap, cur, e1, Nat.zero_le _, e2⟩⟩)
    have HG0 := Lib.hid (show RowKit.Below w.heap.size w w1 from (RowKit.Below.refl _ _).grown hg (Nat.le_refl _) (fun k h => by cases h))
    have HS1 := Lib.hid hs
    obtain ⟨g, hgq⟩ : ∃ g, g = w.heap.size := ⟨_, rfl⟩
    have HGQ := Lib.hid hgq
    rw [← hgq] at hrun HR0
    clear hn hb hl hc h0 hN ho hg hs hgq
    go_enter Try.func32, Try.ntmps32
    go_wp2_with fail
    refine (HSP.out _).mono ?_
    rintro _ _ ⟨rfl, rfl⟩
    go_wp2
    go_loopw [16] (fun c16 wr => ∃ i : Nat, c16 = .int .i64 (i : Int) ∧ i ≤ N ∧ SRow wr g (layK n l i) ∧ RowKit.Below w.heap.size w wr ∧ w.heap.size < wr.heap.size) (fun c16 _ => N - (match c16 with | .int _ q => q | _ => 0).toNat)
    case atStart => exact ⟨0, rfl, Nat.zero_le _, HR0.out, HG0.out, by rw [HS1.out]; exact Nat.lt_succ_self _⟩
    case round =>
      clear hrun
      obtain ⟨i, rfl, hi, hr, hbl, hlt⟩ := hrel
      have HR := Lib.hid hr
      have HG := Lib.hid hbl
      have HSZ := Lib.hid hlt
      clear hr hbl hlt
      by_cases hlt : i < N
      · have hiN : i < spanN l.length := by rw [← HNE.out]; exact hlt
        have H640 := Lib.hid (layK_64 n l i)
        have HI0 := Lib.hid (layK_get (n := n) hiN)
        obtain ⟨L, hL⟩ : ∃ L, L = layK n l i := ⟨_, rfl⟩
        have hLl : L.length = N := by rw [hL, layK_len, HNE.out]
        have HLL := Lib.hid hLl
        have HFIN := Lib.hid (show L.set i (secOf n l i) = layK n l (i + 1) by rw [hL]; exact layK_set hiN)
        rw [← hL] at HR H640 HI0
        have hidx : ∀ W, (Instr.indexAt 34 (.slice (some ⟨g, 0, none⟩) N N) (.int .i64 (i : Int))).run Try.prog W = .ok (.pointer (some ⟨g, i * 64, none⟩)) W := fun W => by
          have := run_idx elS (b := g) (off := 0) (n := N) (cap := N) (k := .i64) (i := (i : Int)) (j := i) rfl hlt W
          rw [Nat.zero_add] at this; exact this
        have HVA := Lib.hid (show ((i : Int)) = ((UInt8.ofNat i).toNat : Int) by rw [UInt8.toNat_ofNat']; omega)
        have HVB := Lib.hid (show ((N : Int)) = ((UInt8.ofNat N).toNat : Int) by rw [UInt8.toNat_ofNat']; omega)
        have HGE := Lib.hid (show w.heap.size ≤ g by rw [HGQ.out]; exact Nat.le_refl _)
        obtain ⟨s1, hs1⟩ : ∃ s, s = patch zsec 0 [UInt8.ofNat i] := ⟨_, rfl⟩
        obtain ⟨s2, hs2⟩ : ∃ s, s = patch s1 1 [UInt8.ofNat N] := ⟨_, rfl⟩
        obtain ⟨s3, hs3⟩ : ∃ s, s = patch s2 3 (piece l i) := ⟨_, rfl⟩
        obtain ⟨s4, hs4⟩ : ∃ s, s = patch s3 2 [UInt8.ofNat (piece l i).length] := ⟨_, rfl⟩
        have hpl := piece_le l i
        have l1 : s1.length = 64 := by rw [hs1]; exact patch_len rfl (by simp)
        have l2 : s2.length = 64 := by rw [hs2]; exact patch_len l1 (by simp)
        have l3 : s3.length = 64 := by rw [hs3]; exact patch_len l2 (by omega)
        have l4 : s4.length = 64 := by rw [hs4]; exact patch_len l3 (by simp)
        have HS5 := Lib.hid (show patch s4 56 (le8 8 n) = secOf n l i by
          rw [hs4, hs3, hs2, hs1, HNE.out]; exact laid_steps hpl)
        have H641 := Lib.hid (set64 H640.out l1 (i := i))
        have H642 := Lib.hid (set64 H640.out l2 (i := i))
        have H643 := Lib.hid (set64 H640.out l3 (i := i))
        have H644 := Lib.hid (set64 H640.out l4 (i := i))
        have hgs : ∀ s : Sec, (L.set i s)[i]? = some s := fun s => by rw [List.getElem?_set_self (by omega)]
        have HI1 := Lib.hid (hgs s1)
        have HI2 := Lib.hid (hgs s2)
        have HI3 := Lib.hid (hgs s3)
        have HI4 := Lib.hid (hgs s4)
        have HE1 := Lib.hid hs1
        have HE2 := Lib.hid (show (L.set i s1).set i (patch s1 1 [UInt8.ofNat N]) = L.set i s2 by rw [List.set_set, ← hs2])
        have HE3 := Lib.hid (show (L.set i s2).set i (patch s2 3 (piece l i)) = L.set i s3 by rw [List.set_set, ← hs3])
        have HE4 := Lib.hid (show (L.set i s3).set i (patch s3 2 [UInt8.ofNat (piece l i).length]) = L.set i s4 by rw [List.set_set, ← hs4])
        have HE5 := Lib.hid (show (L.set i s4).set i (patch s4 56 (le8 8 n)) = layK n l (i + 1) by rw [List.set_set, HS5.out, HFIN.out])
        have h53 : 53 * i ≤ l.length := by
          have h1 : l.length ≤ 13515 := by
            apply Classical.byContradiction; intro h
            have : spanN l.length = 0 := by unfold spanN; rw [if_neg h]
            omega
          have := spanN_lo h1
          have : 53 * i ≤ 53 * (spanN l.length - 1) := Nat.mul_le_mul_left _ (by omega)
          omega
        have HBP := Lib.hid (show ∀ (W : World), RowKit.Below w.heap.size w W → BAt W (cutA a cap (53 * i)) (piece l i) from fun W hb => ((HB.out.below hb).drop h53 (by rw [HL.out]; exact HC.out) : BAt W (cutA a cap (53 * i)) (l.drop (53 * i))).take 53)
        have HPN := Lib.hid (show (piece l i).length = Nat.min (len - 53 * i) 53 by rw [piece_len, HL.out]; exact Nat.min_comm _ _)
        have HPL8 := Lib.hid (show IntKind.u8.wrap (((piece l i).length : Nat) : Int) = ((UInt8.ofNat (piece l i).length).toNat : Int) by rw [IntKind.wrap_u8, UInt8.toNat_ofNat']; omega)
        have HSL := Lib.hid (fun (W : World) => show (Instr.slice 24 (.slice a len cap) (some (.int .i64 ((i : Int) * 53))) none none).run Try.prog W = .ok (.slice (cutA a cap (53 * i)) (len - 53 * i) (cap - 53 * i)) W by
          have := run_from a len cap (53 * i) (by rw [← HL.out]; exact h53) W
          rw [show ((53 * i : Nat) : Int) = (i : Int) * 53 by omega] at this
          exact this)
        have HPL := Lib.hid hpl
        have HWR := Lib.hid (show IntKind.i64.wrap ((i : Int) * 53) = (i : Int) * 53 from IntWalk.i64_in _ (by omega))
        clear hs1 hs2 hs3 hs4 l1 l2 l3 l4 hgs hpl hL hiN h53 hLl hi
        go_wp2_with (first | ((with_reducible refine wpList_byte rfl _ _ rfl (k := 1) (b := UInt8.ofNat N) rfl rfl rfl HVB.out HR1.out H641.out HI1.out (by decide) ?_); intro W2 k1 k2 k3; rw [HE2.out] at k1; have HR2 := Lib.hid k1; have HG2 := Lib.hid (HG1.out.grown k2 HG1.out.size (fun _ e => by cases e; exact HGE.out)); clear k1 k2 k3) | ((with_reducible refine wpList_byte rfl _ _ rfl (k := 0) (b := UInt8.ofNat i) rfl rfl rfl HVA.out HR.out H640.out HI0.out (by decide) ?_); intro W1 k1 k2 k3; rw [← HE1.out] at k1; have HR1 := Lib.hid k1; have HG1 := Lib.hid (HG.out.grown k2 HG.out.size (fun _ e => by cases e; exact HGE.out)); clear k1 k2 k3))
        try simp only [Act.put]
        have HR2d := Lib.hid (HR2.out.below (RowKit.Below.refl _ W2).drew)
        have HG2d := Lib.hid (HG2.out.trans ((RowKit.Below.refl _ W2).drew.mono HG2.out.size))
        have HBPd := Lib.hid (HBP.out _ HG2d.out)
        refine wp_region_held_drew (S := fun _ => True) (by kernel_rfl) ?_ (fun hHeld => ?_)
        · trivial
        refine held_take 0 (v := ?_) rfl (by kernel_rfl) (by kernel_rfl) (by kernel_rfl) (fun _ _ _ h => h) hHeld (by rfl) ?_ ?_
        rotate_left
        · (intro W hW; go_simp; try with_reducible rfl)
        try simp only [Act.put, List.setIfInBounds_toArray, List.set_cons_zero, List.set_cons_succ]
        refine held_take 1 (v := ?_) rfl (by kernel_rfl) (by kernel_rfl) (by kernel_rfl) (fun _ _ _ h => h) hHeld (by rfl) ?_ ?_
        rotate_left
        · (intro W hW; go_simp; try with_reducible rfl)
        try simp only [Act.put, List.setIfInBounds_toArray, List.set_cons_zero, List.set_cons_succ]
        refine held_take 2 (v := ?_) rfl (by kernel_rfl) (by kernel_rfl) (by kernel_rfl) (fun _ _ _ h => h) hHeld (by rfl) ?_ ?_
        rotate_left
        · (intro W hW; go_simp; try with_reducible rfl)
        try simp only [Act.put, List.setIfInBounds_toArray, List.set_cons_zero, List.set_cons_succ]
        refine held_take 3 (v := ?_) rfl (by kernel_rfl) (by kernel_rfl) (by kernel_rfl) (fun _ _ _ h => h) hHeld (by rfl) ?_ ?_
        rotate_left
        · (intro W hW; have e := run_sl4 g (i * 64) W; go_simp; try with_reducible rfl)
        try simp only [Act.put, List.setIfInBounds_toArray, List.set_cons_zero, List.set_cons_succ]
        refine held_take 4 (v := ?_) rfl (by kernel_rfl) (by kernel_rfl) (by kernel_rfl) (fun _ _ _ h => h) hHeld (by rfl) ?_ ?_
        rotate_left
        · (intro W hW; go_simp; try with_reducible rfl)
        try simp only [Act.put, List.setIfInBounds_toArray, List.set_cons_zero, List.set_cons_succ]
        refine held_take 5 (v := ?_) rfl (by kernel_rfl) (by kernel_rfl) (by kernel_rfl) (fun _ _ _ h => h) hHeld (by rfl) ?_ ?_
        rotate_left
        · (intro W hW; go_simp; try with_reducible rfl)
        try simp only [Act.put, List.setIfInBounds_toArray, List.set_cons_zero, List.set_cons_succ]
        refine held_take 6 (v := ?_) rfl (by kernel_rfl) (by kernel_rfl) (by kernel_rfl) (fun _ _ _ h => h) hHeld (by rfl) ?_ ?_
        rotate_left
        · (intro W hW; have e := HWR.out; go_simp; try with_reducible rfl)
        try simp only [Act.put, List.setIfInBounds_toArray, List.set_cons_zero, List.set_cons_succ]
        refine held_take 7 (v := ?_) rfl (by kernel_rfl) (by kernel_rfl) (by kernel_rfl) (fun _ _ _ h => h) hHeld (by rfl) ?_ ?_
        rotate_left
        · (intro W hW; have e := HSL.out W; go_simp; try with_reducible rfl)
        try simp only [Act.put, List.setIfInBounds_toArray, List.set_cons_zero, List.set_cons_succ]
        refine held_take 10 (v := ?_) rfl (by kernel_rfl) (by kernel_rfl) (by kernel_rfl) (fun _ _ _ h => h) hHeld (by rfl) ?_ ?_
        rotate_left
        · (intro W hW; go_simp; try with_reducible rfl)
        try simp only [Act.put, List.setIfInBounds_toArray, List.set_cons_zero, List.set_cons_succ]
        refine held_next 8 rfl (by kernel_rfl) (by rfl) (fun K hK => ?_)
        refine wp_copyS _ _ rfl (k := 3) rfl rfl rfl HBPd.out HPN.out HR2d.out H642.out HI2.out (by omega) (fun W3 k1 k2 k3 => ?_)
        rw [HE3.out] at k1
        have HR3 := Lib.hid k1
        have HG3 := Lib.hid (HG2d.out.grown k2 HG2d.out.size (fun _ e => by cases e; exact HGE.out))
        clear k1 k2 k3
        refine hK.out _ _ trivial (fun hHeld => ?_)
        clear hK K
        try simp only [Act.put, List.setIfInBounds_toArray, List.set_cons_zero, List.set_cons_succ]
        refine held_take 9 (v := ?_) rfl (by kernel_rfl) (by kernel_rfl) (by kernel_rfl) (fun _ _ _ h => h) hHeld (by rfl) ?_ ?_
        rotate_left
        · (intro W hW; go_simp; try with_reducible rfl)
        try simp only [Act.put, List.setIfInBounds_toArray, List.set_cons_zero, List.set_cons_succ]
        refine held_take 11 (v := ?_) rfl (by kernel_rfl) (by kernel_rfl) (by kernel_rfl) (fun _ _ _ h => h) hHeld (by rfl) ?_ ?_
        rotate_left
        · (intro W hW; go_simp; try with_reducible rfl)
        try simp only [Act.put, List.setIfInBounds_toArray, List.set_cons_zero, List.set_cons_succ]
        refine held_next 12 rfl (by kernel_rfl) (by rfl) (fun K hK => ?_)
        refine wp_byte _ _ rfl (k := 2) (b := UInt8.ofNat (piece l i).length) rfl rfl rfl (HPL8.out) HR3.out H643.out HI3.out (by decide) (fun W4 k1 k2 k3 => ?_)
        rw [HE4.out] at k1
        have HR4 := Lib.hid k1
        have HG4 := Lib.hid (HG3.out.grown k2 (HG3.out.size) (fun _ e => by cases e; exact HGE.out))
        clear k1 k2 k3
        refine hK.out _ _ trivial (fun hHeld => ?_)
        clear hK K
        try simp only [Act.put]
        refine wpAnyH_done (by kernel_rfl) ?_ _
        go_simp
        have HR4c := Lib.hid (HR4.out.cells H644.out (k := 56) (p := le8 8 n) HI4.out (by rw [le8_len]; omega))
        have HST := Lib.hid (setStamp_any g (i * 64) n W4 HN.out (HR4.out.there (by rw [List.length_set, HLL.out]; exact hlt) (by omega)))
        go_wp2_with fail
        refine HST.out.mono ?_
        rintro _ W5 ⟨rfl, hW5⟩
        have HR5 := Lib.hid (show SRow W5 g (layK n l (i + 1)) by rw [hW5, ← HE5.out]; exact HR4c.out.1)
        have HG5 := Lib.hid (show RowKit.Below w.heap.size w W5 by rw [hW5]; exact HG4.out.grown HR4c.out.2 HG4.out.size (fun _ e => by cases e; exact HGE.out))
        clear hW5
        go_wp2_with fail
        go_roundw
        case rel => exact ⟨i + 1, by go_num, by omega, HR5.out, HG5.out, by rw [← HGQ.out]; exact HR5.out.lt⟩
        case measure => simp; omega
      · obtain rfl : i = N := by omega
        have HFIN := Lib.hid (show LayRes (secs n l) w (.returned (.slice (some ⟨g, 0, none⟩) i i)) wr from by
          have e : layK n l i = secs n l := by rw [HNE.out]; exact layK_all n l
          refine ⟨some ⟨g, 0, none⟩, i, by rw [secs_length, ← HNE.out], by rw [← e]; exact HR.out.lie, (fun e => by cases e), ?_, HG.out⟩
          rintro b ⟨p, e, rfl⟩
          cases e
          exact ⟨by show _ ≤ g; rw [HGQ.out]; exact Nat.le_refl _, HR.out.lt⟩)
        clear hi
        go_wp2
        go_ret
        exact HFIN.out
end Go.Proofs.Ytoibonalgmmkbaa
