/- The walk of falseworklaw06.PackOnce. -/
import Derived.Test.YtcahmijcfmakjaaPkG
import Derived.Test.YtcahmijcfmakjaaPkO
import Derived.Deep.RegionWith
import Derived.Deep.RegionHeld3
import Derived.IntWalk
import Derived.Deep.RegionLaw
import Derived.Deep.DrawnRows
namespace Go.Proofs.Ytcahmijcfmakjaa
open Go.RowKit Go.Lib
attribute [local go_sem ↓] Go.wp_at_zero Go.wp_at_succ

theorem once_all {bs : List UInt8} (h : endB (nR bs) (!nO bs) = true) : uvarint (nV bs) = bs := by
  unfold endB at h
  cases e : dec bs with
  | none => simp [nO, e] at h
  | some r =>
    obtain ⟨n, c⟩ := r
    obtain ⟨h1, h2, _⟩ := dec_some e
    simp [nO, nR, e] at h
    simp only [nV, e]
    rw [List.drop_eq_nil_of_le h, List.append_nil] at h2
    exact h2.symm
theorem once_part {bs : List UInt8} (h : endB (nR bs) (!nO bs) = false) : (nR bs).length = 0 ∨ ∃ c, uvarint (nV bs) = bs.take c ∧ c + (nR bs).length = bs.length ∧ 0 < (nR bs).length := by
  cases e : dec bs with
  | none => left; simp [nR, e]
  | some r =>
    obtain ⟨n, c⟩ := r
    obtain ⟨h1, h2, _⟩ := dec_some e
    have h3 := (dec_le e).2.1
    right
    refine ⟨c, ?_, ?_, ?_⟩
    · simp only [nV, e]
      conv => rhs; rw [h2]
      rw [← h1, List.take_left]
    · simp only [nR, e]; rw [List.length_drop]; omega
    · simp [endB, nO, nR, e] at h
      simp only [nR, e]; rw [List.length_drop]; omega
set_option maxHeartbeats 1600000 in
theorem once_in (a : Option Addr) (bs : List UInt8) (cap : Nat) (w : World) (hb : BAt w a bs) (hnil : a = none → bs = []) (hcap : bs.length ≤ cap) (hl : bs.length ≤ 100) :
    Calls Try.prog 7 #[.slice a bs.length cap] w fun e w' => e = .returned (.bool true) ∧ RowKit.Below w.heap.size w w' := by
  have HB := Lib.hid hb
  have HN := Lib.hid hnil
  have d0 : decide ((100 : Int) < (bs.length : Int)) = false := by simp; omega
  have hlt := nV_lt bs
  obtain ⟨q, hq⟩ : ∃ q : Int, q = (nV bs : Int) := ⟨_, rfl⟩
  have C1 := fun (W : World) (h : BAt W a bs) => Lib.hid (new_any a bs bs.length cap W h rfl (by omega) HN.out)
  have C2 := fun (base g : Nat) (W : World) (h : RD W base g bs false) => Lib.hid (rnum base g bs false W h (by omega))
  have C3 := fun (base g : Nat) (W : World) (h : RD W base g (nR bs) (!nO bs)) => Lib.hid (ended_any base g _ _ W h)
  have C4 := fun (base g : Nat) (W : World) (h : RD W base g (nR bs) (!nO bs)) => Lib.hid (left_any base g _ _ W h)
  have C5 := fun (W : World) (g : Nat) (hr : RAt (Value.int .u64) W (some ⟨g, 0, none⟩) [q]) => Lib.hid (show Calls Try.prog 18 #[.slice none 0 0, .slice (some ⟨g, 0, none⟩) 1 1] W (Made (uvarint (nV bs)) W) by
    have := num_any none [] 0 0 (some ⟨g, 0, none⟩) [q] 1 1 W (Or.inl rfl) rfl (fun _ => rfl) (by simp) hr rfl (by simp) (by simp; omega)
    rw [show ([] : List UInt8) ++ encU [q] = uvarint (nV bs) by simp [encU, hq]] at this
    exact this)
  have cv : ∀ (W : World) (A : Option Addr) (c : Nat) (l : List UInt8), BAt W A l → Hid ((convert 22 9 (.slice A l.length c)).run Try.prog W = .ok (.string (strB l)) W) := fun W A c l hb => Lib.hid (run_conv hb _ c rfl)
  rw [← hq] at C2
  simp only [Bool.false_or] at C2
  clear hb hnil hlt
  by_cases hE : endB (nR bs) (!nO bs) = true
  · rw [hE] at C3
    have hU : uvarint (nV bs) = bs := once_all hE
    rw [hU] at C5
    clear hU
    clear hq C4
    go_enter Try.func7, Try.ntmps7
    go_wp2_with fail
    refine (alive_any _).mono ?_
    rintro _ w1 ⟨rfl, hb1⟩
    have HB1 := Lib.hid (HB.out.below hb1)
    have HW1 := Lib.hid hb1
    clear hb1
    go_wp2_with fail
    refine (C1 _ HB1.out).out.mono ?_
    rintro _ w2 ⟨g, rfl, hr2, hb2⟩
    have HB2 := Lib.hid (HB1.out.below hb2)
    have HW2 := Lib.hid (bl_trans HW1.out hb2)
    have HR2 := Lib.hid hr2
    clear hr2 hb2 C1
    go_wp2_with fail
    refine (C2 _ _ _ HR2.out).out.mono ?_
    rintro _ w3 ⟨rfl, ht3⟩
    have HB3 := Lib.hid (RD.apart ht3 HB2.out HB1.out (Nat.le_refl _))
    have HW3 := Lib.hid (ht3.below HW2.out HW2.out.size HW1.out.size)
    have HT3 := Lib.hid ht3
    clear ht3 C2
    go_wp2_with fail
    refine (C3 _ _ _ HT3.out.1).out.mono ?_
    rintro _ _ ⟨rfl, rfl⟩
    go_wp2_with fail
    have e1 := (cv (w3.alloc (.cells #[.int .u64 q] 28)).drew a cap bs (HB3.out.below (((RowKit.Below.refl _ _).alloc (Nat.le_refl _) _).drew))).out
    have e2 := (cv w3.drew a cap bs (HB3.out.below ((RowKit.Below.refl _ _).drew))).out
    go_region_with (first | (go_at_call 18; refine (C5 _ _ ((one_row (Value.int .u64) w3 q _ 28 rfl).below (RowKit.Below.refl _ _).drew)).out.mono ?_; rintro _ w4 h4; obtain ⟨a4, c4, rfl, hb4, _, hB4, _⟩ := h4.row; have e3 := (cv w4 a cap bs (HB3.out.below (bl_trans ((RowKit.Below.refl _ _).alloc (Nat.le_refl _) _).drew hB4))).out; have e4 := (cv w4 a4 c4 bs hb4).out; have HW4 := Lib.hid (bl_trans HW3.out (bl_trans ((RowKit.Below.refl _ _).alloc (Nat.le_refl _) _).drew hB4)); clear h4 hb4 hB4))
    all_goals (go_simp; go_wp2; go_ret; exact ⟨rfl, HW4.out⟩)
  · have hE' : endB (nR bs) (!nO bs) = false := by simpa using hE
    rw [hE'] at C3
    rcases once_part hE' with hz | ⟨c, h1, h2, h3⟩
    · rw [hz] at C4
      clear hq hE hE' hz C5 cv
      go_enter Try.func7, Try.ntmps7
      go_wp2_with fail
      refine (alive_any _).mono ?_
      rintro _ w1 ⟨rfl, hb1⟩
      have HB1 := Lib.hid (HB.out.below hb1)
      have HW1 := Lib.hid hb1
      clear hb1
      go_wp2_with fail
      refine (C1 _ HB1.out).out.mono ?_
      rintro _ w2 ⟨g, rfl, hr2, hb2⟩
      have HB2 := Lib.hid (HB1.out.below hb2)
      have HW2 := Lib.hid (bl_trans HW1.out hb2)
      have HR2 := Lib.hid hr2
      clear hr2 hb2 C1
      go_wp2_with fail
      refine (C2 _ _ _ HR2.out).out.mono ?_
      rintro _ w3 ⟨rfl, ht3⟩
      have HB3 := Lib.hid (RD.apart ht3 HB2.out HB1.out (Nat.le_refl _))
      have HW3 := Lib.hid (ht3.below HW2.out HW2.out.size HW1.out.size)
      have HT3 := Lib.hid ht3
      clear ht3 C2
      go_wp2_with fail
      refine (C3 _ _ _ HT3.out.1).out.mono ?_
      rintro _ _ ⟨rfl, rfl⟩
      go_wp2_with fail
      refine (C4 _ _ _ HT3.out.1).out.mono ?_
      rintro _ _ ⟨rfl, rfl⟩
      go_wp2_with fail
      go_quiet (fail)
      go_wp2
      go_ret
      exact ⟨rfl, below_drewN HW3.out _⟩
    · obtain ⟨l, hl'⟩ : ∃ l, l = bs.take c := ⟨_, rfl⟩
      have hlen : l.length = c := by rw [hl', List.length_take]; omega
      rw [h1, ← hl'] at C5
      obtain ⟨m, hm⟩ : ∃ m, m = (nR bs).length := ⟨_, rfl⟩
      rw [← hm] at C4
      have ew : IntKind.i64.wrap ((bs.length : Int) - (m : Int)) = (l.length : Int) := by rw [IntWalk.i64_in _ (by omega)]; omega
      have hm0 : ((m : Int) == 0) = false := by simp; omega
      have rt := run_to a bs.length cap l.length (by omega)
      have HTK := Lib.hid hl'
      have q1 : (0 : Int) ≤ (l.length : Int) := by omega
      have q2 : (l.length : Int) ≤ (cap : Int) := by omega
      clear hq hE hE' h1 h2 h3 hlen hl' hm
      go_enter Try.func7, Try.ntmps7
      go_wp2_with fail
      refine (alive_any _).mono ?_
      rintro _ w1 ⟨rfl, hb1⟩
      have HB1 := Lib.hid (HB.out.below hb1)
      have HW1 := Lib.hid hb1
      clear hb1
      go_wp2_with fail
      refine (C1 _ HB1.out).out.mono ?_
      rintro _ w2 ⟨g, rfl, hr2, hb2⟩
      have HB2 := Lib.hid (HB1.out.below hb2)
      have HW2 := Lib.hid (bl_trans HW1.out hb2)
      have HR2 := Lib.hid hr2
      clear hr2 hb2 C1
      go_wp2_with fail
      refine (C2 _ _ _ HR2.out).out.mono ?_
      rintro _ w3 ⟨rfl, ht3⟩
      have HB3 := Lib.hid (RD.apart ht3 HB2.out HB1.out (Nat.le_refl _))
      have HW3 := Lib.hid (ht3.below HW2.out HW2.out.size HW1.out.size)
      have HT3 := Lib.hid ht3
      clear ht3 C2
      go_wp2_with fail
      refine (C3 _ _ _ HT3.out.1).out.mono ?_
      rintro _ _ ⟨rfl, rfl⟩
      go_wp2_with fail
      refine (C4 _ _ _ HT3.out.1).out.mono ?_
      rintro _ _ ⟨rfl, rfl⟩
      have HB4 := Lib.hid (show BAt w3 a l by rw [HTK.out]; exact HB3.out.take c)
      -- by hand
      go_wp2_with fail
      refine wp_region_held_drew (S := fun W => RowKit.Below w3.heap.size w3 W) (by kernel_rfl) ?_ (fun hHeld => ?_)
      · exact (RowKit.Below.refl _ _).drew
      refine held_take 0 (v := ?_) rfl (by kernel_rfl) (by kernel_rfl) (by kernel_rfl) (fun _ _ _ h => h) hHeld (by rfl) ?_ ?_
      rotate_left
      · (intro W hW; go_simp; try with_reducible rfl)
      try simp only [Act.put, List.setIfInBounds_toArray, List.set_cons_zero, List.set_cons_succ]
      refine held_take 1 (v := ?_) rfl (by kernel_rfl) (by kernel_rfl) (by kernel_rfl) (fun _ _ _ h => h) hHeld (by rfl) ?_ ?_
      rotate_left
      · (intro W hW; go_simp; try with_reducible rfl)
      try simp only [Act.put, List.setIfInBounds_toArray, List.set_cons_zero, List.set_cons_succ]
      refine held_take 2 (v := ?_) rfl (by kernel_rfl) (by kernel_rfl) (by kernel_rfl) (fun _ _ _ h => h) hHeld (by rfl) ?_ ?_
      rotate_left
      · (intro W hW; go_simp; try with_reducible rfl)
      try simp only [Act.put, List.setIfInBounds_toArray, List.set_cons_zero, List.set_cons_succ]
      refine held_take 3 (v := ?_) rfl (by kernel_rfl) (by kernel_rfl) (by kernel_rfl) (fun _ _ _ h => h) hHeld (by rfl) ?_ ?_
      rotate_left
      · (intro W hW; go_simp; try with_reducible rfl)
      try simp only [Act.put, List.setIfInBounds_toArray, List.set_cons_zero, List.set_cons_succ]
      refine held_take 7 (v := ?_) rfl (by kernel_rfl) (by kernel_rfl) (by kernel_rfl) (fun _ _ _ h => h) hHeld (by rfl) ?_ ?_
      rotate_left
      · (intro W hW; go_simp; try with_reducible rfl)
      try simp only [Act.put, List.setIfInBounds_toArray, List.set_cons_zero, List.set_cons_succ]
      refine held_take 8 (v := ?_) rfl (by kernel_rfl) (by kernel_rfl) (by kernel_rfl) (fun _ _ _ h => h) hHeld (by rfl) ?_ ?_
      rotate_left
      · (intro W hW; go_simp; try with_reducible rfl)
      try simp only [Act.put, List.setIfInBounds_toArray, List.set_cons_zero, List.set_cons_succ]
      refine held_take 9 (v := ?_) rfl (by kernel_rfl) (by kernel_rfl) (by kernel_rfl) (fun _ _ _ h => h) hHeld (by rfl) ?_ ?_
      rotate_left
      · (intro W hW; go_simp; try with_reducible rfl)
      try simp only [Act.put, List.setIfInBounds_toArray, List.set_cons_zero, List.set_cons_succ]
      refine held_take 10 (v := ?_) rfl (by kernel_rfl) (by kernel_rfl) (by kernel_rfl) (fun _ _ _ h => h) hHeld (by rfl) ?_ ?_
      rotate_left
      · (intro W hW; go_simp; try with_reducible rfl)
      try simp only [Act.put, List.setIfInBounds_toArray, List.set_cons_zero, List.set_cons_succ]
      refine held_take 11 (v := ?_) rfl (by kernel_rfl) (by kernel_rfl) (by kernel_rfl) (fun _ _ _ h => h) hHeld (by rfl) ?_ ?_
      rotate_left
      · (intro W hW; go_simp; try with_reducible rfl)
      try simp only [Act.put, List.setIfInBounds_toArray, List.set_cons_zero, List.set_cons_succ]
      refine held_take 12 (v := ?_) rfl (by kernel_rfl) (by kernel_rfl) (by kernel_rfl) (fun _ _ _ h => h) hHeld (by rfl) ?_ ?_
      rotate_left
      · (intro W hW; go_simp; try with_reducible rfl)
      try simp only [Act.put, List.setIfInBounds_toArray, List.set_cons_zero, List.set_cons_succ]
      refine held_take 13 (v := ?_) rfl (by kernel_rfl) (by kernel_rfl) (by kernel_rfl) (fun _ _ _ h => h) hHeld (by rfl) ?_ ?_
      rotate_left
      · (intro W hW; have e := run_conv (HB4.out.below hW) _ cap rfl; go_simp; try with_reducible rfl)
      try simp only [Act.put, List.setIfInBounds_toArray, List.set_cons_zero, List.set_cons_succ]
      refine held_next 4 rfl (by kernel_rfl) (by rfl) (fun K hK => ?_)
      go_simp
      refine hK.out _ _ ((RowKit.Below.refl _ _).alloc (Nat.le_refl _) _).drew (fun hHeld => ?_)
      clear hK K
      try simp only [Act.put, List.setIfInBounds_toArray, List.set_cons_zero, List.set_cons_succ]
      refine held_next 5 rfl (by kernel_rfl) (by rfl) (fun K hK => ?_)
      go_simp
      go_at_call 18
      refine (C5 _ _ ((one_row (Value.int .u64) w3 q _ 28 rfl).below (RowKit.Below.refl _ _).drew)).out.mono ?_
      rintro _ w4 h4
      obtain ⟨a4, c4, rfl, hb4, _, hB4, _⟩ := h4.row
      have HB5 := Lib.hid hb4
      have HX4 := Lib.hid (bl_trans ((RowKit.Below.refl _ _).alloc (Nat.le_refl _) _).drew hB4)
      have HW4 := Lib.hid (bl_trans HW3.out HX4.out)
      clear h4 hb4 hB4
      refine hK.out _ _ HX4.out (fun hHeld => ?_)
      clear hK K hHeld
      try simp only [Act.put, List.setIfInBounds_toArray, List.set_cons_zero, List.set_cons_succ]
      refine held_since HX4.out (fun hHeld => ?_)
      refine held_take 6 (v := ?_) rfl (by kernel_rfl) (by kernel_rfl) (by kernel_rfl) (fun _ _ _ h => h) hHeld (by rfl) ?_ ?_
      rotate_left
      · (intro W hW; have e := run_conv (HB5.out.below hW) _ c4 rfl; go_simp; try with_reducible rfl)
      try simp only [Act.put, List.setIfInBounds_toArray, List.set_cons_zero, List.set_cons_succ]
      refine held_take 14 (v := ?_) rfl (by kernel_rfl) (by kernel_rfl) (by kernel_rfl) (fun _ _ _ h => h) hHeld (by rfl) ?_ ?_
      rotate_left
      · (intro W hW; go_simp; try with_reducible rfl)
      try simp only [Act.put, List.setIfInBounds_toArray, List.set_cons_zero, List.set_cons_succ]
      refine held_take 15 (v := ?_) rfl (by kernel_rfl) (by kernel_rfl) (by kernel_rfl) (fun _ _ _ h => h) hHeld (by rfl) ?_ ?_
      rotate_left
      · (intro W hW; go_simp; try with_reducible rfl)
      try simp only [Act.put, List.setIfInBounds_toArray, List.set_cons_zero, List.set_cons_succ]
      refine held_take 16 (v := ?_) rfl (by kernel_rfl) (by kernel_rfl) (by kernel_rfl) (fun _ _ _ h => h) hHeld (by rfl) ?_ ?_
      rotate_left
      · (intro W hW; go_simp; try with_reducible rfl)
      try simp only [Act.put, List.setIfInBounds_toArray, List.set_cons_zero, List.set_cons_succ]
      refine wpAnyH_done (by kernel_rfl) ?_ _
      go_simp
      go_wp2
      go_ret
      exact ⟨rfl, HW4.out⟩

set_option maxHeartbeats 800000 in
theorem once_out (a : Option Addr) (len cap : Nat) (w : World) (h : 100 < len) :
    Calls Try.prog 7 #[.slice a len cap] w fun e w' => e = .returned (.bool true) ∧ RowKit.Below w.heap.size w w' := by
  have d0 : decide ((100 : Int) < (len : Int)) = true := by simp; omega
  go_enter Try.func7, Try.ntmps7
  go_wp2_with fail
  refine (alive_any _).mono ?_
  rintro _ w1 ⟨rfl, hb1⟩
  have HW1 := Lib.hid hb1
  clear hb1
  go_wp2
  go_ret
  exact ⟨rfl, HW1.out⟩
theorem packOnce_walk (w : World) (a0 : Option Addr) (len0 cap0 : Nat) (l0 : List UInt8) (w0 : CameB w a0 len0 cap0 l0) :
    Calls Try.prog 7 #[.slice a0 len0 cap0] w fun e w' => e = .returned (.bool true) ∧ RowKit.Below w.heap.size w w' := by
  by_cases h : 100 < len0
  · exact once_out a0 len0 cap0 w h
  · obtain ⟨h1, rfl, h3, h4, h5⟩ := w0
    exact once_in a0 l0 cap0 w h1 (CameB.none ⟨h1, rfl, h3, h4, h5⟩) h3 (by omega)
end Go.Proofs.Ytcahmijcfmakjaa
