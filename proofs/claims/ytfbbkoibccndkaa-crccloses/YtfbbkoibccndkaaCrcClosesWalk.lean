/- The walk of falseworklaw07.CrcCloses. -/
import Derived.Test.YtfbbkoibccndkaaCrU
import Derived.Test.YtfbbkoibccndkaaCrP
import Derived.Test.YtfbbkoibccndkaaCrQ
import Derived.Test.YtfbbkoibccndkaaCame
namespace Go.Proofs.Ytfbbkoibccndkaa
open Go.RowKit Go.Lib

/-- is it closed rightly? -/
def okb (l : List UInt8) : Bool := decide (4 ≤ l.length) && decide (l.take (l.length - 4) ++ sealL (l.take (l.length - 4)) = l)
/-- what is opened -/
def opl (l : List UInt8) : List UInt8 := if okb l = true then l.take (l.length - 4) else []
theorem okb_iff (l : List UInt8) : okb l = true ↔ Okay l := by simp [okb, Okay]
theorem okb_closed (l : List UInt8) : okb (l ++ sealL l) = true := by
  rw [okb_iff]
  have h : (l ++ sealL l).length - 4 = l.length := by rw [List.length_append, sealL_len]; omega
  refine ⟨by rw [List.length_append, sealL_len]; omega, ?_⟩
  rw [h, List.take_left]
theorem opl_closed (l : List UInt8) : opl (l ++ sealL l) = l := by
  unfold opl
  rw [if_pos (okb_closed l), List.length_append, sealL_len, Nat.add_sub_cancel, List.take_left]
theorem opl_le (l : List UInt8) : (opl l).length ≤ l.length := by
  unfold opl
  split
  · rw [List.length_take]; omega
  · simp
/-- what both Opens answer -/
def OpenU (l : List UInt8) (w : World) (e : Ending) (w' : World) : Prop := ∃ A c, e = .returned (.tuple #[.slice A (opl l).length c, .bool (okb l)]) ∧ BAt w' A (opl l) ∧ RowKit.Below w.heap.size w w'
theorem split4 {l : List UInt8} (h : 4 ≤ l.length) : ∃ i x0 x1 x2 x3, l = i ++ [x0, x1, x2, x3] := by
  have e := List.take_append_drop (l.length - 4) l
  have hd : (l.drop (l.length - 4)).length = 4 := by rw [List.length_drop]; omega
  match hm : l.drop (l.length - 4), hd with
  | [x0, x1, x2, x3], _ => exact ⟨l.take (l.length - 4), x0, x1, x2, x3, by rw [← hm]; exact e.symm⟩
theorem open_u (a : Option Addr) (l : List UInt8) (n cap : Nat) (w : World) (hb : BAt w a l) (hn : l.length = n) (hc : n ≤ cap) (hl : n ≤ 1000) :
    Calls Try.prog 7 #[.slice a n cap] w (OpenU l w) := by
  subst hn
  by_cases h4 : 4 ≤ l.length
  · obtain ⟨i, x0, x1, x2, x3, rfl⟩ := split4 h4
    have hlen : (i ++ [x0, x1, x2, x3]).length = i.length + 4 := by simp
    have hk : okb (i ++ [x0, x1, x2, x3]) = decide (sealL i = [x0, x1, x2, x3]) := by
      unfold okb
      rw [hlen, Nat.add_sub_cancel, List.take_left, decide_eq_true (by omega : 4 ≤ i.length + 4), Bool.true_and, decide_eq_decide, List.append_right_inj]
    have ha : ∃ b off, a = some ⟨b, off, none⟩ := by
      rcases hb with h | ⟨b, off, h, _⟩
      · exact absurd (List.append_eq_nil_iff.1 h).2 (List.cons_ne_nil _ _)
      · exact ⟨b, off, h⟩
    obtain ⟨b, off, rfl⟩ := ha
    rw [hlen] at hc hl ⊢
    refine (open_in b off i x0 x1 x2 x3 i.length cap w hb rfl hc (by omega)).mono fun e w' h => ?_
    rcases h with ⟨h, v, rfl, ho, hw, _⟩ | ⟨h, rfl, hw⟩
    · have hok : okb (i ++ [x0, x1, x2, x3]) = true := by rw [hk]; exact h
      have hop : opl (i ++ [x0, x1, x2, x3]) = i := by
        unfold opl
        rw [if_pos hok, hlen, Nat.add_sub_cancel, List.take_left]
      obtain ⟨A, c, hv, hB, _⟩ := ho.row
      exact ⟨A, c, by rw [hv, hop, hok], by rw [hop]; exact hB, hw⟩
    · have hok : okb (i ++ [x0, x1, x2, x3]) = false := by rw [hk]; exact h
      have hop : opl (i ++ [x0, x1, x2, x3]) = [] := by
        unfold opl
        rw [if_neg (by rw [hok]; decide)]
      exact ⟨none, 0, by rw [hop, hok]; rfl, by rw [hop]; exact Or.inl rfl, hw⟩
  · have hok : okb l = false := by
      unfold okb
      rw [decide_eq_false h4]; rfl
    have hop : opl l = [] := by
      unfold opl
      rw [if_neg (by rw [hok]; decide)]
    refine (open_short a l.length cap w (by omega)).mono fun e w' h => ?_
    rcases h with ⟨h, _⟩ | ⟨_, rfl, hw⟩
    · cases h
    · exact ⟨none, 0, by rw [hop, hok]; rfl, by rw [hop]; exact Or.inl rfl, hw⟩
theorem ropen_u (a : Option Addr) (l : List UInt8) (n cap : Nat) (w : World) (hb : BAt w a l) (hn : l.length = n) (ha : a = none → l = []) (hc : n ≤ cap) (hl : n ≤ 1000) :
    Calls Try.prog 14 #[.slice a n cap] w (OpenU l w) := by
  subst hn
  refine (ropen_any a l cap w hb ha hc hl).mono fun e w' h => ?_
  rcases h with ⟨h, rfl, hw⟩ | ⟨h, rfl, hw⟩
  · have hok := (okb_iff l).2 h
    have hop : opl l = l.take (l.length - 4) := by unfold opl; rw [if_pos hok]
    exact ⟨a, cap, by rw [hop, hok, List.length_take, Nat.min_eq_left (by omega)], by rw [hop]; exact (hb.below hw).take _, hw⟩
  · have hok : okb l = false := by
      cases hq : okb l with
      | false => rfl
      | true => exact absurd ((okb_iff l).1 hq) h
    have hop : opl l = [] := by
      unfold opl
      rw [if_neg (by rw [hok]; decide)]
    exact ⟨none, 0, by rw [hop, hok]; rfl, by rw [hop]; exact Or.inl rfl, hw⟩
set_option maxRecDepth 100000 in
set_option maxHeartbeats 3200000 in
theorem closes_in (a : Option Addr) (l : List UInt8) (n cap : Nat) (w : World) (hb : BAt w a l) (hn : l.length = n) (ha : a = none → l = []) (hc : n ≤ cap) (hl : n ≤ 300) :
    Calls Try.prog 5 #[.slice a n cap] w fun e w' => e = .returned (.bool true) ∧ RowKit.Below w.heap.size w w' := by
  subst hn
  have d0 : decide ((300 : Int) < (l.length : Int)) = false := by simp; omega
  have HB := Lib.hid hb
  have HA := Lib.hid ha
  have HL := Lib.hid (show ([] : List UInt8).length + l.length ≤ 1000000000 by simp; omega)
  have hs4 : (l ++ sealL l).length ≤ 1000 := by rw [List.length_append, sealL_len]; omega
  have C2 := fun (W : World) (h : BAt W a l) => Lib.hid (rclose_any a l l.length cap W h rfl ha (by omega))
  have O2 := fun (W : World) (h : BAt W a l) => Lib.hid (ropen_u a l l.length cap W h rfl ha hc (by omega))
  have C1' := fun (W : World) (A : Option Addr) (c : Nat) (h : BAt W A l) (hA : A = none → l = []) => Lib.hid (close_any A l l.length c W h rfl hA (by omega))
  have O1 := fun (W : World) (A : Option Addr) (c : Nat) (h : BAt W A l) (h2 : l.length ≤ c) => Lib.hid (open_u A l l.length c W h rfl h2 (by omega))
  have O3 := fun (W : World) (A : Option Addr) (c : Nat) (h : BAt W A (l ++ sealL l)) (h2 : (l ++ sealL l).length ≤ c) => Lib.hid (open_u A (l ++ sealL l) (l ++ sealL l).length c W h rfl h2 hs4)
  unfold OpenU at O1 O2 O3
  simp only [okb_closed, opl_closed] at O3
  generalize okb l = ok at *
  generalize opl l = lo at *
  generalize l ++ sealL l = ls at *
  clear hb ha hs4 hl hc
  go_enter Try.func5, Try.ntmps5
  go_wp2_with fail
  refine (alive_any _).mono ?_
  rintro _ w1 ⟨rfl, hb1⟩
  have HW1 := Lib.hid hb1
  have HL1 := Lib.hid (HB.out.below hb1)
  have HA1 := Lib.hid (HL1.out.below ((RowKit.Below.refl _ _).alloc (Nat.le_refl _) (.cells #[] 5)))
  clear hb1
  go_wp2_with (at_builtin; refine wpList_appB rfl _ _ rfl w1.heap.size _ [] l a cap _ (by rfl) (by rfl) rfl (OB.lit (Nat.le_refl _)) HA1.out HA.out HL.out (by simp) ?_; intro v2 w2 h2)
  rw [List.nil_append] at h2
  obtain ⟨o2, u2, s2, z2⟩ := h2
  have HX2 := Lib.hid (u2.below (OB.lit (Nat.le_refl _)) (by simp) ((RowKit.Below.refl w1.heap.size w1).alloc (Nat.le_refl _) _))
  obtain ⟨ao, co, hv, ho2, hco, _, hno, _⟩ := o2.row
  subst hv
  have HN2 := Lib.hid (show ao = none → l = [] from fun e => List.eq_nil_of_length_eq_zero (by have := hno e; omega))
  have C1 := fun (W : World) (h : BAt W ao l) => C1' W ao co h HN2.out
  have HCO := Lib.hid hco
  have HO2 := Lib.hid ho2
  have HL2 := Lib.hid (HL1.out.below HX2.out)
  have HW2 := Lib.hid (HW1.out.trans (HX2.out.mono HW1.out.size))
  clear o2 u2 s2 z2 ho2 hco hno C1'
  go_simp
  go_wp2_with fail
  refine (O1 _ _ _ HO2.out HCO.out).out.mono ?_
  rintro _ w3 ⟨aa, ca, rfl, hb3, hx3⟩
  have HA3 := Lib.hid hb3
  have HO3 := Lib.hid (HO2.out.below hx3)
  have HL3 := Lib.hid (HL2.out.below hx3)
  have HW3 := Lib.hid (HW2.out.trans (hx3.mono HW2.out.size))
  clear hb3 hx3
  go_wp2_with fail
  refine (O2 _ HL3.out).out.mono ?_
  rintro _ w4 ⟨ac, cc, rfl, hb4, hx4⟩
  have HC4 := Lib.hid hb4
  have HA4 := Lib.hid (HA3.out.below hx4)
  have HO4 := Lib.hid (HO3.out.below hx4)
  have HL4 := Lib.hid (HL3.out.below hx4)
  have HW4 := Lib.hid (HW3.out.trans (hx4.mono HW3.out.size))
  clear hb4 hx4
  go_wp2_with fail
  refine (C1 _ HO4.out).out.mono ?_
  rintro _ w5 h5
  obtain ⟨a5, c5, rfl, hb5, _, hx5, hc5⟩ := h5.row
  have HS5 := Lib.hid hb5
  have HCS := Lib.hid hc5
  have HC5 := Lib.hid (HC4.out.below hx5)
  have HA5 := Lib.hid (HA4.out.below hx5)
  have HO5 := Lib.hid (HO4.out.below hx5)
  have HL5 := Lib.hid (HL4.out.below hx5)
  have HW5 := Lib.hid (HW4.out.trans (hx5.mono HW4.out.size))
  clear h5 hb5 hx5 hc5
  go_wp2_with fail
  refine (O3 _ _ _ HS5.out HCS.out).out.mono ?_
  rintro _ w6 ⟨ay, cy, rfl, hb6, hx6⟩
  have HY6 := Lib.hid hb6
  have HC6 := Lib.hid (HC5.out.below hx6)
  have HA6 := Lib.hid (HA5.out.below hx6)
  have HO6 := Lib.hid (HO5.out.below hx6)
  have HL6 := Lib.hid (HL5.out.below hx6)
  have HW6 := Lib.hid (HW5.out.trans (hx6.mono HW5.out.size))
  clear hb6 hx6 O1 O2 O3
  go_wp2_with fail
  refine wp_region_held_drew (S := fun W => RowKit.Below w6.heap.size w6 W) (by kernel_rfl) ?_ (fun hHeld => ?_)
  · exact (RowKit.Below.refl _ _).drew
  refine held_take 0 (v := ?_) rfl (by kernel_rfl) (by kernel_rfl) (by kernel_rfl) (fun _ _ _ h => h) hHeld (by rfl) ?_ ?_
  rotate_left
  · (intro W hW; go_simp; try with_reducible rfl)
  try simp only [Act.put, List.setIfInBounds_toArray, List.set_cons_zero, List.set_cons_succ]
  refine held_take 3 (v := ?_) rfl (by kernel_rfl) (by kernel_rfl) (by kernel_rfl) (fun _ _ _ h => h) hHeld (by rfl) ?_ ?_
  rotate_left
  · (intro W hW; go_simp; try with_reducible rfl)
  try simp only [Act.put, List.setIfInBounds_toArray, List.set_cons_zero, List.set_cons_succ]
  refine held_next 1 rfl (by kernel_rfl) (by rfl) (fun K hK => ?_)
  go_simp
  go_at_call 15
  refine (C1 _ (HO6.out.below (RowKit.Below.refl _ _).drew)).out.mono ?_
  rintro _ w7 h7
  obtain ⟨a7, c7, rfl, hb7, _, hB7, _⟩ := h7.row
  have HX7 := Lib.hid (((RowKit.Below.refl w6.heap.size w6).drew).trans (hB7.mono (by simp)))
  have HB7 := Lib.hid hb7
  clear h7 hb7 hB7
  refine hK.out _ _ HX7.out (fun hHeld => ?_)
  clear hK K hHeld
  try simp only [Act.put, List.setIfInBounds_toArray, List.set_cons_zero, List.set_cons_succ]
  refine held_since HX7.out (fun hHeld => ?_)
  have HL7 := Lib.hid (HL6.out.below HX7.out)
  have HO7 := Lib.hid (HO6.out.below HX7.out)
  have HA7 := Lib.hid (HA6.out.below HX7.out)
  have HC7 := Lib.hid (HC6.out.below HX7.out)
  have HY7 := Lib.hid (HY6.out.below HX7.out)
  have HW7 := Lib.hid (HW6.out.trans (HX7.out.mono HW6.out.size))
  refine held_take 2 (v := ?_) rfl (by kernel_rfl) (by kernel_rfl) (by kernel_rfl) (fun _ _ _ h => h) hHeld (by rfl) ?_ ?_
  rotate_left
  · (intro W hW; have e := run_conv (HB7.out.below hW) _ c7 rfl; go_simp; try with_reducible rfl)
  try simp only [Act.put, List.setIfInBounds_toArray, List.set_cons_zero, List.set_cons_succ]
  refine held_next 4 rfl (by kernel_rfl) (by rfl) (fun K hK => ?_)
  go_simp
  go_at_call 16
  refine (C2 _ HL7.out).out.mono ?_
  rintro _ w8 h8
  obtain ⟨a8, c8, rfl, hb8, _, hB8, _⟩ := h8.row
  have HB8 := Lib.hid hb8
  have HX8 := Lib.hid hB8
  clear h8 hb8 hB8
  refine hK.out _ _ HX8.out (fun hHeld => ?_)
  clear hK K hHeld
  try simp only [Act.put, List.setIfInBounds_toArray, List.set_cons_zero, List.set_cons_succ]
  refine held_since HX8.out (fun hHeld => ?_)
  have HL8 := Lib.hid (HL7.out.below HX8.out)
  have HO8 := Lib.hid (HO7.out.below HX8.out)
  have HA8 := Lib.hid (HA7.out.below HX8.out)
  have HC8 := Lib.hid (HC7.out.below HX8.out)
  have HY8 := Lib.hid (HY7.out.below HX8.out)
  have HW8 := Lib.hid (HW7.out.trans (HX8.out.mono HW7.out.size))
  refine held_take 5 (v := ?_) rfl (by kernel_rfl) (by kernel_rfl) (by kernel_rfl) (fun _ _ _ h => h) hHeld (by rfl) ?_ ?_
  rotate_left
  · (intro W hW; have e := run_conv (HB8.out.below hW) _ c8 rfl; go_simp; try with_reducible rfl)
  try simp only [Act.put, List.setIfInBounds_toArray, List.set_cons_zero, List.set_cons_succ]
  refine held_take 6 (v := ?_) rfl (by kernel_rfl) (by kernel_rfl) (by kernel_rfl) (fun _ _ _ h => h) hHeld (by rfl) ?_ ?_
  rotate_left
  · (intro W hW; go_simp; try with_reducible rfl)
  try simp only [Act.put, List.setIfInBounds_toArray, List.set_cons_zero, List.set_cons_succ]
  refine held_take 7 (v := ?_) rfl (by kernel_rfl) (by kernel_rfl) (by kernel_rfl) (fun _ _ _ h => h) hHeld (by rfl) ?_ ?_
  rotate_left
  · (intro W hW; go_simp; try with_reducible rfl)
  try simp only [Act.put, List.setIfInBounds_toArray, List.set_cons_zero, List.set_cons_succ]
  refine held_take 8 (v := ?_) rfl (by kernel_rfl) (by kernel_rfl) (by kernel_rfl) (fun _ _ _ h => h) hHeld (by rfl) ?_ ?_
  rotate_left
  · (intro W hW; go_simp; try with_reducible rfl)
  try simp only [Act.put, List.setIfInBounds_toArray, List.set_cons_zero, List.set_cons_succ]
  refine held_take 9 (v := ?_) rfl (by kernel_rfl) (by kernel_rfl) (by kernel_rfl) (fun _ _ _ h => h) hHeld (by rfl) ?_ ?_
  rotate_left
  · (intro W hW; have e := run_conv (HA8.out.below hW) _ ca rfl; go_simp; try with_reducible rfl)
  try simp only [Act.put, List.setIfInBounds_toArray, List.set_cons_zero, List.set_cons_succ]
  refine held_take 10 (v := ?_) rfl (by kernel_rfl) (by kernel_rfl) (by kernel_rfl) (fun _ _ _ h => h) hHeld (by rfl) ?_ ?_
  rotate_left
  · (intro W hW; go_simp; try with_reducible rfl)
  try simp only [Act.put, List.setIfInBounds_toArray, List.set_cons_zero, List.set_cons_succ]
  refine held_take 11 (v := ?_) rfl (by kernel_rfl) (by kernel_rfl) (by kernel_rfl) (fun _ _ _ h => h) hHeld (by rfl) ?_ ?_
  rotate_left
  · (intro W hW; have e := run_conv (HC8.out.below hW) _ cc rfl; go_simp; try with_reducible rfl)
  try simp only [Act.put, List.setIfInBounds_toArray, List.set_cons_zero, List.set_cons_succ]
  refine held_take 12 (v := ?_) rfl (by kernel_rfl) (by kernel_rfl) (by kernel_rfl) (fun _ _ _ h => h) hHeld (by rfl) ?_ ?_
  rotate_left
  · (intro W hW; go_simp; try with_reducible rfl)
  try simp only [Act.put, List.setIfInBounds_toArray, List.set_cons_zero, List.set_cons_succ]
  refine held_take 13 (v := ?_) rfl (by kernel_rfl) (by kernel_rfl) (by kernel_rfl) (fun _ _ _ h => h) hHeld (by rfl) ?_ ?_
  rotate_left
  · (intro W hW; go_simp; try with_reducible rfl)
  try simp only [Act.put, List.setIfInBounds_toArray, List.set_cons_zero, List.set_cons_succ]
  refine held_take 14 (v := ?_) rfl (by kernel_rfl) (by kernel_rfl) (by kernel_rfl) (fun _ _ _ h => h) hHeld (by rfl) ?_ ?_
  rotate_left
  · (intro W hW; go_simp; try with_reducible rfl)
  try simp only [Act.put, List.setIfInBounds_toArray, List.set_cons_zero, List.set_cons_succ]
  refine held_take 15 (v := ?_) rfl (by kernel_rfl) (by kernel_rfl) (by kernel_rfl) (fun _ _ _ h => h) hHeld (by rfl) ?_ ?_
  rotate_left
  · (intro W hW; go_simp; try with_reducible rfl)
  try simp only [Act.put, List.setIfInBounds_toArray, List.set_cons_zero, List.set_cons_succ]
  refine held_take 16 (v := ?_) rfl (by kernel_rfl) (by kernel_rfl) (by kernel_rfl) (fun _ _ _ h => h) hHeld (by rfl) ?_ ?_
  rotate_left
  · (intro W hW; go_simp; try with_reducible rfl)
  try simp only [Act.put, List.setIfInBounds_toArray, List.set_cons_zero, List.set_cons_succ]
  refine held_take 17 (v := ?_) rfl (by kernel_rfl) (by kernel_rfl) (by kernel_rfl) (fun _ _ _ h => h) hHeld (by rfl) ?_ ?_
  rotate_left
  · (intro W hW; go_simp; try with_reducible rfl)
  try simp only [Act.put, List.setIfInBounds_toArray, List.set_cons_zero, List.set_cons_succ]
  refine held_take 18 (v := ?_) rfl (by kernel_rfl) (by kernel_rfl) (by kernel_rfl) (fun _ _ _ h => h) hHeld (by rfl) ?_ ?_
  rotate_left
  · (intro W hW; go_simp; try with_reducible rfl)
  try simp only [Act.put, List.setIfInBounds_toArray, List.set_cons_zero, List.set_cons_succ]
  refine held_take 19 (v := ?_) rfl (by kernel_rfl) (by kernel_rfl) (by kernel_rfl) (fun _ _ _ h => h) hHeld (by rfl) ?_ ?_
  rotate_left
  · (intro W hW; go_simp; try with_reducible rfl)
  try simp only [Act.put, List.setIfInBounds_toArray, List.set_cons_zero, List.set_cons_succ]
  refine held_take 20 (v := ?_) rfl (by kernel_rfl) (by kernel_rfl) (by kernel_rfl) (fun _ _ _ h => h) hHeld (by rfl) ?_ ?_
  rotate_left
  · (intro W hW; go_simp; try with_reducible rfl)
  try simp only [Act.put, List.setIfInBounds_toArray, List.set_cons_zero, List.set_cons_succ]
  refine held_take 21 (v := ?_) rfl (by kernel_rfl) (by kernel_rfl) (by kernel_rfl) (fun _ _ _ h => h) hHeld (by rfl) ?_ ?_
  rotate_left
  · (intro W hW; go_simp; try with_reducible rfl)
  try simp only [Act.put, List.setIfInBounds_toArray, List.set_cons_zero, List.set_cons_succ]
  refine held_take 22 (v := ?_) rfl (by kernel_rfl) (by kernel_rfl) (by kernel_rfl) (fun _ _ _ h => h) hHeld (by rfl) ?_ ?_
  rotate_left
  · (intro W hW; go_simp; try with_reducible rfl)
  try simp only [Act.put, List.setIfInBounds_toArray, List.set_cons_zero, List.set_cons_succ]
  refine held_take 23 (v := ?_) rfl (by kernel_rfl) (by kernel_rfl) (by kernel_rfl) (fun _ _ _ h => h) hHeld (by rfl) ?_ ?_
  rotate_left
  · (intro W hW; go_simp; try with_reducible rfl)
  try simp only [Act.put, List.setIfInBounds_toArray, List.set_cons_zero, List.set_cons_succ]
  refine held_take 24 (v := ?_) rfl (by kernel_rfl) (by kernel_rfl) (by kernel_rfl) (fun _ _ _ h => h) hHeld (by rfl) ?_ ?_
  rotate_left
  · (intro W hW; have e := run_conv (HY8.out.below hW) _ cy rfl; go_simp; try with_reducible rfl)
  try simp only [Act.put, List.setIfInBounds_toArray, List.set_cons_zero, List.set_cons_succ]
  refine held_take 25 (v := ?_) rfl (by kernel_rfl) (by kernel_rfl) (by kernel_rfl) (fun _ _ _ h => h) hHeld (by rfl) ?_ ?_
  rotate_left
  · (intro W hW; go_simp; try with_reducible rfl)
  try simp only [Act.put, List.setIfInBounds_toArray, List.set_cons_zero, List.set_cons_succ]
  refine held_take 26 (v := ?_) rfl (by kernel_rfl) (by kernel_rfl) (by kernel_rfl) (fun _ _ _ h => h) hHeld (by rfl) ?_ ?_
  rotate_left
  · (intro W hW; have e := run_conv (HL8.out.below hW) _ cap rfl; go_simp; try with_reducible rfl)
  try simp only [Act.put, List.setIfInBounds_toArray, List.set_cons_zero, List.set_cons_succ]
  refine held_take 27 (v := ?_) rfl (by kernel_rfl) (by kernel_rfl) (by kernel_rfl) (fun _ _ _ h => h) hHeld (by rfl) ?_ ?_
  rotate_left
  · (intro W hW; go_simp; try with_reducible rfl)
  try simp only [Act.put, List.setIfInBounds_toArray, List.set_cons_zero, List.set_cons_succ]
  refine held_take 28 (v := ?_) rfl (by kernel_rfl) (by kernel_rfl) (by kernel_rfl) (fun _ _ _ h => h) hHeld (by rfl) ?_ ?_
  rotate_left
  · (intro W hW; go_simp; try with_reducible rfl)
  try simp only [Act.put, List.setIfInBounds_toArray, List.set_cons_zero, List.set_cons_succ]
  refine held_take 29 (v := ?_) rfl (by kernel_rfl) (by kernel_rfl) (by kernel_rfl) (fun _ _ _ h => h) hHeld (by rfl) ?_ ?_
  rotate_left
  · (intro W hW; go_simp; try with_reducible rfl)
  try simp only [Act.put, List.setIfInBounds_toArray, List.set_cons_zero, List.set_cons_succ]
  refine held_take 30 (v := ?_) rfl (by kernel_rfl) (by kernel_rfl) (by kernel_rfl) (fun _ _ _ h => h) hHeld (by rfl) ?_ ?_
  rotate_left
  · (intro W hW; go_simp; try with_reducible rfl)
  try simp only [Act.put, List.setIfInBounds_toArray, List.set_cons_zero, List.set_cons_succ]
  refine held_take 31 (v := ?_) rfl (by kernel_rfl) (by kernel_rfl) (by kernel_rfl) (fun _ _ _ h => h) hHeld (by rfl) ?_ ?_
  rotate_left
  · (intro W hW; have e := run_conv (HO8.out.below hW) _ co rfl; go_simp; try with_reducible rfl)
  try simp only [Act.put, List.setIfInBounds_toArray, List.set_cons_zero, List.set_cons_succ]
  refine held_take 32 (v := ?_) rfl (by kernel_rfl) (by kernel_rfl) (by kernel_rfl) (fun _ _ _ h => h) hHeld (by rfl) ?_ ?_
  rotate_left
  · (intro W hW; go_simp; try with_reducible rfl)
  try simp only [Act.put, List.setIfInBounds_toArray, List.set_cons_zero, List.set_cons_succ]
  refine held_take 33 (v := ?_) rfl (by kernel_rfl) (by kernel_rfl) (by kernel_rfl) (fun _ _ _ h => h) hHeld (by rfl) ?_ ?_
  rotate_left
  · (intro W hW; have e := run_conv (HL8.out.below hW) _ cap rfl; go_simp; try with_reducible rfl)
  try simp only [Act.put, List.setIfInBounds_toArray, List.set_cons_zero, List.set_cons_succ]
  refine held_take 34 (v := ?_) rfl (by kernel_rfl) (by kernel_rfl) (by kernel_rfl) (fun _ _ _ h => h) hHeld (by rfl) ?_ ?_
  rotate_left
  · (intro W hW; go_simp; try with_reducible rfl)
  try simp only [Act.put, List.setIfInBounds_toArray, List.set_cons_zero, List.set_cons_succ]
  refine held_take 35 (v := ?_) rfl (by kernel_rfl) (by kernel_rfl) (by kernel_rfl) (fun _ _ _ h => h) hHeld (by rfl) ?_ ?_
  rotate_left
  · (intro W hW; go_simp; try with_reducible rfl)
  try simp only [Act.put, List.setIfInBounds_toArray, List.set_cons_zero, List.set_cons_succ]
  refine held_take 36 (v := ?_) rfl (by kernel_rfl) (by kernel_rfl) (by kernel_rfl) (fun _ _ _ h => h) hHeld (by rfl) ?_ ?_
  rotate_left
  · (intro W hW; go_simp; try with_reducible rfl)
  try simp only [Act.put, List.setIfInBounds_toArray, List.set_cons_zero, List.set_cons_succ]
  refine wpAnyH_done (by kernel_rfl) ?_ _
  go_simp
  go_wp2_with fail
  go_ret
  exact ⟨rfl, HW8.out⟩
set_option maxRecDepth 100000 in
theorem closes_out (a : Option Addr) (n c : Nat) (w : World) (h0 : 300 < n) :
    Calls Try.prog 5 #[.slice a n c] w fun e w' => e = .returned (.bool true) ∧ RowKit.Below w.heap.size w w' := by
  have d0 : decide ((300 : Int) < (n : Int)) = true := by simp; omega
  go_enter Try.func5, Try.ntmps5
  go_wp2_with fail
  refine (alive_any _).mono ?_
  rintro _ w1 ⟨rfl, hb1⟩
  have HW := Lib.hid hb1
  clear hb1
  go_wp2_with fail
  go_ret
  exact ⟨rfl, HW.out⟩
theorem crcCloses_walk (w : World) (a0 : Option Addr) (len0 cap0 : Nat) (l0 : List UInt8) (w0 : CameB w a0 len0 cap0 l0) :
    Calls Try.prog 5 #[.slice a0 len0 cap0] w fun e w' => e = .returned (.bool true) ∧ RowKit.Below w.heap.size w w' := by
  by_cases h : 300 < len0
  · exact closes_out a0 len0 cap0 w h
  · exact closes_in a0 l0 len0 cap0 w w0.row w0.ln w0.none w0.cp (by omega)
end Go.Proofs.Ytfbbkoibccndkaa
