/- The document's reader: texts, floats. -/
import Derived.Test.YtcahmijcfmakjaaPkK
namespace Go.Proofs.Ytcahmijcfmakjaa
open Go.RowKit Go.Lib

theorem s_fail {bs : List UInt8} {m : Nat} (h : sO bs m = false) : sV bs m = 0 ∧ sR bs m = [] := by
  unfold sV sR
  by_cases c : nV bs ≤ m ∧ nV bs ≤ 2147483648
  · rw [if_pos c, if_pos c]
    have ho : nO bs = false := by unfold sO at h; simpa [c] using h
    cases e : dec bs with
    | none => obtain ⟨h1, h2, _⟩ := n_none e; exact ⟨h1, h2⟩
    | some r => simp [nO, e] at ho
  · rw [if_neg c, if_neg c]; exact ⟨rfl, rfl⟩
/-- what TakeText answers -/
def TakenT (A0 : Option Addr) (bs : List UInt8) (w : World) (e : Ending) (w' : World) : Prop :=
  ∃ A cap, e = .returned (.tuple #[.agg #[.slice A (tR bs).length cap, .bool (!tO bs)], .string (strB (tV bs))]) ∧ RV w' A cap (tR bs) ∧ RowKit.Below w.heap.size w w' ∧ Sub A A0
set_option maxHeartbeats 3200000 in
set_option maxRecDepth 100000 in
theorem rtaketext (A : Option Addr) (cap : Nat) (bs : List UInt8) (f : Bool) (w : World) (h : RV w A cap bs) (hl : bs.length ≤ 400) :
    Calls Try.prog 26 #[.agg #[.slice A bs.length cap, .bool f]] w (TakenT A bs w) := by
  have H := Lib.hid h
  have HT := Lib.hid (TB.start w A bs.length cap f)
  have HL := Lib.hid (sR_len bs 65536)
  have CN : ∀ (W : World), RV W A cap bs → Hid (Calls Try.prog 24 #[.agg #[.slice A bs.length cap, .bool f], .int .u64 65536] W fun e w' => ∃ A1 c1, e = .returned (.tuple #[.agg #[.slice A1 (sR bs 65536).length c1, .bool (!sO bs 65536)], .int .i64 (sV bs 65536 : Int)]) ∧ RV w' A1 c1 (sR bs 65536) ∧ RowKit.Below W.heap.size W w' ∧ Sub A1 A) := fun W h => Lib.hid (rtakesmall A cap bs f 65536 W h hl (by omega) (by omega))
  have HSF := Lib.hid (s_fail (bs := bs) (m := 65536))
  have hn : sV bs 65536 ≤ 65536 := by unfold sV; split <;> omega
  by_cases hc : sV bs 65536 ≤ (sR bs 65536).length
  · cases ho : sO bs 65536
    · obtain ⟨z1, z2⟩ := HSF.out ho
      have HE := Lib.hid (show tV bs = [] ∧ tR bs = sR bs 65536 ∧ (!tO bs) = true by unfold tV tR tO; rw [if_pos hc, if_pos hc, z1, z2, ho]; simp)
      simp only [ho] at CN
      generalize sR bs 65536 = r at *
      generalize sV bs 65536 = n at *
      subst z1 z2
      clear h hc HSF hn
      go_enter Try.func26, Try.ntmps26
      go_wp2_with fail
      refine (CN _ (H.out.below HT.out.2.2.2.2.2.2)).out.mono ?_
      rintro _ w1 ⟨A1, c1, rfl, hv1, hb1, hs1⟩
      obtain ⟨_, g2, g3, g4, g5, g6, g7⟩ := HT.out.below hb1
      have HV1 := Lib.hid hv1
      have HW1 := Lib.hid g7
      have HS1 := Lib.hid hs1
      have hne : w.heap.size + 1 < w1.heap.size := by omega
      clear hv1 hb1 hs1 g7 g6 CN
      go_wp2
      refine bodyPost_ret (v := .tuple #[.agg #[.slice A1 0 c1, .bool true], .string ⟨#[]⟩]) (by simp [results, Try.results26, go_sem, g2, g3, hne]) rfl ?_
      refine ⟨A1, c1, ?_, ?_, ?_, HS1.out⟩
      · rw [HE.out.1, HE.out.2.1, HE.out.2.2]; rfl
      · rw [HE.out.2.1]
        exact ⟨Or.inl rfl, by simp, fun _ => rfl⟩
      · have hb := RowKit.Below.setCell (p := ⟨w.heap.size + 1, 1, none⟩) (RowKit.Below.setCell (p := ⟨w.heap.size + 1, 0, none⟩) HW1.out (by show w.heap.size ≤ w.heap.size + 1; omega) (.slice A1 0 c1)) (by show w.heap.size ≤ w.heap.size + 1; omega) (.bool true)
        exact hb.alloc (by have := HW1.out.size; simp; omega) _
    · have HE := Lib.hid (show tV bs = (sR bs 65536).take (sV bs 65536) ∧ tR bs = (sR bs 65536).drop (sV bs 65536) ∧ (!tO bs) = false by unfold tV tR tO tC; rw [if_pos hc, if_pos hc, ho]; simp [hc])
      have HC := Lib.hid hc
      simp only [ho] at CN
      generalize sR bs 65536 = r at *
      generalize sV bs 65536 = n at *
      have HTL := Lib.hid (show (r.take n).length = n by rw [List.length_take]; omega)
      have d1 : decide (r.length < n) = false := by simp; omega
      have rf := fun A1 c1 => run_from A1 r.length c1 n hc
      clear h hc HSF
      go_enter Try.func26, Try.ntmps26
      go_wp2_with fail
      refine (CN _ (H.out.below HT.out.2.2.2.2.2.2)).out.mono ?_
      rintro _ w1 ⟨A1, c1, rfl, hv1, hb1, hs1⟩
      obtain ⟨_, g2, g3, g4, g5, g6, g7⟩ := HT.out.below hb1
      have HV1 := Lib.hid hv1
      have HW1 := Lib.hid g7
      have HS1 := Lib.hid hs1
      have hne : w.heap.size + 1 < w1.heap.size := by omega
      have rf := rf A1 c1
      have rt := run_to A1 r.length c1 n (by have := hv1.2.1; have := HC.out; omega)
      clear hv1 hb1 hs1 g7 g6 CN
      go_wp2_with fail
      refine wp_region_held_drew (S := fun W => W.cell? ⟨w1.heap.size, 0, none⟩ = some (.slice A1 r.length c1) ∧ BAt W A1 r) (by kernel_rfl) ?_ (fun hHeld => ?_)
      · exact ⟨by simp [go_sem], HV1.out.1.below (((RowKit.Below.refl _ _).alloc (Nat.le_refl _) _).drew)⟩
      refine held_take 0 (v := ?_) rfl (by kernel_rfl) (by kernel_rfl) (by kernel_rfl) (fun _ _ _ h => h) hHeld (by rfl) ?_ ?_
      rotate_left
      · (intro W hW; obtain ⟨hW1, hW2⟩ := hW; go_simp; try with_reducible rfl)
      try simp only [Act.put, List.setIfInBounds_toArray, List.set_cons_zero, List.set_cons_succ]
      refine held_take 1 (v := ?_) rfl (by kernel_rfl) (by kernel_rfl) (by kernel_rfl) (fun _ _ _ h => h) hHeld (by rfl) ?_ ?_
      rotate_left
      · (intro W hW; obtain ⟨hW1, hW2⟩ := hW; go_simp; try with_reducible rfl)
      try simp only [Act.put, List.setIfInBounds_toArray, List.set_cons_zero, List.set_cons_succ]
      refine held_take 2 (v := ?_) rfl (by kernel_rfl) (by kernel_rfl) (by kernel_rfl) (fun _ _ _ h => h) hHeld (by rfl) ?_ ?_
      rotate_left
      · (intro W hW; obtain ⟨hW1, hW2⟩ := hW; go_simp; try with_reducible rfl)
      try simp only [Act.put, List.setIfInBounds_toArray, List.set_cons_zero, List.set_cons_succ]
      refine held_take 3 (v := ?_) rfl (by kernel_rfl) (by kernel_rfl) (by kernel_rfl) (fun _ _ _ h => h) hHeld (by rfl) ?_ ?_
      rotate_left
      · (intro W hW; obtain ⟨hW1, hW2⟩ := hW; go_simp; try with_reducible rfl)
      try simp only [Act.put, List.setIfInBounds_toArray, List.set_cons_zero, List.set_cons_succ]
      refine held_take 4 (v := ?_) rfl (by kernel_rfl) (by kernel_rfl) (by kernel_rfl) (fun _ _ _ h => h) hHeld (by rfl) ?_ ?_
      rotate_left
      · (intro W hW; obtain ⟨hW1, hW2⟩ := hW; go_simp; try with_reducible rfl)
      try simp only [Act.put, List.setIfInBounds_toArray, List.set_cons_zero, List.set_cons_succ]
      refine held_take 5 (v := ?_) rfl (by kernel_rfl) (by kernel_rfl) (by kernel_rfl) (fun _ _ _ h => h) hHeld (by rfl) ?_ ?_
      rotate_left
      · (intro W hW; obtain ⟨hW1, hW2⟩ := hW; go_simp; try with_reducible rfl)
      try simp only [Act.put, List.setIfInBounds_toArray, List.set_cons_zero, List.set_cons_succ]
      refine held_take 6 (v := ?_) rfl (by kernel_rfl) (by kernel_rfl) (by kernel_rfl) (fun _ _ _ h => h) hHeld (by rfl) ?_ ?_
      rotate_left
      · (intro W hW; obtain ⟨hW1, hW2⟩ := hW; go_simp; try with_reducible rfl)
      try simp only [Act.put, List.setIfInBounds_toArray, List.set_cons_zero, List.set_cons_succ]
      refine held_take 7 (v := ?_) rfl (by kernel_rfl) (by kernel_rfl) (by kernel_rfl) (fun _ _ _ h => h) hHeld (by rfl) ?_ ?_
      rotate_left
      · (intro W hW; obtain ⟨hW1, hW2⟩ := hW; go_simp; try with_reducible rfl)
      try simp only [Act.put, List.setIfInBounds_toArray, List.set_cons_zero, List.set_cons_succ]
      refine held_take 8 (v := ?_) rfl (by kernel_rfl) (by kernel_rfl) (by kernel_rfl) (fun _ _ _ h => h) hHeld (by rfl) ?_ ?_
      rotate_left
      · (intro W hW; obtain ⟨hW1, hW2⟩ := hW; go_simp; try with_reducible rfl)
      try simp only [Act.put, List.setIfInBounds_toArray, List.set_cons_zero, List.set_cons_succ]
      refine held_take 9 (v := ?_) rfl (by kernel_rfl) (by kernel_rfl) (by kernel_rfl) (fun _ _ _ h => h) hHeld (by rfl) ?_ ?_
      rotate_left
      · (intro W hW; obtain ⟨hW1, hW2⟩ := hW; have e := run_conv (hW2.take n) n c1 HTL.out; go_simp; try with_reducible rfl)
      try simp only [Act.put, List.setIfInBounds_toArray, List.set_cons_zero, List.set_cons_succ]
      refine held_next 10 rfl (by kernel_rfl) (by rfl) (fun K hK => ?_)
      go_simp
      refine hK.out _ _ ⟨?_, ?_⟩ (fun hHeld => ?_)
      · simp [go_sem]
      · exact ((HV1.out.set (w := w) (g := w.heap.size + 1) HS1.out H.out.1 HL.out (by omega) 0 (.slice (cutA A1 c1 n) (r.length - n) (c1 - n))).set (w := w) (g := w.heap.size + 1) HS1.out H.out.1 HL.out (by omega) 1 (.bool false)).1.below (((RowKit.Below.refl _ _).alloc (Nat.le_refl _) _).drew)
      clear hK K
      try simp only [Act.put, List.setIfInBounds_toArray, List.set_cons_zero, List.set_cons_succ]
      refine held_take 11 (v := ?_) rfl (by kernel_rfl) (by kernel_rfl) (by kernel_rfl) (fun _ _ _ h => h) hHeld (by rfl) ?_ ?_
      rotate_left
      · (intro W hW; obtain ⟨hW1, hW2⟩ := hW; go_simp; try with_reducible rfl)
      try simp only [Act.put, List.setIfInBounds_toArray, List.set_cons_zero, List.set_cons_succ]
      refine wpAnyH_done (by kernel_rfl) ?_ _
      go_simp
      go_wp2
      refine bodyPost_ret (v := .tuple #[.agg #[.slice (cutA A1 c1 n) (r.length - n) (c1 - n), .bool false], .string (strB (r.take n))]) (by simp [results, Try.results26, go_sem, g2, g3, hne]) rfl ?_
      refine ⟨cutA A1 c1 n, c1 - n, ?_, ?_, ?_, (show Sub (cutA A1 c1 n) A from fun k h => HS1.out k (cutA_blk h))⟩
      · rw [HE.out.1, HE.out.2.1, HE.out.2.2, List.length_drop]
      · rw [HE.out.2.1]
        have hv := (((HV1.out.set (w := w) (g := w.heap.size + 1) HS1.out H.out.1 HL.out (by omega) 0 (.slice (cutA A1 c1 n) (r.length - n) (c1 - n))).set (w := w) (g := w.heap.size + 1) HS1.out H.out.1 HL.out (by omega) 1 (.bool false)).drop HC.out)
        exact hv.below (((RowKit.Below.refl _ _).alloc (Nat.le_refl _) _).drew)
      · have hb := RowKit.Below.setCell (p := ⟨w.heap.size + 1, 1, none⟩) (RowKit.Below.setCell (p := ⟨w.heap.size + 1, 0, none⟩) HW1.out (by show w.heap.size ≤ w.heap.size + 1; omega) (.slice (cutA A1 c1 n) (r.length - n) (c1 - n))) (by show w.heap.size ≤ w.heap.size + 1; omega) (.bool false)
        exact (hb.alloc (by have := HW1.out.size; simp; omega) _).drew
  · have HE := Lib.hid (show tV bs = [] ∧ tR bs = [] ∧ (!tO bs) = true by unfold tV tR tO tC; rw [if_neg hc, if_neg hc]; simp [hc])
    generalize ho : sO bs 65536 = o at *
    clear ho
    generalize sR bs 65536 = r at *
    generalize sV bs 65536 = n at *
    have d1 : decide (r.length < n) = true := by simp; omega
    clear h hc HSF
    go_enter Try.func26, Try.ntmps26
    go_wp2_with fail
    refine (CN _ (H.out.below HT.out.2.2.2.2.2.2)).out.mono ?_
    rintro _ w1 ⟨A1, c1, rfl, hv1, hb1, hs1⟩
    have HB1 := Lib.hid hb1
    clear hv1 hb1 hs1 CN
    go_wp2_with fail
    refine (failed_any _).mono ?_
    rintro _ w2 ⟨rfl, hb2⟩
    obtain ⟨_, g2, g3, g4, g5, g6, g7⟩ := HT.out.below (bl_trans HB1.out (bl_trans ((RowKit.Below.refl _ _).alloc (Nat.le_refl _) _) hb2))
    have HW2 := Lib.hid g7
    clear g7 g6 hb2
    go_wp2
    refine bodyPost_ret (v := .tuple #[.agg #[.slice none 0 0, .bool true], .string ⟨#[]⟩]) (by simp [results, Try.results26, go_sem, g2, g3]) rfl ?_
    refine ⟨none, 0, ?_, ?_, ?_, Sub.none _⟩
    · rw [HE.out.1, HE.out.2.1, HE.out.2.2]; rfl
    · rw [HE.out.2.1]; exact RV.nil _
    · exact RowKit.Below.setCell (p := ⟨w.heap.size + 1, 1, none⟩) (RowKit.Below.setCell (p := ⟨w.heap.size + 1, 0, none⟩) HW2.out (by show w.heap.size ≤ w.heap.size + 1; omega) _) (by show w.heap.size ≤ w.heap.size + 1; omega) _
end Go.Proofs.Ytcahmijcfmakjaa
