/- falseworklaw08.deed, kind 0. -/
import Derived.Test.YtcboknigjpdmpaaDkDa
namespace Go.Proofs.Ytcboknigjpdmpaa
open Go.RowKit Go.Lib

theorem E3.cs {F : Nat → Prop} {w W : World} {r : Dk} {R : List Value} {y : Option Nat} (h : E3 F w r R W y) : Cs 4 R := by
  obtain ⟨_, a0, c0, a1, c1, e, _⟩ := h
  rw [e]; exact rcs_cs _ _ _ _ _
set_option maxRecDepth 100000 in
set_option maxHeartbeats 6400000 in
theorem deed0_any (g : Nat) (F : Nat → Prop) (d : Dk) (a0 : Option Addr) (c0 : Nat) (a1 : Option Addr) (c1 : Nat) (x : Dd) (w : World) (hd : DAt w F g d) (B : Nat → Prop) (hB : ∀ i, B i → i < w.heap.size) (hr : RM w (FB F B) d.norm a0 a1) (hi : I x.n) (hq : d.queue.length < 1000) (hk : x.kind = 0) :
    Calls Try.prog 13 #[.pointer (some ⟨g, 0, none⟩), .agg (rcs d.norm a0 c0 a1 c1).toArray, .agg (dcs x).toArray] w (DeedRes g F B d w) := by
  obtain ⟨R, hR⟩ : ∃ R, R = rcs d.norm a0 c0 a1 c1 := ⟨_, rfl⟩
  obtain ⟨X, hX⟩ : ∃ X, X = dcs x := ⟨_, rfl⟩
  have HRC := Lib.hid (show Cs 4 R by rw [hR]; exact rcs_cs _ _ _ _ _)
  obtain ⟨w3, hw3⟩ : ∃ w3, w3 = ((w.alloc (.cells R.toArray 36)).alloc (.cells X.toArray 40)).alloc (.cells zD.toArray 36) := ⟨_, rfl⟩
  have HB3 := Lib.hid (show RowKit.Below w.heap.size w w3 by rw [hw3]; exact (((RowKit.Below.refl _ _).alloc (Nat.le_refl _) _).alloc (by simp) _).alloc (by simp; omega) _)
  have HN3 := Lib.hid (show w3.heap.size = w.heap.size + 3 by rw [hw3]; simp)
  have HP4 := Lib.hid (show w3.heap[w.heap.size]? = some (.cells R.toArray 36) by rw [hw3]; exact blk_in (blk_in (blkn rfl)))
  have p5 : w3.heap[w.heap.size + 1]? = some (.cells X.toArray 40) := by rw [hw3]; exact blk_in (blkn (by simp))
  have HP6 := Lib.hid (show w3.heap[w.heap.size + 2]? = some (.cells zD.toArray 36) by rw [hw3]; exact blkn (by simp))
  have q0 : w3.cell? ⟨w.heap.size + 1, 0, none⟩ = some (.int .i64 0) := by rw [cell_of_row _ _ _ _ _ _ p5, hX, ← hk]; rfl
  have HQ1 := Lib.hid (show w3.cell? ⟨w.heap.size + 1, 1, none⟩ = some (.int .i64 x.n) by rw [cell_of_row _ _ _ _ _ _ p5, hX]; rfl)
  have HQ2 := Lib.hid (show w3.cell? ⟨w.heap.size + 1, 2, none⟩ = some (.int .u8 (x.paint.toNat : Int)) by rw [cell_of_row _ _ _ _ _ _ p5, hX]; rfl)
  have HFL := Lib.hid hd.fl
  have HPA := Lib.hid (fun W => painted_any x.paint W)
  have HNP := Lib.hid (norm_put d x.n (paint x.paint))
  have HNE := Lib.hid (norm_putE d x.n)
  have HRP := Lib.hid (show ∀ W, RowKit.Below w3.heap.size w3 W → Calls Try.prog 23 #[.agg R.toArray, .int .i64 x.n, .agg (bcells (paint x.paint)).toArray] W (RPutRes (fun i => FB F B i ∨ (w.heap.size ≤ i ∧ i < W.heap.size)) d.norm x.n (paint x.paint) W) from fun W hb => by
    have hb3 := HB3.out.trans (hb.mono HB3.out.size)
    rw [hR]
    exact rput_any d.norm a0 c0 a1 c1 _ x.n (paint x.paint) W (fun i hi => hi.elim (fun e => Nat.lt_of_lt_of_le (e.elim (hd.fl i) (hB i)) hb3.size) fun e => e.2) (hr.add hb3 fun i hi => hi.imp id fun e => e.1) hi (paint_len _) hq)
  have HPP := Lib.hid (fun (W : World) (hb : RowKit.Below w3.heap.size w3 W) => put_any g F d x.n (paint x.paint) W (hd.below (HB3.out.trans (hb.mono HB3.out.size))) hi (paint_len _) hq)
  have HQL := Lib.hid (put_len d x.n (paint x.paint))
  have HLT := Lib.hid (show ∀ i ∈ [w.heap.size, w.heap.size + 1], i < w3.heap.size from fun i hi => by have := HN3.out; simp at hi; omega)
  have HK0 := Lib.hid (K3.start w3)
  have HW3 := Lib.hid hw3
  rw [← hR, ← hX]
  clear hR hX hw3 p5 hd hr hi hq hk hB
  go_enter Try.func13, Try.ntmps13
  go_wp2_with (first | (with_reducible refine wpList_boxA rfl _ _ rfl _ rfl ?_) | ((with_reducible refine wpList_allocA rfl isD rfl ?_); rw [← HW3.out]))
  clear q0
  apply wp_then3 (M3 (FB F B) w w3 (d.put x.n (paint x.paint)).norm)
  · refine wp_region_held_drew (S := fun W => Agree [w.heap.size, w.heap.size + 1] w3 W) (by kernel_rfl) ?_ (fun hHeld => ?_)
    · exact fun _ _ => rfl
    refine held_take 0 (v := .agg R.toArray) rfl (by kernel_rfl) (by kernel_rfl) (by kernel_rfl) (fun _ _ _ h => by cases h.1) hHeld (by rfl) (fun W hW => exec_loadM isD _ rfl _ _ R rfl (hW.range (by simp) (range_row HP4.out)) HRC.out) ?_
    try simp only [Act.put, List.setIfInBounds_toArray, List.set_cons_zero, List.set_cons_succ]
    refine held_take 1 (v := ?_) rfl (by kernel_rfl) (by kernel_rfl) (by kernel_rfl) (fun _ _ _ h => by cases h.1) hHeld (by rfl) ?_ ?_
    rotate_left
    · (intro W hW; go_simp; try with_reducible rfl)
    try simp only [Act.put, List.setIfInBounds_toArray, List.set_cons_zero, List.set_cons_succ]
    refine held_take 2 (v := ?_) rfl (by kernel_rfl) (by kernel_rfl) (by kernel_rfl) (fun _ _ _ h => by cases h.1) hHeld (by rfl) ?_ ?_
    rotate_left
    · (intro W hW; have e := hW.cell (b := w.heap.size + 1) (by simp) HQ1.out; go_simp; try with_reducible rfl)
    try simp only [Act.put, List.setIfInBounds_toArray, List.set_cons_zero, List.set_cons_succ]
    refine held_take 3 (v := ?_) rfl (by kernel_rfl) (by kernel_rfl) (by kernel_rfl) (fun _ _ _ h => by cases h.1) hHeld (by rfl) ?_ ?_
    rotate_left
    · (intro W hW; go_simp; try with_reducible rfl)
    try simp only [Act.put, List.setIfInBounds_toArray, List.set_cons_zero, List.set_cons_succ]
    refine held_take 4 (v := ?_) rfl (by kernel_rfl) (by kernel_rfl) (by kernel_rfl) (fun _ _ _ h => by cases h.1) hHeld (by rfl) ?_ ?_
    rotate_left
    · (intro W hW; have e := hW.cell (b := w.heap.size + 1) (by simp) HQ2.out; go_simp; try with_reducible rfl)
    try simp only [Act.put, List.setIfInBounds_toArray, List.set_cons_zero, List.set_cons_succ]
    refine held_two 5 10 rfl rfl (by kernel_rfl) (by rfl) (by rfl) (fun K hK => ?_) (fun K hK => ?_)
    · go_simp
      go_at_call 18
      refine (HPA.out _).mono ?_
      rintro _ wq1 ⟨rfl, hbq⟩
      have HK1 := Lib.hid (HK0.out.call hbq)
      clear hbq
      refine hK.out _ _ (fun i hi => HK1.out.bl.block i (HLT.out i hi)) (fun hHeld => ?_)
      clear hK K
      try simp only [Act.put, List.setIfInBounds_toArray, List.set_cons_zero, List.set_cons_succ]
      refine held_two 6 10 rfl rfl (by kernel_rfl) (by rfl) (by rfl) (fun K hK => ?_) (fun K hK => ?_)
      · go_simp
        go_at_call 23
        refine (HRP.out _ HK1.out.bl).mono ?_
        rintro _ wq2 ⟨a0', c0', a1', c1', rfl, hrm, hbq⟩
        obtain ⟨R', hR'⟩ : ∃ R', R' = rcs (d.put x.n (paint x.paint)).norm a0' c0' a1' c1' := ⟨_, rfl⟩
        rw [HNP.out] at hrm ⊢
        rw [HNE.out]
        rw [← hR']
        have HE2 := Lib.hid (show E3 (FB F B) w (d.put x.n (paint x.paint)).norm R' wq2 none from ⟨_, a0', c0', a1', c1', hR', hrm, fun i hi => hi.elim Or.inl fun e => Or.inr ⟨e.1, by have := HK1.out.bl.size; have := HN3.out; omega⟩, nofun⟩)
        have HK2 := Lib.hid (HK1.out.call hbq)
        clear hbq hrm hR'
        refine hK.out _ _ (fun i hi => HK2.out.bl.block i (HLT.out i hi)) (fun hHeld => ?_)
        clear hK K
        try simp only [Act.put, List.setIfInBounds_toArray, List.set_cons_zero, List.set_cons_succ]
        refine held_take 7 (v := ?_) rfl (by kernel_rfl) (by kernel_rfl) (by kernel_rfl) (fun _ _ _ h => by cases h.1) hHeld (by rfl) ?_ ?_
        rotate_left
        · (intro W hW; go_simp; try with_reducible rfl)
        try simp only [Act.put, List.setIfInBounds_toArray, List.set_cons_zero, List.set_cons_succ]
        refine held_take 8 (v := ?_) rfl (by kernel_rfl) (by kernel_rfl) (by kernel_rfl) (fun _ _ _ h => by cases h.1) hHeld (by rfl) ?_ ?_
        rotate_left
        · (intro W hW; go_simp; try with_reducible rfl)
        try simp only [Act.put, List.setIfInBounds_toArray, List.set_cons_zero, List.set_cons_succ]
        refine held_take 9 (v := ?_) rfl (by kernel_rfl) (by kernel_rfl) (by kernel_rfl) (fun _ _ _ h => by cases h.1) hHeld (by rfl) ?_ ?_
        rotate_left
        · (intro W hW; go_simp; try with_reducible rfl)
        try simp only [Act.put, List.setIfInBounds_toArray, List.set_cons_zero, List.set_cons_succ]
        refine held_next 10 rfl (by kernel_rfl) (by rfl) (fun K hK => ?_)
        refine wp_allocD rfl (fun b8 wq3 he hbq hnq => ?_)
        have HK3 := Lib.hid (HK2.out.ay he hbq hnq)
        have HE3 := Lib.hid (HE2.out.ay he hbq)
        clear he hbq hnq
        refine hK.out _ _ (fun i hi => HK3.out.bl.block i (HLT.out i hi)) (fun hHeld => ?_)
        clear hK K
        try simp only [Act.put, List.setIfInBounds_toArray, List.set_cons_zero, List.set_cons_succ]
        refine held_next 11 rfl (by kernel_rfl) (by rfl) (fun K hK => ?_)
        refine wp_storeD _ _ rfl b8 R' zD rfl rfl (HK3.out.hy _ rfl).2 rfl (E3.cs HE3.out) ?_
        refine hK.out _ _ (fun i hi => (setRow_other _ _ _ _ (by have := (HK3.out.hy _ rfl).1; have := HLT.out i hi; omega)).trans (HK3.out.bl.block i (HLT.out i hi))) (fun hHeld => ?_)
        clear hK K
        refine held_take 12 (v := ?_) rfl (by kernel_rfl) (by kernel_rfl) (by kernel_rfl) (fun _ _ _ h => by cases h.1) hHeld (by rfl) ?_ ?_
        rotate_left
        · (intro W hW; go_simp; try with_reducible rfl)
        try simp only [Act.put, List.setIfInBounds_toArray, List.set_cons_zero, List.set_cons_succ]
        exact wpAnyH_done (by kernel_rfl) ⟨rfl, b8, R', rfl, HE3.out.fin HK3.out⟩ _
      · refine wp_allocD rfl (fun b8 wq4 he hbq hnq => ?_)
        have HK4 := Lib.hid (HK1.out.ay he hbq hnq)
        clear he hbq hnq
        refine hK.out _ _ (fun i hi => HK4.out.bl.block i (HLT.out i hi)) (fun hHeld => ?_)
        clear hK K
        try simp only [Act.put, List.setIfInBounds_toArray, List.set_cons_zero, List.set_cons_succ]
        refine held_next 6 rfl (by kernel_rfl) (by rfl) (fun K hK => ?_)
        go_simp
        go_at_call 23
        refine (HRP.out _ HK4.out.bl).mono ?_
        rintro _ wq5 ⟨a0', c0', a1', c1', rfl, hrm, hbq⟩
        obtain ⟨R', hR'⟩ : ∃ R', R' = rcs (d.put x.n (paint x.paint)).norm a0' c0' a1' c1' := ⟨_, rfl⟩
        rw [HNP.out] at hrm ⊢
        rw [HNE.out]
        rw [← hR']
        have HE5 := Lib.hid (show E3 (FB F B) w (d.put x.n (paint x.paint)).norm R' wq5 (some b8) from ⟨_, a0', c0', a1', c1', hR', hrm, fun i hi => hi.elim Or.inl fun e => Or.inr ⟨e.1, by have := HK4.out.bl.size; have := HN3.out; omega⟩, fun b e => by cases e; exact Or.inr ⟨by have := (HK4.out.hy _ rfl).1; have := HN3.out; omega, lt_of_heap (HK4.out.hy _ rfl).2⟩⟩)
        have HK5 := Lib.hid (HK4.out.call hbq)
        clear hbq hrm hR'
        refine hK.out _ _ (fun i hi => HK5.out.bl.block i (HLT.out i hi)) (fun hHeld => ?_)
        clear hK K
        try simp only [Act.put, List.setIfInBounds_toArray, List.set_cons_zero, List.set_cons_succ]
        refine held_take 7 (v := ?_) rfl (by kernel_rfl) (by kernel_rfl) (by kernel_rfl) (fun _ _ _ h => by cases h.1) hHeld (by rfl) ?_ ?_
        rotate_left
        · (intro W hW; go_simp; try with_reducible rfl)
        try simp only [Act.put, List.setIfInBounds_toArray, List.set_cons_zero, List.set_cons_succ]
        refine held_take 8 (v := ?_) rfl (by kernel_rfl) (by kernel_rfl) (by kernel_rfl) (fun _ _ _ h => by cases h.1) hHeld (by rfl) ?_ ?_
        rotate_left
        · (intro W hW; go_simp; try with_reducible rfl)
        try simp only [Act.put, List.setIfInBounds_toArray, List.set_cons_zero, List.set_cons_succ]
        refine held_take 9 (v := ?_) rfl (by kernel_rfl) (by kernel_rfl) (by kernel_rfl) (fun _ _ _ h => by cases h.1) hHeld (by rfl) ?_ ?_
        rotate_left
        · (intro W hW; go_simp; try with_reducible rfl)
        try simp only [Act.put, List.setIfInBounds_toArray, List.set_cons_zero, List.set_cons_succ]
        refine held_next 11 rfl (by kernel_rfl) (by rfl) (fun K hK => ?_)
        refine wp_storeD _ _ rfl b8 R' zD rfl rfl (HK5.out.hy _ rfl).2 rfl (E3.cs HE5.out) ?_
        refine hK.out _ _ (fun i hi => (setRow_other _ _ _ _ (by have := (HK5.out.hy _ rfl).1; have := HLT.out i hi; omega)).trans (HK5.out.bl.block i (HLT.out i hi))) (fun hHeld => ?_)
        clear hK K
        refine held_take 12 (v := ?_) rfl (by kernel_rfl) (by kernel_rfl) (by kernel_rfl) (fun _ _ _ h => by cases h.1) hHeld (by rfl) ?_ ?_
        rotate_left
        · (intro W hW; go_simp; try with_reducible rfl)
        try simp only [Act.put, List.setIfInBounds_toArray, List.set_cons_zero, List.set_cons_succ]
        exact wpAnyH_done (by kernel_rfl) ⟨rfl, b8, R', rfl, HE5.out.fin HK5.out⟩ _
    · refine wp_allocD rfl (fun b8 wq6 he hbq hnq => ?_)
      have HK6 := Lib.hid (HK0.out.ay he hbq hnq)
      clear he hbq hnq
      refine hK.out _ _ (fun i hi => HK6.out.bl.block i (HLT.out i hi)) (fun hHeld => ?_)
      clear hK K
      try simp only [Act.put, List.setIfInBounds_toArray, List.set_cons_zero, List.set_cons_succ]
      refine held_next 5 rfl (by kernel_rfl) (by rfl) (fun K hK => ?_)
      go_simp
      go_at_call 18
      refine (HPA.out _).mono ?_
      rintro _ wq7 ⟨rfl, hbq⟩
      have HK7 := Lib.hid (HK6.out.call hbq)
      clear hbq
      refine hK.out _ _ (fun i hi => HK7.out.bl.block i (HLT.out i hi)) (fun hHeld => ?_)
      clear hK K
      try simp only [Act.put, List.setIfInBounds_toArray, List.set_cons_zero, List.set_cons_succ]
      refine held_next 6 rfl (by kernel_rfl) (by rfl) (fun K hK => ?_)
      go_simp
      go_at_call 23
      refine (HRP.out _ HK7.out.bl).mono ?_
      rintro _ wq8 ⟨a0', c0', a1', c1', rfl, hrm, hbq⟩
      obtain ⟨R', hR'⟩ : ∃ R', R' = rcs (d.put x.n (paint x.paint)).norm a0' c0' a1' c1' := ⟨_, rfl⟩
      rw [HNP.out] at hrm ⊢
      rw [HNE.out]
      rw [← hR']
      have HE8 := Lib.hid (show E3 (FB F B) w (d.put x.n (paint x.paint)).norm R' wq8 (some b8) from ⟨_, a0', c0', a1', c1', hR', hrm, fun i hi => hi.elim Or.inl fun e => Or.inr ⟨e.1, by have := HK7.out.bl.size; have := HN3.out; omega⟩, fun b e => by cases e; exact Or.inr ⟨by have := (HK7.out.hy _ rfl).1; have := HN3.out; omega, lt_of_heap (HK7.out.hy _ rfl).2⟩⟩)
      have HK8 := Lib.hid (HK7.out.call hbq)
      clear hbq hrm hR'
      refine hK.out _ _ (fun i hi => HK8.out.bl.block i (HLT.out i hi)) (fun hHeld => ?_)
      clear hK K
      try simp only [Act.put, List.setIfInBounds_toArray, List.set_cons_zero, List.set_cons_succ]
      refine held_take 7 (v := ?_) rfl (by kernel_rfl) (by kernel_rfl) (by kernel_rfl) (fun _ _ _ h => by cases h.1) hHeld (by rfl) ?_ ?_
      rotate_left
      · (intro W hW; go_simp; try with_reducible rfl)
      try simp only [Act.put, List.setIfInBounds_toArray, List.set_cons_zero, List.set_cons_succ]
      refine held_take 8 (v := ?_) rfl (by kernel_rfl) (by kernel_rfl) (by kernel_rfl) (fun _ _ _ h => by cases h.1) hHeld (by rfl) ?_ ?_
      rotate_left
      · (intro W hW; go_simp; try with_reducible rfl)
      try simp only [Act.put, List.setIfInBounds_toArray, List.set_cons_zero, List.set_cons_succ]
      refine held_take 9 (v := ?_) rfl (by kernel_rfl) (by kernel_rfl) (by kernel_rfl) (fun _ _ _ h => by cases h.1) hHeld (by rfl) ?_ ?_
      rotate_left
      · (intro W hW; go_simp; try with_reducible rfl)
      try simp only [Act.put, List.setIfInBounds_toArray, List.set_cons_zero, List.set_cons_succ]
      refine held_next 11 rfl (by kernel_rfl) (by rfl) (fun K hK => ?_)
      refine wp_storeD _ _ rfl b8 R' zD rfl rfl (HK8.out.hy _ rfl).2 rfl (E3.cs HE8.out) ?_
      refine hK.out _ _ (fun i hi => (setRow_other _ _ _ _ (by have := (HK8.out.hy _ rfl).1; have := HLT.out i hi; omega)).trans (HK8.out.bl.block i (HLT.out i hi))) (fun hHeld => ?_)
      clear hK K
      refine held_take 12 (v := ?_) rfl (by kernel_rfl) (by kernel_rfl) (by kernel_rfl) (fun _ _ _ h => by cases h.1) hHeld (by rfl) ?_ ?_
      rotate_left
      · (intro W hW; go_simp; try with_reducible rfl)
      try simp only [Act.put, List.setIfInBounds_toArray, List.set_cons_zero, List.set_cons_succ]
      exact wpAnyH_done (by kernel_rfl) ⟨rfl, b8, R', rfl, HE8.out.fin HK8.out⟩ _
  intro b8 R' V hM
  have HM := Lib.hid hM
  obtain ⟨hb, h8, hm8, a0', c0', a1', c1', hR', hrm⟩ := hM
  have HM8 := Lib.hid hm8
  have HBW := Lib.hid hb
  have HRC' := Lib.hid (show Cs 4 R' by rw [hR']; exact rcs_cs _ _ _ _ _)
  have HQ1W := Lib.hid (show V.cell? ⟨w.heap.size + 1, 1, none⟩ = some (.int .i64 x.n) by rw [World.cell?_of_block (a := ⟨w.heap.size + 1, 1, none⟩) (hb.block _ (HLT.out _ (by simp)))]; exact HQ1.out)
  have HQ2W := Lib.hid (show V.cell? ⟨w.heap.size + 1, 2, none⟩ = some (.int .u8 (x.paint.toNat : Int)) by rw [World.cell?_of_block (a := ⟨w.heap.size + 1, 2, none⟩) (hb.block _ (HLT.out _ (by simp)))]; exact HQ2.out)
  have HLTW := Lib.hid (show ∀ i ∈ [w.heap.size + 1, b8], i < V.heap.size from fun i hi => by
    rcases List.mem_cons.1 hi with e | e
    · have := HN3.out; have := hb.size; omega
    · rw [List.mem_singleton.1 e]; exact lt_of_heap hm8)
  have HNF := Lib.hid (show ∀ i ∈ [w.heap.size + 1, b8], ¬ F i from fun i hi hf => by
    have := HFL.out i hf
    rcases List.mem_cons.1 hi with e | e
    · omega
    · have := List.mem_singleton.1 e; have := HN3.out; omega)
  have H6L := Lib.hid (show w.heap.size + 2 < V.heap.size from by have := HN3.out; have := hb.size; omega)
  have H6W := Lib.hid (show V.heap[w.heap.size + 2]? = some (.cells zD.toArray 36) from (hb.block _ (by have := HN3.out; omega)).trans HP6.out)
  have H6F := Lib.hid (show ¬ F (w.heap.size + 2) from fun hf => by have := HFL.out _ hf; omega)
  have H6N := Lib.hid (show ∀ i ∈ [w.heap.size + 1, b8], i ≠ w.heap.size + 2 from fun i hi => by
    rcases List.mem_cons.1 hi with e | e
    · omega
    · have := List.mem_singleton.1 e; have := HN3.out; omega)
  clear hb h8 hm8 hR' hrm
  go_simp
  go_wp2_with fail
  refine wp_region_held_drew (S := fun W => Agree [w.heap.size + 1, b8] V W) (by kernel_rfl) ?_ (fun hHeld => ?_)
  · exact fun _ _ => rfl
  refine held_take 0 (v := .agg R'.toArray) rfl (by kernel_rfl) (by kernel_rfl) (by kernel_rfl) (fun _ _ _ h => h) hHeld (by rfl) (fun W hW => exec_loadM isD _ rfl _ _ R' rfl (hW.range (by simp) (range_row HM8.out)) HRC'.out) ?_
  try simp only [Act.put, List.setIfInBounds_toArray, List.set_cons_zero, List.set_cons_succ]
  refine held_take 1 (v := ?_) rfl (by kernel_rfl) (by kernel_rfl) (by kernel_rfl) (fun _ _ _ h => h) hHeld (by rfl) ?_ ?_
  rotate_left
  · (intro W hW; go_simp; try with_reducible rfl)
  try simp only [Act.put, List.setIfInBounds_toArray, List.set_cons_zero, List.set_cons_succ]
  refine held_take 2 (v := ?_) rfl (by kernel_rfl) (by kernel_rfl) (by kernel_rfl) (fun _ _ _ h => h) hHeld (by rfl) ?_ ?_
  rotate_left
  · (intro W hW; go_simp; try with_reducible rfl)
  try simp only [Act.put, List.setIfInBounds_toArray, List.set_cons_zero, List.set_cons_succ]
  refine held_take 3 (v := ?_) rfl (by kernel_rfl) (by kernel_rfl) (by kernel_rfl) (fun _ _ _ h => h) hHeld (by rfl) ?_ ?_
  rotate_left
  · (intro W hW; have e := hW.cell (b := w.heap.size + 1) (by simp) HQ1W.out; go_simp; try with_reducible rfl)
  try simp only [Act.put, List.setIfInBounds_toArray, List.set_cons_zero, List.set_cons_succ]
  refine held_take 4 (v := ?_) rfl (by kernel_rfl) (by kernel_rfl) (by kernel_rfl) (fun _ _ _ h => h) hHeld (by rfl) ?_ ?_
  rotate_left
  · (intro W hW; go_simp; try with_reducible rfl)
  try simp only [Act.put, List.setIfInBounds_toArray, List.set_cons_zero, List.set_cons_succ]
  refine held_take 5 (v := ?_) rfl (by kernel_rfl) (by kernel_rfl) (by kernel_rfl) (fun _ _ _ h => h) hHeld (by rfl) ?_ ?_
  rotate_left
  · (intro W hW; have e := hW.cell (b := w.heap.size + 1) (by simp) HQ2W.out; go_simp; try with_reducible rfl)
  try simp only [Act.put, List.setIfInBounds_toArray, List.set_cons_zero, List.set_cons_succ]
  refine held_take 8 (v := ?_) rfl (by kernel_rfl) (by kernel_rfl) (by kernel_rfl) (fun _ _ _ h => h) hHeld (by rfl) ?_ ?_
  rotate_left
  · (intro W hW; go_simp; try with_reducible rfl)
  try simp only [Act.put, List.setIfInBounds_toArray, List.set_cons_zero, List.set_cons_succ]
  refine held_next 6 rfl (by kernel_rfl) (by rfl) (fun K hK => ?_)
  go_simp
  go_at_call 18
  refine (HPA.out _).mono ?_
  rintro _ wp ⟨rfl, hbp⟩
  have HBP := Lib.hid (show RowKit.Below V.heap.size V wp from ⟨hbp.os, hbp.tape, hbp.output, hbp.size, hbp.block⟩)
  clear hbp
  refine hK.out _ _ (fun i hi => HBP.out.block i (HLTW.out i hi)) (fun hHeld => ?_)
  clear hK K
  try simp only [Act.put, List.setIfInBounds_toArray, List.set_cons_zero, List.set_cons_succ]
  refine held_next 7 rfl (by kernel_rfl) (by rfl) (fun K hK => ?_)
  go_simp
  go_at_call 17
  refine (HPP.out wp (HBW.out.trans (HBP.out.mono HBW.out.size))).mono ?_
  rintro _ w9 ⟨rfl, hdid⟩
  have HDID := Lib.hid hdid
  have HON := Lib.hid (show ∀ i ∈ [w.heap.size + 1, b8], w9.heap[i]? = V.heap[i]? from fun i hi => (by obtain ⟨F', _, h2, _⟩ := hdid; exact (h2.block i (Nat.lt_of_lt_of_le (HLTW.out i hi) HBP.out.size) (HNF.out i hi)).trans (HBP.out.block i (HLTW.out i hi))))
  have H69 := Lib.hid (show w9.heap[w.heap.size + 2]? = some (.cells zD.toArray 36) from (by obtain ⟨F', _, h2, _⟩ := hdid; exact (h2.block _ (Nat.lt_of_lt_of_le H6L.out HBP.out.size) H6F.out).trans ((HBP.out.block _ H6L.out).trans H6W.out)))
  clear hdid
  refine hK.out _ _ (HON.out) (fun hHeld => ?_)
  clear hK K
  try simp only [Act.put, List.setIfInBounds_toArray, List.set_cons_zero, List.set_cons_succ]
  refine held_take 9 (v := ?_) rfl (by kernel_rfl) (by kernel_rfl) (by kernel_rfl) (fun _ _ _ h => h) hHeld (by rfl) ?_ ?_
  rotate_left
  · (intro W hW; go_simp; try with_reducible rfl)
  try simp only [Act.put, List.setIfInBounds_toArray, List.set_cons_zero, List.set_cons_succ]
  refine held_next 10 rfl (by kernel_rfl) (by rfl) (fun K hK => ?_)
  refine wp_storeD _ _ rfl (w.heap.size + 2) R' zD rfl rfl H69.out rfl HRC'.out ?_
  refine hK.out _ _ (fun i hi => (setRow_other _ _ _ _ (H6N.out i hi)).trans (HON.out i hi)) (fun hHeld => ?_)
  clear hK K
  refine held_take 11 (v := ?_) rfl (by kernel_rfl) (by kernel_rfl) (by kernel_rfl) (fun _ _ _ h => h) hHeld (by rfl) ?_ ?_
  rotate_left
  · (intro W hW; go_simp; try with_reducible rfl)
  try simp only [Act.put, List.setIfInBounds_toArray, List.set_cons_zero, List.set_cons_succ]
  refine wpAnyH_done (by kernel_rfl) ?_ _
  go_simp
  go_wp2
  refine ret_cell_slot isD rfl rfl rfl (c := R') (setRow_heap _ _ _ _ _ _ H69.out) HRC'.out rfl ?_
  obtain ⟨hb, _, _, a0', c0', a1', c1', hR', hrm⟩ := HM.out
  exact deed_end HFL.out HB3.out HN3.out (hb.trans (HBP.out.mono hb.size)) hR' (hrm.below HBP.out) HDID.out HQL.out.1 HQL.out.2
end Go.Proofs.Ytcboknigjpdmpaa
