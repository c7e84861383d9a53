/- falseworklaw08.deed, kind 1. -/
import Derived.Test.YtcboknigjpdmpaaDkDb
namespace Go.Proofs.Ytcboknigjpdmpaa
open Go.RowKit Go.Lib

theorem flush_len (d : Dk) : d.flush.queue.length ≤ d.queue.length + 1 ∧ d.flush.base.length = d.base.length := by
  have h1 : d.spend.queue = d.queue ∧ d.spend.base = d.base := by unfold Dk.spend; split <;> exact ⟨rfl, rfl⟩
  unfold Dk.flush
  split
  · exact ⟨Nat.zero_le _, stl_len _ _ _ _⟩
  · exact ⟨by rw [h1.1]; omega, by rw [h1.2]⟩
set_option maxRecDepth 100000 in
set_option maxHeartbeats 6400000 in
theorem deed1_any (g : Nat) (F : Nat → Prop) (d : Dk) (a0 : Option Addr) (c0 : Nat) (a1 : Option Addr) (c1 : Nat) (x : Dd) (w : World) (hd : DAt w F g d) (B : Nat → Prop) (hB : ∀ i, B i → i < w.heap.size) (hr : RM w (FB F B) d.norm a0 a1) (hk : x.kind = 1) :
    Calls Try.prog 13 #[.pointer (some ⟨g, 0, none⟩), .agg (rcs d.norm a0 c0 a1 c1).toArray, .agg (dcs x).toArray] w (DeedRes g F B d w) := by
  obtain ⟨R, hR⟩ : ∃ R, R = rcs d.norm a0 c0 a1 c1 := ⟨_, rfl⟩
  obtain ⟨X, hX⟩ : ∃ X, X = dcs x := ⟨_, rfl⟩
  have HRR := Lib.hid hR
  have HRC := Lib.hid (show Cs 4 R by rw [hR]; exact rcs_cs _ _ _ _ _)
  obtain ⟨w3, hw3⟩ : ∃ w3, w3 = ((w.alloc (.cells R.toArray 36)).alloc (.cells X.toArray 40)).alloc (.cells zD.toArray 36) := ⟨_, rfl⟩
  have HB3 := Lib.hid (show RowKit.Below w.heap.size w w3 by rw [hw3]; exact (((RowKit.Below.refl _ _).alloc (Nat.le_refl _) _).alloc (by simp) _).alloc (by simp; omega) _)
  have HN3 := Lib.hid (show w3.heap.size = w.heap.size + 3 by rw [hw3]; simp)
  have HP4 := Lib.hid (show w3.heap[w.heap.size]? = some (.cells R.toArray 36) by rw [hw3]; exact blk_in (blk_in (blkn rfl)))
  have p5 : w3.heap[w.heap.size + 1]? = some (.cells X.toArray 40) := by rw [hw3]; exact blk_in (blkn (by simp))
  have HP5 := Lib.hid p5
  have HP6 := Lib.hid (show w3.heap[w.heap.size + 2]? = some (.cells zD.toArray 36) by rw [hw3]; exact blkn (by simp))
  have q0 : w3.cell? ⟨w.heap.size + 1, 0, none⟩ = some (.int .i64 1) := by rw [cell_of_row _ _ _ _ _ _ p5, hX, ← hk]; rfl
  have HQ1 := Lib.hid (show w3.cell? ⟨w.heap.size + 1, 1, none⟩ = some (.int .i64 x.n) by rw [cell_of_row _ _ _ _ _ _ p5, hX]; rfl)
  have HQ3 := Lib.hid (show w3.cell? ⟨w.heap.size + 1, 3, none⟩ = some (.slice x.ka x.kn x.kc) by rw [cell_of_row _ _ _ _ _ _ p5, hX]; rfl)
  have HD := Lib.hid hd
  have HR0 := Lib.hid hr
  have HFL := Lib.hid hd.fl
  have HBB := Lib.hid hB
  have HOW := Lib.hid (show RM w3 (Own3 (FB F B) w) d.norm a0 a1 from hr.add HB3.out fun i hi => hi.imp id fun e => e.1)
  have HD3 := Lib.hid (hd.below HB3.out)
  have HLT := Lib.hid (show ∀ i, i < w.heap.size + 3 → i < w3.heap.size from fun i hi => by have := HN3.out; omega)
  have HNF := Lib.hid (show ∀ i, w.heap.size ≤ i → ¬ F i from fun i hi hf => by have := HFL.out i hf; omega)
  have HW3 := Lib.hid hw3
  have HRF := Lib.hid (show Calls Try.prog 24 #[.agg R.toArray] w3 (RFlushRes (Own3 (FB F B) w) d.norm w3) by
    rw [hR]
    exact rflush_any d.norm a0 c0 a1 c1 _ w3 (fun i hi => hi.elim (fun e => Nat.lt_of_lt_of_le (e.elim (hd.fl i) (hB i)) HB3.out.size) fun e => by have := HN3.out; omega) HOW.out)
  have HNP := Lib.hid (norm_flush d)
  have HNE := Lib.hid (norm_actE d)
  have HQL := Lib.hid (flush_len d)
  rw [← hR, ← hX]
  clear hR hX hw3 p5 hd hr hB hk
  go_enter Try.func13, Try.ntmps13
  go_wp2_with (first | (with_reducible refine wpList_boxA rfl _ _ rfl _ rfl ?_) | ((with_reducible refine wpList_allocA rfl isD rfl ?_); rw [← HW3.out]) | (with_reducible refine wpList_loadW rfl isD _ rfl w.heap.size R _ rfl HP4.out HRC.out ?_))
  clear q0
  refine HRF.out.mono ?_
  rintro _ w4 ⟨a0', c0', a1', c1', rfl, hrm, hb4⟩
  obtain ⟨R', hR'⟩ : ∃ R', R' = rcs d.flush.norm a0' c0' a1' c1' := ⟨_, rfl⟩
  rw [HNP.out] at hrm ⊢
  rw [HNE.out, ← hR']
  have HR' := Lib.hid hR'
  have HRC' := Lib.hid (show Cs 4 R' by rw [hR']; exact rcs_cs _ _ _ _ _)
  have HA8 := Lib.hid (heap_alloc_new w4 (.cells zD.toArray 36))
  have HSN := Lib.hid (show (w4.alloc (.cells zD.toArray 36)).setRow w4.heap.size R'.toArray = w4.alloc (.cells R'.toArray 36) from setRow_new rfl)
  obtain ⟨V, hV⟩ : ∃ V, V = w4.alloc (.cells R'.toArray 36) := ⟨_, rfl⟩
  have hb4V : RowKit.Below w4.heap.size w4 V := by rw [hV]; exact (RowKit.Below.refl _ _).alloc (Nat.le_refl _) _
  have HBV := Lib.hid (show RowKit.Below w3.heap.size w3 V from hb4.trans (hb4V.mono hb4.size))
  have HRV := Lib.hid (hrm.below hb4V)
  have HM8 := Lib.hid (show V.heap[w4.heap.size]? = some (.cells R'.toArray 36) by rw [hV]; exact heap_alloc_new w4 _)
  have hs8 : w.heap.size + 3 ≤ w4.heap.size := by have := hb4.size; have := HN3.out; omega
  have H8F := Lib.hid (HNF.out w4.heap.size (by omega))
  have H8N := Lib.hid (show w4.heap.size ≠ w.heap.size + 2 by omega)
  have H6V := Lib.hid (show V.heap[w.heap.size + 2]? = some (.cells zD.toArray 36) from (HBV.out.block _ (HLT.out _ (by omega))).trans HP6.out)
  have HPP := Lib.hid (flush_any g F d V.drew (HD3.out.below (HBV.out.trans ⟨rfl, rfl, rfl, Nat.le_refl _, fun _ _ => rfl⟩)))
  rw [← hV] at HSN
  clear hR' hrm hb4 hb4V hs8 hV
  go_wp2_with (first | (with_reducible refine wpList_allocA rfl isD rfl ?_) | ((with_reducible refine wpList_storeW rfl isD _ _ rfl w4.heap.size R' zD.toArray _ rfl rfl HA8.out HRC'.out rfl ?_); rw [HSN.out]))
  clear HA8 HSN
  refine wp_region_held_drew (S := fun W => Agree [w4.heap.size] V W) (by kernel_rfl) ?_ (fun hHeld => ?_)
  · exact fun _ _ => rfl
  refine held_take 0 (v := .agg R'.toArray) rfl (by kernel_rfl) (by kernel_rfl) (by kernel_rfl) (fun _ _ _ h => h) hHeld (by rfl) (fun W hW => exec_loadM isD _ rfl _ _ R' rfl (hW.range (by simp) (range_row HM8.out)) HRC'.out) ?_
  try simp only [Act.put, List.setIfInBounds_toArray, List.set_cons_zero, List.set_cons_succ]
  refine held_take 1 (v := ?_) rfl (by kernel_rfl) (by kernel_rfl) (by kernel_rfl) (fun _ _ _ h => h) hHeld (by rfl) ?_ ?_
  rotate_left
  · (intro W hW; go_simp; try with_reducible rfl)
  try simp only [Act.put, List.setIfInBounds_toArray, List.set_cons_zero, List.set_cons_succ]
  refine held_take 3 (v := ?_) rfl (by kernel_rfl) (by kernel_rfl) (by kernel_rfl) (fun _ _ _ h => h) hHeld (by rfl) ?_ ?_
  rotate_left
  · (intro W hW; go_simp; try with_reducible rfl)
  try simp only [Act.put, List.setIfInBounds_toArray, List.set_cons_zero, List.set_cons_succ]
  refine held_next 2 rfl (by kernel_rfl) (by rfl) (fun K hK => ?_)
  go_simp
  go_at_call 19
  refine HPP.out.mono ?_
  rintro _ w9 ⟨rfl, hdid⟩
  have HDID := Lib.hid hdid
  have HON := Lib.hid (show ∀ i ∈ [w4.heap.size], w9.heap[i]? = V.heap[i]? from fun i hi => (by obtain ⟨F', _, h2, _⟩ := hdid; rw [List.mem_singleton.1 hi]; exact h2.block _ (lt_of_heap HM8.out) H8F.out))
  have H69 := Lib.hid (show w9.heap[w.heap.size + 2]? = some (.cells zD.toArray 36) from (by obtain ⟨F', _, h2, _⟩ := hdid; exact (h2.block _ (lt_of_heap H6V.out) (HNF.out _ (by omega))).trans H6V.out))
  clear hdid
  refine hK.out _ _ (HON.out) (fun hHeld => ?_)
  clear hK K
  try simp only [Act.put, List.setIfInBounds_toArray, List.set_cons_zero, List.set_cons_succ]
  refine held_take 4 (v := ?_) rfl (by kernel_rfl) (by kernel_rfl) (by kernel_rfl) (fun _ _ _ h => h) hHeld (by rfl) ?_ ?_
  rotate_left
  · (intro W hW; go_simp; try with_reducible rfl)
  try simp only [Act.put, List.setIfInBounds_toArray, List.set_cons_zero, List.set_cons_succ]
  refine held_next 5 rfl (by kernel_rfl) (by rfl) (fun K hK => ?_)
  refine wp_storeD _ _ rfl (w.heap.size + 2) R' zD rfl rfl H69.out rfl HRC'.out ?_
  refine hK.out _ _ (fun i hi => (setRow_other _ _ _ _ (by rw [List.mem_singleton.1 hi]; exact H8N.out)).trans (HON.out i hi)) (fun hHeld => ?_)
  clear hK K
  refine held_take 6 (v := ?_) rfl (by kernel_rfl) (by kernel_rfl) (by kernel_rfl) (fun _ _ _ h => h) hHeld (by rfl) ?_ ?_
  rotate_left
  · (intro W hW; go_simp; try with_reducible rfl)
  try simp only [Act.put, List.setIfInBounds_toArray, List.set_cons_zero, List.set_cons_succ]
  refine wpAnyH_done (by kernel_rfl) ?_ _
  go_simp
  go_wp2
  refine ret_cell_slot isD rfl rfl rfl (c := R') (setRow_heap _ _ _ _ _ _ H69.out) HRC'.out rfl ?_
  exact deed_end (W := V.drew) HFL.out HB3.out HN3.out (HBV.out.trans ⟨rfl, rfl, rfl, Nat.le_refl _, fun _ _ => rfl⟩) HR'.out (HRV.out.below ⟨rfl, rfl, rfl, Nat.le_refl _, fun _ _ => rfl⟩) HDID.out HQL.out.1 HQL.out.2
end Go.Proofs.Ytcboknigjpdmpaa
