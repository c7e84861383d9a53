/- falseworklaw08.deed, kinds 2, 3 and others. -/
import Derived.Test.YtcboknigjpdmpaaDkDb
namespace Go.Proofs.Ytcboknigjpdmpaa
open Go.RowKit Go.Lib

theorem Did.below {g : Nat} {F : Nat → Prop} {d : Dk} {w w' w'' : World} (h : Did g F d w w') (hb : RowKit.Below w'.heap.size w' w'') : Did g F d w w'' := by
  obtain ⟨F', h1, h2, h3⟩ := h
  exact ⟨F', h1.below hb, h2.trans (Only.of_below (F := F) hb) fun i hi => Or.inl hi, h3⟩
/-- the end, where the project's disk was first -/
theorem deed_end2 {g : Nat} {F F' B : Nat → Prop} {d d' : Dk} {w w3 w9 w5 : World} {R : List Value} {a0 : Option Addr} {c0 : Nat} {a1 : Option Addr} {c1 : Nat} (hF : ∀ i, F i → i < w.heap.size) (h3 : RowKit.Below w.heap.size w w3) (hn : w3.heap.size = w.heap.size + 3) (hR : R = rcs d'.norm a0 c0 a1 c1)
    (k1 : DAt w9 F' g d') (k2 : Only F w3 w9) (k3 : ∀ i, F' i → F i ∨ w3.heap.size ≤ i) (hb : RowKit.Below w9.heap.size w9 w5) (hr : RM w5 (fun i => FB F' B i ∨ i = w.heap.size + 2) d'.norm a0 a1) (hq : d'.queue.length ≤ d.queue.length + 1) (hl : d'.base.length = d.base.length) :
    DeedRes g F B d w (.returned (.tuple #[.agg R.toArray, .bool true])) (w5.setRow (w.heap.size + 2) R.toArray) := by
  have hnF : ¬ F' (w.heap.size + 2) := fun e => (k3 _ e).elim (fun e => by have := hF _ e; omega) fun e => by omega
  refine ⟨d', F', a0, c0, a1, c1, by rw [hR], (k1.below hb).same (by simp) (fun i hi => setRow_other _ _ _ _ fun e => hnF (e ▸ hi)), hr.other (only_setRow w5 (Or.inr rfl) _) (fun i hi => Or.inl (Or.inl hi)), ?_, fun i hi => (k3 i hi).imp id fun e => by omega, hq, hl⟩
  have o2 : Only F w w5 := ((Only.of_below (F := F) h3).trans k2 fun i hi => Or.inl hi).trans (Only.of_below (F := F) hb) fun i hi => Or.inl hi
  exact o2.trans (only_setRow (G := fun i => i = w.heap.size + 2) w5 rfl _) fun i hi => Or.inr (by omega)
set_option maxRecDepth 100000 in
set_option maxHeartbeats 6400000 in
theorem deed2_any (g : Nat) (F : Nat → Prop) (d : Dk) (a0 : Option Addr) (c0 : Nat) (a1 : Option Addr) (c1 : Nat) (x : Dd) (w : World) (hd : DAt w F g d) (B : Nat → Prop) (hB : ∀ i, B i → i < w.heap.size) (hr : RM w (FB F B) d.norm a0 a1) (hi : I x.n) (hk : x.kind = 2) :
    Calls Try.prog 13 #[.pointer (some ⟨g, 0, none⟩), .agg (rcs d.norm a0 c0 a1 c1).toArray, .agg (dcs x).toArray] w (DeedRes g F B d w) := by
  obtain ⟨R, hR⟩ : ∃ R, R = rcs d.norm a0 c0 a1 c1 := ⟨_, rfl⟩
  obtain ⟨X, hX⟩ : ∃ X, X = dcs x := ⟨_, rfl⟩
  have HRR := Lib.hid hR
  have HRC := Lib.hid (show Cs 4 R by rw [hR]; exact rcs_cs _ _ _ _ _)
  obtain ⟨w3, hw3⟩ : ∃ w3, w3 = ((w.alloc (.cells R.toArray 36)).alloc (.cells X.toArray 40)).alloc (.cells zD.toArray 36) := ⟨_, rfl⟩
  have HB3 := Lib.hid (show RowKit.Below w.heap.size w w3 by rw [hw3]; exact (((RowKit.Below.refl _ _).alloc (Nat.le_refl _) _).alloc (by simp) _).alloc (by simp; omega) _)
  have HN3 := Lib.hid (show w3.heap.size = w.heap.size + 3 by rw [hw3]; simp)
  have HP4 := Lib.hid (show w3.heap[w.heap.size]? = some (.cells R.toArray 36) by rw [hw3]; exact blk_in (blk_in (blkn rfl)))
  have p5 : w3.heap[w.heap.size + 1]? = some (.cells X.toArray 40) := by rw [hw3]; exact blk_in (blkn (by simp))
  have HP5 := Lib.hid p5
  have HP6 := Lib.hid (show w3.heap[w.heap.size + 2]? = some (.cells zD.toArray 36) by rw [hw3]; exact blkn (by simp))
  have q0 : w3.cell? ⟨w.heap.size + 1, 0, none⟩ = some (.int .i64 2) := by rw [cell_of_row _ _ _ _ _ _ p5, hX, ← hk]; rfl
  have HQ1 := Lib.hid (show w3.cell? ⟨w.heap.size + 1, 1, none⟩ = some (.int .i64 x.n) by rw [cell_of_row _ _ _ _ _ _ p5, hX]; rfl)
  have HQ3 := Lib.hid (show w3.cell? ⟨w.heap.size + 1, 3, none⟩ = some (.slice x.ka x.kn x.kc) by rw [cell_of_row _ _ _ _ _ _ p5, hX]; rfl)
  have HD := Lib.hid hd
  have HR0 := Lib.hid hr
  have HFL := Lib.hid hd.fl
  have HBB := Lib.hid hB
  have HOW := Lib.hid (show RM w3 (Own3 (FB F B) w) d.norm a0 a1 from hr.add HB3.out fun i hi => hi.imp id fun e => e.1)
  have HD3 := Lib.hid (hd.below HB3.out)
  have HLT := Lib.hid (show ∀ i, i < w.heap.size + 3 → i < w3.heap.size from fun i hi => by have := HN3.out; omega)
  have HNF := Lib.hid (show ∀ i, w.heap.size ≤ i → ¬ F i from fun i hi hf => by have := HFL.out i hf; omega)
  have HW3 := Lib.hid hw3
  have HRU := Lib.hid (show ∀ W, Calls Try.prog 25 #[.agg R.toArray, .int .i64 x.n] W fun e w' => e = .returned (.agg (rcs { d with fuse := x.n }.norm a0 c0 a1 c1).toArray) ∧ RowKit.Below W.heap.size W w' from fun W => by
    rw [hR]
    exact rfuse_any d.norm a0 c0 a1 c1 x.n W)
  have HII := Lib.hid hi
  have HFU := Lib.hid (fuse_any g F d x.n w3 HD3.out hi)
  have q1 := HQ1.out
  rw [← hR, ← hX]
  clear hR hX hw3 p5 hd hr hB hi hk
  go_enter Try.func13, Try.ntmps13
  go_wp2_with (first | (with_reducible refine wpList_boxA rfl _ _ rfl _ rfl ?_) | ((with_reducible refine wpList_allocA rfl isD rfl ?_); rw [← HW3.out]))
  clear q0 q1
  refine HFU.out.mono ?_
  rintro _ w4 ⟨rfl, hdid⟩
  have HDID := Lib.hid hdid
  have HO := Lib.hid (show ∀ i, w.heap.size ≤ i → i < w.heap.size + 3 → w4.heap[i]? = w3.heap[i]? from fun i h1 h2 => (by obtain ⟨F', _, k, _⟩ := hdid; exact k.block _ (HLT.out i h2) (HNF.out i h1)))
  have H4W := Lib.hid ((HO.out _ (Nat.le_refl _) (by omega)).trans HP4.out)
  have H6W := Lib.hid ((HO.out (w.heap.size + 2) (by omega) (by omega)).trans HP6.out)
  have q1 : w4.cell? ⟨w.heap.size + 1, 1, none⟩ = some (.int .i64 x.n) := by rw [World.cell?_of_block (a := ⟨w.heap.size + 1, 1, none⟩) (HO.out (w.heap.size + 1) (by omega) (by omega))]; exact HQ1.out
  clear hdid
  go_wp2_with (first | (with_reducible refine wpList_loadW rfl isD _ rfl w.heap.size R _ rfl H4W.out HRC.out ?_))
  clear q1
  refine (HRU.out w4).mono ?_
  rintro _ w5 ⟨rfl, hb5⟩
  obtain ⟨R', hR'⟩ : ∃ R', R' = rcs { d with fuse := x.n }.norm a0 c0 a1 c1 := ⟨_, rfl⟩
  rw [← hR']
  have HR' := Lib.hid hR'
  have HRC' := Lib.hid (show Cs 4 R' by rw [hR']; exact rcs_cs _ _ _ _ _)
  have H65 := Lib.hid ((hb5.block _ (lt_of_heap H6W.out)).trans H6W.out)
  have HD5 := Lib.hid (HDID.out.below hb5)
  clear hR' hb5
  go_wp2_with (first | (with_reducible refine wpList_storeW rfl isD _ _ rfl (w.heap.size + 2) R' zD.toArray _ rfl rfl H65.out HRC'.out rfl ?_))
  refine ret_cell_slot isD rfl rfl rfl (c := R') (setRow_heap _ _ _ _ _ _ H65.out) HRC'.out rfl ?_
  exact deed_end HFL.out HB3.out HN3.out (RowKit.Below.refl _ _) HR'.out (HOW.out.head (fu := max x.n (-1)) (dd := d.dead) (by obtain ⟨h1, h2⟩ := HII.out; unfold I; omega)) HD5.out (by show d.queue.length ≤ _; omega) rfl
set_option maxRecDepth 100000 in
set_option maxHeartbeats 6400000 in
theorem deed3_any (g : Nat) (F : Nat → Prop) (d : Dk) (a0 : Option Addr) (c0 : Nat) (a1 : Option Addr) (c1 : Nat) (x : Dd) (w : World) (hd : DAt w F g d) (B : Nat → Prop) (hB : ∀ i, B i → i < w.heap.size) (hr : RM w (FB F B) d.norm a0 a1) (hl : Nums w x.ka x.keep) (hn : x.keep.length = x.kn) (ho : x.keep = [] ∨ ∀ b, inBlk x.ka b → ¬ F b) (hk : x.kind = 3) :
    Calls Try.prog 13 #[.pointer (some ⟨g, 0, none⟩), .agg (rcs d.norm a0 c0 a1 c1).toArray, .agg (dcs x).toArray] w (DeedRes g F B d w) := by
  obtain ⟨R, hR⟩ : ∃ R, R = rcs d.norm a0 c0 a1 c1 := ⟨_, rfl⟩
  obtain ⟨X, hX⟩ : ∃ X, X = dcs x := ⟨_, rfl⟩
  have HRR := Lib.hid hR
  have HRC := Lib.hid (show Cs 4 R by rw [hR]; exact rcs_cs _ _ _ _ _)
  obtain ⟨w3, hw3⟩ : ∃ w3, w3 = ((w.alloc (.cells R.toArray 36)).alloc (.cells X.toArray 40)).alloc (.cells zD.toArray 36) := ⟨_, rfl⟩
  have HB3 := Lib.hid (show RowKit.Below w.heap.size w w3 by rw [hw3]; exact (((RowKit.Below.refl _ _).alloc (Nat.le_refl _) _).alloc (by simp) _).alloc (by simp; omega) _)
  have HN3 := Lib.hid (show w3.heap.size = w.heap.size + 3 by rw [hw3]; simp)
  have HP4 := Lib.hid (show w3.heap[w.heap.size]? = some (.cells R.toArray 36) by rw [hw3]; exact blk_in (blk_in (blkn rfl)))
  have p5 : w3.heap[w.heap.size + 1]? = some (.cells X.toArray 40) := by rw [hw3]; exact blk_in (blkn (by simp))
  have HP5 := Lib.hid p5
  have HP6 := Lib.hid (show w3.heap[w.heap.size + 2]? = some (.cells zD.toArray 36) by rw [hw3]; exact blkn (by simp))
  have q0 : w3.cell? ⟨w.heap.size + 1, 0, none⟩ = some (.int .i64 3) := by rw [cell_of_row _ _ _ _ _ _ p5, hX, ← hk]; rfl
  have HQ1 := Lib.hid (show w3.cell? ⟨w.heap.size + 1, 1, none⟩ = some (.int .i64 x.n) by rw [cell_of_row _ _ _ _ _ _ p5, hX]; rfl)
  have HQ3 := Lib.hid (show w3.cell? ⟨w.heap.size + 1, 3, none⟩ = some (.slice x.ka x.kn x.kc) by rw [cell_of_row _ _ _ _ _ _ p5, hX]; rfl)
  have HD := Lib.hid hd
  have HR0 := Lib.hid hr
  have HFL := Lib.hid hd.fl
  have HBB := Lib.hid hB
  have HOW := Lib.hid (show RM w3 (Own3 (FB F B) w) d.norm a0 a1 from hr.add HB3.out fun i hi => hi.imp id fun e => e.1)
  have HD3 := Lib.hid (hd.below HB3.out)
  have HLT := Lib.hid (show ∀ i, i < w.heap.size + 3 → i < w3.heap.size from fun i hi => by have := HN3.out; omega)
  have HNF := Lib.hid (show ∀ i, w.heap.size ≤ i → ¬ F i from fun i hi hf => by have := HFL.out i hf; omega)
  have HW3 := Lib.hid hw3
  have HPO := Lib.hid (power_any g F d x.ka x.keep x.kn x.kc w3 HD3.out (hl.below HB3.out) hn ho)
  have HRPW := Lib.hid (show ∀ (W : World) (G : Nat → Prop), (∀ i, G i → i < W.heap.size) → RM W G d.norm a0 a1 → Nums W x.ka x.keep → Calls Try.prog 26 #[.agg R.toArray, .slice x.ka x.kn x.kc] W (RPowerRes G d.norm x.keep W) from fun W G h1 h2 h3 => by
    rw [hR]
    exact rpower_any d.norm a0 c0 a1 c1 G x.ka x.keep x.kn x.kc W h1 h2 h3 hn)
  have HNL := Lib.hid (fun (W : World) (h : Only F w3 W) => (hl.below HB3.out).only ho h)
  have HNP := Lib.hid (norm_power d x.keep)
  have q3 := HQ3.out
  rw [← hR, ← hX]
  clear hR hX hw3 p5 hd hr hB hl hn ho hk
  go_enter Try.func13, Try.ntmps13
  go_wp2_with (first | (with_reducible refine wpList_boxA rfl _ _ rfl _ rfl ?_) | ((with_reducible refine wpList_allocA rfl isD rfl ?_); rw [← HW3.out]))
  clear q0 q3
  refine HPO.out.mono ?_
  rintro _ w4 ⟨rfl, hdid⟩
  have HDID := Lib.hid hdid
  obtain ⟨F', k1, k2, k3⟩ := hdid
  have HO := Lib.hid (show ∀ i, w.heap.size ≤ i → i < w.heap.size + 3 → w4.heap[i]? = w3.heap[i]? from fun i h1 h2 => k2.block _ (HLT.out i h2) (HNF.out i h1))
  have H4W := Lib.hid ((HO.out _ (Nat.le_refl _) (by omega)).trans HP4.out)
  have H6W := Lib.hid ((HO.out (w.heap.size + 2) (by omega) (by omega)).trans HP6.out)
  have q3 : w4.cell? ⟨w.heap.size + 1, 3, none⟩ = some (.slice x.ka x.kn x.kc) := by rw [World.cell?_of_block (a := ⟨w.heap.size + 1, 3, none⟩) (HO.out (w.heap.size + 1) (by omega) (by omega))]; exact HQ3.out
  have HS4 := Lib.hid (show w.heap.size + 3 ≤ w4.heap.size by have := k2.size; have := HN3.out; omega)
  have HRP := Lib.hid (HRPW.out w4 (fun i => FB F' B i ∨ i = w.heap.size + 2) (fun i hi => hi.elim (fun e => e.elim (k1.fl i) fun e => by have := HBB.out i e; have := HS4.out; omega) fun e => by have := HS4.out; omega) (HOW.out.other (k2.wide fun i hi => Or.inl (Or.inl hi)) fun i hi => hi.elim (fun e => e.elim (fun e => (k3 i e).imp (fun e => Or.inl (Or.inl e)) id) fun e => Or.inl (Or.inl (Or.inr e))) fun e => Or.inl (Or.inr (by omega))) (HNL.out w4 k2))
  have HK1 := Lib.hid k1
  have HK2 := Lib.hid k2
  have HK3 := Lib.hid k3
  clear k1 k2 k3
  go_wp2_with (first | (with_reducible refine wpList_loadW rfl isD _ rfl w.heap.size R _ rfl H4W.out HRC.out ?_))
  clear q3
  refine HRP.out.mono ?_
  rintro _ w5 ⟨a0', c0', a1', c1', rfl, hrm, hb5⟩
  rw [HNP.out] at hrm ⊢
  obtain ⟨R', hR'⟩ : ∃ R', R' = rcs (d.power x.keep).norm a0' c0' a1' c1' := ⟨_, rfl⟩
  rw [← hR']
  have HR' := Lib.hid hR'
  have HRC' := Lib.hid (show Cs 4 R' by rw [hR']; exact rcs_cs _ _ _ _ _)
  have H65 := Lib.hid ((hb5.block _ (lt_of_heap H6W.out)).trans H6W.out)
  have HB5 := Lib.hid hb5
  have HRM := Lib.hid hrm
  clear hR' hb5 hrm
  go_wp2_with (first | (with_reducible refine wpList_storeW rfl isD _ _ rfl (w.heap.size + 2) R' zD.toArray _ rfl rfl H65.out HRC'.out rfl ?_))
  refine ret_cell_slot isD rfl rfl rfl (c := R') (setRow_heap _ _ _ _ _ _ H65.out) HRC'.out rfl ?_
  exact deed_end2 HFL.out HB3.out HN3.out HR'.out HK1.out HK2.out HK3.out HB5.out HRM.out (by show 0 ≤ _; omega) (stl_len _ _ _ _)
set_option maxRecDepth 100000 in
set_option maxHeartbeats 6400000 in
theorem deedX_any (g : Nat) (F : Nat → Prop) (d : Dk) (a0 : Option Addr) (c0 : Nat) (a1 : Option Addr) (c1 : Nat) (x : Dd) (w : World) (hd : DAt w F g d) (B : Nat → Prop) (hB : ∀ i, B i → i < w.heap.size) (hr : RM w (FB F B) d.norm a0 a1) (h0 : x.kind ≠ 0) (h1 : x.kind ≠ 1) (h2 : x.kind ≠ 2) (h3 : x.kind ≠ 3) :
    Calls Try.prog 13 #[.pointer (some ⟨g, 0, none⟩), .agg (rcs d.norm a0 c0 a1 c1).toArray, .agg (dcs x).toArray] w (DeedRes g F B d w) := by
  obtain ⟨R, hR⟩ : ∃ R, R = rcs d.norm a0 c0 a1 c1 := ⟨_, rfl⟩
  obtain ⟨X, hX⟩ : ∃ X, X = dcs x := ⟨_, rfl⟩
  have HRR := Lib.hid hR
  have HRC := Lib.hid (show Cs 4 R by rw [hR]; exact rcs_cs _ _ _ _ _)
  obtain ⟨w3, hw3⟩ : ∃ w3, w3 = ((w.alloc (.cells R.toArray 36)).alloc (.cells X.toArray 40)).alloc (.cells zD.toArray 36) := ⟨_, rfl⟩
  have HB3 := Lib.hid (show RowKit.Below w.heap.size w w3 by rw [hw3]; exact (((RowKit.Below.refl _ _).alloc (Nat.le_refl _) _).alloc (by simp) _).alloc (by simp; omega) _)
  have HN3 := Lib.hid (show w3.heap.size = w.heap.size + 3 by rw [hw3]; simp)
  have HP4 := Lib.hid (show w3.heap[w.heap.size]? = some (.cells R.toArray 36) by rw [hw3]; exact blk_in (blk_in (blkn rfl)))
  have p5 : w3.heap[w.heap.size + 1]? = some (.cells X.toArray 40) := by rw [hw3]; exact blk_in (blkn (by simp))
  have HP5 := Lib.hid p5
  have HP6 := Lib.hid (show w3.heap[w.heap.size + 2]? = some (.cells zD.toArray 36) by rw [hw3]; exact blkn (by simp))
  have q0 : w3.cell? ⟨w.heap.size + 1, 0, none⟩ = some (.int .i64 x.kind) := by rw [cell_of_row _ _ _ _ _ _ p5, hX]; rfl
  have HQ1 := Lib.hid (show w3.cell? ⟨w.heap.size + 1, 1, none⟩ = some (.int .i64 x.n) by rw [cell_of_row _ _ _ _ _ _ p5, hX]; rfl)
  have HQ3 := Lib.hid (show w3.cell? ⟨w.heap.size + 1, 3, none⟩ = some (.slice x.ka x.kn x.kc) by rw [cell_of_row _ _ _ _ _ _ p5, hX]; rfl)
  have HD := Lib.hid hd
  have HR0 := Lib.hid hr
  have HFL := Lib.hid hd.fl
  have HBB := Lib.hid hB
  have HOW := Lib.hid (show RM w3 (Own3 (FB F B) w) d.norm a0 a1 from hr.add HB3.out fun i hi => hi.imp id fun e => e.1)
  have HD3 := Lib.hid (hd.below HB3.out)
  have HLT := Lib.hid (show ∀ i, i < w.heap.size + 3 → i < w3.heap.size from fun i hi => by have := HN3.out; omega)
  have HNF := Lib.hid (show ∀ i, w.heap.size ≤ i → ¬ F i from fun i hi hf => by have := HFL.out i hf; omega)
  have HW3 := Lib.hid hw3
  have d0 : (x.kind == 0) = false := by simpa using h0
  have d1 : (x.kind == 1) = false := by simpa using h1
  have d2 : (x.kind == 2) = false := by simpa using h2
  have d3 : (x.kind == 3) = false := by simpa using h3
  rw [← hR, ← hX]
  clear hR hX hw3 p5 hd hr hB h0 h1 h2 h3
  go_enter Try.func13, Try.ntmps13
  go_wp2_with (first | (with_reducible refine wpList_boxA rfl _ _ rfl _ rfl ?_) | ((with_reducible refine wpList_allocA rfl isD rfl ?_); rw [← HW3.out]) | (with_reducible refine wpList_loadW rfl isD _ rfl w.heap.size R _ rfl HP4.out HRC.out ?_) | (with_reducible refine wpList_storeW rfl isD _ _ rfl (w.heap.size + 2) R zD.toArray _ rfl rfl HP6.out HRC.out rfl ?_))
  refine ret_cell_slot isD rfl rfl rfl (c := R) (setRow_heap _ _ _ _ _ _ HP6.out) HRC.out rfl ?_
  exact deed_end HFL.out HB3.out HN3.out (RowKit.Below.refl _ _) HRR.out HOW.out ⟨F, HD3.out, Only.refl _ _, fun i hi => Or.inl hi⟩ (by omega) rfl
end Go.Proofs.Ytcboknigjpdmpaa
