/- falseworkref08.land. -/
import Derived.Test.YtoibonalgmmkbaaDkP
namespace Go.Proofs.Ytoibonalgmmkbaa
open Go.RowKit Go.Lib

theorem set_mid {α : Type} (A B C : List α) (i : Nat) (v : α) (hi : i < B.length) : (A ++ B ++ C).set (A.length + i) v = A ++ B.set i v ++ C := by
  rw [List.append_assoc, List.set_append_right _ _ (by omega), Nat.add_sub_cancel_left, List.set_append_left _ _ hi, List.append_assoc]
theorem cutS_zero {s old : Sec} : cutS s old 0 = old := by simp [cutS]
theorem cutS_getD {s old : Sec} {n i : Nat} (hs : s.length = 64) (_hn : n ≤ 64) : (cutS s old n)[i]? = if i < n then s[i]? else old[i]? := by
  unfold cutS
  by_cases h : i < n
  · rw [if_pos h, List.getElem?_append_left (by rw [List.length_take]; omega), List.getElem?_take, if_pos h]
  · rw [if_neg h, List.getElem?_append_right (by rw [List.length_take]; omega), List.getElem?_drop, List.length_take]
    congr 1; omega
theorem cutS_step {s old : Sec} {i : Nat} (hs : s.length = 64) (ho : old.length = 64) (hi : i < 64) : (bcells (cutS s old i)).set i (.int .u8 ((s.getD i 0).toNat : Int)) = bcells (cutS s old (i + 1)) := by
  have h1 : (cutS s old i).set i (s.getD i 0) = cutS s old (i + 1) := by
    apply List.ext_getElem?
    intro j
    rw [cutS_getD hs (by omega), List.getElem?_set, cutS_len hs ho (by omega)]
    by_cases e : i = j
    · subst e
      rw [if_pos rfl, if_pos hi, if_pos (by omega)]
      simp [List.getD, hs, hi]
    · rw [if_neg e, cutS_getD hs (by omega)]
      by_cases h : j < i
      · rw [if_pos h, if_pos (by omega)]
      · rw [if_neg h, if_neg (by omega)]
  rw [← h1]
  unfold bcells
  rw [List.map_set]
theorem land_step {b : List Sec} {s old : Sec} {x i : Nat} (hb : ∀ t ∈ b, t.length = 64) (hx : x < b.length) (hs : s.length = 64) (ho : old.length = 64) (hi : i < 64) :
    (scells (b.set x (cutS s old i))).set (x * 64 + i) (.int .u8 ((s.getD i 0).toNat : Int)) = scells (b.set x (cutS s old (i + 1))) := by
  have hf : ∀ t ∈ b, (bcells t).length = 64 := fun t ht => cells_len t (hb t ht)
  have e := fun t => (show scells (b.set x t) = (scells b).take (x * 64) ++ bcells t ++ (scells b).drop (x * 64 + 64) from flat_set hf hx)
  rw [e, e, ← cutS_step hs ho hi]
  have hl : ((scells b).take (x * 64)).length = x * 64 := by rw [List.length_take, scells_len hb]; omega
  have := set_mid ((scells b).take (x * 64)) (bcells (cutS s old i)) ((scells b).drop (x * 64 + 64)) i (.int .u8 ((s.getD i 0).toNat : Int)) (by rw [cells_len _ (cutS_len hs ho (by omega))]; exact hi)
  rw [hl] at this
  exact this
theorem wp_store1 {o : Oper} {a : Act} {w : World} {K : Act → World → Prop} {Q : Exit → Act → World → Prop} (T : TypeId) (x y : Operand) (ho : o.op = .store T x y) (p : Addr) (kk : IntKind) (nn : Int) (old : Value) (hx : a.eval x = .pointer (some p)) (hy : a.eval y = .int kk nn) (hi : (Try.prog.info? T).map (·.size) = some 1) (hc : w.cell? p = some old) (hf : w.frozen? p = false)
    (h : K (a.put o.dst undef) (w.setCell p (.int kk nn))) : o.wp Try.prog a w K Q := by
  cases hq : Try.prog.info? T with
  | none => rw [hq] at hi; cases hi
  | some i =>
    have hs : i.size = 1 := by rw [hq] at hi; simpa using hi
    unfold Oper.wp execOp
    simp only [ho, hx, hy, Instr.storeAt, Instr.sureAddr, Sem.run_bind, Sem.run_pure, Result.andThen_ok, storeVar, Go.sizeOf, typeInfo]
    simp [hq, hs, Value.cells, storeCells, hc, hf, Addr.add, go_sem]
    exact h
theorem set_getD_self {b : List Sec} {x : Nat} (h : x < b.length) : b.set x (b.getD x []) = b := by
  rw [List.getD, List.getElem?_eq_getElem h, Option.getD_some, List.set_getElem_self]
/-- how many of the first k bytes come in -/
def landN (m : Int) (k : Nat) : Nat := min k (min (max m 0) 64).toNat
def LandRes (b : List Sec) (p : Nat × Sec) (m : Int) (w : World) (e : Ending) (w' : World) : Prop := ∃ a c, e = .returned (.slice a b.length c) ∧ Lie w' a (scells (b.set p.1 (cutS p.2 (b.getD p.1 []) (min (max m 0) 64).toNat))) ∧ a ≠ none ∧ (∀ i, inBlk a i → w.heap.size ≤ i ∧ i < w'.heap.size) ∧ RowKit.Below w.heap.size w w'
set_option maxRecDepth 100000 in
set_option maxHeartbeats 1600000 in
theorem land_any (a0 : Option Addr) (c0 : Nat) (b : List Sec) (p : Nat × Sec) (m : Int) (w : World) (hl : Lie w a0 (scells b)) (h0 : a0 = none → b.length = 0) (hb : ∀ t ∈ b, t.length = 64) (hn : b.length ≤ 2048) (hp : p.1 < b.length) (hs : p.2.length = 64) :
    Calls Try.prog 39 #[.slice a0 b.length c0, .agg (icell p).toArray, .int .i64 m] w (LandRes b p m w) := by
  obtain ⟨c, hc⟩ : ∃ c, c = icell p := ⟨_, rfl⟩
  have hit := heap_alloc_new w (.cells c.toArray 78)
  have HB0 := Lib.hid (show RowKit.Below w.heap.size w ((w.alloc (.cells c.toArray 78)).alloc (.cells #[] 59)) from ((RowKit.Below.refl _ _).alloc (Nat.le_refl _) _).alloc (by simp) _)
  have HIT := Lib.hid hit
  have HL := Lib.hid (hl.below HB0.out)
  have H0 := Lib.hid h0
  have HBL := Lib.hid (scells_len hb)
  have HBB := Lib.hid hb
  have HN := Lib.hid hn
  have HP := Lib.hid hp
  have HS := Lib.hid hs
  have HO := Lib.hid (show (b.getD p.1 []).length = 64 from hb _ (getD_mem hp))
  have HC := Lib.hid hc
  obtain ⟨M, hM⟩ : ∃ M, M = (min (max m 0) 64).toNat := ⟨_, rfl⟩
  have HM := Lib.hid (show (M : Int) = min (max m 0) 64 by omega)
  have HMM := Lib.hid hM
  rw [← hc]
  clear hl h0 hb hn hp hs hc hit hM
  go_enter Try.func39, Try.ntmps39
  go_wp2_with (first | (with_reducible refine wpList_boxA rfl _ _ rfl _ rfl ?_) | (at_builtin; refine wpList_appO elS rfl _ _ rfl (w.heap.size + 1) (.slice (some ⟨w.heap.size + 1, 0, none⟩) 0 0) 0 [] a0 b.length c0 (scells b) rfl rfl (by have := World.ownsRow_lit (base := w.heap.size + 1) (e := 59) (size := 64) (w.alloc (.cells c.toArray 78)) #[] 0 (by simp) (by decide) rfl; simpa using this) HBL.out HL.out H0.out (scells_one _) (by have := HN.out; omega) (by decide) (by simp) ?_; intro v3 w3 h3; have H3 := Lib.hid h3; clear h3))
  obtain ⟨a3, cp, hv3, _, _, _⟩ := ow_lie H3.out.1
  have HV3 := Lib.hid hv3
  obtain ⟨gb, cur, ha3, hgb⟩ := ow_head (by rw [hv3] at H3; exact H3.out.1) (by have := HP.out; omega)
  subst ha3
  have e0 : 0 + b.length = b.length := Nat.zero_add _
  rw [e0] at hv3
  subst hv3
  have ho3 : w3.ownsRow (w.heap.size + 1) 59 64 (.slice (some ⟨gb, 0, none⟩) b.length cp) b.length (scells b) := by
    have := H3.out.1
    rw [e0, List.nil_append] at this
    exact this
  have hb3 : RowKit.Below w.heap.size w w3 := below_appd H3.out HB0.out (by simp; omega) (fun i hi => by cases hi; exact Nat.le_succ _)
  have hi3 : w3.heap[w.heap.size]? = some (.cells c.toArray 78) := (H3.out.2.1.block _ (by simp; omega) (fun e => by injection e with e; have e2 : w.heap.size = w.heap.size + 1 := e; omega)).trans (blk_in HIT.out)
  have HO3 := Lib.hid ho3
  have HB3 := Lib.hid hb3
  have HI3 := Lib.hid hi3
  have HGB := Lib.hid (show w.heap.size + 1 ≤ gb from (ho3.lt gb rfl).1)
  obtain ⟨old, hold⟩ : ∃ old, old = b.getD p.1 [] := ⟨_, rfl⟩
  have HOL := Lib.hid hold
  have HO64 := Lib.hid (show old.length = 64 by rw [hold]; exact HO.out)
  clear hgb ho3 hb3 hi3 e0 hold HV3 H3
  go_loopw [12] (fun c12 wr => ∃ k : Nat, c12 = .int .i64 (k : Int) ∧ k ≤ 64 ∧ (wr.ownsRow (w.heap.size + 1) 59 64 (.slice (some ⟨gb, 0, none⟩) b.length cp) b.length (scells (b.set p.1 (cutS p.2 old (min k M)))) ∧ RowKit.Below w.heap.size w wr ∧ wr.heap[w.heap.size]? = some (.cells c.toArray 78))) (fun c12 _ => 64 - (match c12 with | .int _ q => q | _ => 0).toNat)
  case atStart => exact ⟨0, rfl, by omega, by rw [Nat.zero_min, cutS_zero, HOL.out, set_getD_self HP.out]; exact HO3.out, HB3.out, HI3.out⟩
  case round =>
    obtain ⟨k, rfl, hk, hst⟩ := hrel
    have HST := Lib.hid hst
    clear hst
    by_cases hlt : k < 64
    · by_cases hm : (k : Int) < m
      · have hkM : k < M := by have := HM.out; omega
        have HE2 := Lib.hid (show wr.cell? ⟨w.heap.size, 64, none⟩ = some (.int .i64 (p.1 : Int)) by rw [cell_of_row _ _ _ _ _ _ HST.out.2.2, HC.out]; simp [icell, cells_len _ HS.out])
        have HE7 := Lib.hid (show wr.cell? ⟨w.heap.size, k, none⟩ = some (.int .u8 ((p.2.getD k 0).toNat : Int)) by rw [cell_of_row _ _ _ _ _ _ HST.out.2.2, HC.out]; rw [List.getElem?_toArray]; unfold icell; rw [List.getElem?_append_left (by rw [cells_len _ HS.out]; exact hlt), bcells_get (by rw [HS.out]; exact hlt)])
        have HIX := Lib.hid (fun (W : World) => show (Instr.indexAt 34 (.slice (some ⟨gb, 0, none⟩) b.length cp) (.int .i64 (p.1 : Int))).run Try.prog W = .ok (.pointer (some ⟨gb, p.1 * 64, none⟩)) W by have := run_idx elS (b := gb) (off := 0) (cap := cp) (k := .i64) rfl HP.out W; rwa [Nat.zero_add] at this)
        have hlen : (scells (b.set p.1 (cutS p.2 old (min k M)))).length = b.length * 64 := HST.out.1.1
        obtain ⟨ov, hov⟩ : ∃ ov, (scells (b.set p.1 (cutS p.2 old (min k M))))[p.1 * 64 + k]? = some ov := ⟨_, List.getElem?_eq_getElem (by rw [hlen]; have := HP.out; omega)⟩
        have HOLDC := Lib.hid (show wr.drew.cell? ⟨gb, p.1 * 64 + k, none⟩ = some ov from (World.ownsRow.cellAt HST.out.1 _ (by have := HP.out; omega)).trans hov)
        have HFRZ := Lib.hid (show wr.drew.frozen? ⟨gb, p.1 * 64 + k, none⟩ = false from World.ownsRow.frozenAt HST.out.1 _)
        have HNEB := Lib.hid (show w.heap.size ≠ (⟨gb, p.1 * 64 + k, none⟩ : Addr).block from fun e => by have := HGB.out; have e2 : w.heap.size = gb := e; omega)
        have hso := World.ownsRow.stored (w := wr.drew) HST.out.1 (p.1 * 64 + k) (.int .u8 ((p.2.getD k 0).toNat : Int))
        rw [show min k M = k by omega, land_step HBB.out HP.out HS.out HO64.out hlt] at hso
        have HNX := Lib.hid (show (wr.drew.setCell ⟨gb, p.1 * 64 + k, none⟩ (.int .u8 ((p.2.getD k 0).toNat : Int))).ownsRow (w.heap.size + 1) 59 64 (.slice (some ⟨gb, 0, none⟩) b.length cp) b.length (scells (b.set p.1 (cutS p.2 old (min (k + 1) M)))) ∧ RowKit.Below w.heap.size w (wr.drew.setCell ⟨gb, p.1 * 64 + k, none⟩ (.int .u8 ((p.2.getD k 0).toNat : Int))) ∧ (wr.drew.setCell ⟨gb, p.1 * 64 + k, none⟩ (.int .u8 ((p.2.getD k 0).toNat : Int))).heap[w.heap.size]? = some (.cells c.toArray 78) from
          ⟨by rw [show min (k + 1) M = k + 1 by omega]; exact hso.1, (HST.out.2.1.drew).setCell (by have := HGB.out; show w.heap.size ≤ gb; omega) _, (heap_setCell_other _ _ _ _ HNEB.out).trans HST.out.2.2⟩)
        clear hso hov hlen hkM
        go_wp2_with fail
        refine wp_region_held_drew (S := fun W => Agree [w.heap.size] wr W) (by kernel_rfl) ?_ (fun hHeld => ?_)
        · exact fun _ _ => rfl
        refine held_take 0 (v := ?_) rfl (by kernel_rfl) (by kernel_rfl) (by kernel_rfl) (fun _ _ _ h => h) hHeld (by rfl) ?_ ?_
        rotate_left
        · (intro W hW; go_simp; try with_reducible rfl)
        try simp only [Act.put, List.setIfInBounds_toArray, List.set_cons_zero, List.set_cons_succ]
        refine held_take 1 (v := ?_) rfl (by kernel_rfl) (by kernel_rfl) (by kernel_rfl) (fun _ _ _ h => h) hHeld (by rfl) ?_ ?_
        rotate_left
        · (intro W hW; go_simp; try with_reducible rfl)
        try simp only [Act.put, List.setIfInBounds_toArray, List.set_cons_zero, List.set_cons_succ]
        refine held_take 2 (v := ?_) rfl (by kernel_rfl) (by kernel_rfl) (by kernel_rfl) (fun _ _ _ h => h) hHeld (by rfl) ?_ ?_
        rotate_left
        · (intro W hW; have e := hW.cell (by simp) HE2.out; go_simp; try with_reducible rfl)
        try simp only [Act.put, List.setIfInBounds_toArray, List.set_cons_zero, List.set_cons_succ]
        refine held_take 3 (v := ?_) rfl (by kernel_rfl) (by kernel_rfl) (by kernel_rfl) (fun _ _ _ h => h) hHeld (by rfl) ?_ ?_
        rotate_left
        · (intro W hW; go_simp; try with_reducible rfl)
        try simp only [Act.put, List.setIfInBounds_toArray, List.set_cons_zero, List.set_cons_succ]
        refine held_take 4 (v := ?_) rfl (by kernel_rfl) (by kernel_rfl) (by kernel_rfl) (fun _ _ _ h => h) hHeld (by rfl) ?_ ?_
        rotate_left
        · (intro W hW; go_simp; try with_reducible rfl)
        try simp only [Act.put, List.setIfInBounds_toArray, List.set_cons_zero, List.set_cons_succ]
        refine held_take 5 (v := ?_) rfl (by kernel_rfl) (by kernel_rfl) (by kernel_rfl) (fun _ _ _ h => h) hHeld (by rfl) ?_ ?_
        rotate_left
        · (intro W hW; go_simp; try with_reducible rfl)
        try simp only [Act.put, List.setIfInBounds_toArray, List.set_cons_zero, List.set_cons_succ]
        refine held_take 6 (v := ?_) rfl (by kernel_rfl) (by kernel_rfl) (by kernel_rfl) (fun _ _ _ h => h) hHeld (by rfl) ?_ ?_
        rotate_left
        · (intro W hW; go_simp; try with_reducible rfl)
        try simp only [Act.put, List.setIfInBounds_toArray, List.set_cons_zero, List.set_cons_succ]
        refine held_take 7 (v := ?_) rfl (by kernel_rfl) (by kernel_rfl) (by kernel_rfl) (fun _ _ _ h => h) hHeld (by rfl) ?_ ?_
        rotate_left
        · (intro W hW; have e := hW.cell (by simp) HE7.out; go_simp; try with_reducible rfl)
        try simp only [Act.put, List.setIfInBounds_toArray, List.set_cons_zero, List.set_cons_succ]
        refine held_take 8 (v := ?_) rfl (by kernel_rfl) (by kernel_rfl) (by kernel_rfl) (fun _ _ _ h => h) hHeld (by rfl) ?_ ?_
        rotate_left
        · (intro W hW; have e := HIX.out W; go_simp; try with_reducible rfl)
        try simp only [Act.put, List.setIfInBounds_toArray, List.set_cons_zero, List.set_cons_succ]
        refine held_take 9 (v := ?_) rfl (by kernel_rfl) (by kernel_rfl) (by kernel_rfl) (fun _ _ _ h => h) hHeld (by rfl) ?_ ?_
        rotate_left
        · (intro W hW; go_simp; try with_reducible rfl)
        try simp only [Act.put, List.setIfInBounds_toArray, List.set_cons_zero, List.set_cons_succ]
        refine held_next 10 rfl (by kernel_rfl) (by rfl) (fun K hK => ?_)
        refine wp_store1 _ _ _ rfl ⟨gb, p.1 * 64 + k, none⟩ _ _ _ rfl rfl (by kernel_rfl) HOLDC.out HFRZ.out ?_
        refine hK.out _ _ (fun i hi => by rw [List.mem_singleton.1 hi]; exact heap_setCell_other _ _ _ _ HNEB.out) (fun hHeld => ?_)
        clear hK K
        refine wpAnyH_done (by kernel_rfl) ?_ _
        go_simp
        go_wp2_with fail
        go_roundw
        case rel => exact ⟨k + 1, by go_num, by omega, HNX.out⟩
        case measure => simp; omega
      · have HNX := Lib.hid (show wr.ownsRow (w.heap.size + 1) 59 64 (.slice (some ⟨gb, 0, none⟩) b.length cp) b.length (scells (b.set p.1 (cutS p.2 old (min (k + 1) M)))) ∧ RowKit.Below w.heap.size w wr ∧ wr.heap[w.heap.size]? = some (.cells c.toArray 78) from ⟨by rw [show min (k + 1) M = min k M by have := HM.out; omega]; exact HST.out.1, HST.out.2⟩)
        go_wp2_with fail
        go_roundw
        case rel => exact ⟨k + 1, by go_num, by omega, HNX.out⟩
        case measure => simp; omega
    · obtain rfl : k = 64 := by omega
      go_wp2
      go_ret
      refine ⟨some ⟨gb, 0, none⟩, cp, rfl, ?_, (fun e => by cases e), fun i hi => ?_, HST.out.2.1⟩
      · have h := HST.out.1
        rw [show min 64 M = M by have := HM.out; omega, HMM.out, HOL.out] at h
        exact Or.inr ⟨gb, 0, rfl, (h.lt gb rfl).2, ow_range h⟩
      · obtain ⟨q, e, rfl⟩ := hi
        cases e
        exact ⟨by have := HGB.out; show w.heap.size ≤ gb; omega, (HST.out.1.lt gb rfl).2⟩
end Go.Proofs.Ytoibonalgmmkbaa
