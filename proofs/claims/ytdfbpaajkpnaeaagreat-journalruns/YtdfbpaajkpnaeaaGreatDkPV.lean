
/- falseworkref08: a disk as a value; spend, Fuse. falseworkref08.land. falseworkref08: Blank, Put. falseworkref08.Put. falseworkref08.Flush. falseworkref08.Power. falseworkref08.Get. -/
import Derived.Test.YtdfbpaajkpnaeaaGreatDkL

namespace Go.Proofs.YtdfbpaajkpnaeaaGreat
set_option maxRecDepth 100000
open Go.RowKit Go.Lib

/-- the document's disk, as a value -/
def rcs (r : Dk) (a0 : Option Addr) (c0 : Nat) (a1 : Option Addr) (c1 : Nat) : List Value := [.slice a0 r.base.length c0, .slice a1 r.queue.length c1, .int .i64 r.fuse, .bool r.dead]
theorem isD : IsAgg 36 4 [.slice none 0 0, .slice none 0 0, .int .i64 0, .bool false] :=
  ⟨Tryz.zeroValue36, ⟨_, Tryz.underlying36, rfl⟩, by kernel_rfl, rfl⟩
theorem rcs_cs (r : Dk) (a0 : Option Addr) (c0 : Nat) (a1 : Option Addr) (c1 : Nat) : Cs 4 (rcs r a0 c0 a1 c1) := ⟨rfl, fun u hu => by
  simp [rcs] at hu
  rcases hu with rfl | rfl | rfl | rfl <;> rfl⟩
def SpendRes (r : Dk) (a0 : Option Addr) (c0 : Nat) (a1 : Option Addr) (c1 : Nat) (w : World) (e : Ending) (w' : World) : Prop := ∃ fu dd, r.spend = { r with fuse := fu, dead := dd } ∧ e = .returned (.tuple #[.agg (rcs { r with fuse := fu, dead := dd } a0 c0 a1 c1).toArray, .bool r.live]) ∧ RowKit.Below w.heap.size w w'
theorem spend_any (r : Dk) (a0 : Option Addr) (c0 : Nat) (a1 : Option Addr) (c1 : Nat) (w : World) (hI : I r.fuse) : Calls Tryz.prog 84 #[.agg (rcs r a0 c0 a1 c1).toArray] w (SpendRes r a0 c0 a1 c1 w) := by
  have hfin : ∀ (fu : Int) (dd l : Bool) (W : World), r.spend = { r with fuse := fu, dead := dd } → l = r.live → RowKit.Below w.heap.size w W → SpendRes r a0 c0 a1 c1 w (.returned (.tuple #[.agg #[.slice a0 r.base.length c0, .slice a1 r.queue.length c1, .int .i64 fu, .bool dd], .bool l])) W := fun fu dd l W h1 h2 h3 => ⟨fu, dd, h1, by rw [h2]; rfl, h3⟩
  have HF := Lib.hid hfin
  show Calls _ _ #[.agg #[.slice a0 r.base.length c0, .slice a1 r.queue.length c1, .int .i64 r.fuse, .bool r.dead]] _ _
  have hsp : r.spend = if !(r.dead || r.fuse == 0) then { r with fuse := if 0 < r.fuse then r.fuse - 1 else r.fuse } else { r with dead := true } := rfl
  have hlv : r.live = !(r.dead || r.fuse == 0) := rfl
  have HB := Lib.hid (fun (A B : Obj) => show RowKit.Below w.heap.size w ((w.alloc A).alloc B) from ((RowKit.Below.refl _ _).alloc (Nat.le_refl _) _).alloc (by simp) _)
  obtain ⟨fu, hfu⟩ : ∃ fu, fu = r.fuse := ⟨_, rfl⟩
  obtain ⟨dd, hdd⟩ : ∃ dd, dd = r.dead := ⟨_, rfl⟩
  rw [← hfu] at hI
  rw [← hfu, ← hdd] at hsp hlv ⊢
  clear hfin
  by_cases h0 : fu = 0
  · subst h0
    have HL := Lib.hid (show false = r.live by rw [hlv]; simp)
    have HS := Lib.hid (show r.spend = { r with fuse := 0, dead := true } by rw [hsp]; simp [hfu])
    clear hfu hdd hsp hlv hI
    go_enter Tryz.func84, Tryz.ntmps84
    go_wp2
    refine ret_cell_slot isD rfl rfl rfl (c := [.slice a0 r.base.length c0, .slice a1 r.queue.length c1, .int .i64 0, .bool true]) (blkn (by simp)) (rcs_cs { r with fuse := 0, dead := true } a0 c0 a1 c1) rfl ?_
    exact HF.out _ _ _ _ HS.out HL.out (HB.out _ _)
  · have b0 : (fu == 0) = false := by simpa using h0
    cases dd with
    | true =>
      have HL := Lib.hid (show false = r.live by rw [hlv]; simp)
      have HS := Lib.hid (show r.spend = { r with fuse := fu, dead := true } by rw [hsp]; simp [hfu])
      clear hfu hdd hsp hlv hI h0
      go_enter Tryz.func84, Tryz.ntmps84
      go_wp2
      refine ret_cell_slot isD rfl rfl rfl (c := [.slice a0 r.base.length c0, .slice a1 r.queue.length c1, .int .i64 fu, .bool true]) (blkn (by simp)) (rcs_cs { r with fuse := fu, dead := true } a0 c0 a1 c1) rfl ?_
      exact HF.out _ _ _ _ HS.out HL.out (HB.out _ _)
    | false =>
      have HL := Lib.hid (show true = r.live by rw [hlv, b0]; rfl)
      by_cases hp : 0 < fu
      · have HS := Lib.hid (show r.spend = { r with fuse := fu - 1, dead := false } by rw [hsp, b0]; simp [hp])
        have d0 : decide (0 < fu) = true := by simpa using hp
        have r0 : IntKind.i64.wrap (fu - 1) = fu - 1 := by
          obtain ⟨h1, h2⟩ := hI
          exact IntWalk.i64_in _ (by omega)
        clear hfu hdd hsp hlv hI hp h0
        go_enter Tryz.func84, Tryz.ntmps84
        go_wp2
        refine ret_cell_slot isD rfl rfl rfl (c := [.slice a0 r.base.length c0, .slice a1 r.queue.length c1, .int .i64 (fu - 1), .bool false]) (blkn (by simp)) (rcs_cs { r with fuse := fu - 1, dead := false } a0 c0 a1 c1) rfl ?_
        exact HF.out _ _ _ _ HS.out HL.out (HB.out _ _)
      · have HS := Lib.hid (show r.spend = { r with fuse := fu, dead := false } by rw [hsp, b0]; simp [hp])
        have d0 : decide (0 < fu) = false := by simpa using hp
        clear hfu hdd hsp hlv hI hp h0
        go_enter Tryz.func84, Tryz.ntmps84
        go_wp2
        refine ret_cell_slot isD rfl rfl rfl (c := [.slice a0 r.base.length c0, .slice a1 r.queue.length c1, .int .i64 fu, .bool false]) (blkn (by simp)) (rcs_cs { r with fuse := fu, dead := false } a0 c0 a1 c1) rfl ?_
        exact HF.out _ _ _ _ HS.out HL.out (HB.out _ _)
theorem rfuse_any (r : Dk) (a0 : Option Addr) (c0 : Nat) (a1 : Option Addr) (c1 : Nat) (n : Int) (w : World) : Calls Tryz.prog 21 #[.agg (rcs r a0 c0 a1 c1).toArray, .int .i64 n] w fun e w' => e = .returned (.agg (rcs { r with fuse := max n (-1) } a0 c0 a1 c1).toArray) ∧ RowKit.Below w.heap.size w w' := by
  have HB := Lib.hid (fun (A B : Obj) => show RowKit.Below w.heap.size w ((w.alloc A).alloc B) from ((RowKit.Below.refl _ _).alloc (Nat.le_refl _) _).alloc (by simp) _)
  show Calls _ _ #[.agg #[.slice a0 r.base.length c0, .slice a1 r.queue.length c1, .int .i64 r.fuse, .bool r.dead], _] _ _
  by_cases h : n < -1
  · have e : max n (-1) = -1 := by omega
    rw [e]
    go_enter Tryz.func21, Tryz.ntmps21
    go_wp2
    refine ret_cell isD rfl rfl (c := [.slice a0 r.base.length c0, .slice a1 r.queue.length c1, .int .i64 (-1), .bool r.dead]) (blkn (by simp)) (rcs_cs { r with fuse := -1 } a0 c0 a1 c1) rfl ?_
    exact ⟨rfl, HB.out _ _⟩
  · have e : max n (-1) = n := by omega
    rw [e]
    by_cases h2 : n = -1
    · subst h2
      clear h e
      go_enter Tryz.func21, Tryz.ntmps21
      go_wp2
      refine ret_cell isD rfl rfl (c := [.slice a0 r.base.length c0, .slice a1 r.queue.length c1, .int .i64 (-1), .bool r.dead]) (blkn (by simp)) (rcs_cs { r with fuse := -1 } a0 c0 a1 c1) rfl ?_
      exact ⟨rfl, HB.out _ _⟩
    · have h3 : -1 < n := by omega
      clear h e h2
      go_enter Tryz.func21, Tryz.ntmps21
      go_wp2
      refine ret_cell isD rfl rfl (c := [.slice a0 r.base.length c0, .slice a1 r.queue.length c1, .int .i64 n, .bool r.dead]) (blkn (by simp)) (rcs_cs { r with fuse := n } a0 c0 a1 c1) rfl ?_
      exact ⟨rfl, HB.out _ _⟩
end Go.Proofs.YtdfbpaajkpnaeaaGreat

namespace Go.Proofs.YtdfbpaajkpnaeaaGreat
set_option maxRecDepth 100000
open Go.RowKit Go.Lib

theorem set_mid {α : Type} (A B C : List α) (i : Nat) (v : α) (hi : i < B.length) : (A ++ B ++ C).set (A.length + i) v = A ++ B.set i v ++ C := by
  rw [List.append_assoc, List.set_append_right _ _ (by omega), Nat.add_sub_cancel_left, List.set_append_left _ _ hi, List.append_assoc]
theorem cutS_zero {s old : Sec} : cutS s old 0 = old := by simp [cutS]
theorem cutS_getD {s old : Sec} {n i : Nat} (hs : s.length = 64) (_hn : n ≤ 64) : (cutS s old n)[i]? = if i < n then s[i]? else old[i]? := by
  unfold cutS
  by_cases h : i < n
  · rw [if_pos h, List.getElem?_append_left (by rw [List.length_take]; omega), List.getElem?_take, if_pos h]
  · rw [if_neg h, List.getElem?_append_right (by rw [List.length_take]; omega), List.getElem?_drop, List.length_take]
    congr 1; omega
theorem cutS_step {s old : Sec} {i : Nat} (hs : s.length = 64) (ho : old.length = 64) (hi : i < 64) : (bcells (cutS s old i)).set i (.int .u8 ((s.getD i 0).toNat : Int)) = bcells (cutS s old (i + 1)) := by
  have h1 : (cutS s old i).set i (s.getD i 0) = cutS s old (i + 1) := by
    apply List.ext_getElem?
    intro j
    rw [cutS_getD hs (by omega), List.getElem?_set, cutS_len hs ho (by omega)]
    by_cases e : i = j
    · subst e
      rw [if_pos rfl, if_pos hi, if_pos (by omega)]
      simp [List.getD, hs, hi]
    · rw [if_neg e, cutS_getD hs (by omega)]
      by_cases h : j < i
      · rw [if_pos h, if_pos (by omega)]
      · rw [if_neg h, if_neg (by omega)]
  rw [← h1]
  unfold bcells
  rw [List.map_set]
theorem land_step {b : List Sec} {s old : Sec} {x i : Nat} (hb : ∀ t ∈ b, t.length = 64) (hx : x < b.length) (hs : s.length = 64) (ho : old.length = 64) (hi : i < 64) :
    (scells (b.set x (cutS s old i))).set (x * 64 + i) (.int .u8 ((s.getD i 0).toNat : Int)) = scells (b.set x (cutS s old (i + 1))) := by
  have hf : ∀ t ∈ b, (bcells t).length = 64 := fun t ht => cells_len t (hb t ht)
  have e := fun t => (show scells (b.set x t) = (scells b).take (x * 64) ++ bcells t ++ (scells b).drop (x * 64 + 64) from flat_set hf hx)
  rw [e, e, ← cutS_step hs ho hi]
  have hl : ((scells b).take (x * 64)).length = x * 64 := by rw [List.length_take, scells_len hb]; omega
  have := set_mid ((scells b).take (x * 64)) (bcells (cutS s old i)) ((scells b).drop (x * 64 + 64)) i (.int .u8 ((s.getD i 0).toNat : Int)) (by rw [cells_len _ (cutS_len hs ho (by omega))]; exact hi)
  rw [hl] at this
  exact this
theorem wp_store1 {o : Oper} {a : Act} {w : World} {K : Act → World → Prop} {Q : Exit → Act → World → Prop} (T : TypeId) (x y : Operand) (ho : o.op = .store T x y) (p : Addr) (kk : IntKind) (nn : Int) (old : Value) (hx : a.eval x = .pointer (some p)) (hy : a.eval y = .int kk nn) (hi : (Tryz.prog.info? T).map (·.size) = some 1) (hc : w.cell? p = some old) (hf : w.frozen? p = false)
    (h : K (a.put o.dst undef) (w.setCell p (.int kk nn))) : o.wp Tryz.prog a w K Q := by
  cases hq : Tryz.prog.info? T with
  | none => rw [hq] at hi; cases hi
  | some i =>
    have hs : i.size = 1 := by rw [hq] at hi; simpa using hi
    unfold Oper.wp execOp
    simp only [ho, hx, hy, Instr.storeAt, Instr.sureAddr, Sem.run_bind, Sem.run_pure, Result.andThen_ok, storeVar, Go.sizeOf, typeInfo]
    simp [hq, hs, Value.cells, storeCells, hc, hf, Addr.add, go_sem]
    exact h
theorem set_getD_self {b : List Sec} {x : Nat} (h : x < b.length) : b.set x (b.getD x []) = b := by
  rw [List.getD, List.getElem?_eq_getElem h, Option.getD_some, List.set_getElem_self]
/-- how many of the first k bytes come in -/
def landN (m : Int) (k : Nat) : Nat := min k (min (max m 0) 64).toNat
def LandRes (b : List Sec) (p : Nat × Sec) (m : Int) (w : World) (e : Ending) (w' : World) : Prop := ∃ a c, e = .returned (.slice a b.length c) ∧ Lie w' a (scells (b.set p.1 (cutS p.2 (b.getD p.1 []) (min (max m 0) 64).toNat))) ∧ a ≠ none ∧ (∀ i, inBlk a i → w.heap.size ≤ i ∧ i < w'.heap.size) ∧ RowKit.Below w.heap.size w w'
set_option maxRecDepth 100000 in
set_option maxHeartbeats 1600000 in
theorem land_any (a0 : Option Addr) (c0 : Nat) (b : List Sec) (p : Nat × Sec) (m : Int) (w : World) (hl : Lie w a0 (scells b)) (h0 : a0 = none → b.length = 0) (hb : ∀ t ∈ b, t.length = 64) (hn : b.length ≤ 2048) (hp : p.1 < b.length) (hs : p.2.length = 64) :
    Calls Tryz.prog 38 #[.slice a0 b.length c0, .agg (icell p).toArray, .int .i64 m] w (LandRes b p m w) := by
  obtain ⟨c, hc⟩ : ∃ c, c = icell p := ⟨_, rfl⟩
  have hit := heap_alloc_new w (.cells c.toArray 90)
  have HB0 := Lib.hid (show RowKit.Below w.heap.size w ((w.alloc (.cells c.toArray 90)).alloc (.cells #[] 88)) from ((RowKit.Below.refl _ _).alloc (Nat.le_refl _) _).alloc (by simp) _)
  have HIT := Lib.hid hit
  have HL := Lib.hid (hl.below HB0.out)
  have H0 := Lib.hid h0
  have HBL := Lib.hid (scells_len hb)
  have HBB := Lib.hid hb
  have HN := Lib.hid hn
  have HP := Lib.hid hp
  have HS := Lib.hid hs
  have HO := Lib.hid (show (b.getD p.1 []).length = 64 from hb _ (getD_mem hp))
  have HC := Lib.hid hc
  obtain ⟨M, hM⟩ : ∃ M, M = (min (max m 0) 64).toNat := ⟨_, rfl⟩
  have HM := Lib.hid (show (M : Int) = min (max m 0) 64 by omega)
  have HMM := Lib.hid hM
  rw [← hc]
  clear hl h0 hb hn hp hs hc hit hM
  go_enter Tryz.func38, Tryz.ntmps38
  go_wp2_with (first | (with_reducible refine wpList_boxA rfl _ _ rfl _ rfl ?_) | (at_builtin; refine wpList_appO elS rfl _ _ rfl (w.heap.size + 1) (.slice (some ⟨w.heap.size + 1, 0, none⟩) 0 0) 0 [] a0 b.length c0 (scells b) rfl rfl (by have := World.ownsRow_lit (base := w.heap.size + 1) (e := 88) (size := 64) (w.alloc (.cells c.toArray 90)) #[] 0 (by simp) (by decide) rfl; simpa using this) HBL.out HL.out H0.out (scells_one _) (by have := HN.out; omega) (by decide) (by simp) ?_; intro v3 w3 h3; have H3 := Lib.hid h3; clear h3))
  obtain ⟨a3, cp, hv3, _, _, _⟩ := ow_lie H3.out.1
  have HV3 := Lib.hid hv3
  obtain ⟨gb, cur, ha3, hgb⟩ := ow_head (by rw [hv3] at H3; exact H3.out.1) (by have := HP.out; omega)
  subst ha3
  have e0 : 0 + b.length = b.length := Nat.zero_add _
  rw [e0] at hv3
  subst hv3
  have ho3 : w3.ownsRow (w.heap.size + 1) 88 64 (.slice (some ⟨gb, 0, none⟩) b.length cp) b.length (scells b) := by
    have := H3.out.1
    rw [e0, List.nil_append] at this
    exact this
  have hb3 : RowKit.Below w.heap.size w w3 := below_appd H3.out HB0.out (by simp; omega) (fun i hi => by cases hi; exact Nat.le_succ _)
  have hi3 : w3.heap[w.heap.size]? = some (.cells c.toArray 90) := (H3.out.2.1.block _ (by simp; omega) (fun e => by injection e with e; have e2 : w.heap.size = w.heap.size + 1 := e; omega)).trans (blk_in HIT.out)
  have HO3 := Lib.hid ho3
  have HB3 := Lib.hid hb3
  have HI3 := Lib.hid hi3
  have HGB := Lib.hid (show w.heap.size + 1 ≤ gb from (ho3.lt gb rfl).1)
  obtain ⟨old, hold⟩ : ∃ old, old = b.getD p.1 [] := ⟨_, rfl⟩
  have HOL := Lib.hid hold
  have HO64 := Lib.hid (show old.length = 64 by rw [hold]; exact HO.out)
  clear hgb ho3 hb3 hi3 e0 hold HV3 H3
  go_loopw [12] (fun c12 wr => ∃ k : Nat, c12 = .int .i64 (k : Int) ∧ k ≤ 64 ∧ (wr.ownsRow (w.heap.size + 1) 88 64 (.slice (some ⟨gb, 0, none⟩) b.length cp) b.length (scells (b.set p.1 (cutS p.2 old (min k M)))) ∧ RowKit.Below w.heap.size w wr ∧ wr.heap[w.heap.size]? = some (.cells c.toArray 90))) (fun c12 _ => 64 - (match c12 with | .int _ q => q | _ => 0).toNat)
  case atStart => exact ⟨0, rfl, by omega, by rw [Nat.zero_min, cutS_zero, HOL.out, set_getD_self HP.out]; exact HO3.out, HB3.out, HI3.out⟩
  case round =>
    obtain ⟨k, rfl, hk, hst⟩ := hrel
    have HST := Lib.hid hst
    clear hst
    by_cases hlt : k < 64
    · by_cases hm : (k : Int) < m
      · have hkM : k < M := by have := HM.out; omega
        have HE2 := Lib.hid (show wr.cell? ⟨w.heap.size, 64, none⟩ = some (.int .i64 (p.1 : Int)) by rw [cell_of_row _ _ _ _ _ _ HST.out.2.2, HC.out]; simp [icell, cells_len _ HS.out])
        have HE7 := Lib.hid (show wr.cell? ⟨w.heap.size, k, none⟩ = some (.int .u8 ((p.2.getD k 0).toNat : Int)) by rw [cell_of_row _ _ _ _ _ _ HST.out.2.2, HC.out]; rw [List.getElem?_toArray]; unfold icell; rw [List.getElem?_append_left (by rw [cells_len _ HS.out]; exact hlt), bcells_get (by rw [HS.out]; exact hlt)])
        have HIX := Lib.hid (fun (W : World) => show (Instr.indexAt 33 (.slice (some ⟨gb, 0, none⟩) b.length cp) (.int .i64 (p.1 : Int))).run Tryz.prog W = .ok (.pointer (some ⟨gb, p.1 * 64, none⟩)) W by have := run_idx elS (b := gb) (off := 0) (cap := cp) (k := .i64) rfl HP.out W; rwa [Nat.zero_add] at this)
        have hlen : (scells (b.set p.1 (cutS p.2 old (min k M)))).length = b.length * 64 := HST.out.1.1
        obtain ⟨ov, hov⟩ : ∃ ov, (scells (b.set p.1 (cutS p.2 old (min k M))))[p.1 * 64 + k]? = some ov := ⟨_, List.getElem?_eq_getElem (by rw [hlen]; have := HP.out; omega)⟩
        have HOLDC := Lib.hid (show wr.drew.cell? ⟨gb, p.1 * 64 + k, none⟩ = some ov from (World.ownsRow.cellAt HST.out.1 _ (by have := HP.out; omega)).trans hov)
        have HFRZ := Lib.hid (show wr.drew.frozen? ⟨gb, p.1 * 64 + k, none⟩ = false from World.ownsRow.frozenAt HST.out.1 _)
        have HNEB := Lib.hid (show w.heap.size ≠ (⟨gb, p.1 * 64 + k, none⟩ : Addr).block from fun e => by have := HGB.out; have e2 : w.heap.size = gb := e; omega)
        have hso := World.ownsRow.stored (w := wr.drew) HST.out.1 (p.1 * 64 + k) (.int .u8 ((p.2.getD k 0).toNat : Int))
        rw [show min k M = k by omega, land_step HBB.out HP.out HS.out HO64.out hlt] at hso
        have HNX := Lib.hid (show (wr.drew.setCell ⟨gb, p.1 * 64 + k, none⟩ (.int .u8 ((p.2.getD k 0).toNat : Int))).ownsRow (w.heap.size + 1) 88 64 (.slice (some ⟨gb, 0, none⟩) b.length cp) b.length (scells (b.set p.1 (cutS p.2 old (min (k + 1) M)))) ∧ RowKit.Below w.heap.size w (wr.drew.setCell ⟨gb, p.1 * 64 + k, none⟩ (.int .u8 ((p.2.getD k 0).toNat : Int))) ∧ (wr.drew.setCell ⟨gb, p.1 * 64 + k, none⟩ (.int .u8 ((p.2.getD k 0).toNat : Int))).heap[w.heap.size]? = some (.cells c.toArray 90) from
          ⟨by rw [show min (k + 1) M = k + 1 by omega]; exact hso.1, (HST.out.2.1.drew).setCell (by have := HGB.out; show w.heap.size ≤ gb; omega) _, (heap_setCell_other _ _ _ _ HNEB.out).trans HST.out.2.2⟩)
        clear hso hov hlen hkM
        go_wp2_with fail
        refine wp_region_held_drew (S := fun W => Agree [w.heap.size] wr W) (by kernel_rfl) ?_ (fun hHeld => ?_)
        · exact fun _ _ => rfl
        refine held_take 0 (v := ?_) rfl (by kernel_rfl) (by kernel_rfl) (by kernel_rfl) (fun _ _ _ h => h) hHeld (by rfl) ?_ ?_
        rotate_left
        · (intro W hW; go_simp; try with_reducible rfl)
        try simp only [Act.put, List.setIfInBounds_toArray, List.set_cons_zero, List.set_cons_succ]
        refine held_take 1 (v := ?_) rfl (by kernel_rfl) (by kernel_rfl) (by kernel_rfl) (fun _ _ _ h => h) hHeld (by rfl) ?_ ?_
        rotate_left
        · (intro W hW; go_simp; try with_reducible rfl)
        try simp only [Act.put, List.setIfInBounds_toArray, List.set_cons_zero, List.set_cons_succ]
        refine held_take 2 (v := ?_) rfl (by kernel_rfl) (by kernel_rfl) (by kernel_rfl) (fun _ _ _ h => h) hHeld (by rfl) ?_ ?_
        rotate_left
        · (intro W hW; have e := hW.cell (by simp) HE2.out; go_simp; try with_reducible rfl)
        try simp only [Act.put, List.setIfInBounds_toArray, List.set_cons_zero, List.set_cons_succ]
        refine held_take 3 (v := ?_) rfl (by kernel_rfl) (by kernel_rfl) (by kernel_rfl) (fun _ _ _ h => h) hHeld (by rfl) ?_ ?_
        rotate_left
        · (intro W hW; go_simp; try with_reducible rfl)
        try simp only [Act.put, List.setIfInBounds_toArray, List.set_cons_zero, List.set_cons_succ]
        refine held_take 4 (v := ?_) rfl (by kernel_rfl) (by kernel_rfl) (by kernel_rfl) (fun _ _ _ h => h) hHeld (by rfl) ?_ ?_
        rotate_left
        · (intro W hW; go_simp; try with_reducible rfl)
        try simp only [Act.put, List.setIfInBounds_toArray, List.set_cons_zero, List.set_cons_succ]
        refine held_take 5 (v := ?_) rfl (by kernel_rfl) (by kernel_rfl) (by kernel_rfl) (fun _ _ _ h => h) hHeld (by rfl) ?_ ?_
        rotate_left
        · (intro W hW; go_simp; try with_reducible rfl)
        try simp only [Act.put, List.setIfInBounds_toArray, List.set_cons_zero, List.set_cons_succ]
        refine held_take 6 (v := ?_) rfl (by kernel_rfl) (by kernel_rfl) (by kernel_rfl) (fun _ _ _ h => h) hHeld (by rfl) ?_ ?_
        rotate_left
        · (intro W hW; go_simp; try with_reducible rfl)
        try simp only [Act.put, List.setIfInBounds_toArray, List.set_cons_zero, List.set_cons_succ]
        refine held_take 7 (v := ?_) rfl (by kernel_rfl) (by kernel_rfl) (by kernel_rfl) (fun _ _ _ h => h) hHeld (by rfl) ?_ ?_
        rotate_left
        · (intro W hW; have e := hW.cell (by simp) HE7.out; go_simp; try with_reducible rfl)
        try simp only [Act.put, List.setIfInBounds_toArray, List.set_cons_zero, List.set_cons_succ]
        refine held_take 8 (v := ?_) rfl (by kernel_rfl) (by kernel_rfl) (by kernel_rfl) (fun _ _ _ h => h) hHeld (by rfl) ?_ ?_
        rotate_left
        · (intro W hW; have e := HIX.out W; go_simp; try with_reducible rfl)
        try simp only [Act.put, List.setIfInBounds_toArray, List.set_cons_zero, List.set_cons_succ]
        refine held_take 9 (v := ?_) rfl (by kernel_rfl) (by kernel_rfl) (by kernel_rfl) (fun _ _ _ h => h) hHeld (by rfl) ?_ ?_
        rotate_left
        · (intro W hW; go_simp; try with_reducible rfl)
        try simp only [Act.put, List.setIfInBounds_toArray, List.set_cons_zero, List.set_cons_succ]
        refine held_next 10 rfl (by kernel_rfl) (by rfl) (fun K hK => ?_)
        refine wp_store1 _ _ _ rfl ⟨gb, p.1 * 64 + k, none⟩ _ _ _ rfl rfl (by kernel_rfl) HOLDC.out HFRZ.out ?_
        refine hK.out _ _ (fun i hi => by rw [List.mem_singleton.1 hi]; exact heap_setCell_other _ _ _ _ HNEB.out) (fun hHeld => ?_)
        clear hK K
        refine wpAnyH_done (by kernel_rfl) ?_ _
        go_simp
        go_wp2_with fail
        go_roundw
        case rel => exact ⟨k + 1, by go_num, by omega, HNX.out⟩
        case measure => simp; omega
      · have HNX := Lib.hid (show wr.ownsRow (w.heap.size + 1) 88 64 (.slice (some ⟨gb, 0, none⟩) b.length cp) b.length (scells (b.set p.1 (cutS p.2 old (min (k + 1) M)))) ∧ RowKit.Below w.heap.size w wr ∧ wr.heap[w.heap.size]? = some (.cells c.toArray 90) from ⟨by rw [show min (k + 1) M = min k M by have := HM.out; omega]; exact HST.out.1, HST.out.2⟩)
        go_wp2_with fail
        go_roundw
        case rel => exact ⟨k + 1, by go_num, by omega, HNX.out⟩
        case measure => simp; omega
    · obtain rfl : k = 64 := by omega
      go_wp2
      go_ret
      refine ⟨some ⟨gb, 0, none⟩, cp, rfl, ?_, (fun e => by cases e), fun i hi => ?_, HST.out.2.1⟩
      · have h := HST.out.1
        rw [show min 64 M = M by have := HM.out; omega, HMM.out, HOL.out] at h
        exact Or.inr ⟨gb, 0, rfl, (h.lt gb rfl).2, ow_range h⟩
      · obtain ⟨q, e, rfl⟩ := hi
        cases e
        exact ⟨by have := HGB.out; show w.heap.size ≤ gb; omega, (HST.out.1.lt gb rfl).2⟩
end Go.Proofs.YtdfbpaajkpnaeaaGreat

namespace Go.Proofs.YtdfbpaajkpnaeaaGreat
set_option maxRecDepth 100000
open Go.RowKit Go.Lib

/-- where the document's disk lies; F: blocks that are not its own -/
structure RM (w : World) (F : Nat → Prop) (r : Dk) (a0 a1 : Option Addr) : Prop where
  ok : r.Ok
  bs : Lie w a0 (scells r.base)
  b0 : a0 = none → r.base.length = 0
  qs : Lie w a1 (icells r.queue)
  q0 : a1 = none → r.queue.length = 0
  o0 : ∀ b, inBlk a0 b → ¬ F b
  o1 : ∀ b, inBlk a1 b → ¬ F b
  l0 : ∀ b, inBlk a0 b → b < w.heap.size
  l1 : ∀ b, inBlk a1 b → b < w.heap.size
theorem RM.below {w w' : World} {F : Nat → Prop} {r : Dk} {a0 a1 : Option Addr} (h : RM w F r a0 a1) (hb : RowKit.Below w.heap.size w w') : RM w' F r a0 a1 :=
  ⟨h.ok, h.bs.below hb, h.b0, h.qs.below hb, h.q0, h.o0, h.o1, fun b hi => Nat.lt_of_lt_of_le (h.l0 b hi) hb.size, fun b hi => Nat.lt_of_lt_of_le (h.l1 b hi) hb.size⟩
/-- the other disk has done something -/
theorem RM.other {w w' : World} {F F' : Nat → Prop} {r : Dk} {a0 a1 : Option Addr} (h : RM w F r a0 a1) (ho : Only F w w') (hF : ∀ i, F' i → F i ∨ w.heap.size ≤ i) : RM w' F' r a0 a1 :=
  ⟨h.ok, h.bs.same ho.size fun b hi => ho.block b (h.l0 b hi) (h.o0 b hi), h.b0, h.qs.same ho.size fun b hi => ho.block b (h.l1 b hi) (h.o1 b hi), h.q0,
   fun b hi hf => (hF b hf).elim (h.o0 b hi) fun e => by have := h.l0 b hi; omega, fun b hi hf => (hF b hf).elim (h.o1 b hi) fun e => by have := h.l1 b hi; omega,
   fun b hi => Nat.lt_of_lt_of_le (h.l0 b hi) ho.size, fun b hi => Nat.lt_of_lt_of_le (h.l1 b hi) ho.size⟩
theorem RM.head {w : World} {F : Nat → Prop} {r : Dk} {a0 a1 : Option Addr} (h : RM w F r a0 a1) {fu : Int} {dd : Bool} (hf : I fu) : RM w F { r with fuse := fu, dead := dd } a0 a1 := ⟨h.ok.fuse hf, h.bs, h.b0, h.qs, h.q0, h.o0, h.o1, h.l0, h.l1⟩
theorem rblank_any (n : Int) (F : Nat → Prop) (w : World) (hF : ∀ i, F i → i < w.heap.size) : Calls Tryz.prog 9 #[.int .i64 n] w fun e w' => ∃ a0 c0 a1 c1, e = .returned (.agg (rcs (Dk.blank n) a0 c0 a1 c1).toArray) ∧ RM w' F (Dk.blank n) a0 a1 ∧ RowKit.Below w.heap.size w w' := by
  obtain ⟨N, hN⟩ : ∃ N, N = blankN n := ⟨_, rfl⟩
  obtain ⟨w0, hw0⟩ : ∃ w0, w0 = w.alloc (.cells #[.slice none 0 0, .slice none 0 0, .int .i64 0, .bool false] 36) := ⟨_, rfl⟩
  have hal : RowKit.Below w.heap.size w w0 := by rw [hw0]; exact (RowKit.Below.refl _ _).alloc (Nat.le_refl _) _
  have hs0 : w0.heap.size = w.heap.size + 1 := by rw [hw0]; simp
  have hz : w0.heap[w.heap.size]? = some (.cells [.slice none 0 0, .slice none 0 0, .int .i64 0, .bool false].toArray 36) := by rw [hw0]; exact heap_alloc_new w _
  obtain ⟨w1, hrun, ho, hg, hs⟩ := run_make N (by rw [hN]; unfold blankN; omega) w0
  have hL : (Dk.blank n).base.length = N := by rw [hN]; exact List.length_replicate
  have hB : RowKit.Below w.heap.size w w1 := hal.grown hg (by omega) (fun k h => by cases h)
  have HZ := Lib.hid (show w1.heap[w.heap.size]? = some (.cells [.slice none 0 0, .slice none 0 0, .int .i64 0, .bool false].toArray 36) from (hg.block _ (lt_of_heap hz) (fun e => by cases e)).trans hz)
  have HFIN := Lib.hid (show RM (w1.setRow w.heap.size (rcs (Dk.blank n) (some ⟨w0.heap.size, 0, none⟩) N none 0).toArray) F (Dk.blank n) (some ⟨w0.heap.size, 0, none⟩) none ∧ RowKit.Below w.heap.size w (w1.setRow w.heap.size (rcs (Dk.blank n) (some ⟨w0.heap.size, 0, none⟩) N none 0).toArray) from by
    refine ⟨⟨Dk.Ok.blank n, ?_, (fun e => by cases e), Or.inl rfl, fun _ => rfl, ?_, ?_, ?_, ?_⟩, below_setRow hB (Nat.le_refl _)⟩
    · have hr := ow_range ho
      refine Or.inr ⟨w0.heap.size, 0, rfl, by rw [size_setRow]; omega, ?_⟩
      rw [show (Dk.blank n).base = List.replicate N zsec by rw [hN]; rfl]
      exact range_of hr (setRow_other _ _ _ _ (by omega))
    · rintro b ⟨q, e, rfl⟩ hf
      cases e
      have := hF _ hf
      have e2 : (⟨w0.heap.size, 0, none⟩ : Addr).block = w0.heap.size := rfl
      omega
    · rintro b ⟨q, e, rfl⟩; cases e
    · rintro b ⟨q, e, rfl⟩
      cases e
      rw [size_setRow]
      show w0.heap.size < _
      omega
    · rintro b ⟨q, e, rfl⟩; cases e)
  have hv : (rcs (Dk.blank n) (some ⟨w0.heap.size, 0, none⟩) N none 0) = [.slice (some ⟨w0.heap.size, 0, none⟩) N N, .slice none 0 0, .int .i64 (-1), .bool false] := by unfold rcs; rw [hL]; rfl
  have HV := Lib.hid hv
  have HS0 := Lib.hid hs0
  have HCS := Lib.hid (rcs_cs (Dk.blank n) (some ⟨w0.heap.size, 0, none⟩) N none 0)
  rw [hv] at HCS HFIN
  have hc : (n < 0 ∧ N = 0) ∨ (n = 0 ∧ N = 0) ∨ (0 < n ∧ n < 2048 ∧ (N : Int) = n) ∨ (n = 2048 ∧ N = 2048) ∨ (2048 < n ∧ N = 2048) := by rw [hN]; unfold blankN; omega
  clear hN hL hB hz ho hg hs hv hal
  have HW0 := Lib.hid hw0
  clear hw0
  rcases hc with ⟨h1, h2⟩ | ⟨h1, h2⟩ | ⟨h1, h3, h2⟩ | ⟨h1, h2⟩ | ⟨h1, h2⟩
  case inr.inr.inl =>
    rw [h2] at hrun
    clear h2 hs0
    go_enter Tryz.func9, Tryz.ntmps9
    go_wp2_with (first | ((with_reducible refine wpList_allocA rfl isD rfl ?_); rw [← HW0.out]) | (with_reducible refine wpList_storeW rfl isD _ _ rfl w.heap.size [.slice (some ⟨w0.heap.size, 0, none⟩) N N, .slice none 0 0, .int .i64 (-1), .bool false] _ _ rfl rfl HZ.out HCS.out rfl ?_))
    refine ret_cell isD rfl rfl (setRow_heap _ _ _ _ _ _ HZ.out) HCS.out rfl ?_
    exact ⟨_, _, _, _, by rw [HV.out], HFIN.out.1, HFIN.out.2⟩
  all_goals
    subst h2
    try subst h1
    simp only [Int.cast_ofNat_Int] at hrun
    clear hs0
    go_enter Tryz.func9, Tryz.ntmps9
    go_wp2_with (first | ((with_reducible refine wpList_allocA rfl isD rfl ?_); rw [← HW0.out]) | (with_reducible refine wpList_storeW rfl isD _ _ rfl w.heap.size [.slice (some ⟨w0.heap.size, 0, none⟩) _ _, .slice none 0 0, .int .i64 (-1), .bool false] _ _ rfl rfl HZ.out HCS.out rfl ?_))
    refine ret_cell isD rfl rfl (setRow_heap _ _ _ _ _ _ HZ.out) HCS.out rfl ?_
    exact ⟨_, _, _, _, by rw [HV.out], HFIN.out.1, HFIN.out.2⟩
end Go.Proofs.YtdfbpaajkpnaeaaGreat

namespace Go.Proofs.YtdfbpaajkpnaeaaGreat
set_option maxRecDepth 100000
open Go.RowKit Go.Lib

theorem exec_buildI {o : Oper} {a : Act} {w : World} (x y : Operand) (ho : o.op = .build 90 #[(0, x), (1, y)]) (c : List Value) (n : Int) (hx : a.eval x = .agg c.toArray) (hy : a.eval y = .int .i64 n) (hc : c.length = 64) : (execOp a.eval o).run Tryz.prog w = .ok (.value (.agg (c ++ [Value.int .i64 n]).toArray)) w := by
  unfold execOp
  simp only [ho, Sem.run_bind, List.map_toArray, List.map_cons, List.map_nil, hx, hy, run_build w _ _ _ (builtI c n hc), Result.andThen_ok]
  rfl
section
variable {t e : TypeId} {size bytes : Nat}
theorem run_lit (E : El t e size bytes) (w : World) : (Instr.buildSlice t 0 #[]).run Tryz.prog w = .ok (.slice (some ⟨w.heap.size, 0, none⟩) 0 0) (w.alloc (.cells #[] e)) := by
  obtain ⟨i, z, hi, hz, hs1, hs8, hzs⟩ := E.inf
  simp [Instr.buildSlice, run_underlying E.und, Go.sizeOf, typeInfo, hi, Instr.fill, newRow]
  rw [show Array.range 0 = #[] from by decide]
  simp
theorem wp_lit (E : El t e size bytes) {o : Oper} {a : Act} {w : World} {K : Act → World → Prop} {Q : Exit → Act → World → Prop} (ho : o.op = .buildSlice t 0 #[]) (h : K (a.put o.dst (.slice (some ⟨w.heap.size, 0, none⟩) 0 0)) (w.alloc (.cells #[] e))) : o.wp Tryz.prog a w K Q := by
  unfold Oper.wp execOp
  simp only [ho, Sem.run_bind, List.map_toArray, List.map_nil, run_lit E w, Result.andThen_ok]
  exact h
end
/-- the new queue -/
theorem rq_end {W w1 w2 w3 w4 : World} {q : List (Nat × Sec)} {p : Nat × Sec} {c : List Value} {n0 : Nat} {v7 v8 : Value} (hc : c = icell p) (hb : RowKit.Below W.heap.size W w1) (hn0 : W.heap.size ≤ n0) (hl : Appd w1 W.heap.size 90 65 (.slice (some ⟨n0, 0, none⟩) 0 0) (0 + q.length) ([] ++ icells q) v7 w2)
    (hb2 : RowKit.Below W.heap.size W w2 → RowKit.Below w2.heap.size w2 w3) (hl2 : Appd w3 W.heap.size 90 65 v7 (0 + q.length + 1) ([] ++ icells q ++ c) v8 w4) :
    ∃ a c1, v8 = .slice a (q.length + 1) c1 ∧ Lie w4 a (icells (q ++ [p])) ∧ a ≠ none ∧ (∀ i, inBlk a i → W.heap.size ≤ i ∧ i < w4.heap.size) ∧ RowKit.Below W.heap.size W w4 := by
  have h2 : RowKit.Below W.heap.size W w2 := below_appd hl hb hb.size fun i hi => by cases hi; exact hn0
  have h3 := h2.trans ((hb2 h2).mono h2.size)
  have h4 : RowKit.Below W.heap.size W w4 := below_appd hl2 h3 h3.size fun i hi => (hl.1.lt i hi).1
  obtain ⟨ho, _, _⟩ := hl2
  rw [List.nil_append, Nat.zero_add] at ho
  obtain ⟨a, cp, hv, hli, _, hnn⟩ := ow_lie ho
  obtain ⟨g, cur, ha, hg⟩ := ow_head (by rw [hv] at ho; exact ho) (Nat.succ_pos _)
  refine ⟨a, cp, hv, by rw [icells_app, icells_sing, ← hc]; exact hli, (fun e => by rw [ha] at e; cases e), ?_, h4⟩
  rintro i ⟨z, e, rfl⟩
  exact ho.lt _ (by rw [hv, e]; rfl)
def RPutRes (F : Nat → Prop) (r : Dk) (x : Int) (s : Sec) (w : World) (e : Ending) (w' : World) : Prop := ∃ a0 c0 a1 c1, e = .returned (.tuple #[.agg (rcs (r.put x s) a0 c0 a1 c1).toArray, .int .i64 (r.putE x)]) ∧ RM w' F (r.put x s) a0 a1 ∧ RowKit.Below w.heap.size w w'
theorem wp_store1v {o : Oper} {a : Act} {w : World} {K : Act → World → Prop} {Q : Exit → Act → World → Prop} (T : TypeId) (x y : Operand) (ho : o.op = .store T x y) (p : Addr) {v : Value} (old : Value) (hx : a.eval x = .pointer (some p)) (hy : a.eval y = v) (hv : ∃ b n c, v = .slice b n c) (hi : (Tryz.prog.info? T).map (·.size) = some 1) (hc : w.cell? p = some old) (hf : w.frozen? p = false)
    (h : K (a.put o.dst undef) (w.setCell p v)) : o.wp Tryz.prog a w K Q := by
  obtain ⟨b, n, c, rfl⟩ := hv
  cases hq : Tryz.prog.info? T with
  | none => rw [hq] at hi; cases hi
  | some i =>
    have hs : i.size = 1 := by rw [hq] at hi; simpa using hi
    unfold Oper.wp execOp
    simp only [ho, hx, hy, Instr.storeAt, Instr.sureAddr, Sem.run_bind, Sem.run_pure, Result.andThen_ok, storeVar, Go.sizeOf, typeInfo]
    simp [hq, hs, Value.cells, storeCells, hc, hf, Addr.add, go_sem]
    exact h
set_option maxRecDepth 100000 in
set_option maxHeartbeats 3200000 in
theorem rput_any (r : Dk) (a0 : Option Addr) (c0 : Nat) (a1 : Option Addr) (c1 : Nat) (F : Nat → Prop) (x : Int) (s : Sec) (w : World) (hF : ∀ i, F i → i < w.heap.size) (h : RM w F r a0 a1) (hx : I x) (hs : s.length = 64) (hq : r.queue.length < 10000) :
    Calls Tryz.prog 82 #[.agg (rcs r a0 c0 a1 c1).toArray, .int .i64 x, .agg (bcells s).toArray] w (RPutRes F r x s w) := by
  obtain ⟨c, hc⟩ : ∃ c, c = bcells s := ⟨_, rfl⟩
  obtain ⟨R, hR⟩ : ∃ R, R = rcs r a0 c0 a1 c1 := ⟨_, rfl⟩
  have HR := Lib.hid hR
  have HRC := Lib.hid (show Cs 4 R by rw [hR]; exact rcs_cs _ _ _ _ _)
  have HCE := Lib.hid hc
  have HCs := Lib.hid (show Cs 64 c by rw [hc]; exact cs_sec hs)
  have HM := Lib.hid h
  have HF := Lib.hid hF
  have HX := Lib.hid hx
  have HQ := Lib.hid hq
  have HSL := Lib.hid hs
  obtain ⟨w3, hw3⟩ : ∃ w3, w3 = ((w.alloc (.cells R.toArray 36)).alloc (.cells c.toArray 88)).alloc (.cells [.slice none 0 0, .slice none 0 0, .int .i64 0, .bool false].toArray 36) := ⟨_, rfl⟩
  have HB3 := Lib.hid (show RowKit.Below w.heap.size w w3 by rw [hw3]; exact (((RowKit.Below.refl _ _).alloc (Nat.le_refl _) _).alloc (by simp) _).alloc (by simp; omega) _)
  have p3 : w3.heap[w.heap.size]? = some (.cells R.toArray 36) := by rw [hw3]; exact blk_in (blk_in (blkn rfl))
  have p5 : w3.heap[w.heap.size + 1]? = some (.cells c.toArray 88) := by rw [hw3]; exact blk_in (blkn (by simp))
  have p6 : w3.heap[w.heap.size + 2]? = some (.cells [.slice none 0 0, .slice none 0 0, .int .i64 0, .bool false].toArray 36) := by rw [hw3]; exact blkn (by simp)
  have q0 : w3.cell? ⟨w.heap.size, 0, none⟩ = some (.slice a0 r.base.length c0) := by rw [cell_of_row _ _ _ _ _ _ p3, hR]; rfl
  have HP3 := Lib.hid p3
  have HP5 := Lib.hid p5
  have HP6 := Lib.hid p6
  have HW3 := Lib.hid hw3
  have HSP := Lib.hid (fun W => spend_any r a0 c0 a1 c1 W h.ok.fz)
  rw [← hR] at HSP
  have hfail : r.has x = false → ∀ W, RowKit.Below w.heap.size w W → RPutRes F r x s w (.returned (.tuple #[.agg R.toArray, .int .i64 81])) W := fun hh W hb => by
    refine ⟨a0, c0, a1, c1, ?_, ?_, hb⟩
    · unfold Dk.putE Dk.put; rw [hh, hR]; rfl
    · unfold Dk.put; rw [hh]; exact h.below hb
  have hdead : r.has x = true → r.live = false → ∀ W fu dd, r.spend = { r with fuse := fu, dead := dd } → RowKit.Below w.heap.size w W → RPutRes F r x s w (.returned (.tuple #[.agg (rcs { r with fuse := fu, dead := dd } a0 c0 a1 c1).toArray, .int .i64 82])) W := fun hh hl W fu dd hsp hb => by
    have hfz := h.ok.spend.fz
    rw [hsp] at hfz
    refine ⟨a0, c0, a1, c1, ?_, ?_, hb⟩
    · unfold Dk.putE Dk.put; rw [hh, hl, hsp]; rfl
    · unfold Dk.put; rw [hh, hl, hsp]; exact (h.below hb).head hfz
  have HDEAD := Lib.hid hdead
  rw [← hc, ← hR]
  have hcs : (x < 0 ∨ (r.base.length : Int) ≤ x) ∨ (0 ≤ x ∧ x < (r.base.length : Int)) := by omega
  rcases hcs with hbad | ⟨hx0, hxN⟩
  · have HFA := Lib.hid (hfail (by unfold Dk.has; simp; omega))
    clear hfail hdead hR hc hw3 p3 p5 p6 h hF hx hs hq HDEAD
    rcases hbad with hbad | hbad
    all_goals
      first | (have d0 : decide (x < 0) = true := (by simpa using hbad); clear hbad) | (have d0 : decide (x < 0) = false := (by simp; omega); have d1 : decide ((r.base.length : Int) ≤ x) = true := (by simpa using hbad); clear hbad)
      go_enter Tryz.func82, Tryz.ntmps82
      go_wp2_with (first | (with_reducible refine wpList_boxA rfl _ _ rfl _ rfl ?_) | ((with_reducible refine wpList_allocA rfl isD rfl ?_); rw [← HW3.out]) | (with_reducible refine wpList_loadW rfl isD _ rfl w.heap.size R _ rfl HP3.out HRC.out ?_) | (with_reducible refine wpList_storeW rfl isD _ _ rfl (w.heap.size + 2) R _ _ rfl rfl HP6.out HRC.out rfl ?_))
      refine ret_cell_slot isD rfl rfl rfl (setRow_heap _ _ _ _ _ _ HP6.out) HRC.out rfl ?_
      exact HFA.out _ (below_setRow HB3.out (by omega))
  · have HHAS := Lib.hid (show r.has x = true by unfold Dk.has; simp; omega)
    have HX0 := Lib.hid hx0
    have d0 : decide (x < 0) = false := by simp; omega
    have d1 : decide ((r.base.length : Int) ≤ x) = false := by simp; omega
    clear hfail hdead hR hc hw3 p3 p5 p6 h hF hx hs hq hx0 hxN
    go_enter Tryz.func82, Tryz.ntmps82
    go_wp2_with (first | (with_reducible refine wpList_boxA rfl _ _ rfl _ rfl ?_) | ((with_reducible refine wpList_allocA rfl isD rfl ?_); rw [← HW3.out]) | (with_reducible refine wpList_loadW rfl isD _ rfl w.heap.size R _ rfl HP3.out HRC.out ?_))
    refine (HSP.out w3).mono ?_
    rintro _ w1 ⟨fu, dd, hsp, rfl, hb1⟩
    obtain ⟨R1, hR1⟩ : ∃ R1, R1 = rcs { r with fuse := fu, dead := dd } a0 c0 a1 c1 := ⟨_, rfl⟩
    have HR1 := Lib.hid hR1
    have HRC1 := Lib.hid (show Cs 4 R1 by rw [hR1]; exact rcs_cs _ _ _ _ _)
    rw [← hR1]
    have HS1 := Lib.hid hsp
    have HB1 := Lib.hid (HB3.out.trans (hb1.mono HB3.out.size))
    obtain ⟨w8, hw8⟩ : ∃ w8, w8 = w1.alloc (.cells R1.toArray 36) := ⟨_, rfl⟩
    have HW8 := Lib.hid (show (w1.alloc (.cells [.slice none 0 0, .slice none 0 0, .int .i64 0, .bool false].toArray 36)).setRow w1.heap.size R1.toArray = w8 by rw [hw8]; exact setRow_new rfl)
    have P3 := Lib.hid (show w8.heap[w.heap.size]? = some (.cells R.toArray 36) by rw [hw8]; exact blk_in ((hb1.block _ (lt_of_heap HP3.out)).trans HP3.out))
    have P5 := Lib.hid (show w8.heap[w.heap.size + 1]? = some (.cells c.toArray 88) by rw [hw8]; exact blk_in ((hb1.block _ (lt_of_heap HP5.out)).trans HP5.out))
    have P6 := Lib.hid (show w8.heap[w.heap.size + 2]? = some (.cells [.slice none 0 0, .slice none 0 0, .int .i64 0, .bool false].toArray 36) by rw [hw8]; exact blk_in ((hb1.block _ (lt_of_heap HP6.out)).trans HP6.out))
    have P8 := Lib.hid (show w8.heap[w1.heap.size]? = some (.cells R1.toArray 36) by rw [hw8]; exact blkn rfl)
    have HB8 := Lib.hid (show RowKit.Below w.heap.size w w8 by rw [hw8]; exact HB1.out.alloc HB1.out.size _)
    have HN1 := Lib.hid (show w.heap.size + 2 < w1.heap.size from Nat.lt_of_lt_of_le (lt_of_heap HP6.out) hb1.size)
    have HN8 := Lib.hid (show w8.heap.size = w1.heap.size + 1 by rw [hw8]; simp)
    have HAL := Lib.hid (heap_alloc_new w1 (.cells [.slice none 0 0, .slice none 0 0, .int .i64 0, .bool false].toArray 36))
    clear hb1 hR1 hsp hw8 q0 d0 d1
    cases hl : r.live with
    | false =>
      have HLV := Lib.hid hl
      clear hl
      go_wp2_with (first | (with_reducible refine wpList_allocA rfl isD rfl ?_) | ((with_reducible refine wpList_storeW rfl isD _ _ rfl w1.heap.size R1 _ _ rfl rfl HAL.out HRC1.out rfl ?_); rw [HW8.out]) | (with_reducible refine wpList_loadW rfl isD _ rfl w1.heap.size R1 _ rfl P8.out HRC1.out ?_) | (with_reducible refine wpList_storeW rfl isD _ _ rfl (w.heap.size + 2) R1 _ _ rfl rfl P6.out HRC1.out rfl ?_))
      refine ret_cell_slot isD rfl rfl rfl (setRow_heap _ _ _ _ _ _ P6.out) HRC1.out rfl ?_
      rw [HR1.out]
      exact HDEAD.out HHAS.out HLV.out _ fu dd HS1.out (below_setRow HB8.out (by omega))
    | true =>
      have HLV := Lib.hid hl
      clear hl HDEAD
      go_wp2_with (first | (with_reducible refine wpList_allocA rfl isD rfl ?_) | ((with_reducible refine wpList_storeW rfl isD _ _ rfl w1.heap.size R1 _ _ rfl rfl HAL.out HRC1.out rfl ?_); rw [HW8.out]))
      have HQ1 := Lib.hid (show w8.cell? ⟨w.heap.size, 1, none⟩ = some (.slice a1 r.queue.length c1) by rw [cell_of_row _ _ _ _ _ _ P3.out, HR.out]; rfl)
      have HRG := Lib.hid (show w8.rangeAt (w.heap.size + 1) 0 c from range_row P5.out)
      have HXN := Lib.hid (show ((x.toNat : Nat) : Int) = x by have := HX0.out; omega)
      have HIC := Lib.hid (show c ++ [Value.int .i64 x] = icell (x.toNat, s) by unfold icell; rw [HCE.out]; show _ = _ ++ [Value.int .i64 ((x.toNat : Nat) : Int)]; rw [HXN.out])
      obtain ⟨ci, hci⟩ : ∃ ci, ci = c ++ [Value.int .i64 x] := ⟨_, rfl⟩
      have HCI := Lib.hid hci
      have HCIC := Lib.hid (show Cs 65 ci by rw [hci, HIC.out]; exact cs_item HSL.out)
      have HLQ := Lib.hid (fun (W : World) (e : RowKit.Below w.heap.size w W) => HM.out.qs.below e)
      have HIL := Lib.hid (icells_len HM.out.ok.ql)
      have HQ0 := Lib.hid HM.out.q0
      have HEND := Lib.hid (show ∀ (W4 : World) (v8 : Value), (∃ a c1', v8 = .slice a (r.queue.length + 1) c1' ∧ Lie W4 a (icells (r.queue ++ [(x.toNat, s)])) ∧ a ≠ none ∧ (∀ i, inBlk a i → w8.heap.size ≤ i ∧ i < W4.heap.size) ∧ RowKit.Below w8.heap.size w8 W4) →
        (∃ R9, Cs 4 R9 ∧ (W4.setCell ⟨w1.heap.size, 1, none⟩ v8).heap[w1.heap.size]? = some (.cells R9.toArray 36) ∧ (W4.setCell ⟨w1.heap.size, 1, none⟩ v8).heap[w.heap.size + 2]? = some (.cells [.slice none 0 0, .slice none 0 0, .int .i64 0, .bool false].toArray 36) ∧ RPutRes F r x s w (.returned (.tuple #[.agg R9.toArray, .int .i64 0])) ((W4.setCell ⟨w1.heap.size, 1, none⟩ v8).setRow (w.heap.size + 2) R9.toArray)) from by
        rintro W4 v8 ⟨a, c1', rfl, hli, hne, hbl, hb⟩
        have h8 : W4.heap[w1.heap.size]? = some (.cells R1.toArray 36) := (hb.block _ (lt_of_heap P8.out)).trans P8.out
        have h6 : W4.heap[w.heap.size + 2]? = some _ := (hb.block _ (lt_of_heap P6.out)).trans P6.out
        have hs8 := heap_setCell_same W4 w1.heap.size 1 _ _ (.slice a (r.queue.length + 1) c1') h8
        have hput : r.put x s = { { r with fuse := fu, dead := dd } with queue := r.queue ++ [(x.toNat, s)] } := by unfold Dk.put; rw [HHAS.out, HLV.out, HS1.out]; rfl
        have hlq : (r.queue ++ [(x.toNat, s)]).length = r.queue.length + 1 := by simp
        have hR9 : (rcs (r.put x s) a0 c0 a c1').toArray = R1.toArray.setIfInBounds 1 (.slice a (r.queue.length + 1) c1') := by
          rw [hput, HR1.out]
          unfold rcs
          simp only [hlq]
          rfl
        rw [← hR9] at hs8
        have hall : RowKit.Below w.heap.size w (W4.setCell ⟨w1.heap.size, 1, none⟩ (.slice a (r.queue.length + 1) c1')) := (HB8.out.trans (hb.mono HB8.out.size)).setCell (by have := HN1.out; show w.heap.size ≤ w1.heap.size; omega) _
        have hok := HM.out.ok.put (x := x) (s := s) HSL.out HQ.out
        refine ⟨_, rcs_cs _ _ _ _ _, hs8, (heap_setCell_other _ _ _ _ (by have := HN1.out; show w.heap.size + 2 ≠ w1.heap.size; omega)).trans h6, a0, c0, a, c1', ?_, ?_, below_setRow hall (by omega)⟩
        · unfold Dk.putE; rw [HHAS.out, HLV.out]; rfl
        · have hall2 := below_setRow (g := w.heap.size + 2) (cs := (rcs (r.put x s) a0 c0 a c1').toArray) hall (by omega)
          have hm := HM.out.below hall2
          have hbse : (r.put x s).base = r.base := by rw [hput]
          refine ⟨hok, by rw [hbse]; exact hm.bs, by rw [hbse]; exact hm.b0, ?_, fun e => absurd e hne, hm.o0, fun b hi hf => ?_, hm.l0, fun b hi => ?_⟩
          · rw [show (r.put x s).queue = r.queue ++ [(x.toNat, s)] by rw [hput]]
            refine hli.same (by simp) fun b hi => ?_
            have h1 := (hbl b hi).1
            have := HN1.out; have := HN8.out
            exact (setRow_other _ _ _ _ (by omega)).trans (heap_setCell_other _ _ _ _ (by show b ≠ w1.heap.size; omega))
          · have h1 := (hbl b hi).1
            have h2 := HF.out b hf
            have := HB8.out.size
            omega
          · have h1 := (hbl b hi).2
            simpa using h1)
      clear hci
      go_wp2_with fail
      refine wp_region_held_drew (S := fun W => Agree [w.heap.size, w.heap.size + 1] w8 W) (by kernel_rfl) ?_ (fun hHeld => ?_)
      · exact fun _ _ => rfl
      refine held_take 1 (v := ?_) rfl (by kernel_rfl) (by kernel_rfl) (by kernel_rfl) (fun _ _ _ h => h) hHeld (by rfl) ?_ ?_
      rotate_left
      · (intro W hW; go_simp; try with_reducible rfl)
      try simp only [Act.put, List.setIfInBounds_toArray, List.set_cons_zero, List.set_cons_succ]
      refine held_take 2 (v := ?_) rfl (by kernel_rfl) (by kernel_rfl) (by kernel_rfl) (fun _ _ _ h => h) hHeld (by rfl) ?_ ?_
      rotate_left
      · (intro W hW; have e := hW.cell (by simp) HQ1.out; go_simp; try with_reducible rfl)
      try simp only [Act.put, List.setIfInBounds_toArray, List.set_cons_zero, List.set_cons_succ]
      refine held_take 4 (v := .agg c.toArray) rfl (by kernel_rfl) (by kernel_rfl) (by kernel_rfl) (fun _ _ _ h => h) hHeld (by rfl) (fun W hW => exec_loadM isS _ rfl _ _ c rfl (hW.range (by simp) HRG.out) HCs.out) ?_
      try simp only [Act.put, List.setIfInBounds_toArray, List.set_cons_zero, List.set_cons_succ]
      refine held_take 5 (v := ?_) rfl (by kernel_rfl) (by kernel_rfl) (by kernel_rfl) (fun _ _ _ h => h) hHeld (by rfl) ?_ ?_
      rotate_left
      · (intro W hW; go_simp; try with_reducible rfl)
      try simp only [Act.put, List.setIfInBounds_toArray, List.set_cons_zero, List.set_cons_succ]
      refine held_take 6 (v := .agg (c ++ [Value.int .i64 x]).toArray) rfl (by kernel_rfl) (by kernel_rfl) (by kernel_rfl) (fun _ _ _ h => h) hHeld (by rfl) (fun W hW => exec_buildI _ _ rfl c x rfl rfl HCs.out.len) ?_
      try simp only [Act.put, List.setIfInBounds_toArray, List.set_cons_zero, List.set_cons_succ]
      rw [← HCI.out]
      have HLT := Lib.hid (show ∀ i ∈ [w.heap.size, w.heap.size + 1], i < w8.heap.size from fun i hi => by have := HN8.out; have := HN1.out; simp at hi; rcases hi with e | e <;> omega)
      have HLT1 := Lib.hid (show ∀ i ∈ [w.heap.size, w.heap.size + 1], i < w1.heap.size from fun i hi => by have := HN1.out; simp at hi; rcases hi with e | e <;> omega)
      refine held_two 0 7 rfl rfl (by kernel_rfl) (by rfl) (by rfl) (fun K hK => ?_) (fun K hK => ?_)
      · have HBl := Lib.hid (show RowKit.Below w8.heap.size w8 ((w8.drew.alloc (.cells #[] 90))) from (RowKit.Below.refl _ _).drew.alloc (Nat.le_refl _) _)
        refine wp_lit elI rfl ?_
        refine hK.out _ _ (fun i hi => HBl.out.block i (HLT.out i hi)) (fun hHeld => ?_)
        clear hK K
        try simp only [Act.put, List.setIfInBounds_toArray, List.set_cons_zero, List.set_cons_succ]
        refine held_two 3 7 rfl rfl (by kernel_rfl) (by rfl) (by rfl) (fun K hK => ?_) (fun K hK => ?_)
        · refine wp_appO elI (t := 34) (w := (w8.drew.alloc (.cells #[] 90))) _ _ rfl w8.heap.size (.slice (some ⟨w8.heap.size, 0, none⟩) 0 0) 0 [] a1 r.queue.length c1 (icells r.queue) rfl rfl (World.ownsRow_lit (base := w8.heap.size) (e := 90) (size := 65) w8.drew #[] 0 (Nat.le_refl _) (by decide) rfl) HIL.out (HLQ.out _ (HB8.out.trans (HBl.out.mono HB8.out.size))) HQ0.out (icells_one _) (by have := HQ.out; omega) (by decide) HBl.out.size (fun v7 w7 h7 => ?_)
          have H7 := Lib.hid h7
          have HB7 := Lib.hid (below_appd h7 HBl.out HBl.out.size fun i hi => by cases hi; first | exact Nat.le_refl _ | exact HBi.out.size)
          clear h7
          refine hK.out _ _ (fun i hi => HB7.out.block i (HLT.out i hi)) (fun hHeld => ?_)
          clear hK K
          try simp only [Act.put, List.setIfInBounds_toArray, List.set_cons_zero, List.set_cons_succ]
          refine held_next 7 rfl (by kernel_rfl) (by rfl) (fun K hK => ?_)
          have HB7a := Lib.hid (show RowKit.Below w8.heap.size w8 (w7.alloc (.cells ci.toArray 90)) from HB7.out.alloc HB7.out.size _)
          refine wp_one elI _ rfl ci rfl HCIC.out.len (by decide) ?_
          refine hK.out _ _ (fun i hi => HB7a.out.block i (HLT.out i hi)) (fun hHeld => ?_)
          clear hK K
          try simp only [Act.put, List.setIfInBounds_toArray, List.set_cons_zero, List.set_cons_succ]
          refine held_next 8 rfl (by kernel_rfl) (by rfl) (fun K hK => ?_)
          refine wp_appO elI (t := 34) (w := (w7.alloc (.cells ci.toArray 90))) _ _ rfl w8.heap.size v7 (0 + r.queue.length) ([] ++ icells r.queue) (some ⟨w7.heap.size, 0, none⟩) 1 1 ci rfl rfl (H7.out.1.alloc _) (by rw [HCIC.out.len]) (lie_new w7 ci _) (fun e => by cases e) HCIC.out.one (by have := HQ.out; omega) (by decide) HB7a.out.size (fun v8 w9 h8 => ?_)
          have HRQ := Lib.hid (rq_end (W := w8) (p := (x.toNat, s)) (HCI.out.trans HIC.out) HBl.out (Nat.le_refl _) H7.out (fun _ => (RowKit.Below.refl _ _).alloc (Nat.le_refl _) _) h8)
          have HB9 := Lib.hid (show RowKit.Below w8.heap.size w8 w9 from by obtain ⟨_, _, _, _, _, _, e⟩ := HRQ.out; exact e)
          have HV8 := Lib.hid (show ∃ a n c, v8 = .slice a n c from by obtain ⟨a, c, e, _⟩ := HRQ.out; exact ⟨a, _, c, e⟩)
          have HC81 := Lib.hid (show w9.cell? ⟨w1.heap.size, 1, none⟩ = some (.slice a1 r.queue.length c1) by rw [cell_of_row _ _ _ _ _ _ ((HB9.out.block _ (lt_of_heap P8.out)).trans P8.out), HR1.out]; rfl)
          have HF81 := Lib.hid (show w9.frozen? ⟨w1.heap.size, 1, none⟩ = false from frozen_of_row _ _ _ _ _ ((HB9.out.block _ (lt_of_heap P8.out)).trans P8.out))
          clear h8
          refine hK.out _ _ (fun i hi => HB9.out.block i (HLT.out i hi)) (fun hHeld => ?_)
          clear hK K
          try simp only [Act.put, List.setIfInBounds_toArray, List.set_cons_zero, List.set_cons_succ]
          obtain ⟨R9, hc9, h89, h69, hres⟩ := HEND.out _ _ HRQ.out
          have HC9 := Lib.hid hc9
          have H89 := Lib.hid h89
          have H69 := Lib.hid h69
          have HRES := Lib.hid hres
          clear hc9 h89 h69 hres
          refine held_take 9 (v := ?_) rfl (by kernel_rfl) (by kernel_rfl) (by kernel_rfl) (fun _ _ _ h => h) hHeld (by rfl) ?_ ?_
          rotate_left
          · (intro W hW; go_simp; try with_reducible rfl)
          try simp only [Act.put, List.setIfInBounds_toArray, List.set_cons_zero, List.set_cons_succ]
          refine held_next 10 rfl (by kernel_rfl) (by rfl) (fun K hK => ?_)
          refine wp_store1v _ _ _ rfl ⟨w1.heap.size, 1, none⟩ (v := v8) _ rfl rfl HV8.out (by kernel_rfl) HC81.out HF81.out ?_
          refine hK.out _ _ (fun i hi => (heap_setCell_other _ _ _ _ (by have := HLT1.out i hi; show i ≠ w1.heap.size; omega)).trans (HB9.out.block i (HLT.out i hi))) (fun hHeld => ?_)
          clear hK K
          refine wpAnyH_done (by kernel_rfl) ?_ _
          go_simp
          go_wp2_with (first | (with_reducible refine wpList_loadW rfl isD _ rfl w1.heap.size R9 _ rfl H89.out HC9.out ?_) | (with_reducible refine wpList_storeW rfl isD _ _ rfl (w.heap.size + 2) R9 _ _ rfl rfl H69.out HC9.out rfl ?_))
          refine ret_cell_slot isD rfl rfl rfl (setRow_heap _ _ _ _ _ _ H69.out) HC9.out rfl ?_
          exact HRES.out
        · have HBl2 := Lib.hid (show RowKit.Below w8.heap.size w8 ((w8.drew.alloc (.cells #[] 90)).alloc (.cells ci.toArray 90)) from HBl.out.alloc HBl.out.size _)
          refine wp_one elI _ rfl ci rfl HCIC.out.len (by decide) ?_
          refine hK.out _ _ (fun i hi => HBl2.out.block i (HLT.out i hi)) (fun hHeld => ?_)
          clear hK K
          try simp only [Act.put, List.setIfInBounds_toArray, List.set_cons_zero, List.set_cons_succ]
          refine held_next 3 rfl (by kernel_rfl) (by rfl) (fun K hK => ?_)
          refine wp_appO elI (t := 34) (w := ((w8.drew.alloc (.cells #[] 90)).alloc (.cells ci.toArray 90))) _ _ rfl w8.heap.size (.slice (some ⟨w8.heap.size, 0, none⟩) 0 0) 0 [] a1 r.queue.length c1 (icells r.queue) rfl rfl ((World.ownsRow_lit (base := w8.heap.size) (e := 90) (size := 65) w8.drew #[] 0 (Nat.le_refl _) (by decide) rfl).alloc _) HIL.out (HLQ.out _ (HB8.out.trans (HBl2.out.mono HB8.out.size))) HQ0.out (icells_one _) (by have := HQ.out; omega) (by decide) HBl2.out.size (fun v7 w7 h7 => ?_)
          have H7 := Lib.hid h7
          have HB7 := Lib.hid (below_appd h7 HBl2.out HBl2.out.size fun i hi => by cases hi; first | exact Nat.le_refl _ | exact HBi.out.size)
          clear h7
          refine hK.out _ _ (fun i hi => HB7.out.block i (HLT.out i hi)) (fun hHeld => ?_)
          clear hK K
          try simp only [Act.put, List.setIfInBounds_toArray, List.set_cons_zero, List.set_cons_succ]
          refine held_next 8 rfl (by kernel_rfl) (by rfl) (fun K hK => ?_)
          refine wp_appO elI (t := 34) (w := w7) _ _ rfl w8.heap.size v7 (0 + r.queue.length) ([] ++ icells r.queue) (some ⟨(w8.drew.alloc (.cells #[] 90)).heap.size, 0, none⟩) 1 1 ci rfl rfl (H7.out.1) (by rw [HCIC.out.len]) (Lie.same (w := (w8.drew.alloc (.cells #[] 90)).alloc (.cells ci.toArray 90)) (a := some ⟨(w8.drew.alloc (.cells #[] 90)).heap.size, 0, none⟩) (lie_new (w8.drew.alloc (.cells #[] 90)) ci _) H7.out.2.1.size (fun b hb => H7.out.2.1.block b (by obtain ⟨z, e, rfl⟩ := hb; cases e; simp) (fun e2 => by obtain ⟨z, e, rfl⟩ := hb; cases e; simp [Value.ownBlock] at e2))) (fun e => by cases e) HCIC.out.one (by have := HQ.out; omega) (by decide) HB7.out.size (fun v8 w9 h8 => ?_)
          have HRQ := Lib.hid (rq_end (W := w8) (p := (x.toNat, s)) (HCI.out.trans HIC.out) HBl2.out (Nat.le_refl _) H7.out (fun _ => RowKit.Below.refl _ _) h8)
          have HB9 := Lib.hid (show RowKit.Below w8.heap.size w8 w9 from by obtain ⟨_, _, _, _, _, _, e⟩ := HRQ.out; exact e)
          have HV8 := Lib.hid (show ∃ a n c, v8 = .slice a n c from by obtain ⟨a, c, e, _⟩ := HRQ.out; exact ⟨a, _, c, e⟩)
          have HC81 := Lib.hid (show w9.cell? ⟨w1.heap.size, 1, none⟩ = some (.slice a1 r.queue.length c1) by rw [cell_of_row _ _ _ _ _ _ ((HB9.out.block _ (lt_of_heap P8.out)).trans P8.out), HR1.out]; rfl)
          have HF81 := Lib.hid (show w9.frozen? ⟨w1.heap.size, 1, none⟩ = false from frozen_of_row _ _ _ _ _ ((HB9.out.block _ (lt_of_heap P8.out)).trans P8.out))
          clear h8
          refine hK.out _ _ (fun i hi => HB9.out.block i (HLT.out i hi)) (fun hHeld => ?_)
          clear hK K
          try simp only [Act.put, List.setIfInBounds_toArray, List.set_cons_zero, List.set_cons_succ]
          obtain ⟨R9, hc9, h89, h69, hres⟩ := HEND.out _ _ HRQ.out
          have HC9 := Lib.hid hc9
          have H89 := Lib.hid h89
          have H69 := Lib.hid h69
          have HRES := Lib.hid hres
          clear hc9 h89 h69 hres
          refine held_take 9 (v := ?_) rfl (by kernel_rfl) (by kernel_rfl) (by kernel_rfl) (fun _ _ _ h => h) hHeld (by rfl) ?_ ?_
          rotate_left
          · (intro W hW; go_simp; try with_reducible rfl)
          try simp only [Act.put, List.setIfInBounds_toArray, List.set_cons_zero, List.set_cons_succ]
          refine held_next 10 rfl (by kernel_rfl) (by rfl) (fun K hK => ?_)
          refine wp_store1v _ _ _ rfl ⟨w1.heap.size, 1, none⟩ (v := v8) _ rfl rfl HV8.out (by kernel_rfl) HC81.out HF81.out ?_
          refine hK.out _ _ (fun i hi => (heap_setCell_other _ _ _ _ (by have := HLT1.out i hi; show i ≠ w1.heap.size; omega)).trans (HB9.out.block i (HLT.out i hi))) (fun hHeld => ?_)
          clear hK K
          refine wpAnyH_done (by kernel_rfl) ?_ _
          go_simp
          go_wp2_with (first | (with_reducible refine wpList_loadW rfl isD _ rfl w1.heap.size R9 _ rfl H89.out HC9.out ?_) | (with_reducible refine wpList_storeW rfl isD _ _ rfl (w.heap.size + 2) R9 _ _ rfl rfl H69.out HC9.out rfl ?_))
          refine ret_cell_slot isD rfl rfl rfl (setRow_heap _ _ _ _ _ _ H69.out) HC9.out rfl ?_
          exact HRES.out
      · have HBi := Lib.hid (show RowKit.Below w8.heap.size w8 ((w8.drew.alloc (.cells ci.toArray 90))) from (RowKit.Below.refl _ _).drew.alloc (Nat.le_refl _) _)
        refine wp_one elI _ rfl ci rfl HCIC.out.len (by decide) ?_
        refine hK.out _ _ (fun i hi => HBi.out.block i (HLT.out i hi)) (fun hHeld => ?_)
        clear hK K
        try simp only [Act.put, List.setIfInBounds_toArray, List.set_cons_zero, List.set_cons_succ]
        refine held_next 0 rfl (by kernel_rfl) (by rfl) (fun K hK => ?_)
        have HBl := Lib.hid (show RowKit.Below w8.heap.size w8 ((w8.drew.alloc (.cells ci.toArray 90)).alloc (.cells #[] 90)) from HBi.out.alloc HBi.out.size _)
        refine wp_lit elI rfl ?_
        refine hK.out _ _ (fun i hi => HBl.out.block i (HLT.out i hi)) (fun hHeld => ?_)
        clear hK K
        try simp only [Act.put, List.setIfInBounds_toArray, List.set_cons_zero, List.set_cons_succ]
        refine held_next 3 rfl (by kernel_rfl) (by rfl) (fun K hK => ?_)
        refine wp_appO elI (t := 34) (w := ((w8.drew.alloc (.cells ci.toArray 90)).alloc (.cells #[] 90))) _ _ rfl w8.heap.size (.slice (some ⟨(w8.drew.alloc (.cells ci.toArray 90)).heap.size, 0, none⟩) 0 0) 0 [] a1 r.queue.length c1 (icells r.queue) rfl rfl ((by have := World.ownsRow_lit (base := w8.heap.size) (e := 90) (size := 65) (w8.drew.alloc (.cells ci.toArray 90)) #[] 0 HBi.out.size (by decide) rfl; exact this)) HIL.out (HLQ.out _ (HB8.out.trans (HBl.out.mono HB8.out.size))) HQ0.out (icells_one _) (by have := HQ.out; omega) (by decide) HBl.out.size (fun v7 w7 h7 => ?_)
        have H7 := Lib.hid h7
        have HB7 := Lib.hid (below_appd h7 HBl.out HBl.out.size fun i hi => by cases hi; first | exact Nat.le_refl _ | exact HBi.out.size)
        clear h7
        refine hK.out _ _ (fun i hi => HB7.out.block i (HLT.out i hi)) (fun hHeld => ?_)
        clear hK K
        try simp only [Act.put, List.setIfInBounds_toArray, List.set_cons_zero, List.set_cons_succ]
        refine held_next 8 rfl (by kernel_rfl) (by rfl) (fun K hK => ?_)
        refine wp_appO elI (t := 34) (w := w7) _ _ rfl w8.heap.size v7 (0 + r.queue.length) ([] ++ icells r.queue) (some ⟨w8.heap.size, 0, none⟩) 1 1 ci rfl rfl (H7.out.1) (by rw [HCIC.out.len]) (Lie.same (w := (w8.drew.alloc (.cells ci.toArray 90)).alloc (.cells #[] 90)) (a := some ⟨w8.heap.size, 0, none⟩) ((lie_new w8.drew ci _).below ((RowKit.Below.refl _ _).alloc (Nat.le_refl _) _)) H7.out.2.1.size (fun b hb => H7.out.2.1.block b (by obtain ⟨z, e, rfl⟩ := hb; cases e; simp; omega) (fun e2 => by obtain ⟨z, e, rfl⟩ := hb; cases e; simp [Value.ownBlock] at e2))) (fun e => by cases e) HCIC.out.one (by have := HQ.out; omega) (by decide) HB7.out.size (fun v8 w9 h8 => ?_)
        have HRQ := Lib.hid (rq_end (W := w8) (p := (x.toNat, s)) (HCI.out.trans HIC.out) HBl.out (HBi.out.size) H7.out (fun _ => RowKit.Below.refl _ _) h8)
        have HB9 := Lib.hid (show RowKit.Below w8.heap.size w8 w9 from by obtain ⟨_, _, _, _, _, _, e⟩ := HRQ.out; exact e)
        have HV8 := Lib.hid (show ∃ a n c, v8 = .slice a n c from by obtain ⟨a, c, e, _⟩ := HRQ.out; exact ⟨a, _, c, e⟩)
        have HC81 := Lib.hid (show w9.cell? ⟨w1.heap.size, 1, none⟩ = some (.slice a1 r.queue.length c1) by rw [cell_of_row _ _ _ _ _ _ ((HB9.out.block _ (lt_of_heap P8.out)).trans P8.out), HR1.out]; rfl)
        have HF81 := Lib.hid (show w9.frozen? ⟨w1.heap.size, 1, none⟩ = false from frozen_of_row _ _ _ _ _ ((HB9.out.block _ (lt_of_heap P8.out)).trans P8.out))
        clear h8
        refine hK.out _ _ (fun i hi => HB9.out.block i (HLT.out i hi)) (fun hHeld => ?_)
        clear hK K
        try simp only [Act.put, List.setIfInBounds_toArray, List.set_cons_zero, List.set_cons_succ]
        obtain ⟨R9, hc9, h89, h69, hres⟩ := HEND.out _ _ HRQ.out
        have HC9 := Lib.hid hc9
        have H89 := Lib.hid h89
        have H69 := Lib.hid h69
        have HRES := Lib.hid hres
        clear hc9 h89 h69 hres
        refine held_take 9 (v := ?_) rfl (by kernel_rfl) (by kernel_rfl) (by kernel_rfl) (fun _ _ _ h => h) hHeld (by rfl) ?_ ?_
        rotate_left
        · (intro W hW; go_simp; try with_reducible rfl)
        try simp only [Act.put, List.setIfInBounds_toArray, List.set_cons_zero, List.set_cons_succ]
        refine held_next 10 rfl (by kernel_rfl) (by rfl) (fun K hK => ?_)
        refine wp_store1v _ _ _ rfl ⟨w1.heap.size, 1, none⟩ (v := v8) _ rfl rfl HV8.out (by kernel_rfl) HC81.out HF81.out ?_
        refine hK.out _ _ (fun i hi => (heap_setCell_other _ _ _ _ (by have := HLT1.out i hi; show i ≠ w1.heap.size; omega)).trans (HB9.out.block i (HLT.out i hi))) (fun hHeld => ?_)
        clear hK K
        refine wpAnyH_done (by kernel_rfl) ?_ _
        go_simp
        go_wp2_with (first | (with_reducible refine wpList_loadW rfl isD _ rfl w1.heap.size R9 _ rfl H89.out HC9.out ?_) | (with_reducible refine wpList_storeW rfl isD _ _ rfl (w.heap.size + 2) R9 _ _ rfl rfl H69.out HC9.out rfl ?_))
        refine ret_cell_slot isD rfl rfl rfl (setRow_heap _ _ _ _ _ _ H69.out) HC9.out rfl ?_
        exact HRES.out
end Go.Proofs.YtdfbpaajkpnaeaaGreat

namespace Go.Proofs.YtdfbpaajkpnaeaaGreat
set_option maxRecDepth 100000
open Go.RowKit Go.Lib

theorem item_at {w : World} {a1 : Option Addr} {q : List (Nat × Sec)} (h : Lie w a1 (icells q)) (hq : ∀ y ∈ q, y.2.length = 64) {k : Nat} {p : Nat × Sec} (hp : q[k]? = some p) : ∃ b off, a1 = some ⟨b, off, none⟩ ∧ b < w.heap.size ∧ w.rangeAt b (off + k * 65) (icell p) :=
  Lie.get h (fun y hy => icell_len (hq y hy)) (by decide) hp
/-- where a base lies that is not F's: not in block n, nor behind the call's own two -/
def Loc (w wr : World) (F : Nat → Prop) (n : Nat) (a : Option Addr) : Prop := ∀ b, inBlk a b → ¬ F b ∧ (b < w.heap.size ∨ n < b) ∧ b < wr.heap.size
theorem Loc.below {w wr wx : World} {F : Nat → Prop} {n : Nat} {a : Option Addr} (h : Loc w wr F n a) (hs : wr.heap.size ≤ wx.heap.size) : Loc w wx F n a := fun b hb => ⟨(h b hb).1, (h b hb).2.1, Nat.lt_of_lt_of_le (h b hb).2.2 hs⟩
def RFlushRes (F : Nat → Prop) (r : Dk) (w : World) (e : Ending) (w' : World) : Prop := ∃ a0 c0 a1 c1, e = .returned (.tuple #[.agg (rcs r.flush a0 c0 a1 c1).toArray, .int .i64 r.actE]) ∧ RM w' F r.flush a0 a1 ∧ RowKit.Below w.heap.size w w'
/-- k of the queue have gone in -/
structure FS (w wr : World) (F : Nat → Prop) (r : Dk) (cm : Nat → Nat) (n : Nat) (k : Nat) (ak : Option Addr) : Prop where
  li : Lie wr ak (scells (stl cm r.queue r.base k))
  nn : ak = none → r.base.length = 0
  lo : Loc w wr F n ak
  bl : RowKit.Below w.heap.size w wr
theorem FS.below {w wr wx : World} {F : Nat → Prop} {r : Dk} {cm : Nat → Nat} {n k : Nat} {ak : Option Addr} (h : FS w wr F r cm n k ak) (hb : RowKit.Below wr.heap.size wr wx) : FS w wx F r cm n k ak :=
  ⟨h.li.below hb, h.nn, h.lo.below hb.size, h.bl.trans (hb.mono h.bl.size)⟩
theorem FS.set {w wr : World} {F : Nat → Prop} {r : Dk} {cm : Nat → Nat} {n k : Nat} {ak : Option Addr} (h : FS w wr F r cm n k ak) {p : Addr} (v : Value) (hp : w.heap.size ≤ p.block) (hp2 : p.block ≤ n) : FS w (wr.setCell p v) F r cm n k ak :=
  ⟨h.li.same (by simp) fun b hb => heap_setCell_other _ _ _ _ (by have := (h.lo b hb).2.1; omega), h.nn, h.lo.below (by simp), h.bl.setCell hp v⟩
theorem FS.row {w wr : World} {F : Nat → Prop} {r : Dk} {cm : Nat → Nat} {n k : Nat} {ak : Option Addr} (h : FS w wr F r cm n k ak) {g : Nat} (cs : Array Value) (hp : w.heap.size ≤ g) (hp2 : g ≤ n) : FS w (wr.setRow g cs) F r cm n k ak :=
  ⟨h.li.same (by simp) fun b hb => setRow_other _ _ _ _ (by have := (h.lo b hb).2.1; omega), h.nn, h.lo.below (by simp), below_setRow h.bl hp⟩
/-- what land leaves is the next one -/
theorem FS.next {w wr w' : World} {F : Nat → Prop} {r : Dk} {cm : Nat → Nat} {n k : Nat} {ak a : Option Addr} (h : FS w wr F r cm n k ak) {p : Nat × Sec} (hp : r.queue[k]? = some p) {m : Int} (hm : (min (max m 0) 64).toNat = cm k)
    (hl : Lie w' a (scells ((stl cm r.queue r.base k).set p.1 (cutS p.2 ((stl cm r.queue r.base k).getD p.1 []) (min (max m 0) 64).toNat)))) (ha : a ≠ none) (hi : ∀ i, inBlk a i → wr.heap.size ≤ i ∧ i < w'.heap.size) (hb : RowKit.Below wr.heap.size wr w') (hF : ∀ i, F i → i < w.heap.size) (hn : n < wr.heap.size) : FS w w' F r cm n (k + 1) a := by
  refine ⟨?_, fun e => absurd e ha, fun b hb2 => ?_, h.bl.trans (hb.mono h.bl.size)⟩
  · rw [stl, show r.queue.getD k (0, []) = p by rw [List.getD, hp]; rfl, ← hm]
    exact hl
  · obtain ⟨h1, h2⟩ := hi b hb2
    have := h.bl.size
    exact ⟨fun hf => by have := hF b hf; omega, Or.inr (by omega), h2⟩
theorem FS.skip {w wr : World} {F : Nat → Prop} {r : Dk} {cm : Nat → Nat} {n k : Nat} {ak : Option Addr} (h : FS w wr F r cm n k ak) (hok : r.Ok) {p : Nat × Sec} (hp : r.queue[k]? = some p) (hm : cm k = 0) : FS w wr F r cm n (k + 1) ak := by
  refine ⟨?_, h.nn, h.lo, h.bl⟩
  have hk := (List.getElem?_eq_some_iff.1 hp).1
  have hi := hok.qi p (List.mem_of_getElem? hp)
  rw [stl, show r.queue.getD k (0, []) = p by rw [List.getD, hp]; rfl, hm, cutS_zero, set_getD_self (by rw [stl_len]; exact hi)]
  exact h.li
set_option maxRecDepth 100000 in
set_option maxHeartbeats 3200000 in
theorem rflush_any (r : Dk) (a0 : Option Addr) (c0 : Nat) (a1 : Option Addr) (c1 : Nat) (F : Nat → Prop) (w : World) (hF : ∀ i, F i → i < w.heap.size) (h : RM w F r a0 a1) :
    Calls Tryz.prog 56 #[.agg (rcs r a0 c0 a1 c1).toArray] w (RFlushRes F r w) := by
  obtain ⟨R, hR⟩ : ∃ R, R = rcs r a0 c0 a1 c1 := ⟨_, rfl⟩
  have HR := Lib.hid hR
  have HRC := Lib.hid (show Cs 4 R by rw [hR]; exact rcs_cs _ _ _ _ _)
  have HM := Lib.hid h
  have HF := Lib.hid hF
  obtain ⟨w3, hw3⟩ : ∃ w3, w3 = (w.alloc (.cells R.toArray 36)).alloc (.cells [.slice none 0 0, .slice none 0 0, .int .i64 0, .bool false].toArray 36) := ⟨_, rfl⟩
  have HB3 := Lib.hid (show RowKit.Below w.heap.size w w3 by rw [hw3]; exact ((RowKit.Below.refl _ _).alloc (Nat.le_refl _) _).alloc (by simp) _)
  have p1 : w3.heap[w.heap.size]? = some (.cells R.toArray 36) := by rw [hw3]; exact blk_in (blkn rfl)
  have p2 : w3.heap[w.heap.size + 1]? = some (.cells [.slice none 0 0, .slice none 0 0, .int .i64 0, .bool false].toArray 36) := by rw [hw3]; exact blkn (by simp)
  have HP1 := Lib.hid p1
  have HP2 := Lib.hid p2
  have HW3 := Lib.hid hw3
  have HSP := Lib.hid (fun W => spend_any r a0 c0 a1 c1 W h.ok.fz)
  rw [← hR] at HSP ⊢
  clear hR hw3 p1 p2 h hF
  go_enter Tryz.func56, Tryz.ntmps56
  go_wp2_with (first | (with_reducible refine wpList_boxA rfl _ _ rfl _ rfl ?_) | ((with_reducible refine wpList_allocA rfl isD rfl ?_); rw [← HW3.out]) | (with_reducible refine wpList_loadW rfl isD _ rfl w.heap.size R _ rfl HP1.out HRC.out ?_))
  refine (HSP.out w3).mono ?_
  rintro _ w1 ⟨fu, dd, hsp, rfl, hb1⟩
  obtain ⟨R1, hR1⟩ : ∃ R1, R1 = rcs { r with fuse := fu, dead := dd } a0 c0 a1 c1 := ⟨_, rfl⟩
  have HR1 := Lib.hid hR1
  have HRC1 := Lib.hid (show Cs 4 R1 by rw [hR1]; exact rcs_cs _ _ _ _ _)
  rw [← hR1]
  have HS1 := Lib.hid hsp
  have HB1 := Lib.hid (HB3.out.trans (hb1.mono HB3.out.size))
  obtain ⟨w8, hw8⟩ : ∃ w8, w8 = w1.alloc (.cells R1.toArray 36) := ⟨_, rfl⟩
  have HW8 := Lib.hid (show (w1.alloc (.cells [.slice none 0 0, .slice none 0 0, .int .i64 0, .bool false].toArray 36)).setRow w1.heap.size R1.toArray = w8 by rw [hw8]; exact setRow_new rfl)
  have P1 := Lib.hid (show w8.heap[w.heap.size]? = some (.cells R.toArray 36) by rw [hw8]; exact blk_in ((hb1.block _ (lt_of_heap HP1.out)).trans HP1.out))
  have P2 := Lib.hid (show w8.heap[w.heap.size + 1]? = some (.cells [.slice none 0 0, .slice none 0 0, .int .i64 0, .bool false].toArray 36) by rw [hw8]; exact blk_in ((hb1.block _ (lt_of_heap HP2.out)).trans HP2.out))
  have P4 := Lib.hid (show w8.heap[w1.heap.size]? = some (.cells R1.toArray 36) by rw [hw8]; exact blkn rfl)
  have HB8 := Lib.hid (show RowKit.Below w.heap.size w w8 by rw [hw8]; exact HB1.out.alloc HB1.out.size _)
  have HN1 := Lib.hid (show w.heap.size + 1 < w1.heap.size from Nat.lt_of_lt_of_le (lt_of_heap HP2.out) hb1.size)
  have HN8 := Lib.hid (show w8.heap.size = w1.heap.size + 1 by rw [hw8]; simp)
  have HAL := Lib.hid (heap_alloc_new w1 (.cells [.slice none 0 0, .slice none 0 0, .int .i64 0, .bool false].toArray 36))
  clear hb1 hR1 hsp hw8
  cases hl : r.live with
  | false =>
    have HLV := Lib.hid hl
    clear hl
    go_wp2_with (first | (with_reducible refine wpList_allocA rfl isD rfl ?_) | ((with_reducible refine wpList_storeW rfl isD _ _ rfl w1.heap.size R1 _ _ rfl rfl HAL.out HRC1.out rfl ?_); rw [HW8.out]) | (with_reducible refine wpList_loadW rfl isD _ rfl w1.heap.size R1 _ rfl P4.out HRC1.out ?_) | (with_reducible refine wpList_storeW rfl isD _ _ rfl (w.heap.size + 1) R1 _ _ rfl rfl P2.out HRC1.out rfl ?_))
    refine ret_cell_slot isD rfl rfl rfl (setRow_heap _ _ _ _ _ _ P2.out) HRC1.out rfl ?_
    have hfz := HM.out.ok.spend.fz
    rw [HS1.out] at hfz
    have hb := below_setRow (g := w.heap.size + 1) (cs := R1.toArray) HB8.out (by omega)
    refine ⟨a0, c0, a1, c1, ?_, ?_, hb⟩
    · unfold Dk.actE Dk.flush; rw [HLV.out, HS1.out, HR1.out]; rfl
    · unfold Dk.flush; rw [HLV.out, HS1.out]; exact (HM.out.below hb).head hfz
  | true =>
    have HLV := Lib.hid hl
    clear hl
    have q1 : w8.cell? ⟨w.heap.size, 1, none⟩ = some (.slice a1 r.queue.length c1) := by rw [cell_of_row _ _ _ _ _ _ P1.out, HR.out]; rfl
    have HZ := Lib.hid (show FS w w8 F r (fun _ => 64) w1.heap.size 0 a0 from ⟨HM.out.bs.below HB8.out, HM.out.b0, fun b hb => ⟨HM.out.o0 b hb, Or.inl (HM.out.l0 b hb), Nat.lt_of_lt_of_le (HM.out.l0 b hb) HB8.out.size⟩, HB8.out⟩)
    have hq9 := HM.out.ok.qn
    have P40 := Lib.hid (show w8.heap[w1.heap.size]? = some (.cells #[.slice a0 r.base.length c0, .slice a1 r.queue.length c1, .int .i64 fu, .bool dd] 36) by rw [P4.out, HR1.out]; rfl)
    go_wp2_with (first | (with_reducible refine wpList_allocA rfl isD rfl ?_) | ((with_reducible refine wpList_storeW rfl isD _ _ rfl w1.heap.size R1 _ _ rfl rfl HAL.out HRC1.out rfl ?_); rw [HW8.out]))
    clear q1
    go_loopw [19] (fun c19 wr => ∃ (k : Nat) (ak : Option Addr) (ck : Nat), c19 = .int .i64 (k : Int) ∧ k ≤ r.queue.length ∧ FS w wr F r (fun _ => 64) w1.heap.size k ak ∧ wr.heap[w1.heap.size]? = some (.cells #[.slice ak r.base.length ck, .slice a1 r.queue.length c1, .int .i64 fu, .bool dd] 36) ∧ wr.heap[w.heap.size + 1]? = some (.cells [.slice none 0 0, .slice none 0 0, .int .i64 0, .bool false].toArray 36)) (fun c19 _ => r.queue.length - (match c19 with | .int _ q => q | _ => 0).toNat)
    case atStart => exact ⟨0, a0, c0, rfl, Nat.zero_le _, HZ.out, P40.out, P2.out⟩
    case round =>
      obtain ⟨k, ak, ck, rfl, hk, hfs, h4, h2⟩ := hrel
      have HFS := Lib.hid hfs
      have H4 := Lib.hid h4
      have H2 := Lib.hid h2
      clear hfs h4 h2
      by_cases hlt : k < r.queue.length
      · obtain ⟨p, hp⟩ : ∃ p, r.queue[k]? = some p := ⟨_, List.getElem?_eq_getElem hlt⟩
        have HP := Lib.hid hp
        have HKL := Lib.hid hlt
        have hmem := List.mem_of_getElem? hp
        have HPI := Lib.hid (HM.out.ok.qi p hmem)
        have HPL := Lib.hid (HM.out.ok.ql p hmem)
        obtain ⟨bq, oq, ha1, hbq, hrq⟩ := item_at (HM.out.qs.below HFS.out.bl) HM.out.ok.ql hp
        obtain ⟨ci, hci⟩ : ∃ ci, ci = icell p := ⟨_, rfl⟩
        rw [← hci] at hrq
        have HCI := Lib.hid hci
        have HCC := Lib.hid (show Cs 65 ci by rw [hci]; exact cs_item HPL.out)
        have HRQ := Lib.hid hrq
        have HSN := Lib.hid (show (wr.alloc (.cells zi.toArray 90)).setRow wr.heap.size ci.toArray = wr.alloc (.cells ci.toArray 90) from setRow_new rfl)
        have HA7 := Lib.hid (heap_alloc_new wr (.cells ci.toArray 90))
        have HA7z := Lib.hid (heap_alloc_new wr (.cells zi.toArray 90))
        have hb7 : RowKit.Below wr.heap.size wr (wr.alloc (.cells ci.toArray 90)) := (RowKit.Below.refl _ _).alloc (Nat.le_refl _) _
        have H47 := Lib.hid ((hb7.block _ (lt_of_heap H4.out)).trans H4.out)
        have H27 := Lib.hid ((hb7.block _ (lt_of_heap H2.out)).trans H2.out)
        have HF7 := Lib.hid (HFS.out.below hb7)
        have q4 : (wr.alloc (.cells ci.toArray 90)).cell? ⟨w1.heap.size, 0, none⟩ = some (.slice ak r.base.length ck) := by rw [cell_of_row _ _ _ _ _ _ H47.out]; rfl
        have hlen : ∀ s ∈ stl (fun _ => 64) r.queue r.base k, s.length = 64 := stl_ok (fun _ => Nat.le_refl _) HM.out.ok.bl HM.out.ok.qi HM.out.ok.ql k hk
        have HLAND := Lib.hid (land_any ak ck (stl (fun _ => 64) r.queue r.base k) p 64 (wr.alloc (.cells ci.toArray 90)) HF7.out.li (fun e => by rw [stl_len]; exact HF7.out.nn e) hlen (by rw [stl_len]; exact HM.out.ok.sz) (by rw [stl_len]; exact HPI.out) HPL.out)
        rw [stl_len, ← hci] at HLAND
        have HN7 := Lib.hid (show w1.heap.size < (wr.alloc (.cells ci.toArray 90)).heap.size from lt_of_heap H47.out)
        subst ha1
        clear hp hmem hbq hci hrq hb7 hlen
        go_wp2_with (first | (with_reducible refine wpList_idx elI rfl _ _ rfl k rfl rfl rfl HKL.out ?_) | (with_reducible refine wpList_loadM rfl isI _ rfl bq (oq + k * 65) ci rfl HRQ.out HCC.out ?_) | (with_reducible refine wpList_allocA rfl isI rfl ?_) | ((with_reducible refine wpList_storeW rfl isI _ _ rfl wr.heap.size ci zi.toArray _ rfl rfl HA7z.out HCC.out (by simp [zi_len]) ?_); rw [HSN.out]) | (with_reducible refine wpList_loadW rfl isI _ rfl wr.heap.size ci _ rfl HA7.out HCC.out ?_))
        refine HLAND.out.mono ?_
        rintro _ w9 ⟨a, c, rfl, hl9, hne, hbl, hb9⟩
        rw [stl_len]
        have H49 := Lib.hid ((hb9.block _ (lt_of_heap H47.out)).trans H47.out)
        have H29 := Lib.hid ((hb9.block _ (lt_of_heap H27.out)).trans H27.out)
        have HF9 := Lib.hid (HF7.out.next HP.out (m := 64) rfl hl9 hne hbl hb9 HF.out HN7.out)
        have q9 : w9.cell? ⟨w1.heap.size, 0, none⟩ = some (.slice ak r.base.length ck) := by rw [cell_of_row _ _ _ _ _ _ H49.out]; rfl
        have f9 := frozen_of_row _ _ 0 _ _ H49.out
        clear q4 hl9 hne hbl hb9 HLAND
        go_wp2_with fail
        go_roundw
        case rel => exact ⟨k + 1, a, c, by go_num, by have := HKL.out; omega, HF9.out.set _ (by have := HN1.out; show w.heap.size ≤ w1.heap.size; omega) (Nat.le_refl _), by rw [heap_setCell_same _ _ _ _ _ _ H49.out]; rfl, (heap_setCell_other _ _ _ _ (by have := HN1.out; show w.heap.size + 1 ≠ w1.heap.size; omega)).trans H29.out⟩
        case measure => simp; have := HKL.out; omega
      · obtain rfl : k = r.queue.length := by omega
        have q41 : wr.cell? ⟨w1.heap.size, 1, none⟩ = some (.slice a1 r.queue.length c1) := by rw [cell_of_row _ _ _ _ _ _ H4.out]; rfl
        have f41 := frozen_of_row _ _ 1 _ _ H4.out
        obtain ⟨R9, hR9⟩ : ∃ R9, R9 = [Value.slice ak r.base.length ck, .slice none 0 0, .int .i64 fu, .bool dd] := ⟨_, rfl⟩
        have H49 := Lib.hid (show (wr.setCell ⟨w1.heap.size, 1, none⟩ (.slice none 0 0)).heap[w1.heap.size]? = some (.cells R9.toArray 36) by rw [heap_setCell_same _ _ _ _ _ _ H4.out, hR9]; rfl)
        have H29 := Lib.hid (show (wr.setCell ⟨w1.heap.size, 1, none⟩ (.slice none 0 0)).heap[w.heap.size + 1]? = some _ from (heap_setCell_other _ _ _ _ (by have := HN1.out; show w.heap.size + 1 ≠ w1.heap.size; omega)).trans H2.out)
        have HFL := Lib.hid (show r.flush = { base := stl (fun _ => 64) r.queue r.base r.queue.length, queue := [], fuse := fu, dead := dd } by unfold Dk.flush; rw [HLV.out, HS1.out]; rfl)
        have HR9 := Lib.hid (show R9 = rcs r.flush ak ck none 0 by rw [HFL.out, hR9]; unfold rcs; simp only [stl_len]; rfl)
        have HRC9 := Lib.hid (show Cs 4 R9 by rw [HR9.out]; exact rcs_cs _ _ _ _ _)
        clear hR9 hk hlt hq9
        go_wp2_with (first | (with_reducible refine wpList_loadW rfl isD _ rfl w1.heap.size R9 _ rfl H49.out HRC9.out ?_) | (with_reducible refine wpList_storeW rfl isD _ _ rfl (w.heap.size + 1) R9 _ _ rfl rfl H29.out HRC9.out rfl ?_))
        refine ret_cell_slot isD rfl rfl rfl (setRow_heap _ _ _ _ _ _ H29.out) HRC9.out rfl ?_
        have hfs := (HFS.out.set (p := ⟨w1.heap.size, 1, none⟩) (.slice none 0 0) (by have := HN1.out; show w.heap.size ≤ w1.heap.size; omega) (Nat.le_refl _)).row (g := w.heap.size + 1) R9.toArray (by omega) (by have := HN1.out; omega)
        refine ⟨ak, ck, none, 0, ?_, ⟨HM.out.ok.flush, ?_, ?_, ?_, ?_, ?_, ?_, ?_, ?_⟩, hfs.bl⟩
        · unfold Dk.actE; rw [HLV.out, HR9.out]; rfl
        · rw [HFL.out]; exact hfs.li
        · rw [HFL.out]; intro e; show (stl _ _ _ _).length = 0; rw [stl_len]; exact hfs.nn e
        · rw [HFL.out]; exact Or.inl rfl
        · rw [HFL.out]; exact fun _ => rfl
        · exact fun b hb => (hfs.lo b hb).1
        · rintro b ⟨q, e, rfl⟩; cases e
        · exact fun b hb => (hfs.lo b hb).2.2
        · rintro b ⟨q, e, rfl⟩; cases e
end Go.Proofs.YtdfbpaajkpnaeaaGreat

namespace Go.Proofs.YtdfbpaajkpnaeaaGreat
set_option maxRecDepth 100000
open Go.RowKit Go.Lib

def RPowerRes (F : Nat → Prop) (r : Dk) (l : List Int) (w : World) (e : Ending) (w' : World) : Prop := ∃ a0 c0 a1 c1, e = .returned (.agg (rcs (r.power l) a0 c0 a1 c1).toArray) ∧ RM w' F (r.power l) a0 a1 ∧ RowKit.Below w.heap.size w w'
set_option maxRecDepth 100000 in
set_option maxHeartbeats 3200000 in
theorem rpower_any (r : Dk) (a0 : Option Addr) (c0 : Nat) (a1 : Option Addr) (c1 : Nat) (F : Nat → Prop) (ka : Option Addr) (l : List Int) (kn kc : Nat) (w : World) (hF : ∀ i, F i → i < w.heap.size) (h : RM w F r a0 a1) (hl : Nums w ka l) (hn : l.length = kn) :
    Calls Tryz.prog 16 #[.agg (rcs r a0 c0 a1 c1).toArray, .slice ka kn kc] w (RPowerRes F r l w) := by
  obtain ⟨R, hR⟩ : ∃ R, R = rcs r a0 c0 a1 c1 := ⟨_, rfl⟩
  have HR := Lib.hid hR
  have HM := Lib.hid h
  have HF := Lib.hid hF
  have HL := Lib.hid hl
  have HLN := Lib.hid hn
  obtain ⟨w3, hw3⟩ : ∃ w3, w3 = (w.alloc (.cells R.toArray 36)).alloc (.cells [.slice none 0 0, .slice none 0 0, .int .i64 0, .bool false].toArray 36) := ⟨_, rfl⟩
  have HB3 := Lib.hid (show RowKit.Below w.heap.size w w3 by rw [hw3]; exact ((RowKit.Below.refl _ _).alloc (Nat.le_refl _) _).alloc (by simp) _)
  have p1 : w3.heap[w.heap.size]? = some (.cells R.toArray 36) := by rw [hw3]; exact blk_in (blkn rfl)
  have p2 : w3.heap[w.heap.size + 1]? = some (.cells [.slice none 0 0, .slice none 0 0, .int .i64 0, .bool false].toArray 36) := by rw [hw3]; exact blkn (by simp)
  have q0 : w3.cell? ⟨w.heap.size, 0, none⟩ = some (.slice a0 r.base.length c0) := by rw [cell_of_row _ _ _ _ _ _ p1, hR]; rfl
  have q1 : w3.cell? ⟨w.heap.size, 1, none⟩ = some (.slice a1 r.queue.length c1) := by rw [cell_of_row _ _ _ _ _ _ p1, hR]; rfl
  have HP2 := Lib.hid p2
  have HW3 := Lib.hid hw3
  have HN3 := Lib.hid (show w3.heap.size = w.heap.size + 2 by rw [hw3]; simp)
  have HZ := Lib.hid (show FS w w3 F r (keepF l) (w.heap.size + 1) 0 a0 from ⟨h.bs.below HB3.out, h.b0, fun b hb => ⟨h.o0 b hb, Or.inl (h.l0 b hb), Nat.lt_of_lt_of_le (h.l0 b hb) HB3.out.size⟩, HB3.out⟩)
  have hq9 := h.ok.qn
  rw [← hR]
  clear hR hw3 p1 p2 h hF hl hn
  go_enter Tryz.func16, Tryz.ntmps16
  go_wp2_with (first | (with_reducible refine wpList_boxA rfl _ _ rfl _ rfl ?_) | ((with_reducible refine wpList_allocA rfl isD rfl ?_); rw [← HW3.out]))
  clear q0 q1
  go_loopw [5, 13] (fun c5 c13 wr => ∃ (k : Nat) (ak : Option Addr) (ck : Nat), c5 = .slice ak r.base.length ck ∧ c13 = .int .i64 (k : Int) ∧ k ≤ r.queue.length ∧ FS w wr F r (keepF l) (w.heap.size + 1) k ak ∧ wr.heap[w.heap.size + 1]? = some (.cells [.slice none 0 0, .slice none 0 0, .int .i64 0, .bool false].toArray 36)) (fun _ c13 _ => r.queue.length - (match c13 with | .int _ q => q | _ => 0).toNat)
  case atStart => exact ⟨0, a0, c0, rfl, rfl, Nat.zero_le _, HZ.out, HP2.out⟩
  case round =>
    obtain ⟨k, ak, ck, rfl, rfl, hk, hfs, h2⟩ := hrel
    have HFS := Lib.hid hfs
    have H2 := Lib.hid h2
    clear hfs h2
    by_cases hlt : k < r.queue.length
    · obtain ⟨p, hp⟩ : ∃ p, r.queue[k]? = some p := ⟨_, List.getElem?_eq_getElem hlt⟩
      have HP := Lib.hid hp
      have HKL := Lib.hid hlt
      have hmem := List.mem_of_getElem? hp
      have HPI := Lib.hid (HM.out.ok.qi p hmem)
      have HPL := Lib.hid (HM.out.ok.ql p hmem)
      obtain ⟨bq, oq, ha1, hbq, hrq⟩ := item_at (HM.out.qs.below HFS.out.bl) HM.out.ok.ql hp
      obtain ⟨ci, hci⟩ : ∃ ci, ci = icell p := ⟨_, rfl⟩
      rw [← hci] at hrq
      have HCI := Lib.hid hci
      have HCC := Lib.hid (show Cs 65 ci by rw [hci]; exact cs_item HPL.out)
      have HRQ := Lib.hid hrq
      have HA7z := Lib.hid (heap_alloc_new wr (.cells zi.toArray 90))
      have HSN := Lib.hid (show (wr.alloc (.cells zi.toArray 90)).setRow wr.heap.size ci.toArray = wr.alloc (.cells ci.toArray 90) from setRow_new rfl)
      obtain ⟨w7, hw7⟩ : ∃ w7, w7 = wr.alloc (.cells ci.toArray 90) := ⟨_, rfl⟩
      have HA7 := Lib.hid (show w7.heap[wr.heap.size]? = some (.cells ci.toArray 90) by rw [hw7]; exact heap_alloc_new wr _)
      have hb7 : RowKit.Below wr.heap.size wr w7 := by rw [hw7]; exact (RowKit.Below.refl _ _).alloc (Nat.le_refl _) _
      rw [← hw7] at HSN
      have H27 := Lib.hid ((hb7.block _ (lt_of_heap H2.out)).trans H2.out)
      have HF7 := Lib.hid (HFS.out.below hb7)
      have HN7 := Lib.hid (show w.heap.size + 1 < w7.drew.heap.size from lt_of_heap H27.out)
      have HBK := Lib.hid (HFS.out.bl.trans (hb7.mono HFS.out.bl.size))
      subst ha1
      clear hp hmem hbq hrq hb7 hw7
      by_cases hkn : k < kn
      · have HRI := Lib.hid (show w7.rangeAt wr.heap.size 0 ci from range_row HA7.out)
        obtain ⟨kb, ko, hka, hkv⟩ := (HL.out.below HBK.out).at_ (k := k) (by have := HLN.out; omega)
        obtain ⟨v, hv⟩ : ∃ v, v = l.getD k 0 := ⟨_, rfl⟩
        rw [← hv] at hkv
        have hkb : kb < w7.heap.size := World.block_lt_of_cell? w7 _ hkv
        have HVM := Lib.hid (show (min (max v 0) 64).toNat = keepF l k by unfold keepF; rw [hv])
        have hlen : ∀ s ∈ stl (keepF l) r.queue r.base k, s.length = 64 := stl_ok (keepF_le l) HM.out.ok.bl HM.out.ok.qi HM.out.ok.ql k hk
        have HLAND := Lib.hid (land_any ak ck (stl (keepF l) r.queue r.base k) p v w7.drew HF7.out.li (fun e => by rw [stl_len]; exact HF7.out.nn e) hlen (by rw [stl_len]; exact HM.out.ok.sz) (by rw [stl_len]; exact HPI.out) HPL.out)
        rw [stl_len, ← hci] at HLAND
        have HKV := Lib.hid hkv
        have HVR := Lib.hid (fun (W : World) (hW : Agree [wr.heap.size, kb] w7 W) => hW.cell (b := kb) (by simp) HKV.out)
        subst hka
        clear hv hci hlen hkv
        go_wp2_with (first | (with_reducible refine wpList_idx elI rfl _ _ rfl k rfl rfl rfl HKL.out ?_) | (with_reducible refine wpList_loadM rfl isI _ rfl bq (oq + k * 65) ci rfl HRQ.out HCC.out ?_) | (with_reducible refine wpList_allocA rfl isI rfl ?_) | ((with_reducible refine wpList_storeW rfl isI _ _ rfl wr.heap.size ci zi.toArray _ rfl rfl HA7z.out HCC.out (by simp [zi_len]) ?_); rw [HSN.out]))
        refine wp_region_held_drew (S := fun W => Agree [wr.heap.size, kb] w7 W) (by kernel_rfl) ?_ (fun hHeld => ?_)
        · exact fun _ _ => rfl
        refine held_take 0 (v := ?_) rfl (by kernel_rfl) (by kernel_rfl) (by kernel_rfl) (fun _ _ _ h => h) hHeld (by rfl) ?_ ?_
        rotate_left
        · (intro W hW; go_simp; try with_reducible rfl)
        try simp only [Act.put, List.setIfInBounds_toArray, List.set_cons_zero, List.set_cons_succ]
        refine held_take 1 (v := .agg ci.toArray) rfl (by kernel_rfl) (by kernel_rfl) (by kernel_rfl) (fun _ _ _ h => h) hHeld (by rfl) (fun W hW => exec_loadM isI _ rfl _ _ ci rfl (hW.range (by simp) HRI.out) HCC.out) ?_
        try simp only [Act.put, List.setIfInBounds_toArray, List.set_cons_zero, List.set_cons_succ]
        refine held_take 2 (v := ?_) rfl (by kernel_rfl) (by kernel_rfl) (by kernel_rfl) (fun _ _ _ h => h) hHeld (by rfl) ?_ ?_
        rotate_left
        · (intro W hW; go_simp; try with_reducible rfl)
        try simp only [Act.put, List.setIfInBounds_toArray, List.set_cons_zero, List.set_cons_succ]
        refine held_take 3 (v := ?_) rfl (by kernel_rfl) (by kernel_rfl) (by kernel_rfl) (fun _ _ _ h => h) hHeld (by rfl) ?_ ?_
        rotate_left
        · (intro W hW; go_simp; try with_reducible rfl)
        try simp only [Act.put, List.setIfInBounds_toArray, List.set_cons_zero, List.set_cons_succ]
        refine held_take 4 (v := ?_) rfl (by kernel_rfl) (by kernel_rfl) (by kernel_rfl) (fun _ _ _ h => h) hHeld (by rfl) ?_ ?_
        rotate_left
        · (intro W hW; go_simp; try with_reducible rfl)
        try simp only [Act.put, List.setIfInBounds_toArray, List.set_cons_zero, List.set_cons_succ]
        refine held_take 5 (v := ?_) rfl (by kernel_rfl) (by kernel_rfl) (by kernel_rfl) (fun _ _ _ h => h) hHeld (by rfl) ?_ ?_
        rotate_left
        · (intro W hW; have e := HVR.out W hW; go_simp; try with_reducible rfl)
        try simp only [Act.put, List.setIfInBounds_toArray, List.set_cons_zero, List.set_cons_succ]
        refine held_next 6 rfl (by kernel_rfl) (by rfl) (fun K hK => ?_)
        go_simp
        go_at_call 38
        refine HLAND.out.mono ?_
        rintro _ w9 ⟨a, c, rfl, hl9, hne, hbl, hb9⟩
        rw [stl_len]
        have HB9 := Lib.hid hb9
        have H29 := Lib.hid ((hb9.block _ (lt_of_heap H27.out)).trans H27.out)
        have HF9 := Lib.hid (HF7.out.next HP.out (m := v) HVM.out hl9 hne hbl ⟨hb9.os, hb9.tape, hb9.output, hb9.size, hb9.block⟩ HF.out HN7.out)
        clear hl9 hne hbl hb9
        refine hK.out _ _ (fun i hi => by rcases List.mem_cons.1 hi with e | e; (subst e; exact HB9.out.block _ (lt_of_heap HA7.out)); (rw [List.mem_singleton.1 e]; exact HB9.out.block _ hkb)) (fun hHeld => ?_)
        clear hK K
        try simp only [Act.put, List.setIfInBounds_toArray, List.set_cons_zero, List.set_cons_succ]
        refine held_take 7 (v := ?_) rfl (by kernel_rfl) (by kernel_rfl) (by kernel_rfl) (fun _ _ _ h => h) hHeld (by rfl) ?_ ?_
        rotate_left
        · (intro W hW; go_simp; try with_reducible rfl)
        try simp only [Act.put, List.setIfInBounds_toArray, List.set_cons_zero, List.set_cons_succ]
        refine wpAnyH_done (by kernel_rfl) ?_ _
        go_simp
        go_wp2_with fail
        go_roundw
        case rel => exact ⟨k + 1, a, c, rfl, by go_num, by have := HKL.out; omega, HF9.out, H29.out⟩
        case measure => simp; have := HKL.out; omega
      · have HF9 := Lib.hid (HF7.out.skip HM.out.ok HP.out (keepF_out (by have := HLN.out; omega)))
        clear hci
        go_wp2_with (first | (with_reducible refine wpList_idx elI rfl _ _ rfl k rfl rfl rfl HKL.out ?_) | (with_reducible refine wpList_loadM rfl isI _ rfl bq (oq + k * 65) ci rfl HRQ.out HCC.out ?_) | (with_reducible refine wpList_allocA rfl isI rfl ?_) | ((with_reducible refine wpList_storeW rfl isI _ _ rfl wr.heap.size ci zi.toArray _ rfl rfl HA7z.out HCC.out (by simp [zi_len]) ?_); rw [HSN.out]))
        go_roundw
        case rel => exact ⟨k + 1, ak, ck, rfl, by go_num, by have := HKL.out; omega, HF9.out, H27.out⟩
        case measure => simp; have := HKL.out; omega
    · obtain rfl : k = r.queue.length := by omega
      obtain ⟨R9, hR9⟩ : ∃ R9, R9 = [Value.slice ak r.base.length ck, .slice none 0 0, .int .i64 (-1), .bool false] := ⟨_, rfl⟩
      have HFL := Lib.hid (show r.power l = { base := stl (keepF l) r.queue r.base r.queue.length, queue := [], fuse := -1, dead := false } from rfl)
      have HR9 := Lib.hid (show R9 = rcs (r.power l) ak ck none 0 by rw [HFL.out, hR9]; unfold rcs; simp only [stl_len]; rfl)
      have HRC9 := Lib.hid (show Cs 4 R9 by rw [HR9.out]; exact rcs_cs _ _ _ _ _)
      clear hk hlt hq9
      have HR99 := Lib.hid hR9
      rw [hR9] at HRC9
      clear hR9
      go_wp2_with (first | (with_reducible refine wpList_storeW rfl isD _ _ rfl (w.heap.size + 1) [.slice ak r.base.length ck, .slice none 0 0, .int .i64 (-1), .bool false] _ _ rfl rfl H2.out HRC9.out rfl ?_))
      refine ret_cell isD rfl rfl (setRow_heap _ _ _ _ _ _ H2.out) HRC9.out rfl ?_
      have hfs := HFS.out.row (g := w.heap.size + 1) [Value.slice ak r.base.length ck, .slice none 0 0, .int .i64 (-1), .bool false].toArray (by omega) (Nat.le_refl _)
      refine ⟨ak, ck, none, 0, by rw [← HR9.out, HR99.out], ⟨HM.out.ok.power l, ?_, ?_, ?_, ?_, ?_, ?_, ?_, ?_⟩, hfs.bl⟩
      · rw [HFL.out]; exact hfs.li
      · rw [HFL.out]; intro e; show (stl _ _ _ _).length = 0; rw [stl_len]; exact hfs.nn e
      · rw [HFL.out]; exact Or.inl rfl
      · rw [HFL.out]; exact fun _ => rfl
      · exact fun b hb => (hfs.lo b hb).1
      · rintro b ⟨q, e, rfl⟩; cases e
      · exact fun b hb => (hfs.lo b hb).2.2
      · rintro b ⟨q, e, rfl⟩; cases e
end Go.Proofs.YtdfbpaajkpnaeaaGreat

namespace Go.Proofs.YtdfbpaajkpnaeaaGreat
set_option maxRecDepth 100000
open Go.RowKit Go.Lib

/-- what a sector is behind the first k of the queue -/
def outK (r : Dk) (x : Int) (k : Nat) : Sec := ((ofQ (r.queue.take k) x).getLast?).getD (r.base.getD x.toNat [])
theorem outK_same {r : Dk} {k : Nat} {p : Nat × Sec} (hp : r.queue[k]? = some p) : outK r (p.1 : Int) (k + 1) = p.2 := by
  unfold outK
  have hk := (List.getElem?_eq_some_iff.1 hp).1
  rw [List.take_succ_eq_append_getElem hk, ofQ_app]
  have : r.queue[k] = p := by rw [List.getElem?_eq_getElem hk] at hp; exact Option.some.inj hp
  rw [this, ofQ_one_same]
  simp
theorem outK_other {r : Dk} {k : Nat} {p : Nat × Sec} {x : Int} (hp : r.queue[k]? = some p) (hx : x ≠ (p.1 : Int)) : outK r x (k + 1) = outK r x k := by
  unfold outK
  have hk := (List.getElem?_eq_some_iff.1 hp).1
  rw [List.take_succ_eq_append_getElem hk, ofQ_app]
  have : r.queue[k] = p := by rw [List.getElem?_eq_getElem hk] at hp; exact Option.some.inj hp
  rw [this, ofQ_one_other _ hx, List.append_nil]
theorem outK_len {r : Dk} (h : r.Ok) {x : Int} (hx : 0 ≤ x ∧ x < r.base.length) : ∀ k, k ≤ r.queue.length → (outK r x k).length = 64
  | 0, _ => h.bl _ (getD_mem (by omega))
  | k + 1, hk => by
    obtain ⟨p, hp⟩ : ∃ p, r.queue[k]? = some p := ⟨_, List.getElem?_eq_getElem (by omega)⟩
    by_cases e : x = (p.1 : Int)
    · subst e; rw [outK_same hp]; exact h.ql p (List.mem_of_getElem? hp)
    · rw [outK_other hp e]; exact outK_len h hx k (by omega)
theorem outK_all {r : Dk} {x : Int} (hx : 0 ≤ x ∧ x < r.base.length) : outK r x r.queue.length = r.at_ x := by
  unfold outK Dk.at_
  rw [if_pos hx, List.take_length]
set_option maxRecDepth 100000 in
set_option maxHeartbeats 3200000 in
theorem rget_any (r : Dk) (a0 : Option Addr) (c0 : Nat) (a1 : Option Addr) (c1 : Nat) (F : Nat → Prop) (x : Int) (w : World) (h : RM w F r a0 a1) :
    Calls Tryz.prog 74 #[.agg (rcs r a0 c0 a1 c1).toArray, .int .i64 x] w (GetRes r x w) := by
  obtain ⟨R, hR⟩ : ∃ R, R = rcs r a0 c0 a1 c1 := ⟨_, rfl⟩
  have HM := Lib.hid h
  obtain ⟨w3, hw3⟩ : ∃ w3, w3 = (w.alloc (.cells R.toArray 36)).alloc (.cells zc.toArray 88) := ⟨_, rfl⟩
  have HB3 := Lib.hid (show RowKit.Below w.heap.size w w3 by rw [hw3]; exact ((RowKit.Below.refl _ _).alloc (Nat.le_refl _) _).alloc (by simp) _)
  have p1 : w3.heap[w.heap.size]? = some (.cells R.toArray 36) := by rw [hw3]; exact blk_in (blkn rfl)
  have p2 : w3.heap[w.heap.size + 1]? = some (.cells zc.toArray 88) := by rw [hw3]; exact blkn (by simp)
  have q0 : w3.cell? ⟨w.heap.size, 0, none⟩ = some (.slice a0 r.base.length c0) := by rw [cell_of_row _ _ _ _ _ _ p1, hR]; rfl
  have HQ1 := Lib.hid (show w3.cell? ⟨w.heap.size, 1, none⟩ = some (.slice a1 r.queue.length c1) by rw [cell_of_row _ _ _ _ _ _ p1, hR]; rfl)
  have HP2 := Lib.hid p2
  have HW3 := Lib.hid hw3
  have HN3 := Lib.hid (show w3.heap.size = w.heap.size + 2 by rw [hw3]; simp)
  have hq9 := h.ok.qn
  rw [← hR]
  have hcs : (x < 0 ∨ (r.base.length : Int) ≤ x) ∨ (0 ≤ x ∧ x < (r.base.length : Int)) := by omega
  rcases hcs with hbad | ⟨hx0, hxN⟩
  · have HRES := Lib.hid (show ∀ W, RowKit.Below w.heap.size w W → GetRes r x w (.returned (.tuple #[.agg zc.toArray, .int .i64 81])) W from fun W hb => by
      have h1 : r.has x = false := by unfold Dk.has; simp; omega
      have h2 : r.at_ x = zsec := by unfold Dk.at_; rw [if_neg (by omega)]
      unfold GetRes
      rw [h1, h2]
      exact ⟨rfl, hb⟩)
    clear hR hw3 p1 p2 h hq9
    rcases hbad with hbad | hbad
    all_goals
      first | (have d0 : decide (x < 0) = true := (by simpa using hbad); clear hbad) | (have d0 : decide (x < 0) = false := (by simp; omega); have d1 : decide ((r.base.length : Int) ≤ x) = true := (by simpa using hbad); clear hbad)
      go_enter Tryz.func74, Tryz.ntmps74
      go_wp2_with (first | (with_reducible refine wpList_boxA rfl _ _ rfl _ rfl ?_) | ((with_reducible refine wpList_allocA rfl isS rfl ?_); rw [← HW3.out]) | (with_reducible refine wpList_buildZ rfl rfl ?_) | (with_reducible refine wpList_storeW rfl isS _ _ rfl (w.heap.size + 1) zc zc.toArray _ rfl rfl HP2.out cs_zc (by simp [zc_len]) ?_))
      refine ret_cell_slot isS rfl rfl rfl (setRow_heap _ _ _ _ _ _ HP2.out) cs_zc rfl ?_
      exact HRES.out _ (below_setRow HB3.out (by omega))
  · have HX := Lib.hid (And.intro hx0 hxN)
    have d0 : decide (x < 0) = false := by simp; omega
    have d1 : decide ((r.base.length : Int) ≤ x) = false := by simp; omega
    have HXN := Lib.hid (show x = ((x.toNat : Nat) : Int) by omega)
    have HXL := Lib.hid (show x.toNat < r.base.length by omega)
    obtain ⟨bb, ob, ha0, hbb, hrb⟩ := (h.bs.below HB3.out).get (f := bcells) (n := 64) (i := x.toNat) (x := r.base.getD x.toNat []) (fun s hs => cells_len s (h.ok.bl s hs)) (by decide) (by rw [List.getD, List.getElem?_eq_getElem (by omega)]; rfl)
    obtain ⟨c, hc⟩ : ∃ c, c = bcells (outK r x 0) := ⟨_, rfl⟩
    have hc2 : c = bcells (r.base.getD x.toNat []) := hc
    rw [← hc2] at hrb
    have HRB := Lib.hid hrb
    have HC := Lib.hid hc
    have HCC := Lib.hid (show Cs 64 c by rw [hc]; exact cs_sec (outK_len h.ok ⟨hx0, hxN⟩ 0 (Nat.zero_le _)))
    obtain ⟨w6, hw6⟩ : ∃ w6, w6 = w3.alloc (.cells c.toArray 88) := ⟨_, rfl⟩
    have HW6 := Lib.hid (show (w3.alloc (.cells zc.toArray 88)).setRow w3.heap.size c.toArray = w6 by rw [hw6]; exact setRow_new rfl)
    have HAL := Lib.hid (heap_alloc_new w3 (.cells zc.toArray 88))
    have hb36 : RowKit.Below w3.heap.size w3 w6 := by rw [hw6]; exact (RowKit.Below.refl _ _).alloc (Nat.le_refl _) _
    have HB6 := Lib.hid (HB3.out.trans (hb36.mono HB3.out.size))
    have q1 : w6.cell? ⟨w.heap.size, 1, none⟩ = some (.slice a1 r.queue.length c1) := cell_bl HQ1.out hb36
    have HP26 := Lib.hid ((hb36.block _ (lt_of_heap HP2.out)).trans HP2.out)
    have HP6 := Lib.hid (show w6.heap[w3.heap.size]? = some (.cells c.toArray 88) by rw [hw6]; exact blkn rfl)
    have hz6 : w6.heap[w3.heap.size]? = some (.cells (bcells (outK r x 0)).toArray 88) := by rw [HP6.out, HC.out]
    have HZ6 := Lib.hid hz6
    subst ha0
    clear hR hw3 p1 p2 h hbb hc hc2 hrb hw6 hb36 hz6 hx0 hxN
    go_enter Tryz.func74, Tryz.ntmps74
    go_wp2_with (first | (with_reducible refine wpList_boxA rfl _ _ rfl _ rfl ?_) | ((with_reducible refine wpList_storeW rfl isS _ _ rfl w3.heap.size c zc.toArray _ rfl rfl HAL.out HCC.out (by simp [zc_len]) ?_); rw [HW6.out]) | ((with_reducible refine wpList_allocA rfl isS rfl ?_); (try rw [← HW3.out])) | (with_reducible refine wpList_idx elS rfl _ _ rfl x.toNat rfl rfl HXN.out HXL.out ?_) | (with_reducible refine wpList_loadM rfl isS _ rfl bb (ob + x.toNat * 64) c rfl HRB.out HCC.out ?_))
    clear q0 q1
    go_loopw [27] (fun c27 wr => ∃ k : Nat, c27 = .int .i64 (k : Int) ∧ k ≤ r.queue.length ∧ RowKit.Below w.heap.size w wr ∧ wr.heap[w3.heap.size]? = some (.cells (bcells (outK r x k)).toArray 88) ∧ wr.heap[w.heap.size + 1]? = some (.cells zc.toArray 88)) (fun c27 _ => r.queue.length - (match c27 with | .int _ q => q | _ => 0).toNat)
    case atStart => exact ⟨0, rfl, Nat.zero_le _, HB6.out, HZ6.out, HP26.out⟩
    case round =>
      obtain ⟨k, rfl, hk, hbw, h6, h2⟩ := hrel
      have HBW := Lib.hid hbw
      have H6 := Lib.hid h6
      have H2 := Lib.hid h2
      clear hbw h6 h2
      by_cases hlt : k < r.queue.length
      · obtain ⟨p, hp⟩ : ∃ p, r.queue[k]? = some p := ⟨_, List.getElem?_eq_getElem hlt⟩
        have HP := Lib.hid hp
        have HKL := Lib.hid hlt
        have hmem := List.mem_of_getElem? hp
        have HPL := Lib.hid (HM.out.ok.ql p hmem)
        obtain ⟨bq, oq, ha1, hbq, hrq⟩ := item_at (HM.out.qs.below HBW.out) HM.out.ok.ql hp
        obtain ⟨ci, hci⟩ : ∃ ci, ci = icell p := ⟨_, rfl⟩
        rw [← hci] at hrq
        have HCI := Lib.hid (show Cs 65 ci by rw [hci]; exact cs_item HPL.out)
        have HRQ := Lib.hid hrq
        have HA7z := Lib.hid (heap_alloc_new wr (.cells zi.toArray 90))
        have HSN := Lib.hid (show (wr.alloc (.cells zi.toArray 90)).setRow wr.heap.size ci.toArray = wr.alloc (.cells ci.toArray 90) from setRow_new rfl)
        obtain ⟨w7, hw7⟩ : ∃ w7, w7 = wr.alloc (.cells ci.toArray 90) := ⟨_, rfl⟩
        have HA7 := Lib.hid (show w7.heap[wr.heap.size]? = some (.cells ci.toArray 90) by rw [hw7]; exact heap_alloc_new wr _)
        have hb7 : RowKit.Below wr.heap.size wr w7 := by rw [hw7]; exact (RowKit.Below.refl _ _).alloc (Nat.le_refl _) _
        rw [← hw7] at HSN
        have HB7 := Lib.hid (HBW.out.trans (hb7.mono HBW.out.size))
        have H67 := Lib.hid ((hb7.block _ (lt_of_heap H6.out)).trans H6.out)
        have H27 := Lib.hid ((hb7.block _ (lt_of_heap H2.out)).trans H2.out)
        have e64 : w7.cell? ⟨wr.heap.size, 64, none⟩ = some (.int .i64 (p.1 : Int)) := by rw [cell_of_row _ _ _ _ _ _ HA7.out, hci]; simp [icell, cells_len _ HPL.out]
        have HRS := Lib.hid (show w7.rangeAt wr.heap.size 0 (bcells p.2) from fun j v hv => by
          have := range_row HA7.out j v (by rw [hci]; unfold icell; rw [List.getElem?_append_left (List.getElem?_eq_some_iff.1 hv).1]; exact hv)
          exact this)
        have HCB := Lib.hid (cs_sec HPL.out)
        have HOL := Lib.hid (cs_sec (outK_len HM.out.ok HX.out k hk))
        subst ha1
        clear hp hmem hbq hci hrq hb7 hw7
        by_cases he : (p.1 : Int) = x
        · have b0 : ((p.1 : Int) == x) = true := by simpa using he
          have HOS := Lib.hid (show outK r x (k + 1) = p.2 by rw [← he]; exact outK_same HP.out)
          clear he
          go_wp2_with (first | (with_reducible refine wpList_idx elI rfl _ _ rfl k rfl rfl rfl HKL.out ?_) | (with_reducible refine wpList_loadM rfl isI _ rfl bq (oq + k * 65) ci rfl HRQ.out HCI.out ?_) | (with_reducible refine wpList_allocA rfl isI rfl ?_) | ((with_reducible refine wpList_storeW rfl isI _ _ rfl wr.heap.size ci zi.toArray _ rfl rfl HA7z.out HCI.out (by simp [zi_len]) ?_); rw [HSN.out]) | (with_reducible refine wpList_loadM rfl isS _ rfl wr.heap.size 0 (bcells p.2) rfl HRS.out HCB.out ?_) | (with_reducible refine wpList_storeW rfl isS _ _ rfl w3.heap.size (bcells p.2) _ _ rfl rfl H67.out HCB.out (by simp [HOL.out.len]) ?_))
          go_roundw
          case rel => exact ⟨k + 1, by go_num, by have := HKL.out; omega, below_setRow HB7.out (by have := HB3.out.size; omega), by rw [HOS.out]; exact setRow_heap _ _ _ _ _ _ H67.out, (setRow_other _ _ _ _ (by have := HN3.out; omega)).trans H27.out⟩
          case measure => simp; have := HKL.out; omega
        · have b0 : ((p.1 : Int) == x) = false := by simpa using he
          have HOS := Lib.hid (show outK r x (k + 1) = outK r x k from outK_other HP.out (fun e => he e.symm))
          clear he
          go_wp2_with (first | (with_reducible refine wpList_idx elI rfl _ _ rfl k rfl rfl rfl HKL.out ?_) | (with_reducible refine wpList_loadM rfl isI _ rfl bq (oq + k * 65) ci rfl HRQ.out HCI.out ?_) | (with_reducible refine wpList_allocA rfl isI rfl ?_) | ((with_reducible refine wpList_storeW rfl isI _ _ rfl wr.heap.size ci zi.toArray _ rfl rfl HA7z.out HCI.out (by simp [zi_len]) ?_); rw [HSN.out]))
          go_roundw
          case rel => exact ⟨k + 1, by go_num, by have := HKL.out; omega, HB7.out, by rw [HOS.out]; exact H67.out, H27.out⟩
          case measure => simp; have := HKL.out; omega
      · obtain rfl : k = r.queue.length := by omega
        obtain ⟨co, hco⟩ : ∃ co, co = bcells (outK r x r.queue.length) := ⟨_, rfl⟩
        have hoc : Cs 64 co := by rw [hco]; exact cs_sec (outK_len HM.out.ok HX.out _ (Nat.le_refl _))
        have HCO := Lib.hid hoc
        have H66 := Lib.hid (show wr.heap[w3.heap.size]? = some (.cells co.toArray 88) by rw [H6.out, hco])
        have HFIN := Lib.hid (show ∀ W, RowKit.Below w.heap.size w W → GetRes r x w (.returned (.tuple #[.agg co.toArray, .int .i64 0])) W from fun W hb => by
          have h1 : r.has x = true := Dk.has_iff.2 HX.out
          unfold GetRes
          rw [h1, hco, outK_all HX.out]
          exact ⟨rfl, hb⟩)
        clear hco hoc hlt hk hq9
        go_wp2_with (first | (with_reducible refine wpList_loadW rfl isS _ rfl w3.heap.size co _ rfl H66.out HCO.out ?_) | (with_reducible refine wpList_storeW rfl isS _ _ rfl (w.heap.size + 1) co zc.toArray _ rfl rfl H2.out HCO.out (by simp [zc_len]) ?_))
        refine ret_cell_slot isS rfl rfl rfl (setRow_heap _ _ _ _ _ _ H2.out) HCO.out rfl ?_
        exact HFIN.out _ (below_setRow HBW.out (by omega))
end Go.Proofs.YtdfbpaajkpnaeaaGreat
