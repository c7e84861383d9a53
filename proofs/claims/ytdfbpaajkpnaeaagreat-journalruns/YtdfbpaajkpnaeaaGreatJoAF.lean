
/- falseworkref10: Need, Open. falseworkref10: Open. falseworkref10: Append. falseworkref12: Right, Room, Append. falseworkref12: Compact. falseworkref12: Format, Open. -/
import Derived.Test.YtdfbpaajkpnaeaaGreatSlDE
import Derived.Test.YtdfbpaajkpnaeaaGreatJnMP
import Derived.Test.YtdfbpaajkpnaeaaGreatPkLJ

namespace Go.Proofs.YtdfbpaajkpnaeaaGreat
set_option maxRecDepth 100000
open Go.RowKit Go.Lib

/-- a log of the document's: a disk, and three numbers -/
abbrev rlc (R : List Value) (x z : Int) (n : Nat) : List Value := R ++ [.int .i64 x, .int .i64 z, .int .u64 (n : Int)]
def zL : List Value := [.slice none 0 0, .slice none 0 0, .int .i64 0, .bool false, .int .i64 0, .int .i64 0, .int .u64 0]
theorem isL : IsAgg 39 7 zL := ⟨Tryz.zeroValue39, ⟨_, Tryz.underlying39, rfl⟩, by kernel_rfl, rfl⟩
theorem rlc_cs {R : List Value} (h : Cs 4 R) (x z : Int) (n : Nat) : Cs 7 (rlc R x z n) := ⟨by simp [h.len], fun u hu => by
  rcases List.mem_append.1 hu with e | e
  · exact h.one u e
  · simp at e
    rcases e with rfl | rfl | rfl <;> rfl⟩
/-! what is stored in a part of a row -/
theorem heap_setCells (b : Nat) (T : TypeId) : ∀ (vs pre mid rest : List Value) (w : World), mid.length = vs.length → w.heap[b]? = some (.cells (pre ++ mid ++ rest).toArray T) → (w.setCells b pre.length vs).heap[b]? = some (.cells (pre ++ vs ++ rest).toArray T)
  | [], pre, mid, rest, w, hl, h => by
    have : mid = [] := List.length_eq_zero_iff.1 hl
    subst this
    exact h
  | v :: r, pre, mid, rest, w, hl, h => by
    cases mid with
    | nil => simp at hl
    | cons m mid =>
      have h1 := heap_setCell_same w b pre.length _ T v h
      have e : (pre ++ m :: mid ++ rest).toArray.setIfInBounds pre.length v = ((pre ++ [v]) ++ mid ++ rest).toArray := by simp
      rw [e] at h1
      have := heap_setCells b T r (pre ++ [v]) mid rest _ (by simpa using hl) h1
      rw [World.setCells]
      simpa using this
theorem only_setCells (b : Nat) : ∀ (vs : List Value) (o : Nat) (w : World), Only (fun i => i = b) w (w.setCells b o vs)
  | [], _, w => Only.refl _ _
  | v :: r, o, w => by
    rw [World.setCells]
    exact (show Only (fun i => i = b) w (w.setCell ⟨b, o, none⟩ v) from ⟨rfl, rfl, rfl, by simp, fun i _ hn => setCell_other i hn⟩).trans (only_setCells b r (o + 1) _) fun _ e => Or.inl e
section
variable {ops : Array Oper} {rest : List Oper} {o : Oper} {a : Act} {w : World} {Q : Exit → Act → World → Prop}
theorem wpList_storeH (hgd : o.guard = none) {T : TypeId} {n : Nat} {z : List Value} (h : IsAgg T n z) (x y : Operand) (ho : o.op = .store T x y) (b : Nat) (c0 c c1 : List Value) (T' : TypeId) (hx : a.eval x = .pointer (some ⟨b, 0, none⟩)) (hy : a.eval y = .agg c.toArray) (hg : w.heap[b]? = some (.cells (c0 ++ c1).toArray T')) (h0 : c0.length = n) (hc : Cs n c)
    (hq : ∀ W, W.heap[b]? = some (.cells (c ++ c1).toArray T') → Only (fun i => i = b) w W → wpList Tryz.prog ops Q rest (a.put o.dst undef) W) : wpList Tryz.prog ops Q (o :: rest) a w := by
  refine wpList_store_mid hgd T x y ho b 0 c.toArray hx hy ?_ (by rw [h.size]; simp [hc.len]) (all_oneCell_toArray hc.one) (hq _ ?_ (by simpa using only_setCells b c 0 w))
  · intro j hj
    have hj' : j < c0.length := by rw [h0, ← hc.len]; simpa using hj
    refine ⟨?_, frozen_of_row w b _ _ _ hg⟩
    rw [cell_of_row w b _ _ _ _ hg]
    simp
    omega
  · have := heap_setCells b T' c [] c0 c1 w (by rw [h0, hc.len]) (by simpa using hg)
    simpa using this
theorem wpList_store1R (hgd : o.guard = none) (T : TypeId) (x y : Operand) (ho : o.op = .store T x y) (b k : Nat) (v : Value) (c : List Value) (T' : TypeId) (hx : a.eval x = .pointer (some ⟨b, k, none⟩)) (hy : a.eval y = v) (hv : (∃ q i, v = .int q i) ∨ ∃ q, v = .bool q) (hi : (Tryz.prog.info? T).map (·.size) = some 1) (hg : w.heap[b]? = some (.cells c.toArray T')) (hk : k < c.length)
    (hq : ∀ W, W.heap[b]? = some (.cells (c.set k v).toArray T') → Only (fun i => i = b) w W → wpList Tryz.prog ops Q rest (a.put o.dst undef) W) : wpList Tryz.prog ops Q (o :: rest) a w :=
  wpList_plain hgd fun K hK => by
    have hc : w.cell? ⟨b, k, none⟩ = some (c[k]) := by rw [cell_of_row w b _ _ _ _ hg]; simp [hk]
    have hf : w.frozen? ⟨b, k, none⟩ = false := frozen_of_row w b k _ _ hg
    have hr := hK _ _ (hq (w.setCell ⟨b, k, none⟩ v) (by rw [heap_setCell_same w b k _ _ v hg]; simp) ⟨rfl, rfl, rfl, by simp, fun i _ hn => setCell_other i hn⟩)
    cases hT : Tryz.prog.info? T with
    | none => rw [hT] at hi; cases hi
    | some t =>
      have hs : t.size = 1 := by rw [hT] at hi; simpa using hi
      unfold Oper.wp execOp
      simp only [ho, hx, hy, Instr.storeAt, Instr.sureAddr, Sem.run_bind, Sem.run_pure, Result.andThen_ok, storeVar, Go.sizeOf, typeInfo]
      rcases hv with ⟨q, i, rfl⟩ | ⟨q, rfl⟩
      · simp [hT, hs, Value.cells, storeCells, hc, hf, Addr.add, go_sem]
        exact hr
      · simp [hT, hs, Value.cells, storeCells, hc, hf, Addr.add, go_sem]
        exact hr
theorem four {R : List Value} (h : Cs 4 R) : ∃ v0 v1 v2 v3, R = [v0, v1, v2, v3] := by
  have := h.len
  match R, this with
  | [v0, v1, v2, v3], _ => exact ⟨v0, v1, v2, v3, rfl⟩
theorem builtL (v0 v1 v2 v3 : Value) (x z n : Int) : Tryz.prog.built 39 [(0, .agg #[v0, v1, v2, v3]), (1, .int .i64 x), (2, .int .i64 z), (3, .int .u64 n)] = some #[v0, v1, v2, v3, .int .i64 x, .int .i64 z, .int .u64 n] := by
  kernel_rfl
theorem wpList_buildL (hgd : o.guard = none) (x0 x1 x2 x3 : Operand) (ho : o.op = .build 39 #[(0, x0), (1, x1), (2, x2), (3, x3)]) (R : List Value) (x z n : Int) (hR : Cs 4 R) (h0 : a.eval x0 = .agg R.toArray) (h1 : a.eval x1 = .int .i64 x) (h2 : a.eval x2 = .int .i64 z) (h3 : a.eval x3 = .int .u64 n)
    (hq : wpList Tryz.prog ops Q rest (a.put o.dst (.agg (R ++ [Value.int .i64 x, Value.int .i64 z, Value.int .u64 n]).toArray)) w) : wpList Tryz.prog ops Q (o :: rest) a w := by
  obtain ⟨v0, v1, v2, v3, rfl⟩ := four hR
  exact wpList_plain hgd fun K hK => by
    unfold Oper.wp execOp
    simp only [ho, Sem.run_bind, List.map_toArray, List.map_cons, List.map_nil, h0, h1, h2, h3, run_build w _ _ _ (builtL v0 v1 v2 v3 x z n), Result.andThen_ok]
    exact hK _ _ hq
end
theorem rneed_any (n : Nat) (w : World) (hn : n ≤ 1000000) : Calls Tryz.prog 53 #[.int .i64 (n : Int)] w fun e w' => e = .returned (.int .i64 (needN (n : Int) : Int)) ∧ w = w' := by
  have d0 : decide ((n : Int) < 0) = false := by simp
  by_cases h : 4096 < n
  · have d1 : decide ((4096 : Int) < (n : Int)) = true := by simp; omega
    have H := Lib.hid (show needN (n : Int) = 0 by unfold needN; rw [if_neg (by omega)])
    clear h hn
    go_enter Tryz.func53, Tryz.ntmps53
    go_wp2
    go_ret
    exact ⟨by rw [H.out]; rfl, rfl⟩
  · have d1 : decide ((4096 : Int) < (n : Int)) = false := by simp; omega
    have hw : IntKind.i64.wrap ((n : Int) + 4) = ((n + 4 : Nat) : Int) := by rw [IntWalk.i64_in _ (by omega)]; omega
    have H := Lib.hid (show (needN (n : Int) : Int) = spanI ((n + 4 : Nat) : Int) by rw [needN_nat (by omega), spanI_nat])
    have HS := Lib.hid (rspan_any ((n + 4 : Nat) : Int) w)
    clear h hn
    go_enter Tryz.func53, Tryz.ntmps53
    go_wp2_with fail
    refine HS.out.mono ?_
    rintro _ _ ⟨rfl, rfl⟩
    go_wp2
    go_ret
    exact ⟨by rw [H.out, Int.natCast_add]; rfl, rfl⟩
/-- what Open tells -/
def ROpn (r : Dk) (R : List Value) (x z : Int) (n : Nat) (w : World) (e : Ending) (w' : World) : Prop :=
  ∃ v L y, e = .returned (.tuple #[.agg (rlc R y z (nextN r x z n)).toArray, v, .int .i64 0]) ∧ Run r z x n L y ∧ Own w' w.heap.size v L ∧ x ≤ y ∧ y ≤ z ∧ RowKit.Below w.heap.size w w'
end Go.Proofs.YtdfbpaajkpnaeaaGreat

namespace Go.Proofs.YtdfbpaajkpnaeaaGreat
set_option maxRecDepth 100000
open Go.RowKit Go.Lib

theorem own_mono {w : World} {base b2 : Nat} {v : Value} {K : List (List UInt8)} (h : Own w base v K) (hb : b2 ≤ base) : Own w b2 v K :=
  ⟨h.1, h.2.imp id fun ⟨g, cap, cur, hv, hg, r⟩ => ⟨g, cap, cur, hv, Nat.le_trans hb hg, r⟩⟩
theorem own_up' {w : World} {base : Nat} {v : Value} {K : List (List UInt8)} (h : Own w base v K) : ∀ i, v.ownBlock = some i → base ≤ i := fun i hi => (World.ownsRow.lt h i hi).1
theorem zL_size : zL.toArray.size = 7 := rfl
/-- the records so far -/
structure RP (w wr : World) (r : Dk) (x z : Int) (n : Nat) (v : Value) (L : List (List UInt8)) (y : Int) (m : Nat) : Prop where
  pre : Pre r z x n L y m
  own : Own wr w.heap.size v L
  bl : RowKit.Below w.heap.size w wr
  y0 : x ≤ y ∧ x + (L.length : Int) ≤ y ∧ y ≤ z
  m0 : m < 18446744073709551616
theorem RP.app {w wr w1 W : World} {r : Dk} {x z : Int} {n : Nat} {v v' : Value} {L : List (List UInt8)} {y y' : Int} {m m' : Nat} {l : List UInt8} (h : RP w wr r x z n v L y m) (hb : RowKit.Below wr.heap.size wr w1) (hp : Pre r z x n (L ++ [l]) y' m') (hy : y + 1 ≤ y') (hz : y' ≤ z) (hm : m' < 18446744073709551616)
    (ha : Appd (w1.alloc (.cells #[sv l] 9)) w.heap.size 9 1 v (L.length + 1) (L.map sv ++ [sv l]) v' W) : RP w W r x z n v' (L ++ [l]) y' m' := by
  obtain ⟨h0, h1, h2⟩ := h.y0
  refine ⟨hp, ?_, below_appd ha ((h.bl.trans (hb.mono h.bl.size)).alloc (Nat.le_trans h.bl.size hb.size) _) (by have := h.bl.size; have := hb.size; simp; omega) (fun i hi => (World.ownsRow.lt h.own i hi).1), ⟨by omega, by simp; omega, hz⟩, hm⟩
  have := ha.1
  unfold Own
  rw [List.length_append, List.map_append]
  exact this
set_option maxRecDepth 100000 in
set_option maxHeartbeats 3200000 in
theorem rlopen_any (r : Dk) (a0 : Option Addr) (c0 : Nat) (a1 : Option Addr) (c1 : Nat) (F : Nat → Prop) (x z : Int) (n : Nat) (w : World) (h : RM w F r a0 a1) (hx : 0 ≤ x ∧ x ≤ z ∧ z ≤ (r.base.length : Int)) (hn : n < 18446744073709551616) :
    Calls Tryz.prog 28 #[.agg (rcs r a0 c0 a1 c1).toArray, .int .i64 x, .int .i64 z, .int .u64 (n : Int)] w (ROpn r (rcs r a0 c0 a1 c1) x z n w) := by
  obtain ⟨R, hR⟩ : ∃ R, R = rcs r a0 c0 a1 c1 := ⟨_, rfl⟩
  have HRC := Lib.hid (show Cs 4 R by rw [hR]; exact rcs_cs _ _ _ _ _)
  obtain ⟨w0, hw0⟩ : ∃ w0, w0 = (w.alloc (.cells R.toArray 36)).alloc (.cells zL.toArray 39) := ⟨_, rfl⟩
  have HW0 := Lib.hid hw0.symm
  have HB0 := Lib.hid (show RowKit.Below w.heap.size w w0 by rw [hw0]; exact ((RowKit.Below.refl _ _).alloc (Nat.le_refl _) _).alloc (by simp) _)
  have hs0 : w0.heap.size = w.heap.size + 2 := by rw [hw0]; simp
  have HP4 := Lib.hid (fun (W : World) (hb : RowKit.Below w0.heap.size w0 W) => show W.heap[w.heap.size]? = some (.cells R.toArray 36) from (hb.block _ (by omega)).trans (by rw [hw0]; exact blk_in (blkn rfl)))
  have HP8 := Lib.hid (fun (W : World) (hb : RowKit.Below w0.heap.size w0 W) => show W.heap[w.heap.size + 1]? = some (.cells zL.toArray 39) from (hb.block _ (by omega)).trans (by rw [hw0]; exact blkn (by simp)))
  obtain ⟨N, hN⟩ : ∃ N, N = r.base.length := ⟨_, rfl⟩
  have p0 := HP4.out w0 (RowKit.Below.refl _ _)
  have q40 : w0.cell? ⟨w.heap.size, 0, none⟩ = some (.slice a0 N c0) := by rw [cell_of_row _ _ _ _ _ _ p0, hR, hN]; rfl
  have hsz := h.ok.sz
  rw [← hN] at hx hsz
  have HRM := Lib.hid (fun (W : World) (hb : RowKit.Below w0.heap.size w0 W) => (h.below HB0.out).below hb)
  have HTP := Lib.hid (rtop_any r a0 c0 a1 c1 F x z w0 (h.below HB0.out) (by unfold I; omega) (by unfold I; omega))
  have HRD := Lib.hid (fun (y : Int) (W : World) (hb : RowKit.Below w0.heap.size w0 W) (hy : I y) => rread_any r a0 c0 a1 c1 F y z W (HRM.out W hb) hy)
  obtain ⟨t, ht⟩ : ∃ t, t = topN r x (z - x).toNat := ⟨_, rfl⟩
  have htop : r.top x z = (t, 0) := by
    unfold Dk.top
    by_cases hxz : z ≤ x
    · rw [if_pos hxz, ht, show (z - x).toNat = 0 by omega]; rfl
    · rw [if_neg hxz, if_neg (by omega), ht]
  unfold TopRes at HTP
  rw [htop] at HTP
  have ht64 : t < 18446744073709551616 := by rw [ht]; exact topN_lt h.ok _ _
  have HSE := Lib.hid (show (n < t ∧ IntKind.u64.wrap ((t : Int) + 1) = ((nextN r x z n : Nat) : Int)) ∨ (¬ n < t ∧ IntKind.u64.wrap ((n : Int) + 1) = ((nextN r x z n : Nat) : Int)) by
    unfold nextN
    rw [← ht, IntKind.wrap_u64, IntKind.wrap_u64]
    omega)
  have HOK := Lib.hid h.ok
  have HIN := Lib.hid (fun (y : Int) e => read_in (d := r) (x := y) (z := z) e)
  have HRL := Lib.hid (fun (y : Int) => show (r.read y z).b.length ≤ 13515 from by
    by_cases e : (r.read y z).e = 0
    · exact (read_in e).2.2.2.2.2.2.2.1
    · unfold Dk.read readL at *
      split
      · exact Nat.zero_le _
      · next q =>
        rw [if_neg q] at e
        split
        · next q2 => rw [if_pos q2] at e; exact absurd rfl e
        · exact Nat.zero_le _)
  have HSN := Lib.hid (fun (w1 : World) (hb : RowKit.Below w0.heap.size w0 w1) => show RP w0 (w1.alloc (.cells #[] 9)) r x z n (.slice (some ⟨w1.heap.size, 0, none⟩) 0 0) [] x n from
    ⟨Pre.start _ _ _ _, own_start w0 w1 hb.size, hb.alloc hb.size _, ⟨Int.le_refl _, by simp, hx.2.1⟩, hn⟩)
  have HX := Lib.hid (show 0 ≤ x ∧ x ≤ z ∧ z ≤ 2048 by omega)
  have d0 : decide (x < 0) = false := by simp; omega
  have d1 : decide (z < x) = false := by simp; omega
  have d2 : decide ((N : Int) < z) = false := by simp; omega
  rw [← hR] at HTP HRD ⊢
  have HFIN := Lib.hid (fun (wr : World) (v : Value) (L : List (List UInt8)) (y : Int) (m : Nat) (hrp : RP w0 wr r x z n v L y m) (hst : (r.read y z).e ≠ 0 ∨ (r.read y z).n ≤ m ∨ okB (r.read y z).b = false) (w3 : World) (hb3 : RowKit.Below wr.heap.size wr w3) => show ROpn r R x z n w (.returned (.tuple #[.agg (rlc R y z (nextN r x z n)).toArray, v, .int .i64 0])) (w3.setRow (w.heap.size + 1) (rlc R y z (nextN r x z n)).toArray) from
    ⟨v, L, y, rfl, hrp.pre.done hst, own_mono ((hrp.own.below hb3).same fun i hi => setRow_other _ _ _ _ fun e => by have := own_up' hrp.own i hi; omega) (by omega), hrp.y0.1, hrp.y0.2.2, below_setRow (HB0.out.trans ((hrp.bl.trans (hb3.mono hrp.bl.size)).mono HB0.out.size)) (by omega)⟩)
  clear h hx hn hR hN hw0 hs0 hsz ht htop ht64 p0
  go_enter Tryz.func28, Tryz.ntmps28
  go_wp2_with (first | (with_reducible refine wpList_boxA rfl _ _ rfl _ rfl ?_) | ((with_reducible refine wpList_allocA rfl isL rfl ?_); rw [HW0.out]) | (with_reducible refine wpList_loadW rfl isD _ rfl w.heap.size R _ rfl (HP4.out _ (RowKit.Below.refl _ _)) HRC.out ?_))
  refine HTP.out.mono ?_
  rintro _ w1 ⟨rfl, hb1⟩
  have HS1 := Lib.hid (HSN.out w1 hb1)
  clear hb1 HTP HSN q40 d0 d1 d2
  go_wp2_with (with_reducible refine wpList_lit elT rfl rfl ?_)
  go_loopw [13, 14, 15] (fun c13 c14 c15 wr => ∃ (m : Nat) (v : Value) (L : List (List UInt8)) (y : Int), v = c13 ∧ c14 = .int .i64 y ∧ c15 = .int .u64 (m : Int) ∧ Hid (RP w0 wr r x z n v L y m)) (fun _ c14 _ _ => (z - (match c14 with | .int _ q => q | _ => 0)).toNat)
  case atStart => exact ⟨n, _, [], x, rfl, rfl, rfl, HS1.out⟩
  case round =>
    clear HS1
    obtain ⟨m, v, L, y, rfl, rfl, rfl, HP⟩ := hrel
    have hI : I y := by have := HP.out.y0; have := HX.out; unfold I; omega
    have HR1 := Lib.hid (HRD.out y wr HP.out.bl hI)
    have HST := Lib.hid (fun hst w3 hb3 => HFIN.out wr v L y m HP.out hst w3 hb3)
    have HIN1 := Lib.hid (HIN.out y)
    have HRL1 := Lib.hid (HRL.out y)
    have HN64 := Lib.hid (read_n_lt HOK.out y z)
    have HNX := Lib.hid (fun (e1 : (r.read y z).e = 0) (e2 : m < (r.read y z).n) (e3 : okB (r.read y z).b = true) => HP.out.pre.next e1 e2 e3)
    have HPW := Lib.hid (fun (W : World) (hb : RowKit.Below wr.heap.size wr W) => show RowKit.Below w0.heap.size w0 W from HP.out.bl.trans (hb.mono HP.out.bl.size))
    have P4 := Lib.hid (HP4.out wr HP.out.bl)
    obtain ⟨q, hq⟩ : ∃ q, q = r.read y z := ⟨_, rfl⟩
    rw [← hq] at HR1 HST HIN1 HRL1 HNX HN64
    obtain ⟨rb, rn, rm, re⟩ := q
    simp only at HST HIN1 HRL1 HNX HN64
    clear hq hI
    go_wp2_with (with_reducible refine wpList_loadW rfl isD _ rfl w.heap.size R _ rfl P4.out HRC.out ?_)
    refine HR1.out.mono ?_
    rintro _ w3 ⟨a3, c3, rfl, hba, hlc, hnn, hb3⟩
    simp only at hba hlc hnn
    have HRO := Lib.hid (ropen_any a3 rb c3 w3 hba hnn hlc (by have := HRL1.out; omega))
    have HBA := Lib.hid hba
    have HB3 := Lib.hid hb3
    clear hba hlc hnn hb3 HR1 P4
    go_wp2_with fail
    refine HRO.out.mono ?_
    rintro _ w4 (⟨ho, rfl, hb4⟩ | ⟨ho, rfl, hb4⟩)
    · have HO := Lib.hid ((okay_iff rb).1 ho)
      have HB4 := Lib.hid (HB3.out.trans (hb4.mono HB3.out.size))
      have P4 := Lib.hid (HP4.out w4 (HPW.out w4 HB4.out))
      have P8 := Lib.hid (HP8.out w4 (HPW.out w4 HB4.out))
      have HBA4 := Lib.hid (BAt.take (HBA.out.below hb4) (rb.length - 4))
      clear ho hb4 HRO
      by_cases he : re = 0
      · subst he
        by_cases hn : rn ≤ m
        · have d3 : decide ((rn : Int) ≤ (m : Int)) = true := by simp; omega
          have d4 : decide (rn ≤ m) = true := by simp; omega
          have HR := Lib.hid (HST.out (Or.inr (Or.inl hn)) w4 HB4.out)
          rcases HSE.out with ⟨hnt, hse⟩ | ⟨hnt, hse⟩ <;> (
            clear hn
            go_wp2_with (first | (with_reducible refine wpList_loadW rfl isD _ rfl w.heap.size R _ rfl P4.out HRC.out ?_) | (with_reducible refine wpList_buildL rfl _ _ _ _ rfl R y z _ HRC.out rfl rfl rfl rfl ?_) | (with_reducible refine wpList_storeW rfl isL _ _ rfl (w.heap.size + 1) (rlc R y z (nextN r x z n)) _ _ rfl rfl P8.out (rlc_cs HRC.out _ _ _) zL_size ?_))
            (try simp only [Exit.inBlock, Exit.then])
            refine ret_cell_slot3 isL rfl rfl rfl rfl (setRow_heap _ _ _ _ _ _ P8.out) (rlc_cs HRC.out _ _ _) rfl ?_
            exact HR.out)
        · have d3 : decide ((rn : Int) ≤ (m : Int)) = false := by simp; omega
          have d4 : decide (rn ≤ m) = false := by simp; omega
          have HN := Lib.hid (show m < rn by omega)
          obtain ⟨i1, i2, i3, i4, i5, i6, i7, i8, i10⟩ := HIN1.out (by first | rfl | trivial)
          have HI5 := Lib.hid (show y + 1 ≤ y + (rm : Int) ∧ y + (rm : Int) ≤ z from ⟨by omega, i5⟩)
          have HNX2 := Lib.hid (HNX.out (by first | rfl | trivial) HN.out HO.out)
          have hcl : (cutB rb).length = rb.length - 4 := by unfold cutB; rw [List.length_take]; omega
          have HBQ := Lib.hid (show BAt w4 a3 (cutB rb) from HBA4.out)
          have cv := run_conv HBQ.out (rb.length - 4) c3 hcl
          have hwx : IntKind.i64.wrap (y + (rm : Int)) = y + (rm : Int) := IntWalk.i64_in _ (by have := HP.out.y0; have := HX.out; omega)
          have HLL := Lib.hid (show L.length + 1 ≤ 1000000 by have := HP.out.y0; have := HX.out; omega)
          have HOV := Lib.hid (show w4.ownsRow w0.heap.size 9 1 v L.length (L.map sv) from HP.out.own.below HB4.out)
          have HW4 := Lib.hid (show w0.heap.size ≤ w4.heap.size from Nat.le_trans HP.out.bl.size HB4.out.size)
          obtain ⟨l, hl⟩ : ∃ l, l = cutB rb := ⟨_, rfl⟩
          rw [← hl] at cv HNX2
          clear hn i1 i2 i3 i4 i5 i6 i7 i8 i10 hcl hl HIN1 HST HNX HBQ HBA4
          go_wp2_with (at_builtin; refine wpList_appO elT rfl _ _ rfl w0.heap.size v L.length (L.map sv) (some ⟨w4.heap.size, 0, none⟩) 1 1 [sv l] rfl rfl (ow_same HOV.out fun i hi => heap_alloc_old w4 _ (HOV.out.lt i hi).2) rfl (lie_new w4 [sv l] 9) (fun e => by cases e) (fun u hu => by rw [List.mem_singleton.1 hu]; rfl) HLL.out (by decide) (by simp; exact Nat.le_of_lt (Nat.lt_succ_of_le HW4.out)) ?_; intro v5 w5 h5; have HA5 := Lib.hid h5; clear h5)
          go_roundw
          case rel => exact ⟨rn, _, L ++ [l], y + (rm : Int), rfl, rfl, rfl, HP.out.app HB4.out HNX2.out HI5.out.1 HI5.out.2 HN64.out HA5.out⟩
          case measure => have h1 := HI5.out; simp; omega
      · have d3 : (re == 0) = false := by simpa using he
        have d4 : (re != 0) = true := by simpa using he
        have HR := Lib.hid (HST.out (Or.inl he) w4 HB4.out)
        rcases HSE.out with ⟨hnt, hse⟩ | ⟨hnt, hse⟩ <;> (
          clear he
          go_wp2_with (first | (with_reducible refine wpList_loadW rfl isD _ rfl w.heap.size R _ rfl P4.out HRC.out ?_) | (with_reducible refine wpList_buildL rfl _ _ _ _ rfl R y z _ HRC.out rfl rfl rfl rfl ?_) | (with_reducible refine wpList_storeW rfl isL _ _ rfl (w.heap.size + 1) (rlc R y z (nextN r x z n)) _ _ rfl rfl P8.out (rlc_cs HRC.out _ _ _) zL_size ?_))
          (try simp only [Exit.inBlock, Exit.then])
          refine ret_cell_slot3 isL rfl rfl rfl rfl (setRow_heap _ _ _ _ _ _ P8.out) (rlc_cs HRC.out _ _ _) rfl ?_
          exact HR.out)
    · have HO := Lib.hid (show okB rb = false by
        cases hh : okB rb with
        | false => rfl
        | true => exact absurd ((okay_iff rb).2 hh) ho)
      have HB4 := Lib.hid (HB3.out.trans (hb4.mono HB3.out.size))
      have P4 := Lib.hid (HP4.out w4 (HPW.out w4 HB4.out))
      have P8 := Lib.hid (HP8.out w4 (HPW.out w4 HB4.out))
      have HR := Lib.hid (HST.out (Or.inr (Or.inr HO.out)) w4 HB4.out)
      rcases HSE.out with ⟨hnt, hse⟩ | ⟨hnt, hse⟩ <;> (
        clear ho hb4 HRO
        by_cases he : re = 0
        · subst he
          go_wp2_with (first | (with_reducible refine wpList_loadW rfl isD _ rfl w.heap.size R _ rfl P4.out HRC.out ?_) | (with_reducible refine wpList_buildL rfl _ _ _ _ rfl R y z _ HRC.out rfl rfl rfl rfl ?_) | (with_reducible refine wpList_storeW rfl isL _ _ rfl (w.heap.size + 1) (rlc R y z (nextN r x z n)) _ _ rfl rfl P8.out (rlc_cs HRC.out _ _ _) zL_size ?_))
          (try simp only [Exit.inBlock, Exit.then])
          refine ret_cell_slot3 isL rfl rfl rfl rfl (setRow_heap _ _ _ _ _ _ P8.out) (rlc_cs HRC.out _ _ _) rfl ?_
          exact HR.out
        · have d3 : (re == 0) = false := by simpa using he
          have d4 : (re != 0) = true := by simpa using he
          clear he
          go_wp2_with (first | (with_reducible refine wpList_loadW rfl isD _ rfl w.heap.size R _ rfl P4.out HRC.out ?_) | (with_reducible refine wpList_buildL rfl _ _ _ _ rfl R y z _ HRC.out rfl rfl rfl rfl ?_) | (with_reducible refine wpList_storeW rfl isL _ _ rfl (w.heap.size + 1) (rlc R y z (nextN r x z n)) _ _ rfl rfl P8.out (rlc_cs HRC.out _ _ _) zL_size ?_))
          (try simp only [Exit.inBlock, Exit.then])
          refine ret_cell_slot3 isL rfl rfl rfl rfl (setRow_heap _ _ _ _ _ _ P8.out) (rlc_cs HRC.out _ _ _) rfl ?_
          exact HR.out)
end Go.Proofs.YtdfbpaajkpnaeaaGreat

namespace Go.Proofs.YtdfbpaajkpnaeaaGreat
set_option maxRecDepth 100000
open Go.RowKit Go.Lib

/-! a drawn region that makes a disk: when the new block comes is open -/
structure K4 (w3 W : World) (y : Option Nat) : Prop where
  bl : RowKit.Below w3.heap.size w3 W
  hy : ∀ b, y = some b → w3.heap.size ≤ b ∧ W.heap[b]? = some (.cells zD.toArray 36)
theorem K4.start (w3 : World) : K4 w3 w3.drew none := ⟨⟨rfl, rfl, rfl, Nat.le_refl _, fun _ _ => rfl⟩, nofun⟩
theorem K4.call {w3 W W' : World} {y : Option Nat} (h : K4 w3 W y) (hb : RowKit.Below W.heap.size W W') : K4 w3 W' y :=
  ⟨h.bl.trans (hb.mono h.bl.size), fun b e => ⟨(h.hy b e).1, (hb.block _ (lt_of_heap (h.hy b e).2)).trans (h.hy b e).2⟩⟩
theorem K4.ay {w3 W W' : World} {b : Nat} (h : K4 w3 W none) (he : b = W.heap.size) (hb : RowKit.Below W.heap.size W W') (hn : W'.heap[b]? = some (.cells zD.toArray 36)) : K4 w3 W' (some b) :=
  ⟨(h.call hb).bl, fun c e => by cases e; exact ⟨he ▸ h.bl.size, hn⟩⟩
/-- the document's next disk is there, apart from F and from the new block -/
def E4 (F : Nat → Prop) (r : Dk) (R : List Value) (W : World) (y : Option Nat) : Prop := ∃ (G : Nat → Prop), Val W G r R ∧ (∀ i, F i → G i) ∧ ∀ b, y = some b → G b
theorem Val.add {w w' : World} {F G : Nat → Prop} {r : Dk} {R : List Value} (h : Val w G r R) (hb : RowKit.Below w.heap.size w w') (hF : ∀ i, F i → G i ∨ w.heap.size ≤ i) : Val w' F r R := by
  obtain ⟨a0, c0, a1, c1, e, k⟩ := h
  exact ⟨a0, c0, a1, c1, e, (k.grow hb).sub hF⟩
theorem Val.sub {w : World} {F G : Nat → Prop} {r : Dk} {R : List Value} (h : Val w G r R) (hF : ∀ i, F i → G i) : Val w F r R := by
  obtain ⟨a0, c0, a1, c1, e, k⟩ := h
  exact ⟨a0, c0, a1, c1, e, k.sub hF⟩
theorem Val.only {w w' : World} {G : Nat → Prop} {r : Dk} {R : List Value} (h : Val w G r R) (ho : Only G w w') : Val w' G r R := by
  obtain ⟨a0, c0, a1, c1, e, k⟩ := h
  exact ⟨a0, c0, a1, c1, e, k.same ho⟩
theorem E4.call {F : Nat → Prop} {W W' : World} {r : Dk} {R : List Value} {y : Option Nat} (h : E4 F r R W y) (hb : RowKit.Below W.heap.size W W') : E4 F r R W' y := by
  obtain ⟨G, h1, h3, h4⟩ := h
  exact ⟨G, h1.below hb, h3, h4⟩
theorem E4.ay {F : Nat → Prop} {W W' : World} {r : Dk} {R : List Value} {b : Nat} (h : E4 F r R W none) (he : b = W.heap.size) (hb : RowKit.Below W.heap.size W W') : E4 F r R W' (some b) := by
  obtain ⟨G, h1, h3, _⟩ := h
  exact ⟨fun i => G i ∨ i = b, h1.add hb fun i hi => hi.elim Or.inl fun e => Or.inr (by omega), fun i hi => Or.inl (h3 i hi), fun c e => by cases e; exact Or.inr rfl⟩
theorem E4.cs {F : Nat → Prop} {W : World} {r : Dk} {R : List Value} {y : Option Nat} (h : E4 F r R W y) : Cs 4 R := by
  obtain ⟨G, h1, _⟩ := h
  exact h1.cs
/-- and now it lies in block b -/
def M4 (F : Nat → Prop) (w3 : World) (r : Dk) (b : Nat) (R : List Value) (W : World) : Prop := RowKit.Below w3.heap.size w3 W ∧ w3.heap.size ≤ b ∧ W.heap[b]? = some (.cells R.toArray 36) ∧ Val W (fun i => F i ∨ i = b) r R
theorem E4.fin {F : Nat → Prop} {w3 W : World} {r : Dk} {R : List Value} {b : Nat} (h : E4 F r R W (some b)) (k : K4 w3 W (some b)) : M4 F w3 r b R (W.setRow b R.toArray) := by
  obtain ⟨G, h1, h3, h4⟩ := h
  have hk := k.hy b rfl
  exact ⟨below_setRow k.bl hk.1, hk.1, setRow_heap _ _ _ _ _ _ hk.2, (h1.only (only_row (h4 b rfl))).sub fun i hi => hi.elim (h3 i) fun e => e ▸ h4 b rfl⟩
theorem wp_then4 {P : Program} {c : Code} {Q : Exit → Act → World → Prop} {a : Act} {w : World} (M : Nat → List Value → Option Addr → Nat → World → Prop) {A : Nat → List Value → Option Addr → Nat → Act} (h : c.wp P (fun e a' w' => e = .normal ∧ ∃ x y z t, a' = A x y z t ∧ M x y z t w') a w) (hQ : ∀ x y z t W, M x y z t W → Q .normal (A x y z t) W) : c.wp P Q a w :=
  Code.wp_mono (fun e a' w' hh => by obtain ⟨rfl, x, y, z, t, rfl, h2⟩ := hh; exact hQ x y z t w' h2) h
theorem jallocD {o : Oper} {a : Act} {w : World} {K : Act → World → Prop} {Q : Exit → Act → World → Prop} (ho : o.op = .alloc 36)
    (hq : ∀ b W, b = w.heap.size → RowKit.Below w.heap.size w W → W.heap[b]? = some (.cells zD.toArray 36) → K (a.put o.dst (.pointer (some ⟨b, 0, none⟩))) W) : o.wp Tryz.prog a w K Q :=
  wp_allocA isD ho (hq _ _ rfl ((RowKit.Below.refl _ _).alloc (Nat.le_refl _) _) (heap_alloc_new w _))
theorem jstoreD {o : Oper} {a : Act} {w : World} {K : Act → World → Prop} {Q : Exit → Act → World → Prop} (x y : Operand) (ho : o.op = .store 36 x y) (b : Nat) (c old : List Value) (hx : a.eval x = .pointer (some ⟨b, 0, none⟩)) (hy : a.eval y = .agg c.toArray) (hg : w.heap[b]? = some (.cells old.toArray 36)) (hl : old.length = 4) (hc : Cs 4 c)
    (hq : K (a.put o.dst undef) (w.setRow b c.toArray)) : o.wp Tryz.prog a w K Q :=
  wp_store_row _ _ _ ho b c.toArray hx hy _ old.toArray hg (by rw [isD.size]; simp [hc.len]) (by simp [hl, hc.len]) (all_oneCell_toArray hc.one) hq
/-- a thing in block b2 whose disk is r, a result in b4, a disk in b7 -/
structure LP (w W : World) (F : Nat → Prop) (T T7 : TypeId) (b2 b4 b7 : Nat) (c2 z4 R7 : List Value) (r : Dk) (R : List Value) : Prop where
  h2 : W.heap[b2]? = some (.cells c2.toArray T)
  h4 : W.heap[b4]? = some (.cells z4.toArray T)
  h7 : W.heap[b7]? = some (.cells R7.toArray T7)
  vv : Val W (fun i => F i ∨ i = b2 ∨ i = b4 ∨ i = b7) r R
  bl : RowKit.Below w.heap.size w W
  s2 : w.heap.size ≤ b2
  s4 : w.heap.size ≤ b4
  s7 : w.heap.size ≤ b7
  n24 : b2 ≠ b4
  n27 : b2 ≠ b7
  n47 : b4 ≠ b7
  fl : ∀ i, F i → i < w.heap.size
section
variable {w W W' : World} {F : Nat → Prop} {T T7 : TypeId} {b2 b4 b7 : Nat} {c2 z4 R7 : List Value} {r : Dk} {R : List Value}
theorem LP.below (h : LP w W F T T7 b2 b4 b7 c2 z4 R7 r R) (hb : RowKit.Below W.heap.size W W') : LP w W' F T T7 b2 b4 b7 c2 z4 R7 r R :=
  ⟨(hb.block _ (lt_of_heap h.h2)).trans h.h2, (hb.block _ (lt_of_heap h.h4)).trans h.h4, (hb.block _ (lt_of_heap h.h7)).trans h.h7, h.vv.below hb, h.bl.trans (hb.mono h.bl.size), h.s2, h.s4, h.s7, h.n24, h.n27, h.n47, h.fl⟩
theorem LP.gl (h : LP w W F T T7 b2 b4 b7 c2 z4 R7 r R) : ∀ i, (F i ∨ i = b2 ∨ i = b4 ∨ i = b7) → i < W.heap.size := fun i hi => by
  rcases hi with e | e | e | e
  · exact Nat.lt_of_lt_of_le (h.fl i e) h.bl.size
  · rw [e]; exact lt_of_heap h.h2
  · rw [e]; exact lt_of_heap h.h4
  · rw [e]; exact lt_of_heap h.h7
theorem LP.set2 (h : LP w W F T T7 b2 b4 b7 c2 z4 R7 r R) {c : List Value} (e : W'.heap[b2]? = some (.cells c.toArray T)) (ho : Only (fun i => i = b2) W W') : LP w W' F T T7 b2 b4 b7 c z4 R7 r R :=
  ⟨e, ho.at_ h.h4 (fun e => h.n24 e.symm), ho.at_ h.h7 (fun e => h.n27 e.symm), h.vv.only (ho.mono fun _ e => Or.inr (Or.inl e)), Only.below h.bl ho (fun _ e => e ▸ h.s2) h.bl.size, h.s2, h.s4, h.s7, h.n24, h.n27, h.n47, h.fl⟩
theorem LP.set7 (h : LP w W F T T7 b2 b4 b7 c2 z4 R7 r R) {r' : Dk} {R' : List Value} (hv : Val W (fun i => F i ∨ i = b2 ∨ i = b4 ∨ i = b7) r' R') (c : List Value) : LP w (W.setRow b7 c.toArray) F T T7 b2 b4 b7 c2 z4 c r' R' :=
  ⟨(setRow_other _ _ _ _ h.n27).trans h.h2, (setRow_other _ _ _ _ h.n47).trans h.h4, setRow_heap _ _ _ _ _ _ h.h7, hv.only (only_row (Or.inr (Or.inr (Or.inr rfl)))), below_setRow h.bl h.s7, h.s2, h.s4, h.s7, h.n24, h.n27, h.n47, h.fl⟩
theorem LP.fin (h : LP w W F T T7 b2 b4 b7 c2 z4 R7 r R) (c : Array Value) : Val (W.setRow b4 c) F r R ∧ RowKit.Below w.heap.size w (W.setRow b4 c) :=
  ⟨(h.vv.only (only_row (Or.inr (Or.inr (Or.inl rfl))))).sub fun _ hi => Or.inl hi, below_setRow h.bl h.s4⟩
theorem LP.flush (h : LP w W F T T7 b2 b4 b7 c2 z4 R7 r R) :
    Calls Tryz.prog 56 #[.agg R.toArray] W fun e w' => ∃ R', e = .returned (.tuple #[.agg R'.toArray, .int .i64 r.actE]) ∧ Val w' (fun i => F i ∨ i = b2 ∨ i = b4 ∨ i = b7) r.flush R' ∧ RowKit.Below W.heap.size W w' := by
  obtain ⟨a0, c0, a1, c1, e, k⟩ := h.vv
  rw [e]
  refine (rflush_any r a0 c0 a1 c1 _ W h.gl k).mono ?_
  rintro _ w' ⟨A0, C0, A1, C1, rfl, k1, k2⟩
  exact ⟨_, rfl, ⟨A0, C0, A1, C1, rfl, k1⟩, k2⟩
end
theorem range_head {w : World} {g : Nat} {c c' : List Value} {T : TypeId} {fr : Nat × Nat} (h : w.heap[g]? = some (.cells (c ++ c').toArray T fr)) : w.rangeAt g 0 c := fun j v hv => by
  rw [Nat.zero_add, cell_of_row w g j _ T fr h]
  have hj := (List.getElem?_eq_some_iff.1 hv).1
  simp only [List.getElem?_toArray]
  rw [List.getElem?_append_left hj]
  exact hv
/-- what Append leaves -/
def RLApp (F : Nat → Prop) (r : Dk) (x z : Int) (n : Nat) (l : List UInt8) (w : World) (e : Ending) (w' : World) : Prop :=
  ∃ R', e = .returned (.tuple #[.agg (rlc R' (if (r.app x z n l).2 = 0 then x + (spanN (l.length + 4) : Int) else x) z (if (r.app x z n l).2 = 0 then n + 1 else n)).toArray, .int .i64 (r.app x z n l).2]) ∧ Val w' F (r.app x z n l).1 R' ∧ RowKit.Below w.heap.size w w'
theorem RLApp.mk' {F : Nat → Prop} {r : Dk} {x z : Int} {n : Nat} {l : List UInt8} {w w' : World} {R' : List Value} {r' : Dk} {E x' : Int} {n' : Nat} (h1 : r.app x z n l = (r', E)) (h2 : x' = if E = 0 then x + (spanN (l.length + 4) : Int) else x) (h3 : n' = if E = 0 then n + 1 else n) (h4 : Val w' F r' R') (h5 : RowKit.Below w.heap.size w w') :
    RLApp F r x z n l w (.returned (.tuple #[.agg (rlc R' x' z n').toArray, .int .i64 E])) w' := by
  unfold RLApp
  rw [h1]
  exact ⟨R', by rw [h2, h3], h4, h5⟩
set_option maxRecDepth 100000 in
set_option maxHeartbeats 6400000 in
theorem rlappend_any (r : Dk) (R : List Value) (F : Nat → Prop) (x z : Int) (n : Nat) (l : List UInt8) (a : Option Addr) (len cap : Nat) (w : World) (hF : ∀ i, F i → i < w.heap.size) (h : Val w F r R) (hx : 0 ≤ x ∧ x ≤ z ∧ z ≤ 2048) (hn : n + 1 < 18446744073709551616) (hb : BAt w a l) (hl : l.length = len) (ha : a = none → l = []) (hm : len ≤ 500000) (hq : r.queue.length < 9700) :
    Calls Tryz.prog 31 #[.agg (rlc R x z n).toArray, .slice a len cap] w (RLApp F r x z n l w) := by
  have HRC := Lib.hid h.cs
  have HLC := Lib.hid (rlc_cs h.cs x z n)
  obtain ⟨w3, hw3⟩ : ∃ w3, w3 = (w.alloc (.cells (rlc R x z n).toArray 39)).alloc (.cells zL.toArray 39) := ⟨_, rfl⟩
  have HB3 := Lib.hid (show RowKit.Below w.heap.size w w3 by rw [hw3]; exact ((RowKit.Below.refl _ _).alloc (Nat.le_refl _) _).alloc (by simp) _)
  have HN3 := Lib.hid (show w3.heap.size = w.heap.size + 2 by rw [hw3]; simp)
  have HP2 := Lib.hid (show w3.heap[w.heap.size]? = some (.cells (rlc R x z n).toArray 39) by rw [hw3]; exact blk_in (blkn rfl))
  have HP4 := Lib.hid (show w3.heap[w.heap.size + 1]? = some (.cells zL.toArray 39) by rw [hw3]; exact blkn (by simp))
  have HW3 := Lib.hid hw3.symm
  have HND := Lib.hid (rneed_any len w3 (by omega))
  have HV3 := Lib.hid (h.below HB3.out)
  have HV3F := Lib.hid (show Val w3 (fun i => F i ∨ i = w.heap.size ∨ i = w.heap.size + 1) r R from h.add HB3.out fun i hi => hi.imp id fun e => by omega)
  have HF := Lib.hid hF
  have HLN := Lib.hid hl
  have hR4 := four h.cs
  have HCX := Lib.hid (show w3.cell? ⟨w.heap.size, 4, none⟩ = some (.int .i64 x) ∧ w3.cell? ⟨w.heap.size, 5, none⟩ = some (.int .i64 z) ∧ w3.cell? ⟨w.heap.size, 6, none⟩ = some (.int .u64 (n : Int)) by
    obtain ⟨v0, v1, v2, v3, e⟩ := hR4
    refine ⟨?_, ?_, ?_⟩ <;> (rw [cell_of_row _ _ _ _ _ _ HP2.out, e]; rfl))
  have HWX := Lib.hid (show I x ∧ I (z - x) by unfold I; omega)
  by_cases h1 : 4096 < len
  · have HM := Lib.hid (show needN (len : Int) = 0 by unfold needN; rw [if_neg (by omega)])
    have HFN := Lib.hid (show RLApp F r x z n l w (.returned (.tuple #[.agg (rlc R x z n).toArray, .int .i64 101])) (w3.setRow (w.heap.size + 1) (rlc R x z n).toArray) from
      RLApp.mk' (by unfold Dk.app; rw [if_pos (by omega)]) rfl rfl ((HV3F.out.only (only_row (Or.inr (Or.inr rfl)))).sub fun i hi => Or.inl hi) (below_setRow HB3.out (by omega)))
    rw [HM.out] at HND
    clear h hx hn hb hl ha hm hq hF hw3 hR4 h1 HWX HCX
    go_enter Tryz.func31, Tryz.ntmps31
    go_wp2_with (first | (with_reducible refine wpList_boxA rfl _ _ rfl _ rfl ?_) | ((with_reducible refine wpList_allocA rfl isL rfl ?_); rw [HW3.out]))
    refine HND.out.mono ?_
    rintro _ _ ⟨rfl, rfl⟩
    go_wp2_with (first | (with_reducible refine wpList_loadW rfl isL _ rfl w.heap.size (rlc R x z n) _ rfl HP2.out HLC.out ?_) | (with_reducible refine wpList_storeW rfl isL _ _ rfl (w.heap.size + 1) (rlc R x z n) _ _ rfl rfl HP4.out HLC.out zL_size ?_))
    refine ret_cell_slot isL rfl rfl rfl (setRow_heap _ _ _ _ _ _ HP4.out) HLC.out rfl ?_
    exact HFN.out
  · obtain ⟨M, hM⟩ : ∃ M, M = spanN (l.length + 4) := ⟨_, rfl⟩
    have hMN : needN (len : Int) = M := by rw [needN_nat (by omega), hM, hl]
    have hM1 : 1 ≤ M ∧ M ≤ 255 := by have := spanN_le (l.length + 4); rw [hM]; refine ⟨?_, this⟩; unfold spanN; rw [if_pos (by omega)]; omega
    have d0 : ((M : Int) == 0) = false := by simp; omega
    rw [hMN] at HND
    have q5 := HCX.out.2.1
    have q4 := HCX.out.1
    have hzx : IntKind.i64.wrap (z - x) = z - x := IntWalk.i64_in _ (by omega)
    by_cases h2 : z - x < (M : Int)
    · have d1 : decide (z - x < (M : Int)) = true := by simpa using h2
      have HFN := Lib.hid (show RLApp F r x z n l w (.returned (.tuple #[.agg (rlc R x z n).toArray, .int .i64 102])) (w3.setRow (w.heap.size + 1) (rlc R x z n).toArray) from
        RLApp.mk' (by unfold Dk.app; rw [if_neg (by omega), if_pos (by omega)]) rfl rfl ((HV3F.out.only (only_row (Or.inr (Or.inr rfl)))).sub fun i hi => Or.inl hi) (below_setRow HB3.out (by omega)))
      clear h hx hn hb hl ha hm hq hF hw3 hR4 h1 h2 HWX HCX hM hMN hM1
      go_enter Tryz.func31, Tryz.ntmps31
      go_wp2_with (first | (with_reducible refine wpList_boxA rfl _ _ rfl _ rfl ?_) | ((with_reducible refine wpList_allocA rfl isL rfl ?_); rw [HW3.out]))
      refine HND.out.mono ?_
      rintro _ _ ⟨rfl, rfl⟩
      go_wp2_with (first | (with_reducible refine wpList_loadW rfl isL _ rfl w.heap.size (rlc R x z n) _ rfl HP2.out HLC.out ?_) | (with_reducible refine wpList_storeW rfl isL _ _ rfl (w.heap.size + 1) (rlc R x z n) _ _ rfl rfl HP4.out HLC.out zL_size ?_))
      refine ret_cell_slot isL rfl rfl rfl (setRow_heap _ _ _ _ _ _ HP4.out) HLC.out rfl ?_
      exact HFN.out
    · have d1 : decide (z - x < (M : Int)) = false := by simp; omega
      obtain ⟨C, hC⟩ : ∃ C, C = closed l := ⟨_, rfl⟩
      have hCl : C.length = l.length + 4 := by rw [hC, closed_len]
      have HCL := Lib.hid (fun (W : World) (hbl : RowKit.Below w3.heap.size w3 W) => rclose_any a l len cap W ((hb.below HB3.out).below hbl) hl ha hm)
      rw [show l ++ sealL l = C from hC.symm] at HCL
      obtain ⟨p, hp⟩ : ∃ p, p = r.write x n C := ⟨_, rfl⟩
      have HAP := Lib.hid (show r.app x z n l = if p.2 = 0 then (p.1.flush, p.1.actE) else p by unfold Dk.app; rw [if_neg (by omega), if_neg (by omega), ← hC, ← hp])
      have HPT := Lib.hid (fun (W : World) (y : Option Nat) (hk : K4 w3 W y) (a4 : Option Addr) (c4 : Nat) (hba : BAt W a4 C) => show Calls Tryz.prog 54 #[.agg R.toArray, .int .i64 x, .int .u64 (n : Int), .slice a4 C.length c4] W (fun e w' => ∃ R', e = .returned (.tuple #[.agg R'.toArray, .int .i64 p.2]) ∧ E4 (fun i => F i ∨ i = w.heap.size ∨ i = w.heap.size + 1) p.1 R' w' y ∧ RowKit.Below W.heap.size W w') by
        obtain ⟨a0, c0, a1, c1, e, k⟩ := HV3F.out
        rw [e]
        have hG : RM W (fun i => (F i ∨ i = w.heap.size ∨ i = w.heap.size + 1) ∨ y = some i) r a0 a1 := (k.grow hk.bl).sub fun i hi => hi.imp id fun e => (hk.hy i e).1
        refine (rwrite_any r a0 c0 a1 c1 _ x n C a4 C.length c4 W (fun i hi => ?_) hG HWX.out.1 (by omega) hba rfl (by unfold I; omega) (by have := spanN_le C.length; omega)).mono ?_
        · have := hk.bl.size
          have := HN3.out
          rcases hi with (hi | hi | hi) | hi
          · have := HF.out i hi; omega
          · omega
          · omega
          · exact lt_of_heap (hk.hy i hi).2
        · rintro _ w' ⟨A0, C0, A1, C1, rfl, k1, k2⟩
          rw [hp]
          exact ⟨_, rfl, ⟨_, ⟨A0, C0, A1, C1, rfl, k1⟩, fun i hi => Or.inl hi, fun b hb => Or.inr hb⟩, k2⟩)
      have HLT := Lib.hid (show ∀ i ∈ [w.heap.size, w.heap.size + 1], i < w3.heap.size from fun i hi => by have := HN3.out; simp at hi; omega)
      have HK0 := Lib.hid (K4.start w3)
      have HXW := Lib.hid (show IntKind.i64.wrap (x + (M : Int)) = x + (M : Int) from IntWalk.i64_in _ (by omega))
      have HNW := Lib.hid (show IntKind.u64.wrap ((n : Int) + 1) = ((n + 1 : Nat) : Int) by rw [IntKind.wrap_u64]; omega)
      have HM := Lib.hid hM
      obtain ⟨r1, f⟩ := p
      simp only at HAP HPT
      clear h hx hn hb hl ha hm hq hF hw3 hR4 h1 h2 hM hMN hM1 hC hCl hp
      go_enter Tryz.func31, Tryz.ntmps31
      go_wp2_with (first | (with_reducible refine wpList_boxA rfl _ _ rfl _ rfl ?_) | ((with_reducible refine wpList_allocA rfl isL rfl ?_); rw [HW3.out]))
      refine HND.out.mono ?_
      rintro _ _ ⟨rfl, rfl⟩
      go_wp2
      clear q4 q5 hzx d0 d1 HND
      apply wp_then4 (fun b R' _ _ W => M4 (fun i => F i ∨ i = w.heap.size ∨ i = w.heap.size + 1) w3 r1 b R' W)
      · refine wp_region_held_drew (S := fun W => Agree [w.heap.size, w.heap.size + 1] w3 W) (by kernel_rfl) ?_ (fun hHeld => ?_)
        · exact fun _ _ => rfl
        refine held_take 0 (v := ?_) rfl (by kernel_rfl) (by kernel_rfl) (by kernel_rfl) (fun _ _ _ h => by cases h.1) hHeld (by rfl) ?_ ?_
        rotate_left
        · (intro W hW; go_simp; try with_reducible rfl)
        try simp only [Act.put, List.setIfInBounds_toArray, List.set_cons_zero, List.set_cons_succ]
        refine held_take 1 (v := .agg R.toArray) rfl (by kernel_rfl) (by kernel_rfl) (by kernel_rfl) (fun _ _ _ h => by cases h.1) hHeld (by rfl) (fun W hW => exec_loadM isD _ rfl _ _ _ rfl (hW.range (by simp) (range_head HP2.out)) HRC.out) ?_
        try simp only [Act.put, List.setIfInBounds_toArray, List.set_cons_zero, List.set_cons_succ]
        refine held_take 2 (v := ?_) rfl (by kernel_rfl) (by kernel_rfl) (by kernel_rfl) (fun _ _ _ h => by cases h.1) hHeld (by rfl) ?_ ?_
        rotate_left
        · (intro W hW; go_simp; try with_reducible rfl)
        try simp only [Act.put, List.setIfInBounds_toArray, List.set_cons_zero, List.set_cons_succ]
        refine held_take 3 (v := ?_) rfl (by kernel_rfl) (by kernel_rfl) (by kernel_rfl) (fun _ _ _ h => by cases h.1) hHeld (by rfl) ?_ ?_
        rotate_left
        · (intro W hW; have e0 := hW.cell (b := w.heap.size) (by simp) HCX.out.1; go_simp; try with_reducible rfl)
        try simp only [Act.put, List.setIfInBounds_toArray, List.set_cons_zero, List.set_cons_succ]
        refine held_take 4 (v := ?_) rfl (by kernel_rfl) (by kernel_rfl) (by kernel_rfl) (fun _ _ _ h => by cases h.1) hHeld (by rfl) ?_ ?_
        rotate_left
        · (intro W hW; go_simp; try with_reducible rfl)
        try simp only [Act.put, List.setIfInBounds_toArray, List.set_cons_zero, List.set_cons_succ]
        refine held_take 5 (v := ?_) rfl (by kernel_rfl) (by kernel_rfl) (by kernel_rfl) (fun _ _ _ h => by cases h.1) hHeld (by rfl) ?_ ?_
        rotate_left
        · (intro W hW; have e0 := hW.cell (b := w.heap.size) (by simp) HCX.out.2.2; go_simp; try with_reducible rfl)
        try simp only [Act.put, List.setIfInBounds_toArray, List.set_cons_zero, List.set_cons_succ]
        refine held_take 6 (v := ?_) rfl (by kernel_rfl) (by kernel_rfl) (by kernel_rfl) (fun _ _ _ h => by cases h.1) hHeld (by rfl) ?_ ?_
        rotate_left
        · (intro W hW; go_simp; try with_reducible rfl)
        try simp only [Act.put, List.setIfInBounds_toArray, List.set_cons_zero, List.set_cons_succ]
        refine held_two 7 12 rfl rfl (by kernel_rfl) (by rfl) (by rfl) (fun K hK => ?_) (fun K hK => ?_)
        · go_simp
          go_at_call 55
          refine (HCL.out _ HK0.out.bl).mono ?_
          rintro _ wq1 ⟨v1, rfl, hob, hbq, _⟩
          obtain ⟨a1, c1, rfl, hba, hlc, _, _, _⟩ := hob.row
          have HK1 := Lib.hid (HK0.out.call hbq)
          have HBA1 := Lib.hid hba
          clear hob hba hlc hbq
          refine hK.out _ _ (fun i hi => HK1.out.bl.block i (HLT.out i hi)) (fun hHeld => ?_)
          clear hK K
          try simp only [Act.put, List.setIfInBounds_toArray, List.set_cons_zero, List.set_cons_succ]
          refine held_two 8 12 rfl rfl (by kernel_rfl) (by rfl) (by rfl) (fun K hK => ?_) (fun K hK => ?_)
          · go_simp
            go_at_call 54
            refine (HPT.out _ _ HK1.out a1 c1 HBA1.out).mono ?_
            rintro _ wq2 ⟨R2, rfl, hee, hbq⟩
            have HE2 := Lib.hid hee
            have HK2 := Lib.hid (HK1.out.call hbq)
            clear hbq hee
            refine hK.out _ _ (fun i hi => HK2.out.bl.block i (HLT.out i hi)) (fun hHeld => ?_)
            clear hK K
            try simp only [Act.put, List.setIfInBounds_toArray, List.set_cons_zero, List.set_cons_succ]
            refine held_take 9 (v := ?_) rfl (by kernel_rfl) (by kernel_rfl) (by kernel_rfl) (fun _ _ _ h => by cases h.1) hHeld (by rfl) ?_ ?_
            rotate_left
            · (intro W hW; go_simp; try with_reducible rfl)
            try simp only [Act.put, List.setIfInBounds_toArray, List.set_cons_zero, List.set_cons_succ]
            refine held_take 10 (v := ?_) rfl (by kernel_rfl) (by kernel_rfl) (by kernel_rfl) (fun _ _ _ h => by cases h.1) hHeld (by rfl) ?_ ?_
            rotate_left
            · (intro W hW; go_simp; try with_reducible rfl)
            try simp only [Act.put, List.setIfInBounds_toArray, List.set_cons_zero, List.set_cons_succ]
            refine held_take 11 (v := ?_) rfl (by kernel_rfl) (by kernel_rfl) (by kernel_rfl) (fun _ _ _ h => by cases h.1) hHeld (by rfl) ?_ ?_
            rotate_left
            · (intro W hW; go_simp; try with_reducible rfl)
            try simp only [Act.put, List.setIfInBounds_toArray, List.set_cons_zero, List.set_cons_succ]
            refine held_next 12 rfl (by kernel_rfl) (by rfl) (fun K hK => ?_)
            refine jallocD rfl (fun b3 wq3 he hbq hnq => ?_)
            have HK3 := Lib.hid (HK2.out.ay he hbq hnq)
            have HE3 := Lib.hid (HE2.out.ay he hbq)
            clear he hbq hnq
            refine hK.out _ _ (fun i hi => HK3.out.bl.block i (HLT.out i hi)) (fun hHeld => ?_)
            clear hK K
            try simp only [Act.put, List.setIfInBounds_toArray, List.set_cons_zero, List.set_cons_succ]
            refine held_next 13 rfl (by kernel_rfl) (by rfl) (fun K hK => ?_)
            refine jstoreD _ _ rfl b3 R2 zD rfl rfl (HK3.out.hy _ rfl).2 rfl (E4.cs HE3.out) ?_
            refine hK.out _ _ (fun i hi => (setRow_other _ _ _ _ (by have := (HK3.out.hy _ rfl).1; have := HLT.out i hi; omega)).trans (HK3.out.bl.block i (HLT.out i hi))) (fun hHeld => ?_)
            clear hK K
            try simp only [Act.put]
            refine held_take 14 (v := ?_) rfl (by kernel_rfl) (by kernel_rfl) (by kernel_rfl) (fun _ _ _ h => by cases h.1) hHeld (by rfl) ?_ ?_
            rotate_left
            · (intro W hW; go_simp; try with_reducible rfl)
            try simp only [Act.put, List.setIfInBounds_toArray, List.set_cons_zero, List.set_cons_succ]
            exact wpAnyH_done (by kernel_rfl) ⟨rfl, b3, R2, a1, c1, rfl, HE3.out.fin HK3.out⟩ _
          · refine jallocD rfl (fun b4 wq4 he hbq hnq => ?_)
            have HK4 := Lib.hid (HK1.out.ay he hbq hnq)
            have HBA4 := Lib.hid (HBA1.out.below hbq)
            clear he hbq hnq
            refine hK.out _ _ (fun i hi => HK4.out.bl.block i (HLT.out i hi)) (fun hHeld => ?_)
            clear hK K
            try simp only [Act.put, List.setIfInBounds_toArray, List.set_cons_zero, List.set_cons_succ]
            refine held_next 8 rfl (by kernel_rfl) (by rfl) (fun K hK => ?_)
            go_simp
            go_at_call 54
            refine (HPT.out _ _ HK4.out a1 c1 HBA4.out).mono ?_
            rintro _ wq5 ⟨R5, rfl, hee, hbq⟩
            have HE5 := Lib.hid hee
            have HK5 := Lib.hid (HK4.out.call hbq)
            clear hbq hee
            refine hK.out _ _ (fun i hi => HK5.out.bl.block i (HLT.out i hi)) (fun hHeld => ?_)
            clear hK K
            try simp only [Act.put, List.setIfInBounds_toArray, List.set_cons_zero, List.set_cons_succ]
            refine held_take 9 (v := ?_) rfl (by kernel_rfl) (by kernel_rfl) (by kernel_rfl) (fun _ _ _ h => by cases h.1) hHeld (by rfl) ?_ ?_
            rotate_left
            · (intro W hW; go_simp; try with_reducible rfl)
            try simp only [Act.put, List.setIfInBounds_toArray, List.set_cons_zero, List.set_cons_succ]
            refine held_take 10 (v := ?_) rfl (by kernel_rfl) (by kernel_rfl) (by kernel_rfl) (fun _ _ _ h => by cases h.1) hHeld (by rfl) ?_ ?_
            rotate_left
            · (intro W hW; go_simp; try with_reducible rfl)
            try simp only [Act.put, List.setIfInBounds_toArray, List.set_cons_zero, List.set_cons_succ]
            refine held_take 11 (v := ?_) rfl (by kernel_rfl) (by kernel_rfl) (by kernel_rfl) (fun _ _ _ h => by cases h.1) hHeld (by rfl) ?_ ?_
            rotate_left
            · (intro W hW; go_simp; try with_reducible rfl)
            try simp only [Act.put, List.setIfInBounds_toArray, List.set_cons_zero, List.set_cons_succ]
            refine held_next 13 rfl (by kernel_rfl) (by rfl) (fun K hK => ?_)
            refine jstoreD _ _ rfl b4 R5 zD rfl rfl (HK5.out.hy _ rfl).2 rfl (E4.cs HE5.out) ?_
            refine hK.out _ _ (fun i hi => (setRow_other _ _ _ _ (by have := (HK5.out.hy _ rfl).1; have := HLT.out i hi; omega)).trans (HK5.out.bl.block i (HLT.out i hi))) (fun hHeld => ?_)
            clear hK K
            try simp only [Act.put]
            refine held_take 14 (v := ?_) rfl (by kernel_rfl) (by kernel_rfl) (by kernel_rfl) (fun _ _ _ h => by cases h.1) hHeld (by rfl) ?_ ?_
            rotate_left
            · (intro W hW; go_simp; try with_reducible rfl)
            try simp only [Act.put, List.setIfInBounds_toArray, List.set_cons_zero, List.set_cons_succ]
            exact wpAnyH_done (by kernel_rfl) ⟨rfl, b4, R5, a1, c1, rfl, HE5.out.fin HK5.out⟩ _
        · refine jallocD rfl (fun b6 wq6 he hbq hnq => ?_)
          have HK6 := Lib.hid (HK0.out.ay he hbq hnq)
          clear he hbq hnq
          refine hK.out _ _ (fun i hi => HK6.out.bl.block i (HLT.out i hi)) (fun hHeld => ?_)
          clear hK K
          try simp only [Act.put, List.setIfInBounds_toArray, List.set_cons_zero, List.set_cons_succ]
          refine held_next 7 rfl (by kernel_rfl) (by rfl) (fun K hK => ?_)
          go_simp
          go_at_call 55
          refine (HCL.out _ HK6.out.bl).mono ?_
          rintro _ wq7 ⟨v7, rfl, hob, hbq, _⟩
          obtain ⟨a7, c7, rfl, hba, hlc, _, _, _⟩ := hob.row
          have HK7 := Lib.hid (HK6.out.call hbq)
          have HBA7 := Lib.hid hba
          clear hob hba hlc hbq
          refine hK.out _ _ (fun i hi => HK7.out.bl.block i (HLT.out i hi)) (fun hHeld => ?_)
          clear hK K
          try simp only [Act.put, List.setIfInBounds_toArray, List.set_cons_zero, List.set_cons_succ]
          refine held_next 8 rfl (by kernel_rfl) (by rfl) (fun K hK => ?_)
          go_simp
          go_at_call 54
          refine (HPT.out _ _ HK7.out a7 c7 HBA7.out).mono ?_
          rintro _ wq8 ⟨R8, rfl, hee, hbq⟩
          have HE8 := Lib.hid hee
          have HK8 := Lib.hid (HK7.out.call hbq)
          clear hbq hee
          refine hK.out _ _ (fun i hi => HK8.out.bl.block i (HLT.out i hi)) (fun hHeld => ?_)
          clear hK K
          try simp only [Act.put, List.setIfInBounds_toArray, List.set_cons_zero, List.set_cons_succ]
          refine held_take 9 (v := ?_) rfl (by kernel_rfl) (by kernel_rfl) (by kernel_rfl) (fun _ _ _ h => by cases h.1) hHeld (by rfl) ?_ ?_
          rotate_left
          · (intro W hW; go_simp; try with_reducible rfl)
          try simp only [Act.put, List.setIfInBounds_toArray, List.set_cons_zero, List.set_cons_succ]
          refine held_take 10 (v := ?_) rfl (by kernel_rfl) (by kernel_rfl) (by kernel_rfl) (fun _ _ _ h => by cases h.1) hHeld (by rfl) ?_ ?_
          rotate_left
          · (intro W hW; go_simp; try with_reducible rfl)
          try simp only [Act.put, List.setIfInBounds_toArray, List.set_cons_zero, List.set_cons_succ]
          refine held_take 11 (v := ?_) rfl (by kernel_rfl) (by kernel_rfl) (by kernel_rfl) (fun _ _ _ h => by cases h.1) hHeld (by rfl) ?_ ?_
          rotate_left
          · (intro W hW; go_simp; try with_reducible rfl)
          try simp only [Act.put, List.setIfInBounds_toArray, List.set_cons_zero, List.set_cons_succ]
          refine held_next 13 rfl (by kernel_rfl) (by rfl) (fun K hK => ?_)
          refine jstoreD _ _ rfl b6 R8 zD rfl rfl (HK8.out.hy _ rfl).2 rfl (E4.cs HE8.out) ?_
          refine hK.out _ _ (fun i hi => (setRow_other _ _ _ _ (by have := (HK8.out.hy _ rfl).1; have := HLT.out i hi; omega)).trans (HK8.out.bl.block i (HLT.out i hi))) (fun hHeld => ?_)
          clear hK K
          try simp only [Act.put]
          refine held_take 14 (v := ?_) rfl (by kernel_rfl) (by kernel_rfl) (by kernel_rfl) (fun _ _ _ h => by cases h.1) hHeld (by rfl) ?_ ?_
          rotate_left
          · (intro W hW; go_simp; try with_reducible rfl)
          try simp only [Act.put, List.setIfInBounds_toArray, List.set_cons_zero, List.set_cons_succ]
          exact wpAnyH_done (by kernel_rfl) ⟨rfl, b6, R8, a7, c7, rfl, HE8.out.fin HK8.out⟩ _
      intro b7 R' a9 c9 V hM
      have HLP := Lib.hid (show LP w V F 39 36 w.heap.size (w.heap.size + 1) b7 (rlc R x z n) zL R' r1 R' from by
        obtain ⟨k1, k2, k3, k4⟩ := hM
        have hs := HN3.out
        exact ⟨(k1.block _ (by omega)).trans HP2.out, (k1.block _ (by omega)).trans HP4.out, k3, k4.sub fun i hi => by
          rcases hi with e | e | e | e
          · exact Or.inl (Or.inl e)
          · exact Or.inl (Or.inr (Or.inl e))
          · exact Or.inl (Or.inr (Or.inr e))
          · exact Or.inr e, HB3.out.trans (k1.mono HB3.out.size), by omega, by omega, by omega, by omega, by omega, by omega, HF.out⟩)
      have HR' := Lib.hid HLP.out.vv.cs
      clear hM
      by_cases hf : f = 0
      · subst hf
        have HAP0 := Lib.hid (show r.app x z n l = (r1.flush, r1.actE) by rw [HAP.out, if_pos rfl])
        clear HAP
        go_wp2_with (first | (with_reducible refine wpList_loadW rfl isD _ rfl b7 R' _ rfl HLP.out.h7 HR'.out ?_) | ((with_reducible refine wpList_storeH rfl isD _ _ rfl w.heap.size R R' _ _ rfl rfl HLP.out.h2 HRC.out.len HR'.out ?_); intro V1 he1 ho1; have HL1 := Lib.hid (HLP.out.set2 he1 ho1); clear he1 ho1 HLP) | (with_reducible refine wpList_loadM rfl isD _ rfl w.heap.size 0 R' rfl (range_head HL1.out.h2) HR'.out ?_))
        refine HL1.out.flush.mono ?_
        rintro _ V2 ⟨R2, rfl, hv2, hb2⟩
        have HR2 := Lib.hid hv2.cs
        have HL2 := Lib.hid (HL1.out.below hb2)
        have HL3 := Lib.hid (HL2.out.set7 hv2 R2)
        clear hv2 hb2 HL1
        by_cases hE : r1.actE = 0
        · rw [hE] at HAP0 ⊢
          have HS5 := Lib.hid (show (rlc R2 x z n).set 4 (.int .i64 (x + (M : Int))) = rlc R2 (x + (M : Int)) z n by obtain ⟨v0, v1, v2, v3, e2⟩ := four HR2.out; rw [e2]; rfl)
          have HS6 := Lib.hid (show (rlc R2 (x + (M : Int)) z n).set 6 (.int .u64 ((n + 1 : Nat) : Int)) = rlc R2 (x + (M : Int)) z (n + 1) by obtain ⟨v0, v1, v2, v3, e2⟩ := four HR2.out; rw [e2]; rfl)
          have HK4 := Lib.hid (show 4 < (rlc R2 x z n).length by simp [HR2.out.len])
          have HK6 := Lib.hid (show 6 < (rlc R2 (x + (M : Int)) z n).length by simp [HR2.out.len])
          have hxw := HXW.out
          have hnw := HNW.out
          have HC6 := Lib.hid (rlc_cs HR2.out (x + (M : Int)) z (n + 1))
          clear hE
          go_wp2_with (first | (with_reducible refine wpList_storeW rfl isD _ _ rfl b7 R2 _ _ rfl rfl HL2.out.h7 HR2.out (by simp [HR'.out.len]) ?_) | (with_reducible refine wpList_loadW rfl isD _ rfl b7 R2 _ rfl HL3.out.h7 HR2.out ?_) | ((with_reducible refine wpList_storeH rfl isD _ _ rfl w.heap.size R' R2 _ _ rfl rfl HL3.out.h2 HR'.out.len HR2.out ?_); intro V3 he3 ho3; have HL4 := Lib.hid (HL3.out.set2 he3 ho3); have q4 : V3.cell? ⟨w.heap.size, 4, none⟩ = some (.int .i64 x) := (by (rw [cell_of_row _ _ _ _ _ _ he3]; obtain ⟨v0, v1, v2, v3, e2⟩ := four HR2.out; rw [e2]; rfl)); clear he3 ho3 HL3 HL2) | ((with_reducible refine wpList_store1R rfl _ _ _ rfl w.heap.size 4 (.int .i64 (x + (M : Int))) _ _ rfl rfl (Or.inl ⟨_, _, rfl⟩) (by kernel_rfl) HL4.out.h2 HK4.out ?_); rw [HS5.out]; intro V4 he4 ho4; have HL5 := Lib.hid (HL4.out.set2 he4 ho4); have q6 : V4.cell? ⟨w.heap.size, 6, none⟩ = some (.int .u64 (n : Int)) := (by (rw [cell_of_row _ _ _ _ _ _ he4]; obtain ⟨v0, v1, v2, v3, e2⟩ := four HR2.out; rw [e2]; rfl)); clear he4 ho4 HL4 q4) | ((with_reducible refine wpList_store1R rfl _ _ _ rfl w.heap.size 6 (.int .u64 ((n + 1 : Nat) : Int)) _ _ rfl rfl (Or.inl ⟨_, _, rfl⟩) (by kernel_rfl) HL5.out.h2 HK6.out ?_); rw [HS6.out]; intro V5 he5 ho5; have HL6 := Lib.hid (HL5.out.set2 he5 ho5); clear he5 ho5 HL5 q6) | (with_reducible refine wpList_loadW rfl isL _ rfl w.heap.size (rlc R2 (x + (M : Int)) z (n + 1)) _ rfl HL6.out.h2 HC6.out ?_) | (with_reducible refine wpList_storeW rfl isL _ _ rfl (w.heap.size + 1) (rlc R2 (x + (M : Int)) z (n + 1)) _ _ rfl rfl HL6.out.h4 HC6.out zL_size ?_))
          refine ret_cell_slot isL rfl rfl rfl (setRow_heap _ _ _ _ _ _ HL6.out.h4) HC6.out rfl ?_
          exact RLApp.mk' HAP0.out (by rw [if_pos rfl, HM.out]) (if_pos rfl).symm (HL6.out.fin _).1 (HL6.out.fin _).2
        · have d2 : (r1.actE == 0) = false := by simpa using hE
          have d3 : (r1.actE != 0) = true := by simpa using hE
          have HC4 := Lib.hid (rlc_cs HR2.out x z n)
          have HFN := Lib.hid (fun (W' : World) (R7 : List Value) (hlp : LP w W' F 39 36 w.heap.size (w.heap.size + 1) b7 (rlc R2 x z n) zL R7 r1.flush R2) (c : Array Value) => RLApp.mk' (x' := x) (n' := n) (R' := R2) (r' := r1.flush) (E := r1.actE) HAP0.out (if_neg hE).symm (if_neg hE).symm (hlp.fin c).1 (hlp.fin c).2)
          clear hE
          go_wp2_with (first | (with_reducible refine wpList_storeW rfl isD _ _ rfl b7 R2 _ _ rfl rfl HL2.out.h7 HR2.out (by simp [HR'.out.len]) ?_) | (with_reducible refine wpList_loadW rfl isD _ rfl b7 R2 _ rfl HL3.out.h7 HR2.out ?_) | ((with_reducible refine wpList_storeH rfl isD _ _ rfl w.heap.size R' R2 _ _ rfl rfl HL3.out.h2 HR'.out.len HR2.out ?_); intro V3 he3 ho3; have HL4 := Lib.hid (HL3.out.set2 he3 ho3); clear he3 ho3 HL3 HL2) | (with_reducible refine wpList_loadW rfl isL _ rfl w.heap.size (rlc R2 x z n) _ rfl HL4.out.h2 HC4.out ?_) | (with_reducible refine wpList_storeW rfl isL _ _ rfl (w.heap.size + 1) (rlc R2 x z n) _ _ rfl rfl HL4.out.h4 HC4.out zL_size ?_))
          refine ret_cell_slot isL rfl rfl rfl (setRow_heap _ _ _ _ _ _ HL4.out.h4) HC4.out rfl ?_
          exact HFN.out _ _ HL4.out _
      · have d2 : (f == 0) = false := by simpa using hf
        have d3 : (f != 0) = true := by simpa using hf
        have HC1 := Lib.hid (rlc_cs HR'.out x z n)
        have HFN := Lib.hid (fun (W' : World) (R7 : List Value) (hlp : LP w W' F 39 36 w.heap.size (w.heap.size + 1) b7 (rlc R' x z n) zL R7 r1 R') (c : Array Value) => RLApp.mk' (x' := x) (n' := n) (R' := R') (r' := r1) (E := f) (show r.app x z n l = (r1, f) by rw [HAP.out, if_neg hf]) (if_neg hf).symm (if_neg hf).symm (hlp.fin c).1 (hlp.fin c).2)
        clear hf
        go_wp2_with (first | (with_reducible refine wpList_loadW rfl isD _ rfl b7 R' _ rfl HLP.out.h7 HR'.out ?_) | ((with_reducible refine wpList_storeH rfl isD _ _ rfl w.heap.size R R' _ _ rfl rfl HLP.out.h2 HRC.out.len HR'.out ?_); intro V1 he1 ho1; have HL1 := Lib.hid (HLP.out.set2 he1 ho1); clear he1 ho1 HLP) | (with_reducible refine wpList_loadW rfl isL _ rfl w.heap.size (rlc R' x z n) _ rfl HL1.out.h2 HC1.out ?_) | (with_reducible refine wpList_storeW rfl isL _ _ rfl (w.heap.size + 1) (rlc R' x z n) _ _ rfl rfl HL1.out.h4 HC1.out zL_size ?_))
        refine ret_cell_slot isL rfl rfl rfl (setRow_heap _ _ _ _ _ _ HL1.out.h4) HC1.out rfl ?_
        exact HFN.out _ _ HL1.out _
end Go.Proofs.YtdfbpaajkpnaeaaGreat

namespace Go.Proofs.YtdfbpaajkpnaeaaGreat
set_option maxRecDepth 100000
open Go.RowKit Go.Lib

/-- a journal of the document's: a log, how many sectors each place has, whether it is ready -/
abbrev rjc (R : List Value) (x z : Int) (n : Nat) (s : Int) (rd : Bool) : List Value := R ++ [.int .i64 x, .int .i64 z, .int .u64 (n : Int), .int .i64 s, .bool rd]
theorem rjc_log (R : List Value) (x z : Int) (n : Nat) (s : Int) (rd : Bool) : rjc R x z n s rd = rlc R x z n ++ [.int .i64 s, .bool rd] := by simp
theorem rjc_disk (R : List Value) (x z : Int) (n : Nat) (s : Int) (rd : Bool) : rjc R x z n s rd = R ++ [.int .i64 x, .int .i64 z, .int .u64 (n : Int), .int .i64 s, .bool rd] := rfl
def zJ9 : List Value := [.slice none 0 0, .slice none 0 0, .int .i64 0, .bool false, .int .i64 0, .int .i64 0, .int .u64 0, .int .i64 0, .bool false]
theorem isJ9 : IsAgg 41 9 zJ9 := ⟨Tryz.zeroValue41, ⟨_, Tryz.underlying41, rfl⟩, by kernel_rfl, rfl⟩
theorem zJ9_size : zJ9.toArray.size = 9 := rfl
theorem rjc_cs {R : List Value} (h : Cs 4 R) (x z : Int) (n : Nat) (s : Int) (rd : Bool) : Cs 9 (rjc R x z n s rd) := ⟨by simp [h.len], fun u hu => by
  rcases List.mem_append.1 hu with e | e
  · exact h.one u e
  · simp at e
    rcases e with rfl | rfl | rfl | rfl | rfl <;> rfl⟩
theorem rjc_cell {R : List Value} (h : Cs 4 R) {x z : Int} {n : Nat} {s : Int} {rd : Bool} {w : World} {b : Nat} {T : TypeId} (hb : w.heap[b]? = some (.cells (rjc R x z n s rd).toArray T)) :
    w.cell? ⟨b, 4, none⟩ = some (.int .i64 x) ∧ w.cell? ⟨b, 5, none⟩ = some (.int .i64 z) ∧ w.cell? ⟨b, 6, none⟩ = some (.int .u64 (n : Int)) ∧ w.cell? ⟨b, 7, none⟩ = some (.int .i64 s) ∧ w.cell? ⟨b, 8, none⟩ = some (.bool rd) := by
  obtain ⟨v0, v1, v2, v3, rfl⟩ := four h
  refine ⟨?_, ?_, ?_, ?_, ?_⟩ <;> (rw [cell_of_row _ _ _ _ _ _ hb]; rfl)
theorem rjright_any (r : Dk) (R : List Value) (F : Nat → Prop) (s : Int) (w : World) (h : Val w F r R) (hs : I s) :
    Calls Tryz.prog 27 #[.agg R.toArray, .int .i64 s] w fun e w' => e = .returned (.bool (canJ r s)) ∧ RowKit.Below w.heap.size w w' := by
  obtain ⟨a0, c0, a1, c1, hR, hm⟩ := h
  have HRE := Lib.hid hR
  obtain ⟨w0, hw0⟩ : ∃ w0, w0 = w.alloc (.cells R.toArray 36) := ⟨_, rfl⟩
  have HW0 := Lib.hid hw0.symm
  have HB0 := Lib.hid (show RowKit.Below w.heap.size w w0 by rw [hw0]; exact (RowKit.Below.refl _ _).alloc (Nat.le_refl _) _)
  have HP3 := Lib.hid (show w0.heap[w.heap.size]? = some (.cells R.toArray 36) by rw [hw0]; exact blkn rfl)
  obtain ⟨N, hN⟩ : ∃ N, N = r.base.length := ⟨_, rfl⟩
  have q30 : w0.cell? ⟨w.heap.size, 0, none⟩ = some (.slice a0 N c0) := by rw [cell_of_row _ _ _ _ _ _ HP3.out, HRE.out, hN]; rfl
  have hsz : N ≤ 2048 := by rw [hN]; exact hm.ok.sz
  obtain ⟨hs1, hs2⟩ := hs
  have HCA : ∀ q : Bool, (q = true ↔ 1 ≤ s ∧ s ≤ 255 ∧ 2 * s < (N : Int)) → canJ r s = q := fun q hq => by
    apply Bool.eq_iff_iff.2
    rw [hq, canJ_iff, hN]
  clear hR hw0 hN hm
  by_cases k2 : 1 ≤ s
  · have d2 : decide (1 ≤ s) = true := by simpa using k2
    by_cases k3 : s ≤ 255
    · have d3 : decide (s ≤ 255) = true := by simpa using k3
      have HE := Lib.hid (HCA (decide (2 * s + 1 ≤ (N : Int))) (by rw [decide_eq_true_iff]; omega))
      clear HCA
      go_enter Tryz.func27, Tryz.ntmps27
      go_wp2_with ((with_reducible refine wpList_boxA rfl _ _ rfl _ rfl ?_); rw [HW0.out])
      go_ret
      exact ⟨by rw [HE.out]; rfl, HB0.out⟩
    · have d3 : decide (s ≤ 255) = false := by simpa using k3
      have HE := Lib.hid (HCA false (by simp; omega))
      clear HCA
      go_enter Tryz.func27, Tryz.ntmps27
      go_wp2_with ((with_reducible refine wpList_boxA rfl _ _ rfl _ rfl ?_); rw [HW0.out])
      go_ret
      exact ⟨by rw [HE.out]; rfl, HB0.out⟩
  · have d2 : decide (1 ≤ s) = false := by simpa using k2
    have HE := Lib.hid (HCA false (by simp; omega))
    clear HCA
    go_enter Tryz.func27, Tryz.ntmps27
    go_wp2_with ((with_reducible refine wpList_boxA rfl _ _ rfl _ rfl ?_); rw [HW0.out])
    go_ret
    exact ⟨by rw [HE.out]; rfl, HB0.out⟩
theorem rjroom_any {R : List Value} (h : Cs 4 R) (x z : Int) (n : Nat) (s : Int) (rd : Bool) (w : World) (hx : rd = true → 0 ≤ x ∧ x ≤ 2048) (hz : 0 ≤ z ∧ z ≤ 2048) :
    Calls Tryz.prog 23 #[.agg (rjc R x z n s rd).toArray] w fun e w' => e = .returned (.int .i64 (if rd then z - x else 0)) ∧ RowKit.Below w.heap.size w w' := by
  obtain ⟨w0, hw0⟩ : ∃ w0, w0 = w.alloc (.cells (rjc R x z n s rd).toArray 41) := ⟨_, rfl⟩
  have HW0 := Lib.hid hw0.symm
  have HB0 := Lib.hid (show RowKit.Below w.heap.size w w0 by rw [hw0]; exact (RowKit.Below.refl _ _).alloc (Nat.le_refl _) _)
  obtain ⟨q4, q5, _, _, q8⟩ := rjc_cell h (show w0.heap[w.heap.size]? = some (.cells (rjc R x z n s rd).toArray 41) by rw [hw0]; exact blkn rfl)
  clear hw0 h
  cases rd with
  | false =>
    go_enter Tryz.func23, Tryz.ntmps23
    go_wp2_with ((with_reducible refine wpList_boxA rfl _ _ rfl _ rfl ?_); rw [HW0.out])
    go_ret
    exact ⟨rfl, HB0.out⟩
  | true =>
    obtain ⟨x0, x1⟩ := hx rfl
    have hw : IntKind.i64.wrap (z - x) = z - x := IntWalk.i64_in _ (by omega)
    clear hx
    go_enter Tryz.func23, Tryz.ntmps23
    go_wp2_with ((with_reducible refine wpList_boxA rfl _ _ rfl _ rfl ?_); rw [HW0.out])
    go_ret
    exact ⟨rfl, HB0.out⟩
/-- what a deed leaves: the disk, where the next goes, its stamp, whether it is ready, the error -/
def RJRes (F : Nat → Prop) (z s : Int) (p : Dk × Int × Nat × Bool × Int) (w : World) (e : Ending) (w' : World) : Prop :=
  ∃ R', e = .returned (.tuple #[.agg (rjc R' p.2.1 z p.2.2.1 s p.2.2.2.1).toArray, .int .i64 p.2.2.2.2]) ∧ Val w' F p.1 R' ∧ RowKit.Below w.heap.size w w'
def jApp (r : Dk) (x z : Int) (n : Nat) (rd : Bool) (l : List UInt8) : Dk × Int × Nat × Bool × Int :=
  if rd = false then (r, x, n, false, 121) else
    ((r.app x z n l).1, if (r.app x z n l).2 = 0 then x + (spanN (l.length + 4) : Int) else x, if (r.app x z n l).2 = 0 then n + 1 else n, (r.app x z n l).2 != 82, (r.app x z n l).2)
set_option maxRecDepth 100000 in
set_option maxHeartbeats 3200000 in
theorem rjappend_any (r : Dk) (R : List Value) (F : Nat → Prop) (x z : Int) (n : Nat) (s : Int) (rd : Bool) (l : List UInt8) (a : Option Addr) (len cap : Nat) (w : World) (hF : ∀ i, F i → i < w.heap.size) (h : Val w F r R) (hx : rd = true → 0 ≤ x ∧ x ≤ z ∧ z ≤ 2048) (hn : rd = true → n + 1 < 18446744073709551616) (hb : BAt w a l) (hl : l.length = len) (ha : a = none → l = []) (hm : len ≤ 500000) (hq : r.queue.length < 9700) :
    Calls Tryz.prog 11 #[.agg (rjc R x z n s rd).toArray, .slice a len cap] w (RJRes F z s (jApp r x z n rd l) w) := by
  have HRC := Lib.hid h.cs
  have HJC := Lib.hid (rjc_cs h.cs x z n s rd)
  obtain ⟨w3, hw3⟩ : ∃ w3, w3 = (w.alloc (.cells (rjc R x z n s rd).toArray 41)).alloc (.cells zJ9.toArray 41) := ⟨_, rfl⟩
  have HB3 := Lib.hid (show RowKit.Below w.heap.size w w3 by rw [hw3]; exact ((RowKit.Below.refl _ _).alloc (Nat.le_refl _) _).alloc (by simp) _)
  have HN3 := Lib.hid (show w3.heap.size = w.heap.size + 2 by rw [hw3]; simp)
  have HP2 := Lib.hid (show w3.heap[w.heap.size]? = some (.cells (rjc R x z n s rd).toArray 41) by rw [hw3]; exact blk_in (blkn rfl))
  have HP4 := Lib.hid (show w3.heap[w.heap.size + 1]? = some (.cells zJ9.toArray 41) by rw [hw3]; exact blkn (by simp))
  have HW3 := Lib.hid hw3.symm
  have HV3F := Lib.hid (show Val w3 (fun i => F i ∨ i = w.heap.size ∨ i = w.heap.size + 1) r R from h.add HB3.out fun i hi => hi.imp id fun e => by omega)
  obtain ⟨_, _, _, _, q8⟩ := rjc_cell h.cs HP2.out
  cases rd with
  | false =>
    have HFN := Lib.hid (show RJRes F z s (jApp r x z n false l) w (.returned (.tuple #[.agg (rjc R x z n s false).toArray, .int .i64 121])) (w3.setRow (w.heap.size + 1) (rjc R x z n s false).toArray) from
      ⟨R, rfl, (HV3F.out.only (only_row (Or.inr (Or.inr rfl)))).sub fun i hi => Or.inl hi, below_setRow HB3.out (by omega)⟩)
    clear h hx hn hb hl ha hm hq hF hw3
    go_enter Tryz.func11, Tryz.ntmps11
    go_wp2_with (first | (with_reducible refine wpList_boxA rfl _ _ rfl _ rfl ?_) | ((with_reducible refine wpList_allocA rfl isJ9 rfl ?_); rw [HW3.out]) | (with_reducible refine wpList_loadW rfl isJ9 _ rfl w.heap.size (rjc R x z n s false) _ rfl HP2.out HJC.out ?_) | (with_reducible refine wpList_storeW rfl isJ9 _ _ rfl (w.heap.size + 1) (rjc R x z n s false) _ _ rfl rfl HP4.out HJC.out zJ9_size ?_))
    refine ret_cell_slot isJ9 rfl rfl rfl (setRow_heap _ _ _ _ _ _ HP4.out) HJC.out rfl ?_
    exact HFN.out
  | true =>
    have HF := Lib.hid hF
    have HAP := Lib.hid (rlappend_any r R (fun i => F i ∨ i = w.heap.size ∨ i = w.heap.size + 1) x z n l a len cap w3 (fun i hi => by
      have := HN3.out
      rcases hi with hi | hi | hi
      · have := HF.out i hi; omega
      · omega
      · omega) HV3F.out (hx rfl) (hn rfl) (hb.below HB3.out) hl ha hm hq)
    have HRG := Lib.hid (show w3.rangeAt w.heap.size 0 (rlc R x z n) from range_head (c' := [.int .i64 s, .bool true]) (by rw [← rjc_log]; exact HP2.out))
    have HLC := Lib.hid (rlc_cs HRC.out x z n)
    unfold RLApp at HAP
    have HPE := Lib.hid (show jApp r x z n true l = ((r.app x z n l).1, if (r.app x z n l).2 = 0 then x + (spanN (l.length + 4) : Int) else x, if (r.app x z n l).2 = 0 then n + 1 else n, (r.app x z n l).2 != 82, (r.app x z n l).2) from rfl)
    obtain ⟨x', hx'⟩ : ∃ x', x' = if (r.app x z n l).2 = 0 then x + (spanN (l.length + 4) : Int) else x := ⟨_, rfl⟩
    obtain ⟨n', hn'⟩ : ∃ n', n' = if (r.app x z n l).2 = 0 then n + 1 else n := ⟨_, rfl⟩
    rw [← hx', ← hn'] at HAP HPE
    obtain ⟨p, hp⟩ : ∃ p, p = r.app x z n l := ⟨_, rfl⟩
    rw [← hp] at HAP HPE
    obtain ⟨r1, E⟩ := p
    simp only at HAP HPE
    clear h hx hn hb hl ha hm hq hF hw3 hx' hn' hp
    go_enter Tryz.func11, Tryz.ntmps11
    go_wp2_with (first | (with_reducible refine wpList_boxA rfl _ _ rfl _ rfl ?_) | ((with_reducible refine wpList_allocA rfl isJ9 rfl ?_); rw [HW3.out]) | (with_reducible refine wpList_loadM rfl isL _ rfl w.heap.size 0 (rlc R x z n) rfl HRG.out HLC.out ?_))
    refine HAP.out.mono ?_
    rintro _ w5 ⟨R', rfl, hv, hb5⟩
    have HR' := Lib.hid hv.cs
    have HC' := Lib.hid (rlc_cs hv.cs x' z n')
    have HJ' := Lib.hid (rjc_cs hv.cs x' z n' s (E != 82))
    have HS8 := Lib.hid (show (rlc R' x' z n' ++ [Value.int .i64 s, Value.bool true]).set 8 (Value.bool (E != 82)) = rjc R' x' z n' s (E != 82) by obtain ⟨v0, v1, v2, v3, e2⟩ := four HR'.out; rw [e2]; rfl)
    have HK8 := Lib.hid (show 8 < (rlc R' x' z n' ++ [Value.int .i64 s, .bool true]).length by simp [HR'.out.len])
    obtain ⟨w6, hw6⟩ : ∃ w6, w6 = w5.alloc (.cells zL.toArray 39) := ⟨_, rfl⟩
    have HW6 := Lib.hid hw6.symm
    have HL6 := Lib.hid (show LP w w6 F 41 39 w.heap.size (w.heap.size + 1) w5.heap.size (rlc R x z n ++ [.int .i64 s, .bool true]) zJ9 zL r1 R' from by
      have hb6 : RowKit.Below w5.heap.size w5 w6 := by rw [hw6]; exact (RowKit.Below.refl _ _).alloc (Nat.le_refl _) _
      have hb36 := hb5.trans (hb6.mono hb5.size)
      have hn3 := HN3.out
      have hs5 := hb5.size
      exact ⟨(hb36.block _ (by omega)).trans (by rw [← rjc_log]; exact HP2.out), (hb36.block _ (by omega)).trans HP4.out, by rw [hw6]; exact blkn rfl, hv.add hb6 fun i hi => by
        rcases hi with e | e | e | e
        · exact Or.inl (Or.inl e)
        · exact Or.inl (Or.inr (Or.inl e))
        · exact Or.inl (Or.inr (Or.inr e))
        · exact Or.inr (by omega), HB3.out.trans (hb36.mono HB3.out.size), by omega, by omega, by omega, by omega, by omega, by omega, HF.out⟩)
    have HL7 := Lib.hid (HL6.out.set7 HL6.out.vv (rlc R' x' z n'))
    clear hv hb5 hw6 HAP
    go_wp2_with (first | ((with_reducible refine wpList_allocA rfl isL rfl ?_); rw [HW6.out]) | (with_reducible refine wpList_storeW rfl isL _ _ rfl w5.heap.size (rlc R' x' z n') _ _ rfl rfl HL6.out.h7 HC'.out zL_size ?_) | (with_reducible refine wpList_loadW rfl isL _ rfl w5.heap.size (rlc R' x' z n') _ rfl HL7.out.h7 HC'.out ?_) | ((with_reducible refine wpList_storeH rfl isL _ _ rfl w.heap.size (rlc R x z n) (rlc R' x' z n') _ _ rfl rfl HL7.out.h2 HLC.out.len HC'.out ?_); intro V1 he1 ho1; have HL8 := Lib.hid (HL7.out.set2 he1 ho1); clear he1 ho1 HL7 HL6) | ((with_reducible refine wpList_store1R rfl _ _ _ rfl w.heap.size 8 (.bool (E != 82)) _ _ rfl rfl (Or.inr ⟨_, rfl⟩) (by kernel_rfl) HL8.out.h2 HK8.out ?_); rw [HS8.out]; intro V2 he2 ho2; have HL9 := Lib.hid (HL8.out.set2 he2 ho2); clear he2 ho2 HL8) | (with_reducible refine wpList_loadW rfl isJ9 _ rfl w.heap.size (rjc R' x' z n' s (E != 82)) _ rfl HL9.out.h2 HJ'.out ?_) | (with_reducible refine wpList_storeW rfl isJ9 _ _ rfl (w.heap.size + 1) (rjc R' x' z n' s (E != 82)) _ _ rfl rfl HL9.out.h4 HJ'.out zJ9_size ?_))
    refine ret_cell_slot isJ9 rfl rfl rfl (setRow_heap _ _ _ _ _ _ HL9.out.h4) HJ'.out rfl ?_
    rw [HPE.out]
    exact ⟨R', rfl, (HL9.out.fin _).1, (HL9.out.fin _).2⟩
end Go.Proofs.YtdfbpaajkpnaeaaGreat

namespace Go.Proofs.YtdfbpaajkpnaeaaGreat
set_option maxRecDepth 100000
open Go.RowKit Go.Lib

theorem K4.app {w3 W W' : World} {y : Option Nat} {v v' : Value} {l : List UInt8} {k : Nat} {xs : List Value} (h : K4 w3 W y) (ha : Appd W w3.heap.size 5 1 v k xs v' W') (ho : OB W w3.heap.size v l) : K4 w3 W' y :=
  ⟨below_appd ha h.bl h.bl.size fun i hi => (ho.own i hi).1, fun b e => ⟨(h.hy b e).1, (ha.2.1.block b (lt_of_heap (h.hy b e).2) fun e2 => own_type (show W.ownsRow w3.heap.size 5 1 v l.length (bcells l) from ho) (h.hy b e).2 (by decide) e2.symm).trans (h.hy b e).2⟩⟩
theorem wp_then5 {P : Program} {c : Code} {Q : Exit → Act → World → Prop} {a : Act} {w : World} (M : Nat → List Value → Value → Option Addr → Nat → World → Prop) {A : Nat → List Value → Value → Option Addr → Nat → Act} (h : c.wp P (fun e a' w' => e = .normal ∧ ∃ x y z t u, a' = A x y z t u ∧ M x y z t u w') a w) (hQ : ∀ x y z t u W, M x y z t u W → Q .normal (A x y z t u) W) : c.wp P Q a w :=
  Code.wp_mono (fun e a' w' hh => by obtain ⟨rfl, x, y, z, t, u, rfl, h2⟩ := hh; exact hQ x y z t u w' h2) h
theorem Val.open_ {w : World} {G : Nat → Prop} {r : Dk} {R : List Value} (h : Val w G r R) {x z : Int} {n : Nat} (hx : 0 ≤ x ∧ x ≤ z ∧ z ≤ (r.base.length : Int)) (hn : n < 18446744073709551616) : Calls Tryz.prog 28 #[.agg R.toArray, .int .i64 x, .int .i64 z, .int .u64 (n : Int)] w (ROpn r R x z n w) := by
  obtain ⟨a0, c0, a1, c1, e, k⟩ := h
  rw [e]
  exact rlopen_any r a0 c0 a1 c1 G x z n w k hx hn
theorem Val.cell0 {w : World} {G : Nat → Prop} {r : Dk} {R : List Value} (h : Val w G r R) {W : World} {b : Nat} {c : List Value} {T : TypeId} (hb : W.heap[b]? = some (.cells (R ++ c).toArray T)) : ∃ a c0, W.cell? ⟨b, 0, none⟩ = some (.slice a r.base.length c0) := by
  obtain ⟨a0, c0, a1, c1, e, _⟩ := h
  exact ⟨a0, c0, by rw [cell_of_row _ _ _ _ _ _ hb, e]; rfl⟩
/-- what a Compact does -/
def CmpP (r : Dk) (x z : Int) (n : Nat) (s : Int) (rd : Bool) (st : List UInt8) (p : Dk × Int × Nat × Bool × Int) : Prop :=
  ((r.slotW 0 s (cont (n - 1) st)).2.2 ≠ 0 ∧ p = ((r.slotW 0 s (cont (n - 1) st)).1, x, n, rd && ((r.slotW 0 s (cont (n - 1) st)).2.2 != 82), (r.slotW 0 s (cont (n - 1) st)).2.2)) ∨
  ((r.slotW 0 s (cont (n - 1) st)).2.2 = 0 ∧ ∃ L y, Run (r.slotW 0 s (cont (n - 1) st)).1 z (2 * s) (n - 1) L y ∧ 2 * s ≤ y ∧ y ≤ z ∧ p = ((r.slotW 0 s (cont (n - 1) st)).1, y, nextN (r.slotW 0 s (cont (n - 1) st)).1 (2 * s) z (n - 1), true, 0))
set_option maxRecDepth 100000 in
set_option maxHeartbeats 6400000 in
theorem rjcompact_any (r : Dk) (R : List Value) (F : Nat → Prop) (x : Int) (N : Nat) (n : Nat) (s : Int) (rd : Bool) (st : List UInt8) (a : Option Addr) (len cap : Nat) (w : World) (hF : ∀ i, F i → i < w.heap.size) (h : Val w F r R) (hN : r.base.length = N) (hc : canJ r s = true) (hn : 1 ≤ n ∧ n ≤ 1152921504606846976) (hb : BAt w a st) (hl : st.length = len) (ha : a = none → st = []) (hm : len ≤ 12288) (hq : r.queue.length < 9700) :
    Calls Tryz.prog 14 #[.agg (rjc R x (N : Int) n s rd).toArray, .slice a len cap] w (fun e w' => ∃ p, CmpP r x (N : Int) n s rd st p ∧ RJRes F (N : Int) s p w e w') := by
  have HRC := Lib.hid h.cs
  have HJC := Lib.hid (rjc_cs h.cs x (N : Int) n s rd)
  obtain ⟨w3, hw3⟩ : ∃ w3, w3 = (w.alloc (.cells (rjc R x (N : Int) n s rd).toArray 41)).alloc (.cells zJ9.toArray 41) := ⟨_, rfl⟩
  have HB3 := Lib.hid (show RowKit.Below w.heap.size w w3 by rw [hw3]; exact ((RowKit.Below.refl _ _).alloc (Nat.le_refl _) _).alloc (by simp) _)
  have HN3 := Lib.hid (show w3.heap.size = w.heap.size + 2 by rw [hw3]; simp)
  have HP2 := Lib.hid (show w3.heap[w.heap.size]? = some (.cells (rjc R x (N : Int) n s rd).toArray 41) by rw [hw3]; exact blk_in (blkn rfl))
  have HP4 := Lib.hid (show w3.heap[w.heap.size + 1]? = some (.cells zJ9.toArray 41) by rw [hw3]; exact blkn (by simp))
  have HW3 := Lib.hid hw3.symm
  have HV3F := Lib.hid (show Val w3 (fun i => F i ∨ i = w.heap.size ∨ i = w.heap.size + 1) r R from h.add HB3.out fun i hi => hi.imp id fun e => by omega)
  obtain ⟨_, _, q6, q7, _⟩ := rjc_cell h.cs HP2.out
  have HQ7 := Lib.hid q7
  have HF := Lib.hid hF
  have HLN := Lib.hid hl
  have HBA := Lib.hid (hb.below HB3.out)
  have HNL := Lib.hid (show a = none → len = 0 from fun e => by rw [← hl, ha e]; rfl)
  have HS := Lib.hid (canJ_iff.1 hc)
  have HLE : Hid ((uvarint (n - 1)).length + len ≤ 1000000) := Lib.hid (by have := (cont_len (f := n - 1) (by omega) st).2; unfold cont at this; rw [List.length_append] at this; omega)
  obtain ⟨f, hf⟩ : ∃ f, f = n - 1 := ⟨_, rfl⟩
  have HNM := Lib.hid (fun (W : World) => show Calls Tryz.prog 35 #[.int .u64 (f : Int)] W (Made (uvarint f) W) by
    have k := refnum (f : Int) W (by omega) (by omega)
    rw [Int.toNat_natCast] at k
    exact k)
  have hwf : IntKind.u64.wrap ((n : Int) - 1) = (f : Int) := by rw [IntKind.wrap_u64]; omega
  have d0 : decide ((12288 : Int) < (len : Int)) = false := by simp; omega
  have d1 : decide ((1152921504606846976 : Int) < (f : Int)) = false := by simp; omega
  have HFB := Lib.hid (show f < 18446744073709551616 by omega)
  obtain ⟨p, hp⟩ : ∃ p, p = r.slotW 0 s (cont f st) := ⟨_, rfl⟩
  have HCP := Lib.hid (show ∀ q, ((p.2.2 ≠ 0 ∧ q = (p.1, x, n, rd && (p.2.2 != 82), p.2.2)) ∨ (p.2.2 = 0 ∧ ∃ L y, Run p.1 (N : Int) (2 * s) f L y ∧ 2 * s ≤ y ∧ y ≤ (N : Int) ∧ q = (p.1, y, nextN p.1 (2 * s) (N : Int) f, true, 0))) → CmpP r x (N : Int) n s rd st q by
    unfold CmpP
    rw [← hf, ← hp]
    exact fun q k => k)
  have HBL := Lib.hid (show p.1.base.length = N by rw [hp, (slotW_lens r 0 s (cont f st)).2, hN])
  rw [← hf] at HLE
  have HPT := Lib.hid (fun (W : World) (y : Option Nat) (hk : K4 w3 W y) (a4 : Option Addr) (c4 : Nat) (hba : BAt W a4 (cont f st)) (hno : a4 = none → cont f st = []) => show Calls Tryz.prog 34 #[.agg R.toArray, .int .i64 0, .int .i64 s, .slice a4 (cont f st).length c4] W (fun e w' => ∃ R', e = .returned (.tuple #[.agg R'.toArray, .int .u64 (p.2.1 : Int), .int .i64 p.2.2]) ∧ E4 (fun i => F i ∨ i = w.heap.size ∨ i = w.heap.size + 1) p.1 R' w' y ∧ RowKit.Below W.heap.size W w') by
    obtain ⟨a0, c0, a1, c1, e, k⟩ := HV3F.out
    rw [e]
    have hG : RM W (fun i => (F i ∨ i = w.heap.size ∨ i = w.heap.size + 1) ∨ y = some i) r a0 a1 := (k.grow hk.bl).sub fun i hi => hi.imp id fun e => (hk.hy i e).1
    have hcl := (cont_len (f := f) (by omega) st).2
    refine (rsput_any r a0 c0 a1 c1 _ 0 s (cont f st) a4 (cont f st).length c4 W (fun i hi => ?_) hG (by unfold I; omega) (by have := HS.out; unfold I; omega) hba rfl hno (by omega) hq).mono ?_
    · have := hk.bl.size
      have := HN3.out
      rcases hi with (hi | hi | hi) | hi
      · have := HF.out i hi; omega
      · omega
      · omega
      · exact lt_of_heap (hk.hy i hi).2
    · rintro _ w' ⟨A0, C0, A1, C1, rfl, k1, k2⟩
      rw [← hp] at k1 ⊢
      exact ⟨_, rfl, ⟨_, ⟨A0, C0, A1, C1, rfl, k1⟩, fun i hi => Or.inl hi, fun b hb => Or.inr hb⟩, k2⟩)
  have HLT := Lib.hid (show ∀ i ∈ [w.heap.size, w.heap.size + 1], i < w3.heap.size from fun i hi => by have := HN3.out; simp at hi; omega)
  have HK0 := Lib.hid (K4.start w3)
  have HN2 := Lib.hid (show N ≤ 2048 by obtain ⟨_, _, _, _, _, k⟩ := HV3F.out; have := k.ok.sz; omega)
  have HCN := Lib.hid (show 2 * s ≤ (N : Int) by have := HS.out; omega)
  obtain ⟨r1, un, E⟩ := p
  simp only at HCP HPT HBL
  clear h hn hb hl ha hm hq hF hw3 hc hN hf hp q7
  go_enter Tryz.func14, Tryz.ntmps14
  go_wp2_with (first | (with_reducible refine wpList_boxA rfl _ _ rfl _ rfl ?_) | ((with_reducible refine wpList_allocA rfl isJ9 rfl ?_); rw [HW3.out]))
  clear q6 hwf d0 d1
  apply wp_then5 (fun b R' _ _ _ W => M4 (fun i => F i ∨ i = w.heap.size ∨ i = w.heap.size + 1) w3 r1 b R' W)
  · refine wp_region_held_drew (S := fun W => Agree [w.heap.size, w.heap.size + 1] w3 W) (by kernel_rfl) ?_ (fun hHeld => ?_)
    · exact fun _ _ => rfl
    refine held_take 0 (v := ?_) rfl (by kernel_rfl) (by kernel_rfl) (by kernel_rfl) (fun _ _ _ h => by cases h.1) hHeld (by rfl) ?_ ?_
    rotate_left
    · (intro W hW; go_simp; try with_reducible rfl)
    try simp only [Act.put, List.setIfInBounds_toArray, List.set_cons_zero, List.set_cons_succ]
    refine held_take 1 (v := ?_) rfl (by kernel_rfl) (by kernel_rfl) (by kernel_rfl) (fun _ _ _ h => by cases h.1) hHeld (by rfl) ?_ ?_
    rotate_left
    · (intro W hW; go_simp; try with_reducible rfl)
    try simp only [Act.put, List.setIfInBounds_toArray, List.set_cons_zero, List.set_cons_succ]
    refine held_take 2 (v := .agg R.toArray) rfl (by kernel_rfl) (by kernel_rfl) (by kernel_rfl) (fun _ _ _ h => by cases h.1) hHeld (by rfl) (fun W hW => exec_loadM isD _ rfl _ _ _ rfl (hW.range (by simp) (range_head HP2.out)) HRC.out) ?_
    try simp only [Act.put, List.setIfInBounds_toArray, List.set_cons_zero, List.set_cons_succ]
    refine held_take 3 (v := ?_) rfl (by kernel_rfl) (by kernel_rfl) (by kernel_rfl) (fun _ _ _ h => by cases h.1) hHeld (by rfl) ?_ ?_
    rotate_left
    · (intro W hW; go_simp; try with_reducible rfl)
    try simp only [Act.put, List.setIfInBounds_toArray, List.set_cons_zero, List.set_cons_succ]
    refine held_take 4 (v := ?_) rfl (by kernel_rfl) (by kernel_rfl) (by kernel_rfl) (fun _ _ _ h => by cases h.1) hHeld (by rfl) ?_ ?_
    rotate_left
    · (intro W hW; have e0 := hW.cell (b := w.heap.size) (by simp) HQ7.out; go_simp; try with_reducible rfl)
    try simp only [Act.put, List.setIfInBounds_toArray, List.set_cons_zero, List.set_cons_succ]
    refine held_take 5 (v := ?_) rfl (by kernel_rfl) (by kernel_rfl) (by kernel_rfl) (fun _ _ _ h => by cases h.1) hHeld (by rfl) ?_ ?_
    rotate_left
    · (intro W hW; go_simp; try with_reducible rfl)
    try simp only [Act.put, List.setIfInBounds_toArray, List.set_cons_zero, List.set_cons_succ]
    refine held_take 7 (v := ?_) rfl (by kernel_rfl) (by kernel_rfl) (by kernel_rfl) (fun _ _ _ h => by cases h.1) hHeld (by rfl) ?_ ?_
    rotate_left
    · (intro W hW; go_simp; try with_reducible rfl)
    try simp only [Act.put, List.setIfInBounds_toArray, List.set_cons_zero, List.set_cons_succ]
    refine held_two 6 14 rfl rfl (by kernel_rfl) (by rfl) (by rfl) (fun K hK => ?_) (fun K hK => ?_)
    · go_simp
      go_at_call 35
      refine (HNM.out _).mono ?_
      rintro _ wq1 ⟨v1, rfl, hob, hbq⟩
      have HK1 := Lib.hid (HK0.out.call hbq)
      have HO1 := Lib.hid (hob.mono HK0.out.bl.size)
      clear hob hbq
      refine hK.out _ _ (fun i hi => HK1.out.bl.block i (HLT.out i hi)) (fun hHeld => ?_)
      clear hK K
      try simp only [Act.put, List.setIfInBounds_toArray, List.set_cons_zero, List.set_cons_succ]
      refine held_two 8 14 rfl rfl (by kernel_rfl) (by rfl) (by rfl) (fun K hK => ?_) (fun K hK => ?_)
      · refine wp_appO elB _ _ rfl w3.heap.size v1 (uvarint f).length (bcells (uvarint f)) a len cap (bcells st) rfl rfl HO1.out (by rw [bcells_len, HLN.out, Nat.mul_one]) (lie_bat (HBA.out.below HK1.out.bl)) HNL.out (bcells_one _) HLE.out (by decide) HK1.out.bl.size (fun v6 wq2 h6 => ?_)
        have HK2 := Lib.hid (HK1.out.app h6 HO1.out)
        obtain ⟨a2, c2, rfl, hba, hcc, _, hnn, _⟩ := OB.row (show OB wq2 w3.heap.size v6 (cont f st) by unfold OB cont; rw [List.length_append, bcells_app, HLN.out]; exact h6.1)
        have HBA2 := Lib.hid hba
        have HNN2 := Lib.hid (show a2 = none → cont f st = [] from fun e => List.length_eq_zero_iff.1 (by have := hnn e; omega))
        clear h6 hba hnn hcc
        refine hK.out _ _ (fun i hi => HK2.out.bl.block i (HLT.out i hi)) (fun hHeld => ?_)
        clear hK K
        try simp only [Act.put, List.setIfInBounds_toArray, List.set_cons_zero, List.set_cons_succ]
        refine held_two 9 14 rfl rfl (by kernel_rfl) (by rfl) (by rfl) (fun K hK => ?_) (fun K hK => ?_)
        · go_simp
          go_at_call 34
          refine (HPT.out _ _ HK2.out a2 c2 HBA2.out HNN2.out).mono ?_
          rintro _ wq3 ⟨R3, rfl, hee, hbq⟩
          have HE3 := Lib.hid hee
          have HK3 := Lib.hid (HK2.out.call hbq)
          clear hbq hee
          refine hK.out _ _ (fun i hi => HK3.out.bl.block i (HLT.out i hi)) (fun hHeld => ?_)
          clear hK K
          try simp only [Act.put, List.setIfInBounds_toArray, List.set_cons_zero, List.set_cons_succ]
          refine held_take 10 (v := ?_) rfl (by kernel_rfl) (by kernel_rfl) (by kernel_rfl) (fun _ _ _ h => by cases h.1) hHeld (by rfl) ?_ ?_
          rotate_left
          · (intro W hW; go_simp; try with_reducible rfl)
          try simp only [Act.put, List.setIfInBounds_toArray, List.set_cons_zero, List.set_cons_succ]
          refine held_take 11 (v := ?_) rfl (by kernel_rfl) (by kernel_rfl) (by kernel_rfl) (fun _ _ _ h => by cases h.1) hHeld (by rfl) ?_ ?_
          rotate_left
          · (intro W hW; go_simp; try with_reducible rfl)
          try simp only [Act.put, List.setIfInBounds_toArray, List.set_cons_zero, List.set_cons_succ]
          refine held_take 12 (v := ?_) rfl (by kernel_rfl) (by kernel_rfl) (by kernel_rfl) (fun _ _ _ h => by cases h.1) hHeld (by rfl) ?_ ?_
          rotate_left
          · (intro W hW; go_simp; try with_reducible rfl)
          try simp only [Act.put, List.setIfInBounds_toArray, List.set_cons_zero, List.set_cons_succ]
          refine held_take 13 (v := ?_) rfl (by kernel_rfl) (by kernel_rfl) (by kernel_rfl) (fun _ _ _ h => by cases h.1) hHeld (by rfl) ?_ ?_
          rotate_left
          · (intro W hW; go_simp; try with_reducible rfl)
          try simp only [Act.put, List.setIfInBounds_toArray, List.set_cons_zero, List.set_cons_succ]
          refine held_next 14 rfl (by kernel_rfl) (by rfl) (fun K hK => ?_)
          refine jallocD rfl (fun b4 wq4 he hbq hnq => ?_)
          have HK4 := Lib.hid (HK3.out.ay he hbq hnq)
          have HE4 := Lib.hid (HE3.out.ay he hbq)
          clear he hbq hnq
          refine hK.out _ _ (fun i hi => HK4.out.bl.block i (HLT.out i hi)) (fun hHeld => ?_)
          clear hK K
          try simp only [Act.put, List.setIfInBounds_toArray, List.set_cons_zero, List.set_cons_succ]
          refine held_next 15 rfl (by kernel_rfl) (by rfl) (fun K hK => ?_)
          refine jstoreD _ _ rfl b4 R3 zD rfl rfl (HK4.out.hy _ rfl).2 rfl (E4.cs HE4.out) ?_
          refine hK.out _ _ (fun i hi => (setRow_other _ _ _ _ (by have := (HK4.out.hy _ rfl).1; have := HLT.out i hi; omega)).trans (HK4.out.bl.block i (HLT.out i hi))) (fun hHeld => ?_)
          clear hK K
          try simp only [Act.put]
          refine held_take 16 (v := ?_) rfl (by kernel_rfl) (by kernel_rfl) (by kernel_rfl) (fun _ _ _ h => by cases h.1) hHeld (by rfl) ?_ ?_
          rotate_left
          · (intro W hW; go_simp; try with_reducible rfl)
          try simp only [Act.put, List.setIfInBounds_toArray, List.set_cons_zero, List.set_cons_succ]
          refine held_take 17 (v := ?_) rfl (by kernel_rfl) (by kernel_rfl) (by kernel_rfl) (fun _ _ _ h => by cases h.1) hHeld (by rfl) ?_ ?_
          rotate_left
          · (intro W hW; go_simp; try with_reducible rfl)
          try simp only [Act.put, List.setIfInBounds_toArray, List.set_cons_zero, List.set_cons_succ]
          exact wpAnyH_done (by kernel_rfl) ⟨rfl, b4, R3, v1, a2, c2, rfl, HE4.out.fin HK4.out⟩ _
        · refine jallocD rfl (fun b5 wq5 he hbq hnq => ?_)
          have HK5 := Lib.hid (HK2.out.ay he hbq hnq)
          have HBA5 := Lib.hid (HBA2.out.below hbq)
          clear he hbq hnq
          refine hK.out _ _ (fun i hi => HK5.out.bl.block i (HLT.out i hi)) (fun hHeld => ?_)
          clear hK K
          try simp only [Act.put, List.setIfInBounds_toArray, List.set_cons_zero, List.set_cons_succ]
          refine held_next 9 rfl (by kernel_rfl) (by rfl) (fun K hK => ?_)
          go_simp
          go_at_call 34
          refine (HPT.out _ _ HK5.out a2 c2 HBA5.out HNN2.out).mono ?_
          rintro _ wq6 ⟨R6, rfl, hee, hbq⟩
          have HE6 := Lib.hid hee
          have HK6 := Lib.hid (HK5.out.call hbq)
          clear hbq hee
          refine hK.out _ _ (fun i hi => HK6.out.bl.block i (HLT.out i hi)) (fun hHeld => ?_)
          clear hK K
          try simp only [Act.put, List.setIfInBounds_toArray, List.set_cons_zero, List.set_cons_succ]
          refine held_take 10 (v := ?_) rfl (by kernel_rfl) (by kernel_rfl) (by kernel_rfl) (fun _ _ _ h => by cases h.1) hHeld (by rfl) ?_ ?_
          rotate_left
          · (intro W hW; go_simp; try with_reducible rfl)
          try simp only [Act.put, List.setIfInBounds_toArray, List.set_cons_zero, List.set_cons_succ]
          refine held_take 11 (v := ?_) rfl (by kernel_rfl) (by kernel_rfl) (by kernel_rfl) (fun _ _ _ h => by cases h.1) hHeld (by rfl) ?_ ?_
          rotate_left
          · (intro W hW; go_simp; try with_reducible rfl)
          try simp only [Act.put, List.setIfInBounds_toArray, List.set_cons_zero, List.set_cons_succ]
          refine held_take 12 (v := ?_) rfl (by kernel_rfl) (by kernel_rfl) (by kernel_rfl) (fun _ _ _ h => by cases h.1) hHeld (by rfl) ?_ ?_
          rotate_left
          · (intro W hW; go_simp; try with_reducible rfl)
          try simp only [Act.put, List.setIfInBounds_toArray, List.set_cons_zero, List.set_cons_succ]
          refine held_take 13 (v := ?_) rfl (by kernel_rfl) (by kernel_rfl) (by kernel_rfl) (fun _ _ _ h => by cases h.1) hHeld (by rfl) ?_ ?_
          rotate_left
          · (intro W hW; go_simp; try with_reducible rfl)
          try simp only [Act.put, List.setIfInBounds_toArray, List.set_cons_zero, List.set_cons_succ]
          refine held_next 15 rfl (by kernel_rfl) (by rfl) (fun K hK => ?_)
          refine jstoreD _ _ rfl b5 R6 zD rfl rfl (HK6.out.hy _ rfl).2 rfl (E4.cs HE6.out) ?_
          refine hK.out _ _ (fun i hi => (setRow_other _ _ _ _ (by have := (HK6.out.hy _ rfl).1; have := HLT.out i hi; omega)).trans (HK6.out.bl.block i (HLT.out i hi))) (fun hHeld => ?_)
          clear hK K
          try simp only [Act.put]
          refine held_take 16 (v := ?_) rfl (by kernel_rfl) (by kernel_rfl) (by kernel_rfl) (fun _ _ _ h => by cases h.1) hHeld (by rfl) ?_ ?_
          rotate_left
          · (intro W hW; go_simp; try with_reducible rfl)
          try simp only [Act.put, List.setIfInBounds_toArray, List.set_cons_zero, List.set_cons_succ]
          refine held_take 17 (v := ?_) rfl (by kernel_rfl) (by kernel_rfl) (by kernel_rfl) (fun _ _ _ h => by cases h.1) hHeld (by rfl) ?_ ?_
          rotate_left
          · (intro W hW; go_simp; try with_reducible rfl)
          try simp only [Act.put, List.setIfInBounds_toArray, List.set_cons_zero, List.set_cons_succ]
          exact wpAnyH_done (by kernel_rfl) ⟨rfl, b5, R6, v1, a2, c2, rfl, HE6.out.fin HK6.out⟩ _
      · refine jallocD rfl (fun b7 wq7 he hbq hnq => ?_)
        have HK7 := Lib.hid (HK1.out.ay he hbq hnq)
        have HO7 := Lib.hid (HO1.out.below hbq)
        clear he hbq hnq
        refine hK.out _ _ (fun i hi => HK7.out.bl.block i (HLT.out i hi)) (fun hHeld => ?_)
        clear hK K
        try simp only [Act.put, List.setIfInBounds_toArray, List.set_cons_zero, List.set_cons_succ]
        refine held_next 8 rfl (by kernel_rfl) (by rfl) (fun K hK => ?_)
        refine wp_appO elB _ _ rfl w3.heap.size v1 (uvarint f).length (bcells (uvarint f)) a len cap (bcells st) rfl rfl HO7.out (by rw [bcells_len, HLN.out, Nat.mul_one]) (lie_bat (HBA.out.below HK7.out.bl)) HNL.out (bcells_one _) HLE.out (by decide) HK7.out.bl.size (fun v6 wq8 h6 => ?_)
        have HK8 := Lib.hid (HK7.out.app h6 HO7.out)
        obtain ⟨a8, c8, rfl, hba, hcc, _, hnn, _⟩ := OB.row (show OB wq8 w3.heap.size v6 (cont f st) by unfold OB cont; rw [List.length_append, bcells_app, HLN.out]; exact h6.1)
        have HBA8 := Lib.hid hba
        have HNN8 := Lib.hid (show a8 = none → cont f st = [] from fun e => List.length_eq_zero_iff.1 (by have := hnn e; omega))
        clear h6 hba hnn hcc
        refine hK.out _ _ (fun i hi => HK8.out.bl.block i (HLT.out i hi)) (fun hHeld => ?_)
        clear hK K
        try simp only [Act.put, List.setIfInBounds_toArray, List.set_cons_zero, List.set_cons_succ]
        refine held_next 9 rfl (by kernel_rfl) (by rfl) (fun K hK => ?_)
        go_simp
        go_at_call 34
        refine (HPT.out _ _ HK8.out a8 c8 HBA8.out HNN8.out).mono ?_
        rintro _ wq9 ⟨R9, rfl, hee, hbq⟩
        have HE9 := Lib.hid hee
        have HK9 := Lib.hid (HK8.out.call hbq)
        clear hbq hee
        refine hK.out _ _ (fun i hi => HK9.out.bl.block i (HLT.out i hi)) (fun hHeld => ?_)
        clear hK K
        try simp only [Act.put, List.setIfInBounds_toArray, List.set_cons_zero, List.set_cons_succ]
        refine held_take 10 (v := ?_) rfl (by kernel_rfl) (by kernel_rfl) (by kernel_rfl) (fun _ _ _ h => by cases h.1) hHeld (by rfl) ?_ ?_
        rotate_left
        · (intro W hW; go_simp; try with_reducible rfl)
        try simp only [Act.put, List.setIfInBounds_toArray, List.set_cons_zero, List.set_cons_succ]
        refine held_take 11 (v := ?_) rfl (by kernel_rfl) (by kernel_rfl) (by kernel_rfl) (fun _ _ _ h => by cases h.1) hHeld (by rfl) ?_ ?_
        rotate_left
        · (intro W hW; go_simp; try with_reducible rfl)
        try simp only [Act.put, List.setIfInBounds_toArray, List.set_cons_zero, List.set_cons_succ]
        refine held_take 12 (v := ?_) rfl (by kernel_rfl) (by kernel_rfl) (by kernel_rfl) (fun _ _ _ h => by cases h.1) hHeld (by rfl) ?_ ?_
        rotate_left
        · (intro W hW; go_simp; try with_reducible rfl)
        try simp only [Act.put, List.setIfInBounds_toArray, List.set_cons_zero, List.set_cons_succ]
        refine held_take 13 (v := ?_) rfl (by kernel_rfl) (by kernel_rfl) (by kernel_rfl) (fun _ _ _ h => by cases h.1) hHeld (by rfl) ?_ ?_
        rotate_left
        · (intro W hW; go_simp; try with_reducible rfl)
        try simp only [Act.put, List.setIfInBounds_toArray, List.set_cons_zero, List.set_cons_succ]
        refine held_next 15 rfl (by kernel_rfl) (by rfl) (fun K hK => ?_)
        refine jstoreD _ _ rfl b7 R9 zD rfl rfl (HK9.out.hy _ rfl).2 rfl (E4.cs HE9.out) ?_
        refine hK.out _ _ (fun i hi => (setRow_other _ _ _ _ (by have := (HK9.out.hy _ rfl).1; have := HLT.out i hi; omega)).trans (HK9.out.bl.block i (HLT.out i hi))) (fun hHeld => ?_)
        clear hK K
        try simp only [Act.put]
        refine held_take 16 (v := ?_) rfl (by kernel_rfl) (by kernel_rfl) (by kernel_rfl) (fun _ _ _ h => by cases h.1) hHeld (by rfl) ?_ ?_
        rotate_left
        · (intro W hW; go_simp; try with_reducible rfl)
        try simp only [Act.put, List.setIfInBounds_toArray, List.set_cons_zero, List.set_cons_succ]
        refine held_take 17 (v := ?_) rfl (by kernel_rfl) (by kernel_rfl) (by kernel_rfl) (fun _ _ _ h => by cases h.1) hHeld (by rfl) ?_ ?_
        rotate_left
        · (intro W hW; go_simp; try with_reducible rfl)
        try simp only [Act.put, List.setIfInBounds_toArray, List.set_cons_zero, List.set_cons_succ]
        exact wpAnyH_done (by kernel_rfl) ⟨rfl, b7, R9, v1, a8, c8, rfl, HE9.out.fin HK9.out⟩ _
    · refine jallocD rfl (fun b10 wq10 he hbq hnq => ?_)
      have HK10 := Lib.hid (HK0.out.ay he hbq hnq)
      clear he hbq hnq
      refine hK.out _ _ (fun i hi => HK10.out.bl.block i (HLT.out i hi)) (fun hHeld => ?_)
      clear hK K
      try simp only [Act.put, List.setIfInBounds_toArray, List.set_cons_zero, List.set_cons_succ]
      refine held_next 6 rfl (by kernel_rfl) (by rfl) (fun K hK => ?_)
      go_simp
      go_at_call 35
      refine (HNM.out _).mono ?_
      rintro _ wq11 ⟨v11, rfl, hob, hbq⟩
      have HK11 := Lib.hid (HK10.out.call hbq)
      have HO11 := Lib.hid (hob.mono HK10.out.bl.size)
      clear hob hbq
      refine hK.out _ _ (fun i hi => HK11.out.bl.block i (HLT.out i hi)) (fun hHeld => ?_)
      clear hK K
      try simp only [Act.put, List.setIfInBounds_toArray, List.set_cons_zero, List.set_cons_succ]
      refine held_next 8 rfl (by kernel_rfl) (by rfl) (fun K hK => ?_)
      refine wp_appO elB _ _ rfl w3.heap.size v11 (uvarint f).length (bcells (uvarint f)) a len cap (bcells st) rfl rfl HO11.out (by rw [bcells_len, HLN.out, Nat.mul_one]) (lie_bat (HBA.out.below HK11.out.bl)) HNL.out (bcells_one _) HLE.out (by decide) HK11.out.bl.size (fun v6 wq12 h6 => ?_)
      have HK12 := Lib.hid (HK11.out.app h6 HO11.out)
      obtain ⟨a12, c12, rfl, hba, hcc, _, hnn, _⟩ := OB.row (show OB wq12 w3.heap.size v6 (cont f st) by unfold OB cont; rw [List.length_append, bcells_app, HLN.out]; exact h6.1)
      have HBA12 := Lib.hid hba
      have HNN12 := Lib.hid (show a12 = none → cont f st = [] from fun e => List.length_eq_zero_iff.1 (by have := hnn e; omega))
      clear h6 hba hnn hcc
      refine hK.out _ _ (fun i hi => HK12.out.bl.block i (HLT.out i hi)) (fun hHeld => ?_)
      clear hK K
      try simp only [Act.put, List.setIfInBounds_toArray, List.set_cons_zero, List.set_cons_succ]
      refine held_next 9 rfl (by kernel_rfl) (by rfl) (fun K hK => ?_)
      go_simp
      go_at_call 34
      refine (HPT.out _ _ HK12.out a12 c12 HBA12.out HNN12.out).mono ?_
      rintro _ wq13 ⟨R13, rfl, hee, hbq⟩
      have HE13 := Lib.hid hee
      have HK13 := Lib.hid (HK12.out.call hbq)
      clear hbq hee
      refine hK.out _ _ (fun i hi => HK13.out.bl.block i (HLT.out i hi)) (fun hHeld => ?_)
      clear hK K
      try simp only [Act.put, List.setIfInBounds_toArray, List.set_cons_zero, List.set_cons_succ]
      refine held_take 10 (v := ?_) rfl (by kernel_rfl) (by kernel_rfl) (by kernel_rfl) (fun _ _ _ h => by cases h.1) hHeld (by rfl) ?_ ?_
      rotate_left
      · (intro W hW; go_simp; try with_reducible rfl)
      try simp only [Act.put, List.setIfInBounds_toArray, List.set_cons_zero, List.set_cons_succ]
      refine held_take 11 (v := ?_) rfl (by kernel_rfl) (by kernel_rfl) (by kernel_rfl) (fun _ _ _ h => by cases h.1) hHeld (by rfl) ?_ ?_
      rotate_left
      · (intro W hW; go_simp; try with_reducible rfl)
      try simp only [Act.put, List.setIfInBounds_toArray, List.set_cons_zero, List.set_cons_succ]
      refine held_take 12 (v := ?_) rfl (by kernel_rfl) (by kernel_rfl) (by kernel_rfl) (fun _ _ _ h => by cases h.1) hHeld (by rfl) ?_ ?_
      rotate_left
      · (intro W hW; go_simp; try with_reducible rfl)
      try simp only [Act.put, List.setIfInBounds_toArray, List.set_cons_zero, List.set_cons_succ]
      refine held_take 13 (v := ?_) rfl (by kernel_rfl) (by kernel_rfl) (by kernel_rfl) (fun _ _ _ h => by cases h.1) hHeld (by rfl) ?_ ?_
      rotate_left
      · (intro W hW; go_simp; try with_reducible rfl)
      try simp only [Act.put, List.setIfInBounds_toArray, List.set_cons_zero, List.set_cons_succ]
      refine held_next 15 rfl (by kernel_rfl) (by rfl) (fun K hK => ?_)
      refine jstoreD _ _ rfl b10 R13 zD rfl rfl (HK13.out.hy _ rfl).2 rfl (E4.cs HE13.out) ?_
      refine hK.out _ _ (fun i hi => (setRow_other _ _ _ _ (by have := (HK13.out.hy _ rfl).1; have := HLT.out i hi; omega)).trans (HK13.out.bl.block i (HLT.out i hi))) (fun hHeld => ?_)
      clear hK K
      try simp only [Act.put]
      refine held_take 16 (v := ?_) rfl (by kernel_rfl) (by kernel_rfl) (by kernel_rfl) (fun _ _ _ h => by cases h.1) hHeld (by rfl) ?_ ?_
      rotate_left
      · (intro W hW; go_simp; try with_reducible rfl)
      try simp only [Act.put, List.setIfInBounds_toArray, List.set_cons_zero, List.set_cons_succ]
      refine held_take 17 (v := ?_) rfl (by kernel_rfl) (by kernel_rfl) (by kernel_rfl) (fun _ _ _ h => by cases h.1) hHeld (by rfl) ?_ ?_
      rotate_left
      · (intro W hW; go_simp; try with_reducible rfl)
      try simp only [Act.put, List.setIfInBounds_toArray, List.set_cons_zero, List.set_cons_succ]
      exact wpAnyH_done (by kernel_rfl) ⟨rfl, b10, R13, v11, a12, c12, rfl, HE13.out.fin HK13.out⟩ _
  intro b7 R' v9 a9 c9 V hM
  have HLP := Lib.hid (show LP w V F 41 36 w.heap.size (w.heap.size + 1) b7 (R ++ [.int .i64 x, .int .i64 (N : Int), .int .u64 (n : Int), .int .i64 s, .bool rd]) zJ9 R' r1 R' from by
    obtain ⟨k1, k2, k3, k4⟩ := hM
    have hs := HN3.out
    exact ⟨(k1.block _ (by omega)).trans HP2.out, (k1.block _ (by omega)).trans HP4.out, k3, k4.sub fun i hi => by
      rcases hi with e | e | e | e
      · exact Or.inl (Or.inl e)
      · exact Or.inl (Or.inr (Or.inl e))
      · exact Or.inl (Or.inr (Or.inr e))
      · exact Or.inr e, HB3.out.trans (k1.mono HB3.out.size), by omega, by omega, by omega, by omega, by omega, by omega, HF.out⟩)
  have HR' := Lib.hid HLP.out.vv.cs
  have HC1 := Lib.hid (rjc_cs HR'.out x (N : Int) n s rd)
  clear hM
  by_cases hE : E = 0
  · subst hE
    obtain ⟨aa, ca, qc0⟩ := HLP.out.vv.cell0 (c := []) (b := b7) (by rw [List.append_nil]; exact HLP.out.h7)
    rw [HBL.out] at qc0
    have hw2 : IntKind.i64.wrap (2 * s) = 2 * s := IntWalk.i64_in _ (by have := HS.out; omega)
    have HCP2 := Lib.hid (fun L y k1 k2 k3 => HCP.out _ (Or.inr ⟨rfl, L, y, k1, k2, k3, rfl⟩))
    clear HCP
    have HC0 := Lib.hid qc0
    clear qc0
    go_wp2_with (first | (with_reducible refine wpList_loadW rfl isD _ rfl b7 R' _ rfl HLP.out.h7 HR'.out ?_) | ((with_reducible refine wpList_storeH rfl isD _ _ rfl w.heap.size R R' _ _ rfl rfl HLP.out.h2 HRC.out.len HR'.out ?_); intro V1 he1 ho1; have HL1 := Lib.hid (HLP.out.set2 he1 ho1); have qc1 : V1.cell? ⟨b7, 0, none⟩ = some (.slice aa N ca) := (by (rw [World.cell?_of_block (a := ⟨b7, 0, none⟩) (ho1.block _ (lt_of_heap HLP.out.h7) HLP.out.n27.symm)]; exact HC0.out)); have q7 : V1.cell? ⟨w.heap.size, 7, none⟩ = some (.int .i64 s) := (rjc_cell HR'.out he1).2.2.2.1; clear he1 ho1 HLP HC0) | (with_reducible refine wpList_loadW rfl isD _ rfl b7 R' _ rfl HL1.out.h7 HR'.out ?_))
    refine (HL1.out.vv.open_ (x := 2 * s) (z := (N : Int)) (n := f) ⟨by have := HS.out; omega, HCN.out, by rw [HBL.out]; exact Int.le_refl _⟩ HFB.out).mono ?_
    rintro _ V2 ⟨v, L, y, rfl, hrun, _, hy1, hy2, hb2⟩
    obtain ⟨m, hm⟩ : ∃ m, m = nextN r1 (2 * s) (N : Int) f := ⟨_, rfl⟩
    have HRN := Lib.hid (HCP2.out L y hrun hy1 hy2)
    rw [← hm] at HRN ⊢
    have HL2 := Lib.hid (show LP w V2 F 41 36 w.heap.size (w.heap.size + 1) b7 (rlc R' x (N : Int) n ++ [.int .i64 s, .bool rd]) zJ9 R' r1 R' by rw [← rjc_log]; exact HL1.out.below hb2)
    have HLC := Lib.hid (rlc_cs HR'.out x (N : Int) n)
    have HLC2 := Lib.hid (rlc_cs HR'.out y (N : Int) m)
    have HJ2 := Lib.hid (rjc_cs HR'.out y (N : Int) m s true)
    have HS8 := Lib.hid (show (rlc R' y (N : Int) m ++ [Value.int .i64 s, Value.bool rd]).set 8 (Value.bool true) = rjc R' y (N : Int) m s true by obtain ⟨v0, v1, v2, v3, e2⟩ := four HR'.out; rw [e2]; rfl)
    have HK8 := Lib.hid (show 8 < (rlc R' y (N : Int) m ++ [Value.int .i64 s, Value.bool rd]).length by simp [HR'.out.len])
    clear hrun hy1 hy2 hb2 hm qc1 q7 HCP2 HL1
    go_wp2_with (first | ((with_reducible refine wpList_storeH rfl isL _ _ rfl w.heap.size (rlc R' x (N : Int) n) (rlc R' y (N : Int) m) _ _ rfl rfl HL2.out.h2 HLC.out.len HLC2.out ?_); intro V3 he3 ho3; have HL3 := Lib.hid (HL2.out.set2 he3 ho3); clear he3 ho3 HL2) | ((with_reducible refine wpList_store1R rfl _ _ _ rfl w.heap.size 8 (.bool true) _ _ rfl rfl (Or.inr ⟨_, rfl⟩) (by kernel_rfl) HL3.out.h2 HK8.out ?_); rw [HS8.out]; intro V4 he4 ho4; have HL4 := Lib.hid (HL3.out.set2 he4 ho4); clear he4 ho4 HL3) | (with_reducible refine wpList_loadW rfl isJ9 _ rfl w.heap.size (rjc R' y (N : Int) m s true) _ rfl HL4.out.h2 HJ2.out ?_) | (with_reducible refine wpList_storeW rfl isJ9 _ _ rfl (w.heap.size + 1) (rjc R' y (N : Int) m s true) _ _ rfl rfl HL4.out.h4 HJ2.out zJ9_size ?_))
    refine ret_cell_slot isJ9 rfl rfl rfl (setRow_heap _ _ _ _ _ _ HL4.out.h4) HJ2.out rfl ?_
    exact ⟨_, HRN.out, R', rfl, (HL4.out.fin _).1, (HL4.out.fin _).2⟩
  · have d2 : (E == 0) = false := by simpa using hE
    have d3 : (E != 0) = true := by simpa using hE
    have HRN := Lib.hid (HCP.out _ (Or.inl ⟨hE, rfl⟩))
    obtain ⟨rd', hrd'⟩ : ∃ rd', rd' = (rd && (E != 82)) := ⟨_, rfl⟩
    have HJ2 := Lib.hid (rjc_cs HR'.out x (N : Int) n s rd')
    have HS8 := Lib.hid (show (rjc R' x (N : Int) n s rd).set 8 (Value.bool rd') = rjc R' x (N : Int) n s rd' by obtain ⟨v0, v1, v2, v3, e2⟩ := four HR'.out; rw [e2]; rfl)
    have HK8 := Lib.hid (show 8 < (rjc R' x (N : Int) n s rd).length by simp [HR'.out.len])
    rw [← hrd'] at HRN
    have HRD := Lib.hid hrd'
    have HQB := Lib.hid (fun (V1 : World) (e : V1.heap[w.heap.size]? = some (.cells (rjc R' x (N : Int) n s rd).toArray 41)) => (rjc_cell HR'.out e).2.2.2.2)
    clear hE hrd' HCP
    cases rd with
    | false =>
      have HE2 : rd' = false := HRD.out
      subst HE2
      go_wp2_with (first | (with_reducible refine wpList_loadW rfl isD _ rfl b7 R' _ rfl HLP.out.h7 HR'.out ?_) | ((with_reducible refine wpList_storeH rfl isD _ _ rfl w.heap.size R R' _ _ rfl rfl HLP.out.h2 HRC.out.len HR'.out ?_); intro V1 he1 ho1; have HL1 := Lib.hid (HLP.out.set2 he1 ho1); have q8 := HQB.out V1 he1; clear he1 ho1 HLP) | ((with_reducible refine wpList_store1R rfl _ _ _ rfl w.heap.size 8 (.bool false) _ _ rfl rfl (Or.inr ⟨_, rfl⟩) (by kernel_rfl) HL1.out.h2 HK8.out ?_); rw [HS8.out]; intro V4 he4 ho4; have HL4 := Lib.hid (HL1.out.set2 he4 ho4); clear he4 ho4 HL1 q8) | (with_reducible refine wpList_loadW rfl isJ9 _ rfl w.heap.size (rjc R' x (N : Int) n s false) _ rfl HL4.out.h2 HJ2.out ?_) | (with_reducible refine wpList_storeW rfl isJ9 _ _ rfl (w.heap.size + 1) (rjc R' x (N : Int) n s false) _ _ rfl rfl HL4.out.h4 HJ2.out zJ9_size ?_))
      refine ret_cell_slot isJ9 rfl rfl rfl (setRow_heap _ _ _ _ _ _ HL4.out.h4) HJ2.out rfl ?_
      exact ⟨_, HRN.out, R', rfl, (HL4.out.fin _).1, (HL4.out.fin _).2⟩
    | true =>
      have HE2 : rd' = (E != 82) := HRD.out
      subst HE2
      go_wp2_with (first | (with_reducible refine wpList_loadW rfl isD _ rfl b7 R' _ rfl HLP.out.h7 HR'.out ?_) | ((with_reducible refine wpList_storeH rfl isD _ _ rfl w.heap.size R R' _ _ rfl rfl HLP.out.h2 HRC.out.len HR'.out ?_); intro V1 he1 ho1; have HL1 := Lib.hid (HLP.out.set2 he1 ho1); have q8 := HQB.out V1 he1; clear he1 ho1 HLP) | ((with_reducible refine wpList_store1R rfl _ _ _ rfl w.heap.size 8 (.bool (E != 82)) _ _ rfl rfl (Or.inr ⟨_, rfl⟩) (by kernel_rfl) HL1.out.h2 HK8.out ?_); rw [HS8.out]; intro V4 he4 ho4; have HL4 := Lib.hid (HL1.out.set2 he4 ho4); clear he4 ho4 HL1 q8) | (with_reducible refine wpList_loadW rfl isJ9 _ rfl w.heap.size (rjc R' x (N : Int) n s (E != 82)) _ rfl HL4.out.h2 HJ2.out ?_) | (with_reducible refine wpList_storeW rfl isJ9 _ _ rfl (w.heap.size + 1) (rjc R' x (N : Int) n s (E != 82)) _ _ rfl rfl HL4.out.h4 HJ2.out zJ9_size ?_))
      refine ret_cell_slot isJ9 rfl rfl rfl (setRow_heap _ _ _ _ _ _ HL4.out.h4) HJ2.out rfl ?_
      exact ⟨_, HRN.out, R', rfl, (HL4.out.fin _).1, (HL4.out.fin _).2⟩
end Go.Proofs.YtdfbpaajkpnaeaaGreat

namespace Go.Proofs.YtdfbpaajkpnaeaaGreat
set_option maxRecDepth 100000
open Go.RowKit Go.Lib

theorem wpList_buildJ0 {ops : Array Oper} {rest : List Oper} {o : Oper} {a : Act} {w : World} {Q : Exit → Act → World → Prop} (hgd : o.guard = none) (ho : o.op = .build 41 #[])
    (hq : wpList Tryz.prog ops Q rest (a.put o.dst (.agg zJ9.toArray)) w) : wpList Tryz.prog ops Q (o :: rest) a w :=
  wpList_plain hgd fun K hK => by
    unfold Oper.wp execOp
    have e : (Instr.build 41 #[]).run Tryz.prog w = .ok (.agg zJ9.toArray) w := by
      simp [Instr.build, Sem.run_bind, isJ9.zero, run_underlying Tryz.underlying41, Value.cells, Instr.fill]
    simp only [ho, Sem.run_bind, Sem.run_pure, Result.andThen_ok, List.map_toArray, List.map_nil, e]
    exact hK _ _ hq
theorem builtJ (v0 v1 v2 v3 : Value) (x z n s : Int) : Tryz.prog.built 41 [(0, .agg #[v0, v1, v2, v3, .int .i64 x, .int .i64 z, .int .u64 n]), (1, .int .i64 s)] = some #[v0, v1, v2, v3, .int .i64 x, .int .i64 z, .int .u64 n, .int .i64 s, .bool false] := by
  kernel_rfl
theorem exec_buildJ {o : Oper} {a : Act} {w : World} (x0 x1 : Operand) (ho : o.op = .build 41 #[(0, x0), (1, x1)]) (R : List Value) (x z : Int) (n : Nat) (s : Int) (hR : Cs 4 R) (h0 : a.eval x0 = .agg (rlc R x z n).toArray) (h1 : a.eval x1 = .int .i64 s) :
    (execOp a.eval o).run Tryz.prog w = .ok (.value (.agg (rjc R x z n s false).toArray)) w := by
  obtain ⟨v0, v1, v2, v3, rfl⟩ := four hR
  unfold execOp
  simp only [ho, Sem.run_bind, List.map_toArray, List.map_cons, List.map_nil, h0, h1]
  rw [show (rlc [v0, v1, v2, v3] x z n).toArray = #[v0, v1, v2, v3, .int .i64 x, .int .i64 z, .int .u64 (n : Int)] from rfl]
  simp only [run_build w _ _ _ (builtJ v0 v1 v2 v3 x z n s), Result.andThen_ok]
  rfl
theorem wpList_buildJ1 {ops : Array Oper} {rest : List Oper} {o : Oper} {a : Act} {w : World} {Q : Exit → Act → World → Prop} (hgd : o.guard = none) (x0 x1 : Operand) (ho : o.op = .build 41 #[(0, x0), (1, x1)]) (R : List Value) (x z : Int) (n : Nat) (s : Int) (hR : Cs 4 R) (h0 : a.eval x0 = .agg (rlc R x z n).toArray) (h1 : a.eval x1 = .int .i64 s)
    (hq : wpList Tryz.prog ops Q rest (a.put o.dst (.agg (rjc R x z n s false).toArray)) w) : wpList Tryz.prog ops Q (o :: rest) a w :=
  wpList_plain hgd fun K hK => by
    have e := exec_buildJ (w := w) x0 x1 ho R x z n s hR h0 h1
    unfold Oper.wp
    rw [e]
    exact hK _ _ hq
def zRd : List Value := [.slice none 0 0, .bool false]
theorem isRd : IsAgg 99 2 zRd := ⟨Tryz.zeroValue99, ⟨_, Tryz.underlying99, rfl⟩, by kernel_rfl, rfl⟩
theorem zRd_size : zRd.toArray.size = 2 := rfl
theorem rd_cs (a : Option Addr) (n c : Nat) (b : Bool) : Cs 2 [.slice a n c, .bool b] := ⟨rfl, fun u hu => by
  simp at hu; rcases hu with rfl | rfl <;> rfl⟩
/-- four results: one lies in a block, three in slots -/
theorem ret_cell_slot4 {f : Func} {T : TypeId} {n : Nat} {z : List Value} {R : Ending → World → Prop} {a : Act} {w : World} {p q q2 q3 : Nat} {g : Nat} {c : List Value} {v v2 v3 : Value} {T' : TypeId} (hT : IsAgg T n z) (hf : f.results = #[.cell p T, .tmp q, .tmp q2, .tmp q3]) (hp : a.tmps.getD p undef = .pointer (some ⟨g, 0, none⟩)) (hq : a.tmps.getD q undef = v) (hq2 : a.tmps.getD q2 undef = v2) (hq3 : a.tmps.getD q3 undef = v3) (hg : w.heap[g]? = some (.cells c.toArray T')) (hc : Cs n c) (hd : a.defers = [])
    (hR : R (.returned (.tuple #[.agg c.toArray, v, v2, v3])) w) : bodyPost Tryz.prog f R .ret a w := by
  obtain ⟨d, hu, hr⟩ := hT.und
  have hp' : a.tmps[p]?.getD undef = .pointer (some ⟨g, 0, none⟩) := by simpa using hp
  have hq' : a.tmps[q]?.getD undef = v := by simpa using hq
  have hq2' : a.tmps[q2]?.getD undef = v2 := by simpa using hq2
  have hq3' : a.tmps[q3]?.getD undef = v3 := by simpa using hq3
  refine bodyPost_ret ?_ hd hR
  simp [results, hf, hp', hq', hq2', hq3', asAddr, run_loadVar_row w g T' T _ (0, 0) _ hg hu (by cases d <;> first | rfl | cases hr) (by rw [hT.size]; simp [hc.len])]
theorem jstoreJ {o : Oper} {a : Act} {w : World} {K : Act → World → Prop} {Q : Exit → Act → World → Prop} (x y : Operand) (ho : o.op = .store 41 x y) (b : Nat) (c old : List Value) (hx : a.eval x = .pointer (some ⟨b, 0, none⟩)) (hy : a.eval y = .agg c.toArray) (hg : w.heap[b]? = some (.cells old.toArray 41)) (hl : old.toArray.size = 9) (hc : Cs 9 c)
    (hq : K (a.put o.dst undef) (w.setRow b c.toArray)) : o.wp Tryz.prog a w K Q :=
  wp_store_row _ _ _ ho b c.toArray hx hy _ old.toArray hg (by rw [isJ9.size]; simp [hc.len]) (by rw [hl]; simp [hc.len]) (all_oneCell_toArray hc.one) hq
/-- bytes don't lie where a journal will -/
theorem bat_offJ {w : World} {a : Option Addr} {l : List UInt8} {b : Nat} {T : TypeId} (h : BAt w a l) (hg : w.heap[b]? = some (.cells zJ9.toArray T)) : l = [] ∨ ∀ k, inBlk a k → k ≠ b := by
  rcases h with h | ⟨q, off, rfl, hlt, hc⟩
  · exact Or.inl h
  · by_cases hl : l = []
    · exact Or.inl hl
    · right
      rintro k ⟨p, e, rfl⟩ hk
      cases e
      have hk : q = b := hk
      subst hk
      have h0 := hc 0 (List.length_pos_iff.2 hl)
      rw [cell_of_row w q _ _ _ _ hg] at h0
      have := List.mem_of_getElem? (by simpa using h0)
      simp [zJ9] at this
/-- what Format answers -/
def RFmt (r : Dk) (F : Nat → Prop) (N : Nat) (s : Int) (st : List UInt8) (w : World) (e : Ending) (w' : World) : Prop :=
  (canJ r s = false ∧ e = .returned (.tuple #[.agg zJ9.toArray, .int .i64 121]) ∧ RowKit.Below w.heap.size w w') ∨
  (canJ r s = true ∧ ∃ y p, 2 * s ≤ y ∧ y ≤ (N : Int) ∧ CmpP r y (N : Int) (nextN r (2 * s) (N : Int) 0) s false st p ∧ RJRes F (N : Int) s p w e w')
set_option maxRecDepth 100000 in
set_option maxHeartbeats 3200000 in
theorem rjformat_any (r : Dk) (R : List Value) (F : Nat → Prop) (N : Nat) (s : Int) (st : List UInt8) (a : Option Addr) (len cap : Nat) (w : World) (hF : ∀ i, F i → i < w.heap.size) (h : Val w F r R) (hN : r.base.length = N) (hs : I s) (hn : canJ r s = true → 1 ≤ nextN r (2 * s) (N : Int) 0 ∧ nextN r (2 * s) (N : Int) 0 ≤ 1152921504606846976) (hb : BAt w a st) (hl : st.length = len) (ha : a = none → st = []) (hm : len ≤ 12288) (hq : r.queue.length < 9700) :
    Calls Tryz.prog 8 #[.agg R.toArray, .int .i64 s, .slice a len cap] w (RFmt r F N s st w) := by
  have HRC := Lib.hid h.cs
  obtain ⟨w3, hw3⟩ : ∃ w3, w3 = (w.alloc (.cells R.toArray 36)).alloc (.cells zJ9.toArray 41) := ⟨_, rfl⟩
  have HB3 := Lib.hid (show RowKit.Below w.heap.size w w3 by rw [hw3]; exact ((RowKit.Below.refl _ _).alloc (Nat.le_refl _) _).alloc (by simp) _)
  have HN3 := Lib.hid (show w3.heap.size = w.heap.size + 2 by rw [hw3]; simp)
  have HP2 := Lib.hid (show w3.heap[w.heap.size]? = some (.cells R.toArray 36) by rw [hw3]; exact blk_in (blkn rfl))
  have HP4 := Lib.hid (show w3.heap[w.heap.size + 1]? = some (.cells zJ9.toArray 41) by rw [hw3]; exact blkn (by simp))
  have HW3 := Lib.hid hw3.symm
  have HV3 := Lib.hid (h.below HB3.out)
  have HV0 := Lib.hid h
  have HRT := Lib.hid (rjright_any r R F s w3 HV3.out hs)
  have HF := Lib.hid hF
  cases hc : canJ r s with
  | false =>
    rw [hc] at HRT
    have HC := Lib.hid hc
    clear hn hb hl ha hm hq hF hw3 hs h hN hc
    go_enter Tryz.func8, Tryz.ntmps8
    go_wp2_with (first | (with_reducible refine wpList_boxA rfl _ _ rfl _ rfl ?_) | ((with_reducible refine wpList_allocA rfl isJ9 rfl ?_); rw [HW3.out]) | (with_reducible refine wpList_loadW rfl isD _ rfl w.heap.size R _ rfl HP2.out HRC.out ?_))
    refine HRT.out.mono ?_
    rintro _ w4 ⟨rfl, hb4⟩
    have P4 := Lib.hid ((hb4.block _ (by have := HN3.out; omega)).trans HP4.out)
    have HZC := Lib.hid (show Cs 9 zJ9 from ⟨rfl, by decide⟩)
    have HBW := Lib.hid (below_setRow (g := w.heap.size + 1) (cs := zJ9.toArray) (HB3.out.trans (hb4.mono HB3.out.size)) (by omega))
    clear hb4
    go_wp2_with (first | (with_reducible refine wpList_buildJ0 rfl rfl ?_) | (with_reducible refine wpList_storeW rfl isJ9 _ _ rfl (w.heap.size + 1) zJ9 _ _ rfl rfl P4.out HZC.out zJ9_size ?_))
    refine ret_cell_slot isJ9 rfl rfl rfl (setRow_heap _ _ _ _ _ _ P4.out) HZC.out rfl ?_
    exact Or.inl ⟨HC.out, rfl, HBW.out⟩
  | true =>
    rw [hc] at HRT
    obtain ⟨s1, s2, s3⟩ := canJ_iff.1 hc
    rw [hN] at s3
    have HC := Lib.hid hc
    have hnn := hn hc
    obtain ⟨m, hm0⟩ : ∃ m, m = nextN r (2 * s) (N : Int) 0 := ⟨_, rfl⟩
    have HME := Lib.hid hm0
    rw [← hm0] at hnn
    have HSZ := Lib.hid (show N ≤ 2048 by obtain ⟨_, _, _, _, _, k⟩ := h; have := k.ok.sz; omega)
    obtain ⟨aa, ca, hc0⟩ := HV3.out.cell0 (W := w3) (b := w.heap.size) (c := []) (T := 36) (by rw [List.append_nil]; exact HP2.out)
    rw [hN] at hc0
    have HC0 := Lib.hid (fun (W : World) (hb : RowKit.Below w3.heap.size w3 W) => show W.cell? ⟨w.heap.size, 0, none⟩ = some (.slice aa N ca) from by rw [World.cell?_of_block (a := ⟨w.heap.size, 0, none⟩) (hb.block _ (by have := HN3.out; show w.heap.size < _; omega))]; exact hc0)
    have hw2 : IntKind.i64.wrap (2 * s) = 2 * s := IntWalk.i64_in _ (by omega)
    have HOP := Lib.hid (fun (W : World) (hb : RowKit.Below w3.heap.size w3 W) => (HV3.out.below hb).open_ (x := 2 * s) (z := (N : Int)) (n := 0) ⟨by omega, by omega, by rw [hN]; exact Int.le_refl _⟩ (by omega))
    have HCM := Lib.hid (fun (W : World) (hbl : RowKit.Below w3.heap.size w3 W) (G : Nat → Prop) (hG : ∀ i, G i → i < W.heap.size) (hv : Val W G r R) (y : Int) => rjcompact_any r R G y N m s false st a len cap W hG hv hN hc hnn ((hb.below HB3.out).below hbl) hl ha hm hq)
    clear hn hb hl ha hm hq hF hw3 hs hm0 hnn hc0 h hN hc s1 s2 s3
    go_enter Tryz.func8, Tryz.ntmps8
    go_wp2_with (first | (with_reducible refine wpList_boxA rfl _ _ rfl _ rfl ?_) | ((with_reducible refine wpList_allocA rfl isJ9 rfl ?_); rw [HW3.out]) | (with_reducible refine wpList_loadW rfl isD _ rfl w.heap.size R _ rfl HP2.out HRC.out ?_))
    refine HRT.out.mono ?_
    rintro _ w4 ⟨rfl, hb4⟩
    have HB4 := Lib.hid hb4
    have P2 := Lib.hid ((hb4.block _ (by have := HN3.out; omega)).trans HP2.out)
    have q0 := HC0.out w4 hb4
    have HO4 := Lib.hid (HOP.out w4 hb4)
    clear hb4 HRT HOP
    go_wp2_with (with_reducible refine wpList_loadW rfl isD _ rfl w.heap.size R _ rfl P2.out HRC.out ?_)
    refine HO4.out.mono ?_
    rintro _ w5 ⟨v, L, y, rfl, hrun, _, hy1, hy2, hb5⟩
    have HB5 := Lib.hid (HB4.out.trans (hb5.mono HB4.out.size))
    have HL5 := Lib.hid (rlc_cs HRC.out y (N : Int) (nextN r (2 * s) (N : Int) 0))
    have HY := Lib.hid (And.intro hy1 hy2)
    rw [← HME.out] at HL5 ⊢
    obtain ⟨w6, hw6⟩ : ∃ w6, w6 = w5.alloc (.cells (rlc R y (N : Int) m).toArray 39) := ⟨_, rfl⟩
    have HAL := Lib.hid (heap_alloc_new w5 (.cells zL.toArray 39))
    have HW6 := Lib.hid (show (w5.alloc (.cells zL.toArray 39)).setRow w5.heap.size (rlc R y (N : Int) m).toArray = w6 by rw [hw6]; exact setRow_new rfl)
    have HP8 := Lib.hid (show w6.heap[w5.heap.size]? = some (.cells (rlc R y (N : Int) m).toArray 39) by rw [hw6]; exact blkn rfl)
    have HB6 := Lib.hid (show RowKit.Below w3.heap.size w3 w6 by rw [hw6]; exact HB5.out.alloc HB5.out.size _)
    have HV6 := Lib.hid (show Val w6 (fun i => F i ∨ i = w.heap.size ∨ i = w.heap.size + 1) r R from HV0.out.add (HB3.out.trans (HB6.out.mono HB3.out.size)) fun i hi => hi.imp id fun e => by omega)
    have HC6 := Lib.hid (HCM.out w6 HB6.out _ (fun i hi => by
      have h1 := HN3.out
      have h2 := HB6.out.size
      rcases hi with e | e | e
      · have := HF.out i e; omega
      · omega
      · omega) HV6.out y)
    clear hrun hy1 hy2 hb5 hw6 q0 HO4 HCM hw2
    go_wp2_with (first | (with_reducible refine wpList_allocA rfl isL rfl ?_) | ((with_reducible refine wpList_storeW rfl isL _ _ rfl w5.heap.size (rlc R y (N : Int) m) _ _ rfl rfl HAL.out HL5.out zL_size ?_); rw [HW6.out]) | (with_reducible refine wpList_loadW rfl isL _ rfl w5.heap.size (rlc R y (N : Int) m) _ rfl HP8.out HL5.out ?_) | (with_reducible refine wpList_buildJ1 rfl _ _ rfl R y (N : Int) m s HRC.out rfl rfl ?_))
    refine HC6.out.mono ?_
    rintro _ w7 ⟨p, hp, R', rfl, hv, hb7⟩
    have HB7 := Lib.hid (HB6.out.trans (hb7.mono HB6.out.size))
    have P4 := Lib.hid ((HB7.out.block _ (by have := HN3.out; omega)).trans HP4.out)
    have HJ := Lib.hid (rjc_cs hv.cs p.2.1 (N : Int) p.2.2.1 s p.2.2.2.1)
    have HFN := Lib.hid (show RFmt r F N s st w (.returned (.tuple #[.agg (rjc R' p.2.1 (N : Int) p.2.2.1 s p.2.2.2.1).toArray, .int .i64 p.2.2.2.2])) (w7.setRow (w.heap.size + 1) (rjc R' p.2.1 (N : Int) p.2.2.1 s p.2.2.2.1).toArray) from
      Or.inr ⟨HC.out, y, p, HY.out.1, HY.out.2, by rw [← HME.out]; exact hp, R', rfl, (hv.only (only_row (Or.inr (Or.inr rfl)))).sub fun i hi => Or.inl hi, below_setRow (HB3.out.trans (HB7.out.mono HB3.out.size)) (by omega)⟩)
    clear hp hv hb7 HC6
    go_wp2_with (with_reducible refine wpList_storeW rfl isJ9 _ _ rfl (w.heap.size + 1) (rjc R' p.2.1 (N : Int) p.2.2.1 s p.2.2.2.1) _ _ rfl rfl P4.out HJ.out zJ9_size ?_)
    refine ret_cell_slot isJ9 rfl rfl rfl (setRow_heap _ _ _ _ _ _ P4.out) HJ.out rfl ?_
    exact HFN.out
/-- what Open answers -/
def ROpJ (r : Dk) (R : List Value) (N : Nat) (s : Int) (w : World) (e : Ending) (w' : World) : Prop :=
  ∃ v L y, e = .returned (.tuple #[.agg (rjc R y (N : Int) (nextN r (2 * s) (N : Int) (nV (r.slot 0 s).1.b)) s false).toArray, .string (strB (nR (r.slot 0 s).1.b)), v, .int .i64 0]) ∧ Run r (N : Int) (2 * s) (nV (r.slot 0 s).1.b) L y ∧ 2 * s ≤ y ∧ y ≤ (N : Int) ∧ Own w' w.heap.size v L ∧ RowKit.Below w.heap.size w w'
set_option maxRecDepth 100000 in
set_option maxHeartbeats 3200000 in
theorem rjopen_any (r : Dk) (R : List Value) (F : Nat → Prop) (N : Nat) (s : Int) (w : World) (h : Val w F r R) (hN : r.base.length = N) (hc : canJ r s = true) (h0 : (r.slot 0 s).2 = 0) (hp : ptO (r.slot 0 s).1.b = true) :
    Calls Tryz.prog 18 #[.agg R.toArray, .int .i64 s] w (ROpJ r R N s w) := by
  have HRC := Lib.hid h.cs
  obtain ⟨s1, s2, s3⟩ := canJ_iff.1 hc
  rw [hN] at s3
  obtain ⟨w3, hw3⟩ : ∃ w3, w3 = (w.alloc (.cells R.toArray 36)).alloc (.cells zJ9.toArray 41) := ⟨_, rfl⟩
  have HB3 := Lib.hid (show RowKit.Below w.heap.size w w3 by rw [hw3]; exact ((RowKit.Below.refl _ _).alloc (Nat.le_refl _) _).alloc (by simp) _)
  have HN3 := Lib.hid (show w3.heap.size = w.heap.size + 2 by rw [hw3]; simp)
  have HP2 := Lib.hid (fun (W : World) (hb : RowKit.Below w3.heap.size w3 W) => show W.heap[w.heap.size]? = some (.cells R.toArray 36) from (hb.block _ (by have := HN3.out; omega)).trans (by rw [hw3]; exact blk_in (blkn rfl)))
  have HP4 := Lib.hid (fun (W : World) (hb : RowKit.Below w3.heap.size w3 W) => show W.heap[w.heap.size + 1]? = some (.cells zJ9.toArray 41) from (hb.block _ (by have := HN3.out; omega)).trans (by rw [hw3]; exact blkn (by simp)))
  have HW3 := Lib.hid hw3.symm
  have HV3 := Lib.hid (h.below HB3.out)
  have HRT := Lib.hid (rjright_any r R F s w3 HV3.out (by unfold I; omega))
  rw [hc] at HRT
  have HRD := Lib.hid (fun (W : World) (hb : RowKit.Below w3.heap.size w3 W) => show Calls Tryz.prog 41 #[.agg R.toArray, .int .i64 0, .int .i64 s] W (SlRes (r.slot 0 s) W) by
    obtain ⟨a0, c0, a1, c1, e, k⟩ := HV3.out.below hb
    rw [e]
    exact rsread_any r a0 c0 a1 c1 F 0 s W k (by unfold I; omega) (by unfold I; omega))
  obtain ⟨c, hcc⟩ : ∃ c, c = (r.slot 0 s).1.b := ⟨_, rfl⟩
  have hlen := slot_len r 0 s
  have hnO : nO c = true := by rw [hcc]; unfold ptO at hp; exact (Bool.and_eq_true_iff.1 hp).1
  have hnV : nV c ≤ 1152921504606846976 := by rw [hcc]; unfold ptO at hp; exact of_decide_eq_true (Bool.and_eq_true_iff.1 hp).2
  rw [← hcc] at hlen
  unfold SlRes at HRD
  rw [h0, ← hcc] at HRD
  obtain ⟨gn, hgn⟩ : ∃ gn, gn = (r.slot 0 s).1.n := ⟨_, rfl⟩
  rw [← hgn] at HRD
  have HTN := Lib.hid (fun (W : World) (a : Option Addr) (k : Nat) (hr : RV W a k c) => show Calls Tryz.prog 42 #[.agg #[.slice a c.length k, .bool false]] W (fun e w' => ∃ A cap, e = .returned (.tuple #[.agg [.slice A (nR c).length cap, .bool false].toArray, .int .u64 (nV c : Int)]) ∧ BAt w' A (nR c) ∧ RowKit.Below W.heap.size W w') by
    refine (rtakenum a k c false W hr (by omega)).mono ?_
    rintro _ w' ⟨A, cap, rfl, k1, k2, _⟩
    rw [hnO]
    exact ⟨A, cap, rfl, k1.1, k2⟩)
  obtain ⟨aa, ca, hc0⟩ := HV3.out.cell0 (W := w3) (b := w.heap.size) (c := []) (T := 36) (by rw [List.append_nil]; exact HP2.out w3 (RowKit.Below.refl _ _))
  rw [hN] at hc0
  have HC0 := Lib.hid (fun (W : World) (hb : RowKit.Below w3.heap.size w3 W) => show W.cell? ⟨w.heap.size, 0, none⟩ = some (.slice aa N ca) from by rw [World.cell?_of_block (a := ⟨w.heap.size, 0, none⟩) (hb.block _ (by have := HN3.out; show w.heap.size < _; omega))]; exact hc0)
  obtain ⟨f, hf⟩ : ∃ f, f = nV c := ⟨_, rfl⟩
  obtain ⟨tl, htl⟩ : ∃ tl, tl = nR c := ⟨_, rfl⟩
  rw [← hf] at hnV
  rw [← hf, ← htl] at HTN
  have HSZ := Lib.hid (show N ≤ 2048 by obtain ⟨_, _, _, _, _, k⟩ := h; have := k.ok.sz; omega)
  have hw2 : IntKind.i64.wrap (2 * s) = 2 * s := IntWalk.i64_in _ (by omega)
  have d1 : decide ((1152921504606846976 : Int) < (f : Int)) = false := by simp; omega
  have HOP := Lib.hid (fun (W : World) (hb : RowKit.Below w3.heap.size w3 W) => (HV3.out.below hb).open_ (x := 2 * s) (z := (N : Int)) (n := f) ⟨by omega, by omega, by rw [hN]; exact Int.le_refl _⟩ (by omega))
  have HRES := Lib.hid (show ∀ e w', (∃ v L y, e = .returned (.tuple #[.agg (rjc R y (N : Int) (nextN r (2 * s) (N : Int) f) s false).toArray, .string (strB tl), v, .int .i64 0]) ∧ Run r (N : Int) (2 * s) f L y ∧ 2 * s ≤ y ∧ y ≤ (N : Int) ∧ Own w' w.heap.size v L ∧ RowKit.Below w.heap.size w w') → ROpJ r R N s w e w' by
    unfold ROpJ
    rw [← hcc, ← hf, ← htl]
    exact fun e w' k => k)
  clear h hN hc h0 hp hw3 hcc hlen hnO hnV hgn hc0 hf htl s1 s2 s3
  go_enter Tryz.func18, Tryz.ntmps18
  go_wp2_with (first | (with_reducible refine wpList_boxA rfl _ _ rfl _ rfl ?_) | ((with_reducible refine wpList_allocA rfl isJ9 rfl ?_); rw [HW3.out]) | (with_reducible refine wpList_loadW rfl isD _ rfl w.heap.size R _ rfl (HP2.out _ (RowKit.Below.refl _ _)) HRC.out ?_))
  refine HRT.out.mono ?_
  rintro _ w4 ⟨rfl, hb4⟩
  have HB4 := Lib.hid hb4
  have HR4 := Lib.hid (HRD.out w4 hb4)
  clear hb4 HRT HRD
  go_wp2_with (with_reducible refine wpList_loadW rfl isD _ rfl w.heap.size R _ rfl (HP2.out _ HB4.out) HRC.out ?_)
  refine HR4.out.mono ?_
  rintro _ w5 ⟨a5, k5, rfl, hba, hk, hno, hb5⟩
  have HB5 := Lib.hid (HB4.out.trans (hb5.mono HB4.out.size))
  have HT5 := Lib.hid (HTN.out w5 a5 k5 ⟨hba, hk, hno⟩)
  clear hba hk hno hb5 HR4 HTN
  go_wp2_with fail
  refine HT5.out.mono ?_
  rintro _ w6 ⟨A, cp, rfl, hba, hb6⟩
  have HB6 := Lib.hid (HB5.out.trans (hb6.mono HB5.out.size))
  have HDC := Lib.hid (rd_cs A tl.length cp false)
  obtain ⟨w7, hw7⟩ : ∃ w7, w7 = w6.alloc (.cells [.slice A tl.length cp, .bool false].toArray 99) := ⟨_, rfl⟩
  have HAL := Lib.hid (heap_alloc_new w6 (.cells zRd.toArray 99))
  have HW7 := Lib.hid (show (w6.alloc (.cells zRd.toArray 99)).setRow w6.heap.size [.slice A tl.length cp, .bool false].toArray = w7 by rw [hw7]; exact setRow_new rfl)
  have hb67 : RowKit.Below w6.heap.size w6 w7 := by rw [hw7]; exact (RowKit.Below.refl _ _).alloc (Nat.le_refl _) _
  have HP11 := Lib.hid (show w7.heap[w6.heap.size]? = some (.cells [.slice A tl.length cp, .bool false].toArray 99) by rw [hw7]; exact blkn rfl)
  have HB7 := Lib.hid (HB6.out.trans (hb67.mono HB6.out.size))
  have HBA7 := Lib.hid (hba.below hb67)
  have q11 : w7.cell? ⟨w6.heap.size, 1, none⟩ = some (.bool false) := by rw [cell_of_row _ _ _ _ _ _ HP11.out]; rfl
  have q20 := HC0.out w7 HB7.out
  have HO7 := Lib.hid (HOP.out w7 HB7.out)
  have HS6 := Lib.hid (show w6.heap.size < w7.heap.size from lt_of_heap HP11.out)
  have HS36 := Lib.hid (show w3.heap.size ≤ w6.heap.size from HB6.out.size)
  clear hba hb6 hw7 hb67 HT5 HOP
  go_wp2_with (first | (with_reducible refine wpList_allocA rfl isRd rfl ?_) | ((with_reducible refine wpList_storeW rfl isRd _ _ rfl w6.heap.size [.slice A tl.length cp, .bool false] _ _ rfl rfl HAL.out HDC.out zRd_size ?_); rw [HW7.out]) | (with_reducible refine wpList_loadW rfl isD _ rfl w.heap.size R _ rfl (HP2.out _ HB7.out) HRC.out ?_))
  refine HO7.out.mono ?_
  rintro _ w8 ⟨v, L, y, rfl, hrun, hown, hy1, hy2, hb8⟩
  obtain ⟨m, hm⟩ : ∃ m, m = nextN r (2 * s) (N : Int) f := ⟨_, rfl⟩
  have HRS := Lib.hid (fun (w' : World) k1 k2 => HRES.out _ w' ⟨v, L, y, rfl, hrun, hy1, hy2, k1, k2⟩)
  rw [← hm] at HRS ⊢
  have HLC := Lib.hid (rlc_cs HRC.out y (N : Int) m)
  have HJC := Lib.hid (rjc_cs HRC.out y (N : Int) m s false)
  obtain ⟨w9, hw9⟩ : ∃ w9, w9 = w8.alloc (.cells (rlc R y (N : Int) m).toArray 39) := ⟨_, rfl⟩
  have HAL8 := Lib.hid (heap_alloc_new w8 (.cells zL.toArray 39))
  have HW9 := Lib.hid (show (w8.alloc (.cells zL.toArray 39)).setRow w8.heap.size (rlc R y (N : Int) m).toArray = w9 by rw [hw9]; exact setRow_new rfl)
  have hb89 : RowKit.Below w8.heap.size w8 w9 := by rw [hw9]; exact (RowKit.Below.refl _ _).alloc (Nat.le_refl _) _
  have hb79 : RowKit.Below w7.heap.size w7 w9 := hb8.trans (hb89.mono hb8.size)
  have HP13 := Lib.hid (show w9.heap[w8.heap.size]? = some (.cells (rlc R y (N : Int) m).toArray 39) by rw [hw9]; exact blkn rfl)
  have HB9 := Lib.hid (HB7.out.trans (hb79.mono HB7.out.size))
  have HBA9 := Lib.hid (HBA7.out.below hb79)
  have HC11 := Lib.hid (show w9.cell? ⟨w6.heap.size, 0, none⟩ = some (.slice A tl.length cp) by rw [World.cell?_of_block (a := ⟨w6.heap.size, 0, none⟩) (hb79.block _ HS6.out), cell_of_row _ _ _ _ _ _ HP11.out]; rfl)
  have HLT := Lib.hid (And.intro (Nat.lt_of_lt_of_le HS6.out hb79.size) (lt_of_heap HP13.out))
  have HS8 := Lib.hid (show w3.heap.size ≤ w8.heap.size from Nat.le_trans HB7.out.size hb8.size)
  have HOW := Lib.hid (hown.below hb89)
  have HP49 := Lib.hid (HP4.out w9 HB9.out)
  have HKB := Lib.hid (fun (W : World) (h1 : w9.heap.size ≤ W.heap.size) (h2 : ∀ i, i < w9.heap.size → i ≠ w.heap.size + 1 → W.heap[i]? = w9.heap[i]?) => show BAt W A tl from HBA9.out.same h1 (by
    rcases HBA9.out.lt with e | e
    · exact Or.inl e
    · rcases bat_offJ HBA9.out HP49.out with e2 | e2
      · exact Or.inl e2
      · exact Or.inr fun k hk => h2 k (e k hk) (e2 k hk)))
  clear hrun hown hy1 hy2 hb8 hm hw9 hb89 hb79 q11 q20 HO7 hw2 d1
  go_wp2_with (first | (with_reducible refine wpList_allocA rfl isL rfl ?_) | ((with_reducible refine wpList_storeW rfl isL _ _ rfl w8.heap.size (rlc R y (N : Int) m) _ _ rfl rfl HAL8.out HLC.out zL_size ?_); rw [HW9.out]))
  apply wp_then
  · refine wp_region_held_drew (S := fun W => w9.heap.size ≤ W.heap.size ∧ ∀ i, i < w9.heap.size → i ≠ w.heap.size + 1 → W.heap[i]? = w9.heap[i]?) (by kernel_rfl) ?_ (fun hHeld => ?_)
    · exact ⟨Nat.le_refl _, fun _ _ _ => rfl⟩
    refine held_take 0 (v := .agg (rlc R y (N : Int) m).toArray) rfl (by kernel_rfl) (by kernel_rfl) (by kernel_rfl) (fun _ _ _ h => by cases h.1) hHeld (by rfl) (fun W hW => exec_loadM isL _ rfl _ _ _ rfl (range_of (range_row HP13.out) (hW.2 _ HLT.out.2 (by have := HN3.out; have := HS8.out; omega))) HLC.out) ?_
    try simp only [Act.put, List.setIfInBounds_toArray, List.set_cons_zero, List.set_cons_succ]
    refine held_take 1 (v := ?_) rfl (by kernel_rfl) (by kernel_rfl) (by kernel_rfl) (fun _ _ _ h => by cases h.1) hHeld (by rfl) ?_ ?_
    rotate_left
    · (intro W hW; go_simp; try with_reducible rfl)
    try simp only [Act.put, List.setIfInBounds_toArray, List.set_cons_zero, List.set_cons_succ]
    refine held_take 2 (v := .agg (rjc R y (N : Int) m s false).toArray) rfl (by kernel_rfl) (by kernel_rfl) (by kernel_rfl) (fun _ _ _ h => by cases h.1) hHeld (by rfl) (fun W _ => exec_buildJ _ _ rfl R y (N : Int) m s HRC.out rfl rfl) ?_
    try simp only [Act.put, List.setIfInBounds_toArray, List.set_cons_zero, List.set_cons_succ]
    refine held_take 3 (v := ?_) rfl (by kernel_rfl) (by kernel_rfl) (by kernel_rfl) (fun _ _ _ h => by cases h.1) hHeld (by rfl) ?_ ?_
    rotate_left
    · (intro W hW; go_simp; try with_reducible rfl)
    try simp only [Act.put, List.setIfInBounds_toArray, List.set_cons_zero, List.set_cons_succ]
    refine held_take 4 (v := ?_) rfl (by kernel_rfl) (by kernel_rfl) (by kernel_rfl) (fun _ _ _ h => by cases h.1) hHeld (by rfl) ?_ ?_
    rotate_left
    · (intro W hW; have e0 := (World.cell?_of_block (a := ⟨w6.heap.size, 0, none⟩) (hW.2 _ HLT.out.1 (by have := HN3.out; have := HS36.out; show w6.heap.size ≠ w.heap.size + 1; omega))).trans HC11.out; go_simp; try with_reducible rfl)
    try simp only [Act.put, List.setIfInBounds_toArray, List.set_cons_zero, List.set_cons_succ]
    refine held_take 5 (v := ?_) rfl (by kernel_rfl) (by kernel_rfl) (by kernel_rfl) (fun _ _ _ h => by cases h.1) hHeld (by rfl) ?_ ?_
    rotate_left
    · (intro W hW; have e0 := run_conv (w := W) (HKB.out W hW.1 hW.2) tl.length cp rfl; go_simp; try with_reducible rfl)
    try simp only [Act.put, List.setIfInBounds_toArray, List.set_cons_zero, List.set_cons_succ]
    refine held_take 6 (v := ?_) rfl (by kernel_rfl) (by kernel_rfl) (by kernel_rfl) (fun _ _ _ h => by cases h.1) hHeld (by rfl) ?_ ?_
    rotate_left
    · (intro W hW; go_simp; try with_reducible rfl)
    try simp only [Act.put, List.setIfInBounds_toArray, List.set_cons_zero, List.set_cons_succ]
    refine held_next 7 rfl (by kernel_rfl) (by rfl) (fun K hK => ?_)
    refine jstoreJ _ _ rfl (w.heap.size + 1) (rjc R y (N : Int) m s false) zJ9 rfl rfl HP49.out zJ9_size HJC.out ?_
    refine hK.out _ _ (⟨by simp, fun i _ hi2 => setRow_other _ _ _ _ hi2⟩) (fun hHeld => ?_)
    clear hK K
    try simp only [Act.put]
    refine held_take 8 (v := ?_) rfl (by kernel_rfl) (by kernel_rfl) (by kernel_rfl) (fun _ _ _ h => by cases h.1) hHeld (by rfl) ?_ ?_
    rotate_left
    · (intro W hW; go_simp; try with_reducible rfl)
    try simp only [Act.put, List.setIfInBounds_toArray, List.set_cons_zero, List.set_cons_succ]
    refine held_take 9 (v := ?_) rfl (by kernel_rfl) (by kernel_rfl) (by kernel_rfl) (fun _ _ _ h => by cases h.1) hHeld (by rfl) ?_ ?_
    rotate_left
    · (intro W hW; go_simp; try with_reducible rfl)
    try simp only [Act.put, List.setIfInBounds_toArray, List.set_cons_zero, List.set_cons_succ]
    refine held_take 10 (v := ?_) rfl (by kernel_rfl) (by kernel_rfl) (by kernel_rfl) (fun _ _ _ h => by cases h.1) hHeld (by rfl) ?_ ?_
    rotate_left
    · (intro W hW; go_simp; try with_reducible rfl)
    try simp only [Act.put, List.setIfInBounds_toArray, List.set_cons_zero, List.set_cons_succ]
    exact wpAnyH_done (by kernel_rfl) ⟨rfl, rfl, rfl⟩ _
  go_wp2
  refine ret_cell_slot4 isJ9 rfl rfl rfl rfl rfl (setRow_heap w9.drew _ _ _ _ _ HP49.out) HJC.out rfl ?_
  exact HRS.out _ ((own_mono HOW.out (by have := HN3.out; have := HB7.out.size; omega)).same fun i hi => setRow_other _ _ _ _ (fun e => by have := own_up' HOW.out i hi; have := HN3.out; have := HB7.out.size; omega)) (below_setRow (show RowKit.Below w.heap.size w w9.drew from (HB3.out.trans (HB9.out.mono HB3.out.size)).trans ⟨rfl, rfl, rfl, Nat.le_refl _, fun _ _ => rfl⟩) (by omega))
end Go.Proofs.YtdfbpaajkpnaeaaGreat
