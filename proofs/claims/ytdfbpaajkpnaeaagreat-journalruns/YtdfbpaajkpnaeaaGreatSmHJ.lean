
/- Package stamp: standing. Package stamp: gather. slices.Equal of sectors. -/
import Derived.Test.YtdfbpaajkpnaeaaGreatSmG

namespace Go.Proofs.YtdfbpaajkpnaeaaGreat
set_option maxRecDepth 100000
open Go.RowKit Go.Lib

theorem patch_all {s p : Sec} (hs : s.length = 64) (hp : p.length = 64) : patch s 0 p = p := by
  unfold patch
  rw [List.take_zero, List.nil_append, Nat.zero_add, hp, List.drop_of_length_le (by omega), List.append_nil]
/-- sectors[i] = t -/
theorem wp_sec {o : Oper} {a : Act} {w : World} {K : Act → World → Prop} {Q : Exit → Act → World → Prop} (x y : Operand) (ho : o.op = .store 88 x y) {g i off : Nat} {L : List Sec} {t : Sec} {c : List Value} (hx : a.eval x = .pointer (some ⟨g, off, none⟩)) (hy : a.eval y = .agg c.toArray) (hoff : off = i * 64) (hc : c = bcells t) (ht : t.length = 64)
    (hr : SRow w g L) (h64 : ∀ s ∈ L, s.length = 64) (hi : i < L.length) (h : ∀ W', SRow W' g (L.set i t) → w.grownBy W' (some g) → W'.heap.size = w.heap.size → K (a.put o.dst undef) W') : o.wp Tryz.prog a w K Q := by
  subst hoff hc
  have hg : L[i]? = some L[i] := List.getElem?_eq_getElem hi
  have hl : L[i].length = 64 := h64 _ (List.getElem_mem hi)
  obtain ⟨r1, r2⟩ := hr.cells h64 (k := 0) (p := t) hg (by omega)
  rw [patch_all hl ht, Nat.add_zero] at r1
  rw [Nat.add_zero] at r2
  refine wp_store_mid (P := Tryz.prog) _ x y ho g (i * 64) (bcells t).toArray hx hy ?_ (by rw [sizS]; simp [cells_len _ ht]) (all_oneCell_toArray (bcells_one t)) ?_
  · have := hr.there (k := 0) (n := 64) hi (by omega)
    simpa [cells_len _ ht] using this
  · exact h _ r1 r2 (by rw [size_setCells])
theorem wpList_sec {ops : Array Oper} {rest : List Oper} {o : Oper} {a : Act} {w : World} {Q : Exit → Act → World → Prop} (hgd : o.guard = none) (x y : Operand) (ho : o.op = .store 88 x y) {g i off : Nat} {L : List Sec} {t : Sec} {c : List Value} (hx : a.eval x = .pointer (some ⟨g, off, none⟩)) (hy : a.eval y = .agg c.toArray) (hoff : off = i * 64) (hc : c = bcells t) (ht : t.length = 64)
    (hr : SRow w g L) (h64 : ∀ s ∈ L, s.length = 64) (hi : i < L.length) (h : ∀ W', SRow W' g (L.set i t) → w.grownBy W' (some g) → W'.heap.size = w.heap.size → wpList Tryz.prog ops Q rest (a.put o.dst undef) W') : wpList Tryz.prog ops Q (o :: rest) a w :=
  wpList_plain hgd fun _ hK => wp_sec x y ho hx hy hoff hc ht hr h64 hi fun W' h1 h2 h3 => hK _ _ (h W' h1 h2 h3)
/-- the first i are there -/
def fillK (f : Nat → Sec) (m i : Nat) : List Sec := (List.range m).map fun j => if j < i then f j else zsec
theorem fillK_len (f : Nat → Sec) (m i : Nat) : (fillK f m i).length = m := by simp [fillK]
theorem fillK_zero (f : Nat → Sec) (m : Nat) : fillK f m 0 = List.replicate m zsec := by
  unfold fillK
  rw [List.map_congr_left (g := fun _ => zsec) (fun _ _ => if_neg (Nat.not_lt_zero _)), List.map_const', List.length_range]
theorem fillK_all (f : Nat → Sec) (m : Nat) : fillK f m m = (List.range m).map f := List.map_congr_left fun _ hj => if_pos (List.mem_range.1 hj)
theorem fillK_64 {f : Nat → Sec} (hf : ∀ j, (f j).length = 64) (m i : Nat) : ∀ s ∈ fillK f m i, s.length = 64 := fun s hs => by
  obtain ⟨j, _, rfl⟩ := List.mem_map.1 hs
  split
  · exact hf j
  · rfl
theorem fillK_set {f : Nat → Sec} {m i : Nat} (_h : i < m) : (fillK f m i).set i (f i) = fillK f m (i + 1) := by
  apply List.ext_getElem?
  intro j
  rw [List.getElem?_set]
  split
  · next e => subst e; rw [if_pos (by rw [fillK_len]; omega)]; simp [fillK, _h]
  · next e =>
    simp only [fillK, List.getElem?_map]
    cases h : (List.range m)[j]? with
    | none => rfl
    | some k =>
      have : k = j := by
        have hj : j < m := by have := (List.getElem?_eq_some_iff.1 h).1; simpa using this
        rw [List.getElem?_range hj] at h; exact (Option.some.inj h).symm
      subst this
      simp only [Option.map_some, Option.some.injEq]
      by_cases hk : k < i
      · rw [if_pos hk, if_pos (by omega)]
      · rw [if_neg hk, if_neg (by omega)]
set_option maxRecDepth 100000 in
set_option maxHeartbeats 3200000 in
theorem standing_any (g : Nat) (F : Nat → Prop) (d : Dk) (x z : Int) (w : World) (h : DAt w F g d) (hx0 : 0 ≤ x) (hz : z ≤ (d.base.length : Int)) (hxi : I x) :
    Calls Tryz.prog 103 #[.pointer (some ⟨g, 0, none⟩), .int .i64 x, .int .i64 z] w (LayRes (d.stands x z) w) := by
  have HD := Lib.hid h
  have hsz := h.ok.sz
  have HX := Lib.hid hxi
  by_cases hxz : z ≤ x
  · have d0 : decide (z ≤ x) = true := by simpa using hxz
    have HF := Lib.hid (LayRes.nil w)
    rw [show d.stands x z = [] by unfold Dk.stands; rw [if_pos hxz]]
    clear h hx0 hz hxi hsz hxz
    go_enter Tryz.func103, Tryz.ntmps103
    go_wp2
    go_ret
    exact HF.out
  · have d0 : decide (z ≤ x) = false := by simp; omega
    have HG1 := Lib.hid (get_any g F d x w h hxi)
    obtain ⟨s0, hs0⟩ : ∃ s, s = d.at_ x := ⟨_, rfl⟩
    obtain ⟨m, hm⟩ : ∃ m, m = manyAt s0 := ⟨_, rfl⟩
    have hm255 : m ≤ 255 := by rw [hm]; have := manyAt_lt s0; omega
    have h64 : s0.length = 64 := by rw [hs0]; exact at_len h.ok x
    obtain ⟨c, hc⟩ : ∃ c, c = bcells s0 := ⟨_, rfl⟩
    have HCC := Lib.hid (show Cs 64 c by rw [hc]; exact cs_sec h64)
    have HC1 := Lib.hid (show c[1]? = some (.int .u8 (m : Int)) by rw [hc, bcells_get (by omega), hm]; rfl)
    have HST := Lib.hid (show d.stands x z = if z - x < (m : Int) then [] else d.secsAt x m by unfold Dk.stands; rw [if_neg hxz, hm, hs0])
    unfold GetRes at HG1
    rw [← hs0, ← hc, show d.has x = true from Dk.has_iff.2 (by omega), if_pos rfl] at HG1
    have HB := Lib.hid (And.intro hx0 (And.intro hz hsz))
    have hzx : 0 ≤ z - x ∧ z - x ≤ 2048 := by omega
    clear h hz hxi hsz hxz hs0 hm h64 hc hx0
    go_enter Tryz.func103, Tryz.ntmps103
    go_wp2_with fail
    refine HG1.out.mono ?_
    rintro _ w1 ⟨rfl, hb1⟩
    have HB1 := Lib.hid hb1
    obtain ⟨w2, hw2⟩ : ∃ w2, w2 = w1.alloc (.cells c.toArray 88) := ⟨_, rfl⟩
    have HW2 := Lib.hid (show (w1.alloc (.cells zc.toArray 88)).setRow w1.heap.size c.toArray = w2 by rw [hw2]; exact setRow_new rfl)
    have HAL := Lib.hid (heap_alloc_new w1 (.cells zc.toArray 88))
    have HB2 := Lib.hid (show RowKit.Below w.heap.size w w2 by rw [hw2]; exact hb1.alloc hb1.size _)
    have p2 : w2.heap[w1.heap.size]? = some (.cells c.toArray 88) := by rw [hw2]; exact blkn rfl
    have q1 : w2.cell? ⟨w1.heap.size, 1, none⟩ = some (.int .u8 (m : Int)) := by rw [cell_of_row _ _ _ _ _ _ p2, List.getElem?_toArray, HC1.out]
    obtain ⟨w3, hrun, ho, hg, hs⟩ := run_make m (by omega) w2
    have HLM := Lib.hid (show w2.heap.size < w3.heap.size by omega)
    have HR0 := Lib.hid (show SRow w3 w2.heap.size (fillK (fun j => d.at_ (x + (j : Int))) m 0) by unfold SRow; rw [fillK_zero, List.length_replicate]; exact ⟨ho.1, ho.2.elim (fun h => .inl h) fun ⟨g, cap, cur, e1, _, e2⟩ => .inr ⟨g, cap, cur, e1, Nat.zero_le _, e2⟩⟩)
    have HB3 := Lib.hid (show RowKit.Below w.heap.size w w3 from HB2.out.grown hg HB2.out.size (fun k h => by cases h))
    have HGQ := Lib.hid (show w.heap.size ≤ w2.heap.size from HB2.out.size)
    clear hb1 hw2 p2 ho hg hs HG1
    by_cases hmz : z - x < (m : Int)
    · have d1 : decide (z - x < (m : Int)) = true := by simpa using hmz
      have HF := Lib.hid (show LayRes (d.stands x z) w (.returned (.slice none 0 0)) w2 by rw [HST.out, if_pos hmz]; exact ⟨none, 0, rfl, Or.inl rfl, fun _ => rfl, (fun b h => by obtain ⟨p, e, _⟩ := h; cases e), HB2.out⟩)
      clear hmz hrun
      go_wp2_with (first | ((with_reducible refine wpList_storeW rfl isS _ _ rfl w1.heap.size c zc.toArray _ rfl rfl HAL.out HCC.out (by simp [zc_len]) ?_); rw [HW2.out]) | (with_reducible refine wpList_allocA rfl isS rfl ?_))
      go_ret
      exact HF.out
    · have d1 : decide (z - x < (m : Int)) = false := by simp; omega
      have HMZ := Lib.hid hmz
      clear hmz
      go_wp2_with (first | ((with_reducible refine wpList_storeW rfl isS _ _ rfl w1.heap.size c zc.toArray _ rfl rfl HAL.out HCC.out (by simp [zc_len]) ?_); rw [HW2.out]) | (with_reducible refine wpList_allocA rfl isS rfl ?_))
      clear hrun q1 d0 d1
      go_loopw [33] (fun c33 wr => ∃ i : Nat, c33 = .int .i64 (i : Int) ∧ i ≤ m ∧ SRow wr w2.heap.size (fillK (fun j => d.at_ (x + (j : Int))) m i) ∧ RowKit.Below w.heap.size w wr) (fun c33 _ => m - (match c33 with | .int _ q => q | _ => 0).toNat)
      case atStart => exact ⟨0, rfl, Nat.zero_le _, HR0.out, HB3.out⟩
      case round =>
        obtain ⟨i, rfl, hi, hr, hbl⟩ := hrel
        have HR := Lib.hid hr
        have HBL := Lib.hid hbl
        clear hr hbl
        by_cases hlt : i < m
        · obtain ⟨y, hy⟩ : ∃ y, y = x + (i : Int) := ⟨_, rfl⟩
          have hy2 : IntKind.i64.wrap (x + (i : Int)) = y := by rw [← hy]; exact IntWalk.i64_in _ (by obtain ⟨q1, q2, q3⟩ := HB.out; have := HMZ.out; omega)
          have HGY := Lib.hid (fun (W : World) (hb : RowKit.Below w.heap.size w W) => get_any g F d y W (HD.out.below hb) (by obtain ⟨q1, q2, q3⟩ := HB.out; have := HMZ.out; rw [hy]; unfold I; omega))
          obtain ⟨t, ht⟩ : ∃ t, t = d.at_ y := ⟨_, rfl⟩
          have HTL := Lib.hid (show t.length = 64 by rw [ht]; exact at_len HD.out.ok y)
          have HTE := Lib.hid (show t = d.at_ (x + (i : Int)) by rw [ht, hy])
          obtain ⟨ct, hct⟩ : ∃ ct, ct = bcells t := ⟨_, rfl⟩
          have HCT := Lib.hid hct
          unfold GetRes at HGY
          rw [← ht, ← hct, show d.has y = true from Dk.has_iff.2 (by obtain ⟨q1, q2, q3⟩ := HB.out; have := HMZ.out; rw [hy]; omega), if_pos rfl] at HGY
          have HFL := Lib.hid (show i < (fillK (fun j => d.at_ (x + (j : Int))) m i).length by rw [fillK_len]; exact hlt)
          have HF64 := Lib.hid (fillK_64 (fun j => at_len HD.out.ok (x + (j : Int))) m i)
          have HSET := Lib.hid (show (fillK (fun j => d.at_ (x + (j : Int))) m i).set i t = fillK (fun j => d.at_ (x + (j : Int))) m (i + 1) by rw [HTE.out]; exact fillK_set (f := fun j => d.at_ (x + (j : Int))) hlt)
          have hidx : ∀ W, (Instr.indexAt 33 (.slice (some ⟨w2.heap.size, 0, none⟩) m m) (.int .i64 (i : Int))).run Tryz.prog W = .ok (.pointer (some ⟨w2.heap.size, i * 64, none⟩)) W := fun W => by
            have := run_idx elS (b := w2.heap.size) (off := 0) (n := m) (cap := m) (k := .i64) (i := (i : Int)) (j := i) rfl hlt W
            rw [Nat.zero_add] at this; exact this
          clear hy ht hct
          go_wp2_with fail
          refine (HGY.out _ HBL.out).mono ?_
          rintro _ w5 ⟨rfl, hb5⟩
          have HR5 := Lib.hid (HR.out.below hb5)
          have HB5 := Lib.hid (HBL.out.trans (hb5.mono HBL.out.size))
          clear hb5
          go_wp2_with ((with_reducible refine wpList_sec rfl _ _ rfl (i := i) rfl rfl rfl HCT.out HTL.out HR5.out HF64.out HFL.out ?_); intro w6 k1 k2 k3; rw [HSET.out] at k1; have HR6 := Lib.hid k1; have HB6 := Lib.hid (HB5.out.grown k2 HB5.out.size (fun _ e => by cases e; exact HGQ.out)); clear k1 k2 k3)
          go_roundw
          case rel => exact ⟨i + 1, by go_num, by omega, HR6.out, HB6.out⟩
          case measure => simp; omega
        · obtain rfl : i = m := by omega
          have HFIN := Lib.hid (show LayRes (d.stands x z) w (.returned (.slice (some ⟨w2.heap.size, 0, none⟩) i i)) wr from by
            rw [HST.out, if_neg (by have := HMZ.out; omega)]
            have e : fillK (fun j => d.at_ (x + (j : Int))) i i = d.secsAt x i := fillK_all _ _
            refine ⟨some ⟨w2.heap.size, 0, none⟩, i, by rw [secsAt_length], by rw [← e]; exact HR.out.lie, (fun e => by cases e), ?_, HBL.out⟩
            rintro b ⟨p, e, rfl⟩
            cases e
            exact ⟨HGQ.out, HR.out.lt⟩)
          clear hi hlt
          go_wp2
          go_ret
          exact HFIN.out
end Go.Proofs.YtdfbpaajkpnaeaaGreat

namespace Go.Proofs.YtdfbpaajkpnaeaaGreat
set_option maxRecDepth 100000
open Go.RowKit Go.Lib

theorem run_sl5 (b k : Nat) (hk : k ≤ 53) (W : World) : (Instr.sliceAt 88 (.pointer (some ⟨b, 0, none⟩)) (some (.int .i64 3)) (some (.int .i64 (3 + (k : Int)))) none).run Tryz.prog W = .ok (.slice (some ⟨b, 3, none⟩) k 61) W := by
  have h := run_sliceAt_array_lh (P := Tryz.prog) W 88 ⟨b, 0, none⟩ (by kernel_rfl) .i64 .i64 3 (3 + (k : Int)) (by omega) (by omega) (by rw [show Tryz.prog.arrayLen 88 = 64 by kernel_rfl]; omega)
  rw [h, show Tryz.prog.elem 88 = 5 by kernel_rfl, sz8, show Tryz.prog.arrayLen 88 = 64 by kernel_rfl]
  simp only [Result.andThen, slicedAt]
  rw [show (3 + (k : Int)).toNat = 3 + k by omega, show (3 : Int).toNat = 3 from rfl, if_neg (by omega)]
  rw [show 3 + k - 3 = k by omega]
  rfl
theorem gat_snoc {L : List Sec} {k : Nat} {s : Sec} (h : L[k]? = some s) : gat (L.take (k + 1)) = gat (L.take k) ++ gatS s := by
  rw [List.take_add_one, h, gat_app]
  simp [gat]
def GatRes (l : List UInt8) (w : World) (e : Ending) (w' : World) : Prop := ∃ v, e = .returned v ∧ OB w' w.heap.size v l ∧ RowKit.Below w.heap.size w w'
set_option maxRecDepth 100000 in
set_option maxHeartbeats 3200000 in
theorem gather_any (L : List Sec) (a : Option Addr) (cap : Nat) (w : World) (hli : Lie w a (scells L)) (h64 : ∀ s ∈ L, s.length = 64) (hL : L.length ≤ 255) :
    Calls Tryz.prog 104 #[.slice a L.length cap] w (GatRes (gat L) w) := by
  have HLI := Lib.hid hli
  have H64 := Lib.hid h64
  obtain ⟨M, hM⟩ : ∃ M, M = L.length := ⟨_, rfl⟩
  have HM := Lib.hid hM
  rw [← hM]
  rw [← hM] at hL
  clear hli h64 hM
  go_enter Tryz.func104, Tryz.ntmps104
  go_wp2
  go_loopw [3, 9] (fun c3 c9 wr => ∃ (k : Nat) (v : Value), v = c3 ∧ c9 = .int .i64 (k : Int) ∧ k ≤ M ∧ OB wr w.heap.size v (gat (L.take k)) ∧ RowKit.Below w.heap.size w wr) (fun _ c9 _ => M - (match c9 with | .int _ q => q | _ => 0).toNat)
  case atStart => exact ⟨0, _, rfl, rfl, Nat.zero_le _, by rw [List.take_zero]; exact OB.nil _ _, RowKit.Below.refl _ _⟩
  case round =>
    obtain ⟨k, c3, rfl, rfl, hk, ho, hbl⟩ := hrel
    have HO := Lib.hid ho
    have HBL := Lib.hid hbl
    clear ho hbl
    by_cases hlt : k < M
    · obtain ⟨s, hs⟩ : ∃ s, L[k]? = some s := ⟨_, List.getElem?_eq_getElem (by rw [← HM.out]; exact hlt)⟩
      have hsl : s.length = 64 := H64.out s (List.mem_of_getElem? hs)
      have HSL := Lib.hid hsl
      obtain ⟨bb, ob, ha1, hbb, hrb⟩ := (HLI.out.below HBL.out).get (f := bcells) (n := 64) (fun s hs => cells_len s (H64.out s hs)) (by decide) hs
      obtain ⟨c, hc⟩ : ∃ c, c = bcells s := ⟨_, rfl⟩
      have HC := Lib.hid hc
      rw [← hc] at hrb
      have HRB := Lib.hid hrb
      have HCC := Lib.hid (show Cs 64 c by rw [hc]; exact cs_sec hsl)
      obtain ⟨w4, hw4⟩ : ∃ w4, w4 = wr.alloc (.cells c.toArray 88) := ⟨_, rfl⟩
      have HW4 := Lib.hid (show (wr.alloc (.cells zc.toArray 88)).setRow wr.heap.size c.toArray = w4 by rw [hw4]; exact setRow_new rfl)
      have HAL := Lib.hid (heap_alloc_new wr (.cells zc.toArray 88))
      have p4 : w4.heap[wr.heap.size]? = some (.cells c.toArray 88) := by rw [hw4]; exact blkn rfl
      have hb4 : RowKit.Below wr.heap.size wr w4 := by rw [hw4]; exact (RowKit.Below.refl _ _).alloc (Nat.le_refl _) _
      obtain ⟨q, hq⟩ : ∃ q, q = (s.getD 2 0).toNat := ⟨_, rfl⟩
      have q2 : w4.cell? ⟨wr.heap.size, 2, none⟩ = some (.int .u8 (q : Int)) := by rw [cell_of_row _ _ _ _ _ _ p4, hc, List.getElem?_toArray, bcells_get (by omega), hq]
      have hq255 : q ≤ 255 := by rw [hq]; have := (s.getD 2 0).toNat_lt; omega
      obtain ⟨m, hm⟩ : ∃ m, m = min q 53 := ⟨_, rfl⟩
      have HGS := Lib.hid (show gatS s = (s.drop 3).take m by unfold gatS; rw [← hq, ← hm])
      have HGL := Lib.hid (show (gatS s).length = m by rw [gatS_len hsl, ← hq, ← hm])
      have HO4 := Lib.hid (HO.out.below hb4)
      have HB4 := Lib.hid (HBL.out.trans (hb4.mono HBL.out.size))
      have HNW := Lib.hid (show BAt w4 (some ⟨wr.heap.size, 3, none⟩) (gatS s) from by
        have hr := range_row p4
        rw [HGS.out]
        refine BAt.take (Or.inr ⟨wr.heap.size, 3, rfl, lt_of_heap p4, fun i hi => ?_⟩) _
        rw [List.length_drop] at hi
        have := hr (3 + i) _ (by rw [hc]; exact bcells_get (by omega))
        rw [Nat.zero_add] at this
        rw [this, List.getD_eq_getElem?_getD, List.getD_eq_getElem?_getD, List.getElem?_drop])
      have HTL := Lib.hid (show (gat (L.take k)).length + (gatS s).length ≤ 1000000000 by have := gat_le (L.take k); have := gatS_le s; rw [List.length_take] at *; omega)
      have HSN := Lib.hid (gat_snoc hs)
      have HMQ := Lib.hid hm
      have HNI := Lib.hid (show (some ⟨wr.heap.size, 3, none⟩ : Option Addr) = none → gatS s = [] from fun e => by cases e)
      have hsl5 := fun W => run_sl5 wr.heap.size m (by omega) W
      have HS4 := Lib.hid (show w.heap.size ≤ w4.heap.size from HB4.out.size)
      subst ha1
      clear hs hsl hbb hc hrb hw4 p4 hb4 hq
      by_cases h53 : q ≤ 53
      · obtain rfl : m = q := by omega
        clear hm
        go_wp2_with (first | (with_reducible refine wpList_appB rfl _ _ rfl w.heap.size c3 (gat (L.take k)) (gatS s) (some ⟨wr.heap.size, 3, none⟩) 61 m rfl rfl HGL.out HO4.out HNW.out HNI.out HTL.out HS4.out (fun v1 w5 h5 => ?_)) | ((with_reducible refine wpList_storeW rfl isS _ _ rfl wr.heap.size c zc.toArray _ rfl rfl HAL.out HCC.out (by simp [zc_len]) ?_); rw [HW4.out]) | (with_reducible refine wpList_allocA rfl isS rfl ?_) | (with_reducible refine wpList_idx elS rfl _ _ rfl k rfl rfl rfl hlt ?_) | (with_reducible refine wpList_loadM rfl isS _ rfl bb (ob + k * 64) c rfl HRB.out HCC.out ?_))
        obtain ⟨o5, u5, s5, z5⟩ := h5
        have HO5 := Lib.hid o5
        have HB5 := Lib.hid (u5.below HO4.out HS4.out HB4.out)
        clear o5 u5 s5 z5
        go_wp2_with fail
        go_roundw
        case rel => exact ⟨k + 1, v1, rfl, by go_num, by omega, by rw [HSN.out]; exact HO5.out, HB5.out⟩
        case measure => simp; omega
      · obtain rfl : m = 53 := by omega
        have h53' : 53 < q := by omega
        clear hm h53
        go_wp2_with (first | (with_reducible refine wpList_appB rfl _ _ rfl w.heap.size c3 (gat (L.take k)) (gatS s) (some ⟨wr.heap.size, 3, none⟩) 61 53 rfl rfl HGL.out HO4.out HNW.out HNI.out HTL.out HS4.out (fun v1 w5 h5 => ?_)) | ((with_reducible refine wpList_storeW rfl isS _ _ rfl wr.heap.size c zc.toArray _ rfl rfl HAL.out HCC.out (by simp [zc_len]) ?_); rw [HW4.out]) | (with_reducible refine wpList_allocA rfl isS rfl ?_) | (with_reducible refine wpList_idx elS rfl _ _ rfl k rfl rfl rfl hlt ?_) | (with_reducible refine wpList_loadM rfl isS _ rfl bb (ob + k * 64) c rfl HRB.out HCC.out ?_))
        obtain ⟨o5, u5, s5, z5⟩ := h5
        have HO5 := Lib.hid o5
        have HB5 := Lib.hid (u5.below HO4.out HS4.out HB4.out)
        clear o5 u5 s5 z5
        go_wp2_with fail
        go_roundw
        case rel => exact ⟨k + 1, v1, rfl, by go_num, by omega, by rw [HSN.out]; exact HO5.out, HB5.out⟩
        case measure => simp; omega
    · obtain rfl : k = M := by omega
      have HG := Lib.hid (show GatRes (gat L) w (.returned c3) wr from by
        have e : L.take k = L := by rw [HM.out]; exact List.take_length
        have := HO.out
        rw [e] at this
        exact ⟨c3, rfl, this, HBL.out⟩)
      clear hk hlt
      go_wp2
      go_ret
      exact HG.out
end Go.Proofs.YtdfbpaajkpnaeaaGreat

namespace Go.Proofs.YtdfbpaajkpnaeaaGreat
set_option maxRecDepth 100000
open Go.RowKit Go.Lib

theorem take_next {L K : List Sec} {k : Nat} {s t : Sec} (hl : L[k]? = some s) (hk : K[k]? = some t) (h : L.take k = K.take k) (e : s = t) : L.take (k + 1) = K.take (k + 1) := by rw [List.take_add_one, List.take_add_one, h, hl, hk, e]
set_option maxRecDepth 100000 in
set_option maxHeartbeats 3200000 in
theorem equal_any (L K : List Sec) (a a2 : Option Addr) (c c2 : Nat) (w : World) (hl : Lie w a (scells L)) (hk : Lie w a2 (scells K)) (h64 : ∀ s ∈ L, s.length = 64) (k64 : ∀ s ∈ K, s.length = 64) (hLN : L.length ≤ 1000) (hKN : K.length ≤ 1000) :
    Calls Tryz.prog 105 #[.slice a L.length c, .slice a2 K.length c2] w fun e w' => e = .returned (.bool (decide (L = K))) ∧ RowKit.Below w.heap.size w w' := by
  have HL := Lib.hid hl
  have HK := Lib.hid hk
  have HL64 := Lib.hid h64
  have HK64 := Lib.hid k64
  obtain ⟨M, hM⟩ : ∃ M, M = L.length := ⟨_, rfl⟩
  obtain ⟨N, hN⟩ : ∃ N, N = K.length := ⟨_, rfl⟩
  have HM := Lib.hid hM
  have HN := Lib.hid hN
  rw [← hM, ← hN]
  rw [← hM] at hLN
  rw [← hN] at hKN
  clear hl hk h64 k64 hM hN
  by_cases hMN : M = N
  · subst hMN
    have d0 : ((M : Int) == (M : Int)) = true := by simp
    clear hKN
    go_enter Tryz.func105, Tryz.ntmps105
    go_wp2
    go_loopw [13] (fun c13 wr => ∃ k : Nat, c13 = .int .i64 (k : Int) ∧ k ≤ M ∧ L.take k = K.take k ∧ RowKit.Below w.heap.size w wr) (fun c13 _ => M - (match c13 with | .int _ q => q | _ => 0).toNat)
    case atStart => exact ⟨0, rfl, Nat.zero_le _, rfl, RowKit.Below.refl _ _⟩
    case round =>
      obtain ⟨k, rfl, hk, htk, hbl⟩ := hrel
      have HT := Lib.hid htk
      have HB := Lib.hid hbl
      clear htk hbl
      by_cases hlt : k < M
      · obtain ⟨s, hs⟩ : ∃ s, L[k]? = some s := ⟨_, List.getElem?_eq_getElem (by rw [← HM.out]; exact hlt)⟩
        obtain ⟨t, ht⟩ : ∃ t, K[k]? = some t := ⟨_, List.getElem?_eq_getElem (by rw [← HN.out]; exact hlt)⟩
        have HS := Lib.hid hs
        have HTT := Lib.hid ht
        have hsl := HL64.out s (List.mem_of_getElem? hs)
        have htl := HK64.out t (List.mem_of_getElem? ht)
        obtain ⟨b1, o1, ha1, _, hr1⟩ := (HL.out.below HB.out).get (f := bcells) (n := 64) (fun s hs => cells_len s (HL64.out s hs)) (by decide) hs
        obtain ⟨b2, o2, ha2, _, hr2⟩ := (HK.out.below HB.out).get (f := bcells) (n := 64) (fun s hs => cells_len s (HK64.out s hs)) (by decide) ht
        obtain ⟨cx, hcx⟩ : ∃ cx, cx = bcells s := ⟨_, rfl⟩
        obtain ⟨cy, hcy⟩ : ∃ cy, cy = bcells t := ⟨_, rfl⟩
        obtain ⟨q, hq⟩ : ∃ q, q = decide (s = t) := ⟨_, rfl⟩
        have HNE := Lib.hid (show ∀ W, (Op.equalIn 10000 88 (.agg cx.toArray) (.agg cy.toArray)).run Tryz.prog W = .ok q W by rw [hcx, hcy, hq]; exact eqS hsl htl)
        have HQ := Lib.hid hq
        rw [← hcx] at hr1
        rw [← hcy] at hr2
        have HR1 := Lib.hid hr1
        have HR2 := Lib.hid hr2
        have HC1 := Lib.hid (show Cs 64 cx by rw [hcx]; exact cs_sec hsl)
        have HC2 := Lib.hid (show Cs 64 cy by rw [hcy]; exact cs_sec htl)
        subst ha1 ha2
        clear hs ht hsl htl hr1 hr2 hcx hcy hq
        go_wp2
        refine wp_region_held_drew (S := fun W => Agree [b1, b2] wr W) (by kernel_rfl) ?_ (fun hHeld => ?_)
        · exact fun _ _ => rfl
        refine held_take 0 (v := ?_) rfl (by kernel_rfl) (by kernel_rfl) (by kernel_rfl) (fun _ _ _ h => h) hHeld (by rfl) ?_ ?_
        rotate_left
        · (intro W hW; go_simp; try with_reducible rfl)
        try simp only [Act.put, List.setIfInBounds_toArray, List.set_cons_zero, List.set_cons_succ]
        refine held_take 1 (v := ?_) rfl (by kernel_rfl) (by kernel_rfl) (by kernel_rfl) (fun _ _ _ h => h) hHeld (by rfl) ?_ ?_
        rotate_left
        · (intro W hW; go_simp; try with_reducible rfl)
        try simp only [Act.put, List.setIfInBounds_toArray, List.set_cons_zero, List.set_cons_succ]
        refine held_take 2 (v := ?_) rfl (by kernel_rfl) (by kernel_rfl) (by kernel_rfl) (fun _ _ _ h => h) hHeld (by rfl) ?_ ?_
        rotate_left
        · (intro W hW; have e := run_idx elS (b := b1) (off := o1) (n := M) (cap := c) (k := .i64) (i := (k : Int)) (j := k) rfl hlt W; go_simp; try with_reducible rfl)
        try simp only [Act.put, List.setIfInBounds_toArray, List.set_cons_zero, List.set_cons_succ]
        refine held_take 3 (v := .agg cx.toArray) rfl (by kernel_rfl) (by kernel_rfl) (by kernel_rfl) (fun _ _ _ h => h) hHeld (by rfl) (fun W hW => exec_loadM isS _ rfl _ _ cx rfl (hW.range (by simp) HR1.out) HC1.out) ?_
        try simp only [Act.put, List.setIfInBounds_toArray, List.set_cons_zero, List.set_cons_succ]
        refine held_take 4 (v := ?_) rfl (by kernel_rfl) (by kernel_rfl) (by kernel_rfl) (fun _ _ _ h => h) hHeld (by rfl) ?_ ?_
        rotate_left
        · (intro W hW; go_simp; try with_reducible rfl)
        try simp only [Act.put, List.setIfInBounds_toArray, List.set_cons_zero, List.set_cons_succ]
        refine held_take 5 (v := ?_) rfl (by kernel_rfl) (by kernel_rfl) (by kernel_rfl) (fun _ _ _ h => h) hHeld (by rfl) ?_ ?_
        rotate_left
        · (intro W hW; go_simp; try with_reducible rfl)
        try simp only [Act.put, List.setIfInBounds_toArray, List.set_cons_zero, List.set_cons_succ]
        refine held_take 6 (v := ?_) rfl (by kernel_rfl) (by kernel_rfl) (by kernel_rfl) (fun _ _ _ h => h) hHeld (by rfl) ?_ ?_
        rotate_left
        · (intro W hW; have e := run_idx elS (b := b2) (off := o2) (n := M) (cap := c2) (k := .i64) (i := (k : Int)) (j := k) rfl hlt W; go_simp; try with_reducible rfl)
        try simp only [Act.put, List.setIfInBounds_toArray, List.set_cons_zero, List.set_cons_succ]
        refine held_take 7 (v := .agg cy.toArray) rfl (by kernel_rfl) (by kernel_rfl) (by kernel_rfl) (fun _ _ _ h => h) hHeld (by rfl) (fun W hW => exec_loadM isS _ rfl _ _ cy rfl (hW.range (by simp) HR2.out) HC2.out) ?_
        try simp only [Act.put, List.setIfInBounds_toArray, List.set_cons_zero, List.set_cons_succ]
        refine held_take 8 (v := ?_) rfl (by kernel_rfl) (by kernel_rfl) (by kernel_rfl) (fun _ _ _ h => h) hHeld (by rfl) ?_ ?_
        rotate_left
        · (intro W hW; have e := HNE.out W; go_simp; try with_reducible rfl)
        try simp only [Act.put, List.setIfInBounds_toArray, List.set_cons_zero, List.set_cons_succ]
        refine wpAnyH_done (by kernel_rfl) ?_ _
        go_simp
        cases q with
        | true =>
          have hst : s = t := of_decide_eq_true HQ.out.symm
          have HNX := Lib.hid (take_next HS.out HTT.out HT.out hst)
          clear hst
          go_wp2
          go_roundw
          case rel => exact ⟨k + 1, by go_num, by omega, HNX.out, HB.out.trans ((RowKit.Below.refl _ _).drew.mono HB.out.size)⟩
          case measure => simp; omega
        | false =>
          have hst : ¬ s = t := of_decide_eq_false HQ.out.symm
          have HNX := Lib.hid (show decide (L = K) = false from decide_eq_false fun e => by
            have := HS.out
            rw [e, HTT.out] at this
            exact hst (Option.some.inj this).symm)
          have HBD := Lib.hid (HB.out.trans ((RowKit.Below.refl _ wr).drew.mono HB.out.size))
          clear hst
          go_wp2
          try rw [Exit.noGoto_ret]
          go_ret
          exact ⟨by rw [HNX.out]; rfl, HBD.out⟩
      · obtain rfl : k = M := by omega
        have HE := Lib.hid (show decide (L = K) = true from decide_eq_true (by
          have e := HT.out
          have e1 : L.take k = L := by rw [HM.out]; exact List.take_length
          have e2 : K.take k = K := by rw [HN.out]; exact List.take_length
          rw [e1, e2] at e
          exact e))
        clear hk hlt
        go_wp2
        go_ret
        exact ⟨by rw [HE.out]; rfl, HB.out⟩
  · have d0 : ((M : Int) == (N : Int)) = false := by simp; omega
    have HE := Lib.hid (show decide (L = K) = false from decide_eq_false fun e => hMN (by rw [HM.out, HN.out, e]))
    clear hMN
    go_enter Tryz.func105, Tryz.ntmps105
    go_wp2
    go_ret
    exact ⟨by rw [HE.out]; rfl, RowKit.Below.refl _ _⟩
end Go.Proofs.YtdfbpaajkpnaeaaGreat
