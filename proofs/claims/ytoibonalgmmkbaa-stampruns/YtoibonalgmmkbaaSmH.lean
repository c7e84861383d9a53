/- Package stamp: standing. -/
import Derived.Test.YtoibonalgmmkbaaSmG
namespace Go.Proofs.Ytoibonalgmmkbaa
open Go.RowKit Go.Lib

theorem patch_all {s p : Sec} (hs : s.length = 64) (hp : p.length = 64) : patch s 0 p = p := by
  unfold patch
  rw [List.take_zero, List.nil_append, Nat.zero_add, hp, List.drop_of_length_le (by omega), List.append_nil]
/-- sectors[i] = t -/
theorem wp_sec {o : Oper} {a : Act} {w : World} {K : Act → World → Prop} {Q : Exit → Act → World → Prop} (x y : Operand) (ho : o.op = .store 59 x y) {g i off : Nat} {L : List Sec} {t : Sec} {c : List Value} (hx : a.eval x = .pointer (some ⟨g, off, none⟩)) (hy : a.eval y = .agg c.toArray) (hoff : off = i * 64) (hc : c = bcells t) (ht : t.length = 64)
    (hr : SRow w g L) (h64 : ∀ s ∈ L, s.length = 64) (hi : i < L.length) (h : ∀ W', SRow W' g (L.set i t) → w.grownBy W' (some g) → W'.heap.size = w.heap.size → K (a.put o.dst undef) W') : o.wp Try.prog a w K Q := by
  subst hoff hc
  have hg : L[i]? = some L[i] := List.getElem?_eq_getElem hi
  have hl : L[i].length = 64 := h64 _ (List.getElem_mem hi)
  obtain ⟨r1, r2⟩ := hr.cells h64 (k := 0) (p := t) hg (by omega)
  rw [patch_all hl ht, Nat.add_zero] at r1
  rw [Nat.add_zero] at r2
  refine wp_store_mid (P := Try.prog) _ x y ho g (i * 64) (bcells t).toArray hx hy ?_ (by rw [sizS]; simp [cells_len _ ht]) (all_oneCell_toArray (bcells_one t)) ?_
  · have := hr.there (k := 0) (n := 64) hi (by omega)
    simpa [cells_len _ ht] using this
  · exact h _ r1 r2 (by rw [size_setCells])
theorem wpList_sec {ops : Array Oper} {rest : List Oper} {o : Oper} {a : Act} {w : World} {Q : Exit → Act → World → Prop} (hgd : o.guard = none) (x y : Operand) (ho : o.op = .store 59 x y) {g i off : Nat} {L : List Sec} {t : Sec} {c : List Value} (hx : a.eval x = .pointer (some ⟨g, off, none⟩)) (hy : a.eval y = .agg c.toArray) (hoff : off = i * 64) (hc : c = bcells t) (ht : t.length = 64)
    (hr : SRow w g L) (h64 : ∀ s ∈ L, s.length = 64) (hi : i < L.length) (h : ∀ W', SRow W' g (L.set i t) → w.grownBy W' (some g) → W'.heap.size = w.heap.size → wpList Try.prog ops Q rest (a.put o.dst undef) W') : wpList Try.prog ops Q (o :: rest) a w :=
  wpList_plain hgd fun _ hK => wp_sec x y ho hx hy hoff hc ht hr h64 hi fun W' h1 h2 h3 => hK _ _ (h W' h1 h2 h3)
/-- the first i are there -/
def fillK (f : Nat → Sec) (m i : Nat) : List Sec := (List.range m).map fun j => if j < i then f j else zsec
theorem fillK_len (f : Nat → Sec) (m i : Nat) : (fillK f m i).length = m := by simp [fillK]
theorem fillK_zero (f : Nat → Sec) (m : Nat) : fillK f m 0 = List.replicate m zsec := by
  unfold fillK
  rw [List.map_congr_left (g := fun _ => zsec) (fun _ _ => if_neg (Nat.not_lt_zero _)), List.map_const', List.length_range]
theorem fillK_all (f : Nat → Sec) (m : Nat) : fillK f m m = (List.range m).map f := List.map_congr_left fun _ hj => if_pos (List.mem_range.1 hj)
theorem fillK_64 {f : Nat → Sec} (hf : ∀ j, (f j).length = 64) (m i : Nat) : ∀ s ∈ fillK f m i, s.length = 64 := fun s hs => by
  obtain ⟨j, _, rfl⟩ := List.mem_map.1 hs
  split
  · exact hf j
  · rfl
theorem fillK_set {f : Nat → Sec} {m i : Nat} (_h : i < m) : (fillK f m i).set i (f i) = fillK f m (i + 1) := by
  apply List.ext_getElem?
  intro j
  rw [List.getElem?_set]
  split
  · next e => subst e; rw [if_pos (by rw [fillK_len]; omega)]; simp [fillK, _h]
  · next e =>
    simp only [fillK, List.getElem?_map]
    cases h : (List.range m)[j]? with
    | none => rfl
    | some k =>
      have : k = j := by
        have hj : j < m := by have := (List.getElem?_eq_some_iff.1 h).1; simpa using this
        rw [List.getElem?_range hj] at h; exact (Option.some.inj h).symm
      subst this
      simp only [Option.map_some, Option.some.injEq]
      by_cases hk : k < i
      · rw [if_pos hk, if_pos (by omega)]
      · rw [if_neg hk, if_neg (by omega)]
set_option maxRecDepth 100000 in
set_option maxHeartbeats 3200000 in
theorem standing_any (g : Nat) (F : Nat → Prop) (d : Dk) (x z : Int) (w : World) (h : DAt w F g d) (hx0 : 0 ≤ x) (hz : z ≤ (d.base.length : Int)) (hxi : I x) :
    Calls Try.prog 28 #[.pointer (some ⟨g, 0, none⟩), .int .i64 x, .int .i64 z] w (LayRes (d.stands x z) w) := by
  have HD := Lib.hid h
  have hsz := h.ok.sz
  have HX := Lib.hid hxi
  by_cases hxz : z ≤ x
  · have d0 : decide (z ≤ x) = true := by simpa using hxz
    have HF := Lib.hid (LayRes.nil w)
    rw [show d.stands x z = [] by unfold Dk.stands; rw [if_pos hxz]]
    clear h hx0 hz hxi hsz hxz
    go_enter Try.func28, Try.ntmps28
    go_wp2
    go_ret
    exact HF.out
  · have d0 : decide (z ≤ x) = false := by simp; omega
    have HG1 := Lib.hid (get_any g F d x w h hxi)
    obtain ⟨s0, hs0⟩ : ∃ s, s = d.at_ x := ⟨_, rfl⟩
    obtain ⟨m, hm⟩ : ∃ m, m = manyAt s0 := ⟨_, rfl⟩
    have hm255 : m ≤ 255 := by rw [hm]; have := manyAt_lt s0; omega
    have h64 : s0.length = 64 := by rw [hs0]; exact at_len h.ok x
    obtain ⟨c, hc⟩ : ∃ c, c = bcells s0 := ⟨_, rfl⟩
    have HCC := Lib.hid (show Cs 64 c by rw [hc]; exact cs_sec h64)
    have HC1 := Lib.hid (show c[1]? = some (.int .u8 (m : Int)) by rw [hc, bcells_get (by omega), hm]; rfl)
    have HST := Lib.hid (show d.stands x z = if z - x < (m : Int) then [] else d.secsAt x m by unfold Dk.stands; rw [if_neg hxz, hm, hs0])
    unfold GetRes at HG1
    rw [← hs0, ← hc, show d.has x = true from Dk.has_iff.2 (by omega), if_pos rfl] at HG1
    have HB := Lib.hid (And.intro hx0 (And.intro hz hsz))
    have hzx : 0 ≤ z - x ∧ z - x ≤ 2048 := by omega
    clear h hz hxi hsz hxz hs0 hm h64 hc hx0
    go_enter Try.func28, Try.ntmps28
    go_wp2_with fail
    refine HG1.out.mono ?_
    rintro _ w1 ⟨rfl, hb1⟩
    have HB1 := Lib.hid hb1
    obtain ⟨w2, hw2⟩ : ∃ w2, w2 = w1.alloc (.cells c.toArray 59) := ⟨_, rfl⟩
    have HW2 := Lib.hid (show (w1.alloc (.cells zc.toArray 59)).setRow w1.heap.size c.toArray = w2 by rw [hw2]; exact setRow_new rfl)
    have HAL := Lib.hid (heap_alloc_new w1 (.cells zc.toArray 59))
    have HB2 := Lib.hid (show RowKit.Below w.heap.size w w2 by rw [hw2]; exact hb1.alloc hb1.size _)
    have p2 : w2.heap[w1.heap.size]? = some (.cells c.toArray 59) := by rw [hw2]; exact blkn rfl
    have q1 : w2.cell? ⟨w1.heap.size, 1, none⟩ = some (.int .u8 (m : Int)) := by rw [cell_of_row _ _ _ _ _ _ p2, List.getElem?_toArray, HC1.out]
    obtain ⟨w3, hrun, ho, hg, hs⟩ := run_make m (by omega) w2
    have HLM := Lib.hid (show w2.heap.size < w3.heap.size by omega)
    have HR0 := Lib.hid (show SRow w3 w2.heap.size (fillK (fun j => d.at_ (x + (j : Int))) m 0) by unfold SRow; rw [fillK_zero, List.length_replicate]; exact ⟨ho.1, ho.2.elim (fun h => .inl h) fun ⟨g, cap, cur, e1, _, e2⟩ => .inr ⟨g, cap, cur, e1, Nat.zero_le _, e2⟩⟩)
    have HB3 := Lib.hid (show RowKit.Below w.heap.size w w3 from HB2.out.grown hg HB2.out.size (fun k h => by cases h))
    have HGQ := Lib.hid (show w.heap.size ≤ w2.heap.size from HB2.out.size)
    clear hb1 hw2 p2 ho hg hs HG1
    by_cases hmz : z - x < (m : Int)
    · have d1 : decide (z - x < (m : Int)) = true := by simpa using hmz
      have HF := Lib.hid (show LayRes (d.stands x z) w (.returned (.slice none 0 0)) w2 by rw [HST.out, if_pos hmz]; exact ⟨none, 0, rfl, Or.inl rfl, fun _ => rfl, (fun b h => by obtain ⟨p, e, _⟩ := h; cases e), HB2.out⟩)
      clear hmz hrun
      go_wp2_with (first | ((with_reducible refine wpList_storeW rfl isS _ _ rfl w1.heap.size c zc.toArray _ rfl rfl HAL.out HCC.out (by simp [zc_len]) ?_); rw [HW2.out]) | (with_reducible refine wpList_allocA rfl isS rfl ?_))
      go_ret
      exact HF.out
    · have d1 : decide (z - x < (m : Int)) = false := by simp; omega
      have HMZ := Lib.hid hmz
      clear hmz
      go_wp2_with (first | ((with_reducible refine wpList_storeW rfl isS _ _ rfl w1.heap.size c zc.toArray _ rfl rfl HAL.out HCC.out (by simp [zc_len]) ?_); rw [HW2.out]) | (with_reducible refine wpList_allocA rfl isS rfl ?_))
      clear hrun q1 d0 d1
      go_loopw [33] (fun c33 wr => ∃ i : Nat, c33 = .int .i64 (i : Int) ∧ i ≤ m ∧ SRow wr w2.heap.size (fillK (fun j => d.at_ (x + (j : Int))) m i) ∧ RowKit.Below w.heap.size w wr) (fun c33 _ => m - (match c33 with | .int _ q => q | _ => 0).toNat)
      case atStart => exact ⟨0, rfl, Nat.zero_le _, HR0.out, HB3.out⟩
      case round =>
        obtain ⟨i, rfl, hi, hr, hbl⟩ := hrel
        have HR := Lib.hid hr
        have HBL := Lib.hid hbl
        clear hr hbl
        by_cases hlt : i < m
        · obtain ⟨y, hy⟩ : ∃ y, y = x + (i : Int) := ⟨_, rfl⟩
          have hy2 : IntKind.i64.wrap (x + (i : Int)) = y := by rw [← hy]; exact IntWalk.i64_in _ (by obtain ⟨q1, q2, q3⟩ := HB.out; have := HMZ.out; omega)
          have HGY := Lib.hid (fun (W : World) (hb : RowKit.Below w.heap.size w W) => get_any g F d y W (HD.out.below hb) (by obtain ⟨q1, q2, q3⟩ := HB.out; have := HMZ.out; rw [hy]; unfold I; omega))
          obtain ⟨t, ht⟩ : ∃ t, t = d.at_ y := ⟨_, rfl⟩
          have HTL := Lib.hid (show t.length = 64 by rw [ht]; exact at_len HD.out.ok y)
          have HTE := Lib.hid (show t = d.at_ (x + (i : Int)) by rw [ht, hy])
          obtain ⟨ct, hct⟩ : ∃ ct, ct = bcells t := ⟨_, rfl⟩
          have HCT := Lib.hid hct
          unfold GetRes at HGY
          rw [← ht, ← hct, show d.has y = true from Dk.has_iff.2 (by obtain ⟨q1, q2, q3⟩ := HB.out; have := HMZ.out; rw [hy]; omega), if_pos rfl] at HGY
          have HFL := Lib.hid (show i < (fillK (fun j => d.at_ (x + (j : Int))) m i).length by rw [fillK_len]; exact hlt)
          have HF64 := Lib.hid (fillK_64 (fun j => at_len HD.out.ok (x + (j : Int))) m i)
          have HSET := Lib.hid (show (fillK (fun j => d.at_ (x + (j : Int))) m i).set i t = fillK (fun j => d.at_ (x + (j : Int))) m (i + 1) by rw [HTE.out]; exact fillK_set (f := fun j => d.at_ (x + (j : Int))) hlt)
          have hidx : ∀ W, (Instr.indexAt 34 (.slice (some ⟨w2.heap.size, 0, none⟩) m m) (.int .i64 (i : Int))).run Try.prog W = .ok (.pointer (some ⟨w2.heap.size, i * 64, none⟩)) W := fun W => by
            have := run_idx elS (b := w2.heap.size) (off := 0) (n := m) (cap := m) (k := .i64) (i := (i : Int)) (j := i) rfl hlt W
            rw [Nat.zero_add] at this; exact this
          clear hy ht hct
          go_wp2_with fail
          refine (HGY.out _ HBL.out).mono ?_
          rintro _ w5 ⟨rfl, hb5⟩
          have HR5 := Lib.hid (HR.out.below hb5)
          have HB5 := Lib.hid (HBL.out.trans (hb5.mono HBL.out.size))
          clear hb5
          go_wp2_with ((with_reducible refine wpList_sec rfl _ _ rfl (i := i) rfl rfl rfl HCT.out HTL.out HR5.out HF64.out HFL.out ?_); intro w6 k1 k2 k3; rw [HSET.out] at k1; have HR6 := Lib.hid k1; have HB6 := Lib.hid (HB5.out.grown k2 HB5.out.size (fun _ e => by cases e; exact HGQ.out)); clear k1 k2 k3)
          go_roundw
          case rel => exact ⟨i + 1, by go_num, by omega, HR6.out, HB6.out⟩
          case measure => simp; omega
        · obtain rfl : i = m := by omega
          have HFIN := Lib.hid (show LayRes (d.stands x z) w (.returned (.slice (some ⟨w2.heap.size, 0, none⟩) i i)) wr from by
            rw [HST.out, if_neg (by have := HMZ.out; omega)]
            have e : fillK (fun j => d.at_ (x + (j : Int))) i i = d.secsAt x i := fillK_all _ _
            refine ⟨some ⟨w2.heap.size, 0, none⟩, i, by rw [secsAt_length], by rw [← e]; exact HR.out.lie, (fun e => by cases e), ?_, HBL.out⟩
            rintro b ⟨p, e, rfl⟩
            cases e
            exact ⟨HGQ.out, HR.out.lt⟩)
          clear hi hlt
          go_wp2
          go_ret
          exact HFIN.out
end Go.Proofs.Ytoibonalgmmkbaa
