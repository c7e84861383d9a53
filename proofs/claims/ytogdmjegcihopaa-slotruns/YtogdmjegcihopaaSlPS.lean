
/- falseworklaw11: acts that came in. falseworklaw11: great. -/
import Derived.Test.YtogdmjegcihopaaLgO
import Derived.Test.YtogdmjegcihopaaSmS

namespace Go.Proofs.Ytogdmjegcihopaa
set_option maxRecDepth 100000
open Go.ChangeShapes Go.WideShapes Go.ChangeAt Go.RowKit Go.Lib

theorem isAc : IsAgg 43 5 zA :=
  ⟨Try.zeroValue43, ⟨_, Try.underlying43, rfl⟩, by kernel_rfl, rfl⟩
theorem elAc : El 34 43 5 72 := ⟨Try.underlying34, inf_of (z := .agg #[.int .i64 0, .int .i64 0, .int .u64 0, .slice none 0 0, .slice none 0 0]) (by kernel_rfl) rfl, by decide⟩
theorem cellsAc : Try.prog.cellsOf 43 = 5 := by kernel_rfl
section
variable {H : Type} {enc : TypeId × Value → H} {w : World} {base : Nat} {spare : Nat → Bool} {held : Bool}
theorem act_came {fuel : Nat} {cs : List Value} {y : DataW H × List MemPlace} (h : DataW.trod enc Try.prog w base (fun _ => true) held fuel 43 cs = some y) : ∃ x : Ac, cs = acs x ∧ x.Good w := by
  obtain ⟨xs, n, _, rfl, hl, hlen, hf⟩ := DataW.trod_struct Try.underlying43 h
  rw [cellsAc] at hl
  match cs, hl with
  | [v0, v1, v2, v3, v4], _ =>
    have hs : xs.length = 5 := hlen
    have g0 := hf 0 _ rfl
    have g1 := hf 1 _ rfl
    have g2 := hf 2 _ rfl
    have g3 := hf 3 _ rfl
    have g4 := hf 4 _ rfl
    have c1 : Try.prog.cellsOf 3 = 1 := by kernel_rfl
    have c5 : Try.prog.cellsOf 25 = 1 := by kernel_rfl
    have c7 : Try.prog.cellsOf 24 = 1 := by kernel_rfl
    have c38 : Try.prog.cellsOf 41 = 1 := by kernel_rfl
    simp only [List.getElem_toArray, List.getElem_cons_zero, List.getElem_cons_succ] at g0 g1 g2 g3 g4
    rw [c1] at g0 g1
    rw [c5] at g2
    rw [c7] at g3
    rw [c38] at g4
    simp only [List.drop_zero, List.take_succ_cons, List.take_zero, List.drop_succ_cons] at g0 g1 g2 g3 g4
    rw [List.getElem?_eq_getElem (by omega)] at g0 g1 g2 g3 g4
    obtain ⟨k, e0, _, wk⟩ := DataW.trod_int Try.underlying3 g0
    obtain ⟨m, e1, _, wm⟩ := DataW.trod_int Try.underlying3 g1
    obtain ⟨b, e2, _, wb⟩ := DataW.trod_int Try.underlying25 g2
    simp at e0 e1 e2
    subst e0 e1 e2
    obtain ⟨a, bn, bc, rfl⟩ := trod_slice_form Try.underlying24 g3
    obtain ⟨bl, hbl⟩ := bytes_came (x := xs[3].1) (p := xs[3].2) ⟨n, g3⟩
    obtain ⟨a2, kn, kc, rfl⟩ := trod_slice_form Try.underlying41 g4
    obtain ⟨l, hn, hln, _⟩ := nums_came (x := xs[4].1) (p := xs[4].2) ⟨n, g4⟩
    have hb := u64_wf wb
    have eb : ((b.toNat : Nat) : Int) = b := by omega
    exact ⟨⟨k, m, b.toNat, a, bn, bc, bl, a2, kn, kc, l⟩, by unfold acs; rw [eb], ⟨hbl, hn, hln, fitI wk, fitI wm, by show b.toNat < _; omega⟩⟩
theorem acts_came {a : Option Addr} {len cap : Nat} {x : DataW H} {p : List MemPlace} (h : DataW.Trod enc Try.prog w base (fun _ => true) held 34 (.slice a len cap) x p) : ∃ l : List Ac, CameA w a len l := by
  obtain ⟨fuel, hf⟩ := h
  rcases Deep.open_slice Try.underlying34 hf with ⟨hcs, _⟩ | ⟨ad, l, c, m, n, D, Pl, hcs, _, hl, hm, hmm, _, hx⟩
  · simp [Value.cells] at hcs
    obtain ⟨rfl, rfl, rfl⟩ := hcs
    exact ⟨[], Or.inl rfl, rfl, by simp⟩
  · simp [Value.cells] at hcs
    obtain ⟨rfl, rfl, rfl⟩ := hcs
    have hmc : m = cap := by simpa using hmm
    rw [cellsAc] at hx
    have each : ∀ i, i < len → ∃ q : Ac, w.cells? base (ad.add (i * 5)) 5 = some (acs q) ∧ q.Good w := by
      intro i hi
      obtain ⟨cs', h1, h2⟩ := hx i (by omega)
      obtain ⟨q, e, hq⟩ := act_came h2
      exact ⟨q, by rw [h1, e], hq⟩
    obtain ⟨q, hq⟩ := Deep.choose_lt each
    refine ⟨(List.range len).map q, ?_, by simp, fun x hx => ?_⟩
    · by_cases h0 : len = 0
      · left; subst h0; rfl
      · right
        have c0 := (hq 0 (by omega)).1
        obtain ⟨_, _, k0⟩ := World.cells?_some c0
        have hc := k0 0 (by omega)
        obtain ⟨b, off, spot⟩ := ad
        have hspot : spot = none := by simpa [Addr.add] using World.cell?_spot hc
        subst hspot
        have hb : b < w.heap.size := by
          have := World.block_lt_of_cell? w _ hc
          simpa [Addr.add] using this
        refine ⟨b, off, rfl, hb, fun j v hv => ?_⟩
        have hjl : j < ((List.range len).map q).length * 5 := by
          have e := flat_len (f := acs) (n := 5) (l := (List.range len).map q) (fun _ _ => rfl)
          rw [← e]; exact (List.getElem?_eq_some_iff.1 hv).1
        simp only [List.length_map, List.length_range] at hjl
        obtain ⟨_, _, kj⟩ := World.cells?_some (hq (j / 5) (by omega)).1
        have hd5 : j % 5 < (acs (q (j / 5))).length := by have : (acs (q (j / 5))).length = 5 := rfl; omega
        have e2 := kj (j % 5) (by omega)
        rw [List.getElem?_eq_getElem hd5] at e2
        have e3 := flat_mid (f := acs) (n := 5) (l := (List.range len).map q) (i := j / 5) (x := q (j / 5)) (fun _ _ => rfl) (by rw [List.getElem?_map, List.getElem?_range (by omega)]; rfl) (j % 5) _ (List.getElem?_eq_getElem hd5)
        rw [show j / 5 * 5 + j % 5 = j by omega] at e3
        rw [e3] at hv
        injection hv with hv
        rw [Addr.add_mid, Addr.add_mid] at e2
        rw [← hv, ← e2]
        congr 2
        omega
    · obtain ⟨i, hi, rfl⟩ := List.mem_map.1 hx
      exact (hq i (List.mem_range.1 hi)).2
end
end Go.Proofs.Ytogdmjegcihopaa

namespace Go.Proofs.Ytogdmjegcihopaa
set_option maxRecDepth 100000
open Go.RowKit Go.Lib

theorem AcAt.new {w : World} {b : Nat} {x : Ac} {c : List Value} (hc : c = acs x) (h : w.heap[b]? = some (.cells c.toArray 43)) : AcAt w b x := by
  subst hc
  refine ⟨?_, ?_, ?_, ?_, ?_, lt_of_heap h⟩ <;> rw [cell_of_row _ _ _ _ _ _ h] <;> rfl
set_option maxRecDepth 100000 in
set_option maxHeartbeats 3200000 in
theorem great_any (l : List Ac) (a : Option Addr) (len cap : Nat) (w : World) (hl : CameA w a len l) :
    Calls Try.prog 12 #[.slice a len cap] w fun e w' => ∃ b, e = .returned (.bool b) ∧ (b = false → Small l) ∧ RowKit.Below w.heap.size w w' := by
  obtain rfl := hl.ln
  have HL := Lib.hid hl
  obtain ⟨M, hM⟩ : ∃ M, M = l.length := ⟨_, rfl⟩
  have HM := Lib.hid hM
  rw [← hM]
  clear hl hM
  by_cases h40 : 40 < M
  · have d0 : decide ((40 : Int) < (M : Int)) = true := by simp; omega
    clear h40
    go_enter Try.func12, Try.ntmps12
    go_wp2
    go_ret
    exact ⟨true, rfl, nofun, RowKit.Below.refl _ _⟩
  · have d0 : decide ((40 : Int) < (M : Int)) = false := by simp; omega
    have hM40 : M ≤ 40 := by omega
    clear h40
    go_enter Try.func12, Try.ntmps12
    go_wp2
    go_loopw [10] (fun c10 wr => ∃ k : Nat, c10 = .int .i64 (k : Int) ∧ k ≤ M ∧ (∀ x ∈ l.take k, x.bn ≤ 1000 ∧ x.kn ≤ 400) ∧ RowKit.Below w.heap.size w wr) (fun c10 _ => M - (match c10 with | .int _ q => q | _ => 0).toNat)
    case atStart => exact ⟨0, rfl, Nat.zero_le _, (fun x hx => by simp at hx), RowKit.Below.refl _ _⟩
    case round =>
      clear d0
      obtain ⟨k, rfl, hk, hall, hbl⟩ := hrel
      have HALL := Lib.hid hall
      have HBL := Lib.hid hbl
      clear hall hbl
      by_cases hlt : k < M
      · obtain ⟨x, hx⟩ : ∃ x, l[k]? = some x := ⟨_, List.getElem?_eq_getElem (by rw [← HM.out]; exact hlt)⟩
        have HXX := Lib.hid hx
        obtain ⟨bb, ob, ha1, _, hrb⟩ := (HL.out.li.below HBL.out).get (f := acs) (n := 5) (fun _ _ => rfl) (by decide) hx
        obtain ⟨c, hc⟩ : ∃ c, c = acs x := ⟨_, rfl⟩
        rw [← hc] at hrb
        have HRB := Lib.hid hrb
        have HCC := Lib.hid (show Cs 5 c by rw [hc]; exact acs_cs x)
        obtain ⟨w2, hw2⟩ : ∃ w2, w2 = wr.alloc (.cells c.toArray 43) := ⟨_, rfl⟩
        have HW2 := Lib.hid (show (wr.alloc (.cells zA.toArray 43)).setRow wr.heap.size c.toArray = w2 by rw [hw2]; exact setRow_new rfl)
        have HAL := Lib.hid (heap_alloc_new wr (.cells zA.toArray 43))
        have hb2 : RowKit.Below wr.heap.size wr w2 := by rw [hw2]; exact (RowKit.Below.refl _ _).alloc (Nat.le_refl _) _
        have HB2 := Lib.hid (HBL.out.trans (hb2.mono HBL.out.size))
        have HAC := AcAt.new hc (show w2.heap[wr.heap.size]? = some (.cells c.toArray 43) by rw [hw2]; exact blkn rfl)
        have c3 := HAC.c3
        have c4 := HAC.c4
        have c2 := HAC.c2
        obtain ⟨xs, hxs⟩ : ∃ n, n = x.st := ⟨_, rfl⟩
        rw [← hxs] at c2
        obtain ⟨xb, hxb⟩ : ∃ n, n = x.bn := ⟨_, rfl⟩
        obtain ⟨xk, hxk⟩ : ∃ n, n = x.kn := ⟨_, rfl⟩
        rw [← hxb] at c3
        rw [← hxk] at c4
        have HXB := Lib.hid hxb
        have HXK := Lib.hid hxk
        subst ha1
        clear hx hrb hc hw2 hb2 HAC hxb hxk hxs
        have hcs : 1000 < xb ∨ (xb ≤ 1000 ∧ 400 < xk) ∨ (xb ≤ 1000 ∧ xk ≤ 400) := by omega
        rcases hcs with h | ⟨h, h2⟩ | ⟨h, h2⟩
        · have e1 : decide ((1000 : Int) < (xb : Int)) = true := by simp; omega
          clear h
          go_wp2_with (first | ((with_reducible refine wpList_storeW rfl isAc _ _ rfl wr.heap.size c zA.toArray _ rfl rfl HAL.out HCC.out rfl ?_); rw [HW2.out]) | (with_reducible refine wpList_allocA rfl isAc rfl ?_) | (with_reducible refine wpList_idx elAc rfl _ _ rfl k rfl rfl rfl hlt ?_) | (with_reducible refine wpList_loadM rfl isAc _ rfl bb (ob + k * 5) c rfl HRB.out HCC.out ?_))
          try rw [Exit.noGoto_ret]
          go_ret
          exact ⟨true, rfl, nofun, HB2.out⟩
        · have e1 : decide ((1000 : Int) < (xb : Int)) = false := by simp; omega
          have e2 : decide ((400 : Int) < (xk : Int)) = true := by simp; omega
          clear h h2
          go_wp2_with (first | ((with_reducible refine wpList_storeW rfl isAc _ _ rfl wr.heap.size c zA.toArray _ rfl rfl HAL.out HCC.out rfl ?_); rw [HW2.out]) | (with_reducible refine wpList_allocA rfl isAc rfl ?_) | (with_reducible refine wpList_idx elAc rfl _ _ rfl k rfl rfl rfl hlt ?_) | (with_reducible refine wpList_loadM rfl isAc _ rfl bb (ob + k * 5) c rfl HRB.out HCC.out ?_))
          try rw [Exit.noGoto_ret]
          go_ret
          exact ⟨true, rfl, nofun, HB2.out⟩
        · have e1 : decide ((1000 : Int) < (xb : Int)) = false := by simp; omega
          have e2 : decide ((400 : Int) < (xk : Int)) = false := by simp; omega
          have HNX := Lib.hid (show ∀ y ∈ l.take (k + 1), y.bn ≤ 1000 ∧ y.kn ≤ 400 from fun y hy => by
            rw [List.take_add_one, HXX.out] at hy
            rcases List.mem_append.1 hy with hy | hy
            · exact HALL.out y hy
            · have : y = x := by simpa using hy
              rw [this, ← HXB.out, ← HXK.out]; exact ⟨h, h2⟩)
          by_cases hs : (1152921504606846976 : Int) < (xs : Int)
          · have e3 : decide ((1152921504606846976 : Int) < (xs : Int)) = true := by simpa using hs
            clear hs
            clear h h2
            go_wp2_with (first | ((with_reducible refine wpList_storeW rfl isAc _ _ rfl wr.heap.size c zA.toArray _ rfl rfl HAL.out HCC.out rfl ?_); rw [HW2.out]) | (with_reducible refine wpList_allocA rfl isAc rfl ?_) | (with_reducible refine wpList_idx elAc rfl _ _ rfl k rfl rfl rfl hlt ?_) | (with_reducible refine wpList_loadM rfl isAc _ rfl bb (ob + k * 5) c rfl HRB.out HCC.out ?_))
            try rw [Exit.noGoto_ret]
            go_ret
            exact ⟨true, rfl, nofun, HB2.out⟩
          · have e3 : decide ((1152921504606846976 : Int) < (xs : Int)) = false := by simpa using hs
            clear hs
            clear h h2
            go_wp2_with (first | ((with_reducible refine wpList_storeW rfl isAc _ _ rfl wr.heap.size c zA.toArray _ rfl rfl HAL.out HCC.out rfl ?_); rw [HW2.out]) | (with_reducible refine wpList_allocA rfl isAc rfl ?_) | (with_reducible refine wpList_idx elAc rfl _ _ rfl k rfl rfl rfl hlt ?_) | (with_reducible refine wpList_loadM rfl isAc _ rfl bb (ob + k * 5) c rfl HRB.out HCC.out ?_))
            go_roundw
            case rel => exact ⟨k + 1, by go_num, by omega, HNX.out, HB2.out⟩
            case measure => simp; omega
      · obtain rfl : k = M := by omega
        have HSM := Lib.hid (show Small l from ⟨by rw [← HM.out]; exact hM40, fun x hx => HALL.out x (by rw [HM.out, List.take_length]; exact hx)⟩)
        clear hk hlt
        go_wp2
        go_ret
        exact ⟨false, rfl, fun _ => HSM.out, HBL.out⟩
end Go.Proofs.Ytogdmjegcihopaa
