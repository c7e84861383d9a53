
/- falseworklaw12: acts that came in; great. -/
import Derived.Test.YtdfbpaajkpnaeaaGreatLgO

namespace Go.Proofs.YtdfbpaajkpnaeaaGreat
set_option maxRecDepth 100000
open Go.ChangeShapes Go.WideShapes Go.ChangeAt Go.RowKit Go.Lib

/-- an act: of which kind, where, bytes, how many bytes come in -/
structure Aj where
  kind : Int
  at_ : Int
  ba : Option Addr
  bn : Nat
  bc : Nat
  bs : List UInt8
  ka : Option Addr
  kn : Nat
  kc : Nat
  keep : List Int
instance : Inhabited Aj := ⟨⟨0, 0, none, 0, 0, [], none, 0, 0, []⟩⟩
def ajs (x : Aj) : List Value := [.int .i64 x.kind, .int .i64 x.at_, .slice x.ba x.bn x.bc, .slice x.ka x.kn x.kc]
theorem ajs_cs (x : Aj) : Cs 4 (ajs x) := ⟨rfl, fun u hu => by
  simp [ajs] at hu
  rcases hu with rfl | rfl | rfl | rfl <;> rfl⟩
def zAj : List Value := [.int .i64 0, .int .i64 0, .slice none 0 0, .slice none 0 0]
structure Aj.Good (w : World) (x : Aj) : Prop where
  bp : CameB w x.ba x.bn x.bc x.bs
  kp : Nums w x.ka x.keep
  kl : x.keep.length = x.kn
  ik : I x.kind
  ii : I x.at_
structure CameJ (w : World) (a : Option Addr) (len : Nat) (l : List Aj) : Prop where
  li : Lie w a (l.flatMap ajs)
  ln : l.length = len
  gd : ∀ x ∈ l, x.Good w
theorem CameJ.below {w w' : World} {a : Option Addr} {n : Nat} {l : List Aj} (h : CameJ w a n l) (hb : RowKit.Below w.heap.size w w') : CameJ w' a n l :=
  ⟨h.li.below hb, h.ln, fun x hx => ⟨(h.gd x hx).bp.below hb, (h.gd x hx).kp.below hb, (h.gd x hx).kl, (h.gd x hx).ik, (h.gd x hx).ii⟩⟩
/-- none is too great -/
def SmallJ (l : List Aj) : Prop := l.length ≤ 40 ∧ ∀ x ∈ l, x.bn ≤ 5000 ∧ x.kn ≤ 400
/-- an act in a new block -/
structure AjAt (w : World) (b : Nat) (x : Aj) : Prop where
  c0 : w.cell? ⟨b, 0, none⟩ = some (.int .i64 x.kind)
  c1 : w.cell? ⟨b, 1, none⟩ = some (.int .i64 x.at_)
  c2 : w.cell? ⟨b, 2, none⟩ = some (.slice x.ba x.bn x.bc)
  c3 : w.cell? ⟨b, 3, none⟩ = some (.slice x.ka x.kn x.kc)
  lt : b < w.heap.size
theorem AjAt.below {w w' : World} {b : Nat} {x : Aj} (h : AjAt w b x) (hb : RowKit.Below w.heap.size w w') : AjAt w' b x :=
  ⟨cell_bl h.c0 hb, cell_bl h.c1 hb, cell_bl h.c2 hb, cell_bl h.c3 hb, Nat.lt_of_lt_of_le h.lt hb.size⟩
theorem isAj : IsAgg 47 4 zAj :=
  ⟨Tryz.zeroValue47, ⟨_, Tryz.underlying47, rfl⟩, by kernel_rfl, rfl⟩
theorem elAj : El 24 47 4 64 := ⟨Tryz.underlying24, inf_of (z := .agg #[.int .i64 0, .int .i64 0, .slice none 0 0, .slice none 0 0]) (by kernel_rfl) rfl, by decide⟩
theorem cellsAj : Tryz.prog.cellsOf 47 = 4 := by kernel_rfl
section
variable {H : Type} {enc : TypeId × Value → H} {w : World} {base : Nat} {spare : Nat → Bool} {held : Bool}
theorem jact_came {fuel : Nat} {cs : List Value} {y : DataW H × List MemPlace} (h : DataW.trod enc Tryz.prog w base (fun _ => true) held fuel 47 cs = some y) : ∃ x : Aj, cs = ajs x ∧ x.Good w := by
  obtain ⟨xs, n, _, rfl, hl, hlen, hf⟩ := DataW.trod_struct Tryz.underlying47 h
  rw [cellsAj] at hl
  match cs, hl with
  | [v0, v1, v2, v3], _ =>
    have hs : xs.length = 4 := hlen
    have g0 := hf 0 _ rfl
    have g1 := hf 1 _ rfl
    have g2 := hf 2 _ rfl
    have g3 := hf 3 _ rfl
    have c1 : Tryz.prog.cellsOf 3 = 1 := by kernel_rfl
    have c7 : Tryz.prog.cellsOf 23 = 1 := by kernel_rfl
    have c38 : Tryz.prog.cellsOf 45 = 1 := by kernel_rfl
    simp only [List.getElem_toArray, List.getElem_cons_zero, List.getElem_cons_succ] at g0 g1 g2 g3
    rw [c1] at g0 g1
    rw [c7] at g2
    rw [c38] at g3
    simp only [List.drop_zero, List.take_succ_cons, List.take_zero, List.drop_succ_cons] at g0 g1 g2 g3
    rw [List.getElem?_eq_getElem (by omega)] at g0 g1 g2 g3
    obtain ⟨k, e0, _, wk⟩ := DataW.trod_int Tryz.underlying3 g0
    obtain ⟨m, e1, _, wm⟩ := DataW.trod_int Tryz.underlying3 g1
    simp at e0 e1
    subst e0 e1
    obtain ⟨a, bn, bc, rfl⟩ := trod_slice_form Tryz.underlying23 g2
    obtain ⟨bl, hbl⟩ := bytes_came (x := xs[2].1) (p := xs[2].2) ⟨n, g2⟩
    obtain ⟨a2, kn, kc, rfl⟩ := trod_slice_form Tryz.underlying45 g3
    obtain ⟨l, hn, hln, _⟩ := nums_came (x := xs[3].1) (p := xs[3].2) ⟨n, g3⟩
    exact ⟨⟨k, m, a, bn, bc, bl, a2, kn, kc, l⟩, rfl, ⟨hbl, hn, hln, fitI wk, fitI wm⟩⟩
theorem jacts_came {a : Option Addr} {len cap : Nat} {x : DataW H} {p : List MemPlace} (h : DataW.Trod enc Tryz.prog w base (fun _ => true) held 24 (.slice a len cap) x p) : ∃ l : List Aj, CameJ w a len l := by
  obtain ⟨fuel, hf⟩ := h
  rcases Deep.open_slice Tryz.underlying24 hf with ⟨hcs, _⟩ | ⟨ad, l, c, m, n, D, Pl, hcs, _, hl, hm, hmm, _, hx⟩
  · simp [Value.cells] at hcs
    obtain ⟨rfl, rfl, rfl⟩ := hcs
    exact ⟨[], Or.inl rfl, rfl, by simp⟩
  · simp [Value.cells] at hcs
    obtain ⟨rfl, rfl, rfl⟩ := hcs
    have hmc : m = cap := by simpa using hmm
    rw [cellsAj] at hx
    have each : ∀ i, i < len → ∃ q : Aj, w.cells? base (ad.add (i * 4)) 4 = some (ajs q) ∧ q.Good w := by
      intro i hi
      obtain ⟨cs', h1, h2⟩ := hx i (by omega)
      obtain ⟨q, e, hq⟩ := jact_came h2
      exact ⟨q, by rw [h1, e], hq⟩
    obtain ⟨q, hq⟩ := Deep.choose_lt each
    refine ⟨(List.range len).map q, ?_, by simp, fun x hx => ?_⟩
    · by_cases h0 : len = 0
      · left; subst h0; rfl
      · right
        have c0 := (hq 0 (by omega)).1
        obtain ⟨_, _, k0⟩ := World.cells?_some c0
        have hc := k0 0 (by omega)
        obtain ⟨b, off, spot⟩ := ad
        have hspot : spot = none := by simpa [Addr.add] using World.cell?_spot hc
        subst hspot
        have hb : b < w.heap.size := by
          have := World.block_lt_of_cell? w _ hc
          simpa [Addr.add] using this
        refine ⟨b, off, rfl, hb, fun j v hv => ?_⟩
        have hjl : j < ((List.range len).map q).length * 4 := by
          have e := flat_len (f := ajs) (n := 4) (l := (List.range len).map q) (fun _ _ => rfl)
          rw [← e]; exact (List.getElem?_eq_some_iff.1 hv).1
        simp only [List.length_map, List.length_range] at hjl
        obtain ⟨_, _, kj⟩ := World.cells?_some (hq (j / 4) (by omega)).1
        have hd4 : j % 4 < (ajs (q (j / 4))).length := by have : (ajs (q (j / 4))).length = 4 := rfl; omega
        have e2 := kj (j % 4) (by omega)
        rw [List.getElem?_eq_getElem hd4] at e2
        have e3 := flat_mid (f := ajs) (n := 4) (l := (List.range len).map q) (i := j / 4) (x := q (j / 4)) (fun _ _ => rfl) (by rw [List.getElem?_map, List.getElem?_range (by omega)]; rfl) (j % 4) _ (List.getElem?_eq_getElem hd4)
        rw [show j / 4 * 4 + j % 4 = j by omega] at e3
        rw [e3] at hv
        injection hv with hv
        rw [Addr.add_mid, Addr.add_mid] at e2
        rw [← hv, ← e2]
        congr 2
        omega
    · obtain ⟨i, hi, rfl⟩ := List.mem_map.1 hx
      exact (hq i (List.mem_range.1 hi)).2
end
end Go.Proofs.YtdfbpaajkpnaeaaGreat

namespace Go.Proofs.YtdfbpaajkpnaeaaGreat
set_option maxRecDepth 100000
open Go.RowKit Go.Lib

theorem AjAt.new {w : World} {b : Nat} {x : Aj} {c : List Value} (hc : c = ajs x) (h : w.heap[b]? = some (.cells c.toArray 47)) : AjAt w b x := by
  subst hc
  refine ⟨?_, ?_, ?_, ?_, lt_of_heap h⟩ <;> rw [cell_of_row _ _ _ _ _ _ h] <;> rfl
set_option maxRecDepth 100000 in
set_option maxHeartbeats 3200000 in
theorem jgreat_any (l : List Aj) (a : Option Addr) (len cap : Nat) (w : World) (hl : CameJ w a len l) :
    Calls Tryz.prog 5 #[.slice a len cap] w fun e w' => ∃ b, e = .returned (.bool b) ∧ (b = false → SmallJ l) ∧ RowKit.Below w.heap.size w w' := by
  obtain rfl := hl.ln
  have HL := Lib.hid hl
  obtain ⟨M, hM⟩ : ∃ M, M = l.length := ⟨_, rfl⟩
  have HM := Lib.hid hM
  rw [← hM]
  clear hl hM
  by_cases h40 : 40 < M
  · have d0 : decide ((40 : Int) < (M : Int)) = true := by simp; omega
    clear h40
    go_enter Tryz.func5, Tryz.ntmps5
    go_wp2
    go_ret
    exact ⟨true, rfl, nofun, RowKit.Below.refl _ _⟩
  · have d0 : decide ((40 : Int) < (M : Int)) = false := by simp; omega
    have hM40 : M ≤ 40 := by omega
    clear h40
    go_enter Tryz.func5, Tryz.ntmps5
    go_wp2
    go_loopw [10] (fun c10 wr => ∃ k : Nat, c10 = .int .i64 (k : Int) ∧ k ≤ M ∧ (∀ x ∈ l.take k, x.bn ≤ 5000 ∧ x.kn ≤ 400) ∧ RowKit.Below w.heap.size w wr) (fun c10 _ => M - (match c10 with | .int _ q => q | _ => 0).toNat)
    case atStart => exact ⟨0, rfl, Nat.zero_le _, (fun x hx => by simp at hx), RowKit.Below.refl _ _⟩
    case round =>
      clear d0
      obtain ⟨k, rfl, hk, hall, hbl⟩ := hrel
      have HALL := Lib.hid hall
      have HBL := Lib.hid hbl
      clear hall hbl
      by_cases hlt : k < M
      · obtain ⟨x, hx⟩ : ∃ x, l[k]? = some x := ⟨_, List.getElem?_eq_getElem (by rw [← HM.out]; exact hlt)⟩
        have HXX := Lib.hid hx
        obtain ⟨bb, ob, ha1, _, hrb⟩ := (HL.out.li.below HBL.out).get (f := ajs) (n := 4) (fun _ _ => rfl) (by decide) hx
        obtain ⟨c, hc⟩ : ∃ c, c = ajs x := ⟨_, rfl⟩
        rw [← hc] at hrb
        have HRB := Lib.hid hrb
        have HCC := Lib.hid (show Cs 4 c by rw [hc]; exact ajs_cs x)
        obtain ⟨w2, hw2⟩ : ∃ w2, w2 = wr.alloc (.cells c.toArray 47) := ⟨_, rfl⟩
        have HW2 := Lib.hid (show (wr.alloc (.cells zAj.toArray 47)).setRow wr.heap.size c.toArray = w2 by rw [hw2]; exact setRow_new rfl)
        have HAL := Lib.hid (heap_alloc_new wr (.cells zAj.toArray 47))
        have hb2 : RowKit.Below wr.heap.size wr w2 := by rw [hw2]; exact (RowKit.Below.refl _ _).alloc (Nat.le_refl _) _
        have HB2 := Lib.hid (HBL.out.trans (hb2.mono HBL.out.size))
        have HAC := AjAt.new hc (show w2.heap[wr.heap.size]? = some (.cells c.toArray 47) by rw [hw2]; exact blkn rfl)
        have c3 := HAC.c2
        have c4 := HAC.c3
        obtain ⟨xb, hxb⟩ : ∃ n, n = x.bn := ⟨_, rfl⟩
        obtain ⟨xk, hxk⟩ : ∃ n, n = x.kn := ⟨_, rfl⟩
        rw [← hxb] at c3
        rw [← hxk] at c4
        have HXB := Lib.hid hxb
        have HXK := Lib.hid hxk
        subst ha1
        clear hx hrb hc hw2 hb2 HAC hxb hxk
        have hcs : 5000 < xb ∨ (xb ≤ 5000 ∧ 400 < xk) ∨ (xb ≤ 5000 ∧ xk ≤ 400) := by omega
        rcases hcs with h | ⟨h, h2⟩ | ⟨h, h2⟩
        · have e1 : decide ((5000 : Int) < (xb : Int)) = true := by simp; omega
          clear h
          go_wp2_with (first | ((with_reducible refine wpList_storeW rfl isAj _ _ rfl wr.heap.size c zAj.toArray _ rfl rfl HAL.out HCC.out rfl ?_); rw [HW2.out]) | (with_reducible refine wpList_allocA rfl isAj rfl ?_) | (with_reducible refine wpList_idx elAj rfl _ _ rfl k rfl rfl rfl hlt ?_) | (with_reducible refine wpList_loadM rfl isAj _ rfl bb (ob + k * 4) c rfl HRB.out HCC.out ?_))
          try rw [Exit.noGoto_ret]
          go_ret
          exact ⟨true, rfl, nofun, HB2.out⟩
        · have e1 : decide ((5000 : Int) < (xb : Int)) = false := by simp; omega
          have e2 : decide ((400 : Int) < (xk : Int)) = true := by simp; omega
          clear h h2
          go_wp2_with (first | ((with_reducible refine wpList_storeW rfl isAj _ _ rfl wr.heap.size c zAj.toArray _ rfl rfl HAL.out HCC.out rfl ?_); rw [HW2.out]) | (with_reducible refine wpList_allocA rfl isAj rfl ?_) | (with_reducible refine wpList_idx elAj rfl _ _ rfl k rfl rfl rfl hlt ?_) | (with_reducible refine wpList_loadM rfl isAj _ rfl bb (ob + k * 4) c rfl HRB.out HCC.out ?_))
          try rw [Exit.noGoto_ret]
          go_ret
          exact ⟨true, rfl, nofun, HB2.out⟩
        · have e1 : decide ((5000 : Int) < (xb : Int)) = false := by simp; omega
          have e2 : decide ((400 : Int) < (xk : Int)) = false := by simp; omega
          have HNX := Lib.hid (show ∀ y ∈ l.take (k + 1), y.bn ≤ 5000 ∧ y.kn ≤ 400 from fun y hy => by
            rw [List.take_add_one, HXX.out] at hy
            rcases List.mem_append.1 hy with hy | hy
            · exact HALL.out y hy
            · have : y = x := by simpa using hy
              rw [this, ← HXB.out, ← HXK.out]; exact ⟨h, h2⟩)
          clear h h2
          go_wp2_with (first | ((with_reducible refine wpList_storeW rfl isAj _ _ rfl wr.heap.size c zAj.toArray _ rfl rfl HAL.out HCC.out rfl ?_); rw [HW2.out]) | (with_reducible refine wpList_allocA rfl isAj rfl ?_) | (with_reducible refine wpList_idx elAj rfl _ _ rfl k rfl rfl rfl hlt ?_) | (with_reducible refine wpList_loadM rfl isAj _ rfl bb (ob + k * 4) c rfl HRB.out HCC.out ?_))
          go_roundw
          case rel => exact ⟨k + 1, by go_num, by omega, HNX.out, HB2.out⟩
          case measure => simp; omega
      · obtain rfl : k = M := by omega
        have HSM := Lib.hid (show SmallJ l from ⟨by rw [← HM.out]; exact hM40, fun x hx => HALL.out x (by rw [HM.out, List.take_length]; exact hx)⟩)
        clear hk hlt
        go_wp2
        go_ret
        exact ⟨false, rfl, fun _ => HSM.out, HBL.out⟩
end Go.Proofs.YtdfbpaajkpnaeaaGreat
