/- falseworklaw09: what came in: two numbers, acts. -/
import Derived.Test.YtoibonalgmmkbaaSmO
import Derived.Test.YtoibonalgmmkbaaDkY
import Derived.Deep.Slices
import Derived.Lib.SmallJoins
namespace Go.Proofs.Ytoibonalgmmkbaa
open Go.ChangeShapes Go.WideShapes Go.ChangeAt Go.RowKit Go.Lib

/-- an act: of which kind, where, a stamp, bytes, how many bytes come in -/
structure Ac where
  kind : Int
  at_ : Int
  st : Nat
  ba : Option Addr
  bn : Nat
  bc : Nat
  bs : List UInt8
  ka : Option Addr
  kn : Nat
  kc : Nat
  keep : List Int
instance : Inhabited Ac := ⟨⟨0, 0, 0, none, 0, 0, [], none, 0, 0, []⟩⟩
def acs (x : Ac) : List Value := [.int .i64 x.kind, .int .i64 x.at_, .int .u64 (x.st : Int), .slice x.ba x.bn x.bc, .slice x.ka x.kn x.kc]
theorem acs_cs (x : Ac) : Cs 5 (acs x) := ⟨rfl, fun u hu => by
  simp [acs] at hu
  rcases hu with rfl | rfl | rfl | rfl | rfl <;> rfl⟩
def zA : List Value := [.int .i64 0, .int .i64 0, .int .u64 0, .slice none 0 0, .slice none 0 0]
theorem isAc : IsAgg 41 5 zA :=
  ⟨Try.zeroValue41, ⟨_, Try.underlying41, rfl⟩, by kernel_rfl, rfl⟩
theorem elAc : El 32 41 5 72 := ⟨Try.underlying32, inf_of (z := .agg #[.int .i64 0, .int .i64 0, .int .u64 0, .slice none 0 0, .slice none 0 0]) (by kernel_rfl) rfl, by decide⟩
structure Ac.Good (w : World) (x : Ac) : Prop where
  bp : CameB w x.ba x.bn x.bc x.bs
  kp : Nums w x.ka x.keep
  kl : x.keep.length = x.kn
  ik : I x.kind
  ii : I x.at_
  sl : x.st < 18446744073709551616
structure CameA (w : World) (a : Option Addr) (len : Nat) (l : List Ac) : Prop where
  li : Lie w a (l.flatMap acs)
  ln : l.length = len
  gd : ∀ x ∈ l, x.Good w
theorem u64_wf {n : Int} (h : (Lit.int .u64 n).wf = true) : 0 ≤ n ∧ n < 18446744073709551616 := by
  have e1 : IntKind.u64.min = 0 := by decide
  have e2 : IntKind.u64.max = 18446744073709551615 := by decide
  simp [Lit.wf, e1, e2] at h
  omega
theorem cellsAc : Try.prog.cellsOf 41 = 5 := by kernel_rfl
section
variable {H : Type} {enc : TypeId × Value → H} {w : World} {base : Nat} {spare : Nat → Bool} {held : Bool}
theorem open_i2 {r : Reach} {b0 : Nat} {v : Value} {x : DataW H} {p : List MemPlace} (hv : Value.okWide Try.prog w r b0 57 v) (h : DataW.Trod enc Try.prog w base spare held 57 v x p) :
    ∃ y m : Int, v = .agg #[.int .i64 y, .int .i64 m] ∧ I y ∧ I m := by
  simp only [Value.okWide, Try.underlying57] at hv
  obtain ⟨cs, rfl, hsz, _⟩ := hv
  obtain ⟨c0, c1, rfl⟩ := Joins.array2 (hsz.trans (show Try.prog.cellsOf 57 = 2 by kernel_rfl))
  obtain ⟨fuel, hf⟩ := h
  obtain ⟨xs, m, _, hx, hl, hn, hget⟩ := DataW.trod_array Try.underlying57 hf
  have g0 := hget 0 (by omega)
  have g1 := hget 1 (by omega)
  obtain ⟨y0, e0⟩ : ∃ y, xs[0]? = some y := ⟨xs[0], List.getElem?_eq_getElem (by omega)⟩
  obtain ⟨y1, e1⟩ : ∃ y, xs[1]? = some y := ⟨xs[1], List.getElem?_eq_getElem (by omega)⟩
  rw [e0] at g0
  rw [e1] at g1
  obtain ⟨x, hx0, _, w0⟩ := DataW.trod_int Try.underlying3 g0
  obtain ⟨y, hy0, _, w1⟩ := DataW.trod_int Try.underlying3 g1
  have hE : Try.prog.cellsOf 3 = 1 := by kernel_rfl
  simp [Value.cells, hE] at hx0 hy0
  exact ⟨x, y, by rw [hx0, hy0], fitI w0, fitI w1⟩
theorem act_came {fuel : Nat} {cs : List Value} {y : DataW H × List MemPlace} (h : DataW.trod enc Try.prog w base (fun _ => true) held fuel 41 cs = some y) : ∃ x : Ac, cs = acs x ∧ x.Good w := by
  obtain ⟨xs, n, _, rfl, hl, hlen, hf⟩ := DataW.trod_struct Try.underlying41 h
  rw [cellsAc] at hl
  match cs, hl with
  | [v0, v1, v2, v3, v4], _ =>
    have hs : xs.length = 5 := hlen
    have g0 := hf 0 _ rfl
    have g1 := hf 1 _ rfl
    have g2 := hf 2 _ rfl
    have g3 := hf 3 _ rfl
    have g4 := hf 4 _ rfl
    have c1 : Try.prog.cellsOf 3 = 1 := by kernel_rfl
    have c5 : Try.prog.cellsOf 25 = 1 := by kernel_rfl
    have c7 : Try.prog.cellsOf 24 = 1 := by kernel_rfl
    have c38 : Try.prog.cellsOf 39 = 1 := by kernel_rfl
    simp only [List.getElem_toArray, List.getElem_cons_zero, List.getElem_cons_succ] at g0 g1 g2 g3 g4
    rw [c1] at g0 g1
    rw [c5] at g2
    rw [c7] at g3
    rw [c38] at g4
    simp only [List.drop_zero, List.take_succ_cons, List.take_zero, List.drop_succ_cons] at g0 g1 g2 g3 g4
    rw [List.getElem?_eq_getElem (by omega)] at g0 g1 g2 g3 g4
    obtain ⟨k, e0, _, wk⟩ := DataW.trod_int Try.underlying3 g0
    obtain ⟨m, e1, _, wm⟩ := DataW.trod_int Try.underlying3 g1
    obtain ⟨b, e2, _, wb⟩ := DataW.trod_int Try.underlying25 g2
    simp at e0 e1 e2
    subst e0 e1 e2
    obtain ⟨a, bn, bc, rfl⟩ := trod_slice_form Try.underlying24 g3
    obtain ⟨bl, hbl⟩ := bytes_came (x := xs[3].1) (p := xs[3].2) ⟨n, g3⟩
    obtain ⟨a2, kn, kc, rfl⟩ := trod_slice_form Try.underlying39 g4
    obtain ⟨l, hn, hln, _⟩ := nums_came (x := xs[4].1) (p := xs[4].2) ⟨n, g4⟩
    have hb := u64_wf wb
    have eb : ((b.toNat : Nat) : Int) = b := by omega
    exact ⟨⟨k, m, b.toNat, a, bn, bc, bl, a2, kn, kc, l⟩, by unfold acs; rw [eb], ⟨hbl, hn, hln, fitI wk, fitI wm, by show b.toNat < _; omega⟩⟩
theorem acts_came {a : Option Addr} {len cap : Nat} {x : DataW H} {p : List MemPlace} (h : DataW.Trod enc Try.prog w base (fun _ => true) held 32 (.slice a len cap) x p) : ∃ l : List Ac, CameA w a len l := by
  obtain ⟨fuel, hf⟩ := h
  rcases Deep.open_slice Try.underlying32 hf with ⟨hcs, _⟩ | ⟨ad, l, c, m, n, D, Pl, hcs, _, hl, hm, hmm, _, hx⟩
  · simp [Value.cells] at hcs
    obtain ⟨rfl, rfl, rfl⟩ := hcs
    exact ⟨[], Or.inl rfl, rfl, by simp⟩
  · simp [Value.cells] at hcs
    obtain ⟨rfl, rfl, rfl⟩ := hcs
    have hmc : m = cap := by simpa using hmm
    rw [cellsAc] at hx
    have each : ∀ i, i < len → ∃ q : Ac, w.cells? base (ad.add (i * 5)) 5 = some (acs q) ∧ q.Good w := by
      intro i hi
      obtain ⟨cs', h1, h2⟩ := hx i (by omega)
      obtain ⟨q, e, hq⟩ := act_came h2
      exact ⟨q, by rw [h1, e], hq⟩
    obtain ⟨q, hq⟩ := Deep.choose_lt each
    refine ⟨(List.range len).map q, ?_, by simp, fun x hx => ?_⟩
    · by_cases h0 : len = 0
      · left; subst h0; rfl
      · right
        have c0 := (hq 0 (by omega)).1
        obtain ⟨_, _, k0⟩ := World.cells?_some c0
        have hc := k0 0 (by omega)
        obtain ⟨b, off, spot⟩ := ad
        have hspot : spot = none := by simpa [Addr.add] using World.cell?_spot hc
        subst hspot
        have hb : b < w.heap.size := by
          have := World.block_lt_of_cell? w _ hc
          simpa [Addr.add] using this
        refine ⟨b, off, rfl, hb, fun j v hv => ?_⟩
        have hjl : j < ((List.range len).map q).length * 5 := by
          have e := flat_len (f := acs) (n := 5) (l := (List.range len).map q) (fun _ _ => rfl)
          rw [← e]; exact (List.getElem?_eq_some_iff.1 hv).1
        simp only [List.length_map, List.length_range] at hjl
        obtain ⟨_, _, kj⟩ := World.cells?_some (hq (j / 5) (by omega)).1
        have hd5 : j % 5 < (acs (q (j / 5))).length := by have : (acs (q (j / 5))).length = 5 := rfl; omega
        have e2 := kj (j % 5) (by omega)
        rw [List.getElem?_eq_getElem hd5] at e2
        have e3 := flat_mid (f := acs) (n := 5) (l := (List.range len).map q) (i := j / 5) (x := q (j / 5)) (fun _ _ => rfl) (by rw [List.getElem?_map, List.getElem?_range (by omega)]; rfl) (j % 5) _ (List.getElem?_eq_getElem hd5)
        rw [show j / 5 * 5 + j % 5 = j by omega] at e3
        rw [e3] at hv
        injection hv with hv
        rw [Addr.add_mid, Addr.add_mid] at e2
        rw [← hv, ← e2]
        congr 2
        omega
    · obtain ⟨i, hi, rfl⟩ := List.mem_map.1 hx
      exact (hq i (List.mem_range.1 hi)).2
end
end Go.Proofs.Ytoibonalgmmkbaa
