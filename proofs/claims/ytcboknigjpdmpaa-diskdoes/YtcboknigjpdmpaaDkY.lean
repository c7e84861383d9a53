/- What the arguments are: deeds. -/
import Derived.Test.YtcboknigjpdmpaaDkX
import Derived.Test.YtcboknigjpdmpaaCame
import Derived.Deep.Slices
namespace Go.Proofs.Ytcboknigjpdmpaa
open Go.ChangeShapes Go.WideShapes Go.ChangeAt Go.RowKit

/-- a deed: of which kind, a number, a byte, how many bytes come in -/
structure Dd where
  kind : Int
  n : Int
  paint : UInt8
  ka : Option Addr
  kn : Nat
  kc : Nat
  keep : List Int
instance : Inhabited Dd := ⟨⟨0, 0, 0, none, 0, 0, []⟩⟩
def dcs (x : Dd) : List Value := [.int .i64 x.kind, .int .i64 x.n, .int .u8 (x.paint.toNat : Int), .slice x.ka x.kn x.kc]
theorem dcs_cs (x : Dd) : Cs 4 (dcs x) := ⟨rfl, fun u hu => by
  simp [dcs] at hu
  rcases hu with rfl | rfl | rfl | rfl <;> rfl⟩
theorem isDd : IsAgg 40 4 [.int .i64 0, .int .i64 0, .int .u8 0, .slice none 0 0] :=
  ⟨Try.zeroValue40, ⟨_, Try.underlying40, rfl⟩, by kernel_rfl, rfl⟩
theorem elD : El 32 40 4 48 := ⟨Try.underlying32, inf_of (z := .agg #[.int .i64 0, .int .i64 0, .int .u8 0, .slice none 0 0]) (by kernel_rfl) rfl, by decide⟩
structure Dd.Good (w : World) (x : Dd) : Prop where
  kp : Nums w x.ka x.keep
  kl : x.keep.length = x.kn
  ik : I x.kind
  ii : I x.n
structure CameD (w : World) (a : Option Addr) (len : Nat) (l : List Dd) : Prop where
  li : Lie w a (l.flatMap dcs)
  ln : l.length = len
  gd : ∀ x ∈ l, x.Good w
theorem fitI {n : Int} (h : (Lit.int .i64 n).wf = true) : I n := by
  simp [Lit.wf] at h
  have h1 : IntKind.i64.min = -9223372036854775808 := by decide
  have h2 : IntKind.i64.max = 9223372036854775807 := by decide
  unfold I; omega
theorem cellsDd : Try.prog.cellsOf 40 = 4 := by kernel_rfl
section
variable {H : Type} {enc : TypeId × Value → H} {w : World} {base : Nat} {held : Bool}
theorem nums_came {a : Option Addr} {len cap : Nat} {x : DataW H} {p : List MemPlace} (h : DataW.Trod enc Try.prog w base (fun _ => true) held 38 (.slice a len cap) x p) : ∃ l : List Int, Nums w a l ∧ l.length = len ∧ ∀ n ∈ l, I n := by
  obtain ⟨l, hc, hw⟩ := ints_came Try.underlying38 Try.underlying3 (by kernel_rfl) h
  refine ⟨l, ?_, hc.ln, fun n hn => fitI (hw n hn)⟩
  rcases hc.row with e | ⟨b, off, ha, hb, hr⟩
  · exact Or.inl (by rw [e]; rfl)
  · refine Or.inr ⟨b, off, ha, hb, fun j v hv => ?_⟩
    rw [List.getElem?_map] at hv
    cases hx : l[j]? with
    | none => rw [hx] at hv; cases hv
    | some y => rw [hx] at hv; cases hv; exact hr j y hx
theorem trod_slice_form {t e : TypeId} (ht : Try.prog.underlying t = some (.slice e)) {fuel : Nat} {v : Value} {y : DataW H × List MemPlace} (h : DataW.trod enc Try.prog w base (fun _ => true) held fuel t [v] = some y) : ∃ a n c, v = .slice a n c := by
  rcases Deep.open_slice ht h with ⟨e1, _⟩ | ⟨a, len, cap, _, _, _, _, e1, _⟩
  · exact ⟨none, 0, 0, by simpa using e1⟩
  · exact ⟨some a, len, cap, by simpa using e1⟩
theorem deed_came {fuel : Nat} {cs : List Value} {y : DataW H × List MemPlace} (h : DataW.trod enc Try.prog w base (fun _ => true) held fuel 40 cs = some y) : ∃ x : Dd, cs = dcs x ∧ x.Good w := by
  obtain ⟨xs, n, _, rfl, hl, hlen, hf⟩ := DataW.trod_struct Try.underlying40 h
  rw [cellsDd] at hl
  match cs, hl with
  | [v0, v1, v2, v3], _ =>
    have hs : xs.length = 4 := hlen
    have g0 := hf 0 _ rfl
    have g1 := hf 1 _ rfl
    have g2 := hf 2 _ rfl
    have g3 := hf 3 _ rfl
    have c1 : Try.prog.cellsOf 3 = 1 := by kernel_rfl
    have c5 : Try.prog.cellsOf 5 = 1 := by kernel_rfl
    have c38 : Try.prog.cellsOf 38 = 1 := by kernel_rfl
    simp only [List.getElem_toArray, List.getElem_cons_zero, List.getElem_cons_succ] at g0 g1 g2 g3
    rw [c1] at g0 g1
    rw [c5] at g2
    rw [c38] at g3
    simp only [List.drop_zero, List.take_succ_cons, List.take_zero, List.drop_succ_cons] at g0 g1 g2 g3
    rw [List.getElem?_eq_getElem (by omega)] at g0 g1 g2 g3
    obtain ⟨k, e0, _, wk⟩ := DataW.trod_int Try.underlying3 g0
    obtain ⟨m, e1, _, wm⟩ := DataW.trod_int Try.underlying3 g1
    obtain ⟨b, e2, _, wb⟩ := DataW.trod_int Try.underlying5 g2
    simp at e0 e1 e2
    subst e0 e1 e2
    obtain ⟨a, kn, kc, rfl⟩ := trod_slice_form Try.underlying38 g3
    obtain ⟨l, hn, hln, _⟩ := nums_came (x := xs[3].1) (p := xs[3].2) ⟨n, g3⟩
    have hb := byte_wf wb
    have eb : ((b.toNat.toUInt8).toNat : Int) = b := by
      have : (b.toNat.toUInt8).toNat = b.toNat % 256 := by simp [Nat.toUInt8]
      rw [this]; omega
    exact ⟨⟨k, m, b.toNat.toUInt8, a, kn, kc, l⟩, by unfold dcs; rw [eb], ⟨hn, hln, fitI wk, fitI wm⟩⟩
theorem deeds_came {a : Option Addr} {len cap : Nat} {x : DataW H} {p : List MemPlace} (h : DataW.Trod enc Try.prog w base (fun _ => true) held 32 (.slice a len cap) x p) : ∃ l : List Dd, CameD w a len l := by
  obtain ⟨fuel, hf⟩ := h
  rcases Deep.open_slice Try.underlying32 hf with ⟨hcs, _⟩ | ⟨ad, l, c, m, n, D, Pl, hcs, _, hl, hm, hmm, _, hx⟩
  · simp [Value.cells] at hcs
    obtain ⟨rfl, rfl, rfl⟩ := hcs
    exact ⟨[], Or.inl rfl, rfl, by simp⟩
  · simp [Value.cells] at hcs
    obtain ⟨rfl, rfl, rfl⟩ := hcs
    have hmc : m = cap := by simpa using hmm
    rw [cellsDd] at hx
    have each : ∀ i, i < len → ∃ q : Dd, w.cells? base (ad.add (i * 4)) 4 = some (dcs q) ∧ q.Good w := by
      intro i hi
      obtain ⟨cs', h1, h2⟩ := hx i (by omega)
      obtain ⟨q, e, hq⟩ := deed_came h2
      exact ⟨q, by rw [h1, e], hq⟩
    obtain ⟨q, hq⟩ := Deep.choose_lt each
    refine ⟨(List.range len).map q, ?_, by simp, fun x hx => ?_⟩
    · by_cases h0 : len = 0
      · left; subst h0; rfl
      · right
        have c0 := (hq 0 (by omega)).1
        obtain ⟨_, _, k0⟩ := World.cells?_some c0
        have hc := k0 0 (by omega)
        obtain ⟨b, off, spot⟩ := ad
        have hspot : spot = none := by simpa [Addr.add] using World.cell?_spot hc
        subst hspot
        have hb : b < w.heap.size := by
          have := World.block_lt_of_cell? w _ hc
          simpa [Addr.add] using this
        refine ⟨b, off, rfl, hb, fun j v hv => ?_⟩
        have hjl : j < ((List.range len).map q).length * 4 := by
          have e := flat_len (f := dcs) (n := 4) (l := (List.range len).map q) (fun _ _ => rfl)
          rw [← e]; exact (List.getElem?_eq_some_iff.1 hv).1
        simp only [List.length_map, List.length_range] at hjl
        obtain ⟨_, _, kj⟩ := World.cells?_some (hq (j / 4) (by omega)).1
        have hd4 : j % 4 < (dcs (q (j / 4))).length := by have : (dcs (q (j / 4))).length = 4 := rfl; omega
        have e2 := kj (j % 4) (by omega)
        rw [List.getElem?_eq_getElem hd4] at e2
        have e3 := flat_mid (f := dcs) (n := 4) (l := (List.range len).map q) (i := j / 4) (x := q (j / 4)) (fun _ _ => rfl) (by rw [List.getElem?_map, List.getElem?_range (by omega)]; rfl) (j % 4) _ (List.getElem?_eq_getElem hd4)
        rw [show j / 4 * 4 + j % 4 = j by omega] at e3
        rw [e3] at hv
        injection hv with hv
        rw [Addr.add_mid, Addr.add_mid] at e2
        rw [← hv, ← e2]
        congr 2
        omega
    · obtain ⟨i, hi, rfl⟩ := List.mem_map.1 hx
      exact (hq i (List.mem_range.1 hi)).2
end
end Go.Proofs.Ytcboknigjpdmpaa
