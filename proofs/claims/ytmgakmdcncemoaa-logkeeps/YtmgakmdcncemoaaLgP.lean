/- falseworklaw10: acts that came in. -/
import Derived.Test.YtmgakmdcncemoaaLgO
namespace Go.Proofs.Ytmgakmdcncemoaa
open Go.ChangeShapes Go.WideShapes Go.ChangeAt Go.RowKit Go.Lib

theorem isAc : IsAgg 39 5 zA :=
  ⟨Try.zeroValue39, ⟨_, Try.underlying39, rfl⟩, by kernel_rfl, rfl⟩
theorem elAc : El 34 39 5 72 := ⟨Try.underlying34, inf_of (z := .agg #[.int .i64 0, .int .i64 0, .int .u64 0, .slice none 0 0, .slice none 0 0]) (by kernel_rfl) rfl, by decide⟩
theorem cellsAc : Try.prog.cellsOf 39 = 5 := by kernel_rfl
section
variable {H : Type} {enc : TypeId × Value → H} {w : World} {base : Nat} {spare : Nat → Bool} {held : Bool}
theorem act_came {fuel : Nat} {cs : List Value} {y : DataW H × List MemPlace} (h : DataW.trod enc Try.prog w base (fun _ => true) held fuel 39 cs = some y) : ∃ x : Ac, cs = acs x ∧ x.Good w := by
  obtain ⟨xs, n, _, rfl, hl, hlen, hf⟩ := DataW.trod_struct Try.underlying39 h
  rw [cellsAc] at hl
  match cs, hl with
  | [v0, v1, v2, v3, v4], _ =>
    have hs : xs.length = 5 := hlen
    have g0 := hf 0 _ rfl
    have g1 := hf 1 _ rfl
    have g2 := hf 2 _ rfl
    have g3 := hf 3 _ rfl
    have g4 := hf 4 _ rfl
    have c1 : Try.prog.cellsOf 3 = 1 := by kernel_rfl
    have c5 : Try.prog.cellsOf 29 = 1 := by kernel_rfl
    have c7 : Try.prog.cellsOf 32 = 1 := by kernel_rfl
    have c38 : Try.prog.cellsOf 37 = 1 := by kernel_rfl
    simp only [List.getElem_toArray, List.getElem_cons_zero, List.getElem_cons_succ] at g0 g1 g2 g3 g4
    rw [c1] at g0 g1
    rw [c5] at g2
    rw [c7] at g3
    rw [c38] at g4
    simp only [List.drop_zero, List.take_succ_cons, List.take_zero, List.drop_succ_cons] at g0 g1 g2 g3 g4
    rw [List.getElem?_eq_getElem (by omega)] at g0 g1 g2 g3 g4
    obtain ⟨k, e0, _, wk⟩ := DataW.trod_int Try.underlying3 g0
    obtain ⟨m, e1, _, wm⟩ := DataW.trod_int Try.underlying3 g1
    obtain ⟨b, e2, _, wb⟩ := DataW.trod_int Try.underlying29 g2
    simp at e0 e1 e2
    subst e0 e1 e2
    obtain ⟨a, bn, bc, rfl⟩ := trod_slice_form Try.underlying32 g3
    obtain ⟨bl, hbl⟩ := bytes_came (x := xs[3].1) (p := xs[3].2) ⟨n, g3⟩
    obtain ⟨a2, kn, kc, rfl⟩ := trod_slice_form Try.underlying37 g4
    obtain ⟨l, hn, hln, _⟩ := nums_came (x := xs[4].1) (p := xs[4].2) ⟨n, g4⟩
    have hb := u64_wf wb
    have eb : ((b.toNat : Nat) : Int) = b := by omega
    exact ⟨⟨k, m, b.toNat, a, bn, bc, bl, a2, kn, kc, l⟩, by unfold acs; rw [eb], ⟨hbl, hn, hln, fitI wk, fitI wm, by show b.toNat < _; omega⟩⟩
theorem acts_came {a : Option Addr} {len cap : Nat} {x : DataW H} {p : List MemPlace} (h : DataW.Trod enc Try.prog w base (fun _ => true) held 34 (.slice a len cap) x p) : ∃ l : List Ac, CameA w a len l := by
  obtain ⟨fuel, hf⟩ := h
  rcases Deep.open_slice Try.underlying34 hf with ⟨hcs, _⟩ | ⟨ad, l, c, m, n, D, Pl, hcs, _, hl, hm, hmm, _, hx⟩
  · simp [Value.cells] at hcs
    obtain ⟨rfl, rfl, rfl⟩ := hcs
    exact ⟨[], Or.inl rfl, rfl, by simp⟩
  · simp [Value.cells] at hcs
    obtain ⟨rfl, rfl, rfl⟩ := hcs
    have hmc : m = cap := by simpa using hmm
    rw [cellsAc] at hx
    have each : ∀ i, i < len → ∃ q : Ac, w.cells? base (ad.add (i * 5)) 5 = some (acs q) ∧ q.Good w := by
      intro i hi
      obtain ⟨cs', h1, h2⟩ := hx i (by omega)
      obtain ⟨q, e, hq⟩ := act_came h2
      exact ⟨q, by rw [h1, e], hq⟩
    obtain ⟨q, hq⟩ := Deep.choose_lt each
    refine ⟨(List.range len).map q, ?_, by simp, fun x hx => ?_⟩
    · by_cases h0 : len = 0
      · left; subst h0; rfl
      · right
        have c0 := (hq 0 (by omega)).1
        obtain ⟨_, _, k0⟩ := World.cells?_some c0
        have hc := k0 0 (by omega)
        obtain ⟨b, off, spot⟩ := ad
        have hspot : spot = none := by simpa [Addr.add] using World.cell?_spot hc
        subst hspot
        have hb : b < w.heap.size := by
          have := World.block_lt_of_cell? w _ hc
          simpa [Addr.add] using this
        refine ⟨b, off, rfl, hb, fun j v hv => ?_⟩
        have hjl : j < ((List.range len).map q).length * 5 := by
          have e := flat_len (f := acs) (n := 5) (l := (List.range len).map q) (fun _ _ => rfl)
          rw [← e]; exact (List.getElem?_eq_some_iff.1 hv).1
        simp only [List.length_map, List.length_range] at hjl
        obtain ⟨_, _, kj⟩ := World.cells?_some (hq (j / 5) (by omega)).1
        have hd5 : j % 5 < (acs (q (j / 5))).length := by have : (acs (q (j / 5))).length = 5 := rfl; omega
        have e2 := kj (j % 5) (by omega)
        rw [List.getElem?_eq_getElem hd5] at e2
        have e3 := flat_mid (f := acs) (n := 5) (l := (List.range len).map q) (i := j / 5) (x := q (j / 5)) (fun _ _ => rfl) (by rw [List.getElem?_map, List.getElem?_range (by omega)]; rfl) (j % 5) _ (List.getElem?_eq_getElem hd5)
        rw [show j / 5 * 5 + j % 5 = j by omega] at e3
        rw [e3] at hv
        injection hv with hv
        rw [Addr.add_mid, Addr.add_mid] at e2
        rw [← hv, ← e2]
        congr 2
        omega
    · obtain ⟨i, hi, rfl⟩ := List.mem_map.1 hx
      exact (hq i (List.mem_range.1 hi)).2
end
end Go.Proofs.Ytmgakmdcncemoaa
