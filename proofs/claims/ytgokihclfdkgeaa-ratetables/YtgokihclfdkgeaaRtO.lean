/- What the arguments are: terms, a reset, resets, two numbers, a float. -/
import Derived.Test.YtgokihclfdkgeaaRtR
import Derived.WalkKit
import Derived.ProofKit
import Derived.OpenShut
import Derived.ShutString
import Derived.ChangeOld
import Derived.Below
import Derived.Lib.SmallJoins
import Derived.Deep.SlicePairs
namespace Go.Proofs.Ytgokihclfdkgeaa
open Go.ChangeShapes Go.WideShapes Go.ChangeAt Go.RowKit

theorem own : ownKnob Try.prog.godebug = none := by kernel_rfl
theorem laidOut : laidOutB Try.prog = true := by kernel_rfl
theorem fits {a : Int} (h : (Lit.int .i64 a).wf = true) : I a := bounds_i64 h
theorem cellsTerms : Try.prog.cellsOf 33 = 3 := by kernel_rfl
theorem cellsReset : Try.prog.cellsOf 42 = 2 := by kernel_rfl
section
variable {H : Type} {enc : TypeId × Value → H} {w : World} {base : Nat} {spare : Nat → Bool} {held : Bool}
theorem open_terms {r : Reach} {b0 : Nat} {v : Value} {x : DataW H} {p : List MemPlace} (hv : Value.okWide Try.prog w r b0 33 v) (h : DataW.Trod enc Try.prog w base spare held 33 v x p) :
    ∃ y m d : Int, v = .agg #[.int .i64 y, .int .i64 m, .int .i64 d] ∧ I y ∧ I m ∧ I d := by
  obtain ⟨c0, c1, c2, y0, y1, y2, n, rfl, rfl, rfl, hy0, hy1, hy2⟩ := Joins.open_agg3 Try.underlying33 (by kernel_rfl) cellsTerms hv h
  obtain ⟨a, e0, rfl, wa⟩ := DataW.trod_int Try.underlying2 hy0
  obtain ⟨b, e1, rfl, wb⟩ := DataW.trod_int Try.underlying2 hy1
  obtain ⟨c, e2, rfl, wc⟩ := DataW.trod_int Try.underlying2 hy2
  simp at e0 e1 e2
  subst e0 e1 e2
  exact ⟨a, b, c, rfl, fits wa, fits wb, fits wc⟩
theorem open_reset {r : Reach} {b0 : Nat} {v : Value} {x : DataW H} {p : List MemPlace} (hv : Value.okWide Try.prog w r b0 42 v) (h : DataW.Trod enc Try.prog w base spare held 42 v x p) :
    ∃ y m : Int, v = .agg #[.int .i64 y, .int .i64 m] ∧ I y ∧ I m := by
  obtain ⟨c0, c1, y0, y1, n, rfl, rfl, rfl, hy0, hy1⟩ := Joins.open_agg2 Try.underlying42 (by kernel_rfl) cellsReset hv h
  obtain ⟨a, e0, rfl, wa⟩ := DataW.trod_int Try.underlying2 hy0
  obtain ⟨b, e1, rfl, wb⟩ := DataW.trod_int Try.underlying2 hy1
  simp at e0 e1
  subst e0 e1
  exact ⟨a, b, rfl, fits wa, fits wb⟩
theorem open_two {r : Reach} {b0 : Nat} {v : Value} {x : DataW H} {p : List MemPlace} (hv : Value.okWide Try.prog w r b0 55 v) (h : DataW.Trod enc Try.prog w base spare held 55 v x p) :
    ∃ y m : Int, v = .agg #[.int .i64 y, .int .i64 m] ∧ I y ∧ I m := by
  simp only [Value.okWide, Try.underlying55] at hv
  obtain ⟨cs, rfl, hsz, _⟩ := hv
  obtain ⟨c0, c1, rfl⟩ := Joins.array2 (hsz.trans (show Try.prog.cellsOf 55 = 2 by kernel_rfl))
  obtain ⟨fuel, hf⟩ := h
  obtain ⟨xs, m, _, hx, hl, hn, hget⟩ := DataW.trod_array Try.underlying55 hf
  have g0 := hget 0 (by omega)
  have g1 := hget 1 (by omega)
  obtain ⟨y0, e0⟩ : ∃ y, xs[0]? = some y := ⟨xs[0], List.getElem?_eq_getElem (by omega)⟩
  obtain ⟨y1, e1⟩ : ∃ y, xs[1]? = some y := ⟨xs[1], List.getElem?_eq_getElem (by omega)⟩
  rw [e0] at g0
  rw [e1] at g1
  obtain ⟨x, hx0, _, w0⟩ := DataW.trod_int Try.underlying2 g0
  obtain ⟨y, hy0, _, w1⟩ := DataW.trod_int Try.underlying2 g1
  have hE : Try.prog.cellsOf 2 = 1 := by kernel_rfl
  simp [Value.cells, hE] at hx0 hy0
  exact ⟨x, y, by rw [hx0, hy0], fits w0, fits w1⟩
/-- resets that came in -/
def CameRs (w : World) (a : Option Addr) (len cap : Nat) (l : List Rs) : Prop :=
  RsAt w a l ∧ l.length = len ∧ (∀ r ∈ l, I r.1 ∧ I r.2) ∧ len ≤ cap ∧ cap ≤ maxLen ∧ (a = none → cap = 0) ∧ (∀ x, a = some x → x.spot = none ∨ cap = 0)
theorem resets_came {a : Option Addr} {len cap : Nat} {x : DataW H} {p : List MemPlace} (h : DataW.Trod enc Try.prog w base (fun _ => true) held 40 (.slice a len cap) x p) : ∃ l, CameRs w a len cap l := by
  obtain ⟨fuel, hf⟩ := h
  rcases Deep.open_slice_pairs Try.underlying40 Try.underlying42 cellsReset rfl rfl (by kernel_rfl) (by kernel_rfl) hf with ⟨hcs, _⟩ | ⟨ad, l, c, m, n, V0, V1, D0, D1, P0, P1, hcs, _, hl, hm, hmm, _, hx⟩
  · simp [Value.cells] at hcs
    obtain ⟨rfl, rfl, rfl⟩ := hcs
    exact ⟨[], Or.inl rfl, rfl, by simp, Nat.le_refl _, by decide, (fun _ => rfl), (fun x h => by cases h)⟩
  · simp [Value.cells] at hcs
    obtain ⟨rfl, rfl, rfl⟩ := hcs
    have hmc : m = cap := by simpa using hmm
    subst hmc
    have each : ∀ i, i < m → ∃ q : Rs, w.cell? (ad.add (i * 2)) = some (.int .i64 q.1) ∧ w.cell? (ad.add (i * 2 + 1)) = some (.int .i64 q.2) ∧ I q.1 ∧ I q.2 := by
      intro i hi
      obtain ⟨h0, h1, t0, t1⟩ := hx i hi
      obtain ⟨y, e0, _, w0⟩ := DataW.trod_int Try.underlying2 t0
      obtain ⟨z, e1, _, w1⟩ := DataW.trod_int Try.underlying2 t1
      simp at e0 e1
      exact ⟨(y, z), by rw [h0, e0], by rw [h1, e1], fits w0, fits w1⟩
    obtain ⟨q, hq⟩ := Deep.choose_lt each
    refine ⟨(List.range len).map q, ?_, by simp, ?_, hl, hm, (fun h => by cases h), ?_⟩
    · by_cases h0 : len = 0
      · left; subst h0; rfl
      · right
        obtain ⟨b, off, spot⟩ := ad
        have hc := (hq 0 (by omega)).1
        have hspot : spot = none := by simpa [Addr.add] using World.cell?_spot hc
        subst hspot
        have hb : b < w.heap.size := by
          have := World.block_lt_of_cell? w _ hc
          simpa [Addr.add] using this
        refine ⟨b, off, rfl, hb, fun i hi => ?_⟩
        have hi' : i < len := by simpa using hi
        obtain ⟨k0, k1, _, _⟩ := hq i (by omega)
        have e : ((List.range len).map q).getD i (0, 0) = q i := by simp [List.getD, hi']
        rw [e, ← k0, ← k1]
        refine ⟨?_, ?_⟩
        · by_cases hi0 : i * 2 = 0
          · simp [Addr.add, hi0]
          · simp [Addr.add, hi0]
        · simp [Addr.add, Nat.add_assoc]
    · intro r hr
      obtain ⟨i, hi, rfl⟩ := List.mem_map.1 hr
      exact (hq i (by have := List.mem_range.1 hi; omega)).2.2
    · intro x hxx
      cases hxx
      by_cases h0 : m = 0
      · right; exact h0
      · left
        obtain ⟨b, off, spot⟩ := ad
        have hc := (hq 0 (by omega)).1
        simpa [Addr.add] using World.cell?_spot hc
end
end Go.Proofs.Ytgokihclfdkgeaa
