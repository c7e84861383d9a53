/- A slice of int64 that came in. -/
import Derived.Test.YtijhfjehdpgjmaaDoorCalRow
import Derived.Test.YtijhfjehdpgjmaaDoorCivTab
namespace Go.Proofs.YtijhfjehdpgjmaaDoor
open Go.ChangeShapes Go.WideShapes Go.ChangeAt Go.RowKit

/-- What a walk is told of a slice of integers that came in: it is nil; or it leads to a row of 'cap' cells, the numbers 'zs' (the first 'len' are its elements, the rest its spare room), each fitting its kind. -/
def CameRow (w : World) (a : Option Addr) (len cap : Nat) (zs : List Int) : Prop :=
  (a = none ∧ len = 0 ∧ cap = 0 ∧ zs = []) ∨
  ∃ x, a = some x ∧ len ≤ cap ∧ cap ≤ maxLen ∧ zs.length = cap ∧ (∀ i, i < zs.length → w.cell? (x.add i) = some (.int .i64 (zs.getD i 0))) ∧ ∀ n ∈ zs, (Lit.int .i64 n).wf = true

theorem laidOut : laidOutB Tryd.prog = true := by kernel_rfl

theorem row_came {H : Type} {enc : TypeId × Value → H} {W : World} {base : Nat} {held : Bool} {a : Option Addr} {len cap : Nat} {x : DataW H} {p : List MemPlace}
    (h : DataW.Trod enc Tryd.prog W base (fun _ => true) held 27 (.slice a len cap) x p) : ∃ zs, CameRow W a len cap zs := by
  obtain ⟨fuel, hf⟩ := h
  rcases open_ints Tryd.underlying27 Tryd.underlying2 (by kernel_rfl) hf with ⟨hcs, _⟩ | ⟨x, l, c, zs, hcs, _, hl, hm, hz, _, hcell, hwz⟩
  · simp [Value.cells] at hcs
    obtain ⟨rfl, rfl, rfl⟩ := hcs
    exact ⟨[], .inl ⟨rfl, rfl, rfl, rfl⟩⟩
  · simp [Value.cells] at hcs
    obtain ⟨rfl, rfl, rfl⟩ := hcs
    exact ⟨zs, .inr ⟨_, rfl, hl, hm, by simpa using hz, hcell, hwz⟩⟩

theorem row_of {w : World} {a : Option Addr} {len cap : Nat} {zs : List Int} (h : CameRow w a len cap zs) :
    RowAt w a (zs.take len) ∧ (zs.take len).length = len ∧ (∀ n ∈ zs.take len, I n) ∧ len ≤ 9223372036854775807 ∧ (a = none → cap = 0 ∧ zs.take len = []) := by
  rcases h with ⟨rfl, rfl, rfl, rfl⟩ | ⟨x, rfl, hl, hm, hz, hcell, hwz⟩
  · exact ⟨Or.inl rfl, rfl, by simp, by omega, fun _ => ⟨rfl, rfl⟩⟩
  · have e : (zs.take len).length = len := by simp; omega
    unfold maxLen at hm
    refine ⟨?_, e, fun n hn => fits (hwz n (List.mem_of_mem_take hn)), by omega, fun h => by cases h⟩
    by_cases h0 : len = 0
    · subst h0; exact Or.inl (by simp)
    · obtain ⟨b, off, spot⟩ := x
      have hc := hcell 0 (by omega)
      have hspot : spot = none := by simpa [Addr.add] using World.cell?_spot hc
      subst hspot
      have hb : b < w.heap.size := by
        have := World.block_lt_of_cell? w _ hc
        simpa [Addr.add] using this
      refine Or.inr ⟨b, off, rfl, hb, fun i hi => ?_⟩
      have hi' : i < len := by omega
      have := hcell i (by omega)
      have e2 : (zs.take len).getD i 0 = zs.getD i 0 := by simp [List.getD, hi']
      rw [e2, ← this]
      by_cases hi0 : i = 0
      · subst hi0; simp [Addr.add]
      · simp [Addr.add, hi0]
end Go.Proofs.YtijhfjehdpgjmaaDoor
