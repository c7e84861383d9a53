/- The walk of falseworklaw01.WideSums. -/
import Derived.Test.YtkdjoiahjenadaaAlive1
import Derived.Test.YtkdjoiahjenadaaRefI
namespace Go.Proofs.Ytkdjoiahjenadaa
open Go.RowKit

theorem lt_of_cell {w : World} {a : Addr} {v : Value} (h : w.cell? a = some v) : a.block < w.heap.size := by
  rcases Nat.lt_or_ge a.block w.heap.size with hl | hl
  · exact hl
  · unfold World.cell? at h
    rw [Array.getElem?_eq_none hl] at h
    simp at h

theorem row_of {w : World} {a : Option Addr} {len cap : Nat} {zs : List Int} (h : IsRow .i64 w a len cap zs) :
    RowAt .i64 w a (zs.take len) ∧ (zs.take len).length = len ∧ (∀ n ∈ zs.take len, I n) ∧ len ≤ 9223372036854775807 := by
  rcases h with ⟨rfl, rfl, rfl, rfl⟩ | ⟨x, rfl, hl, hm, hz, hcell, hwz⟩
  · exact ⟨Or.inl rfl, rfl, by simp, by omega⟩
  · have e : (zs.take len).length = len := by simp; omega
    unfold maxLen at hm
    refine ⟨?_, e, fun n hn => I_of_wf (hwz n (List.mem_of_mem_take hn)), by omega⟩
    by_cases h0 : len = 0
    · subst h0; exact Or.inl (by simp)
    · obtain ⟨b, off, spot⟩ := x
      have hc := hcell 0 (by omega)
      have hspot : spot = none := by simpa [Addr.add] using World.cell?_spot hc
      subst hspot
      have hb : b < w.heap.size := by
        have := lt_of_cell hc
        simpa [Addr.add] using this
      refine Or.inr ⟨b, off, rfl, hb, fun i hi => ?_⟩
      have hi' : i < len := by omega
      have := hcell i (by omega)
      have e2 : (zs.take len).getD i 0 = zs.getD i 0 := by simp [List.getD, hi']
      rw [e2, ← this]
      by_cases hi0 : i = 0
      · subst hi0; simp [Addr.add]
      · simp [Addr.add, hi0]

set_option maxHeartbeats 1000000 in
theorem wideSums_walk (a0 : Option Addr) (len0 cap0 : Nat) (z0 : List Int) (w : World) (w0 : IsRow .i64 w a0 len0 cap0 z0) :
    Calls Try.prog 5 #[.slice a0 len0 cap0] w fun e w' => e = .returned (.bool true) ∧ Below w.heap.size w w' := by
  obtain ⟨hr, hlen, hI, hm⟩ := row_of w0
  clear w0
  obtain ⟨l, hl⟩ : ∃ l, l = z0.take len0 := ⟨_, rfl⟩
  rw [← hl] at hr hlen hI
  clear hl
  subst hlen
  have HR := Lib.hid hr
  have HI := Lib.hid hI
  clear hr hI
  by_cases h1 : 100 < l.length
  · have hd : decide ((100 : Int) < (l.length : Int)) = true := by simp only [decide_eq_true_eq]; omega
    go_enter Try.func5, Try.ntmps5
    go_wp2_with fail
    refine (alive_any _).mono ?_
    rintro e w1 ⟨rfl, hw1⟩
    go_wp2
    go_ret
    exact ⟨rfl, hw1⟩
  · have hd : decide ((100 : Int) < (l.length : Int)) = false := by simp only [decide_eq_false_iff_not]; omega
    go_enter Try.func5, Try.ntmps5
    go_wp2_with fail
    refine (alive_any _).mono ?_
    rintro e w1 ⟨rfl, hw1⟩
    go_wp2_with fail
    refine (sum_any a0 l cap0 _ (HR.out.below hw1) HI.out hm).mono ?_
    rintro e w2 ⟨rfl, hw2⟩
    go_wp2_with fail
    refine (refSum_any a0 l cap0 _ ((HR.out.below hw1).below hw2) HI.out (by omega)).mono ?_
    rintro e w3 ⟨rfl, hw3⟩
    go_wp2
    go_ret
    exact ⟨by simp, bl_trans (bl_trans hw1 hw2) hw3⟩

end Go.Proofs.Ytkdjoiahjenadaa
