/- New: the holidays, as a set in memory. -/
import Derived.Test.YtijhfjehdpgjmaaDoorCalRow
namespace Go.Proofs.YtijhfjehdpgjmaaDoor
open Go.RowKit Go.Sort

theorem new_many (a : Option Addr) (len cap : Nat) (w : World) (h : 512 < len) (h2 : len ≤ 1000000) :
    Calls Tryd.prog 11 #[.slice a len cap] w fun e w' => e = .returned (.tuple #[.pointer none, .int .i64 41]) ∧ w = w' := by
  go_enter Tryd.func11, Tryd.ntmps11
  go_wp2
  go_ret2
  exact ⟨rfl, rfl⟩

/-- what New hands back -/
def NewYes (l : List Int) (w : World) (e : Ending) (w' : World) : Prop := (∃ b, e = .returned (.tuple #[.pointer (some ⟨b, 0, none⟩), .int .i64 0]) ∧ Cal w' b l) ∧ Gr w w'
/-- the loop's state -/
def NewAt (a : Option Addr) (l : List Int) (w wr : World) (k : Nat) : Prop :=
  RowAt w a l ∧ SetAt wr w.heap.size (l.take k) ∧ wr.cell? ⟨w.heap.size + 1, 0, none⟩ = some (.map (some w.heap.size)) ∧ w.heap.size + 1 < wr.heap.size ∧ Gr w wr

theorem take_succ (l : List Int) (k : Nat) (h : k < l.length) : l.take (k + 1) = l.take k ++ [l.getD k 0] := by
  rw [List.take_succ_eq_append_getElem h]; simp [h]

theorem NewAt.start {a : Option Addr} {l : List Int} {w : World} (hr : RowAt w a l) (t : TypeId) : NewAt a l w ((w.alloc (.map #[] 0)).alloc (Obj.cells #[Value.map (some w.heap.size)] t)) 0 :=
  ⟨hr, by simpa using (SetAt.made w).gr ((Gr.refl _).alloc _), by simp [go_sem], by simp, ((Gr.refl _).alloc _).alloc _⟩

theorem NewAt.step {a : Option Addr} {l : List Int} {w wr : World} {k : Nat} (h : NewAt a l w wr k) (hk : k < l.length) (hI : ∀ n ∈ l, I n) (hl : l.length ≤ 512) :
    (∃ b off, a = some ⟨b, off, none⟩ ∧ wr.cell? ⟨b, off + k, none⟩ = some (.int .i64 (l.getD k 0))) ∧ wr.cell? ⟨w.heap.size + 1, 0, none⟩ = some (.map (some w.heap.size)) ∧
    ∃ w', (Instr.mapUpdate 51 (.map (some w.heap.size)) (.int .i64 (l.getD k 0)) (.agg #[])).run Tryd.prog wr = .ok () w' ∧ NewAt a l w w' (k + 1) := by
  obtain ⟨hr, hs, hc, hz, hg⟩ := h
  refine ⟨?_, hc, ?_⟩
  · rcases hr.gr hg with h | ⟨b, off, ha, hlt, hc⟩
    · subst h; simp at hk
    · exact ⟨b, off, ha, hc k hk⟩
  · obtain ⟨w', hrun, hs', ht⟩ := hs.put (l.getD k 0) (getD_I l hI k hk) (by simp; omega)
    have hgr := ht.grown
    exact ⟨w', hrun, hr, by rw [take_succ l k hk]; exact hs', hgr.cell hc (by simp), Nat.lt_of_lt_of_le hz hgr.size, hg.turned ht (Nat.le_refl _)⟩

theorem NewAt.done {a : Option Addr} {l : List Int} {w wr : World} (h : NewAt a l w wr l.length) : Cal wr (w.heap.size + 1) l ∧ Gr w wr := by
  obtain ⟨hr, hs, hc, hz, hg⟩ := h
  rw [List.take_length] at hs
  exact ⟨⟨hz, _, hc, hs⟩, hg⟩

set_option maxHeartbeats 800000 in
theorem new_any (a : Option Addr) (l : List Int) (cap : Nat) (w : World) (hr : RowAt w a l) (hI : ∀ n ∈ l, I n) (hl : l.length ≤ 512) :
    Calls Tryd.prog 11 #[.slice a l.length cap] w (NewYes l w) := by
  have HI := Lib.hid hI; clear hI
  have HR := Lib.hid hr; clear hr
  have hmm := mkMap l.length
  go_enter Tryd.func11, Tryd.ntmps11
  go_wp2
  go_loopg [17] l.length (fun g s wr => ∃ k : Nat, k ≤ l.length ∧ s = .int .i64 k ∧ g = l.length - k ∧ Hid (NewAt a l w wr k))
  case atStart => exact ⟨0, Nat.zero_le _, rfl, by simp, Lib.hid (NewAt.start HR.out _)⟩
  case round =>
    obtain ⟨k, hk, rfl, rfl, H⟩ := hrel
    by_cases hlt : k < l.length
    · obtain ⟨⟨b, off, rfl, hc⟩, hc2, w', hrun, H'⟩ := H.out.step hlt HI.out hl
      have HH := Lib.hid H'
      clear H' H
      generalize l.getD k 0 = x at *
      go_wp2
      go_roundg (l.length - (k + 1))
      case measure => omega
      case rel => exact ⟨k + 1, by omega, by go_num, rfl, HH⟩
    · have hkk : k = l.length := by omega
      subst hkk
      go_wp2
      go_ret2
      exact ⟨⟨_, rfl, H.out.done.1⟩, H.out.done.2⟩
end Go.Proofs.YtijhfjehdpgjmaaDoor
