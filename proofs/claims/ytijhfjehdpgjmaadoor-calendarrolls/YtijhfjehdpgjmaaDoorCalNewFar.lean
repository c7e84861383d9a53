/- New, with the blocks that it makes. -/
import Derived.Test.YtijhfjehdpgjmaaDoorCalNew
namespace Go.Proofs.YtijhfjehdpgjmaaDoor
open Go.RowKit Go.Sort

/-- block b holds a Days with these holidays; it and its set lie from block s on -/
def CalX (w : World) (b : Nat) (l : List Int) (s : Nat) : Prop :=
  b < w.heap.size ∧ s ≤ b ∧ ∃ m, s ≤ m ∧ w.cell? ⟨b, 0, none⟩ = some (.map (some m)) ∧ SetAt w m l
theorem CalX.cal {w : World} {b s : Nat} {l : List Int} (h : CalX w b l s) : Cal w b l := by
  obtain ⟨h1, _, m, _, h2, h3⟩ := h
  exact ⟨h1, m, h2, h3⟩
theorem CalX.set {w : World} {b s : Nat} {l : List Int} (h : CalX w b l s) {g o : Nat} (hg : g < s) (v : Value) : CalX (w.setCell ⟨g, o, none⟩ v) b l s := by
  obtain ⟨h1, h2, m, h3, h4, h5⟩ := h
  refine ⟨by simpa using h1, h2, m, h3, ?_, h5.set (p := ⟨g, o, none⟩) (by show m ≠ g; omega) v⟩
  simp [go_sem, h4]
/-- what New hands back -/
def NewFar (l : List Int) (w : World) (e : Ending) (w' : World) : Prop := (∃ b, e = .returned (.tuple #[.pointer (some ⟨b, 0, none⟩), .int .i64 0]) ∧ CalX w' b l w.heap.size) ∧ Gr w w'
theorem NewAt.far {a : Option Addr} {l : List Int} {w wr : World} (h : NewAt a l w wr l.length) : CalX wr (w.heap.size + 1) l w.heap.size := by
  obtain ⟨hr, hs, hc, hz, hg⟩ := h
  rw [List.take_length] at hs
  exact ⟨hz, by omega, _, Nat.le_refl _, hc, hs⟩

set_option maxHeartbeats 800000 in
theorem new_far (a : Option Addr) (l : List Int) (cap : Nat) (w : World) (hr : RowAt w a l) (hI : ∀ n ∈ l, I n) (hl : l.length ≤ 512) :
    Calls Tryd.prog 11 #[.slice a l.length cap] w (NewFar l w) := by
  have HI := Lib.hid hI; clear hI
  have HR := Lib.hid hr; clear hr
  have hmm := mkMap l.length
  go_enter Tryd.func11, Tryd.ntmps11
  go_wp2
  go_loopg [17] l.length (fun g s wr => ∃ k : Nat, k ≤ l.length ∧ s = .int .i64 k ∧ g = l.length - k ∧ Hid (NewAt a l w wr k))
  case atStart => exact ⟨0, Nat.zero_le _, rfl, by simp, Lib.hid (NewAt.start HR.out _)⟩
  case round =>
    obtain ⟨k, hk, rfl, rfl, H⟩ := hrel
    by_cases hlt : k < l.length
    · obtain ⟨⟨b, off, rfl, hc⟩, hc2, w', hrun, H'⟩ := H.out.step hlt HI.out hl
      have HH := Lib.hid H'
      clear H' H
      generalize l.getD k 0 = x at *
      go_wp2
      go_roundg (l.length - (k + 1))
      case measure => omega
      case rel => exact ⟨k + 1, by omega, by go_num, rfl, HH⟩
    · have hkk : k = l.length := by omega
      subst hkk
      go_wp2
      go_ret2
      exact ⟨⟨_, rfl, H.out.far⟩, H.out.done.2⟩
end Go.Proofs.YtijhfjehdpgjmaaDoor
