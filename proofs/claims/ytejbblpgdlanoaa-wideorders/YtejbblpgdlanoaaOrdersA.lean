/- The walk of falseworklaw01.WideOrders. -/
import Derived.Test.YtejbblpgdlanoaaAlive1
import Derived.Test.YtejbblpgdlanoaaRowOf
import Derived.Test.YtejbblpgdlanoaaOwnInts
namespace Go.Proofs.Ytejbblpgdlanoaa
open Go.RowKit

theorem sum_turned {l : List Int} {t : Nat} (hI : ∀ n ∈ l, I n) (hl : l.length ≤ 100) (a : Option Addr) (cap : Nat) (w : World) (hr : RowAt .i64 w a ([] ++ l.drop t ++ l.take t)) :
    Calls Try.prog 27 #[.slice a l.length cap] w fun e w' => e = .returned (.tuple #[.int .i64 (cutV l.sum), .int .i64 (cutE l.sum)]) ∧ Below w.heap.size w w' := by
  have hr' : RowAt .i64 w a (l.drop t ++ l.take t) := hr
  have hlen : (l.drop t ++ l.take t).length = l.length := by simp; omega
  have h := sum_any a (l.drop t ++ l.take t) cap w hr' (fun n hn => hI n (by
    rcases List.mem_append.mp hn with h | h
    · exact List.mem_of_mem_drop h
    · exact List.mem_of_mem_take h)) (by omega)
  rw [hlen, sum_turn] at h
  exact h
theorem sum_head {l : List Int} {t : Nat} (hI : ∀ n ∈ l, I n) (hl : l.length ≤ 100) (ht : t ≤ l.length) (a : Option Addr) (cap : Nat) (w : World) (hr : RowAt .i64 w a l) :
    Calls Try.prog 27 #[.slice a t cap] w fun e w' => e = .returned (.tuple #[.int .i64 (cutV (l.take t).sum), .int .i64 (cutE (l.take t).sum)]) ∧ Below w.heap.size w w' := by
  have hlen : (l.take t).length = t := by simp; omega
  have h := sum_any a (l.take t) cap w (hr.take t) (fun n hn => hI n (List.mem_of_mem_take hn)) (by omega)
  rw [hlen] at h
  exact h
theorem sum_tail {l : List Int} {t : Nat} (hI : ∀ n ∈ l, I n) (hl : l.length ≤ 100) (a : Option Addr) (cap : Nat) (w : World) (hr : RowAt .i64 w a (l.drop t)) :
    Calls Try.prog 27 #[.slice a (l.length - t) cap] w fun e w' => e = .returned (.tuple #[.int .i64 (cutV (l.drop t).sum), .int .i64 (cutE (l.drop t).sum)]) ∧ Below w.heap.size w w' := by
  have hlen : (l.drop t).length = l.length - t := by simp
  have h := sum_any a (l.drop t) cap w hr (fun n hn => hI n (List.mem_of_mem_drop hn)) (by omega)
  rw [hlen] at h
  exact h

theorem sum_tail0 {l : List Int} (hI : ∀ n ∈ l, I n) (hl : l.length ≤ 100) (a : Option Addr) (cap : Nat) (w : World) (hr : RowAt .i64 w a (l.drop l.length)) :
    Calls Try.prog 27 #[.slice a 0 cap] w fun e w' => e = .returned (.tuple #[.int .i64 (cutV (l.drop l.length).sum), .int .i64 (cutE (l.drop l.length).sum)]) ∧ Below w.heap.size w w' := by
  have h := sum_tail hI hl a cap w hr
  rw [Nat.sub_self] at h
  exact h

theorem bl_over {w u v : World} {n : Nat} (h : Below n w u) (hn : n ≤ u.heap.size) (k : Below u.heap.size u v) : Below n w v := h.trans (k.mono hn)

end Go.Proofs.Ytejbblpgdlanoaa
