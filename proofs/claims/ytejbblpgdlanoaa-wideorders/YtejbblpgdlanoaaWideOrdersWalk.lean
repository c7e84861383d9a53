/- The walk of falseworklaw01.WideOrders. -/
import Derived.Test.YtejbblpgdlanoaaOrdersB
import Derived.Test.YtejbblpgdlanoaaOrdersC
import Derived.Test.YtejbblpgdlanoaaOrdersD
import Derived.Test.YtejbblpgdlanoaaOrdersE
namespace Go.Proofs.Ytejbblpgdlanoaa
open Go.RowKit

theorem wideOrders_walk (a0 : Option Addr) (len0 cap0 : Nat) (z0 : List Int) (a1 : Int) (w : World) (w0 : IsRow .i64 w a0 len0 cap0 z0) (w1 : (Lit.int .i64 a1).wf = true) :
    Calls Try.prog 6 #[.slice a0 len0 cap0, .int .i64 a1] w fun e w' => e = .returned (.bool true) ∧ Below w.heap.size w w' := by
  obtain ⟨hr, hlen, hI, hm⟩ := row_of w0
  by_cases hout : 100 < len0 ∨ a1 < 0 ∨ (len0 : Int) < a1
  · exact orders_out a0 len0 cap0 a1 w hout
  · rcases row_cap w0 with ⟨rfl, rfl, rfl⟩ | ⟨x, rfl, hlc, hcm⟩
    · obtain rfl : a1 = 0 := by omega
      exact orders_nil w
    · obtain ⟨t, rfl⟩ : ∃ t : Nat, a1 = t := ⟨a1.toNat, by omega⟩
      generalize z0.take len0 = l at *
      subst hlen
      by_cases htc : t = cap0
      · obtain rfl : cap0 = l.length := by omega
        subst htc
        exact orders_full x l w hr hI (by omega)
      · exact orders_some x l cap0 t w hr hI (by omega) hlc (by omega) htc
end Go.Proofs.Ytejbblpgdlanoaa
