/- falseworklaw08.deed. -/
import Derived.Test.YtcboknigjpdmpaaDkDc
import Derived.Test.YtcboknigjpdmpaaDkDd
namespace Go.Proofs.Ytcboknigjpdmpaa
open Go.RowKit Go.Lib

theorem deed_any (g : Nat) (F : Nat → Prop) (d : Dk) (a0 : Option Addr) (c0 : Nat) (a1 : Option Addr) (c1 : Nat) (x : Dd) (w : World) (hd : DAt w F g d) (B : Nat → Prop) (hB : ∀ i, B i → i < w.heap.size) (hr : RM w (FB F B) d.norm a0 a1) (hi : I x.n) (hl : Nums w x.ka x.keep) (hn : x.keep.length = x.kn) (ho : x.keep = [] ∨ ∀ b, inBlk x.ka b → ¬ F b) (hq : d.queue.length < 1000) :
    Calls Try.prog 13 #[.pointer (some ⟨g, 0, none⟩), .agg (rcs d.norm a0 c0 a1 c1).toArray, .agg (dcs x).toArray] w (DeedRes g F B d w) := by
  by_cases h0 : x.kind = 0
  · exact deed0_any g F d a0 c0 a1 c1 x w hd B hB hr hi hq h0
  · by_cases h1 : x.kind = 1
    · exact deed1_any g F d a0 c0 a1 c1 x w hd B hB hr h1
    · by_cases h2 : x.kind = 2
      · exact deed2_any g F d a0 c0 a1 c1 x w hd B hB hr hi h2
      · by_cases h3 : x.kind = 3
        · exact deed3_any g F d a0 c0 a1 c1 x w hd B hB hr hl hn ho h3
        · exact deedX_any g F d a0 c0 a1 c1 x w hd B hB hr h0 h1 h2 h3
/-- item k of a disk's value -/
theorem ritem_at {w : World} {a1 : Option Addr} {q : List (Nat × Sec)} (h : Lie w a1 (icells q)) (hl : ∀ p ∈ q, p.2.length = 64) {k : Nat} {p : Nat × Sec} (hp : q[k]? = some p) : ∃ b off, a1 = some ⟨b, off, none⟩ ∧ b < w.heap.size ∧ w.rangeAt b (off + k * 65) (icell p) := item_at h hl hp
end Go.Proofs.Ytcboknigjpdmpaa
