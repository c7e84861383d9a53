/- Things that lie one behind the other. -/
import Derived.Test.YtdfbpaajkpnaeaaGreatPkB
namespace Go.Proofs.YtdfbpaajkpnaeaaGreat
set_option maxRecDepth 100000
open Go.RowKit Go.Lib

/-- the things l lie, each in a cell (as f tells), one behind the other, from a on -/
def RAt {α : Type} (f : α → Value) (w : World) (a : Option Addr) (l : List α) : Prop :=
  l = [] ∨ ∃ b off, a = some ⟨b, off, none⟩ ∧ b < w.heap.size ∧ ∀ i x, l[i]? = some x → w.cell? ⟨b, off + i, none⟩ = some (f x)
theorem RAt.below {α : Type} {f : α → Value} {w w' : World} {a : Option Addr} {l : List α} (h : RAt f w a l) (hb : RowKit.Below w.heap.size w w') : RAt f w' a l := by
  rcases h with h | ⟨b, off, ha, hlt, hc⟩
  · exact Or.inl h
  · refine Or.inr ⟨b, off, ha, Nat.lt_of_lt_of_le hlt hb.size, fun i x hi => ?_⟩
    rw [hb.cell (p := ⟨b, off + i, none⟩) hlt]
    exact hc i x hi
theorem RAt.at_ {α : Type} {f : α → Value} {w : World} {a : Option Addr} {l : List α} (h : RAt f w a l) {k : Nat} {x : α} (hx : l[k]? = some x) : ∃ b off, a = some ⟨b, off, none⟩ ∧ w.cell? ⟨b, off + k, none⟩ = some (f x) := by
  rcases h with h | ⟨b, off, ha, hlt, hc⟩
  · subst h; simp at hx
  · exact ⟨b, off, ha, hc k x hx⟩
theorem get_lt {α : Type} {l : List α} {k : Nat} (h : k < l.length) : ∃ x, l[k]? = some x ∧ l.take (k + 1) = l.take k ++ [x] ∧ x ∈ l :=
  ⟨l[k], List.getElem?_eq_getElem h, List.take_succ_eq_append_getElem h, List.getElem_mem h⟩
theorem str_ne {l k : List UInt8} (h : l ≠ k) : ((strB l).toList == (strB k).toList) = false := by
  rw [ByteArray.toList_eq, ByteArray.toList_eq]
  simpa [strB] using h
end Go.Proofs.YtdfbpaajkpnaeaaGreat
