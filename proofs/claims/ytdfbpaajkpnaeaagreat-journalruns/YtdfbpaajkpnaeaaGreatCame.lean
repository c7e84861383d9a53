/- What the arguments are: bytes, numbers. -/
import Derived.Test.YtdfbpaajkpnaeaaGreatRat
import Derived.Test.YtdfbpaajkpnaeaaGreatRows
import Derived.WalkKit
import Derived.ProofKit
import Derived.OpenShut
import Derived.ShutString
import Derived.ChangeOld
import Derived.Below
namespace Go.Proofs.YtdfbpaajkpnaeaaGreat
set_option maxRecDepth 100000
open Go.ChangeShapes Go.WideShapes Go.ChangeAt Go.RowKit

theorem own : ownKnob Tryz.prog.godebug = none := by kernel_rfl
theorem laidOut : laidOutB Tryz.prog = true := by kernel_rfl
/-- things that came in: the first 'len' of a row -/
structure Came {α : Type} (f : α → Value) (w : World) (a : Option Addr) (len cap : Nat) (l : List α) : Prop where
  row : RAt f w a l
  ln : l.length = len
  cp : len ≤ cap
  max : cap ≤ maxLen
  nil : a = none → cap = 0
theorem Came.none {α : Type} {f : α → Value} {w : World} {a : Option Addr} {len cap : Nat} {l : List α} (h : Came f w a len cap l) : a = .none → l = [] := fun e => List.eq_nil_of_length_eq_zero (by have := h.nil e; have := h.ln; have := h.cp; omega)
theorem row_cells {α : Type} {f : α → Value} {w : World} {x : Addr} {zs : List α} {len cap : Nat} (hl : len ≤ cap) (hz : zs.length = cap) (hc : ∀ i z, zs[i]? = some z → w.cell? (x.add i) = some (f z)) : RAt f w (some x) (zs.take len) := by
  by_cases h0 : len = 0
  · left; rw [h0]; simp
  · obtain ⟨b, off, spot⟩ := x
    have h1 := hc 0 zs[0] (List.getElem?_eq_getElem (by omega))
    have hspot : spot = none := by simpa [Addr.add] using World.cell?_spot h1
    subst hspot
    have hb : b < w.heap.size := by
      have := World.block_lt_of_cell? w _ h1
      simpa [Addr.add] using this
    refine Or.inr ⟨b, off, rfl, hb, fun i z hi => ?_⟩
    have hi' : i < len := by
      rcases Nat.lt_or_ge i len with h | h
      · exact h
      · rw [List.getElem?_eq_none (by rw [List.length_take]; omega)] at hi; cases hi
    rw [List.getElem?_take_of_lt hi'] at hi
    rw [← hc i z hi]
    by_cases hi0 : i = 0
    · subst hi0; simp [Addr.add]
    · simp [Addr.add, hi0]
section
variable {H : Type} {enc : TypeId × Value → H} {W : World} {base : Nat} {held : Bool}
theorem ints_came {k : IntKind} {t e : TypeId} (ht : Tryz.prog.underlying t = some (.slice e)) (he : Tryz.prog.underlying e = some (.int k)) (hc : Tryz.prog.cellsOf e = 1) {a : Option Addr} {len cap : Nat} {x : DataW H} {p : List MemPlace}
    (h : DataW.Trod enc Tryz.prog W base (fun _ => true) held t (.slice a len cap) x p) : ∃ l : List Int, Came (Value.int k) W a len cap l ∧ ∀ n ∈ l, (Lit.int k n).wf = true := by
  obtain ⟨fuel, hf⟩ := h
  rcases open_ints ht he hc hf with ⟨hcs, _⟩ | ⟨x, l, c, zs, hcs, _, hl, hm, hz, _, hcell, hwz⟩
  · simp [Value.cells] at hcs
    obtain ⟨rfl, rfl, rfl⟩ := hcs
    exact ⟨[], ⟨Or.inl rfl, rfl, Nat.le_refl _, by decide, fun _ => rfl⟩, by simp⟩
  · simp [Value.cells] at hcs
    obtain ⟨rfl, rfl, rfl⟩ := hcs
    have hz' : zs.length = cap := by simpa using hz
    refine ⟨zs.take len, ⟨row_cells hl hz' fun i z hi => ?_, by simp; omega, hl, hm, fun e => by cases e⟩, fun n hn => hwz n (List.mem_of_mem_take hn)⟩
    have hlt : i < zs.length := by
      rcases Nat.lt_or_ge i zs.length with h | h
      · exact h
      · rw [List.getElem?_eq_none h] at hi; cases hi
    rw [hcell i hlt]
    simp [List.getD, hi]
/-- bytes that came in -/
structure CameB (w : World) (a : Option Addr) (len cap : Nat) (l : List UInt8) : Prop where
  row : BAt w a l
  ln : l.length = len
  cp : len ≤ cap
  max : cap ≤ maxLen
  nil : a = none → cap = 0
theorem CameB.none {w : World} {a : Option Addr} {len cap : Nat} {l : List UInt8} (h : CameB w a len cap l) : a = .none → l = [] := fun e => List.eq_nil_of_length_eq_zero (by have := h.nil e; have := h.ln; have := h.cp; omega)
theorem byte_wf {n : Int} (h : (Lit.int .u8 n).wf = true) : 0 ≤ n ∧ n < 256 := by
  simp [Lit.wf] at h
  have h1 : IntKind.u8.min = 0 := by decide
  have h2 : IntKind.u8.max = 255 := by decide
  omega
theorem bytes_came {a : Option Addr} {len cap : Nat} {x : DataW H} {p : List MemPlace}
    (h : DataW.Trod enc Tryz.prog W base (fun _ => true) held 23 (.slice a len cap) x p) : ∃ l : List UInt8, CameB W a len cap l := by
  obtain ⟨zs, hc, hw⟩ := ints_came Tryz.underlying23 Tryz.underlying5 (by kernel_rfl) h
  refine ⟨zs.map fun n => n.toNat.toUInt8, ?_, by rw [List.length_map]; exact hc.ln, hc.cp, hc.max, hc.nil⟩
  rcases hc.row with e | ⟨b, off, ha, hlt, hcell⟩
  · left; rw [e]; rfl
  · refine Or.inr ⟨b, off, ha, hlt, fun i hi => ?_⟩
    rw [List.length_map] at hi
    rw [hcell i zs[i] (List.getElem?_eq_getElem hi)]
    have hb := byte_wf (hw zs[i] (List.getElem_mem hi))
    have e : ((zs[i].toNat.toUInt8).toNat : Int) = zs[i] := by
      have : (zs[i].toNat.toUInt8).toNat = zs[i].toNat % 256 := by simp [Nat.toUInt8]
      rw [this]; omega
    rw [show (zs.map fun n => n.toNat.toUInt8).getD i 0 = zs[i].toNat.toUInt8 by simp [List.getD, hi], e]
end
end Go.Proofs.YtdfbpaajkpnaeaaGreat
