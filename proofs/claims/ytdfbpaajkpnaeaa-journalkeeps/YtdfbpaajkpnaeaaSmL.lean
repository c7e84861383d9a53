
/- falseworklaw09: stampAlive. -/
import Derived.Test.YtdfbpaajkpnaeaaSmN
namespace Go.Proofs.Ytdfbpaajkpnaeaa
set_option maxRecDepth 100000
open Go.RowKit Go.Lib

/-- as many zeros -/
def zeroB (n : Nat) : Obj := .cells (madeCells #[.int .u8 0] n) 5
theorem zeroB_get (n j : Nat) (h : j < n) : (madeCells #[Value.int .u8 0] n)[j]? = some (.int .u8 0) := by
  unfold madeCells
  simp [h, Nat.mod_one]
theorem zeroB_at (n : Nat) (w : World) : BAt (w.alloc (zeroB n)) (some ⟨w.heap.size, 0, none⟩) (List.replicate n 0) := by
  have hb : (w.alloc (zeroB n)).heap[w.heap.size]? = some (.cells (madeCells #[.int .u8 0] n) 5) := heap_alloc_new w _
  refine Or.inr ⟨w.heap.size, 0, rfl, by simp, fun i hi => ?_⟩
  rw [List.length_replicate] at hi
  rw [Nat.zero_add, cell_of_row _ w.heap.size i _ 5 (0, 0) hb, zeroB_get n i hi]
  simp [List.getD, hi]
theorem mk_bytes (n : Nat) (hn : n ≤ 1000000) (w : World) : (Instr.makeSlice 29 (.int .i64 (n : Int)) (.int .i64 (n : Int))).run Try.prog w = .ok (.slice (some ⟨w.heap.size, 0, none⟩) n n) (w.alloc (zeroB n)) := by
  obtain ⟨i, hi, hz, h1, h8⟩ := info8
  have h := Go.run_make (P := Try.prog) w 29 5 i (.int .u8 0) Try.underlying29 hi hz .i64 .i64 n n (by omega) (Int.le_refl _) (by rw [h8]; omega) (by omega)
  rw [h1, Nat.mul_one, Int.toNat_natCast] at h
  exact h
def z54 : List UInt8 := List.replicate 54 0
theorem z54_len : z54.length = 54 := List.length_replicate
theorem span54 : spanN z54.length = 2 := by rw [z54_len]; rfl
def dA : Dk := { Dk.blank 4 with queue := (Dk.blank 4).queue ++ qsOf 1 (secs 7 z54) }
theorem dA_base : dA.base.length = 4 := rfl
theorem wA : (Dk.blank 4).write 1 7 z54 = (dA, 0) := write_up (Up.blank 4) (by omega) (by rw [z54_len]; omega) (by omega) (by rw [span54]; decide)
theorem rA : dA.read 1 4 = ⟨z54, 7, 2, 0⟩ := by
  have h := written_read (d := Dk.blank 4) (x := 1) (z := 4) (n := 7) (l := z54) (by rw [z54_len]; omega) (by omega) (by omega) (by omega) (by rw [span54]; omega) (by decide)
  rw [span54] at h
  exact h
end Go.Proofs.Ytdfbpaajkpnaeaa
