/- falseworklaw09: stampAlive. -/
import Derived.Test.YtoibonalgmmkbaaSmN
namespace Go.Proofs.Ytoibonalgmmkbaa
open Go.RowKit Go.Lib

/-- as many zeros -/
def zeroB (n : Nat) : Obj := .cells (madeCells #[.int .u8 0] n) 5
theorem zeroB_get (n j : Nat) (h : j < n) : (madeCells #[Value.int .u8 0] n)[j]? = some (.int .u8 0) := by
  unfold madeCells
  simp [h, Nat.mod_one]
theorem zeroB_at (n : Nat) (w : World) : BAt (w.alloc (zeroB n)) (some ⟨w.heap.size, 0, none⟩) (List.replicate n 0) := by
  have hb : (w.alloc (zeroB n)).heap[w.heap.size]? = some (.cells (madeCells #[.int .u8 0] n) 5) := heap_alloc_new w _
  refine Or.inr ⟨w.heap.size, 0, rfl, by simp, fun i hi => ?_⟩
  rw [List.length_replicate] at hi
  rw [Nat.zero_add, cell_of_row _ w.heap.size i _ 5 (0, 0) hb, zeroB_get n i hi]
  simp [List.getD, hi]
theorem mk_bytes (n : Nat) (hn : n ≤ 1000000) (w : World) : (Instr.makeSlice 24 (.int .i64 (n : Int)) (.int .i64 (n : Int))).run Try.prog w = .ok (.slice (some ⟨w.heap.size, 0, none⟩) n n) (w.alloc (zeroB n)) := by
  obtain ⟨i, hi, hz, h1, h8⟩ := info8
  have h := Go.run_make (P := Try.prog) w 24 5 i (.int .u8 0) Try.underlying24 hi hz .i64 .i64 n n (by omega) (Int.le_refl _) (by rw [h8]; omega) (by omega)
  rw [h1, Nat.mul_one, Int.toNat_natCast] at h
  exact h
def z54 : List UInt8 := List.replicate 54 0
theorem z54_len : z54.length = 54 := List.length_replicate
theorem span54 : spanN z54.length = 2 := by rw [z54_len]; rfl
def dA : Dk := { Dk.blank 4 with queue := (Dk.blank 4).queue ++ qsOf 1 (secs 7 z54) }
theorem dA_base : dA.base.length = 4 := rfl
theorem wA : (Dk.blank 4).write 1 7 z54 = (dA, 0) := write_up (Up.blank 4) (by omega) (by rw [z54_len]; omega) (by omega) (by rw [span54]; decide)
theorem rA : dA.read 1 4 = ⟨z54, 7, 2, 0⟩ := by
  have h := written_read (d := Dk.blank 4) (x := 1) (z := 4) (n := 7) (l := z54) (by rw [z54_len]; omega) (by omega) (by omega) (by omega) (by rw [span54]; omega) (by decide)
  rw [span54] at h
  exact h
set_option maxRecDepth 100000 in
set_option maxHeartbeats 1600000 in
theorem salive_any (w : World) : Calls Try.prog 10 #[] w fun e w' => e = .returned (.bool true) ∧ RowKit.Below w.heap.size w w' := by
  have B := Lib.hid (blank_any 4 w)
  have HSP := Lib.hid (show ∀ W, Calls Try.prog 11 #[.int .i64 54] W fun e W' => e = .returned (.int .i64 2) ∧ W = W' from fun W => span_any 54 W)
  have hmk : ∀ W : World, (Instr.makeSlice 24 (.int .i64 54) (.int .i64 54)).run Try.prog W = .ok (.slice (some ⟨W.heap.size, 0, none⟩) 54 54) (W.alloc (zeroB 54)) := fun W => mk_bytes 54 (by omega) W
  go_enter Try.func10, Try.ntmps10
  go_wp2_with fail
  refine B.out.mono ?_
  rintro _ w1 ⟨g, F, rfl, hd, hb1, hf⟩
  have HD := Lib.hid hd
  have HB1 := Lib.hid hb1
  have HF := Lib.hid hf
  clear hd hb1 hf B
  go_wp2_with fail
  refine (HSP.out _).mono ?_
  rintro _ _ ⟨rfl, rfl⟩
  obtain ⟨w2, hw2⟩ : ∃ w2, w2 = w1.alloc (zeroB 54) := ⟨_, rfl⟩
  have hb2 : RowKit.Below w1.heap.size w1 w2 := by rw [hw2]; exact (RowKit.Below.refl _ _).alloc (Nat.le_refl _) _
  have HW := Lib.hid (write_any g F (Dk.blank 4) 1 7 z54 (some ⟨w1.heap.size, 0, none⟩) 54 54 w2 (HD.out.below hb2) (by unfold I; omega) (by omega) (by rw [hw2]; exact zeroB_at 54 w1) z54_len (Nat.le_refl _) (by decide))
  have HB2 := Lib.hid (HB1.out.trans (hb2.mono HB1.out.size))
  have HW2 := Lib.hid hw2
  unfold WriteRes at HW
  rw [wA] at HW
  clear hb2 hw2
  go_wp2_with fail
  rw [← HW2.out]
  refine HW.out.mono ?_
  rintro _ w3 ⟨rfl, hdid⟩
  obtain ⟨F', hd3, ho3, hf3⟩ := hdid
  have HB3 := Lib.hid (ho3.below HB2.out (fun i hi => HF.out i hi) HB2.out.size)
  have HR := Lib.hid (read_any g F' dA 1 4 w3 hd3 (by unfold I; omega))
  unfold RdRes at HR
  rw [rA] at HR
  clear hd3 ho3 hf3 HW
  go_wp2_with fail
  refine HR.out.mono ?_
  rintro _ w4 ⟨a4, c4, rfl, _, _, _, hb4⟩
  have HB4 := Lib.hid (HB3.out.trans (hb4.mono HB3.out.size))
  clear hb4 HR
  go_wp2
  go_ret
  exact ⟨rfl, HB4.out⟩
end Go.Proofs.Ytoibonalgmmkbaa
