/- digits and Text, of the program. -/
import Derived.Test.YtfifollmpohcoaaDoorCivB
import Derived.Laws.MakeOwn
import Derived.Laws.IdiomStrings
namespace Go.Proofs.YtfifollmpohcoaaDoor
open Go.RowKit Go.Sort

/-- the sign of a number's last digit -/
def dgB (n : Int) : UInt8 := UInt8.ofNat (48 + (n % 10)).toNat
theorem dgB_nat (n : Int) : ((dgB n).toNat : Int) = 48 + n % 10 := by
  unfold dgB
  have : (48 + (n % 10)).toNat < 256 := by omega
  rw [UInt8.toNat_ofNat']
  simp only [Nat.reducePow]
  omega
theorem info8 : ∃ i, Tryd.prog.info? 5 = some i ∧ i.zero = some (.int .u8 0) ∧ i.size = 1 ∧ i.bytes = 1 := by
  have h : (Tryd.prog.info? 5).map (fun i => (i.zero, i.size, i.bytes)) = some (some (.int .u8 0), 1, 1) := by kernel_rfl
  cases hi : Tryd.prog.info? 5 with
  | none => rw [hi] at h; simp at h
  | some i =>
    rw [hi] at h
    simp only [Option.map_some, Option.some.injEq, Prod.mk.injEq] at h
    exact ⟨i, rfl, h.1, h.2.1, h.2.2⟩
theorem mk4 (w : World) : (Instr.makeSlice 51 (.int .i64 4) (.int .i64 4)).run Tryd.prog w = .ok (.slice (some ⟨w.heap.size, 0, none⟩) 4 4) (w.alloc (.cells #[.int .u8 0, .int .u8 0, .int .u8 0, .int .u8 0] 5)) := by
  obtain ⟨i, hi, hz, h1, h8⟩ := info8
  have h := run_make (P := Tryd.prog) w 51 5 i (.int .u8 0) Tryd.underlying51 hi hz .i64 .i64 4 4 (by omega) (Int.le_refl _) (by rw [h8]; omega) (by omega)
  rw [h1] at h
  rw [h]
  exact congrArg (fun c => Result.ok _ (w.alloc (Obj.cells c 5))) (by kernel_rfl)
theorem mk2 (w : World) : (Instr.makeSlice 51 (.int .i64 2) (.int .i64 2)).run Tryd.prog w = .ok (.slice (some ⟨w.heap.size, 0, none⟩) 2 2) (w.alloc (.cells #[.int .u8 0, .int .u8 0] 5)) := by
  obtain ⟨i, hi, hz, h1, h8⟩ := info8
  have h := run_make (P := Tryd.prog) w 51 5 i (.int .u8 0) Tryd.underlying51 hi hz .i64 .i64 2 2 (by omega) (Int.le_refl _) (by rw [h8]; omega) (by omega)
  rw [h1] at h
  rw [h]
  exact congrArg (fun c => Result.ok _ (w.alloc (Obj.cells c 5))) (by kernel_rfl)

set_option maxHeartbeats 400000 in
theorem digits2_any (n : Int) (w : World) (h0 : 0 ≤ n) (h1 : n ≤ 99) : Calls Tryd.prog 30 #[.int .i64 n, .int .i64 2] w fun e w' => e = .returned (.string ⟨#[dgB (n / 10), dgB n]⟩) ∧ Gr w w' := by
  have hmk := mk2
  have p0 : n.tdiv 10 = n / 10 := Int.tdiv_eq_ediv_of_nonneg (by omega)
  have q0 : n.tmod 10 = n % 10 := Int.tmod_eq_emod_of_nonneg (by omega)
  have b0 : 0 ≤ n % 10 ∧ n % 10 < 10 := by omega
  have c0 : 0 ≤ n ∧ n < 100 := by omega
  have p1 : (n / 10).tdiv 10 = (n / 10) / 10 := Int.tdiv_eq_ediv_of_nonneg (by omega)
  have q1 : (n / 10).tmod 10 = (n / 10) % 10 := Int.tmod_eq_emod_of_nonneg (by omega)
  have b1 : 0 ≤ (n / 10) % 10 ∧ (n / 10) % 10 < 10 := by omega
  have c1 : 0 ≤ (n / 10) ∧ (n / 10) < 100 := by omega
  have hcv : (convert 51 9 (.slice (some ⟨w.heap.size, 0, none⟩) 2 2)).run Tryd.prog (w.alloc (.cells #[.int .u8 (48 + (n / 10) % 10), .int .u8 (48 + n % 10)] 5)) = .ok (.string ⟨#[dgB (n / 10), dgB n]⟩) (w.alloc (.cells #[.int .u8 (48 + (n / 10) % 10), .int .u8 (48 + n % 10)] 5)) := by
    have h := run_convert_bytes_back (P := Tryd.prog) (w.alloc (.cells #[.int .u8 (48 + (n / 10) % 10), .int .u8 (48 + n % 10)] 5)) 51 9 5 ⟨w.heap.size, 0, none⟩ 2 [dgB (n / 10), dgB n] Tryd.underlying51 Tryd.underlying5 Tryd.underlying9 (by
      intro j hj
      have hj' : j = 0 ∨ j = 1 := by simp at hj; omega
      rcases hj' with rfl | rfl <;> simp [go_sem, dgB_nat])
    exact h
  go_enter Tryd.func30, Tryd.ntmps30
  go_wp2
  clear hmk
  refine wp_loop_rounds 3 ?_
  rw [rounds_succ]
  go_wp2
  rw [rounds_succ]
  go_wp2
  rw [rounds_succ]
  go_wp2
  go_ret
  exact ⟨rfl, (Gr.refl _).alloc _⟩

set_option maxHeartbeats 400000 in
theorem digits4_any (n : Int) (w : World) (h0 : 0 ≤ n) (h1 : n ≤ 9999) : Calls Tryd.prog 30 #[.int .i64 n, .int .i64 4] w fun e w' => e = .returned (.string ⟨#[dgB (n / 10 / 10 / 10), dgB (n / 10 / 10), dgB (n / 10), dgB n]⟩) ∧ Gr w w' := by
  have hmk := mk4
  have p0 : n.tdiv 10 = n / 10 := Int.tdiv_eq_ediv_of_nonneg (by omega)
  have q0 : n.tmod 10 = n % 10 := Int.tmod_eq_emod_of_nonneg (by omega)
  have b0 : 0 ≤ n % 10 ∧ n % 10 < 10 := by omega
  have c0 : 0 ≤ n ∧ n < 10000 := by omega
  have p1 : (n / 10).tdiv 10 = (n / 10) / 10 := Int.tdiv_eq_ediv_of_nonneg (by omega)
  have q1 : (n / 10).tmod 10 = (n / 10) % 10 := Int.tmod_eq_emod_of_nonneg (by omega)
  have b1 : 0 ≤ (n / 10) % 10 ∧ (n / 10) % 10 < 10 := by omega
  have c1 : 0 ≤ (n / 10) ∧ (n / 10) < 10000 := by omega
  have p2 : (n / 10 / 10).tdiv 10 = (n / 10 / 10) / 10 := Int.tdiv_eq_ediv_of_nonneg (by omega)
  have q2 : (n / 10 / 10).tmod 10 = (n / 10 / 10) % 10 := Int.tmod_eq_emod_of_nonneg (by omega)
  have b2 : 0 ≤ (n / 10 / 10) % 10 ∧ (n / 10 / 10) % 10 < 10 := by omega
  have c2 : 0 ≤ (n / 10 / 10) ∧ (n / 10 / 10) < 10000 := by omega
  have p3 : (n / 10 / 10 / 10).tdiv 10 = (n / 10 / 10 / 10) / 10 := Int.tdiv_eq_ediv_of_nonneg (by omega)
  have q3 : (n / 10 / 10 / 10).tmod 10 = (n / 10 / 10 / 10) % 10 := Int.tmod_eq_emod_of_nonneg (by omega)
  have b3 : 0 ≤ (n / 10 / 10 / 10) % 10 ∧ (n / 10 / 10 / 10) % 10 < 10 := by omega
  have c3 : 0 ≤ (n / 10 / 10 / 10) ∧ (n / 10 / 10 / 10) < 10000 := by omega
  have hcv : (convert 51 9 (.slice (some ⟨w.heap.size, 0, none⟩) 4 4)).run Tryd.prog (w.alloc (.cells #[.int .u8 (48 + (n / 10 / 10 / 10) % 10), .int .u8 (48 + (n / 10 / 10) % 10), .int .u8 (48 + (n / 10) % 10), .int .u8 (48 + n % 10)] 5)) = .ok (.string ⟨#[dgB (n / 10 / 10 / 10), dgB (n / 10 / 10), dgB (n / 10), dgB n]⟩) (w.alloc (.cells #[.int .u8 (48 + (n / 10 / 10 / 10) % 10), .int .u8 (48 + (n / 10 / 10) % 10), .int .u8 (48 + (n / 10) % 10), .int .u8 (48 + n % 10)] 5)) := by
    have h := run_convert_bytes_back (P := Tryd.prog) (w.alloc (.cells #[.int .u8 (48 + (n / 10 / 10 / 10) % 10), .int .u8 (48 + (n / 10 / 10) % 10), .int .u8 (48 + (n / 10) % 10), .int .u8 (48 + n % 10)] 5)) 51 9 5 ⟨w.heap.size, 0, none⟩ 4 [dgB (n / 10 / 10 / 10), dgB (n / 10 / 10), dgB (n / 10), dgB n] Tryd.underlying51 Tryd.underlying5 Tryd.underlying9 (by
      intro j hj
      have hj' : j = 0 ∨ j = 1 ∨ j = 2 ∨ j = 3 := by simp at hj; omega
      rcases hj' with rfl | rfl | rfl | rfl <;> simp [go_sem, dgB_nat])
    exact h
  go_enter Tryd.func30, Tryd.ntmps30
  go_wp2
  clear hmk
  refine wp_loop_rounds 5 ?_
  rw [rounds_succ]
  go_wp2
  rw [rounds_succ]
  go_wp2
  rw [rounds_succ]
  go_wp2
  rw [rounds_succ]
  go_wp2
  rw [rounds_succ]
  go_wp2
  go_ret
  exact ⟨rfl, (Gr.refl _).alloc _⟩

def textB (y m d : Int) : ByteArray := ⟨#[dgB (y / 10 / 10 / 10), dgB (y / 10 / 10), dgB (y / 10), dgB y, 45, dgB (m / 10), dgB m, 45, dgB (d / 10), dgB d]⟩

set_option maxHeartbeats 400000 in
theorem text_no (y m d : Int) (w : World) (hy : I y) (hL : Lens w) (hR : ¬ rightP y m d) : Calls Tryd.prog 20 #[.agg #[.int .i64 y, .int .i64 m, .int .i64 d]] w fun e w' => e = .returned (.string ⟨#[]⟩) ∧ Gr w w' := by
  have C : ∀ W, Lens W → Hid (Calls Tryd.prog 14 #[.agg #[.int .i64 y, .int .i64 m, .int .i64 d]] W fun e w' => e = .returned (.bool false) ∧ Gr W w') := fun W h => right_no W hy h hR
  have HL := Lib.hid hL
  clear hL hy hR
  have hG := Lib.hid ((Gr.refl w).alloc (Obj.cells #[Value.int IntKind.i64 y, Value.int IntKind.i64 m, Value.int IntKind.i64 d] 23))
  go_enter Tryd.func20, Tryd.ntmps20
  go_wp2_with fail
  refine (C _ (HL.out.gr hG.out)).out.mono ?_
  rintro e w1 ⟨rfl, hg⟩
  have HG := Lib.hid (hG.out.trans hg)
  clear hg
  go_wp2
  go_ret
  exact ⟨rfl, HG.out⟩

set_option maxHeartbeats 400000 in
theorem text_yes (y m d : Int) (w : World) (hL : Lens w) (hR : rightP y m d) : Calls Tryd.prog 20 #[.agg #[.int .i64 y, .int .i64 m, .int .i64 d]] w fun e w' => e = .returned (.string (textB y m d)) ∧ Gr w w' := by
  have hR' := hR
  obtain ⟨a1, a2, a3, a4, a5, a6⟩ := hR
  have a7 := lenF_hi y m
  have hy : I y := ⟨by omega, by omega⟩
  have C : ∀ W, Lens W → Hid (Calls Tryd.prog 14 #[.agg #[.int .i64 y, .int .i64 m, .int .i64 d]] W fun e w' => e = .returned (.bool true) ∧ Gr W w') := fun W h => right_yes W hy h hR'
  have D1 : ∀ W, Hid (Calls Tryd.prog 30 #[.int .i64 y, .int .i64 4] W fun e w' => e = .returned (.string ⟨#[dgB (y / 10 / 10 / 10), dgB (y / 10 / 10), dgB (y / 10), dgB y]⟩) ∧ Gr W w') := fun W => digits4_any y W (by omega) (by omega)
  have D2 : ∀ W, Hid (Calls Tryd.prog 30 #[.int .i64 m, .int .i64 2] W fun e w' => e = .returned (.string ⟨#[dgB (m / 10), dgB m]⟩) ∧ Gr W w') := fun W => digits2_any m W (by omega) (by omega)
  have D3 : ∀ W, Hid (Calls Tryd.prog 30 #[.int .i64 d, .int .i64 2] W fun e w' => e = .returned (.string ⟨#[dgB (d / 10), dgB d]⟩) ∧ Gr W w') := fun W => digits2_any d W (by omega) (by omega)
  have HL := Lib.hid hL
  clear hL hy hR' a1 a2 a3 a4 a5 a6 a7
  obtain ⟨c0, c1, c2⟩ := boxed w y m d 23
  have hG := Lib.hid ((Gr.refl w).alloc (Obj.cells #[Value.int IntKind.i64 y, Value.int IntKind.i64 m, Value.int IntKind.i64 d] 23))
  have hS := Lib.hid (show w.heap.size < (w.alloc (Obj.cells #[Value.int IntKind.i64 y, Value.int IntKind.i64 m, Value.int IntKind.i64 d] 23)).heap.size by simp)
  have HT := Lib.hid (show textB y m d = ⟨#[dgB (y / 10 / 10 / 10), dgB (y / 10 / 10), dgB (y / 10), dgB y, 45, dgB (m / 10), dgB m, 45, dgB (d / 10), dgB d]⟩ from rfl)
  generalize dgB (y / 10 / 10 / 10) = x1 at *
  generalize dgB (y / 10 / 10) = x2 at *
  generalize dgB (y / 10) = x3 at *
  generalize dgB y = x4 at *
  generalize dgB (m / 10) = x5 at *
  generalize dgB m = x6 at *
  generalize dgB (d / 10) = x7 at *
  generalize dgB d = x8 at *
  go_enter Tryd.func20, Tryd.ntmps20
  go_wp2_with fail
  refine (C _ (HL.out.gr hG.out)).out.mono ?_
  rintro e w1 ⟨rfl, hg⟩
  have HG := Lib.hid (hG.out.trans hg)
  have e0 := gcell hg hS.out c0
  have e1 := gcell hg hS.out c1
  have e2 := gcell hg hS.out c2
  have HS1 := Lib.hid (Nat.lt_of_lt_of_le hS.out hg.size)
  clear hg c0 c1 c2 C hG hS
  have mixed := mixedT
  have f0 := fun n os => cell_grown (a := ⟨w.heap.size, 0, none⟩) HS1.out e0 n os
  have f1 := fun n os => cell_grown (a := ⟨w.heap.size, 1, none⟩) HS1.out e1 n os
  have f2 := fun n os => cell_grown (a := ⟨w.heap.size, 2, none⟩) HS1.out e2 n os
  clear e0 e1 e2
  go_wp2_with fail
  have k1 : (⟨#[x1, x2, x3, x4]⟩ : ByteArray) ++ (⟨#[45]⟩ : ByteArray) = ⟨#[x1, x2, x3, x4, 45]⟩ := rfl
  have k2 : (⟨#[x1, x2, x3, x4, 45]⟩ : ByteArray) ++ (⟨#[x5, x6]⟩ : ByteArray) = ⟨#[x1, x2, x3, x4, 45, x5, x6]⟩ := rfl
  have k3 : (⟨#[x1, x2, x3, x4, 45, x5, x6]⟩ : ByteArray) ++ (⟨#[45]⟩ : ByteArray) = ⟨#[x1, x2, x3, x4, 45, x5, x6, 45]⟩ := rfl
  have k4 : (⟨#[x1, x2, x3, x4, 45, x5, x6, 45]⟩ : ByteArray) ++ (⟨#[x7, x8]⟩ : ByteArray) = ⟨#[x1, x2, x3, x4, 45, x5, x6, 45, x7, x8]⟩ := rfl
  go_quiet_grown (first
    | (go_at_call 30; with_reducible exact Calls.gr_of (D1 _).out)
    | (go_at_call 30; with_reducible exact Calls.gr_of (D2 _).out)
    | (go_at_call 30; with_reducible exact Calls.gr_of (D3 _).out))
  go_wp2
  go_ret
  exact ⟨by rw [HT.out]; rfl, HG.out.grow _ _⟩
end Go.Proofs.YtfifollmpohcoaaDoor
