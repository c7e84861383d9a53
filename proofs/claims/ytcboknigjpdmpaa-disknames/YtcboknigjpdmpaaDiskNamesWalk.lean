/- The walk of falseworklaw08.DiskNames. -/
import Derived.Test.YtcboknigjpdmpaaDkX
namespace Go.Proofs.Ytcboknigjpdmpaa
open Go.RowKit Go.Lib

set_option maxHeartbeats 2000000 in
theorem eqI4 (w : World) : (Op.equalIn 10000 26 (.agg #[.int .i64 0, .int .i64 0, .int .i64 2048, .int .i64 2048]) (.agg #[.int .i64 0, .int .i64 0, .int .i64 2048, .int .i64 2048])).run Try.prog w = .ok true w := by
  have u3 := Try.underlying3
  have a3 := Try.isAgg3
  have z3 := Try.sizeOf3
  rw [show (10000 : Nat) = 9999 + 1 from rfl, Op.equalIn]
  simp only [Sem.run_bind, run_underlying Try.underlying26, Result.andThen_ok]
  simp only [Std.Legacy.Range.forIn_eq_forIn_range', Std.Legacy.Range.size, Nat.sub_zero, Nat.add_sub_cancel, Nat.div_one, List.range'_succ, List.range'_zero, List.forIn_cons, List.forIn_nil]
  go_simp
def BlankThen (n : Int) (w : World) (e : Ending) (w' : World) : Prop := ∃ g F, e = .returned (.pointer (some ⟨g, 0, none⟩)) ∧ DAt w' F g (Dk.blank n) ∧ RowKit.Below w.heap.size w w' ∧ ∀ i, F i → w.heap.size ≤ i
set_option maxRecDepth 100000 in
set_option maxHeartbeats 1600000 in
theorem diskNames_walk (w : World) : Calls Try.prog 3 #[] w fun e w' => e = .returned (.bool true) ∧ RowKit.Below w.heap.size w w' := by
  have A := Lib.hid (alive_any w)
  have B := fun (n : Int) (W : World) => Lib.hid (show Calls _ _ _ _ (BlankThen n W) from blank_any n W)
  have heq := eqI4
  go_enter Try.func3, Try.ntmps3
  go_wp2_with fail
  refine A.out.mono ?_
  rintro _ w0 ⟨rfl, hb0⟩
  have HB0 := Lib.hid hb0
  clear hb0 A
  go_wp2_with fail
  refine (B (-7) w0).out.mono ?_
  rintro _ w1 ⟨g1, F1, rfl, hd, hb, _⟩
  have HB1 := Lib.hid (HB0.out.trans (hb.mono HB0.out.size))
  have HS := Lib.hid (size_at g1 F1 _ w1 hd)
  clear hd hb
  go_wp2_with fail
  refine HS.out.mono ?_
  rintro _ _ ⟨rfl, rfl⟩
  rw [blank_len, show ((blankN (-7) : Nat) : Int) = 0 by decide]
  clear HS
  go_wp2_with fail
  refine (B 0 w1).out.mono ?_
  rintro _ w2 ⟨g2, F2, rfl, hd, hb, _⟩
  have HB2 := Lib.hid (HB1.out.trans (hb.mono HB1.out.size))
  have HS := Lib.hid (size_at g2 F2 _ w2 hd)
  clear hd hb
  go_wp2_with fail
  refine HS.out.mono ?_
  rintro _ _ ⟨rfl, rfl⟩
  rw [blank_len, show ((blankN 0 : Nat) : Int) = 0 by decide]
  clear HS
  go_wp2_with fail
  refine (B 2048 w2).out.mono ?_
  rintro _ w3 ⟨g3, F3, rfl, hd, hb, _⟩
  have HB3 := Lib.hid (HB2.out.trans (hb.mono HB2.out.size))
  have HS := Lib.hid (size_at g3 F3 _ w3 hd)
  clear hd hb
  go_wp2_with fail
  refine HS.out.mono ?_
  rintro _ _ ⟨rfl, rfl⟩
  rw [blank_len, show ((blankN 2048 : Nat) : Int) = 2048 by decide]
  clear HS
  go_wp2_with fail
  refine (B 2049 w3).out.mono ?_
  rintro _ w4 ⟨g4, F4, rfl, hd, hb, _⟩
  have HB4 := Lib.hid (HB3.out.trans (hb.mono HB3.out.size))
  have HS := Lib.hid (size_at g4 F4 _ w4 hd)
  clear hd hb
  go_wp2_with fail
  refine HS.out.mono ?_
  rintro _ _ ⟨rfl, rfl⟩
  rw [blank_len, show ((blankN 2049 : Nat) : Int) = 2048 by decide]
  clear HS
  go_wp2_with fail
  refine (B 3 _).out.mono ?_
  rintro _ w5 ⟨g5, F5, rfl, hd, hb, _⟩
  have HB5 := Lib.hid ((HB4.out.alloc HB4.out.size (.cells #[.int .i64 0, .int .i64 0, .int .i64 2048, .int .i64 2048] 26)).trans (hb.mono (by have := HB4.out.size; simp; omega)))
  have HG := Lib.hid (get_any g5 F5 _ 3 w5 hd (by unfold I; omega))
  have HC1 := Lib.hid (show w5.heap[w4.heap.size]? = some (.cells #[.int .i64 0, .int .i64 0, .int .i64 2048, .int .i64 2048] 26) from (hb.block _ (by simp)).trans (heap_alloc_new w4 _))
  clear hd hb
  go_wp2_with fail
  refine HG.out.mono ?_
  rintro _ w6 ⟨rfl, hb6⟩
  rw [show (Dk.blank 3).has 3 = false by decide, if_neg (by decide)]
  have HB6 := Lib.hid (HB5.out.trans (hb6.mono HB5.out.size))
  have HCC := Lib.hid (cs_sec (at_len (Dk.Ok.blank 3) 3))
  obtain ⟨c, hc⟩ : ∃ c, c = bcells ((Dk.blank 3).at_ 3) := ⟨_, rfl⟩
  rw [← hc] at HCC ⊢
  have HA := Lib.hid (heap_alloc_new w6 (.cells zc.toArray 28))
  have HSR := Lib.hid (show (w6.alloc (.cells zc.toArray 28)).setRow w6.heap.size c.toArray = w6.alloc (.cells c.toArray 28) from setRow_new rfl)
  have HB7 := Lib.hid (HB6.out.alloc HB6.out.size (.cells c.toArray 28))
  have hx : (w6.alloc (.cells c.toArray 28)).heap[w4.heap.size]? = some (.cells #[.int .i64 0, .int .i64 0, .int .i64 2048, .int .i64 2048] 26) := blk_in ((hb6.block _ (lt_of_heap HC1.out)).trans HC1.out)
  have e0 : (w6.alloc (.cells c.toArray 28)).cell? ⟨w4.heap.size, 0, none⟩ = some (.int .i64 0) := by rw [cell_of_row _ _ _ _ _ _ hx]; rfl
  have e1 : (w6.alloc (.cells c.toArray 28)).cell? ⟨w4.heap.size, 1, none⟩ = some (.int .i64 0) := by rw [cell_of_row _ _ _ _ _ _ hx]; rfl
  have e2 : (w6.alloc (.cells c.toArray 28)).cell? ⟨w4.heap.size, 2, none⟩ = some (.int .i64 2048) := by rw [cell_of_row _ _ _ _ _ _ hx]; rfl
  have e3 : (w6.alloc (.cells c.toArray 28)).cell? ⟨w4.heap.size, 3, none⟩ = some (.int .i64 2048) := by rw [cell_of_row _ _ _ _ _ _ hx]; rfl
  clear hb6 hc hx HG B
  go_wp2_with (first | (with_reducible refine wpList_allocA rfl isS rfl ?_) | ((with_reducible refine wpList_storeW rfl isS _ _ rfl w6.heap.size c zc.toArray _ rfl rfl HA.out HCC.out (by simp [zc_len]) ?_); rw [HSR.out]))
  go_ret
  exact ⟨rfl, HB7.out⟩
end Go.Proofs.Ytcboknigjpdmpaa
