/- Parse, of the program, where no date has the text. -/
import Derived.Test.YtfifollmpohcoaaDoorCivH
namespace Go.Proofs.YtfifollmpohcoaaDoor
open Go.RowKit Go.Sort

set_option maxHeartbeats 2000000 in
theorem parse_none (c0 c1 c2 c3 c4 c5 c6 c7 c8 c9 : UInt8) (y m d : Int) (w : World) (hL : Lens w) (hy : val4 c0 c1 c2 c3 = y) (hm : val2 c5 c6 = m) (hd : val2 c8 c9 = d)
    (T : ∀ W, Lens W → Calls Tryd.prog 20 #[.agg #[.int .i64 y, .int .i64 m, .int .i64 d]] W fun e w' => e = .returned (.string ⟨#[]⟩) ∧ Gr W w') :
    Calls Tryd.prog 25 #[.string ⟨#[c0, c1, c2, c3, c4, c5, c6, c7, c8, c9]⟩] w fun e w' => e = .returned (.tuple #[.agg #[.int .i64 0, .int .i64 0, .int .i64 0], .int .i64 31]) ∧ Gr w w' := by
  have V4 := fun W => Lib.hid (value4_any c0 c1 c2 c3 W)
  have V2 := fun W => Lib.hid (value2_any c5 c6 W)
  have V3 := fun W => Lib.hid (value2_any c8 c9 W)
  rw [hy] at V4
  rw [hm] at V2
  rw [hd] at V3
  have HT := Lib.hid T
  have HL := Lib.hid hL
  clear hL T hy hm hd
  obtain ⟨bz, bf, bd0, bd1, bd2, bsz⟩ := two_boxes w y m d
  have HG0 := Lib.hid (show Gr w (((w.alloc (Obj.cells #[Value.int IntKind.i64 0, Value.int IntKind.i64 0, Value.int IntKind.i64 0] 23)).alloc (Obj.cells #[Value.int IntKind.i64 y, Value.int IntKind.i64 m, Value.int IntKind.i64 d] 23)).drew) from (((Gr.refl w).alloc _).alloc _).drew)
  have HP := Lib.hid (show ∀ w', Gr (((w.alloc (Obj.cells #[Value.int IntKind.i64 0, Value.int IntKind.i64 0, Value.int IntKind.i64 0] 23)).alloc (Obj.cells #[Value.int IntKind.i64 y, Value.int IntKind.i64 m, Value.int IntKind.i64 d] 23)).drew) w' → w'.cell? ⟨w.heap.size, 0, none⟩ = some (.int .i64 0) ∧ w'.cell? ⟨w.heap.size, 1, none⟩ = some (.int .i64 0) ∧ w'.cell? ⟨w.heap.size, 2, none⟩ = some (.int .i64 0) ∧ w'.frozen? ⟨w.heap.size, 0, none⟩ = false ∧ w'.frozen? ⟨w.heap.size, 1, none⟩ = false ∧ w'.frozen? ⟨w.heap.size, 2, none⟩ = false ∧ w'.cell? ⟨w.heap.size + 1, 0, none⟩ = some (.int .i64 y) ∧ w'.cell? ⟨w.heap.size + 1, 1, none⟩ = some (.int .i64 m) ∧ w'.cell? ⟨w.heap.size + 1, 2, none⟩ = some (.int .i64 d) ∧ w.heap.size + 1 < w'.heap.size by
    intro w' h
    have l0 : w.heap.size < (((w.alloc (Obj.cells #[Value.int IntKind.i64 0, Value.int IntKind.i64 0, Value.int IntKind.i64 0] 23)).alloc (Obj.cells #[Value.int IntKind.i64 y, Value.int IntKind.i64 m, Value.int IntKind.i64 d] 23)).drew).heap.size := by rw [bsz]; omega
    have l1 : w.heap.size + 1 < (((w.alloc (Obj.cells #[Value.int IntKind.i64 0, Value.int IntKind.i64 0, Value.int IntKind.i64 0] 23)).alloc (Obj.cells #[Value.int IntKind.i64 y, Value.int IntKind.i64 m, Value.int IntKind.i64 d] 23)).drew).heap.size := by rw [bsz]; omega
    exact ⟨gcell h l0 (bz 0 (by omega)), gcell h l0 (bz 1 (by omega)), gcell h l0 (bz 2 (by omega)), gfrozen h l0 (bf 0 (by omega)), gfrozen h l0 (bf 1 (by omega)), gfrozen h l0 (bf 2 (by omega)), gcell h l1 bd0, gcell h l1 bd1, gcell h l1 bd2, Nat.lt_of_lt_of_le l1 h.size⟩)
  clear bz bf bd0 bd1 bd2 bsz
  go_enter Tryd.func25, Tryd.ntmps25
  have x1 : (⟨#[c0, c1, c2, c3, c4, c5, c6, c7, c8, c9]⟩ : ByteArray).extract 0 4 = ⟨#[c0, c1, c2, c3]⟩ := rfl
  have x2 : (⟨#[c0, c1, c2, c3, c4, c5, c6, c7, c8, c9]⟩ : ByteArray).extract 5 7 = ⟨#[c5, c6]⟩ := rfl
  have x3 : (⟨#[c0, c1, c2, c3, c4, c5, c6, c7, c8, c9]⟩ : ByteArray).extract 8 10 = ⟨#[c8, c9]⟩ := rfl
  go_wp2_with fail
  first
    | go_region_with (first
      | (go_at_call 31; with_reducible refine (V4 _).out.mono ?_; rintro e w5 ⟨rfl, rfl⟩)
      | (go_at_call 31; with_reducible refine (V2 _).out.mono ?_; rintro e w5 ⟨rfl, rfl⟩)
      | (go_at_call 31; with_reducible refine (V3 _).out.mono ?_; rintro e w5 ⟨rfl, rfl⟩))
    | fail
  all_goals
    clear x1 x2 x3 V4 V2 V3
    go_wp2_with fail
    refine (HT.out _ (HL.out.gr HG0.out)).mono ?_
    rintro e w6 ⟨rfl, hg6⟩
    obtain ⟨z0, z1, z2, r0, r1, r2, k0, k1, k2, sz⟩ := HP.out _ hg6
    have HG6 := Lib.hid (HG0.out.trans hg6)
    clear hg6 HP HT HG0
    go_wp2
    refine bodyPost_ret (v := .tuple #[.agg #[.int .i64 0, .int .i64 0, .int .i64 0], .int .i64 31]) (by simp [results, Tryd.results25, go_sem, *]) rfl ⟨rfl, ?_⟩
    repeat' (first | (with_reducible exact HG6.out) | (with_reducible refine Gr.setCell ?_ ?_ _) | (simp; done))

end Go.Proofs.YtfifollmpohcoaaDoor
