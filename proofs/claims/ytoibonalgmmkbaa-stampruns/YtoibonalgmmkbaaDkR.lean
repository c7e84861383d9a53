/- falseworkref08: Blank, Put. -/
import Derived.Test.YtoibonalgmmkbaaDkQ
namespace Go.Proofs.Ytoibonalgmmkbaa
open Go.RowKit Go.Lib

/-- where the document's disk lies; F: blocks that are not its own -/
structure RM (w : World) (F : Nat → Prop) (r : Dk) (a0 a1 : Option Addr) : Prop where
  ok : r.Ok
  bs : Lie w a0 (scells r.base)
  b0 : a0 = none → r.base.length = 0
  qs : Lie w a1 (icells r.queue)
  q0 : a1 = none → r.queue.length = 0
  o0 : ∀ b, inBlk a0 b → ¬ F b
  o1 : ∀ b, inBlk a1 b → ¬ F b
  l0 : ∀ b, inBlk a0 b → b < w.heap.size
  l1 : ∀ b, inBlk a1 b → b < w.heap.size
theorem RM.below {w w' : World} {F : Nat → Prop} {r : Dk} {a0 a1 : Option Addr} (h : RM w F r a0 a1) (hb : RowKit.Below w.heap.size w w') : RM w' F r a0 a1 :=
  ⟨h.ok, h.bs.below hb, h.b0, h.qs.below hb, h.q0, h.o0, h.o1, fun b hi => Nat.lt_of_lt_of_le (h.l0 b hi) hb.size, fun b hi => Nat.lt_of_lt_of_le (h.l1 b hi) hb.size⟩
/-- the other disk has done something -/
theorem RM.other {w w' : World} {F F' : Nat → Prop} {r : Dk} {a0 a1 : Option Addr} (h : RM w F r a0 a1) (ho : Only F w w') (hF : ∀ i, F' i → F i ∨ w.heap.size ≤ i) : RM w' F' r a0 a1 :=
  ⟨h.ok, h.bs.same ho.size fun b hi => ho.block b (h.l0 b hi) (h.o0 b hi), h.b0, h.qs.same ho.size fun b hi => ho.block b (h.l1 b hi) (h.o1 b hi), h.q0,
   fun b hi hf => (hF b hf).elim (h.o0 b hi) fun e => by have := h.l0 b hi; omega, fun b hi hf => (hF b hf).elim (h.o1 b hi) fun e => by have := h.l1 b hi; omega,
   fun b hi => Nat.lt_of_lt_of_le (h.l0 b hi) ho.size, fun b hi => Nat.lt_of_lt_of_le (h.l1 b hi) ho.size⟩
theorem RM.head {w : World} {F : Nat → Prop} {r : Dk} {a0 a1 : Option Addr} (h : RM w F r a0 a1) {fu : Int} {dd : Bool} (hf : I fu) : RM w F { r with fuse := fu, dead := dd } a0 a1 := ⟨h.ok.fuse hf, h.bs, h.b0, h.qs, h.q0, h.o0, h.o1, h.l0, h.l1⟩
theorem rblank_any (n : Int) (F : Nat → Prop) (w : World) (hF : ∀ i, F i → i < w.heap.size) : Calls Try.prog 13 #[.int .i64 n] w fun e w' => ∃ a0 c0 a1 c1, e = .returned (.agg (rcs (Dk.blank n) a0 c0 a1 c1).toArray) ∧ RM w' F (Dk.blank n) a0 a1 ∧ RowKit.Below w.heap.size w w' := by
  obtain ⟨N, hN⟩ : ∃ N, N = blankN n := ⟨_, rfl⟩
  obtain ⟨w0, hw0⟩ : ∃ w0, w0 = w.alloc (.cells #[.slice none 0 0, .slice none 0 0, .int .i64 0, .bool false] 37) := ⟨_, rfl⟩
  have hal : RowKit.Below w.heap.size w w0 := by rw [hw0]; exact (RowKit.Below.refl _ _).alloc (Nat.le_refl _) _
  have hs0 : w0.heap.size = w.heap.size + 1 := by rw [hw0]; simp
  have hz : w0.heap[w.heap.size]? = some (.cells [.slice none 0 0, .slice none 0 0, .int .i64 0, .bool false].toArray 37) := by rw [hw0]; exact heap_alloc_new w _
  obtain ⟨w1, hrun, ho, hg, hs⟩ := run_make N (by rw [hN]; unfold blankN; omega) w0
  have hL : (Dk.blank n).base.length = N := by rw [hN]; exact List.length_replicate
  have hB : RowKit.Below w.heap.size w w1 := hal.grown hg (by omega) (fun k h => by cases h)
  have HZ := Lib.hid (show w1.heap[w.heap.size]? = some (.cells [.slice none 0 0, .slice none 0 0, .int .i64 0, .bool false].toArray 37) from (hg.block _ (lt_of_heap hz) (fun e => by cases e)).trans hz)
  have HFIN := Lib.hid (show RM (w1.setRow w.heap.size (rcs (Dk.blank n) (some ⟨w0.heap.size, 0, none⟩) N none 0).toArray) F (Dk.blank n) (some ⟨w0.heap.size, 0, none⟩) none ∧ RowKit.Below w.heap.size w (w1.setRow w.heap.size (rcs (Dk.blank n) (some ⟨w0.heap.size, 0, none⟩) N none 0).toArray) from by
    refine ⟨⟨Dk.Ok.blank n, ?_, (fun e => by cases e), Or.inl rfl, fun _ => rfl, ?_, ?_, ?_, ?_⟩, below_setRow hB (Nat.le_refl _)⟩
    · have hr := ow_range ho
      refine Or.inr ⟨w0.heap.size, 0, rfl, by rw [size_setRow]; omega, ?_⟩
      rw [show (Dk.blank n).base = List.replicate N zsec by rw [hN]; rfl]
      exact range_of hr (setRow_other _ _ _ _ (by omega))
    · rintro b ⟨q, e, rfl⟩ hf
      cases e
      have := hF _ hf
      have e2 : (⟨w0.heap.size, 0, none⟩ : Addr).block = w0.heap.size := rfl
      omega
    · rintro b ⟨q, e, rfl⟩; cases e
    · rintro b ⟨q, e, rfl⟩
      cases e
      rw [size_setRow]
      show w0.heap.size < _
      omega
    · rintro b ⟨q, e, rfl⟩; cases e)
  have hv : (rcs (Dk.blank n) (some ⟨w0.heap.size, 0, none⟩) N none 0) = [.slice (some ⟨w0.heap.size, 0, none⟩) N N, .slice none 0 0, .int .i64 (-1), .bool false] := by unfold rcs; rw [hL]; rfl
  have HV := Lib.hid hv
  have HS0 := Lib.hid hs0
  have HCS := Lib.hid (rcs_cs (Dk.blank n) (some ⟨w0.heap.size, 0, none⟩) N none 0)
  rw [hv] at HCS HFIN
  have hc : (n < 0 ∧ N = 0) ∨ (n = 0 ∧ N = 0) ∨ (0 < n ∧ n < 2048 ∧ (N : Int) = n) ∨ (n = 2048 ∧ N = 2048) ∨ (2048 < n ∧ N = 2048) := by rw [hN]; unfold blankN; omega
  clear hN hL hB hz ho hg hs hv hal
  have HW0 := Lib.hid hw0
  clear hw0
  rcases hc with ⟨h1, h2⟩ | ⟨h1, h2⟩ | ⟨h1, h3, h2⟩ | ⟨h1, h2⟩ | ⟨h1, h2⟩
  case inr.inr.inl =>
    rw [h2] at hrun
    clear h2 hs0
    go_enter Try.func13, Try.ntmps13
    go_wp2_with (first | ((with_reducible refine wpList_allocA rfl isD rfl ?_); rw [← HW0.out]) | (with_reducible refine wpList_storeW rfl isD _ _ rfl w.heap.size [.slice (some ⟨w0.heap.size, 0, none⟩) N N, .slice none 0 0, .int .i64 (-1), .bool false] _ _ rfl rfl HZ.out HCS.out rfl ?_))
    refine ret_cell isD rfl rfl (setRow_heap _ _ _ _ _ _ HZ.out) HCS.out rfl ?_
    exact ⟨_, _, _, _, by rw [HV.out], HFIN.out.1, HFIN.out.2⟩
  all_goals
    subst h2
    try subst h1
    simp only [Int.cast_ofNat_Int] at hrun
    clear hs0
    go_enter Try.func13, Try.ntmps13
    go_wp2_with (first | ((with_reducible refine wpList_allocA rfl isD rfl ?_); rw [← HW0.out]) | (with_reducible refine wpList_storeW rfl isD _ _ rfl w.heap.size [.slice (some ⟨w0.heap.size, 0, none⟩) _ _, .slice none 0 0, .int .i64 (-1), .bool false] _ _ rfl rfl HZ.out HCS.out rfl ?_))
    refine ret_cell isD rfl rfl (setRow_heap _ _ _ _ _ _ HZ.out) HCS.out rfl ?_
    exact ⟨_, _, _, _, by rw [HV.out], HFIN.out.1, HFIN.out.2⟩
end Go.Proofs.Ytoibonalgmmkbaa
