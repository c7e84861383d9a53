/- Package disk: Blank. -/
import Derived.Test.YtoibonalgmmkbaaDkC
namespace Go.Proofs.Ytoibonalgmmkbaa
open Go.RowKit Go.Lib

theorem ofQ_nil (x : Int) : ofQ [] x = [] := rfl
/-- a new disk -/
theorem dmem_new {w1 : World} {b N : Nat} {n : Int} (hN : N = blankN n) (ho : w1.ownsRow b 59 64 (.slice (some ⟨b, 0, none⟩) N N) N (scells (List.replicate N zsec))) (hs : w1.heap.size = b + 1) :
    ∃ F, DAt ((w1.alloc (.map #[] 0)).alloc (.cells #[.slice (some ⟨b, 0, none⟩) N N, .slice none 0 0, .map (some (b + 1)), .int .i64 (-1), .bool false] 66)) F (b + 2) (Dk.blank n) ∧ ∀ i, F i → b ≤ i := by
  subst hN
  have hL : (Dk.blank n).base.length = blankN n := List.length_replicate
  have hB : (Dk.blank n).base = List.replicate (blankN n) zsec := rfl
  refine ⟨fun i => b ≤ i ∧ i < b + 3, ⟨some ⟨b, 0, none⟩, blankN n, none, 0, b + 1, 0, fun _ => nilS, ?_⟩, fun i h => h.1⟩
  have h1 : (w1.alloc (.map #[] 0)).heap.size = b + 2 := by simp [hs]
  constructor
  · exact Dk.Ok.blank n
  · rw [hL]
    have := heap_alloc_new (w1.alloc (.map #[] 0)) (.cells #[.slice (some ⟨b, 0, none⟩) (blankN n) (blankN n), .slice none 0 0, .map (some (b + 1)), .int .i64 (-1), .bool false] 66)
    rw [h1] at this
    exact this
  · rw [hL, hB]
    have : w1.ownsRow 0 59 64 (.slice (some ⟨b, 0, none⟩) (blankN n) (blankN n)) (blankN n) (scells (List.replicate (blankN n) zsec)) := by
      rcases ho.2 with h0 | ⟨g, cap, cur, hv, hb, r⟩
      · exact ⟨ho.1, .inl h0⟩
      · exact ⟨ho.1, .inr ⟨g, cap, cur, hv, Nat.zero_le _, r⟩⟩
    exact (this.alloc _).alloc _
  · exact World.ownsRow_nil _ _ _ _
  · have := MapAt.made w1
    rw [hs] at this
    exact this.same (Go.heap_alloc_old _ _ (by rw [h1]; omega))
  · exact Nat.le_refl _
  · exact fun x _ => World.ownsRow_nil _ _ _ _
  · exact fun x k _ h => by cases h
  · exact fun x y k _ _ _ h => by cases h
  · exact ⟨by omega, by omega⟩
  · exact ⟨by omega, by omega⟩
  · exact fun k h => by cases h; exact ⟨Nat.le_refl _, Nat.lt_add_of_pos_right (by omega)⟩
  · exact fun k h => by cases h
  · exact fun x k _ h => by cases h
  · exact fun i h => by have := h.2; simp [hs]; omega
theorem mkMap (w : World) : (Instr.makeMap 64 none).run Try.prog w = .ok (.map (some w.heap.size)) (w.alloc (.map #[] 0)) := by
  simp [Instr.makeMap, Result.andThen]
theorem blank_any (n : Int) (w : World) : Calls Try.prog 7 #[.int .i64 n] w fun e w' => ∃ g F, e = .returned (.pointer (some ⟨g, 0, none⟩)) ∧ DAt w' F g (Dk.blank n) ∧ RowKit.Below w.heap.size w w' ∧ ∀ i, F i → w.heap.size ≤ i := by
  have mk := mkMap
  obtain ⟨N, hN⟩ : ∃ N, N = blankN n := ⟨_, rfl⟩
  obtain ⟨w1, hrun, ho, hg, hs⟩ := run_make N (by rw [hN]; unfold blankN; omega) w
  have hB : RowKit.Below w.heap.size w w1 := (RowKit.Below.refl _ _).grown hg (Nat.le_refl _) (fun k h => by cases h)
  obtain ⟨F, hF⟩ := dmem_new hN ho hs
  have HF := Lib.hid hF
  have HB := Lib.hid hB
  clear ho hg hF hB
  have hc : (n < 0 ∧ N = 0) ∨ (n = 0 ∧ N = 0) ∨ (0 < n ∧ n < 2048 ∧ (N : Int) = n) ∨ (n = 2048 ∧ N = 2048) ∨ (2048 < n ∧ N = 2048) := by rw [hN]; unfold blankN; omega
  clear hN
  rcases hc with ⟨h1, h2⟩ | ⟨h1, h2⟩ | ⟨h1, h3, h2⟩ | ⟨h1, h2⟩ | ⟨h1, h2⟩
  case inr.inr.inl =>
    rw [h2] at hrun
    clear h2
    go_enter Try.func7, Try.ntmps7
    go_wp2
    go_ret
    exact ⟨_, F, rfl, HF.out.1, (HB.out.alloc (by rw [hs]; omega) _).alloc (by simp [hs]; omega) _, HF.out.2⟩
  all_goals
    subst h2
    try subst h1
    simp only [Int.cast_ofNat_Int] at hrun
    go_enter Try.func7, Try.ntmps7
    go_wp2
    go_ret
    exact ⟨_, F, rfl, HF.out.1, (HB.out.alloc (by rw [hs]; omega) _).alloc (by simp [hs]; omega) _, HF.out.2⟩
end Go.Proofs.Ytoibonalgmmkbaa
