/- falseworkref07.Start. -/
import Derived.Test.YtfbbkoibccndkaaCrC
namespace Go.Proofs.Ytfbbkoibccndkaa
open Go.RowKit Go.Lib

/-- what a round of a loop over an array does -/
theorem tab_step {k : IntKind} {f g : Nat → Int} {i : Nat} (hi : i < 32) {x : Int} (h : ∀ j, j < 32 → g j = if j = i then x else f j) : ∃ c c' v, c = tab k f ∧ c' = tab k g ∧ v = f i ∧ c[i]? = some (.int k v) ∧ c.setIfInBounds i (.int k x) = c' :=
  ⟨_, _, _, rfl, rfl, rfl, tab_get k f hi, (tab_set k f hi x).trans (tab_congr fun j hj => (h j hj).symm)⟩
set_option maxRecDepth 100000 in
theorem rstart_any (w : World) : Calls Try.prog 28 #[] w fun e w' => e = .returned (.agg (tab .i64 fun _ => 1)) ∧ RowKit.Below w.heap.size w w' := by
  go_enter Try.func28, Try.ntmps28
  go_wp2_with (first | (with_reducible refine wpList_alloc0 rfl isI rfl ?_) | (with_reducible refine wpList_build0 rfl isI rfl ?_) | ((with_reducible refine wpList_store0 rfl isI _ _ rfl _ (fun _ => 0) (fun _ => 0) rfl rfl ?_ ?_); exact blk0 _ _; rw [setRow_new rfl]))
  go_loopw [4] (fun c4 wr => ∃ k : Nat, c4 = .int .i64 (k : Int) ∧ k ≤ 32 ∧ wr = (w.alloc (.cells (tab .i64 fun _ => 0) 30)).alloc (.cells (tab .i64 fun j => if j < k then 1 else 0) 30)) (fun c4 _ => 32 - (match c4 with | .int _ q => q | _ => 0).toNat)
  case atStart => exact ⟨0, rfl, by omega, rfl⟩
  case round =>
    obtain ⟨k, rfl, hk, rfl⟩ := hrel
    by_cases hlt : k < 32
    · obtain ⟨c, c', v, hc, hc', hv, h1, h2⟩ := tab_step (k := .i64) (f := fun j => if j < k then 1 else 0) (g := fun j => if j < k + 1 then 1 else 0) hlt (x := 1) (fun j _ => by
        by_cases e : j = k
        · subst e; simp
        · simp only [if_neg e]; by_cases h : j < k
          · rw [if_pos h, if_pos (by omega)]
          · rw [if_neg h, if_neg (by omega)])
      rw [← hc]
      have HC := Lib.hid hc'
      clear hc hc' hv
      go_wp2
      go_roundw
      case rel => exact ⟨k + 1, by go_num, by omega, by rw [HC.out]⟩
      case measure => simp; omega
    · have e : k = 32 := by omega
      subst e
      go_wp2_with (first | (with_reducible refine wpList_load0 rfl isI _ rfl _ (fun j => if j < 32 then 1 else 0) rfl (blkn (by simp)) ?_) | (with_reducible refine wpList_store0 rfl isI _ _ rfl _ _ (fun _ => 0) rfl rfl (blk_in (blkn rfl)) ?_))
      refine ret_tab isI Try.results28 rfl (setRow_heap _ _ _ _ _ _ (blk_in (blk0 _ _))) rfl ⟨?_, ?_⟩
      · rw [tab_congr (g := fun _ => 1) (fun j hj => by simp [hj])]
      · exact below_setRow (((RowKit.Below.refl _ _).alloc (Nat.le_refl _) _).alloc (by simp) _) (Nat.le_refl _)
end Go.Proofs.Ytfbbkoibccndkaa
