/- Worlds that grow by draws and new blocks; resets in memory; which terms can be. -/
import Derived.Test.YtgokihclfdkgeaaRtP
import Derived.ProofKit
import Derived.OpenShut
import Derived.Below
import Derived.Handy
import Derived.Deep.LoopGhost
import Derived.Deep.QuietTactic
import Derived.BigQuiet
import Derived.Shelf.SlSortCmp.QuietGrown
namespace Go.Proofs.Ytgokihclfdkgeaa
open Go.RowKit Go.Sort

/-- some draws and some new blocks -/
def Gr (w w' : World) : Prop := ∃ q os, w' = grow (w.drewN q) os
theorem Gr.refl (w : World) : Gr w w := ⟨0, #[], by rw [grow_empty]; rfl⟩
theorem Gr.trans {a b c : World} (h : Gr a b) (k : Gr b c) : Gr a c := by
  obtain ⟨q, os, rfl⟩ := h
  obtain ⟨q2, os2, rfl⟩ := k
  exact ⟨q + q2, os ++ os2, by show grow (grow ((a.drewN q).drewN q2) os) os2 = _; rw [grow_grow, World.drewN_drewN]⟩
theorem Gr.alloc {a b : World} (h : Gr a b) (o : Obj) : Gr a (b.alloc o) := h.trans ⟨0, #[o], by rw [alloc_eq_grow]; rfl⟩
theorem Gr.drewN {a b : World} (h : Gr a b) (n : Nat) : Gr a (b.drewN n) := h.trans ⟨n, #[], by rw [grow_empty]⟩
theorem Gr.drew {a b : World} (h : Gr a b) : Gr a b.drew := h.trans ⟨1, #[], by rw [grow_empty]; rfl⟩
theorem Gr.grow {a b : World} (h : Gr a b) (n : Nat) (os : Array Obj) : Gr a (Sort.grow (b.drewN n) os) := h.trans ⟨n, os, rfl⟩
theorem Gr.setCell {a b : World} (h : Gr a b) {p : Addr} (hp : a.heap.size ≤ p.block) (v : Value) : Gr a (b.setCell p v) := by
  obtain ⟨q, os, rfl⟩ := h
  refine ⟨q, ?_⟩
  unfold World.setCell Sort.grow
  simp only [World.heap_drewN]
  exact ⟨_, by rw [modify_append_right _ _ _ _ hp]⟩
theorem Gr.below {a b : World} (h : Gr a b) : Below a.heap.size a b := by
  obtain ⟨q, os, rfl⟩ := h
  exact ⟨rfl, rfl, rfl, by simp, fun k hk => by rw [heap_grow_old _ _ (by simpa using hk)]; rfl⟩
theorem Gr.size {a b : World} (h : Gr a b) : a.heap.size ≤ b.heap.size := h.below.size
theorem Calls.gr_of {P : Program} {f : FuncId} {args : Array Value} {w : World} {n : Nat} {os : Array Obj} {v : Value}
    (h : Calls P f args (grow (w.drewN n) os) fun e w' => e = .returned v ∧ Gr (grow (w.drewN n) os) w') : Calls P f args (grow (w.drewN n) os) fun e w'' => e = .returned v ∧ ∃ p : GrownBy, w'' = grow (w.drewN p.n) p.os := Calls.grown_of h
theorem Calls.gr_of_same {P : Program} {f : FuncId} {args : Array Value} {w : World} {n : Nat} {os : Array Obj} {v : Value}
    (h : Calls P f args (grow (w.drewN n) os) fun e w' => e = .returned v ∧ grow (w.drewN n) os = w') : Calls P f args (grow (w.drewN n) os) fun e w'' => e = .returned v ∧ ∃ p : GrownBy, w'' = grow (w.drewN p.n) p.os :=
  Calls.grown_of (h.mono fun _ _ ⟨he, hw⟩ => ⟨he, hw ▸ Gr.refl _⟩)
theorem Calls.same' {P : Program} {f : FuncId} {args : Array Value} {w : World} {n : Nat} {v : Value}
    (h : Calls P f args (w.drewN n) fun e w' => e = .returned v ∧ w.drewN n = w') : Calls P f args (w.drewN n) fun e w'' => e = .returned v ∧ ∃ m, w'' = w.drewN m :=
  h.mono fun _ _ ⟨he, hm⟩ => ⟨he, n, hm.symm⟩
/-- a number that fits -/
def I (n : Int) : Prop := -9223372036854775808 ≤ n ∧ n ≤ 9223372036854775807
theorem ret_bool {a b : Bool} (h : a = b) : Ending.returned (.bool a) = .returned (.bool b) := by rw [h]
theorem mixedT : Try.prog.follows .mixedOrders = true := by kernel_rfl
theorem gcell {w w' : World} (h : Gr w w') {b o : Nat} {v : Value} (hb : b < w.heap.size) (hc : w.cell? ⟨b, o, none⟩ = some v) : w'.cell? ⟨b, o, none⟩ = some v := by
  rw [h.below.cell (p := ⟨b, o, none⟩) hb]; exact hc

/-- a reset: its day, its index -/
abbrev Rs := Int × Int
/-- the resets l lie, one behind the other, from a on -/
def RsAt (w : World) (a : Option Addr) (l : List Rs) : Prop :=
  l = [] ∨ ∃ b off, a = some ⟨b, off, none⟩ ∧ b < w.heap.size ∧ ∀ i, i < l.length → w.cell? ⟨b, off + i * 2, none⟩ = some (.int .i64 (l.getD i (0, 0)).1) ∧ w.cell? ⟨b, off + i * 2 + 1, none⟩ = some (.int .i64 (l.getD i (0, 0)).2)
theorem RsAt.gr {w w' : World} {a : Option Addr} {l : List Rs} (h : RsAt w a l) (hg : Gr w w') : RsAt w' a l := by
  rcases h with h | ⟨b, off, ha, hlt, hc⟩
  · exact Or.inl h
  · exact Or.inr ⟨b, off, ha, Nat.lt_of_lt_of_le hlt hg.size, fun i hi => ⟨gcell hg hlt (hc i hi).1, gcell hg hlt (hc i hi).2⟩⟩
theorem RsAt.below {w w' : World} {a : Option Addr} {l : List Rs} (h : RsAt w a l) (hb : RowKit.Below w.heap.size w w') : RsAt w' a l := by
  rcases h with h | ⟨b, off, ha, hlt, hc⟩
  · exact Or.inl h
  · refine Or.inr ⟨b, off, ha, Nat.lt_of_lt_of_le hlt hb.size, fun i hi => ?_⟩
    rw [hb.cell (p := ⟨b, off + i * 2, none⟩) hlt, hb.cell (p := ⟨b, off + i * 2 + 1, none⟩) hlt]
    exact hc i hi

/-- what an index may be -/
def sgB (n : Int) : Bool := decide (-10000 ≤ n ∧ n ≤ 10000)
set_option maxHeartbeats 400000 in
theorem signed_any (n : Int) (w : World) : Calls Try.prog 30 #[.int .i64 n] w fun e w' => e = .returned (.bool (sgB n)) ∧ w = w' := by
  by_cases h1 : -10000 ≤ n
  · go_enter Try.func30, Try.ntmps30
    go_wp2
    go_ret
    exact ⟨ret_bool (by unfold sgB; rw [decide_eq_decide]; omega), rfl⟩
  · go_enter Try.func30, Try.ntmps30
    go_wp2
    go_ret
    exact ⟨ret_bool (by unfold sgB; symm; rw [decide_eq_false_iff_not]; omega), rfl⟩

/-- terms that can be -/
def rightB (m f c : Int) : Bool := decide (-10000 ≤ m ∧ m ≤ 10000 ∧ 0 ≤ f ∧ f ≤ c ∧ c ≤ 10000)
set_option maxHeartbeats 800000 in
theorem right_any (m f c : Int) (w : World) : Calls Try.prog 20 #[.agg #[.int .i64 m, .int .i64 f, .int .i64 c]] w fun e w' => e = .returned (.bool (rightB m f c)) ∧ Gr w w' := by
  by_cases hs : -10000 ≤ m ∧ m ≤ 10000
  · have e : sgB m = true := by unfold sgB; simpa using hs
    go_enter Try.func20, Try.ntmps20
    go_wp2_with fail
    refine (signed_any m _).mono ?_
    rintro _ w1 ⟨rfl, rfl⟩
    rw [e]
    go_wp2
    all_goals
      go_ret
      exact ⟨ret_bool (by unfold rightB; first | (symm; rw [decide_eq_true_eq]; omega) | (symm; rw [decide_eq_false_iff_not]; omega) | (rw [decide_eq_decide]; omega)), (Gr.refl _).alloc _⟩
  · have e : sgB m = false := by unfold sgB; simpa using hs
    go_enter Try.func20, Try.ntmps20
    go_wp2_with fail
    refine (signed_any m _).mono ?_
    rintro _ w1 ⟨rfl, rfl⟩
    rw [e]
    go_wp2
    go_ret
    exact ⟨ret_bool (by unfold rightB; symm; rw [decide_eq_false_iff_not]; omega), (Gr.refl _).alloc _⟩
set_option maxHeartbeats 800000 in
theorem rright_any (m f c : Int) (w : World) : Calls Try.prog 21 #[.agg #[.int .i64 m, .int .i64 f, .int .i64 c]] w fun e w' => e = .returned (.bool (rightB m f c)) ∧ Gr w w' := by
  go_enter Try.func21, Try.ntmps21
  go_wp2
  all_goals
    go_ret
    exact ⟨ret_bool (by unfold rightB; first | (symm; rw [decide_eq_true_eq]; omega) | (symm; rw [decide_eq_false_iff_not]; omega) | (rw [decide_eq_decide]; omega)), (Gr.refl _).alloc _⟩
end Go.Proofs.Ytgokihclfdkgeaa
