/- falseworklaw10.LogKeeps, mathematics. -/
import Derived.Test.YtmgakmdcncemoaaLgS
namespace Go.Proofs.Ytmgakmdcncemoaa
open Go.RowKit Go.Lib

/-- what holds while the old ones are written, on N sectors -/
structure OldN (N : Nat) (d : Dk) (k : Nat) : Prop where
  up : Up d
  bl : d.base.length = N
  qn : d.queue.length ≤ N * k
  qi : ∀ p ∈ d.queue, p.1 < d.base.length
  lb : ∀ s ∈ d.base, Low s
  lq : ∀ p ∈ d.queue, Low p.2
theorem OldN.start {n : Int} {N : Nat} (h : blankN n = N) : OldN N (Dk.blank n) 0 :=
  ⟨Up.blank n, by rw [blank_len, h], Nat.zero_le _, (fun p hp => by cases hp), (fun s hs => by rw [(List.mem_replicate.1 hs).2]; exact low_z), fun p hp => by cases hp⟩
theorem OldN.more {N : Nat} {d : Dk} {k : Nat} (h : OldN N d k) : OldN N d (k + 1) := ⟨h.up, h.bl, Nat.le_trans h.qn (Nat.mul_le_mul_left _ (Nat.le_succ _)), h.qi, h.lb, h.lq⟩
theorem OldN.write {N : Nat} {d : Dk} {k : Nat} (h : OldN N d k) (x : Int) {n : Nat} {l : List UInt8} (hn : n < 4611686018427387904) : OldN N (d.write x n l).1 (k + 1) := by
  by_cases hl : l.length ≤ 13515
  · have hp := spanN_pos (n := l.length) (by omega)
    by_cases h0 : n = 0
    · have : (layL n l).length = 0 := by unfold layL; rw [if_pos h0]; rfl
      unfold Dk.write
      rw [if_pos this]
      exact h.more
    · have e : layL n l = secs n l := if_neg h0
      by_cases hx : x < 0 ∨ (d.base.length : Int) - (spanN l.length : Int) < x
      · unfold Dk.write
        rw [e, secs_length, if_neg (by omega), if_pos hx]
        exact h.more
      · rw [write_up h.up h0 (by omega) (by omega) (by omega)]
        have hqs : ∀ p ∈ qsOf x (secs n l), p.1 < d.base.length ∧ Low p.2 := fun p hp => by
          obtain ⟨j, hj⟩ := List.getElem?_of_mem hp
          have hjl : j < (secs n l).length := by have := (List.getElem?_eq_some_iff.1 hj).1; rwa [qsOf_length] at this
          rw [qsOf_get _ _ _ hjl] at hj
          rw [secs_length] at hjl
          have := Option.some.inj hj
          subst this
          exact ⟨by show (x + (j : Int)).toNat < _; omega, by show Low ((secs n l).getD j []); rw [secs_getD hjl]; exact low_sec hn⟩
        refine ⟨⟨h.up.fu, h.up.dd⟩, h.bl, ?_, fun p hp => ?_, h.lb, fun p hp => ?_⟩
        · show (d.queue ++ qsOf x (secs n l)).length ≤ _
          rw [List.length_append, qsOf_length, secs_length]
          have := h.qn
          have := h.bl
          rw [Nat.mul_succ]
          omega
        · rcases List.mem_append.1 hp with hp | hp
          · exact h.qi p hp
          · exact (hqs p hp).1
        · rcases List.mem_append.1 hp with hp | hp
          · exact h.lq p hp
          · exact (hqs p hp).2
  · have e0 : spanN l.length = 0 := by unfold spanN; rw [if_neg hl]
    have : (layL n l).length = 0 := by have := layL_length_le n l; omega
    unfold Dk.write
    rw [if_pos this]
    exact h.more
theorem OldN.flush {N : Nat} {d : Dk} {k : Nat} (h : OldN N d k) : OldN N d.flush 0 ∧ d.flush.queue = [] := by
  rw [h.up.flush]
  exact ⟨⟨⟨h.up.fu, h.up.dd⟩, (stl_len _ _ _ _).trans h.bl, Nat.zero_le _, (fun p hp => by cases hp), low_stl (fun _ => Nat.le_refl _) h.lb h.qi h.lq _ (Nat.le_refl _), fun p hp => by cases hp⟩, rfl⟩
theorem OldN.at_ {N : Nat} {d : Dk} {k : Nat} (h : OldN N d k) (hq : d.queue = []) (y : Int) : Low (d.at_ y) := by
  by_cases hy : 0 ≤ y ∧ y < (d.base.length : Int)
  · rw [at_none hq hy]
    exact h.lb _ (getD_mem (by omega))
  · unfold Dk.at_
    rw [if_neg hy]
    exact low_z
theorem OldN.topN {N : Nat} {d : Dk} {k : Nat} (h : OldN N d k) (hq : d.queue = []) (x : Int) : ∀ m, topN d x m < 4611686018427387904
  | 0 => by show 0 < _; omega
  | m + 1 => by
    have h1 := h.topN hq x m
    have h2 := low_stN (h.at_ hq (x + (m : Int)))
    show max _ _ < _
    omega
/-- a log over all that stood there -/
theorem OldN.kp {N : Nat} {d : Dk} {k : Nat} (h : OldN N d k) (hok : d.Ok) (hq : d.queue = []) {x0 : Int} (hx : 0 ≤ x0 ∧ x0 ≤ (N : Int)) : Kp d x0 (N : Int) x0 (Go.Proofs.Ytmgakmdcncemoaa.topN d 0 N) [] :=
  Kp.start hok (by rw [h.bl]; exact Int.le_refl _) hq h.up.dd hx fun y h1 h2 => by
    have := topN_le (d := d) (x := 0) (k := N) (i := y.toNat) (by omega)
    rwa [show (0 : Int) + (y.toNat : Int) = y by omega] at this
/-- what the records are at the end: all of them, or one was cut off -/
def Ends (d : Dk) (x0 z : Int) (fl : Nat) (done : List (List UInt8)) (t : List UInt8) : Prop :=
  (∃ x, Kp d x0 z x fl done) ∨ (d.dead = true ∧ ∃ d0 x, Kp d0 x0 z x fl done ∧ Torn d0 d x (fl + 1 + done.length) t ∧ t.length ≤ 4096 ∧ (spanN (t.length + 4) : Int) ≤ z - x)
theorem Ends.bl {d : Dk} {x0 z : Int} {fl : Nat} {done : List (List UInt8)} {t : List UInt8} (h : Ends d x0 z fl done t) (l : List Int) : z ≤ ((d.power l).base.length : Int) ∧ 0 ≤ x0 ∧ x0 ≤ z := by
  have e : (d.power l).base.length = d.base.length := stl_len _ _ _ _
  rcases h with ⟨x, h⟩ | ⟨_, d0, x, h, ht, _⟩
  · have := h.bl; have := h.xs; have := h.le; omega
  · have := h.bl; have := h.xs; have := h.le; have := ht.bs; rw [e, ht.bs]; omega
theorem Ends.run {d : Dk} {x0 z : Int} {fl : Nat} {done : List (List UInt8)} {t : List UInt8} (h : Ends d x0 z fl done t) (hn : fl + 1 + done.length < 18446744073709551616) (l : List Int) (hok : (d.power l).Ok) {K : List (List UInt8)} {y : Int} (hr : Run (d.power l) z x0 fl K y) :
    K = done ∨ (d.dead = true ∧ K = done ++ [t]) := by
  rcases h with ⟨x, h⟩ | ⟨hd, d0, x, h, ht, h1, h2⟩
  · exact Or.inl ((h.power l).run (by omega) hr).1
  · rcases h.torn_run ht h1 h2 hn l hok hr with e | e
    · exact Or.inl e
    · exact Or.inr ⟨hd, e⟩
theorem mk_ints40 (w : World) : ∃ w', (Instr.makeSlice 37 (.int .i64 40) (.int .i64 40)).run Try.prog w = .ok (.slice (some ⟨w.heap.size, 0, none⟩) 40 40) w' ∧ RowKit.Below w.heap.size w w' ∧ w'.ownsRow w.heap.size 3 1 (.slice (some ⟨w.heap.size, 0, none⟩) 40 40) 40 ((List.replicate 40 (0 : Int)).map (Value.int .i64)) := by
  obtain ⟨i, z, hi, hz, hs, h8, _⟩ := elN.inf
  have hz0 : z = .int .i64 0 := by
    have h : (Try.prog.info? 3).map (fun i => i.zero) = some (some (.int .i64 0)) := by kernel_rfl
    rw [hi] at h
    simp only [Option.map_some, Option.some.injEq] at h
    rw [hz] at h
    exact Option.some.inj h
  subst hz0
  have h := Go.run_make (P := Try.prog) w 37 3 i (.int .i64 0) Try.underlying37 hi hz .i64 .i64 40 40 (by omega) (Int.le_refl _) (by rw [h8]; omega) (by omega)
  rw [hs] at h
  refine ⟨_, h, (RowKit.Below.refl _ _).alloc (Nat.le_refl _) _, ?_⟩
  refine ⟨by simp, Or.inr ⟨w.heap.size, 40, _, rfl, Nat.le_refl _, heap_alloc_new w _, Nat.le_refl _, by unfold maxLen; omega, ?_, ?_⟩⟩
  · kernel_rfl
  · kernel_rfl
end Go.Proofs.Ytmgakmdcncemoaa
