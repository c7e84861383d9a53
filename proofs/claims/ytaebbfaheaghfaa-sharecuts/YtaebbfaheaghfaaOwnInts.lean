/- Slices of int64 that the call itself has made: what append makes of them. -/
import Derived.Test.YtaebbfaheaghfaaRowzOf
import Derived.Maps.AppendAt
import Derived.Deep.RegionLaw
import Derived.Deep.DrawnRows
namespace Go.Proofs.Ytaebbfaheaghfaa
open Go.RowKit

/-- v is a slice of the call's own (it lies from block 'base' on) that holds l -/
def OW (w : World) (base : Nat) (v : Value) (l : List Int) : Prop := w.ownsRow base 2 1 v l.length (l.map (Value.int .i64))

theorem OW.row {w : World} {base : Nat} {v : Value} {l : List Int} (h : OW w base v l) : ∃ a cap, v = .slice a l.length cap ∧ RowAt .i64 w a l := by
  have h' := h
  unfold OW at h'
  rcases h'.2 with ⟨hv, hn⟩ | ⟨g, cap, cur, hv, hb, hg, hr⟩
  · exact ⟨none, 0, by rw [hv, hn], Or.inl (List.length_eq_zero_iff.mp hn)⟩
  · refine ⟨_, _, hv, Or.inr ⟨g, 0, rfl, ?_, fun i hi => ?_⟩⟩
    · rcases Nat.lt_or_ge g w.heap.size with hlt | hge
      · exact hlt
      · rw [Array.getElem?_eq_none hge] at hg; cases hg
    · rw [Nat.zero_add]
      rw [hv] at h'
      rw [World.ownsRow.cellAt h' i (by omega)]
      simp [List.getD, hi]

theorem OW.own {w : World} {base : Nat} {v : Value} {l : List Int} (h : OW w base v l) : ∀ k, v.ownBlock = some k → base ≤ k := by
  unfold OW at h
  rcases h.2 with ⟨hv, hn⟩ | ⟨g, cap, cur, hv, hb, hg, hr⟩
  · intro k hk; rw [hv] at hk; cases hk
  · intro k hk
    rw [hv] at hk
    have : g = k := by simpa [Value.ownBlock] using hk
    omega

theorem info64 : ∃ i, Try.prog.info? 2 = some i ∧ i.zero = some (.int .i64 0) ∧ i.size = 1 ∧ i.bytes = 8 := by
  have h : (Try.prog.info? 2).map (fun i => (i.zero, i.size, i.bytes)) = some (some (.int .i64 0), 1, 8) := by kernel_rfl
  cases hi : Try.prog.info? 2 with
  | none => rw [hi] at h; cases h
  | some i =>
    rw [hi] at h
    simp only [Option.map_some, Option.some.injEq, Prod.mk.injEq] at h
    exact ⟨i, rfl, h.1, h.2.1, h.2.2⟩

theorem app_run {w : World} (w0 : World) (base : Nat) (v : Value) (l news : List Int) (ad : Addr) (c : Nat) (ty : TypeId) (hown : OW w base v l)
    (hr : ∀ i, i < news.length → w.cell? (ad.add i) = some (.int .i64 (news.getD i 0))) (hlen : l.length + news.length ≤ 1000000) (hB : Below base w0 w) (hb : base ≤ w.heap.size) :
    ∃ v' w', (Builtin.append_ #[40, 40] ty #[v, .slice (some ad) news.length c]).run Try.prog w = .ok v' w' ∧ OW w' base v' (l ++ news) ∧ Below base w0 w' ∧ base ≤ w'.heap.size := by
  obtain ⟨i, hi, hz, hs1, hs8⟩ := info64
  have hown' := hown
  unfold OW at hown'
  obtain ⟨v', w', hrun, h2, h3, _, h5⟩ := run_append_own_at (P := Try.prog) w base 40 ty 2 i (.int .i64 0) 1 8 Try.underlying40 hi hz hs1 hs8 rfl (by omega) v l.length (l.map (Value.int .i64)) hown' ad news.length c (news.map (Value.int .i64)) (by simp)
    (fun j u hj => by
      have hj' : j < news.length := by
        rcases Nat.lt_or_ge j news.length with h | h
        · exact h
        · rw [List.getElem?_eq_none (by simpa using h)] at hj; cases hj
      rw [hr j hj']
      simp [List.getD, hj'] at hj ⊢
      exact hj)
    (fun u hu => by obtain ⟨n, _, rfl⟩ := List.mem_map.mp hu; rfl) (by unfold maxLen; omega) (by omega) hb
  refine ⟨v', w', hrun, ?_, hB.grown h3 hb hown.own, Nat.le_trans hb h3.size⟩
  unfold OW
  rw [List.length_append, List.map_append]
  exact h2

theorem step_app {ops : Array Oper} {o : Oper} {a : Act} {w : World} {K : Act → World → Prop} {Q : Exit → Act → World → Prop} {E : Prop} (hgd : o.guard = none) (s x : Operand)
    (ho : o.op = .call { callee := .builtin .append, args := #[s, x], argTypes := #[40, 40] }) (w0 : World) (base : Nat) (v : Value) (l news : List Int) (ad : Addr) (c n : Nat) (hs : a.eval s = v) (hx : a.eval x = .slice (some ad) n c) (hn : news.length = n)
    (hown : OW w base v l) (hr : ∀ i, i < news.length → w.cell? (ad.add i) = some (.int .i64 (news.getD i 0))) (hlen : l.length + news.length ≤ 1000000) (hB : Below base w0 w) (hb : base ≤ w.heap.size)
    (h : ∀ v' w', OW w' base v' (l ++ news) → Below base w0 w' → base ≤ w'.heap.size → K (a.put o.dst v') w') : if Region.wanted o (yielded ops a.tmps) = true then Oper.wp Try.prog o a w K Q else E := by
  have hw : Region.wanted o (yielded ops a.tmps) = true := by simp [Region.wanted, hgd]
  rw [if_pos hw]
  subst hn
  obtain ⟨v', w', hrun, h2, h3, h4⟩ := app_run w0 base v l news ad c o.type hown hr hlen hB hb
  unfold Oper.wp execOp
  simp only [ho, resolve, invoke, builtin, Sem.run_bind, Sem.run_pure, Result.andThen_ok, List.map_toArray, List.map_cons, List.map_nil, hs, hx, hrun]
  exact h v' w' h2 h3 h4

theorem step_app_none {ops : Array Oper} {o : Oper} {a : Act} {w : World} {K : Act → World → Prop} {Q : Exit → Act → World → Prop} {E : Prop} (hgd : o.guard = none) (s x : Operand)
    (ho : o.op = .call { callee := .builtin .append, args := #[s, x], argTypes := #[40, 40] }) (base : Nat) (v : Value) (l : List Int) (hs : a.eval s = v) (hx : a.eval x = .slice none 0 0)
    (hown : OW w base v l) (h : K (a.put o.dst v) w) : if Region.wanted o (yielded ops a.tmps) = true then Oper.wp Try.prog o a w K Q else E := by
  have hw : Region.wanted o (yielded ops a.tmps) = true := by simp [Region.wanted, hgd]
  rw [if_pos hw]
  obtain ⟨i, hi, hz, hs1, hs8⟩ := info64
  unfold OW at hown
  have hrun := run_append_owned_none (P := Try.prog) w base 40 o.type 2 i 1 Try.underlying40 hi v l.length (l.map (Value.int .i64)) hown
  unfold Oper.wp execOp
  simp only [ho, resolve, invoke, builtin, Sem.run_bind, Sem.run_pure, Result.andThen_ok, List.map_toArray, List.map_cons, List.map_nil, hs, hx, hrun]
  exact h

/-- an empty slice literal -/
theorem OW.lit {w : World} {base : Nat} (hb : base ≤ w.heap.size) : OW (w.alloc (.cells #[] 2)) base (.slice (some ⟨w.heap.size, 0, none⟩) 0 0) [] :=
  World.ownsRow_lit w #[] 0 hb (by decide) rfl

theorem OW.litd {w : World} {base : Nat} (hb : base ≤ w.heap.size) : OW (w.alloc (.cells #[] 2)).drew base (.slice (some ⟨w.heap.size, 0, none⟩) 0 0) [] :=
  OW.lit (w := w.drew) hb

/-- a part of a row -/
theorem RowAt.cells {w : World} {a : Addr} {l : List Int} (h : RowAt .i64 w (some a) l) : ∀ i, i < l.length → w.cell? (a.add i) = some (.int .i64 (l.getD i 0)) := by
  intro i hi
  rcases h with h | ⟨b, off, ha, hlt, hc⟩
  · subst h; cases hi
  · cases ha
    have := hc i hi
    unfold Addr.add
    split
    · next h0 => simpa [h0] using this
    · simpa using this
end Go.Proofs.Ytaebbfaheaghfaa
