/- Resets of the call's own: what append makes of them. -/
import Derived.Test.YtgokihclfdkgeaaRtA
import Derived.Maps.AppendAt
import Derived.Deep.AppendSrc
import Derived.Deep.RegionLaw
import Derived.Deep.DrawnRows
namespace Go.Proofs.Ytgokihclfdkgeaa
open Go.RowKit Go.Sort

def cellsR (l : List Rs) : List Value := l.flatMap fun r => [.int .i64 r.1, .int .i64 r.2]
theorem cellsR_len (l : List Rs) : (cellsR l).length = l.length * 2 := by
  induction l with
  | nil => rfl
  | cons r l ih => unfold cellsR at *; rw [List.flatMap_cons, List.length_append, ih, List.length_cons]; simp; omega
theorem cellsR_app (l k : List Rs) : cellsR (l ++ k) = cellsR l ++ cellsR k := by unfold cellsR; rw [List.flatMap_append]
theorem cellsR_get (l : List Rs) : ∀ i, i < l.length → (cellsR l)[i * 2]? = some (.int .i64 (rsD l i)) ∧ (cellsR l)[i * 2 + 1]? = some (.int .i64 (rsX l i)) := by
  induction l with
  | nil => intro i hi; cases hi
  | cons r l ih =>
    intro i hi
    have e : cellsR (r :: l) = .int .i64 r.1 :: .int .i64 r.2 :: cellsR l := rfl
    rw [e]
    cases i with
    | zero => exact ⟨rfl, rfl⟩
    | succ i =>
      have := ih i (by simpa using hi)
      have e2 : (i + 1) * 2 = i * 2 + 2 := by omega
      rw [e2]
      exact this
theorem cellsR_one {l : List Rs} : ∀ u ∈ cellsR l, u.oneCell' = true := by
  intro u hu
  unfold cellsR at hu
  rw [List.mem_flatMap] at hu
  obtain ⟨r, _, hr⟩ := hu
  simp at hr
  rcases hr with rfl | rfl <;> rfl
/-- what lies at a, cell by cell -/
theorem RsAt.cells {w : World} {a : Addr} {l : List Rs} (h : RsAt w (some a) l) : ∀ j u, (cellsR l)[j]? = some u → w.cell? (a.add j) = some u := by
  intro j u hj
  have hjl : j < l.length * 2 := by
    rcases Nat.lt_or_ge j (l.length * 2) with h | h
    · exact h
    · rw [List.getElem?_eq_none (by rw [cellsR_len]; exact h)] at hj; cases hj
  obtain ⟨b, off, ha, hb, hc⟩ := h.at (i := 0) (by omega)
  cases ha
  obtain ⟨c0, c1⟩ := hc (j / 2) (by omega)
  obtain ⟨g0, g1⟩ := cellsR_get l (j / 2) (by omega)
  have ea : (⟨b, off, none⟩ : Addr).add j = ⟨b, off + j, none⟩ := by
    unfold Addr.add; split
    · next h0 => simp
    · rfl
  rw [ea]
  rcases Nat.mod_two_eq_zero_or_one j with e | e
  · have e1 : j / 2 * 2 = j := by omega
    rw [e1] at c0 g0
    rw [g0] at hj
    rw [c0, ← hj]
  · have e1 : j / 2 * 2 + 1 = j := by omega
    have e2 : off + j / 2 * 2 + 1 = off + j := by omega
    rw [e1] at g1
    rw [e2] at c1
    rw [g1] at hj
    rw [c1, ← hj]

/-- v is a slice of the call's own (it lies from block 'base' on) that holds l -/
def OR (w : World) (base : Nat) (v : Value) (l : List Rs) : Prop := w.ownsRow base 42 2 v l.length (cellsR l)
theorem OR.row {w : World} {base : Nat} {v : Value} {l : List Rs} (h : OR w base v l) : ∃ a cap, v = .slice a l.length cap ∧ RsAt w a l ∧ l.length ≤ cap ∧ (a = none → cap = 0) := by
  have h' := h
  unfold OR at h'
  rcases h'.2 with ⟨hv, hn⟩ | ⟨g, cap, cur, hv, hb, hg, hr⟩
  · exact ⟨none, 0, by rw [hv, hn], Or.inl (List.length_eq_zero_iff.mp hn), by omega, fun _ => rfl⟩
  · refine ⟨_, _, hv, Or.inr ⟨g, 0, rfl, ?_, fun i hi => ?_⟩, hr.1, fun h => by cases h⟩
    · rcases Nat.lt_or_ge g w.heap.size with hlt | hge
      · exact hlt
      · rw [Array.getElem?_eq_none hge] at hg; cases hg
    · rw [Nat.zero_add]
      rw [hv] at h'
      rw [World.ownsRow.cellAt h' (i * 2) (by omega), World.ownsRow.cellAt h' (i * 2 + 1) (by omega)]
      exact cellsR_get l i hi
theorem OR.own {w : World} {base : Nat} {v : Value} {l : List Rs} (h : OR w base v l) : ∀ k, v.ownBlock = some k → base ≤ k := fun k hk => (World.ownsRow.lt h k hk).1
theorem infoR : ∃ i, Try.prog.info? 42 = some i ∧ i.zero = some (.agg #[.int .i64 0, .int .i64 0]) ∧ i.size = 2 ∧ i.bytes = 16 := by
  have h : (Try.prog.info? 42).map (fun i => (i.zero, i.size, i.bytes)) = some (some (.agg #[.int .i64 0, .int .i64 0]), 2, 16) := by kernel_rfl
  cases hi : Try.prog.info? 42 with
  | none => rw [hi] at h; cases h
  | some i =>
    rw [hi] at h
    simp only [Option.map_some, Option.some.injEq, Prod.mk.injEq] at h
    exact ⟨i, rfl, h.1, h.2.1, h.2.2⟩

/-- append to a slice without spare room: a new row -/
theorem app_full (w : World) (ao : Option Addr) (l k : List Rs) (ad : Addr) (cp c : Nat) (ty : TypeId) (hr : RsAt w ao l) (hn : ao = none → l = []) (hk : RsAt w (some ad) k) (hlen : l.length + k.length ≤ 1000000) (hcap : cp < l.length + k.length) :
    ∃ v' w', (Builtin.append_ #[40, 40] ty #[.slice ao l.length cp, .slice (some ad) k.length c]).run Try.prog w = .ok v' w' ∧ OR w' w.heap.size v' (l ++ k) ∧ Gr w w' ∧ v' ≠ .slice none 0 0 := by
  obtain ⟨i, hi, hz, hs2, hs16⟩ := infoR
  have hold : (Builtin.firstCells i.size l.length (.slice ao l.length cp)).run Try.prog w.drew = .ok (cellsR l).toArray w.drew := by
    cases ao with
    | none =>
      rw [hn rfl]
      exact run_firstCells_none w.drew i.size 0 0 cp
    | some b =>
      refine run_firstCells_some (P := Try.prog) w.drew i.size l.length b l.length cp (cellsR l) (by rw [cellsR_len, hs2]) (fun j u hj => ?_)
      have := hr.cells j u hj
      simpa using this
  have hsrc : Src Try.prog i.size 40 (.slice (some ad) k.length c) k.length (cellsR k) w := Src.ofSlice w (e' := 42) Try.underlying40 ad k.length c (cellsR k) (by rw [cellsR_len, hs2]) hk.cells cellsR_one
  have hml : l.length + k.length ≤ maxLen := by unfold maxLen; omega
  have hrun := run_append_grow_src (P := Try.prog) w 40 40 ty 42 i _ Try.underlying40 hi hz ao l.length cp (cellsR l) hold _ k.length (cellsR k) hsrc hcap (by omega) (by rw [hs16]; exact growslice_fits hcap (by omega))
  have hge := grownCap_ge w (l.length + k.length) cp 42
  have hcm := grownCap_le_maxLen w (l.length + k.length) cp 42 hml
  refine ⟨_, _, hrun, ?_, (Gr.refl w).drew.alloc _, by simp⟩
  have hlen2 : (cellsR l ++ cellsR k).length = (l.length + k.length) * 2 := by rw [List.length_append, cellsR_len, cellsR_len, Nat.add_mul]
  unfold OR
  rw [List.length_append, cellsR_app]
  refine ⟨hlen2, .inr ⟨w.heap.size, _, _, rfl, Nat.le_refl _, heap_alloc_new w.drew _, hge, hcm, ?_, ?_⟩⟩
  · simp only [Array.size_append, List.size_toArray, size_zeroCells, hlen2]
    show _ + _ * 2 = _
    rw [← Nat.add_mul]
    congr 1
    omega
  · simp only [Array.toList_append]
    rw [← hlen2]
    exact List.take_left

theorem step_full {ops : Array Oper} {o : Oper} {a : Act} {w : World} {K : Act → World → Prop} {Q : Exit → Act → World → Prop} {E : Prop} (hgd : o.guard = none) (s x : Operand)
    (ho : o.op = .call { callee := .builtin .append, args := #[s, x], argTypes := #[40, 40] }) (ao : Option Addr) (l k : List Rs) (ad : Addr) (n cp m c : Nat) (hs : a.eval s = .slice ao n cp) (hx : a.eval x = .slice (some ad) m c) (en : l.length = n) (em : k.length = m)
    (hr : RsAt w ao l) (hn : ao = none → l = []) (hk : RsAt w (some ad) k) (hlen : l.length + k.length ≤ 1000000) (hcap : cp < l.length + k.length)
    (h : ∀ v' w', OR w' w.heap.size v' (l ++ k) → Gr w w' → K (a.put o.dst v') w') : if Region.wanted o (yielded ops a.tmps) = true then Oper.wp Try.prog o a w K Q else E := by
  have hw : Region.wanted o (yielded ops a.tmps) = true := by simp [Region.wanted, hgd]
  rw [if_pos hw]
  subst en em
  obtain ⟨v', w', hrun, h2, h3, _⟩ := app_full w ao l k ad cp c o.type hr hn hk hlen hcap
  unfold Oper.wp execOp
  simp only [ho, resolve, invoke, builtin, Sem.run_bind, Sem.run_pure, Result.andThen_ok, List.map_toArray, List.map_cons, List.map_nil, hs, hx, hrun]
  exact h v' w' h2 h3
end Go.Proofs.Ytgokihclfdkgeaa
