/- A slice of int64 that the call itself has made by append, and that it writes to. -/
import Derived.Test.YtijhfjehdpgjmaaDoorCalNewFar
import Derived.Maps.AppendAt
import Derived.Deep.RegionLaw
import Derived.Deep.DrawnRows
namespace Go.Proofs.YtijhfjehdpgjmaaDoor
open Go.RowKit Go.Sort

theorem RowAt.below {w w' : World} {a : Option Addr} {l : List Int} (h : RowAt w a l) (hb : RowKit.Below w.heap.size w w') : RowAt w' a l := by
  rcases h with h | ⟨b, off, ha, hlt, hc⟩
  · exact Or.inl h
  · refine Or.inr ⟨b, off, ha, Nat.lt_of_lt_of_le hlt hb.size, fun i hi => ?_⟩
    rw [hb.cell (p := ⟨b, off + i, none⟩) hlt]
    exact hc i hi
theorem RowAt.cells {w : World} {a : Addr} {l : List Int} (h : RowAt w (some a) l) : ∀ i, i < l.length → w.cell? (a.add i) = some (.int .i64 (l.getD i 0)) := by
  intro i hi
  rcases h with h | ⟨b, off, ha, hlt, hc⟩
  · subst h; cases hi
  · cases ha
    have := hc i hi
    unfold Addr.add
    split
    · next h0 => simpa [h0] using this
    · simpa using this

/-- v is a slice of the call's own (it lies from block 'base' on) that holds l -/
def OW (w : World) (base : Nat) (v : Value) (l : List Int) : Prop := w.ownsRow base 2 1 v l.length (l.map (Value.int .i64))
/-- the first n cells of block g hold numbers, and may be written -/
def OwnAt (w : World) (g n : Nat) : Prop := g < w.heap.size ∧ ∀ i, i < n → (∃ x, w.cell? ⟨g, i, none⟩ = some (.int .i64 x)) ∧ w.frozen? ⟨g, i, none⟩ = false
theorem OwnAt.gr {w w' : World} {g n : Nat} (h : OwnAt w g n) (hg : Gr w w') : OwnAt w' g n :=
  ⟨Nat.lt_of_lt_of_le h.1 hg.size, fun i hi => by
    obtain ⟨⟨x, hx⟩, hf⟩ := h.2 i hi
    exact ⟨⟨x, gcell hg h.1 hx⟩, by rw [World.frozen?_of_block (hg.below.block g h.1)]; exact hf⟩⟩
theorem OwnAt.set {w : World} {g n : Nat} (h : OwnAt w g n) (k : Nat) (y : Int) : OwnAt (w.setCell ⟨g, k, none⟩ (.int .i64 y)) g n := by
  refine ⟨by simpa using h.1, fun i hi => ?_⟩
  obtain ⟨⟨x, hx⟩, hf⟩ := h.2 i hi
  constructor
  · by_cases hik : i = k
    · subst hik
      exact ⟨y, by simp [go_sem, hx]⟩
    · exact ⟨x, by simp [go_sem, hx]⟩
  · simpa [go_sem] using hf

/-- what append of l to an empty slice of one's own gives -/
def AppYes (base : Nat) (l : List Int) (w w' : World) (v : Value) : Prop :=
  ∃ g cap, v = .slice (some ⟨g, 0, none⟩) l.length cap ∧ base ≤ g ∧ OwnAt w' g l.length ∧ RowAt w' (some ⟨g, 0, none⟩) l ∧ RowKit.Below base w w'
theorem info64 : ∃ i, Tryd.prog.info? 2 = some i ∧ i.zero = some (.int .i64 0) ∧ i.size = 1 ∧ i.bytes = 8 := by
  have h : (Tryd.prog.info? 2).map (fun i => (i.zero, i.size, i.bytes)) = some (some (.int .i64 0), 1, 8) := by kernel_rfl
  cases hi : Tryd.prog.info? 2 with
  | none => rw [hi] at h; cases h
  | some i =>
    rw [hi] at h
    simp only [Option.map_some, Option.some.injEq, Prod.mk.injEq] at h
    exact ⟨i, rfl, h.1, h.2.1, h.2.2⟩

theorem AppYes.of_own {B : Nat} {l : List Int} {w w' : World} {v : Value} (h : w'.ownsRow B 2 1 v l.length (l.map (Value.int .i64))) (hv : v ≠ .slice none 0 0) (hb : RowKit.Below B w w') : AppYes B l w w' v := by
  have h' := h
  rcases h'.2 with ⟨hv', _⟩ | ⟨g, cap, cur, hv', hbg, hg, hr⟩
  · exact absurd hv' hv
  · have hlt : g < w'.heap.size := by
      rcases Nat.lt_or_ge g w'.heap.size with hlt | hge
      · exact hlt
      · rw [Array.getElem?_eq_none hge] at hg; cases hg
    rw [hv'] at h
    have hcell : ∀ i, i < l.length → w'.cell? ⟨g, i, none⟩ = some (.int .i64 (l.getD i 0)) := fun i hi => by
      rw [World.ownsRow.cellAt h i (by omega)]
      simp [List.getD, hi]
    refine ⟨g, cap, hv', hbg, ⟨hlt, fun i hi => ⟨⟨_, hcell i hi⟩, ?_⟩⟩, Or.inr ⟨g, 0, rfl, hlt, fun i hi => by rw [Nat.zero_add]; exact hcell i hi⟩, hb⟩
    simp [World.frozen?, hg]

theorem app_empty (w : World) (B : Nat) (hB : B ≤ w.heap.size) (ad : Option Addr) (l : List Int) (c : Nat) (ty : TypeId) (hc : ad = none → c = 0 ∧ l = []) (hr : RowAt (w.alloc (.cells #[] 2)) ad l) (hl : l.length ≤ 1000000) :
    ∃ v' w', (Builtin.append_ #[27, 27] ty #[.slice (some ⟨w.heap.size, 0, none⟩) 0 0, .slice ad l.length c]).run Tryd.prog (w.alloc (.cells #[] 2)) = .ok v' w' ∧ AppYes B l (w.alloc (.cells #[] 2)) w' v' := by
  obtain ⟨i, hi, hz, hs1, hs8⟩ := info64
  have hown : (w.alloc (.cells #[] 2)).ownsRow B 2 1 (.slice (some ⟨w.heap.size, 0, none⟩) 0 0) 0 [] := World.ownsRow_lit w #[] 0 hB (by decide) rfl
  cases ad with
  | none =>
    obtain ⟨rfl, rfl⟩ := hc rfl
    have hrun := run_append_owned_none (P := Tryd.prog) (w.alloc (.cells #[] 2)) B 27 ty 2 i 1 Tryd.underlying27 hi _ 0 [] hown
    exact ⟨_, _, hrun, AppYes.of_own (l := []) hown (by simp) (RowKit.Below.refl _ _)⟩
  | some p =>
    obtain ⟨v', w', hrun, h2, h3, h4, _⟩ := run_append_own_at (P := Tryd.prog) (w.alloc (.cells #[] 2)) B 27 ty 2 i (.int .i64 0) 1 8 Tryd.underlying27 hi hz hs1 hs8 rfl (by omega) _ 0 [] hown p l.length c (l.map (Value.int .i64)) (by simp)
      (fun j u hj => by
        have hj' : j < l.length := by
          rcases Nat.lt_or_ge j l.length with h | h
          · exact h
          · rw [List.getElem?_eq_none (by simpa using h)] at hj; cases hj
        rw [hr.cells j hj']
        simp [List.getD, hj'] at hj ⊢
        exact hj)
      (fun u hu => by obtain ⟨n, _, rfl⟩ := List.mem_map.mp hu; rfl) (by unfold maxLen; omega) (by omega) (by simp; omega)
    refine ⟨v', w', hrun, AppYes.of_own (by simpa using h2) (fun h => by simpa using (h4.mp h).1) ?_⟩
    exact (RowKit.Below.refl _ _).grown h3 (by simp; omega) (fun k hk => by simp [Value.ownBlock] at hk; omega)

theorem wpList_app_empty {ops : Array Oper} {rest : List Oper} {o : Oper} {a : Act} {Q : Exit → Act → World → Prop} (w : World) (hgd : o.guard = none) (s x : Operand)
    (ho : o.op = .call { callee := .builtin .append, args := #[s, x], argTypes := #[27, 27] }) (B : Nat) (hB : B ≤ w.heap.size) (ad : Option Addr) (l : List Int) (c n : Nat) (hs : a.eval s = .slice (some ⟨w.heap.size, 0, none⟩) 0 0) (hx : a.eval x = .slice ad n c) (hn : l.length = n)
    (hc : ad = none → c = 0 ∧ l = []) (hr : RowAt (w.alloc (.cells #[] 2)) ad l) (hl : l.length ≤ 1000000)
    (h : ∀ v' w', AppYes B l (w.alloc (.cells #[] 2)) w' v' → wpList Tryd.prog ops Q rest (a.put o.dst v') w') : wpList Tryd.prog ops Q (o :: rest) a (w.alloc (.cells #[] 2)) :=
  wpList_plain hgd fun K hK => by
    subst hn
    obtain ⟨v', w', hrun, h2⟩ := app_empty w B hB ad l c o.type hc hr hl
    unfold Oper.wp execOp
    simp only [ho, resolve, invoke, builtin, Sem.run_bind, Sem.run_pure, Result.andThen_ok, List.map_toArray, List.map_cons, List.map_nil, hs, hx, hrun]
    exact hK _ _ (h v' w' h2)
end Go.Proofs.YtijhfjehdpgjmaaDoor
