/- A slice of int64 in memory, read as a list; holidays in memory, read as a list. -/
import Derived.Test.YtijhfjehdpgjmaaDoorCivB
import Derived.Maps.OwnSet
import Derived.Maps.OwnIn
import Derived.Maps.AppendAt
import Derived.Maps.Range
namespace Go.Proofs.YtijhfjehdpgjmaaDoor
open Go.RowKit Go.Sort

/-- the numbers l lie, one behind the other, from a on -/
def RowAt (w : World) (a : Option Addr) (l : List Int) : Prop :=
  l = [] ∨ ∃ b off, a = some ⟨b, off, none⟩ ∧ b < w.heap.size ∧ ∀ i, i < l.length → w.cell? ⟨b, off + i, none⟩ = some (.int .i64 (l.getD i 0))

theorem RowAt.gr {w w' : World} {a : Option Addr} {l : List Int} (h : RowAt w a l) (hg : Gr w w') : RowAt w' a l := by
  rcases h with h | ⟨b, off, ha, hlt, hc⟩
  · exact Or.inl h
  · exact Or.inr ⟨b, off, ha, Nat.lt_of_lt_of_le hlt hg.size, fun i hi => gcell hg hlt (hc i hi)⟩

theorem getD_I (l : List Int) (hI : ∀ n ∈ l, I n) (k : Nat) (h : k < l.length) : I (l.getD k 0) := by
  have : l.getD k 0 = l[k] := by simp [h]
  rw [this]
  exact hI _ (List.getElem_mem h)

theorem I.wf {n : Int} (h : I n) : (Lit.int .i64 n).wf = true := by
  obtain ⟨h1, h2⟩ := h
  have e1 : IntKind.i64.min = -9223372036854775808 := by decide
  have e2 : IntKind.i64.max = 9223372036854775807 := by decide
  simp [Lit.wf, e1, e2]
  omega

theorem lawK : Maps.Keyed Tryd.prog 2 := Maps.int_keyed Tryd.underlying2
theorem zeroU (w : World) : (zeroValue 54).run Tryd.prog w = .ok (.agg #[]) w := by kernel_rfl
theorem undM : Tryd.prog.underlying 51 = some (.map 2 54) := by kernel_rfl
theorem mkMap (n : Nat) (w : World) : (Instr.makeMap 51 (some (.int .i64 (n : Int)))).run Tryd.prog w = .ok (.map (some w.heap.size)) (w.alloc (.map #[] 0)) := by
  simp [Instr.makeMap, run_underlying undM, asInt, asIntOf, Result.andThen]

/-- block m holds the set of the numbers l -/
def SetAt (w : World) (m : Nat) (l : List Int) : Prop :=
  ∃ n, n ≤ l.length ∧ ∃ D : DataW Unit, w.ownsMap Tryd.prog 2 unitElem m n D ∧ ∀ x : Int, Maps.has D (.int .i64 x) = decide (x ∈ l)
/-- block b holds a Days with these holidays -/
def Cal (w : World) (b : Nat) (l : List Int) : Prop :=
  b < w.heap.size ∧ ∃ m, w.cell? ⟨b, 0, none⟩ = some (.map (some m)) ∧ SetAt w m l

theorem Gr.grown {a b : World} (h : Gr a b) : a.grownBy b none :=
  ⟨h.below.os, h.below.tape, h.below.output, h.size, fun k hk _ => h.below.block k hk⟩

theorem SetAt.gr {w w' : World} {m : Nat} {l : List Int} (h : SetAt w m l) (hg : Gr w w') : SetAt w' m l := by
  obtain ⟨n, hn, D, ho, hD⟩ := h
  exact ⟨n, hn, D, ho.kept hg.grown (by simp), hD⟩
theorem SetAt.lt {w : World} {m : Nat} {l : List Int} (h : SetAt w m l) : m < w.heap.size := by
  obtain ⟨n, hn, D, ho, hD⟩ := h
  exact ho.lt
theorem SetAt.set {w : World} {m : Nat} {l : List Int} (h : SetAt w m l) {p : Addr} (hp : m ≠ p.block) (v : Value) : SetAt (w.setCell p v) m l := by
  obtain ⟨n, hn, D, ho, hD⟩ := h
  exact ⟨n, hn, D, ho.setCell hp v, hD⟩
theorem Cal.gr {w w' : World} {b : Nat} {l : List Int} (h : Cal w b l) (hg : Gr w w') : Cal w' b l := by
  obtain ⟨hb, m, hc, hs⟩ := h
  exact ⟨Nat.lt_of_lt_of_le hb hg.size, m, gcell hg hb hc, hs.gr hg⟩
theorem SetAt.made (w : World) : SetAt (w.alloc (.map #[] 0)) w.heap.size [] :=
  ⟨0, by simp, .map [], World.ownsMap_made _ _ _ _, fun x => by simp [Maps.has]⟩

theorem Gr.turned {a b c : World} {m : Nat} (h : Gr a b) (ht : b.mapTurned c m) (hm : a.heap.size ≤ m) : Gr a c := by
  obtain ⟨q, os, rfl⟩ := h
  obtain ⟨es, cl, es', cl', hb, rfl⟩ := ht
  refine ⟨q, os.setIfInBounds (m - a.heap.size) (.map es' cl'), ?_⟩
  unfold ChangeMaps.setBlock Sort.grow
  simp only [World.heap_drewN]
  rw [Array.setIfInBounds_append_right hm]

/-- 'm[k] = struct{}{}' -/
theorem SetAt.put {w : World} {m : Nat} {l : List Int} (h : SetAt w m l) (x : Int) (hx : I x) (hl : l.length < 1000000) :
    ∃ w', (Instr.mapUpdate 51 (.map (some m)) (.int .i64 x) (.agg #[])).run Tryd.prog w = .ok () w' ∧ SetAt w' m (l ++ [x]) ∧ w.mapTurned w' m := by
  obtain ⟨n, hn, D, ho, hD⟩ := h
  obtain ⟨w', hrun, ho', ht⟩ := ho.store lawK undM (by unfold maxLen; omega) (Maps.keyOf_int_mk Tryd.underlying2 hx.wf) unitElem_mk
  refine ⟨w', hrun, ⟨n + 1, by simp; omega, _, ho', fun y => ?_⟩, ht⟩
  by_cases hy : y = x
  · subst hy
    rw [Maps.has_put_same ho.isMap (lawK.key (Maps.keyOf_int_mk Tryd.underlying2 hx.wf))]
    simp
  · rw [Maps.has_put_other (by intro e; injection e with _ e2; exact hy e2), hD y]
    simp [hy]
/-- '_, ok := m[k]' -/
theorem SetAt.look {w : World} {m : Nat} {l : List Int} (h : SetAt w m l) (x : Int) (hx : I x) :
    (Instr.lookup 51 (.map (some m)) (.int .i64 x) true).run Tryd.prog w = .ok (.tuple #[.agg #[], .bool (decide (x ∈ l))]) w := by
  obtain ⟨n, hn, D, ho, hD⟩ := h
  obtain ⟨v, ps, hrun, hv⟩ := ho.look_ok lawK undM (zeroU w) unitElem_mk (Maps.keyOf_int_mk Tryd.underlying2 hx.wf)
  obtain ⟨rfl, _⟩ := unitElem_inv hv
  rw [hrun, hD x]

/-- is it a business day? -/
def biz (l : List Int) (n : Int) : Prop := n ∉ l ∧ n % 7 < 5
instance (l : List Int) (n : Int) : Decidable (biz l n) := by unfold biz; infer_instance

set_option maxHeartbeats 400000 in
theorem business_any (b : Nat) (l : List Int) (n : Int) (w : World) (hn : I n) (hc : Cal w b l) :
    Calls Tryd.prog 23 #[.pointer (some ⟨b, 0, none⟩), .int .i64 n] w fun e w' => e = .returned (.bool (decide (biz l n))) ∧ Gr w w' := by
  obtain ⟨hb, m, hcell, hs⟩ := hc
  have hrun := hs.look n hn
  have C : ∀ W, Hid (Calls Tryd.prog 36 #[.int .i64 n] W fun e w' => e = .returned (.int .i64 (n % 7)) ∧ W = w') := fun W => week_any n W hn
  clear hs hn
  have HB := Lib.hid (show biz l n ↔ n ∉ l ∧ n % 7 < 5 from Iff.rfl)
  generalize n % 7 = r at *
  by_cases hm : n ∈ l
  · have hd : decide (n ∈ l) = true := by simpa using hm
    rw [hd] at hrun
    have HE := Lib.hid (show decide (biz l n) = false by rw [decide_eq_false_iff_not, HB.out]; exact fun h => h.1 hm)
    clear hm hd HB C
    go_enter Tryd.func23, Tryd.ntmps23
    go_wp2
    go_ret
    exact ⟨by rw [HE.out]; rfl, (Gr.refl _).alloc _⟩
  · have hd : decide (n ∈ l) = false := by simpa using hm
    rw [hd] at hrun
    have HE := Lib.hid (show decide (biz l n) = decide (r < 5) by rw [decide_eq_decide, HB.out]; exact ⟨fun h => h.2, fun h => ⟨hm, h⟩⟩)
    clear hm hd HB
    go_enter Tryd.func23, Tryd.ntmps23
    go_wp2_with fail
    refine (C _).out.mono ?_
    rintro e w1 ⟨rfl, rfl⟩
    go_wp2
    go_ret
    exact ⟨by rw [HE.out]; rfl, (Gr.refl _).alloc _⟩
end Go.Proofs.YtijhfjehdpgjmaaDoor
