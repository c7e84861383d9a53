/- The two slices, cell by cell. A rest, loaded out of its slice; the slices with one place set. The two slices with one place set; a part that is given one cent more. -/
import Derived.Test.YtaebbfaheaghfaaCutsM
import Derived.Test.YtaebbfaheaghfaaCutsP
import Derived.Laws.OwnMore
import Derived.Shelf.SlSortCmp.QuietGrown
import Derived.Test.YtaebbfaheaghfaaRefE
import Derived.Deep.MidRow
import Derived.Test.YtaebbfaheaghfaaCutRes

namespace Go.Proofs.Ytaebbfaheaghfaa
open Go.RowKit Go.Sort

structure TwoC (w : World) (bo br n : Nat) (O R : Nat → Int) : Prop where
  hbo : bo < w.heap.size
  hbr : br < w.heap.size
  ne : bo ≠ br
  oc : ∀ j, j < n → w.cell? ⟨bo, j, none⟩ = some (.int .i64 (O j))
  ofz : ∀ j, w.frozen? ⟨bo, j, none⟩ = false
  rc : ∀ j, j < n → ∀ c, c < 11 → w.cell? ⟨br, j * 11 + c, none⟩ = (numC (R j))[c]?
  rfz : ∀ j, w.frozen? ⟨br, j, none⟩ = false

theorem Two.cells {w : World} {base : Nat} {vo vr : Value} {lo lr : List Int} (h : Two w base vo vr lo lr) : ∃ bo br co cr, vo = .slice (some ⟨bo, 0, none⟩) lo.length co ∧ vr = .slice (some ⟨br, 0, none⟩) lr.length cr ∧ base ≤ bo ∧ base ≤ br ∧ ∀ n, n = lo.length → n = lr.length → TwoC w bo br n (fun j => lo.getD j 0) (fun j => lr.getD j 0) := by
  obtain ⟨ho, hr, bo, br, e1, e2, e3⟩ := h
  have k1 := row_block ho bo e1
  have k2 := row_block hr br e2
  unfold OW at ho
  unfold NW at hr
  obtain ⟨co, h1⟩ : ∃ co, vo = .slice (some ⟨bo, 0, none⟩) lo.length co := by
    rcases ho.2 with ⟨h2, _⟩ | ⟨g, c, cur, hv, _⟩
    · rw [h2] at e1; cases e1
    · rw [hv] at e1
      have e : g = bo := by simpa [Value.ownBlock] using e1
      subst e
      exact ⟨c, hv⟩
  obtain ⟨cr, h2⟩ : ∃ cr, vr = .slice (some ⟨br, 0, none⟩) lr.length cr := by
    rcases hr.2 with ⟨h2, _⟩ | ⟨g, c, cur, hv, _⟩
    · rw [h2] at e2; cases e2
    · rw [hv] at e2
      have e : g = br := by simpa [Value.ownBlock] using e2
      subst e
      exact ⟨c, hv⟩
  subst h1 h2
  refine ⟨bo, br, co, cr, rfl, rfl, k1.2, k2.2, fun n hn1 hn2 => ⟨k1.1, k2.1, e3, fun j hj => ?_, fun j => ho.frozenAt j, fun j hj c hc => ?_, fun j => hr.frozenAt j⟩⟩
  · rw [ho.cellAt j (by omega)]
    simp [List.getD, show j < lo.length by omega]
  · rw [hr.cellAt (j * 11 + c) (by omega), numsC_at lr j c (by omega) hc]

theorem TwoC.below {w w' : World} {bo br n : Nat} {O R : Nat → Int} (h : TwoC w bo br n O R) (hb : RowKit.Below w.heap.size w w') : TwoC w' bo br n O R :=
  ⟨Nat.lt_of_lt_of_le h.hbo hb.size, Nat.lt_of_lt_of_le h.hbr hb.size, h.ne, fun j hj => by rw [hb.cell (p := ⟨bo, j, none⟩) h.hbo]; exact h.oc j hj, fun j => by rw [hb.frozen (p := ⟨bo, j, none⟩) h.hbo]; exact h.ofz j,
   fun j hj c hc => by rw [hb.cell (p := ⟨br, j * 11 + c, none⟩) h.hbr]; exact h.rc j hj c hc, fun j => by rw [hb.frozen (p := ⟨br, j, none⟩) h.hbr]; exact h.rfz j⟩
theorem TwoC.congr {w : World} {bo br n : Nat} {O R O' R' : Nat → Int} (h : TwoC w bo br n O R) (h1 : ∀ j, j < n → O' j = O j) (h2 : ∀ j, j < n → R' j = R j) : TwoC w bo br n O' R' :=
  ⟨h.hbo, h.hbr, h.ne, fun j hj => by rw [h1 j hj]; exact h.oc j hj, h.ofz, fun j hj c hc => by rw [h2 j hj]; exact h.rc j hj c hc, h.rfz⟩

theorem made_grow {w w' : World} (h : Made w w') : ∃ q os, w' = grow (w.drewN q) os := by
  obtain ⟨L, n, rfl⟩ := h
  have key : ∀ (L : List Obj) (w : World), grew w L = grow w L.toArray := by
    intro L
    induction L with
    | nil => intro w; simp [grew]
    | cons a L ih =>
      intro w
      show grew (w.alloc a) L = _
      rw [ih, alloc_eq_grow, grow_grow]
      simp
  exact ⟨n, L.toArray, by rw [key]; rfl⟩
end Go.Proofs.Ytaebbfaheaghfaa

namespace Go.Proofs.Ytaebbfaheaghfaa
open Go.RowKit Go.Sort

/-- in a region that draws: an operation that only loads -/
theorem wpQuiet_load {P : Program} {ops : Array Oper} {C : World → Prop} {Q : Act → Prop} {a : Act} {o : Oper} {rest : List Oper} (hgd : o.guard = none) (t : TypeId) (x : Operand) (ho : o.op = .load t x) (p : Value) (hx : a.eval x = p) (v : Value)
    (hrun : ∀ w, C w → (Instr.loadAt t p).run P w = .ok v w) (h : wpQuiet P ops C Q rest (a.put o.dst v)) : wpQuiet P ops C Q (o :: rest) a :=
  wpQuiet_step fun K hK => by
    simp only [Region.wanted, hgd, if_true]
    refine ⟨v, fun w hw => ?_, hK _ h⟩
    unfold Oper.quietAt execOp
    simp only [ho, hx, Sem.run_bind, hrun w hw, Result.andThen_ok, Sem.run_pure]
    exact ⟨rfl, rfl⟩
theorem numC_arr (n : Int) : Value.agg (numC n).toArray = V n := rfl
theorem sizeNum : (Try.prog.info? 31).map (·.size) = some 11 := by kernel_rfl
theorem rest_load {w : World} {bo br n : Nat} {O R : Nat → Int} (h : TwoC w bo br n O R) (j : Nat) (hj : j < n) (q : Nat) (os : Array Obj) :
    (Instr.loadAt 31 (.pointer (some ⟨br, j * 11, none⟩))).run Try.prog (grow (w.drewN q) os) = .ok (V (R j)) (grow (w.drewN q) os) := by
  have := run_loadAt_mid (P := Try.prog) (grow (w.drewN q) os) br (j * 11) 31 (numC (R j)) _ (fun c v hv => by
    have hc : c < 11 := by
      rcases Nat.lt_or_ge c 11 with k | k
      · exact k
      · rw [List.getElem?_eq_none (by rw [numC_len]; exact k)] at hv; cases hv
    rw [cell?_grow _ _ _ (by exact h.hbr)]
    exact (h.rc j hj c hc).trans hv) Try.underlying31 rfl (by rw [sizeNum, numC_len])
  exact this
theorem compare_grow (a b : Int) (w : World) (q : Nat) (os : Array Obj) (ha : Far a) (hb : Far b) :
    Calls Try.prog 33 #[V a, V b] (grow (w.drewN q) os) fun e w'' => e = .returned (.int .i64 (cmpI a b)) ∧ ∃ p : GrownBy, w'' = grow (w.drewN p.n) p.os :=
  Calls.grown_of ((compare_any a b _ ha hb).mono fun _ _ ⟨he, hm⟩ => ⟨he, made_grow hm⟩)
theorem grow_below (w : World) (q : Nat) (os : Array Obj) : RowKit.Below w.heap.size w (grow (w.drewN q) os) :=
  ⟨rfl, rfl, rfl, by rw [size_grow]; exact Nat.le_add_right _ _, fun k hk => heap_grow_old (w.drewN q) os hk⟩
end Go.Proofs.Ytaebbfaheaghfaa

namespace Go.Proofs.Ytaebbfaheaghfaa
open Go.RowKit Go.Sort

theorem size_setCells (b : Nat) : ∀ (vs : List Value) (o : Nat) (w : World), (w.setCells b o vs).heap.size = w.heap.size
  | [], _, _ => rfl
  | v :: r, o, w => by
    show ((w.setCell ⟨b, o, none⟩ v).setCells b (o + 1) r).heap.size = _
    rw [size_setCells b r]
    simp [World.setCell]
theorem below_setCells {B : Nat} (b : Nat) (hb : B ≤ b) : ∀ (vs : List Value) (o : Nat) (u w : World), RowKit.Below B u w → RowKit.Below B u (w.setCells b o vs)
  | [], _, _, _, h => h
  | v :: r, o, u, w, h => below_setCells b hb r (o + 1) u (w.setCell ⟨b, o, none⟩ v) (h.setCell (p := ⟨b, o, none⟩) hb v)

theorem TwoC.setO {w : World} {bo br n : Nat} {O R : Nat → Int} (h : TwoC w bo br n O R) (b : Nat) (hb : b < n) (x : Int) : TwoC (w.setCell ⟨bo, b, none⟩ (.int .i64 x)) bo br n (fun j => if j = b then x else O j) R := by
  have z : (w.setCell ⟨bo, b, none⟩ (.int .i64 x)).heap.size = w.heap.size := by simp [World.setCell]
  refine ⟨by rw [z]; exact h.hbo, by rw [z]; exact h.hbr, h.ne, fun j hj => ?_, fun j => by rw [World.frozen?_setCell]; exact h.ofz j, fun j hj c hc => ?_, fun j => by rw [World.frozen?_setCell]; exact h.rfz j⟩
  · by_cases e : j = b
    · subst e
      rw [World.cell?_setCell_same _ _ _ (h.oc j hj), if_pos rfl]
    · rw [World.cell?_setCell_other _ _ _ _ (by intro q; injection q with q1 q2; exact e q2.symm), if_neg e]
      exact h.oc j hj
  · rw [World.cell?_setCell_other _ _ _ _ (by intro q; injection q with q1 q2; exact h.ne q1)]
    exact h.rc j hj c hc
theorem TwoC.setR {w : World} {bo br n : Nat} {O R : Nat → Int} (h : TwoC w bo br n O R) (b : Nat) (hb : b < n) (x : Int) : TwoC (w.setCells br (b * 11) (numC x)) bo br n O (fun j => if j = b then x else R j) := by
  have z := size_setCells br (numC x) (b * 11) w
  have hn := h.ne
  refine ⟨by rw [z]; exact h.hbo, by rw [z]; exact h.hbr, h.ne, fun j hj => ?_, fun j => by rw [World.frozen?_setCells]; exact h.ofz j, fun j hj c hc => ?_, fun j => by rw [World.frozen?_setCells]; exact h.rfz j⟩
  · rw [World.cell?_setCells_out _ _ _ _ _ (fun e _ => absurd e hn)]
    exact h.oc j hj
  · by_cases e : j = b
    · subst e
      rw [World.cell?_setCells_in br (numC x) (j * 11) w (fun i hi => by
        rw [numC_len] at hi
        rw [h.rc j hj i hi, List.getElem?_eq_getElem (by rw [numC_len]; exact hi)]
        rfl) c (by rw [numC_len]; exact hc), if_pos rfl, List.getElem?_eq_getElem (by rw [numC_len]; exact hc)]
    · rw [World.cell?_setCells_out _ _ _ _ _ (fun _ _ => by
        show j * 11 + c < b * 11 ∨ b * 11 + (numC x).length ≤ j * 11 + c
        rw [numC_len]; omega), if_neg e]
      exact h.rc j hj c hc
theorem TwoC.there {w : World} {bo br n : Nat} {O R : Nat → Int} (h : TwoC w bo br n O R) (b : Nat) (hb : b < n) : w.there br (b * 11) 11 := fun c hc =>
  ⟨by rw [h.rc b hb c hc, List.getElem?_eq_getElem (by rw [numC_len]; exact hc)]; rfl, h.rfz _⟩

theorem OG_le {t : Int} {l : List Int} (h : okW l) (ht : 0 ≤ t) (hT : I t) (k : Nat) (hk : k ≤ (leftOf t l).toNat) (j : Nat) (hj : j < l.length) : 0 ≤ OG t l k j ∧ OG t l k j ≤ t := by
  have hq := qf_bd h ht j hj
  have hu := up_bd t l (l.length - 1) k j
  have hc := (cut_I h ht hT j hj).2.2
  have hm : upF t l (l.length - 1) k j ≤ upF t l (l.length - 1) (leftOf t l).toNat j := by
    unfold upF
    split
    · split <;> split <;> omega
    · omega
  unfold OG
  unfold cutF at hc
  omega
theorem TwoC.parts {w : World} {bo br n : Nat} {O R : Nat → Int} (h : TwoC w bo br n O R) (t : Int) (l : List Int) (hn : l.length = n) (ho : ∀ j, O j = cutF t l j) : RowAt .i64 w (some ⟨bo, 0, none⟩) (partsL t l) :=
  Or.inr ⟨bo, 0, rfl, h.hbo, fun i hi => by
    rw [partsL_len] at hi
    rw [partsL_get t l i hi, Nat.zero_add, h.oc i (by omega), ho]⟩
end Go.Proofs.Ytaebbfaheaghfaa
