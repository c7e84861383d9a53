/- Package disk: what is known of deeds; four sectors in a row. -/
import Derived.Test.YtcboknigjpdmpaaDkY
namespace Go.Proofs.Ytcboknigjpdmpaa
open Go.RowKit Go.Lib

theorem keep_off {w : World} {a : Option Addr} {l : List Int} {F : Nat → Prop} (h : Nums w a l) (hF : ∀ i, F i → w.heap.size ≤ i) : l = [] ∨ ∀ b, inBlk a b → ¬ F b := by
  rcases h with h | ⟨b, off, ha, hb, _⟩
  · exact Or.inl (List.map_eq_nil_iff.1 h)
  · refine Or.inr ?_
    rintro b' ⟨q, e, rfl⟩ hf
    rw [ha] at e
    cases e
    have := hF _ hf
    have e2 : (⟨b, off, none⟩ : Addr).block = b := rfl
    omega
theorem cutS_full {s old : Sec} (hs : s.length = 64) (ho : old.length = 64) : cutS s old 64 = s := by
  unfold cutS
  rw [List.take_of_length_le (by omega), List.drop_of_length_le (by omega), List.append_nil]
/-- all goes in whole: what was told is there -/
theorem stl_full {d : Dk} (h : d.Ok) {x : Int} (hx : 0 ≤ x ∧ x < d.base.length) : ∀ k, k ≤ d.queue.length → (stl (fun _ => 64) d.queue d.base k).getD x.toNat [] = outK d x k
  | 0, _ => rfl
  | k + 1, hk => by
    obtain ⟨p, hp⟩ : ∃ p, d.queue[k]? = some p := ⟨_, List.getElem?_eq_getElem (by omega)⟩
    have hm := List.mem_of_getElem? hp
    have hi := h.qi p hm
    have ho : ((stl (fun _ => 64) d.queue d.base k).getD p.1 []).length = 64 := stl_ok (fun _ => Nat.le_refl _) h.bl h.qi h.ql k (by omega) _ (getD_mem (by rw [stl_len]; exact hi))
    rw [stl, show d.queue.getD k (0, []) = p by rw [List.getD, hp]; rfl, cutS_full (h.ql p hm) ho]
    by_cases e : x = (p.1 : Int)
    · subst e
      rw [outK_same hp, Int.toNat_natCast, List.getD, List.getElem?_set_self (by rw [stl_len]; exact hi)]
      rfl
    · rw [outK_other hp e, ← stl_full h hx k (by omega), List.getD, List.getElem?_set_ne (by omega), List.getD]
theorem flush_at {d : Dk} (h : d.Ok) (hl : d.live = true) (x : Int) : d.flush.at_ x = d.at_ x := by
  have e : d.flush = { d.spend with base := stl (fun _ => 64) d.queue d.base d.queue.length, queue := [] } := by unfold Dk.flush; rw [hl]; rfl
  rw [e]
  unfold Dk.at_
  simp only [stl_len]
  by_cases hx : 0 ≤ x ∧ x < d.base.length
  · rw [if_pos hx, if_pos hx]
    have := stl_full h hx d.queue.length (Nat.le_refl _)
    unfold outK at this
    rw [List.take_length] at this
    rw [← this]
    rfl
  · rw [if_neg hx, if_neg hx]
theorem power_at {d : Dk} (hq : d.queue = []) (l : List Int) (x : Int) : (d.power l).at_ x = d.at_ x := by
  unfold Dk.power Dk.at_
  rw [hq]
  rfl
/-- a disk without a fuse that lives -/
structure QI (d : Dk) (k : Nat) : Prop where
  bl : d.base.length = 4
  qn : d.queue.length ≤ k
  fu : d.fuse = -1
  dd : d.dead = false
theorem QI.live {d : Dk} {k : Nat} (h : QI d k) : d.live = true := by unfold Dk.live; rw [h.fu, h.dd]; rfl
theorem QI.spend {d : Dk} {k : Nat} (h : QI d k) : d.spend = d := by
  unfold Dk.spend
  rw [h.live, if_pos rfl, h.fu, if_neg (by decide)]
  rw [← h.fu]
theorem QI.put {d : Dk} {k : Nat} (h : QI d k) (x : Int) (s : Sec) : QI (d.put x s) (k + 1) := by
  unfold Dk.put
  rw [h.live, h.spend]
  split
  · exact ⟨h.bl, by show (d.queue ++ _).length ≤ _; rw [List.length_append]; exact Nat.succ_le_succ h.qn, h.fu, h.dd⟩
  · exact ⟨h.bl, Nat.le_succ_of_le h.qn, h.fu, h.dd⟩
theorem QI.power {d : Dk} {k : Nat} (h : QI d k) (l : List Int) : QI (d.power l) (k + 1) := ⟨(stl_len _ _ _ _).trans h.bl, Nat.zero_le _, rfl, rfl⟩
theorem QI.more {d : Dk} {k : Nat} (h : QI d k) : QI d (k + 1) := ⟨h.bl, Nat.le_succ_of_le h.qn, h.fu, h.dd⟩
theorem QI.flush {d : Dk} {k : Nat} (h : QI d k) : QI d.flush 0 ∧ d.flush.queue = [] ∧ d.actE = 0 := by
  have e : d.flush = { d with base := stl (fun _ => 64) d.queue d.base d.queue.length, queue := [] } := by unfold Dk.flush; rw [h.live, h.spend]; rfl
  refine ⟨?_, by rw [e], by unfold Dk.actE; rw [h.live]; rfl⟩
  rw [e]
  exact ⟨(stl_len _ _ _ _).trans h.bl, Nat.le_refl _, h.fu, h.dd⟩
/-! four sectors -/
def z4 : List Value := List.replicate 256 (.int .u8 0)
theorem z4_len : z4.length = 256 := by unfold z4; exact List.length_replicate
theorem z4_size : z4.toArray.size = 256 := List.size_toArray.trans z4_len
theorem z4_s : z4 = scells (List.replicate 4 zsec) := by kernel_rfl
theorem is4 : IsAgg 58 256 z4 :=
  ⟨(zero_of_info (n := 256) (by kernel_rfl)).1, ⟨_, Try.underlying58, rfl⟩, by kernel_rfl, z4_len⟩
theorem cs_z4 : Cs 256 z4 := ⟨z4_len, fun u hu => by rw [(List.mem_replicate.1 hu).2]; rfl⟩
theorem run_build4 (w : World) : (Instr.build 58 #[]).run Try.prog w = .ok (.agg z4.toArray) w := by
  simp [Instr.build, Sem.run_bind, is4.zero, run_underlying Try.underlying58, Try.sizeOf28, Value.cells, Instr.fill]
theorem wpList_build4 {ops : Array Oper} {rest : List Oper} {o : Oper} {a : Act} {w : World} {Q : Exit → Act → World → Prop} (hgd : o.guard = none) (ho : o.op = .build 58 #[])
    (hq : wpList Try.prog ops Q rest (a.put o.dst (.agg z4.toArray)) w) : wpList Try.prog ops Q (o :: rest) a w :=
  wpList_plain hgd fun K hK => by
    unfold Oper.wp execOp
    simp only [ho, Sem.run_bind, Sem.run_pure, Result.andThen_ok, List.map_toArray, List.map_nil, run_build4]
    exact hK _ _ hq
theorem run_idx4 {b j : Nat} {i : Int} (hi : i = (j : Int)) (h : j < 4) (w : World) : (Instr.indexAt 58 (.pointer (some ⟨b, 0, none⟩)) (.int .i64 i)).run Try.prog w = .ok (.pointer (some ⟨b, j * 64, none⟩)) w := by
  subst hi

  simp [Instr.indexAt, asIntOf, Instr.sureAddr, run_underlying Try.underlying58, Try.sizeOf28, Sem.run_bind, Nat.not_le.2 h, Addr.add_mid]
theorem wpList_idx4 {ops : Array Oper} {rest : List Oper} {o : Oper} {a : Act} {w : World} {Q : Exit → Act → World → Prop} (hgd : o.guard = none) (x y : Operand) (ho : o.op = .indexAddr 58 x y) {b : Nat} {i : Int} (j : Nat) (hx : a.eval x = .pointer (some ⟨b, 0, none⟩)) (hy : a.eval y = .int .i64 i) (hi : i = (j : Int)) (h : j < 4)
    (hq : wpList Try.prog ops Q rest (a.put o.dst (.pointer (some ⟨b, j * 64, none⟩))) w) : wpList Try.prog ops Q (o :: rest) a w :=
  wpList_plain hgd fun K hK => by
    unfold Oper.wp execOp
    simp only [ho, hx, hy, Sem.run_bind, Sem.run_pure, Result.andThen_ok, run_idx4 hi h]
    exact hK _ _ hq
theorem exec_idx4 {o : Oper} {a : Act} {w : World} (x y : Operand) (ho : o.op = .indexAddr 58 x y) {b : Nat} {i : Int} (j : Nat) (hx : a.eval x = .pointer (some ⟨b, 0, none⟩)) (hy : a.eval y = .int .i64 i) (hi : i = (j : Int)) (h : j < 4) :
    (execOp a.eval o).run Try.prog w = .ok (.value (.pointer (some ⟨b, j * 64, none⟩))) w := by
  unfold execOp
  simp only [ho, hx, hy, Sem.run_bind, run_idx4 hi h, Result.andThen_ok]
  rfl
/-- block b holds the four sectors L -/
def At4 (w : World) (b : Nat) (L : List Sec) : Prop := L.length = 4 ∧ (∀ s ∈ L, s.length = 64) ∧ w.ownsRow 0 58 64 (.slice (some ⟨b, 0, none⟩) 4 4) 4 (scells L)
theorem At4.new (w : World) : At4 (w.alloc (.cells z4.toArray 58)) w.heap.size (List.replicate 4 zsec) := by
  refine ⟨List.length_replicate, fun s hs => by rw [(List.mem_replicate.1 hs).2]; exact List.length_replicate, ?_⟩
  have := World.ownsRow_lit (base := 0) (e := 58) (size := 64) w z4.toArray 4 (Nat.zero_le _) (by decide) z4_size
  rw [← z4_s]
  exact this
theorem At4.same {w w' : World} {b : Nat} {L : List Sec} (h : At4 w b L) (e : w'.heap[b]? = w.heap[b]?) : At4 w' b L := ⟨h.1, h.2.1, ow_same h.2.2 fun i hi => by cases hi; exact e⟩
theorem At4.lt {w : World} {b : Nat} {L : List Sec} (h : At4 w b L) : b < w.heap.size := (h.2.2.lt b rfl).2
theorem At4.there {w : World} {b : Nat} {L : List Sec} (h : At4 w b L) {j : Nat} (hj : j < 4) : w.there b (j * 64) 64 := ow_there h.2.2 (by omega)
theorem At4.set {w : World} {b : Nat} {L : List Sec} (h : At4 w b L) {j : Nat} (hj : j < 4) {s : Sec} (hs : s.length = 64) : At4 (w.setCells b (j * 64) (bcells s)) b (L.set j s) := by
  have hl : (scells L).length = 4 * 64 := by rw [scells_len h.2.1, h.1]
  have ho := (ow_setCells (bcells s) (j * 64) w _ h.2.2 (by rw [cells_len _ hs]; omega)).1
  rw [cells_len _ hs] at ho
  refine ⟨by rw [List.length_set]; exact h.1, fun t ht => (List.mem_or_eq_of_mem_set ht).elim (h.2.1 t) fun e => e ▸ hs, ?_⟩
  rw [show scells (L.set j s) = (scells L).take (j * 64) ++ bcells s ++ (scells L).drop (j * 64 + 64) from flat_set (fun y hy => cells_len y (h.2.1 y hy)) (by rw [h.1]; exact hj)]
  exact ho
theorem At4.get {w : World} {b : Nat} {L : List Sec} (h : At4 w b L) {j : Nat} (hj : j < 4) : w.rangeAt b (j * 64) (bcells (L.getD j [])) := fun i v hv => by
  have := ow_range h.2.2 (j * 64 + i) v (flat_mid (f := bcells) (n := 64) (x := L.getD j []) (fun s hs => cells_len s (h.2.1 s hs)) (by rw [List.getD, List.getElem?_eq_getElem (by rw [h.1]; exact hj)]; rfl) i v hv)
  rw [Nat.zero_add] at this
  exact this
theorem below_setCells {B : Nat} {a w : World} {b o : Nat} {vs : List Value} (h : RowKit.Below B a w) (hb : B ≤ b) : RowKit.Below B a (w.setCells b o vs) := by
  induction vs generalizing o w with
  | nil => exact h
  | cons v r ih => rw [World.setCells]; exact ih (h.setCell hb v)
theorem heap_setCells {w : World} {b o : Nat} {vs : List Value} {i : Nat} (hi : i ≠ b) : (w.setCells b o vs).heap[i]? = w.heap[i]? := by
  induction vs generalizing o w with
  | nil => rfl
  | cons v r ih => rw [World.setCells, ih, heap_setCell_other _ _ _ _ hi]
end Go.Proofs.Ytcboknigjpdmpaa
