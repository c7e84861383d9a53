
/- Package journal: Room, Ready, Append, Compact. -/
import Derived.Test.YtdfbpaajkpnaeaaJnA
import Derived.Test.YtdfbpaajkpnaeaaHld

namespace Go.Proofs.Ytdfbpaajkpnaeaa
set_option maxRecDepth 100000
open Go.RowKit Go.Lib

/-- block b is a journal -/
structure JAt (w : World) (b g lb : Nat) (s : Int) (rd : Bool) : Prop where
  bk : w.heap[b]? = some (.cells #[.pointer (some ⟨g, 0, none⟩), .int .i64 s, .pointer (some ⟨lb, 0, none⟩), .bool rd] 55)
def zJ : List Value := [.pointer none, .int .i64 0, .pointer none, .bool false]
/-- of it nothing is promised any more -/
def JOff (w : World) (b : Nat) : Prop := w.heap[b]? = some (.cells zJ.toArray 55)
theorem isJ : IsAgg 55 4 zJ := ⟨Try.zeroValue55, ⟨_, Try.underlying55, rfl⟩, by kernel_rfl, rfl⟩
theorem csJ : Cs 4 zJ := ⟨rfl, by decide⟩
theorem JAt.cells {w : World} {b g lb : Nat} {s : Int} {rd : Bool} (h : JAt w b g lb s rd) :
    w.cell? ⟨b, 0, none⟩ = some (.pointer (some ⟨g, 0, none⟩)) ∧ w.cell? ⟨b, 1, none⟩ = some (.int .i64 s) ∧ w.cell? ⟨b, 2, none⟩ = some (.pointer (some ⟨lb, 0, none⟩)) ∧ w.cell? ⟨b, 3, none⟩ = some (.bool rd) := by
  refine ⟨?_, ?_, ?_, ?_⟩ <;> rw [cell_of_row w b _ _ _ _ h.bk] <;> rfl
theorem JAt.lt {w : World} {b g lb : Nat} {s : Int} {rd : Bool} (h : JAt w b g lb s rd) : b < w.heap.size := lt_of_heap h.bk
theorem JAt.same {w w' : World} {b g lb : Nat} {s : Int} {rd : Bool} (h : JAt w b g lb s rd) (e : w'.heap[b]? = w.heap[b]?) : JAt w' b g lb s rd := ⟨e.trans h.bk⟩
theorem JAt.setlog {w : World} {b g lb : Nat} {s : Int} {rd : Bool} (h : JAt w b g lb s rd) (lb2 : Nat) : JAt (w.setCell ⟨b, 2, none⟩ (.pointer (some ⟨lb2, 0, none⟩))) b g lb2 s rd := ⟨by rw [heap_setCell_same w b 2 _ _ _ h.bk]; rfl⟩
theorem JAt.setrd {w : World} {b g lb : Nat} {s : Int} {rd : Bool} (h : JAt w b g lb s rd) (r : Bool) : JAt (w.setCell ⟨b, 3, none⟩ (.bool r)) b g lb s r := ⟨by rw [heap_setCell_same w b 3 _ _ _ h.bk]; rfl⟩
theorem JOff.cells {w : World} {b : Nat} (h : JOff w b) : w.cell? ⟨b, 3, none⟩ = some (.bool false) := by rw [cell_of_row w b _ _ _ _ h]; rfl
/-- a journal in memory: its disk, and its log -/
structure JM (w : World) (F : Nat → Prop) (g b lb : Nat) (d : Dk) (s x z : Int) (n : Nat) (rd : Bool) : Prop where
  dt : DAt w F g d
  ja : JAt w b g lb s rd
  lg : LgAt w lb g x z n
  nb : ¬ F b
  nl : ¬ F lb
  ne : lb ≠ b
/-- what has turned: the disk's, the journal's and its log's -/
structure JFr (F : Nat → Prop) (b lb : Nat) (w w' : World) (F' : Nat → Prop) (lb' : Nat) : Prop where
  on : Only (fun i => F i ∨ i = b ∨ i = lb) w w'
  fr : ∀ i, F' i → F i ∨ w.heap.size ≤ i
  lr : lb' = lb ∨ w.heap.size ≤ lb'
theorem JFr.refl (F : Nat → Prop) (b lb : Nat) (w : World) : JFr F b lb w w F lb := ⟨Only.refl _ _, fun _ h => Or.inl h, Or.inl rfl⟩
theorem JFr.trans {F F1 F2 : Nat → Prop} {b lb lb1 lb2 : Nat} {w w1 w2 : World} (h : JFr F b lb w w1 F1 lb1) (k : JFr F1 b lb1 w1 w2 F2 lb2) : JFr F b lb w w2 F2 lb2 := by
  have hs := h.on.size
  refine ⟨h.on.trans k.on fun i hi => ?_, fun i hi => ?_, ?_⟩
  · rcases hi with hi | hi | hi
    · exact (h.fr i hi).imp Or.inl id
    · exact Or.inl (Or.inr (Or.inl hi))
    · rcases h.lr with e | e
      · exact Or.inl (Or.inr (Or.inr (hi.trans e)))
      · exact Or.inr (hi ▸ e)
  · rcases k.fr i hi with e | e
    · exact h.fr i e
    · exact Or.inr (Nat.le_trans hs e)
  · rcases k.lr with e | e
    · rw [e]; exact h.lr
    · exact Or.inr (Nat.le_trans hs e)
theorem JFr.below {F F1 : Nat → Prop} {b lb lb1 : Nat} {w w1 w2 : World} (h : JFr F b lb w w1 F1 lb1) (hb : RowKit.Below w1.heap.size w1 w2) : JFr F b lb w w2 F1 lb1 :=
  h.trans ⟨Only.of_below hb, (JFr.refl F1 b lb1 w1).fr, Or.inl rfl⟩
/-- a cell of the journal's, and perhaps another log -/
theorem JFr.set {F F1 : Nat → Prop} {b lb lb1 : Nat} {w w1 : World} (h : JFr F b lb w w1 F1 lb1) (k : Nat) (v : Value) : JFr F b lb w (w1.setCell ⟨b, k, none⟩ v) F1 lb1 :=
  h.trans ⟨⟨rfl, rfl, rfl, by simp, fun i _ hi => setCell_other i fun e => hi (Or.inr (Or.inl e))⟩, (JFr.refl F1 b lb1 w1).fr, Or.inl rfl⟩
theorem JFr.log {F F1 : Nat → Prop} {b lb lb1 lb2 : Nat} {w w1 : World} (h : JFr F b lb w w1 F1 lb1) (hl : w.heap.size ≤ lb2) : JFr F b lb w w1 F1 lb2 :=
  ⟨h.on, h.fr, Or.inr hl⟩
theorem JM.below {w w' : World} {F : Nat → Prop} {g b lb : Nat} {d : Dk} {s x z : Int} {n : Nat} {rd : Bool} (h : JM w F g b lb d s x z n rd) (hb : RowKit.Below w.heap.size w w') : JM w' F g b lb d s x z n rd :=
  ⟨h.dt.below hb, h.ja.same (hb.block _ h.ja.lt), h.lg.same (hb.block _ h.lg.lt), h.nb, h.nl, h.ne⟩
theorem JM.setrd {w : World} {F : Nat → Prop} {g b lb : Nat} {d : Dk} {s x z : Int} {n : Nat} {rd : Bool} (h : JM w F g b lb d s x z n rd) (r : Bool) : JM (w.setCell ⟨b, 3, none⟩ (.bool r)) F g b lb d s x z n r :=
  ⟨h.dt.same (by simp) fun i hi => setCell_other i fun e => h.nb (e ▸ hi), h.ja.setrd r, h.lg.same (setCell_other lb h.ne), h.nb, h.nl, h.ne⟩
theorem JM.setlog {w : World} {F : Nat → Prop} {g b lb lb2 : Nat} {d : Dk} {s x y z z2 : Int} {n m : Nat} {rd : Bool} (h : JM w F g b lb d s x z n rd) (hl : LgAt w lb2 g y z2 m) (hF : ¬ F lb2) (hne : lb2 ≠ b) : JM (w.setCell ⟨b, 2, none⟩ (.pointer (some ⟨lb2, 0, none⟩))) F g b lb2 d s y z2 m rd :=
  ⟨h.dt.same (by simp) fun i hi => setCell_other i fun e => h.nb (e ▸ hi), h.ja.setlog lb2, hl.same (setCell_other lb2 hne), h.nb, hF, hne⟩
theorem JM.did {w w' : World} {F : Nat → Prop} {g b lb : Nat} {d d' : Dk} {s x z : Int} {n : Nat} {rd : Bool} (h : JM w F g b lb d s x z n rd) (hd : Did g F d' w w') : ∃ F', JM w' F' g b lb d' s x z n rd ∧ JFr F b lb w w' F' lb := by
  obtain ⟨F', k1, k2, k3⟩ := hd
  have hb := h.ja.lt
  have hl := h.lg.lt
  refine ⟨F', ⟨k1, h.ja.same (k2.block _ hb h.nb), h.lg.same (k2.block _ hl h.nl), fun e => (k3 b e).elim h.nb fun e => by omega, fun e => (k3 lb e).elim h.nl fun e => by omega, h.ne⟩, ⟨⟨k2.os, k2.tape, k2.output, k2.size, fun i hi hn => k2.block i hi fun e => hn (Or.inl e)⟩, k3, Or.inl rfl⟩⟩
theorem JM.moved {w w' : World} {F F' : Nat → Prop} {g b lb : Nat} {d d' : Dk} {s x y z : Int} {n m : Nat} {rd : Bool} (h : JM w F g b lb d s x z n rd) (hm : Moved F g lb d' y z m w w' F') : JM w' F' g b lb d' s y z m rd ∧ JFr F b lb w w' F' lb := by
  have hb := h.ja.lt
  refine ⟨⟨hm.dt, h.ja.same (hm.on.block _ hb fun e => e.elim h.nb fun e => h.ne e.symm), hm.lg, fun e => (hm.fr b e).elim h.nb fun e => by omega, hm.nb, h.ne⟩, ⟨⟨hm.on.os, hm.on.tape, hm.on.output, hm.on.size, fun i hi hn => hm.on.block i hi fun e => hn (e.elim Or.inl fun e => Or.inr (Or.inr e))⟩, hm.fr, Or.inl rfl⟩⟩
/-! Room, Ready -/
theorem jready_any (b : Nat) (rd : Bool) (w : World) (h : w.cell? ⟨b, 3, none⟩ = some (.bool rd)) :
    Calls Try.prog 13 #[.pointer (some ⟨b, 0, none⟩)] w fun e w' => e = .returned (.bool rd) ∧ w = w' := by
  go_enter Try.func13, Try.ntmps13
  go_wp2
  go_ret
  exact ⟨rfl, rfl⟩
theorem jroom_no (b : Nat) (w : World) (h : w.cell? ⟨b, 3, none⟩ = some (.bool false)) :
    Calls Try.prog 12 #[.pointer (some ⟨b, 0, none⟩)] w fun e w' => e = .returned (.int .i64 0) ∧ w = w' := by
  go_enter Try.func12, Try.ntmps12
  go_wp2
  go_ret
  exact ⟨rfl, rfl⟩
theorem jroom_yes (w : World) (F : Nat → Prop) (g b lb : Nat) (d : Dk) (s x z : Int) (n : Nat) (h : JM w F g b lb d s x z n true) (hx : 0 ≤ x ∧ x ≤ 2048) (hz : 0 ≤ z ∧ z ≤ 2048) :
    Calls Try.prog 12 #[.pointer (some ⟨b, 0, none⟩)] w fun e w' => e = .returned (.int .i64 (z - x)) ∧ RowKit.Below w.heap.size w w' := by
  obtain ⟨_, _, c2, c3⟩ := h.ja.cells
  have HR := Lib.hid (room_any lb g x z n w h.lg hx hz)
  clear h
  go_enter Try.func12, Try.ntmps12
  go_wp2_with fail
  refine HR.out.mono ?_
  rintro _ w1 ⟨rfl, hb1⟩
  have HB1 := Lib.hid hb1
  clear hb1
  go_wp2
  go_ret
  exact ⟨rfl, HB1.out⟩
/-! Append -/
theorem app_lens (d : Dk) (x z : Int) (n : Nat) (l : List UInt8) : (d.app x z n l).1.base.length = d.base.length := by
  have h2 := write_base d x n (closed l)
  have h3 : ∀ e : Dk, e.flush.base.length = e.base.length := fun e => by
    unfold Dk.flush
    split
    · exact stl_len _ _ _ _
    · rw [Dk.spend_base]
  unfold Dk.app
  split
  · rfl
  · split
    · rfl
    · split
      · show (Dk.flush _).base.length = _
        rw [h3, h2]
      · rw [h2]
theorem wp_storeP {o : Oper} {a : Act} {w : World} {K : Act → World → Prop} {Q : Exit → Act → World → Prop} (T : TypeId) (x y : Operand) (ho : o.op = .store T x y) (p q : Addr) (old : Value) (hx : a.eval x = .pointer (some p)) (hy : a.eval y = .pointer (some q)) (hi : (Try.prog.info? T).map (·.size) = some 1) (hc : w.cell? p = some old) (hf : w.frozen? p = false)
    (h : K (a.put o.dst undef) (w.setCell p (.pointer (some q)))) : o.wp Try.prog a w K Q := by
  cases hq : Try.prog.info? T with
  | none => rw [hq] at hi; cases hi
  | some i =>
    have hs : i.size = 1 := by rw [hq] at hi; simpa using hi
    unfold Oper.wp execOp
    simp only [ho, hx, hy, Instr.storeAt, Instr.sureAddr, Sem.run_bind, Sem.run_pure, Result.andThen_ok, storeVar, Go.sizeOf, typeInfo]
    simp [hq, hs, Value.cells, storeCells, hc, hf, Addr.add, go_sem]
    exact h
theorem jappend_no (b : Nat) (v : Value) (w : World) (h : w.cell? ⟨b, 3, none⟩ = some (.bool false)) :
    Calls Try.prog 11 #[.pointer (some ⟨b, 0, none⟩), v] w fun e w' => e = .returned (.int .i64 121) ∧ w = w' := by
  go_enter Try.func11, Try.ntmps11
  go_wp2
  go_ret
  exact ⟨rfl, rfl⟩
/-- what Append leaves -/
def AppJ (F : Nat → Prop) (g b lb : Nat) (d : Dk) (s x z : Int) (n : Nat) (l : List UInt8) (w : World) (e : Ending) (w' : World) : Prop :=
  ∃ F' lb', JFr F b lb w w' F' lb' ∧ e = .returned (.int .i64 (d.app x z n l).2) ∧
    (((d.app x z n l).2 ≠ 82 ∧ lb' = lb ∧ JM w' F' g b lb (d.app x z n l).1 s (if (d.app x z n l).2 = 0 then x + (spanN (l.length + 4) : Int) else x) z (if (d.app x z n l).2 = 0 then n + 1 else n) true) ∨
     ((d.app x z n l).2 = 82 ∧ ∃ y m, JM w' F' g b lb' (d.app x z n l).1 s y z m false ∧ 2 * s ≤ y ∧ y ≤ z))
set_option maxRecDepth 100000 in
set_option maxHeartbeats 3200000 in
theorem jappend_any (w : World) (F : Nat → Prop) (g b lb : Nat) (d : Dk) (s x z : Int) (n : Nat) (l : List UInt8) (a : Option Addr) (len cap : Nat) (h : JM w F g b lb d s x z n true) (hs : canJ d s = true) (hz : z = (d.base.length : Int)) (hx : 2 * s ≤ x ∧ x ≤ z) (hn : n + 1 < 18446744073709551616)
    (hb : BAt w a l) (hln : l.length = len) (ha : a = none → l = []) (hq : d.queue.length + 100 < 10000) :
    Calls Try.prog 11 #[.pointer (some ⟨b, 0, none⟩), .slice a len cap] w (AppJ F g b lb d s x z n l w) := by
  obtain ⟨_, _, c2, c3⟩ := h.ja.cells
  obtain ⟨s1, s2, s3⟩ := canJ_iff.1 hs
  have hsz := h.dt.ok.sz
  have HST := Lib.hid (lstamp_any lb g x z n w h.lg)
  have HAP := Lib.hid (append_any lb g F d x z n l a len cap w h.lg h.dt h.nl ⟨by omega, hx.2, by omega⟩ hn hb hln ha hq)
  have HMV := Lib.hid (fun (W : World) (F' : Nat → Prop) (d' : Dk) (y : Int) (m : Nat) (hm : Moved F g lb d' y z m w W F') => h.moved hm)
  have HNN := Lib.hid hn
  have HLN := Lib.hid (app_lens d x z n l)
  have HZ := Lib.hid hz
  have HSC := Lib.hid hs
  have HLT := Lib.hid (And.intro h.ja.lt h.lg.lt)
  unfold AppRes at HAP
  have HG : ∀ (E : Int) (e : Ending) (w' : World), E = (d.app x z n l).2 → ((∃ F' lb', JFr F b lb w w' F' lb' ∧ e = .returned (.int .i64 E) ∧
    ((E ≠ 82 ∧ lb' = lb ∧ JM w' F' g b lb (d.app x z n l).1 s (if E = 0 then x + (spanN (l.length + 4) : Int) else x) z (if E = 0 then n + 1 else n) true) ∨
     (E = 82 ∧ ∃ y m, JM w' F' g b lb' (d.app x z n l).1 s y z m false ∧ 2 * s ≤ y ∧ y ≤ z))) → AppJ F g b lb d s x z n l w e w') := fun E e w' hE k => by
    subst hE
    exact k
  have HGO := Lib.hid HG
  obtain ⟨r, hr⟩ : ∃ r, r = d.app x z n l := ⟨_, rfl⟩
  rw [← hr] at HAP HLN HGO
  obtain ⟨d1, E⟩ := r
  simp only at HAP HLN HGO
  clear h hs hz hn hb hln ha hq hr HG hx s1 s2 s3 hsz
  go_enter Try.func11, Try.ntmps11
  go_wp2_with fail
  refine HST.out.mono ?_
  rintro _ _ ⟨rfl, rfl⟩
  go_wp2_with fail
  refine HAP.out.mono ?_
  rintro _ w2 ⟨F2, rfl, hm⟩
  obtain ⟨hj2, hf2⟩ := HMV.out _ _ _ _ _ hm
  have HJ2 := Lib.hid hj2
  have HF2 := Lib.hid hf2
  clear hm hj2 hf2 HMV HAP HST c2 c3
  by_cases hE : E = 82
  · subst hE
    obtain ⟨k0, k1, k2, k3⟩ := HJ2.out.ja.cells
    have f3 := frozen_of_row w2 b 3 _ _ HJ2.out.ja.bk
    obtain ⟨w3, hw3⟩ : ∃ w3, w3 = w2.setCell ⟨b, 3, none⟩ (.bool false) := ⟨_, rfl⟩
    have HW3 := Lib.hid hw3
    have HJ3 := Lib.hid (show JM w3 F2 g b lb d1 s _ z _ false from by rw [hw3]; exact HJ2.out.setrd false)
    have HF3 := Lib.hid (show JFr F b lb w w3 F2 lb from by rw [hw3]; exact HF2.out.set 3 _)
    have C0 := Lib.hid HJ3.out.ja.cells.1
    have C1 := Lib.hid HJ3.out.ja.cells.2.1
    have HLG := Lib.hid (fun (W : World) (hb : RowKit.Below w3.heap.size w3 W) => jlog_any g F2 d1 s n W (HJ3.out.dt.below hb) (by
      have := canJ_iff.1 HSC.out
      exact canJ_iff.2 (by rw [HLN.out]; exact this)) (by have := HNN.out; omega))
    clear hw3
    go_wp2_with fail
    rw [← HW3.out]
    clear k0 k1 k2 k3 f3
    refine wp_region_held_drew (S := fun W => W.cell? ⟨b, 0, none⟩ = some (.pointer (some ⟨g, 0, none⟩)) ∧ W.cell? ⟨b, 1, none⟩ = some (.int .i64 s)) (by kernel_rfl) ?_ (fun hHeld => ?_)
    · exact ⟨cell_bl C0.out (RowKit.Below.refl _ _).drew, cell_bl C1.out (RowKit.Below.refl _ _).drew⟩
    refine held_take 0 (v := ?_) rfl (by kernel_rfl) (by kernel_rfl) (by kernel_rfl) (fun _ _ _ h => h) hHeld (by rfl) ?_ ?_
    rotate_left
    · (intro W hW; go_simp; try with_reducible rfl)
    try simp only [Act.put, List.setIfInBounds_toArray, List.set_cons_zero, List.set_cons_succ]
    refine held_take 1 (v := ?_) rfl (by kernel_rfl) (by kernel_rfl) (by kernel_rfl) (fun _ _ _ h => h) hHeld (by rfl) ?_ ?_
    rotate_left
    · (intro W hW; go_simp; try with_reducible rfl)
    try simp only [Act.put, List.setIfInBounds_toArray, List.set_cons_zero, List.set_cons_succ]
    refine held_take 2 (v := ?_) rfl (by kernel_rfl) (by kernel_rfl) (by kernel_rfl) (fun _ _ _ h => h) hHeld (by rfl) ?_ ?_
    rotate_left
    · (intro W hW; go_simp; try with_reducible rfl)
    try simp only [Act.put, List.setIfInBounds_toArray, List.set_cons_zero, List.set_cons_succ]
    refine held_take 3 (v := ?_) rfl (by kernel_rfl) (by kernel_rfl) (by kernel_rfl) (fun _ _ _ h => h) hHeld (by rfl) ?_ ?_
    rotate_left
    · (intro W hW; go_simp; try with_reducible rfl)
    try simp only [Act.put, List.setIfInBounds_toArray, List.set_cons_zero, List.set_cons_succ]
    refine held_take 4 (v := ?_) rfl (by kernel_rfl) (by kernel_rfl) (by kernel_rfl) (fun _ _ _ h => h) hHeld (by rfl) ?_ ?_
    rotate_left
    · (intro W hW; have e0 := hW.1; go_simp; try with_reducible rfl)
    try simp only [Act.put, List.setIfInBounds_toArray, List.set_cons_zero, List.set_cons_succ]
    refine held_take 5 (v := ?_) rfl (by kernel_rfl) (by kernel_rfl) (by kernel_rfl) (fun _ _ _ h => h) hHeld (by rfl) ?_ ?_
    rotate_left
    · (intro W hW; go_simp; try with_reducible rfl)
    try simp only [Act.put, List.setIfInBounds_toArray, List.set_cons_zero, List.set_cons_succ]
    refine held_take 6 (v := ?_) rfl (by kernel_rfl) (by kernel_rfl) (by kernel_rfl) (fun _ _ _ h => h) hHeld (by rfl) ?_ ?_
    rotate_left
    · (intro W hW; go_simp; try with_reducible rfl)
    try simp only [Act.put, List.setIfInBounds_toArray, List.set_cons_zero, List.set_cons_succ]
    refine held_take 7 (v := ?_) rfl (by kernel_rfl) (by kernel_rfl) (by kernel_rfl) (fun _ _ _ h => h) hHeld (by rfl) ?_ ?_
    rotate_left
    · (intro W hW; go_simp; try with_reducible rfl)
    try simp only [Act.put, List.setIfInBounds_toArray, List.set_cons_zero, List.set_cons_succ]
    refine held_take 8 (v := ?_) rfl (by kernel_rfl) (by kernel_rfl) (by kernel_rfl) (fun _ _ _ h => h) hHeld (by rfl) ?_ ?_
    rotate_left
    · (intro W hW; have e0 := hW.2; go_simp; try with_reducible rfl)
    try simp only [Act.put, List.setIfInBounds_toArray, List.set_cons_zero, List.set_cons_succ]
    refine held_take 9 (v := ?_) rfl (by kernel_rfl) (by kernel_rfl) (by kernel_rfl) (fun _ _ _ h => h) hHeld (by rfl) ?_ ?_
    rotate_left
    · (intro W hW; go_simp; try with_reducible rfl)
    try simp only [Act.put, List.setIfInBounds_toArray, List.set_cons_zero, List.set_cons_succ]
    refine held_next 10 rfl (by kernel_rfl) (by rfl) (fun K hK => ?_)
    go_simp
    go_at_call 21
    refine (HLG.out _ (RowKit.Below.refl _ _).drew).mono ?_
    rintro _ w4 ⟨b2, v2, L2, y2, rfl, hnb, hrun, hrec, hl4, hy1, hy2, hb4⟩
    have HB4 := Lib.hid (((RowKit.Below.refl w3.heap.size w3).drew).trans (hb4.mono (by simp)))
    have HNB := Lib.hid (show w3.heap.size ≤ b2 by simpa using hnb)
    have HL4 := Lib.hid hl4
    have HRN := Lib.hid hrun
    have HY2 := Lib.hid (And.intro hy1 hy2)
    clear hnb hrun hrec hl4 hy1 hy2 hb4 HLG
    refine hK.out _ _ (⟨cell_bl C0.out HB4.out, cell_bl C1.out HB4.out⟩) (fun hHeld => ?_)
    clear hK K
    try simp only [Act.put, List.setIfInBounds_toArray, List.set_cons_zero, List.set_cons_succ]
    refine held_take 11 (v := ?_) rfl (by kernel_rfl) (by kernel_rfl) (by kernel_rfl) (fun _ _ _ h => h) hHeld (by rfl) ?_ ?_
    rotate_left
    · (intro W hW; go_simp; try with_reducible rfl)
    try simp only [Act.put, List.setIfInBounds_toArray, List.set_cons_zero, List.set_cons_succ]
    refine held_take 12 (v := ?_) rfl (by kernel_rfl) (by kernel_rfl) (by kernel_rfl) (fun _ _ _ h => h) hHeld (by rfl) ?_ ?_
    rotate_left
    · (intro W hW; go_simp; try with_reducible rfl)
    try simp only [Act.put, List.setIfInBounds_toArray, List.set_cons_zero, List.set_cons_succ]
    refine held_take 13 (v := ?_) rfl (by kernel_rfl) (by kernel_rfl) (by kernel_rfl) (fun _ _ _ h => h) hHeld (by rfl) ?_ ?_
    rotate_left
    · (intro W hW; go_simp; try with_reducible rfl)
    try simp only [Act.put, List.setIfInBounds_toArray, List.set_cons_zero, List.set_cons_succ]
    refine held_take 14 (v := ?_) rfl (by kernel_rfl) (by kernel_rfl) (by kernel_rfl) (fun _ _ _ h => h) hHeld (by rfl) ?_ ?_
    rotate_left
    · (intro W hW; go_simp; try with_reducible rfl)
    try simp only [Act.put, List.setIfInBounds_toArray, List.set_cons_zero, List.set_cons_succ]
    refine held_take 15 (v := ?_) rfl (by kernel_rfl) (by kernel_rfl) (by kernel_rfl) (fun _ _ _ h => h) hHeld (by rfl) ?_ ?_
    rotate_left
    · (intro W hW; go_simp; try with_reducible rfl)
    try simp only [Act.put, List.setIfInBounds_toArray, List.set_cons_zero, List.set_cons_succ]
    refine held_next 16 rfl (by kernel_rfl) (by rfl) (fun K hK => ?_)
    refine wp_storeP 50 _ _ rfl ⟨b, 2, none⟩ ⟨b2, 0, none⟩ _ rfl rfl (by kernel_rfl) (HJ3.out.below HB4.out).ja.cells.2.2.1 (frozen_of_row w4 b 2 _ _ (HJ3.out.below HB4.out).ja.bk) ?_
    refine hK.out _ _ (⟨((HJ3.out.below HB4.out).ja.setlog b2).cells.1, ((HJ3.out.below HB4.out).ja.setlog b2).cells.2.1⟩) (fun hHeld => ?_)
    clear hK K
    try simp only [Act.put]
    refine wpAnyH_done (by kernel_rfl) ?_ _
    go_simp
    obtain ⟨w5, hw5⟩ : ∃ w5, w5 = w4.setCell ⟨b, 2, none⟩ (.pointer (some ⟨b2, 0, none⟩)) := ⟨_, rfl⟩
    rw [← hw5]
    have HR := Lib.hid (show AppJ F g b lb d s x z n l w (.returned (.int .i64 82)) w5 by
      refine HGO.out 82 _ _ rfl ⟨F2, b2, ?_, rfl, Or.inr ⟨rfl, y2, nextN d1 (2 * s) z n, ?_, HY2.out.1, by rw [HZ.out, ← HLN.out]; exact HY2.out.2⟩⟩
      · rw [hw5]
        exact ((HF3.out.below HB4.out).set 2 _).log (Nat.le_trans HF3.out.on.size HNB.out)
      · rw [hw5]
        have hl := HL4.out
        rw [HLN.out, ← HZ.out] at hl
        exact (HJ3.out.below HB4.out).setlog hl (fun e => by have := HJ3.out.dt.fl _ e; have := HNB.out; omega) (fun e => by have := HJ3.out.ja.lt; have := HNB.out; omega)
      )
    clear hw5
    go_wp2
    go_ret
    exact HR.out
  · have d0 : (E == 82) = false := by simpa using hE
    have HR := Lib.hid (show AppJ F g b lb d s x z n l w (.returned (.int .i64 E)) w2 from HGO.out E _ _ rfl ⟨F2, lb, HF2.out, rfl, Or.inl ⟨hE, rfl, HJ2.out⟩⟩)
    clear hE
    go_wp2
    go_ret
    exact HR.out
/-! Compact -/
/-- what Compact leaves; r is what the Write of the content does -/
def CmpJ (F : Nat → Prop) (g b lb : Nat) (s x z : Int) (n : Nat) (rd : Bool) (st : List UInt8) (r : Dk × Nat × Int) (w : World) (e : Ending) (w' : World) : Prop :=
  ((12288 < st.length ∨ 1152921504606846976 < n - 1) ∧ e = .returned (.int .i64 121) ∧ RowKit.Below w.heap.size w w') ∨
  (st.length ≤ 12288 ∧ n - 1 ≤ 1152921504606846976 ∧ e = .returned (.int .i64 r.2.2) ∧ ∃ F' lb', JFr F b lb w w' F' lb' ∧
    ((r.2.2 = 82 ∧ DAt w' F' g r.1 ∧ JOff w' b ∧ ¬ F' b) ∨
     (r.2.2 = 0 ∧ ∃ L y, Run r.1 z (2 * s) (n - 1) L y ∧ 2 * s ≤ y ∧ y ≤ z ∧ JM w' F' g b lb' r.1 s y z (nextN r.1 (2 * s) z (n - 1)) true) ∨
     (r.2.2 ≠ 0 ∧ r.2.2 ≠ 82 ∧ lb' = lb ∧ JM w' F' g b lb r.1 s x z n rd)))
theorem wpList_buildJ {ops : Array Oper} {rest : List Oper} {o : Oper} {a : Act} {w : World} {Q : Exit → Act → World → Prop} (hgd : o.guard = none) (ho : o.op = .build 55 #[])
    (hq : wpList Try.prog ops Q rest (a.put o.dst (.agg zJ.toArray)) w) : wpList Try.prog ops Q (o :: rest) a w :=
  wpList_plain hgd fun K hK => by
    unfold Oper.wp execOp
    have e : (Instr.build 55 #[]).run Try.prog w = .ok (.agg zJ.toArray) w := by
      simp [Instr.build, Sem.run_bind, isJ.zero, run_underlying Try.underlying55, Value.cells, Instr.fill]
    simp only [ho, Sem.run_bind, Sem.run_pure, Result.andThen_ok, List.map_toArray, List.map_nil, e]
    exact hK _ _ hq
set_option maxRecDepth 100000 in
set_option maxHeartbeats 3200000 in
theorem jcompact_any (w : World) (F : Nat → Prop) (g b lb : Nat) (d : Dk) (s x z : Int) (n : Nat) (rd : Bool) (st : List UInt8) (a : Option Addr) (len cap : Nat) (h : JM w F g b lb d s x z n rd) (hs : canJ d s = true) (hz : z = (d.base.length : Int)) (hn : 1 ≤ n) (hn2 : n < 18446744073709551616)
    (hb : BAt w a st) (hln : st.length = len) (ha : a = none → st = []) (hl : len ≤ 400000) (hq : d.queue.length < 9700) :
    Calls Try.prog 10 #[.pointer (some ⟨b, 0, none⟩), .slice a len cap] w (CmpJ F g b lb s x z n rd st (d.slotW 0 s (cont (n - 1) st)) w) := by
  obtain ⟨_, _, c2, _⟩ := h.ja.cells
  by_cases h1 : 12288 < len
  · have d0 : decide ((12288 : Int) < (len : Int)) = true := by simp; omega
    have HR := Lib.hid (show CmpJ F g b lb s x z n rd st (d.slotW 0 s (cont (n - 1) st)) w (.returned (.int .i64 121)) w from Or.inl ⟨Or.inl (by omega), rfl, RowKit.Below.refl _ _⟩)
    clear h hs hz hn hn2 hb hln ha hl hq h1
    go_enter Try.func10, Try.ntmps10
    go_wp2
    go_ret
    exact HR.out
  · have d0 : decide ((12288 : Int) < (len : Int)) = false := by simp; omega
    have hw : IntKind.u64.wrap ((n : Int) - 1) = ((n - 1 : Nat) : Int) := by rw [IntKind.wrap_u64]; omega
    have HST := Lib.hid (lstamp_any lb g x z n w h.lg)
    obtain ⟨f, hf⟩ : ∃ f, f = n - 1 := ⟨_, rfl⟩
    rw [← hf] at hw
    by_cases h2 : 1152921504606846976 < f
    · have d1 : decide ((1152921504606846976 : Int) < (f : Int)) = true := by simp; omega
      have HR := Lib.hid (show CmpJ F g b lb s x z n rd st (d.slotW 0 s (cont (n - 1) st)) w (.returned (.int .i64 121)) w from Or.inl ⟨Or.inr (by omega), rfl, RowKit.Below.refl _ _⟩)
      clear h hs hz hn hn2 hb hln ha hl hq h1 h2 hf
      go_enter Try.func10, Try.ntmps10
      go_wp2_with fail
      refine HST.out.mono ?_
      rintro _ _ ⟨rfl, rfl⟩
      go_wp2
      go_ret
      exact HR.out
    · have d1 : decide ((1152921504606846976 : Int) < (f : Int)) = false := by simp; omega
      obtain ⟨s1, s2, s3⟩ := canJ_iff.1 hs
      have hsz := h.dt.ok.sz
      have hcl := cont_len (f := f) (by omega) st
      obtain ⟨C, hC⟩ : ∃ C, C = cont f st := ⟨_, rfl⟩
      rw [← hC] at hcl
      have HJN := Lib.hid (fun (W : World) (hB : RowKit.Below w.heap.size w W) => jjoin_any f st a len cap W (by omega) (hb.below hB) hln ha (by omega))
      rw [← hC] at HJN
      have HSW := Lib.hid (fun (W : World) (hB : RowKit.Below w.heap.size w W) (a3 : Option Addr) (c3 : Nat) (h3 : BAt W a3 C) (hn3 : a3 = none → C = []) => swrite_any g F d 0 s C a3 C.length c3 W (h.dt.below hB) (by unfold I; omega) (by unfold I; omega) h3 rfl hn3 (by omega) hq)
      have HG : ∀ (r : Dk × Nat × Int) (e : Ending) (w' : World), r = d.slotW 0 s C → ((e = .returned (.int .i64 r.2.2) ∧ ∃ F' lb', JFr F b lb w w' F' lb' ∧
        ((r.2.2 = 82 ∧ DAt w' F' g r.1 ∧ JOff w' b ∧ ¬ F' b) ∨
         (r.2.2 = 0 ∧ ∃ L y, Run r.1 z (2 * s) f L y ∧ 2 * s ≤ y ∧ y ≤ z ∧ JM w' F' g b lb' r.1 s y z (nextN r.1 (2 * s) z f) true) ∨
         (r.2.2 ≠ 0 ∧ r.2.2 ≠ 82 ∧ lb' = lb ∧ JM w' F' g b lb r.1 s x z n rd))) → CmpJ F g b lb s x z n rd st (d.slotW 0 s (cont (n - 1) st)) w e w') := fun r e w' hr k => by
        subst hr
        rw [hC, hf] at k
        exact Or.inr ⟨by omega, by omega, k⟩
      have HGO := Lib.hid HG
      have HLN := Lib.hid (slotW_lens d 0 s C).2
      have HJ := Lib.hid h
      have HSC := Lib.hid hs
      have HZ := Lib.hid hz
      have HFL := Lib.hid (show f < 18446744073709551616 by omega)
      have C0 := Lib.hid h.ja.cells.1
      have C1 := Lib.hid h.ja.cells.2.1
      obtain ⟨r, hr⟩ : ∃ r, r = d.slotW 0 s C := ⟨_, rfl⟩
      rw [← hr] at HSW HLN HGO
      unfold SwRes at HSW
      obtain ⟨d1, gen, E⟩ := r
      simp only at HSW HLN
      clear h hs hz hn hn2 hb hln ha hl hq h1 h2 hf hr HG hC hcl s1 s2 s3 hsz
      go_enter Try.func10, Try.ntmps10
      go_wp2_with fail
      refine HST.out.mono ?_
      rintro _ _ ⟨rfl, rfl⟩
      clear HST
      go_wp2_with fail
      clear c2
      refine wp_region_held_drew (S := fun W => Agree [b] w W) (by kernel_rfl) ?_ (fun hHeld => ?_)
      · exact fun _ _ => rfl
      refine held_take 0 (v := ?_) rfl (by kernel_rfl) (by kernel_rfl) (by kernel_rfl) (fun _ _ _ h => h) hHeld (by rfl) ?_ ?_
      rotate_left
      · (intro W hW; go_simp; try with_reducible rfl)
      try simp only [Act.put, List.setIfInBounds_toArray, List.set_cons_zero, List.set_cons_succ]
      refine held_take 1 (v := ?_) rfl (by kernel_rfl) (by kernel_rfl) (by kernel_rfl) (fun _ _ _ h => h) hHeld (by rfl) ?_ ?_
      rotate_left
      · (intro W hW; go_simp; try with_reducible rfl)
      try simp only [Act.put, List.setIfInBounds_toArray, List.set_cons_zero, List.set_cons_succ]
      refine held_take 2 (v := ?_) rfl (by kernel_rfl) (by kernel_rfl) (by kernel_rfl) (fun _ _ _ h => h) hHeld (by rfl) ?_ ?_
      rotate_left
      · (intro W hW; go_simp; try with_reducible rfl)
      try simp only [Act.put, List.setIfInBounds_toArray, List.set_cons_zero, List.set_cons_succ]
      refine held_take 3 (v := ?_) rfl (by kernel_rfl) (by kernel_rfl) (by kernel_rfl) (fun _ _ _ h => h) hHeld (by rfl) ?_ ?_
      rotate_left
      · (intro W hW; have e0 := hW.cell (b := b) (by simp) C0.out; go_simp; try with_reducible rfl)
      try simp only [Act.put, List.setIfInBounds_toArray, List.set_cons_zero, List.set_cons_succ]
      refine held_take 4 (v := ?_) rfl (by kernel_rfl) (by kernel_rfl) (by kernel_rfl) (fun _ _ _ h => h) hHeld (by rfl) ?_ ?_
      rotate_left
      · (intro W hW; go_simp; try with_reducible rfl)
      try simp only [Act.put, List.setIfInBounds_toArray, List.set_cons_zero, List.set_cons_succ]
      refine held_take 5 (v := ?_) rfl (by kernel_rfl) (by kernel_rfl) (by kernel_rfl) (fun _ _ _ h => h) hHeld (by rfl) ?_ ?_
      rotate_left
      · (intro W hW; go_simp; try with_reducible rfl)
      try simp only [Act.put, List.setIfInBounds_toArray, List.set_cons_zero, List.set_cons_succ]
      refine held_take 6 (v := ?_) rfl (by kernel_rfl) (by kernel_rfl) (by kernel_rfl) (fun _ _ _ h => h) hHeld (by rfl) ?_ ?_
      rotate_left
      · (intro W hW; go_simp; try with_reducible rfl)
      try simp only [Act.put, List.setIfInBounds_toArray, List.set_cons_zero, List.set_cons_succ]
      refine held_take 7 (v := ?_) rfl (by kernel_rfl) (by kernel_rfl) (by kernel_rfl) (fun _ _ _ h => h) hHeld (by rfl) ?_ ?_
      rotate_left
      · (intro W hW; have e0 := hW.cell (b := b) (by simp) C1.out; go_simp; try with_reducible rfl)
      try simp only [Act.put, List.setIfInBounds_toArray, List.set_cons_zero, List.set_cons_succ]
      refine held_take 8 (v := ?_) rfl (by kernel_rfl) (by kernel_rfl) (by kernel_rfl) (fun _ _ _ h => h) hHeld (by rfl) ?_ ?_
      rotate_left
      · (intro W hW; go_simp; try with_reducible rfl)
      try simp only [Act.put, List.setIfInBounds_toArray, List.set_cons_zero, List.set_cons_succ]
      refine held_take 9 (v := ?_) rfl (by kernel_rfl) (by kernel_rfl) (by kernel_rfl) (fun _ _ _ h => h) hHeld (by rfl) ?_ ?_
      rotate_left
      · (intro W hW; go_simp; try with_reducible rfl)
      try simp only [Act.put, List.setIfInBounds_toArray, List.set_cons_zero, List.set_cons_succ]
      refine held_next 10 rfl (by kernel_rfl) (by rfl) (fun K hK => ?_)
      go_simp
      go_at_call 26
      refine (HJN.out _ (RowKit.Below.refl _ _).drew).mono ?_
      rintro _ w3 ⟨v3, rfl, ho3, hB3⟩
      obtain ⟨a3, c3, rfl, hb3, hc3, _, hn3, _⟩ := ho3.row
      have HB3 := Lib.hid (((RowKit.Below.refl w.heap.size w).drew).trans (hB3.mono (by simp)))
      have HBA3 := Lib.hid hb3
      have HN3 := Lib.hid (show a3 = none → C = [] from fun e => List.eq_nil_of_length_eq_zero (by have := hc3; have := hn3 e; omega))
      clear ho3 hb3 hB3 hn3 hc3
      refine hK.out _ _ (fun i hi => by rw [List.mem_singleton.1 hi]; exact HB3.out.block _ HJ.out.ja.lt) (fun hHeld => ?_)
      clear hK K
      try simp only [Act.put, List.setIfInBounds_toArray, List.set_cons_zero, List.set_cons_succ]
      refine held_next 11 rfl (by kernel_rfl) (by rfl) (fun K hK => ?_)
      go_simp
      go_at_call 25
      refine (HSW.out _ HB3.out a3 c3 HBA3.out HN3.out).mono ?_
      rintro _ w4 ⟨rfl, hdid⟩
      obtain ⟨F4, hj4, hf4⟩ := (HJ.out.below HB3.out).did hdid
      have HJ4 := Lib.hid hj4
      have HF4 := Lib.hid (((JFr.refl F b lb w).below HB3.out).trans hf4)
      clear hdid hj4 hf4
      refine hK.out _ _ (fun i hi => by rw [List.mem_singleton.1 hi]; exact HJ4.out.ja.bk.trans HJ.out.ja.bk.symm) (fun hHeld => ?_)
      clear hK K
      try simp only [Act.put, List.setIfInBounds_toArray, List.set_cons_zero, List.set_cons_succ]
      refine held_take 12 (v := ?_) rfl (by kernel_rfl) (by kernel_rfl) (by kernel_rfl) (fun _ _ _ h => h) hHeld (by rfl) ?_ ?_
      rotate_left
      · (intro W hW; go_simp; try with_reducible rfl)
      try simp only [Act.put, List.setIfInBounds_toArray, List.set_cons_zero, List.set_cons_succ]
      refine held_take 13 (v := ?_) rfl (by kernel_rfl) (by kernel_rfl) (by kernel_rfl) (fun _ _ _ h => h) hHeld (by rfl) ?_ ?_
      rotate_left
      · (intro W hW; go_simp; try with_reducible rfl)
      try simp only [Act.put, List.setIfInBounds_toArray, List.set_cons_zero, List.set_cons_succ]
      refine held_take 14 (v := ?_) rfl (by kernel_rfl) (by kernel_rfl) (by kernel_rfl) (fun _ _ _ h => h) hHeld (by rfl) ?_ ?_
      rotate_left
      · (intro W hW; go_simp; try with_reducible rfl)
      try simp only [Act.put, List.setIfInBounds_toArray, List.set_cons_zero, List.set_cons_succ]
      refine held_take 15 (v := ?_) rfl (by kernel_rfl) (by kernel_rfl) (by kernel_rfl) (fun _ _ _ h => h) hHeld (by rfl) ?_ ?_
      rotate_left
      · (intro W hW; go_simp; try with_reducible rfl)
      try simp only [Act.put, List.setIfInBounds_toArray, List.set_cons_zero, List.set_cons_succ]
      refine held_take 16 (v := ?_) rfl (by kernel_rfl) (by kernel_rfl) (by kernel_rfl) (fun _ _ _ h => h) hHeld (by rfl) ?_ ?_
      rotate_left
      · (intro W hW; go_simp; try with_reducible rfl)
      try simp only [Act.put, List.setIfInBounds_toArray, List.set_cons_zero, List.set_cons_succ]
      refine wpAnyH_done (by kernel_rfl) ?_ _
      go_simp
      by_cases hE : E = 82
      · subst hE
        obtain ⟨w5, hw5⟩ : ∃ w5, w5 = w4.setRow b zJ.toArray := ⟨_, rfl⟩
        have HW5 := Lib.hid hw5
        have HBK := Lib.hid HJ4.out.ja.bk
        have HR := Lib.hid (show CmpJ F g b lb s x z n rd st (d.slotW 0 s (cont (n - 1) st)) w (.returned (.int .i64 82)) w5 by
          refine HGO.out (d1, gen, 82) _ _ rfl ⟨rfl, F4, lb, ?_, Or.inl ⟨rfl, ?_, ?_, HJ4.out.nb⟩⟩
          · rw [hw5]
            exact HF4.out.trans ⟨⟨rfl, rfl, rfl, by rw [size_setRow]; exact Nat.le_refl _, fun i _ hn => setRow_other _ _ _ _ (fun e => hn (Or.inr (Or.inl e)))⟩, (JFr.refl F4 b lb w4).fr, Or.inl rfl⟩
          · rw [hw5]
            exact HJ4.out.dt.same (by rw [size_setRow]; exact Nat.le_refl _) fun i hi => setRow_other _ _ _ _ (fun e => HJ4.out.nb (e ▸ hi))
          · rw [hw5]
            exact setRow_heap _ _ _ _ _ _ HJ4.out.ja.bk)
        clear hw5
        go_wp2_with (first | (with_reducible refine wpList_buildJ rfl rfl ?_) | ((with_reducible refine wpList_storeW rfl isJ _ _ rfl b zJ _ _ rfl rfl HBK.out csJ (by simp) ?_); rw [← HW5.out]))
        go_ret
        exact HR.out
      · have d2 : (E == 82) = false := by simpa using hE
        by_cases hE0 : E = 0
        · subst hE0
          have HLG := Lib.hid (fun (W : World) (hb : RowKit.Below w4.heap.size w4 W) => jlog_any g F4 d1 s f W (HJ4.out.dt.below hb) (by
            have := canJ_iff.1 HSC.out
            exact canJ_iff.2 (by rw [HLN.out]; exact this)) HFL.out)
          have C40 := Lib.hid HJ4.out.ja.cells.1
          have C41 := Lib.hid HJ4.out.ja.cells.2.1
          clear hE
          go_wp2_with fail
          refine wp_region_held_drew (S := fun W => W.cell? ⟨b, 0, none⟩ = some (.pointer (some ⟨g, 0, none⟩)) ∧ W.cell? ⟨b, 1, none⟩ = some (.int .i64 s)) (by kernel_rfl) ?_ (fun hHeld => ?_)
          · exact ⟨cell_bl C40.out (RowKit.Below.refl _ _).drew, cell_bl C41.out (RowKit.Below.refl _ _).drew⟩
          refine held_take 0 (v := ?_) rfl (by kernel_rfl) (by kernel_rfl) (by kernel_rfl) (fun _ _ _ h => h) hHeld (by rfl) ?_ ?_
          rotate_left
          · (intro W hW; go_simp; try with_reducible rfl)
          try simp only [Act.put, List.setIfInBounds_toArray, List.set_cons_zero, List.set_cons_succ]
          refine held_take 1 (v := ?_) rfl (by kernel_rfl) (by kernel_rfl) (by kernel_rfl) (fun _ _ _ h => h) hHeld (by rfl) ?_ ?_
          rotate_left
          · (intro W hW; go_simp; try with_reducible rfl)
          try simp only [Act.put, List.setIfInBounds_toArray, List.set_cons_zero, List.set_cons_succ]
          refine held_take 2 (v := ?_) rfl (by kernel_rfl) (by kernel_rfl) (by kernel_rfl) (fun _ _ _ h => h) hHeld (by rfl) ?_ ?_
          rotate_left
          · (intro W hW; go_simp; try with_reducible rfl)
          try simp only [Act.put, List.setIfInBounds_toArray, List.set_cons_zero, List.set_cons_succ]
          refine held_take 3 (v := ?_) rfl (by kernel_rfl) (by kernel_rfl) (by kernel_rfl) (fun _ _ _ h => h) hHeld (by rfl) ?_ ?_
          rotate_left
          · (intro W hW; go_simp; try with_reducible rfl)
          try simp only [Act.put, List.setIfInBounds_toArray, List.set_cons_zero, List.set_cons_succ]
          refine held_take 4 (v := ?_) rfl (by kernel_rfl) (by kernel_rfl) (by kernel_rfl) (fun _ _ _ h => h) hHeld (by rfl) ?_ ?_
          rotate_left
          · (intro W hW; have e0 := hW.1; go_simp; try with_reducible rfl)
          try simp only [Act.put, List.setIfInBounds_toArray, List.set_cons_zero, List.set_cons_succ]
          refine held_take 5 (v := ?_) rfl (by kernel_rfl) (by kernel_rfl) (by kernel_rfl) (fun _ _ _ h => h) hHeld (by rfl) ?_ ?_
          rotate_left
          · (intro W hW; go_simp; try with_reducible rfl)
          try simp only [Act.put, List.setIfInBounds_toArray, List.set_cons_zero, List.set_cons_succ]
          refine held_take 6 (v := ?_) rfl (by kernel_rfl) (by kernel_rfl) (by kernel_rfl) (fun _ _ _ h => h) hHeld (by rfl) ?_ ?_
          rotate_left
          · (intro W hW; go_simp; try with_reducible rfl)
          try simp only [Act.put, List.setIfInBounds_toArray, List.set_cons_zero, List.set_cons_succ]
          refine held_take 7 (v := ?_) rfl (by kernel_rfl) (by kernel_rfl) (by kernel_rfl) (fun _ _ _ h => h) hHeld (by rfl) ?_ ?_
          rotate_left
          · (intro W hW; go_simp; try with_reducible rfl)
          try simp only [Act.put, List.setIfInBounds_toArray, List.set_cons_zero, List.set_cons_succ]
          refine held_take 8 (v := ?_) rfl (by kernel_rfl) (by kernel_rfl) (by kernel_rfl) (fun _ _ _ h => h) hHeld (by rfl) ?_ ?_
          rotate_left
          · (intro W hW; have e0 := hW.2; go_simp; try with_reducible rfl)
          try simp only [Act.put, List.setIfInBounds_toArray, List.set_cons_zero, List.set_cons_succ]
          refine held_take 9 (v := ?_) rfl (by kernel_rfl) (by kernel_rfl) (by kernel_rfl) (fun _ _ _ h => h) hHeld (by rfl) ?_ ?_
          rotate_left
          · (intro W hW; go_simp; try with_reducible rfl)
          try simp only [Act.put, List.setIfInBounds_toArray, List.set_cons_zero, List.set_cons_succ]
          refine held_next 10 rfl (by kernel_rfl) (by rfl) (fun K hK => ?_)
          go_simp
          go_at_call 21
          refine (HLG.out _ (RowKit.Below.refl _ _).drew).mono ?_
          rintro _ w5 ⟨b2, v2, L2, y2, rfl, hnb, hrun, hrec, hl4, hy1, hy2, hb4⟩
          have HB5 := Lib.hid (((RowKit.Below.refl w4.heap.size w4).drew).trans (hb4.mono (by simp)))
          have HNB := Lib.hid (show w4.heap.size ≤ b2 by simpa using hnb)
          have HL5 := Lib.hid hl4
          have HRN := Lib.hid hrun
          have HY2 := Lib.hid (And.intro hy1 hy2)
          clear hnb hrun hrec hl4 hy1 hy2 hb4 HLG
          refine hK.out _ _ (⟨cell_bl C40.out HB5.out, cell_bl C41.out HB5.out⟩) (fun hHeld => ?_)
          clear hK K
          try simp only [Act.put, List.setIfInBounds_toArray, List.set_cons_zero, List.set_cons_succ]
          refine held_take 11 (v := ?_) rfl (by kernel_rfl) (by kernel_rfl) (by kernel_rfl) (fun _ _ _ h => h) hHeld (by rfl) ?_ ?_
          rotate_left
          · (intro W hW; go_simp; try with_reducible rfl)
          try simp only [Act.put, List.setIfInBounds_toArray, List.set_cons_zero, List.set_cons_succ]
          refine held_take 12 (v := ?_) rfl (by kernel_rfl) (by kernel_rfl) (by kernel_rfl) (fun _ _ _ h => h) hHeld (by rfl) ?_ ?_
          rotate_left
          · (intro W hW; go_simp; try with_reducible rfl)
          try simp only [Act.put, List.setIfInBounds_toArray, List.set_cons_zero, List.set_cons_succ]
          refine held_take 13 (v := ?_) rfl (by kernel_rfl) (by kernel_rfl) (by kernel_rfl) (fun _ _ _ h => h) hHeld (by rfl) ?_ ?_
          rotate_left
          · (intro W hW; go_simp; try with_reducible rfl)
          try simp only [Act.put, List.setIfInBounds_toArray, List.set_cons_zero, List.set_cons_succ]
          refine held_take 14 (v := ?_) rfl (by kernel_rfl) (by kernel_rfl) (by kernel_rfl) (fun _ _ _ h => h) hHeld (by rfl) ?_ ?_
          rotate_left
          · (intro W hW; go_simp; try with_reducible rfl)
          try simp only [Act.put, List.setIfInBounds_toArray, List.set_cons_zero, List.set_cons_succ]
          refine held_take 15 (v := ?_) rfl (by kernel_rfl) (by kernel_rfl) (by kernel_rfl) (fun _ _ _ h => h) hHeld (by rfl) ?_ ?_
          rotate_left
          · (intro W hW; go_simp; try with_reducible rfl)
          try simp only [Act.put, List.setIfInBounds_toArray, List.set_cons_zero, List.set_cons_succ]
          refine held_next 16 rfl (by kernel_rfl) (by rfl) (fun K hK => ?_)
          refine wp_storeP 50 _ _ rfl ⟨b, 2, none⟩ ⟨b2, 0, none⟩ _ rfl rfl (by kernel_rfl) (HJ4.out.below HB5.out).ja.cells.2.2.1 (frozen_of_row w5 b 2 _ _ (HJ4.out.below HB5.out).ja.bk) ?_
          refine hK.out _ _ (⟨((HJ4.out.below HB5.out).ja.setlog b2).cells.1, ((HJ4.out.below HB5.out).ja.setlog b2).cells.2.1⟩) (fun hHeld => ?_)
          clear hK K
          try simp only [Act.put]
          refine wpAnyH_done (by kernel_rfl) ?_ _
          go_simp
          obtain ⟨w6, hw6⟩ : ∃ w6, w6 = w5.setCell ⟨b, 2, none⟩ (.pointer (some ⟨b2, 0, none⟩)) := ⟨_, rfl⟩
          rw [← hw6]
          have HF6 := Lib.hid (show JFr F b lb w w6 F4 b2 by
            rw [hw6]
            exact ((HF4.out.below HB5.out).set 2 _).log (Nat.le_trans HF4.out.on.size HNB.out))
          have HJ6 := Lib.hid (show JM w6 F4 g b b2 d1 s y2 z (nextN d1 (2 * s) z f) rd by
            rw [hw6]
            have hl := HL5.out
            rw [HLN.out, ← HZ.out] at hl
            exact (HJ4.out.below HB5.out).setlog hl (fun e => by have := HJ4.out.dt.fl _ e; have := HNB.out; omega) (fun e => by have := HJ4.out.ja.lt; have := HNB.out; omega))
          clear hw6
          obtain ⟨k0, k1, k2, k3⟩ := HJ6.out.ja.cells
          have f3 := frozen_of_row w6 b 3 _ _ HJ6.out.ja.bk
          have HR := Lib.hid (show CmpJ F g b lb s x z n rd st (d.slotW 0 s (cont (n - 1) st)) w (.returned (.int .i64 0)) (w6.setCell ⟨b, 3, none⟩ (.bool true)) from
            HGO.out (d1, gen, 0) _ _ rfl ⟨rfl, F4, b2, HF6.out.set 3 _, Or.inr (Or.inl ⟨rfl, L2, y2, by have := HRN.out; rwa [HLN.out, ← HZ.out] at this, HY2.out.1, by rw [HZ.out, ← HLN.out]; exact HY2.out.2, HJ6.out.setrd true⟩)⟩)
          go_wp2
          go_ret
          exact HR.out
        · have d3 : (E == 0) = false := by simpa using hE0
          have d4 : (E != 0) = true := by simpa using hE0
          have HR := Lib.hid (show CmpJ F g b lb s x z n rd st (d.slotW 0 s (cont (n - 1) st)) w (.returned (.int .i64 E)) w4 from
            HGO.out (d1, gen, E) _ _ rfl ⟨rfl, F4, lb, HF4.out, Or.inr (Or.inr ⟨hE0, hE, rfl, HJ4.out⟩)⟩)
          clear hE hE0
          go_wp2
          go_ret
          exact HR.out
end Go.Proofs.Ytdfbpaajkpnaeaa
