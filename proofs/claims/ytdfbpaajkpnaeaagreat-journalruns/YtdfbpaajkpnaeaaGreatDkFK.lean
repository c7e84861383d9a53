
/- Package disk: Get. Package disk: what Put leaves in memory. Package disk: Put. slices.Grow of none, slices.Concat of two; a function value is called. Package disk: settle, what a round leaves. Package disk: settle. -/
import Derived.Test.YtdfbpaajkpnaeaaGreatDkCE
import Derived.Lib.AppendZeros
import Derived.LoopN

namespace Go.Proofs.YtdfbpaajkpnaeaaGreat
set_option maxRecDepth 100000
open Go.RowKit Go.Lib

section
variable {t e : TypeId} {size bytes : Nat}
theorem run_idx (E : El t e size bytes) {b off n cap : Nat} {k : IntKind} {i : Int} {j : Nat} (hi : i = (j : Int)) (h : j < n) (w : World) : (Instr.indexAt t (.slice (some ⟨b, off, none⟩) n cap) (.int k i)).run Tryz.prog w = .ok (.pointer (some ⟨b, off + j * size, none⟩)) w := by
  obtain ⟨ti, z, h1, _, h3, _⟩ := E.inf
  subst hi
  simp [Instr.indexAt, asIntOf, run_underlying E.und, Go.sizeOf, typeInfo, h1, h3, Sem.run_bind, h, Addr.add_mid]
theorem wpList_idx (E : El t e size bytes) {ops : Array Oper} {rest : List Oper} {o : Oper} {a : Act} {w : World} {Q : Exit → Act → World → Prop} (hgd : o.guard = none) (x y : Operand) (ho : o.op = .indexAddr t x y) {b off n cap : Nat} {k : IntKind} {i : Int} (j : Nat) (hx : a.eval x = .slice (some ⟨b, off, none⟩) n cap) (hy : a.eval y = .int k i) (hi : i = (j : Int)) (h : j < n)
    (hq : wpList Tryz.prog ops Q rest (a.put o.dst (.pointer (some ⟨b, off + j * size, none⟩))) w) : wpList Tryz.prog ops Q (o :: rest) a w :=
  wpList_plain hgd fun K hK => by
    unfold Oper.wp execOp
    simp only [ho, hx, hy, Sem.run_bind, Sem.run_pure, Result.andThen_ok, run_idx E hi h]
    exact hK _ _ hq
end
theorem base_at {w : World} {F : Nat → Prop} {g : Nat} {d : Dk} {a0 : Option Addr} {c0 : Nat} {a1 : Option Addr} {c1 m cnt : Nat} {f : Int → Value} (k : DMem w F g d a0 c0 a1 c1 m cnt f) {j : Nat} (hj : j < d.base.length) : ∃ b off, a0 = some ⟨b, off, none⟩ ∧ b < w.heap.size ∧ w.rangeAt b (off + j * 64) (bcells (d.base.getD j [])) := by
  obtain ⟨a, cap, hv, hl, _, _⟩ := ow_lie k.bs
  simp only [Value.slice.injEq, true_and] at hv
  obtain ⟨rfl, rfl⟩ := hv
  exact hl.get (fun s hs => cells_len s (k.ok.bl s hs)) (by decide) (by rw [List.getD, List.getElem?_eq_getElem hj]; rfl)
theorem shape_at {w : World} {F : Nat → Prop} {g : Nat} {d : Dk} {a0 : Option Addr} {c0 : Nat} {a1 : Option Addr} {c1 m cnt : Nat} {f : Int → Value} (k : DMem w F g d a0 c0 a1 c1 m cnt f) {x : Int} (hx : I x) :
    ∃ a cap, f x = .slice a (ofQ d.queue x).length cap ∧ ∀ j s, (ofQ d.queue x)[j]? = some s → ∃ b off, a = some ⟨b, off, none⟩ ∧ b < w.heap.size ∧ w.rangeAt b (off + j * 64) (bcells s) := by
  obtain ⟨a, cap, hv, hl, _, _⟩ := ow_lie (k.sh x hx)
  exact ⟨a, cap, hv, fun j s hs => hl.get (fun s hs => cells_len s (by obtain ⟨p, hp, rfl, _⟩ := ofQ_mem hs; exact k.ok.ql p hp)) (by decide) hs⟩
def GetRes (d : Dk) (x : Int) (w : World) (e : Ending) (w' : World) : Prop := e = .returned (.tuple #[.agg (bcells (d.at_ x)).toArray, .int .i64 (if d.has x then 0 else 81)]) ∧ RowKit.Below w.heap.size w w'
set_option maxRecDepth 100000 in
set_option maxHeartbeats 800000 in
theorem get_any (g : Nat) (F : Nat → Prop) (d : Dk) (x : Int) (w : World) (h : DAt w F g d) (hx : I x) : Calls Tryz.prog 93 #[.pointer (some ⟨g, 0, none⟩), .int .i64 x] w (GetRes d x w) := by
  obtain ⟨a0, c0, a1, c1, m, cnt, f, k0⟩ := h
  have hal : RowKit.Below w.heap.size w (w.alloc (.cells zc.toArray 88)) := (RowKit.Below.refl _ _).alloc (Nat.le_refl _) _
  have k := k0.below hal
  have HK := Lib.hid k
  have HW := Lib.hid hal
  obtain ⟨d0, d1, d2, d3, d4⟩ := k.cells
  have AL := at_len k.ok x
  have HA := Lib.hid (fun (W : World) => fun (h0 : W.cell? ⟨g, 0, none⟩ = some (.slice a0 d.base.length c0)) => has_any g d.base.length a0 c0 x W h0)
  have HG := Lib.hid (heap_alloc_new w (.cells zc.toArray 88))
  cases hh : decide (0 ≤ x ∧ x < (d.base.length : Int)) with
  | false =>
    have hhas : d.has x = false := hh
    have hat : d.at_ x = zsec := by unfold Dk.at_; rw [if_neg (by simpa using hh)]
    have HR := Lib.hid (show GetRes d x w (.returned (.tuple #[.agg zc.toArray, .int .i64 81])) ((w.alloc (.cells zc.toArray 88)).setRow w.heap.size zc.toArray) from by
      unfold GetRes; rw [hat, hhas]; exact ⟨rfl, below_setRow hal (Nat.le_refl _)⟩)
    rw [hh] at HA
    have HC0 := Lib.hid d0
    clear k k0 hal d0 d1 d2 d3 d4 AL hx hh hhas hat
    go_enter Tryz.func93, Tryz.ntmps93
    go_wp2_with (first | (with_reducible refine wpList_allocA rfl isS rfl ?_))
    refine (HA.out _ HC0.out).mono ?_
    rintro _ _ ⟨rfl, rfl⟩
    go_wp2_with (first | (with_reducible refine wpList_buildZ rfl rfl ?_) | (with_reducible refine wpList_storeW rfl isS _ _ rfl _ zc zc.toArray _ rfl rfl HG.out cs_zc (by simp [zc_len]) ?_))
    refine ret_cell_slot isS rfl rfl rfl (setRow_heap _ _ _ _ _ _ HG.out) cs_zc rfl ?_
    exact HR.out
  | true =>
    have hhas : d.has x = true := hh
    obtain ⟨h1, h2⟩ : 0 ≤ x ∧ x < (d.base.length : Int) := by simpa using hh
    obtain ⟨sa, scap, hs, hsh⟩ := shape_at k hx
    have lk := k.mp.look hx
    rw [hs] at lk
    obtain ⟨q, hq⟩ : ∃ q, q = ofQ d.queue x := ⟨_, rfl⟩
    rw [← hq] at lk hsh
    obtain ⟨n, hn⟩ : ∃ n, n = q.length := ⟨_, rfl⟩
    rw [← hn] at lk
    have hn9 : n ≤ 10000 := by rw [hn, hq]; exact Nat.le_trans (ofQ_le _ _) k.ok.qn
    have hat : d.at_ x = (q.getLast?).getD (d.base.getD x.toNat []) := by unfold Dk.at_; rw [if_pos ⟨h1, h2⟩, hq]
    rw [hh] at HA
    have HC0 := Lib.hid d0
    have hfin : ∀ c : List Value, c = bcells (d.at_ x) → GetRes d x w (.returned (.tuple #[.agg c.toArray, .int .i64 0])) ((w.alloc (.cells zc.toArray 88)).setRow w.heap.size c.toArray) := fun c hc => by
      unfold GetRes; rw [hc, hhas]; exact ⟨rfl, below_setRow hal (Nat.le_refl _)⟩
    have HR := Lib.hid hfin
    by_cases hn0 : n = 0
    · have hq0 : q = [] := List.eq_nil_of_length_eq_zero (by omega)
      obtain ⟨b, off, ha, hb, hr⟩ := base_at k (j := x.toNat) (by omega)
      have HX : x = ((x.toNat : Nat) : Int) := by omega
      have HXX := Lib.hid HX
      have HXL := Lib.hid (show x.toNat < d.base.length by omega)
      obtain ⟨c, hc⟩ : ∃ c, c = bcells (d.base.getD x.toNat []) := ⟨_, rfl⟩
      rw [← hc] at hr
      have hCs : Cs 64 c := by rw [hc]; exact cs_sec (k.ok.bl _ (getD_mem (by omega)))
      have HCE := Lib.hid (show c = bcells (d.at_ x) by rw [hat, hq0, hc]; rfl)
      have HRR := Lib.hid hr
      have HCs := Lib.hid hCs
      subst ha hn0
      clear HX k k0 hal d1 d3 d4 AL hx hh hhas hat hsh hs hq hn hn9 hr hCs hc h1 h2 hfin HK
      go_enter Tryz.func93, Tryz.ntmps93
      go_wp2_with (first | (with_reducible refine wpList_allocA rfl isS rfl ?_))
      refine (HA.out _ HC0.out).mono ?_
      rintro _ _ ⟨rfl, rfl⟩
      go_wp2_with (first | (with_reducible refine wpList_idx elS rfl _ _ rfl x.toNat rfl rfl HXX.out HXL.out ?_) | (with_reducible refine wpList_loadM rfl isS _ rfl _ _ c rfl HRR.out HCs.out ?_) | (with_reducible refine wpList_storeW rfl isS _ _ rfl _ c zc.toArray _ rfl rfl HG.out HCs.out (by simp [zc_len]) ?_))
      refine ret_cell_slot isS rfl rfl rfl (setRow_heap _ _ _ _ _ _ HG.out) HCs.out rfl ?_
      exact HR.out _ HCE.out
    · obtain ⟨s, hlast⟩ : ∃ s, q[n - 1]? = some s := ⟨_, List.getElem?_eq_getElem (by omega)⟩
      obtain ⟨b, off, ha, hb, hr⟩ := hsh _ _ hlast
      have hmem := List.mem_of_getElem? hlast
      have hsl : s.length = 64 := by
        rw [hq] at hmem
        obtain ⟨p, hp, e, _⟩ := ofQ_mem hmem
        rw [← e]; exact k.ok.ql p hp
      have hat2 : d.at_ x = s := by rw [hat, List.getLast?_eq_getElem?, ← hn, hlast]; rfl
      obtain ⟨c, hc⟩ : ∃ c, c = bcells s := ⟨_, rfl⟩
      rw [← hc] at hr
      have HCs := Lib.hid (show Cs 64 c by rw [hc]; exact cs_sec hsl)
      have HCE := Lib.hid (show c = bcells (d.at_ x) by rw [hat2, hc])
      have HRR := Lib.hid hr
      have HI := Lib.hid (show (n : Int) - 1 = ((n - 1 : Nat) : Int) by omega)
      have HIL := Lib.hid (show n - 1 < n by omega)
      have r0 : IntKind.i64.wrap ((n : Int) - 1) = (n : Int) - 1 := IntWalk.i64_in _ (by omega)
      have d0' : decide (0 < n) = true := by simp; omega
      subst ha
      clear k k0 hal d1 d3 d4 AL hx hh hhas hat hat2 hsh hs hq hn hn9 hr hc h1 h2 hfin HK hlast hmem hsl hn0
      go_enter Tryz.func93, Tryz.ntmps93
      go_wp2_with (first | (with_reducible refine wpList_allocA rfl isS rfl ?_))
      refine (HA.out _ HC0.out).mono ?_
      rintro _ _ ⟨rfl, rfl⟩
      go_wp2_with (first | (with_reducible refine wpList_idx elS rfl _ _ rfl (n - 1) rfl rfl HI.out HIL.out ?_) | (with_reducible refine wpList_loadM rfl isS _ rfl _ _ c rfl HRR.out HCs.out ?_) | (with_reducible refine wpList_storeW rfl isS _ _ rfl _ c zc.toArray _ rfl rfl HG.out HCs.out (by simp [zc_len]) ?_))
      refine ret_cell_slot isS rfl rfl rfl (setRow_heap _ _ _ _ _ _ HG.out) HCs.out rfl ?_
      exact HR.out _ HCE.out
end Go.Proofs.YtdfbpaajkpnaeaaGreat

namespace Go.Proofs.YtdfbpaajkpnaeaaGreat
set_option maxRecDepth 100000
open Go.RowKit Go.Lib

theorem own_type {w : World} {B : Nat} {e e' : TypeId} {n k g : Nat} {v : Value} {xs : List Value} {cs : Array Value} (ho : w.ownsRow B e n v k xs) (hg : w.heap[g]? = some (.cells cs e')) (hne : e ≠ e') : v.ownBlock ≠ some g := by
  intro h
  rcases ho.2 with ⟨hv, _⟩ | ⟨g', cap, cur, hv, _, hgg, _⟩
  · rw [hv] at h; cases h
  · rw [hv] at h
    have : g' = g := by simpa [Value.ownBlock] using h
    subst this
    rw [hg] at hgg
    injection hgg with hgg
    injection hgg with _ e3
    exact hne e3.symm
theorem own_type2 {w : World} {B B' : Nat} {e e' : TypeId} {n n' k k' : Nat} {v v' : Value} {xs xs' : List Value} (ho : w.ownsRow B e n v k xs) (ho' : w.ownsRow B' e' n' v' k' xs') (hne : e ≠ e') : ∀ i, v.ownBlock = some i → v'.ownBlock ≠ some i := by
  intro i hi
  rcases ho.2 with ⟨hv, _⟩ | ⟨g', cap, cur, hv, _, hgg, _⟩
  · rw [hv] at hi; cases hi
  · rw [hv] at hi
    have : g' = i := by simpa [Value.ownBlock] using hi
    subst this
    exact own_type ho' hgg (Ne.symm hne)
theorem own_map {w : World} {B : Nat} {e : TypeId} {n k m cnt : Nat} {v : Value} {xs : List Value} {f : Int → Value} (ho : w.ownsRow B e n v k xs) (hm : MapAt w m cnt f) : v.ownBlock ≠ some m := by
  intro h
  obtain ⟨es, cl, hb⟩ := hm.isMap
  rcases ho.2 with ⟨hv, _⟩ | ⟨g', cap, cur, hv, _, hgg, _⟩
  · rw [hv] at h; cases h
  · rw [hv] at h
    have : g' = m := by simpa [Value.ownBlock] using h
    subst this
    rw [hb] at hgg
    cases hgg
theorem map_row {w : World} {m cnt g : Nat} {f : Int → Value} {cs : Array Value} {e : TypeId} (hm : MapAt w m cnt f) (hg : w.heap[g]? = some (.cells cs e)) : m ≠ g := by
  obtain ⟨es, cl, hb⟩ := hm.isMap
  intro e2
  subst e2
  rw [hb] at hg
  cases hg
/-- F and what is new -/
def More (F : Nat → Prop) (w w' : World) : Nat → Prop := fun i => F i ∨ (w.heap.size ≤ i ∧ i < w'.heap.size)
theorem More.or {F : Nat → Prop} {w w' : World} {i : Nat} (h : More F w w' i) : F i ∨ w.heap.size ≤ i := h.imp id And.left
/-- append to the queue, and into the field -/
theorem put_q {w w2 w3 : World} {F : Nat → Prop} {g : Nat} {d : Dk} {S : Int → List Sec} {a0 : Option Addr} {c0 : Nat} {a1 : Option Addr} {c1 m cnt : Nat} {f : Int → Value} (k : DMemS w F g d S a0 c0 a1 c1 m cnt f) (p : Nat × Sec)
    (hok : Dk.Ok { d with queue := d.queue ++ [p] }) {v' : Value} (hb : RowKit.Below w.heap.size w w2) (ha : Appd w2 0 3 1 (.slice a1 d.queue.length c1) (d.queue.length + 1) (qcells d.queue ++ [.int .i64 (p.1 : Int)]) v' w3) :
    ∃ a1' c1', v' = .slice a1' (d.queue.length + 1) c1' ∧ DMemS (w3.setCell ⟨g, 1, none⟩ v') (More F w w3) g { d with queue := d.queue ++ [p] } S a0 c0 a1' c1' m cnt f ∧ Only F w (w3.setCell ⟨g, 1, none⟩ v') ∧
      w3.heap[g]? = some (.cells #[.slice a0 d.base.length c0, .slice a1 d.queue.length c1, .map (some m), .int .i64 d.fuse, .bool d.dead] 66) := by
  obtain ⟨ho, hg, hv⟩ := ha
  have k2 := k.below hb
  obtain ⟨a1', c1', hv', _, _, _⟩ := ow_lie ho
  have hgne : (Value.slice a1 d.queue.length c1).ownBlock ≠ some g := own_type k2.qs k2.blk (by decide)
  have hg3 : w3.heap[g]? = some (.cells #[.slice a0 d.base.length c0, .slice a1 d.queue.length c1, .map (some m), .int .i64 d.fuse, .bool d.dead] 66) :=
    (hg.block g (lt_of_heap k2.blk) (fun e => hgne e.symm)).trans k2.blk
  have hs3 : w.heap.size ≤ w3.heap.size := Nat.le_trans hb.size hg.size
  have kg : ∀ i, i < w2.heap.size → (Value.slice a1 d.queue.length c1).ownBlock ≠ some i → i ≠ g → (w3.setCell ⟨g, 1, none⟩ v').heap[i]? = w2.heap[i]? := fun i hi hne hig => by
    rw [heap_setCell_other _ _ _ _ hig]
    exact hg.block i hi fun e => hne e.symm
  have kept : ∀ {e : TypeId} {n kk : Nat} {v : Value} {xs : List Value}, w2.ownsRow 0 e n v kk xs → e ≠ 3 → e ≠ 66 → (w3.setCell ⟨g, 1, none⟩ v').ownsRow 0 e n v kk xs := fun {e n kk v xs} hx h1 h2 =>
    ow_same hx fun i hi => kg i (hx.lt i hi).2 (own_type2 hx k2.qs h1 i hi) fun e2 => own_type hx k2.blk h2 (e2 ▸ hi)
  have hsz : (w3.setCell ⟨g, 1, none⟩ v').heap.size = w3.heap.size := by simp
  have hgv : v'.ownBlock ≠ some g := own_type ho hg3 (by decide)
  subst hv'
  refine ⟨a1', c1', rfl, ?_, ⟨?_, ?_, ?_, by rw [hsz]; exact hs3, fun i hi hn => ?_⟩, hg3⟩
  · have hl : (d.queue ++ [p]).length = d.queue.length + 1 := by simp
    constructor
    · exact hok
    · show _ = some (Obj.cells #[_, .slice a1' (d.queue ++ [p]).length c1', _, _, _] _ _)
      rw [heap_setCell_same _ _ _ _ _ _ hg3, hl]
      rfl
    · exact kept k2.bs (by decide) (by decide)
    · show (w3.setCell _ _).ownsRow 0 _ 1 (.slice a1' (d.queue ++ [p]).length c1') (d.queue ++ [p]).length (qcells (d.queue ++ [p]))
      rw [hl, qcells_app]
      exact ow_same ho fun i hi => heap_setCell_other _ _ _ _ fun e => hgv (by rw [show i = g from e] at hi; exact hi)
    · exact k2.mp.same (kg m k2.mp.lt (own_map k2.qs k2.mp) (map_row k2.mp k2.blk))
    · show cnt ≤ (d.queue ++ [p]).length
      have := k.cn
      rw [hl]; omega
    · exact fun x hx => kept (k2.sh x hx) (by decide) (by decide)
    · exact k.nb
    · exact k.ne
    · exact Or.inl k.fg
    · exact Or.inl k.fm
    · exact fun i hi => Or.inl (k.fb i hi)
    · intro i hi
      have hi' : (Value.slice a1' (d.queue.length + 1) c1').ownBlock = some i := by rw [← hl]; exact hi
      rcases hv with e | e
      · rw [hi'] at e; exact Or.inl (k.fq i e.symm)
      · rw [hi'] at e
        injection e with e
        exact Or.inr ⟨by rw [e]; exact hb.size, by have := (ho.lt i hi').2; omega⟩
    · exact fun x i hx hi => Or.inl (k.fs x i hx hi)
    · intro i hi
      rw [hsz]
      rcases hi with hi | hi
      · exact Nat.lt_of_lt_of_le (k.fl i hi) hs3
      · exact hi.2
  · show w3.os = w.os; exact hg.os.trans hb.os
  · show w3.tape = w.tape; exact hg.tape.trans hb.tape
  · show w3.output = w.output; exact hg.output.trans hb.output
  · exact (kg i (by have := hb.size; omega) (fun e => hn (k.fq i e)) (fun e => hn (e ▸ k.fg))).trans (hb.block i hi)
/-- one more on its way to x -/
def addS (S : Int → List Sec) (x : Int) (s : Sec) : Int → List Sec := fun y => if y = x then S x ++ [s] else S y
theorem put_s {w w2 w3 w4 : World} {F : Nat → Prop} {g : Nat} {d : Dk} {S : Int → List Sec} {a0 : Option Addr} {c0 : Nat} {a1 : Option Addr} {c1 m cnt : Nat} {f : Int → Value} (k : DMemS w F g d S a0 c0 a1 c1 m cnt f) {x : Int} (hx : I x) (s : Sec) (hc : cnt + 1 ≤ d.queue.length)
    {v' : Value} (hb : RowKit.Below w.heap.size w w2) (ha : Appd w2 0 88 64 (f x) ((S x).length + 1) (scells (S x) ++ bcells s) v' w3) (hm : MapAt w4 m (cnt + 1) (updF f x v')) (hg4 : w3.grownBy w4 (some m)) (hs4 : w4.heap.size = w3.heap.size) :
    DMemS w4 (More F w w4) g d (addS S x s) a0 c0 a1 c1 m (cnt + 1) (updF f x v') ∧ Only F w w4 := by
  obtain ⟨ho, hg, hv⟩ := ha
  have k2 := k.below hb
  have hs3 : w.heap.size ≤ w3.heap.size := Nat.le_trans hb.size hg.size
  have hv3 : v'.ownBlock ≠ some m := by
    rcases hv with e | e
    · rw [e]; exact own_map (k2.sh x hx) k2.mp
    · rw [e]; intro e2; injection e2 with e2; have := k2.mp.lt; omega
  have kg : ∀ i, i < w2.heap.size → (f x).ownBlock ≠ some i → i ≠ m → w4.heap[i]? = w2.heap[i]? := fun i hi hne him =>
    (hg4.block i (Nat.lt_of_lt_of_le hi hg.size) (fun e => him (by injection e))).trans (hg.block i hi fun e => hne e.symm)
  have kept : ∀ {e : TypeId} {n kk : Nat} {v : Value} {xs : List Value}, w2.ownsRow 0 e n v kk xs → (∀ i, v.ownBlock = some i → (f x).ownBlock ≠ some i) → w4.ownsRow 0 e n v kk xs := fun {e n kk v xs} hx h1 =>
    ow_same hx fun i hi => kg i (hx.lt i hi).2 (h1 i hi) fun e2 => own_map hx k2.mp (e2 ▸ hi)
  have hvn : ∀ i, v'.ownBlock = some i → (f x).ownBlock = some i ∨ (w.heap.size ≤ i ∧ w2.heap.size ≤ i ∧ i < w4.heap.size) := fun i hi => by
    rcases hv with e | e
    · left; rw [← e]; exact hi
    · right
      have h3 := (ho.lt i hi).2
      rw [hi] at e
      injection e with e
      exact ⟨by rw [e]; exact hb.size, by omega, by omega⟩
  have hlt : ∀ {e : TypeId} {n kk : Nat} {v : Value} {xs : List Value}, w2.ownsRow 0 e n v kk xs → ∀ i, v.ownBlock = some i → i < w2.heap.size := fun ho i hi => (ho.lt i hi).2
  refine ⟨?_, ⟨hg4.os.trans (hg.os.trans hb.os), hg4.tape.trans (hg.tape.trans hb.tape), hg4.output.trans (hg.output.trans hb.output), by omega, fun i hi hn => ?_⟩⟩
  · constructor
    · exact k.ok
    · exact (kg g (lt_of_heap k2.blk) (own_type (k2.sh x hx) k2.blk (by decide)) (fun e => map_row k2.mp k2.blk e.symm)).trans k2.blk
    · exact kept k2.bs fun i hi e => k.nb x i hx e hi
    · exact kept k2.qs fun i hi => own_type2 k2.qs (k2.sh x hx) (by decide) i hi
    · exact hm
    · exact hc
    · intro y hy
      by_cases e : y = x
      · subst e
        rw [updF_same, show addS S y s y = S y ++ [s] from if_pos rfl, scells_app, scells_sing, List.length_append]
        exact ow_same ho fun i hi => hg4.block i (ho.lt i hi).2 fun e => hv3 (e ▸ hi)
      · rw [updF_other _ _ e, show addS S x s y = S y from if_neg e]
        exact kept (k2.sh y hy) fun i hi => k.ne y x i hy hx e hi
    · intro y i hy hi
      by_cases e : y = x
      · subst e
        rw [updF_same] at hi
        rcases hvn i hi with h | h
        · exact k.nb y i hy h
        · intro h2; have := hlt k2.bs i h2; omega
      · rw [updF_other _ _ e] at hi
        exact k.nb y i hy hi
    · intro y z i hy hz hyz hi
      by_cases e : y = x
      · subst e
        rw [updF_other _ _ (Ne.symm hyz)]
        rw [updF_same] at hi
        rcases hvn i hi with h | h
        · exact k.ne y z i hy hz hyz h
        · intro h2; have := hlt (k2.sh z hz) i h2; omega
      · rw [updF_other _ _ e] at hi
        by_cases e2 : z = x
        · subst e2
          rw [updF_same]
          intro h2
          rcases hvn i h2 with h | h
          · exact k.ne y z i hy hz hyz hi h
          · have := hlt (k2.sh y hy) i hi; omega
        · rw [updF_other _ _ e2]
          exact k.ne y z i hy hz hyz hi
    · exact Or.inl k.fg
    · exact Or.inl k.fm
    · exact fun i hi => Or.inl (k.fb i hi)
    · exact fun i hi => Or.inl (k.fq i hi)
    · intro y i hy hi
      by_cases e : y = x
      · subst e
        rw [updF_same] at hi
        rcases hvn i hi with h | h
        · exact Or.inl (k.fs y i hy h)
        · exact Or.inr ⟨h.1, h.2.2⟩
      · rw [updF_other _ _ e] at hi
        exact Or.inl (k.fs y i hy hi)
    · intro i hi
      rcases hi with hi | hi
      · have := k.fl i hi; omega
      · exact hi.2
  · exact (kg i (by have := hb.size; omega) (fun e => hn (k.fs x i hx e)) (fun e => hn (e ▸ k.fm))).trans (hb.block i hi)
theorem addS_ofQ (q : List (Nat × Sec)) {x : Int} (h0 : 0 ≤ x) (s : Sec) : addS (ofQ q) x s = ofQ (q ++ [(x.toNat, s)]) := by
  funext y
  have hxx : ((x.toNat : Nat) : Int) = x := by omega
  unfold addS
  rw [ofQ_app]
  by_cases e : y = x
  · subst e
    rw [if_pos rfl]
    have := ofQ_one_same (y.toNat, s)
    rw [show (((y.toNat, s) : Nat × Sec).1 : Int) = y from hxx] at this
    rw [this]
  · rw [if_neg e, ofQ_one_other _ (by rw [show (((x.toNat, s) : Nat × Sec).1 : Int) = x from hxx]; exact e), List.append_nil]
end Go.Proofs.YtdfbpaajkpnaeaaGreat

namespace Go.Proofs.YtdfbpaajkpnaeaaGreat
set_option maxRecDepth 100000
open Go.RowKit Go.Lib

theorem wp_look {o : Oper} {a : Act} {w : World} {K : Act → World → Prop} {Q : Exit → Act → World → Prop} (mo xo : Operand) (ho : o.op = .lookup 64 mo xo false) {m : Nat} {x : Int} (hm : a.eval mo = .map (some m)) (hx : a.eval xo = .int .i64 x) {v : Value}
    (hrun : (Instr.lookup 64 (.map (some m)) (.int .i64 x) false).run Tryz.prog w = .ok v w) (h : K (a.put o.dst v) w) : o.wp Tryz.prog a w K Q := by
  unfold Oper.wp execOp
  simp only [ho, hm, hx, Sem.run_bind, Sem.run_pure, Result.andThen_ok, hrun]
  exact h
theorem wp_upd {o : Oper} {a : Act} {w : World} {K : Act → World → Prop} {Q : Exit → Act → World → Prop} (mo xo vo : Operand) (ho : o.op = .mapUpdate 64 mo xo vo) {m cnt : Nat} {f : Int → Value} {x : Int} {v : Value} (hm : a.eval mo = .map (some m)) (hx : a.eval xo = .int .i64 x) (hv : a.eval vo = v)
    (hM : MapAt w m cnt f) (hI : I x) (hc : cnt ≤ 1000000) (h : ∀ w', MapAt w' m (cnt + 1) (updF f x v) → w.grownBy w' (some m) → w'.heap.size = w.heap.size → K (a.put o.dst undef) w') : o.wp Tryz.prog a w K Q := by
  obtain ⟨w', hrun, h1, h2, h3⟩ := hM.put hI v hc
  unfold Oper.wp execOp
  simp only [ho, hm, hx, hv, Sem.run_bind, Sem.run_pure, Result.andThen_ok, hrun]
  exact h w' h1 h2 h3
theorem exec_loadM {o : Oper} {a : Act} {w : World} {T : TypeId} {n : Nat} {z : List Value} (h : IsAgg T n z) (x : Operand) (ho : o.op = .load T x) (b off : Nat) (c : List Value) (hx : a.eval x = .pointer (some ⟨b, off, none⟩)) (hg : w.rangeAt b off c) (hc : Cs n c) :
    (execOp a.eval o).run Tryz.prog w = .ok (.value (.agg c.toArray)) w := by
  unfold execOp
  simp only [ho, hx, Sem.run_bind, run_loadM h hg hc, Result.andThen_ok]
  rfl
/-- these blocks are as they were -/
def Agree (bs : List Nat) (w w' : World) : Prop := ∀ i ∈ bs, w'.heap[i]? = w.heap[i]?
theorem Agree.cell {bs : List Nat} {w w' : World} (h : Agree bs w w') {b o : Nat} {v : Value} (hb : b ∈ bs) (hc : w.cell? ⟨b, o, none⟩ = some v) : w'.cell? ⟨b, o, none⟩ = some v := by
  rw [World.cell?_of_block (a := ⟨b, o, none⟩) (h b hb)]; exact hc
theorem Agree.range {bs : List Nat} {w w' : World} (h : Agree bs w w') {b o : Nat} {c : List Value} (hb : b ∈ bs) (hc : w.rangeAt b o c) : w'.rangeAt b o c := range_of hc (h b hb)
section
variable {P : Program} {md : Region.Mode} {Q : Exit → Act → World → Prop} {S : World → Prop}
/-- two operations may come up -/
theorem held_two {l : List Oper} (i j : Nat) {oi oj : Oper} {ri rj : List Oper} {fuel : Nat} {listed : Array Bool} {a : Act} {w : World} (hi : l.drop i = oi :: ri) (hj : l.drop j = oj :: rj) (hr : Region.ready md l.toArray listed = [i, j])
    (hwi : Region.wanted oi (yielded l.toArray a.tmps) = true) (hwj : Region.wanted oj (yielded l.toArray a.tmps) = true)
    (h1 : ∀ K' : Act → World → Prop, Shut (∀ a w, S w → (S w → wpAnyH P md l.toArray Q S fuel (listed.setIfInBounds i true) a w) → K' a w) → Oper.wp P oi a w K' Q)
    (h2 : ∀ K' : Act → World → Prop, Shut (∀ a w, S w → (S w → wpAnyH P md l.toArray Q S fuel (listed.setIfInBounds j true) a w) → K' a w) → Oper.wp P oj a w K' Q) : wpAnyH P md l.toArray Q S (fuel + 1) listed a w :=
  wpAnyH_ready hr (by simp) (AllReadyH.cons (at_drop hi) (fun K hK => by rw [if_pos hwi]; exact h1 K hK) (AllReadyH.cons (at_drop hj) (fun K hK => by rw [if_pos hwj]; exact h2 K hK) AllReadyH.nil))
end
theorem put_s0 {w w2 w3 : World} {F : Nat → Prop} {g : Nat} {d : Dk} {S : Int → List Sec} {a0 : Option Addr} {c0 : Nat} {a1 : Option Addr} {c1 m cnt : Nat} {f : Int → Value} (k : DMemS w F g d S a0 c0 a1 c1 m cnt f) {x : Int} (hx : I x) {n : Nat} {xs : List Value}
    {v' : Value} (hb : RowKit.Below w.heap.size w w2) (ha : Appd w2 0 88 64 (f x) n xs v' w3) : MapAt w3 m cnt f ∧ ∀ i, i < w.heap.size → (i = g ∨ ¬ F i) → w3.heap[i]? = w.heap[i]? := by
  obtain ⟨ho, hg, hv⟩ := ha
  have k2 := k.below hb
  refine ⟨k2.mp.same (hg.block m k2.mp.lt fun e => own_map (k2.sh x hx) k2.mp e.symm), fun i hi hor => (hg.block i (Nat.lt_of_lt_of_le hi hb.size) fun e => ?_).trans (hb.block i hi)⟩
  rcases hor with h | h
  · subst h; exact own_type (k2.sh x hx) k2.blk (by decide) e.symm
  · exact h (k.fs x i hx e.symm)
def PutRes (g : Nat) (F : Nat → Prop) (d : Dk) (x : Int) (s : Sec) (w : World) (e : Ending) (w' : World) : Prop := e = .returned (.int .i64 (d.putE x)) ∧ Did g F (d.put x s) w w'
set_option maxRecDepth 100000 in
set_option maxHeartbeats 1600000 in
theorem put_any (g : Nat) (F : Nat → Prop) (d : Dk) (x : Int) (s : Sec) (w : World) (h : DAt w F g d) (hx : I x) (hs : s.length = 64) (hq : d.queue.length < 10000) :
    Calls Tryz.prog 78 #[.pointer (some ⟨g, 0, none⟩), .int .i64 x, .agg (bcells s).toArray] w (PutRes g F d x s w) := by
  obtain ⟨a0, c0, a1, c1, m, cnt, f, k⟩ := h
  obtain ⟨c, hc⟩ : ∃ c, c = bcells s := ⟨_, rfl⟩
  have HCs := Lib.hid (show Cs 64 c by rw [hc]; exact cs_sec hs)
  have HCE := Lib.hid hc
  have hal : RowKit.Below w.heap.size w (w.alloc (.cells c.toArray 88)) := (RowKit.Below.refl _ _).alloc (Nat.le_refl _) _
  have k0 := k.below hal
  have HK0 := Lib.hid k0
  have HK := Lib.hid k
  have HC0 := Lib.hid k0.cells.1
  have HA := Lib.hid (fun (W : World) => fun (h0 : W.cell? ⟨g, 0, none⟩ = some (.slice a0 d.base.length c0)) => has_any g d.base.length a0 c0 x W h0)
  have HB0 := Lib.hid (heap_alloc_new w (.cells c.toArray 88))
  have HX := Lib.hid hx
  have HL := Lib.hid hs
  have HQ := Lib.hid hq
  have HW := Lib.hid hal
  rw [← hc]
  cases hh : decide (0 ≤ x ∧ x < (d.base.length : Int)) with
  | false =>
    rw [hh] at HA
    have HR := Lib.hid (show PutRes g F d x s w (.returned (.int .i64 81)) (w.alloc (.cells c.toArray 88)) from by
      have hhas : d.has x = false := hh
      unfold PutRes Dk.putE Dk.put
      rw [hhas]
      exact ⟨rfl, F, ⟨_, _, _, _, _, _, _, k0⟩, Only.of_below hal, fun i hi => Or.inl hi⟩)
    clear hh hc k k0 hal hx hs hq
    go_enter Tryz.func78, Tryz.ntmps78
    go_wp2_with (first | (with_reducible refine wpList_boxA rfl _ _ rfl _ rfl ?_))
    refine (HA.out _ HC0.out).mono ?_
    rintro _ _ ⟨rfl, rfl⟩
    go_wp2
    go_ret
    exact HR.out
  | true =>
    rw [hh] at HA
    have HH := Lib.hid (show d.has x = true from hh)
    have HACT := Lib.hid (act_any g F d a0 c0 a1 c1 m cnt f _ k0)
    clear hc k k0 hal hx hs hq
    go_enter Tryz.func78, Tryz.ntmps78
    go_wp2_with (first | (with_reducible refine wpList_boxA rfl _ _ rfl _ rfl ?_))
    refine (HA.out _ HC0.out).mono ?_
    rintro _ _ ⟨rfl, rfl⟩
    go_wp2_with fail
    refine HACT.out.mono ?_
    rintro _ w1 ⟨rfl, fu, dd, hsp, k1, hg1, hs1⟩
    have HSP := Lib.hid hsp
    have HK1 := Lib.hid k1
    have HG1 := Lib.hid hg1
    have HS1 := Lib.hid hs1
    clear hsp k1 hg1 hs1 HACT
    cases hl : d.live with
    | false =>
      have HE := Lib.hid (show d.actE = 82 by unfold Dk.actE; rw [hl]; rfl)
      have HLV := Lib.hid hl
      rw [show d.actE = 82 by unfold Dk.actE; rw [hl]; rfl]
      clear hl hh
      go_wp2
      go_ret
      unfold PutRes Dk.putE Dk.put
      rw [HH.out, HLV.out, HSP.out]
      exact ⟨rfl, F, ⟨_, _, _, _, _, _, _, HK1.out⟩, (Only.of_below HW.out).trans (Only.of_grown HG1.out fun i e => by cases e; exact HK1.out.fg) (fun i hi => Or.inl hi), fun i hi => Or.inl hi⟩
    | true =>
      have HLV := Lib.hid hl
      rw [show d.actE = 0 by unfold Dk.actE; rw [hl]; rfl]
      have HXN := Lib.hid (show ((x.toNat : Nat) : Int) = x by have := hh; simp at this; omega)
      have HOK := Lib.hid (show Dk.Ok { { d with fuse := fu, dead := dd } with queue := d.queue ++ [(x.toNat, s)] } by
        have := HK.out.ok.put (x := x) (s := s) HL.out HQ.out
        unfold Dk.put at this
        rw [HH.out, HLV.out, HSP.out] at this
        exact this)
      clear hl hh
      have HB1 := Lib.hid (show w1.heap[w.heap.size]? = some (.cells c.toArray 88) from (HG1.out.block _ (by simp) (fun e => by injection e with e; have := HK.out.fl _ HK.out.fg; omega)).trans HB0.out)
      have cg1 : w1.cell? ⟨g, 1, none⟩ = some (.slice a1 d.queue.length c1) := HK1.out.cells.2.1
      have HAL := Lib.hid (show RowKit.Below w1.heap.size w1 (w1.alloc (.cells #[.int .i64 x] 3)) from (RowKit.Below.refl _ _).alloc (Nat.le_refl _) _)
      go_wp2_with (at_builtin; refine wpList_appO elN rfl _ _ rfl 0 (.slice a1 d.queue.length c1) d.queue.length (qcells d.queue) (some ⟨w1.heap.size, 0, none⟩) 1 1 [.int .i64 x] rfl rfl (HK1.out.below HAL.out).qs rfl (lie_new w1 [.int .i64 x] 3) (fun e => by cases e) (fun u hu => by rw [List.mem_singleton.1 hu]; rfl) (by have := HQ.out; omega) (by decide) (Nat.zero_le _) ?_; intro v3 w3 h3; have HP := Lib.hid (put_q HK1.out (x.toNat, s) HOK.out HAL.out (by rw [HXN.out]; exact h3)); clear h3 cg1; obtain ⟨a1', c1', hv3, k4, o4, hg4⟩ := HP.out; have q1 : w3.cell? ⟨g, 1, none⟩ = some (.slice a1 d.queue.length c1) := (by rw [cell_of_row _ _ _ _ _ _ hg4]; rfl); have f1 : w3.frozen? ⟨g, 1, none⟩ = false := frozen_of_row _ _ _ _ _ hg4; have HK4 := Lib.hid k4; have HO4 := Lib.hid o4; clear HP hg4 k4 o4; subst hv3)
      generalize hW4 : w3.setCell ⟨g, 1, none⟩ (.slice a1' (d.queue.length + 1) c1') = w4 at *
      clear hW4 q1 f1
      have HNF := Lib.hid (show ¬ F w.heap.size from fun e => by have := HK.out.fl _ e; omega)
      have HB4 := Lib.hid (HO4.out.at_ HB1.out HNF.out)
      have rb : w4.rangeAt w.heap.size 0 c := range_row HB4.out
      have q2 := HK4.out.cells.2.2.1
      have HRB := Lib.hid rb
      have HQ2 := Lib.hid q2
      have HB1' := Lib.hid HB1.out
      have HLK := Lib.hid (fun (W : World) (e : W.heap[m]? = w4.heap[m]?) => (HK4.out.mp.same e).look HX.out)
      have HNF4 := Lib.hid (show ¬ More F w1 w3 w.heap.size from fun e => e.elim HNF.out fun e2 => by have := lt_of_heap HB1'.out; omega)
      have HD6 := Lib.hid (show RowKit.Below w4.heap.size w4 (w4.drew.alloc (.cells c.toArray 88)) from ((RowKit.Below.refl _ _).drew).alloc (Nat.le_refl _) _)
      have HEND := Lib.hid (show ∀ w8 f8, (DMemS w8 (More (More F w1 w3) w4 w8) g { { d with fuse := fu, dead := dd } with queue := d.queue ++ [(x.toNat, s)] } (addS (ofQ d.queue) x s) a0 c0 a1' c1' m (cnt + 1) f8 ∧ Only (More F w1 w3) w4 w8) → PutRes g F d x s w (.returned (.int .i64 0)) w8 from fun w8 f8 h8 => by
              have hx0 : 0 ≤ x := by have := HXN.out; omega
              rw [addS_ofQ _ hx0] at h8
              have o1 : Only F w w1 := (Only.of_below HW.out).trans (Only.of_grown HG1.out fun i e => by cases e; exact HK1.out.fg) (fun i hi => Or.inl hi)
              have o4 : Only F w w4 := o1.trans HO4.out fun i hi => Or.inl hi
              have m1 : ∀ i, More F w1 w3 i → F i ∨ w.heap.size ≤ i := fun i hi => hi.elim Or.inl fun e => Or.inr (Nat.le_trans o1.size e.1)
              unfold PutRes Dk.putE Dk.put
              rw [HH.out, HLV.out, HSP.out]
              exact ⟨rfl, _, ⟨_, _, _, _, _, _, _, h8.1⟩, o4.trans h8.2 m1, fun i hi => hi.elim (m1 i) fun e => Or.inr (Nat.le_trans o4.size e.1)⟩)
      clear rb q2 HA HC0 HB0 HB1
      go_wp2_with fail
      refine wp_region_held_drew (S := fun W => Agree [g, w.heap.size] w4 W) (by kernel_rfl) ?_ (fun hHeld => ?_)
      · exact fun _ _ => rfl
      refine held_take 0 (v := ?_) rfl (by kernel_rfl) (by kernel_rfl) (by kernel_rfl) (fun _ _ _ h => h) hHeld (by rfl) ?_ ?_
      rotate_left
      · (intro W hW; go_simp; try with_reducible rfl)
      try simp only [Act.put, List.setIfInBounds_toArray, List.set_cons_zero, List.set_cons_succ]
      refine held_take 1 (v := ?_) rfl (by kernel_rfl) (by kernel_rfl) (by kernel_rfl) (fun _ _ _ h => h) hHeld (by rfl) ?_ ?_
      rotate_left
      · (intro W hW; go_simp; try with_reducible rfl)
      try simp only [Act.put, List.setIfInBounds_toArray, List.set_cons_zero, List.set_cons_succ]
      refine held_take 2 (v := ?_) rfl (by kernel_rfl) (by kernel_rfl) (by kernel_rfl) (fun _ _ _ h => h) hHeld (by rfl) ?_ ?_
      rotate_left
      · (intro W hW; go_simp; try with_reducible rfl)
      try simp only [Act.put, List.setIfInBounds_toArray, List.set_cons_zero, List.set_cons_succ]
      refine held_take 3 (v := ?_) rfl (by kernel_rfl) (by kernel_rfl) (by kernel_rfl) (fun _ _ _ h => h) hHeld (by rfl) ?_ ?_
      rotate_left
      · (intro W hW; have e := hW.cell (by simp) HQ2.out; go_simp; try with_reducible rfl)
      try simp only [Act.put, List.setIfInBounds_toArray, List.set_cons_zero, List.set_cons_succ]
      refine held_take 4 (v := ?_) rfl (by kernel_rfl) (by kernel_rfl) (by kernel_rfl) (fun _ _ _ h => h) hHeld (by rfl) ?_ ?_
      rotate_left
      · (intro W hW; go_simp; try with_reducible rfl)
      try simp only [Act.put, List.setIfInBounds_toArray, List.set_cons_zero, List.set_cons_succ]
      refine held_take 5 (v := ?_) rfl (by kernel_rfl) (by kernel_rfl) (by kernel_rfl) (fun _ _ _ h => h) hHeld (by rfl) ?_ ?_
      rotate_left
      · (intro W hW; go_simp; try with_reducible rfl)
      try simp only [Act.put, List.setIfInBounds_toArray, List.set_cons_zero, List.set_cons_succ]
      refine held_take 6 (v := ?_) rfl (by kernel_rfl) (by kernel_rfl) (by kernel_rfl) (fun _ _ _ h => h) hHeld (by rfl) ?_ ?_
      rotate_left
      · (intro W hW; go_simp; try with_reducible rfl)
      try simp only [Act.put, List.setIfInBounds_toArray, List.set_cons_zero, List.set_cons_succ]
      refine held_take 7 (v := ?_) rfl (by kernel_rfl) (by kernel_rfl) (by kernel_rfl) (fun _ _ _ h => h) hHeld (by rfl) ?_ ?_
      rotate_left
      · (intro W hW; go_simp; try with_reducible rfl)
      try simp only [Act.put, List.setIfInBounds_toArray, List.set_cons_zero, List.set_cons_succ]
      refine held_take 8 (v := ?_) rfl (by kernel_rfl) (by kernel_rfl) (by kernel_rfl) (fun _ _ _ h => h) hHeld (by rfl) ?_ ?_
      rotate_left
      · (intro W hW; have e := hW.cell (by simp) HQ2.out; go_simp; try with_reducible rfl)
      try simp only [Act.put, List.setIfInBounds_toArray, List.set_cons_zero, List.set_cons_succ]
      refine held_take 9 (v := ?_) rfl (by kernel_rfl) (by kernel_rfl) (by kernel_rfl) (fun _ _ _ h => h) hHeld (by rfl) ?_ ?_
      rotate_left
      · (intro W hW; go_simp; try with_reducible rfl)
      try simp only [Act.put, List.setIfInBounds_toArray, List.set_cons_zero, List.set_cons_succ]
      refine held_take 11 (v := .agg c.toArray) rfl (by kernel_rfl) (by kernel_rfl) (by kernel_rfl) (fun _ _ _ h => h) hHeld (by rfl) (fun W hW => exec_loadM isS _ rfl _ _ c rfl (hW.range (by simp) HRB.out) HCs.out) ?_
      try simp only [Act.put, List.setIfInBounds_toArray, List.set_cons_zero, List.set_cons_succ]
      refine held_two 10 12 rfl rfl (by kernel_rfl) (by rfl) (by rfl) (fun K hK => ?_) (fun K hK => ?_)
      · refine wp_look _ _ rfl rfl rfl (HLK.out w4.drew rfl) ?_
        refine hK.out _ _ (fun _ _ => rfl) (fun hHeld => ?_)
        clear hK K
        try simp only [Act.put, List.setIfInBounds_toArray, List.set_cons_zero, List.set_cons_succ]
        refine held_next 12 rfl (by kernel_rfl) (by rfl) (fun K hK => ?_)
        refine wp_one elS _ rfl c rfl HCs.out.len (by decide) ?_
        refine hK.out _ _ (fun i hi => by
                rcases List.mem_cons.1 hi with e | e
                · subst e; exact Go.heap_alloc_old _ _ (lt_of_heap HK4.out.blk)
                · rw [List.mem_singleton.1 e]; exact Go.heap_alloc_old _ _ (lt_of_heap HB4.out)) (fun hHeld => ?_)
        clear hK K
        try simp only [Act.put, List.setIfInBounds_toArray, List.set_cons_zero, List.set_cons_succ]
        refine held_next 13 rfl (by kernel_rfl) (by rfl) (fun K hK => ?_)
        refine wp_appO elS (t := 33) _ _ rfl 0 (f x) (ofQ d.queue x).length (scells (ofQ d.queue x)) (some ⟨w4.heap.size, 0, none⟩) 1 1 c rfl rfl ((HK4.out.below HD6.out).sh x HX.out) HCs.out.len (lie_new w4.drew c _) (fun e => by cases e) HCs.out.one (by have := ofQ_le d.queue x; have := HQ.out; omega) (by decide) (Nat.zero_le _) (fun v7 w7 h7 => ?_)
        have HAP := Lib.hid h7
        have HM7 := Lib.hid (put_s0 HK4.out HX.out HD6.out h7)
        clear h7
        refine hK.out _ _ (fun i hi => by
                  rcases List.mem_cons.1 hi with e | e
                  · subst e; exact HM7.out.2 _ (lt_of_heap HK4.out.blk) (Or.inl rfl)
                  · rw [List.mem_singleton.1 e]; exact HM7.out.2 _ (lt_of_heap HB4.out) (Or.inr HNF4.out)) (fun hHeld => ?_)
        clear hK K
        try simp only [Act.put, List.setIfInBounds_toArray, List.set_cons_zero, List.set_cons_succ]
        refine held_next 14 rfl (by kernel_rfl) (by rfl) (fun K hK => ?_)
        refine wp_upd (f := f) (cnt := cnt) (m := m) (x := x) (v := v7) _ _ _ rfl rfl rfl rfl HM7.out.1 HX.out (by have := HK.out.cn; have := HQ.out; omega) (fun w8 hm8 hg8 hs8 => ?_)
        have HFIN := Lib.hid (put_s (d := { { d with fuse := fu, dead := dd } with queue := d.queue ++ [(x.toNat, s)] }) HK4.out HX.out s (by have := HK.out.cn; show cnt + 1 ≤ (d.queue ++ _).length; rw [List.length_append]; exact Nat.succ_le_succ this) HD6.out (by rw [← HCE.out]; exact HAP.out) hm8 hg8 hs8)
        have HM8 := Lib.hid hg8
        clear hm8 hg8 hs8
        refine hK.out _ _ (fun i hi => by
                  rcases List.mem_cons.1 hi with e | e
                  · subst e; exact (HM8.out.block _ (Nat.lt_of_lt_of_le (lt_of_heap HK4.out.blk) (Nat.le_trans HD6.out.size HAP.out.2.1.size)) (fun e2 => map_row HK4.out.mp HK4.out.blk (by injection e2 with e2; exact e2.symm))).trans (HM7.out.2 _ (lt_of_heap HK4.out.blk) (Or.inl rfl))
                  · rw [List.mem_singleton.1 e]; exact (HM8.out.block _ (Nat.lt_of_lt_of_le (lt_of_heap HB4.out) (Nat.le_trans HD6.out.size HAP.out.2.1.size)) (fun e2 => HNF4.out (by injection e2 with e2; rw [e2]; exact HK4.out.fm))).trans (HM7.out.2 _ (lt_of_heap HB4.out) (Or.inr HNF4.out))) (fun hHeld => ?_)
        clear hK K
        refine wpAnyH_done (by kernel_rfl) ?_ _
        go_simp
        go_wp2
        go_ret
        exact HEND.out _ _ HFIN.out
      · refine wp_one elS _ rfl c rfl HCs.out.len (by decide) ?_
        refine hK.out _ _ (fun i hi => by
                rcases List.mem_cons.1 hi with e | e
                · subst e; exact Go.heap_alloc_old _ _ (lt_of_heap HK4.out.blk)
                · rw [List.mem_singleton.1 e]; exact Go.heap_alloc_old _ _ (lt_of_heap HB4.out)) (fun hHeld => ?_)
        clear hK K
        try simp only [Act.put, List.setIfInBounds_toArray, List.set_cons_zero, List.set_cons_succ]
        refine held_next 10 rfl (by kernel_rfl) (by rfl) (fun K hK => ?_)
        refine wp_look _ _ rfl rfl rfl (HLK.out _ (Go.heap_alloc_old _ _ HK4.out.mp.lt)) ?_
        refine hK.out _ _ (fun i hi => by
                rcases List.mem_cons.1 hi with e | e
                · subst e; exact Go.heap_alloc_old _ _ (lt_of_heap HK4.out.blk)
                · rw [List.mem_singleton.1 e]; exact Go.heap_alloc_old _ _ (lt_of_heap HB4.out)) (fun hHeld => ?_)
        clear hK K
        try simp only [Act.put, List.setIfInBounds_toArray, List.set_cons_zero, List.set_cons_succ]
        refine held_next 13 rfl (by kernel_rfl) (by rfl) (fun K hK => ?_)
        refine wp_appO elS (t := 33) _ _ rfl 0 (f x) (ofQ d.queue x).length (scells (ofQ d.queue x)) (some ⟨w4.heap.size, 0, none⟩) 1 1 c rfl rfl ((HK4.out.below HD6.out).sh x HX.out) HCs.out.len (lie_new w4.drew c _) (fun e => by cases e) HCs.out.one (by have := ofQ_le d.queue x; have := HQ.out; omega) (by decide) (Nat.zero_le _) (fun v7 w7 h7 => ?_)
        have HAP := Lib.hid h7
        have HM7 := Lib.hid (put_s0 HK4.out HX.out HD6.out h7)
        clear h7
        refine hK.out _ _ (fun i hi => by
                  rcases List.mem_cons.1 hi with e | e
                  · subst e; exact HM7.out.2 _ (lt_of_heap HK4.out.blk) (Or.inl rfl)
                  · rw [List.mem_singleton.1 e]; exact HM7.out.2 _ (lt_of_heap HB4.out) (Or.inr HNF4.out)) (fun hHeld => ?_)
        clear hK K
        try simp only [Act.put, List.setIfInBounds_toArray, List.set_cons_zero, List.set_cons_succ]
        refine held_next 14 rfl (by kernel_rfl) (by rfl) (fun K hK => ?_)
        refine wp_upd (f := f) (cnt := cnt) (m := m) (x := x) (v := v7) _ _ _ rfl rfl rfl rfl HM7.out.1 HX.out (by have := HK.out.cn; have := HQ.out; omega) (fun w8 hm8 hg8 hs8 => ?_)
        have HFIN := Lib.hid (put_s (d := { { d with fuse := fu, dead := dd } with queue := d.queue ++ [(x.toNat, s)] }) HK4.out HX.out s (by have := HK.out.cn; show cnt + 1 ≤ (d.queue ++ _).length; rw [List.length_append]; exact Nat.succ_le_succ this) HD6.out (by rw [← HCE.out]; exact HAP.out) hm8 hg8 hs8)
        have HM8 := Lib.hid hg8
        clear hm8 hg8 hs8
        refine hK.out _ _ (fun i hi => by
                  rcases List.mem_cons.1 hi with e | e
                  · subst e; exact (HM8.out.block _ (Nat.lt_of_lt_of_le (lt_of_heap HK4.out.blk) (Nat.le_trans HD6.out.size HAP.out.2.1.size)) (fun e2 => map_row HK4.out.mp HK4.out.blk (by injection e2 with e2; exact e2.symm))).trans (HM7.out.2 _ (lt_of_heap HK4.out.blk) (Or.inl rfl))
                  · rw [List.mem_singleton.1 e]; exact (HM8.out.block _ (Nat.lt_of_lt_of_le (lt_of_heap HB4.out) (Nat.le_trans HD6.out.size HAP.out.2.1.size)) (fun e2 => HNF4.out (by injection e2 with e2; rw [e2]; exact HK4.out.fm))).trans (HM7.out.2 _ (lt_of_heap HB4.out) (Or.inr HNF4.out))) (fun hHeld => ?_)
        clear hK K
        refine wpAnyH_done (by kernel_rfl) ?_ _
        go_simp
        go_wp2
        go_ret
        exact HEND.out _ _ HFIN.out
end Go.Proofs.YtdfbpaajkpnaeaaGreat

namespace Go.Proofs.YtdfbpaajkpnaeaaGreat
set_option maxRecDepth 100000
open Go.RowKit Go.Lib

/-- a function value of one number is called -/
theorem wp_callv {o : Oper} {a : Act} {w : World} {K : Act → World → Prop} {Q : Exit → Act → World → Prop} (fo xo : Operand) (ho : o.op = .call { callee := .value fo, args := #[xo], argTypes := #[3] }) {fid : FuncId} {cap : Array Value} {x v : Value} (hf : a.eval fo = .func (.func fid) #[] cap) (hx : a.eval xo = x)
    (he : ∀ (args : Array Value) (w : World), (callFunc fid args).run Tryz.prog w = .ok (.enter fid args) w) (hc : Calls Tryz.prog fid (#[x] ++ cap) w fun e w' => e = .returned v ∧ w = w') (h : K (a.put o.dst v) w) : o.wp Tryz.prog a w K Q := by
  have hrun : (execOp a.eval o).run Tryz.prog w = .ok (.enter fid (#[x] ++ cap)) w := by
    unfold execOp
    simp only [ho, resolve, List.map_toArray, List.map_cons, List.map_nil, hf, hx, Deferred.ofValue, Sem.run_bind, Sem.run_pure, Result.andThen_ok, invoke, Array.empty_append, he]
  unfold Oper.wp
  rw [hrun, Oper.upon_enter]
  refine hc.mono fun e w'' hh => ?_
  obtain ⟨rfl, rfl⟩ := hh
  exact h

/-- a new slice of the call's own -/
def MadeB (l : List UInt8) (w : World) (e : Ending) (w' : World) : Prop := ∃ v, e = .returned v ∧ OB w' w.heap.size v l ∧ RowKit.Below w.heap.size w w' ∧ (v = .slice none 0 0 → False)
theorem cell_bl {w w' : World} {p : Addr} {v : Value} (h : w.cell? p = some v) (hb : RowKit.Below w.heap.size w w') : w'.cell? p = some v := by
  rw [hb.cell (World.block_lt_of_cell? w _ h)]; exact h
set_option maxRecDepth 100000 in
theorem grow_nil (n : Nat) (w : World) (h0 : 1 ≤ n) (hn : n ≤ 1000000) :
    Calls Tryz.prog 87 #[.slice none 0 0, .int .i64 (n : Int)] w (MadeB [] w) := by
  obtain ⟨i, hi, hz, hs1, hs8⟩ := info8
  have hrz : ∀ ty, (Builtin.append_ #[23, 3] ty #[.slice none 0 0, .int .i64 (n : Int)]).run Tryz.prog w = _ := fun ty =>
    run_append_nil_zeros w 23 3 ty 5 i (.int .u8 0) .i64 .i64 Tryz.underlying23 Tryz.underlying3 hi hz n (by omega) (by omega) (by omega) (by rw [hs8]; omega)
  have hg1 := grownCap_ge w n 0 5
  have hg2 := grownCap_le_maxLen w n 0 5 (by unfold maxLen; omega)
  generalize grownCap w n 0 5 = G at *
  obtain ⟨C, hC⟩ : ∃ C, C = Builtin.zeroCells (Value.int .u8 0).cells n ++ Builtin.zeroCells (Value.int .u8 0).cells (G - n) := ⟨_, rfl⟩
  have hCs : C.size = G * 1 := by
    rw [hC, Array.size_append, size_zeroCells, size_zeroCells]
    simp [Value.cells]
    omega
  rw [← hC] at hrz
  have HP := Lib.hid (show MadeB [] w (.returned (.slice (some ⟨w.heap.size, 0, none⟩) 0 G)) (w.drew.alloc (.cells C 5)) from
    ⟨_, rfl, ⟨rfl, Or.inr ⟨w.heap.size, G, C, rfl, Nat.le_refl _, heap_alloc_new w.drew _, Nat.zero_le _, hg2, hCs, rfl⟩⟩, (RowKit.Below.refl _ _).drew.alloc (by simp) _, fun e => by cases e⟩)
  have HR := Lib.hid hrz
  clear hC hCs hi hz hs1 hs8 hrz hg1
  unfold maxLen at hg2
  go_enter Tryz.func87, Tryz.ntmps87
  go_wp2_with (at_builtin; refine Lib.wpList_append_run _ rfl _ _ _ _ rfl _ _ rfl rfl _ _ (HR.out _) ?_)
  go_ret
  exact HP.out
theorem MadeB.row {l : List UInt8} {w : World} {e : Ending} {w' : World} (h : MadeB l w e w') : ∃ a cap, e = .returned (.slice a l.length cap) ∧ BAt w' a l ∧ (a = none → l = []) ∧ RowKit.Below w.heap.size w w' ∧ l.length ≤ cap := by
  obtain ⟨v, rfl, ho, hb, _⟩ := h
  obtain ⟨a, cap, hv, h1, h2, _, h3, _⟩ := ho.row
  exact ⟨a, cap, by rw [hv], h1, fun e => List.eq_nil_of_length_eq_zero (by have := h3 e; omega), hb, h2⟩
set_option maxRecDepth 100000 in
set_option maxHeartbeats 800000 in
theorem concat_any (q : Nat) (a a2 : Option Addr) (l l2 : List UInt8) (n n2 c c2 : Nat) (w : World) (hq0 : w.cell? ⟨q, 0, none⟩ = some (.slice a n c)) (hq1 : w.cell? ⟨q, 1, none⟩ = some (.slice a2 n2 c2)) (hb : BAt w a l) (hb2 : BAt w a2 l2) (hn : l.length = n) (hn2 : l2.length = n2)
    (ha : a = none → l = []) (ha2 : a2 = none → l2 = []) (h1 : 1 ≤ n + n2) (hl : n ≤ 500000) (hl2 : n2 ≤ 100) :
    Calls Tryz.prog 64 #[.slice (some ⟨q, 0, none⟩) 2 2] w (MadeB (l ++ l2) w) := by
  have HG := fun W => Lib.hid (grow_nil (n + n2) W (by omega) (by omega))
  rw [show ((n + n2 : Nat) : Int) = (n : Int) + (n2 : Int) by omega] at HG
  have HB := Lib.hid hb
  have HB2 := Lib.hid hb2
  have HN := Lib.hid hn
  have HN2 := Lib.hid hn2
  have HA := Lib.hid ha
  have HA2 := Lib.hid ha2
  have HQ1 := Lib.hid hq1
  have HQ0 := Lib.hid hq0
  clear hb hb2 hn hn2 ha ha2 h1
  go_enter Tryz.func64, Tryz.ntmps64
  go_wp2
  refine wp_loop_rounds 3 ?_
  iterate 3 (rw [rounds_succ]; go_wp2_with fail)
  refine (HG _).out.mono ?_
  rintro _ w1 ⟨v, rfl, ho, hB1, hv⟩
  have HO := Lib.hid ho
  have HW1 := Lib.hid hB1
  have HV := Lib.hid hv
  have c0 := cell_bl hq0 hB1
  have c1 := cell_bl hq1 hB1
  clear ho hB1 hv hq0 hq1 HG
  go_wp2_with fail
  refine wp_loop_rounds 3 ?_
  have HBB := Lib.hid (HB.out.below HW1.out)
  have HL1 := Lib.hid (show ([] : List UInt8).length + l.length ≤ 1000000000 by have := HN.out; simp; omega)
  have HS1 := Lib.hid HW1.out.size
  rw [rounds_succ]
  go_wp2_with (with_reducible refine wpList_appB rfl _ _ rfl w.heap.size v [] l a c n rfl rfl HN.out HO.out HBB.out HA.out HL1.out HS1.out (fun v1 w2 h2 => ?_))
  rw [List.nil_append] at h2
  obtain ⟨o2, u2, s2, z2⟩ := h2
  have HO2 := Lib.hid o2
  have HW2 := Lib.hid (u2.below HO.out HS1.out HW1.out)
  have HS2 := Lib.hid s2
  have HV2 := Lib.hid (fun e => HV.out (z2 e).2)
  have c2' := cell_bl HQ1.out HW2.out
  have HBC := Lib.hid (HB2.out.below HW2.out)
  have HL2 := Lib.hid (show l.length + l2.length ≤ 1000000000 by have := HN.out; have := HN2.out; omega)
  clear o2 u2 s2 z2 c0 c1 HO HBB HL1 HS1
  go_simp
  rw [rounds_succ]
  go_wp2_with (with_reducible refine wpList_appB rfl _ _ rfl w.heap.size v1 l l2 a2 c2 n2 rfl rfl HN2.out HO2.out HBC.out HA2.out HL2.out HS2.out (fun v2 w3 h3 => ?_))
  obtain ⟨o3, u3, s3, z3⟩ := h3
  have HO3 := Lib.hid o3
  have HW3 := Lib.hid (u3.below HO2.out HS2.out HW2.out)
  have HV3 := Lib.hid (fun e => HV2.out (z3 e).2)
  clear o3 u3 s3 z3 c2'
  go_simp
  rw [rounds_succ]
  go_wp2
  go_ret
  exact ⟨_, rfl, HO3.out, HW3.out, HV3.out⟩
theorem bat_of {w : World} {b off : Nat} {s : List UInt8} (h : w.rangeAt b off (bcells s)) : BAt w (some ⟨b, off, none⟩) s := by
  by_cases hs : s = []
  · exact Or.inl hs
  · have hl : 0 < s.length := by cases s with | nil => exact absurd rfl hs | cons x l => exact Nat.succ_pos _
    have h0 := h 0 _ (bcells_get hl)
    exact Or.inr ⟨b, off, rfl, World.block_lt_of_cell? w _ h0, fun i hi => h i _ (bcells_get hi)⟩
theorem range_bat {w : World} {a : Option Addr} {s : List UInt8} (h : BAt w a s) (hs : 0 < s.length) : ∃ b off, a = some ⟨b, off, none⟩ ∧ w.rangeAt b off (bcells s) := by
  rcases h with h | ⟨b, off, ha, hlt, hc⟩
  · rw [h] at hs; exact absurd hs (by decide)
  · refine ⟨b, off, ha, fun j v hv => ?_⟩
    have hj : j < s.length := by rw [← bcells_len]; exact (List.getElem?_eq_some_iff.1 hv).1
    rw [hc j hj, ← hv, bcells_get hj]
end Go.Proofs.YtdfbpaajkpnaeaaGreat

namespace Go.Proofs.YtdfbpaajkpnaeaaGreat
set_option maxRecDepth 100000
open Go.RowKit Go.Lib

theorem ow_setCells {B : Nat} {e : TypeId} {size g n cap : Nat} : ∀ (vs : List Value) (o : Nat) (w : World) (xs : List Value), w.ownsRow B e size (.slice (some ⟨g, 0, none⟩) n cap) n xs → o + vs.length ≤ xs.length →
    (w.setCells g o vs).ownsRow B e size (.slice (some ⟨g, 0, none⟩) n cap) n (xs.take o ++ vs ++ xs.drop (o + vs.length)) ∧ w.grownBy (w.setCells g o vs) (some g)
  | [], o, w, xs, h, _ => by
    rw [World.setCells]
    refine ⟨?_, ⟨rfl, rfl, rfl, Nat.le_refl _, fun _ _ _ => rfl⟩⟩
    simpa using h
  | v :: r, o, w, xs, h, hl => by
    rw [List.length_cons] at hl
    have hs := World.ownsRow.stored h o v
    have ih := ow_setCells r (o + 1) (w.setCell ⟨g, o, none⟩ v) (xs.set o v) hs.1 (by rw [List.length_set]; omega)
    rw [World.setCells]
    refine ⟨?_, hs.2.trans ih.2⟩
    have e1 : (xs.set o v).take (o + 1) = xs.take o ++ [v] := by
      rw [List.take_succ_eq_append_getElem (by rw [List.length_set]; omega), List.getElem_set_self, List.take_set, List.set_eq_of_length_le (by rw [List.length_take]; exact Nat.min_le_left _ _)]
    have e2 : (xs.set o v).drop (o + 1 + r.length) = xs.drop (o + (v :: r).length) := by
      rw [List.drop_set_of_lt (by omega), List.length_cons]
      congr 1; omega
    have := ih.1
    rw [e1, e2] at this
    simpa using this
theorem ow_head {w : World} {B : Nat} {e : TypeId} {size n k cap : Nat} {a : Option Addr} {xs : List Value} (h : w.ownsRow B e size (.slice a n cap) k xs) (hk : 0 < k) : ∃ g cur, a = some ⟨g, 0, none⟩ ∧ w.heap[g]? = some (.cells cur e) := by
  rcases h.2 with ⟨hv, h0⟩ | ⟨g, cap', cur, hv, _, hg, _⟩
  · omega
  · simp only [Value.slice.injEq] at hv
    exact ⟨g, cur, hv.1, hg⟩
theorem ow_range {w : World} {B : Nat} {e : TypeId} {size n cap g : Nat} {xs : List Value} (h : w.ownsRow B e size (.slice (some ⟨g, 0, none⟩) n cap) n xs) : w.rangeAt g 0 xs := fun j v hv => by
  have hj : j < n * size := by rw [← h.1]; exact (List.getElem?_eq_some_iff.1 hv).1
  rw [Nat.zero_add, World.ownsRow.cellAt h j hj]; exact hv
theorem ow_there {w : World} {B : Nat} {e : TypeId} {size n cap g : Nat} {xs : List Value} (h : w.ownsRow B e size (.slice (some ⟨g, 0, none⟩) n cap) n xs) {o l : Nat} (hl : o + l ≤ n * size) : w.there g o l := fun j hj => by
  refine ⟨?_, World.ownsRow.frozenAt h _⟩
  rw [World.ownsRow.cellAt h (o + j) (by omega), List.getElem?_eq_getElem (by rw [h.1]; omega)]
  rfl
/-- what is left on its way to a sector -/
def Sh (w : World) (V : Value) (m : Nat) (v : Value) (L : List Sec) : Prop :=
  ∃ a cap, v = .slice a L.length cap ∧ L.length ≤ cap ∧ ∀ j s, L[j]? = some s → ∃ b off, a = some ⟨b, off, none⟩ ∧ V.ownBlock ≠ some b ∧ b ≠ m ∧ b < w.heap.size ∧ w.rangeAt b (off + j * 64) (bcells s)
theorem Sh.tail {w : World} {V : Value} {m : Nat} {b off cap : Nat} {s : Sec} {L : List Sec} (h : Sh w V m (.slice (some ⟨b, off, none⟩) (L.length + 1) cap) (s :: L)) : Sh w V m (.slice (if cap = 1 then some ⟨b, off, none⟩ else some ⟨b, off + 64, none⟩) L.length (cap - 1)) L := by
  obtain ⟨a, cap', hv, hc, hj⟩ := h
  simp only [Value.slice.injEq] at hv
  obtain ⟨rfl, _, rfl⟩ := hv
  rw [List.length_cons] at hc
  refine ⟨_, _, rfl, by omega, fun j s' hs => ?_⟩
  have hl : j < L.length := (List.getElem?_eq_some_iff.1 hs).1
  obtain ⟨b', off', ha, h1, h2, h3, h4⟩ := hj (j + 1) s' (by rw [List.getElem?_cons_succ]; exact hs)
  cases ha
  rw [if_neg (by omega)]
  exact ⟨b, off + 64, rfl, h1, h2, h3, by rw [show off + 64 + j * 64 = off + (j + 1) * 64 by omega]; exact h4⟩
/-- k of the queue have gone into the base -/
structure St (w wr : World) (d : Dk) (a0 : Option Addr) (c0 m : Nat) (cm : Nat → Nat) (k cnt : Nat) (f : Int → Value) : Prop where
  mp : MapAt wr m cnt f
  cn : cnt ≤ d.queue.length + k
  bs : wr.ownsRow 0 88 64 (.slice a0 d.base.length c0) d.base.length (scells (stl cm d.queue d.base k))
  on : Only (fun i => (Value.slice a0 d.base.length c0).ownBlock = some i ∨ i = m) w wr
  sh : ∀ x, I x → Sh w (.slice a0 d.base.length c0) m (f x) (ofQ (d.queue.drop k) x)
theorem St.start {w : World} {F : Nat → Prop} {g : Nat} {d : Dk} {a0 : Option Addr} {c0 : Nat} {a1 : Option Addr} {c1 m cnt : Nat} {f : Int → Value} (h : DMem w F g d a0 c0 a1 c1 m cnt f) (cm : Nat → Nat) : St w w d a0 c0 m cm 0 cnt f := by
  refine ⟨h.mp, by have := h.cn; omega, h.bs, Only.refl _ _, fun x hx => ?_⟩
  rw [List.drop_zero]
  obtain ⟨a, cap, hv, hl, hc, _⟩ := ow_lie (h.sh x hx)
  refine ⟨a, cap, hv, hc, fun j s hs => ?_⟩
  obtain ⟨b, off, ha, hb, hr⟩ := hl.get (fun s hs => cells_len s (by obtain ⟨p, hp, rfl, _⟩ := ofQ_mem hs; exact h.ok.ql p hp)) (by decide) hs
  have hob : (f x).ownBlock = some b := by rw [hv, ha]; rfl
  exact ⟨b, off, ha, h.nb x b hx hob, fun e => own_map (h.sh x hx) h.mp (e ▸ hob), hb, hr⟩
/-- worlds in which nothing but new blocks has come -/
theorem St.below {w wr wx : World} {d : Dk} {a0 : Option Addr} {c0 m : Nat} {cm : Nat → Nat} {k cnt : Nat} {f : Int → Value} (h : St w wr d a0 c0 m cm k cnt f) (hb : RowKit.Below wr.heap.size wr wx) : St w wx d a0 c0 m cm k cnt f :=
  ⟨h.mp.same (hb.block _ h.mp.lt), h.cn, ow_same h.bs fun i hi => hb.block i (h.bs.lt i hi).2, h.on.trans (Only.of_below hb) fun _ hi => Or.inl hi, h.sh⟩
/-- a round -/
theorem St.step {w wr w4 w5 : World} {d : Dk} {g0 c0 m : Nat} {cm : Nat → Nat} {k cnt : Nat} {f : Int → Value} (hm : ∀ k, cm k ≤ 64) (hd : d.Ok) (h : St w wr d (some ⟨g0, 0, none⟩) c0 m cm k cnt f) (hk : k < d.queue.length) {p : Nat × Sec} (hp : d.queue[k]? = some p) {b off cap : Nat}
    (hs : f (p.1 : Int) = .slice (some ⟨b, off, none⟩) ((ofQ (d.queue.drop (k + 1)) (p.1 : Int)).length + 1) cap) (hb : RowKit.Below wr.heap.size wr w4)
    (hM : MapAt w5 m (cnt + 1) (updF f (p.1 : Int) (.slice (if cap = 1 then some ⟨b, off, none⟩ else some ⟨b, off + 64, none⟩) (ofQ (d.queue.drop (k + 1)) (p.1 : Int)).length (cap - 1)))) (hg : (w4.setCells g0 (p.1 * 64) (bcells (cutS p.2 ((stl cm d.queue d.base k).getD p.1 []) (cm k)))).grownBy w5 (some m)) :
    St w w5 d (some ⟨g0, 0, none⟩) c0 m cm (k + 1) (cnt + 1) (updF f (p.1 : Int) (.slice (if cap = 1 then some ⟨b, off, none⟩ else some ⟨b, off + 64, none⟩) (ofQ (d.queue.drop (k + 1)) (p.1 : Int)).length (cap - 1))) := by
  have h4 := h.below hb
  have hmem := List.mem_of_getElem? hp
  have hi := hd.qi p hmem
  have hpl := hd.ql p hmem
  have hI : I (p.1 : Int) := by have := hd.sz; unfold I; omega
  have hlen : ∀ s ∈ stl cm d.queue d.base k, s.length = 64 := stl_ok hm hd.bl hd.qi hd.ql k (by omega)
  have hbl : (stl cm d.queue d.base k).length = d.base.length := stl_len _ _ _ _
  have hold : ((stl cm d.queue d.base k).getD p.1 []).length = 64 := hlen _ (getD_mem (by rw [hbl]; exact hi))
  have hcl := cutS_len hpl hold (hm k)
  have hsl := cells_len _ hcl
  have hsc : (scells (stl cm d.queue d.base k)).length = d.base.length * 64 := by rw [scells_len hlen, hbl]
  obtain ⟨ho, hgr⟩ := ow_setCells (bcells (cutS p.2 ((stl cm d.queue d.base k).getD p.1 []) (cm k))) (p.1 * 64) w4 _ h4.bs (by rw [hsl, hsc]; omega)
  rw [hsl] at ho
  have hst : stl cm d.queue d.base (k + 1) = (stl cm d.queue d.base k).set p.1 (cutS p.2 ((stl cm d.queue d.base k).getD p.1 []) (cm k)) := by
    rw [stl, show d.queue.getD k (0, []) = p by rw [List.getD, hp]; rfl]
  have hmg : m ≠ g0 := by
    obtain ⟨g', cur, e1, e2⟩ := ow_head h4.bs (by omega)
    cases e1
    exact map_row h4.mp e2
  refine ⟨hM, by have := h.cn; omega, ?_, ?_, fun x hx => ?_⟩
  · rw [hst]
    have e : scells ((stl cm d.queue d.base k).set p.1 (cutS p.2 ((stl cm d.queue d.base k).getD p.1 []) (cm k))) = (scells (stl cm d.queue d.base k)).take (p.1 * 64) ++ bcells (cutS p.2 ((stl cm d.queue d.base k).getD p.1 []) (cm k)) ++ (scells (stl cm d.queue d.base k)).drop (p.1 * 64 + 64) :=
      flat_set (fun y hy => cells_len y (hlen y hy)) (by rw [hbl]; exact hi)
    rw [e]
    refine ow_same ho fun i hi => hg.block i (ho.lt i hi).2 fun e => ?_
    injection e with e
    have : i = g0 := by cases hi; rfl
    exact hmg (e.symm.trans this)
  · refine h4.on.trans (F' := fun i => i = g0 ∨ i = m) ⟨hg.os.trans hgr.os, hg.tape.trans hgr.tape, hg.output.trans hgr.output, Nat.le_trans hgr.size hg.size, fun i hi hn => ?_⟩ (fun i hi => ?_)
    · exact (hg.block i (Nat.lt_of_lt_of_le hi hgr.size) (fun e => hn (Or.inr (by injection e)))).trans (hgr.block i hi fun e => hn (Or.inl (by injection e)))
    · rcases hi with e | e
      · exact Or.inl (Or.inl (by rw [e]; rfl))
      · exact Or.inl (Or.inr e)
  · have hdr : d.queue.drop k = p :: d.queue.drop (k + 1) := by
      rw [List.drop_eq_getElem_cons hk]
      congr 1
      rw [List.getElem?_eq_getElem hk] at hp
      exact Option.some.inj hp
    have hsx := h.sh x hx
    rw [hdr, ofQ_cons] at hsx
    by_cases e : x = (p.1 : Int)
    · subst e
      rw [updF_same]
      rw [ofQ_one_same, hs] at hsx
      exact hsx.tail
    · rw [updF_other _ _ e]
      rw [ofQ_one_other _ e, List.nil_append] at hsx
      exact hsx
end Go.Proofs.YtdfbpaajkpnaeaaGreat

namespace Go.Proofs.YtdfbpaajkpnaeaaGreat
set_option maxRecDepth 100000
open Go.RowKit Go.Lib

theorem wp_then {P : Program} {c : Code} {Q : Exit → Act → World → Prop} {a : Act} {w : World} {A : Act} {W : World} (h : c.wp P (fun e a' w' => e = .normal ∧ a' = A ∧ w' = W) a w) (hQ : Q .normal A W) : c.wp P Q a w :=
  Code.wp_mono (fun e a' w' hh => by obtain ⟨rfl, rfl, rfl⟩ := hh; exact hQ) h
theorem wp_allocA {o : Oper} {a : Act} {w : World} {K : Act → World → Prop} {Q : Exit → Act → World → Prop} {T : TypeId} {n : Nat} {z : List Value} (h : IsAgg T n z) (ho : o.op = .alloc T) (hq : K (a.put o.dst (.pointer (some ⟨w.heap.size, 0, none⟩))) (w.alloc (.cells z.toArray T))) : o.wp Tryz.prog a w K Q := by
  unfold Oper.wp execOp
  simp only [ho, Sem.run_bind, Sem.run_pure, Result.andThen_ok, run_allocA h]
  exact hq
theorem elP : El 52 23 1 24 := ⟨Tryz.underlying52, inf_of (z := .slice none 0 0) (by kernel_rfl) rfl, by decide⟩
theorem wp_pair {o : Oper} {a : Act} {w : World} {K : Act → World → Prop} {Q : Exit → Act → World → Prop} (x y : Operand) (ho : o.op = .buildSlice 52 2 #[(0, x), (1, y)]) {x1 x2 : Option Addr} {n1 n2 c1 c2 : Nat} (hx : a.eval x = .slice x1 n1 c1) (hy : a.eval y = .slice x2 n2 c2)
    (h : K (a.put o.dst (.slice (some ⟨w.heap.size, 0, none⟩) 2 2)) (w.alloc (.cells #[.slice x1 n1 c1, .slice x2 n2 c2] 23))) : o.wp Tryz.prog a w K Q := by
  obtain ⟨i, z, hi, hz, hs1, hs8, hzs⟩ := elP.inf
  have hrun : (Instr.buildSlice 52 2 #[(0, Value.slice x1 n1 c1), (1, Value.slice x2 n2 c2)]).run Tryz.prog w = .ok (.slice (some ⟨w.heap.size, 0, none⟩) 2 2) (w.alloc (.cells #[.slice x1 n1 c1, .slice x2 n2 c2] 23)) := by
    refine run_buildSlice w 52 23 2 _ _ i z elP.und hi hz (by rw [hs1]; omega) (by rw [hs1]; omega) ?_
    have := Great.fill_flat [.slice x1 n1 c1, .slice x2 n2 c2] ((Array.range (2 * i.size)).map (z.cells[· % z.cells.size]!)) (by intro v hv; simp at hv; rcases hv with rfl | rfl <;> rfl) (by simp [hs1])
    rw [hs1] at this ⊢
    simpa using this
  unfold Oper.wp execOp
  simp only [ho, Sem.run_bind, List.map_toArray, List.map_cons, List.map_nil, hx, hy, hrun, Result.andThen_ok]
  exact h
theorem wp_arr {o : Oper} {a : Act} {w : World} {K : Act → World → Prop} {Q : Exit → Act → World → Prop} (x : Operand) (ho : o.op = .sliceToArrayPointer 88 x) {p : Option Addr} {n c : Nat} (hx : a.eval x = .slice p n c) (hn : 64 ≤ n) (h : K (a.put o.dst (.pointer p)) w) : o.wp Tryz.prog a w K Q := by
  unfold Oper.wp execOp
  simp only [ho, hx, Sem.run_bind, run_arrayAt (P := Tryz.prog) (w := w) 88 5 64 p n c undS hn, Result.andThen_ok]
  exact h
/-- 's[:n]' and 's[n:]' of a sector -/
theorem run_sl1 (b off n : Nat) (hn : n ≤ 64) (W : World) : (Instr.sliceAt 88 (.pointer (some ⟨b, off, none⟩)) none (some (.int .i64 (n : Int))) none).run Tryz.prog W = .ok (.slice (some ⟨b, off, none⟩) n 64) W := by
  have h := run_sliceAt_array_h (P := Tryz.prog) W 88 ⟨b, off, none⟩ (by kernel_rfl) .i64 (n : Int) (by omega) (by rw [show Tryz.prog.arrayLen 88 = 64 by kernel_rfl]; omega)
  rw [h, show Tryz.prog.elem 88 = 5 by kernel_rfl, sz8, show Tryz.prog.arrayLen 88 = 64 by kernel_rfl]
  simp [Result.andThen, slicedAt, Addr.add]
theorem run_sl2 (b n : Nat) (hn : n ≤ 64) (W : World) : (Instr.sliceAt 88 (.pointer (some ⟨b, 0, none⟩)) (some (.int .i64 (n : Int))) none none).run Tryz.prog W = .ok (.slice (cutA (some ⟨b, 0, none⟩) 64 n) (64 - n) (64 - n)) W := by
  have h := run_sliceAt_array_l (P := Tryz.prog) W 88 ⟨b, 0, none⟩ (by kernel_rfl) .i64 (n : Int) (by omega) (by rw [show Tryz.prog.arrayLen 88 = 64 by kernel_rfl]; omega)
  rw [h, show Tryz.prog.elem 88 = 5 by kernel_rfl, sz8, show Tryz.prog.arrayLen 88 = 64 by kernel_rfl]
  simp only [Result.andThen, slicedAt, cutA, Int.toNat_natCast, Nat.mul_one]
  by_cases e : 64 = n
  · rw [if_pos e, if_pos e]
  · rw [if_neg e, if_neg e]; rfl
/-- 's[1:]' of sectors -/
theorem run_sl3 (b off r cap : Nat) (W : World) : (Instr.sliceAt 33 (.slice (some ⟨b, off, none⟩) (r + 1) cap) (some (.int .i64 1)) none none).run Tryz.prog W = .ok (.slice (if cap = 1 then some ⟨b, off, none⟩ else some ⟨b, off + 64, none⟩) r (cap - 1)) W := by
  have h := run_slice_l (P := Tryz.prog) (w := W) 33 (some ⟨b, off, none⟩) (r + 1) cap (by kernel_rfl) .i64 1 (by omega) (by omega)
  rw [run_sliceAt_slice (P := Tryz.prog) (w := W) _ _ _ _ _ (by kernel_rfl), h, show Tryz.prog.elem 33 = 88 by kernel_rfl, Tryz.sizeOf88]
  simp [Result.andThen, sliced, Addr.add]
theorem size_setCells (b : Nat) : ∀ (vs : List Value) (o : Nat) (w : World), (w.setCells b o vs).heap.size = w.heap.size
  | [], _, _ => rfl
  | v :: r, o, w => by rw [World.setCells, size_setCells b r]; simp
theorem ow_setg {w wr wx : World} {d : Dk} {gb c0 m : Nat} {cm : Nat → Nat} {k cnt g x : Nat} {f : Int → Value} {s : Sec} (h : St w wr d (some ⟨gb, 0, none⟩) c0 m cm k cnt f) (hb : RowKit.Below wr.heap.size wr wx) (hx : x < d.base.length) (hs : s.length = 64) (hg : g ≠ gb) : (wx.setCells gb (x * 64) (bcells s)).heap[g]? = wx.heap[g]? := by
  have h4 := (h.below hb).bs
  have := (ow_setCells (bcells s) (x * 64) wx _ h4 (by rw [cells_len _ hs, h4.1]; omega)).2
  by_cases hl : g < wx.heap.size
  · exact this.block g hl fun e => hg (by injection e)
  · have e := this.size
    have e2 : (wx.setCells gb (x * 64) (bcells s)).heap.size = wx.heap.size := size_setCells _ _ _ _
    rw [Array.getElem?_eq_none (by omega), Array.getElem?_eq_none (by omega)]
theorem wpList_clear {ops : Array Oper} {rest : List Oper} {o : Oper} {a : Act} {w : World} {Q : Exit → Act → World → Prop} (hgd : o.guard = none) (x : Operand) (ho : o.op = .call { callee := .builtin .clear, args := #[x], argTypes := #[64] }) {m cnt : Nat} {f : Int → Value} (hx : a.eval x = .map (some m)) (hM : MapAt w m cnt f)
    (h : ∀ w', MapAt w' m 0 (fun _ => nilS) → w.grownBy w' (some m) → w'.heap.size = w.heap.size → wpList Tryz.prog ops Q rest (a.put o.dst (.tuple #[])) w') : wpList Tryz.prog ops Q (o :: rest) a w :=
  wpList_plain hgd fun K hK => by
    obtain ⟨w', hrun, h1, h2, h3⟩ := hM.clear o.type
    unfold Oper.wp execOp
    simp only [ho, resolve, invoke, builtin, Sem.run_bind, Sem.run_pure, Result.andThen_ok, List.map_toArray, List.map_cons, List.map_nil, hx, hrun]
    exact hK _ _ (h w' h1 h2 h3)
/-- all of the queue has gone in -/
theorem settle_end {w wr w9 : World} {F : Nat → Prop} {g : Nat} {d : Dk} {a0 : Option Addr} {c0 : Nat} {a1 : Option Addr} {c1 m cnt cnt' : Nat} {f f' : Int → Value} {cm : Nat → Nat} (kd : DMem w F g d a0 c0 a1 c1 m cnt f) (hcm : ∀ k, cm k ≤ 64) (h : St w wr d a0 c0 m cm d.queue.length cnt' f')
    (hm : MapAt w9 m 0 (fun _ => nilS)) (hg : (wr.setCell ⟨g, 1, none⟩ (.slice none 0 0)).grownBy w9 (some m)) (hs : w9.heap.size = wr.heap.size) : Did g F { d with base := stl cm d.queue d.base d.queue.length, queue := [] } w w9 := by
  have hng : ¬ ((Value.slice a0 d.base.length c0).ownBlock = some g ∨ g = m) := fun hi => hi.elim (own_type kd.bs kd.blk (by decide)) fun e => map_row kd.mp kd.blk e.symm
  have hblk := h.on.at_ kd.blk hng
  have hgm : g ≠ m := fun e => hng (Or.inr e)
  have hsz : (wr.setCell ⟨g, 1, none⟩ (.slice none 0 0)).heap.size = wr.heap.size := by simp
  have kg : ∀ i, i < wr.heap.size → i ≠ g → i ≠ m → w9.heap[i]? = wr.heap[i]? := fun i hi h1 h2 =>
    (hg.block i (by rw [hsz]; exact hi) fun e => h2 (by injection e)).trans (heap_setCell_other _ _ _ _ h1)
  have hL : (stl cm d.queue d.base d.queue.length).length = d.base.length := stl_len _ _ _ _
  refine ⟨F, ⟨a0, c0, none, 0, m, 0, fun _ => nilS, ?_⟩, ⟨?_, ?_, ?_, ?_, fun i hi hn => ?_⟩, fun i hi => Or.inl hi⟩
  · constructor
    · exact kd.ok.gone hcm kd.ok.fz
    · show _ = some (Obj.cells #[.slice a0 (stl cm d.queue d.base d.queue.length).length c0, _, _, _, _] _ _)
      rw [hL, hg.block g (by rw [hsz]; exact lt_of_heap hblk) (fun e => hgm (by injection e)), heap_setCell_same _ _ _ _ _ _ hblk]
      rfl
    · show w9.ownsRow 0 _ 64 (.slice a0 (stl cm d.queue d.base d.queue.length).length c0) (stl cm d.queue d.base d.queue.length).length _
      rw [hL]
      exact ow_same h.bs fun i hi => kg i (h.bs.lt i hi).2 (fun e => own_type h.bs hblk (by decide) (e ▸ hi)) fun e => own_map h.bs h.mp (e ▸ hi)
    · exact World.ownsRow_nil _ _ _ _
    · exact hm
    · exact Nat.zero_le _
    · exact fun x _ => World.ownsRow_nil _ _ _ _
    · exact fun x k _ h => by cases h
    · exact fun x y k _ _ _ h => by cases h
    · exact kd.fg
    · exact kd.fm
    · intro k hk
      have hk' : (Value.slice a0 d.base.length c0).ownBlock = some k := by rw [← hL]; exact hk
      exact kd.fb k hk'
    · exact fun k h => by cases h
    · exact fun x k _ h => by cases h
    · exact fun i hi => by have := kd.fl i hi; have := h.on.size; omega
  · exact hg.os.trans h.on.os
  · exact hg.tape.trans h.on.tape
  · exact hg.output.trans h.on.output
  · have := h.on.size; omega
  · have hi2 : i < wr.heap.size := Nat.lt_of_lt_of_le hi h.on.size
    exact (kg i hi2 (fun e => hn (e ▸ kd.fg)) (fun e => hn (e ▸ kd.fm))).trans (h.on.block i hi fun e => e.elim (fun e2 => hn (kd.fb i e2)) fun e2 => hn (e2 ▸ kd.fm))
set_option maxRecDepth 100000 in
set_option maxHeartbeats 3200000 in
theorem settle_any (g : Nat) (F : Nat → Prop) (d : Dk) (w : World) (h : DAt w F g d) (fid : FuncId) (cap : Array Value) (cm : Nat → Nat) (he : ∀ (args : Array Value) (w : World), (callFunc fid args).run Tryz.prog w = .ok (.enter fid args) w) (hcm : ∀ k, cm k ≤ 64)
    (hcl : ∀ (W : World) (k : Nat), Only F w W → k < d.queue.length → Calls Tryz.prog fid (#[.int .i64 (k : Int)] ++ cap) W fun e W' => e = .returned (.int .i64 (cm k : Int)) ∧ W = W') :
    Calls Tryz.prog 36 #[.pointer (some ⟨g, 0, none⟩), .func (.func fid) #[] cap] w fun e w' => e = .returned (.tuple #[]) ∧ Did g F { d with base := stl cm d.queue d.base d.queue.length, queue := [] } w w' := by
  obtain ⟨a0, c0, a1, c1, m, cnt, f, kd⟩ := h
  have HKD := Lib.hid kd
  have HST0 := Lib.hid (St.start kd cm)
  have HE := Lib.hid he
  have HCM := Lib.hid hcm
  have HCL := Lib.hid hcl
  have HGBF := Lib.hid (show ∀ i, (Value.slice a0 d.base.length c0).ownBlock = some i ∨ i = m → F i from fun i hi => hi.elim (kd.fb i) fun e => e ▸ kd.fm)
  have HNG := Lib.hid (show ¬ ((Value.slice a0 d.base.length c0).ownBlock = some g ∨ g = m) from fun hi => hi.elim (own_type kd.bs kd.blk (by decide)) fun e => map_row kd.mp kd.blk e.symm)
  have c1' := kd.cells.2.1
  clear kd he hcm hcl
  go_enter Tryz.func36, Tryz.ntmps36
  go_wp2_with fail
  clear c1'
  go_loopw [14] (fun c14 wr => ∃ (k cnt' : Nat) (f' : Int → Value), c14 = .int .i64 (k : Int) ∧ k ≤ d.queue.length ∧ St w wr d a0 c0 m cm k cnt' f') (fun c14 _ => d.queue.length - (match c14 with | .int _ q => q | _ => 0).toNat)
  case atStart => exact ⟨0, cnt, f, rfl, Nat.zero_le _, HST0.out⟩
  case round =>
    obtain ⟨k, cnt', f', rfl, hk, hst⟩ := hrel
    have HST := Lib.hid hst
    have HON := Lib.hid (show Only F w wr from ⟨hst.on.os, hst.on.tape, hst.on.output, hst.on.size, fun i hi hn => hst.on.block i hi fun e => hn (HGBF.out i e)⟩)
    have HBLK := Lib.hid (hst.on.at_ HKD.out.blk HNG.out)
    have hk9 : d.queue.length ≤ 10000 := HKD.out.ok.qn
    clear hst
    by_cases hlt : k < d.queue.length
    · obtain ⟨p, hp⟩ : ∃ p, d.queue[k]? = some p := ⟨_, List.getElem?_eq_getElem hlt⟩
      have HP := Lib.hid hp
      have HKL := Lib.hid hlt
      have HXL := Lib.hid (HKD.out.ok.qi p (List.mem_of_getElem? hp))
      have hpl := HKD.out.ok.ql p (List.mem_of_getElem? hp)
      have HXI := Lib.hid (show I (p.1 : Int) by have := HKD.out.ok.sz; have := HXL.out; unfold I; omega)
      obtain ⟨gb, curb, ha0, hgb⟩ := ow_head HST.out.bs (by have := HXL.out; omega)
      subst ha0
      have HGM := Lib.hid (show g ≠ m from fun e => HNG.out (Or.inr e))
      have HMB := Lib.hid (show m ≠ gb from map_row HST.out.mp hgb)
      have HGB := Lib.hid (show g ≠ gb from fun e => HNG.out (Or.inl (by rw [e]; rfl)))
      have hdr : d.queue.drop k = p :: d.queue.drop (k + 1) := by
        rw [List.drop_eq_getElem_cons hlt]
        congr 1
        rw [List.getElem?_eq_getElem hlt] at hp
        exact Option.some.inj hp
      obtain ⟨sa, scap, hsf, hsc, hsj⟩ := HST.out.sh (p.1 : Int) HXI.out
      rw [hdr, ofQ_cons, ofQ_one_same] at hsf hsc hsj
      obtain ⟨sb, so, hsa, hsb1, hsb2, hsb3, hsr⟩ := hsj 0 p.2 rfl
      subst hsa
      rw [Nat.zero_mul, Nat.add_zero] at hsr
      have HFX := Lib.hid (show f' (p.1 : Int) = .slice (some ⟨sb, so, none⟩) ((ofQ (d.queue.drop (k + 1)) (p.1 : Int)).length + 1) scap from hsf)
      have HSC := Lib.hid (show (ofQ (d.queue.drop (k + 1)) (p.1 : Int)).length + 1 ≤ scap from hsc)
      obtain ⟨L, hL⟩ : ∃ L, L = (ofQ (d.queue.drop (k + 1)) (p.1 : Int)).length := ⟨_, rfl⟩
      have HLL := Lib.hid hL
      have hlen : ∀ s ∈ stl cm d.queue d.base k, s.length = 64 := stl_ok HCM.out HKD.out.ok.bl HKD.out.ok.qi HKD.out.ok.ql k hk
      obtain ⟨old, hold⟩ : ∃ old, old = (stl cm d.queue d.base k).getD p.1 [] := ⟨_, rfl⟩
      have hol : old.length = 64 := by rw [hold]; exact hlen _ (getD_mem (by rw [stl_len]; exact HXL.out))
      obtain ⟨co, hco⟩ : ∃ co, co = bcells old := ⟨_, rfl⟩
      have HCO := Lib.hid (show Cs 64 co by rw [hco]; exact cs_sec hol)
      have HRO := Lib.hid (show wr.rangeAt gb (p.1 * 64) co from fun j v hv => by
        have := ow_range HST.out.bs (p.1 * 64 + j) v (flat_mid (f := bcells) (n := 64) (x := old) (fun s hs => cells_len s (hlen s hs)) (by rw [hold, List.getD, List.getElem?_eq_getElem (by rw [stl_len]; exact HXL.out)]; rfl) j v (by rw [← hco]; exact hv))
        rw [Nat.zero_add] at this
        exact this)
      have HSB := Lib.hid (show wr.rangeAt sb so (bcells p.2) from range_of hsr (HST.out.on.block sb hsb3 fun e => e.elim hsb1 hsb2))
      have HSBL := Lib.hid (show sb < wr.heap.size from Nat.lt_of_lt_of_le hsb3 HST.out.on.size)
      have HC0 := Lib.hid (show wr.cell? ⟨g, 0, none⟩ = some (.slice (some ⟨gb, 0, none⟩) d.base.length c0) by rw [cell_of_row _ _ _ _ _ _ HBLK.out]; rfl)
      have HC2 := Lib.hid (show wr.cell? ⟨g, 2, none⟩ = some (.map (some m)) by rw [cell_of_row _ _ _ _ _ _ HBLK.out]; rfl)
      have HIX := Lib.hid (fun (W : World) => show (Instr.indexAt 33 (.slice (some ⟨gb, 0, none⟩) d.base.length c0) (.int .i64 (p.1 : Int))).run Tryz.prog W = .ok (.pointer (some ⟨gb, p.1 * 64, none⟩)) W by have := run_idx elS (b := gb) (off := 0) (cap := c0) (k := .i64) rfl HXL.out W; rwa [Nat.zero_add] at this)
      have HIS := Lib.hid (fun (W : World) => show (Instr.indexAt 33 (.slice (some ⟨sb, so, none⟩) (L + 1) scap) (.int .i64 0)).run Tryz.prog W = .ok (.pointer (some ⟨sb, so, none⟩)) W by have := run_idx elS (b := sb) (off := so) (n := L + 1) (cap := scap) (k := .i64) (i := 0) (j := 0) rfl (Nat.succ_pos _) W; rwa [Nat.zero_mul, Nat.add_zero] at this)
      have HSL1 := Lib.hid (run_sl1 sb so (cm k) (HCM.out k))
      have HSL2 := Lib.hid (run_sl2 wr.heap.size (cm k) (HCM.out k))
      have HSL3 := Lib.hid (run_sl3 sb so L scap)
      have HLT3 := Lib.hid (show ∀ i ∈ [g, gb, m], i < wr.heap.size from fun i hi => by
        simp only [List.mem_cons, List.not_mem_nil, or_false] at hi
        rcases hi with rfl | rfl | rfl
        · exact lt_of_heap HBLK.out
        · exact lt_of_heap hgb
        · exact HST.out.mp.lt)
      obtain ⟨bq, oq, ha1, hbq, hrq⟩ := (show ∃ b off, a1 = some ⟨b, off, none⟩ ∧ b < w.heap.size ∧ w.rangeAt b off (qcells d.queue) from by
        obtain ⟨a, cp, hv, hl, _, _⟩ := ow_lie HKD.out.qs
        simp only [Value.slice.injEq, true_and] at hv
        obtain ⟨rfl, rfl⟩ := hv
        rcases hl with hl | hl
        · have := qcells_len d.queue
          rw [hl] at this
          simp at this; omega
        · exact hl)
      have hqn : (Value.slice a1 d.queue.length c1).ownBlock = some bq := by rw [ha1]; rfl
      have q1 : wr.cell? ⟨bq, oq + k, none⟩ = some (.int .i64 (p.1 : Int)) := by
        rw [World.cell?_of_block (w := w) (a := ⟨bq, oq + k, none⟩) (HST.out.on.block bq hbq fun e => e.elim (fun e2 => own_type2 HKD.out.bs HKD.out.qs (by decide) bq e2 hqn) fun e2 => own_map HKD.out.qs HKD.out.mp (e2 ▸ hqn))]
        exact hrq k _ (by simp [qcells, hp])
      subst ha1
      rw [hL.symm] at HFX HSC
      clear hp hgb hdr hsf hsc hsj hsb1 hsb2 hsb3 hsr hL hlen hbq hrq hqn
      go_wp2_with fail
      clear q1
      apply wp_then
      · refine wp_region_held_drew (S := fun W => Agree [g, gb, m] wr W) (by kernel_rfl) ?_ (fun hHeld => ?_)
        · exact fun _ _ => rfl
        refine held_take 0 (v := ?_) rfl (by kernel_rfl) (by kernel_rfl) (by kernel_rfl) (fun _ _ _ h => by cases h.1) hHeld (by rfl) ?_ ?_
        rotate_left
        · (intro W hW; go_simp; try with_reducible rfl)
        try simp only [Act.put, List.setIfInBounds_toArray, List.set_cons_zero, List.set_cons_succ]
        refine held_take 1 (v := ?_) rfl (by kernel_rfl) (by kernel_rfl) (by kernel_rfl) (fun _ _ _ h => by cases h.1) hHeld (by rfl) ?_ ?_
        rotate_left
        · (intro W hW; go_simp; try with_reducible rfl)
        try simp only [Act.put, List.setIfInBounds_toArray, List.set_cons_zero, List.set_cons_succ]
        refine held_take 3 (v := ?_) rfl (by kernel_rfl) (by kernel_rfl) (by kernel_rfl) (fun _ _ _ h => by cases h.1) hHeld (by rfl) ?_ ?_
        rotate_left
        · (intro W hW; go_simp; try with_reducible rfl)
        try simp only [Act.put, List.setIfInBounds_toArray, List.set_cons_zero, List.set_cons_succ]
        refine held_take 4 (v := ?_) rfl (by kernel_rfl) (by kernel_rfl) (by kernel_rfl) (fun _ _ _ h => by cases h.1) hHeld (by rfl) ?_ ?_
        rotate_left
        · (intro W hW; go_simp; try with_reducible rfl)
        try simp only [Act.put, List.setIfInBounds_toArray, List.set_cons_zero, List.set_cons_succ]
        refine held_take 5 (v := ?_) rfl (by kernel_rfl) (by kernel_rfl) (by kernel_rfl) (fun _ _ _ h => by cases h.1) hHeld (by rfl) ?_ ?_
        rotate_left
        · (intro W hW; go_simp; try with_reducible rfl)
        try simp only [Act.put, List.setIfInBounds_toArray, List.set_cons_zero, List.set_cons_succ]
        refine held_take 6 (v := ?_) rfl (by kernel_rfl) (by kernel_rfl) (by kernel_rfl) (fun _ _ _ h => by cases h.1) hHeld (by rfl) ?_ ?_
        rotate_left
        · (intro W hW; have e := hW.cell (by simp) HC0.out; go_simp; try with_reducible rfl)
        try simp only [Act.put, List.setIfInBounds_toArray, List.set_cons_zero, List.set_cons_succ]
        refine held_take 7 (v := ?_) rfl (by kernel_rfl) (by kernel_rfl) (by kernel_rfl) (fun _ _ _ h => by cases h.1) hHeld (by rfl) ?_ ?_
        rotate_left
        · (intro W hW; go_simp; try with_reducible rfl)
        try simp only [Act.put, List.setIfInBounds_toArray, List.set_cons_zero, List.set_cons_succ]
        refine held_take 8 (v := ?_) rfl (by kernel_rfl) (by kernel_rfl) (by kernel_rfl) (fun _ _ _ h => by cases h.1) hHeld (by rfl) ?_ ?_
        rotate_left
        · (intro W hW; have e := HIX.out W; go_simp; try with_reducible rfl)
        try simp only [Act.put, List.setIfInBounds_toArray, List.set_cons_zero, List.set_cons_succ]
        refine held_take 9 (v := .agg co.toArray) rfl (by kernel_rfl) (by kernel_rfl) (by kernel_rfl) (fun _ _ _ h => by cases h.1) hHeld (by rfl) (fun W hW => exec_loadM isS _ rfl _ _ co rfl (hW.range (by simp) HRO.out) HCO.out) ?_
        try simp only [Act.put, List.setIfInBounds_toArray, List.set_cons_zero, List.set_cons_succ]
        refine held_take 10 (v := ?_) rfl (by kernel_rfl) (by kernel_rfl) (by kernel_rfl) (fun _ _ _ h => by cases h.1) hHeld (by rfl) ?_ ?_
        rotate_left
        · (intro W hW; go_simp; try with_reducible rfl)
        try simp only [Act.put, List.setIfInBounds_toArray, List.set_cons_zero, List.set_cons_succ]
        refine held_take 11 (v := ?_) rfl (by kernel_rfl) (by kernel_rfl) (by kernel_rfl) (fun _ _ _ h => by cases h.1) hHeld (by rfl) ?_ ?_
        rotate_left
        · (intro W hW; go_simp; try with_reducible rfl)
        try simp only [Act.put, List.setIfInBounds_toArray, List.set_cons_zero, List.set_cons_succ]
        refine held_take 12 (v := ?_) rfl (by kernel_rfl) (by kernel_rfl) (by kernel_rfl) (fun _ _ _ h => by cases h.1) hHeld (by rfl) ?_ ?_
        rotate_left
        · (intro W hW; go_simp; try with_reducible rfl)
        try simp only [Act.put, List.setIfInBounds_toArray, List.set_cons_zero, List.set_cons_succ]
        refine held_take 13 (v := ?_) rfl (by kernel_rfl) (by kernel_rfl) (by kernel_rfl) (fun _ _ _ h => by cases h.1) hHeld (by rfl) ?_ ?_
        rotate_left
        · (intro W hW; have e := hW.cell (by simp) HC2.out; go_simp; try with_reducible rfl)
        try simp only [Act.put, List.setIfInBounds_toArray, List.set_cons_zero, List.set_cons_succ]
        refine held_take 14 (v := ?_) rfl (by kernel_rfl) (by kernel_rfl) (by kernel_rfl) (fun _ _ _ h => by cases h.1) hHeld (by rfl) ?_ ?_
        rotate_left
        · (intro W hW; go_simp; try with_reducible rfl)
        try simp only [Act.put, List.setIfInBounds_toArray, List.set_cons_zero, List.set_cons_succ]
        refine held_take 15 (v := ?_) rfl (by kernel_rfl) (by kernel_rfl) (by kernel_rfl) (fun _ _ _ h => by cases h.1) hHeld (by rfl) ?_ ?_
        rotate_left
        · (intro W hW; have e := (HST.out.mp.same (hW m (by simp))).look HXI.out; rw [HFX.out] at e; go_simp; try with_reducible rfl)
        try simp only [Act.put, List.setIfInBounds_toArray, List.set_cons_zero, List.set_cons_succ]
        refine held_two 2 16 rfl rfl (by kernel_rfl) (by rfl) (by rfl) (fun K hK => ?_) (fun K hK => ?_)
        · refine wp_callv _ _ rfl rfl rfl HE.out (HCL.out _ k (HON.out.trans (Only.of_below (RowKit.Below.refl _ _).drew) (fun i hi => Or.inl hi)) HKL.out) ?_
          refine hK.out _ _ (fun _ _ => rfl) (fun hHeld => ?_)
          clear hK K
          try simp only [Act.put, List.setIfInBounds_toArray, List.set_cons_zero, List.set_cons_succ]
          refine held_next 16 rfl (by kernel_rfl) (by rfl) (fun K hK => ?_)
          refine wp_allocA isS rfl ?_
          refine hK.out _ _ (fun i hi => Go.heap_alloc_old _ _ (HLT3.out i hi)) (fun hHeld => ?_)
          clear hK K
          try simp only [Act.put, List.setIfInBounds_toArray, List.set_cons_zero, List.set_cons_succ]
          refine held_take 17 (v := ?_) rfl (by kernel_rfl) (by kernel_rfl) (by kernel_rfl) (fun _ _ _ h => by cases h.1) hHeld (by rfl) ?_ ?_
          rotate_left
          · (intro W hW; go_simp; try with_reducible rfl)
          try simp only [Act.put, List.setIfInBounds_toArray, List.set_cons_zero, List.set_cons_succ]
          refine held_next 18 rfl (by kernel_rfl) (by rfl) (fun K hK => ?_)
          refine wp_store_row _ _ _ rfl wr.heap.size co.toArray rfl rfl _ zc.toArray (heap_alloc_new wr.drew _) (by rw [sizS]; simp [HCO.out.len]) (by simp [zc_len, HCO.out.len]) (all_oneCell_toArray HCO.out.one) ?_
          rw [setRow_new (w := wr.drew) (g := wr.heap.size) rfl]
          refine hK.out _ _ (fun i hi => Go.heap_alloc_old _ _ (HLT3.out i hi)) (fun hHeld => ?_)
          clear hK K
          refine held_take 19 (v := ?_) rfl (by kernel_rfl) (by kernel_rfl) (by kernel_rfl) (fun _ _ _ h => by cases h.1) hHeld (by rfl) ?_ ?_
          rotate_left
          · (intro W hW; go_simp; try with_reducible rfl)
          try simp only [Act.put, List.setIfInBounds_toArray, List.set_cons_zero, List.set_cons_succ]
          exact wpAnyH_done (by kernel_rfl) ⟨rfl, rfl, rfl⟩ _
        · refine wp_allocA isS rfl ?_
          refine hK.out _ _ (fun i hi => Go.heap_alloc_old _ _ (HLT3.out i hi)) (fun hHeld => ?_)
          clear hK K
          try simp only [Act.put, List.setIfInBounds_toArray, List.set_cons_zero, List.set_cons_succ]
          refine held_next 2 rfl (by kernel_rfl) (by rfl) (fun K hK => ?_)
          refine wp_callv _ _ rfl rfl rfl HE.out (HCL.out _ k (HON.out.trans (Only.of_below ((RowKit.Below.refl _ _).drew.alloc (Nat.le_refl _) _)) (fun i hi => Or.inl hi)) HKL.out) ?_
          refine hK.out _ _ (fun i hi => Go.heap_alloc_old _ _ (HLT3.out i hi)) (fun hHeld => ?_)
          clear hK K
          try simp only [Act.put, List.setIfInBounds_toArray, List.set_cons_zero, List.set_cons_succ]
          refine held_take 17 (v := ?_) rfl (by kernel_rfl) (by kernel_rfl) (by kernel_rfl) (fun _ _ _ h => by cases h.1) hHeld (by rfl) ?_ ?_
          rotate_left
          · (intro W hW; go_simp; try with_reducible rfl)
          try simp only [Act.put, List.setIfInBounds_toArray, List.set_cons_zero, List.set_cons_succ]
          refine held_next 18 rfl (by kernel_rfl) (by rfl) (fun K hK => ?_)
          refine wp_store_row _ _ _ rfl wr.heap.size co.toArray rfl rfl _ zc.toArray (heap_alloc_new wr.drew _) (by rw [sizS]; simp [HCO.out.len]) (by simp [zc_len, HCO.out.len]) (all_oneCell_toArray HCO.out.one) ?_
          rw [setRow_new (w := wr.drew) (g := wr.heap.size) rfl]
          refine hK.out _ _ (fun i hi => Go.heap_alloc_old _ _ (HLT3.out i hi)) (fun hHeld => ?_)
          clear hK K
          refine held_take 19 (v := ?_) rfl (by kernel_rfl) (by kernel_rfl) (by kernel_rfl) (fun _ _ _ h => by cases h.1) hHeld (by rfl) ?_ ?_
          rotate_left
          · (intro W hW; go_simp; try with_reducible rfl)
          try simp only [Act.put, List.setIfInBounds_toArray, List.set_cons_zero, List.set_cons_succ]
          exact wpAnyH_done (by kernel_rfl) ⟨rfl, rfl, rfl⟩ _
      go_wp2_with fail
      have HD4 := Lib.hid (show RowKit.Below wr.heap.size wr (wr.drew.alloc (.cells co.toArray 88)) from (RowKit.Below.refl _ _).drew.alloc (Nat.le_refl _) _)
      have HN4 := Lib.hid (show (wr.drew.alloc (.cells co.toArray 88)).heap[wr.heap.size]? = some (.cells co.toArray 88) from heap_alloc_new wr.drew _)
      generalize wr.drew.alloc (.cells co.toArray 88) = w4 at *
      have HAG := Lib.hid (fun (W : World) (e : RowKit.Below wr.heap.size wr W) => show W.heap[g]? = w4.heap[g]? from (e.block g (lt_of_heap HBLK.out)).trans (HD4.out.block g (lt_of_heap HBLK.out)).symm)
      have HC04 := Lib.hid (show w4.cell? ⟨g, 0, none⟩ = some (.slice (some ⟨gb, 0, none⟩) d.base.length c0) from (World.cell?_of_block (w := wr) (a := ⟨g, 0, none⟩) (HD4.out.block g (lt_of_heap HBLK.out))).trans HC0.out)
      have HD5 := Lib.hid (show RowKit.Below wr.heap.size wr (w4.drew.alloc (.cells #[.slice (some ⟨sb, so, none⟩) (cm k) 64, .slice (cutA (some ⟨wr.heap.size, 0, none⟩) 64 (cm k)) (64 - cm k) (64 - cm k)] 23)) from (HD4.out.drew).alloc HD4.out.size _)
      have HNL := Lib.hid (show (cutS p.2 old (cm k)).length = 64 from cutS_len hpl hol (HCM.out k))
      have HCAT := Lib.hid (show Calls Tryz.prog 64 #[.slice (some ⟨w4.heap.size, 0, none⟩) 2 2] (w4.drew.alloc (.cells #[.slice (some ⟨sb, so, none⟩) (cm k) 64, .slice (cutA (some ⟨wr.heap.size, 0, none⟩) 64 (cm k)) (64 - cm k) (64 - cm k)] 23)) (MadeB (cutS p.2 old (cm k)) _) from by
        have hpr : (w4.drew.alloc (.cells #[.slice (some ⟨sb, so, none⟩) (cm k) 64, .slice (cutA (some ⟨wr.heap.size, 0, none⟩) 64 (cm k)) (64 - cm k) (64 - cm k)] 23)).heap[w4.heap.size]? = some _ := heap_alloc_new w4.drew _
        have hle := HCM.out k
        have b1 : BAt (w4.drew.alloc (.cells #[.slice (some ⟨sb, so, none⟩) (cm k) 64, .slice (cutA (some ⟨wr.heap.size, 0, none⟩) 64 (cm k)) (64 - cm k) (64 - cm k)] 23)) (some ⟨sb, so, none⟩) (p.2.take (cm k)) := (bat_of (range_of HSB.out (HD5.out.block sb HSBL.out))).take _
        have b2 : BAt (w4.drew.alloc (.cells #[.slice (some ⟨sb, so, none⟩) (cm k) 64, .slice (cutA (some ⟨wr.heap.size, 0, none⟩) 64 (cm k)) (64 - cm k) (64 - cm k)] 23)) (cutA (some ⟨wr.heap.size, 0, none⟩) 64 (cm k)) (old.drop (cm k)) := BAt.drop (bat_of (by rw [← hco]; exact range_row ((Go.heap_alloc_old _ _ (lt_of_heap HN4.out)).trans HN4.out))) (by rw [hol]; exact hle) (by rw [hol]; exact Nat.le_refl _)
        exact concat_any w4.heap.size _ _ (p.2.take (cm k)) (old.drop (cm k)) (cm k) (64 - cm k) 64 (64 - cm k) _ (by rw [cell_of_row _ _ _ _ _ _ hpr]; rfl) (by rw [cell_of_row _ _ _ _ _ _ hpr]; rfl) b1 b2 (by rw [List.length_take]; omega) (by rw [List.length_drop]; omega) (fun e => by cases e) (fun e => by unfold cutA at e; split at e <;> cases e) (by omega) (by omega) (by omega))
      have HOLD := Lib.hid hold
      clear hold hol hpl hco
      refine wp_region_held_drew (S := fun W => Agree [g] w4 W) (by kernel_rfl) ?_ (fun hHeld => ?_)
      · exact fun _ _ => rfl
      refine held_take 0 (v := ?_) rfl (by kernel_rfl) (by kernel_rfl) (by kernel_rfl) (fun _ _ _ h => h) hHeld (by rfl) ?_ ?_
      rotate_left
      · (intro W hW; go_simp; try with_reducible rfl)
      try simp only [Act.put, List.setIfInBounds_toArray, List.set_cons_zero, List.set_cons_succ]
      refine held_take 1 (v := ?_) rfl (by kernel_rfl) (by kernel_rfl) (by kernel_rfl) (fun _ _ _ h => h) hHeld (by rfl) ?_ ?_
      rotate_left
      · (intro W hW; go_simp; try with_reducible rfl)
      try simp only [Act.put, List.setIfInBounds_toArray, List.set_cons_zero, List.set_cons_succ]
      refine held_take 2 (v := ?_) rfl (by kernel_rfl) (by kernel_rfl) (by kernel_rfl) (fun _ _ _ h => h) hHeld (by rfl) ?_ ?_
      rotate_left
      · (intro W hW; go_simp; try with_reducible rfl)
      try simp only [Act.put, List.setIfInBounds_toArray, List.set_cons_zero, List.set_cons_succ]
      refine held_take 3 (v := ?_) rfl (by kernel_rfl) (by kernel_rfl) (by kernel_rfl) (fun _ _ _ h => h) hHeld (by rfl) ?_ ?_
      rotate_left
      · (intro W hW; have e := hW.cell (by simp) HC04.out; go_simp; try with_reducible rfl)
      try simp only [Act.put, List.setIfInBounds_toArray, List.set_cons_zero, List.set_cons_succ]
      refine held_take 4 (v := ?_) rfl (by kernel_rfl) (by kernel_rfl) (by kernel_rfl) (fun _ _ _ h => h) hHeld (by rfl) ?_ ?_
      rotate_left
      · (intro W hW; go_simp; try with_reducible rfl)
      try simp only [Act.put, List.setIfInBounds_toArray, List.set_cons_zero, List.set_cons_succ]
      refine held_take 5 (v := ?_) rfl (by kernel_rfl) (by kernel_rfl) (by kernel_rfl) (fun _ _ _ h => h) hHeld (by rfl) ?_ ?_
      rotate_left
      · (intro W hW; go_simp; try with_reducible rfl)
      try simp only [Act.put, List.setIfInBounds_toArray, List.set_cons_zero, List.set_cons_succ]
      refine held_take 6 (v := ?_) rfl (by kernel_rfl) (by kernel_rfl) (by kernel_rfl) (fun _ _ _ h => h) hHeld (by rfl) ?_ ?_
      rotate_left
      · (intro W hW; have e := HIS.out W; go_simp; try with_reducible rfl)
      try simp only [Act.put, List.setIfInBounds_toArray, List.set_cons_zero, List.set_cons_succ]
      refine held_take 7 (v := ?_) rfl (by kernel_rfl) (by kernel_rfl) (by kernel_rfl) (fun _ _ _ h => h) hHeld (by rfl) ?_ ?_
      rotate_left
      · (intro W hW; go_simp; try with_reducible rfl)
      try simp only [Act.put, List.setIfInBounds_toArray, List.set_cons_zero, List.set_cons_succ]
      refine held_take 8 (v := ?_) rfl (by kernel_rfl) (by kernel_rfl) (by kernel_rfl) (fun _ _ _ h => h) hHeld (by rfl) ?_ ?_
      rotate_left
      · (intro W hW; have e := HSL1.out W; go_simp; try with_reducible rfl)
      try simp only [Act.put, List.setIfInBounds_toArray, List.set_cons_zero, List.set_cons_succ]
      refine held_take 9 (v := ?_) rfl (by kernel_rfl) (by kernel_rfl) (by kernel_rfl) (fun _ _ _ h => h) hHeld (by rfl) ?_ ?_
      rotate_left
      · (intro W hW; go_simp; try with_reducible rfl)
      try simp only [Act.put, List.setIfInBounds_toArray, List.set_cons_zero, List.set_cons_succ]
      refine held_take 10 (v := ?_) rfl (by kernel_rfl) (by kernel_rfl) (by kernel_rfl) (fun _ _ _ h => h) hHeld (by rfl) ?_ ?_
      rotate_left
      · (intro W hW; have e := HSL2.out W; go_simp; try with_reducible rfl)
      try simp only [Act.put, List.setIfInBounds_toArray, List.set_cons_zero, List.set_cons_succ]
      refine held_next 11 rfl (by kernel_rfl) (by rfl) (fun K hK => ?_)
      refine wp_pair _ _ rfl rfl rfl ?_
      refine hK.out _ _ (fun i hi => by rw [List.mem_singleton.1 hi]; exact HAG.out _ HD5.out) (fun hHeld => ?_)
      clear hK K
      try simp only [Act.put, List.setIfInBounds_toArray, List.set_cons_zero, List.set_cons_succ]
      refine held_next 12 rfl (by kernel_rfl) (by rfl) (fun K hK => ?_)
      go_simp
      go_at_call 64
      refine (HCAT.out).mono ?_
      rintro _ w6 hmb
      obtain ⟨ab, cb, bt, br, bn, bl, _⟩ := hmb.row
      subst bt
      have HB6 := Lib.hid (HD5.out.trans (bl.mono HD5.out.size))
      have HBR := Lib.hid br
      clear hmb br bn bl
      refine hK.out _ _ (fun i hi => by rw [List.mem_singleton.1 hi]; exact HAG.out _ HB6.out) (fun hHeld => ?_)
      clear hK K
      try simp only [Act.put, List.setIfInBounds_toArray, List.set_cons_zero, List.set_cons_succ]
      obtain ⟨rb, ro, hab, hrr⟩ := range_bat HBR.out (by rw [HNL.out]; decide)
      subst hab
      have HRR := Lib.hid hrr
      clear hrr
      refine held_next 13 rfl (by kernel_rfl) (by rfl) (fun K hK => ?_)
      refine wp_arr _ rfl rfl (by rw [HNL.out]; exact Nat.le_refl _) ?_
      refine hK.out _ _ (fun i hi => by rw [List.mem_singleton.1 hi]; exact HAG.out _ HB6.out) (fun hHeld => ?_)
      clear hK K
      try simp only [Act.put, List.setIfInBounds_toArray, List.set_cons_zero, List.set_cons_succ]
      refine held_next 14 rfl (by kernel_rfl) (by rfl) (fun K hK => ?_)
      refine wp_load_mid _ _ rfl rb ro rfl _ _ HRR.out undS rfl (by rw [sizS, cells_len _ HNL.out]) ?_
      refine hK.out _ _ (fun i hi => by rw [List.mem_singleton.1 hi]; exact HAG.out _ HB6.out) (fun hHeld => ?_)
      clear hK K
      try simp only [Act.put, List.setIfInBounds_toArray, List.set_cons_zero, List.set_cons_succ]
      refine held_take 15 (v := ?_) rfl (by kernel_rfl) (by kernel_rfl) (by kernel_rfl) (fun _ _ _ h => h) hHeld (by rfl) ?_ ?_
      rotate_left
      · (intro W hW; have e := HIX.out W; go_simp; try with_reducible rfl)
      try simp only [Act.put, List.setIfInBounds_toArray, List.set_cons_zero, List.set_cons_succ]
      refine held_next 16 rfl (by kernel_rfl) (by rfl) (fun K hK => ?_)
      refine wp_store_mid _ _ _ rfl gb (p.1 * 64) _ rfl rfl (ow_there (HST.out.below HB6.out).bs (by simp [cells_len _ HNL.out]; have := HXL.out; omega)) (by rw [sizS]; simp [cells_len _ HNL.out]) (all_oneCell_toArray (bcells_one _)) ?_
      rw [List.toList_toArray]
      refine hK.out _ _ (fun i hi => by rw [List.mem_singleton.1 hi]; exact (ow_setg HST.out HB6.out HXL.out HNL.out HGB.out).trans (HAG.out _ HB6.out)) (fun hHeld => ?_)
      clear hK K
      refine wpAnyH_done (by kernel_rfl) ?_ _
      go_simp
      have HC27 := Lib.hid (show (w6.setCells gb (p.1 * 64) (bcells (cutS p.2 old (cm k)))).cell? ⟨g, 2, none⟩ = some (.map (some m)) from (World.cell?_of_block (w := wr) (a := ⟨g, 2, none⟩) ((ow_setg HST.out HB6.out HXL.out HNL.out HGB.out).trans (HB6.out.block g (lt_of_heap HBLK.out)))).trans HC2.out)
      have HM7 := Lib.hid (HST.out.mp.same ((ow_setg HST.out HB6.out HXL.out HNL.out HMB.out).trans (HB6.out.block m HST.out.mp.lt)))
      have HG7L := Lib.hid (show g < (w6.setCells gb (p.1 * 64) (bcells (cutS p.2 old (cm k)))).heap.size by rw [size_setCells]; exact Nat.lt_of_lt_of_le (lt_of_heap HBLK.out) HB6.out.size)
      have HSTEP := Lib.hid (fun (w8 : World) (hm8 : MapAt w8 m (cnt' + 1) (updF f' (p.1 : Int) (.slice (if scap = 1 then some ⟨sb, so, none⟩ else some ⟨sb, so + 64, none⟩) L (scap - 1)))) (hg8 : (w6.setCells gb (p.1 * 64) (bcells (cutS p.2 old (cm k)))).grownBy w8 (some m)) => HST.out.step HCM.out HKD.out.ok HKL.out HP.out (by rw [← HLL.out]; exact HFX.out) HB6.out (by rw [← HLL.out]; exact hm8) (by rw [← HOLD.out]; exact hg8))
      generalize w6.setCells gb (p.1 * 64) (bcells (cutS p.2 old (cm k))) = w7 at *
      go_wp2_with fail
      refine wp_region_held_drew (S := fun W => Agree [g] w7 W) (by kernel_rfl) ?_ (fun hHeld => ?_)
      · exact fun _ _ => rfl
      refine held_take 0 (v := ?_) rfl (by kernel_rfl) (by kernel_rfl) (by kernel_rfl) (fun _ _ _ h => h) hHeld (by rfl) ?_ ?_
      rotate_left
      · (intro W hW; go_simp; try with_reducible rfl)
      try simp only [Act.put, List.setIfInBounds_toArray, List.set_cons_zero, List.set_cons_succ]
      refine held_take 1 (v := ?_) rfl (by kernel_rfl) (by kernel_rfl) (by kernel_rfl) (fun _ _ _ h => h) hHeld (by rfl) ?_ ?_
      rotate_left
      · (intro W hW; go_simp; try with_reducible rfl)
      try simp only [Act.put, List.setIfInBounds_toArray, List.set_cons_zero, List.set_cons_succ]
      refine held_take 2 (v := ?_) rfl (by kernel_rfl) (by kernel_rfl) (by kernel_rfl) (fun _ _ _ h => h) hHeld (by rfl) ?_ ?_
      rotate_left
      · (intro W hW; go_simp; try with_reducible rfl)
      try simp only [Act.put, List.setIfInBounds_toArray, List.set_cons_zero, List.set_cons_succ]
      refine held_take 3 (v := ?_) rfl (by kernel_rfl) (by kernel_rfl) (by kernel_rfl) (fun _ _ _ h => h) hHeld (by rfl) ?_ ?_
      rotate_left
      · (intro W hW; have e := hW.cell (by simp) HC27.out; go_simp; try with_reducible rfl)
      try simp only [Act.put, List.setIfInBounds_toArray, List.set_cons_zero, List.set_cons_succ]
      refine held_take 4 (v := ?_) rfl (by kernel_rfl) (by kernel_rfl) (by kernel_rfl) (fun _ _ _ h => h) hHeld (by rfl) ?_ ?_
      rotate_left
      · (intro W hW; go_simp; try with_reducible rfl)
      try simp only [Act.put, List.setIfInBounds_toArray, List.set_cons_zero, List.set_cons_succ]
      refine held_take 5 (v := ?_) rfl (by kernel_rfl) (by kernel_rfl) (by kernel_rfl) (fun _ _ _ h => h) hHeld (by rfl) ?_ ?_
      rotate_left
      · (intro W hW; go_simp; try with_reducible rfl)
      try simp only [Act.put, List.setIfInBounds_toArray, List.set_cons_zero, List.set_cons_succ]
      refine held_take 6 (v := ?_) rfl (by kernel_rfl) (by kernel_rfl) (by kernel_rfl) (fun _ _ _ h => h) hHeld (by rfl) ?_ ?_
      rotate_left
      · (intro W hW; have e := HSL3.out W; go_simp; try with_reducible rfl)
      try simp only [Act.put, List.setIfInBounds_toArray, List.set_cons_zero, List.set_cons_succ]
      refine held_next 7 rfl (by kernel_rfl) (by rfl) (fun K hK => ?_)
      refine wp_upd (w := w7.drew) (f := f') (cnt := cnt') (m := m) (x := (p.1 : Int)) _ _ _ rfl rfl rfl rfl HM7.out HXI.out (by have := HST.out.cn; have := HKD.out.ok.qn; have := HKL.out; omega) (fun w8 hm8 hg8 hs8 => ?_)
      have HS8 := Lib.hid (HSTEP.out w8 hm8 ⟨hg8.os, hg8.tape, hg8.output, hg8.size, hg8.block⟩)
      have HM8 := Lib.hid hg8
      clear hm8 hg8 hs8
      refine hK.out _ _ (fun i hi => by rw [List.mem_singleton.1 hi]; exact HM8.out.block _ HG7L.out (fun e => HGM.out (by injection e))) (fun hHeld => ?_)
      clear hK K
      refine wpAnyH_done (by kernel_rfl) ?_ _
      go_simp
      go_wp2_with fail
      go_roundw
      case rel => exact ⟨k + 1, cnt' + 1, _, by go_num, by have := HKL.out; omega, HS8.out⟩
      case measure => simp; have := HKL.out; omega
    · obtain rfl : k = d.queue.length := by omega
      have HC1 := Lib.hid (show wr.cell? ⟨g, 1, none⟩ = some (.slice a1 d.queue.length c1) by rw [cell_of_row _ _ _ _ _ _ HBLK.out]; rfl)
      have q1 := HC1.out
      have q2 : wr.cell? ⟨g, 2, none⟩ = some (.map (some m)) := by rw [cell_of_row _ _ _ _ _ _ HBLK.out]; rfl
      have f1 := frozen_of_row _ _ 1 _ _ HBLK.out
      have HMS := Lib.hid (show MapAt (wr.setCell ⟨g, 1, none⟩ (.slice none 0 0)) m cnt' f' from HST.out.mp.same (heap_setCell_other _ _ _ _ (map_row HST.out.mp HBLK.out)))
      have HNE := Lib.hid (show g ≠ m from fun e => HNG.out (Or.inr e))
      clear hk9 hk hlt
      go_wp2_with (with_reducible refine wpList_clear rfl _ rfl rfl HMS.out ?_; intro w9 hm9 hg9 hs9; have HD := Lib.hid (settle_end HKD.out HCM.out HST.out hm9 hg9 (by rw [hs9]; simp)); clear hm9 hg9 hs9)
      go_end0
      exact ⟨rfl, HD.out⟩
end Go.Proofs.YtdfbpaajkpnaeaaGreat
