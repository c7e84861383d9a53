
/- Package disk: append for things of any size; act, Queue, Blank. Package disk: Blank. falseworklaw08.painted; sectors are equal. -/
import Derived.Test.YtdfbpaajkpnaeaaGreatDkB
import Derived.Maps.AppendAt
import Derived.Laws.MakeOwn

namespace Go.Proofs.YtdfbpaajkpnaeaaGreat
set_option maxRecDepth 100000
open Go.RowKit Go.Lib

/-- a slice's type and its elements' -/
structure El (t e : TypeId) (size bytes : Nat) : Prop where
  und : Tryz.prog.underlying t = some (.slice e)
  inf : ∃ (i : TypeInfo) (z : Value), Tryz.prog.info? e = some i ∧ i.zero = some z ∧ i.size = size ∧ i.bytes = bytes ∧ z.cells.size = size
  pos : 0 < size
theorem inf_of {e : TypeId} {size bytes : Nat} {z : Value} (h : (Tryz.prog.info? e).map (fun i => (i.zero, i.size, i.bytes)) = some (some z, size, bytes)) (hz : z.cells.size = size) : ∃ (i : TypeInfo) (z : Value), Tryz.prog.info? e = some i ∧ i.zero = some z ∧ i.size = size ∧ i.bytes = bytes ∧ z.cells.size = size := by
  cases hi : Tryz.prog.info? e with
  | none => rw [hi] at h; cases h
  | some i =>
    rw [hi] at h
    simp only [Option.map_some, Option.some.injEq, Prod.mk.injEq] at h
    exact ⟨i, z, rfl, h.1, h.2.1, h.2.2, hz⟩
theorem elN : El 45 3 1 8 := ⟨Tryz.underlying45, inf_of (z := .int .i64 0) (by kernel_rfl) rfl, by decide⟩
theorem elS : El 33 88 64 64 := ⟨Tryz.underlying33, inf_of infS (by simp [Value.cells, zc_len]), by decide⟩
theorem elI : El 34 90 65 72 := ⟨Tryz.underlying34, inf_of infI (by simp [Value.cells, zi_len]), by decide⟩
theorem Lie.cells {w : World} {a : Addr} {xs : List Value} (h : Lie w (some a) xs) : ∀ j u, xs[j]? = some u → w.cell? (a.add j) = some u := by
  intro j u hj
  rcases h with h | ⟨b, off, ha, hlt, hr⟩
  · subst h; simp at hj
  · cases ha
    rw [Addr.add_mid]
    exact hr j u hj
/-- what append makes -/
def Appd (w : World) (base : Nat) (e : TypeId) (size : Nat) (v : Value) (k : Nat) (xs : List Value) (v' : Value) (w' : World) : Prop :=
  w'.ownsRow base e size v' k xs ∧ w.grownBy w' v.ownBlock ∧ (v'.ownBlock = v.ownBlock ∨ v'.ownBlock = some w.heap.size)
section
variable {t e : TypeId} {size bytes : Nat}
theorem app_any (E : El t e size bytes) {w : World} (base : Nat) (v : Value) (n : Nat) (xs : List Value) (ad : Option Addr) (m c : Nat) (news : List Value) (ty : TypeId) (hown : w.ownsRow base e size v n xs) (hl : news.length = m * size) (hr : Lie w ad news) (hnil : ad = none → m = 0) (h1 : ∀ u ∈ news, u.oneCell' = true)
    (hlen : n + m ≤ 1000000) (hby : bytes ≤ 100) (hb : base ≤ w.heap.size) :
    ∃ v' w', (Builtin.append_ #[t, t] ty #[v, .slice ad m c]).run Tryz.prog w = .ok v' w' ∧ Appd w base e size v (n + m) (xs ++ news) v' w' := by
  obtain ⟨i, z, hi, hz, hs1, hs8, hzs⟩ := E.inf
  cases ad with
  | none =>
    obtain rfl := hnil rfl
    have e0 : news = [] := List.eq_nil_of_length_eq_zero (by rw [hl, Nat.zero_mul])
    subst e0
    refine ⟨v, w, ?_, by rw [List.append_nil]; exact hown, ⟨rfl, rfl, rfl, Nat.le_refl _, fun _ _ _ => rfl⟩, Or.inl rfl⟩
    rcases hown.2 with ⟨rfl, h0⟩ | ⟨g, cap, cur, rfl, _, _, hnc, _⟩
    · simp [Builtin.append_, run_underlying E.und, Go.sizeOf, typeInfo, hi, Builtin.lenOf, Builtin.firstCells]
    · simp [Builtin.append_, run_underlying E.und, Go.sizeOf, typeInfo, hi, Builtin.lenOf, Builtin.firstCells, hnc, storeCells]
  | some p =>
    obtain ⟨v', w', hrun, h2, h3, h4, h5⟩ := run_append_own_at (P := Tryz.prog) w base t ty e i z size bytes E.und hi hz hs1 hs8 hzs E.pos v n xs hown p m c news hl hr.cells h1 (by unfold maxLen; omega)
      (Nat.le_trans (Nat.mul_le_mul hlen hby) (by decide)) hb
    exact ⟨v', w', hrun, h2, h3, h5⟩
theorem wp_appO (E : El t e size bytes) {o : Oper} {a : Act} {w : World} {K : Act → World → Prop} {Q : Exit → Act → World → Prop} (s x : Operand)
    (ho : o.op = .call { callee := .builtin .append, args := #[s, x], argTypes := #[t, t] }) (base : Nat) (v : Value) (n : Nat) (xs : List Value) (ad : Option Addr) (m c : Nat) (news : List Value) (hs : a.eval s = v) (hx : a.eval x = .slice ad m c)
    (hown : w.ownsRow base e size v n xs) (hl : news.length = m * size) (hr : Lie w ad news) (hnil : ad = none → m = 0) (h1 : ∀ u ∈ news, u.oneCell' = true) (hlen : n + m ≤ 1000000) (hby : bytes ≤ 100) (hb : base ≤ w.heap.size)
    (h : ∀ v' w', Appd w base e size v (n + m) (xs ++ news) v' w' → K (a.put o.dst v') w') : o.wp Tryz.prog a w K Q := by
  obtain ⟨v', w', hrun, h2⟩ := app_any E base v n xs ad m c news o.type hown hl hr hnil h1 hlen hby hb
  unfold Oper.wp execOp
  simp only [ho, resolve, invoke, builtin, Sem.run_bind, Sem.run_pure, Result.andThen_ok, List.map_toArray, List.map_cons, List.map_nil, hs, hx, hrun]
  exact h v' w' h2
theorem wpList_appO (E : El t e size bytes) {ops : Array Oper} {rest : List Oper} {o : Oper} {a : Act} {w : World} {Q : Exit → Act → World → Prop} (hgd : o.guard = none) (s x : Operand)
    (ho : o.op = .call { callee := .builtin .append, args := #[s, x], argTypes := #[t, t] }) (base : Nat) (v : Value) (n : Nat) (xs : List Value) (ad : Option Addr) (m c : Nat) (news : List Value) (hs : a.eval s = v) (hx : a.eval x = .slice ad m c)
    (hown : w.ownsRow base e size v n xs) (hl : news.length = m * size) (hr : Lie w ad news) (hnil : ad = none → m = 0) (h1 : ∀ u ∈ news, u.oneCell' = true) (hlen : n + m ≤ 1000000) (hby : bytes ≤ 100) (hb : base ≤ w.heap.size)
    (h : ∀ v' w', Appd w base e size v (n + m) (xs ++ news) v' w' → wpList Tryz.prog ops Q rest (a.put o.dst v') w') : wpList Tryz.prog ops Q (o :: rest) a w :=
  wpList_plain hgd fun _ hK => wp_appO E s x ho base v n xs ad m c news hs hx hown hl hr hnil h1 hlen hby hb fun v' w' h2 => hK _ _ (h v' w' h2)
/-- a slice of one thing of many cells -/
theorem run_one (E : El t e size bytes) (c : List Value) (hc : c.length = size) (hs : size ≤ 100) (w : World) : (Instr.buildSlice t 1 #[(0, .agg c.toArray)]).run Tryz.prog w = .ok (.slice (some ⟨w.heap.size, 0, none⟩) 1 1) (w.alloc (.cells c.toArray e)) := by
  obtain ⟨i, z, hi, hz, hs1, hs8, hzs⟩ := E.inf
  have hp := E.pos
  refine run_buildSlice w t e 1 _ c.toArray i z E.und hi hz (by rw [hs1]; omega) (by rw [hs1]; omega) ?_
  have := Great.fill_whole (s := size) hp [.agg c.toArray] ((Array.range (1 * i.size)).map (z.cells[· % z.cells.size]!)) (by intro v hv; rw [List.mem_singleton.1 hv]; simp [Value.cells, hc]) (by simp [hs1])
  rw [hs1] at this ⊢
  simpa [Value.cells] using this
theorem wp_one (E : El t e size bytes) {o : Oper} {a : Act} {w : World} {K : Act → World → Prop} {Q : Exit → Act → World → Prop} (x : Operand) (ho : o.op = .buildSlice t 1 #[(0, x)]) (c : List Value) (hx : a.eval x = .agg c.toArray) (hc : c.length = size) (hs : size ≤ 100)
    (h : K (a.put o.dst (.slice (some ⟨w.heap.size, 0, none⟩) 1 1)) (w.alloc (.cells c.toArray e))) : o.wp Tryz.prog a w K Q := by
  unfold Oper.wp execOp
  simp only [ho, Sem.run_bind, List.map_toArray, List.map_cons, List.map_nil, hx, run_one E c hc hs w, Result.andThen_ok]
  exact h
theorem wpList_one (E : El t e size bytes) {ops : Array Oper} {rest : List Oper} {o : Oper} {a : Act} {w : World} {Q : Exit → Act → World → Prop} (hgd : o.guard = none) (x : Operand) (ho : o.op = .buildSlice t 1 #[(0, x)]) (c : List Value) (hx : a.eval x = .agg c.toArray) (hc : c.length = size) (hs : size ≤ 100)
    (h : wpList Tryz.prog ops Q rest (a.put o.dst (.slice (some ⟨w.heap.size, 0, none⟩) 1 1)) (w.alloc (.cells c.toArray e))) : wpList Tryz.prog ops Q (o :: rest) a w :=
  wpList_plain hgd fun _ hK => wp_one E x ho c hx hc hs (hK _ _ h)
end
theorem lie_new (w : World) (c : List Value) (e : TypeId) : Lie (w.alloc (.cells c.toArray e)) (some ⟨w.heap.size, 0, none⟩) c :=
  Or.inr ⟨w.heap.size, 0, rfl, by simp, range_row (heap_alloc_new w _)⟩
theorem Lie.below {w w' : World} {a : Option Addr} {xs : List Value} (h : Lie w a xs) (hb : RowKit.Below w.heap.size w w') : Lie w' a xs := by
  rcases h with h | ⟨b, off, ha, hlt, hr⟩
  · exact Or.inl h
  · exact Or.inr ⟨b, off, ha, Nat.lt_of_lt_of_le hlt hb.size, range_of hr (hb.block b hlt)⟩
theorem below_appd {w w0 : World} {B base : Nat} {e : TypeId} {size : Nat} {v : Value} {k : Nat} {xs : List Value} {v' : Value} {w' : World} (h : Appd w base e size v k xs v' w') (hb : RowKit.Below B w0 w) (hB : B ≤ w.heap.size) (hv : ∀ i, v.ownBlock = some i → B ≤ i) : RowKit.Below B w0 w' := hb.grown h.2.1 hB hv

theorem qcells_one (q : List (Nat × Sec)) : ∀ u ∈ qcells q, u.oneCell' = true := by
  intro u hu
  obtain ⟨p, _, rfl⟩ := List.mem_map.1 hu
  rfl
theorem qcells_len (q : List (Nat × Sec)) : (qcells q).length = q.length := by simp [qcells]
/-- what act leaves -/
def ActRes (g : Nat) (v0 v1 v2 : Value) (fu : Int) (dd : Bool) (w : World) (e : Ending) (w' : World) : Prop :=
  e = .returned (.int .i64 (if dd || fu == 0 then 82 else 0)) ∧
    w'.heap[g]? = some (.cells #[v0, v1, v2, .int .i64 (if dd || fu == 0 then fu else if 0 < fu then fu - 1 else fu), .bool (dd || fu == 0)] 66) ∧ w.grownBy w' (some g) ∧ w'.heap.size = w.heap.size
theorem act_run (g : Nat) (v0 v1 v2 : Value) (fu : Int) (dd : Bool) (w : World) (hI : I fu) (hg : w.heap[g]? = some (.cells #[v0, v1, v2, .int .i64 fu, .bool dd] 66)) :
    Calls Tryz.prog 80 #[.pointer (some ⟨g, 0, none⟩)] w (ActRes g v0 v1 v2 fu dd w) := by
  have c3 : w.cell? ⟨g, 3, none⟩ = some (.int .i64 fu) := by rw [cell_of_row w g _ _ _ _ hg]; rfl
  have c4 : w.cell? ⟨g, 4, none⟩ = some (.bool dd) := by rw [cell_of_row w g _ _ _ _ hg]; rfl
  have f3 := frozen_of_row w g 3 _ _ hg
  have f4 := frozen_of_row w g 4 _ _ hg
  have HG := Lib.hid hg
  clear hg
  have gs : ∀ (i : Nat) v, w.grownBy (w.setCell ⟨g, i, none⟩ v) (some g) := fun i v => ⟨rfl, rfl, rfl, by simp, fun k _ hk => heap_setCell_other w ⟨g, i, none⟩ k v (fun e => hk (by simp [e]))⟩
  have GS := Lib.hid gs
  clear gs
  by_cases h0 : fu = 0
  · subst h0
    clear hI
    go_enter Tryz.func80, Tryz.ntmps80
    go_wp2
    go_ret
    refine ⟨by simp, ?_, GS.out _ _, by simp⟩
    rw [heap_setCell_same w g 4 _ _ _ HG.out]
    simp
  · have b0 : (fu == 0) = false := by simpa using h0
    have HB0 := Lib.hid b0
    cases dd with
    | true =>
      clear hI
      go_enter Tryz.func80, Tryz.ntmps80
      go_wp2
      go_ret
      refine ⟨by simp, ?_, ⟨rfl, rfl, rfl, Nat.le_refl _, fun _ _ _ => rfl⟩, rfl⟩
      rw [HG.out]
      simp
    | false =>
      by_cases hp : 0 < fu
      · have d0 : decide (0 < fu) = true := by simpa using hp
        have r0 : IntKind.i64.wrap (fu - 1) = fu - 1 := by
          obtain ⟨h1, h2⟩ := hI
          exact IntWalk.i64_in _ (by omega)
        have HP := Lib.hid hp
        clear hp hI h0
        go_enter Tryz.func80, Tryz.ntmps80
        go_wp2
        go_ret
        refine ⟨by rw [HB0.out]; rfl, ?_, GS.out _ _, by simp⟩
        rw [heap_setCell_same w g 3 _ _ _ HG.out, HB0.out, Bool.or_false, if_neg (by decide), if_pos HP.out]
        rfl
      · have d0 : decide (0 < fu) = false := by simpa using hp
        have HP := Lib.hid hp
        clear hp hI h0
        go_enter Tryz.func80, Tryz.ntmps80
        go_wp2
        go_ret
        refine ⟨by rw [HB0.out]; rfl, ?_, ⟨rfl, rfl, rfl, Nat.le_refl _, fun _ _ _ => rfl⟩, rfl⟩
        rw [HG.out, HB0.out, Bool.or_false, if_neg (by decide), if_neg (by have := HP.out; omega)]
theorem live_eq (d : Dk) : d.live = !(d.dead || d.fuse == 0) := rfl
/-- an act -/
theorem act_any (g : Nat) (F : Nat → Prop) (d : Dk) (a0 : Option Addr) (c0 : Nat) (a1 : Option Addr) (c1 m cnt : Nat) (f : Int → Value) (w : World) (k : DMem w F g d a0 c0 a1 c1 m cnt f) :
    Calls Tryz.prog 80 #[.pointer (some ⟨g, 0, none⟩)] w fun e w' => e = .returned (.int .i64 d.actE) ∧ ∃ fu dd, d.spend = { d with fuse := fu, dead := dd } ∧ DMem w' F g { d with fuse := fu, dead := dd } a0 c0 a1 c1 m cnt f ∧ w.grownBy w' (some g) ∧ w'.heap.size = w.heap.size := by
  refine (act_run g _ _ _ _ _ w k.ok.fz k.blk).mono ?_
  rintro e w' ⟨rfl, hg, hgr, hs⟩
  have hb : ∀ i, i < w.heap.size → i ≠ g → w'.heap[i]? = w.heap[i]? := fun i hi hne => hgr.block i hi fun e => hne (by injection e)
  refine ⟨?_, ?_⟩
  · unfold Dk.actE
    rw [live_eq]
    cases d.dead || d.fuse == 0 <;> rfl
  · have hsp := k.ok.spend.fz
    unfold Dk.spend at hsp ⊢
    rw [live_eq] at hsp ⊢
    cases hl : d.dead || d.fuse == 0 with
    | true =>
      rw [hl] at hg hsp
      exact ⟨d.fuse, true, rfl, k.head hsp hg (by omega) hb, hgr, hs⟩
    | false =>
      have hdd : d.dead = false := by cases h : d.dead with | true => rw [h] at hl; cases hl | false => rfl
      rw [hl] at hg hsp
      exact ⟨if 0 < d.fuse then d.fuse - 1 else d.fuse, false, by rw [if_pos (show (!false) = true from rfl), ← hdd], k.head hsp hg (by omega) hb, hgr, hs⟩
/-- Blank -/
theorem run_make (n : Nat) (hn : n ≤ 2048) (w : World) : ∃ w', (Instr.makeSlice 33 (.int .i64 (n : Int)) (.int .i64 (n : Int))).run Tryz.prog w = .ok (.slice (some ⟨w.heap.size, 0, none⟩) n n) w' ∧
    w'.ownsRow w.heap.size 88 64 (.slice (some ⟨w.heap.size, 0, none⟩) n n) n (scells (List.replicate n zsec)) ∧ w.grownBy w' none ∧ w'.heap.size = w.heap.size + 1 := by
  obtain ⟨i, z, hi, hz, hs1, hs8, hzs⟩ := elS.inf
  have hz2 : z = .agg zc.toArray := by
    have h := infS
    rw [hi] at h
    simp only [Option.map_some, Option.some.injEq, Prod.mk.injEq] at h
    rw [hz] at h
    exact Option.some.inj h.1
  have h63 : ((n : Nat) : Int) ≤ 9223372036854775807 := by omega
  have hr := Go.run_make (P := Tryz.prog) w 33 88 i z elS.und hi hz .i64 .i64 n n (by omega) (Int.le_refl _) (by rw [hs8]; omega) h63
  simp only [Int.toNat_natCast] at hr
  refine ⟨_, hr, ?_, World.grownBy_alloc w _ none, by simp⟩
  have := World.ownsRow_lit (base := w.heap.size) (e := 88) (size := 64) w (madeCells z.cells (n * i.size)) n (Nat.le_refl _) (by unfold maxLen; omega) (by rw [size_madeCells, hs1])
  have e : (madeCells z.cells (n * i.size)).toList = scells (List.replicate n zsec) := by
    subst hz2
    rw [hs1]
    have hbl : ∀ s ∈ List.replicate n zsec, s.length = 64 := fun s hs => by rw [(List.mem_replicate.1 hs).2]; rfl
    apply List.ext_getElem?
    intro j
    have hlen : (scells (List.replicate n zsec)).length = n * 64 := by rw [scells_len hbl, List.length_replicate]
    by_cases hj : j < n * 64
    · have h1 : (List.replicate n zsec)[j / 64]? = some zsec := by rw [List.getElem?_replicate, if_pos (by omega)]
      have h2 : ∃ v, zc[j % 64]? = some v := ⟨_, List.getElem?_eq_getElem (by rw [zc_len]; omega)⟩
      obtain ⟨v, hv⟩ := h2
      have h3 := flat_mid (f := bcells) (n := 64) (fun s hs => cells_len s (hbl s hs)) h1 (j % 64) v hv
      rw [show j / 64 * 64 + j % 64 = j by omega] at h3
      have h4 : (scells (List.replicate n zsec))[j]? = some v := h3
      rw [h4]
      simp only [madeCells, Value.cells, Array.getElem?_toList]
      have hzs : zc.toArray.size = 64 := by simp [zc_len]
      simp [hj, zc_len, hv]
    · rw [List.getElem?_eq_none (by simp [madeCells]; omega), List.getElem?_eq_none (by omega)]
  rw [e] at this
  exact this
end Go.Proofs.YtdfbpaajkpnaeaaGreat

namespace Go.Proofs.YtdfbpaajkpnaeaaGreat
set_option maxRecDepth 100000
open Go.RowKit Go.Lib

theorem ofQ_nil (x : Int) : ofQ [] x = [] := rfl
/-- a new disk -/
theorem dmem_new {w1 : World} {b N : Nat} {n : Int} (hN : N = blankN n) (ho : w1.ownsRow b 88 64 (.slice (some ⟨b, 0, none⟩) N N) N (scells (List.replicate N zsec))) (hs : w1.heap.size = b + 1) :
    ∃ F, DAt ((w1.alloc (.map #[] 0)).alloc (.cells #[.slice (some ⟨b, 0, none⟩) N N, .slice none 0 0, .map (some (b + 1)), .int .i64 (-1), .bool false] 66)) F (b + 2) (Dk.blank n) ∧ ∀ i, F i → b ≤ i := by
  subst hN
  have hL : (Dk.blank n).base.length = blankN n := List.length_replicate
  have hB : (Dk.blank n).base = List.replicate (blankN n) zsec := rfl
  refine ⟨fun i => b ≤ i ∧ i < b + 3, ⟨some ⟨b, 0, none⟩, blankN n, none, 0, b + 1, 0, fun _ => nilS, ?_⟩, fun i h => h.1⟩
  have h1 : (w1.alloc (.map #[] 0)).heap.size = b + 2 := by simp [hs]
  constructor
  · exact Dk.Ok.blank n
  · rw [hL]
    have := heap_alloc_new (w1.alloc (.map #[] 0)) (.cells #[.slice (some ⟨b, 0, none⟩) (blankN n) (blankN n), .slice none 0 0, .map (some (b + 1)), .int .i64 (-1), .bool false] 66)
    rw [h1] at this
    exact this
  · rw [hL, hB]
    have : w1.ownsRow 0 88 64 (.slice (some ⟨b, 0, none⟩) (blankN n) (blankN n)) (blankN n) (scells (List.replicate (blankN n) zsec)) := by
      rcases ho.2 with h0 | ⟨g, cap, cur, hv, hb, r⟩
      · exact ⟨ho.1, .inl h0⟩
      · exact ⟨ho.1, .inr ⟨g, cap, cur, hv, Nat.zero_le _, r⟩⟩
    exact (this.alloc _).alloc _
  · exact World.ownsRow_nil _ _ _ _
  · have := MapAt.made w1
    rw [hs] at this
    exact this.same (Go.heap_alloc_old _ _ (by rw [h1]; omega))
  · exact Nat.le_refl _
  · exact fun x _ => World.ownsRow_nil _ _ _ _
  · exact fun x k _ h => by cases h
  · exact fun x y k _ _ _ h => by cases h
  · exact ⟨by omega, by omega⟩
  · exact ⟨by omega, by omega⟩
  · exact fun k h => by cases h; exact ⟨Nat.le_refl _, Nat.lt_add_of_pos_right (by omega)⟩
  · exact fun k h => by cases h
  · exact fun x k _ h => by cases h
  · exact fun i h => by have := h.2; simp [hs]; omega
theorem mkMap (w : World) : (Instr.makeMap 64 none).run Tryz.prog w = .ok (.map (some w.heap.size)) (w.alloc (.map #[] 0)) := by
  simp [Instr.makeMap, Result.andThen]
theorem blank_any (n : Int) (w : World) : Calls Tryz.prog 6 #[.int .i64 n] w fun e w' => ∃ g F, e = .returned (.pointer (some ⟨g, 0, none⟩)) ∧ DAt w' F g (Dk.blank n) ∧ RowKit.Below w.heap.size w w' ∧ ∀ i, F i → w.heap.size ≤ i := by
  have mk := mkMap
  obtain ⟨N, hN⟩ : ∃ N, N = blankN n := ⟨_, rfl⟩
  obtain ⟨w1, hrun, ho, hg, hs⟩ := run_make N (by rw [hN]; unfold blankN; omega) w
  have hB : RowKit.Below w.heap.size w w1 := (RowKit.Below.refl _ _).grown hg (Nat.le_refl _) (fun k h => by cases h)
  obtain ⟨F, hF⟩ := dmem_new hN ho hs
  have HF := Lib.hid hF
  have HB := Lib.hid hB
  clear ho hg hF hB
  have hc : (n < 0 ∧ N = 0) ∨ (n = 0 ∧ N = 0) ∨ (0 < n ∧ n < 2048 ∧ (N : Int) = n) ∨ (n = 2048 ∧ N = 2048) ∨ (2048 < n ∧ N = 2048) := by rw [hN]; unfold blankN; omega
  clear hN
  rcases hc with ⟨h1, h2⟩ | ⟨h1, h2⟩ | ⟨h1, h3, h2⟩ | ⟨h1, h2⟩ | ⟨h1, h2⟩
  case inr.inr.inl =>
    rw [h2] at hrun
    clear h2
    go_enter Tryz.func6, Tryz.ntmps6
    go_wp2
    go_ret
    exact ⟨_, F, rfl, HF.out.1, (HB.out.alloc (by rw [hs]; omega) _).alloc (by simp [hs]; omega) _, HF.out.2⟩
  all_goals
    subst h2
    try subst h1
    simp only [Int.cast_ofNat_Int] at hrun
    go_enter Tryz.func6, Tryz.ntmps6
    go_wp2
    go_ret
    exact ⟨_, F, rfl, HF.out.1, (HB.out.alloc (by rw [hs]; omega) _).alloc (by simp [hs]; omega) _, HF.out.2⟩
end Go.Proofs.YtdfbpaajkpnaeaaGreat

namespace Go.Proofs.YtdfbpaajkpnaeaaGreat
set_option maxRecDepth 100000
open Go.RowKit Go.Lib

theorem blkn {w : World} {o : Obj} {n : Nat} (h : n = w.heap.size) : (w.alloc o).heap[n]? = some o := by subst h; exact Go.heap_alloc_new w o
theorem blk_in {w : World} {o x : Obj} {i : Nat} (h : w.heap[i]? = some x) : (w.alloc o).heap[i]? = some x := by
  rw [Go.heap_alloc_old _ _ (lt_of_heap h)]; exact h
theorem setRow_new {w : World} {g : Nat} {cs ds : Array Value} {T : TypeId} (hg : g = w.heap.size) : (w.alloc (.cells cs T)).setRow g ds = w.alloc (.cells ds T) := by
  subst hg
  exact World.setRow_alloc_new w cs ds T
theorem below_setRow {B g : Nat} {a w : World} {cs : Array Value} (h : RowKit.Below B a w) (hg : B ≤ g) : RowKit.Below B a (w.setRow g cs) :=
  h.trans ⟨rfl, rfl, rfl, by simp, fun i hi => setRow_other w g i cs (by omega)⟩
/-- 64 bytes, as told -/
def sec (f : Nat → UInt8) : Sec := (List.range 64).map f
theorem sec_len (f : Nat → UInt8) : (sec f).length = 64 := by simp [sec]
theorem sec_get (f : Nat → UInt8) {i : Nat} (h : i < 64) : (sec f).getD i 0 = f i := by simp [sec, List.getD, h]
theorem sec_cell (f : Nat → UInt8) {i : Nat} (h : i < 64) : (bcells (sec f))[i]? = some (.int .u8 ((f i).toNat : Int)) := by
  rw [bcells_get (by rw [sec_len]; exact h), sec_get f h]
theorem sec_congr {f g : Nat → UInt8} (h : ∀ i, i < 64 → f i = g i) : sec f = sec g := by
  unfold sec
  exact List.map_congr_left fun i hi => h i (List.mem_range.1 hi)
theorem sec_of {s : Sec} (h : s.length = 64) : s = sec fun i => s.getD i 0 := by
  apply List.ext_getElem?
  intro i
  by_cases hi : i < 64
  · simp [sec, hi, List.getD, h]
  · rw [List.getElem?_eq_none (by omega), List.getElem?_eq_none (by rw [sec_len]; omega)]
theorem zsec_eq : zsec = sec fun _ => 0 := by decide
theorem sec_set {f g : Nat → UInt8} {k : Nat} (hk : k < 64) (h : ∀ i, i < 64 → i ≠ k → f i = g i) : (bcells (sec f)).toArray.setIfInBounds k (.int .u8 ((g k).toNat : Int)) = (bcells (sec g)).toArray := by
  apply Array.ext_getElem?
  intro i
  rw [Array.getElem?_setIfInBounds]
  have hs : ∀ f, (bcells (sec f)).toArray.size = 64 := fun f => by simp [cells_len _ (sec_len f)]
  by_cases hi : i < 64
  · by_cases e : k = i
    · subst e
      rw [if_pos rfl, if_pos (by rw [hs]; exact hk)]
      simp only [List.getElem?_toArray]
      rw [sec_cell g hk]
    · rw [if_neg e]
      simp only [List.getElem?_toArray]
      rw [sec_cell f hi, sec_cell g hi, h i hi (fun e2 => e e2.symm)]
  · rw [if_neg (by omega), Array.getElem?_eq_none (by rw [hs]; omega), Array.getElem?_eq_none (by rw [hs]; omega)]
/-- a step of a loop over the bytes of a sector: letters for what lies there -/
theorem sec_step {f g : Nat → UInt8} {k : Nat} (hk : k < 64) (h : ∀ i, i < 64 → i ≠ k → f i = g i) : ∃ c c' : List Value, c = bcells (sec f) ∧ c' = bcells (sec g) ∧ Cs 64 c ∧ Cs 64 c' ∧ c[k]? = some (.int .u8 ((f k).toNat : Int)) ∧ c.toArray.setIfInBounds k (.int .u8 ((g k).toNat : Int)) = c'.toArray :=
  ⟨_, _, rfl, rfl, cs_sec (sec_len f), cs_sec (sec_len g), sec_cell f hk, sec_set hk h⟩
def paint (c : UInt8) : Sec := sec fun i => c + UInt8.ofNat i
theorem paint_len (c : UInt8) : (paint c).length = 64 := sec_len _
theorem paint_byte (c : UInt8) (k : Nat) : IntKind.u8.wrap ((c.toNat : Int) + (k : Int)) = (((c + UInt8.ofNat k).toNat : Nat) : Int) := by
  rw [IntKind.wrap_u8]
  have e : (c + UInt8.ofNat k).toNat = (c.toNat + k) % 256 := by
    rw [UInt8.toNat_add, UInt8.toNat_ofNat']
    omega
  rw [e]
  omega
theorem byte_in {k : Nat} (h : k < 64) : IntKind.u8.wrap (k : Int) = (k : Int) := by rw [IntKind.wrap_u8]; omega
end Go.Proofs.YtdfbpaajkpnaeaaGreat
