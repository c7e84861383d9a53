
/- Texts of one's own beside a log; records that came in. -/
import Derived.Test.YtdfbpaajkpnaeaaGreatLgEG
import Derived.Test.YtdfbpaajkpnaeaaGreatSmLS
namespace Go.Proofs.YtdfbpaajkpnaeaaGreat
set_option maxRecDepth 100000
open Go.ChangeShapes Go.WideShapes Go.ChangeAt Go.RowKit Go.Lib

/-- texts of one's own beside a log and its disk -/
structure OD (w0 w : World) (F : Nat → Prop) (b : Nat) (v : Value) (K : List (List UInt8)) : Prop where
  ow : Own w w0.heap.size v K
  fr : ∀ i, v.ownBlock = some i → ¬ F i ∧ i ≠ b
theorem OD.below {w0 w w' : World} {F : Nat → Prop} {b : Nat} {v : Value} {K : List (List UInt8)} (h : OD w0 w F b v K) (hb : RowKit.Below w.heap.size w w') : OD w0 w' F b v K := ⟨h.ow.below hb, h.fr⟩
theorem OD.only {w0 w w' : World} {F F' : Nat → Prop} {b : Nat} {v : Value} {K : List (List UInt8)} (h : OD w0 w F b v K) (ho : Only (fun i => F i ∨ i = b) w w') (hf : ∀ i, F' i → F i ∨ w.heap.size ≤ i) : OD w0 w' F' b v K :=
  ⟨h.ow.same fun i hi => ho.block i (World.ownsRow.lt h.ow i hi).2 fun e => e.elim (h.fr i hi).1 (h.fr i hi).2, fun i hi => ⟨fun e => (hf i e).elim (h.fr i hi).1 fun e => by have := (World.ownsRow.lt h.ow i hi).2; omega, (h.fr i hi).2⟩⟩
theorem OD.form {w0 w : World} {F : Nat → Prop} {b : Nat} {v : Value} {K : List (List UInt8)} (h : OD w0 w F b v K) : ∃ a c, v = .slice a K.length c := by
  obtain ⟨a, c, hv, _⟩ := own_rat h.ow
  exact ⟨a, c, hv⟩
/-- one text more -/
theorem OD.app {w0 w w' : World} {F : Nat → Prop} {g b : Nat} {d : Dk} {x z : Int} {n : Nat} {v v' : Value} {K : List (List UInt8)} {l : List UInt8} (h : OD w0 w F b v K) (hl : LW w0 w F g b d x z n)
    (ha : Appd (w.alloc (.cells #[sv l] 9)) w0.heap.size 9 1 v (K.length + 1) (K.map sv ++ [sv l]) v' w') : OD w0 w' F b v' (K ++ [l]) ∧ LW w0 w' F g b d x z n := by
  obtain ⟨ho, hg, hv⟩ := ha
  have hsz : w.heap.size ≤ w'.heap.size := Nat.le_trans (by simp) hg.size
  have hblk : ∀ i, i < w.heap.size → v.ownBlock ≠ some i → w'.heap[i]? = w.heap[i]? := fun i hi hn => (hg.block i (by simp; omega) (fun e => hn e.symm)).trans (((RowKit.Below.refl w.heap.size w).alloc (Nat.le_refl _) _).block i hi)
  refine ⟨⟨?_, fun i hi => ?_⟩, ⟨⟨hl.dw.dt.same hsz fun i hi => hblk i (hl.dw.dt.fl i hi) fun e => (h.fr i e).1 hi, hl.dw.fr, ?_⟩, hl.lg.same (hblk b hl.lg.lt fun e => (h.fr b e).2 rfl), hl.nf, hl.lb⟩⟩
  · unfold Own
    rw [List.length_append, List.map_append]
    exact ho
  · rcases hv with e | e
    · exact h.fr i (e ▸ hi)
    · rw [e] at hi
      injection hi with hi
      simp at hi
      exact ⟨fun e2 => by have := hl.dw.dt.fl i e2; omega, fun e2 => by have := hl.lg.lt; omega⟩
  · exact (hl.dw.bl.alloc hl.dw.bl.size _).grown hg (Nat.le_trans hl.dw.bl.size (by simp)) fun i hi => (World.ownsRow.lt h.ow i hi).1
theorem own_start (w0 w : World) (hs : w0.heap.size ≤ w.heap.size) : Own (w.alloc (.cells #[] 9)) w0.heap.size (.slice (some ⟨w.heap.size, 0, none⟩) 0 0) [] := by
  have := World.ownsRow_lit (base := w0.heap.size) (e := 9) (size := 1) w #[] 0 hs (by unfold maxLen; omega) (by simp)
  unfold Own
  simpa using this
theorem appd_form {w : World} {base : Nat} {e : TypeId} {v : Value} {k : Nat} {xs : List Value} {v' : Value} {w' : World} (h : Appd w base e 1 v k xs v' w') : ∃ a c, v' = .slice a k c := by
  obtain ⟨a, c, hv, _⟩ := ow_lie h.1
  exact ⟨a, c, hv⟩
/-- a guarded append -/
theorem wpList_appG {t e : TypeId} {size bytes : Nat} (E : El t e size bytes) {ops : Array Oper} {rest : List Oper} {o : Oper} {a : Act} {w : World} {Q : Exit → Act → World → Prop} (hw : Region.wanted o (yielded ops a.tmps) = true) (s x : Operand)
    (ho : o.op = .call { callee := .builtin .append, args := #[s, x], argTypes := #[t, t] }) (base : Nat) (v : Value) (n : Nat) (xs : List Value) (ad : Option Addr) (m c : Nat) (news : List Value) (hs : a.eval s = v) (hx : a.eval x = .slice ad m c)
    (hown : w.ownsRow base e size v n xs) (hl : news.length = m * size) (hr : Lie w ad news) (hnil : ad = none → m = 0) (h1 : ∀ u ∈ news, u.oneCell' = true) (hlen : n + m ≤ 1000000) (hby : bytes ≤ 100) (hb : base ≤ w.heap.size)
    (h : ∀ v' w', Appd w base e size v (n + m) (xs ++ news) v' w' → wpList Tryz.prog ops Q rest (a.put o.dst v') w') : wpList Tryz.prog ops Q (o :: rest) a w :=
  wpList_wanted hw fun _ hK => wp_appO E s x ho base v n xs ad m c news hs hx hown hl hr hnil h1 hlen hby hb fun v' w' h2 => hK _ _ (h v' w' h2)
/-! records that came in -/
structure Bs where
  a : Option Addr
  n : Nat
  c : Nat
  bs : List UInt8
instance : Inhabited Bs := ⟨⟨none, 0, 0, []⟩⟩
def bsc (x : Bs) : List Value := [.slice x.a x.n x.c]
structure CameBs (w : World) (a : Option Addr) (len : Nat) (l : List Bs) : Prop where
  li : Lie w a (l.flatMap bsc)
  ln : l.length = len
  gd : ∀ x ∈ l, CameB w x.a x.n x.c x.bs
theorem CameB.below {w w' : World} {a : Option Addr} {n c : Nat} {l : List UInt8} (h : CameB w a n c l) (hb : RowKit.Below w.heap.size w w') : CameB w' a n c l := ⟨h.row.below hb, h.ln, h.cp, h.max, h.nil⟩
theorem CameBs.below {w w' : World} {a : Option Addr} {len : Nat} {l : List Bs} (h : CameBs w a len l) (hb : RowKit.Below w.heap.size w w') : CameBs w' a len l := ⟨h.li.below hb, h.ln, fun x hx => (h.gd x hx).below hb⟩
theorem CameBs.get {w : World} {a : Option Addr} {len : Nat} {l : List Bs} (h : CameBs w a len l) {k : Nat} {x : Bs} (hx : l[k]? = some x) : ∃ b off, a = some ⟨b, off, none⟩ ∧ w.cell? ⟨b, off + k, none⟩ = some (.slice x.a x.n x.c) := by
  obtain ⟨b, off, ha, _, hr⟩ := h.li.get (f := bsc) (n := 1) (fun _ _ => rfl) (by decide) hx
  exact ⟨b, off, ha, by have := hr 0 _ rfl; rwa [Nat.mul_one] at this⟩
section
variable {H : Type} {enc : TypeId × Value → H} {w : World} {base : Nat} {held : Bool}
theorem bss_came {a : Option Addr} {len cap : Nat} {x : DataW H} {p : List MemPlace} (h : DataW.Trod enc Tryz.prog w base (fun _ => true) held 52 (.slice a len cap) x p) : ∃ l : List Bs, CameBs w a len l := by
  obtain ⟨fuel, hf⟩ := h
  have c1 : Tryz.prog.cellsOf 23 = 1 := by kernel_rfl
  rcases Deep.open_slice Tryz.underlying52 hf with ⟨hcs, _⟩ | ⟨ad, l, c, m, n, D, Pl, hcs, _, hl, hm, hmm, _, hx⟩
  · simp [Value.cells] at hcs
    obtain ⟨rfl, rfl, rfl⟩ := hcs
    exact ⟨[], Or.inl rfl, rfl, by simp⟩
  · simp [Value.cells] at hcs
    obtain ⟨rfl, rfl, rfl⟩ := hcs
    have hmc : m = cap := by simpa using hmm
    rw [c1] at hx
    have each : ∀ i, i < len → ∃ q : Bs, w.cells? base (ad.add (i * 1)) 1 = some (bsc q) ∧ CameB w q.a q.n q.c q.bs := by
      intro i hi
      obtain ⟨cs', h1, h2⟩ := hx i (by omega)
      obtain ⟨hlen, _, _⟩ := World.cells?_some h1
      match cs', hlen with
      | [v], _ =>
        obtain ⟨a', n', c', rfl⟩ := trod_slice_form Tryz.underlying23 h2
        obtain ⟨bl, hbl⟩ := bytes_came ⟨_, h2⟩
        exact ⟨⟨a', n', c', bl⟩, h1, hbl⟩
    obtain ⟨q, hq⟩ := Deep.choose_lt each
    refine ⟨(List.range len).map q, ?_, by simp, fun x hx => ?_⟩
    · by_cases h0 : len = 0
      · left; subst h0; rfl
      · right
        have c0 := (hq 0 (by omega)).1
        obtain ⟨_, _, k0⟩ := World.cells?_some c0
        have hc := k0 0 (by omega)
        obtain ⟨b, off, spot⟩ := ad
        have hspot : spot = none := by simpa [Addr.add] using World.cell?_spot hc
        subst hspot
        have hb : b < w.heap.size := by
          have := World.block_lt_of_cell? w _ hc
          simpa [Addr.add] using this
        refine ⟨b, off, rfl, hb, fun j v hv => ?_⟩
        have hjl : j < ((List.range len).map q).length * 1 := by
          have e := flat_len (f := bsc) (n := 1) (l := (List.range len).map q) (fun _ _ => rfl)
          rw [← e]; exact (List.getElem?_eq_some_iff.1 hv).1
        simp only [List.length_map, List.length_range] at hjl
        obtain ⟨_, _, kj⟩ := World.cells?_some (hq j (by omega)).1
        have e2 := kj 0 (by omega)
        have e3 := flat_mid (f := bsc) (n := 1) (l := (List.range len).map q) (i := j) (x := q j) (fun _ _ => rfl) (by rw [List.getElem?_map, List.getElem?_range (by omega)]; rfl) 0 _ rfl
        rw [show j * 1 + 0 = j by omega] at e3
        rw [e3] at hv
        injection hv with hv
        rw [Addr.add_mid, Addr.add_mid] at e2
        rw [← hv]
        have : w.cell? ⟨b, off + j * 1 + 0, none⟩ = some (Value.slice (q j).a (q j).n (q j).c) := e2
        rw [show off + j * 1 + 0 = off + j by omega] at this
        exact this
    · obtain ⟨i, hi, rfl⟩ := List.mem_map.1 hx
      exact (hq i (List.mem_range.1 hi)).2
end
end Go.Proofs.YtdfbpaajkpnaeaaGreat
