
/- falseworklaw06.packAlive. The document's bytes: of a number, a text, a float. A drawn region, by hand: see Hld. What is put is taken; cut off, it fails. The document's reader: a number is taken. -/
import Derived.Test.YtdfbpaajkpnaeaaGreatPkAI
import Derived.Test.YtdfbpaajkpnaeaaGreatHld
import Derived.Deep.DeepCutAuto

namespace Go.Proofs.YtdfbpaajkpnaeaaGreat
set_option maxRecDepth 100000
open Go.RowKit Go.Lib

theorem uv300 : uvarint 300 = [172, 2] := by rw [uvarint_big (by omega), uvarint_small (by omega)]; decide
theorem uv1 : uvarint 1 = [1] := by rw [uvarint_small (by omega)]; decide
theorem enc300 : ([] : List UInt8) ++ encU [300] = [172, 2] := by simp [encU, uv300]
theorem encm1 : ([172, 2] : List UInt8) ++ encI [-1] = [172, 2, 1] := by
  have : foldN (-1) = 1 := by decide
  simp [encI, this, uv1]
theorem dec3 : dec [172, 2, 1] = some (300, 2) := by decide
theorem dec1 : dec [1] = some (1, 1) := by decide
theorem one_row {α : Type} (f : α → Value) (W : World) (x : α) (v : Value) (t : TypeId) (hv : v = f x) : RAt f (W.alloc (.cells #[v] t)) (some ⟨W.heap.size, 0, none⟩) [x] := by
  subst hv
  refine Or.inr ⟨W.heap.size, 0, rfl, by simp, fun i y hy => ?_⟩
  cases i with
  | zero => simp at hy; subst hy; simp
  | succ i => simp at hy
theorem Made.row {l : List UInt8} {w : World} {e : Ending} {w' : World} (h : Made l w e w') : ∃ a cap, e = .returned (.slice a l.length cap) ∧ BAt w' a l ∧ (a = none → l = []) ∧ RowKit.Below w.heap.size w w' ∧ l.length ≤ cap := by
  obtain ⟨v, rfl, ho, hb⟩ := h
  obtain ⟨a, cap, hv, h1, h2, _, h3, _⟩ := ho.row
  exact ⟨a, cap, by rw [hv], h1, fun e => List.eq_nil_of_length_eq_zero (by have := h3 e; omega), hb, h2⟩
theorem bl_trans {a b c : World} (h : RowKit.Below a.heap.size a b) (k : RowKit.Below b.heap.size b c) : RowKit.Below a.heap.size a c := h.trans (k.mono h.size)

end Go.Proofs.YtdfbpaajkpnaeaaGreat

namespace Go.Proofs.YtdfbpaajkpnaeaaGreat
set_option maxRecDepth 100000
open Go.RowKit Go.Lib

theorem big_byte {k : Int} (h0 : 0 ≤ k) : (128 + k % 128 : Int) = (((k.toNat % 128 + 128).toUInt8).toNat : Int) := by
  have e : ((k.toNat % 128 + 128).toUInt8).toNat = k.toNat % 128 + 128 := by simp [Nat.toUInt8]; omega
  rw [e]; omega
theorem small_byte {k : Int} (h0 : 0 ≤ k) (h1 : k < 128) : k = ((k.toNat.toUInt8).toNat : Int) := by
  have e : (k.toNat.toUInt8).toNat = k.toNat := by simp [Nat.toUInt8]; omega
  rw [e]; omega

set_option maxHeartbeats 800000 in
theorem refnum_any : ∀ (m : Nat) (n : Int) (w : World), n.toNat < m → 0 ≤ n → n < 18446744073709551616 → Calls Tryz.prog 35 #[.int .u64 n] w (Made (uvarint n.toNat) w)
  | 0, n, w, h, _, _ => absurd h (by omega)
  | m + 1, n, w, h, h0, h1 => by
    have IH := fun (W : World) (hlt : 128 ≤ n) => Lib.hid (refnum_any m (n / 128) W (by omega) (by omega) (by omega))
    by_cases hs : n < 128
    · have EU := Lib.hid (uvarint_small (x := n.toNat) (by omega))
      have HY := Lib.hid (small_byte h0 hs)
      clear IH h
      go_enter Tryz.func35, Tryz.ntmps35
      go_wp2
      go_ret
      refine ⟨_, rfl, ?_, (RowKit.Below.refl _ _).alloc (Nat.le_refl _) _⟩
      rw [EU.out]
      exact OB.lit1 (Nat.le_refl _) _ _ HY.out
    · have hb : 128 ≤ n := by omega
      have EU := Lib.hid (uvarint_big (x := n.toNat) (by omega))
      obtain ⟨y, hy⟩ : ∃ y : UInt8, y = (n.toNat % 128 + 128).toUInt8 := ⟨_, rfl⟩
      have HY := Lib.hid (show (128 + n % 128 : Int) = (y.toNat : Int) by rw [hy]; exact big_byte h0)
      have HYE := Lib.hid hy
      have UL := Lib.hid (uv_len h1)
      have IH := fun W => IH W hb
      rw [show (n / 128).toNat = n.toNat / 128 by omega] at IH
      generalize hU : uvarint (n.toNat / 128) = U at *
      have HUL := Lib.hid (show U.length ≤ 10 by have := UL.out; rw [EU.out, List.length_cons] at this; omega)
      clear hy h hU UL
      go_enter Tryz.func35, Tryz.ntmps35
      go_wp2_with fail
      refine (IH _).out.mono ?_
      rintro _ w1 h1'
      obtain ⟨a1, c1, rfl, hb1, hn1, hB1, _⟩ := h1'.row
      have HB1 := Lib.hid hb1
      have HN1 := Lib.hid hn1
      have HW1 := Lib.hid hB1
      clear h1' hb1 hn1 hB1 IH
      go_wp2_with (at_builtin; refine wpList_appB rfl _ _ rfl w.heap.size _ [y] U a1 _ U.length (by rfl) (by rfl) rfl ((OB.lit1 (Nat.le_refl _) y _ HY.out).below HW1.out) HB1.out HN1.out (by have := HUL.out; simp; omega) (by have := HW1.out.size; simp at this; omega) ?_; intro v3 w3 h3)
      have H3 := Lib.hid (show Made (uvarint n.toNat) w (.returned v3) w3 from ⟨v3, rfl, by rw [EU.out, ← HYE.out]; exact h3.1, h3.2.1.below ((OB.lit1 (Nat.le_refl _) y _ HY.out).below HW1.out) (by have := HW1.out.size; simp at this; omega) (((RowKit.Below.refl _ _).alloc (Nat.le_refl _) _).trans (HW1.out.mono (by simp)))⟩)
      clear h3
      go_wp2
      go_ret
      exact H3.out
theorem refnum (n : Int) (w : World) (h0 : 0 ≤ n) (h1 : n < 18446744073709551616) : Calls Tryz.prog 35 #[.int .u64 n] w (Made (uvarint n.toNat) w) := refnum_any (n.toNat + 1) n w (by omega) h0 h1

end Go.Proofs.YtdfbpaajkpnaeaaGreat



namespace Go.Proofs.YtdfbpaajkpnaeaaGreat
set_option maxRecDepth 100000
open Go.RowKit Go.Lib

theorem encI_cons (n : Int) (l : List Int) : encI (n :: l) = uvarint (foldN n) ++ encI l := by simp [encI]
theorem encT_cons (t : ByteArray) (l : List ByteArray) : encT (t :: l) = (uvarint t.size ++ t.data.toList) ++ encT l := by simp [encT]
theorem drop_get {α : Type} {l : List α} {k : Nat} {x : α} (h : l[k]? = some x) : l.drop k = x :: l.drop (k + 1) := by
  obtain ⟨hlt, e⟩ := List.getElem?_eq_some_iff.1 h
  rw [List.drop_eq_getElem_cons hlt, e]
theorem n_of {n : Nat} (h : n < 18446744073709551616) (r : List UInt8) : nV (uvarint n ++ r) = n ∧ nR (uvarint n ++ r) = r ∧ nO (uvarint n ++ r) = true := by
  have e := dec_of n r h
  simp only [nV, nR, nO, e]
  exact ⟨trivial, by rw [List.drop_left], trivial⟩
theorem t_of {t : List UInt8} (h : t.length ≤ 65536) (r : List UInt8) : tV ((uvarint t.length ++ t) ++ r) = t ∧ tR ((uvarint t.length ++ t) ++ r) = r ∧ tO ((uvarint t.length ++ t) ++ r) = true := by
  rw [List.append_assoc]
  obtain ⟨h1, h2, h3⟩ := n_of (show t.length < 18446744073709551616 by omega) (t ++ r)
  have c : nV (uvarint t.length ++ (t ++ r)) ≤ 65536 ∧ nV (uvarint t.length ++ (t ++ r)) ≤ 2147483648 := by rw [h1]; omega
  have s1 : sV (uvarint t.length ++ (t ++ r)) 65536 = t.length := by unfold sV; rw [if_pos c, h1]
  have s2 : sR (uvarint t.length ++ (t ++ r)) 65536 = t ++ r := by unfold sR; rw [if_pos c, h2]
  have s3 : sO (uvarint t.length ++ (t ++ r)) 65536 = true := by unfold sO; rw [h3]; simp [c]
  have s4 : t.length ≤ (t ++ r).length := by simp
  unfold tV tR tO tC
  rw [s1, s2, s3, if_pos s4, if_pos s4, List.take_left, List.drop_left]
  simp

/-- what is left is a beginning alone, or it has failed -/
def Pfx (cs : List UInt8) (f : Bool) (E : List UInt8) : Prop := (f = true ∧ cs = []) ∨ (f = false ∧ ∃ q, q ≠ [] ∧ E = cs ++ q)
theorem n_nil : nV [] = 0 ∧ nR [] = [] ∧ nO [] = false := by decide
theorem n_none {cs : List UInt8} (h : dec cs = none) : nV cs = 0 ∧ nR cs = [] ∧ nO cs = false := by simp only [nV, nR, nO, h]; exact ⟨trivial, trivial, trivial⟩
theorem pfx_num {n : Nat} (hn : n < 18446744073709551616) {cs R : List UInt8} (h : ∃ q, q ≠ [] ∧ uvarint n ++ R = cs ++ q) : dec cs = none ∨ ∃ c1 q, q ≠ [] ∧ cs = uvarint n ++ c1 ∧ R = c1 ++ q := by
  obtain ⟨q, hq, h⟩ := h
  rcases List.append_eq_append_iff.1 h with ⟨a', h1, h2⟩ | ⟨c', h1, h2⟩
  · exact Or.inr ⟨a', q, hq, h1, h2⟩
  · cases c' with
    | nil =>
      refine Or.inr ⟨[], q, hq, by simpa using h1.symm, by simpa using h2.symm⟩
    | cons x c' => exact Or.inl (dec_cut (by simpa using hn) h1 (by simp))
theorem pfx_int {n : Nat} (hn : n < 18446744073709551616) {cs R : List UInt8} {f : Bool} (h : Pfx cs f (uvarint n ++ R)) : Pfx (nR cs) (f || !nO cs) R := by
  rcases h with ⟨rfl, rfl⟩ | ⟨rfl, h⟩
  · left; exact ⟨by simp, n_nil.2.1⟩
  · rcases pfx_num hn h with e | ⟨c1, q, hq, rfl, rfl⟩
    · left; obtain ⟨_, h2, h3⟩ := n_none e; exact ⟨by rw [h3]; rfl, h2⟩
    · right
      obtain ⟨_, h2, h3⟩ := n_of hn c1
      exact ⟨by rw [h3]; rfl, q, hq, by rw [h2]⟩
theorem t_fail {cs : List UInt8} (h : nV cs = 0 ∧ nR cs = [] ∧ nO cs = false) : tR cs = [] ∧ tO cs = false := by
  obtain ⟨h1, h2, h3⟩ := h
  have c : nV cs ≤ 65536 ∧ nV cs ≤ 2147483648 := by rw [h1]; omega
  have s1 : sV cs 65536 = 0 := by unfold sV; rw [if_pos c, h1]
  have s2 : sR cs 65536 = [] := by unfold sR; rw [if_pos c, h2]
  have s3 : sO cs 65536 = false := by unfold sO; rw [h3]; rfl
  unfold tR tO
  rw [s1, s2, s3]
  exact ⟨by simp, rfl⟩
theorem pfx_text {t : List UInt8} (ht : t.length ≤ 65536) {cs R : List UInt8} {f : Bool} (h : Pfx cs f ((uvarint t.length ++ t) ++ R)) : Pfx (tR cs) (f || !tO cs) R := by
  rw [List.append_assoc] at h
  rcases h with ⟨rfl, rfl⟩ | ⟨rfl, h⟩
  · left; exact ⟨by simp, (t_fail n_nil).1⟩
  · rcases pfx_num (by omega) h with e | ⟨c1, q, hq, rfl, h2⟩
    · left; obtain ⟨h2, h3⟩ := t_fail (n_none e); exact ⟨by rw [h3]; rfl, h2⟩
    · obtain ⟨e1, e2, e3⟩ := n_of (show t.length < 18446744073709551616 by omega) c1
      have c : nV (uvarint t.length ++ c1) ≤ 65536 ∧ nV (uvarint t.length ++ c1) ≤ 2147483648 := by rw [e1]; omega
      have s1 : sV (uvarint t.length ++ c1) 65536 = t.length := by unfold sV; rw [if_pos c, e1]
      have s2 : sR (uvarint t.length ++ c1) 65536 = c1 := by unfold sR; rw [if_pos c, e2]
      have s3 : sO (uvarint t.length ++ c1) 65536 = true := by unfold sO; rw [e3]; simp [c]
      by_cases hc : t.length ≤ c1.length
      · right
        have e : ∃ c2, c1 = t ++ c2 ∧ R = c2 ++ q := by
          rcases List.append_eq_append_iff.1 h2 with ⟨a', h3, h4⟩ | ⟨c', h3, h4⟩
          · exact ⟨a', h3, h4⟩
          · have : c' = [] := List.eq_nil_of_length_eq_zero (by have := congrArg List.length h3; rw [List.length_append] at this; omega)
            subst this
            exact ⟨[], by simpa using h3.symm, by simpa using h4.symm⟩
        obtain ⟨c2, rfl, rfl⟩ := e
        unfold tR tO tC
        rw [s1, s2, s3, if_pos hc, List.drop_left]
        exact ⟨by simp, q, hq, rfl⟩
      · left
        unfold tR tO tC
        rw [s1, s2, s3, if_neg hc]
        exact ⟨by simp [hc], rfl⟩
theorem pfx_end {cs : List UInt8} {f : Bool} (h : Pfx cs f []) : f = true ∧ cs = [] := by
  rcases h with h | ⟨_, q, hq, h⟩
  · exact h
  · exact absurd (List.append_eq_nil_iff.1 h.symm).2 hq
theorem t_size (t : ByteArray) : t.data.toList.length = t.size := by simp

theorem tR_len (cs : List UInt8) : (tR cs).length ≤ cs.length := by
  unfold tR
  split
  · rw [List.length_drop]; have := sR_len cs 65536; omega
  · simp
/-- one item more, of what is cut off -/
def Step (base g : Nat) (R : List UInt8) (n : Nat) (w w' : World) : Prop := ∃ cs f, To base g cs f w w' ∧ Pfx cs f R ∧ cs.length ≤ n
theorem encI_len : ∀ l : List Int, (∀ x ∈ l, -9223372036854775808 ≤ x ∧ x ≤ 9223372036854775807) → (encI l).length ≤ 10 * l.length
  | [], _ => by simp [encI]
  | x :: l, h => by
    rw [encI_cons, List.length_append, List.length_cons]
    have := encI_len l fun y hy => h y (List.mem_cons_of_mem _ hy)
    have hx := h x (List.mem_cons_self ..)
    have := uvarint_length64 (foldN_lt hx.1 hx.2)
    omega
theorem encT_len : ∀ l : List ByteArray, (∀ t ∈ l, t.size ≤ 65536) → (encT l).length ≤ 65546 * l.length
  | [], _ => by simp [encT]
  | t :: l, h => by
    rw [encT_cons, List.length_append, List.length_append, List.length_cons, t_size]
    have := encT_len l fun y hy => h y (List.mem_cons_of_mem _ hy)
    have ht := h t (List.mem_cons_self ..)
    have := uvarint_length64 (show t.size < 18446744073709551616 by omega)
    omega
end Go.Proofs.YtdfbpaajkpnaeaaGreat

namespace Go.Proofs.YtdfbpaajkpnaeaaGreat
set_option maxRecDepth 100000
open Go.RowKit Go.Lib

/-- bytes that a reader of the document's has -/
def RV (w : World) (A : Option Addr) (cap : Nat) (bs : List UInt8) : Prop := BAt w A bs ∧ bs.length ≤ cap ∧ (A = none → bs = [])
theorem RV.below {w w' : World} {A : Option Addr} {cap : Nat} {bs : List UInt8} (h : RV w A cap bs) (hb : RowKit.Below w.heap.size w w') : RV w' A cap bs := ⟨h.1.below hb, h.2.1, h.2.2⟩
theorem RV.nil (w : World) : RV w none 0 [] := ⟨Or.inl rfl, Nat.le_refl _, fun _ => rfl⟩
theorem RV.drop {w : World} {A : Option Addr} {cap : Nat} {bs : List UInt8} (h : RV w A cap bs) {k : Nat} (hk : k ≤ bs.length) : RV w (cutA A cap k) (cap - k) (bs.drop k) := by
  refine ⟨h.1.drop hk h.2.1, by rw [List.length_drop]; have := h.2.1; omega, fun e => ?_⟩
  have : A = none := by
    unfold cutA at e
    split at e
    · exact e
    · cases A <;> simp at e; rfl
  rw [h.2.2 this]; simp

set_option maxHeartbeats 400000 in
theorem failed_any (w : World) : Calls Tryz.prog 71 #[] w fun e w' => e = .returned (.agg #[.slice none 0 0, .bool true]) ∧ RowKit.Below w.heap.size w w' := by
  go_enter Tryz.func71, Tryz.ntmps71
  go_wp2
  refine bodyPost_ret (v := .agg #[.slice none 0 0, .bool true]) (by simp [results, Tryz.results71, go_sem]) rfl ⟨rfl, ?_⟩
  exact (RowKit.Below.refl _ _).alloc (Nat.le_refl _) _

/-- it lies in the block of the other one -/
def Sub (A' A : Option Addr) : Prop := ∀ k, inBlk A' k → inBlk A k
theorem Sub.none (A : Option Addr) : Sub none A := fun k h => by obtain ⟨_, e, _⟩ := h; cases e
theorem Sub.trans {a b c : Option Addr} (h : Sub a b) (k : Sub b c) : Sub a c := fun x hx => k x (h x hx)
/-- where TakeNum's variables lie: what it was handed, and what it answers -/
def TB (w : World) (A : Option Addr) (n cap : Nat) (wr : World) : Prop :=
  wr.cell? ⟨w.heap.size, 0, none⟩ = some (.slice A n cap) ∧ wr.cell? ⟨w.heap.size + 1, 0, none⟩ = some (.slice none 0 0) ∧ wr.cell? ⟨w.heap.size + 1, 1, none⟩ = some (.bool false) ∧
    wr.frozen? ⟨w.heap.size + 1, 0, none⟩ = false ∧ wr.frozen? ⟨w.heap.size + 1, 1, none⟩ = false ∧ w.heap.size + 2 ≤ wr.heap.size ∧ RowKit.Below w.heap.size w wr
theorem TB.below {w wr wr' : World} {A : Option Addr} {n cap : Nat} (h : TB w A n cap wr) (hb : RowKit.Below wr.heap.size wr wr') : TB w A n cap wr' := by
  obtain ⟨h1, h2, h3, h4, h5, h6, h7⟩ := h
  refine ⟨by rw [hb.cell (p := ⟨w.heap.size, 0, none⟩) (by show w.heap.size < _; omega)]; exact h1, by rw [hb.cell (p := ⟨w.heap.size + 1, 0, none⟩) (by show w.heap.size + 1 < _; omega)]; exact h2, by rw [hb.cell (p := ⟨w.heap.size + 1, 1, none⟩) (by show w.heap.size + 1 < _; omega)]; exact h3,
    by rw [hb.frozen (p := ⟨w.heap.size + 1, 0, none⟩) (by show w.heap.size + 1 < _; omega)]; exact h4, by rw [hb.frozen (p := ⟨w.heap.size + 1, 1, none⟩) (by show w.heap.size + 1 < _; omega)]; exact h5, Nat.le_trans h6 hb.size, bl_trans h7 hb⟩
theorem TB.start (w : World) (A : Option Addr) (n cap : Nat) (f : Bool) : TB w A n cap ((w.alloc (.cells #[.slice A n cap, .bool f] 99)).alloc (.cells #[.slice none 0 0, .bool false] 99)) := by
  refine ⟨by simp [go_sem], ?_, ?_, ?_, ?_, by simp, ((RowKit.Below.refl _ _).alloc (Nat.le_refl _) _).alloc (by simp) _⟩
  all_goals
    have e : w.heap.size + 1 = (w.alloc (.cells #[.slice A n cap, .bool f] 99)).heap.size := by simp
    rw [e]
    simp [go_sem]
theorem valL_get {l : List UInt8} {i m : Nat} {x : UInt8} (h : l[i]? = some x) (hm : i < m) : valL ((l.take m).drop i) = (valL ((l.take m).drop (i + 1)) * 128 + x.toNat % 128) % 18446744073709551616 := by
  rw [drop_get (x := x) (by rw [List.getElem?_take_of_lt hm]; exact h), valL]
theorem wrap_step {acc : Int} {n xn : Nat} (h0 : 0 ≤ acc) (hn : acc.toNat = n) : IntKind.u64.wrap (IntKind.u64.wrap (acc * 128) + (xn : Int) % 128) = (((n * 128 + xn % 128) % 18446744073709551616 : Nat) : Int) := by
  rw [IntKind.wrap_u64, IntKind.wrap_u64, ← hn]
  omega
theorem take_no_more {bs : List UInt8} {k : Nat} {n : Nat} (h : ∀ v c, dec bs = some (v, c) → k < c) (hn : n = valL (bs.take (k + 1))) (hne : uvarint n ≠ bs.take (k + 1)) : ∀ v c, dec bs = some (v, c) → k + 1 < c := by
  intro v c hd
  have h1 := h v c hd
  rcases Nat.lt_or_ge (k + 1) c with h2 | h2
  · exact h2
  · exfalso
    have e : c = k + 1 := by omega
    subst e
    obtain ⟨e1, e2, e3⟩ := dec_some hd
    have e4 : bs.take (k + 1) = uvarint v := by
      conv => lhs; rw [e2]
      rw [← e1, List.take_left]
    apply hne
    rw [hn, e4, val_uv (by simpa using e3)]
theorem take_found {bs : List UInt8} {k n : Nat} (hn : n < 18446744073709551616) (he : uvarint n = bs.take (k + 1)) (hk : k < bs.length) : nV bs = n ∧ nR bs = bs.drop (k + 1) ∧ nO bs = true := by
  have := dec_take (by simpa using hn) he.symm (by omega)
  simp only [nV, nR, nO, this]
  exact ⟨trivial, trivial, trivial⟩
/-- what TakeNum answers -/
def TakenN (A0 : Option Addr) (bs : List UInt8) (w : World) (e : Ending) (w' : World) : Prop :=
  ∃ A cap, e = .returned (.tuple #[.agg #[.slice A (nR bs).length cap, .bool (!nO bs)], .int .u64 (nV bs : Int)]) ∧ RV w' A cap (nR bs) ∧ RowKit.Below w.heap.size w w' ∧ Sub A A0

set_option maxHeartbeats 1600000 in
set_option maxRecDepth 100000 in
theorem rtakenum (A : Option Addr) (cap : Nat) (bs : List UInt8) (f : Bool) (w : World) (h : RV w A cap bs) (hl : bs.length ≤ 400000) :
    Calls Tryz.prog 42 #[.agg #[.slice A bs.length cap, .bool f]] w (TakenN A bs w) := by
  have H := Lib.hid h
  have HT := Lib.hid (TB.start w A bs.length cap f)
  clear h
  go_enter Tryz.func42, Tryz.ntmps42
  go_wp2
  go_loopg [4] 11 (fun g c4 wr => ∃ k : Nat, c4 = .int .i64 ((k : Int) + 1) ∧ k ≤ 10 ∧ k ≤ bs.length ∧ Hid (g + k = 11) ∧ Hid (∀ v c, dec bs = some (v, c) → k < c) ∧ Hid (TB w A bs.length cap wr))
  case atStart => exact ⟨0, rfl, by omega, by omega, rfl, (fun v c h => (dec_le h).1), HT.out⟩
  case round =>
    obtain ⟨k, rfl, hk, hkl, HG, HD, HB⟩ := hrel
    obtain ⟨h1, h2, h3, h4, h5, h6, h7⟩ := HB.out
    have HV := Lib.hid (H.out.below h7)
    have H6 := Lib.hid h6
    clear h7 h6
    by_cases hc : k ≤ 9 ∧ k < bs.length
    · obtain ⟨hk9, hlt⟩ := hc
      obtain ⟨W1, rfl⟩ : ∃ W, W = wr := ⟨_, rfl⟩
      go_wp2
      go_loopg [5, 6] (k + 1) (fun g c5 c6 wr2 => ∃ (j : Nat) (acc : Int), c6 = .int .i64 ((j : Int) - 1) ∧ c5 = .int .u64 acc ∧ j ≤ k + 1 ∧ Hid (g = j) ∧ 0 ≤ acc ∧ acc < 18446744073709551616 ∧ Hid (acc.toNat = valL ((bs.take (k + 1)).drop j)) ∧ W1 = wr2)
      case atStart => exact ⟨k + 1, 0, by go_num, rfl, by omega, rfl, by omega, by omega, (show _ = _ by rw [List.drop_eq_nil_of_le (by rw [List.length_take]; omega)]; rfl), rfl⟩
      case round =>
        obtain ⟨j, acc, hc6, rfl, hj, HGJ, ha0, ha1, HAC, rfl⟩ := hrel
        by_cases hj0 : 1 ≤ j
        · obtain ⟨i, rfl⟩ : ∃ i, j = i + 1 := ⟨j - 1, by omega⟩
          rw [show ((i + 1 : Nat) : Int) - 1 = (i : Int) by omega] at hc6
          subst hc6
          have hib : i < bs.length := by omega
          obtain ⟨x, hx, _, _⟩ := get_lt hib
          have hcell : ∃ b off, A = some ⟨b, off, none⟩ ∧ W1.cell? ⟨b, off + i, none⟩ = some (.int .u8 (x.toNat : Int)) := by
            rcases HV.out.1 with e | ⟨b, off, ha, hlt', hc⟩
            · rw [e] at hib; simp at hib
            · refine ⟨b, off, ha, ?_⟩
              rw [hc i hib]
              simp [List.getD, hx]
          obtain ⟨b, off, rfl, hcell⟩ := hcell
          have hx256 := u8lt x
          have EB := Lib.hid (wrap_step (xn := x.toNat) ha0 HAC.out)
          have EV := Lib.hid (valL_get hx (show i < k + 1 by omega))
          obtain ⟨t, ht⟩ : ∃ t : Int, t = (((valL ((bs.take (k + 1)).drop (i + 1)) * 128 + x.toNat % 128) % 18446744073709551616 : Nat) : Int) := ⟨_, rfl⟩
          rw [← ht] at EB
          have HTT := Lib.hid (show t.toNat = valL ((bs.take (k + 1)).drop i) by rw [ht, Int.toNat_natCast, EV.out])
          have ht0 : 0 ≤ t := by omega
          have ht1 : t < 18446744073709551616 := by have := valL_lt ((bs.take (k + 1)).drop i); have := HTT.out; omega
          clear ht hx
          go_upto_region 7 with (fail)
          rw [EB.out]
          go_wp2
          go_roundg i
          case measure => have := HGJ.out; omega
          case rel => exact ⟨i, t, by go_num, rfl, by omega, rfl, ht0, ht1, HTT.out, rfl⟩
        · obtain rfl : j = 0 := by omega
          rw [show ((0 : Nat) : Int) - 1 = -1 by omega] at hc6
          subst hc6
          have HAC2 := Lib.hid (show acc.toNat = valL (bs.take (k + 1)) by have := HAC.out; rw [List.drop_zero] at this; exact this)
          obtain ⟨C, hC⟩ : ∃ C, C = bs.take (k + 1) := ⟨_, rfl⟩
          have HCL := Lib.hid (show C.length = k + 1 by rw [hC, List.length_take]; omega)
          have HCB := Lib.hid (show BAt W1 A C by rw [hC]; exact HV.out.1.take (k + 1))
          have hcapk : k + 1 ≤ cap := by have := HV.out.2.1; omega
          have rt : ∀ W : World, (Instr.slice 23 (.slice A bs.length cap) none (some (.int .i64 ((k : Int) + 1))) none).run Tryz.prog W = .ok (.slice A (k + 1) cap) W := fun W => by
            have := run_to A bs.length cap (k + 1) hcapk W
            rwa [show ((k + 1 : Nat) : Int) = (k : Int) + 1 by omega] at this
          have rf : ∀ W : World, (Instr.slice 23 (.slice A bs.length cap) (some (.int .i64 ((k : Int) + 1))) none none).run Tryz.prog W = .ok (.slice (cutA A cap (k + 1)) (bs.length - (k + 1)) (cap - (k + 1))) W := fun W => by
            have := run_from A bs.length cap (k + 1) (by omega) W
            rwa [show ((k + 1 : Nat) : Int) = (k : Int) + 1 by omega] at this
          have hcb : ∀ W : World, RowKit.Below W1.heap.size W1 W → W.cell? ⟨w.heap.size, 0, none⟩ = some (.slice A bs.length cap) := fun W hW => (HB.out.below hW).1
          have HFAR := Lib.hid (show ∀ (W : World) (l : List UInt8), BAt W A bs → (l = [] ∨ ∀ g, some (w.heap.size + 1) = some g → ¬ inBlk (cutA A cap (k + 1)) g) from fun W l _ => Or.inr (by
            intro g e hin
            injection e with e
            subst e
            obtain ⟨p, hp, hq⟩ := cutA_blk hin
            rcases H.out.1 with e | ⟨b, off, ha, hlt', _⟩
            · rw [e] at hlt; simp at hlt
            · rw [ha] at hp; injection hp with hp; rw [← hp] at hq; have : b = w.heap.size + 1 := hq; omega))
          have RN := fun W => Lib.hid (refnum acc W ha0 ha1)
          clear h1 h2 h3 h4 h5 HAC
          by_cases hUC : uvarint acc.toNat = C
          · have HF := Lib.hid (take_found (by omega) (hUC.trans hC) hlt)
            rw [hUC] at RN
            clear hC hUC
            go_wp2_with fail
            refine wp_region_held_drew (S := fun W => RowKit.Below W1.heap.size W1 W) (by kernel_rfl) ?_ (fun hHeld => ?_)
            · exact (RowKit.Below.refl _ _).drew
            refine held_take 0 (v := ?_) rfl (by kernel_rfl) (by kernel_rfl) (by kernel_rfl) (fun _ _ _ h => h) hHeld (by rfl) ?_ ?_
            rotate_left
            · (intro W hW; go_simp; try with_reducible rfl)
            try simp only [Act.put, List.setIfInBounds_toArray, List.set_cons_zero, List.set_cons_succ]
            refine held_take 3 (v := ?_) rfl (by kernel_rfl) (by kernel_rfl) (by kernel_rfl) (fun _ _ _ h => h) hHeld (by rfl) ?_ ?_
            rotate_left
            · (intro W hW; go_simp; try with_reducible rfl)
            try simp only [Act.put, List.setIfInBounds_toArray, List.set_cons_zero, List.set_cons_succ]
            refine held_take 4 (v := ?_) rfl (by kernel_rfl) (by kernel_rfl) (by kernel_rfl) (fun _ _ _ h => h) hHeld (by rfl) ?_ ?_
            rotate_left
            · (intro W hW; have e := hcb W hW; go_simp; try with_reducible rfl)
            try simp only [Act.put, List.setIfInBounds_toArray, List.set_cons_zero, List.set_cons_succ]
            refine held_take 5 (v := ?_) rfl (by kernel_rfl) (by kernel_rfl) (by kernel_rfl) (fun _ _ _ h => h) hHeld (by rfl) ?_ ?_
            rotate_left
            · (intro W hW; go_simp; try with_reducible rfl)
            try simp only [Act.put, List.setIfInBounds_toArray, List.set_cons_zero, List.set_cons_succ]
            refine held_take 6 (v := ?_) rfl (by kernel_rfl) (by kernel_rfl) (by kernel_rfl) (fun _ _ _ h => h) hHeld (by rfl) ?_ ?_
            rotate_left
            · (intro W hW; go_simp; try with_reducible rfl)
            try simp only [Act.put, List.setIfInBounds_toArray, List.set_cons_zero, List.set_cons_succ]
            refine held_take 7 (v := ?_) rfl (by kernel_rfl) (by kernel_rfl) (by kernel_rfl) (fun _ _ _ h => h) hHeld (by rfl) ?_ ?_
            rotate_left
            · (intro W hW; have e := run_conv (HCB.out.below hW) (k + 1) cap HCL.out; go_simp; try with_reducible rfl)
            try simp only [Act.put, List.setIfInBounds_toArray, List.set_cons_zero, List.set_cons_succ]
            refine held_next 1 rfl (by kernel_rfl) (by rfl) (fun K hK => ?_)
            go_simp
            go_at_call 35
            refine (RN _).out.mono ?_
            rintro _ w4 h4
            obtain ⟨a4, c4, rfl, hb4, _, hB4, _⟩ := h4.row
            have HB4 := Lib.hid hb4
            have HX4 := Lib.hid (bl_trans (RowKit.Below.refl W1.heap.size W1).drew hB4)
            clear h4 hb4 hB4
            refine hK.out _ _ HX4.out (fun hHeld => ?_)
            clear hK K hHeld
            try simp only [Act.put, List.setIfInBounds_toArray, List.set_cons_zero, List.set_cons_succ]
            refine held_since HX4.out (fun hHeld => ?_)
            refine held_take 2 (v := ?_) rfl (by kernel_rfl) (by kernel_rfl) (by kernel_rfl) (fun _ _ _ h => h) hHeld (by rfl) ?_ ?_
            rotate_left
            · (intro W hW; have e := run_conv (HB4.out.below hW) _ c4 rfl; go_simp; try with_reducible rfl)
            try simp only [Act.put, List.setIfInBounds_toArray, List.set_cons_zero, List.set_cons_succ]
            refine held_take 8 (v := ?_) rfl (by kernel_rfl) (by kernel_rfl) (by kernel_rfl) (fun _ _ _ h => h) hHeld (by rfl) ?_ ?_
            rotate_left
            · (intro W hW; go_simp; try with_reducible rfl)
            try simp only [Act.put, List.setIfInBounds_toArray, List.set_cons_zero, List.set_cons_succ]
            refine wpAnyH_done (by kernel_rfl) ?_ _
            go_simp
            obtain ⟨g1, g2, g3, g4, g5, g6, g7⟩ := HB.out.below HX4.out
            have HW4 := Lib.hid g7
            have HV4 := Lib.hid (H.out.below g7)
            clear g7
            go_wp2
            refine bodyPost_ret (v := .tuple #[.agg #[.slice (cutA A cap (k + 1)) (bs.length - (k + 1)) (cap - (k + 1)), .bool false], .int .u64 acc]) (by simp [results, Tryz.results42, go_sem, g2, g3]) rfl ?_
            refine ⟨cutA A cap (k + 1), cap - (k + 1), ?_, ?_, ?_, fun _ h => cutA_blk h⟩
            · rw [HF.out.1, HF.out.2.1, HF.out.2.2, List.length_drop, Int.toNat_of_nonneg ha0]; rfl
            · rw [HF.out.2.1]
              obtain ⟨x1, x2, x3⟩ := HV4.out.drop (k := k + 1) (by omega)
              refine ⟨?_, x2, x3⟩
              exact (x1.grown (grown_set _ _ 0 _) (HFAR.out w4 _ HV4.out.1)).grown (grown_set _ _ 1 _) (HFAR.out w4 _ HV4.out.1)
            · exact RowKit.Below.setCell (RowKit.Below.setCell HW4.out (by show w.heap.size ≤ w.heap.size + 1; omega) _) (by show w.heap.size ≤ w.heap.size + 1; omega) _
          · have HNM := Lib.hid (take_no_more HD.out HAC2.out (by rw [← hC]; exact hUC))
            have hne := str_ne hUC
            generalize uvarint acc.toNat = U at *
            clear hC hUC
            go_wp2_with fail
            refine wp_region_held_drew (S := fun W => RowKit.Below W1.heap.size W1 W) (by kernel_rfl) ?_ (fun hHeld => ?_)
            · exact (RowKit.Below.refl _ _).drew
            refine held_take 0 (v := ?_) rfl (by kernel_rfl) (by kernel_rfl) (by kernel_rfl) (fun _ _ _ h => h) hHeld (by rfl) ?_ ?_
            rotate_left
            · (intro W hW; go_simp; try with_reducible rfl)
            try simp only [Act.put, List.setIfInBounds_toArray, List.set_cons_zero, List.set_cons_succ]
            refine held_take 3 (v := ?_) rfl (by kernel_rfl) (by kernel_rfl) (by kernel_rfl) (fun _ _ _ h => h) hHeld (by rfl) ?_ ?_
            rotate_left
            · (intro W hW; go_simp; try with_reducible rfl)
            try simp only [Act.put, List.setIfInBounds_toArray, List.set_cons_zero, List.set_cons_succ]
            refine held_take 4 (v := ?_) rfl (by kernel_rfl) (by kernel_rfl) (by kernel_rfl) (fun _ _ _ h => h) hHeld (by rfl) ?_ ?_
            rotate_left
            · (intro W hW; have e := hcb W hW; go_simp; try with_reducible rfl)
            try simp only [Act.put, List.setIfInBounds_toArray, List.set_cons_zero, List.set_cons_succ]
            refine held_take 5 (v := ?_) rfl (by kernel_rfl) (by kernel_rfl) (by kernel_rfl) (fun _ _ _ h => h) hHeld (by rfl) ?_ ?_
            rotate_left
            · (intro W hW; go_simp; try with_reducible rfl)
            try simp only [Act.put, List.setIfInBounds_toArray, List.set_cons_zero, List.set_cons_succ]
            refine held_take 6 (v := ?_) rfl (by kernel_rfl) (by kernel_rfl) (by kernel_rfl) (fun _ _ _ h => h) hHeld (by rfl) ?_ ?_
            rotate_left
            · (intro W hW; go_simp; try with_reducible rfl)
            try simp only [Act.put, List.setIfInBounds_toArray, List.set_cons_zero, List.set_cons_succ]
            refine held_take 7 (v := ?_) rfl (by kernel_rfl) (by kernel_rfl) (by kernel_rfl) (fun _ _ _ h => h) hHeld (by rfl) ?_ ?_
            rotate_left
            · (intro W hW; have e := run_conv (HCB.out.below hW) (k + 1) cap HCL.out; go_simp; try with_reducible rfl)
            try simp only [Act.put, List.setIfInBounds_toArray, List.set_cons_zero, List.set_cons_succ]
            refine held_next 1 rfl (by kernel_rfl) (by rfl) (fun K hK => ?_)
            go_simp
            go_at_call 35
            refine (RN _).out.mono ?_
            rintro _ w4 h4
            obtain ⟨a4, c4, rfl, hb4, _, hB4, _⟩ := h4.row
            have HB4 := Lib.hid hb4
            have HX4 := Lib.hid (bl_trans (RowKit.Below.refl W1.heap.size W1).drew hB4)
            clear h4 hb4 hB4
            refine hK.out _ _ HX4.out (fun hHeld => ?_)
            clear hK K hHeld
            try simp only [Act.put, List.setIfInBounds_toArray, List.set_cons_zero, List.set_cons_succ]
            refine held_since HX4.out (fun hHeld => ?_)
            refine held_take 2 (v := ?_) rfl (by kernel_rfl) (by kernel_rfl) (by kernel_rfl) (fun _ _ _ h => h) hHeld (by rfl) ?_ ?_
            rotate_left
            · (intro W hW; have e := run_conv (HB4.out.below hW) _ c4 rfl; go_simp; try with_reducible rfl)
            try simp only [Act.put, List.setIfInBounds_toArray, List.set_cons_zero, List.set_cons_succ]
            refine held_take 8 (v := ?_) rfl (by kernel_rfl) (by kernel_rfl) (by kernel_rfl) (fun _ _ _ h => h) hHeld (by rfl) ?_ ?_
            rotate_left
            · (intro W hW; go_simp; try with_reducible rfl)
            try simp only [Act.put, List.setIfInBounds_toArray, List.set_cons_zero, List.set_cons_succ]
            refine wpAnyH_done (by kernel_rfl) ?_ _
            go_simp
            have HB2 := Lib.hid (HB.out.below HX4.out)
            go_wp2
            go_roundg (10 - k)
            case measure => have := HG.out; omega
            case rel => exact ⟨k + 1, by go_num, by omega, by omega, (show _ = _ by omega), HNM.out, HB2.out⟩
    · have HN := Lib.hid (show dec bs = none by
        cases e : dec bs with
        | none => rfl
        | some r =>
          obtain ⟨v, c⟩ := r
          have := HD.out v c e
          have := dec_le e
          have h10 : c ≤ 10 := by
            obtain ⟨q1, _, q3⟩ := dec_some e
            rw [← q1]; exact uvarint_length64 (by simpa using q3)
          omega)
      obtain ⟨n1, n2, n3⟩ := n_none HN.out
      have HR := Lib.hid (And.intro n1 (And.intro n2 n3))
      clear n1 n2 n3
      have fin : ∀ w5 : World, RowKit.Below wr.heap.size wr w5 → Hid (w5.cell? ⟨w.heap.size + 1, 0, none⟩ = some (.slice none 0 0) ∧ w5.cell? ⟨w.heap.size + 1, 1, none⟩ = some (.bool false) ∧ w5.frozen? ⟨w.heap.size + 1, 0, none⟩ = false ∧ w5.frozen? ⟨w.heap.size + 1, 1, none⟩ = false ∧ RowKit.Below w.heap.size w w5) := fun w5 hb => by
        obtain ⟨_, g2, g3, g4, g5, _, g7⟩ := HB.out.below hb
        exact Lib.hid ⟨g2, g3, g4, g5, g7⟩
      have hk' : (10 ≤ k) ∨ (k ≤ 9 ∧ bs.length ≤ k) := by omega
      clear hc h2 h3 h4 h5
      rcases hk' with hk' | ⟨hk', hk''⟩
      all_goals
        go_wp2_with fail
        refine (failed_any _).mono ?_
        rintro _ w5 ⟨rfl, hb5⟩
        obtain ⟨g2, g3, g4, g5, g7⟩ := (fin w5 hb5).out
        have HW5 := Lib.hid g7
        clear g7 hb5 fin
        go_wp2
        refine bodyPost_ret (v := .tuple #[.agg #[.slice none 0 0, .bool true], .int .u64 0]) (by simp [results, Tryz.results42, go_sem, g2, g3]) rfl ?_
        refine ⟨none, 0, ?_, ?_, ?_, Sub.none _⟩
        · rw [HR.out.1, HR.out.2.1, HR.out.2.2]; rfl
        · rw [HR.out.2.1]; exact RV.nil _
        · exact RowKit.Below.setCell (RowKit.Below.setCell HW5.out (by show w.heap.size ≤ w.heap.size + 1; omega) _) (by show w.heap.size ≤ w.heap.size + 1; omega) _
end Go.Proofs.YtdfbpaajkpnaeaaGreat
