/- What is put is taken; cut off, it fails. -/
import Derived.Test.YtcahmijcfmakjaaPkL
namespace Go.Proofs.Ytcahmijcfmakjaa
open Go.RowKit Go.Lib

theorem encI_cons (n : Int) (l : List Int) : encI (n :: l) = uvarint (foldN n) ++ encI l := by simp [encI]
theorem encT_cons (t : ByteArray) (l : List ByteArray) : encT (t :: l) = (uvarint t.size ++ t.data.toList) ++ encT l := by simp [encT]
theorem drop_get {α : Type} {l : List α} {k : Nat} {x : α} (h : l[k]? = some x) : l.drop k = x :: l.drop (k + 1) := by
  obtain ⟨hlt, e⟩ := List.getElem?_eq_some_iff.1 h
  rw [List.drop_eq_getElem_cons hlt, e]
theorem n_of {n : Nat} (h : n < 18446744073709551616) (r : List UInt8) : nV (uvarint n ++ r) = n ∧ nR (uvarint n ++ r) = r ∧ nO (uvarint n ++ r) = true := by
  have e := dec_of n r h
  simp only [nV, nR, nO, e]
  exact ⟨trivial, by rw [List.drop_left], trivial⟩
theorem t_of {t : List UInt8} (h : t.length ≤ 65536) (r : List UInt8) : tV ((uvarint t.length ++ t) ++ r) = t ∧ tR ((uvarint t.length ++ t) ++ r) = r ∧ tO ((uvarint t.length ++ t) ++ r) = true := by
  rw [List.append_assoc]
  obtain ⟨h1, h2, h3⟩ := n_of (show t.length < 18446744073709551616 by omega) (t ++ r)
  have c : nV (uvarint t.length ++ (t ++ r)) ≤ 65536 ∧ nV (uvarint t.length ++ (t ++ r)) ≤ 2147483648 := by rw [h1]; omega
  have s1 : sV (uvarint t.length ++ (t ++ r)) 65536 = t.length := by unfold sV; rw [if_pos c, h1]
  have s2 : sR (uvarint t.length ++ (t ++ r)) 65536 = t ++ r := by unfold sR; rw [if_pos c, h2]
  have s3 : sO (uvarint t.length ++ (t ++ r)) 65536 = true := by unfold sO; rw [h3]; simp [c]
  have s4 : t.length ≤ (t ++ r).length := by simp
  unfold tV tR tO tC
  rw [s1, s2, s3, if_pos s4, if_pos s4, List.take_left, List.drop_left]
  simp

/-- what is left is a beginning alone, or it has failed -/
def Pfx (cs : List UInt8) (f : Bool) (E : List UInt8) : Prop := (f = true ∧ cs = []) ∨ (f = false ∧ ∃ q, q ≠ [] ∧ E = cs ++ q)
theorem n_nil : nV [] = 0 ∧ nR [] = [] ∧ nO [] = false := by decide
theorem n_none {cs : List UInt8} (h : dec cs = none) : nV cs = 0 ∧ nR cs = [] ∧ nO cs = false := by simp only [nV, nR, nO, h]; exact ⟨trivial, trivial, trivial⟩
theorem pfx_num {n : Nat} (hn : n < 18446744073709551616) {cs R : List UInt8} (h : ∃ q, q ≠ [] ∧ uvarint n ++ R = cs ++ q) : dec cs = none ∨ ∃ c1 q, q ≠ [] ∧ cs = uvarint n ++ c1 ∧ R = c1 ++ q := by
  obtain ⟨q, hq, h⟩ := h
  rcases List.append_eq_append_iff.1 h with ⟨a', h1, h2⟩ | ⟨c', h1, h2⟩
  · exact Or.inr ⟨a', q, hq, h1, h2⟩
  · cases c' with
    | nil =>
      refine Or.inr ⟨[], q, hq, by simpa using h1.symm, by simpa using h2.symm⟩
    | cons x c' => exact Or.inl (dec_cut (by simpa using hn) h1 (by simp))
theorem pfx_int {n : Nat} (hn : n < 18446744073709551616) {cs R : List UInt8} {f : Bool} (h : Pfx cs f (uvarint n ++ R)) : Pfx (nR cs) (f || !nO cs) R := by
  rcases h with ⟨rfl, rfl⟩ | ⟨rfl, h⟩
  · left; exact ⟨by simp, n_nil.2.1⟩
  · rcases pfx_num hn h with e | ⟨c1, q, hq, rfl, rfl⟩
    · left; obtain ⟨_, h2, h3⟩ := n_none e; exact ⟨by rw [h3]; rfl, h2⟩
    · right
      obtain ⟨_, h2, h3⟩ := n_of hn c1
      exact ⟨by rw [h3]; rfl, q, hq, by rw [h2]⟩
theorem t_fail {cs : List UInt8} (h : nV cs = 0 ∧ nR cs = [] ∧ nO cs = false) : tR cs = [] ∧ tO cs = false := by
  obtain ⟨h1, h2, h3⟩ := h
  have c : nV cs ≤ 65536 ∧ nV cs ≤ 2147483648 := by rw [h1]; omega
  have s1 : sV cs 65536 = 0 := by unfold sV; rw [if_pos c, h1]
  have s2 : sR cs 65536 = [] := by unfold sR; rw [if_pos c, h2]
  have s3 : sO cs 65536 = false := by unfold sO; rw [h3]; rfl
  unfold tR tO
  rw [s1, s2, s3]
  exact ⟨by simp, rfl⟩
theorem pfx_text {t : List UInt8} (ht : t.length ≤ 65536) {cs R : List UInt8} {f : Bool} (h : Pfx cs f ((uvarint t.length ++ t) ++ R)) : Pfx (tR cs) (f || !tO cs) R := by
  rw [List.append_assoc] at h
  rcases h with ⟨rfl, rfl⟩ | ⟨rfl, h⟩
  · left; exact ⟨by simp, (t_fail n_nil).1⟩
  · rcases pfx_num (by omega) h with e | ⟨c1, q, hq, rfl, h2⟩
    · left; obtain ⟨h2, h3⟩ := t_fail (n_none e); exact ⟨by rw [h3]; rfl, h2⟩
    · obtain ⟨e1, e2, e3⟩ := n_of (show t.length < 18446744073709551616 by omega) c1
      have c : nV (uvarint t.length ++ c1) ≤ 65536 ∧ nV (uvarint t.length ++ c1) ≤ 2147483648 := by rw [e1]; omega
      have s1 : sV (uvarint t.length ++ c1) 65536 = t.length := by unfold sV; rw [if_pos c, e1]
      have s2 : sR (uvarint t.length ++ c1) 65536 = c1 := by unfold sR; rw [if_pos c, e2]
      have s3 : sO (uvarint t.length ++ c1) 65536 = true := by unfold sO; rw [e3]; simp [c]
      by_cases hc : t.length ≤ c1.length
      · right
        have e : ∃ c2, c1 = t ++ c2 ∧ R = c2 ++ q := by
          rcases List.append_eq_append_iff.1 h2 with ⟨a', h3, h4⟩ | ⟨c', h3, h4⟩
          · exact ⟨a', h3, h4⟩
          · have : c' = [] := List.eq_nil_of_length_eq_zero (by have := congrArg List.length h3; rw [List.length_append] at this; omega)
            subst this
            exact ⟨[], by simpa using h3.symm, by simpa using h4.symm⟩
        obtain ⟨c2, rfl, rfl⟩ := e
        unfold tR tO tC
        rw [s1, s2, s3, if_pos hc, List.drop_left]
        exact ⟨by simp, q, hq, rfl⟩
      · left
        unfold tR tO tC
        rw [s1, s2, s3, if_neg hc]
        exact ⟨by simp [hc], rfl⟩
theorem pfx_end {cs : List UInt8} {f : Bool} (h : Pfx cs f []) : f = true ∧ cs = [] := by
  rcases h with h | ⟨_, q, hq, h⟩
  · exact h
  · exact absurd (List.append_eq_nil_iff.1 h.symm).2 hq
theorem t_size (t : ByteArray) : t.data.toList.length = t.size := by simp

theorem rint_enc (base g : Nat) (x : Int) (R : List UInt8) (w : World) (hx : -9223372036854775808 ≤ x ∧ x ≤ 9223372036854775807) (h : RD w base g (uvarint (foldN x) ++ R) false) (hl : (uvarint (foldN x) ++ R).length ≤ 900000000) :
    Calls Try.prog 23 #[.pointer (some ⟨g, 0, none⟩)] w fun e w' => e = .returned (.int .i64 x) ∧ To base g R false w w' := by
  have := rint base g _ _ w h hl
  obtain ⟨h1, h2, h3⟩ := n_of (foldN_lt hx.1 hx.2) R
  rw [h1, h2, h3, unfold_fold] at this
  exact this
theorem rtext_enc (base g : Nat) (t : ByteArray) (R : List UInt8) (w : World) (ht : t.size ≤ 65536) (h : RD w base g ((uvarint t.size ++ t.data.toList) ++ R) false) (hl : ((uvarint t.size ++ t.data.toList) ++ R).length ≤ 900000000) :
    Calls Try.prog 27 #[.pointer (some ⟨g, 0, none⟩)] w fun e w' => e = .returned (.string t) ∧ To base g R false w w' := by
  have := rtext base g _ _ w h hl
  obtain ⟨h1, h2, h3⟩ := t_of (t := t.data.toList) (by rw [t_size]; exact ht) R
  rw [t_size] at h1 h2 h3
  rw [h1, h2, h3, strB_data] at this
  exact this
theorem tR_len (cs : List UInt8) : (tR cs).length ≤ cs.length := by
  unfold tR
  split
  · rw [List.length_drop]; have := sR_len cs 65536; omega
  · simp
/-- one item more, of what is cut off -/
def Step (base g : Nat) (R : List UInt8) (n : Nat) (w w' : World) : Prop := ∃ cs f, To base g cs f w w' ∧ Pfx cs f R ∧ cs.length ≤ n
theorem rint_pfx (base g : Nat) (x : Int) (R cs : List UInt8) (f : Bool) (n : Nat) (w : World) (hx : -9223372036854775808 ≤ x ∧ x ≤ 9223372036854775807) (h : RD w base g cs f) (hl : cs.length ≤ n) (hn : n ≤ 900000000) (hp : Pfx cs f (uvarint (foldN x) ++ R)) :
    Calls Try.prog 23 #[.pointer (some ⟨g, 0, none⟩)] w fun e w' => (∃ v, e = .returned (.int .i64 v)) ∧ Step base g R n w w' :=
  (rint base g _ _ w h (by omega)).mono fun _ _ ⟨he, ht⟩ => ⟨⟨_, he⟩, _, _, ht, pfx_int (foldN_lt hx.1 hx.2) hp, by have := nR_len cs; omega⟩
theorem rtext_pfx (base g : Nat) (t : ByteArray) (R cs : List UInt8) (f : Bool) (n : Nat) (w : World) (ht : t.size ≤ 65536) (h : RD w base g cs f) (hl : cs.length ≤ n) (hn : n ≤ 900000000) (hp : Pfx cs f ((uvarint t.size ++ t.data.toList) ++ R)) :
    Calls Try.prog 27 #[.pointer (some ⟨g, 0, none⟩)] w fun e w' => (∃ v, e = .returned (.string v)) ∧ Step base g R n w w' :=
  (rtext base g _ _ w h (by omega)).mono fun _ _ ⟨he, hto⟩ => ⟨⟨_, he⟩, _, _, hto, by rw [← t_size] at hp ht; exact pfx_text ht hp, by have := tR_len cs; omega⟩
theorem encI_len : ∀ l : List Int, (∀ x ∈ l, -9223372036854775808 ≤ x ∧ x ≤ 9223372036854775807) → (encI l).length ≤ 10 * l.length
  | [], _ => by simp [encI]
  | x :: l, h => by
    rw [encI_cons, List.length_append, List.length_cons]
    have := encI_len l fun y hy => h y (List.mem_cons_of_mem _ hy)
    have hx := h x (List.mem_cons_self ..)
    have := uvarint_length64 (foldN_lt hx.1 hx.2)
    omega
theorem encT_len : ∀ l : List ByteArray, (∀ t ∈ l, t.size ≤ 65536) → (encT l).length ≤ 65546 * l.length
  | [], _ => by simp [encT]
  | t :: l, h => by
    rw [encT_cons, List.length_append, List.length_append, List.length_cons, t_size]
    have := encT_len l fun y hy => h y (List.mem_cons_of_mem _ hy)
    have ht := h t (List.mem_cons_self ..)
    have := uvarint_length64 (show t.size < 18446744073709551616 by omega)
    omega
end Go.Proofs.Ytcahmijcfmakjaa
