/- Package pack: numbers, texts and floats behind bytes. -/
import Derived.Test.YtcahmijcfmakjaaPkA
namespace Go.Proofs.Ytcahmijcfmakjaa
open Go.RowKit Go.Lib

/-- the things l lie, each in a cell (as f tells), one behind the other, from a on -/
def RAt {α : Type} (f : α → Value) (w : World) (a : Option Addr) (l : List α) : Prop :=
  l = [] ∨ ∃ b off, a = some ⟨b, off, none⟩ ∧ b < w.heap.size ∧ ∀ i x, l[i]? = some x → w.cell? ⟨b, off + i, none⟩ = some (f x)
theorem RAt.below {α : Type} {f : α → Value} {w w' : World} {a : Option Addr} {l : List α} (h : RAt f w a l) (hb : RowKit.Below w.heap.size w w') : RAt f w' a l := by
  rcases h with h | ⟨b, off, ha, hlt, hc⟩
  · exact Or.inl h
  · refine Or.inr ⟨b, off, ha, Nat.lt_of_lt_of_le hlt hb.size, fun i x hi => ?_⟩
    rw [hb.cell (p := ⟨b, off + i, none⟩) hlt]
    exact hc i x hi
theorem RAt.at_ {α : Type} {f : α → Value} {w : World} {a : Option Addr} {l : List α} (h : RAt f w a l) {k : Nat} {x : α} (hx : l[k]? = some x) : ∃ b off, a = some ⟨b, off, none⟩ ∧ w.cell? ⟨b, off + k, none⟩ = some (f x) := by
  rcases h with h | ⟨b, off, ha, hlt, hc⟩
  · subst h; simp at hx
  · exact ⟨b, off, ha, hc k x hx⟩
theorem get_lt {α : Type} {l : List α} {k : Nat} (h : k < l.length) : ∃ x, l[k]? = some x ∧ l.take (k + 1) = l.take k ++ [x] ∧ x ∈ l :=
  ⟨l[k], List.getElem?_eq_getElem h, List.take_succ_eq_append_getElem h, List.getElem_mem h⟩

theorem fold_low {n : Int} (h : n < 0) : foldN n = (2 * (-1 - n) + 1).toNat := by unfold foldN; rw [if_neg (by omega)]
theorem fold_up {n : Int} (h : 0 ≤ n) : foldN n = (2 * n).toNat := by unfold foldN; rw [if_pos h]
set_option maxHeartbeats 400000 in
theorem fold_any (n : Int) (w : World) (h1 : -9223372036854775808 ≤ n) (h2 : n ≤ 9223372036854775807) : Calls Try.prog 37 #[.int .i64 n] w fun e w' => e = .returned (.int .u64 (foldN n : Int)) ∧ w = w' := by
  by_cases h : n < 0
  · have HF := Lib.hid (fold_low h)
    go_enter Try.func37, Try.ntmps37
    go_wp2
    go_ret
    exact ⟨ret_int (by rw [HF.out]; omega), rfl⟩
  · have HF := Lib.hid (fold_up (n := n) (by omega))
    have h' : 0 ≤ n := by omega
    go_enter Try.func37, Try.ntmps37
    go_wp2
    go_ret
    exact ⟨ret_int (by rw [HF.out]; omega), rfl⟩

/-- a slice of bytes that the call has made -/
def Made (l : List UInt8) (w : World) (e : Ending) (w' : World) : Prop := ∃ v', e = .returned v' ∧ OB w' w.heap.size v' l ∧ RowKit.Below w.heap.size w w'
def encU (l : List Int) : List UInt8 := l.flatMap fun n => uvarint n.toNat
def encI (l : List Int) : List UInt8 := l.flatMap fun n => uvarint (foldN n)
theorem encU_snoc (l : List Int) (n : Int) : encU (l ++ [n]) = encU l ++ uvarint n.toNat := by simp [encU]
theorem encI_snoc (l : List Int) (n : Int) : encI (l ++ [n]) = encI l ++ uvarint (foldN n) := by simp [encI]

set_option maxHeartbeats 1600000 in
theorem num_any (a : Option Addr) (bs : List UInt8) (n c : Nat) (a2 : Option Addr) (l : List Int) (n2 c2 : Nat) (w : World) (hb : BAt w a bs) (hn : bs.length = n) (hnil : a = none → bs = []) (hl : bs.length ≤ 800000000) (hr : RAt (Value.int .u64) w a2 l) (hn2 : l.length = n2) (hl2 : l.length ≤ 100000)
    (hI : ∀ x ∈ l, 0 ≤ x ∧ x < 18446744073709551616) :
    Calls Try.prog 18 #[.slice a n c, .slice a2 n2 c2] w (Made (bs ++ encU l) w) := by
  have HB := Lib.hid hb
  have HR := Lib.hid hr
  have HI := Lib.hid hI
  have HL := Lib.hid hl
  have HN := Lib.hid hnil
  have HE := Lib.hid hn
  subst hn2
  clear hb hr hI hl hnil hn
  go_enter Try.func18, Try.ntmps18
  go_wp2_with fail
  refine (clone_any a bs n c _ HB.out HE.out (by have := HL.out; omega) HN.out).mono ?_
  rintro _ w1 ⟨v1, rfl, ho1, hb1, _⟩
  have HO1 := Lib.hid ho1
  have HB1 := Lib.hid hb1
  obtain ⟨a1, c1, hv1, _⟩ := ho1.row
  subst hv1
  clear ho1 hb1
  go_wp2
  go_loopg [5, 12] l.length (fun g c5 c12 wr => ∃ (k : Nat) (q : List UInt8), c12 = .int .i64 (k : Int) ∧ k ≤ l.length ∧ Hid (g + k = l.length) ∧ Hid (q = bs ++ encU (l.take k)) ∧ Hid (q.length ≤ bs.length + 10 * k) ∧ Hid (OB wr w.heap.size c5 q) ∧ Hid (RowKit.Below w.heap.size w wr))
  case atStart => exact ⟨0, bs, rfl, by omega, Nat.add_zero _, (show _ = _ by simp [encU]), Nat.le_refl _, HO1.out, HB1.out⟩
  case round =>
    obtain ⟨k, q, rfl, hk, HG, HQ, HQL, HO, HW⟩ := hrel
    obtain ⟨a5, c5, hv5, _⟩ := HO.out.row
    subst hv5
    by_cases hlt : k < l.length
    · have d1 : decide (k < l.length) = true := by simpa using hlt
      obtain ⟨x, hx, htk, hmem⟩ := get_lt hlt
      obtain ⟨b, off, rfl, hcell⟩ := (HR.out.below HW.out).at_ hx
      obtain ⟨hx1, hx2⟩ := HI.out x hmem
      have HT := Lib.hid htk
      clear hx htk hmem
      go_wp2_with fail
      have UL := Lib.hid (uv_len hx2)
      refine (number_any w.heap.size _ q x _ HO.out HW.out.size (by have := HQL.out; have := HL.out; omega) hx1 hx2).mono ?_
      rintro _ w3 ⟨v3, rfl, h3⟩
      have H3 := Lib.hid h3
      clear h3
      go_wp2
      go_roundg (l.length - (k + 1))
      case measure => have := HG.out; omega
      case rel =>
        refine ⟨k + 1, _, by go_num, by omega, show _ = _ by omega, ?_, ?_, H3.out.1, H3.out.2.1.below HO.out HW.out.size HW.out⟩
        · show _ = _
          rw [HT.out, encU_snoc, HQ.out, List.append_assoc]
        · show _ ≤ _
          rw [List.length_append]
          have := HQL.out
          have := UL.out
          omega
    · have d1 : decide (k < l.length) = false := by simpa using hlt
      have HK := Lib.hid (show k = l.length by omega)
      go_wp2
      go_ret
      refine ⟨_, rfl, ?_, HW.out⟩
      have E : q = bs ++ encU l := by rw [HQ.out, HK.out, List.take_length]
      rw [← E]
      exact HO.out

set_option maxHeartbeats 1600000 in
theorem int_any (a : Option Addr) (bs : List UInt8) (n c : Nat) (a2 : Option Addr) (l : List Int) (n2 c2 : Nat) (w : World) (hb : BAt w a bs) (hn : bs.length = n) (hnil : a = none → bs = []) (hl : bs.length ≤ 800000000) (hr : RAt (Value.int .i64) w a2 l) (hn2 : l.length = n2) (hl2 : l.length ≤ 100000)
    (hI : ∀ x ∈ l, -9223372036854775808 ≤ x ∧ x ≤ 9223372036854775807) :
    Calls Try.prog 19 #[.slice a n c, .slice a2 n2 c2] w (Made (bs ++ encI l) w) := by
  have HB := Lib.hid hb
  have HR := Lib.hid hr
  have HI := Lib.hid hI
  have HL := Lib.hid hl
  have HN := Lib.hid hnil
  have HE := Lib.hid hn
  subst hn2
  clear hb hr hI hl hnil hn
  go_enter Try.func19, Try.ntmps19
  go_wp2_with fail
  refine (clone_any a bs n c _ HB.out HE.out (by have := HL.out; omega) HN.out).mono ?_
  rintro _ w1 ⟨v1, rfl, ho1, hb1, _⟩
  have HO1 := Lib.hid ho1
  have HB1 := Lib.hid hb1
  obtain ⟨a1, c1, hv1, _⟩ := ho1.row
  subst hv1
  clear ho1 hb1
  go_wp2
  go_loopg [5, 12] l.length (fun g c5 c12 wr => ∃ (k : Nat) (q : List UInt8), c12 = .int .i64 (k : Int) ∧ k ≤ l.length ∧ Hid (g + k = l.length) ∧ Hid (q = bs ++ encI (l.take k)) ∧ Hid (q.length ≤ bs.length + 10 * k) ∧ Hid (OB wr w.heap.size c5 q) ∧ Hid (RowKit.Below w.heap.size w wr))
  case atStart => exact ⟨0, bs, rfl, by omega, Nat.add_zero _, (show _ = _ by simp [encI]), Nat.le_refl _, HO1.out, HB1.out⟩
  case round =>
    obtain ⟨k, q, rfl, hk, HG, HQ, HQL, HO, HW⟩ := hrel
    obtain ⟨a5, c5, hv5, _⟩ := HO.out.row
    subst hv5
    by_cases hlt : k < l.length
    · have d1 : decide (k < l.length) = true := by simpa using hlt
      obtain ⟨x, hx, htk, hmem⟩ := get_lt hlt
      obtain ⟨b, off, rfl, hcell⟩ := (HR.out.below HW.out).at_ hx
      obtain ⟨hx1, hx2⟩ := HI.out x hmem
      have HT := Lib.hid htk
      clear hx htk hmem
      go_wp2_with fail
      refine (fold_any x _ hx1 hx2).mono ?_
      rintro _ _ ⟨rfl, rfl⟩
      have hf := foldN_lt hx1 hx2
      obtain ⟨y, hy⟩ : ∃ y : Int, y = (foldN x : Int) := ⟨_, rfl⟩
      have hy1 : 0 ≤ y := by omega
      have hy2 : y < 18446744073709551616 := by omega
      have HYE := Lib.hid (show foldN x = y.toNat by omega)
      rw [← hy]
      clear hy hf
      have UL := Lib.hid (uv_len hy2)
      go_wp2_with fail
      refine (number_any w.heap.size _ q y _ HO.out HW.out.size (by have := HQL.out; have := HL.out; omega) hy1 hy2).mono ?_
      rintro _ w3 ⟨v3, rfl, h3⟩
      have H3 := Lib.hid h3
      clear h3
      go_wp2
      go_roundg (l.length - (k + 1))
      case measure => have := HG.out; omega
      case rel =>
        refine ⟨k + 1, _, by go_num, by omega, show _ = _ by omega, ?_, ?_, H3.out.1, H3.out.2.1.below HO.out HW.out.size HW.out⟩
        · show _ = _
          rw [HT.out, encI_snoc, HYE.out, HQ.out, List.append_assoc]
        · show _ ≤ _
          rw [List.length_append]
          have := HQL.out
          have := UL.out
          omega
    · have d1 : decide (k < l.length) = false := by simpa using hlt
      have HK := Lib.hid (show k = l.length by omega)
      go_wp2
      go_ret
      refine ⟨_, rfl, ?_, HW.out⟩
      have E : q = bs ++ encI l := by rw [HQ.out, HK.out, List.take_length]
      rw [← E]
      exact HO.out

def encT (l : List ByteArray) : List UInt8 := l.flatMap fun t => uvarint t.size ++ t.data.toList
theorem encT_snoc (l : List ByteArray) (t : ByteArray) : encT (l ++ [t]) = encT l ++ (uvarint t.size ++ t.data.toList) := by simp [encT]
/-- texts behind bytes -/
def Texts (bs : List UInt8) (l : List ByteArray) (w : World) (e : Ending) (w' : World) : Prop :=
  RowKit.Below w.heap.size w w' ∧ (((∀ t ∈ l, t.size ≤ 65536) ∧ ∃ v', e = .returned (.tuple #[v', .int .i64 0]) ∧ OB w' w.heap.size v' (bs ++ encT l)) ∨ ((∃ t ∈ l, 65536 < t.size) ∧ e = .returned (.tuple #[.slice none 0 0, .int .i64 61])))
theorem OB.nn {w : World} {base : Nat} {v : Value} {l : List UInt8} (h : OB w base v l) (hl : l ≠ []) : v ≠ .slice none 0 0 := by
  obtain ⟨a, c, hv, _⟩ := h.row
  intro e
  rw [hv] at e
  injection e with _ e
  exact hl (List.eq_nil_of_length_eq_zero e)
theorem uv_ne (n : Nat) (l : List UInt8) : l ++ uvarint n ≠ [] := by
  intro h
  have h2 := congrArg List.length h
  have := uvarint_pos n
  rw [List.length_append, List.length_nil] at h2
  omega

set_option maxHeartbeats 1600000 in
theorem text_any (a : Option Addr) (bs : List UInt8) (n c : Nat) (a2 : Option Addr) (l : List ByteArray) (n2 c2 : Nat) (w : World) (hb : BAt w a bs) (hn : bs.length = n) (hnil : a = none → bs = []) (hl : bs.length ≤ 700000000) (hr : RAt Value.string w a2 l) (hn2 : l.length = n2) (hl2 : l.length ≤ 1000) :
    Calls Try.prog 8 #[.slice a n c, .slice a2 n2 c2] w (Texts bs l w) := by
  have HB := Lib.hid hb
  have HR := Lib.hid hr
  have HL := Lib.hid hl
  have HN := Lib.hid hnil
  have HE := Lib.hid hn
  subst hn2
  clear hb hr hl hnil hn
  go_enter Try.func8, Try.ntmps8
  go_wp2_with fail
  refine (clone_any a bs n c _ HB.out HE.out (by have := HL.out; omega) HN.out).mono ?_
  rintro _ w1 ⟨v1, rfl, ho1, hb1, _⟩
  have HO1 := Lib.hid ho1
  have HB1 := Lib.hid hb1
  obtain ⟨a1, c1, hv1, _⟩ := ho1.row
  subst hv1
  clear ho1 hb1
  go_wp2
  go_loopg [6, 13] l.length (fun g c5 c12 wr => ∃ (k : Nat) (q : List UInt8), c12 = .int .i64 (k : Int) ∧ k ≤ l.length ∧ Hid (g + k = l.length) ∧ Hid (q = bs ++ encT (l.take k)) ∧ Hid (q.length ≤ bs.length + 65546 * k) ∧ Hid (∀ t ∈ l.take k, t.size ≤ 65536) ∧ Hid (OB wr w.heap.size c5 q) ∧ Hid (RowKit.Below w.heap.size w wr))
  case atStart => exact ⟨0, bs, rfl, by omega, Nat.add_zero _, (show _ = _ by simp [encT]), Nat.le_refl _, (fun t h => by simp at h), HO1.out, HB1.out⟩
  case round =>
    obtain ⟨k, q, rfl, hk, HG, HQ, HQL, HS, HO, HW⟩ := hrel
    obtain ⟨a5, c5, hv5, _⟩ := HO.out.row
    subst hv5
    by_cases hlt : k < l.length
    · have d1 : decide (k < l.length) = true := by simpa using hlt
      obtain ⟨x, hx, htk, hmem⟩ := get_lt hlt
      obtain ⟨b, off, rfl, hcell⟩ := (HR.out.below HW.out).at_ hx
      have HT := Lib.hid htk
      have HM := Lib.hid hmem
      clear hx htk hmem
      by_cases hbig : 65536 < x.size
      · have HX := Lib.hid hbig
        go_wp2
        go_ret2
        exact ⟨HW.out, Or.inr ⟨⟨x, HM.out, HX.out⟩, rfl⟩⟩
      · have HX := Lib.hid (show x.size ≤ 65536 by omega)
        have UL := Lib.hid (uv_len (k := (x.size : Int)) (by omega))
        go_wp2_with fail
        refine (number_any w.heap.size _ q (x.size : Int) _ HO.out HW.out.size (by have := HQL.out; have := HL.out; omega) (by omega) (by omega)).mono ?_
        rintro _ w3 ⟨v3, rfl, h3⟩
        obtain ⟨x1, x2, x3, _⟩ := h3
        rw [Int.toNat_natCast] at x1
        have HO3 := Lib.hid x1
        have HW3 := Lib.hid (x2.below HO.out HW.out.size HW.out)
        clear x1 x2 x3
        go_wp2_with (at_builtin; refine wpList_appS rfl _ _ rfl w.heap.size _ (q ++ uvarint x.size) x (by rfl) (by rfl) HO3.out (by rw [List.length_append]; have := HQL.out; have := HL.out; have := UL.out; rw [Int.toNat_natCast] at this; have := HX.out; omega) HW3.out.size (HO3.out.nn (uv_ne _ _)) ?_; intro v4 w4 ho4 hg4 hz4 _)
        have HO4 := Lib.hid ho4
        have HW4 := Lib.hid (HW3.out.grown hg4 HW3.out.size fun k hk => (HO3.out.own k hk).1)
        clear ho4 hg4 hz4
        go_wp2
        go_roundg (l.length - (k + 1))
        case measure => have := HG.out; omega
        case rel =>
          refine ⟨k + 1, _, by go_num, by omega, show _ = _ by omega, ?_, ?_, ?_, HO4.out, HW4.out⟩
          · show _ = _
            rw [HT.out, encT_snoc, HQ.out]
            simp only [List.append_assoc]
          · show _ ≤ _
            rw [List.length_append, List.length_append, show x.data.toList.length = x.size by simp]
            have := HQL.out
            have := UL.out
            rw [Int.toNat_natCast] at this
            have := HX.out
            omega
          · show ∀ t ∈ _, _
            rw [HT.out]
            intro t ht
            rcases List.mem_append.1 ht with h | h
            · exact HS.out t h
            · rw [List.mem_singleton.1 h]; exact HX.out
    · have d1 : decide (k < l.length) = false := by simpa using hlt
      have HK := Lib.hid (show k = l.length by omega)
      go_wp2
      go_ret2
      have E : q = bs ++ encT l := by rw [HQ.out, HK.out, List.take_length]
      refine ⟨HW.out, Or.inl ⟨?_, _, rfl, ?_⟩⟩
      · have := HS.out; rw [HK.out, List.take_length] at this; exact this
      · rw [← E]
        exact HO.out
end Go.Proofs.Ytcahmijcfmakjaa
