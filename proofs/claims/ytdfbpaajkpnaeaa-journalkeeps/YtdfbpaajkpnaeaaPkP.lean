
/- Package pack: numbers, texts and floats behind bytes. -/
import Derived.Test.YtdfbpaajkpnaeaaPkA
import Derived.Test.YtdfbpaajkpnaeaaRat
namespace Go.Proofs.Ytdfbpaajkpnaeaa
set_option maxRecDepth 100000
open Go.RowKit Go.Lib

theorem fold_low {n : Int} (h : n < 0) : foldN n = (2 * (-1 - n) + 1).toNat := by unfold foldN; rw [if_neg (by omega)]
theorem fold_up {n : Int} (h : 0 ≤ n) : foldN n = (2 * n).toNat := by unfold foldN; rw [if_pos h]
/-- a slice of bytes that the call has made -/
def Made (l : List UInt8) (w : World) (e : Ending) (w' : World) : Prop := ∃ v', e = .returned v' ∧ OB w' w.heap.size v' l ∧ RowKit.Below w.heap.size w w'
def encU (l : List Int) : List UInt8 := l.flatMap fun n => uvarint n.toNat
def encI (l : List Int) : List UInt8 := l.flatMap fun n => uvarint (foldN n)
theorem encU_snoc (l : List Int) (n : Int) : encU (l ++ [n]) = encU l ++ uvarint n.toNat := by simp [encU]
theorem encI_snoc (l : List Int) (n : Int) : encI (l ++ [n]) = encI l ++ uvarint (foldN n) := by simp [encI]

set_option maxHeartbeats 1600000 in
theorem num_any (a : Option Addr) (bs : List UInt8) (n c : Nat) (a2 : Option Addr) (l : List Int) (n2 c2 : Nat) (w : World) (hb : BAt w a bs) (hn : bs.length = n) (hnil : a = none → bs = []) (hl : bs.length ≤ 800000000) (hr : RAt (Value.int .u64) w a2 l) (hn2 : l.length = n2) (hl2 : l.length ≤ 100000)
    (hI : ∀ x ∈ l, 0 ≤ x ∧ x < 18446744073709551616) :
    Calls Try.prog 38 #[.slice a n c, .slice a2 n2 c2] w (Made (bs ++ encU l) w) := by
  have HB := Lib.hid hb
  have HR := Lib.hid hr
  have HI := Lib.hid hI
  have HL := Lib.hid hl
  have HN := Lib.hid hnil
  have HE := Lib.hid hn
  subst hn2
  clear hb hr hI hl hnil hn
  go_enter Try.func38, Try.ntmps38
  go_wp2_with fail
  refine (clone_any a bs n c _ HB.out HE.out (by have := HL.out; omega) HN.out).mono ?_
  rintro _ w1 ⟨v1, rfl, ho1, hb1, _⟩
  have HO1 := Lib.hid ho1
  have HB1 := Lib.hid hb1
  obtain ⟨a1, c1, hv1, _⟩ := ho1.row
  subst hv1
  clear ho1 hb1
  go_wp2
  go_loopg [5, 12] l.length (fun g c5 c12 wr => ∃ (k : Nat) (q : List UInt8), c12 = .int .i64 (k : Int) ∧ k ≤ l.length ∧ Hid (g + k = l.length) ∧ Hid (q = bs ++ encU (l.take k)) ∧ Hid (q.length ≤ bs.length + 10 * k) ∧ Hid (OB wr w.heap.size c5 q) ∧ Hid (RowKit.Below w.heap.size w wr))
  case atStart => exact ⟨0, bs, rfl, by omega, Nat.add_zero _, (show _ = _ by simp [encU]), Nat.le_refl _, HO1.out, HB1.out⟩
  case round =>
    obtain ⟨k, q, rfl, hk, HG, HQ, HQL, HO, HW⟩ := hrel
    obtain ⟨a5, c5, hv5, _⟩ := HO.out.row
    subst hv5
    by_cases hlt : k < l.length
    · have d1 : decide (k < l.length) = true := by simpa using hlt
      obtain ⟨x, hx, htk, hmem⟩ := get_lt hlt
      obtain ⟨b, off, rfl, hcell⟩ := (HR.out.below HW.out).at_ hx
      obtain ⟨hx1, hx2⟩ := HI.out x hmem
      have HT := Lib.hid htk
      clear hx htk hmem
      go_wp2_with fail
      have UL := Lib.hid (uv_len hx2)
      refine (number_any w.heap.size _ q x _ HO.out HW.out.size (by have := HQL.out; have := HL.out; omega) hx1 hx2).mono ?_
      rintro _ w3 ⟨v3, rfl, h3⟩
      have H3 := Lib.hid h3
      clear h3
      go_wp2
      go_roundg (l.length - (k + 1))
      case measure => have := HG.out; omega
      case rel =>
        refine ⟨k + 1, _, by go_num, by omega, show _ = _ by omega, ?_, ?_, H3.out.1, H3.out.2.1.below HO.out HW.out.size HW.out⟩
        · show _ = _
          rw [HT.out, encU_snoc, HQ.out, List.append_assoc]
        · show _ ≤ _
          rw [List.length_append]
          have := HQL.out
          have := UL.out
          omega
    · have d1 : decide (k < l.length) = false := by simpa using hlt
      have HK := Lib.hid (show k = l.length by omega)
      go_wp2
      go_ret
      refine ⟨_, rfl, ?_, HW.out⟩
      have E : q = bs ++ encU l := by rw [HQ.out, HK.out, List.take_length]
      rw [← E]
      exact HO.out

def encT (l : List ByteArray) : List UInt8 := l.flatMap fun t => uvarint t.size ++ t.data.toList
theorem encT_snoc (l : List ByteArray) (t : ByteArray) : encT (l ++ [t]) = encT l ++ (uvarint t.size ++ t.data.toList) := by simp [encT]
/-- texts behind bytes -/
def Texts (bs : List UInt8) (l : List ByteArray) (w : World) (e : Ending) (w' : World) : Prop :=
  RowKit.Below w.heap.size w w' ∧ (((∀ t ∈ l, t.size ≤ 65536) ∧ ∃ v', e = .returned (.tuple #[v', .int .i64 0]) ∧ OB w' w.heap.size v' (bs ++ encT l)) ∨ ((∃ t ∈ l, 65536 < t.size) ∧ e = .returned (.tuple #[.slice none 0 0, .int .i64 61])))
theorem OB.nn {w : World} {base : Nat} {v : Value} {l : List UInt8} (h : OB w base v l) (hl : l ≠ []) : v ≠ .slice none 0 0 := by
  obtain ⟨a, c, hv, _⟩ := h.row
  intro e
  rw [hv] at e
  injection e with _ e
  exact hl (List.eq_nil_of_length_eq_zero e)
theorem uv_ne (n : Nat) (l : List UInt8) : l ++ uvarint n ≠ [] := by
  intro h
  have h2 := congrArg List.length h
  have := uvarint_pos n
  rw [List.length_append, List.length_nil] at h2
  omega

end Go.Proofs.Ytdfbpaajkpnaeaa
