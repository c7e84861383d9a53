/- Package pack: floats behind bytes. -/
import Derived.Test.YtcahmijcfmakjaaPkP
namespace Go.Proofs.Ytcahmijcfmakjaa
open Go.RowKit Go.Lib

theorem f64bits (x : Nat) (w : World) : (callFunc 29 #[.float .f64 x]).run Try.prog w = .ok (.value (.int .u64 (x : Int))) w := by
  rw [run_callFunc_extern Try.func29 (by kernel_rfl) (by kernel_rfl) (by kernel_rfl) (e := Extern.MathFloatBits.float64bits) (by kernel_rfl)]
  rfl
theorem f64from (x : Nat) (w : World) : (callFunc 13 #[.int .u64 (x : Int)]).run Try.prog w = .ok (.value (.float .f64 x)) w := by
  rw [run_callFunc_extern Try.func13 (by kernel_rfl) (by kernel_rfl) (by kernel_rfl) (e := Extern.MathFloatBits.float64frombits) (by kernel_rfl)]
  rfl

def encF (l : List Nat) : List UInt8 := l.flatMap leB
theorem encF_snoc (l : List Nat) (n : Nat) : encF (l ++ [n]) = encF l ++ leB n := by simp [encF]
theorem toU8 (n : Nat) : ((n.toUInt8).toNat : Int) = (n : Int) % 256 := by
  have e : (n.toUInt8).toNat = n % 256 := by simp [Nat.toUInt8]
  rw [e]; omega

set_option maxHeartbeats 3200000 in
theorem float_any (a : Option Addr) (bs : List UInt8) (n c : Nat) (a2 : Option Addr) (l : List Nat) (n2 c2 : Nat) (w : World) (hb : BAt w a bs) (hn : bs.length = n) (hnil : a = none → bs = []) (hl : bs.length ≤ 700000000) (hr : RAt (Value.float .f64) w a2 l) (hn2 : l.length = n2) (hl2 : l.length ≤ 1000)
    (hI : ∀ x ∈ l, x < 18446744073709551616) :
    Calls Try.prog 20 #[.slice a n c, .slice a2 n2 c2] w (Made (bs ++ encF l) w) := by
  have HB := Lib.hid hb
  have HR := Lib.hid hr
  have HI := Lib.hid hI
  have HL := Lib.hid hl
  have HN := Lib.hid hnil
  have HE := Lib.hid hn
  subst hn2
  clear hb hr hI hl hnil hn
  go_enter Try.func20, Try.ntmps20
  go_wp2_with fail
  refine (clone_any a bs n c _ HB.out HE.out (by have := HL.out; omega) HN.out).mono ?_
  rintro _ w1 ⟨v1, rfl, ho1, hb1, _⟩
  have HO1 := Lib.hid ho1
  have HB1 := Lib.hid hb1
  obtain ⟨a1, c1, hv1, _⟩ := ho1.row
  subst hv1
  clear ho1 hb1
  go_wp2
  go_loopg [5, 14] l.length (fun g c5 c12 wr => ∃ (k : Nat) (q : List UInt8), c12 = .int .i64 (k : Int) ∧ k ≤ l.length ∧ Hid (g + k = l.length) ∧ Hid (q = bs ++ encF (l.take k)) ∧ Hid (q.length ≤ bs.length + 10 * k) ∧ Hid (OB wr w.heap.size c5 q) ∧ Hid (RowKit.Below w.heap.size w wr))
  case atStart => exact ⟨0, bs, rfl, by omega, Nat.add_zero _, (show _ = _ by simp [encF]), Nat.le_refl _, HO1.out, HB1.out⟩
  case round =>
    obtain ⟨k, q, rfl, hk, HG, HQ, HQL, HO, HW⟩ := hrel
    obtain ⟨a5, c5, hv5, _⟩ := HO.out.row
    subst hv5
    by_cases hlt : k < l.length
    · have d1 : decide (k < l.length) = true := by simpa using hlt
      obtain ⟨x, hx, htk, hmem⟩ := get_lt hlt
      obtain ⟨b, off, rfl, hcell⟩ := (HR.out.below HW.out).at_ hx
      have HX := Lib.hid (HI.out x hmem)
      have HT := Lib.hid htk
      clear hx htk hmem
      have fb := f64bits x
      obtain ⟨y, hy⟩ : ∃ y : Int, y = (x : Int) := ⟨_, rfl⟩
      rw [← hy] at fb
      have hy1 : 0 ≤ y := by omega
      have hy2 : y < 18446744073709551616 := by have := HX.out; omega
      have HQB := Lib.hid (show q.length ≤ 800000000 by have := HQL.out; have := HL.out; omega)
      obtain ⟨y0, e0⟩ : ∃ z : UInt8, z = (x).toUInt8 := ⟨_, rfl⟩
      have E0 := Lib.hid (show y % 256 = (y0.toNat : Int) by rw [e0, toU8]; omega)
      obtain ⟨y1, e1⟩ : ∃ z : UInt8, z = (x / 256).toUInt8 := ⟨_, rfl⟩
      have E1 := Lib.hid (show y / 256 % 256 = (y1.toNat : Int) by rw [e1, toU8]; omega)
      obtain ⟨y2, e2⟩ : ∃ z : UInt8, z = (x / 65536).toUInt8 := ⟨_, rfl⟩
      have E2 := Lib.hid (show y / 65536 % 256 = (y2.toNat : Int) by rw [e2, toU8]; omega)
      obtain ⟨y3, e3⟩ : ∃ z : UInt8, z = (x / 16777216).toUInt8 := ⟨_, rfl⟩
      have E3 := Lib.hid (show y / 16777216 % 256 = (y3.toNat : Int) by rw [e3, toU8]; omega)
      obtain ⟨y4, e4⟩ : ∃ z : UInt8, z = (x / 4294967296).toUInt8 := ⟨_, rfl⟩
      have E4 := Lib.hid (show y / 4294967296 % 256 = (y4.toNat : Int) by rw [e4, toU8]; omega)
      obtain ⟨y5, e5⟩ : ∃ z : UInt8, z = (x / 1099511627776).toUInt8 := ⟨_, rfl⟩
      have E5 := Lib.hid (show y / 1099511627776 % 256 = (y5.toNat : Int) by rw [e5, toU8]; omega)
      obtain ⟨y6, e6⟩ : ∃ z : UInt8, z = (x / 281474976710656).toUInt8 := ⟨_, rfl⟩
      have E6 := Lib.hid (show y / 281474976710656 % 256 = (y6.toNat : Int) by rw [e6, toU8]; omega)
      obtain ⟨y7, e7⟩ : ∃ z : UInt8, z = (x / 72057594037927936).toUInt8 := ⟨_, rfl⟩
      have E7 := Lib.hid (show y / 72057594037927936 = (y7.toNat : Int) by rw [e7, toU8]; omega)
      have EL := Lib.hid (show leB x = [y0, y1, y2, y3, y4, y5, y6, y7] by unfold leB; rw [e0, e1, e2, e3, e4, e5, e6, e7])
      clear hy e0 e1 e2 e3 e4 e5 e6 e7 HI HR HX
      go_wp2_with (simp only [fb])
      clear fb hcell
      refine wp_loop_rounds 9 ?_
      rw [rounds_succ]
      go_wp2_with (at_builtin; refine wpList_appB rfl _ _ rfl w.heap.size _ q [y0] (some ⟨wr.heap.size, 0, none⟩) 1 1 (by rfl) (by rfl) rfl (HO.out.below ((RowKit.Below.refl _ _).alloc (Nat.le_refl _) _)) (one_byte wr y0 _ _ E0.out) (fun h => by cases h) (by have := HQB.out; simp; omega) (by have := HW.out.size; simp; omega) ?_; intro v10 w10 h10)
      obtain ⟨q10, hq10⟩ : ∃ z, z = q ++ [y0] := ⟨_, rfl⟩
      rw [← hq10] at h10
      have HO10 := Lib.hid h10.1
      have HW10 := Lib.hid (h10.2.1.below (base := w.heap.size) (HO.out.below ((RowKit.Below.refl _ _).alloc (Nat.le_refl _) _)) (by have := HW.out.size; simp; omega) (HW.out.alloc HW.out.size _))
      have HQ10 := Lib.hid hq10
      have HB10 := Lib.hid (show q10.length ≤ 800000001 by rw [hq10, List.length_append]; have := HQB.out; simp; omega)
      obtain ⟨a10, c10, hv10, _⟩ := h10.1.row
      subst hv10
      clear h10 hq10
      rw [rounds_succ]
      go_wp2_with (at_builtin; refine wpList_appB rfl _ _ rfl w.heap.size _ q10 [y1] (some ⟨w10.heap.size, 0, none⟩) 1 1 (by rfl) (by rfl) rfl (HO10.out.below ((RowKit.Below.refl _ _).alloc (Nat.le_refl _) _)) (one_byte w10 y1 _ _ E1.out) (fun h => by cases h) (by have := HB10.out; simp; omega) (by have := HW10.out.size; simp; omega) ?_; intro v11 w11 h11)
      obtain ⟨q11, hq11⟩ : ∃ z, z = q10 ++ [y1] := ⟨_, rfl⟩
      rw [← hq11] at h11
      have HO11 := Lib.hid h11.1
      have HW11 := Lib.hid (h11.2.1.below (base := w.heap.size) (HO10.out.below ((RowKit.Below.refl _ _).alloc (Nat.le_refl _) _)) (by have := HW10.out.size; simp; omega) (HW10.out.alloc HW10.out.size _))
      have HQ11 := Lib.hid hq11
      have HB11 := Lib.hid (show q11.length ≤ 800000002 by rw [hq11, List.length_append]; have := HB10.out; simp; omega)
      obtain ⟨a11, c11, hv11, _⟩ := h11.1.row
      subst hv11
      clear h11 hq11
      rw [rounds_succ]
      go_wp2_with (at_builtin; refine wpList_appB rfl _ _ rfl w.heap.size _ q11 [y2] (some ⟨w11.heap.size, 0, none⟩) 1 1 (by rfl) (by rfl) rfl (HO11.out.below ((RowKit.Below.refl _ _).alloc (Nat.le_refl _) _)) (one_byte w11 y2 _ _ E2.out) (fun h => by cases h) (by have := HB11.out; simp; omega) (by have := HW11.out.size; simp; omega) ?_; intro v12 w12 h12)
      obtain ⟨q12, hq12⟩ : ∃ z, z = q11 ++ [y2] := ⟨_, rfl⟩
      rw [← hq12] at h12
      have HO12 := Lib.hid h12.1
      have HW12 := Lib.hid (h12.2.1.below (base := w.heap.size) (HO11.out.below ((RowKit.Below.refl _ _).alloc (Nat.le_refl _) _)) (by have := HW11.out.size; simp; omega) (HW11.out.alloc HW11.out.size _))
      have HQ12 := Lib.hid hq12
      have HB12 := Lib.hid (show q12.length ≤ 800000003 by rw [hq12, List.length_append]; have := HB11.out; simp; omega)
      obtain ⟨a12, c12, hv12, _⟩ := h12.1.row
      subst hv12
      clear h12 hq12
      rw [rounds_succ]
      go_wp2_with (at_builtin; refine wpList_appB rfl _ _ rfl w.heap.size _ q12 [y3] (some ⟨w12.heap.size, 0, none⟩) 1 1 (by rfl) (by rfl) rfl (HO12.out.below ((RowKit.Below.refl _ _).alloc (Nat.le_refl _) _)) (one_byte w12 y3 _ _ E3.out) (fun h => by cases h) (by have := HB12.out; simp; omega) (by have := HW12.out.size; simp; omega) ?_; intro v13 w13 h13)
      obtain ⟨q13, hq13⟩ : ∃ z, z = q12 ++ [y3] := ⟨_, rfl⟩
      rw [← hq13] at h13
      have HO13 := Lib.hid h13.1
      have HW13 := Lib.hid (h13.2.1.below (base := w.heap.size) (HO12.out.below ((RowKit.Below.refl _ _).alloc (Nat.le_refl _) _)) (by have := HW12.out.size; simp; omega) (HW12.out.alloc HW12.out.size _))
      have HQ13 := Lib.hid hq13
      have HB13 := Lib.hid (show q13.length ≤ 800000004 by rw [hq13, List.length_append]; have := HB12.out; simp; omega)
      obtain ⟨a13, c13, hv13, _⟩ := h13.1.row
      subst hv13
      clear h13 hq13
      rw [rounds_succ]
      go_wp2_with (at_builtin; refine wpList_appB rfl _ _ rfl w.heap.size _ q13 [y4] (some ⟨w13.heap.size, 0, none⟩) 1 1 (by rfl) (by rfl) rfl (HO13.out.below ((RowKit.Below.refl _ _).alloc (Nat.le_refl _) _)) (one_byte w13 y4 _ _ E4.out) (fun h => by cases h) (by have := HB13.out; simp; omega) (by have := HW13.out.size; simp; omega) ?_; intro v14 w14 h14)
      obtain ⟨q14, hq14⟩ : ∃ z, z = q13 ++ [y4] := ⟨_, rfl⟩
      rw [← hq14] at h14
      have HO14 := Lib.hid h14.1
      have HW14 := Lib.hid (h14.2.1.below (base := w.heap.size) (HO13.out.below ((RowKit.Below.refl _ _).alloc (Nat.le_refl _) _)) (by have := HW13.out.size; simp; omega) (HW13.out.alloc HW13.out.size _))
      have HQ14 := Lib.hid hq14
      have HB14 := Lib.hid (show q14.length ≤ 800000005 by rw [hq14, List.length_append]; have := HB13.out; simp; omega)
      obtain ⟨a14, c14, hv14, _⟩ := h14.1.row
      subst hv14
      clear h14 hq14
      rw [rounds_succ]
      go_wp2_with (at_builtin; refine wpList_appB rfl _ _ rfl w.heap.size _ q14 [y5] (some ⟨w14.heap.size, 0, none⟩) 1 1 (by rfl) (by rfl) rfl (HO14.out.below ((RowKit.Below.refl _ _).alloc (Nat.le_refl _) _)) (one_byte w14 y5 _ _ E5.out) (fun h => by cases h) (by have := HB14.out; simp; omega) (by have := HW14.out.size; simp; omega) ?_; intro v15 w15 h15)
      obtain ⟨q15, hq15⟩ : ∃ z, z = q14 ++ [y5] := ⟨_, rfl⟩
      rw [← hq15] at h15
      have HO15 := Lib.hid h15.1
      have HW15 := Lib.hid (h15.2.1.below (base := w.heap.size) (HO14.out.below ((RowKit.Below.refl _ _).alloc (Nat.le_refl _) _)) (by have := HW14.out.size; simp; omega) (HW14.out.alloc HW14.out.size _))
      have HQ15 := Lib.hid hq15
      have HB15 := Lib.hid (show q15.length ≤ 800000006 by rw [hq15, List.length_append]; have := HB14.out; simp; omega)
      obtain ⟨a15, c15, hv15, _⟩ := h15.1.row
      subst hv15
      clear h15 hq15
      rw [rounds_succ]
      go_wp2_with (at_builtin; refine wpList_appB rfl _ _ rfl w.heap.size _ q15 [y6] (some ⟨w15.heap.size, 0, none⟩) 1 1 (by rfl) (by rfl) rfl (HO15.out.below ((RowKit.Below.refl _ _).alloc (Nat.le_refl _) _)) (one_byte w15 y6 _ _ E6.out) (fun h => by cases h) (by have := HB15.out; simp; omega) (by have := HW15.out.size; simp; omega) ?_; intro v16 w16 h16)
      obtain ⟨q16, hq16⟩ : ∃ z, z = q15 ++ [y6] := ⟨_, rfl⟩
      rw [← hq16] at h16
      have HO16 := Lib.hid h16.1
      have HW16 := Lib.hid (h16.2.1.below (base := w.heap.size) (HO15.out.below ((RowKit.Below.refl _ _).alloc (Nat.le_refl _) _)) (by have := HW15.out.size; simp; omega) (HW15.out.alloc HW15.out.size _))
      have HQ16 := Lib.hid hq16
      have HB16 := Lib.hid (show q16.length ≤ 800000007 by rw [hq16, List.length_append]; have := HB15.out; simp; omega)
      obtain ⟨a16, c16, hv16, _⟩ := h16.1.row
      subst hv16
      clear h16 hq16
      rw [rounds_succ]
      go_wp2_with (at_builtin; refine wpList_appB rfl _ _ rfl w.heap.size _ q16 [y7] (some ⟨w16.heap.size, 0, none⟩) 1 1 (by rfl) (by rfl) rfl (HO16.out.below ((RowKit.Below.refl _ _).alloc (Nat.le_refl _) _)) (one_byte w16 y7 _ _ E7.out) (fun h => by cases h) (by have := HB16.out; simp; omega) (by have := HW16.out.size; simp; omega) ?_; intro v17 w17 h17)
      obtain ⟨q17, hq17⟩ : ∃ z, z = q16 ++ [y7] := ⟨_, rfl⟩
      rw [← hq17] at h17
      have HO17 := Lib.hid h17.1
      have HW17 := Lib.hid (h17.2.1.below (base := w.heap.size) (HO16.out.below ((RowKit.Below.refl _ _).alloc (Nat.le_refl _) _)) (by have := HW16.out.size; simp; omega) (HW16.out.alloc HW16.out.size _))
      have HQ17 := Lib.hid hq17
      have HB17 := Lib.hid (show q17.length ≤ 800000008 by rw [hq17, List.length_append]; have := HB16.out; simp; omega)
      obtain ⟨a17, c17, hv17, _⟩ := h17.1.row
      subst hv17
      clear h17 hq17
      have EQ := Lib.hid (show q17 = q ++ leB x by rw [HQ17.out, HQ16.out, HQ15.out, HQ14.out, HQ13.out, HQ12.out, HQ11.out, HQ10.out, EL.out]; simp only [List.append_assoc, List.cons_append, List.nil_append])
      rw [rounds_succ]
      go_wp2
      go_roundg (l.length - (k + 1))
      case measure => have := HG.out; omega
      case rel =>
        refine ⟨k + 1, q17, by go_num, by omega, show _ = _ by omega, ?_, ?_, HO17.out, HW17.out⟩
        · show _ = _
          rw [HT.out, encF_snoc, EQ.out, HQ.out, List.append_assoc]
        · show _ ≤ _
          rw [EQ.out, List.length_append, leB_len]
          have := HQL.out
          omega
    · have d1 : decide (k < l.length) = false := by simpa using hlt
      have HK := Lib.hid (show k = l.length by omega)
      go_wp2
      go_ret
      refine ⟨_, rfl, ?_, HW.out⟩
      have E : q = bs ++ encF l := by rw [HQ.out, HK.out, List.take_length]
      rw [← E]
      exact HO.out
end Go.Proofs.Ytcahmijcfmakjaa
