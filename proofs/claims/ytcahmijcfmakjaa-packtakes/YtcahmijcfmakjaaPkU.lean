/- The document's reader: floats. -/
import Derived.Test.YtcahmijcfmakjaaPkK
namespace Go.Proofs.Ytcahmijcfmakjaa
open Go.RowKit Go.Lib

theorem spell_get {l : List UInt8} {i : Nat} {x : UInt8} (h : l[i]? = some x) : spell (l.drop i) = spell (l.drop (i + 1)) * 256 + x.toNat := by
  rw [drop_get h, spell]
theorem wrap_256 {acc : Int} {n xn : Nat} (h0 : 0 ≤ acc) (hn : acc.toNat = n) (hb : n * 256 + xn < 18446744073709551616) : IntKind.u64.wrap (IntKind.u64.wrap (acc * 256) + (xn : Int)) = ((n * 256 + xn : Nat) : Int) := by
  rw [IntKind.wrap_u64, IntKind.wrap_u64]
  omega
/-- what TakeFloat answers -/
def TakenF (A0 : Option Addr) (bs : List UInt8) (w : World) (e : Ending) (w' : World) : Prop :=
  ∃ A cap, e = .returned (.tuple #[.agg #[.slice A (fR bs).length cap, .bool (!fO bs)], .int .u64 (fV bs : Int)]) ∧ RV w' A cap (fR bs) ∧ RowKit.Below w.heap.size w w' ∧ Sub A A0
set_option maxHeartbeats 1600000 in
set_option maxRecDepth 100000 in
theorem rtakefloat (A : Option Addr) (cap : Nat) (bs : List UInt8) (f : Bool) (w : World) (h : RV w A cap bs) (hl : bs.length ≤ 400) :
    Calls Try.prog 28 #[.agg #[.slice A bs.length cap, .bool f]] w (TakenF A bs w) := by
  have H := Lib.hid h
  have HT := Lib.hid (TB.start w A bs.length cap f)
  obtain ⟨W2, hW2⟩ : ∃ W, W = ((w.alloc (.cells #[.slice A bs.length cap, .bool f] 47)).alloc (.cells #[.slice none 0 0, .bool false] 47)) := ⟨_, rfl⟩
  by_cases hc : 8 ≤ bs.length
  · have HE := Lib.hid (show fV bs = spell (bs.take 8) ∧ fR bs = bs.drop 8 ∧ fO bs = true by unfold fV fR fO; rw [if_pos hc, if_pos hc]; simp [hc])
    have d1 : decide (bs.length < 8) = false := by simp; omega
    have rf : ∀ W : World, (Instr.slice 22 (.slice A bs.length cap) (some (.int .i64 8)) none none).run Try.prog W = .ok (.slice (cutA A cap 8) (bs.length - 8) (cap - 8)) W := fun W => run_from A bs.length cap 8 hc W
    have HL8 := Lib.hid (show (bs.take 8).length = 8 by rw [List.length_take]; omega)
    clear h
    go_enter Try.func28, Try.ntmps28
    go_wp2
    rw [← hW2]
    rw [← hW2] at HT
    obtain ⟨h1, g2, g3, g4, g5, g6, g7⟩ := HT.out
    have HV := Lib.hid (H.out.below g7)
    have HW := Lib.hid g7
    clear g6 g7 hW2
    go_loopg [4, 5] 8 (fun g c4 c5 wr => ∃ (j : Nat) (acc : Int), c5 = .int .i64 ((j : Int) - 1) ∧ c4 = .int .u64 acc ∧ j ≤ 8 ∧ Hid (g = j) ∧ 0 ≤ acc ∧ acc < 18446744073709551616 ∧ Hid (acc.toNat = spell ((bs.take 8).drop j)) ∧ W2 = wr)
    case atStart => exact ⟨8, 0, rfl, rfl, by omega, rfl, by omega, by omega, (show _ = _ by rw [List.drop_eq_nil_of_le (by rw [List.length_take]; omega)]; rfl), rfl⟩
    case round =>
      obtain ⟨j, acc, hc6, rfl, hj, HGJ, ha0, ha1, HAC, rfl⟩ := hrel
      by_cases hj0 : 1 ≤ j
      · obtain ⟨i, rfl⟩ : ∃ i, j = i + 1 := ⟨j - 1, by omega⟩
        rw [show ((i + 1 : Nat) : Int) - 1 = (i : Int) by omega] at hc6
        subst hc6
        have hib : i < bs.length := by omega
        obtain ⟨x, hx, _, _⟩ := get_lt hib
        have hcell : ∃ b off, A = some ⟨b, off, none⟩ ∧ W2.cell? ⟨b, off + i, none⟩ = some (.int .u8 (x.toNat : Int)) := by
          rcases HV.out.1 with e | ⟨b, off, ha, hlt', hc⟩
          · rw [e] at hib; simp at hib
          · refine ⟨b, off, ha, ?_⟩
            rw [hc i hib]
            simp [List.getD, hx]
        obtain ⟨b, off, rfl, hcell⟩ := hcell
        have hx256 := u8lt x
        have EV := Lib.hid (spell_get (l := bs.take 8) (i := i) (x := x) (by rw [List.getElem?_take_of_lt (by omega)]; exact hx))
        have hsl := spell_lt ((bs.take 8).drop i)
        have hp : 2 ^ (8 * ((bs.take 8).drop i).length) ≤ 2 ^ 64 := Nat.pow_le_pow_right (by omega) (by rw [List.length_drop, HL8.out]; omega)
        have e64 : (2 : Nat) ^ 64 = 18446744073709551616 := by decide
        have EB := Lib.hid (wrap_256 (xn := x.toNat) ha0 HAC.out (by rw [← EV.out]; omega))
        obtain ⟨t, ht⟩ : ∃ t : Int, t = ((spell ((bs.take 8).drop (i + 1)) * 256 + x.toNat : Nat) : Int) := ⟨_, rfl⟩
        rw [← ht] at EB
        have HTT := Lib.hid (show t.toNat = spell ((bs.take 8).drop i) by rw [ht, Int.toNat_natCast, EV.out])
        have ht0 : 0 ≤ t := by omega
        have ht1 : t < 18446744073709551616 := by have := HTT.out; omega
        clear ht hx hsl hp e64
        go_upto_region 6 with (fail)
        rw [EB.out]
        go_wp2
        go_roundg i
        case measure => have := HGJ.out; omega
        case rel => exact ⟨i, t, by go_num, rfl, by omega, rfl, ht0, ht1, HTT.out, rfl⟩
      · obtain rfl : j = 0 := by omega
        rw [show ((0 : Nat) : Int) - 1 = -1 by omega] at hc6
        subst hc6
        have HAC2 := Lib.hid (show acc.toNat = spell (bs.take 8) by have := HAC.out; rw [List.drop_zero] at this; exact this)
        clear HAC
        go_wp2
        refine bodyPost_ret (v := .tuple #[.agg #[.slice (cutA A cap 8) (bs.length - 8) (cap - 8), .bool false], .int .u64 acc]) (by simp [results, Try.results28, go_sem, g2, g3]) rfl ?_
        refine ⟨cutA A cap 8, cap - 8, ?_, ?_, ?_, fun _ h => cutA_blk h⟩
        · rw [HE.out.1, HE.out.2.1, HE.out.2.2, List.length_drop, ← HAC2.out, Int.toNat_of_nonneg ha0]; rfl
        · rw [HE.out.2.1]
          have hv := (((HV.out.set (w := w) (g := w.heap.size + 1) (fun _ h => h) H.out.1 (Nat.le_refl _) (by omega) 0 (.slice (cutA A cap 8) (bs.length - 8) (cap - 8))).set (w := w) (g := w.heap.size + 1) (fun _ h => h) H.out.1 (Nat.le_refl _) (by omega) 1 (.bool false)).drop hc)
          exact hv
        · exact RowKit.Below.setCell (p := ⟨w.heap.size + 1, 1, none⟩) (RowKit.Below.setCell (p := ⟨w.heap.size + 1, 0, none⟩) HW.out (by show w.heap.size ≤ w.heap.size + 1; omega) _) (by show w.heap.size ≤ w.heap.size + 1; omega) _
  · have HE := Lib.hid (show fV bs = 0 ∧ fR bs = [] ∧ (!fO bs) = true by unfold fV fR fO; rw [if_neg hc, if_neg hc]; simp [hc])
    have d1 : decide (bs.length < 8) = true := by simp; omega
    have CF := Lib.hid (failed_any W2)
    clear h
    go_enter Try.func28, Try.ntmps28
    go_wp2_with fail
    rw [← hW2]
    rw [← hW2] at HT
    refine CF.out.mono ?_
    rintro _ w2 ⟨rfl, hb2⟩
    obtain ⟨_, g2, g3, g4, g5, g6, g7⟩ := HT.out.below hb2
    have HW2 := Lib.hid g7
    clear g7 g6 hb2 hW2 CF
    go_wp2
    refine bodyPost_ret (v := .tuple #[.agg #[.slice none 0 0, .bool true], .int .u64 0]) (by simp [results, Try.results28, go_sem, g2, g3]) rfl ?_
    refine ⟨none, 0, ?_, ?_, ?_, Sub.none _⟩
    · rw [HE.out.1, HE.out.2.1, HE.out.2.2]; rfl
    · rw [HE.out.2.1]; exact RV.nil _
    · exact RowKit.Below.setCell (p := ⟨w.heap.size + 1, 1, none⟩) (RowKit.Below.setCell (p := ⟨w.heap.size + 1, 0, none⟩) HW2.out (by show w.heap.size ≤ w.heap.size + 1; omega) _) (by show w.heap.size ≤ w.heap.size + 1; omega) _
end Go.Proofs.Ytcahmijcfmakjaa
