/- falseworklaw06.packAlive. -/
import Derived.Test.YtcahmijcfmakjaaPkI
namespace Go.Proofs.Ytcahmijcfmakjaa
open Go.RowKit Go.Lib

theorem uv300 : uvarint 300 = [172, 2] := by rw [uvarint_big (by omega), uvarint_small (by omega)]; decide
theorem uv1 : uvarint 1 = [1] := by rw [uvarint_small (by omega)]; decide
theorem enc300 : ([] : List UInt8) ++ encU [300] = [172, 2] := by simp [encU, uv300]
theorem encm1 : ([172, 2] : List UInt8) ++ encI [-1] = [172, 2, 1] := by
  have : foldN (-1) = 1 := by decide
  simp [encI, this, uv1]
theorem dec3 : dec [172, 2, 1] = some (300, 2) := by decide
theorem dec1 : dec [1] = some (1, 1) := by decide
theorem one_row {α : Type} (f : α → Value) (W : World) (x : α) (v : Value) (t : TypeId) (hv : v = f x) : RAt f (W.alloc (.cells #[v] t)) (some ⟨W.heap.size, 0, none⟩) [x] := by
  subst hv
  refine Or.inr ⟨W.heap.size, 0, rfl, by simp, fun i y hy => ?_⟩
  cases i with
  | zero => simp at hy; subst hy; simp
  | succ i => simp at hy
theorem Made.row {l : List UInt8} {w : World} {e : Ending} {w' : World} (h : Made l w e w') : ∃ a cap, e = .returned (.slice a l.length cap) ∧ BAt w' a l ∧ (a = none → l = []) ∧ RowKit.Below w.heap.size w w' ∧ l.length ≤ cap := by
  obtain ⟨v, rfl, ho, hb⟩ := h
  obtain ⟨a, cap, hv, h1, h2, _, h3, _⟩ := ho.row
  exact ⟨a, cap, by rw [hv], h1, fun e => List.eq_nil_of_length_eq_zero (by have := h3 e; omega), hb, h2⟩
theorem bl_trans {a b c : World} (h : RowKit.Below a.heap.size a b) (k : RowKit.Below b.heap.size b c) : RowKit.Below a.heap.size a c := h.trans (k.mono h.size)

set_option maxHeartbeats 800000 in
theorem alive_any (w : World) : Calls Try.prog 11 #[] w fun e w' => e = .returned (.bool true) ∧ RowKit.Below w.heap.size w w' := by
  have C1 := Lib.hid (num_any none [] 0 0 (some ⟨w.heap.size, 0, none⟩) [300] 1 1 (w.alloc (.cells #[.int .u64 300] 28)) (Or.inl rfl) rfl (fun _ => rfl) (by simp) (one_row (Value.int .u64) w 300 _ _ rfl) rfl (by simp) (by simp))
  rw [enc300] at C1
  have C2 := fun (a : Option Addr) (c : Nat) (W : World) (hb : BAt W a [172, 2]) (hn : a = none → [172, 2] = ([] : List UInt8)) => Lib.hid (int_any a [172, 2] 2 c (some ⟨W.heap.size, 0, none⟩) [-1] 1 1 (W.alloc (.cells #[.int .i64 (-1)] 2)) (hb.below ((RowKit.Below.refl _ _).alloc (Nat.le_refl _) _)) rfl hn (by simp) (one_row (Value.int .i64) W (-1) _ _ rfl) rfl (by simp) (by simp))
  rw [encm1] at C2
  have C3 := fun (a : Option Addr) (c : Nat) (W : World) (hb : BAt W a [172, 2, 1]) (hn : a = none → [172, 2, 1] = ([] : List UInt8)) => Lib.hid (new_any a [172, 2, 1] 3 c W hb rfl (by simp) hn)
  have C4 := fun (base g : Nat) (W : World) (h : RD W base g [172, 2, 1] false) => Lib.hid (rnum base g _ _ W h (by simp))
  rw [show nV [172, 2, 1] = 300 by decide, show nR [172, 2, 1] = [1] by decide, show (false || !nO [172, 2, 1]) = false by decide] at C4
  have C5 := fun (base g : Nat) (W : World) (h : RD W base g [1] false) => Lib.hid (rint base g _ _ W h (by simp))
  rw [show unfoldN (nV [1]) = -1 by decide, show nR [1] = [] by decide, show (false || !nO [1]) = false by decide] at C5
  have C6 := fun (base g : Nat) (W : World) (h : RD W base g [] false) => Lib.hid (ended_any base g _ _ W h)
  rw [show endB [] false = true by decide] at C6
  have cv : ∀ (W : World) (A : Option Addr) (c : Nat), BAt W A [172, 2, 1] → Hid ((convert 22 9 (.slice A 3 c)).run Try.prog W = .ok (.string ⟨#[172, 2, 1]⟩) W) := fun W A c hb => Lib.hid (run_conv hb 3 c rfl)
  go_enter Try.func11, Try.ntmps11
  go_wp2_with fail
  refine C1.out.mono ?_
  rintro _ w1 h1
  obtain ⟨a1, c1, rfl, hb1, hn1, hB1, _⟩ := h1.row
  have HB1 := Lib.hid hb1
  have HW1 := Lib.hid (bl_trans ((RowKit.Below.refl _ _).alloc (Nat.le_refl _) _) hB1)
  have HN1 := Lib.hid hn1
  clear h1 hb1 hB1 hn1 C1
  go_wp2_with fail
  refine (C2 _ _ _ HB1.out HN1.out).out.mono ?_
  rintro _ w2 h2
  obtain ⟨a2, c2, rfl, hb2, hn2, hB2, _⟩ := h2.row
  have HB2 := Lib.hid hb2
  have HW2 := Lib.hid (bl_trans HW1.out (bl_trans ((RowKit.Below.refl _ _).alloc (Nat.le_refl _) _) hB2))
  have HN2 := Lib.hid hn2
  clear h2 hb2 hB2 hn2 C2
  go_wp2_with fail
  refine (C3 _ _ _ HB2.out HN2.out).out.mono ?_
  rintro _ w3 ⟨g, rfl, hr3, hB3⟩
  have HB3 := Lib.hid (HB2.out.below hB3)
  have HW3 := Lib.hid (bl_trans HW2.out hB3)
  have HS := Lib.hid (show w.heap.size ≤ w2.heap.size from HW2.out.size)
  have HR3 := Lib.hid hr3
  have e1 := (cv w3 a2 c2 HB3.out).out
  clear hr3 hB3 C3 cv
  go_wp2_with fail
  refine (C4 _ _ _ HR3.out).out.mono ?_
  rintro _ w4 ⟨rfl, ht4⟩
  have HT4 := Lib.hid ht4
  have HW4 := Lib.hid (ht4.below HW3.out HW3.out.size HS.out)
  clear ht4 C4 e1
  go_wp2_with fail
  refine (C5 _ _ _ HT4.out.1).out.mono ?_
  rintro _ w5 ⟨rfl, ht5⟩
  have HT5 := Lib.hid ht5
  have HW5 := Lib.hid (ht5.below HW4.out HW4.out.size HS.out)
  clear ht5 C5
  go_wp2_with fail
  refine (C6 _ _ _ HT5.out.1).out.mono ?_
  rintro _ _ ⟨rfl, rfl⟩
  go_wp2
  go_ret
  exact ⟨rfl, HW5.out⟩
end Go.Proofs.Ytcahmijcfmakjaa
