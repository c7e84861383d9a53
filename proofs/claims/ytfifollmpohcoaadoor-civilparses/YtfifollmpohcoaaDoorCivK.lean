/- Parse, of the program, whatever the text. -/
import Derived.Test.YtfifollmpohcoaaDoorCivI
import Derived.Test.YtfifollmpohcoaaDoorCivJ
namespace Go.Proofs.YtfifollmpohcoaaDoor
open Go.RowKit Go.Sort

theorem parse_yes {y m d : Int} (w : World) (hL : Lens w) (hr : rightP y m d) : Calls Tryd.prog 25 #[.string (textB y m d)] w fun e w' => e = .returned (.tuple #[.agg #[.int .i64 y, .int .i64 m, .int .i64 d], .int .i64 0]) ∧ Gr w w' := by
  obtain ⟨k1, k2, k3⟩ := text_val hr
  have h := parse_ten (dgB (y / 10 / 10 / 10)) (dgB (y / 10 / 10)) (dgB (y / 10)) (dgB y) 45 (dgB (m / 10)) (dgB m) 45 (dgB (d / 10)) (dgB d) (dgB (y / 10 / 10 / 10)) (dgB (y / 10 / 10)) (dgB (y / 10)) (dgB y) 45 (dgB (m / 10)) (dgB m) 45 (dgB (d / 10)) (dgB d) y m d w hL k1 k2 k3 (fun W hW => text_yes y m d W hW hr)
  rw [if_pos rfl] at h
  exact h

theorem ten_bytes (s : ByteArray) (h : s.size = 10) : ∃ c0 c1 c2 c3 c4 c5 c6 c7 c8 c9, s = ⟨#[c0, c1, c2, c3, c4, c5, c6, c7, c8, c9]⟩ := by
  obtain ⟨⟨l⟩⟩ := s
  have h' : l.length = 10 := h
  match l, h' with
  | [c0, c1, c2, c3, c4, c5, c6, c7, c8, c9], _ => exact ⟨c0, c1, c2, c3, c4, c5, c6, c7, c8, c9, rfl⟩
theorem val4_I (a b c d : UInt8) : I (val4 a b c d) := by
  have h0 : (a.toNat : Int) < 256 := by have := a.toNat_lt; omega
  have h1 : (b.toNat : Int) < 256 := by have := b.toNat_lt; omega
  have h2 : (c.toNat : Int) < 256 := by have := c.toNat_lt; omega
  have h3 : (d.toNat : Int) < 256 := by have := d.toNat_lt; omega
  unfold I val4
  omega
theorem parse_no (s : ByteArray) (w : World) (hL : Lens w) (h : ∀ y m d, rightP y m d → textB y m d ≠ s) : Calls Tryd.prog 25 #[.string s] w fun e w' => e = .returned (.tuple #[.agg #[.int .i64 0, .int .i64 0, .int .i64 0], .int .i64 31]) ∧ Gr w w' := by
  by_cases hs : s.size = 10
  · obtain ⟨c0, c1, c2, c3, c4, c5, c6, c7, c8, c9, rfl⟩ := ten_bytes s hs
    by_cases hr : rightP (val4 c0 c1 c2 c3) (val2 c5 c6) (val2 c8 c9)
    · have k := parse_ten c0 c1 c2 c3 c4 c5 c6 c7 c8 c9 _ _ _ _ _ _ _ _ _ _ _ _ _ w hL rfl rfl rfl (fun W hW => text_yes _ _ _ W hW hr)
      rw [if_neg] at k
      · exact k
      · intro he
        exact h _ _ _ hr (by unfold textB; rw [show ∀ a b : List UInt8, a = b → (⟨a.toArray⟩ : ByteArray) = ⟨b.toArray⟩ from fun a b e => by rw [e]] ; exact he)
    · exact parse_none c0 c1 c2 c3 c4 c5 c6 c7 c8 c9 _ _ _ w hL rfl rfl rfl (fun W hW => text_no _ _ _ W (val4_I _ _ _ _) hW hr)
  · exact parse_short s w hs
end Go.Proofs.YtfifollmpohcoaaDoor
