/- Package crc: Close; bytes.Clone. -/
import Derived.Test.YtfbbkoibccndkaaCrN
namespace Go.Proofs.Ytfbbkoibccndkaa
open Go.RowKit Go.Lib

theorem seal_four (l : List UInt8) : ∃ b0 b1 b2 b3 : UInt8, sealL l = [b0, b1, b2, b3] := ⟨_, _, _, _, rfl⟩
set_option maxRecDepth 100000 in
set_option maxHeartbeats 800000 in
theorem close_any (a : Option Addr) (l : List UInt8) (n cap : Nat) (w : World) (hb : BAt w a l) (hn : l.length = n) (ha : a = none → l = []) (hl : n ≤ 500000) :
    Calls Try.prog 15 #[.slice a n cap] w (MadeB (l ++ sealL l) w) := by
  have H1 := Lib.hid (seal_any a l n cap w hb hn (by omega))
  obtain ⟨b0, b1, b2, b3, hs⟩ := seal_four l
  have H2 := fun W q A2 h0 h1 h2 h3 => Lib.hid (concat_any q a A2 l (sealL l) n 4 cap 4 W h0 h1 h2 h3 hn rfl ha (fun e => by rw [e] at h3; rcases h3 with h | ⟨_, _, h, _⟩; exact absurd h (by rw [hs]; exact List.cons_ne_nil _ _); cases h) (by omega) hl (by omega))
  rw [hs] at H1 H2 ⊢
  rw [show (bcells [b0, b1, b2, b3]).toArray = #[.int .u8 (b0.toNat : Int), .int .u8 (b1.toNat : Int), .int .u8 (b2.toNat : Int), .int .u8 (b3.toNat : Int)] from rfl] at H1
  have HB := Lib.hid hb
  clear hb hn hs ha
  go_enter Try.func15, Try.ntmps15
  go_wp2_with fail
  refine H1.out.mono ?_
  rintro _ w1 ⟨rfl, hb1⟩
  have HW1 := Lib.hid hb1
  clear hb1
  go_wp2_with fail
  refine (H2 _ _ (some ⟨w1.heap.size, 0, none⟩) (by simp) (by simp) (((HB.out.below HW1.out).below ((RowKit.Below.refl _ _).alloc (Nat.le_refl _) _)).below ((RowKit.Below.refl _ _).alloc (Nat.le_refl _) _)) ((bat_new _ _ _ _ rfl).below ((RowKit.Below.refl _ _).alloc (Nat.le_refl _) _))).out.mono ?_
  rintro _ w2 ⟨v, rfl, ho, hB2, hv⟩
  have hs := HW1.out.size
  have HO := Lib.hid (ho.mono (b2 := w.heap.size) (by simp; omega))
  have HW2 := Lib.hid (HW1.out.trans ((((RowKit.Below.refl _ _).alloc (Nat.le_refl _) _).alloc (by simp) _).trans (hB2.mono (by simp; omega)) |>.mono HW1.out.size))
  have HV := Lib.hid hv
  clear ho hB2 hv hs H2 H1
  go_wp2
  go_ret
  exact ⟨_, rfl, HO.out, HW2.out, HV.out⟩
theorem clone_some (p : Addr) (l : List UInt8) (n c : Nat) (w : World) (hb : BAt w (some p) l) (hn : l.length = n) (hl : n ≤ 900000000) :
    Calls Try.prog 19 #[.slice (some p) n c] w (MadeB l w) := by
  have q22 : ∀ (w : World) (a : Option Addr) (n c n' c' : Nat), (binOp .eql 22 (.slice a n c) (.slice none n' c')).run Try.prog w = .ok (.bool a.isNone) w := fun w a n c n' c' => Lib.run_eql_slice_nil w _ _ a n c n' c' Try.underlying22
  have HB := Lib.hid hb
  have HL := Lib.hid hl
  have HE := Lib.hid hn
  clear hb hl hn
  go_enter Try.func19, Try.ntmps19
  go_wp2_with (at_builtin; refine wpList_appB rfl _ _ rfl w.heap.size _ [] l (some p) _ n (by rfl) (by rfl) HE.out (OB.lit (Nat.le_refl _)) (HB.out.below ((RowKit.Below.refl _ _).alloc (Nat.le_refl _) _)) (fun h => by cases h) (by have := HL.out; have := HE.out; simp; omega) (by simp) ?_; intro v3 w3 h3)
  have H3 := Lib.hid h3
  clear h3
  go_wp2
  go_ret
  exact ⟨v3, rfl, H3.out.1, H3.out.2.1.below (OB.lit (Nat.le_refl _)) (by simp) ((RowKit.Below.refl _ _).alloc (Nat.le_refl _) _), fun e => by cases (H3.out.2.2.2 e).2⟩
end Go.Proofs.Ytfbbkoibccndkaa
