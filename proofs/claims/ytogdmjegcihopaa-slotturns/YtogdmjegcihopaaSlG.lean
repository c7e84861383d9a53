
/- falseworklaw11: slotAlive; a slot's calls beside what lies above a world. -/
import Derived.Test.YtogdmjegcihopaaSlF
import Derived.Test.YtogdmjegcihopaaLgEG
namespace Go.Proofs.Ytogdmjegcihopaa
set_option maxRecDepth 100000
open Go.RowKit Go.Lib

/-- a write into places in which all were written whole -/
theorem sl_write {w0 w : World} {F : Nat → Prop} {g : Nat} {d : Dk} {x s : Int} {n : Nat} {b : List UInt8} (h : DW w0 w F g d) (k : Sl d x s n b) (hn : n + 1 < 18446744073709551616) {l : List UInt8} {a : Option Addr} {len cap : Nat} (hb : BAt w a l) (hl : l.length = len) (ha : a = none → l = []) (hm : len + 4 ≤ 13515) (hs : (spanN (len + 4) : Int) ≤ s) (hx : I x) (hsi : I s) :
    Calls Try.prog 9 #[.pointer (some ⟨g, 0, none⟩), .int .i64 x, .int .i64 s, .slice a len cap] w (fun e w' => e = .returned (.tuple #[.int .u64 ((n + 1 : Nat) : Int), .int .i64 0]) ∧ ∃ F' d', DW w0 w' F' g d' ∧ Sl d' x s (n + 1) l ∧ d'.base.length = d.base.length) := by
  obtain ⟨d', he, k'⟩ := k.write hn (l := l) (by omega) (by rw [hl]; exact hs)
  refine (swrite_any g F d x s l a len cap w h.dt hx hsi hb hl ha (by omega) (by rw [k.q]; show 0 < 9700; omega)).mono ?_
  rintro e w' ⟨rfl, hdid⟩
  rw [he] at hdid ⊢
  obtain ⟨F', h'⟩ := h.next hdid
  have hbl := (slotW_lens d x s l).2
  rw [he] at hbl
  exact ⟨rfl, F', d', h', k', hbl⟩
/-- a read -/
theorem sl_read {w0 w : World} {F : Nat → Prop} {g : Nat} {d : Dk} {x s : Int} {n : Nat} {b : List UInt8} (h : DW w0 w F g d) (k : Sl d x s n b) (hn : n ≠ 0) (hx : I x) (hs : I s) :
    Calls Try.prog 8 #[.pointer (some ⟨g, 0, none⟩), .int .i64 x, .int .i64 s] w (fun e w' => ∃ a c, e = .returned (.tuple #[.slice a b.length c, .int .u64 (n : Int), .int .i64 0]) ∧ BAt w' a b ∧ RowKit.Below w.heap.size w w') := by
  refine (sread_any g F d x s w h.dt hx hs).mono ?_
  rintro e w' ⟨a, c, rfl, h1, _, _, h4⟩
  have e : d.slot x s = (⟨b, n⟩, 0) := by
    rcases k.cur with ⟨e, _⟩ | ⟨_, e⟩
    · exact absurd e hn
    · exact e
  rw [e] at h1 ⊢
  exact ⟨a, c, rfl, h1, h4⟩
set_option maxRecDepth 100000 in
set_option maxHeartbeats 1600000 in
theorem slotAlive_any (w : World) : Calls Try.prog 11 #[] w fun e w' => e = .returned (.bool true) ∧ RowKit.Below w.heap.size w w' := by
  have B := Lib.hid (blank_any 6 w)
  have cv := conv_const
  go_enter Try.func11, Try.ntmps11
  go_wp2_with fail
  refine B.out.mono ?_
  rintro _ w1 ⟨g, F, rfl, hd, hb1, hf⟩
  have HD1 := Lib.hid (show DW w w1 F g (Dk.blank 6) from ⟨hd, hf, hb1⟩)
  have HK1 := Lib.hid (show Sl (Dk.blank 6) 1 2 0 [] from Sl.blank (by omega) (by omega) (by omega) (by omega) (by omega))
  have HWR := Lib.hid (fun (W : World) (hb : RowKit.Below w1.heap.size w1 W) (q : Nat) (h : BAt W (some ⟨q, 0, none⟩) abL) => sl_write (HD1.out.below hb) HK1.out (by omega) h (len := 2) (cap := 2) rfl (fun e => by cases e) (by omega) (by decide) (by unfold I; omega) (by unfold I; omega))
  clear hd hb1 hf B
  go_wp2_with fail
  refine (HWR.out _ ((RowKit.Below.refl _ _).alloc (Nat.le_refl _) _) _ (bat_mark _ _ _ _ _ rfl rfl)).mono ?_
  rintro _ w2 ⟨rfl, F2, d2, hd2, hk2, _⟩
  have HD2 := Lib.hid hd2
  have HRD := Lib.hid (sl_read hd2 hk2 (by omega) (by unfold I; omega) (by unfold I; omega))
  clear hd2 hk2 HWR
  go_wp2_with fail
  refine HRD.out.mono ?_
  rintro _ w3 ⟨a3, c3, rfl, hba, hb3⟩
  have HD3 := Lib.hid (HD2.out.below hb3)
  have hcv := run_conv (w := w3) hba abL.length c3 rfl
  rw [show strB abL = ⟨#[97, 98]⟩ from rfl] at hcv
  clear hba hb3 HRD
  go_wp2
  go_ret
  exact ⟨rfl, HD3.out.bl⟩
end Go.Proofs.Ytogdmjegcihopaa
