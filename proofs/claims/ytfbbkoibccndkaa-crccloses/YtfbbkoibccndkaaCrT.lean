/- falseworkref07: Of, Close. -/
import Derived.Test.YtfbbkoibccndkaaCrS
import Derived.Test.YtfbbkoibccndkaaCrO
namespace Go.Proofs.Ytfbbkoibccndkaa
open Go.RowKit Go.Lib

set_option maxRecDepth 100000 in
theorem rof_any (a : Option Addr) (l : List UInt8) (n cap : Nat) (w : World) (hb : BAt w a l) (hn : l.length = n) (hl : n ≤ 1000000) :
    Calls Try.prog 23 #[.slice a n cap] w fun e w' => e = .returned (.int .u32 (ofL l : Int)) ∧ RowKit.Below w.heap.size w w' := by
  have hlt := ad_lt (show 4294967295 < 4294967296 by omega) l
  have C1 := Lib.hid (rstart_any w)
  rw [show tab .i64 (fun _ => 1) = rg 4294967295 from tab_congr fun i hi => by
    have : bt 4294967295 i = 1 := by
      rw [bt_test, show (4294967295 : Nat) = 2 ^ 32 - 1 by decide, Nat.testBit_two_pow_sub_one]
      simp [hi]
    rw [this]; rfl] at C1
  have C2 := fun (W : World) (h : BAt W a l) => Lib.hid (radd_any 4294967295 a l n cap W (by omega) h hn hl)
  have C3 := fun (W : World) => Lib.hid (number_any (ad 4294967295 l) W hlt)
  have HE := Lib.hid (show IntKind.u32.wrap (4294967295 - (ad 4294967295 l : Int)) = (ofL l : Int) by
    unfold ofL
    rw [sm_sub hlt, IntKind.wrap_u32']
    omega)
  have HE2 := Lib.hid (show (4294967295 - (ad 4294967295 l : Int)) = (ofL l : Int) by
    unfold ofL
    rw [sm_sub hlt]
    omega)
  obtain ⟨p, hp⟩ : ∃ p, p = ad 4294967295 l := ⟨_, rfl⟩
  rw [← hp] at C2 C3 HE HE2
  have hlt' : (p : Int) ≤ 4294967295 := by rw [hp]; omega
  obtain ⟨R0, hR0⟩ : ∃ R0, R0 = rg 4294967295 := ⟨_, rfl⟩
  obtain ⟨R1, hR1⟩ : ∃ R1, R1 = rg p := ⟨_, rfl⟩
  rw [← hR0] at C1 C2
  rw [← hR1] at C2 C3
  have HB := Lib.hid hb
  clear hp hR0 hR1 hb hn hlt
  go_enter Try.func23, Try.ntmps23
  go_wp2_with fail
  refine C1.out.mono ?_
  rintro _ w1 ⟨rfl, hb1⟩
  have HW1 := Lib.hid hb1
  clear hb1
  go_wp2_with fail
  refine (C2 _ (HB.out.below HW1.out)).out.mono ?_
  rintro _ w2 ⟨rfl, hb2⟩
  have HW2 := Lib.hid (HW1.out.trans (hb2.mono HW1.out.size))
  clear hb2
  go_wp2_with fail
  refine (C3 _).out.mono ?_
  rintro _ w3 ⟨rfl, hb3⟩
  have HW3 := Lib.hid (HW2.out.trans (hb3.mono HW2.out.size))
  clear hb3
  go_wp2
  go_ret
  exact ⟨ret_int HE2.out, HW3.out⟩
theorem rle4 (s : Nat) (hs : s < 4294967296) : [Value.int .u8 ((s : Int) % 256), .int .u8 ((s : Int) / 256 % 256), .int .u8 ((s : Int) / 65536 % 256), .int .u8 ((s : Int) / 16777216)] = bcells (le4 s) := by
  have := congrArg Array.toList (le4_cells s hs)
  simpa using this
set_option maxRecDepth 100000 in
set_option maxHeartbeats 800000 in
theorem rclose_any (a : Option Addr) (l : List UInt8) (n cap : Nat) (w : World) (hb : BAt w a l) (hn : l.length = n) (ha : a = none → l = []) (hl : n ≤ 500000) :
    Calls Try.prog 16 #[.slice a n cap] w (MadeB (l ++ sealL l) w) := by
  have C1 := Lib.hid (rof_any a l n cap w hb hn (by omega))
  obtain ⟨s, hs⟩ : ∃ s, s = ofL l := ⟨_, rfl⟩
  have hs1 : s < 4294967296 := by rw [hs]; exact ofL_lt l
  have HS := Lib.hid (show sealL l = le4 s by rw [hs]; rfl)
  rw [← hs] at C1
  have HC := Lib.hid (rle4 s hs1)
  have HB := Lib.hid hb
  have HN := Lib.hid hn
  have HA := Lib.hid ha
  clear hb hn ha hs
  go_enter Try.func16, Try.ntmps16
  go_wp2_with fail
  refine C1.out.mono ?_
  rintro _ w1 ⟨rfl, hb1⟩
  have HW1 := Lib.hid hb1
  have HB1 := Lib.hid ((HB.out.below hb1).below ((RowKit.Below.refl _ _).alloc (Nat.le_refl _) (.cells #[] 5)))
  have HL1 := Lib.hid (show ([] : List UInt8).length + l.length ≤ 1000000000 by have := HN.out; simp; omega)
  have hsz := hb1.size
  clear hb1
  have HL2 := Lib.hid (show l.length + (le4 s).length ≤ 1000000000 by have := HN.out; show _ + 4 ≤ _; omega)
  go_wp2_with (first
    | (at_builtin; refine wpList_appB rfl _ _ rfl w1.heap.size v1 l (le4 s) _ 4 4 (by rfl) (by rfl) rfl (HO2.out.below ((RowKit.Below.refl _ _).alloc (Nat.le_refl _) _)) (bat_new _ _ _ _ HC.out) (fun h => by cases h) HL2.out (Nat.le_trans HS2.out (by simp)) ?_; intro v2 w3 h3)
    | (at_builtin; refine wpList_appB rfl _ _ rfl w1.heap.size _ [] l a cap n (by rfl) (by rfl) HN.out (OB.lit (Nat.le_refl _)) HB1.out HA.out HL1.out (by simp) ?_; intro v1 w2 h2; rw [List.nil_append] at h2; obtain ⟨o2, u2, s2, z2⟩ := h2; have HO2 := Lib.hid o2; have HU2 := Lib.hid (u2.below (OB.lit (Nat.le_refl _)) (by simp) ((RowKit.Below.refl w1.heap.size w1).alloc (Nat.le_refl _) _)); have HS2 := Lib.hid s2; have HV2 := Lib.hid (show v1 = .slice none 0 0 → False from fun e => by cases (z2 e).2); clear o2 u2 s2 z2))
  obtain ⟨o3, u3, s3, z3⟩ := h3
  have HO3 := Lib.hid (o3.mono hsz)
  have HU3 := Lib.hid (HW1.out.trans ((u3.below (HO2.out.below ((RowKit.Below.refl _ _).alloc (Nat.le_refl _) _)) (Nat.le_trans HS2.out (by simp)) (HU2.out.trans (((RowKit.Below.refl _ _).alloc (Nat.le_refl _) _).mono HS2.out))).mono hsz))
  have HV3 := Lib.hid (show v2 = .slice none 0 0 → False from fun e => HV2.out (z3 e).2)
  clear o3 u3 s3 z3
  go_simp
  go_wp2
  go_ret
  rw [HS.out]
  exact ⟨_, rfl, HO3.out, HU3.out, HV3.out⟩
end Go.Proofs.Ytfbbkoibccndkaa
