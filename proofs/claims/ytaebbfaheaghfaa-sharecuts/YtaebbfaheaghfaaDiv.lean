/- The walk of math/bits.Div64: for hi < y it returns the quotient and the remainder of hi * 2^64 + lo by y. -/
import Derived.Test.YtaebbfaheaghfaaDivBits
import Derived.Deep.QuietTactic
import Derived.BigQuiet
import Derived.Deep.DeepCutAuto
import Derived.Deep.LoopGhost
import Derived.Deep.CutBlock
import Derived.Deep.Light
namespace Go.Proofs.Ytaebbfaheaghfaa
open Go.RowKit

set_option maxHeartbeats 1000000 in
theorem div64_small (lo y : Int) (w : World) (l0 : 0 ≤ lo) (l1 : lo < 18446744073709551616) (y0 : 1 ≤ y) (y1 : y < 18446744073709551616) :
    Calls Try.prog 47 #[.int .u64 0, .int .u64 lo, .int .u64 y] w fun e w' => e = .returned (.tuple #[.int .u64 (lo / y), .int .u64 (lo % y)]) ∧ ∃ n, w' = w.drewN n := by
  have hy : (y == 0) = false := beq_eq_false_iff_ne.2 (by omega)
  have hy2 : decide (y ≤ 0) = false := by simp; omega
  have a1 := Int.ediv_nonneg l0 (show 0 ≤ y by omega)
  have a2 : lo / y ≤ lo := Int.ediv_le_self y l0
  have b1 := Int.emod_nonneg lo (show y ≠ 0 by omega)
  have b2 := Int.emod_lt_of_pos lo (show 0 < y by omega)
  go_enter Try.func47, Try.ntmps47
  go_wp2
  go_quiet (fail)
  go_wp2
  go_ret2
  exact ⟨rfl, _, rfl⟩
theorem wrap_rem (U d Q Y V : Nat) (hY : 0 < Y) (hY2 : Y < 18446744073709551616) (hQ : Q = (U * 4294967296 + d) / Y) (hV : V = (U * 4294967296 + d) % Y) :
    IntKind.u64.wrap (IntKind.u64.wrap (IntKind.u64.wrap ((U : Int) * 4294967296) + (d : Int)) - IntKind.u64.wrap ((Q : Int) * (Y : Int))) = (V : Int) := by
  have e := Nat.div_add_mod' (U * 4294967296 + d) Y
  rw [← hQ, ← hV] at e
  have hlt : V < Y := by rw [hV]; exact Nat.mod_lt _ hY
  rw [← Int.natCast_mul Q Y]
  simp only [IntKind.wrap_u64]
  generalize Q * Y = P at *
  omega

/-- What a loop's end tells: q is the quotient. -/
def Done (U d Y q : Nat) : Prop := q = (U * 4294967296 + d) / Y

theorem mulN (a b : Nat) : (a : Int) * (b : Int) = ((a * b : Nat) : Int) := (Int.natCast_mul a b).symm

set_option maxHeartbeats 2000000 in
set_option maxRecDepth 100000 in
theorem div64_great (hi lo y : Nat) (w : World) (h0 : 1 ≤ hi) (h1 : hi < y) (l1 : lo < 18446744073709551616) (y1 : y < 18446744073709551616) :
    Calls Try.prog 47 #[.int .u64 hi, .int .u64 lo, .int .u64 y] w fun e w' => e = .returned (.tuple #[.int .u64 (((hi * 18446744073709551616 + lo) / y : Nat) : Int), .int .u64 (((hi * 18446744073709551616 + lo) % y : Nat) : Int)]) ∧ w = w' := by
  have hbl := bitLen_spec y
  have hb0 : bitLen y ≤ 64 := by
    unfold bitLen
    split
    · omega
    · rename_i h
      have := (Nat.log2_lt h).2 (show y < 2 ^ 64 by omega)
      omega
  have hb1 : 1 ≤ bitLen y := by
    unfold bitLen
    split <;> omega
  have hn := DivM.norm y (64 - bitLen y) (bitLen y) hbl.1 (hbl.2 (by omega)) hb1 hb0 rfl
  clear hbl
  have hy : ((y : Int) == 0) = false := beq_eq_false_iff_ne.2 (by omega)
  have hy2 : decide ((y : Int) ≤ hi) = false := by simp; omega
  have hh : ((hi : Int) == 0) = false := beq_eq_false_iff_ne.2 (by omega)
  go_enter Try.func47, Try.ntmps47
  go_wp2_with fail
  refine (lz64_any _ _ (by omega) (by omega)).mono ?_
  rintro e w' ⟨rfl, rfl⟩
  rw [Int.toNat_natCast]
  have hs64 : 64 - bitLen y ≤ 63 := by omega
  clear hb0 hb1
  generalize 64 - bitLen y = s at *
  obtain ⟨Y, hY⟩ : ∃ Y, Y = y * 2 ^ s := ⟨_, rfl⟩
  obtain ⟨U, hU⟩ : ∃ U, U = hi * 2 ^ s + lo / 2 ^ (64 - s) := ⟨_, rfl⟩
  obtain ⟨L, hL⟩ : ∃ L, L = lo * 2 ^ s % 18446744073709551616 := ⟨_, rfl⟩
  have hUY : U < Y := by rw [hY, hU]; exact DivM.u_lt hi lo y s (by omega) h1 l1
  have hll := DivM.low_lt lo s (by omega) l1
  rw [← hY] at hn
  have bL : L < 18446744073709551616 := by rw [hL]; exact Nat.mod_lt _ (by omega)
  have eY : IntKind.u64.wrap ((y : Int) * 2 ^ s) = (Y : Int) := by
    have : ((y : Int) * 2 ^ s) = ((y * 2 ^ s : Nat) : Int) := by simp
    rw [this, ← hY, IntKind.wrap_u64]; omega
  have eL : IntKind.u64.wrap ((lo : Int) * 2 ^ s) = (L : Int) := by
    have : ((lo : Int) * 2 ^ s) = ((lo * 2 ^ s : Nat) : Int) := by simp
    rw [this, hL, IntKind.wrap_u64]; omega
  have hiU : hi * 2 ^ s ≤ U := by rw [hU]; exact Nat.le_add_right _ _
  have loS : lo / 2 ^ (64 - s) ≤ lo := Nat.div_le_self _ _
  have eU : bits .or .u64 (IntKind.u64.wrap ((hi : Int) * 2 ^ s)) ((lo : Int) / 2 ^ (64 - s)) = (U : Int) := by
    have a : ((hi : Int) * 2 ^ s) = ((hi * 2 ^ s : Nat) : Int) := by simp
    have b : ((lo : Int) / 2 ^ (64 - s)) = ((lo / 2 ^ (64 - s) : Nat) : Int) := by simp
    have c : IntKind.u64.wrap ((hi * 2 ^ s : Nat) : Int) = ((hi * 2 ^ s : Nat) : Int) := by rw [IntKind.wrap_u64]; omega
    rw [a, b, c, bits_or_u64_nat _ _ (by omega) (Nat.lt_of_le_of_lt loS l1), DivM.or_add _ _ _ hll, ← hU]
  have HY := Lib.hid hY; clear hY
  have HU := Lib.hid hU; clear hU
  have HL := Lib.hid hL; clear hL
  clear hll hiU loS
  obtain ⟨hn1, hn2⟩ := hn
  obtain ⟨Y1, hY1⟩ : ∃ Y1, Y1 = Y / 4294967296 := ⟨_, rfl⟩
  obtain ⟨Y0, hY0⟩ : ∃ Y0, Y0 = Y % 4294967296 := ⟨_, rfl⟩
  obtain ⟨L1, hL1⟩ : ∃ L1, L1 = L / 4294967296 := ⟨_, rfl⟩
  obtain ⟨L0, hL0⟩ : ∃ L0, L0 = L % 4294967296 := ⟨_, rfl⟩
  have eY1 : (Y : Int) / 4294967296 = (Y1 : Int) := by omega
  have eY0 : bits .and .u64 (Y : Int) 4294967295 = (Y0 : Int) := by rw [Mul64.maskN Y hn2, hY0]
  have eL1 : (L : Int) / 4294967296 = (L1 : Int) := by omega
  have eL0 : bits .and .u64 (L : Int) 4294967295 = (L0 : Int) := by rw [Mul64.maskN L bL, hL0]
  have eYY : Y = Y1 * 4294967296 + Y0 := by omega
  have bY1 : 2147483648 ≤ Y1 := by omega
  have bY1' : Y1 < 4294967296 := by omega
  have bY0 : Y0 < 4294967296 := by omega
  have bL1 : L1 < 4294967296 := by omega
  have bL0 : L0 < 4294967296 := by omega
  have bU : U < Y1 * 4294967296 + Y0 := by omega
  have inv0 := DivM.inv_init Y1 Y0 U L1 bY1 bY1' bY0 bL1 bU
  obtain ⟨Q, hQ⟩ : ∃ Q, Q = U / Y1 := ⟨_, rfl⟩
  obtain ⟨R, hR⟩ : ∃ R, R = U % Y1 := ⟨_, rfl⟩
  have hQR := Nat.div_add_mod' U Y1
  rw [← hQ, ← hR] at inv0 hQR
  have eQ : IntKind.u64.wrap ((U : Int) / (Y1 : Int)) = (Q : Int) := by
    rw [hQ, ← Int.natCast_ediv, IntKind.wrap_u64]
    have := Nat.div_le_self U Y1
    omega
  have eR : IntKind.u64.wrap ((U : Int) - IntKind.u64.wrap ((Q : Int) * (Y1 : Int))) = (R : Int) := by
    rw [mulN, IntKind.wrap_u64, IntKind.wrap_u64]
    generalize Q * Y1 = P at *
    omega
  have HYY := Lib.hid eYY; clear eYY
  have HL1 := Lib.hid hL1; clear hL1
  have HL0 := Lib.hid hL0; clear hL0
  clear hY1 hY0 hQ hR hQR
  go_upto_block 0 with (fail)
  go_cut [15] (fun s15 wx => ∃ q : Nat, s15 = .int .u64 q ∧ Done U L1 Y q ∧ wx = w)
  case first =>
    clear eQ eR
    go_wp2
    go_loopg [15, 16] (4294967296 - R) (fun k q r wr => ∃ Q R : Nat, q = .int .u64 Q ∧ r = .int .u64 R ∧ DivM.Inv Y1 Y0 U L1 Q R ∧ k = 4294967296 - R ∧ wr = w)
    case atStart => exact ⟨Q, R, rfl, rfl, inv0, rfl, rfl⟩
    case round =>
      obtain ⟨q, r, rfl, rfl, iv, rfl, rfl⟩ := hrel
      have hm := iv.most
      have hsm := iv.small
      by_cases hA : 4294967296 ≤ q
      · have hgo : 4294967296 ≤ q ∨ 4294967296 * r + L1 < q * Y0 := Or.inl hA
        have hA' : decide (4294967296 ≤ (q : Int)) = true := by simp only [decide_eq_true_eq]; omega
        have hA2 : 1 ≤ q := by omega
        by_cases hbr : r + Y1 < 4294967296
        · have iv2 := DivM.go_inv Y1 Y0 U L1 q r bL1 bU iv hgo hbr
          have hbr' : decide (4294967296 ≤ (r : Int) + (Y1 : Int)) = false := by simp only [decide_eq_false_iff_not]; omega
          clear iv inv0 hgo hbr hA
          go_wp2
          go_roundg (4294967296 - (r + Y1))
          case measure => simp only [decide_eq_false_iff_not] at hbr'; omega
          case rel => exact ⟨q - 1, r + Y1, by go_num, by go_num, iv2, rfl, rfl⟩
        · have dn := DivM.brk Y1 Y0 U L1 q r bY0 bL1 bU iv hgo (by omega)
          have Hdn := Lib.hid dn
          have hbr' : decide (4294967296 ≤ (r : Int) + (Y1 : Int)) = true := by simp only [decide_eq_true_eq]; omega
          clear iv inv0 hgo dn hbr hA
          go_wp2
          go_meet
          exact ⟨q - 1, by go_num, by rw [Done, HYY.out, Hdn.out], rfl⟩
      · have f1 : 0 ≤ (q : Int) * (Y0 : Int) := by rw [mulN]; omega
        have f2 : (q : Int) * (Y0 : Int) ≤ 18446744073709551615 := by
          rw [mulN]
          have := Nat.mul_le_mul (show q ≤ 4294967295 by omega) (show Y0 ≤ 4294967295 by omega)
          omega
        have hA' : decide (4294967296 ≤ (q : Int)) = false := by simp; omega
        by_cases hB : 4294967296 * r + L1 < q * Y0
        · have hgo : 4294967296 ≤ q ∨ 4294967296 * r + L1 < q * Y0 := Or.inr hB
          have hpos := DivM.go_pos Y0 L1 q r hgo
          have hB' : 4294967296 * (r : Int) + (L1 : Int) < (q : Int) * (Y0 : Int) := by rw [mulN]; omega
          by_cases hbr : r + Y1 < 4294967296
          · have iv2 := DivM.go_inv Y1 Y0 U L1 q r bL1 bU iv hgo hbr
            have hbr' : decide (4294967296 ≤ (r : Int) + (Y1 : Int)) = false := by simp only [decide_eq_false_iff_not]; omega
            clear iv inv0 hgo hB hbr
            go_wp2
            go_roundg (4294967296 - (r + Y1))
            case measure => simp only [decide_eq_false_iff_not] at hbr'; omega
            case rel => exact ⟨q - 1, r + Y1, by go_num, by go_num, iv2, rfl, rfl⟩
          · have dn := DivM.brk Y1 Y0 U L1 q r bY0 bL1 bU iv hgo (by omega)
            have Hdn := Lib.hid dn
            have hbr' : decide (4294967296 ≤ (r : Int) + (Y1 : Int)) = true := by simp only [decide_eq_true_eq]; omega
            clear iv inv0 hgo dn hB hbr
            go_wp2
            go_meet
            exact ⟨q - 1, by go_num, by rw [Done, HYY.out, Hdn.out], rfl⟩
        · have dn := DivM.stop Y1 Y0 U L1 q r iv (by omega)
          have hB' : decide (4294967296 * (r : Int) + (L1 : Int) < (q : Int) * (Y0 : Int)) = false := by rw [mulN]; simp only [decide_eq_false_iff_not]; omega
          have Hdn := Lib.hid dn
          clear iv inv0 dn hB
          go_wp2
          go_meet
          exact ⟨q, rfl, by rw [Done, HYY.out]; exact Hdn.out, rfl⟩
  case rest =>
    obtain ⟨q1, rfl, hq1, rfl⟩ := hcut
    clear eQ eR inv0
    have bq1 : q1 < 4294967296 := by rw [hq1, HYY.out]; exact DivM.q_lt Y1 Y0 U L1 bL1 bU
    obtain ⟨V, hV⟩ : ∃ V, V = (U * 4294967296 + L1) % Y := ⟨_, rfl⟩
    have bV : V < Y1 * 4294967296 + Y0 := by rw [hV, ← HYY.out]; exact Nat.mod_lt _ (by omega)
    have bVY : V < Y := by rw [HYY.out]; exact bV
    have eV := wrap_rem U L1 q1 Y V (by omega) hn2 hq1 hV
    have inv0 := DivM.inv_init Y1 Y0 V L0 bY1 bY1' bY0 bL0 bV
    obtain ⟨Q2, hQ⟩ : ∃ Q, Q = V / Y1 := ⟨_, rfl⟩
    obtain ⟨R2, hR⟩ : ∃ R, R = V % Y1 := ⟨_, rfl⟩
    have hQR := Nat.div_add_mod' V Y1
    rw [← hQ, ← hR] at inv0 hQR
    have eQ : IntKind.u64.wrap ((V : Int) / (Y1 : Int)) = (Q2 : Int) := by
      rw [hQ, ← Int.natCast_ediv, IntKind.wrap_u64]
      have := Nat.div_le_self V Y1
      omega
    have eR : IntKind.u64.wrap ((V : Int) - IntKind.u64.wrap ((Q2 : Int) * (Y1 : Int))) = (R2 : Int) := by
      rw [mulN, IntKind.wrap_u64, IntKind.wrap_u64]
      generalize Q2 * Y1 = P at *
      omega
    have HV := Lib.hid hV
    clear hQ hR hQR hV
    have Hq1 : Hid (Done U L1 Y q1) := hq1
    clear hq1
    go_upto_block 2 with (fail)
    go_cut [18] (fun s18 wx => ∃ q : Nat, s18 = .int .u64 q ∧ Done V L0 Y q ∧ wx = wc)
    case first =>
      clear eQ eR
      go_wp2
      go_loopg [18, 16] (4294967296 - R2) (fun k q r wr => ∃ Q R : Nat, q = .int .u64 Q ∧ r = .int .u64 R ∧ DivM.Inv Y1 Y0 V L0 Q R ∧ k = 4294967296 - R ∧ wr = wc)
      case atStart => exact ⟨Q2, R2, rfl, rfl, inv0, rfl, rfl⟩
      case round =>
        obtain ⟨q, r, rfl, rfl, iv, rfl, rfl⟩ := hrel
        have hm := iv.most
        have hsm := iv.small
        by_cases hA : 4294967296 ≤ q
        · have hgo : 4294967296 ≤ q ∨ 4294967296 * r + L0 < q * Y0 := Or.inl hA
          have hA' : decide (4294967296 ≤ (q : Int)) = true := by simp only [decide_eq_true_eq]; omega
          have hA2 : 1 ≤ q := by omega
          by_cases hbr : r + Y1 < 4294967296
          · have iv2 := DivM.go_inv Y1 Y0 V L0 q r bL0 bV iv hgo hbr
            have hbr' : decide (4294967296 ≤ (r : Int) + (Y1 : Int)) = false := by simp only [decide_eq_false_iff_not]; omega
            clear iv inv0 hgo hbr hA
            go_wp2
            go_roundg (4294967296 - (r + Y1))
            case measure => simp only [decide_eq_false_iff_not] at hbr'; omega
            case rel => exact ⟨q - 1, r + Y1, by go_num, by go_num, iv2, rfl, rfl⟩
          · have dn := DivM.brk Y1 Y0 V L0 q r bY0 bL0 bV iv hgo (by omega)
            have Hdn := Lib.hid dn
            have hbr' : decide (4294967296 ≤ (r : Int) + (Y1 : Int)) = true := by simp only [decide_eq_true_eq]; omega
            clear iv inv0 hgo dn hbr hA
            go_wp2
            go_meet
            exact ⟨q - 1, by go_num, by rw [Done, HYY.out, Hdn.out], rfl⟩
        · have f1 : 0 ≤ (q : Int) * (Y0 : Int) := by rw [mulN]; omega
          have f2 : (q : Int) * (Y0 : Int) ≤ 18446744073709551615 := by
            rw [mulN]
            have := Nat.mul_le_mul (show q ≤ 4294967295 by omega) (show Y0 ≤ 4294967295 by omega)
            omega
          have hA' : decide (4294967296 ≤ (q : Int)) = false := by simp; omega
          by_cases hB : 4294967296 * r + L0 < q * Y0
          · have hgo : 4294967296 ≤ q ∨ 4294967296 * r + L0 < q * Y0 := Or.inr hB
            have hpos := DivM.go_pos Y0 L0 q r hgo
            have hB' : 4294967296 * (r : Int) + (L0 : Int) < (q : Int) * (Y0 : Int) := by rw [mulN]; omega
            by_cases hbr : r + Y1 < 4294967296
            · have iv2 := DivM.go_inv Y1 Y0 V L0 q r bL0 bV iv hgo hbr
              have hbr' : decide (4294967296 ≤ (r : Int) + (Y1 : Int)) = false := by simp only [decide_eq_false_iff_not]; omega
              clear iv inv0 hgo hB hbr
              go_wp2
              go_roundg (4294967296 - (r + Y1))
              case measure => simp only [decide_eq_false_iff_not] at hbr'; omega
              case rel => exact ⟨q - 1, r + Y1, by go_num, by go_num, iv2, rfl, rfl⟩
            · have dn := DivM.brk Y1 Y0 V L0 q r bY0 bL0 bV iv hgo (by omega)
              have Hdn := Lib.hid dn
              have hbr' : decide (4294967296 ≤ (r : Int) + (Y1 : Int)) = true := by simp only [decide_eq_true_eq]; omega
              clear iv inv0 hgo dn hB hbr
              go_wp2
              go_meet
              exact ⟨q - 1, by go_num, by rw [Done, HYY.out, Hdn.out], rfl⟩
          · have dn := DivM.stop Y1 Y0 V L0 q r iv (by omega)
            have hB' : decide (4294967296 * (r : Int) + (L0 : Int) < (q : Int) * (Y0 : Int)) = false := by rw [mulN]; simp only [decide_eq_false_iff_not]; omega
            have Hdn := Lib.hid dn
            clear iv inv0 dn hB
            go_wp2
            go_meet
            exact ⟨q, rfl, by rw [Done, HYY.out]; exact Hdn.out, rfl⟩
    case rest =>
      obtain ⟨q0, rfl, hq0, rfl⟩ := hcut
      clear eQ eR inv0
      have bq0 : q0 < 4294967296 := by rw [hq0, HYY.out]; exact DivM.q_lt Y1 Y0 V L0 bL0 bV
      obtain ⟨Z, hZ⟩ : ∃ Z, Z = (V * 4294967296 + L0) % Y := ⟨_, rfl⟩
      have eZ := wrap_rem V L0 q0 Y Z (by omega) hn2 hq0 hZ
      have fin := DivM.whole hi lo y s Y U L (by omega) (by omega) HY.out HU.out HL.out q1 V q0 (by rw [← HL1.out]; exact Hq1.out) (by rw [← HL1.out]; exact HV.out) (by rw [← HL0.out]; exact hq0)
      rw [← HL0.out, ← hZ] at fin
      have Hfin := Lib.hid fin
      clear fin hZ hq0
      go_wp2
      go_ret2
      refine ⟨?_, rfl⟩
      rw [← Hfin.out.1, ← Hfin.out.2]
      simp
end Go.Proofs.Ytaebbfaheaghfaa
