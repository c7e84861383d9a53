/- falseworkref07: a register as a number. -/
import Derived.Test.YtfbbkoibccndkaaCrE
namespace Go.Proofs.Ytfbbkoibccndkaa
open Go.RowKit Go.Lib

set_option maxRecDepth 100000 in
set_option maxHeartbeats 800000 in
theorem number_any (r : Nat) (w : World) (hr : r < 4294967296) : Calls Try.prog 12 #[.agg (rg r)] w fun e w' => e = .returned (.int .u32 (r : Int)) ∧ RowKit.Below w.heap.size w w' := by
  obtain ⟨R, hR⟩ : ∃ R, R = rg r := ⟨_, rfl⟩
  have HG := fun (i : Nat) (h : i < 32) => rg_get r h
  rw [← hR] at HG
  rw [← hR]
  have HGG := Lib.hid HG
  have HR := Lib.hid hr
  clear hR HG hr
  go_enter Try.func12, Try.ntmps12
  go_wp2_with (with_reducible refine wpList_box0 rfl _ _ rfl _ rfl ?_)
  go_loopw [3, 4] (fun c3 c4 wr => ∃ (i : Int) (o : Nat), c4 = .int .i64 i ∧ c3 = .int .u32 (o : Int) ∧ -1 ≤ i ∧ i ≤ 31 ∧ Hid (o = r / 2 ^ (i + 1).toNat) ∧ wr = w.alloc (.cells R 30)) (fun _ c4 _ => (match c4 with | .int _ q => q + 1 | _ => 0).toNat)
  case atStart => exact ⟨31, 0, rfl, rfl, by omega, by omega, by show 0 = _; have := HR.out; rw [Nat.div_eq_of_lt]; exact this, rfl⟩
  case round =>
    obtain ⟨i, o, rfl, rfl, h1, h2, HO, rfl⟩ := hrel
    by_cases hlt : 0 ≤ i
    · obtain ⟨k, rfl⟩ := Int.eq_ofNat_of_zero_le hlt
      have hg := HGG.out k (by omega)
      have hb := bt_le r k
      have hd := down_next r k
      have ho : o = r / 2 ^ (k + 1) := HO.out
      have hle := Nat.div_le_self r (2 ^ k)
      rw [← ho] at hd
      generalize bt r k = v at *
      have HD := Lib.hid hd
      have hob : 2 * (o : Int) + (v : Int) ≤ 4294967295 := by have := HR.out; omega
      clear ho hd hle HO
      go_wp2
      go_roundw
      case rel => exact ⟨(k : Int) - 1, 2 * o + v, rfl, by go_num, by omega, by omega, by show _ = _; rw [HD.out]; congr 2; omega, trivial⟩
      case measure => simp
    · have e : i = -1 := by omega
      subst e
      have ho : o = r := by rw [HO.out]; simp
      subst ho
      go_wp2
      go_ret
      exact ⟨rfl, (RowKit.Below.refl _ _).alloc (Nat.le_refl _) _⟩
end Go.Proofs.Ytfbbkoibccndkaa
