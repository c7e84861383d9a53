/- falseworkref07: bytes are taken in. -/
import Derived.Test.YtfbbkoibccndkaaCrF
import Derived.Test.YtfbbkoibccndkaaCrH
import Derived.Test.YtfbbkoibccndkaaHld
import Derived.IntWalk
namespace Go.Proofs.Ytfbbkoibccndkaa
open Go.RowKit Go.Lib

theorem Sw.row {w wr : World} {n : Nat} {T : TypeId} {Z C : Array Value} (h : Sw w wr n T Z C) (Z' : Array Value) : Sw w (wr.setRow n Z') n T Z' C :=
  ⟨below_setRow h.b (Nat.le_refl _), setRow_heap _ _ _ _ _ _ h.z, blk_row h.c (by omega)⟩
theorem byte_cell {w : World} {a : Option Addr} {l : List UInt8} (h : BAt w a l) {k : Nat} (hk : k < l.length) :
    ∃ b off x, a = some ⟨b, off, none⟩ ∧ x < 256 ∧ w.cell? ⟨b, off + k, none⟩ = some (.int .u8 ((x : Nat) : Int)) ∧ ∀ j, j < 8 → bitAt l (8 * k + j) = x / 2 ^ j % 2 := by
  rcases h with h | ⟨b, off, ha, hlt, hc⟩
  · subst h; simp at hk
  · refine ⟨b, off, (l.getD k 0).toNat, ha, UInt8.toNat_lt _, hc _ hk, fun j hj => ?_⟩
    unfold bitAt
    rw [show (8 * k + j) / 8 = k by omega, show (8 * k + j) % 8 = j by omega]
theorem bit_eq {x j b : Nat} (hx : x < 256) (h : b = x / 2 ^ j % 2) : (IntKind.i64.wrap ((x : Int) / 2 ^ j)).tmod 2 = (b : Int) := by
  have e : (x : Int) / 2 ^ j = ((x / 2 ^ j : Nat) : Int) := by simp
  have hl := Nat.div_le_self x (2 ^ j)
  rw [e, h]
  generalize x / 2 ^ j = y at *
  rw [IntWalk.i64_in _ (by omega), Int.tmod_eq_emod_of_nonneg (by omega)]
  omega
set_option maxRecDepth 100000 in
set_option maxHeartbeats 1600000 in
theorem radd_any (r : Nat) (a : Option Addr) (l : List UInt8) (n cap : Nat) (w : World) (hr : r < 4294967296) (hb : BAt w a l) (hn : l.length = n) (hl : n ≤ 1000000) :
    Calls Try.prog 13 #[.agg (rg r), .slice a n cap] w fun e w' => e = .returned (.agg (rg (ad r l))) ∧ RowKit.Below w.heap.size w w' := by
  subst hn
  obtain ⟨R0, hR0⟩ : ∃ R0, R0 = rg r := ⟨_, rfl⟩
  obtain ⟨Z, hZ⟩ : ∃ Z, Z = tab .i64 fun _ => 0 := ⟨_, rfl⟩
  rw [← hR0]
  have az : Arr Z := by rw [hZ]; exact arr_tab _ _
  have HR0 := Lib.hid hR0
  have HZ := Lib.hid hZ
  have HB := Lib.hid hb
  clear hb hR0 hZ
  go_enter Try.func13, Try.ntmps13
  go_wp2_with (first | (with_reducible refine wpList_box0 rfl _ _ rfl _ rfl ?_) | (with_reducible refine wpList_alloc0 rfl isI rfl ?_))
  rw [← HZ.out]
  go_loopw [10] (fun c10 wr => ∃ k : Nat, c10 = .int .i64 (k : Int) ∧ k ≤ l.length ∧ Sw w wr w.heap.size 30 (rg (up r l (8 * k))) Z) (fun c10 _ => l.length - (match c10 with | .int _ q => q | _ => 0).toNat)
  case atStart => exact ⟨0, rfl, by omega, ⟨((RowKit.Below.refl _ _).alloc (Nat.le_refl _) _).alloc (by simp) _, by rw [HR0.out]; exact blk_in (blkn (by simp)), blkn (by simp)⟩⟩
  case round =>
    obtain ⟨k, rfl, hk, hS⟩ := hrel
    have HS := Lib.hid hS
    clear hS
    by_cases hlt : k < l.length
    · have d1 : decide (k < l.length) = true := by simpa using hlt
      obtain ⟨b, off, x, rfl, hx, hc, hbit⟩ := byte_cell HB.out hlt
      have hc2 := cell_bl hc HS.out.b
      have HBT := Lib.hid hbit
      clear hc hbit
      go_wp2_with fail
      go_loopw [7] (fun c7 wx => ∃ j : Nat, c7 = .int .i64 (j : Int) ∧ j ≤ 8 ∧ Sw w wx w.heap.size 30 (rg (up r l (8 * k + j))) Z) (fun c7 _ => 8 - (match c7 with | .int _ q => q | _ => 0).toNat)
      case atStart => exact ⟨0, rfl, by omega, HS.out⟩
      case round =>
        obtain ⟨j, rfl, hj, hS2⟩ := hrel
        have HS2 := Lib.hid hS2
        clear hS2
        by_cases hjl : j < 8
        · have HT := Lib.hid (fun W => rin_any (up r l (8 * k + j)) (bitAt l (8 * k + j)) W (up_lt hr l _) (bitAt_le l _))
          obtain ⟨R, hR⟩ : ∃ R, R = rg (up r l (8 * k + j)) := ⟨_, rfl⟩
          have arR : Arr R := by rw [hR]; exact arr_tab _ _
          obtain ⟨R', hR'⟩ : ∃ R', R' = rg (tk (up r l (8 * k + j)) (bitAt l (8 * k + j))) := ⟨_, rfl⟩
          have arR' : Arr R' := by rw [hR']; exact arr_tab _ _
          rw [← hR] at HT HS2
          rw [← hR'] at HT
          have HR' := Lib.hid (show R' = rg (up r l (8 * k + (j + 1))) from hR')
          have he := bit_eq hx (HBT.out j hjl)
          clear hR hR'
          have hbR := HS2.out.z
          have hszR : (Try.prog.info? 30).map (·.size) = some R.size := by rw [isI.size, arR.size]
          go_wp2_with fail
          refine wp_region_held_drew (S := fun _ => True) (by kernel_rfl) ?_ (fun hHeld => ?_)
          · trivial
          refine held_take 1 (v := ?_) rfl (by kernel_rfl) (by kernel_rfl) (by kernel_rfl) (fun _ _ _ h => h) hHeld (by rfl) ?_ ?_
          rotate_left
          · (intro W hW; go_simp; try with_reducible rfl)
          try simp only [Act.put, List.setIfInBounds_toArray, List.set_cons_zero, List.set_cons_succ]
          refine held_take 2 (v := ?_) rfl (by kernel_rfl) (by kernel_rfl) (by kernel_rfl) (fun _ _ _ h => h) hHeld (by rfl) ?_ ?_
          rotate_left
          · (intro W hW; go_simp; try with_reducible rfl)
          try simp only [Act.put, List.setIfInBounds_toArray, List.set_cons_zero, List.set_cons_succ]
          refine held_take 3 (v := ?_) rfl (by kernel_rfl) (by kernel_rfl) (by kernel_rfl) (fun _ _ _ h => h) hHeld (by rfl) ?_ ?_
          rotate_left
          · (intro W hW; go_simp; try with_reducible rfl)
          try simp only [Act.put, List.setIfInBounds_toArray, List.set_cons_zero, List.set_cons_succ]
          refine held_take 4 (v := ?_) rfl (by kernel_rfl) (by kernel_rfl) (by kernel_rfl) (fun _ _ _ h => h) hHeld (by rfl) ?_ ?_
          rotate_left
          · (intro W hW; go_simp; try with_reducible rfl)
          try simp only [Act.put, List.setIfInBounds_toArray, List.set_cons_zero, List.set_cons_succ]
          refine held_take 5 (v := ?_) rfl (by kernel_rfl) (by kernel_rfl) (by kernel_rfl) (fun _ _ _ h => h) hHeld (by rfl) ?_ ?_
          rotate_left
          · (intro W hW; go_simp; try with_reducible rfl)
          try simp only [Act.put, List.setIfInBounds_toArray, List.set_cons_zero, List.set_cons_succ]
          refine held_next 0 rfl (by kernel_rfl) (by rfl) (fun K hK => ?_)
          refine wp_load_row 30 _ rfl w.heap.size rfl 30 R (0, 0) _ hbR Try.underlying30 rfl hszR ?_
          refine hK.out _ _ trivial (fun hHeld => ?_)
          clear hK K
          try simp only [Act.put, List.setIfInBounds_toArray, List.set_cons_zero, List.set_cons_succ]
          refine held_next 6 rfl (by kernel_rfl) (by rfl) (fun K hK => ?_)
          go_simp
          refine (HT.out _).mono ?_
          rintro _ w1 ⟨rfl, hb1⟩
          have hS1 := HS2.out.below (RowKit.Below.trans ((RowKit.Below.refl _ _).drew) hb1)
          have HS1 := Lib.hid (hS1.row R')
          have hbR1 := hS1.z
          clear hS1 hb1
          refine hK.out _ _ trivial (fun hHeld => ?_)
          clear hK K
          try simp only [Act.put, List.setIfInBounds_toArray, List.set_cons_zero, List.set_cons_succ]
          refine held_next 7 rfl (by kernel_rfl) (by rfl) (fun K hK => ?_)
          refine wp_store_row 30 _ _ rfl w.heap.size R' rfl rfl 30 R hbR1 (by rw [isI.size, arR'.size]) (by rw [arR.size, arR'.size]) arR'.one ?_
          refine hK.out _ _ trivial (fun hHeld => ?_)
          clear hK K hHeld
          simp only [Act.put]
          refine wpAnyH_done (by kernel_rfl) ?_ _
          go_simp
          go_wp2
          go_roundw
          case rel => exact ⟨j + 1, by go_num, by omega, by rw [← HR'.out]; exact HS1.out⟩
          case measure => simp; omega
        · have e8 : j = 8 := by omega
          subst e8
          have HS3 := Lib.hid (show Sw w wr w.heap.size 30 (rg (up r l (8 * (k + 1)))) Z from HS2.out)
          go_wp2
          go_roundw
          case rel => exact ⟨k + 1, by go_num, by omega, HS3.out⟩
          case measure => simp; omega
    · have e : k = l.length := by omega
      subst e
      have d1 : decide (l.length < l.length) = false := by simp
      obtain ⟨c, hc'⟩ : ∃ c, c = rg (up r l (8 * l.length)) := ⟨_, rfl⟩
      rw [← hc'] at HS
      have ac : Arr c := by rw [hc']; exact arr_tab _ _
      have HC := Lib.hid (show c = rg (ad r l) from hc')
      have k1 := HS.out.z
      have k2 := HS.out.c
      clear hc'
      go_wp2_with (first | (with_reducible refine wpList_load1 rfl isI _ rfl _ c rfl k1 ac ?_) | (with_reducible refine wpList_store1 rfl isI _ _ rfl _ c Z rfl rfl k2 ac az ?_))
      refine ret_arr isI Try.results13 rfl (setRow_heap _ _ _ _ _ _ k2) ac rfl ⟨by rw [HC.out], ?_⟩
      exact below_setRow HS.out.b (by omega)
end Go.Proofs.Ytfbbkoibccndkaa
