
/- falseworkref07: bytes are taken in. falseworkref07: Of, Close. falseworkref07: Open. -/
import Derived.Test.YtdfbpaajkpnaeaaGreatCrCH
import Derived.Test.YtdfbpaajkpnaeaaGreatHld
import Derived.IntWalk
import Derived.Test.YtdfbpaajkpnaeaaGreatCrKO
import Derived.Test.YtdfbpaajkpnaeaaGreatRat
import Derived.BigQuiet

namespace Go.Proofs.YtdfbpaajkpnaeaaGreat
set_option maxRecDepth 100000
open Go.RowKit Go.Lib

theorem Sw.row {w wr : World} {n : Nat} {T : TypeId} {Z C : Array Value} (h : Sw w wr n T Z C) (Z' : Array Value) : Sw w (wr.setRow n Z') n T Z' C :=
  ⟨cbelow_setRow h.b (Nat.le_refl _), setRow_heap _ _ _ _ _ _ h.z, blk_row h.c (by omega)⟩
theorem byte_cell {w : World} {a : Option Addr} {l : List UInt8} (h : BAt w a l) {k : Nat} (hk : k < l.length) :
    ∃ b off x, a = some ⟨b, off, none⟩ ∧ x < 256 ∧ w.cell? ⟨b, off + k, none⟩ = some (.int .u8 ((x : Nat) : Int)) ∧ ∀ j, j < 8 → bitAt l (8 * k + j) = x / 2 ^ j % 2 := by
  rcases h with h | ⟨b, off, ha, hlt, hc⟩
  · subst h; simp at hk
  · refine ⟨b, off, (l.getD k 0).toNat, ha, UInt8.toNat_lt _, hc _ hk, fun j hj => ?_⟩
    unfold bitAt
    rw [show (8 * k + j) / 8 = k by omega, show (8 * k + j) % 8 = j by omega]
theorem bit_eq {x j b : Nat} (hx : x < 256) (h : b = x / 2 ^ j % 2) : (IntKind.i64.wrap ((x : Int) / 2 ^ j)).tmod 2 = (b : Int) := by
  have e : (x : Int) / 2 ^ j = ((x / 2 ^ j : Nat) : Int) := by simp
  have hl := Nat.div_le_self x (2 ^ j)
  rw [e, h]
  generalize x / 2 ^ j = y at *
  rw [IntWalk.i64_in _ (by omega), Int.tmod_eq_emod_of_nonneg (by omega)]
  omega
set_option maxRecDepth 100000 in
set_option maxHeartbeats 1600000 in
theorem radd_any (r : Nat) (a : Option Addr) (l : List UInt8) (n cap : Nat) (w : World) (hr : r < 4294967296) (hb : BAt w a l) (hn : l.length = n) (hl : n ≤ 1000000) :
    Calls Tryz.prog 101 #[.agg (rg r), .slice a n cap] w fun e w' => e = .returned (.agg (rg (ad r l))) ∧ RowKit.Below w.heap.size w w' := by
  subst hn
  obtain ⟨R0, hR0⟩ : ∃ R0, R0 = rg r := ⟨_, rfl⟩
  obtain ⟨Z, hZ⟩ : ∃ Z, Z = tab .i64 fun _ => 0 := ⟨_, rfl⟩
  rw [← hR0]
  have az : Arr Z := by rw [hZ]; exact arr_tab _ _
  have HR0 := Lib.hid hR0
  have HZ := Lib.hid hZ
  have HB := Lib.hid hb
  clear hb hR0 hZ
  go_enter Tryz.func101, Tryz.ntmps101
  go_wp2_with (first | (with_reducible refine wpList_box0 rfl _ _ rfl _ rfl ?_) | (with_reducible refine wpList_alloc0 rfl cisI rfl ?_))
  rw [← HZ.out]
  go_loopw [10] (fun c10 wr => ∃ k : Nat, c10 = .int .i64 (k : Int) ∧ k ≤ l.length ∧ Sw w wr w.heap.size 164 (rg (up r l (8 * k))) Z) (fun c10 _ => l.length - (match c10 with | .int _ q => q | _ => 0).toNat)
  case atStart => exact ⟨0, rfl, by omega, ⟨((RowKit.Below.refl _ _).alloc (Nat.le_refl _) _).alloc (by simp) _, by rw [HR0.out]; exact cblk_in (cblkn (by simp)), cblkn (by simp)⟩⟩
  case round =>
    obtain ⟨k, rfl, hk, hS⟩ := hrel
    have HS := Lib.hid hS
    clear hS
    by_cases hlt : k < l.length
    · have d1 : decide (k < l.length) = true := by simpa using hlt
      obtain ⟨b, off, x, rfl, hx, hc, hbit⟩ := byte_cell HB.out hlt
      have hc2 := ccell_bl hc HS.out.b
      have HBT := Lib.hid hbit
      clear hc hbit
      go_wp2_with fail
      go_loopw [7] (fun c7 wx => ∃ j : Nat, c7 = .int .i64 (j : Int) ∧ j ≤ 8 ∧ Sw w wx w.heap.size 164 (rg (up r l (8 * k + j))) Z) (fun c7 _ => 8 - (match c7 with | .int _ q => q | _ => 0).toNat)
      case atStart => exact ⟨0, rfl, by omega, HS.out⟩
      case round =>
        obtain ⟨j, rfl, hj, hS2⟩ := hrel
        have HS2 := Lib.hid hS2
        clear hS2
        by_cases hjl : j < 8
        · have HT := Lib.hid (fun W => rin_any (up r l (8 * k + j)) (bitAt l (8 * k + j)) W (up_lt hr l _) (bitAt_le l _))
          obtain ⟨R, hR⟩ : ∃ R, R = rg (up r l (8 * k + j)) := ⟨_, rfl⟩
          have arR : Arr R := by rw [hR]; exact arr_tab _ _
          obtain ⟨R', hR'⟩ : ∃ R', R' = rg (tk (up r l (8 * k + j)) (bitAt l (8 * k + j))) := ⟨_, rfl⟩
          have arR' : Arr R' := by rw [hR']; exact arr_tab _ _
          rw [← hR] at HT HS2
          rw [← hR'] at HT
          have HR' := Lib.hid (show R' = rg (up r l (8 * k + (j + 1))) from hR')
          have he := bit_eq hx (HBT.out j hjl)
          clear hR hR'
          have hbR := HS2.out.z
          have hszR : (Tryz.prog.info? 164).map (·.size) = some R.size := by rw [cisI.size, arR.size]
          go_wp2_with fail
          refine wp_region_held_drew (S := fun _ => True) (by kernel_rfl) ?_ (fun hHeld => ?_)
          · trivial
          refine held_take 1 (v := ?_) rfl (by kernel_rfl) (by kernel_rfl) (by kernel_rfl) (fun _ _ _ h => h) hHeld (by rfl) ?_ ?_
          rotate_left
          · (intro W hW; go_simp; try with_reducible rfl)
          try simp only [Act.put, List.setIfInBounds_toArray, List.set_cons_zero, List.set_cons_succ]
          refine held_take 2 (v := ?_) rfl (by kernel_rfl) (by kernel_rfl) (by kernel_rfl) (fun _ _ _ h => h) hHeld (by rfl) ?_ ?_
          rotate_left
          · (intro W hW; go_simp; try with_reducible rfl)
          try simp only [Act.put, List.setIfInBounds_toArray, List.set_cons_zero, List.set_cons_succ]
          refine held_take 3 (v := ?_) rfl (by kernel_rfl) (by kernel_rfl) (by kernel_rfl) (fun _ _ _ h => h) hHeld (by rfl) ?_ ?_
          rotate_left
          · (intro W hW; go_simp; try with_reducible rfl)
          try simp only [Act.put, List.setIfInBounds_toArray, List.set_cons_zero, List.set_cons_succ]
          refine held_take 4 (v := ?_) rfl (by kernel_rfl) (by kernel_rfl) (by kernel_rfl) (fun _ _ _ h => h) hHeld (by rfl) ?_ ?_
          rotate_left
          · (intro W hW; go_simp; try with_reducible rfl)
          try simp only [Act.put, List.setIfInBounds_toArray, List.set_cons_zero, List.set_cons_succ]
          refine held_take 5 (v := ?_) rfl (by kernel_rfl) (by kernel_rfl) (by kernel_rfl) (fun _ _ _ h => h) hHeld (by rfl) ?_ ?_
          rotate_left
          · (intro W hW; go_simp; try with_reducible rfl)
          try simp only [Act.put, List.setIfInBounds_toArray, List.set_cons_zero, List.set_cons_succ]
          refine held_next 0 rfl (by kernel_rfl) (by rfl) (fun K hK => ?_)
          refine wp_load_row 164 _ rfl w.heap.size rfl 164 R (0, 0) _ hbR Tryz.underlying164 rfl hszR ?_
          refine hK.out _ _ trivial (fun hHeld => ?_)
          clear hK K
          try simp only [Act.put, List.setIfInBounds_toArray, List.set_cons_zero, List.set_cons_succ]
          refine held_next 6 rfl (by kernel_rfl) (by rfl) (fun K hK => ?_)
          go_simp
          refine (HT.out _).mono ?_
          rintro _ w1 ⟨rfl, hb1⟩
          have hS1 := HS2.out.below (RowKit.Below.trans ((RowKit.Below.refl _ _).drew) hb1)
          have HS1 := Lib.hid (hS1.row R')
          have hbR1 := hS1.z
          clear hS1 hb1
          refine hK.out _ _ trivial (fun hHeld => ?_)
          clear hK K
          try simp only [Act.put, List.setIfInBounds_toArray, List.set_cons_zero, List.set_cons_succ]
          refine held_next 7 rfl (by kernel_rfl) (by rfl) (fun K hK => ?_)
          refine wp_store_row 164 _ _ rfl w.heap.size R' rfl rfl 164 R hbR1 (by rw [cisI.size, arR'.size]) (by rw [arR.size, arR'.size]) arR'.one ?_
          refine hK.out _ _ trivial (fun hHeld => ?_)
          clear hK K hHeld
          simp only [Act.put]
          refine wpAnyH_done (by kernel_rfl) ?_ _
          go_simp
          go_wp2
          go_roundw
          case rel => exact ⟨j + 1, by go_num, by omega, by rw [← HR'.out]; exact HS1.out⟩
          case measure => simp; omega
        · have e8 : j = 8 := by omega
          subst e8
          have HS3 := Lib.hid (show Sw w wr w.heap.size 164 (rg (up r l (8 * (k + 1)))) Z from HS2.out)
          go_wp2
          go_roundw
          case rel => exact ⟨k + 1, by go_num, by omega, HS3.out⟩
          case measure => simp; omega
    · have e : k = l.length := by omega
      subst e
      have d1 : decide (l.length < l.length) = false := by simp
      obtain ⟨c, hc'⟩ : ∃ c, c = rg (up r l (8 * l.length)) := ⟨_, rfl⟩
      rw [← hc'] at HS
      have ac : Arr c := by rw [hc']; exact arr_tab _ _
      have HC := Lib.hid (show c = rg (ad r l) from hc')
      have k1 := HS.out.z
      have k2 := HS.out.c
      clear hc'
      go_wp2_with (first | (with_reducible refine wpList_load1 rfl cisI _ rfl _ c rfl k1 ac ?_) | (with_reducible refine wpList_store1 rfl cisI _ _ rfl _ c Z rfl rfl k2 ac az ?_))
      refine ret_arr cisI Tryz.results101 rfl (setRow_heap _ _ _ _ _ _ k2) ac rfl ⟨by rw [HC.out], ?_⟩
      exact cbelow_setRow HS.out.b (by omega)
end Go.Proofs.YtdfbpaajkpnaeaaGreat

namespace Go.Proofs.YtdfbpaajkpnaeaaGreat
set_option maxRecDepth 100000
open Go.RowKit Go.Lib

set_option maxRecDepth 100000 in
theorem rof_any (a : Option Addr) (l : List UInt8) (n cap : Nat) (w : World) (hb : BAt w a l) (hn : l.length = n) (hl : n ≤ 1000000) :
    Calls Tryz.prog 83 #[.slice a n cap] w fun e w' => e = .returned (.int .u32 (ofL l : Int)) ∧ RowKit.Below w.heap.size w w' := by
  have hlt := ad_lt (show 4294967295 < 4294967296 by omega) l
  have C1 := Lib.hid (rstart_any w)
  rw [show tab .i64 (fun _ => 1) = rg 4294967295 from tab_congr fun i hi => by
    have : bt 4294967295 i = 1 := by
      rw [bt_test, show (4294967295 : Nat) = 2 ^ 32 - 1 by decide, Nat.testBit_two_pow_sub_one]
      simp [hi]
    rw [this]; rfl] at C1
  have C2 := fun (W : World) (h : BAt W a l) => Lib.hid (radd_any 4294967295 a l n cap W (by omega) h hn hl)
  have C3 := fun (W : World) => Lib.hid (cnumber_any (ad 4294967295 l) W hlt)
  have HE := Lib.hid (show IntKind.u32.wrap (4294967295 - (ad 4294967295 l : Int)) = (ofL l : Int) by
    unfold ofL
    rw [sm_sub hlt, IntKind.wrap_u32']
    omega)
  have HE2 := Lib.hid (show (4294967295 - (ad 4294967295 l : Int)) = (ofL l : Int) by
    unfold ofL
    rw [sm_sub hlt]
    omega)
  obtain ⟨p, hp⟩ : ∃ p, p = ad 4294967295 l := ⟨_, rfl⟩
  rw [← hp] at C2 C3 HE HE2
  have hlt' : (p : Int) ≤ 4294967295 := by rw [hp]; omega
  obtain ⟨R0, hR0⟩ : ∃ R0, R0 = rg 4294967295 := ⟨_, rfl⟩
  obtain ⟨R1, hR1⟩ : ∃ R1, R1 = rg p := ⟨_, rfl⟩
  rw [← hR0] at C1 C2
  rw [← hR1] at C2 C3
  have HB := Lib.hid hb
  clear hp hR0 hR1 hb hn hlt
  go_enter Tryz.func83, Tryz.ntmps83
  go_wp2_with fail
  refine C1.out.mono ?_
  rintro _ w1 ⟨rfl, hb1⟩
  have HW1 := Lib.hid hb1
  clear hb1
  go_wp2_with fail
  refine (C2 _ (HB.out.below HW1.out)).out.mono ?_
  rintro _ w2 ⟨rfl, hb2⟩
  have HW2 := Lib.hid (HW1.out.trans (hb2.mono HW1.out.size))
  clear hb2
  go_wp2_with fail
  refine (C3 _).out.mono ?_
  rintro _ w3 ⟨rfl, hb3⟩
  have HW3 := Lib.hid (HW2.out.trans (hb3.mono HW2.out.size))
  clear hb3
  go_wp2
  go_ret
  exact ⟨ret_int HE2.out, HW3.out⟩
theorem rle4 (s : Nat) (hs : s < 4294967296) : [Value.int .u8 ((s : Int) % 256), .int .u8 ((s : Int) / 256 % 256), .int .u8 ((s : Int) / 65536 % 256), .int .u8 ((s : Int) / 16777216)] = bcells (le4 s) := by
  have := congrArg Array.toList (le4_cells s hs)
  simpa using this
set_option maxRecDepth 100000 in
set_option maxHeartbeats 800000 in
theorem rclose_any (a : Option Addr) (l : List UInt8) (n cap : Nat) (w : World) (hb : BAt w a l) (hn : l.length = n) (ha : a = none → l = []) (hl : n ≤ 500000) :
    Calls Tryz.prog 55 #[.slice a n cap] w (cMadeB (l ++ sealL l) w) := by
  have C1 := Lib.hid (rof_any a l n cap w hb hn (by omega))
  obtain ⟨s, hs⟩ : ∃ s, s = ofL l := ⟨_, rfl⟩
  have hs1 : s < 4294967296 := by rw [hs]; exact ofL_lt l
  have HS := Lib.hid (show sealL l = le4 s by rw [hs]; rfl)
  rw [← hs] at C1
  have HC := Lib.hid (rle4 s hs1)
  have HB := Lib.hid hb
  have HN := Lib.hid hn
  have HA := Lib.hid ha
  clear hb hn ha hs
  go_enter Tryz.func55, Tryz.ntmps55
  go_wp2_with fail
  refine C1.out.mono ?_
  rintro _ w1 ⟨rfl, hb1⟩
  have HW1 := Lib.hid hb1
  have HB1 := Lib.hid ((HB.out.below hb1).below ((RowKit.Below.refl _ _).alloc (Nat.le_refl _) (.cells #[] 5)))
  have HL1 := Lib.hid (show ([] : List UInt8).length + l.length ≤ 1000000000 by have := HN.out; simp; omega)
  have hsz := hb1.size
  clear hb1
  have HL2 := Lib.hid (show l.length + (le4 s).length ≤ 1000000000 by have := HN.out; show _ + 4 ≤ _; omega)
  go_wp2_with (first
    | (at_builtin; refine wpList_appB rfl _ _ rfl w1.heap.size v1 l (le4 s) _ 4 4 (by rfl) (by rfl) rfl (HO2.out.below ((RowKit.Below.refl _ _).alloc (Nat.le_refl _) _)) (bat_new _ _ _ _ HC.out) (fun h => by cases h) HL2.out (Nat.le_trans HS2.out (by simp)) ?_; intro v2 w3 h3)
    | (at_builtin; refine wpList_appB rfl _ _ rfl w1.heap.size _ [] l a cap n (by rfl) (by rfl) HN.out (OB.lit (Nat.le_refl _)) HB1.out HA.out HL1.out (by simp) ?_; intro v1 w2 h2; rw [List.nil_append] at h2; obtain ⟨o2, u2, s2, z2⟩ := h2; have HO2 := Lib.hid o2; have HU2 := Lib.hid (u2.below (OB.lit (Nat.le_refl _)) (by simp) ((RowKit.Below.refl w1.heap.size w1).alloc (Nat.le_refl _) _)); have HS2 := Lib.hid s2; have HV2 := Lib.hid (show v1 = .slice none 0 0 → False from fun e => by cases (z2 e).2); clear o2 u2 s2 z2))
  obtain ⟨o3, u3, s3, z3⟩ := h3
  have HO3 := Lib.hid (o3.mono hsz)
  have HU3 := Lib.hid (HW1.out.trans ((u3.below (HO2.out.below ((RowKit.Below.refl _ _).alloc (Nat.le_refl _) _)) (Nat.le_trans HS2.out (by simp)) (HU2.out.trans (((RowKit.Below.refl _ _).alloc (Nat.le_refl _) _).mono HS2.out))).mono hsz))
  have HV3 := Lib.hid (show v2 = .slice none 0 0 → False from fun e => HV2.out (z3 e).2)
  clear o3 u3 s3 z3
  go_simp
  go_wp2
  go_ret
  rw [HS.out]
  exact ⟨_, rfl, HO3.out, HU3.out, HV3.out⟩
end Go.Proofs.YtdfbpaajkpnaeaaGreat

namespace Go.Proofs.YtdfbpaajkpnaeaaGreat
set_option maxRecDepth 100000
open Go.RowKit Go.Lib

/-- it is closed rightly -/
def Okay (l : List UInt8) : Prop := 4 ≤ l.length ∧ l.take (l.length - 4) ++ sealL (l.take (l.length - 4)) = l
/-- what the document's Open answers -/
def ROpen (a : Option Addr) (l : List UInt8) (cap : Nat) (w : World) (e : Ending) (w' : World) : Prop :=
  (Okay l ∧ e = .returned (.tuple #[.slice a (l.length - 4) cap, .bool true]) ∧ RowKit.Below w.heap.size w w') ∨ (¬ Okay l ∧ e = .returned (.tuple #[.slice none 0 0, .bool false]) ∧ RowKit.Below w.heap.size w w')
set_option maxRecDepth 100000 in
set_option maxHeartbeats 3200000 in
theorem ropen_any (a : Option Addr) (l : List UInt8) (cap : Nat) (w : World) (hb : BAt w a l) (ha : a = none → l = []) (hc : l.length ≤ cap) (hl : l.length ≤ 400000) :
    Calls Tryz.prog 48 #[.slice a l.length cap] w (ROpen a l cap w) := by
  have HB := Lib.hid hb
  have HA := Lib.hid ha
  clear hb ha
  go_enter Tryz.func48, Tryz.ntmps48
  go_wp2_with fail
  go_loopw [7] (fun c7 wr => ∃ j : Nat, c7 = .int .i64 (j : Int) ∧ j ≤ l.length ∧ Hid (Okay l → j + 4 ≤ l.length) ∧ Hid (RowKit.Below w.heap.size w wr)) (fun c7 _ => l.length - (match c7 with | .int _ q => q | _ => 0).toNat)
  case atStart => exact ⟨0, rfl, by omega, fun h => by have := h.1; omega, RowKit.Below.refl _ _⟩
  case round =>
    obtain ⟨j, rfl, hj, HO, HW⟩ := hrel
    by_cases hlt : j < l.length
    · have d1 : decide (j < l.length) = true := by simpa using hlt
      have ew : IntKind.i64.wrap ((j : Int) + 4) = (j : Int) + 4 := IntWalk.i64_in _ (by omega)
      by_cases he : j + 4 = l.length
      · have d2 : ((j : Int) + 4 == (l.length : Int)) = true := by simp; omega
        have HJ := Lib.hid he
        have HBR := Lib.hid (HB.out.below HW.out)
        have HIR := Lib.hid (HBR.out.take j)
        have hi : (l.take j).length = j := by rw [List.length_take]; omega
        have HC := fun (W : World) (h : BAt W a (l.take j)) => Lib.hid (rclose_any a (l.take j) j cap W h hi (fun e => by rw [HA.out e]; simp) (by omega))
        have rt := run_to a l.length cap j (by omega)
        have q1 : (0 : Int) ≤ (j : Int) := by omega
        have q2 : (j : Int) ≤ (cap : Int) := by omega
        have cb := fun (W : World) (h : BAt W a l) => run_conv h l.length cap rfl
        have ca := fun (W : World) (A : Option Addr) (c : Nat) (h : BAt W A (l.take j ++ sealL (l.take j))) => run_conv h (l.take j ++ sealL (l.take j)).length c rfl
        have hok : Okay l ↔ l.take j ++ sealL (l.take j) = l := by
          unfold Okay
          rw [show l.length - 4 = j by omega]
          exact ⟨fun h => h.2, fun h => ⟨by omega, h⟩⟩
        by_cases hq : l.take j ++ sealL (l.take j) = l
        · have HK := Lib.hid (hok.2 hq)
          rw [hq] at HC ca
          clear hok hq he hi
          go_wp2_with fail
          refine wp_region_held_drew (S := fun W => RowKit.Below wr.heap.size wr W) (by kernel_rfl) ?_ (fun hHeld => ?_)
          · exact (RowKit.Below.refl _ _).drew
          refine held_take 0 (v := ?_) rfl (by kernel_rfl) (by kernel_rfl) (by kernel_rfl) (fun _ _ _ h => h) hHeld (by rfl) ?_ ?_
          rotate_left
          · (intro W hW; go_simp; try with_reducible rfl)
          try simp only [Act.put, List.setIfInBounds_toArray, List.set_cons_zero, List.set_cons_succ]
          refine held_take 1 (v := ?_) rfl (by kernel_rfl) (by kernel_rfl) (by kernel_rfl) (fun _ _ _ h => h) hHeld (by rfl) ?_ ?_
          rotate_left
          · (intro W hW; go_simp; try with_reducible rfl)
          try simp only [Act.put, List.setIfInBounds_toArray, List.set_cons_zero, List.set_cons_succ]
          refine held_take 2 (v := ?_) rfl (by kernel_rfl) (by kernel_rfl) (by kernel_rfl) (fun _ _ _ h => h) hHeld (by rfl) ?_ ?_
          rotate_left
          · (intro W hW; go_simp; try with_reducible rfl)
          try simp only [Act.put, List.setIfInBounds_toArray, List.set_cons_zero, List.set_cons_succ]
          refine held_take 3 (v := ?_) rfl (by kernel_rfl) (by kernel_rfl) (by kernel_rfl) (fun _ _ _ h => h) hHeld (by rfl) ?_ ?_
          rotate_left
          · (intro W hW; go_simp; try with_reducible rfl)
          try simp only [Act.put, List.setIfInBounds_toArray, List.set_cons_zero, List.set_cons_succ]
          refine held_take 4 (v := ?_) rfl (by kernel_rfl) (by kernel_rfl) (by kernel_rfl) (fun _ _ _ h => h) hHeld (by rfl) ?_ ?_
          rotate_left
          · (intro W hW; go_simp; try with_reducible rfl)
          try simp only [Act.put, List.setIfInBounds_toArray, List.set_cons_zero, List.set_cons_succ]
          refine held_take 5 (v := ?_) rfl (by kernel_rfl) (by kernel_rfl) (by kernel_rfl) (fun _ _ _ h => h) hHeld (by rfl) ?_ ?_
          rotate_left
          · (intro W hW; go_simp; try with_reducible rfl)
          try simp only [Act.put, List.setIfInBounds_toArray, List.set_cons_zero, List.set_cons_succ]
          refine held_take 6 (v := ?_) rfl (by kernel_rfl) (by kernel_rfl) (by kernel_rfl) (fun _ _ _ h => h) hHeld (by rfl) ?_ ?_
          rotate_left
          · (intro W hW; go_simp; try with_reducible rfl)
          try simp only [Act.put, List.setIfInBounds_toArray, List.set_cons_zero, List.set_cons_succ]
          refine held_take 7 (v := ?_) rfl (by kernel_rfl) (by kernel_rfl) (by kernel_rfl) (fun _ _ _ h => h) hHeld (by rfl) ?_ ?_
          rotate_left
          · (intro W hW; go_simp; try with_reducible rfl)
          try simp only [Act.put, List.setIfInBounds_toArray, List.set_cons_zero, List.set_cons_succ]
          refine held_take 8 (v := ?_) rfl (by kernel_rfl) (by kernel_rfl) (by kernel_rfl) (fun _ _ _ h => h) hHeld (by rfl) ?_ ?_
          rotate_left
          · (intro W hW; have e := rt W; go_simp; try with_reducible rfl)
          try simp only [Act.put, List.setIfInBounds_toArray, List.set_cons_zero, List.set_cons_succ]
          refine held_take 11 (v := ?_) rfl (by kernel_rfl) (by kernel_rfl) (by kernel_rfl) (fun _ _ _ h => h) hHeld (by rfl) ?_ ?_
          rotate_left
          · (intro W hW; go_simp; try with_reducible rfl)
          try simp only [Act.put, List.setIfInBounds_toArray, List.set_cons_zero, List.set_cons_succ]
          refine held_take 12 (v := ?_) rfl (by kernel_rfl) (by kernel_rfl) (by kernel_rfl) (fun _ _ _ h => h) hHeld (by rfl) ?_ ?_
          rotate_left
          · (intro W hW; have e := cb W (HBR.out.below hW); go_simp; try with_reducible rfl)
          try simp only [Act.put, List.setIfInBounds_toArray, List.set_cons_zero, List.set_cons_succ]
          refine held_next 9 rfl (by kernel_rfl) (by rfl) (fun K hK => ?_)
          go_simp
          go_at_call 55
          refine (HC _ (HIR.out.below (RowKit.Below.refl _ _).drew)).out.mono ?_
          rintro _ w3 h3
          obtain ⟨a3, c3, rfl, hb3, _, hB3, _⟩ := h3.row
          have HB3 := Lib.hid hb3
          have HX3 := Lib.hid (((RowKit.Below.refl wr.heap.size wr).drew).trans (hB3.mono (by simp)))
          clear h3 hb3 hB3
          refine hK.out _ _ HX3.out (fun hHeld => ?_)
          clear hK K hHeld
          try simp only [Act.put, List.setIfInBounds_toArray, List.set_cons_zero, List.set_cons_succ]
          refine held_since HX3.out (fun hHeld => ?_)
          refine held_take 10 (v := ?_) rfl (by kernel_rfl) (by kernel_rfl) (by kernel_rfl) (fun _ _ _ h => h) hHeld (by rfl) ?_ ?_
          rotate_left
          · (intro W hW; have e := ca W a3 c3 (HB3.out.below hW); go_simp; try with_reducible rfl)
          try simp only [Act.put, List.setIfInBounds_toArray, List.set_cons_zero, List.set_cons_succ]
          refine held_take 13 (v := ?_) rfl (by kernel_rfl) (by kernel_rfl) (by kernel_rfl) (fun _ _ _ h => h) hHeld (by rfl) ?_ ?_
          rotate_left
          · (intro W hW; go_simp; try with_reducible rfl)
          try simp only [Act.put, List.setIfInBounds_toArray, List.set_cons_zero, List.set_cons_succ]
          refine held_take 14 (v := ?_) rfl (by kernel_rfl) (by kernel_rfl) (by kernel_rfl) (fun _ _ _ h => h) hHeld (by rfl) ?_ ?_
          rotate_left
          · (intro W hW; go_simp; try with_reducible rfl)
          try simp only [Act.put, List.setIfInBounds_toArray, List.set_cons_zero, List.set_cons_succ]
          refine wpAnyH_done (by kernel_rfl) ?_ _
          go_simp
          go_wp2_with fail
          go_ret2
          exact Or.inl ⟨HK.out, by have := HJ.out; rw [show l.length - 4 = j by omega]; rfl, HW.out.trans (HX3.out.mono HW.out.size)⟩
        · have HK := Lib.hid (fun h => hq (hok.1 h))
          have hne := str_ne hq
          obtain ⟨l2, hl2⟩ : ∃ l2, l2 = l.take j ++ sealL (l.take j) := ⟨_, rfl⟩
          rw [← hl2] at HC ca hne
          clear hok hq he hi hl2
          go_wp2_with fail
          refine wp_region_held_drew (S := fun W => RowKit.Below wr.heap.size wr W) (by kernel_rfl) ?_ (fun hHeld => ?_)
          · exact (RowKit.Below.refl _ _).drew
          refine held_take 0 (v := ?_) rfl (by kernel_rfl) (by kernel_rfl) (by kernel_rfl) (fun _ _ _ h => h) hHeld (by rfl) ?_ ?_
          rotate_left
          · (intro W hW; go_simp; try with_reducible rfl)
          try simp only [Act.put, List.setIfInBounds_toArray, List.set_cons_zero, List.set_cons_succ]
          refine held_take 1 (v := ?_) rfl (by kernel_rfl) (by kernel_rfl) (by kernel_rfl) (fun _ _ _ h => h) hHeld (by rfl) ?_ ?_
          rotate_left
          · (intro W hW; go_simp; try with_reducible rfl)
          try simp only [Act.put, List.setIfInBounds_toArray, List.set_cons_zero, List.set_cons_succ]
          refine held_take 2 (v := ?_) rfl (by kernel_rfl) (by kernel_rfl) (by kernel_rfl) (fun _ _ _ h => h) hHeld (by rfl) ?_ ?_
          rotate_left
          · (intro W hW; go_simp; try with_reducible rfl)
          try simp only [Act.put, List.setIfInBounds_toArray, List.set_cons_zero, List.set_cons_succ]
          refine held_take 3 (v := ?_) rfl (by kernel_rfl) (by kernel_rfl) (by kernel_rfl) (fun _ _ _ h => h) hHeld (by rfl) ?_ ?_
          rotate_left
          · (intro W hW; go_simp; try with_reducible rfl)
          try simp only [Act.put, List.setIfInBounds_toArray, List.set_cons_zero, List.set_cons_succ]
          refine held_take 4 (v := ?_) rfl (by kernel_rfl) (by kernel_rfl) (by kernel_rfl) (fun _ _ _ h => h) hHeld (by rfl) ?_ ?_
          rotate_left
          · (intro W hW; go_simp; try with_reducible rfl)
          try simp only [Act.put, List.setIfInBounds_toArray, List.set_cons_zero, List.set_cons_succ]
          refine held_take 5 (v := ?_) rfl (by kernel_rfl) (by kernel_rfl) (by kernel_rfl) (fun _ _ _ h => h) hHeld (by rfl) ?_ ?_
          rotate_left
          · (intro W hW; go_simp; try with_reducible rfl)
          try simp only [Act.put, List.setIfInBounds_toArray, List.set_cons_zero, List.set_cons_succ]
          refine held_take 6 (v := ?_) rfl (by kernel_rfl) (by kernel_rfl) (by kernel_rfl) (fun _ _ _ h => h) hHeld (by rfl) ?_ ?_
          rotate_left
          · (intro W hW; go_simp; try with_reducible rfl)
          try simp only [Act.put, List.setIfInBounds_toArray, List.set_cons_zero, List.set_cons_succ]
          refine held_take 7 (v := ?_) rfl (by kernel_rfl) (by kernel_rfl) (by kernel_rfl) (fun _ _ _ h => h) hHeld (by rfl) ?_ ?_
          rotate_left
          · (intro W hW; go_simp; try with_reducible rfl)
          try simp only [Act.put, List.setIfInBounds_toArray, List.set_cons_zero, List.set_cons_succ]
          refine held_take 8 (v := ?_) rfl (by kernel_rfl) (by kernel_rfl) (by kernel_rfl) (fun _ _ _ h => h) hHeld (by rfl) ?_ ?_
          rotate_left
          · (intro W hW; have e := rt W; go_simp; try with_reducible rfl)
          try simp only [Act.put, List.setIfInBounds_toArray, List.set_cons_zero, List.set_cons_succ]
          refine held_take 11 (v := ?_) rfl (by kernel_rfl) (by kernel_rfl) (by kernel_rfl) (fun _ _ _ h => h) hHeld (by rfl) ?_ ?_
          rotate_left
          · (intro W hW; go_simp; try with_reducible rfl)
          try simp only [Act.put, List.setIfInBounds_toArray, List.set_cons_zero, List.set_cons_succ]
          refine held_take 12 (v := ?_) rfl (by kernel_rfl) (by kernel_rfl) (by kernel_rfl) (fun _ _ _ h => h) hHeld (by rfl) ?_ ?_
          rotate_left
          · (intro W hW; have e := cb W (HBR.out.below hW); go_simp; try with_reducible rfl)
          try simp only [Act.put, List.setIfInBounds_toArray, List.set_cons_zero, List.set_cons_succ]
          refine held_next 9 rfl (by kernel_rfl) (by rfl) (fun K hK => ?_)
          go_simp
          go_at_call 55
          refine (HC _ (HIR.out.below (RowKit.Below.refl _ _).drew)).out.mono ?_
          rintro _ w3 h3
          obtain ⟨a3, c3, rfl, hb3, _, hB3, _⟩ := h3.row
          have HB3 := Lib.hid hb3
          have HX3 := Lib.hid (((RowKit.Below.refl wr.heap.size wr).drew).trans (hB3.mono (by simp)))
          clear h3 hb3 hB3
          refine hK.out _ _ HX3.out (fun hHeld => ?_)
          clear hK K hHeld
          try simp only [Act.put, List.setIfInBounds_toArray, List.set_cons_zero, List.set_cons_succ]
          refine held_since HX3.out (fun hHeld => ?_)
          refine held_take 10 (v := ?_) rfl (by kernel_rfl) (by kernel_rfl) (by kernel_rfl) (fun _ _ _ h => h) hHeld (by rfl) ?_ ?_
          rotate_left
          · (intro W hW; have e := ca W a3 c3 (HB3.out.below hW); go_simp; try with_reducible rfl)
          try simp only [Act.put, List.setIfInBounds_toArray, List.set_cons_zero, List.set_cons_succ]
          refine held_take 13 (v := ?_) rfl (by kernel_rfl) (by kernel_rfl) (by kernel_rfl) (fun _ _ _ h => h) hHeld (by rfl) ?_ ?_
          rotate_left
          · (intro W hW; go_simp; try with_reducible rfl)
          try simp only [Act.put, List.setIfInBounds_toArray, List.set_cons_zero, List.set_cons_succ]
          refine held_take 14 (v := ?_) rfl (by kernel_rfl) (by kernel_rfl) (by kernel_rfl) (fun _ _ _ h => h) hHeld (by rfl) ?_ ?_
          rotate_left
          · (intro W hW; go_simp; try with_reducible rfl)
          try simp only [Act.put, List.setIfInBounds_toArray, List.set_cons_zero, List.set_cons_succ]
          refine wpAnyH_done (by kernel_rfl) ?_ _
          go_simp
          go_wp2_with fail
          go_roundw
          case rel => exact ⟨j + 1, by go_num, by omega, fun h => absurd h HK.out, HW.out.trans (HX3.out.mono HW.out.size)⟩
          case measure => simp; omega
      · have d2 : ((j : Int) + 4 == (l.length : Int)) = false := by simp only [beq_eq_false_iff_ne, ne_eq]; omega
        have HO2 := Lib.hid (show Okay l → j + 1 + 4 ≤ l.length from fun h => by have := HO.out h; omega)
        clear he
        go_wp2_with fail
        go_quiet (fail)
        go_wp2
        go_roundw
        case rel => exact ⟨j + 1, by go_num, by omega, HO2, below_drewN HW.out _⟩
        case measure => simp; omega
    · have e : j = l.length := by omega
      subst e
      have d1 : decide (l.length < l.length) = false := by simp
      go_wp2
      go_ret2
      exact Or.inr ⟨fun h => by have := HO.out h; omega, rfl, HW.out⟩
end Go.Proofs.YtdfbpaajkpnaeaaGreat
