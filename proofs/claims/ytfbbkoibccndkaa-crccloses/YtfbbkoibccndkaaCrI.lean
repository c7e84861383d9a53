/- Package crc: Join. -/
import Derived.Test.YtfbbkoibccndkaaCrH
import Derived.Laws.BitsLemmas
namespace Go.Proofs.Ytfbbkoibccndkaa
open Go.RowKit Go.Lib

theorem and1_64 (i : Nat) (hi : i < 9223372036854775808) : bits BinOp.and IntKind.i64 (i : Int) 1 = ((i % 2 : Nat) : Int) := by
  have two63 : (2 : Int) ^ 63 = 9223372036854775808 := by decide
  have h := bits_mask .i64 63 (by decide) (fun n h0 h1 => by rw [two63] at h1; rw [IntKind.wrap_i64]; omega) 1 (by decide) (i : Int) (by omega) (by rw [two63]; omega)
  have e : ((2 : Int) ^ 1 - 1) = 1 := by decide
  rw [e] at h
  rw [h]
  omega
theorem bl_tr {a b c : World} (h : RowKit.Below a.heap.size a b) (k : RowKit.Below b.heap.size b c) : RowKit.Below a.heap.size a c := h.trans (k.mono h.size)
/-- the columns of k zeros -/
def zm (k : Nat) : Nat → Nat := fun i => zs k (2 ^ i % 4294967296)
theorem zm_lt (k i : Nat) : zm k i < 4294967296 := zs_lt (by omega) k
theorem zm_mx (k : Nat) : mx (zm k) = mx fun i => zs k (2 ^ i) := tab_congr fun i hi => by
  unfold zm
  rw [Nat.mod_eq_of_lt (pow_lt32 hi)]
theorem tm_congr {m n : Nat → Nat} (v : Nat) : ∀ i, (∀ j, j < i → m j = n j) → tm m v i = tm n v i
  | 0, _ => rfl
  | i + 1, h => by rw [tm, tm, tm_congr v i fun j hj => h j (by omega), h i (by omega)]
theorem zm_times (k : Nat) {v : Nat} (hv : v < 4294967296) : tm (zm k) v 32 = zs k v := by
  rw [tm_congr v 32 (n := fun j => zs k (2 ^ j)) fun j hj => by unfold zm; rw [Nat.mod_eq_of_lt (pow_lt32 hj)]]
  exact tm_all (zs_Lin k) hv
theorem zm_twice (k : Nat) : mx (fun i => tm (zm k) (zm k i) 32) = mx (zm (k + k)) := tab_congr fun i _ => by
  show ((tm (zm k) (zm k i) 32 : Nat) : Int) = _
  rw [zm_times k (zm_lt k i)]
  unfold zm
  rw [zs_add]
theorem zb_any (w : World) : Calls Try.prog 24 #[] w fun e w' => e = .returned (.agg (mx (zm 8))) ∧ RowKit.Below w.heap.size w w' := by
  rw [zm_mx]
  exact zeroByte_any w
theorem sq_any (k : Nat) (w : World) : Calls Try.prog 26 #[.agg (mx (zm k))] w fun e w' => e = .returned (.agg (mx (zm (k + k)))) ∧ RowKit.Below w.heap.size w w' := by
  rw [← zm_twice]
  exact squared_any (zm k) w (zm_lt k)
theorem tms_any (k v : Nat) (w : World) (hv : v < 4294967296) : Calls Try.prog 25 #[.agg (mx (zm k)), .int .u32 (v : Int)] w fun e w' => e = .returned (.int .u32 (zs k v : Int)) ∧ RowKit.Below w.heap.size w w' := by
  rw [← zm_times k hv]
  exact times_any (zm k) v w (zm_lt k) hv

theorem jn_odd {K x n r : Nat} (h : zs (K * n) x = r) (hp : n % 2 = 1) : zs ((K + K) * ((n : Int) / 2).toNat) (zs K x) = r := by
  rw [← zs_add, ← h]
  congr 1
  rw [show ((n : Int) / 2).toNat = n / 2 by omega]
  have e : n = 2 * (n / 2) + 1 := by omega
  generalize n / 2 = m at *
  rw [e, Nat.mul_add, Nat.mul_one, Nat.add_mul, Nat.mul_left_comm]
  omega
theorem jn_even {K x n r : Nat} (h : zs (K * n) x = r) (hp : ¬ n % 2 = 1) : zs ((K + K) * ((n : Int) / 2).toNat) x = r := by
  rw [← h]
  congr 1
  rw [show ((n : Int) / 2).toNat = n / 2 by omega]
  have e : n = 2 * (n / 2) := by omega
  generalize n / 2 = m at *
  rw [e, Nat.add_mul, Nat.mul_left_comm]
  omega
/-- where Join stands -/
def JnAt (w : World) (b : Nat) (r : Nat) (c0 c2 c7 : Value) (wr : World) : Prop :=
  ∃ (x K g : Nat) (i : Int) (M : Array Value), c0 = .int .u32 (x : Int) ∧ c2 = .int .i64 i ∧ c7 = .pointer (some ⟨g, 0, none⟩) ∧ i ≤ 4611686018427387904 ∧ Hid (x < 4294967296) ∧ Hid (zs (K * i.toNat) x = r) ∧ Hid (b ≤ g) ∧ Hid (RowKit.Below b w wr) ∧ Hid (wr.heap[g]? = some (.cells M 46)) ∧ Hid (M = mx (zm K))
set_option maxRecDepth 100000 in
set_option maxHeartbeats 800000 in
theorem join_any (a b : Nat) (n : Int) (w : World) (ha : a < 4294967296) (hb : b < 4294967296) (hn : n ≤ 4611686018427387904) : Calls Try.prog 17 #[.int .u32 (a : Int), .int .u32 (b : Int), .int .i64 n] w fun e w' => e = .returned (.int .u32 (jn a b n.toNat : Int)) ∧ RowKit.Below w.heap.size w w' := by
  have HZ := Lib.hid (zb_any w)
  have HA := Lib.hid ha
  have HB := Lib.hid hb
  have az := arr_tab .u32 (fun _ => 0)
  obtain ⟨M, hM⟩ : ∃ M, M = mx (zm 8) := ⟨_, rfl⟩
  rw [← hM] at HZ
  have ar : Arr M := by rw [hM]; exact arr_tab _ _
  have HM := Lib.hid hM
  clear hM ha hb
  go_enter Try.func17, Try.ntmps17
  go_wp2_with fail
  refine HZ.out.mono ?_
  rintro _ w1 ⟨rfl, hb1⟩
  have HB1 := Lib.hid hb1
  clear hb1 HZ
  go_wp2_with (first | (with_reducible refine wpList_alloc0 rfl isM rfl ?_) | ((with_reducible refine wpList_store1 rfl isM _ _ rfl _ M _ rfl rfl (blkn (by simp)) ar az ?_); rw [setRow_new (by simp)]))
  go_simp
  go_loopw [0, 2, 7] (JnAt w w.heap.size (zs (8 * n.toNat) a)) (fun _ c2 _ _ => (match c2 with | .int _ q => q | _ => 0).toNat)
  case atStart => exact ⟨a, 8, _, n, M, rfl, rfl, rfl, hn, HA, rfl, HB1.out.size, HB1.out.alloc HB1.out.size _, blkn rfl, HM⟩
  case round =>
    obtain ⟨x, K, g, i, M, rfl, rfl, rfl, hi, HX, HE, HG, HW, HK, HMM⟩ := hrel
    by_cases hlt : 0 < i
    · obtain ⟨n, rfl⟩ := Int.eq_ofNat_of_zero_le (show 0 ≤ i by omega)
      have hT := Lib.hid (fun W => tms_any K x W HX.out)
      have hQ := Lib.hid (fun W => sq_any K W)
      rw [← HMM.out] at hT hQ
      have arM : Arr M := by rw [HMM.out]; exact arr_tab _ _
      obtain ⟨M2, hM2⟩ : ∃ M2, M2 = mx (zm (K + K)) := ⟨_, rfl⟩
      rw [← hM2] at hQ
      have ar2 : Arr M2 := by rw [hM2]; exact arr_tab _ _
      have HM2 := Lib.hid hM2
      clear hM2
      have hk := HK.out
      have he := and1_64 n (by omega)
      have hE := HE.out
      by_cases hp : n % 2 = 1
      · have d1 : (bits .and .i64 (n : Int) 1 == 1) = true := by rw [he, hp]; rfl
        have HE2 := Lib.hid (jn_odd (show zs (K * n) x = _ from hE) hp)
        have HX2 := Lib.hid (zs_lt HX.out K)
        clear hE he hp HE HMM
        go_wp2_with (with_reducible refine wpList_load1 rfl isM _ rfl _ M rfl hk arM ?_)
        refine (hT.out _).mono ?_
        rintro _ w2 ⟨rfl, hb2⟩
        have HB2 := Lib.hid hb2
        have hk2 := blk_below hk hb2
        clear hb2 hk
        go_wp2_with (with_reducible refine wpList_load1 rfl isM _ rfl _ M rfl hk2 arM ?_)
        refine (hQ.out _).mono ?_
        rintro _ w3 ⟨rfl, hb3⟩
        have HB3 := Lib.hid (HW.out.trans ((bl_tr HB2.out hb3).mono (Nat.le_trans HG.out (Nat.le_of_lt (blk_lt HK.out)))))
        have hk3 := blk_below hk2 hb3
        have hk4 := setRow_heap w3 g M M2 46 (0, 0) hk3
        have HS3 := Lib.hid (show w.heap.size ≤ w3.heap.size from HB3.out.size)
        clear hb3 hk2
        go_wp2_with (first | (with_reducible refine wpList_store1 rfl isM _ _ rfl _ M2 M rfl rfl hk3 ar2 arM ?_) | (with_reducible refine wpList_load1 rfl isM _ rfl _ M2 rfl hk4 ar2 ?_) | (with_reducible refine wpList_alloc0 rfl isM rfl ?_) | ((with_reducible refine wpList_store1 rfl isM _ _ rfl _ M2 _ rfl rfl (blkn (by simp)) ar2 az ?_); rw [setRow_new (by simp)]))
        go_simp
        go_wp2
        exact ⟨⟨zs K x, K + K, _, (n : Int) / 2, M2, rfl, rfl, rfl, by omega, HX2, HE2, HS3, (below_setRow HB3.out HG.out).alloc (by simp; exact HS3.out) _, blkn (by simp), HM2⟩, by omega⟩
      · have d1 : (bits .and .i64 (n : Int) 1 == 1) = false := by rw [he]; simp only [beq_eq_false_iff_ne, ne_eq]; omega
        have HE2 := Lib.hid (jn_even (show zs (K * n) x = _ from hE) hp)
        clear hE he hp HE HMM hT
        go_wp2_with (with_reducible refine wpList_load1 rfl isM _ rfl _ M rfl hk arM ?_)
        refine (hQ.out _).mono ?_
        rintro _ w3 ⟨rfl, hb3⟩
        have HB3 := Lib.hid (HW.out.trans (hb3.mono (Nat.le_trans HG.out (Nat.le_of_lt (blk_lt HK.out)))))
        have hk3 := blk_below hk hb3
        have hk4 := setRow_heap w3 g M M2 46 (0, 0) hk3
        have HS3 := Lib.hid (show w.heap.size ≤ w3.heap.size from HB3.out.size)
        clear hb3 hk
        go_wp2_with (first | (with_reducible refine wpList_store1 rfl isM _ _ rfl _ M2 M rfl rfl hk3 ar2 arM ?_) | (with_reducible refine wpList_load1 rfl isM _ rfl _ M2 rfl hk4 ar2 ?_) | (with_reducible refine wpList_alloc0 rfl isM rfl ?_) | ((with_reducible refine wpList_store1 rfl isM _ _ rfl _ M2 _ rfl rfl (blkn (by simp)) ar2 az ?_); rw [setRow_new (by simp)]))
        go_simp
        go_wp2
        exact ⟨⟨x, K + K, _, (n : Int) / 2, M2, rfl, rfl, rfl, by omega, HX, HE2, HS3, (below_setRow HB3.out HG.out).alloc (by simp; exact HS3.out) _, blkn (by simp), HM2⟩, by omega⟩
    · have e : i.toNat = 0 := by omega
      have hE := HE.out
      rw [e] at hE
      have HR := Lib.hid (show bits .xor .u32 (x : Int) (b : Int) = (jn a b n.toNat : Int) by rw [u32_xor_nat x b HX.out HB.out]; unfold jn; rw [← hE]; rfl)
      clear e hE
      go_wp2
      go_ret
      exact ⟨ret_int HR.out, HW.out⟩
end Go.Proofs.Ytfbbkoibccndkaa
