/- falseworkref07: a bit is taken in. -/
import Derived.Test.YtfbbkoibccndkaaCrD
namespace Go.Proofs.Ytfbbkoibccndkaa
open Go.RowKit Go.Lib

/-- a register as a list of its bits -/
def rg (r : Nat) : Array Value := tab .i64 fun i => (bt r i : Int)
theorem rg_get (r : Nat) {i : Nat} (h : i < 32) : (rg r)[i]? = some (.int .i64 (bt r i : Int)) := tab_get _ _ h

theorem po_int (k : Nat) : (3988292384 / 2 ^ k : Int).tmod 2 = (bt PO k : Int) := by
  have e : (3988292384 / 2 ^ k : Int) = ((3988292384 / 2 ^ k : Nat) : Int) := by simp
  rw [e]
  unfold bt PO
  generalize (3988292384 / 2 ^ k : Nat) = m
  rw [Int.tmod_eq_emod_of_nonneg (by omega)]
  omega
theorem po_yes {k : Nat} (h : bt PO k = 1) : ((3988292384 / 2 ^ k : Int).tmod 2 == 1) = true := by rw [po_int, h]; rfl
theorem po_no {k : Nat} (h : ¬ bt PO k = 1) : ((3988292384 / 2 ^ k : Int).tmod 2 == 1) = false := by rw [po_int]; simp; omega
set_option maxRecDepth 100000 in
set_option maxHeartbeats 800000 in
theorem rin_any (r b : Nat) (w : World) (hr : r < 4294967296) (hb : b ≤ 1) : Calls Try.prog 21 #[.agg (rg r), .int .i64 (b : Int)] w fun e w' => e = .returned (.agg (rg (tk r b))) ∧ RowKit.Below w.heap.size w w' := by
  obtain ⟨R, hR⟩ : ∃ R, R = rg r := ⟨_, rfl⟩
  obtain ⟨Z, hZ⟩ : ∃ Z, Z = tab .i64 fun _ => 0 := ⟨_, rfl⟩
  have HG := fun (i : Nat) (h : i < 32) => rg_get r h
  rw [← hR] at HG
  have g0 := HG 0 (by omega)
  rw [← hR]
  have HZ := Lib.hid hZ
  clear hZ hR
  have HR := Lib.hid hr
  obtain ⟨x, hx⟩ : ∃ x : Nat, x = bt r 0 := ⟨_, rfl⟩
  rw [← hx] at g0
  have hx1 : x ≤ 1 := by rw [hx]; exact bt_le r 0
  have HX := Lib.hid hx
  have HGG := Lib.hid HG
  clear hx HG hr
  go_enter Try.func21, Try.ntmps21
  go_wp2_with (first | (with_reducible refine wpList_box0 rfl _ _ rfl _ rfl ?_) | (with_reducible refine wpList_alloc0 rfl isI rfl ?_) | (with_reducible refine wpList_build0 rfl isI rfl ?_) | ((with_reducible refine wpList_store0 rfl isI _ _ rfl _ (fun _ => 0) (fun _ => 0) rfl rfl (blkn (by simp)) ?_); rw [setRow_new (by simp)]))
  rw [← HZ.out]
  go_loopw [7] (fun c7 wr => ∃ k : Nat, c7 = .int .i64 (k : Int) ∧ k ≤ 31 ∧ wr = ((w.alloc (.cells R 30)).alloc (.cells Z 30)).alloc (.cells (tab .i64 fun j => if j < k then (bt r (j + 1) : Int) else 0) 30)) (fun c7 _ => 31 - (match c7 with | .int _ q => q | _ => 0).toNat)
  case atStart => exact ⟨0, rfl, by omega, by rw [HZ.out]; rfl⟩
  case round =>
    obtain ⟨k, rfl, hk, rfl⟩ := hrel
    by_cases hlt : k < 31
    · obtain ⟨c, c', v, hc, hc', hv, h1, h2⟩ := tab_step (k := .i64) (f := fun j => if j < k then (bt r (j + 1) : Int) else 0) (g := fun j => if j < k + 1 then (bt r (j + 1) : Int) else 0) (i := k) (by omega) (x := (bt r (k + 1) : Int)) (fun j _ => by
        by_cases e : j = k
        · subst e; simp
        · simp only [if_neg e]; by_cases h : j < k
          · rw [if_pos h, if_pos (by omega)]
          · rw [if_neg h, if_neg (by omega)])
      rw [← hc]
      have HC := Lib.hid hc'
      have hg := HGG.out (k + 1) (by omega)
      clear hc hc' hv
      generalize (bt r (k + 1) : Int) = y at *
      go_wp2
      go_roundw
      case rel => exact ⟨k + 1, by go_num, by omega, by rw [HC.out]⟩
      case measure => simp; omega
    · have e : k = 31 := by omega
      subst e
      rw [tab_congr (g := fun j => (bt r (j + 1) : Int)) (fun j hj => by
        by_cases h : j < 31
        · rw [if_pos h]
        · rw [if_neg h, show j = 31 by omega, bt_big (i := 31 + 1) HR.out]; rfl)]
      go_wp2
      go_loopw [25] (fun c25 wr => ∃ k : Nat, c25 = .int .i64 (k : Int) ∧ k ≤ 32 ∧ wr = ((w.alloc (.cells R 30)).alloc (.cells Z 30)).alloc (.cells (tab .i64 fun j => if j < k then (bt (tk r b) j : Int) else (bt r (j + 1) : Int)) 30)) (fun c25 _ => 32 - (match c25 with | .int _ q => q | _ => 0).toNat)
      case atStart => exact ⟨0, rfl, by omega, rfl⟩
      case round =>
        obtain ⟨k, rfl, hk, rfl⟩ := hrel
        by_cases hlt : k < 32
        · have hbt : bt (tk r b) k = (bt r (k + 1) + (if (bt r 0 + b) % 2 = 1 then bt PO k else 0)) % 2 := by
            rcases bt_tk r b k with h | h
            · rw [h, show bt r 0 = r % 2 by unfold bt; simp]
            · omega
          have hv3 := bt_le r (k + 1)
          have nx : bt (tk r b) k = bt r (k + 1) → tab .i64 (fun j => if j < k then (bt (tk r b) j : Int) else (bt r (j + 1) : Int)) = tab .i64 (fun j => if j < k + 1 then (bt (tk r b) j : Int) else (bt r (j + 1) : Int)) := fun h => tab_congr fun j _ => by
            by_cases e : j = k
            · subst e; simp [h]
            · by_cases h : j < k
              · rw [if_pos h, if_pos (by omega)]
              · rw [if_neg h, if_neg (by omega)]
          by_cases hd : (bt r 0 + b) % 2 = 1
          · have d1 : (((x : Int) + b) % 2 == 1) = true := by rw [HX.out]; simp; omega
            rw [if_pos hd] at hbt
            by_cases hp : bt PO k = 1
            · have d2 := po_yes hp
              rw [hp] at hbt
              obtain ⟨c, c', v, hc, hc', hv, h1, h2⟩ := tab_step (k := .i64) (f := fun j => if j < k then (bt (tk r b) j : Int) else (bt r (j + 1) : Int)) (g := fun j => if j < k + 1 then (bt (tk r b) j : Int) else (bt r (j + 1) : Int)) (i := k) hlt (x := 1 - (bt r (k + 1) : Int)) (fun j _ => by
                by_cases e : j = k
                · subst e
                  rw [if_pos (by omega), if_pos rfl, hbt]
                  omega
                · simp only [if_neg e]; by_cases h : j < k
                  · rw [if_pos h, if_pos (by omega)]
                  · rw [if_neg h, if_neg (by omega)])
              rw [← hc]
              have HC := Lib.hid hc'
              have hv2 : v = (bt r (k + 1) : Int) := by rw [hv]; simp
              rw [← hv2] at h2
              have v0 : 0 ≤ v := by omega
              have v1 : v ≤ 1 := by omega
              clear hc hc' hv hv2 hbt hd hp nx hv3
              go_wp2
              go_roundw
              case rel => exact ⟨k + 1, by go_num, by omega, by rw [HC.out]⟩
              case measure => simp; omega
            · have d2 := po_no hp
              have hc := nx (by rw [hbt, show bt PO k = 0 by have := bt_le PO k; omega]; omega)
              rw [hc]
              obtain ⟨c, hc'⟩ : ∃ c, c = tab .i64 (fun j => if j < k + 1 then (bt (tk r b) j : Int) else (bt r (j + 1) : Int)) := ⟨_, rfl⟩
              rw [← hc']
              have HC := Lib.hid hc'
              clear hc hc' hbt hd hp nx hv3
              go_wp2
              go_roundw
              case rel => exact ⟨k + 1, by go_num, by omega, by rw [HC.out]⟩
              case measure => simp; omega
          · have d1 : (((x : Int) + b) % 2 == 1) = false := by rw [HX.out]; simp; omega
            rw [if_neg hd] at hbt
            have hc := nx (by rw [hbt]; omega)
            rw [hc]
            obtain ⟨c, hc'⟩ : ∃ c, c = tab .i64 (fun j => if j < k + 1 then (bt (tk r b) j : Int) else (bt r (j + 1) : Int)) := ⟨_, rfl⟩
            rw [← hc']
            have HC := Lib.hid hc'
            clear hc hc' hbt hd nx hv3
            go_wp2
            go_roundw
            case rel => exact ⟨k + 1, by go_num, by omega, by rw [HC.out]⟩
            case measure => simp; omega
        · have e : k = 32 := by omega
          subst e
          have hc : tab .i64 (fun j => if j < 32 then (bt (tk r b) j : Int) else (bt r (j + 1) : Int)) = rg (tk r b) := tab_congr fun j hj => by simp [hj]
          rw [hc]
          obtain ⟨c, hc'⟩ : ∃ c, c = rg (tk r b) := ⟨_, rfl⟩
          rw [← hc']
          have ac : Arr c := by rw [hc']; exact arr_tab _ _
          have az : Arr Z := by rw [HZ.out]; exact arr_tab _ _
          have HC := Lib.hid hc'
          clear hc hc'
          go_wp2_with (first | (with_reducible refine wpList_load1 rfl isI _ rfl _ c rfl (blkn (by simp)) ac ?_) | (with_reducible refine wpList_store1 rfl isI _ _ rfl _ c Z rfl rfl (blk_in (blkn (by simp))) ac az ?_))
          refine ret_arr isI Try.results21 rfl (setRow_heap _ _ _ _ _ _ (blk_in (blkn (by simp)))) ac rfl ⟨by rw [HC.out], ?_⟩
          exact below_setRow ((((RowKit.Below.refl _ _).alloc (Nat.le_refl _) _).alloc (by simp) _).alloc (by simp; omega) _) (by omega)
end Go.Proofs.Ytfbbkoibccndkaa
