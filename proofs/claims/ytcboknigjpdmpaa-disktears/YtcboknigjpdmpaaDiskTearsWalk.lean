/- The walk of falseworklaw08.DiskTears. -/
import Derived.Test.YtcboknigjpdmpaaDkTa
namespace Go.Proofs.Ytcboknigjpdmpaa
open Go.RowKit Go.Lib

theorem min_keep {l : List Int} {i : Nat} {k : Int} (h : l.getD (2 - i) 0 = k) : max (0 : Int) (min k 64) = (keepF l (2 - i) : Int) := by unfold keepF; rw [h]; omega
set_option maxRecDepth 100000 in
set_option maxHeartbeats 12800000 in
theorem diskTears_walk (w : World) (o f : Sec) (ho : o.length = 3) (hf : f.length = 3) (k0 k1 k2 : Int) :
    Calls Try.prog 5 #[.agg (bcells o).toArray, .agg (bcells f).toArray, .agg #[.int .i64 k0, .int .i64 k1, .int .i64 k2]] w fun e w' => e = .returned (.bool true) ∧ RowKit.Below w.heap.size w w' := by
  obtain ⟨co, hco⟩ : ∃ co, co = bcells o := ⟨_, rfl⟩
  obtain ⟨cv, hcv⟩ : ∃ cv, cv = bcells f := ⟨_, rfl⟩
  have HCOE := Lib.hid hco
  have HCVE := Lib.hid hcv
  have HOL := Lib.hid ho
  have HFL := Lib.hid hf
  have HCO := Lib.hid (show Cs 3 co by rw [hco]; exact ⟨by rw [bcells_len, ho], bcells_one _⟩)
  rw [← hco, ← hcv]
  obtain ⟨w3, hw3⟩ : ∃ w3, w3 = ((w.alloc (.cells co.toArray 49)).alloc (.cells cv.toArray 49)).alloc (.cells #[.int .i64 k0, .int .i64 k1, .int .i64 k2] 50) := ⟨_, rfl⟩
  have HB3 := Lib.hid (show RowKit.Below w.heap.size w w3 by rw [hw3]; exact (((RowKit.Below.refl _ _).alloc (Nat.le_refl _) _).alloc (by simp) _).alloc (by simp; omega) _)
  have HW3 := Lib.hid hw3
  have HN3 := Lib.hid (show w3.heap.size = w.heap.size + 3 by rw [hw3]; simp)
  have p0 : w3.heap[w.heap.size]? = some (.cells co.toArray 49) := by rw [hw3]; exact blk_in (blk_in (blkn rfl))
  have p1 : w3.heap[w.heap.size + 1]? = some (.cells cv.toArray 49) := by rw [hw3]; exact blk_in (blkn (by simp))
  have p2 : w3.heap[w.heap.size + 2]? = some (.cells #[.int .i64 k0, .int .i64 k1, .int .i64 k2] 50) := by rw [hw3]; exact blkn (by simp)
  have HP0 := Lib.hid (fun (W : World) (hb : RowKit.Below w3.heap.size w3 W) => (hb.block _ (lt_of_heap p0)).trans p0)
  have HOX := Lib.hid (show ∀ (W : World), RowKit.Below w3.heap.size w3 W → ∀ i, i < 3 → W.cell? ⟨w.heap.size, i, none⟩ = some (.int .u8 ((o.getD i 0).toNat : Int)) from fun W hb i hi => by
    rw [cell_of_row _ _ _ _ _ _ ((hb.block _ (lt_of_heap p0)).trans p0), hco, List.getElem?_toArray, bcells_get (by rw [ho]; exact hi)])
  have HFX := Lib.hid (show ∀ (W : World), RowKit.Below w3.heap.size w3 W → ∀ i, i < 3 → W.cell? ⟨w.heap.size + 1, i, none⟩ = some (.int .u8 ((f.getD i 0).toNat : Int)) from fun W hb i hi => by
    rw [cell_of_row _ _ _ _ _ _ ((hb.block _ (lt_of_heap p1)).trans p1), hcv, List.getElem?_toArray, bcells_get (by rw [hf]; exact hi)])
  have HKX := Lib.hid (show ∀ (W : World), RowKit.Below w3.heap.size w3 W → ∀ i, i < 3 → W.cell? ⟨w.heap.size + 2, i, none⟩ = some (.int .i64 ([k0, k1, k2].getD i 0)) from fun W hb i hi => by
    rw [cell_of_row _ _ _ _ _ _ ((hb.block _ (lt_of_heap p2)).trans p2)]
    rcases three hi with rfl | rfl | rfl <;> rfl)
  have A := Lib.hid (alive_any w3)
  clear ho hf hco hcv hw3 p0 p1 p2
  go_enter Try.func5, Try.ntmps5
  go_wp2_with (first | (with_reducible refine wpList_boxA rfl _ _ rfl _ rfl ?_))
  rw [← HW3.out]
  refine A.out.mono ?_
  rintro _ w4 ⟨rfl, hb4⟩
  have HB4 := Lib.hid hb4
  have B := Lib.hid (blank_any 3 w4)
  clear hb4 A
  go_wp2_with fail
  refine B.out.mono ?_
  rintro _ w5 ⟨g, F0, rfl, hd, hb, hf⟩
  have HS := Lib.hid (show ∃ F, T3 w3 w5 F g (upD o 0) from ⟨F0, hd, fun i hi => Nat.le_trans HB4.out.size (hf i hi), HB4.out.trans (hb.mono HB4.out.size)⟩)
  have hp0 := HP0.out w5 (HB4.out.trans (hb.mono HB4.out.size))
  clear hd hb hf B
  go_wp2_with (first | (with_reducible refine wpList_loadW rfl is3b _ rfl w.heap.size co _ rfl hp0 HCO.out ?_))
  clear hp0
  go_loopw [23] (fun c23 wr => ∃ (k : Nat), c23 = .int .i64 (k : Int) ∧ k ≤ 3 ∧ ∃ F, T3 w3 wr F g (upD o k)) (fun c23 _ => 3 - (match c23 with | .int _ q => q | _ => 0).toNat)
  case atStart => exact ⟨0, rfl, by omega, HS.out⟩
  case round =>
    obtain ⟨k, rfl, hk, F, ht⟩ := hrel
    have HT := Lib.hid ht
    clear ht
    have hcs : k = 0 ∨ k = 1 ∨ k = 2 ∨ k = 3 := by omega
    clear hk
    rcases hcs with rfl | rfl | rfl | rfl
    · -- 0
      obtain ⟨hE, hP⟩ : (upD o 0).putE 0 = 0 ∧ (upD o 0).put 0 (paint (o.getD 0 0)) = upD o (0 + 1) := ⟨(up_put (k := 0) (by omega)).2, (up_put (k := 0) (by omega)).1⟩
      have HE := Lib.hid hE
      have HP := Lib.hid hP
      have HPUT := Lib.hid (fun (W : World) (hb : RowKit.Below wr.heap.size wr W) => put_any g F (upD o 0) 0 (paint (o.getD 0 0)) W (HT.out.dt.below hb) (by unfold I; omega) (paint_len _) (by simp [upD]))
      have HPA := Lib.hid (painted_any (o.getD 0 0) wr)
      have hix : ∀ W, (Instr.index 49 (.agg co.toArray) (.int .i64 0)).run Try.prog W = .ok (.int .u8 ((o.getD 0 0).toNat : Int)) W := fun W => run_index3 (M := co.toArray) (i := 0) (v := .int .u8 ((o.getD 0 0).toNat : Int)) (by rw [HCOE.out, List.getElem?_toArray, bcells_get (by rw [HOL.out]; omega)]) (by omega) W
      clear hE hP
      go_wp2_with fail
      refine HPA.out.mono ?_
      rintro _ wp ⟨rfl, hbp⟩
      have HBP := Lib.hid hbp
      clear hbp
      go_wp2_with fail
      refine (HPUT.out wp HBP.out).mono ?_
      rintro _ w9 ⟨rfl, hdid⟩
      rw [HE.out]
      rw [HP.out] at hdid
      have HN9 := Lib.hid ((HT.out.below HBP.out).next hdid)
      clear hdid
      go_wp2_with fail
      go_roundw
      case rel => exact ⟨0 + 1, by go_num, by omega, HN9.out⟩
      case measure => simp
    · -- 1
      obtain ⟨hE, hP⟩ : (upD o 1).putE 1 = 0 ∧ (upD o 1).put 1 (paint (o.getD 1 0)) = upD o (1 + 1) := ⟨(up_put (k := 1) (by omega)).2, (up_put (k := 1) (by omega)).1⟩
      have HE := Lib.hid hE
      have HP := Lib.hid hP
      have HPUT := Lib.hid (fun (W : World) (hb : RowKit.Below wr.heap.size wr W) => put_any g F (upD o 1) 1 (paint (o.getD 1 0)) W (HT.out.dt.below hb) (by unfold I; omega) (paint_len _) (by simp [upD]))
      have HPA := Lib.hid (painted_any (o.getD 1 0) wr)
      have hix : ∀ W, (Instr.index 49 (.agg co.toArray) (.int .i64 1)).run Try.prog W = .ok (.int .u8 ((o.getD 1 0).toNat : Int)) W := fun W => run_index3 (M := co.toArray) (i := 1) (v := .int .u8 ((o.getD 1 0).toNat : Int)) (by rw [HCOE.out, List.getElem?_toArray, bcells_get (by rw [HOL.out]; omega)]) (by omega) W
      clear hE hP
      go_wp2_with fail
      refine HPA.out.mono ?_
      rintro _ wp ⟨rfl, hbp⟩
      have HBP := Lib.hid hbp
      clear hbp
      go_wp2_with fail
      refine (HPUT.out wp HBP.out).mono ?_
      rintro _ w9 ⟨rfl, hdid⟩
      rw [HE.out]
      rw [HP.out] at hdid
      have HN9 := Lib.hid ((HT.out.below HBP.out).next hdid)
      clear hdid
      go_wp2_with fail
      go_roundw
      case rel => exact ⟨1 + 1, by go_num, by omega, HN9.out⟩
      case measure => simp
    · -- 2
      obtain ⟨hE, hP⟩ : (upD o 2).putE 2 = 0 ∧ (upD o 2).put 2 (paint (o.getD 2 0)) = upD o (2 + 1) := ⟨(up_put (k := 2) (by omega)).2, (up_put (k := 2) (by omega)).1⟩
      have HE := Lib.hid hE
      have HP := Lib.hid hP
      have HPUT := Lib.hid (fun (W : World) (hb : RowKit.Below wr.heap.size wr W) => put_any g F (upD o 2) 2 (paint (o.getD 2 0)) W (HT.out.dt.below hb) (by unfold I; omega) (paint_len _) (by simp [upD]))
      have HPA := Lib.hid (painted_any (o.getD 2 0) wr)
      have hix : ∀ W, (Instr.index 49 (.agg co.toArray) (.int .i64 2)).run Try.prog W = .ok (.int .u8 ((o.getD 2 0).toNat : Int)) W := fun W => run_index3 (M := co.toArray) (i := 2) (v := .int .u8 ((o.getD 2 0).toNat : Int)) (by rw [HCOE.out, List.getElem?_toArray, bcells_get (by rw [HOL.out]; omega)]) (by omega) W
      clear hE hP
      go_wp2_with fail
      refine HPA.out.mono ?_
      rintro _ wp ⟨rfl, hbp⟩
      have HBP := Lib.hid hbp
      clear hbp
      go_wp2_with fail
      refine (HPUT.out wp HBP.out).mono ?_
      rintro _ w9 ⟨rfl, hdid⟩
      rw [HE.out]
      rw [HP.out] at hdid
      have HN9 := Lib.hid ((HT.out.below HBP.out).next hdid)
      clear hdid
      go_wp2_with fail
      go_roundw
      case rel => exact ⟨2 + 1, by go_num, by omega, HN9.out⟩
      case measure => simp
    · have HFLU := Lib.hid (flush_any g F _ wr HT.out.dt)
      go_wp2_with fail
      refine HFLU.out.mono ?_
      rintro _ w6 ⟨rfl, hdid⟩
      rw [(up_flush (o := o) f).2]
      rw [(up_flush f).1] at hdid
      have HS6 := Lib.hid (HT.out.next hdid)
      clear hdid HT HFLU
      go_wp2_with fail
      go_loopw [10] (fun c10 wr => ∃ (m : Nat) (z : Int), c10 = .int .i64 z ∧ z = 2 - (m : Int) ∧ m ≤ 3 ∧ ∃ F, T3 w3 wr F g (dnD o f m)) (fun c10 _ => ((match c10 with | .int _ q => q | _ => 0) + 1).toNat)
      case atStart => exact ⟨0, 2, rfl, by omega, by omega, HS6.out⟩
      case round =>
        obtain ⟨m, z, rfl, hz, hm, F, ht⟩ := hrel
        have HT := Lib.hid ht
        clear ht
        have hcs : m = 0 ∨ m = 1 ∨ m = 2 ∨ m = 3 := by omega
        clear hm
        rcases hcs with rfl | rfl | rfl | rfl
        · -- 0
          obtain rfl : z = 2 := by omega
          obtain ⟨hE, hP⟩ : (dnD o f 0).putE 2 = 0 ∧ (dnD o f 0).put 2 (paint (f.getD 2 0)) = dnD o f (0 + 1) := ⟨(dn_put (m := 0) (by omega)).2, (dn_put (m := 0) (by omega)).1⟩
          have HE := Lib.hid hE
          have HP := Lib.hid hP
          have HPUT := Lib.hid (fun (W : World) (hb : RowKit.Below wr.heap.size wr W) => put_any g F (dnD o f 0) 2 (paint (f.getD 2 0)) W (HT.out.dt.below hb) (by unfold I; omega) (paint_len _) (by simp [dnD]))
          have HPA := Lib.hid (painted_any (f.getD 2 0) wr)
          have q1 := HFX.out wr HT.out.bl 2 (by omega)
          clear hE hP hz
          go_wp2_with fail
          refine HPA.out.mono ?_
          rintro _ wp ⟨rfl, hbp⟩
          have HBP := Lib.hid hbp
          clear hbp q1
          go_wp2_with fail
          refine (HPUT.out wp HBP.out).mono ?_
          rintro _ w9 ⟨rfl, hdid⟩
          rw [HE.out]
          rw [HP.out] at hdid
          have HN9 := Lib.hid ((HT.out.below HBP.out).next hdid)
          clear hdid
          go_wp2_with fail
          go_roundw
          case rel => exact ⟨0 + 1, 2 - 1, by go_num, by omega, by omega, HN9.out⟩
          case measure => simp
        · -- 1
          obtain rfl : z = 1 := by omega
          obtain ⟨hE, hP⟩ : (dnD o f 1).putE 1 = 0 ∧ (dnD o f 1).put 1 (paint (f.getD 1 0)) = dnD o f (1 + 1) := ⟨(dn_put (m := 1) (by omega)).2, (dn_put (m := 1) (by omega)).1⟩
          have HE := Lib.hid hE
          have HP := Lib.hid hP
          have HPUT := Lib.hid (fun (W : World) (hb : RowKit.Below wr.heap.size wr W) => put_any g F (dnD o f 1) 1 (paint (f.getD 1 0)) W (HT.out.dt.below hb) (by unfold I; omega) (paint_len _) (by simp [dnD]))
          have HPA := Lib.hid (painted_any (f.getD 1 0) wr)
          have q1 := HFX.out wr HT.out.bl 1 (by omega)
          clear hE hP hz
          go_wp2_with fail
          refine HPA.out.mono ?_
          rintro _ wp ⟨rfl, hbp⟩
          have HBP := Lib.hid hbp
          clear hbp q1
          go_wp2_with fail
          refine (HPUT.out wp HBP.out).mono ?_
          rintro _ w9 ⟨rfl, hdid⟩
          rw [HE.out]
          rw [HP.out] at hdid
          have HN9 := Lib.hid ((HT.out.below HBP.out).next hdid)
          clear hdid
          go_wp2_with fail
          go_roundw
          case rel => exact ⟨1 + 1, 1 - 1, by go_num, by omega, by omega, HN9.out⟩
          case measure => simp
        · -- 2
          obtain rfl : z = 0 := by omega
          obtain ⟨hE, hP⟩ : (dnD o f 2).putE 0 = 0 ∧ (dnD o f 2).put 0 (paint (f.getD 0 0)) = dnD o f (2 + 1) := ⟨(dn_put (m := 2) (by omega)).2, (dn_put (m := 2) (by omega)).1⟩
          have HE := Lib.hid hE
          have HP := Lib.hid hP
          have HPUT := Lib.hid (fun (W : World) (hb : RowKit.Below wr.heap.size wr W) => put_any g F (dnD o f 2) 0 (paint (f.getD 0 0)) W (HT.out.dt.below hb) (by unfold I; omega) (paint_len _) (by simp [dnD]))
          have HPA := Lib.hid (painted_any (f.getD 0 0) wr)
          have q1 := HFX.out wr HT.out.bl 0 (by omega)
          clear hE hP hz
          go_wp2_with fail
          refine HPA.out.mono ?_
          rintro _ wp ⟨rfl, hbp⟩
          have HBP := Lib.hid hbp
          clear hbp q1
          go_wp2_with fail
          refine (HPUT.out wp HBP.out).mono ?_
          rintro _ w9 ⟨rfl, hdid⟩
          rw [HE.out]
          rw [HP.out] at hdid
          have HN9 := Lib.hid ((HT.out.below HBP.out).next hdid)
          clear hdid
          go_wp2_with fail
          go_roundw
          case rel => exact ⟨2 + 1, 0 - 1, by go_num, by omega, by omega, HN9.out⟩
          case measure => simp
        · obtain rfl : z = -1 := by omega
          clear hz
          have q0 := HKX.out wr HT.out.bl 0 (by omega)
          have q1 := HKX.out wr HT.out.bl 1 (by omega)
          have q2 := HKX.out wr HT.out.bl 2 (by omega)
          have hnb : RowKit.Below wr.heap.size wr (wr.alloc (.cells #[.int .i64 k2, .int .i64 k1, .int .i64 k0] 3)) := (RowKit.Below.refl _ _).alloc (Nat.le_refl _) _
          have HT8 := Lib.hid (HT.out.below hnb)
          have HPW := Lib.hid (power_any g F _ (some ⟨wr.heap.size, 0, none⟩) [k2, k1, k0] 3 3 (wr.alloc (.cells #[.int .i64 k2, .int .i64 k1, .int .i64 k0] 3)) HT8.out.dt (nums_new wr [k2, k1, k0] 3) rfl (Or.inr (by rintro b ⟨q, e, rfl⟩ hf; cases e; have := HT.out.dt.fl _ hf; exact Nat.lt_irrefl _ this)))
          clear hnb
          simp only [List.getD_cons_zero, List.getD_cons_succ] at q0 q1 q2
          go_wp2_with fail
          refine HPW.out.mono ?_
          rintro _ w6 ⟨rfl, hdid⟩
          obtain ⟨F6, ht6⟩ := HT8.out.next hdid
          obtain ⟨D, hD⟩ : ∃ D, D = (dnD o f 3).power [k2, k1, k0] := ⟨_, rfl⟩
          rw [← hD] at ht6
          have HT6 := Lib.hid ht6
          have HDA := Lib.hid (show ∀ i : Nat, i < 3 → D.at_ (i : Int) = cutS (paint (f.getD i 0)) (paint (o.getD i 0)) (keepF [k2, k1, k0] (2 - i)) from fun i hi => by rw [hD]; exact dn_at _ hi)
          have HDL := Lib.hid (show D.base.length = 3 by rw [hD]; rfl)
          have HDQ := Lib.hid (show D.queue = [] by rw [hD]; rfl)
          clear hdid ht6 hD q0 q1 q2 HPW HT8 HT
          go_wp2_with fail
          go_loopw [58] (fun c58 wr => ∃ (i : Nat), c58 = .int .i64 (i : Int) ∧ i ≤ 3 ∧ T3 w3 wr F6 g D) (fun c58 _ => 3 - (match c58 with | .int _ q => q | _ => 0).toNat)
          case atStart => exact ⟨0, rfl, by omega, HT6.out⟩
          case round =>
            obtain ⟨i, rfl, hi3, ht⟩ := hrel
            have HT := Lib.hid ht
            clear ht
            by_cases hil : i < 3
            · have HIL := Lib.hid hil
              have HGET := Lib.hid (get_any g F6 D (i : Int) wr HT.out.dt (by unfold I; omega))
              go_wp2_with fail
              refine HGET.out.mono ?_
              rintro _ w5 ⟨rfl, hb5⟩
              rw [show D.has (i : Int) = true from Dk.has_iff.2 (by rw [HDL.out]; omega), if_pos rfl]
              obtain ⟨cg, hcg⟩ : ∃ cg, cg = bcells (D.at_ (i : Int)) := ⟨_, rfl⟩
              obtain ⟨cw, hcw⟩ : ∃ cw, cw = bcells (paint (o.getD i 0)) := ⟨_, rfl⟩
              obtain ⟨cf, hcf⟩ : ∃ cf, cf = bcells (paint (f.getD i 0)) := ⟨_, rfl⟩
              have HCW := Lib.hid (show Cs 64 cw by rw [hcw]; exact cs_sec (paint_len _))
              have HCF := Lib.hid (show Cs 64 cf by rw [hcf]; exact cs_sec (paint_len _))
              have hs64 : (D.at_ (i : Int)).length = 64 := at_len HT.out.dt.ok _
              have HCG := Lib.hid (show Cs 64 cg by rw [hcg]; exact cs_sec hs64)
              have HPO := Lib.hid (show ∀ W, Calls Try.prog 18 #[.int .u8 ((o.getD i 0).toNat : Int)] W fun e w' => e = .returned (.agg cw.toArray) ∧ RowKit.Below W.heap.size W w' from fun W => by rw [hcw]; exact painted_any _ W)
              have HPF := Lib.hid (show ∀ W, Calls Try.prog 18 #[.int .u8 ((f.getD i 0).toNat : Int)] W fun e w' => e = .returned (.agg cf.toArray) ∧ RowKit.Below W.heap.size W w' from fun W => by rw [hcf]; exact painted_any _ W)
              have HA7z := Lib.hid (heap_alloc_new w5 (.cells zc.toArray 28))
              have HSN := Lib.hid (show (w5.alloc (.cells zc.toArray 28)).setRow w5.heap.size cg.toArray = w5.alloc (.cells cg.toArray 28) from setRow_new rfl)
              obtain ⟨w7, hw7⟩ : ∃ w7, w7 = w5.alloc (.cells cg.toArray 28) := ⟨_, rfl⟩
              have H12 := Lib.hid (show w7.heap[w5.heap.size]? = some (.cells cg.toArray 28) by rw [hw7]; exact heap_alloc_new w5 _)
              have ht8 : T3 w3 w7 F6 g D := (HT.out.below hb5).below (by rw [hw7]; exact (RowKit.Below.refl _ _).alloc (Nat.le_refl _) _)
              have HT8 := Lib.hid ht8
              have HOC := Lib.hid (HOX.out w7 ht8.bl i hil)
              have HFC := Lib.hid (HFX.out w7 ht8.bl i hil)
              have HLT := Lib.hid (show ∀ b ∈ [w.heap.size, w.heap.size + 1], b < w7.heap.size from fun b hb => by have := ht8.bl.size; have := HN3.out; simp at hb; omega)
              have HQ0 := Lib.hid (Q2.start w7)
              obtain ⟨n, hn⟩ : ∃ n, n = keepF [k2, k1, k0] (2 - i) := ⟨_, rfl⟩
              have hn64 : n ≤ 64 := by rw [hn]; exact keepF_le _ _
              have HN64 := Lib.hid hn64
              have HMK := Lib.hid (show max (0 : Int) (min ([k0, k1, k2].getD i 0) 64) = (n : Int) by rw [hn]; exact min_keep (by rcases three hil with rfl | rfl | rfl <;> rfl))
              have HLO := Lib.hid (show ∀ j, j < n → (D.at_ (i : Int)).getD j 0 = (paint (f.getD i 0)).getD j 0 from fun j hj => by rw [HDA.out i hil, ← hn]; exact cut_lo (paint_len _) hn64 hj)
              have HHI := Lib.hid (show ∀ j, n ≤ j → (D.at_ (i : Int)).getD j 0 = (paint (o.getD i 0)).getD j 0 from fun j hj => by rw [HDA.out i hil, ← hn]; exact cut_hi (paint_len _) hn64 hj)
              have HCGE := Lib.hid hcg
              have HCWE := Lib.hid hcw
              have HCFE := Lib.hid hcf
              have HS64 := Lib.hid hs64
              rw [← hw7] at HSN
              rw [← hcg]
              clear hcg hcw hcf hs64 hb5 hw7 ht8 hn hn64
              go_wp2_with (first | (with_reducible refine wpList_allocA rfl isS rfl ?_) | ((with_reducible refine wpList_storeW rfl isS _ _ rfl w5.heap.size cg zc.toArray _ rfl rfl HA7z.out HCG.out (by simp [zc_len]) ?_); rw [HSN.out]))
              apply wp_then2 (End2 w7 cw cf)
              · refine wp_region_held_drew (S := fun W => Agree [w.heap.size, w.heap.size + 1] w7 W) (by kernel_rfl) ?_ (fun hHeld => ?_)
                · exact fun _ _ => rfl
                refine held_take 0 (v := ?_) rfl (by kernel_rfl) (by kernel_rfl) (by kernel_rfl) (fun _ _ _ h => by cases h.1) hHeld (by rfl) ?_ ?_
                rotate_left
                · (intro W hW; go_simp; try with_reducible rfl)
                try simp only [Act.put, List.setIfInBounds_toArray, List.set_cons_zero, List.set_cons_succ]
                refine held_take 1 (v := .pointer (some ⟨w.heap.size, i, none⟩)) rfl (by kernel_rfl) (by kernel_rfl) (by kernel_rfl) (fun _ _ _ h => by cases h.1) hHeld (by rfl) (fun W hW => exec_idx3 _ _ rfl i rfl rfl rfl HIL.out) ?_
                try simp only [Act.put, List.setIfInBounds_toArray, List.set_cons_zero, List.set_cons_succ]
                refine held_take 2 (v := ?_) rfl (by kernel_rfl) (by kernel_rfl) (by kernel_rfl) (fun _ _ _ h => by cases h.1) hHeld (by rfl) ?_ ?_
                rotate_left
                · (intro W hW; have e := hW.cell (by simp) HOC.out; go_simp; try with_reducible rfl)
                try simp only [Act.put, List.setIfInBounds_toArray, List.set_cons_zero, List.set_cons_succ]
                refine held_take 4 (v := ?_) rfl (by kernel_rfl) (by kernel_rfl) (by kernel_rfl) (fun _ _ _ h => by cases h.1) hHeld (by rfl) ?_ ?_
                rotate_left
                · (intro W hW; go_simp; try with_reducible rfl)
                try simp only [Act.put, List.setIfInBounds_toArray, List.set_cons_zero, List.set_cons_succ]
                refine held_take 5 (v := .pointer (some ⟨w.heap.size + 1, i, none⟩)) rfl (by kernel_rfl) (by kernel_rfl) (by kernel_rfl) (fun _ _ _ h => by cases h.1) hHeld (by rfl) (fun W hW => exec_idx3 _ _ rfl i rfl rfl rfl HIL.out) ?_
                try simp only [Act.put, List.setIfInBounds_toArray, List.set_cons_zero, List.set_cons_succ]
                refine held_take 6 (v := ?_) rfl (by kernel_rfl) (by kernel_rfl) (by kernel_rfl) (fun _ _ _ h => by cases h.1) hHeld (by rfl) ?_ ?_
                rotate_left
                · (intro W hW; have e := hW.cell (by simp) HFC.out; go_simp; try with_reducible rfl)
                try simp only [Act.put, List.setIfInBounds_toArray, List.set_cons_zero, List.set_cons_succ]
                refine held_three 3 8 9 rfl rfl rfl (by kernel_rfl) (by rfl) (by rfl) (by rfl) (fun K hK => ?_) (fun K hK => ?_) (fun K hK => ?_)
                · go_simp
                  go_at_call 18
                  refine (HPO.out _).mono ?_
                  rintro _ wq1 ⟨rfl, hbq⟩
                  have HQ1 := Lib.hid (HQ0.out.call hbq)
                  clear hbq
                  refine hK.out _ _ (fun i hi => HQ1.out.bl.block i (HLT.out i hi)) (fun hHeld => ?_)
                  clear hK K
                  try simp only [Act.put, List.setIfInBounds_toArray, List.set_cons_zero, List.set_cons_succ]
                  refine held_three 7 8 9 rfl rfl rfl (by kernel_rfl) (by rfl) (by rfl) (by rfl) (fun K hK => ?_) (fun K hK => ?_) (fun K hK => ?_)
                  · go_simp
                    go_at_call 18
                    refine (HPF.out _).mono ?_
                    rintro _ wq2 ⟨rfl, hbq⟩
                    have HQ2 := Lib.hid (HQ1.out.call hbq)
                    clear hbq
                    refine hK.out _ _ (fun i hi => HQ2.out.bl.block i (HLT.out i hi)) (fun hHeld => ?_)
                    clear hK K
                    try simp only [Act.put, List.setIfInBounds_toArray, List.set_cons_zero, List.set_cons_succ]
                    refine held_two 8 9 rfl rfl (by kernel_rfl) (by rfl) (by rfl) (fun K hK => ?_) (fun K hK => ?_)
                    · refine wp_allocN rfl (fun bx wq3 he hbq hnq => ?_)
                      have HQ3 := Lib.hid (HQ2.out.ax he hbq hnq)
                      clear he hbq hnq
                      refine hK.out _ _ (fun i hi => HQ3.out.bl.block i (HLT.out i hi)) (fun hHeld => ?_)
                      clear hK K
                      try simp only [Act.put, List.setIfInBounds_toArray, List.set_cons_zero, List.set_cons_succ]
                      refine held_next 9 rfl (by kernel_rfl) (by rfl) (fun K hK => ?_)
                      refine wp_allocN rfl (fun by' wq4 he hbq hnq => ?_)
                      have HQ4 := Lib.hid (HQ3.out.ay he hbq hnq)
                      clear he hbq hnq
                      refine hK.out _ _ (fun i hi => HQ4.out.bl.block i (HLT.out i hi)) (fun hHeld => ?_)
                      clear hK K
                      try simp only [Act.put, List.setIfInBounds_toArray, List.set_cons_zero, List.set_cons_succ]
                      refine held_next 10 rfl (by kernel_rfl) (by rfl) (fun K hK => ?_)
                      refine wp_storeN _ _ rfl bx cw rfl rfl (HQ4.out.hx _ rfl).2 HCW.out ?_
                      refine hK.out _ _ (fun i hi => (setRow_other _ _ _ _ (by have := (HQ4.out.hx _ rfl).1; have := HLT.out i hi; omega)).trans (HQ4.out.bl.block i (HLT.out i hi))) (fun hHeld => ?_)
                      clear hK K
                      refine held_next 11 rfl (by kernel_rfl) (by rfl) (fun K hK => ?_)
                      refine wp_storeN _ _ rfl by' cf rfl rfl ((setRow_other _ _ _ _ (HQ4.out.ne _ _ rfl rfl).symm).trans (HQ4.out.hy _ rfl).2) HCF.out ?_
                      refine hK.out _ _ (fun i hi => (HQ4.out.fin cw cf).1.block i (HLT.out i hi)) (fun hHeld => ?_)
                      clear hK K
                      exact wpAnyH_done (by kernel_rfl) ⟨rfl, bx, by', rfl, HQ4.out.fin cw cf⟩ _
                    · refine wp_allocN rfl (fun by' wq5 he hbq hnq => ?_)
                      have HQ5 := Lib.hid (HQ2.out.ay he hbq hnq)
                      clear he hbq hnq
                      refine hK.out _ _ (fun i hi => HQ5.out.bl.block i (HLT.out i hi)) (fun hHeld => ?_)
                      clear hK K
                      try simp only [Act.put, List.setIfInBounds_toArray, List.set_cons_zero, List.set_cons_succ]
                      refine held_next 8 rfl (by kernel_rfl) (by rfl) (fun K hK => ?_)
                      refine wp_allocN rfl (fun bx wq6 he hbq hnq => ?_)
                      have HQ6 := Lib.hid (HQ5.out.ax he hbq hnq)
                      clear he hbq hnq
                      refine hK.out _ _ (fun i hi => HQ6.out.bl.block i (HLT.out i hi)) (fun hHeld => ?_)
                      clear hK K
                      try simp only [Act.put, List.setIfInBounds_toArray, List.set_cons_zero, List.set_cons_succ]
                      refine held_next 10 rfl (by kernel_rfl) (by rfl) (fun K hK => ?_)
                      refine wp_storeN _ _ rfl bx cw rfl rfl (HQ6.out.hx _ rfl).2 HCW.out ?_
                      refine hK.out _ _ (fun i hi => (setRow_other _ _ _ _ (by have := (HQ6.out.hx _ rfl).1; have := HLT.out i hi; omega)).trans (HQ6.out.bl.block i (HLT.out i hi))) (fun hHeld => ?_)
                      clear hK K
                      refine held_next 11 rfl (by kernel_rfl) (by rfl) (fun K hK => ?_)
                      refine wp_storeN _ _ rfl by' cf rfl rfl ((setRow_other _ _ _ _ (HQ6.out.ne _ _ rfl rfl).symm).trans (HQ6.out.hy _ rfl).2) HCF.out ?_
                      refine hK.out _ _ (fun i hi => (HQ6.out.fin cw cf).1.block i (HLT.out i hi)) (fun hHeld => ?_)
                      clear hK K
                      exact wpAnyH_done (by kernel_rfl) ⟨rfl, bx, by', rfl, HQ6.out.fin cw cf⟩ _
                  · refine wp_allocN rfl (fun bx wq7 he hbq hnq => ?_)
                    have HQ7 := Lib.hid (HQ1.out.ax he hbq hnq)
                    clear he hbq hnq
                    refine hK.out _ _ (fun i hi => HQ7.out.bl.block i (HLT.out i hi)) (fun hHeld => ?_)
                    clear hK K
                    try simp only [Act.put, List.setIfInBounds_toArray, List.set_cons_zero, List.set_cons_succ]
                    refine held_two 7 9 rfl rfl (by kernel_rfl) (by rfl) (by rfl) (fun K hK => ?_) (fun K hK => ?_)
                    · go_simp
                      go_at_call 18
                      refine (HPF.out _).mono ?_
                      rintro _ wq8 ⟨rfl, hbq⟩
                      have HQ8 := Lib.hid (HQ7.out.call hbq)
                      clear hbq
                      refine hK.out _ _ (fun i hi => HQ8.out.bl.block i (HLT.out i hi)) (fun hHeld => ?_)
                      clear hK K
                      try simp only [Act.put, List.setIfInBounds_toArray, List.set_cons_zero, List.set_cons_succ]
                      refine held_next 9 rfl (by kernel_rfl) (by rfl) (fun K hK => ?_)
                      refine wp_allocN rfl (fun by' wq9 he hbq hnq => ?_)
                      have HQ9 := Lib.hid (HQ8.out.ay he hbq hnq)
                      clear he hbq hnq
                      refine hK.out _ _ (fun i hi => HQ9.out.bl.block i (HLT.out i hi)) (fun hHeld => ?_)
                      clear hK K
                      try simp only [Act.put, List.setIfInBounds_toArray, List.set_cons_zero, List.set_cons_succ]
                      refine held_next 10 rfl (by kernel_rfl) (by rfl) (fun K hK => ?_)
                      refine wp_storeN _ _ rfl bx cw rfl rfl (HQ9.out.hx _ rfl).2 HCW.out ?_
                      refine hK.out _ _ (fun i hi => (setRow_other _ _ _ _ (by have := (HQ9.out.hx _ rfl).1; have := HLT.out i hi; omega)).trans (HQ9.out.bl.block i (HLT.out i hi))) (fun hHeld => ?_)
                      clear hK K
                      refine held_next 11 rfl (by kernel_rfl) (by rfl) (fun K hK => ?_)
                      refine wp_storeN _ _ rfl by' cf rfl rfl ((setRow_other _ _ _ _ (HQ9.out.ne _ _ rfl rfl).symm).trans (HQ9.out.hy _ rfl).2) HCF.out ?_
                      refine hK.out _ _ (fun i hi => (HQ9.out.fin cw cf).1.block i (HLT.out i hi)) (fun hHeld => ?_)
                      clear hK K
                      exact wpAnyH_done (by kernel_rfl) ⟨rfl, bx, by', rfl, HQ9.out.fin cw cf⟩ _
                    · refine wp_allocN rfl (fun by' wq10 he hbq hnq => ?_)
                      have HQ10 := Lib.hid (HQ7.out.ay he hbq hnq)
                      clear he hbq hnq
                      refine hK.out _ _ (fun i hi => HQ10.out.bl.block i (HLT.out i hi)) (fun hHeld => ?_)
                      clear hK K
                      try simp only [Act.put, List.setIfInBounds_toArray, List.set_cons_zero, List.set_cons_succ]
                      refine held_next 7 rfl (by kernel_rfl) (by rfl) (fun K hK => ?_)
                      go_simp
                      go_at_call 18
                      refine (HPF.out _).mono ?_
                      rintro _ wq11 ⟨rfl, hbq⟩
                      have HQ11 := Lib.hid (HQ10.out.call hbq)
                      clear hbq
                      refine hK.out _ _ (fun i hi => HQ11.out.bl.block i (HLT.out i hi)) (fun hHeld => ?_)
                      clear hK K
                      try simp only [Act.put, List.setIfInBounds_toArray, List.set_cons_zero, List.set_cons_succ]
                      refine held_next 10 rfl (by kernel_rfl) (by rfl) (fun K hK => ?_)
                      refine wp_storeN _ _ rfl bx cw rfl rfl (HQ11.out.hx _ rfl).2 HCW.out ?_
                      refine hK.out _ _ (fun i hi => (setRow_other _ _ _ _ (by have := (HQ11.out.hx _ rfl).1; have := HLT.out i hi; omega)).trans (HQ11.out.bl.block i (HLT.out i hi))) (fun hHeld => ?_)
                      clear hK K
                      refine held_next 11 rfl (by kernel_rfl) (by rfl) (fun K hK => ?_)
                      refine wp_storeN _ _ rfl by' cf rfl rfl ((setRow_other _ _ _ _ (HQ11.out.ne _ _ rfl rfl).symm).trans (HQ11.out.hy _ rfl).2) HCF.out ?_
                      refine hK.out _ _ (fun i hi => (HQ11.out.fin cw cf).1.block i (HLT.out i hi)) (fun hHeld => ?_)
                      clear hK K
                      exact wpAnyH_done (by kernel_rfl) ⟨rfl, bx, by', rfl, HQ11.out.fin cw cf⟩ _
                  · refine wp_allocN rfl (fun by' wq12 he hbq hnq => ?_)
                    have HQ12 := Lib.hid (HQ1.out.ay he hbq hnq)
                    clear he hbq hnq
                    refine hK.out _ _ (fun i hi => HQ12.out.bl.block i (HLT.out i hi)) (fun hHeld => ?_)
                    clear hK K
                    try simp only [Act.put, List.setIfInBounds_toArray, List.set_cons_zero, List.set_cons_succ]
                    refine held_two 7 8 rfl rfl (by kernel_rfl) (by rfl) (by rfl) (fun K hK => ?_) (fun K hK => ?_)
                    · go_simp
                      go_at_call 18
                      refine (HPF.out _).mono ?_
                      rintro _ wq13 ⟨rfl, hbq⟩
                      have HQ13 := Lib.hid (HQ12.out.call hbq)
                      clear hbq
                      refine hK.out _ _ (fun i hi => HQ13.out.bl.block i (HLT.out i hi)) (fun hHeld => ?_)
                      clear hK K
                      try simp only [Act.put, List.setIfInBounds_toArray, List.set_cons_zero, List.set_cons_succ]
                      refine held_next 8 rfl (by kernel_rfl) (by rfl) (fun K hK => ?_)
                      refine wp_allocN rfl (fun bx wq14 he hbq hnq => ?_)
                      have HQ14 := Lib.hid (HQ13.out.ax he hbq hnq)
                      clear he hbq hnq
                      refine hK.out _ _ (fun i hi => HQ14.out.bl.block i (HLT.out i hi)) (fun hHeld => ?_)
                      clear hK K
                      try simp only [Act.put, List.setIfInBounds_toArray, List.set_cons_zero, List.set_cons_succ]
                      refine held_next 10 rfl (by kernel_rfl) (by rfl) (fun K hK => ?_)
                      refine wp_storeN _ _ rfl bx cw rfl rfl (HQ14.out.hx _ rfl).2 HCW.out ?_
                      refine hK.out _ _ (fun i hi => (setRow_other _ _ _ _ (by have := (HQ14.out.hx _ rfl).1; have := HLT.out i hi; omega)).trans (HQ14.out.bl.block i (HLT.out i hi))) (fun hHeld => ?_)
                      clear hK K
                      refine held_next 11 rfl (by kernel_rfl) (by rfl) (fun K hK => ?_)
                      refine wp_storeN _ _ rfl by' cf rfl rfl ((setRow_other _ _ _ _ (HQ14.out.ne _ _ rfl rfl).symm).trans (HQ14.out.hy _ rfl).2) HCF.out ?_
                      refine hK.out _ _ (fun i hi => (HQ14.out.fin cw cf).1.block i (HLT.out i hi)) (fun hHeld => ?_)
                      clear hK K
                      exact wpAnyH_done (by kernel_rfl) ⟨rfl, bx, by', rfl, HQ14.out.fin cw cf⟩ _
                    · refine wp_allocN rfl (fun bx wq15 he hbq hnq => ?_)
                      have HQ15 := Lib.hid (HQ12.out.ax he hbq hnq)
                      clear he hbq hnq
                      refine hK.out _ _ (fun i hi => HQ15.out.bl.block i (HLT.out i hi)) (fun hHeld => ?_)
                      clear hK K
                      try simp only [Act.put, List.setIfInBounds_toArray, List.set_cons_zero, List.set_cons_succ]
                      refine held_next 7 rfl (by kernel_rfl) (by rfl) (fun K hK => ?_)
                      go_simp
                      go_at_call 18
                      refine (HPF.out _).mono ?_
                      rintro _ wq16 ⟨rfl, hbq⟩
                      have HQ16 := Lib.hid (HQ15.out.call hbq)
                      clear hbq
                      refine hK.out _ _ (fun i hi => HQ16.out.bl.block i (HLT.out i hi)) (fun hHeld => ?_)
                      clear hK K
                      try simp only [Act.put, List.setIfInBounds_toArray, List.set_cons_zero, List.set_cons_succ]
                      refine held_next 10 rfl (by kernel_rfl) (by rfl) (fun K hK => ?_)
                      refine wp_storeN _ _ rfl bx cw rfl rfl (HQ16.out.hx _ rfl).2 HCW.out ?_
                      refine hK.out _ _ (fun i hi => (setRow_other _ _ _ _ (by have := (HQ16.out.hx _ rfl).1; have := HLT.out i hi; omega)).trans (HQ16.out.bl.block i (HLT.out i hi))) (fun hHeld => ?_)
                      clear hK K
                      refine held_next 11 rfl (by kernel_rfl) (by rfl) (fun K hK => ?_)
                      refine wp_storeN _ _ rfl by' cf rfl rfl ((setRow_other _ _ _ _ (HQ16.out.ne _ _ rfl rfl).symm).trans (HQ16.out.hy _ rfl).2) HCF.out ?_
                      refine hK.out _ _ (fun i hi => (HQ16.out.fin cw cf).1.block i (HLT.out i hi)) (fun hHeld => ?_)
                      clear hK K
                      exact wpAnyH_done (by kernel_rfl) ⟨rfl, bx, by', rfl, HQ16.out.fin cw cf⟩ _
                · refine wp_allocN rfl (fun bx wq17 he hbq hnq => ?_)
                  have HQ17 := Lib.hid (HQ0.out.ax he hbq hnq)
                  clear he hbq hnq
                  refine hK.out _ _ (fun i hi => HQ17.out.bl.block i (HLT.out i hi)) (fun hHeld => ?_)
                  clear hK K
                  try simp only [Act.put, List.setIfInBounds_toArray, List.set_cons_zero, List.set_cons_succ]
                  refine held_two 3 9 rfl rfl (by kernel_rfl) (by rfl) (by rfl) (fun K hK => ?_) (fun K hK => ?_)
                  · go_simp
                    go_at_call 18
                    refine (HPO.out _).mono ?_
                    rintro _ wq18 ⟨rfl, hbq⟩
                    have HQ18 := Lib.hid (HQ17.out.call hbq)
                    clear hbq
                    refine hK.out _ _ (fun i hi => HQ18.out.bl.block i (HLT.out i hi)) (fun hHeld => ?_)
                    clear hK K
                    try simp only [Act.put, List.setIfInBounds_toArray, List.set_cons_zero, List.set_cons_succ]
                    refine held_two 7 9 rfl rfl (by kernel_rfl) (by rfl) (by rfl) (fun K hK => ?_) (fun K hK => ?_)
                    · go_simp
                      go_at_call 18
                      refine (HPF.out _).mono ?_
                      rintro _ wq19 ⟨rfl, hbq⟩
                      have HQ19 := Lib.hid (HQ18.out.call hbq)
                      clear hbq
                      refine hK.out _ _ (fun i hi => HQ19.out.bl.block i (HLT.out i hi)) (fun hHeld => ?_)
                      clear hK K
                      try simp only [Act.put, List.setIfInBounds_toArray, List.set_cons_zero, List.set_cons_succ]
                      refine held_next 9 rfl (by kernel_rfl) (by rfl) (fun K hK => ?_)
                      refine wp_allocN rfl (fun by' wq20 he hbq hnq => ?_)
                      have HQ20 := Lib.hid (HQ19.out.ay he hbq hnq)
                      clear he hbq hnq
                      refine hK.out _ _ (fun i hi => HQ20.out.bl.block i (HLT.out i hi)) (fun hHeld => ?_)
                      clear hK K
                      try simp only [Act.put, List.setIfInBounds_toArray, List.set_cons_zero, List.set_cons_succ]
                      refine held_next 10 rfl (by kernel_rfl) (by rfl) (fun K hK => ?_)
                      refine wp_storeN _ _ rfl bx cw rfl rfl (HQ20.out.hx _ rfl).2 HCW.out ?_
                      refine hK.out _ _ (fun i hi => (setRow_other _ _ _ _ (by have := (HQ20.out.hx _ rfl).1; have := HLT.out i hi; omega)).trans (HQ20.out.bl.block i (HLT.out i hi))) (fun hHeld => ?_)
                      clear hK K
                      refine held_next 11 rfl (by kernel_rfl) (by rfl) (fun K hK => ?_)
                      refine wp_storeN _ _ rfl by' cf rfl rfl ((setRow_other _ _ _ _ (HQ20.out.ne _ _ rfl rfl).symm).trans (HQ20.out.hy _ rfl).2) HCF.out ?_
                      refine hK.out _ _ (fun i hi => (HQ20.out.fin cw cf).1.block i (HLT.out i hi)) (fun hHeld => ?_)
                      clear hK K
                      exact wpAnyH_done (by kernel_rfl) ⟨rfl, bx, by', rfl, HQ20.out.fin cw cf⟩ _
                    · refine wp_allocN rfl (fun by' wq21 he hbq hnq => ?_)
                      have HQ21 := Lib.hid (HQ18.out.ay he hbq hnq)
                      clear he hbq hnq
                      refine hK.out _ _ (fun i hi => HQ21.out.bl.block i (HLT.out i hi)) (fun hHeld => ?_)
                      clear hK K
                      try simp only [Act.put, List.setIfInBounds_toArray, List.set_cons_zero, List.set_cons_succ]
                      refine held_next 7 rfl (by kernel_rfl) (by rfl) (fun K hK => ?_)
                      go_simp
                      go_at_call 18
                      refine (HPF.out _).mono ?_
                      rintro _ wq22 ⟨rfl, hbq⟩
                      have HQ22 := Lib.hid (HQ21.out.call hbq)
                      clear hbq
                      refine hK.out _ _ (fun i hi => HQ22.out.bl.block i (HLT.out i hi)) (fun hHeld => ?_)
                      clear hK K
                      try simp only [Act.put, List.setIfInBounds_toArray, List.set_cons_zero, List.set_cons_succ]
                      refine held_next 10 rfl (by kernel_rfl) (by rfl) (fun K hK => ?_)
                      refine wp_storeN _ _ rfl bx cw rfl rfl (HQ22.out.hx _ rfl).2 HCW.out ?_
                      refine hK.out _ _ (fun i hi => (setRow_other _ _ _ _ (by have := (HQ22.out.hx _ rfl).1; have := HLT.out i hi; omega)).trans (HQ22.out.bl.block i (HLT.out i hi))) (fun hHeld => ?_)
                      clear hK K
                      refine held_next 11 rfl (by kernel_rfl) (by rfl) (fun K hK => ?_)
                      refine wp_storeN _ _ rfl by' cf rfl rfl ((setRow_other _ _ _ _ (HQ22.out.ne _ _ rfl rfl).symm).trans (HQ22.out.hy _ rfl).2) HCF.out ?_
                      refine hK.out _ _ (fun i hi => (HQ22.out.fin cw cf).1.block i (HLT.out i hi)) (fun hHeld => ?_)
                      clear hK K
                      exact wpAnyH_done (by kernel_rfl) ⟨rfl, bx, by', rfl, HQ22.out.fin cw cf⟩ _
                  · refine wp_allocN rfl (fun by' wq23 he hbq hnq => ?_)
                    have HQ23 := Lib.hid (HQ17.out.ay he hbq hnq)
                    clear he hbq hnq
                    refine hK.out _ _ (fun i hi => HQ23.out.bl.block i (HLT.out i hi)) (fun hHeld => ?_)
                    clear hK K
                    try simp only [Act.put, List.setIfInBounds_toArray, List.set_cons_zero, List.set_cons_succ]
                    refine held_next 3 rfl (by kernel_rfl) (by rfl) (fun K hK => ?_)
                    go_simp
                    go_at_call 18
                    refine (HPO.out _).mono ?_
                    rintro _ wq24 ⟨rfl, hbq⟩
                    have HQ24 := Lib.hid (HQ23.out.call hbq)
                    clear hbq
                    refine hK.out _ _ (fun i hi => HQ24.out.bl.block i (HLT.out i hi)) (fun hHeld => ?_)
                    clear hK K
                    try simp only [Act.put, List.setIfInBounds_toArray, List.set_cons_zero, List.set_cons_succ]
                    refine held_next 7 rfl (by kernel_rfl) (by rfl) (fun K hK => ?_)
                    go_simp
                    go_at_call 18
                    refine (HPF.out _).mono ?_
                    rintro _ wq25 ⟨rfl, hbq⟩
                    have HQ25 := Lib.hid (HQ24.out.call hbq)
                    clear hbq
                    refine hK.out _ _ (fun i hi => HQ25.out.bl.block i (HLT.out i hi)) (fun hHeld => ?_)
                    clear hK K
                    try simp only [Act.put, List.setIfInBounds_toArray, List.set_cons_zero, List.set_cons_succ]
                    refine held_next 10 rfl (by kernel_rfl) (by rfl) (fun K hK => ?_)
                    refine wp_storeN _ _ rfl bx cw rfl rfl (HQ25.out.hx _ rfl).2 HCW.out ?_
                    refine hK.out _ _ (fun i hi => (setRow_other _ _ _ _ (by have := (HQ25.out.hx _ rfl).1; have := HLT.out i hi; omega)).trans (HQ25.out.bl.block i (HLT.out i hi))) (fun hHeld => ?_)
                    clear hK K
                    refine held_next 11 rfl (by kernel_rfl) (by rfl) (fun K hK => ?_)
                    refine wp_storeN _ _ rfl by' cf rfl rfl ((setRow_other _ _ _ _ (HQ25.out.ne _ _ rfl rfl).symm).trans (HQ25.out.hy _ rfl).2) HCF.out ?_
                    refine hK.out _ _ (fun i hi => (HQ25.out.fin cw cf).1.block i (HLT.out i hi)) (fun hHeld => ?_)
                    clear hK K
                    exact wpAnyH_done (by kernel_rfl) ⟨rfl, bx, by', rfl, HQ25.out.fin cw cf⟩ _
                · refine wp_allocN rfl (fun by' wq26 he hbq hnq => ?_)
                  have HQ26 := Lib.hid (HQ0.out.ay he hbq hnq)
                  clear he hbq hnq
                  refine hK.out _ _ (fun i hi => HQ26.out.bl.block i (HLT.out i hi)) (fun hHeld => ?_)
                  clear hK K
                  try simp only [Act.put, List.setIfInBounds_toArray, List.set_cons_zero, List.set_cons_succ]
                  refine held_two 3 8 rfl rfl (by kernel_rfl) (by rfl) (by rfl) (fun K hK => ?_) (fun K hK => ?_)
                  · go_simp
                    go_at_call 18
                    refine (HPO.out _).mono ?_
                    rintro _ wq27 ⟨rfl, hbq⟩
                    have HQ27 := Lib.hid (HQ26.out.call hbq)
                    clear hbq
                    refine hK.out _ _ (fun i hi => HQ27.out.bl.block i (HLT.out i hi)) (fun hHeld => ?_)
                    clear hK K
                    try simp only [Act.put, List.setIfInBounds_toArray, List.set_cons_zero, List.set_cons_succ]
                    refine held_two 7 8 rfl rfl (by kernel_rfl) (by rfl) (by rfl) (fun K hK => ?_) (fun K hK => ?_)
                    · go_simp
                      go_at_call 18
                      refine (HPF.out _).mono ?_
                      rintro _ wq28 ⟨rfl, hbq⟩
                      have HQ28 := Lib.hid (HQ27.out.call hbq)
                      clear hbq
                      refine hK.out _ _ (fun i hi => HQ28.out.bl.block i (HLT.out i hi)) (fun hHeld => ?_)
                      clear hK K
                      try simp only [Act.put, List.setIfInBounds_toArray, List.set_cons_zero, List.set_cons_succ]
                      refine held_next 8 rfl (by kernel_rfl) (by rfl) (fun K hK => ?_)
                      refine wp_allocN rfl (fun bx wq29 he hbq hnq => ?_)
                      have HQ29 := Lib.hid (HQ28.out.ax he hbq hnq)
                      clear he hbq hnq
                      refine hK.out _ _ (fun i hi => HQ29.out.bl.block i (HLT.out i hi)) (fun hHeld => ?_)
                      clear hK K
                      try simp only [Act.put, List.setIfInBounds_toArray, List.set_cons_zero, List.set_cons_succ]
                      refine held_next 10 rfl (by kernel_rfl) (by rfl) (fun K hK => ?_)
                      refine wp_storeN _ _ rfl bx cw rfl rfl (HQ29.out.hx _ rfl).2 HCW.out ?_
                      refine hK.out _ _ (fun i hi => (setRow_other _ _ _ _ (by have := (HQ29.out.hx _ rfl).1; have := HLT.out i hi; omega)).trans (HQ29.out.bl.block i (HLT.out i hi))) (fun hHeld => ?_)
                      clear hK K
                      refine held_next 11 rfl (by kernel_rfl) (by rfl) (fun K hK => ?_)
                      refine wp_storeN _ _ rfl by' cf rfl rfl ((setRow_other _ _ _ _ (HQ29.out.ne _ _ rfl rfl).symm).trans (HQ29.out.hy _ rfl).2) HCF.out ?_
                      refine hK.out _ _ (fun i hi => (HQ29.out.fin cw cf).1.block i (HLT.out i hi)) (fun hHeld => ?_)
                      clear hK K
                      exact wpAnyH_done (by kernel_rfl) ⟨rfl, bx, by', rfl, HQ29.out.fin cw cf⟩ _
                    · refine wp_allocN rfl (fun bx wq30 he hbq hnq => ?_)
                      have HQ30 := Lib.hid (HQ27.out.ax he hbq hnq)
                      clear he hbq hnq
                      refine hK.out _ _ (fun i hi => HQ30.out.bl.block i (HLT.out i hi)) (fun hHeld => ?_)
                      clear hK K
                      try simp only [Act.put, List.setIfInBounds_toArray, List.set_cons_zero, List.set_cons_succ]
                      refine held_next 7 rfl (by kernel_rfl) (by rfl) (fun K hK => ?_)
                      go_simp
                      go_at_call 18
                      refine (HPF.out _).mono ?_
                      rintro _ wq31 ⟨rfl, hbq⟩
                      have HQ31 := Lib.hid (HQ30.out.call hbq)
                      clear hbq
                      refine hK.out _ _ (fun i hi => HQ31.out.bl.block i (HLT.out i hi)) (fun hHeld => ?_)
                      clear hK K
                      try simp only [Act.put, List.setIfInBounds_toArray, List.set_cons_zero, List.set_cons_succ]
                      refine held_next 10 rfl (by kernel_rfl) (by rfl) (fun K hK => ?_)
                      refine wp_storeN _ _ rfl bx cw rfl rfl (HQ31.out.hx _ rfl).2 HCW.out ?_
                      refine hK.out _ _ (fun i hi => (setRow_other _ _ _ _ (by have := (HQ31.out.hx _ rfl).1; have := HLT.out i hi; omega)).trans (HQ31.out.bl.block i (HLT.out i hi))) (fun hHeld => ?_)
                      clear hK K
                      refine held_next 11 rfl (by kernel_rfl) (by rfl) (fun K hK => ?_)
                      refine wp_storeN _ _ rfl by' cf rfl rfl ((setRow_other _ _ _ _ (HQ31.out.ne _ _ rfl rfl).symm).trans (HQ31.out.hy _ rfl).2) HCF.out ?_
                      refine hK.out _ _ (fun i hi => (HQ31.out.fin cw cf).1.block i (HLT.out i hi)) (fun hHeld => ?_)
                      clear hK K
                      exact wpAnyH_done (by kernel_rfl) ⟨rfl, bx, by', rfl, HQ31.out.fin cw cf⟩ _
                  · refine wp_allocN rfl (fun bx wq32 he hbq hnq => ?_)
                    have HQ32 := Lib.hid (HQ26.out.ax he hbq hnq)
                    clear he hbq hnq
                    refine hK.out _ _ (fun i hi => HQ32.out.bl.block i (HLT.out i hi)) (fun hHeld => ?_)
                    clear hK K
                    try simp only [Act.put, List.setIfInBounds_toArray, List.set_cons_zero, List.set_cons_succ]
                    refine held_next 3 rfl (by kernel_rfl) (by rfl) (fun K hK => ?_)
                    go_simp
                    go_at_call 18
                    refine (HPO.out _).mono ?_
                    rintro _ wq33 ⟨rfl, hbq⟩
                    have HQ33 := Lib.hid (HQ32.out.call hbq)
                    clear hbq
                    refine hK.out _ _ (fun i hi => HQ33.out.bl.block i (HLT.out i hi)) (fun hHeld => ?_)
                    clear hK K
                    try simp only [Act.put, List.setIfInBounds_toArray, List.set_cons_zero, List.set_cons_succ]
                    refine held_next 7 rfl (by kernel_rfl) (by rfl) (fun K hK => ?_)
                    go_simp
                    go_at_call 18
                    refine (HPF.out _).mono ?_
                    rintro _ wq34 ⟨rfl, hbq⟩
                    have HQ34 := Lib.hid (HQ33.out.call hbq)
                    clear hbq
                    refine hK.out _ _ (fun i hi => HQ34.out.bl.block i (HLT.out i hi)) (fun hHeld => ?_)
                    clear hK K
                    try simp only [Act.put, List.setIfInBounds_toArray, List.set_cons_zero, List.set_cons_succ]
                    refine held_next 10 rfl (by kernel_rfl) (by rfl) (fun K hK => ?_)
                    refine wp_storeN _ _ rfl bx cw rfl rfl (HQ34.out.hx _ rfl).2 HCW.out ?_
                    refine hK.out _ _ (fun i hi => (setRow_other _ _ _ _ (by have := (HQ34.out.hx _ rfl).1; have := HLT.out i hi; omega)).trans (HQ34.out.bl.block i (HLT.out i hi))) (fun hHeld => ?_)
                    clear hK K
                    refine held_next 11 rfl (by kernel_rfl) (by rfl) (fun K hK => ?_)
                    refine wp_storeN _ _ rfl by' cf rfl rfl ((setRow_other _ _ _ _ (HQ34.out.ne _ _ rfl rfl).symm).trans (HQ34.out.hy _ rfl).2) HCF.out ?_
                    refine hK.out _ _ (fun i hi => (HQ34.out.fin cw cf).1.block i (HLT.out i hi)) (fun hHeld => ?_)
                    clear hK K
                    exact wpAnyH_done (by kernel_rfl) ⟨rfl, bx, by', rfl, HQ34.out.fin cw cf⟩ _
              intro bx bf W hE2
              have HE2 := Lib.hid hE2
              have HTW := Lib.hid (HT8.out.below hE2.1)
              have H12W := Lib.hid ((hE2.1.block _ (lt_of_heap H12.out)).trans H12.out)
              have qk := HKX.out W HTW.out.bl i hil
              obtain ⟨kv, hkv⟩ : ∃ kv, kv = [k0, k1, k2].getD i 0 := ⟨_, rfl⟩
              rw [← hkv] at qk HMK
              have hmk := HMK.out
              clear hE2 hkv
              have hcs : 64 < kv ∨ (¬ 64 < kv ∧ 0 < kv) ∨ (¬ 64 < kv ∧ ¬ 0 < kv) := by omega
              rcases hcs with hc | ⟨hc, hc2⟩ | ⟨hc, hc2⟩
              · obtain rfl : n = 64 := by omega
                clear hmk HMK
                go_simp
                go_wp2_with (first | (with_reducible refine wpList_loadW rfl isS _ rfl w5.heap.size cg _ rfl H12W.out HCG.out ?_))
                clear qk hc
                go_loopw [81] (fun c81 wr => ∃ (j : Nat), c81 = .int .i64 (j : Int) ∧ j ≤ 64 ∧ wr = W) (fun c81 _ => 64 - (match c81 with | .int _ q => q | _ => 0).toNat)
                case atStart => exact ⟨0, rfl, by omega, rfl⟩
                case round =>
                  obtain ⟨j, rfl, hj64, rfl⟩ := hrel
                  by_cases hjl : j < 64
                  · obtain ⟨y, hy⟩ : ∃ y : Int, y = (((paint (f.getD i 0)).getD j 0).toNat : Int) := ⟨_, rfl⟩
                    have hix : ∀ W', (Instr.index 28 (.agg cg.toArray) (.int .i64 (j : Int))).run Try.prog W' = .ok (.int .u8 y) W' := fun W' => run_indexS (by rw [HCGE.out, List.getElem?_toArray, bcells_get (by rw [HS64.out]; omega), HLO.out j (by omega), hy]) hjl W'
                    have qf : wr.cell? ⟨bf, j, none⟩ = some (.int .u8 y) := by rw [cell_of_row _ _ _ _ _ _ HE2.out.2.2, HCFE.out, List.getElem?_toArray, bcells_get (by rw [paint_len]; omega), hy]
                    have d1 : decide ((j : Int) < 64) = true := by simp; try omega
                    have d2 : decide (64 ≤ (j : Int)) = false := by simp; try omega
                    clear hy 
                    go_wp2_with fail
                    go_roundw
                    case rel => exact ⟨j + 1, by go_num, by omega, by trivial⟩
                    case measure => simp; omega
                  · obtain rfl : j = 64 := by omega
                    clear hj64 hjl
                    go_wp2_with fail
                    go_roundw
                    case rel => exact ⟨i + 1, by go_num, by have := HIL.out; omega, HTW.out⟩
                    case measure => simp; have := HIL.out; omega
              · obtain rfl : kv = (n : Int) := by omega
                clear hmk HMK
                go_simp
                go_wp2_with (first | (with_reducible refine wpList_loadW rfl isS _ rfl w5.heap.size cg _ rfl H12W.out HCG.out ?_))
                clear qk hc hc2
                go_loopw [81] (fun c81 wr => ∃ (j : Nat), c81 = .int .i64 (j : Int) ∧ j ≤ 64 ∧ wr = W) (fun c81 _ => 64 - (match c81 with | .int _ q => q | _ => 0).toNat)
                case atStart => exact ⟨0, rfl, by omega, rfl⟩
                case round =>
                  obtain ⟨j, rfl, hj64, rfl⟩ := hrel
                  by_cases hjl : j < 64
                  · by_cases hjn : j < n
                    · obtain ⟨y, hy⟩ : ∃ y : Int, y = (((paint (f.getD i 0)).getD j 0).toNat : Int) := ⟨_, rfl⟩
                      have hix : ∀ W', (Instr.index 28 (.agg cg.toArray) (.int .i64 (j : Int))).run Try.prog W' = .ok (.int .u8 y) W' := fun W' => run_indexS (by rw [HCGE.out, List.getElem?_toArray, bcells_get (by rw [HS64.out]; omega), HLO.out j (by omega), hy]) hjl W'
                      have qf : wr.cell? ⟨bf, j, none⟩ = some (.int .u8 y) := by rw [cell_of_row _ _ _ _ _ _ HE2.out.2.2, HCFE.out, List.getElem?_toArray, bcells_get (by rw [paint_len]; omega), hy]
                      have d1 : decide ((j : Int) < (n : Int)) = true := by simp; try omega
                      have d2 : decide ((n : Int) ≤ (j : Int)) = false := by simp; try omega
                      have d3 : decide (j < n) = true := by simp; try omega
                      have d4 : decide (n ≤ j) = false := by simp; try omega
                      clear hy hjn
                      go_wp2_with fail
                      go_roundw
                      case rel => exact ⟨j + 1, by go_num, by omega, by trivial⟩
                      case measure => simp; omega
                    · obtain ⟨y, hy⟩ : ∃ y : Int, y = (((paint (o.getD i 0)).getD j 0).toNat : Int) := ⟨_, rfl⟩
                      have hix : ∀ W', (Instr.index 28 (.agg cg.toArray) (.int .i64 (j : Int))).run Try.prog W' = .ok (.int .u8 y) W' := fun W' => run_indexS (by rw [HCGE.out, List.getElem?_toArray, bcells_get (by rw [HS64.out]; omega), HHI.out j (by omega), hy]) hjl W'
                      have qf : wr.cell? ⟨bx, j, none⟩ = some (.int .u8 y) := by rw [cell_of_row _ _ _ _ _ _ HE2.out.2.1, HCWE.out, List.getElem?_toArray, bcells_get (by rw [paint_len]; omega), hy]
                      have d1 : decide ((j : Int) < (n : Int)) = false := by simp; try omega
                      have d2 : decide ((n : Int) ≤ (j : Int)) = true := by simp; try omega
                      have d3 : decide (j < n) = false := by simp; try omega
                      have d4 : decide (n ≤ j) = true := by simp; try omega
                      clear hy hjn
                      go_wp2_with fail
                      go_roundw
                      case rel => exact ⟨j + 1, by go_num, by omega, by trivial⟩
                      case measure => simp; omega
                  · obtain rfl : j = 64 := by omega
                    clear hj64 hjl
                    go_wp2_with fail
                    go_roundw
                    case rel => exact ⟨i + 1, by go_num, by have := HIL.out; omega, HTW.out⟩
                    case measure => simp; have := HIL.out; omega
              · obtain rfl : n = 0 := by omega
                clear hmk HMK
                go_simp
                go_wp2_with (first | (with_reducible refine wpList_loadW rfl isS _ rfl w5.heap.size cg _ rfl H12W.out HCG.out ?_))
                clear qk hc hc2
                go_loopw [81] (fun c81 wr => ∃ (j : Nat), c81 = .int .i64 (j : Int) ∧ j ≤ 64 ∧ wr = W) (fun c81 _ => 64 - (match c81 with | .int _ q => q | _ => 0).toNat)
                case atStart => exact ⟨0, rfl, by omega, rfl⟩
                case round =>
                  obtain ⟨j, rfl, hj64, rfl⟩ := hrel
                  by_cases hjl : j < 64
                  · obtain ⟨y, hy⟩ : ∃ y : Int, y = (((paint (o.getD i 0)).getD j 0).toNat : Int) := ⟨_, rfl⟩
                    have hix : ∀ W', (Instr.index 28 (.agg cg.toArray) (.int .i64 (j : Int))).run Try.prog W' = .ok (.int .u8 y) W' := fun W' => run_indexS (by rw [HCGE.out, List.getElem?_toArray, bcells_get (by rw [HS64.out]; omega), HHI.out j (by omega), hy]) hjl W'
                    have qf : wr.cell? ⟨bx, j, none⟩ = some (.int .u8 y) := by rw [cell_of_row _ _ _ _ _ _ HE2.out.2.1, HCWE.out, List.getElem?_toArray, bcells_get (by rw [paint_len]; omega), hy]
                    have d1 : decide ((j : Int) < 0) = false := by simp; try omega
                    have d2 : decide (0 ≤ (j : Int)) = true := by simp; try omega
                    clear hy 
                    go_wp2_with fail
                    go_roundw
                    case rel => exact ⟨j + 1, by go_num, by omega, by trivial⟩
                    case measure => simp; omega
                  · obtain rfl : j = 64 := by omega
                    clear hj64 hjl
                    go_wp2_with fail
                    go_roundw
                    case rel => exact ⟨i + 1, by go_num, by have := HIL.out; omega, HTW.out⟩
                    case measure => simp; have := HIL.out; omega
            · obtain rfl : i = 3 := by omega
              have HQU := Lib.hid (queue_any g F6 D wr HT.out.dt)
              rw [HDQ.out] at HQU
              go_wp2_with fail
              refine HQU.out.mono ?_
              rintro _ w9 ⟨v, rfl, hrow, hb9⟩
              obtain ⟨aq, cq, rfl, _, _, _⟩ := ow_lie hrow
              have HB9 := Lib.hid (HB3.out.trans ((HT.out.bl.trans (hb9.mono HT.out.bl.size)).mono HB3.out.size))
              clear hrow hb9
              go_wp2
              go_ret
              exact ⟨rfl, HB9.out⟩
end Go.Proofs.Ytcboknigjpdmpaa
