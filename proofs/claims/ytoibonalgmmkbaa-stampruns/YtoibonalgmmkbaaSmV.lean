/- falseworkref09: Sectors, walked. -/
import Derived.Test.YtoibonalgmmkbaaSmU
namespace Go.Proofs.Ytoibonalgmmkbaa
open Go.RowKit Go.Lib

theorem elB : El 24 5 1 1 := ⟨Try.underlying24, inf_of (z := .int .u8 0) (by kernel_rfl) rfl, by decide⟩
theorem secs_take {n : Nat} {l : List UInt8} {i : Nat} (h : i < spanN l.length) : (secs n l).take (i + 1) = (secs n l).take i ++ [secOf n l i] := by
  rw [List.take_add_one, secs_get h]; rfl
set_option maxRecDepth 100000 in
set_option maxHeartbeats 6400000 in
theorem rsectors_any (n : Nat) (l : List UInt8) (a : Option Addr) (len cap : Nat) (w : World) (hn : n < 18446744073709551616) (hb : BAt w a l) (hl : l.length = len) (hlen : len ≤ 13515) :
    Calls Try.prog 33 #[.int .u64 (n : Int), .slice a len cap] w (LayRes (secs n l) w) := by
  have HL := Lib.hid hl
  have HB := Lib.hid hb
  have HN := Lib.hid hn
  obtain ⟨N, hN⟩ : ∃ N, N = spanN l.length := ⟨_, rfl⟩
  have HNE := Lib.hid hN
  have hN255 : N ≤ 255 := by rw [hN]; exact spanN_le _
  have HSP := Lib.hid (show ∀ W, Calls Try.prog 24 #[.int .i64 (len : Int)] W fun e W' => e = .returned (.int .i64 (N : Int)) ∧ W = W' from fun W => by
    have := rspan_any (len : Int) W
    rw [spanI_nat, ← hl, ← hN] at this
    rw [← hl]
    exact this)
  obtain ⟨w1, hw1⟩ : ∃ w1, w1 = w.alloc (.cells #[] 59) := ⟨_, rfl⟩
  have HW1 := Lib.hid hw1
  have HO1 := Lib.hid (show w1.ownsRow w.heap.size 59 64 (.slice (some ⟨w.heap.size, 0, none⟩) 0 0) 0 (scells ((secs n l).take 0)) by rw [hw1]; exact own_lit w w.heap.size _ 64 (Nat.le_refl _))
  have HB1 := Lib.hid (show RowKit.Below w.heap.size w w1 by rw [hw1]; exact (RowKit.Below.refl _ _).alloc (Nat.le_refl _) _)
  clear hn hb hl hN hw1
  go_enter Try.func33, Try.ntmps33
  go_wp2_with (with_reducible refine wpList_lit elS rfl rfl ?_)
  rw [← HW1.out]
  refine (HSP.out _).mono ?_
  rintro _ _ ⟨rfl, rfl⟩
  go_wp2
  go_loopw [5, 7] (fun c5 c7 wr => ∃ (i : Nat) (v : Value), v = c5 ∧ c7 = .int .i64 (i : Int) ∧ i ≤ N ∧ wr.ownsRow w.heap.size 59 64 v i (scells ((secs n l).take i)) ∧ RowKit.Below w.heap.size w wr) (fun _ c7 _ => N - (match c7 with | .int _ q => q | _ => 0).toNat)
  case atStart => exact ⟨0, _, rfl, rfl, Nat.zero_le _, HO1.out, HB1.out⟩
  case round =>
    obtain ⟨i, v5, rfl, rfl, hi, ho, hbl⟩ := hrel
    have HO := Lib.hid ho
    have HBL := Lib.hid hbl
    clear ho hbl
    by_cases hlt : i < N
    · obtain ⟨wo, rfl⟩ : ∃ wo, wo = wr := ⟨_, rfl⟩
      have hiN : i < spanN l.length := by rw [← HNE.out]; exact hlt
      have HIN := Lib.hid hiN
      obtain ⟨w3, hw3⟩ : ∃ w3, w3 = wo.alloc (.cells zc.toArray 59) := ⟨_, rfl⟩
      have HW3 := Lib.hid (show (wo.alloc (.cells zc.toArray 59)).setRow wo.heap.size zc.toArray = w3 by rw [hw3]; exact setRow_new rfl)
      have HAL := Lib.hid (heap_alloc_new wo (.cells zc.toArray 59))
      have HR3 := Lib.hid (show BRow w3 wo.heap.size zsec by unfold BRow; rw [hw3]; exact blkn rfl)
      have HB3 := Lib.hid (show RowKit.Below wo.heap.size wo w3 by rw [hw3]; exact (RowKit.Below.refl _ _).alloc (Nat.le_refl _) _)
      have HZ0 := Lib.hid (show (zsec.set 0 (UInt8.ofNat i)).set 1 (UInt8.ofNat N) = midS i N (piece l i) 0 by unfold midS; rw [List.take_zero]; rfl)
      have HVA := Lib.hid (show ((i : Int)) = ((UInt8.ofNat i).toNat : Int) by rw [UInt8.toNat_ofNat']; omega)
      have HVB := Lib.hid (show ((N : Int)) = ((UInt8.ofNat N).toNat : Int) by rw [UInt8.toNat_ofNat']; omega)
      have HK1 := Lib.hid (show 1 < (zsec.set 0 (UInt8.ofNat i)).length by rw [List.length_set]; decide)
      have HPL := Lib.hid (piece_le l i)
      obtain ⟨p, hp⟩ : ∃ p, p = piece l i := ⟨_, rfl⟩
      have HPE := Lib.hid hp
      rw [← hp] at HZ0 HPL
      obtain ⟨P, hP⟩ : ∃ P, P = p.length := ⟨_, rfl⟩
      have HPP := Lib.hid hP
      have hPv : (P : Int) = min 53 ((len : Int) - 53 * (i : Int)) ∧ 0 ≤ (len : Int) - 53 * (i : Int) := by
        have h1 : l.length ≤ 13515 := by rw [HL.out]; exact hlen
        have h2 := spanN_lo h1
        have h3 : 53 * i ≤ 53 * (spanN l.length - 1) := Nat.mul_le_mul_left _ (by omega)
        have h4 := piece_len l i
        rw [← hp, HL.out] at h4
        rw [hP, h4]
        rw [HL.out] at h2 h3
        omega
      have HPV := Lib.hid hPv
      clear hw3 hiN hp hP hPv hi
      go_wp2_with (first | ((with_reducible refine wpList_byte1 rfl _ _ rfl (k := 1) (c := UInt8.ofNat N) rfl rfl rfl HVB.out HR4.out HK1.out ?_); intro W5 k1 k2 k3; rw [HZ0.out] at k1; have HR5 := Lib.hid k1; have HO5 := Lib.hid (HO4.out.trans k2 (fun _ e => Or.inl e)); clear k1 k2 k3) | ((with_reducible refine wpList_byte1 rfl _ _ rfl (k := 0) (c := UInt8.ofNat i) rfl rfl rfl HVA.out HR3.out (by decide) ?_); intro W4 k1 k2 k3; have HR4 := Lib.hid k1; have HO4 := Lib.hid k2; clear k1 k2 k3) | ((with_reducible refine wpList_storeW rfl isS _ _ rfl wo.heap.size zc zc.toArray _ rfl rfl HAL.out cs_zc (by simp [zc_len]) ?_); rw [HW3.out]) | (with_reducible refine wpList_allocA rfl isS rfl ?_) | (with_reducible refine wpList_buildZ rfl rfl ?_))
      go_loopw [9] (fun c9 wr => ∃ k : Nat, c9 = .int .i64 (k : Int) ∧ k ≤ P ∧ BRow wr wo.heap.size (midS i N p k) ∧ Only (fun b => b = wo.heap.size) w3 wr) (fun c9 _ => P - (match c9 with | .int _ q => q | _ => 0).toNat)
      case atStart => exact ⟨0, rfl, Nat.zero_le _, HR5.out, HO5.out⟩
      case round =>
        obtain ⟨k, rfl, hk, hr, hon⟩ := hrel
        have HR := Lib.hid hr
        have HON := Lib.hid hon
        clear hr hon
        by_cases hkP : k < P
        · have HBW := Lib.hid (HON.out.below (HBL.out.trans (HB3.out.mono HBL.out.size)) (fun b e => by subst e; exact HBL.out.size) (Nat.le_trans HBL.out.size HB3.out.size))
          have hk53 : k < 53 := by have := HPP.out; have := HPL.out; omega
          have d0 : decide ((k : Int) < 53) = true := by simp; omega
          have hix : 53 * i + k < len := by have := HPV.out; omega
          have d1 : decide ((53 : Int) * (i : Int) + (k : Int) < (len : Int)) = true := by simp; omega
          obtain ⟨bb, ob, ha, hbb, hcs⟩ : ∃ bb ob, a = some ⟨bb, ob, none⟩ ∧ bb < w.heap.size ∧ ∀ j, j < l.length → w.cell? ⟨bb, ob + j, none⟩ = some (.int .u8 ((l.getD j 0).toNat : Int)) := by
            rcases HB.out with h | h
            · have := HL.out; rw [h] at this; simp at this; omega
            · exact h
          obtain ⟨b8, hb8⟩ : ∃ b8, b8 = l.getD (53 * i + k) 0 := ⟨_, rfl⟩
          have hbp : p.getD k 0 = b8 := by
            rw [HPE.out, hb8]
            unfold piece
            rw [List.getD, List.getD, List.getElem?_take_of_lt (by omega), List.getElem?_drop]
          have HCW := Lib.hid (hcs (53 * i + k) (by rw [HL.out]; exact hix))
          rw [← hb8] at HCW
          have HNB := Lib.hid (show bb ≠ wo.heap.size by have := HBL.out.size; omega)
          have HBB := Lib.hid hbb
          have q2 : wr.cell? ⟨wo.heap.size, 2, none⟩ = some (.int .u8 (k : Int)) := by
            have := HR.out.cell (k := 2) (by rw [midS_len (by rw [← HPP.out]; exact hk) HPL.out]; omega)
            rw [midS_two, UInt8.toNat_ofNat'] at this
            rw [this]; congr 2; omega
          have HV2 := Lib.hid (show (k : Int) + 1 = ((UInt8.ofNat (k + 1)).toNat : Int) by rw [UInt8.toNat_ofNat']; omega)
          have HK2 := Lib.hid (show 2 < (midS i N p k).length by rw [midS_len (by rw [← HPP.out]; exact hk) HPL.out]; omega)
          have HK3 := Lib.hid (show 3 + k < ((midS i N p k).set 2 (UInt8.ofNat (k + 1))).length by rw [List.length_set, midS_len (by rw [← HPP.out]; exact hk) HPL.out]; omega)
          have HNXT := Lib.hid (show ((midS i N p k).set 2 (UInt8.ofNat (k + 1))).set (3 + k) b8 = midS i N p (k + 1) by rw [← hbp]; exact midS_next (by rw [← HPP.out]; exact hkP) HPL.out)
          have hidx : ∀ W, (Instr.indexAt 24 (.slice (some ⟨bb, ob, none⟩) len cap) (.int .i64 ((53 : Int) * (i : Int) + (k : Int)))).run Try.prog W = .ok (.pointer (some ⟨bb, ob + (53 * i + k), none⟩)) W := fun W => by
            have := run_idx elB (b := bb) (off := ob) (n := len) (cap := cap) (k := .i64) (i := (53 : Int) * (i : Int) + (k : Int)) (j := 53 * i + k) (by omega) hix W
            rw [Nat.mul_one] at this; exact this
          subst ha
          clear hbb hcs hb8 hbp
          go_wp2_with (first | ((with_reducible refine wpList_byte1 rfl _ _ rfl (k := 3 + k) (c := b8) rfl rfl rfl rfl HR6.out HK3.out ?_); intro W7 k1 k2 k3; rw [HNXT.out] at k1; have HR7 := Lib.hid k1; have HO7 := Lib.hid (HO6.out.trans k2 (fun _ e => Or.inl e)); clear k1 k2 k3) | ((with_reducible refine wpList_byte1 rfl _ _ rfl (k := 2) (c := UInt8.ofNat (k + 1)) rfl rfl rfl HV2.out HR.out HK2.out ?_); intro W6 k1 k2 k3; have HR6 := Lib.hid k1; have HO6 := Lib.hid (HON.out.trans k2 (fun _ e => Or.inl e)); have q6 : W6.cell? ⟨bb, ob + (53 * i + k), none⟩ = some (.int .u8 (b8.toNat : Int)) := ((World.cell?_of_block (a := ⟨bb, ob + (53 * i + k), none⟩) ((k2.block bb (Nat.lt_of_lt_of_le HBB.out HBW.out.size) HNB.out).trans (HBW.out.block bb HBB.out))).trans HCW.out); clear k1 k2 k3))
          go_roundw
          case rel => exact ⟨k + 1, by go_num, by omega, HR7.out, HO7.out⟩
          case measure => simp; omega
        · obtain rfl : k = P := by omega
          have hcs : (k : Int) = 53 ∨ ((k : Int) < 53 ∧ (53 : Int) * (i : Int) + (k : Int) = (len : Int)) := by have := HPV.out; omega
          rcases hcs with hq | ⟨hq, hq2⟩
          · have d0 : decide ((k : Int) < 53) = false := by simp; omega
            clear hq
            have HR0 := Lib.hid (show BRow wr wo.heap.size (numS i N p n 0) by have := HR.out; rw [HPP.out, numS_zero (n := n) HPL.out] at this; exact this)
            clear hk
            go_wp2
            go_loopw [10, 11] (fun c10 c11 wr => ∃ j : Nat, c10 = .int .u64 ((n / 256 ^ j : Nat) : Int) ∧ c11 = .int .i64 ((56 + j : Nat) : Int) ∧ j ≤ 8 ∧ BRow wr wo.heap.size (numS i N p n j) ∧ Only (fun b => b = wo.heap.size) w3 wr) (fun _ c11 _ => 64 - (match c11 with | .int _ q => q | _ => 0).toNat)
            case atStart => exact ⟨0, by simp, rfl, by omega, HR0.out, HON.out⟩
            case round =>
              clear HR HON HR0
              obtain ⟨j, rfl, rfl, hj, hr, hon⟩ := hrel
              have HR := Lib.hid hr
              have HON := Lib.hid hon
              clear hr hon
              by_cases hj8 : j < 8
              · obtain ⟨m, hm⟩ : ∃ m, m = n / 256 ^ j := ⟨_, rfl⟩
                have hml : m < 18446744073709551616 := by rw [hm]; exact Nat.lt_of_le_of_lt (Nat.div_le_self _ _) HN.out
                rw [← hm]
                have HVM := Lib.hid (show (m : Int) % 256 = ((UInt8.ofNat (n / 256 ^ j % 256)).toNat : Int) by rw [← hm, UInt8.toNat_ofNat']; omega)
                have HME := Lib.hid (show n / 256 ^ (j + 1) = m / 256 by rw [Nat.pow_succ, ← Nat.div_div_eq_div_mul, ← hm])
                have HKJ := Lib.hid (show 56 + j < (numS i N p n j).length by rw [numS_len HPL.out hj]; omega)
                have HNXT := Lib.hid (numS_next (i := i) (many := N) (n := n) HPL.out hj8)
                have d5 : decide (((56 + j : Nat) : Int) < 64) = true := by simp; omega
                have qm : IntKind.u64.wrap ((m : Int) / 256) = (m : Int) / 256 := by rw [IntKind.wrap_u64]; omega
                clear hm hml
                go_wp2_with ((with_reducible refine wpList_byte1 rfl _ _ rfl (k := 56 + j) (c := UInt8.ofNat (n / 256 ^ j % 256)) rfl rfl rfl ?hv HR.out HKJ.out ?_); (case hv => first | exact HVM.out | (rw [← HVM.out]; simp; done)); intro W7 k1 k2 k3; rw [HNXT.out] at k1; have HR7 := Lib.hid k1; have HO7 := Lib.hid (HON.out.trans k2 (fun _ e => Or.inl e)); clear k1 k2 k3)
                go_roundw
                case rel => exact ⟨j + 1, by rw [HME.out]; rfl, by go_num, by omega, HR7.out, HO7.out⟩
                case measure => simp; omega
              · obtain rfl : j = 8 := by omega
                obtain ⟨m, hm⟩ : ∃ m, m = n / 256 ^ 8 := ⟨_, rfl⟩
                rw [← hm]
                obtain ⟨c, hc⟩ : ∃ c, c = bcells (secOf n l i) := ⟨_, rfl⟩
                have HG := Lib.hid (show wr.heap[wo.heap.size]? = some (.cells c.toArray 59) by have := HR.out; rw [numS_all] at this; rw [hc]; unfold secOf; rw [← HPE.out, ← HNE.out]; exact this)
                have HCC := Lib.hid (show Cs 64 c by rw [hc]; exact cs_sec (secOf_len _ _ _))
                obtain ⟨w8, hw8⟩ : ∃ w8, w8 = wr.alloc (.cells c.toArray 59) := ⟨_, rfl⟩
                have HW8 := Lib.hid hw8.symm
                have hb8 : RowKit.Below wr.heap.size wr w8 := by rw [hw8]; exact (RowKit.Below.refl _ _).alloc (Nat.le_refl _) _
                have HBW := Lib.hid (HON.out.below (HBL.out.trans (HB3.out.mono HBL.out.size)) (fun b e => by subst e; exact HBL.out.size) (Nat.le_trans HBL.out.size HB3.out.size))
                have HB8 := Lib.hid (HBW.out.trans (hb8.mono HBW.out.size))
                have HO8 := Lib.hid (show w8.ownsRow w.heap.size 59 64 v5 i (scells ((secs n l).take i)) from ow_same HO.out fun b hb => by
                  have hlt' := (HO.out.lt b hb).2
                  have hl3 := Nat.lt_of_lt_of_le hlt' HB3.out.size
                  rw [hb8.block b (Nat.lt_of_lt_of_le hl3 HON.out.size), HON.out.block b hl3 (by show ¬ b = wo.heap.size; omega), HB3.out.block b hlt'])
                have HLN := Lib.hid (show Lie w8 (some ⟨wr.heap.size, 0, none⟩) c by rw [hw8]; exact lie_new wr c _)
                have HCL := Lib.hid (show c.length = 1 * 64 by rw [Nat.one_mul]; exact HCC.out.len)
                have HSZ8 := Lib.hid HB8.out.size
                have HI1 := Lib.hid (show i + 1 ≤ 1000000 by omega)
                have HCO := Lib.hid HCC.out.one
                have HNI := Lib.hid (show (some ⟨wr.heap.size, 0, none⟩ : Option Addr) = none → 1 = 0 from fun e => by cases e)
                have HTK := Lib.hid (show scells ((secs n l).take i) ++ c = scells ((secs n l).take (i + 1)) by rw [secs_take HIN.out, scells_app, scells_sing, hc])
                have HCLE := Lib.hid HCC.out.len
                clear hj hj8 hm hc hw8 hb8
                go_wp2_with (first | (with_reducible refine wpList_appO elS rfl _ _ rfl w.heap.size v5 i (scells ((secs n l).take i)) (some ⟨wr.heap.size, 0, none⟩) 1 1 c rfl rfl HO8.out HCL.out HLN.out HNI.out HCO.out HI1.out (by decide) HSZ8.out (fun v9 w9 h9 => ?_)) | ((with_reducible refine wpList_one elS rfl _ rfl c rfl HCLE.out (by decide) ?_); rw [HW8.out]) | (with_reducible refine wpList_loadW rfl isS _ rfl wo.heap.size c _ rfl HG.out HCC.out ?_))
                have HO9 := Lib.hid (show w9.ownsRow w.heap.size 59 64 v9 (i + 1) (scells ((secs n l).take (i + 1))) by rw [← HTK.out]; exact h9.1)
                have HB9 := Lib.hid (below_appd h9 HB8.out HB8.out.size (fun b hb => (HO8.out.lt b hb).1))
                clear h9
                go_wp2_with fail
                go_roundw
                case rel => exact ⟨i + 1, v9, rfl, by go_num, by omega, HO9.out, HB9.out⟩
                case measure => simp; omega

          · have d0 : decide ((k : Int) < 53) = true := by simp; omega
            have d1 : decide ((53 : Int) * (i : Int) + (k : Int) < (len : Int)) = false := by simp; omega
            have hk53 : k < 53 := by omega
            clear hq hq2
            have HR0 := Lib.hid (show BRow wr wo.heap.size (numS i N p n 0) by have := HR.out; rw [HPP.out, numS_zero (n := n) HPL.out] at this; exact this)
            clear hk
            go_wp2
            go_loopw [10, 11] (fun c10 c11 wr => ∃ j : Nat, c10 = .int .u64 ((n / 256 ^ j : Nat) : Int) ∧ c11 = .int .i64 ((56 + j : Nat) : Int) ∧ j ≤ 8 ∧ BRow wr wo.heap.size (numS i N p n j) ∧ Only (fun b => b = wo.heap.size) w3 wr) (fun _ c11 _ => 64 - (match c11 with | .int _ q => q | _ => 0).toNat)
            case atStart => exact ⟨0, by simp, rfl, by omega, HR0.out, HON.out⟩
            case round =>
              clear HR HON HR0
              obtain ⟨j, rfl, rfl, hj, hr, hon⟩ := hrel
              have HR := Lib.hid hr
              have HON := Lib.hid hon
              clear hr hon
              by_cases hj8 : j < 8
              · obtain ⟨m, hm⟩ : ∃ m, m = n / 256 ^ j := ⟨_, rfl⟩
                have hml : m < 18446744073709551616 := by rw [hm]; exact Nat.lt_of_le_of_lt (Nat.div_le_self _ _) HN.out
                rw [← hm]
                have HVM := Lib.hid (show (m : Int) % 256 = ((UInt8.ofNat (n / 256 ^ j % 256)).toNat : Int) by rw [← hm, UInt8.toNat_ofNat']; omega)
                have HME := Lib.hid (show n / 256 ^ (j + 1) = m / 256 by rw [Nat.pow_succ, ← Nat.div_div_eq_div_mul, ← hm])
                have HKJ := Lib.hid (show 56 + j < (numS i N p n j).length by rw [numS_len HPL.out hj]; omega)
                have HNXT := Lib.hid (numS_next (i := i) (many := N) (n := n) HPL.out hj8)
                have d5 : decide (((56 + j : Nat) : Int) < 64) = true := by simp; omega
                have qm : IntKind.u64.wrap ((m : Int) / 256) = (m : Int) / 256 := by rw [IntKind.wrap_u64]; omega
                clear hm hml
                go_wp2_with ((with_reducible refine wpList_byte1 rfl _ _ rfl (k := 56 + j) (c := UInt8.ofNat (n / 256 ^ j % 256)) rfl rfl rfl ?hv HR.out HKJ.out ?_); (case hv => first | exact HVM.out | (rw [← HVM.out]; simp; done)); intro W7 k1 k2 k3; rw [HNXT.out] at k1; have HR7 := Lib.hid k1; have HO7 := Lib.hid (HON.out.trans k2 (fun _ e => Or.inl e)); clear k1 k2 k3)
                go_roundw
                case rel => exact ⟨j + 1, by rw [HME.out]; rfl, by go_num, by omega, HR7.out, HO7.out⟩
                case measure => simp; omega
              · obtain rfl : j = 8 := by omega
                obtain ⟨m, hm⟩ : ∃ m, m = n / 256 ^ 8 := ⟨_, rfl⟩
                rw [← hm]
                obtain ⟨c, hc⟩ : ∃ c, c = bcells (secOf n l i) := ⟨_, rfl⟩
                have HG := Lib.hid (show wr.heap[wo.heap.size]? = some (.cells c.toArray 59) by have := HR.out; rw [numS_all] at this; rw [hc]; unfold secOf; rw [← HPE.out, ← HNE.out]; exact this)
                have HCC := Lib.hid (show Cs 64 c by rw [hc]; exact cs_sec (secOf_len _ _ _))
                obtain ⟨w8, hw8⟩ : ∃ w8, w8 = wr.alloc (.cells c.toArray 59) := ⟨_, rfl⟩
                have HW8 := Lib.hid hw8.symm
                have hb8 : RowKit.Below wr.heap.size wr w8 := by rw [hw8]; exact (RowKit.Below.refl _ _).alloc (Nat.le_refl _) _
                have HBW := Lib.hid (HON.out.below (HBL.out.trans (HB3.out.mono HBL.out.size)) (fun b e => by subst e; exact HBL.out.size) (Nat.le_trans HBL.out.size HB3.out.size))
                have HB8 := Lib.hid (HBW.out.trans (hb8.mono HBW.out.size))
                have HO8 := Lib.hid (show w8.ownsRow w.heap.size 59 64 v5 i (scells ((secs n l).take i)) from ow_same HO.out fun b hb => by
                  have hlt' := (HO.out.lt b hb).2
                  have hl3 := Nat.lt_of_lt_of_le hlt' HB3.out.size
                  rw [hb8.block b (Nat.lt_of_lt_of_le hl3 HON.out.size), HON.out.block b hl3 (by show ¬ b = wo.heap.size; omega), HB3.out.block b hlt'])
                have HLN := Lib.hid (show Lie w8 (some ⟨wr.heap.size, 0, none⟩) c by rw [hw8]; exact lie_new wr c _)
                have HCL := Lib.hid (show c.length = 1 * 64 by rw [Nat.one_mul]; exact HCC.out.len)
                have HSZ8 := Lib.hid HB8.out.size
                have HI1 := Lib.hid (show i + 1 ≤ 1000000 by omega)
                have HCO := Lib.hid HCC.out.one
                have HNI := Lib.hid (show (some ⟨wr.heap.size, 0, none⟩ : Option Addr) = none → 1 = 0 from fun e => by cases e)
                have HTK := Lib.hid (show scells ((secs n l).take i) ++ c = scells ((secs n l).take (i + 1)) by rw [secs_take HIN.out, scells_app, scells_sing, hc])
                have HCLE := Lib.hid HCC.out.len
                clear hj hj8 hm hc hw8 hb8
                go_wp2_with (first | (with_reducible refine wpList_appO elS rfl _ _ rfl w.heap.size v5 i (scells ((secs n l).take i)) (some ⟨wr.heap.size, 0, none⟩) 1 1 c rfl rfl HO8.out HCL.out HLN.out HNI.out HCO.out HI1.out (by decide) HSZ8.out (fun v9 w9 h9 => ?_)) | ((with_reducible refine wpList_one elS rfl _ rfl c rfl HCLE.out (by decide) ?_); rw [HW8.out]) | (with_reducible refine wpList_loadW rfl isS _ rfl wo.heap.size c _ rfl HG.out HCC.out ?_))
                have HO9 := Lib.hid (show w9.ownsRow w.heap.size 59 64 v9 (i + 1) (scells ((secs n l).take (i + 1))) by rw [← HTK.out]; exact h9.1)
                have HB9 := Lib.hid (below_appd h9 HB8.out HB8.out.size (fun b hb => (HO8.out.lt b hb).1))
                clear h9
                go_wp2_with fail
                go_roundw
                case rel => exact ⟨i + 1, v9, rfl, by go_num, by omega, HO9.out, HB9.out⟩
                case measure => simp; omega

    · obtain rfl : i = N := by omega
      have HFIN := Lib.hid (show LayRes (secs n l) w (.returned v5) wr from by
        have ho := HO.out
        rw [List.take_of_length_le (by rw [secs_length, ← HNE.out]; exact Nat.le_refl _)] at ho
        obtain ⟨a', cap', hv, hli, hle, hnn⟩ := ow_lie ho
        refine ⟨a', cap', by rw [hv, secs_length, ← HNE.out], hli, fun e => ?_, fun b hb => ?_, HBL.out⟩
        · rw [secs_length, ← HNE.out]; have := hnn e; omega
        · obtain ⟨q, e, rfl⟩ := hb
          exact ho.lt _ (by rw [hv, e]; rfl))
      clear hi hlt
      go_wp2
      go_ret
      exact HFIN.out
end Go.Proofs.Ytoibonalgmmkbaa
