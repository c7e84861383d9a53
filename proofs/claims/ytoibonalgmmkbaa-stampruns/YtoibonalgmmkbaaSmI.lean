/- Package stamp: gather. -/
import Derived.Test.YtoibonalgmmkbaaSmH
namespace Go.Proofs.Ytoibonalgmmkbaa
open Go.RowKit Go.Lib

theorem run_sl5 (b k : Nat) (hk : k ≤ 53) (W : World) : (Instr.sliceAt 59 (.pointer (some ⟨b, 0, none⟩)) (some (.int .i64 3)) (some (.int .i64 (3 + (k : Int)))) none).run Try.prog W = .ok (.slice (some ⟨b, 3, none⟩) k 61) W := by
  have h := run_sliceAt_array_lh (P := Try.prog) W 59 ⟨b, 0, none⟩ (by kernel_rfl) .i64 .i64 3 (3 + (k : Int)) (by omega) (by omega) (by rw [show Try.prog.arrayLen 59 = 64 by kernel_rfl]; omega)
  rw [h, show Try.prog.elem 59 = 5 by kernel_rfl, sz8, show Try.prog.arrayLen 59 = 64 by kernel_rfl]
  simp only [Result.andThen, slicedAt]
  rw [show (3 + (k : Int)).toNat = 3 + k by omega, show (3 : Int).toNat = 3 from rfl, if_neg (by omega)]
  rw [show 3 + k - 3 = k by omega]
  rfl
theorem gat_snoc {L : List Sec} {k : Nat} {s : Sec} (h : L[k]? = some s) : gat (L.take (k + 1)) = gat (L.take k) ++ gatS s := by
  rw [List.take_add_one, h, gat_app]
  simp [gat]
def GatRes (l : List UInt8) (w : World) (e : Ending) (w' : World) : Prop := ∃ v, e = .returned v ∧ OB w' w.heap.size v l ∧ RowKit.Below w.heap.size w w'
set_option maxRecDepth 100000 in
set_option maxHeartbeats 3200000 in
theorem gather_any (L : List Sec) (a : Option Addr) (cap : Nat) (w : World) (hli : Lie w a (scells L)) (h64 : ∀ s ∈ L, s.length = 64) (hL : L.length ≤ 255) :
    Calls Try.prog 29 #[.slice a L.length cap] w (GatRes (gat L) w) := by
  have HLI := Lib.hid hli
  have H64 := Lib.hid h64
  obtain ⟨M, hM⟩ : ∃ M, M = L.length := ⟨_, rfl⟩
  have HM := Lib.hid hM
  rw [← hM]
  rw [← hM] at hL
  clear hli h64 hM
  go_enter Try.func29, Try.ntmps29
  go_wp2
  go_loopw [3, 9] (fun c3 c9 wr => ∃ (k : Nat) (v : Value), v = c3 ∧ c9 = .int .i64 (k : Int) ∧ k ≤ M ∧ OB wr w.heap.size v (gat (L.take k)) ∧ RowKit.Below w.heap.size w wr) (fun _ c9 _ => M - (match c9 with | .int _ q => q | _ => 0).toNat)
  case atStart => exact ⟨0, _, rfl, rfl, Nat.zero_le _, by rw [List.take_zero]; exact OB.nil _ _, RowKit.Below.refl _ _⟩
  case round =>
    obtain ⟨k, c3, rfl, rfl, hk, ho, hbl⟩ := hrel
    have HO := Lib.hid ho
    have HBL := Lib.hid hbl
    clear ho hbl
    by_cases hlt : k < M
    · obtain ⟨s, hs⟩ : ∃ s, L[k]? = some s := ⟨_, List.getElem?_eq_getElem (by rw [← HM.out]; exact hlt)⟩
      have hsl : s.length = 64 := H64.out s (List.mem_of_getElem? hs)
      have HSL := Lib.hid hsl
      obtain ⟨bb, ob, ha1, hbb, hrb⟩ := (HLI.out.below HBL.out).get (f := bcells) (n := 64) (fun s hs => cells_len s (H64.out s hs)) (by decide) hs
      obtain ⟨c, hc⟩ : ∃ c, c = bcells s := ⟨_, rfl⟩
      have HC := Lib.hid hc
      rw [← hc] at hrb
      have HRB := Lib.hid hrb
      have HCC := Lib.hid (show Cs 64 c by rw [hc]; exact cs_sec hsl)
      obtain ⟨w4, hw4⟩ : ∃ w4, w4 = wr.alloc (.cells c.toArray 59) := ⟨_, rfl⟩
      have HW4 := Lib.hid (show (wr.alloc (.cells zc.toArray 59)).setRow wr.heap.size c.toArray = w4 by rw [hw4]; exact setRow_new rfl)
      have HAL := Lib.hid (heap_alloc_new wr (.cells zc.toArray 59))
      have p4 : w4.heap[wr.heap.size]? = some (.cells c.toArray 59) := by rw [hw4]; exact blkn rfl
      have hb4 : RowKit.Below wr.heap.size wr w4 := by rw [hw4]; exact (RowKit.Below.refl _ _).alloc (Nat.le_refl _) _
      obtain ⟨q, hq⟩ : ∃ q, q = (s.getD 2 0).toNat := ⟨_, rfl⟩
      have q2 : w4.cell? ⟨wr.heap.size, 2, none⟩ = some (.int .u8 (q : Int)) := by rw [cell_of_row _ _ _ _ _ _ p4, hc, List.getElem?_toArray, bcells_get (by omega), hq]
      have hq255 : q ≤ 255 := by rw [hq]; have := (s.getD 2 0).toNat_lt; omega
      obtain ⟨m, hm⟩ : ∃ m, m = min q 53 := ⟨_, rfl⟩
      have HGS := Lib.hid (show gatS s = (s.drop 3).take m by unfold gatS; rw [← hq, ← hm])
      have HGL := Lib.hid (show (gatS s).length = m by rw [gatS_len hsl, ← hq, ← hm])
      have HO4 := Lib.hid (HO.out.below hb4)
      have HB4 := Lib.hid (HBL.out.trans (hb4.mono HBL.out.size))
      have HNW := Lib.hid (show BAt w4 (some ⟨wr.heap.size, 3, none⟩) (gatS s) from by
        have hr := range_row p4
        rw [HGS.out]
        refine BAt.take (Or.inr ⟨wr.heap.size, 3, rfl, lt_of_heap p4, fun i hi => ?_⟩) _
        rw [List.length_drop] at hi
        have := hr (3 + i) _ (by rw [hc]; exact bcells_get (by omega))
        rw [Nat.zero_add] at this
        rw [this, List.getD_eq_getElem?_getD, List.getD_eq_getElem?_getD, List.getElem?_drop])
      have HTL := Lib.hid (show (gat (L.take k)).length + (gatS s).length ≤ 1000000000 by have := gat_le (L.take k); have := gatS_le s; rw [List.length_take] at *; omega)
      have HSN := Lib.hid (gat_snoc hs)
      have HMQ := Lib.hid hm
      have HNI := Lib.hid (show (some ⟨wr.heap.size, 3, none⟩ : Option Addr) = none → gatS s = [] from fun e => by cases e)
      have hsl5 := fun W => run_sl5 wr.heap.size m (by omega) W
      have HS4 := Lib.hid (show w.heap.size ≤ w4.heap.size from HB4.out.size)
      subst ha1
      clear hs hsl hbb hc hrb hw4 p4 hb4 hq
      by_cases h53 : q ≤ 53
      · obtain rfl : m = q := by omega
        clear hm
        go_wp2_with (first | (with_reducible refine wpList_appB rfl _ _ rfl w.heap.size c3 (gat (L.take k)) (gatS s) (some ⟨wr.heap.size, 3, none⟩) 61 m rfl rfl HGL.out HO4.out HNW.out HNI.out HTL.out HS4.out (fun v1 w5 h5 => ?_)) | ((with_reducible refine wpList_storeW rfl isS _ _ rfl wr.heap.size c zc.toArray _ rfl rfl HAL.out HCC.out (by simp [zc_len]) ?_); rw [HW4.out]) | (with_reducible refine wpList_allocA rfl isS rfl ?_) | (with_reducible refine wpList_idx elS rfl _ _ rfl k rfl rfl rfl hlt ?_) | (with_reducible refine wpList_loadM rfl isS _ rfl bb (ob + k * 64) c rfl HRB.out HCC.out ?_))
        obtain ⟨o5, u5, s5, z5⟩ := h5
        have HO5 := Lib.hid o5
        have HB5 := Lib.hid (u5.below HO4.out HS4.out HB4.out)
        clear o5 u5 s5 z5
        go_wp2_with fail
        go_roundw
        case rel => exact ⟨k + 1, v1, rfl, by go_num, by omega, by rw [HSN.out]; exact HO5.out, HB5.out⟩
        case measure => simp; omega
      · obtain rfl : m = 53 := by omega
        have h53' : 53 < q := by omega
        clear hm h53
        go_wp2_with (first | (with_reducible refine wpList_appB rfl _ _ rfl w.heap.size c3 (gat (L.take k)) (gatS s) (some ⟨wr.heap.size, 3, none⟩) 61 53 rfl rfl HGL.out HO4.out HNW.out HNI.out HTL.out HS4.out (fun v1 w5 h5 => ?_)) | ((with_reducible refine wpList_storeW rfl isS _ _ rfl wr.heap.size c zc.toArray _ rfl rfl HAL.out HCC.out (by simp [zc_len]) ?_); rw [HW4.out]) | (with_reducible refine wpList_allocA rfl isS rfl ?_) | (with_reducible refine wpList_idx elS rfl _ _ rfl k rfl rfl rfl hlt ?_) | (with_reducible refine wpList_loadM rfl isS _ rfl bb (ob + k * 64) c rfl HRB.out HCC.out ?_))
        obtain ⟨o5, u5, s5, z5⟩ := h5
        have HO5 := Lib.hid o5
        have HB5 := Lib.hid (u5.below HO4.out HS4.out HB4.out)
        clear o5 u5 s5 z5
        go_wp2_with fail
        go_roundw
        case rel => exact ⟨k + 1, v1, rfl, by go_num, by omega, by rw [HSN.out]; exact HO5.out, HB5.out⟩
        case measure => simp; omega
    · obtain rfl : k = M := by omega
      have HG := Lib.hid (show GatRes (gat L) w (.returned c3) wr from by
        have e : L.take k = L := by rw [HM.out]; exact List.take_length
        have := HO.out
        rw [e] at this
        exact ⟨c3, rfl, this, HBL.out⟩)
      clear hk hlt
      go_wp2
      go_ret
      exact HG.out
end Go.Proofs.Ytoibonalgmmkbaa
