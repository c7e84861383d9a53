/- falseworkref08.Power. -/
import Derived.Test.YtoibonalgmmkbaaDkT
namespace Go.Proofs.Ytoibonalgmmkbaa
open Go.RowKit Go.Lib

def RPowerRes (F : Nat → Prop) (r : Dk) (l : List Int) (w : World) (e : Ending) (w' : World) : Prop := ∃ a0 c0 a1 c1, e = .returned (.agg (rcs (r.power l) a0 c0 a1 c1).toArray) ∧ RM w' F (r.power l) a0 a1 ∧ RowKit.Below w.heap.size w w'
set_option maxRecDepth 100000 in
set_option maxHeartbeats 3200000 in
theorem rpower_any (r : Dk) (a0 : Option Addr) (c0 : Nat) (a1 : Option Addr) (c1 : Nat) (F : Nat → Prop) (ka : Option Addr) (l : List Int) (kn kc : Nat) (w : World) (hF : ∀ i, F i → i < w.heap.size) (h : RM w F r a0 a1) (hl : Nums w ka l) (hn : l.length = kn) :
    Calls Try.prog 20 #[.agg (rcs r a0 c0 a1 c1).toArray, .slice ka kn kc] w (RPowerRes F r l w) := by
  obtain ⟨R, hR⟩ : ∃ R, R = rcs r a0 c0 a1 c1 := ⟨_, rfl⟩
  have HR := Lib.hid hR
  have HM := Lib.hid h
  have HF := Lib.hid hF
  have HL := Lib.hid hl
  have HLN := Lib.hid hn
  obtain ⟨w3, hw3⟩ : ∃ w3, w3 = (w.alloc (.cells R.toArray 37)).alloc (.cells [.slice none 0 0, .slice none 0 0, .int .i64 0, .bool false].toArray 37) := ⟨_, rfl⟩
  have HB3 := Lib.hid (show RowKit.Below w.heap.size w w3 by rw [hw3]; exact ((RowKit.Below.refl _ _).alloc (Nat.le_refl _) _).alloc (by simp) _)
  have p1 : w3.heap[w.heap.size]? = some (.cells R.toArray 37) := by rw [hw3]; exact blk_in (blkn rfl)
  have p2 : w3.heap[w.heap.size + 1]? = some (.cells [.slice none 0 0, .slice none 0 0, .int .i64 0, .bool false].toArray 37) := by rw [hw3]; exact blkn (by simp)
  have q0 : w3.cell? ⟨w.heap.size, 0, none⟩ = some (.slice a0 r.base.length c0) := by rw [cell_of_row _ _ _ _ _ _ p1, hR]; rfl
  have q1 : w3.cell? ⟨w.heap.size, 1, none⟩ = some (.slice a1 r.queue.length c1) := by rw [cell_of_row _ _ _ _ _ _ p1, hR]; rfl
  have HP2 := Lib.hid p2
  have HW3 := Lib.hid hw3
  have HN3 := Lib.hid (show w3.heap.size = w.heap.size + 2 by rw [hw3]; simp)
  have HZ := Lib.hid (show FS w w3 F r (keepF l) (w.heap.size + 1) 0 a0 from ⟨h.bs.below HB3.out, h.b0, fun b hb => ⟨h.o0 b hb, Or.inl (h.l0 b hb), Nat.lt_of_lt_of_le (h.l0 b hb) HB3.out.size⟩, HB3.out⟩)
  have hq9 := h.ok.qn
  rw [← hR]
  clear hR hw3 p1 p2 h hF hl hn
  go_enter Try.func20, Try.ntmps20
  go_wp2_with (first | (with_reducible refine wpList_boxA rfl _ _ rfl _ rfl ?_) | ((with_reducible refine wpList_allocA rfl isD rfl ?_); rw [← HW3.out]))
  clear q0 q1
  go_loopw [5, 13] (fun c5 c13 wr => ∃ (k : Nat) (ak : Option Addr) (ck : Nat), c5 = .slice ak r.base.length ck ∧ c13 = .int .i64 (k : Int) ∧ k ≤ r.queue.length ∧ FS w wr F r (keepF l) (w.heap.size + 1) k ak ∧ wr.heap[w.heap.size + 1]? = some (.cells [.slice none 0 0, .slice none 0 0, .int .i64 0, .bool false].toArray 37)) (fun _ c13 _ => r.queue.length - (match c13 with | .int _ q => q | _ => 0).toNat)
  case atStart => exact ⟨0, a0, c0, rfl, rfl, Nat.zero_le _, HZ.out, HP2.out⟩
  case round =>
    obtain ⟨k, ak, ck, rfl, rfl, hk, hfs, h2⟩ := hrel
    have HFS := Lib.hid hfs
    have H2 := Lib.hid h2
    clear hfs h2
    by_cases hlt : k < r.queue.length
    · obtain ⟨p, hp⟩ : ∃ p, r.queue[k]? = some p := ⟨_, List.getElem?_eq_getElem hlt⟩
      have HP := Lib.hid hp
      have HKL := Lib.hid hlt
      have hmem := List.mem_of_getElem? hp
      have HPI := Lib.hid (HM.out.ok.qi p hmem)
      have HPL := Lib.hid (HM.out.ok.ql p hmem)
      obtain ⟨bq, oq, ha1, hbq, hrq⟩ := item_at (HM.out.qs.below HFS.out.bl) HM.out.ok.ql hp
      obtain ⟨ci, hci⟩ : ∃ ci, ci = icell p := ⟨_, rfl⟩
      rw [← hci] at hrq
      have HCI := Lib.hid hci
      have HCC := Lib.hid (show Cs 65 ci by rw [hci]; exact cs_item HPL.out)
      have HRQ := Lib.hid hrq
      have HA7z := Lib.hid (heap_alloc_new wr (.cells zi.toArray 78))
      have HSN := Lib.hid (show (wr.alloc (.cells zi.toArray 78)).setRow wr.heap.size ci.toArray = wr.alloc (.cells ci.toArray 78) from setRow_new rfl)
      obtain ⟨w7, hw7⟩ : ∃ w7, w7 = wr.alloc (.cells ci.toArray 78) := ⟨_, rfl⟩
      have HA7 := Lib.hid (show w7.heap[wr.heap.size]? = some (.cells ci.toArray 78) by rw [hw7]; exact heap_alloc_new wr _)
      have hb7 : RowKit.Below wr.heap.size wr w7 := by rw [hw7]; exact (RowKit.Below.refl _ _).alloc (Nat.le_refl _) _
      rw [← hw7] at HSN
      have H27 := Lib.hid ((hb7.block _ (lt_of_heap H2.out)).trans H2.out)
      have HF7 := Lib.hid (HFS.out.below hb7)
      have HN7 := Lib.hid (show w.heap.size + 1 < w7.drew.heap.size from lt_of_heap H27.out)
      have HBK := Lib.hid (HFS.out.bl.trans (hb7.mono HFS.out.bl.size))
      subst ha1
      clear hp hmem hbq hrq hb7 hw7
      by_cases hkn : k < kn
      · have HRI := Lib.hid (show w7.rangeAt wr.heap.size 0 ci from range_row HA7.out)
        obtain ⟨kb, ko, hka, hkv⟩ := (HL.out.below HBK.out).at_ (k := k) (by have := HLN.out; omega)
        obtain ⟨v, hv⟩ : ∃ v, v = l.getD k 0 := ⟨_, rfl⟩
        rw [← hv] at hkv
        have hkb : kb < w7.heap.size := World.block_lt_of_cell? w7 _ hkv
        have HVM := Lib.hid (show (min (max v 0) 64).toNat = keepF l k by unfold keepF; rw [hv])
        have hlen : ∀ s ∈ stl (keepF l) r.queue r.base k, s.length = 64 := stl_ok (keepF_le l) HM.out.ok.bl HM.out.ok.qi HM.out.ok.ql k hk
        have HLAND := Lib.hid (land_any ak ck (stl (keepF l) r.queue r.base k) p v w7.drew HF7.out.li (fun e => by rw [stl_len]; exact HF7.out.nn e) hlen (by rw [stl_len]; exact HM.out.ok.sz) (by rw [stl_len]; exact HPI.out) HPL.out)
        rw [stl_len, ← hci] at HLAND
        have HKV := Lib.hid hkv
        have HVR := Lib.hid (fun (W : World) (hW : Agree [wr.heap.size, kb] w7 W) => hW.cell (b := kb) (by simp) HKV.out)
        subst hka
        clear hv hci hlen hkv
        go_wp2_with (first | (with_reducible refine wpList_idx elI rfl _ _ rfl k rfl rfl rfl HKL.out ?_) | (with_reducible refine wpList_loadM rfl isI _ rfl bq (oq + k * 65) ci rfl HRQ.out HCC.out ?_) | (with_reducible refine wpList_allocA rfl isI rfl ?_) | ((with_reducible refine wpList_storeW rfl isI _ _ rfl wr.heap.size ci zi.toArray _ rfl rfl HA7z.out HCC.out (by simp [zi_len]) ?_); rw [HSN.out]))
        refine wp_region_held_drew (S := fun W => Agree [wr.heap.size, kb] w7 W) (by kernel_rfl) ?_ (fun hHeld => ?_)
        · exact fun _ _ => rfl
        refine held_take 0 (v := ?_) rfl (by kernel_rfl) (by kernel_rfl) (by kernel_rfl) (fun _ _ _ h => h) hHeld (by rfl) ?_ ?_
        rotate_left
        · (intro W hW; go_simp; try with_reducible rfl)
        try simp only [Act.put, List.setIfInBounds_toArray, List.set_cons_zero, List.set_cons_succ]
        refine held_take 1 (v := .agg ci.toArray) rfl (by kernel_rfl) (by kernel_rfl) (by kernel_rfl) (fun _ _ _ h => h) hHeld (by rfl) (fun W hW => exec_loadM isI _ rfl _ _ ci rfl (hW.range (by simp) HRI.out) HCC.out) ?_
        try simp only [Act.put, List.setIfInBounds_toArray, List.set_cons_zero, List.set_cons_succ]
        refine held_take 2 (v := ?_) rfl (by kernel_rfl) (by kernel_rfl) (by kernel_rfl) (fun _ _ _ h => h) hHeld (by rfl) ?_ ?_
        rotate_left
        · (intro W hW; go_simp; try with_reducible rfl)
        try simp only [Act.put, List.setIfInBounds_toArray, List.set_cons_zero, List.set_cons_succ]
        refine held_take 3 (v := ?_) rfl (by kernel_rfl) (by kernel_rfl) (by kernel_rfl) (fun _ _ _ h => h) hHeld (by rfl) ?_ ?_
        rotate_left
        · (intro W hW; go_simp; try with_reducible rfl)
        try simp only [Act.put, List.setIfInBounds_toArray, List.set_cons_zero, List.set_cons_succ]
        refine held_take 4 (v := ?_) rfl (by kernel_rfl) (by kernel_rfl) (by kernel_rfl) (fun _ _ _ h => h) hHeld (by rfl) ?_ ?_
        rotate_left
        · (intro W hW; go_simp; try with_reducible rfl)
        try simp only [Act.put, List.setIfInBounds_toArray, List.set_cons_zero, List.set_cons_succ]
        refine held_take 5 (v := ?_) rfl (by kernel_rfl) (by kernel_rfl) (by kernel_rfl) (fun _ _ _ h => h) hHeld (by rfl) ?_ ?_
        rotate_left
        · (intro W hW; have e := HVR.out W hW; go_simp; try with_reducible rfl)
        try simp only [Act.put, List.setIfInBounds_toArray, List.set_cons_zero, List.set_cons_succ]
        refine held_next 6 rfl (by kernel_rfl) (by rfl) (fun K hK => ?_)
        go_simp
        go_at_call 39
        refine HLAND.out.mono ?_
        rintro _ w9 ⟨a, c, rfl, hl9, hne, hbl, hb9⟩
        rw [stl_len]
        have HB9 := Lib.hid hb9
        have H29 := Lib.hid ((hb9.block _ (lt_of_heap H27.out)).trans H27.out)
        have HF9 := Lib.hid (HF7.out.next HP.out (m := v) HVM.out hl9 hne hbl ⟨hb9.os, hb9.tape, hb9.output, hb9.size, hb9.block⟩ HF.out HN7.out)
        clear hl9 hne hbl hb9
        refine hK.out _ _ (fun i hi => by rcases List.mem_cons.1 hi with e | e; (subst e; exact HB9.out.block _ (lt_of_heap HA7.out)); (rw [List.mem_singleton.1 e]; exact HB9.out.block _ hkb)) (fun hHeld => ?_)
        clear hK K
        try simp only [Act.put, List.setIfInBounds_toArray, List.set_cons_zero, List.set_cons_succ]
        refine held_take 7 (v := ?_) rfl (by kernel_rfl) (by kernel_rfl) (by kernel_rfl) (fun _ _ _ h => h) hHeld (by rfl) ?_ ?_
        rotate_left
        · (intro W hW; go_simp; try with_reducible rfl)
        try simp only [Act.put, List.setIfInBounds_toArray, List.set_cons_zero, List.set_cons_succ]
        refine wpAnyH_done (by kernel_rfl) ?_ _
        go_simp
        go_wp2_with fail
        go_roundw
        case rel => exact ⟨k + 1, a, c, rfl, by go_num, by have := HKL.out; omega, HF9.out, H29.out⟩
        case measure => simp; have := HKL.out; omega
      · have HF9 := Lib.hid (HF7.out.skip HM.out.ok HP.out (keepF_out (by have := HLN.out; omega)))
        clear hci
        go_wp2_with (first | (with_reducible refine wpList_idx elI rfl _ _ rfl k rfl rfl rfl HKL.out ?_) | (with_reducible refine wpList_loadM rfl isI _ rfl bq (oq + k * 65) ci rfl HRQ.out HCC.out ?_) | (with_reducible refine wpList_allocA rfl isI rfl ?_) | ((with_reducible refine wpList_storeW rfl isI _ _ rfl wr.heap.size ci zi.toArray _ rfl rfl HA7z.out HCC.out (by simp [zi_len]) ?_); rw [HSN.out]))
        go_roundw
        case rel => exact ⟨k + 1, ak, ck, rfl, by go_num, by have := HKL.out; omega, HF9.out, H27.out⟩
        case measure => simp; have := HKL.out; omega
    · obtain rfl : k = r.queue.length := by omega
      obtain ⟨R9, hR9⟩ : ∃ R9, R9 = [Value.slice ak r.base.length ck, .slice none 0 0, .int .i64 (-1), .bool false] := ⟨_, rfl⟩
      have HFL := Lib.hid (show r.power l = { base := stl (keepF l) r.queue r.base r.queue.length, queue := [], fuse := -1, dead := false } from rfl)
      have HR9 := Lib.hid (show R9 = rcs (r.power l) ak ck none 0 by rw [HFL.out, hR9]; unfold rcs; simp only [stl_len]; rfl)
      have HRC9 := Lib.hid (show Cs 4 R9 by rw [HR9.out]; exact rcs_cs _ _ _ _ _)
      clear hk hlt hq9
      have HR99 := Lib.hid hR9
      rw [hR9] at HRC9
      clear hR9
      go_wp2_with (first | (with_reducible refine wpList_storeW rfl isD _ _ rfl (w.heap.size + 1) [.slice ak r.base.length ck, .slice none 0 0, .int .i64 (-1), .bool false] _ _ rfl rfl H2.out HRC9.out rfl ?_))
      refine ret_cell isD rfl rfl (setRow_heap _ _ _ _ _ _ H2.out) HRC9.out rfl ?_
      have hfs := HFS.out.row (g := w.heap.size + 1) [Value.slice ak r.base.length ck, .slice none 0 0, .int .i64 (-1), .bool false].toArray (by omega) (Nat.le_refl _)
      refine ⟨ak, ck, none, 0, by rw [← HR9.out, HR99.out], ⟨HM.out.ok.power l, ?_, ?_, ?_, ?_, ?_, ?_, ?_, ?_⟩, hfs.bl⟩
      · rw [HFL.out]; exact hfs.li
      · rw [HFL.out]; intro e; show (stl _ _ _ _).length = 0; rw [stl_len]; exact hfs.nn e
      · rw [HFL.out]; exact Or.inl rfl
      · rw [HFL.out]; exact fun _ => rfl
      · exact fun b hb => (hfs.lo b hb).1
      · rintro b ⟨q, e, rfl⟩; cases e
      · exact fun b hb => (hfs.lo b hb).2.2
      · rintro b ⟨q, e, rfl⟩; cases e
end Go.Proofs.Ytoibonalgmmkbaa
