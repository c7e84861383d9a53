/- falseworkref08.Flush. -/
import Derived.Test.YtoibonalgmmkbaaDkS
namespace Go.Proofs.Ytoibonalgmmkbaa
open Go.RowKit Go.Lib

theorem item_at {w : World} {a1 : Option Addr} {q : List (Nat × Sec)} (h : Lie w a1 (icells q)) (hq : ∀ y ∈ q, y.2.length = 64) {k : Nat} {p : Nat × Sec} (hp : q[k]? = some p) : ∃ b off, a1 = some ⟨b, off, none⟩ ∧ b < w.heap.size ∧ w.rangeAt b (off + k * 65) (icell p) :=
  Lie.get h (fun y hy => icell_len (hq y hy)) (by decide) hp
/-- where a base lies that is not F's: not in block n, nor behind the call's own two -/
def Loc (w wr : World) (F : Nat → Prop) (n : Nat) (a : Option Addr) : Prop := ∀ b, inBlk a b → ¬ F b ∧ (b < w.heap.size ∨ n < b) ∧ b < wr.heap.size
theorem Loc.below {w wr wx : World} {F : Nat → Prop} {n : Nat} {a : Option Addr} (h : Loc w wr F n a) (hs : wr.heap.size ≤ wx.heap.size) : Loc w wx F n a := fun b hb => ⟨(h b hb).1, (h b hb).2.1, Nat.lt_of_lt_of_le (h b hb).2.2 hs⟩
def RFlushRes (F : Nat → Prop) (r : Dk) (w : World) (e : Ending) (w' : World) : Prop := ∃ a0 c0 a1 c1, e = .returned (.tuple #[.agg (rcs r.flush a0 c0 a1 c1).toArray, .int .i64 r.actE]) ∧ RM w' F r.flush a0 a1 ∧ RowKit.Below w.heap.size w w'
/-- k of the queue have gone in -/
structure FS (w wr : World) (F : Nat → Prop) (r : Dk) (cm : Nat → Nat) (n : Nat) (k : Nat) (ak : Option Addr) : Prop where
  li : Lie wr ak (scells (stl cm r.queue r.base k))
  nn : ak = none → r.base.length = 0
  lo : Loc w wr F n ak
  bl : RowKit.Below w.heap.size w wr
theorem FS.below {w wr wx : World} {F : Nat → Prop} {r : Dk} {cm : Nat → Nat} {n k : Nat} {ak : Option Addr} (h : FS w wr F r cm n k ak) (hb : RowKit.Below wr.heap.size wr wx) : FS w wx F r cm n k ak :=
  ⟨h.li.below hb, h.nn, h.lo.below hb.size, h.bl.trans (hb.mono h.bl.size)⟩
theorem FS.set {w wr : World} {F : Nat → Prop} {r : Dk} {cm : Nat → Nat} {n k : Nat} {ak : Option Addr} (h : FS w wr F r cm n k ak) {p : Addr} (v : Value) (hp : w.heap.size ≤ p.block) (hp2 : p.block ≤ n) : FS w (wr.setCell p v) F r cm n k ak :=
  ⟨h.li.same (by simp) fun b hb => heap_setCell_other _ _ _ _ (by have := (h.lo b hb).2.1; omega), h.nn, h.lo.below (by simp), h.bl.setCell hp v⟩
theorem FS.row {w wr : World} {F : Nat → Prop} {r : Dk} {cm : Nat → Nat} {n k : Nat} {ak : Option Addr} (h : FS w wr F r cm n k ak) {g : Nat} (cs : Array Value) (hp : w.heap.size ≤ g) (hp2 : g ≤ n) : FS w (wr.setRow g cs) F r cm n k ak :=
  ⟨h.li.same (by simp) fun b hb => setRow_other _ _ _ _ (by have := (h.lo b hb).2.1; omega), h.nn, h.lo.below (by simp), below_setRow h.bl hp⟩
/-- what land leaves is the next one -/
theorem FS.next {w wr w' : World} {F : Nat → Prop} {r : Dk} {cm : Nat → Nat} {n k : Nat} {ak a : Option Addr} (h : FS w wr F r cm n k ak) {p : Nat × Sec} (hp : r.queue[k]? = some p) {m : Int} (hm : (min (max m 0) 64).toNat = cm k)
    (hl : Lie w' a (scells ((stl cm r.queue r.base k).set p.1 (cutS p.2 ((stl cm r.queue r.base k).getD p.1 []) (min (max m 0) 64).toNat)))) (ha : a ≠ none) (hi : ∀ i, inBlk a i → wr.heap.size ≤ i ∧ i < w'.heap.size) (hb : RowKit.Below wr.heap.size wr w') (hF : ∀ i, F i → i < w.heap.size) (hn : n < wr.heap.size) : FS w w' F r cm n (k + 1) a := by
  refine ⟨?_, fun e => absurd e ha, fun b hb2 => ?_, h.bl.trans (hb.mono h.bl.size)⟩
  · rw [stl, show r.queue.getD k (0, []) = p by rw [List.getD, hp]; rfl, ← hm]
    exact hl
  · obtain ⟨h1, h2⟩ := hi b hb2
    have := h.bl.size
    exact ⟨fun hf => by have := hF b hf; omega, Or.inr (by omega), h2⟩
theorem FS.skip {w wr : World} {F : Nat → Prop} {r : Dk} {cm : Nat → Nat} {n k : Nat} {ak : Option Addr} (h : FS w wr F r cm n k ak) (hok : r.Ok) {p : Nat × Sec} (hp : r.queue[k]? = some p) (hm : cm k = 0) : FS w wr F r cm n (k + 1) ak := by
  refine ⟨?_, h.nn, h.lo, h.bl⟩
  have hk := (List.getElem?_eq_some_iff.1 hp).1
  have hi := hok.qi p (List.mem_of_getElem? hp)
  rw [stl, show r.queue.getD k (0, []) = p by rw [List.getD, hp]; rfl, hm, cutS_zero, set_getD_self (by rw [stl_len]; exact hi)]
  exact h.li
set_option maxRecDepth 100000 in
set_option maxHeartbeats 3200000 in
theorem rflush_any (r : Dk) (a0 : Option Addr) (c0 : Nat) (a1 : Option Addr) (c1 : Nat) (F : Nat → Prop) (w : World) (hF : ∀ i, F i → i < w.heap.size) (h : RM w F r a0 a1) :
    Calls Try.prog 16 #[.agg (rcs r a0 c0 a1 c1).toArray] w (RFlushRes F r w) := by
  obtain ⟨R, hR⟩ : ∃ R, R = rcs r a0 c0 a1 c1 := ⟨_, rfl⟩
  have HR := Lib.hid hR
  have HRC := Lib.hid (show Cs 4 R by rw [hR]; exact rcs_cs _ _ _ _ _)
  have HM := Lib.hid h
  have HF := Lib.hid hF
  obtain ⟨w3, hw3⟩ : ∃ w3, w3 = (w.alloc (.cells R.toArray 37)).alloc (.cells [.slice none 0 0, .slice none 0 0, .int .i64 0, .bool false].toArray 37) := ⟨_, rfl⟩
  have HB3 := Lib.hid (show RowKit.Below w.heap.size w w3 by rw [hw3]; exact ((RowKit.Below.refl _ _).alloc (Nat.le_refl _) _).alloc (by simp) _)
  have p1 : w3.heap[w.heap.size]? = some (.cells R.toArray 37) := by rw [hw3]; exact blk_in (blkn rfl)
  have p2 : w3.heap[w.heap.size + 1]? = some (.cells [.slice none 0 0, .slice none 0 0, .int .i64 0, .bool false].toArray 37) := by rw [hw3]; exact blkn (by simp)
  have HP1 := Lib.hid p1
  have HP2 := Lib.hid p2
  have HW3 := Lib.hid hw3
  have HSP := Lib.hid (fun W => spend_any r a0 c0 a1 c1 W h.ok.fz)
  rw [← hR] at HSP ⊢
  clear hR hw3 p1 p2 h hF
  go_enter Try.func16, Try.ntmps16
  go_wp2_with (first | (with_reducible refine wpList_boxA rfl _ _ rfl _ rfl ?_) | ((with_reducible refine wpList_allocA rfl isD rfl ?_); rw [← HW3.out]) | (with_reducible refine wpList_loadW rfl isD _ rfl w.heap.size R _ rfl HP1.out HRC.out ?_))
  refine (HSP.out w3).mono ?_
  rintro _ w1 ⟨fu, dd, hsp, rfl, hb1⟩
  obtain ⟨R1, hR1⟩ : ∃ R1, R1 = rcs { r with fuse := fu, dead := dd } a0 c0 a1 c1 := ⟨_, rfl⟩
  have HR1 := Lib.hid hR1
  have HRC1 := Lib.hid (show Cs 4 R1 by rw [hR1]; exact rcs_cs _ _ _ _ _)
  rw [← hR1]
  have HS1 := Lib.hid hsp
  have HB1 := Lib.hid (HB3.out.trans (hb1.mono HB3.out.size))
  obtain ⟨w8, hw8⟩ : ∃ w8, w8 = w1.alloc (.cells R1.toArray 37) := ⟨_, rfl⟩
  have HW8 := Lib.hid (show (w1.alloc (.cells [.slice none 0 0, .slice none 0 0, .int .i64 0, .bool false].toArray 37)).setRow w1.heap.size R1.toArray = w8 by rw [hw8]; exact setRow_new rfl)
  have P1 := Lib.hid (show w8.heap[w.heap.size]? = some (.cells R.toArray 37) by rw [hw8]; exact blk_in ((hb1.block _ (lt_of_heap HP1.out)).trans HP1.out))
  have P2 := Lib.hid (show w8.heap[w.heap.size + 1]? = some (.cells [.slice none 0 0, .slice none 0 0, .int .i64 0, .bool false].toArray 37) by rw [hw8]; exact blk_in ((hb1.block _ (lt_of_heap HP2.out)).trans HP2.out))
  have P4 := Lib.hid (show w8.heap[w1.heap.size]? = some (.cells R1.toArray 37) by rw [hw8]; exact blkn rfl)
  have HB8 := Lib.hid (show RowKit.Below w.heap.size w w8 by rw [hw8]; exact HB1.out.alloc HB1.out.size _)
  have HN1 := Lib.hid (show w.heap.size + 1 < w1.heap.size from Nat.lt_of_lt_of_le (lt_of_heap HP2.out) hb1.size)
  have HN8 := Lib.hid (show w8.heap.size = w1.heap.size + 1 by rw [hw8]; simp)
  have HAL := Lib.hid (heap_alloc_new w1 (.cells [.slice none 0 0, .slice none 0 0, .int .i64 0, .bool false].toArray 37))
  clear hb1 hR1 hsp hw8
  cases hl : r.live with
  | false =>
    have HLV := Lib.hid hl
    clear hl
    go_wp2_with (first | (with_reducible refine wpList_allocA rfl isD rfl ?_) | ((with_reducible refine wpList_storeW rfl isD _ _ rfl w1.heap.size R1 _ _ rfl rfl HAL.out HRC1.out rfl ?_); rw [HW8.out]) | (with_reducible refine wpList_loadW rfl isD _ rfl w1.heap.size R1 _ rfl P4.out HRC1.out ?_) | (with_reducible refine wpList_storeW rfl isD _ _ rfl (w.heap.size + 1) R1 _ _ rfl rfl P2.out HRC1.out rfl ?_))
    refine ret_cell_slot isD rfl rfl rfl (setRow_heap _ _ _ _ _ _ P2.out) HRC1.out rfl ?_
    have hfz := HM.out.ok.spend.fz
    rw [HS1.out] at hfz
    have hb := below_setRow (g := w.heap.size + 1) (cs := R1.toArray) HB8.out (by omega)
    refine ⟨a0, c0, a1, c1, ?_, ?_, hb⟩
    · unfold Dk.actE Dk.flush; rw [HLV.out, HS1.out, HR1.out]; rfl
    · unfold Dk.flush; rw [HLV.out, HS1.out]; exact (HM.out.below hb).head hfz
  | true =>
    have HLV := Lib.hid hl
    clear hl
    have q1 : w8.cell? ⟨w.heap.size, 1, none⟩ = some (.slice a1 r.queue.length c1) := by rw [cell_of_row _ _ _ _ _ _ P1.out, HR.out]; rfl
    have HZ := Lib.hid (show FS w w8 F r (fun _ => 64) w1.heap.size 0 a0 from ⟨HM.out.bs.below HB8.out, HM.out.b0, fun b hb => ⟨HM.out.o0 b hb, Or.inl (HM.out.l0 b hb), Nat.lt_of_lt_of_le (HM.out.l0 b hb) HB8.out.size⟩, HB8.out⟩)
    have hq9 := HM.out.ok.qn
    have P40 := Lib.hid (show w8.heap[w1.heap.size]? = some (.cells #[.slice a0 r.base.length c0, .slice a1 r.queue.length c1, .int .i64 fu, .bool dd] 37) by rw [P4.out, HR1.out]; rfl)
    go_wp2_with (first | (with_reducible refine wpList_allocA rfl isD rfl ?_) | ((with_reducible refine wpList_storeW rfl isD _ _ rfl w1.heap.size R1 _ _ rfl rfl HAL.out HRC1.out rfl ?_); rw [HW8.out]))
    clear q1
    go_loopw [19] (fun c19 wr => ∃ (k : Nat) (ak : Option Addr) (ck : Nat), c19 = .int .i64 (k : Int) ∧ k ≤ r.queue.length ∧ FS w wr F r (fun _ => 64) w1.heap.size k ak ∧ wr.heap[w1.heap.size]? = some (.cells #[.slice ak r.base.length ck, .slice a1 r.queue.length c1, .int .i64 fu, .bool dd] 37) ∧ wr.heap[w.heap.size + 1]? = some (.cells [.slice none 0 0, .slice none 0 0, .int .i64 0, .bool false].toArray 37)) (fun c19 _ => r.queue.length - (match c19 with | .int _ q => q | _ => 0).toNat)
    case atStart => exact ⟨0, a0, c0, rfl, Nat.zero_le _, HZ.out, P40.out, P2.out⟩
    case round =>
      obtain ⟨k, ak, ck, rfl, hk, hfs, h4, h2⟩ := hrel
      have HFS := Lib.hid hfs
      have H4 := Lib.hid h4
      have H2 := Lib.hid h2
      clear hfs h4 h2
      by_cases hlt : k < r.queue.length
      · obtain ⟨p, hp⟩ : ∃ p, r.queue[k]? = some p := ⟨_, List.getElem?_eq_getElem hlt⟩
        have HP := Lib.hid hp
        have HKL := Lib.hid hlt
        have hmem := List.mem_of_getElem? hp
        have HPI := Lib.hid (HM.out.ok.qi p hmem)
        have HPL := Lib.hid (HM.out.ok.ql p hmem)
        obtain ⟨bq, oq, ha1, hbq, hrq⟩ := item_at (HM.out.qs.below HFS.out.bl) HM.out.ok.ql hp
        obtain ⟨ci, hci⟩ : ∃ ci, ci = icell p := ⟨_, rfl⟩
        rw [← hci] at hrq
        have HCI := Lib.hid hci
        have HCC := Lib.hid (show Cs 65 ci by rw [hci]; exact cs_item HPL.out)
        have HRQ := Lib.hid hrq
        have HSN := Lib.hid (show (wr.alloc (.cells zi.toArray 78)).setRow wr.heap.size ci.toArray = wr.alloc (.cells ci.toArray 78) from setRow_new rfl)
        have HA7 := Lib.hid (heap_alloc_new wr (.cells ci.toArray 78))
        have HA7z := Lib.hid (heap_alloc_new wr (.cells zi.toArray 78))
        have hb7 : RowKit.Below wr.heap.size wr (wr.alloc (.cells ci.toArray 78)) := (RowKit.Below.refl _ _).alloc (Nat.le_refl _) _
        have H47 := Lib.hid ((hb7.block _ (lt_of_heap H4.out)).trans H4.out)
        have H27 := Lib.hid ((hb7.block _ (lt_of_heap H2.out)).trans H2.out)
        have HF7 := Lib.hid (HFS.out.below hb7)
        have q4 : (wr.alloc (.cells ci.toArray 78)).cell? ⟨w1.heap.size, 0, none⟩ = some (.slice ak r.base.length ck) := by rw [cell_of_row _ _ _ _ _ _ H47.out]; rfl
        have hlen : ∀ s ∈ stl (fun _ => 64) r.queue r.base k, s.length = 64 := stl_ok (fun _ => Nat.le_refl _) HM.out.ok.bl HM.out.ok.qi HM.out.ok.ql k hk
        have HLAND := Lib.hid (land_any ak ck (stl (fun _ => 64) r.queue r.base k) p 64 (wr.alloc (.cells ci.toArray 78)) HF7.out.li (fun e => by rw [stl_len]; exact HF7.out.nn e) hlen (by rw [stl_len]; exact HM.out.ok.sz) (by rw [stl_len]; exact HPI.out) HPL.out)
        rw [stl_len, ← hci] at HLAND
        have HN7 := Lib.hid (show w1.heap.size < (wr.alloc (.cells ci.toArray 78)).heap.size from lt_of_heap H47.out)
        subst ha1
        clear hp hmem hbq hci hrq hb7 hlen
        go_wp2_with (first | (with_reducible refine wpList_idx elI rfl _ _ rfl k rfl rfl rfl HKL.out ?_) | (with_reducible refine wpList_loadM rfl isI _ rfl bq (oq + k * 65) ci rfl HRQ.out HCC.out ?_) | (with_reducible refine wpList_allocA rfl isI rfl ?_) | ((with_reducible refine wpList_storeW rfl isI _ _ rfl wr.heap.size ci zi.toArray _ rfl rfl HA7z.out HCC.out (by simp [zi_len]) ?_); rw [HSN.out]) | (with_reducible refine wpList_loadW rfl isI _ rfl wr.heap.size ci _ rfl HA7.out HCC.out ?_))
        refine HLAND.out.mono ?_
        rintro _ w9 ⟨a, c, rfl, hl9, hne, hbl, hb9⟩
        rw [stl_len]
        have H49 := Lib.hid ((hb9.block _ (lt_of_heap H47.out)).trans H47.out)
        have H29 := Lib.hid ((hb9.block _ (lt_of_heap H27.out)).trans H27.out)
        have HF9 := Lib.hid (HF7.out.next HP.out (m := 64) rfl hl9 hne hbl hb9 HF.out HN7.out)
        have q9 : w9.cell? ⟨w1.heap.size, 0, none⟩ = some (.slice ak r.base.length ck) := by rw [cell_of_row _ _ _ _ _ _ H49.out]; rfl
        have f9 := frozen_of_row _ _ 0 _ _ H49.out
        clear q4 hl9 hne hbl hb9 HLAND
        go_wp2_with fail
        go_roundw
        case rel => exact ⟨k + 1, a, c, by go_num, by have := HKL.out; omega, HF9.out.set _ (by have := HN1.out; show w.heap.size ≤ w1.heap.size; omega) (Nat.le_refl _), by rw [heap_setCell_same _ _ _ _ _ _ H49.out]; rfl, (heap_setCell_other _ _ _ _ (by have := HN1.out; show w.heap.size + 1 ≠ w1.heap.size; omega)).trans H29.out⟩
        case measure => simp; have := HKL.out; omega
      · obtain rfl : k = r.queue.length := by omega
        have q41 : wr.cell? ⟨w1.heap.size, 1, none⟩ = some (.slice a1 r.queue.length c1) := by rw [cell_of_row _ _ _ _ _ _ H4.out]; rfl
        have f41 := frozen_of_row _ _ 1 _ _ H4.out
        obtain ⟨R9, hR9⟩ : ∃ R9, R9 = [Value.slice ak r.base.length ck, .slice none 0 0, .int .i64 fu, .bool dd] := ⟨_, rfl⟩
        have H49 := Lib.hid (show (wr.setCell ⟨w1.heap.size, 1, none⟩ (.slice none 0 0)).heap[w1.heap.size]? = some (.cells R9.toArray 37) by rw [heap_setCell_same _ _ _ _ _ _ H4.out, hR9]; rfl)
        have H29 := Lib.hid (show (wr.setCell ⟨w1.heap.size, 1, none⟩ (.slice none 0 0)).heap[w.heap.size + 1]? = some _ from (heap_setCell_other _ _ _ _ (by have := HN1.out; show w.heap.size + 1 ≠ w1.heap.size; omega)).trans H2.out)
        have HFL := Lib.hid (show r.flush = { base := stl (fun _ => 64) r.queue r.base r.queue.length, queue := [], fuse := fu, dead := dd } by unfold Dk.flush; rw [HLV.out, HS1.out]; rfl)
        have HR9 := Lib.hid (show R9 = rcs r.flush ak ck none 0 by rw [HFL.out, hR9]; unfold rcs; simp only [stl_len]; rfl)
        have HRC9 := Lib.hid (show Cs 4 R9 by rw [HR9.out]; exact rcs_cs _ _ _ _ _)
        clear hR9 hk hlt hq9
        go_wp2_with (first | (with_reducible refine wpList_loadW rfl isD _ rfl w1.heap.size R9 _ rfl H49.out HRC9.out ?_) | (with_reducible refine wpList_storeW rfl isD _ _ rfl (w.heap.size + 1) R9 _ _ rfl rfl H29.out HRC9.out rfl ?_))
        refine ret_cell_slot isD rfl rfl rfl (setRow_heap _ _ _ _ _ _ H29.out) HRC9.out rfl ?_
        have hfs := (HFS.out.set (p := ⟨w1.heap.size, 1, none⟩) (.slice none 0 0) (by have := HN1.out; show w.heap.size ≤ w1.heap.size; omega) (Nat.le_refl _)).row (g := w.heap.size + 1) R9.toArray (by omega) (by have := HN1.out; omega)
        refine ⟨ak, ck, none, 0, ?_, ⟨HM.out.ok.flush, ?_, ?_, ?_, ?_, ?_, ?_, ?_, ?_⟩, hfs.bl⟩
        · unfold Dk.actE; rw [HLV.out, HR9.out]; rfl
        · rw [HFL.out]; exact hfs.li
        · rw [HFL.out]; intro e; show (stl _ _ _ _).length = 0; rw [stl_len]; exact hfs.nn e
        · rw [HFL.out]; exact Or.inl rfl
        · rw [HFL.out]; exact fun _ => rfl
        · exact fun b hb => (hfs.lo b hb).1
        · rintro b ⟨q, e, rfl⟩; cases e
        · exact fun b hb => (hfs.lo b hb).2.2
        · rintro b ⟨q, e, rfl⟩; cases e
end Go.Proofs.Ytoibonalgmmkbaa
