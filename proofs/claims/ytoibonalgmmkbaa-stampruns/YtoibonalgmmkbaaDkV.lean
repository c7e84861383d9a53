/- falseworkref08.Get. -/
import Derived.Test.YtoibonalgmmkbaaDkU
namespace Go.Proofs.Ytoibonalgmmkbaa
open Go.RowKit Go.Lib

/-- what a sector is behind the first k of the queue -/
def outK (r : Dk) (x : Int) (k : Nat) : Sec := ((ofQ (r.queue.take k) x).getLast?).getD (r.base.getD x.toNat [])
theorem outK_same {r : Dk} {k : Nat} {p : Nat × Sec} (hp : r.queue[k]? = some p) : outK r (p.1 : Int) (k + 1) = p.2 := by
  unfold outK
  have hk := (List.getElem?_eq_some_iff.1 hp).1
  rw [List.take_succ_eq_append_getElem hk, ofQ_app]
  have : r.queue[k] = p := by rw [List.getElem?_eq_getElem hk] at hp; exact Option.some.inj hp
  rw [this, ofQ_one_same]
  simp
theorem outK_other {r : Dk} {k : Nat} {p : Nat × Sec} {x : Int} (hp : r.queue[k]? = some p) (hx : x ≠ (p.1 : Int)) : outK r x (k + 1) = outK r x k := by
  unfold outK
  have hk := (List.getElem?_eq_some_iff.1 hp).1
  rw [List.take_succ_eq_append_getElem hk, ofQ_app]
  have : r.queue[k] = p := by rw [List.getElem?_eq_getElem hk] at hp; exact Option.some.inj hp
  rw [this, ofQ_one_other _ hx, List.append_nil]
theorem outK_len {r : Dk} (h : r.Ok) {x : Int} (hx : 0 ≤ x ∧ x < r.base.length) : ∀ k, k ≤ r.queue.length → (outK r x k).length = 64
  | 0, _ => h.bl _ (getD_mem (by omega))
  | k + 1, hk => by
    obtain ⟨p, hp⟩ : ∃ p, r.queue[k]? = some p := ⟨_, List.getElem?_eq_getElem (by omega)⟩
    by_cases e : x = (p.1 : Int)
    · subst e; rw [outK_same hp]; exact h.ql p (List.mem_of_getElem? hp)
    · rw [outK_other hp e]; exact outK_len h hx k (by omega)
theorem outK_all {r : Dk} {x : Int} (hx : 0 ≤ x ∧ x < r.base.length) : outK r x r.queue.length = r.at_ x := by
  unfold outK Dk.at_
  rw [if_pos hx, List.take_length]
set_option maxRecDepth 100000 in
set_option maxHeartbeats 3200000 in
theorem rget_any (r : Dk) (a0 : Option Addr) (c0 : Nat) (a1 : Option Addr) (c1 : Nat) (F : Nat → Prop) (x : Int) (w : World) (h : RM w F r a0 a1) :
    Calls Try.prog 42 #[.agg (rcs r a0 c0 a1 c1).toArray, .int .i64 x] w (GetRes r x w) := by
  obtain ⟨R, hR⟩ : ∃ R, R = rcs r a0 c0 a1 c1 := ⟨_, rfl⟩
  have HM := Lib.hid h
  obtain ⟨w3, hw3⟩ : ∃ w3, w3 = (w.alloc (.cells R.toArray 37)).alloc (.cells zc.toArray 59) := ⟨_, rfl⟩
  have HB3 := Lib.hid (show RowKit.Below w.heap.size w w3 by rw [hw3]; exact ((RowKit.Below.refl _ _).alloc (Nat.le_refl _) _).alloc (by simp) _)
  have p1 : w3.heap[w.heap.size]? = some (.cells R.toArray 37) := by rw [hw3]; exact blk_in (blkn rfl)
  have p2 : w3.heap[w.heap.size + 1]? = some (.cells zc.toArray 59) := by rw [hw3]; exact blkn (by simp)
  have q0 : w3.cell? ⟨w.heap.size, 0, none⟩ = some (.slice a0 r.base.length c0) := by rw [cell_of_row _ _ _ _ _ _ p1, hR]; rfl
  have HQ1 := Lib.hid (show w3.cell? ⟨w.heap.size, 1, none⟩ = some (.slice a1 r.queue.length c1) by rw [cell_of_row _ _ _ _ _ _ p1, hR]; rfl)
  have HP2 := Lib.hid p2
  have HW3 := Lib.hid hw3
  have HN3 := Lib.hid (show w3.heap.size = w.heap.size + 2 by rw [hw3]; simp)
  have hq9 := h.ok.qn
  rw [← hR]
  have hcs : (x < 0 ∨ (r.base.length : Int) ≤ x) ∨ (0 ≤ x ∧ x < (r.base.length : Int)) := by omega
  rcases hcs with hbad | ⟨hx0, hxN⟩
  · have HRES := Lib.hid (show ∀ W, RowKit.Below w.heap.size w W → GetRes r x w (.returned (.tuple #[.agg zc.toArray, .int .i64 81])) W from fun W hb => by
      have h1 : r.has x = false := by unfold Dk.has; simp; omega
      have h2 : r.at_ x = zsec := by unfold Dk.at_; rw [if_neg (by omega)]
      unfold GetRes
      rw [h1, h2]
      exact ⟨rfl, hb⟩)
    clear hR hw3 p1 p2 h hq9
    rcases hbad with hbad | hbad
    all_goals
      first | (have d0 : decide (x < 0) = true := (by simpa using hbad); clear hbad) | (have d0 : decide (x < 0) = false := (by simp; omega); have d1 : decide ((r.base.length : Int) ≤ x) = true := (by simpa using hbad); clear hbad)
      go_enter Try.func42, Try.ntmps42
      go_wp2_with (first | (with_reducible refine wpList_boxA rfl _ _ rfl _ rfl ?_) | ((with_reducible refine wpList_allocA rfl isS rfl ?_); rw [← HW3.out]) | (with_reducible refine wpList_buildZ rfl rfl ?_) | (with_reducible refine wpList_storeW rfl isS _ _ rfl (w.heap.size + 1) zc zc.toArray _ rfl rfl HP2.out cs_zc (by simp [zc_len]) ?_))
      refine ret_cell_slot isS rfl rfl rfl (setRow_heap _ _ _ _ _ _ HP2.out) cs_zc rfl ?_
      exact HRES.out _ (below_setRow HB3.out (by omega))
  · have HX := Lib.hid (And.intro hx0 hxN)
    have d0 : decide (x < 0) = false := by simp; omega
    have d1 : decide ((r.base.length : Int) ≤ x) = false := by simp; omega
    have HXN := Lib.hid (show x = ((x.toNat : Nat) : Int) by omega)
    have HXL := Lib.hid (show x.toNat < r.base.length by omega)
    obtain ⟨bb, ob, ha0, hbb, hrb⟩ := (h.bs.below HB3.out).get (f := bcells) (n := 64) (i := x.toNat) (x := r.base.getD x.toNat []) (fun s hs => cells_len s (h.ok.bl s hs)) (by decide) (by rw [List.getD, List.getElem?_eq_getElem (by omega)]; rfl)
    obtain ⟨c, hc⟩ : ∃ c, c = bcells (outK r x 0) := ⟨_, rfl⟩
    have hc2 : c = bcells (r.base.getD x.toNat []) := hc
    rw [← hc2] at hrb
    have HRB := Lib.hid hrb
    have HC := Lib.hid hc
    have HCC := Lib.hid (show Cs 64 c by rw [hc]; exact cs_sec (outK_len h.ok ⟨hx0, hxN⟩ 0 (Nat.zero_le _)))
    obtain ⟨w6, hw6⟩ : ∃ w6, w6 = w3.alloc (.cells c.toArray 59) := ⟨_, rfl⟩
    have HW6 := Lib.hid (show (w3.alloc (.cells zc.toArray 59)).setRow w3.heap.size c.toArray = w6 by rw [hw6]; exact setRow_new rfl)
    have HAL := Lib.hid (heap_alloc_new w3 (.cells zc.toArray 59))
    have hb36 : RowKit.Below w3.heap.size w3 w6 := by rw [hw6]; exact (RowKit.Below.refl _ _).alloc (Nat.le_refl _) _
    have HB6 := Lib.hid (HB3.out.trans (hb36.mono HB3.out.size))
    have q1 : w6.cell? ⟨w.heap.size, 1, none⟩ = some (.slice a1 r.queue.length c1) := cell_bl HQ1.out hb36
    have HP26 := Lib.hid ((hb36.block _ (lt_of_heap HP2.out)).trans HP2.out)
    have HP6 := Lib.hid (show w6.heap[w3.heap.size]? = some (.cells c.toArray 59) by rw [hw6]; exact blkn rfl)
    have hz6 : w6.heap[w3.heap.size]? = some (.cells (bcells (outK r x 0)).toArray 59) := by rw [HP6.out, HC.out]
    have HZ6 := Lib.hid hz6
    subst ha0
    clear hR hw3 p1 p2 h hbb hc hc2 hrb hw6 hb36 hz6 hx0 hxN
    go_enter Try.func42, Try.ntmps42
    go_wp2_with (first | (with_reducible refine wpList_boxA rfl _ _ rfl _ rfl ?_) | ((with_reducible refine wpList_storeW rfl isS _ _ rfl w3.heap.size c zc.toArray _ rfl rfl HAL.out HCC.out (by simp [zc_len]) ?_); rw [HW6.out]) | ((with_reducible refine wpList_allocA rfl isS rfl ?_); (try rw [← HW3.out])) | (with_reducible refine wpList_idx elS rfl _ _ rfl x.toNat rfl rfl HXN.out HXL.out ?_) | (with_reducible refine wpList_loadM rfl isS _ rfl bb (ob + x.toNat * 64) c rfl HRB.out HCC.out ?_))
    clear q0 q1
    go_loopw [27] (fun c27 wr => ∃ k : Nat, c27 = .int .i64 (k : Int) ∧ k ≤ r.queue.length ∧ RowKit.Below w.heap.size w wr ∧ wr.heap[w3.heap.size]? = some (.cells (bcells (outK r x k)).toArray 59) ∧ wr.heap[w.heap.size + 1]? = some (.cells zc.toArray 59)) (fun c27 _ => r.queue.length - (match c27 with | .int _ q => q | _ => 0).toNat)
    case atStart => exact ⟨0, rfl, Nat.zero_le _, HB6.out, HZ6.out, HP26.out⟩
    case round =>
      obtain ⟨k, rfl, hk, hbw, h6, h2⟩ := hrel
      have HBW := Lib.hid hbw
      have H6 := Lib.hid h6
      have H2 := Lib.hid h2
      clear hbw h6 h2
      by_cases hlt : k < r.queue.length
      · obtain ⟨p, hp⟩ : ∃ p, r.queue[k]? = some p := ⟨_, List.getElem?_eq_getElem hlt⟩
        have HP := Lib.hid hp
        have HKL := Lib.hid hlt
        have hmem := List.mem_of_getElem? hp
        have HPL := Lib.hid (HM.out.ok.ql p hmem)
        obtain ⟨bq, oq, ha1, hbq, hrq⟩ := item_at (HM.out.qs.below HBW.out) HM.out.ok.ql hp
        obtain ⟨ci, hci⟩ : ∃ ci, ci = icell p := ⟨_, rfl⟩
        rw [← hci] at hrq
        have HCI := Lib.hid (show Cs 65 ci by rw [hci]; exact cs_item HPL.out)
        have HRQ := Lib.hid hrq
        have HA7z := Lib.hid (heap_alloc_new wr (.cells zi.toArray 78))
        have HSN := Lib.hid (show (wr.alloc (.cells zi.toArray 78)).setRow wr.heap.size ci.toArray = wr.alloc (.cells ci.toArray 78) from setRow_new rfl)
        obtain ⟨w7, hw7⟩ : ∃ w7, w7 = wr.alloc (.cells ci.toArray 78) := ⟨_, rfl⟩
        have HA7 := Lib.hid (show w7.heap[wr.heap.size]? = some (.cells ci.toArray 78) by rw [hw7]; exact heap_alloc_new wr _)
        have hb7 : RowKit.Below wr.heap.size wr w7 := by rw [hw7]; exact (RowKit.Below.refl _ _).alloc (Nat.le_refl _) _
        rw [← hw7] at HSN
        have HB7 := Lib.hid (HBW.out.trans (hb7.mono HBW.out.size))
        have H67 := Lib.hid ((hb7.block _ (lt_of_heap H6.out)).trans H6.out)
        have H27 := Lib.hid ((hb7.block _ (lt_of_heap H2.out)).trans H2.out)
        have e64 : w7.cell? ⟨wr.heap.size, 64, none⟩ = some (.int .i64 (p.1 : Int)) := by rw [cell_of_row _ _ _ _ _ _ HA7.out, hci]; simp [icell, cells_len _ HPL.out]
        have HRS := Lib.hid (show w7.rangeAt wr.heap.size 0 (bcells p.2) from fun j v hv => by
          have := range_row HA7.out j v (by rw [hci]; unfold icell; rw [List.getElem?_append_left (List.getElem?_eq_some_iff.1 hv).1]; exact hv)
          exact this)
        have HCB := Lib.hid (cs_sec HPL.out)
        have HOL := Lib.hid (cs_sec (outK_len HM.out.ok HX.out k hk))
        subst ha1
        clear hp hmem hbq hci hrq hb7 hw7
        by_cases he : (p.1 : Int) = x
        · have b0 : ((p.1 : Int) == x) = true := by simpa using he
          have HOS := Lib.hid (show outK r x (k + 1) = p.2 by rw [← he]; exact outK_same HP.out)
          clear he
          go_wp2_with (first | (with_reducible refine wpList_idx elI rfl _ _ rfl k rfl rfl rfl HKL.out ?_) | (with_reducible refine wpList_loadM rfl isI _ rfl bq (oq + k * 65) ci rfl HRQ.out HCI.out ?_) | (with_reducible refine wpList_allocA rfl isI rfl ?_) | ((with_reducible refine wpList_storeW rfl isI _ _ rfl wr.heap.size ci zi.toArray _ rfl rfl HA7z.out HCI.out (by simp [zi_len]) ?_); rw [HSN.out]) | (with_reducible refine wpList_loadM rfl isS _ rfl wr.heap.size 0 (bcells p.2) rfl HRS.out HCB.out ?_) | (with_reducible refine wpList_storeW rfl isS _ _ rfl w3.heap.size (bcells p.2) _ _ rfl rfl H67.out HCB.out (by simp [HOL.out.len]) ?_))
          go_roundw
          case rel => exact ⟨k + 1, by go_num, by have := HKL.out; omega, below_setRow HB7.out (by have := HB3.out.size; omega), by rw [HOS.out]; exact setRow_heap _ _ _ _ _ _ H67.out, (setRow_other _ _ _ _ (by have := HN3.out; omega)).trans H27.out⟩
          case measure => simp; have := HKL.out; omega
        · have b0 : ((p.1 : Int) == x) = false := by simpa using he
          have HOS := Lib.hid (show outK r x (k + 1) = outK r x k from outK_other HP.out (fun e => he e.symm))
          clear he
          go_wp2_with (first | (with_reducible refine wpList_idx elI rfl _ _ rfl k rfl rfl rfl HKL.out ?_) | (with_reducible refine wpList_loadM rfl isI _ rfl bq (oq + k * 65) ci rfl HRQ.out HCI.out ?_) | (with_reducible refine wpList_allocA rfl isI rfl ?_) | ((with_reducible refine wpList_storeW rfl isI _ _ rfl wr.heap.size ci zi.toArray _ rfl rfl HA7z.out HCI.out (by simp [zi_len]) ?_); rw [HSN.out]))
          go_roundw
          case rel => exact ⟨k + 1, by go_num, by have := HKL.out; omega, HB7.out, by rw [HOS.out]; exact H67.out, H27.out⟩
          case measure => simp; have := HKL.out; omega
      · obtain rfl : k = r.queue.length := by omega
        obtain ⟨co, hco⟩ : ∃ co, co = bcells (outK r x r.queue.length) := ⟨_, rfl⟩
        have hoc : Cs 64 co := by rw [hco]; exact cs_sec (outK_len HM.out.ok HX.out _ (Nat.le_refl _))
        have HCO := Lib.hid hoc
        have H66 := Lib.hid (show wr.heap[w3.heap.size]? = some (.cells co.toArray 59) by rw [H6.out, hco])
        have HFIN := Lib.hid (show ∀ W, RowKit.Below w.heap.size w W → GetRes r x w (.returned (.tuple #[.agg co.toArray, .int .i64 0])) W from fun W hb => by
          have h1 : r.has x = true := Dk.has_iff.2 HX.out
          unfold GetRes
          rw [h1, hco, outK_all HX.out]
          exact ⟨rfl, hb⟩)
        clear hco hoc hlt hk hq9
        go_wp2_with (first | (with_reducible refine wpList_loadW rfl isS _ rfl w3.heap.size co _ rfl H66.out HCO.out ?_) | (with_reducible refine wpList_storeW rfl isS _ _ rfl (w.heap.size + 1) co zc.toArray _ rfl rfl H2.out HCO.out (by simp [zc_len]) ?_))
        refine ret_cell_slot isS rfl rfl rfl (setRow_heap _ _ _ _ _ _ H2.out) HCO.out rfl ?_
        exact HFIN.out _ (below_setRow HBW.out (by omega))
end Go.Proofs.Ytoibonalgmmkbaa
