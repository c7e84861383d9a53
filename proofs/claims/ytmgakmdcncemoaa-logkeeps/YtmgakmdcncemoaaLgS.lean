/- falseworklaw10: great. -/
import Derived.Test.YtmgakmdcncemoaaLgP
import Derived.Test.YtmgakmdcncemoaaSmS
namespace Go.Proofs.Ytmgakmdcncemoaa
open Go.RowKit Go.Lib

def Small5 (l : List Ac) : Prop := l.length ≤ 40 ∧ ∀ x ∈ l, x.bn ≤ 5000 ∧ x.kn ≤ 400
theorem AcAt.new {w : World} {b : Nat} {x : Ac} {c : List Value} (hc : c = acs x) (h : w.heap[b]? = some (.cells c.toArray 39)) : AcAt w b x := by
  subst hc
  refine ⟨?_, ?_, ?_, ?_, ?_, lt_of_heap h⟩ <;> rw [cell_of_row _ _ _ _ _ _ h] <;> rfl
set_option maxRecDepth 100000 in
set_option maxHeartbeats 3200000 in
theorem great_any (l : List Ac) (a : Option Addr) (len cap : Nat) (w : World) (hl : CameA w a len l) :
    Calls Try.prog 11 #[.slice a len cap] w fun e w' => ∃ b, e = .returned (.bool b) ∧ (b = false → Small5 l) ∧ RowKit.Below w.heap.size w w' := by
  obtain rfl := hl.ln
  have HL := Lib.hid hl
  obtain ⟨M, hM⟩ : ∃ M, M = l.length := ⟨_, rfl⟩
  have HM := Lib.hid hM
  rw [← hM]
  clear hl hM
  by_cases h40 : 40 < M
  · have d0 : decide ((40 : Int) < (M : Int)) = true := by simp; omega
    clear h40
    go_enter Try.func11, Try.ntmps11
    go_wp2
    go_ret
    exact ⟨true, rfl, nofun, RowKit.Below.refl _ _⟩
  · have d0 : decide ((40 : Int) < (M : Int)) = false := by simp; omega
    have hM40 : M ≤ 40 := by omega
    clear h40
    go_enter Try.func11, Try.ntmps11
    go_wp2
    go_loopw [10] (fun c10 wr => ∃ k : Nat, c10 = .int .i64 (k : Int) ∧ k ≤ M ∧ (∀ x ∈ l.take k, x.bn ≤ 5000 ∧ x.kn ≤ 400) ∧ RowKit.Below w.heap.size w wr) (fun c10 _ => M - (match c10 with | .int _ q => q | _ => 0).toNat)
    case atStart => exact ⟨0, rfl, Nat.zero_le _, (fun x hx => by simp at hx), RowKit.Below.refl _ _⟩
    case round =>
      clear d0
      obtain ⟨k, rfl, hk, hall, hbl⟩ := hrel
      have HALL := Lib.hid hall
      have HBL := Lib.hid hbl
      clear hall hbl
      by_cases hlt : k < M
      · obtain ⟨x, hx⟩ : ∃ x, l[k]? = some x := ⟨_, List.getElem?_eq_getElem (by rw [← HM.out]; exact hlt)⟩
        have HXX := Lib.hid hx
        obtain ⟨bb, ob, ha1, _, hrb⟩ := (HL.out.li.below HBL.out).get (f := acs) (n := 5) (fun _ _ => rfl) (by decide) hx
        obtain ⟨c, hc⟩ : ∃ c, c = acs x := ⟨_, rfl⟩
        rw [← hc] at hrb
        have HRB := Lib.hid hrb
        have HCC := Lib.hid (show Cs 5 c by rw [hc]; exact acs_cs x)
        obtain ⟨w2, hw2⟩ : ∃ w2, w2 = wr.alloc (.cells c.toArray 39) := ⟨_, rfl⟩
        have HW2 := Lib.hid (show (wr.alloc (.cells zA.toArray 39)).setRow wr.heap.size c.toArray = w2 by rw [hw2]; exact setRow_new rfl)
        have HAL := Lib.hid (heap_alloc_new wr (.cells zA.toArray 39))
        have hb2 : RowKit.Below wr.heap.size wr w2 := by rw [hw2]; exact (RowKit.Below.refl _ _).alloc (Nat.le_refl _) _
        have HB2 := Lib.hid (HBL.out.trans (hb2.mono HBL.out.size))
        have HAC := AcAt.new hc (show w2.heap[wr.heap.size]? = some (.cells c.toArray 39) by rw [hw2]; exact blkn rfl)
        have c3 := HAC.c3
        have c4 := HAC.c4
        obtain ⟨xb, hxb⟩ : ∃ n, n = x.bn := ⟨_, rfl⟩
        obtain ⟨xk, hxk⟩ : ∃ n, n = x.kn := ⟨_, rfl⟩
        rw [← hxb] at c3
        rw [← hxk] at c4
        have HXB := Lib.hid hxb
        have HXK := Lib.hid hxk
        subst ha1
        clear hx hrb hc hw2 hb2 HAC hxb hxk
        have hcs : 5000 < xb ∨ (xb ≤ 5000 ∧ 400 < xk) ∨ (xb ≤ 5000 ∧ xk ≤ 400) := by omega
        rcases hcs with h | ⟨h, h2⟩ | ⟨h, h2⟩
        · have e1 : decide ((5000 : Int) < (xb : Int)) = true := by simp; omega
          clear h
          go_wp2_with (first | ((with_reducible refine wpList_storeW rfl isAc _ _ rfl wr.heap.size c zA.toArray _ rfl rfl HAL.out HCC.out rfl ?_); rw [HW2.out]) | (with_reducible refine wpList_allocA rfl isAc rfl ?_) | (with_reducible refine wpList_idx elAc rfl _ _ rfl k rfl rfl rfl hlt ?_) | (with_reducible refine wpList_loadM rfl isAc _ rfl bb (ob + k * 5) c rfl HRB.out HCC.out ?_))
          try rw [Exit.noGoto_ret]
          go_ret
          exact ⟨true, rfl, nofun, HB2.out⟩
        · have e1 : decide ((5000 : Int) < (xb : Int)) = false := by simp; omega
          have e2 : decide ((400 : Int) < (xk : Int)) = true := by simp; omega
          clear h h2
          go_wp2_with (first | ((with_reducible refine wpList_storeW rfl isAc _ _ rfl wr.heap.size c zA.toArray _ rfl rfl HAL.out HCC.out rfl ?_); rw [HW2.out]) | (with_reducible refine wpList_allocA rfl isAc rfl ?_) | (with_reducible refine wpList_idx elAc rfl _ _ rfl k rfl rfl rfl hlt ?_) | (with_reducible refine wpList_loadM rfl isAc _ rfl bb (ob + k * 5) c rfl HRB.out HCC.out ?_))
          try rw [Exit.noGoto_ret]
          go_ret
          exact ⟨true, rfl, nofun, HB2.out⟩
        · have e1 : decide ((5000 : Int) < (xb : Int)) = false := by simp; omega
          have e2 : decide ((400 : Int) < (xk : Int)) = false := by simp; omega
          have HNX := Lib.hid (show ∀ y ∈ l.take (k + 1), y.bn ≤ 5000 ∧ y.kn ≤ 400 from fun y hy => by
            rw [List.take_add_one, HXX.out] at hy
            rcases List.mem_append.1 hy with hy | hy
            · exact HALL.out y hy
            · have : y = x := by simpa using hy
              rw [this, ← HXB.out, ← HXK.out]; exact ⟨h, h2⟩)
          clear h h2
          go_wp2_with (first | ((with_reducible refine wpList_storeW rfl isAc _ _ rfl wr.heap.size c zA.toArray _ rfl rfl HAL.out HCC.out rfl ?_); rw [HW2.out]) | (with_reducible refine wpList_allocA rfl isAc rfl ?_) | (with_reducible refine wpList_idx elAc rfl _ _ rfl k rfl rfl rfl hlt ?_) | (with_reducible refine wpList_loadM rfl isAc _ rfl bb (ob + k * 5) c rfl HRB.out HCC.out ?_))
          go_roundw
          case rel => exact ⟨k + 1, by go_num, by omega, HNX.out, HB2.out⟩
          case measure => simp; omega
      · obtain rfl : k = M := by omega
        have HSM := Lib.hid (show Small5 l from ⟨by rw [← HM.out]; exact hM40, fun x hx => HALL.out x (by rw [HM.out, List.take_length]; exact hx)⟩)
        clear hk hlt
        go_wp2
        go_ret
        exact ⟨false, rfl, fun _ => HSM.out, HBL.out⟩
end Go.Proofs.Ytmgakmdcncemoaa
