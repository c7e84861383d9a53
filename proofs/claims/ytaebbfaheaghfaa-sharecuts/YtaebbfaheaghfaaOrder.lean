/- share.greatestFirst. -/
import Derived.Test.YtaebbfaheaghfaaIntsMem
import Derived.Deep.LoopGhost
import Derived.Handy
namespace Go.Proofs.Ytaebbfaheaghfaa
open Go.RowKit Go.Shelf Go.Sort

/-- what greatestFirst answers: the places, each where its rank says -/
def Ordered {n : Nat} (r : Fin (n + 1) → Int) (m : Nat) (w : World) (e : Ending) (w' : World) : Prop :=
  ∃ (pb : Nat) (d : Array (Fin (n + 1))), e = .returned (.slice (some ⟨pb, 0, none⟩) m m) ∧ Below w.heap.size w w' ∧ w.heap.size ≤ pb ∧ pb < w'.heap.size ∧ d.size = m ∧ Holds encP w' pb 0 d ∧ PermIn 0 (n + 1) (places n) d ∧ SortedIn (ahd r) 0 (n + 1) d

theorem size_places (n : Nat) : (places n).size = n + 1 := by simp [places]
theorem get_places (n j : Nat) (h : j < n + 1) : (places n)[j]!.val = j := by
  rw [getElem!_pos _ _ (by rw [size_places]; exact h)]
  simp [places]

set_option maxHeartbeats 4000000 in
theorem order_small {n : Nat} {r : Fin (n + 1) → Int} (rb m : Nat) (w : World) (hm : m = n + 1) (h20 : m < 20) (hr : ∀ k : Fin (n + 1), w.cell? ⟨rb, k.val, none⟩ = some (.int .i64 (r k))) (hl : rb < w.heap.size) :
    Calls Try.prog 42 #[.slice (some ⟨rb, 0, none⟩) m m] w (Ordered r m w) := by
  have HM := Lib.hid hm
  have HR := Lib.hid hr
  clear hm hr
  have hmk := mk_int m (by omega)
  go_enter Try.func42, Try.ntmps42
  go_wp2
  clear hmk
  go_loopg [10] m (fun g c10 wr => ∃ i : Nat, c10 = .int .i64 i ∧ i + g = m ∧ Hid (Below w.heap.size w wr ∧ w.heap.size + 1 < wr.heap.size ∧ wr.cell? ⟨w.heap.size, 0, none⟩ = some (.slice (some ⟨rb, 0, none⟩) m m) ∧ IntsAt wr (w.heap.size + 1) m (fun j => if j < i then (j : Int) else 0)))
  case atStart =>
    refine ⟨0, rfl, by omega, ?_⟩
    show _ ∧ _
    refine ⟨by go_grown, by simp, by simp, ?_⟩
    have h := IntsAt.made (w.alloc (.cells #[.slice (some ⟨rb, 0, none⟩) m m] 40)) m 3
    rw [show (w.alloc (.cells #[.slice (some ⟨rb, 0, none⟩) m m] 40)).heap.size = w.heap.size + 1 by simp] at h
    exact h.congr (fun j hj => by rw [if_neg (by omega)])
  case round =>
    obtain ⟨i, rfl, hi, H⟩ := hrel
    by_cases hlt : i < m
    · have hlz : (i : Int) < (m : Int) := by omega
      have hn := H.out.2.1
      have c1 := H.out.2.2.2.c i hlt
      have f1 := H.out.2.2.2.fz i hlt
      have b1 : (0 : Int) ≤ (i : Int) := by omega
      go_wp2
      go_roundg (gk - 1)
      case measure => omega
      case rel =>
        obtain ⟨hb, _, hh, hI⟩ := H.out
        refine ⟨i + 1, by go_num, by omega, ?_⟩
        show _ ∧ _
        refine ⟨hb.setCell (by simp) _, by simp; omega, ?_, ?_⟩
        · rw [World.cell?_setCell_other _ _ _ _ (fun e' => by injection e'; omega)]; exact hh
        · exact (hI.set i hlt i).congr (fun j hj => by
            by_cases e : j = i
            · subst e; simp
            · by_cases e2 : j < i
              · rw [if_neg e, if_pos e2, if_pos (by omega)]
              · rw [if_neg e, if_neg e2, if_neg (by omega)])
    · have hlz : ¬ (i : Int) < (m : Int) := by omega
      obtain rfl : i = m := by omega
      obtain ⟨hb, hn, hh, hI⟩ := H.out
      clear H
      have hm := HM.out
      have hd : (places n).size = i := by rw [size_places]; omega
      have hH : Holds encP wr (w.heap.size + 1) 0 (places n) := fun j hj => by
        rw [hd] at hj
        refine ⟨?_, ?_⟩
        · rw [Nat.zero_add, hI.c j hj, if_pos hj]
          have := get_places n j (by omega)
          simp only [encP]
          rw [this]
        · rw [Nat.zero_add]; exact hI.fz j hj
      have R : Row1 encP wr (w.heap.size + 1) 0 (places n) := ⟨fun _ => rfl, hH, hn⟩
      have hcm := cmp_lays (r := r) (w0 := wr) (bb := w.heap.size) (rb := rb) (blk := w.heap.size + 1) (places n).size (by omega) (by omega) (by omega) (by omega) (by rw [hh, hm]) (fun k => by rw [hb.cell (p := ⟨rb, k.val, none⟩) hl]; exact HR.out k)
      have hS := sort_small (r := r) i hcm R rfl (SW.start hH) (by omega)
      rw [hd] at hS
      have hord := ins_ahd (r := r) (places n) 0 i (Nat.zero_le _) (by omega) (fun p q _ h2 h3 => by rw [get_places n p (by omega), get_places n q (by omega)]; exact h2)
      generalize insertionSort (ltOf (cfP r)) (places n) 0 i = d at hS hord
      have HS := Lib.hid hS
      have HO := Lib.hid hord
      have HB := Lib.hid hb
      have HRW := Lib.hid R
      clear hS hord hb R hcm hH hI hh hm hd
      go_wp2_with fail
      refine HS.out.mono ?_
      rintro e w3 ⟨rfl, S3⟩
      have S4 := Lib.hid S3
      clear S3
      go_wp2
      go_ret
      have hd : d.size = i := by rw [HO.out.1.1, size_places]; have := HM.out; omega
      refine ⟨w.heap.size + 1, d, rfl, HB.out.trans (sw_below S4.out (by omega) (by omega)), by omega, S4.out.lt HRW.out.hblk, hd, S4.out.holds HRW.out.hblk HRW.out.hH (by rw [hd, size_places]; exact HM.out), ?_, ?_⟩
      · have h1 := HO.out.1
        rw [HM.out] at h1
        exact h1
      · have h1 := HO.out.2
        rw [HM.out] at h1
        exact h1
end Go.Proofs.Ytaebbfaheaghfaa
