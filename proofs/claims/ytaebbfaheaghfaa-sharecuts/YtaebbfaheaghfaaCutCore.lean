/- share.Cut, where the weights can be. -/
import Derived.Test.YtaebbfaheaghfaaCutBase
import Derived.Test.YtaebbfaheaghfaaOrder
namespace Go.Proofs.Ytaebbfaheaghfaa
open Go.RowKit Go.Shelf Go.Sort

/-- what Cut answers -/
def CutIs (t : Int) (l : List Int) (w : World) (e : Ending) (w' : World) : Prop :=
  ∃ pb, e = .returned (.tuple #[.slice (some ⟨pb, 0, none⟩) l.length l.length, .int .i64 0]) ∧ Below w.heap.size w w' ∧ w.heap.size ≤ pb ∧ IntsAt w' pb l.length (cutF t l)

/-- at the head of the first loop -/
def Cut1 (t : Int) (l : List Int) (w : World) (pb i : Nat) (wr : World) : Prop :=
  Below w.heap.size w wr ∧ pb + 1 < wr.heap.size ∧ IntsAt wr pb l.length (fun j => if j < i then qf t l j else 0) ∧ IntsAt wr (pb + 1) l.length (fun j => if j < i then rf t l j else 0)
/-- at the head of the second loop -/
def Cut2 (t : Int) (l : List Int) (n : Nat) (w : World) (pb qb k : Nat) (d : Array (Fin (n + 1))) (wr : World) : Prop :=
  Below w.heap.size w wr ∧ qb < wr.heap.size ∧ IntsAt wr pb l.length (fun j => qf t l j + upF t l n k j) ∧ Holds encP wr qb 0 d

set_option maxHeartbeats 8000000 in
set_option maxRecDepth 100000 in
theorem cut_core (b off cap n : Nat) (t : Int) (l : List Int) (w : World) (ht : 0 ≤ t) (hT : I t) (hok : okW l) (hS : I l.sum) (hI : ∀ x ∈ l, I x) (hn : l.length = n + 1) (hr : RowAt .i64 w (some ⟨b, off, none⟩) l)
    (hord : ∀ (rb : Nat) (W : World), (∀ k : Fin (n + 1), W.cell? ⟨rb, k.val, none⟩ = some (.int .i64 (rP t l n k))) → rb < W.heap.size → Calls Try.prog 42 #[.slice (some ⟨rb, 0, none⟩) l.length l.length] W (Ordered (rP t l n) l.length W)) :
    Calls Try.prog 23 #[.int .i64 t, .slice (some ⟨b, off, none⟩) l.length cap] w (CutIs t l w) := by
  have h64 := hok.2.1
  have h0 := hok.1
  obtain ⟨hbl, hcell⟩ : b < w.heap.size ∧ ∀ i, i < l.length → w.cell? ⟨b, off + i, none⟩ = some (.int .i64 (l.getD i 0)) := by
    rcases hr with h | ⟨b', off', e, h1, h2⟩
    · rw [h] at h0; simp at h0
    · cases e; exact ⟨h1, h2⟩
  have HC := Lib.hid hcell
  have hsp := sum_pos hok
  have P1 := Lib.hid (possible_yes b off cap l w hok hcell)
  have hsum := sum_any (some ⟨b, off, none⟩) l cap w hr hI (by omega)
  rw [cutV_in hS, cutE_in hS] at hsum
  have P2 := Lib.hid hsum
  have HF : ∀ i, i < l.length → ∀ W, Hid (Calls Try.prog 18 #[.int .i64 t, .int .i64 (l.getD i 0), .int .i64 l.sum] W fun e w' => e = .returned (.tuple #[.int .i64 (qf t l i), .int .i64 0]) ∧ Below W.heap.size W w') := fun i hi W => by
    have hf := floor_any t (l.getD i 0) l.sum W hT (getD_I l hI i hi) hS
    have hq := qf_bd hok ht i hi
    have hIq : I (t * l.getD i 0 / l.sum) := by
      have : t * l.getD i 0 / l.sum = qf t l i := rfl
      unfold I at hT ⊢
      omega
    have e1 : flV (t * l.getD i 0) l.sum = qf t l i := by unfold flV; rw [if_neg (by omega), cutV_in hIq]; rfl
    have e2 : flE (t * l.getD i 0) l.sum = 0 := by unfold flE; rw [if_neg (by omega), cutE_in hIq]
    rw [e1, e2] at hf
    exact hf
  have HO := Lib.hid hord
  have HOK := Lib.hid hok
  have HN := Lib.hid hn
  have HL := left_bd hok ht
  have hmk := mk_int64 l.length (by omega)
  have d0 : decide (t < 0) = false := by simp only [decide_eq_false_iff_not]; omega
  obtain ⟨S, hSS⟩ : ∃ S, S = l.sum := ⟨_, rfl⟩
  rw [← hSS] at P2 HF hsp hS
  have HSS := Lib.hid hSS
  unfold I at hT hS
  clear hcell hsum hord hok hr hI hn hSS
  go_enter Try.func23, Try.ntmps23
  go_wp2_with fail
  refine P1.out.mono ?_
  rintro e w1 ⟨rfl, rfl⟩
  go_wp2_with fail
  refine P2.out.mono ?_
  rintro e w2 ⟨rfl, hb2⟩
  have hz2 := hb2.size
  have HB2 := Lib.hid hb2
  clear hb2 P1 P2
  go_wp2
  clear hmk
  go_loopg [10, 39] l.length (fun g c10 c39 wr => ∃ i : Nat, c39 = .int .i64 i ∧ i + g = l.length ∧ c10 = .int .i64 (t - sumTo (qf t l) i) ∧ Hid (Cut1 t l w w2.heap.size i wr))
  case atStart =>
    refine ⟨0, rfl, by omega, by simp [sumTo], ?_⟩
    have hb := HB2.out
    refine ⟨?_, by simp, ?_, ?_⟩
    · exact ((hb.alloc (by omega) _).alloc (by simp; omega) _)
    · exact ((IntsAt.made w2 l.length 2).below ((RowKit.Below.refl _ _).alloc (Nat.le_refl _) _)).congr (fun j hj => by rw [if_neg (by omega)])
    · have h := IntsAt.made (w2.alloc (zeroRow l.length 2)) l.length 2
      rw [show (w2.alloc (zeroRow l.length 2)).heap.size = w2.heap.size + 1 by simp] at h
      exact h.congr (fun j hj => by rw [if_neg (by omega)])
  case round =>
    obtain ⟨i, rfl, hi, rfl, H⟩ := hrel
    clear HB2
    by_cases hlt : i < l.length
    · have hlz : (i : Int) < (l.length : Int) := by omega
      have b1 : (0 : Int) ≤ (i : Int) := by omega
      have hq := qf_bd HOK.out ht i hlt
      have hsq := qsum_le HOK.out ht i (by omega)
      have hsn := (qsum_nn HOK.out ht i (by omega)).1
      have hsq1 := qsum_le HOK.out ht (i + 1) (by omega)
      simp only [sumTo] at hsq1
      have hrb := rf_bd (t := t) HOK.out i
      rw [← HSS.out] at hrb
      have hqr := qr (t := t) (l := l) i
      have cw : wr.cell? ⟨b, off + i, none⟩ = some (.int .i64 (l.getD i 0)) := by rw [H.out.1.cell (p := ⟨b, off + i, none⟩) hbl]; exact HC.out i hlt
      have HFi := HF i hlt
      obtain ⟨y, hy⟩ : ∃ y, y = l.getD i 0 := ⟨_, rfl⟩
      obtain ⟨q, hqe⟩ : ∃ q, q = qf t l i := ⟨_, rfl⟩
      obtain ⟨r, hre⟩ : ∃ r, r = rf t l i := ⟨_, rfl⟩
      obtain ⟨sq, hsqe⟩ : ∃ s, s = sumTo (qf t l) i := ⟨_, rfl⟩
      rw [← hy] at cw HFi hqr
      rw [← hqe] at HFi hq hqr hsq1
      rw [← hre] at hrb hqr
      rw [← hsqe] at hsq hsn hsq1 ⊢
      rw [← HSS.out] at hqr
      have ew : IntKind.i64.wrap (IntKind.i64.wrap (t * y) - IntKind.i64.wrap (q * S)) = r := by
        rw [wrap_rest _ _ (by rw [Int.mul_comm q S]; omega) (by rw [Int.mul_comm q S]; omega), Int.mul_comm q S]; omega
      have EW := Lib.hid ew
      clear ew
      have HQ := Lib.hid hqe
      have HRR := Lib.hid hre
      have HSQ := Lib.hid hsqe
      clear hy hqe hre hsqe hqr HF
      go_wp2_with fail
      refine (HFi _).out.mono ?_
      rintro e w3 ⟨rfl, hb3⟩
      obtain ⟨hbw, hzw, i1, i2⟩ := H.out
      have j1 := i1.below hb3
      have j2 := i2.below hb3
      have c1 := j1.c i hlt
      have f1 := j1.fz i hlt
      have c2 := j2.c i hlt
      have f2 := j2.fz i hlt
      rw [if_neg (by omega)] at c1 c2
      have hz3 : w2.heap.size + 1 < w3.heap.size := by have := hb3.size; omega
      have J1 := Lib.hid j1
      have J2 := Lib.hid j2
      have HB3 := Lib.hid (bl_trans hbw hb3)
      clear H hbw i1 i2 j1 j2 hb3 HFi cw
      go_wp2
      go_roundg (gk - 1)
      case measure => omega
      case rel =>
        refine ⟨i + 1, by go_num, by omega, ?_, ?_⟩
        · simp only [sumTo]
          rw [← HSQ.out, ← HQ.out]
          rw [show t - (sq + q) = t - sq - q by omega]
        · have hb := HB3.out
          refine ⟨?_, by simp; omega, ?_, ?_⟩
          · exact (hb.setCell (by simp; omega) _).setCell (by simp; omega) _
          · refine ((J1.out.set i hlt q).other (w2.heap.size + 1) i (by omega) _).congr (fun j hj => ?_)
            by_cases e : j = i
            · subst e; rw [if_pos rfl, if_pos (by omega)]; exact HQ.out
            · rw [if_neg e]
              by_cases e2 : j < i
              · rw [if_pos e2, if_pos (by omega)]
              · rw [if_neg e2, if_neg (by omega)]
          · have e2 : wrap64 (wrap64 (t * y) - wrap64 (q * S)) = r := by rw [← EW.out]; simp only [wrap64, IntKind.wrap_i64]
            rw [e2]
            refine ((J2.out.other w2.heap.size i (by omega) _).set i hlt r).congr (fun j hj => ?_)
            by_cases e : j = i
            · subst e; rw [if_pos rfl, if_pos (by omega)]; exact HRR.out
            · rw [if_neg e]
              by_cases e2 : j < i
              · rw [if_pos e2, if_pos (by omega)]
              · rw [if_neg e2, if_neg (by omega)]
    · have hlz : ¬ (i : Int) < (l.length : Int) := by omega
      obtain rfl : i = l.length := by omega
      obtain ⟨k0, hk0⟩ : ∃ k : Nat, leftOf t l = k := ⟨(leftOf t l).toNat, by omega⟩
      have hk0' : t - sumTo (qf t l) l.length = (k0 : Int) := hk0
      rw [hk0']
      have hk1 : k0 < l.length := by have := HL.2; omega
      obtain ⟨hbw, hzw, i1, i2⟩ := H.out
      have HOR := Lib.hid (HO.out (w2.heap.size + 1) wr (fun k => by rw [i2.c k.val (by have := k.isLt; have := HN.out; omega), if_pos (by have := k.isLt; have := HN.out; omega)]; rfl) hzw)
      have I1 := Lib.hid i1
      have HBW := Lib.hid hbw
      have HK0 := Lib.hid hk0
      clear H hbw i1 i2 HO hk0 hk0' HF HC HL
      go_wp2_with fail
      refine HOR.out.mono ?_
      rintro e w4 ⟨qb, d, rfl, hb4, hq4, hqz, hdz, hH, hP, hSo⟩
      have HX := Lib.hid (show Cut2 t l n w w2.heap.size qb 0 d w4 from ⟨bl_trans HBW.out hb4, hqz, (I1.out.below hb4).congr (fun j hj => by rw [if_pos hj, up_zero, Int.add_zero]), hH⟩)
      have HP := Lib.hid hP
      have HSo := Lib.hid hSo
      have hne : ¬ (qb = w2.heap.size) := by omega
      have HBQ : w.heap.size ≤ qb := by omega
      clear hb4 hH hP hSo I1 HBW HOR
      have b5 : (0 : Int) ≤ (k0 : Int) := by omega
      have b6 : (k0 : Int) ≤ (l.length : Int) := by omega
      go_wp2
      go_loopg [79] k0 (fun g c79 wr => ∃ k : Nat, c79 = .int .i64 k ∧ k + g = k0 ∧ Hid (Cut2 t l n w w2.heap.size qb k d wr))
      case atStart => exact ⟨0, rfl, by omega, HX.out⟩
      case round =>
        obtain ⟨k, rfl, hk, H⟩ := hrel
        clear HX
        by_cases hlt : k < k0
        · have hltz : (k : Int) < (k0 : Int) := by omega
          have b1 : (0 : Int) ≤ (k : Int) := by omega
          have hnl := HN.out
          obtain ⟨hbw, hzw, i1, hH⟩ := H.out
          have cd := (hH k (by omega)).1
          have hpl := d[k]!.isLt
          obtain ⟨p, hpe⟩ : ∃ p, p = d[k]!.val := ⟨_, rfl⟩
          simp only [encP] at cd
          rw [← hpe] at hpl cd
          rw [Nat.zero_add] at cd
          have hup := fun j hj => up_next (t := t) (l := l) HP.out HSo.out k (by omega) j hj
          have hu0 := (hup p (by omega)).2 hpe
          have c1 := i1.c p (by omega)
          have f1 := i1.fz p (by omega)
          rw [hu0, Int.add_zero] at c1
          have hq := qf_bd HOK.out ht p (by omega)
          have hq1 := q_up HOK.out ht (by rw [HK0.out]; omega) p (by omega)
          obtain ⟨q, hqe⟩ : ∃ q, q = qf t l p := ⟨_, rfl⟩
          rw [← hqe] at c1 hq hq1
          have HQ := Lib.hid hqe
          have HUP := Lib.hid hup
          have HPE := Lib.hid hpe
          have HU0 := Lib.hid hu0
          have b7 : (p : Int) < (l.length : Int) := by omega
          have b8 : (0 : Int) ≤ (p : Int) := by omega
          clear hqe hup hpe hu0 hbw i1 hH hnl
          go_wp2
          go_roundg (gk - 1)
          case measure => omega
          case rel =>
            obtain ⟨hbw, hzw, i1, hH⟩ := H.out
            have hnl := HN.out
            refine ⟨k + 1, by go_num, by omega, ⟨hbw.setCell (by simp; omega) _, by simpa using hzw, ?_, fun j hj => ?_⟩⟩
            · refine (i1.set p (by omega) (q + 1)).congr (fun j hj => ?_)
              have hj2 := (HUP.out j (by omega)).1
              rw [← HPE.out] at hj2
              rw [hj2]
              by_cases e : j = p
              · subst e; rw [if_pos rfl, if_pos rfl, HQ.out]
              · rw [if_neg e, if_neg e]
            · have := hH j hj
              refine ⟨?_, ?_⟩
              · rw [World.cell?_setCell_other _ _ _ _ (fun e' => by injection e'; omega)]; exact this.1
              · rw [World.frozen?_setCell]; exact this.2
        · have hltz : ¬ (k : Int) < (k0 : Int) := by omega
          obtain rfl : k = k0 := by omega
          go_wp2
          go_ret2
          obtain ⟨hbw, hzw, i1, hH⟩ := H.out
          refine ⟨w2.heap.size, rfl, hbw, by omega, i1.congr (fun j hj => ?_)⟩
          unfold cutF
          rw [HK0.out, show l.length - 1 = n by have := HN.out; omega]
          simp
end Go.Proofs.Ytaebbfaheaghfaa
