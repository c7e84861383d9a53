
/- Package stamp: Top. -/
import Derived.Test.YtdfbpaajkpnaeaaSmN
namespace Go.Proofs.Ytdfbpaajkpnaeaa
set_option maxRecDepth 100000
open Go.RowKit Go.Lib

/-- the greatest of k stamps -/
def topN (d : Dk) (x : Int) : Nat → Nat
  | 0 => 0
  | k + 1 => max (topN d x k) (stN (d.at_ (x + (k : Int))))
theorem topN_lt {d : Dk} (h : d.Ok) (x : Int) : ∀ k, topN d x k < 18446744073709551616
  | 0 => by show 0 < _; omega
  | k + 1 => by
    have h1 := topN_lt h x k
    have h2 := stN_lt (at_len h (x + (k : Int)))
    show max _ _ < _
    omega
theorem topN_le {d : Dk} {x : Int} : ∀ {k i : Nat}, i < k → stN (d.at_ (x + (i : Int))) ≤ topN d x k
  | k + 1, i, h => by
    show _ ≤ max _ _
    by_cases e : i = k
    · subst e; exact Nat.le_max_right _ _
    · have := topN_le (d := d) (x := x) (k := k) (i := i) (by omega)
      exact Nat.le_trans this (Nat.le_max_left _ _)
def Dk.top (d : Dk) (x z : Int) : Nat × Int := if z ≤ x then (0, 0) else if x < 0 ∨ (d.base.length : Int) < z then (0, 81) else (topN d x (z - x).toNat, 0)
theorem norm_topN (d : Dk) (x : Int) : ∀ k, topN d.norm x k = topN d x k
  | 0 => rfl
  | k + 1 => by show max _ _ = max _ _; rw [norm_topN d x k, norm_at]
theorem norm_top (d : Dk) (x z : Int) : d.norm.top x z = d.top x z := by
  unfold Dk.top
  rw [norm_topN]
  rfl
def TopRes (t : Nat × Int) (w : World) (e : Ending) (w' : World) : Prop := e = .returned (.tuple #[.int .u64 (t.1 : Int), .int .i64 t.2]) ∧ RowKit.Below w.heap.size w w'
set_option maxRecDepth 100000 in
set_option maxHeartbeats 3200000 in
theorem top_any (g : Nat) (F : Nat → Prop) (d : Dk) (x z : Int) (w : World) (h : DAt w F g d) (hx : I x) (hz : I z) :
    Calls Try.prog 47 #[.pointer (some ⟨g, 0, none⟩), .int .i64 x, .int .i64 z] w (TopRes (d.top x z) w) := by
  have HD := Lib.hid h
  have hsz := h.ok.sz
  obtain ⟨N, hN⟩ : ∃ N, N = d.base.length := ⟨_, rfl⟩
  have HN := Lib.hid hN
  rw [← hN] at hsz
  have HX := Lib.hid hx
  have HZ := Lib.hid hz
  have HSZ := Lib.hid hsz
  clear h hN hx hz hsz
  go_enter Try.func47, Try.ntmps47
  go_wp2
  go_loopw [8, 9] (fun c8 c9 wr => ∃ (k : Nat) (y : Int), c8 = .int .u64 ((topN d x k : Nat) : Int) ∧ c9 = .int .i64 y ∧ y = x + (k : Int) ∧ (k = 0 ∨ (0 ≤ x ∧ y ≤ (N : Int) ∧ y ≤ z)) ∧ RowKit.Below w.heap.size w wr) (fun _ c9 _ => (z - (match c9 with | .int _ q => q | _ => 0)).toNat)
  case atStart => exact ⟨0, x, rfl, rfl, by omega, Or.inl rfl, RowKit.Below.refl _ _⟩
  case round =>
    obtain ⟨k, y, rfl, rfl, hy, hk, hbl⟩ := hrel
    have HY := Lib.hid hy
    have HK := Lib.hid hk
    have HBL := Lib.hid hbl
    obtain ⟨a, ha⟩ : ∃ a, a = topN d x k := ⟨_, rfl⟩
    rw [← ha]
    have HA := Lib.hid ha
    have hal : a < 18446744073709551616 := by rw [ha]; exact topN_lt HD.out.ok x k
    have HAL := Lib.hid hal
    clear hy hk hbl ha hal
    by_cases hyz : y < z
    · have d0 : decide (y < z) = true := by simpa using hyz
      have HYZ := Lib.hid hyz
      have hyI : I y := by obtain ⟨q1, q2⟩ := HX.out; obtain ⟨q3, q4⟩ := HZ.out; have := HY.out; unfold I; omega
      have HG := Lib.hid (get_any g F d y wr (HD.out.below HBL.out) hyI)
      obtain ⟨s, hs⟩ : ∃ s, s = d.at_ y := ⟨_, rfl⟩
      have hsl : s.length = 64 := by rw [hs]; exact at_len HD.out.ok y
      obtain ⟨c, hc⟩ : ∃ c, c = bcells s := ⟨_, rfl⟩
      have HCC := Lib.hid (show Cs 64 c by rw [hc]; exact cs_sec hsl)
      unfold GetRes at HG
      rw [← hs, ← hc] at HG
      by_cases hh : d.has y = true
      · rw [hh, if_pos rfl] at HG
        obtain ⟨b, hb⟩ : ∃ b, b = stN s := ⟨_, rfl⟩
        have HST := Lib.hid (fun W => stampOf_any s hsl W)
        rw [← hc, ← hb] at HST
        have HH := Lib.hid (Dk.has_iff.1 hh)
        rw [← HN.out] at HH
        have HNX := Lib.hid (show topN d x (k + 1) = max a b by show max _ _ = _; rw [← HA.out, hb, hs, HY.out])
        have hbl : b < 18446744073709551616 := by rw [hb]; exact stN_lt hsl
        have HYB := Lib.hid (show -1 ≤ y ∧ y ≤ 2048 by have := HH.out; have := HSZ.out; omega)
        clear hyz hyI hs hsl hc hh hb
        go_wp2_with fail
        refine HG.out.mono ?_
        rintro _ w1 ⟨rfl, hb1⟩
        have HB1 := Lib.hid (HBL.out.trans (hb1.mono HBL.out.size))
        have HAL1 := Lib.hid (heap_alloc_new w1 (.cells zc.toArray 88))
        obtain ⟨w2, hw2⟩ : ∃ w2, w2 = w1.alloc (.cells c.toArray 88) := ⟨_, rfl⟩
        have HW2 := Lib.hid (show (w1.alloc (.cells zc.toArray 88)).setRow w1.heap.size c.toArray = w2 by rw [hw2]; exact setRow_new rfl)
        have HP2 := Lib.hid (show w2.heap[w1.heap.size]? = some (.cells c.toArray 88) by rw [hw2]; exact blkn rfl)
        have HB2 := Lib.hid (show RowKit.Below w.heap.size w w2 by rw [hw2]; exact HB1.out.alloc HB1.out.size _)
        clear hb1 hw2 HG
        go_wp2_with (first | ((with_reducible refine wpList_storeW rfl isS _ _ rfl w1.heap.size c zc.toArray _ rfl rfl HAL1.out HCC.out (by simp [zc_len]) ?_); rw [HW2.out]) | (with_reducible refine wpList_allocA rfl isS rfl ?_) | (with_reducible refine wpList_loadW rfl isS _ rfl w1.heap.size c _ rfl HP2.out HCC.out ?_))
        refine (HST.out _).mono ?_
        rintro _ w3 ⟨rfl, hb3⟩
        have HB3 := Lib.hid (HB2.out.trans (hb3.mono HB2.out.size))
        have hal := HAL.out
        obtain ⟨hy1, hy2⟩ := HYB.out
        clear hb3 HST
        by_cases hab : (a : Int) < (b : Int)
        · have HM := Lib.hid (show topN d x (k + 1) = b by rw [HNX.out]; omega)
          go_wp2
          go_roundw
          case rel => exact ⟨k + 1, y + 1, by rw [HM.out], by go_num, by have := HY.out; omega, Or.inr (by have := HH.out; have := HYZ.out; have := HK.out; have := HY.out; omega), HB3.out⟩
          case measure => simp; have := HYZ.out; omega
        · have HM := Lib.hid (show topN d x (k + 1) = a by rw [HNX.out]; omega)
          have hab' : (b : Int) ≤ (a : Int) := by omega
          clear hab
          go_wp2
          go_roundw
          case rel => exact ⟨k + 1, y + 1, by rw [HM.out], by go_num, by have := HY.out; omega, Or.inr (by have := HH.out; have := HYZ.out; have := HK.out; have := HY.out; omega), HB3.out⟩
          case measure => simp; have := HYZ.out; omega
      · rw [if_neg hh] at HG
        have HT := Lib.hid (show d.top x z = (0, 81) by
          have h1 : ¬ (0 ≤ y ∧ y < (N : Int)) := fun e => hh (Dk.has_iff.2 (by rw [← HN.out]; exact e))
          have := HY.out
          have := HK.out
          unfold Dk.top
          rw [if_neg (by omega), if_pos (by rw [← HN.out]; omega)])
        clear hyz hyI hs hsl hc hh
        go_wp2_with fail
        refine HG.out.mono ?_
        rintro _ w1 ⟨rfl, hb1⟩
        have HB1 := Lib.hid (HBL.out.trans (hb1.mono HBL.out.size))
        have HAL1 := Lib.hid (heap_alloc_new w1 (.cells zc.toArray 88))
        obtain ⟨w2, hw2⟩ : ∃ w2, w2 = w1.alloc (.cells c.toArray 88) := ⟨_, rfl⟩
        have HW2 := Lib.hid (show (w1.alloc (.cells zc.toArray 88)).setRow w1.heap.size c.toArray = w2 by rw [hw2]; exact setRow_new rfl)
        have HB2 := Lib.hid (show RowKit.Below w.heap.size w w2 by rw [hw2]; exact HB1.out.alloc HB1.out.size _)
        clear hb1 hw2 HG
        go_wp2_with (first | ((with_reducible refine wpList_storeW rfl isS _ _ rfl w1.heap.size c zc.toArray _ rfl rfl HAL1.out HCC.out (by simp [zc_len]) ?_); rw [HW2.out]) | (with_reducible refine wpList_allocA rfl isS rfl ?_))
        try rw [Exit.noGoto_ret]
        go_ret2
        unfold TopRes
        rw [HT.out]
        exact ⟨rfl, HB2.out⟩
    · have d0 : decide (y < z) = false := by simpa using hyz
      have HT := Lib.hid (show d.top x z = (a, 0) by
        have := HY.out
        unfold Dk.top
        rcases HK.out with h | ⟨h1, h2, h3⟩
        · subst h
          rw [if_pos (by omega), HA.out]; rfl
        · by_cases hk0 : k = 0
          · subst hk0
            rw [if_pos (by omega), HA.out]; rfl
          · rw [if_neg (by omega), if_neg (by rw [← HN.out]; omega), HA.out]
            rw [show (z - x).toNat = k by omega])
      clear hyz
      go_wp2
      go_ret2
      unfold TopRes
      rw [HT.out]
      exact ⟨rfl, HBL.out⟩
end Go.Proofs.Ytdfbpaajkpnaeaa
