
/- falseworkref09: Top. falseworklaw09: same; the two disks side by side. -/
import Derived.Test.YtdfbpaajkpnaeaaGreatSmTY
import Derived.Test.YtdfbpaajkpnaeaaGreatSmLS
namespace Go.Proofs.YtdfbpaajkpnaeaaGreat
set_option maxRecDepth 100000
open Go.RowKit Go.Lib

set_option maxRecDepth 100000 in
set_option maxHeartbeats 3200000 in
theorem rtop_any (r : Dk) (a0 : Option Addr) (c0 : Nat) (a1 : Option Addr) (c1 : Nat) (F : Nat → Prop) (x z : Int) (w : World) (h : RM w F r a0 a1) (hx : I x) (hz : I z) :
    Calls Tryz.prog 46 #[.agg (rcs r a0 c0 a1 c1).toArray, .int .i64 x, .int .i64 z] w (TopRes (r.top x z) w) := by
  obtain ⟨R, hR⟩ : ∃ R, R = rcs r a0 c0 a1 c1 := ⟨_, rfl⟩
  have HRE := Lib.hid hR
  have HRC := Lib.hid (show Cs 4 R by rw [hR]; exact rcs_cs _ _ _ _ _)
  obtain ⟨w0, hw0⟩ : ∃ w0, w0 = w.alloc (.cells R.toArray 36) := ⟨_, rfl⟩
  have HW0 := Lib.hid hw0.symm
  have HB0 := Lib.hid (show RowKit.Below w.heap.size w w0 by rw [hw0]; exact (RowKit.Below.refl _ _).alloc (Nat.le_refl _) _)
  have hsz0 : w0.heap.size = w.heap.size + 1 := by rw [hw0]; simp
  have HP3 := Lib.hid (show w0.heap[w.heap.size]? = some (.cells R.toArray 36) by rw [hw0]; exact blkn rfl)
  have HRM := Lib.hid (h.below HB0.out)
  have HOK := Lib.hid h.ok
  obtain ⟨N, hN⟩ : ∃ N, N = r.base.length := ⟨_, rfl⟩
  have HN := Lib.hid hN
  have HSZ := Lib.hid (show N ≤ 2048 by rw [hN]; exact h.ok.sz)
  have HX := Lib.hid hx
  have HZ := Lib.hid hz
  have HS0 := Lib.hid hsz0
  rw [← hR]
  clear hR hw0 h hN hx hz hsz0
  go_enter Tryz.func46, Tryz.ntmps46
  go_wp2_with ((with_reducible refine wpList_boxA rfl _ _ rfl _ rfl ?_); rw [HW0.out])
  go_loopw [8, 9] (fun c8 c9 wr => ∃ (k : Nat) (y : Int), c8 = .int .u64 ((topN r x k : Nat) : Int) ∧ c9 = .int .i64 y ∧ y = x + (k : Int) ∧ (k = 0 ∨ (0 ≤ x ∧ y ≤ (N : Int) ∧ y ≤ z)) ∧ RowKit.Below w0.heap.size w0 wr) (fun _ c9 _ => (z - (match c9 with | .int _ q => q | _ => 0)).toNat)
  case atStart => exact ⟨0, x, rfl, rfl, by omega, Or.inl rfl, RowKit.Below.refl _ _⟩
  case round =>
    obtain ⟨k, y, rfl, rfl, hy, hk, hbl⟩ := hrel
    have HY := Lib.hid hy
    have HK := Lib.hid hk
    have HBL := Lib.hid hbl
    have HBW := Lib.hid (HB0.out.trans (hbl.mono HB0.out.size))
    have HPR := Lib.hid (show wr.heap[w.heap.size]? = some (.cells R.toArray 36) from (HBL.out.block _ (by rw [HS0.out]; omega)).trans HP3.out)
    obtain ⟨a, ha⟩ : ∃ a, a = topN r x k := ⟨_, rfl⟩
    rw [← ha]
    have HA := Lib.hid ha
    have hal : a < 18446744073709551616 := by rw [ha]; exact topN_lt HOK.out x k
    have HAL := Lib.hid hal
    clear hy hk hbl ha hal
    by_cases hyz : y < z
    · have d0 : decide (y < z) = true := by simpa using hyz
      have HYZ := Lib.hid hyz
      have HG := Lib.hid (rget_any r a0 c0 a1 c1 F y wr (HRM.out.below HBL.out))
      obtain ⟨s, hs⟩ : ∃ s, s = r.at_ y := ⟨_, rfl⟩
      have hsl : s.length = 64 := by rw [hs]; exact at_len HOK.out y
      obtain ⟨c, hc⟩ : ∃ c, c = bcells s := ⟨_, rfl⟩
      have HCC := Lib.hid (show Cs 64 c by rw [hc]; exact cs_sec hsl)
      unfold GetRes at HG
      rw [← HRE.out, ← hs, ← hc] at HG
      by_cases hh : r.has y = true
      · rw [hh, if_pos rfl] at HG
        obtain ⟨b, hb⟩ : ∃ b, b = stN s := ⟨_, rfl⟩
        have HST := Lib.hid (fun W => snumber_any s hsl W)
        rw [← hc, ← hb] at HST
        have HH := Lib.hid (Dk.has_iff.1 hh)
        rw [← HN.out] at HH
        have HNX := Lib.hid (show topN r x (k + 1) = max a b by show max _ _ = _; rw [← HA.out, hb, hs, HY.out])
        have hbl : b < 18446744073709551616 := by rw [hb]; exact stN_lt hsl
        have HYB := Lib.hid (show -1 ≤ y ∧ y ≤ 2048 by have := HH.out; have := HSZ.out; omega)
        have HYI := Lib.hid (show wrap64 (y + 1) = y + 1 by obtain ⟨h1, h2⟩ := HYB.out; unfold wrap64; omega)
        clear hyz hs hsl hc hh hb
        go_wp2_with (with_reducible refine wpList_loadW rfl isD _ rfl w.heap.size R _ rfl HPR.out HRC.out ?_)
        refine HG.out.mono ?_
        rintro _ w1 ⟨rfl, hb1⟩
        have HB1 := Lib.hid (HBL.out.trans (hb1.mono HBL.out.size))
        have HAL1 := Lib.hid (heap_alloc_new w1 (.cells zc.toArray 88))
        obtain ⟨w2, hw2⟩ : ∃ w2, w2 = w1.alloc (.cells c.toArray 88) := ⟨_, rfl⟩
        have HW2 := Lib.hid (show (w1.alloc (.cells zc.toArray 88)).setRow w1.heap.size c.toArray = w2 by rw [hw2]; exact setRow_new rfl)
        have HP2 := Lib.hid (show w2.heap[w1.heap.size]? = some (.cells c.toArray 88) by rw [hw2]; exact blkn rfl)
        have HB2 := Lib.hid (show RowKit.Below w0.heap.size w0 w2 by rw [hw2]; exact HB1.out.alloc HB1.out.size _)
        clear hb1 hw2 HG
        go_wp2_with (first | ((with_reducible refine wpList_storeW rfl isS _ _ rfl w1.heap.size c zc.toArray _ rfl rfl HAL1.out HCC.out (by simp [zc_len]) ?_); rw [HW2.out]) | (with_reducible refine wpList_allocA rfl isS rfl ?_) | (with_reducible refine wpList_loadW rfl isS _ rfl w1.heap.size c _ rfl HP2.out HCC.out ?_))
        refine (HST.out _).mono ?_
        rintro _ w3 ⟨rfl, hb3⟩
        have HB3 := Lib.hid (HB2.out.trans (hb3.mono HB2.out.size))
        clear hb3 HST
        by_cases hab : (a : Int) < (b : Int)
        · have HM := Lib.hid (show topN r x (k + 1) = b by rw [HNX.out]; omega)
          go_wp2
          go_roundw
          case rel => exact ⟨k + 1, y + 1, by rw [HM.out], by first | rfl | rw [HYI.out], by have := HY.out; omega, Or.inr (by have := HH.out; have := HYZ.out; have := HK.out; have := HY.out; omega), HB3.out⟩
          case measure => show (z - wrap64 (y + 1)).toNat < (z - y).toNat; rw [HYI.out]; have := HYZ.out; omega
        · have HM := Lib.hid (show topN r x (k + 1) = a by rw [HNX.out]; omega)
          go_wp2
          go_roundw
          case rel => exact ⟨k + 1, y + 1, by rw [HM.out], by first | rfl | rw [HYI.out], by have := HY.out; omega, Or.inr (by have := HH.out; have := HYZ.out; have := HK.out; have := HY.out; omega), HB3.out⟩
          case measure => show (z - wrap64 (y + 1)).toNat < (z - y).toNat; rw [HYI.out]; have := HYZ.out; omega
      · rw [if_neg hh] at HG
        have HT := Lib.hid (show r.top x z = (0, 81) by
          have h1 : ¬ (0 ≤ y ∧ y < (N : Int)) := fun e => hh (Dk.has_iff.2 (by rw [← HN.out]; exact e))
          have := HY.out
          have := HK.out
          unfold Dk.top
          rw [if_neg (by omega), if_pos (by rw [← HN.out]; omega)])
        clear hyz hs hsl hc hh
        go_wp2_with (with_reducible refine wpList_loadW rfl isD _ rfl w.heap.size R _ rfl HPR.out HRC.out ?_)
        refine HG.out.mono ?_
        rintro _ w1 ⟨rfl, hb1⟩
        have HB1 := Lib.hid (HBL.out.trans (hb1.mono HBL.out.size))
        have HAL1 := Lib.hid (heap_alloc_new w1 (.cells zc.toArray 88))
        obtain ⟨w2, hw2⟩ : ∃ w2, w2 = w1.alloc (.cells c.toArray 88) := ⟨_, rfl⟩
        have HW2 := Lib.hid (show (w1.alloc (.cells zc.toArray 88)).setRow w1.heap.size c.toArray = w2 by rw [hw2]; exact setRow_new rfl)
        have HB2 := Lib.hid (show RowKit.Below w0.heap.size w0 w2 by rw [hw2]; exact HB1.out.alloc HB1.out.size _)
        clear hb1 hw2 HG
        go_wp2_with (first | ((with_reducible refine wpList_storeW rfl isS _ _ rfl w1.heap.size c zc.toArray _ rfl rfl HAL1.out HCC.out (by simp [zc_len]) ?_); rw [HW2.out]) | (with_reducible refine wpList_allocA rfl isS rfl ?_))
        try rw [Exit.noGoto_ret]
        go_ret2
        unfold TopRes
        rw [HT.out]
        exact ⟨rfl, HB0.out.trans (HB2.out.mono HB0.out.size)⟩
    · have d0 : decide (y < z) = false := by simpa using hyz
      have HT := Lib.hid (show r.top x z = (a, 0) by
        have := HY.out
        unfold Dk.top
        rcases HK.out with h | ⟨h1, h2, h3⟩
        · subst h
          rw [if_pos (by omega), HA.out]; rfl
        · by_cases hk0 : k = 0
          · subst hk0
            rw [if_pos (by omega), HA.out]; rfl
          · rw [if_neg (by omega), if_neg (by rw [← HN.out]; omega), HA.out]
            rw [show (z - x).toNat = k by omega])
      clear hyz
      go_wp2
      go_ret2
      unfold TopRes
      rw [HT.out]
      exact ⟨rfl, HBW.out⟩
/-- block b holds an act, wherever else things turn -/
theorem AcAt.same {w w' : World} {b : Nat} {x : Ac} (h : AcAt w b x) (hb : w'.heap[b]? = w.heap[b]?) (hs : w.heap.size ≤ w'.heap.size) : AcAt w' b x := by
  refine ⟨?_, ?_, ?_, ?_, ?_, Nat.lt_of_lt_of_le h.lt hs⟩
  · rw [World.cell?_of_block (a := ⟨b, 0, none⟩) hb]; exact h.c0
  · rw [World.cell?_of_block (a := ⟨b, 1, none⟩) hb]; exact h.c1
  · rw [World.cell?_of_block (a := ⟨b, 2, none⟩) hb]; exact h.c2
  · rw [World.cell?_of_block (a := ⟨b, 3, none⟩) hb]; exact h.c3
  · rw [World.cell?_of_block (a := ⟨b, 4, none⟩) hb]; exact h.c4
/-- the project's disk d at g, the document's, r, in block b8 -/
structure TD (w0 wr : World) (F : Nat → Prop) (g b8 : Nat) (d r : Dk) (R : List Value) : Prop where
  dt : DAt wr F g d
  h8 : wr.heap[b8]? = some (.cells R.toArray 36)
  rr : ∃ a0 c0 a1 c1, R = rcs r a0 c0 a1 c1 ∧ RM wr (fun i => F i ∨ i = b8) r a0 a1
  nf : ¬ F b8
  fr : ∀ i, F i → w0.heap.size ≤ i
  b8l : w0.heap.size ≤ b8
  bl : RowKit.Below w0.heap.size w0 wr
theorem TD.cs {w0 wr : World} {F : Nat → Prop} {g b8 : Nat} {d r : Dk} {R : List Value} (h : TD w0 wr F g b8 d r R) : Cs 4 R := by
  obtain ⟨a0, c0, a1, c1, e, _⟩ := h.rr
  rw [e]; exact rcs_cs _ _ _ _ _
theorem TD.below {w0 wr w' : World} {F : Nat → Prop} {g b8 : Nat} {d r : Dk} {R : List Value} (h : TD w0 wr F g b8 d r R) (hb : RowKit.Below wr.heap.size wr w') : TD w0 w' F g b8 d r R := by
  obtain ⟨a0, c0, a1, c1, e, hr⟩ := h.rr
  exact ⟨h.dt.below hb, (hb.block _ (lt_of_heap h.h8)).trans h.h8, ⟨a0, c0, a1, c1, e, hr.below hb⟩, h.nf, h.fr, h.b8l, h.bl.trans (hb.mono h.bl.size)⟩
theorem TD.did {w0 w w' : World} {F : Nat → Prop} {g b8 : Nat} {d d' r : Dk} {R : List Value} (h : TD w0 w F g b8 d r R) (hd : Did g F d' w w') : ∃ F', TD w0 w' F' g b8 d' r R := by
  obtain ⟨F', k1, k2, k3⟩ := hd
  obtain ⟨a0, c0, a1, c1, e, hr⟩ := h.rr
  have hlt := lt_of_heap h.h8
  have hnf : ¬ F' b8 := fun e => (k3 _ e).elim h.nf fun e => by omega
  exact ⟨F', k1, (k2.block _ hlt h.nf).trans h.h8, ⟨a0, c0, a1, c1, e, hr.other (k2.mono fun i hi => Or.inl hi) fun i hi => hi.elim (fun e => (k3 i e).imp Or.inl id) fun e => Or.inl (Or.inr e)⟩, hnf, fun i hi => (k3 i hi).elim (h.fr i) fun e => Nat.le_trans h.bl.size e, h.b8l, k2.below h.bl h.fr h.bl.size⟩
theorem TD.set {w0 w : World} {F : Nat → Prop} {g b8 : Nat} {d r r' : Dk} {R R' : List Value} {a0 : Option Addr} {c0 : Nat} {a1 : Option Addr} {c1 : Nat} (h : TD w0 w F g b8 d r R) (hr : RM w (fun i => F i ∨ i = b8) r' a0 a1) (hR : R' = rcs r' a0 c0 a1 c1) : TD w0 (w.setRow b8 R'.toArray) F g b8 d r' R' :=
  ⟨h.dt.same (by simp) fun i hi => setRow_other _ _ _ _ fun e => h.nf (e ▸ hi), setRow_heap _ _ _ _ _ _ h.h8, ⟨a0, c0, a1, c1, hR, hr.same (only_row (Or.inr rfl))⟩, h.nf, h.fr, h.b8l, below_setRow h.bl h.b8l⟩
/-- its own blocks lie below -/
theorem TD.lt {w0 wr : World} {F : Nat → Prop} {g b8 : Nat} {d r : Dk} {R : List Value} (h : TD w0 wr F g b8 d r R) : ∀ i, (F i ∨ i = b8) → i < wr.heap.size := fun i hi => hi.elim (h.dt.fl i) fun e => by rw [e]; exact lt_of_heap h.h8
theorem lie_bat {w : World} {a : Option Addr} {l : List UInt8} (h : BAt w a l) : Lie w a (bcells l) := by
  have h' := h
  rcases h with h | ⟨b, off, ha, hlt, hc⟩
  · left; rw [h]; rfl
  · subst ha
    refine Or.inr ⟨b, off, rfl, hlt, fun j u hu => ?_⟩
    have := BAt.cells h' j u hu
    rwa [Addr.add_mid] at this
theorem norm_writeF (d : Dk) (x : Int) (n : Nat) (l : List UInt8) : (d.norm.write x n l).1 = (d.write x n l).1.norm ∧ (d.norm.write x n l).2 = (d.write x n l).2 := by rw [norm_write]; exact ⟨rfl, rfl⟩
theorem flush_lens (d : Dk) : d.flush.queue.length ≤ d.queue.length ∧ d.flush.base.length = d.base.length := by
  unfold Dk.flush
  split
  · exact ⟨Nat.zero_le _, stl_len _ _ _ _⟩
  · exact ⟨by rw [d.spend_queue]; exact Nat.le_refl _, by rw [d.spend_base]⟩
theorem power_lens (d : Dk) (k : List Int) : (d.power k).queue.length ≤ d.queue.length ∧ (d.power k).base.length = d.base.length := ⟨Nat.zero_le _, stl_len _ _ _ _⟩
theorem nums_off {w : World} {a : Option Addr} {l : List Int} {F : Nat → Prop} (h : Nums w a l) (hF : ∀ i, F i → w.heap.size ≤ i) : l = [] ∨ ∀ b, inBlk a b → ¬ F b := by
  rcases h with h | ⟨b, off, ha, hlt, _⟩
  · left; simpa using h
  · right
    rintro c ⟨p, e, rfl⟩ hf
    rw [ha] at e
    cases e
    have := hF _ hf
    have e2 : (⟨b, off, none⟩ : Addr).block = b := rfl
    omega
end Go.Proofs.YtdfbpaajkpnaeaaGreat
