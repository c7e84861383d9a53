/- The document's reader: a number is taken. -/
import Derived.Test.YtcahmijcfmakjaaPkF
import Derived.Test.YtcahmijcfmakjaaPkG
import Derived.Test.YtcahmijcfmakjaaPkX
import Derived.Deep.DeepCutAuto
namespace Go.Proofs.Ytcahmijcfmakjaa
open Go.RowKit Go.Lib

/-- bytes that a reader of the document's has -/
def RV (w : World) (A : Option Addr) (cap : Nat) (bs : List UInt8) : Prop := BAt w A bs ∧ bs.length ≤ cap ∧ (A = none → bs = [])
theorem RV.below {w w' : World} {A : Option Addr} {cap : Nat} {bs : List UInt8} (h : RV w A cap bs) (hb : RowKit.Below w.heap.size w w') : RV w' A cap bs := ⟨h.1.below hb, h.2.1, h.2.2⟩
theorem RV.nil (w : World) : RV w none 0 [] := ⟨Or.inl rfl, Nat.le_refl _, fun _ => rfl⟩
theorem RV.drop {w : World} {A : Option Addr} {cap : Nat} {bs : List UInt8} (h : RV w A cap bs) {k : Nat} (hk : k ≤ bs.length) : RV w (cutA A cap k) (cap - k) (bs.drop k) := by
  refine ⟨h.1.drop hk h.2.1, by rw [List.length_drop]; have := h.2.1; omega, fun e => ?_⟩
  have : A = none := by
    unfold cutA at e
    split at e
    · exact e
    · cases A <;> simp at e; rfl
  rw [h.2.2 this]; simp

set_option maxHeartbeats 400000 in
theorem failed_any (w : World) : Calls Try.prog 38 #[] w fun e w' => e = .returned (.agg #[.slice none 0 0, .bool true]) ∧ RowKit.Below w.heap.size w w' := by
  go_enter Try.func38, Try.ntmps38
  go_wp2
  refine bodyPost_ret (v := .agg #[.slice none 0 0, .bool true]) (by simp [results, Try.results38, go_sem]) rfl ⟨rfl, ?_⟩
  exact (RowKit.Below.refl _ _).alloc (Nat.le_refl _) _

/-- it lies in the block of the other one -/
def Sub (A' A : Option Addr) : Prop := ∀ k, inBlk A' k → inBlk A k
theorem Sub.none (A : Option Addr) : Sub none A := fun k h => by obtain ⟨_, e, _⟩ := h; cases e
theorem Sub.trans {a b c : Option Addr} (h : Sub a b) (k : Sub b c) : Sub a c := fun x hx => k x (h x hx)
/-- where TakeNum's variables lie: what it was handed, and what it answers -/
def TB (w : World) (A : Option Addr) (n cap : Nat) (wr : World) : Prop :=
  wr.cell? ⟨w.heap.size, 0, none⟩ = some (.slice A n cap) ∧ wr.cell? ⟨w.heap.size + 1, 0, none⟩ = some (.slice none 0 0) ∧ wr.cell? ⟨w.heap.size + 1, 1, none⟩ = some (.bool false) ∧
    wr.frozen? ⟨w.heap.size + 1, 0, none⟩ = false ∧ wr.frozen? ⟨w.heap.size + 1, 1, none⟩ = false ∧ w.heap.size + 2 ≤ wr.heap.size ∧ RowKit.Below w.heap.size w wr
theorem TB.below {w wr wr' : World} {A : Option Addr} {n cap : Nat} (h : TB w A n cap wr) (hb : RowKit.Below wr.heap.size wr wr') : TB w A n cap wr' := by
  obtain ⟨h1, h2, h3, h4, h5, h6, h7⟩ := h
  refine ⟨by rw [hb.cell (p := ⟨w.heap.size, 0, none⟩) (by show w.heap.size < _; omega)]; exact h1, by rw [hb.cell (p := ⟨w.heap.size + 1, 0, none⟩) (by show w.heap.size + 1 < _; omega)]; exact h2, by rw [hb.cell (p := ⟨w.heap.size + 1, 1, none⟩) (by show w.heap.size + 1 < _; omega)]; exact h3,
    by rw [hb.frozen (p := ⟨w.heap.size + 1, 0, none⟩) (by show w.heap.size + 1 < _; omega)]; exact h4, by rw [hb.frozen (p := ⟨w.heap.size + 1, 1, none⟩) (by show w.heap.size + 1 < _; omega)]; exact h5, Nat.le_trans h6 hb.size, bl_trans h7 hb⟩
theorem TB.start (w : World) (A : Option Addr) (n cap : Nat) (f : Bool) : TB w A n cap ((w.alloc (.cells #[.slice A n cap, .bool f] 47)).alloc (.cells #[.slice none 0 0, .bool false] 47)) := by
  refine ⟨by simp [go_sem], ?_, ?_, ?_, ?_, by simp, ((RowKit.Below.refl _ _).alloc (Nat.le_refl _) _).alloc (by simp) _⟩
  all_goals
    have e : w.heap.size + 1 = (w.alloc (.cells #[.slice A n cap, .bool f] 47)).heap.size := by simp
    rw [e]
    simp [go_sem]
theorem str_ne {l k : List UInt8} (h : l ≠ k) : ((strB l).toList == (strB k).toList) = false := by
  rw [ByteArray.toList_eq, ByteArray.toList_eq]
  simpa [strB] using h
theorem valL_get {l : List UInt8} {i m : Nat} {x : UInt8} (h : l[i]? = some x) (hm : i < m) : valL ((l.take m).drop i) = (valL ((l.take m).drop (i + 1)) * 128 + x.toNat % 128) % 18446744073709551616 := by
  rw [drop_get (x := x) (by rw [List.getElem?_take_of_lt hm]; exact h), valL]
theorem wrap_step {acc : Int} {n xn : Nat} (h0 : 0 ≤ acc) (hn : acc.toNat = n) : IntKind.u64.wrap (IntKind.u64.wrap (acc * 128) + (xn : Int) % 128) = (((n * 128 + xn % 128) % 18446744073709551616 : Nat) : Int) := by
  rw [IntKind.wrap_u64, IntKind.wrap_u64, ← hn]
  omega
theorem take_no_more {bs : List UInt8} {k : Nat} {n : Nat} (h : ∀ v c, dec bs = some (v, c) → k < c) (hn : n = valL (bs.take (k + 1))) (hne : uvarint n ≠ bs.take (k + 1)) : ∀ v c, dec bs = some (v, c) → k + 1 < c := by
  intro v c hd
  have h1 := h v c hd
  rcases Nat.lt_or_ge (k + 1) c with h2 | h2
  · exact h2
  · exfalso
    have e : c = k + 1 := by omega
    subst e
    obtain ⟨e1, e2, e3⟩ := dec_some hd
    have e4 : bs.take (k + 1) = uvarint v := by
      conv => lhs; rw [e2]
      rw [← e1, List.take_left]
    apply hne
    rw [hn, e4, val_uv (by simpa using e3)]
theorem take_found {bs : List UInt8} {k n : Nat} (hn : n < 18446744073709551616) (he : uvarint n = bs.take (k + 1)) (hk : k < bs.length) : nV bs = n ∧ nR bs = bs.drop (k + 1) ∧ nO bs = true := by
  have := dec_take (by simpa using hn) he.symm (by omega)
  simp only [nV, nR, nO, this]
  exact ⟨trivial, trivial, trivial⟩
/-- what TakeNum answers -/
def TakenN (A0 : Option Addr) (bs : List UInt8) (w : World) (e : Ending) (w' : World) : Prop :=
  ∃ A cap, e = .returned (.tuple #[.agg #[.slice A (nR bs).length cap, .bool (!nO bs)], .int .u64 (nV bs : Int)]) ∧ RV w' A cap (nR bs) ∧ RowKit.Below w.heap.size w w' ∧ Sub A A0

set_option maxHeartbeats 1600000 in
set_option maxRecDepth 100000 in
theorem rtakenum (A : Option Addr) (cap : Nat) (bs : List UInt8) (f : Bool) (w : World) (h : RV w A cap bs) (hl : bs.length ≤ 400) :
    Calls Try.prog 21 #[.agg #[.slice A bs.length cap, .bool f]] w (TakenN A bs w) := by
  have H := Lib.hid h
  have HT := Lib.hid (TB.start w A bs.length cap f)
  clear h
  go_enter Try.func21, Try.ntmps21
  go_wp2
  go_loopg [4] 11 (fun g c4 wr => ∃ k : Nat, c4 = .int .i64 ((k : Int) + 1) ∧ k ≤ 10 ∧ k ≤ bs.length ∧ Hid (g + k = 11) ∧ Hid (∀ v c, dec bs = some (v, c) → k < c) ∧ Hid (TB w A bs.length cap wr))
  case atStart => exact ⟨0, rfl, by omega, by omega, rfl, (fun v c h => (dec_le h).1), HT.out⟩
  case round =>
    obtain ⟨k, rfl, hk, hkl, HG, HD, HB⟩ := hrel
    obtain ⟨h1, h2, h3, h4, h5, h6, h7⟩ := HB.out
    have HV := Lib.hid (H.out.below h7)
    have H6 := Lib.hid h6
    clear h7 h6
    by_cases hc : k ≤ 9 ∧ k < bs.length
    · obtain ⟨hk9, hlt⟩ := hc
      obtain ⟨W1, rfl⟩ : ∃ W, W = wr := ⟨_, rfl⟩
      go_wp2
      go_loopg [5, 6] (k + 1) (fun g c5 c6 wr2 => ∃ (j : Nat) (acc : Int), c6 = .int .i64 ((j : Int) - 1) ∧ c5 = .int .u64 acc ∧ j ≤ k + 1 ∧ Hid (g = j) ∧ 0 ≤ acc ∧ acc < 18446744073709551616 ∧ Hid (acc.toNat = valL ((bs.take (k + 1)).drop j)) ∧ W1 = wr2)
      case atStart => exact ⟨k + 1, 0, by go_num, rfl, by omega, rfl, by omega, by omega, (show _ = _ by rw [List.drop_eq_nil_of_le (by rw [List.length_take]; omega)]; rfl), rfl⟩
      case round =>
        obtain ⟨j, acc, hc6, rfl, hj, HGJ, ha0, ha1, HAC, rfl⟩ := hrel
        by_cases hj0 : 1 ≤ j
        · obtain ⟨i, rfl⟩ : ∃ i, j = i + 1 := ⟨j - 1, by omega⟩
          rw [show ((i + 1 : Nat) : Int) - 1 = (i : Int) by omega] at hc6
          subst hc6
          have hib : i < bs.length := by omega
          obtain ⟨x, hx, _, _⟩ := get_lt hib
          have hcell : ∃ b off, A = some ⟨b, off, none⟩ ∧ W1.cell? ⟨b, off + i, none⟩ = some (.int .u8 (x.toNat : Int)) := by
            rcases HV.out.1 with e | ⟨b, off, ha, hlt', hc⟩
            · rw [e] at hib; simp at hib
            · refine ⟨b, off, ha, ?_⟩
              rw [hc i hib]
              simp [List.getD, hx]
          obtain ⟨b, off, rfl, hcell⟩ := hcell
          have hx256 := u8lt x
          have EB := Lib.hid (wrap_step (xn := x.toNat) ha0 HAC.out)
          have EV := Lib.hid (valL_get hx (show i < k + 1 by omega))
          obtain ⟨t, ht⟩ : ∃ t : Int, t = (((valL ((bs.take (k + 1)).drop (i + 1)) * 128 + x.toNat % 128) % 18446744073709551616 : Nat) : Int) := ⟨_, rfl⟩
          rw [← ht] at EB
          have HTT := Lib.hid (show t.toNat = valL ((bs.take (k + 1)).drop i) by rw [ht, Int.toNat_natCast, EV.out])
          have ht0 : 0 ≤ t := by omega
          have ht1 : t < 18446744073709551616 := by have := valL_lt ((bs.take (k + 1)).drop i); have := HTT.out; omega
          clear ht hx
          go_upto_region 7 with (fail)
          rw [EB.out]
          go_wp2
          go_roundg i
          case measure => have := HGJ.out; omega
          case rel => exact ⟨i, t, by go_num, rfl, by omega, rfl, ht0, ht1, HTT.out, rfl⟩
        · obtain rfl : j = 0 := by omega
          rw [show ((0 : Nat) : Int) - 1 = -1 by omega] at hc6
          subst hc6
          have HAC2 := Lib.hid (show acc.toNat = valL (bs.take (k + 1)) by have := HAC.out; rw [List.drop_zero] at this; exact this)
          obtain ⟨C, hC⟩ : ∃ C, C = bs.take (k + 1) := ⟨_, rfl⟩
          have HCL := Lib.hid (show C.length = k + 1 by rw [hC, List.length_take]; omega)
          have HCB := Lib.hid (show BAt W1 A C by rw [hC]; exact HV.out.1.take (k + 1))
          have hcapk : k + 1 ≤ cap := by have := HV.out.2.1; omega
          have rt : ∀ W : World, (Instr.slice 22 (.slice A bs.length cap) none (some (.int .i64 ((k : Int) + 1))) none).run Try.prog W = .ok (.slice A (k + 1) cap) W := fun W => by
            have := run_to A bs.length cap (k + 1) hcapk W
            rwa [show ((k + 1 : Nat) : Int) = (k : Int) + 1 by omega] at this
          have rf : ∀ W : World, (Instr.slice 22 (.slice A bs.length cap) (some (.int .i64 ((k : Int) + 1))) none none).run Try.prog W = .ok (.slice (cutA A cap (k + 1)) (bs.length - (k + 1)) (cap - (k + 1))) W := fun W => by
            have := run_from A bs.length cap (k + 1) (by omega) W
            rwa [show ((k + 1 : Nat) : Int) = (k : Int) + 1 by omega] at this
          have hcb : ∀ W : World, RowKit.Below W1.heap.size W1 W → W.cell? ⟨w.heap.size, 0, none⟩ = some (.slice A bs.length cap) := fun W hW => (HB.out.below hW).1
          have HFAR := Lib.hid (show ∀ (W : World) (l : List UInt8), BAt W A bs → (l = [] ∨ ∀ g, some (w.heap.size + 1) = some g → ¬ inBlk (cutA A cap (k + 1)) g) from fun W l _ => Or.inr (by
            intro g e hin
            injection e with e
            subst e
            obtain ⟨p, hp, hq⟩ := cutA_blk hin
            rcases H.out.1 with e | ⟨b, off, ha, hlt', _⟩
            · rw [e] at hlt; simp at hlt
            · rw [ha] at hp; injection hp with hp; rw [← hp] at hq; have : b = w.heap.size + 1 := hq; omega))
          have RN := fun W => Lib.hid (refnum acc W ha0 ha1)
          clear h1 h2 h3 h4 h5 HAC
          by_cases hUC : uvarint acc.toNat = C
          · have HF := Lib.hid (take_found (by omega) (hUC.trans hC) hlt)
            rw [hUC] at RN
            clear hC hUC
            go_wp2_with fail
            refine wp_region_held_drew (S := fun W => RowKit.Below W1.heap.size W1 W) (by kernel_rfl) ?_ (fun hHeld => ?_)
            · exact (RowKit.Below.refl _ _).drew
            refine held_take 0 (v := ?_) rfl (by kernel_rfl) (by kernel_rfl) (by kernel_rfl) (fun _ _ _ h => h) hHeld (by rfl) ?_ ?_
            rotate_left
            · (intro W hW; go_simp; try with_reducible rfl)
            try simp only [Act.put, List.setIfInBounds_toArray, List.set_cons_zero, List.set_cons_succ]
            refine held_take 3 (v := ?_) rfl (by kernel_rfl) (by kernel_rfl) (by kernel_rfl) (fun _ _ _ h => h) hHeld (by rfl) ?_ ?_
            rotate_left
            · (intro W hW; go_simp; try with_reducible rfl)
            try simp only [Act.put, List.setIfInBounds_toArray, List.set_cons_zero, List.set_cons_succ]
            refine held_take 4 (v := ?_) rfl (by kernel_rfl) (by kernel_rfl) (by kernel_rfl) (fun _ _ _ h => h) hHeld (by rfl) ?_ ?_
            rotate_left
            · (intro W hW; have e := hcb W hW; go_simp; try with_reducible rfl)
            try simp only [Act.put, List.setIfInBounds_toArray, List.set_cons_zero, List.set_cons_succ]
            refine held_take 5 (v := ?_) rfl (by kernel_rfl) (by kernel_rfl) (by kernel_rfl) (fun _ _ _ h => h) hHeld (by rfl) ?_ ?_
            rotate_left
            · (intro W hW; go_simp; try with_reducible rfl)
            try simp only [Act.put, List.setIfInBounds_toArray, List.set_cons_zero, List.set_cons_succ]
            refine held_take 6 (v := ?_) rfl (by kernel_rfl) (by kernel_rfl) (by kernel_rfl) (fun _ _ _ h => h) hHeld (by rfl) ?_ ?_
            rotate_left
            · (intro W hW; go_simp; try with_reducible rfl)
            try simp only [Act.put, List.setIfInBounds_toArray, List.set_cons_zero, List.set_cons_succ]
            refine held_take 7 (v := ?_) rfl (by kernel_rfl) (by kernel_rfl) (by kernel_rfl) (fun _ _ _ h => h) hHeld (by rfl) ?_ ?_
            rotate_left
            · (intro W hW; have e := run_conv (HCB.out.below hW) (k + 1) cap HCL.out; go_simp; try with_reducible rfl)
            try simp only [Act.put, List.setIfInBounds_toArray, List.set_cons_zero, List.set_cons_succ]
            refine held_next 1 rfl (by kernel_rfl) (by rfl) (fun K hK => ?_)
            go_simp
            go_at_call 14
            refine (RN _).out.mono ?_
            rintro _ w4 h4
            obtain ⟨a4, c4, rfl, hb4, _, hB4, _⟩ := h4.row
            have HB4 := Lib.hid hb4
            have HX4 := Lib.hid (bl_trans (RowKit.Below.refl W1.heap.size W1).drew hB4)
            clear h4 hb4 hB4
            refine hK.out _ _ HX4.out (fun hHeld => ?_)
            clear hK K hHeld
            try simp only [Act.put, List.setIfInBounds_toArray, List.set_cons_zero, List.set_cons_succ]
            refine held_since HX4.out (fun hHeld => ?_)
            refine held_take 2 (v := ?_) rfl (by kernel_rfl) (by kernel_rfl) (by kernel_rfl) (fun _ _ _ h => h) hHeld (by rfl) ?_ ?_
            rotate_left
            · (intro W hW; have e := run_conv (HB4.out.below hW) _ c4 rfl; go_simp; try with_reducible rfl)
            try simp only [Act.put, List.setIfInBounds_toArray, List.set_cons_zero, List.set_cons_succ]
            refine held_take 8 (v := ?_) rfl (by kernel_rfl) (by kernel_rfl) (by kernel_rfl) (fun _ _ _ h => h) hHeld (by rfl) ?_ ?_
            rotate_left
            · (intro W hW; go_simp; try with_reducible rfl)
            try simp only [Act.put, List.setIfInBounds_toArray, List.set_cons_zero, List.set_cons_succ]
            refine wpAnyH_done (by kernel_rfl) ?_ _
            go_simp
            obtain ⟨g1, g2, g3, g4, g5, g6, g7⟩ := HB.out.below HX4.out
            have HW4 := Lib.hid g7
            have HV4 := Lib.hid (H.out.below g7)
            clear g7
            go_wp2
            refine bodyPost_ret (v := .tuple #[.agg #[.slice (cutA A cap (k + 1)) (bs.length - (k + 1)) (cap - (k + 1)), .bool false], .int .u64 acc]) (by simp [results, Try.results21, go_sem, g2, g3]) rfl ?_
            refine ⟨cutA A cap (k + 1), cap - (k + 1), ?_, ?_, ?_, fun _ h => cutA_blk h⟩
            · rw [HF.out.1, HF.out.2.1, HF.out.2.2, List.length_drop, Int.toNat_of_nonneg ha0]; rfl
            · rw [HF.out.2.1]
              obtain ⟨x1, x2, x3⟩ := HV4.out.drop (k := k + 1) (by omega)
              refine ⟨?_, x2, x3⟩
              exact (x1.grown (grown_set _ _ 0 _) (HFAR.out w4 _ HV4.out.1)).grown (grown_set _ _ 1 _) (HFAR.out w4 _ HV4.out.1)
            · exact RowKit.Below.setCell (RowKit.Below.setCell HW4.out (by show w.heap.size ≤ w.heap.size + 1; omega) _) (by show w.heap.size ≤ w.heap.size + 1; omega) _
          · have HNM := Lib.hid (take_no_more HD.out HAC2.out (by rw [← hC]; exact hUC))
            have hne := str_ne hUC
            generalize uvarint acc.toNat = U at *
            clear hC hUC
            go_wp2_with fail
            refine wp_region_held_drew (S := fun W => RowKit.Below W1.heap.size W1 W) (by kernel_rfl) ?_ (fun hHeld => ?_)
            · exact (RowKit.Below.refl _ _).drew
            refine held_take 0 (v := ?_) rfl (by kernel_rfl) (by kernel_rfl) (by kernel_rfl) (fun _ _ _ h => h) hHeld (by rfl) ?_ ?_
            rotate_left
            · (intro W hW; go_simp; try with_reducible rfl)
            try simp only [Act.put, List.setIfInBounds_toArray, List.set_cons_zero, List.set_cons_succ]
            refine held_take 3 (v := ?_) rfl (by kernel_rfl) (by kernel_rfl) (by kernel_rfl) (fun _ _ _ h => h) hHeld (by rfl) ?_ ?_
            rotate_left
            · (intro W hW; go_simp; try with_reducible rfl)
            try simp only [Act.put, List.setIfInBounds_toArray, List.set_cons_zero, List.set_cons_succ]
            refine held_take 4 (v := ?_) rfl (by kernel_rfl) (by kernel_rfl) (by kernel_rfl) (fun _ _ _ h => h) hHeld (by rfl) ?_ ?_
            rotate_left
            · (intro W hW; have e := hcb W hW; go_simp; try with_reducible rfl)
            try simp only [Act.put, List.setIfInBounds_toArray, List.set_cons_zero, List.set_cons_succ]
            refine held_take 5 (v := ?_) rfl (by kernel_rfl) (by kernel_rfl) (by kernel_rfl) (fun _ _ _ h => h) hHeld (by rfl) ?_ ?_
            rotate_left
            · (intro W hW; go_simp; try with_reducible rfl)
            try simp only [Act.put, List.setIfInBounds_toArray, List.set_cons_zero, List.set_cons_succ]
            refine held_take 6 (v := ?_) rfl (by kernel_rfl) (by kernel_rfl) (by kernel_rfl) (fun _ _ _ h => h) hHeld (by rfl) ?_ ?_
            rotate_left
            · (intro W hW; go_simp; try with_reducible rfl)
            try simp only [Act.put, List.setIfInBounds_toArray, List.set_cons_zero, List.set_cons_succ]
            refine held_take 7 (v := ?_) rfl (by kernel_rfl) (by kernel_rfl) (by kernel_rfl) (fun _ _ _ h => h) hHeld (by rfl) ?_ ?_
            rotate_left
            · (intro W hW; have e := run_conv (HCB.out.below hW) (k + 1) cap HCL.out; go_simp; try with_reducible rfl)
            try simp only [Act.put, List.setIfInBounds_toArray, List.set_cons_zero, List.set_cons_succ]
            refine held_next 1 rfl (by kernel_rfl) (by rfl) (fun K hK => ?_)
            go_simp
            go_at_call 14
            refine (RN _).out.mono ?_
            rintro _ w4 h4
            obtain ⟨a4, c4, rfl, hb4, _, hB4, _⟩ := h4.row
            have HB4 := Lib.hid hb4
            have HX4 := Lib.hid (bl_trans (RowKit.Below.refl W1.heap.size W1).drew hB4)
            clear h4 hb4 hB4
            refine hK.out _ _ HX4.out (fun hHeld => ?_)
            clear hK K hHeld
            try simp only [Act.put, List.setIfInBounds_toArray, List.set_cons_zero, List.set_cons_succ]
            refine held_since HX4.out (fun hHeld => ?_)
            refine held_take 2 (v := ?_) rfl (by kernel_rfl) (by kernel_rfl) (by kernel_rfl) (fun _ _ _ h => h) hHeld (by rfl) ?_ ?_
            rotate_left
            · (intro W hW; have e := run_conv (HB4.out.below hW) _ c4 rfl; go_simp; try with_reducible rfl)
            try simp only [Act.put, List.setIfInBounds_toArray, List.set_cons_zero, List.set_cons_succ]
            refine held_take 8 (v := ?_) rfl (by kernel_rfl) (by kernel_rfl) (by kernel_rfl) (fun _ _ _ h => h) hHeld (by rfl) ?_ ?_
            rotate_left
            · (intro W hW; go_simp; try with_reducible rfl)
            try simp only [Act.put, List.setIfInBounds_toArray, List.set_cons_zero, List.set_cons_succ]
            refine wpAnyH_done (by kernel_rfl) ?_ _
            go_simp
            have HB2 := Lib.hid (HB.out.below HX4.out)
            go_wp2
            go_roundg (10 - k)
            case measure => have := HG.out; omega
            case rel => exact ⟨k + 1, by go_num, by omega, by omega, (show _ = _ by omega), HNM.out, HB2.out⟩
    · have HN := Lib.hid (show dec bs = none by
        cases e : dec bs with
        | none => rfl
        | some r =>
          obtain ⟨v, c⟩ := r
          have := HD.out v c e
          have := dec_le e
          have h10 : c ≤ 10 := by
            obtain ⟨q1, _, q3⟩ := dec_some e
            rw [← q1]; exact uvarint_length64 (by simpa using q3)
          omega)
      obtain ⟨n1, n2, n3⟩ := n_none HN.out
      have HR := Lib.hid (And.intro n1 (And.intro n2 n3))
      clear n1 n2 n3
      have fin : ∀ w5 : World, RowKit.Below wr.heap.size wr w5 → Hid (w5.cell? ⟨w.heap.size + 1, 0, none⟩ = some (.slice none 0 0) ∧ w5.cell? ⟨w.heap.size + 1, 1, none⟩ = some (.bool false) ∧ w5.frozen? ⟨w.heap.size + 1, 0, none⟩ = false ∧ w5.frozen? ⟨w.heap.size + 1, 1, none⟩ = false ∧ RowKit.Below w.heap.size w w5) := fun w5 hb => by
        obtain ⟨_, g2, g3, g4, g5, _, g7⟩ := HB.out.below hb
        exact Lib.hid ⟨g2, g3, g4, g5, g7⟩
      have hk' : (10 ≤ k) ∨ (k ≤ 9 ∧ bs.length ≤ k) := by omega
      clear hc h2 h3 h4 h5
      rcases hk' with hk' | ⟨hk', hk''⟩
      all_goals
        go_wp2_with fail
        refine (failed_any _).mono ?_
        rintro _ w5 ⟨rfl, hb5⟩
        obtain ⟨g2, g3, g4, g5, g7⟩ := (fin w5 hb5).out
        have HW5 := Lib.hid g7
        clear g7 hb5 fin
        go_wp2
        refine bodyPost_ret (v := .tuple #[.agg #[.slice none 0 0, .bool true], .int .u64 0]) (by simp [results, Try.results21, go_sem, g2, g3]) rfl ?_
        refine ⟨none, 0, ?_, ?_, ?_, Sub.none _⟩
        · rw [HR.out.1, HR.out.2.1, HR.out.2.2]; rfl
        · rw [HR.out.2.1]; exact RV.nil _
        · exact RowKit.Below.setCell (RowKit.Below.setCell HW5.out (by show w.heap.size ≤ w.heap.size + 1; omega) _) (by show w.heap.size ≤ w.heap.size + 1; omega) _
end Go.Proofs.Ytcahmijcfmakjaa
