
/- Package log: pass. Package log: Open. Package log: Append. -/
import Derived.Test.YtdfbpaajkpnaeaaGreatLgAM
import Derived.Test.YtdfbpaajkpnaeaaGreatHld

namespace Go.Proofs.YtdfbpaajkpnaeaaGreat
set_option maxRecDepth 100000
open Go.RowKit Go.Lib

theorem elBs : El 52 23 1 24 := ⟨Tryz.underlying52, inf_of (z := Value.slice none 0 0) (by kernel_rfl) rfl, by decide⟩
/-- records: slices of bytes, in a slice of one's own -/
def Recs (w : World) (base : Nat) (v : Value) (L : List (List UInt8)) : Prop :=
  ∃ vs, w.ownsRow base 23 1 v L.length vs ∧ ∀ (i : Nat) (l : List UInt8), L[i]? = some l → ∃ (a : Option Addr) (c : Nat), vs[i]? = some (Value.slice a l.length c) ∧ BAt w a l ∧ (l = [] ∨ ∀ k, inBlk a k → base ≤ k ∧ v.ownBlock ≠ some k)
theorem Recs.nil (w : World) (base : Nat) : Recs w base (.slice none 0 0) [] := ⟨[], World.ownsRow_nil w base _ 1, fun i l h => by simp at h⟩
theorem BAt.lt {w : World} {a : Option Addr} {l : List UInt8} (h : BAt w a l) : l = [] ∨ ∀ k, inBlk a k → k < w.heap.size := by
  rcases h with h | ⟨b, off, ha, hlt, _⟩
  · exact Or.inl h
  · right
    rintro k ⟨p, hp, rfl⟩
    rw [ha] at hp
    cases hp
    exact hlt
theorem BAt.same {w w' : World} {a : Option Addr} {l : List UInt8} (h : BAt w a l) (hs : w.heap.size ≤ w'.heap.size) (hb : l = [] ∨ ∀ k, inBlk a k → w'.heap[k]? = w.heap[k]?) : BAt w' a l := by
  rcases h with h | ⟨b, off, ha, hlt, hc⟩
  · exact Or.inl h
  · rcases hb with hb | hb
    · exact Or.inl hb
    · refine Or.inr ⟨b, off, ha, Nat.lt_of_lt_of_le hlt hs, fun i hi => ?_⟩
      rw [World.cell?_of_block (a := ⟨b, off + i, none⟩) (hb b ⟨_, ha, rfl⟩)]
      exact hc i hi
theorem Recs.same {w w' : World} {base : Nat} {v : Value} {L : List (List UInt8)} (h : Recs w base v L) (hs : w.heap.size ≤ w'.heap.size) (hb : ∀ k, base ≤ k → k < w.heap.size → w'.heap[k]? = w.heap[k]?) : Recs w' base v L := by
  obtain ⟨vs, ho, hr⟩ := h
  refine ⟨vs, ow_same ho fun i hi => hb i (ho.lt i hi).1 (ho.lt i hi).2, fun i l hl => ?_⟩
  obtain ⟨a, c, h1, h2, h3⟩ := hr i l hl
  refine ⟨a, c, h1, h2.same hs ?_, h3⟩
  rcases h3 with h3 | h3
  · exact Or.inl h3
  · rcases h2.lt with h4 | h4
    · exact Or.inl h4
    · exact Or.inr fun k hk => hb k (h3 k hk).1 (h4 k hk)
theorem Recs.below {w w' : World} {base : Nat} {v : Value} {L : List (List UInt8)} (h : Recs w base v L) (hb : RowKit.Below w.heap.size w w') : Recs w' base v L := h.same hb.size fun k _ hk => hb.block k hk
theorem Recs.mono {w : World} {base b2 : Nat} {v : Value} {L : List (List UInt8)} (h : Recs w base v L) (hb : b2 ≤ base) : Recs w b2 v L := by
  obtain ⟨vs, ho, hr⟩ := h
  refine ⟨vs, ⟨ho.1, ho.2.imp id fun ⟨g, cap, cur, hv, hg, r⟩ => ⟨g, cap, cur, hv, Nat.le_trans hb hg, r⟩⟩, fun i l hl => ?_⟩
  obtain ⟨a, c, k1, k2, k3⟩ := hr i l hl
  exact ⟨a, c, k1, k2, k3.imp id fun k3 k hk => ⟨Nat.le_trans hb (k3 k hk).1, (k3 k hk).2⟩⟩
theorem Recs.form {w : World} {base : Nat} {v : Value} {L : List (List UInt8)} (h : Recs w base v L) : ∃ a c, v = Value.slice a L.length c := by
  obtain ⟨vs, ho, _⟩ := h
  obtain ⟨a, c, hv, _⟩ := ow_lie ho
  exact ⟨a, c, hv⟩
/-- one more -/
theorem Recs.app {w w2 w' : World} {base : Nat} {v v' : Value} {L : List (List UInt8)} {vs : List Value} {l : List UInt8} {a : Option Addr} {c : Nat}
    (hr : ∀ (i : Nat) (l : List UInt8), L[i]? = some l → ∃ (a : Option Addr) (c : Nat), vs[i]? = some (Value.slice a l.length c) ∧ BAt w a l ∧ (l = [] ∨ ∀ k, inBlk a k → base ≤ k ∧ v.ownBlock ≠ some k)) (hlen : vs.length = L.length)
    (hb : BAt w a l) (hn : l = [] ∨ ∀ k, inBlk a k → base ≤ k ∧ v.ownBlock ≠ some k) (h2 : RowKit.Below w.heap.size w w2)
    (h : Appd w2 base 23 1 v (L.length + 1) (vs ++ [Value.slice a l.length c]) v' w') : Recs w' base v' (L ++ [l]) := by
  obtain ⟨ho, hg, hv⟩ := h
  have keep : ∀ {a : Option Addr} {l : List UInt8}, BAt w a l → (l = [] ∨ ∀ k, inBlk a k → base ≤ k ∧ v.ownBlock ≠ some k) → BAt w' a l ∧ (l = [] ∨ ∀ k, inBlk a k → base ≤ k ∧ v'.ownBlock ≠ some k) := fun {a l} hb hn => by
    rcases hn with e | hn
    · exact ⟨Or.inl e, Or.inl e⟩
    · rcases hb.lt with e | hl
      · exact ⟨Or.inl e, Or.inl e⟩
      · refine ⟨(hb.below h2).same hg.size (Or.inr fun k hk => hg.block k (Nat.lt_of_lt_of_le (hl k hk) h2.size) (fun e => (hn k hk).2 e.symm)), Or.inr fun k hk => ⟨(hn k hk).1, ?_⟩⟩
        rcases hv with e | e
        · rw [e]; exact (hn k hk).2
        · rw [e]
          intro e2
          injection e2 with e2
          have := hl k hk
          have := h2.size
          omega
  refine ⟨_, by rw [List.length_append]; exact ho, fun i l' hl' => ?_⟩
  by_cases hi : i < L.length
  · rw [List.getElem?_append_left hi] at hl'
    obtain ⟨a', c', h1, h2, h3⟩ := hr i l' hl'
    obtain ⟨k1, k2⟩ := keep h2 h3
    exact ⟨a', c', by rw [List.getElem?_append_left (by omega)]; exact h1, k1, k2⟩
  · have hi2 : i = L.length := by
      have := (List.getElem?_eq_some_iff.1 hl').1
      simp at this
      omega
    subst hi2
    rw [List.getElem?_append_right (Nat.le_refl _)] at hl'
    simp at hl'
    subst hl'
    obtain ⟨k1, k2⟩ := keep hb hn
    exact ⟨a, c, by rw [List.getElem?_append_right (by omega), hlen]; simp, k1, k2⟩
theorem LgAt.set {w : World} {b g : Nat} {x z : Int} {n : Nat} (h : LgAt w b g x z n) (y : Int) : LgAt (w.setCell ⟨b, 2, none⟩ (.int .i64 y)) b g y z n := ⟨by rw [heap_setCell_same w b 2 _ _ _ h.bk]; rfl⟩
theorem setCell_other {w : World} {b i : Nat} {v : Value} : ∀ k, k ≠ b → (w.setCell ⟨b, i, none⟩ v).heap[k]? = w.heap[k]? := fun k hk => heap_setCell_other w _ k _ hk
def PassRes (b g : Nat) (x z : Int) (n m : Nat) (d : Dk) (w : World) (e : Ending) (w' : World) : Prop :=
  ∃ v L y, e = .returned v ∧ Run d z x m L y ∧ Recs w' w.heap.size v L ∧ LgAt w' b g y z n ∧ Only (fun i => i = b) w w' ∧ x ≤ y ∧ y ≤ z
/-- what has been read so far -/
structure PL (w wr : World) (F : Nat → Prop) (b g : Nat) (d : Dk) (x0 z : Int) (n m0 : Nat) (v : Value) (L : List (List UInt8)) (x : Int) (m : Nat) : Prop where
  dt : DAt wr F g d
  lg : LgAt wr b g x z n
  rc : Recs wr w.heap.size v L
  on : Only (fun i => i = b) w wr
  pr : Pre d z x0 m0 L x m
  x0 : 0 ≤ x0 ∧ x0 + (L.length : Int) ≤ x ∧ x ≤ z ∧ z ≤ 2048
  bl : b < w.heap.size
  fb : ∀ i, F i → i < w.heap.size
theorem PL.res {w wr : World} {F : Nat → Prop} {b g : Nat} {d : Dk} {x0 z : Int} {n m0 : Nat} {v : Value} {L : List (List UInt8)} {x : Int} {m : Nat} (h : PL w wr F b g d x0 z n m0 v L x m) {w' : World} (hb : RowKit.Below wr.heap.size wr w')
    (hs : (d.read x z).e ≠ 0 ∨ (d.read x z).n ≤ m ∨ okB (d.read x z).b = false) : PassRes b g x0 z n m0 d w (.returned v) w' :=
  ⟨v, L, x, rfl, h.pr.done hs, h.rc.below hb, h.lg.same (hb.block _ h.lg.lt), h.on.trans (Only.of_below hb : Only (fun _ => False) wr w') (fun _ e => e.elim), by have := h.x0; omega, h.x0.2.2.1⟩
set_option maxRecDepth 100000 in
set_option maxHeartbeats 3200000 in
theorem pass_any (b g : Nat) (x0 z : Int) (n m0 : Nat) (F : Nat → Prop) (d : Dk) (w : World) (hl : LgAt w b g x0 z n) (hd : DAt w F g d) (hF : ¬ F b) (hx : 0 ≤ x0 ∧ x0 ≤ z ∧ z ≤ 2048) (hm : m0 < 18446744073709551616) :
    Calls Tryz.prog 73 #[.pointer (some ⟨b, 0, none⟩), .int .u64 (m0 : Int)] w (PassRes b g x0 z n m0 d w) := by
  have HP0 := Lib.hid (show PL w w F b g d x0 z n m0 (.slice none 0 0) [] x0 m0 from ⟨hd, hl, Recs.nil _ _, Only.refl _ _, Pre.start _ _ _ _, ⟨hx.1, by simp, hx.2.1, hx.2.2⟩, hl.lt, hd.fl⟩)
  have HM0 := Lib.hid hm
  have HFB := Lib.hid hF
  clear hl hd hF hx hm
  go_enter Tryz.func73, Tryz.ntmps73
  go_wp2
  go_loopw [1, 5] (fun c1 c5 wr => ∃ (m : Nat) (v : Value) (L : List (List UInt8)) (x : Int), c1 = .int .u64 (m : Int) ∧ v = c5 ∧ Hid (m < 18446744073709551616) ∧ PL w wr F b g d x0 z n m0 v L x m) (fun c1 _ _ => 18446744073709551616 - (match c1 with | .int _ q => q | _ => 0).toNat)
  case atStart => exact ⟨m0, _, [], x0, rfl, rfl, HM0, HP0.out⟩
  case round =>
    obtain ⟨m, c5, L, x, rfl, rfl, HM, hp⟩ := hrel
    have HP := Lib.hid hp
    obtain ⟨hc0, hc1, hc2, _⟩ := hp.lg.cells
    have C0 := Lib.hid hc0
    have C1 := Lib.hid hc1
    have C2 := Lib.hid hc2
    have HRD := Lib.hid (fun (W : World) (hb : RowKit.Below wr.heap.size wr W) => read_any g F d x z W (hp.dt.below hb) (by have := hp.x0; unfold I; omega))
    have HS := Lib.hid (fun (W : World) (hb : RowKit.Below wr.heap.size wr W) => hp.res hb)
    have HIN := Lib.hid (fun (h : (d.read x z).e = 0) => read_in h)
    have HNX := Lib.hid (fun (he : (d.read x z).e = 0) (hn : m < (d.read x z).n) (ho : okB (d.read x z).b = true) => hp.pr.next he hn ho)
    obtain ⟨r, hr⟩ : ∃ r, r = d.read x z := ⟨_, rfl⟩
    rw [← hr] at HRD HS HIN HNX
    obtain ⟨rb, rn, rm, re⟩ := r
    unfold RdRes at HRD
    simp only at HRD HS HIN HNX
    clear hp hc0 hc1 hc2 hr
    go_wp2
    refine wp_region_held_drew (S := fun W => RowKit.Below wr.heap.size wr W) (by kernel_rfl) ?_ (fun hHeld => ?_)
    · exact (RowKit.Below.refl _ _).drew
    refine held_take 0 (v := ?_) rfl (by kernel_rfl) (by kernel_rfl) (by kernel_rfl) (fun _ _ _ h => h) hHeld (by rfl) ?_ ?_
    rotate_left
    · (intro W hW; go_simp; try with_reducible rfl)
    try simp only [Act.put, List.setIfInBounds_toArray, List.set_cons_zero, List.set_cons_succ]
    refine held_take 1 (v := ?_) rfl (by kernel_rfl) (by kernel_rfl) (by kernel_rfl) (fun _ _ _ h => h) hHeld (by rfl) ?_ ?_
    rotate_left
    · (intro W hW; go_simp; try with_reducible rfl)
    try simp only [Act.put, List.setIfInBounds_toArray, List.set_cons_zero, List.set_cons_succ]
    refine held_take 2 (v := ?_) rfl (by kernel_rfl) (by kernel_rfl) (by kernel_rfl) (fun _ _ _ h => h) hHeld (by rfl) ?_ ?_
    rotate_left
    · (intro W hW; go_simp; try with_reducible rfl)
    try simp only [Act.put, List.setIfInBounds_toArray, List.set_cons_zero, List.set_cons_succ]
    refine held_take 3 (v := ?_) rfl (by kernel_rfl) (by kernel_rfl) (by kernel_rfl) (fun _ _ _ h => h) hHeld (by rfl) ?_ ?_
    rotate_left
    · (intro W hW; have e0 := cell_bl C0.out hW; go_simp; try with_reducible rfl)
    try simp only [Act.put, List.setIfInBounds_toArray, List.set_cons_zero, List.set_cons_succ]
    refine held_take 4 (v := ?_) rfl (by kernel_rfl) (by kernel_rfl) (by kernel_rfl) (fun _ _ _ h => h) hHeld (by rfl) ?_ ?_
    rotate_left
    · (intro W hW; go_simp; try with_reducible rfl)
    try simp only [Act.put, List.setIfInBounds_toArray, List.set_cons_zero, List.set_cons_succ]
    refine held_take 5 (v := ?_) rfl (by kernel_rfl) (by kernel_rfl) (by kernel_rfl) (fun _ _ _ h => h) hHeld (by rfl) ?_ ?_
    rotate_left
    · (intro W hW; go_simp; try with_reducible rfl)
    try simp only [Act.put, List.setIfInBounds_toArray, List.set_cons_zero, List.set_cons_succ]
    refine held_take 6 (v := ?_) rfl (by kernel_rfl) (by kernel_rfl) (by kernel_rfl) (fun _ _ _ h => h) hHeld (by rfl) ?_ ?_
    rotate_left
    · (intro W hW; go_simp; try with_reducible rfl)
    try simp only [Act.put, List.setIfInBounds_toArray, List.set_cons_zero, List.set_cons_succ]
    refine held_take 7 (v := ?_) rfl (by kernel_rfl) (by kernel_rfl) (by kernel_rfl) (fun _ _ _ h => h) hHeld (by rfl) ?_ ?_
    rotate_left
    · (intro W hW; have e0 := cell_bl C2.out hW; go_simp; try with_reducible rfl)
    try simp only [Act.put, List.setIfInBounds_toArray, List.set_cons_zero, List.set_cons_succ]
    refine held_take 8 (v := ?_) rfl (by kernel_rfl) (by kernel_rfl) (by kernel_rfl) (fun _ _ _ h => h) hHeld (by rfl) ?_ ?_
    rotate_left
    · (intro W hW; go_simp; try with_reducible rfl)
    try simp only [Act.put, List.setIfInBounds_toArray, List.set_cons_zero, List.set_cons_succ]
    refine held_take 9 (v := ?_) rfl (by kernel_rfl) (by kernel_rfl) (by kernel_rfl) (fun _ _ _ h => h) hHeld (by rfl) ?_ ?_
    rotate_left
    · (intro W hW; go_simp; try with_reducible rfl)
    try simp only [Act.put, List.setIfInBounds_toArray, List.set_cons_zero, List.set_cons_succ]
    refine held_take 10 (v := ?_) rfl (by kernel_rfl) (by kernel_rfl) (by kernel_rfl) (fun _ _ _ h => h) hHeld (by rfl) ?_ ?_
    rotate_left
    · (intro W hW; go_simp; try with_reducible rfl)
    try simp only [Act.put, List.setIfInBounds_toArray, List.set_cons_zero, List.set_cons_succ]
    refine held_take 11 (v := ?_) rfl (by kernel_rfl) (by kernel_rfl) (by kernel_rfl) (fun _ _ _ h => h) hHeld (by rfl) ?_ ?_
    rotate_left
    · (intro W hW; have e0 := cell_bl C1.out hW; go_simp; try with_reducible rfl)
    try simp only [Act.put, List.setIfInBounds_toArray, List.set_cons_zero, List.set_cons_succ]
    refine held_next 12 rfl (by kernel_rfl) (by rfl) (fun K hK => ?_)
    go_simp
    go_at_call 88
    refine (HRD.out _ (RowKit.Below.refl _ _).drew).mono ?_
    rintro _ w3 ⟨a3, c3, rfl, hba3, hl3, hn3, hb3⟩
    have HB3 := Lib.hid (((RowKit.Below.refl wr.heap.size wr).drew).trans (hb3.mono (by simp)))
    have HBA3 := Lib.hid hba3
    have HL3 := Lib.hid hl3
    clear hba3 hl3 hn3 hb3 HRD
    refine hK.out _ _ (HB3.out) (fun hHeld => ?_)
    clear hK K
    try simp only [Act.put, List.setIfInBounds_toArray, List.set_cons_zero, List.set_cons_succ]
    refine held_take 13 (v := ?_) rfl (by kernel_rfl) (by kernel_rfl) (by kernel_rfl) (fun _ _ _ h => h) hHeld (by rfl) ?_ ?_
    rotate_left
    · (intro W hW; go_simp; try with_reducible rfl)
    try simp only [Act.put, List.setIfInBounds_toArray, List.set_cons_zero, List.set_cons_succ]
    refine held_take 14 (v := ?_) rfl (by kernel_rfl) (by kernel_rfl) (by kernel_rfl) (fun _ _ _ h => h) hHeld (by rfl) ?_ ?_
    rotate_left
    · (intro W hW; go_simp; try with_reducible rfl)
    try simp only [Act.put, List.setIfInBounds_toArray, List.set_cons_zero, List.set_cons_succ]
    refine held_take 15 (v := ?_) rfl (by kernel_rfl) (by kernel_rfl) (by kernel_rfl) (fun _ _ _ h => h) hHeld (by rfl) ?_ ?_
    rotate_left
    · (intro W hW; go_simp; try with_reducible rfl)
    try simp only [Act.put, List.setIfInBounds_toArray, List.set_cons_zero, List.set_cons_succ]
    refine held_take 16 (v := ?_) rfl (by kernel_rfl) (by kernel_rfl) (by kernel_rfl) (fun _ _ _ h => h) hHeld (by rfl) ?_ ?_
    rotate_left
    · (intro W hW; go_simp; try with_reducible rfl)
    try simp only [Act.put, List.setIfInBounds_toArray, List.set_cons_zero, List.set_cons_succ]
    refine held_take 17 (v := ?_) rfl (by kernel_rfl) (by kernel_rfl) (by kernel_rfl) (fun _ _ _ h => h) hHeld (by rfl) ?_ ?_
    rotate_left
    · (intro W hW; go_simp; try with_reducible rfl)
    try simp only [Act.put, List.setIfInBounds_toArray, List.set_cons_zero, List.set_cons_succ]
    refine held_take 18 (v := ?_) rfl (by kernel_rfl) (by kernel_rfl) (by kernel_rfl) (fun _ _ _ h => h) hHeld (by rfl) ?_ ?_
    rotate_left
    · (intro W hW; go_simp; try with_reducible rfl)
    try simp only [Act.put, List.setIfInBounds_toArray, List.set_cons_zero, List.set_cons_succ]
    refine held_take 19 (v := ?_) rfl (by kernel_rfl) (by kernel_rfl) (by kernel_rfl) (fun _ _ _ h => h) hHeld (by rfl) ?_ ?_
    rotate_left
    · (intro W hW; go_simp; try with_reducible rfl)
    try simp only [Act.put, List.setIfInBounds_toArray, List.set_cons_zero, List.set_cons_succ]
    refine held_take 20 (v := ?_) rfl (by kernel_rfl) (by kernel_rfl) (by kernel_rfl) (fun _ _ _ h => h) hHeld (by rfl) ?_ ?_
    rotate_left
    · (intro W hW; go_simp; try with_reducible rfl)
    try simp only [Act.put, List.setIfInBounds_toArray, List.set_cons_zero, List.set_cons_succ]
    refine held_take 21 (v := ?_) rfl (by kernel_rfl) (by kernel_rfl) (by kernel_rfl) (fun _ _ _ h => h) hHeld (by rfl) ?_ ?_
    rotate_left
    · (intro W hW; go_simp; try with_reducible rfl)
    try simp only [Act.put, List.setIfInBounds_toArray, List.set_cons_zero, List.set_cons_succ]
    refine wpAnyH_done (by kernel_rfl) ?_ _
    go_simp
    have HR9 := Lib.hid (HS.out _ HB3.out)
    by_cases he : re = 0
    · subst he
      by_cases hn : rn ≤ m
      · have d3 : decide ((rn : Int) ≤ (m : Int)) = true := by simp; omega
        have d4 : decide (rn ≤ m) = true := by simp; omega
        have HR := Lib.hid (HR9.out (Or.inr (Or.inl hn)))
        clear hn
        go_wp2
        try rw [Exit.noGoto_ret]
        go_ret
        exact HR.out
      · have d3 : decide ((rn : Int) ≤ (m : Int)) = false := by simp; omega
        have d4 : decide (rn ≤ m) = false := by simp; omega
        have HN := Lib.hid (show m < rn by omega)
        obtain ⟨i1, i2, i3, i4, i5, i6, i7, i8, i10⟩ := HIN.out (by first | rfl | trivial)
        have HI5 := Lib.hid i5
        have HI4 := Lib.hid i4
        have HRN := Lib.hid (show rn < 18446744073709551616 by rw [i7]; exact stN_lt (at_len HP.out.dt.ok _))
        have HCO := Lib.hid (copen_any a3 rb rb.length c3 w3 HBA3.out rfl HL3.out (by omega))
        have HOF := Lib.hid (fun (h : okB rb = false) (W : World) (hb : RowKit.Below wr.heap.size wr W) => HS.out W hb (Or.inr (Or.inr h)))
        have HRB := Lib.hid i8
        clear hn i1 i2 i3 i4 i5 i6 i7 i8 i10 HIN HR9
        go_wp2_with fail
        refine HCO.out.mono ?_
        rintro _ w4 (⟨ho, v4, rfl, hob, hb4, hne⟩ | ⟨ho, rfl, hb4⟩)
        · rw [if_pos ho] at hob
          have HBB4 := Lib.hid (HB3.out.trans (hb4.mono HB3.out.size))
          obtain ⟨a4, c4, rfl, hba4, hlc4, _, _, hbk4⟩ := hob.row
          have HOWN := Lib.hid hob.own
          have HBK4 := Lib.hid hbk4
          have HBA4 := Lib.hid hba4
          have HNX2 := Lib.hid (HNX.out (by first | rfl | trivial) HN.out ho)
          obtain ⟨vs, hvs, hrs⟩ := HP.out.rc.below HBB4.out
          have HVS := Lib.hid hvs
          have HRS := Lib.hid hrs
          have HVL := Lib.hid (show vs.length = L.length by rw [hvs.1, Nat.mul_one])
          have HLL := Lib.hid (show L.length + 1 ≤ 1000000 by have := HP.out.x0; omega)
          have HLG4 := Lib.hid (HP.out.lg.same (HBB4.out.block _ HP.out.lg.lt))
          obtain ⟨q, hq⟩ : ∃ q, q = cutB rb := ⟨_, rfl⟩
          rw [← hq] at hba4 hlc4 HNX2 HBA4 ⊢
          have HLC4 := Lib.hid hlc4
          have HWS := Lib.hid (show w.heap.size ≤ w4.heap.size from Nat.le_trans HP.out.on.size HBB4.out.size)
          have HB3S := Lib.hid (show wr.heap.size ≤ w3.heap.size from HB3.out.size)
          have HG5 := Lib.hid (fun (v5 : Value) (w5 : World) (h5 : Appd (w4.alloc (.cells #[.slice a4 q.length c4] 23)) w.heap.size 23 1 c5 (L.length + 1) (vs ++ [.slice a4 q.length c4]) v5 w5) => show LgAt w5 b g x z n from HLG4.out.same ((h5.2.1.block _ (by simp; exact Nat.lt_succ_of_lt HLG4.out.lt) (fun e => by have := (HVS.out.lt b e.symm).1; have := HP.out.bl; omega)).trans ((RowKit.Below.refl w4.heap.size w4).alloc (Nat.le_refl _) _ |>.block _ HLG4.out.lt)))
          have hwx : IntKind.i64.wrap (x + (rm : Int)) = x + (rm : Int) := IntWalk.i64_in _ (by have := HP.out.x0; have := HI5.out; omega)
          clear ho hob hb4 hba4 hlc4 hbk4 hne hvs hrs hq HCO HOF HNX
          go_wp2_with (at_builtin; refine wpList_appO elBs rfl _ _ rfl w.heap.size c5 L.length vs (some ⟨w4.heap.size, 0, none⟩) 1 1 [.slice a4 q.length c4] rfl rfl (ow_same HVS.out fun i hi => heap_alloc_old w4 _ (HVS.out.lt i hi).2) rfl (lie_new w4 [.slice a4 q.length c4] 23) (fun e => by cases e) (fun u hu => by rw [List.mem_singleton.1 hu]; rfl) HLL.out (by decide) (by simp; exact Nat.le_of_lt (Nat.lt_succ_of_le HWS.out)) ?_; intro v5 w5 h5; have k2 := (HG5.out _ _ h5).cells.2.2.1; have f2 := frozen_of_row w5 b 2 _ _ (HG5.out _ _ h5).bk)
          have HA5 := Lib.hid h5
          clear h5
          have HLG5 := Lib.hid (HG5.out _ _ HA5.out)
          go_wp2_with fail
          go_roundw
          case rel =>
            refine ⟨rn, v5, L ++ [q], x + (rm : Int), rfl, rfl, HRN, ?_⟩
            have hrec : Recs w5 w.heap.size v5 (L ++ [q]) := Recs.app HRS.out HVL.out HBA4.out (Or.inr fun k hk => by
              have h1 := HOWN.out k ((HBK4.out k).1 hk)
              have h2 : ∀ j, c5.ownBlock = some j → j < wr.heap.size := fun j hj => by
                obtain ⟨_, ho, _⟩ := HP.out.rc
                exact (ho.lt j hj).2
              refine ⟨Nat.le_trans HP.out.on.size (Nat.le_trans HB3S.out h1.1), fun e => ?_⟩
              have := h2 k e
              have := HB3S.out
              omega) ((RowKit.Below.refl _ _).alloc (Nat.le_refl _) _) HA5.out
            have hon5 : Only (fun i => i = b) w w5 := HP.out.on.trans (F' := fun i => c5.ownBlock = some i) ((Only.of_below HBB4.out : Only (fun i => c5.ownBlock = some i) wr w4).trans (F' := fun i => c5.ownBlock = some i) ((Only.of_below ((RowKit.Below.refl _ _).alloc (Nat.le_refl _) _) : Only (fun i => c5.ownBlock = some i) w4 _).trans (F' := fun i => c5.ownBlock = some i) (Only.of_grown HA5.out.2.1 (fun k e => e)) (fun i e => Or.inl e)) (fun i e => Or.inl e)) (fun i e => Or.inr (by obtain ⟨_, ho, _⟩ := HP.out.rc; exact (ho.lt i e).1))
            have hF5 : ∀ i, F i → w5.heap[i]? = wr.heap[i]? := fun i hi => by
              have hlt := HP.out.dt.fl i hi
              have h4 := HBB4.out.block i hlt
              have hlt4 : i < w4.heap.size := Nat.lt_of_lt_of_le hlt HBB4.out.size
              rw [HA5.out.2.1.block i (by simp; omega) (fun e => by
                have h1 := (HVS.out.lt i e.symm).1
                have h2 := HP.out.fb i hi
                omega), ((RowKit.Below.refl w4.heap.size w4).alloc (Nat.le_refl _) _).block i hlt4, h4]
            exact ⟨(HP.out.dt.same (Nat.le_trans HBB4.out.size (Nat.le_trans (by simp) HA5.out.2.1.size)) hF5).same (by simp) (fun i hi => setCell_other i (fun e => HFB.out (e ▸ hi))), HLG5.out.set _, hrec.same (by simp) (fun k hk _ => setCell_other k (fun e => by have := HP.out.bl; omega)), hon5.trans (F' := fun i => i = b) ⟨rfl, rfl, rfl, by simp, fun i _ hi => setCell_other i hi⟩ (fun i e => Or.inl e), HNX2.out, ⟨HP.out.x0.1, by rw [List.length_append]; have := HP.out.x0; have := HI4.out; simp; omega, HI5.out, HP.out.x0.2.2.2⟩, HP.out.bl, HP.out.fb⟩
          case measure => have h1 := HN.out; have h2 := HRN.out; simp; omega
        · have HR := Lib.hid (HOF.out ho _ (HB3.out.trans (hb4.mono HB3.out.size)))
          clear ho hb4
          go_wp2
          try rw [Exit.noGoto_ret]
          go_ret
          exact HR.out
    · have d3 : (re == 0) = false := by simpa using he
      have d4 : (re != 0) = true := by simpa using he
      have HR := Lib.hid (HR9.out (Or.inl he))
      clear he
      go_wp2
      try rw [Exit.noGoto_ret]
      go_ret
      exact HR.out
end Go.Proofs.YtdfbpaajkpnaeaaGreat

namespace Go.Proofs.YtdfbpaajkpnaeaaGreat
set_option maxRecDepth 100000
open Go.RowKit Go.Lib

/-- the stamp of the next record -/
def nextN (d : Dk) (x z : Int) (n : Nat) : Nat := (max n (topN d x (z - x).toNat) + 1) % 18446744073709551616
def OpenYes (g : Nat) (d : Dk) (x z : Int) (n : Nat) (w : World) (e : Ending) (w' : World) : Prop :=
  ∃ b v L y, e = .returned (.tuple #[.pointer (some ⟨b, 0, none⟩), v, .int .i64 0]) ∧ w.heap.size ≤ b ∧ Run d z x n L y ∧ Recs w' w.heap.size v L ∧ LgAt w' b g y z (nextN d x z n) ∧ x ≤ y ∧ y ≤ z ∧ RowKit.Below w.heap.size w w'
set_option maxHeartbeats 1600000 in
theorem lopen_no (g : Nat) (F : Nat → Prop) (d : Dk) (x z : Int) (n : Nat) (w : World) (h : DAt w F g d) (hno : x < 0 ∨ z < x ∨ (d.base.length : Int) < z) :
    Calls Tryz.prog 45 #[.pointer (some ⟨g, 0, none⟩), .int .i64 x, .int .i64 z, .int .u64 (n : Int)] w fun e w' => e = .returned (.tuple #[.pointer none, .slice none 0 0, .int .i64 81]) ∧ w = w' := by
  obtain ⟨N, hN⟩ : ∃ N, N = d.base.length := ⟨_, rfl⟩
  have HSZ := Lib.hid (size_at g F d w h)
  rw [← hN] at hno HSZ
  clear h hN
  have hcs : x < 0 ∨ (0 ≤ x ∧ z < x) ∨ (0 ≤ x ∧ x ≤ z ∧ (N : Int) < z) := by omega
  rcases hcs with h0 | ⟨h0, h1⟩ | ⟨h0, h1, h2⟩
  · have d0 : decide (x < 0) = true := by simpa using h0
    clear h0 hno
    go_enter Tryz.func45, Tryz.ntmps45
    go_wp2
    go_ret3
    exact ⟨rfl, rfl⟩
  · have d0 : decide (x < 0) = false := by simp; omega
    have d1 : decide (z < x) = true := by simpa using h1
    clear h0 h1 hno
    go_enter Tryz.func45, Tryz.ntmps45
    go_wp2
    go_ret3
    exact ⟨rfl, rfl⟩
  · have d0 : decide (x < 0) = false := by simp; omega
    have d1 : decide (z < x) = false := by simp; omega
    have d2 : decide ((N : Int) < z) = true := by simpa using h2
    clear h0 h1 h2 hno
    go_enter Tryz.func45, Tryz.ntmps45
    go_wp2_with fail
    refine HSZ.out.mono ?_
    rintro _ _ ⟨rfl, rfl⟩
    go_wp2
    go_ret3
    exact ⟨rfl, rfl⟩
set_option maxRecDepth 100000 in
set_option maxHeartbeats 1600000 in
theorem lopen_yes (g : Nat) (F : Nat → Prop) (d : Dk) (x z : Int) (n : Nat) (w : World) (h : DAt w F g d) (hx : 0 ≤ x ∧ x ≤ z ∧ z ≤ (d.base.length : Int)) (hn : n < 18446744073709551616) :
    Calls Tryz.prog 45 #[.pointer (some ⟨g, 0, none⟩), .int .i64 x, .int .i64 z, .int .u64 (n : Int)] w (OpenYes g d x z n w) := by
  obtain ⟨N, hN⟩ : ∃ N, N = d.base.length := ⟨_, rfl⟩
  have hsz := h.ok.sz
  have HSZ := Lib.hid (size_at g F d w h)
  have HTP := Lib.hid (top_any g F d x z w h (by unfold I; omega) (by unfold I; omega))
  obtain ⟨t, ht⟩ : ∃ t, t = topN d x (z - x).toNat := ⟨_, rfl⟩
  have htop : d.top x z = (t, 0) := by
    unfold Dk.top
    by_cases hxz : z ≤ x
    · rw [if_pos hxz, ht, show (z - x).toNat = 0 by omega]; rfl
    · rw [if_neg hxz, if_neg (by omega), ht]
  unfold TopRes at HTP
  rw [htop] at HTP
  have ht64 : t < 18446744073709551616 := by rw [ht]; exact topN_lt h.ok _ _
  obtain ⟨s, hs⟩ : ∃ s, s = nextN d x z n := ⟨_, rfl⟩
  have hs2 : s = (max n t + 1) % 18446744073709551616 := by rw [hs, ht]; rfl
  have HD := Lib.hid h
  have HSE := Lib.hid hs
  have HX := Lib.hid (show 0 ≤ x ∧ x ≤ z ∧ z ≤ 2048 by omega)
  have HN64 := Lib.hid hn
  have d0 : decide (x < 0) = false := by simp; omega
  have d1 : decide (z < x) = false := by simp; omega
  have d2 : decide ((N : Int) < z) = false := by simp; omega
  rw [← hN] at HSZ
  by_cases hnt : (n : Int) < (t : Int)
  · have hwr : IntKind.u64.wrap ((t : Int) + 1) = (s : Int) := by rw [IntKind.wrap_u64]; omega
    clear h hx hn hN hsz ht htop ht64 hs hs2
    go_enter Tryz.func45, Tryz.ntmps45
    go_wp2_with fail
    refine HSZ.out.mono ?_
    rintro _ _ ⟨rfl, rfl⟩
    go_wp2_with fail
    refine HTP.out.mono ?_
    rintro _ w1 ⟨rfl, hb1⟩
    have HB1 := Lib.hid hb1
    have HB2 := Lib.hid (hb1.alloc hb1.size (.cells #[.pointer (some ⟨g, 0, none⟩), .int .i64 z, .int .i64 x, .int .u64 (s : Int)] 111))
    have HPS := Lib.hid (pass_any w1.heap.size g x z s n F d (w1.alloc (.cells #[.pointer (some ⟨g, 0, none⟩), .int .i64 z, .int .i64 x, .int .u64 (s : Int)] 111)) ⟨heap_alloc_new w1 _⟩ (HD.out.below HB2.out) (fun e => by have := HD.out.fl _ e; have := HB1.out.size; omega) HX.out HN64.out)
    clear hb1 HTP HSZ
    go_wp2_with fail
    refine HPS.out.mono ?_
    rintro _ w2 ⟨v, L, y, rfl, hrun, hrec, hlg, hon, hy1, hy2⟩
    have HRUN := Lib.hid hrun
    have HREC := Lib.hid hrec
    have HLG := Lib.hid hlg
    have HON := Lib.hid hon
    have HY := Lib.hid (And.intro hy1 hy2)
    clear hrun hrec hlg hon hy1 hy2 HPS
    go_wp2
    go_ret3
    refine ⟨w1.heap.size, v, L, y, rfl, HB1.out.size, HRUN.out, ?_, by rw [← HSE.out]; exact HLG.out, HY.out.1, HY.out.2, HON.out.below HB2.out (fun i e => by rw [e]; exact HB1.out.size) HB2.out.size⟩
    exact HREC.out.mono HB2.out.size
  · have hnt' : (t : Int) ≤ (n : Int) := by omega
    have hwr : IntKind.u64.wrap ((n : Int) + 1) = (s : Int) := by rw [IntKind.wrap_u64]; omega
    clear h hx hn hN hsz ht htop ht64 hs hs2 hnt
    go_enter Tryz.func45, Tryz.ntmps45
    go_wp2_with fail
    refine HSZ.out.mono ?_
    rintro _ _ ⟨rfl, rfl⟩
    go_wp2_with fail
    refine HTP.out.mono ?_
    rintro _ w1 ⟨rfl, hb1⟩
    have HB1 := Lib.hid hb1
    have HB2 := Lib.hid (hb1.alloc hb1.size (.cells #[.pointer (some ⟨g, 0, none⟩), .int .i64 z, .int .i64 x, .int .u64 (s : Int)] 111))
    have HPS := Lib.hid (pass_any w1.heap.size g x z s n F d (w1.alloc (.cells #[.pointer (some ⟨g, 0, none⟩), .int .i64 z, .int .i64 x, .int .u64 (s : Int)] 111)) ⟨heap_alloc_new w1 _⟩ (HD.out.below HB2.out) (fun e => by have := HD.out.fl _ e; have := HB1.out.size; omega) HX.out HN64.out)
    clear hb1 HTP HSZ
    go_wp2_with fail
    refine HPS.out.mono ?_
    rintro _ w2 ⟨v, L, y, rfl, hrun, hrec, hlg, hon, hy1, hy2⟩
    have HRUN := Lib.hid hrun
    have HREC := Lib.hid hrec
    have HLG := Lib.hid hlg
    have HON := Lib.hid hon
    have HY := Lib.hid (And.intro hy1 hy2)
    clear hrun hrec hlg hon hy1 hy2 HPS
    go_wp2
    go_ret3
    refine ⟨w1.heap.size, v, L, y, rfl, HB1.out.size, HRUN.out, ?_, by rw [← HSE.out]; exact HLG.out, HY.out.1, HY.out.2, HON.out.below HB2.out (fun i e => by rw [e]; exact HB1.out.size) HB2.out.size⟩
    exact HREC.out.mono HB2.out.size
end Go.Proofs.YtdfbpaajkpnaeaaGreat

namespace Go.Proofs.YtdfbpaajkpnaeaaGreat
set_option maxRecDepth 100000
open Go.RowKit Go.Lib

/-- what Append does to the disk, and what it answers -/
def Dk.app (d : Dk) (x z : Int) (n : Nat) (l : List UInt8) : Dk × Int :=
  if 4096 < l.length then (d, 101) else if z - x < (spanN (l.length + 4) : Int) then (d, 102) else
    if (d.write x n (closed l)).2 = 0 then ((d.write x n (closed l)).1.flush, (d.write x n (closed l)).1.actE) else d.write x n (closed l)
structure Moved (F : Nat → Prop) (g b : Nat) (d' : Dk) (y z : Int) (m : Nat) (w w' : World) (F' : Nat → Prop) : Prop where
  dt : DAt w' F' g d'
  lg : LgAt w' b g y z m
  on : Only (fun i => F i ∨ i = b) w w'
  fr : ∀ i, F' i → F i ∨ w.heap.size ≤ i
  nb : ¬ F' b
def AppRes (F : Nat → Prop) (g b : Nat) (d : Dk) (x z : Int) (n : Nat) (l : List UInt8) (w : World) (e : Ending) (w' : World) : Prop :=
  ∃ F', e = .returned (.int .i64 (d.app x z n l).2) ∧ Moved F g b (d.app x z n l).1 (if (d.app x z n l).2 = 0 then x + (spanN (l.length + 4) : Int) else x) z (if (d.app x z n l).2 = 0 then n + 1 else n) w w' F'
theorem LgAt.set2 {w : World} {b g : Nat} {x z : Int} {n : Nat} (h : LgAt w b g x z n) (y : Int) (m : Nat) : LgAt ((w.setCell ⟨b, 2, none⟩ (.int .i64 y)).setCell ⟨b, 3, none⟩ (.int .u64 (m : Int))) b g y z m := by
  have h1 := h.set y
  exact ⟨by rw [heap_setCell_same _ b 3 _ _ _ h1.bk]; rfl⟩
theorem moved_same {F : Nat → Prop} {g b : Nat} {d : Dk} {x z : Int} {n : Nat} {w w' : World} (hd : DAt w F g d) (hl : LgAt w b g x z n) (hF : ¬ F b) (hb : RowKit.Below w.heap.size w w') : Moved F g b d x z n w w' F :=
  ⟨hd.below hb, hl.same (hb.block _ hl.lt), Only.of_below hb, fun _ h => Or.inl h, hF⟩
theorem moved_did {F F1 : Nat → Prop} {g b : Nat} {d d' : Dk} {x z : Int} {n : Nat} {w w1 w' : World} (h : Moved F g b d x z n w w1 F1) (hb : b < w.heap.size) (hd : Did g F1 d' w1 w') : ∃ F', Moved F g b d' x z n w w' F' := by
  obtain ⟨F', k1, k2, k3⟩ := hd
  have hs := h.on.size
  exact ⟨F', k1, h.lg.same (k2.block _ h.lg.lt h.nb), h.on.trans (F' := F1) k2 (fun i hi => (h.fr i hi).elim (fun e => Or.inl (Or.inl e)) Or.inr), fun i hi => (k3 i hi).elim (h.fr i) (fun e => Or.inr (Nat.le_trans hs e)), fun e => (k3 b e).elim h.nb (fun e => by omega)⟩
theorem Moved.below {F F1 : Nat → Prop} {g b : Nat} {d : Dk} {x z : Int} {n : Nat} {w w1 w' : World} (h : Moved F g b d x z n w w1 F1) (hb : RowKit.Below w1.heap.size w1 w') : Moved F g b d x z n w w' F1 :=
  ⟨h.dt.below hb, h.lg.same (hb.block _ h.lg.lt), h.on.trans (Only.of_below hb : Only (fun _ => False) w1 w') (fun _ e => e.elim), h.fr, h.nb⟩
theorem Moved.put {F F1 : Nat → Prop} {g b : Nat} {d : Dk} {x z : Int} {n : Nat} {w w1 : World} (h : Moved F g b d x z n w w1 F1) (y : Int) (m : Nat) : Moved F g b d y z m w ((w1.setCell ⟨b, 2, none⟩ (.int .i64 y)).setCell ⟨b, 3, none⟩ (.int .u64 (m : Int))) F1 := by
  have hk : ∀ k, k ≠ b → ((w1.setCell ⟨b, 2, none⟩ (.int .i64 y)).setCell ⟨b, 3, none⟩ (.int .u64 (m : Int))).heap[k]? = w1.heap[k]? := fun k hk => (setCell_other k hk).trans (setCell_other k hk)
  exact ⟨h.dt.same (by simp) (fun i hi => hk i (fun e => h.nb (e ▸ hi))), h.lg.set2 y m, h.on.trans (F' := fun i => i = b) ⟨rfl, rfl, rfl, by simp, fun i _ hi => hk i hi⟩ (fun i e => Or.inl (Or.inr e)), h.fr, h.nb⟩
set_option maxRecDepth 100000 in
set_option maxHeartbeats 3200000 in
theorem append_any (b g : Nat) (F : Nat → Prop) (d : Dk) (x z : Int) (n : Nat) (l : List UInt8) (a : Option Addr) (len cap : Nat) (w : World) (hl : LgAt w b g x z n) (hd : DAt w F g d) (hF : ¬ F b) (hx : 0 ≤ x ∧ x ≤ z ∧ z ≤ 2048) (hn : n + 1 < 18446744073709551616)
    (hb : BAt w a l) (hln : l.length = len) (ha : a = none → l = []) (hq : d.queue.length + 100 < 10000) :
    Calls Tryz.prog 30 #[.pointer (some ⟨b, 0, none⟩), .slice a len cap] w (AppRes F g b d x z n l w) := by
  have HM := Lib.hid (fun (w' : World) (h : RowKit.Below w.heap.size w w') => moved_same hd hl hF h)
  by_cases h1 : 4096 < len
  · have HR := Lib.hid (show AppRes F g b d x z n l w (.returned (.int .i64 101)) w by
      have e : d.app x z n l = (d, 101) := by unfold Dk.app; rw [if_pos (by omega)]
      unfold AppRes
      rw [e]
      exact ⟨F, rfl, HM.out _ (RowKit.Below.refl _ _)⟩)
    have d0 : decide ((4096 : Int) < (len : Int)) = true := by simp; omega
    clear hl hd hF hx hn hb hln ha hq h1
    go_enter Tryz.func30, Tryz.ntmps30
    go_wp2
    go_ret
    exact HR.out
  · have d0 : decide ((4096 : Int) < (len : Int)) = false := by simp; omega
    obtain ⟨k, hk⟩ : ∃ k, k = spanN (len + 4) := ⟨_, rfl⟩
    have hk255 : k ≤ 255 := by rw [hk]; exact spanN_le _
    have hk78 : k ≤ 78 := by rw [hk]; unfold spanN; rw [if_pos (by omega)]; omega
    have hneed : needN (len : Int) = k := by rw [hk]; exact needN_nat (by omega)
    have HND := Lib.hid (fun W => need_any (len : Int) W)
    rw [hneed] at HND
    have HRM := Lib.hid (room_any b g x z n w hl ⟨hx.1, by omega⟩ ⟨by omega, hx.2.2⟩)
    have HMD := Lib.hid (show ∀ w', RowKit.Below w.heap.size w w' → Moved F g b d x z n w w' F from HM.out)
    by_cases h2 : z - x < (k : Int)
    · have HR := Lib.hid (fun (w' : World) (h : RowKit.Below w.heap.size w w') => show AppRes F g b d x z n l w (.returned (.int .i64 102)) w' by
        have e : d.app x z n l = (d, 102) := by unfold Dk.app; rw [if_neg (by omega), hln, ← hk, if_pos h2]
        unfold AppRes
        rw [e]
        exact ⟨F, rfl, HM.out _ h⟩)
      have d1 : decide (z - x < (k : Int)) = true := by simpa using h2
      clear hl hd hF hx hn hb hln ha hq h1 h2 hk hk255 hk78 hneed HM
      go_enter Tryz.func30, Tryz.ntmps30
      go_wp2_with fail
      refine (HND.out _).mono ?_
      rintro _ _ ⟨rfl, rfl⟩
      go_wp2_with fail
      refine HRM.out.mono ?_
      rintro _ w1 ⟨rfl, hb1⟩
      have HB1 := Lib.hid hb1
      clear hb1
      go_wp2
      go_ret
      exact HR.out _ HB1.out
    · have d1 : decide (z - x < (k : Int)) = false := by simp; omega
      obtain ⟨C, hC⟩ : ∃ C, C = closed l := ⟨_, rfl⟩
      obtain ⟨p, hp⟩ : ∃ p, p = d.write x n C := ⟨_, rfl⟩
      obtain ⟨d1', E⟩ := p
      have happ : d.app x z n l = if E = 0 then (d1'.flush, d1'.actE) else (d1', E) := by
        unfold Dk.app
        rw [if_neg (by omega), hln, ← hk, if_neg h2, ← hC, ← hp]
      have HAP := Lib.hid happ
      have HCL := Lib.hid (fun (W : World) (h : RowKit.Below w.heap.size w W) => close_any a l len cap W (hb.below h) hln ha (by omega))
      rw [show l ++ sealL l = C from hC.symm] at HCL
      have hCl : C.length = len + 4 := by rw [hC, closed_len, hln]
      have HWR := Lib.hid (fun (W : World) (h : RowKit.Below w.heap.size w W) (a3 : Option Addr) (c3 : Nat) (h3 : BAt W a3 C) (hc : C.length ≤ c3) => write_any g F d x n C a3 C.length c3 W (hd.below h) (by unfold I; omega) (by omega) h3 rfl hc (by rw [hCl, ← hk]; omega))
      unfold WriteRes at HWR
      rw [← hp] at HWR
      simp only at HWR
      have HX := Lib.hid hx
      have HBLT := Lib.hid hl.lt
      have HKS := Lib.hid (show (k : Int) ≤ z - x by omega)
      have HLK := Lib.hid (show spanN (l.length + 4) = k by rw [hln, hk])
      have hwn : IntKind.u64.wrap ((n : Int) + 1) = ((n + 1 : Nat) : Int) := by rw [IntKind.wrap_u64]; omega
      have hwx : IntKind.i64.wrap (x + (k : Int)) = x + (k : Int) := IntWalk.i64_in _ (by omega)
      clear hl hd hF hx hn hb hln ha hq h1 h2 hk hk255 hk78 hneed hC hp happ hCl HM
      go_enter Tryz.func30, Tryz.ntmps30
      go_wp2_with fail
      refine (HND.out _).mono ?_
      rintro _ _ ⟨rfl, rfl⟩
      go_wp2_with fail
      refine HRM.out.mono ?_
      rintro _ w1 ⟨rfl, hb1⟩
      have HB1 := Lib.hid hb1
      have HM1 := Lib.hid (HMD.out _ hb1)
      have C0 := Lib.hid HM1.out.lg.cells.1
      have C2 := Lib.hid HM1.out.lg.cells.2.2.1
      have C3 := Lib.hid HM1.out.lg.cells.2.2.2
      clear hb1
      go_wp2
      refine wp_region_held_drew (S := fun W => Agree [b] w1 W) (by kernel_rfl) ?_ (fun hHeld => ?_)
      · exact fun _ _ => rfl
      refine held_take 0 (v := ?_) rfl (by kernel_rfl) (by kernel_rfl) (by kernel_rfl) (fun _ _ _ h => h) hHeld (by rfl) ?_ ?_
      rotate_left
      · (intro W hW; go_simp; try with_reducible rfl)
      try simp only [Act.put, List.setIfInBounds_toArray, List.set_cons_zero, List.set_cons_succ]
      refine held_take 1 (v := ?_) rfl (by kernel_rfl) (by kernel_rfl) (by kernel_rfl) (fun _ _ _ h => h) hHeld (by rfl) ?_ ?_
      rotate_left
      · (intro W hW; go_simp; try with_reducible rfl)
      try simp only [Act.put, List.setIfInBounds_toArray, List.set_cons_zero, List.set_cons_succ]
      refine held_take 2 (v := ?_) rfl (by kernel_rfl) (by kernel_rfl) (by kernel_rfl) (fun _ _ _ h => h) hHeld (by rfl) ?_ ?_
      rotate_left
      · (intro W hW; go_simp; try with_reducible rfl)
      try simp only [Act.put, List.setIfInBounds_toArray, List.set_cons_zero, List.set_cons_succ]
      refine held_take 3 (v := ?_) rfl (by kernel_rfl) (by kernel_rfl) (by kernel_rfl) (fun _ _ _ h => h) hHeld (by rfl) ?_ ?_
      rotate_left
      · (intro W hW; have e0 := hW.cell (b := b) (by simp) C0.out; go_simp; try with_reducible rfl)
      try simp only [Act.put, List.setIfInBounds_toArray, List.set_cons_zero, List.set_cons_succ]
      refine held_take 4 (v := ?_) rfl (by kernel_rfl) (by kernel_rfl) (by kernel_rfl) (fun _ _ _ h => h) hHeld (by rfl) ?_ ?_
      rotate_left
      · (intro W hW; go_simp; try with_reducible rfl)
      try simp only [Act.put, List.setIfInBounds_toArray, List.set_cons_zero, List.set_cons_succ]
      refine held_take 5 (v := ?_) rfl (by kernel_rfl) (by kernel_rfl) (by kernel_rfl) (fun _ _ _ h => h) hHeld (by rfl) ?_ ?_
      rotate_left
      · (intro W hW; go_simp; try with_reducible rfl)
      try simp only [Act.put, List.setIfInBounds_toArray, List.set_cons_zero, List.set_cons_succ]
      refine held_take 6 (v := ?_) rfl (by kernel_rfl) (by kernel_rfl) (by kernel_rfl) (fun _ _ _ h => h) hHeld (by rfl) ?_ ?_
      rotate_left
      · (intro W hW; go_simp; try with_reducible rfl)
      try simp only [Act.put, List.setIfInBounds_toArray, List.set_cons_zero, List.set_cons_succ]
      refine held_take 7 (v := ?_) rfl (by kernel_rfl) (by kernel_rfl) (by kernel_rfl) (fun _ _ _ h => h) hHeld (by rfl) ?_ ?_
      rotate_left
      · (intro W hW; have e0 := hW.cell (b := b) (by simp) C2.out; go_simp; try with_reducible rfl)
      try simp only [Act.put, List.setIfInBounds_toArray, List.set_cons_zero, List.set_cons_succ]
      refine held_take 8 (v := ?_) rfl (by kernel_rfl) (by kernel_rfl) (by kernel_rfl) (fun _ _ _ h => h) hHeld (by rfl) ?_ ?_
      rotate_left
      · (intro W hW; go_simp; try with_reducible rfl)
      try simp only [Act.put, List.setIfInBounds_toArray, List.set_cons_zero, List.set_cons_succ]
      refine held_take 9 (v := ?_) rfl (by kernel_rfl) (by kernel_rfl) (by kernel_rfl) (fun _ _ _ h => h) hHeld (by rfl) ?_ ?_
      rotate_left
      · (intro W hW; go_simp; try with_reducible rfl)
      try simp only [Act.put, List.setIfInBounds_toArray, List.set_cons_zero, List.set_cons_succ]
      refine held_take 10 (v := ?_) rfl (by kernel_rfl) (by kernel_rfl) (by kernel_rfl) (fun _ _ _ h => h) hHeld (by rfl) ?_ ?_
      rotate_left
      · (intro W hW; go_simp; try with_reducible rfl)
      try simp only [Act.put, List.setIfInBounds_toArray, List.set_cons_zero, List.set_cons_succ]
      refine held_take 11 (v := ?_) rfl (by kernel_rfl) (by kernel_rfl) (by kernel_rfl) (fun _ _ _ h => h) hHeld (by rfl) ?_ ?_
      rotate_left
      · (intro W hW; have e0 := hW.cell (b := b) (by simp) C3.out; go_simp; try with_reducible rfl)
      try simp only [Act.put, List.setIfInBounds_toArray, List.set_cons_zero, List.set_cons_succ]
      refine held_take 12 (v := ?_) rfl (by kernel_rfl) (by kernel_rfl) (by kernel_rfl) (fun _ _ _ h => h) hHeld (by rfl) ?_ ?_
      rotate_left
      · (intro W hW; go_simp; try with_reducible rfl)
      try simp only [Act.put, List.setIfInBounds_toArray, List.set_cons_zero, List.set_cons_succ]
      refine held_next 13 rfl (by kernel_rfl) (by rfl) (fun K hK => ?_)
      go_simp
      go_at_call 51
      refine (HCL.out _ (HB1.out.trans ((RowKit.Below.refl w1.heap.size w1).drew.mono HB1.out.size))).mono ?_
      rintro _ w3 h3
      obtain ⟨a3, c3, rfl, hb3, _, hB3, hc3⟩ := h3.row
      have HB31 := Lib.hid (((RowKit.Below.refl w1.heap.size w1).drew).trans (hB3.mono (by simp)))
      have HBA3 := Lib.hid hb3
      have HC3 := Lib.hid hc3
      clear h3 hb3 hB3 hc3
      refine hK.out _ _ (fun i hi => by rw [List.mem_singleton.1 hi]; exact HB31.out.block _ HM1.out.lg.lt) (fun hHeld => ?_)
      clear hK K
      try simp only [Act.put, List.setIfInBounds_toArray, List.set_cons_zero, List.set_cons_succ]
      refine held_next 14 rfl (by kernel_rfl) (by rfl) (fun K hK => ?_)
      go_simp
      go_at_call 50
      refine (HWR.out _ (HB1.out.trans (HB31.out.mono HB1.out.size)) a3 c3 HBA3.out HC3.out).mono ?_
      rintro _ w4 ⟨rfl, hdid⟩
      obtain ⟨F4, hm4⟩ := moved_did (HM1.out.below HB31.out) HBLT.out hdid
      have HM4 := Lib.hid hm4
      clear hdid hm4
      refine hK.out _ _ (fun i hi => by rw [List.mem_singleton.1 hi]; exact HM4.out.lg.bk.trans HM1.out.lg.bk.symm) (fun hHeld => ?_)
      clear hK K
      try simp only [Act.put, List.setIfInBounds_toArray, List.set_cons_zero, List.set_cons_succ]
      refine held_take 15 (v := ?_) rfl (by kernel_rfl) (by kernel_rfl) (by kernel_rfl) (fun _ _ _ h => h) hHeld (by rfl) ?_ ?_
      rotate_left
      · (intro W hW; go_simp; try with_reducible rfl)
      try simp only [Act.put, List.setIfInBounds_toArray, List.set_cons_zero, List.set_cons_succ]
      refine wpAnyH_done (by kernel_rfl) ?_ _
      go_simp
      by_cases hE : E = 0
      · subst hE
        have hap : d.app x z n l = (d1'.flush, d1'.actE) := by rw [HAP.out, if_pos rfl]
        have HAP2 := Lib.hid hap
        have HFL := Lib.hid (flush_any g F4 d1' w4 HM4.out.dt)
        unfold FlushRes at HFL
        have HMF := Lib.hid (fun (W : World) (h : Did g F4 d1'.flush w4 W) => moved_did HM4.out HBLT.out h)
        obtain ⟨A, hA⟩ : ∃ A, A = d1'.actE := ⟨_, rfl⟩
        rw [← hA] at HFL HAP2
        have k0 := HM4.out.lg.cells.1
        clear hap hA HAP
        go_wp2_with fail
        refine HFL.out.mono ?_
        rintro _ w5 ⟨rfl, hdid⟩
        obtain ⟨F5, hm5⟩ := HMF.out _ hdid
        have HM5 := Lib.hid hm5
        clear k0 hdid hm5 HFL HMF
        by_cases hA : A = 0
        · subst hA
          obtain ⟨_, _, k2, k3⟩ := HM5.out.lg.cells
          have f2 := frozen_of_row w5 b 2 _ _ HM5.out.lg.bk
          have f3 := frozen_of_row w5 b 3 _ _ HM5.out.lg.bk
          have HR := Lib.hid (show AppRes F g b d x z n l w (.returned (.int .i64 0)) ((w5.setCell ⟨b, 2, none⟩ (.int .i64 (x + (k : Int)))).setCell ⟨b, 3, none⟩ (.int .u64 ((n + 1 : Nat) : Int))) by
            unfold AppRes
            rw [HAP2.out, if_pos rfl, if_pos rfl, HLK.out]
            exact ⟨F5, rfl, HM5.out.put _ _⟩)
          go_wp2
          go_ret
          exact HR.out
        · have d5 : (A == 0) = false := by simpa using hA
          have d6 : (A != 0) = true := by simpa using hA
          have HR := Lib.hid (show AppRes F g b d x z n l w (.returned (.int .i64 A)) w5 by
            unfold AppRes
            rw [HAP2.out, if_neg hA, if_neg hA]
            exact ⟨F5, rfl, HM5.out⟩)
          clear hA
          go_wp2
          go_ret
          exact HR.out
      · have d3 : (E == 0) = false := by simpa using hE
        have d4 : (E != 0) = true := by simpa using hE
        have HR := Lib.hid (show AppRes F g b d x z n l w (.returned (.int .i64 E)) w4 by
          unfold AppRes
          rw [HAP.out, if_neg hE, if_neg hE, if_neg hE]
          exact ⟨F4, rfl, HM4.out⟩)
        clear hE
        go_wp2
        go_ret
        exact HR.out
end Go.Proofs.YtdfbpaajkpnaeaaGreat
