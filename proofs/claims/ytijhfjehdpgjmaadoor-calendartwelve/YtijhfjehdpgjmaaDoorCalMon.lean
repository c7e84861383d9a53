/- Months. -/
import Derived.Test.YtijhfjehdpgjmaaDoorCalMath
import Derived.Test.YtijhfjehdpgjmaaDoorCivC
namespace Go.Proofs.YtijhfjehdpgjmaaDoor
open Go.RowKit Go.Sort

/-- a date lies in block b, and may be written -/
def DBox (w : World) (b : Nat) (y m d : Int) : Prop :=
  b < w.heap.size ∧ (w.cell? ⟨b, 0, none⟩ = some (.int .i64 y) ∧ w.cell? ⟨b, 1, none⟩ = some (.int .i64 m) ∧ w.cell? ⟨b, 2, none⟩ = some (.int .i64 d)) ∧
    w.frozen? ⟨b, 0, none⟩ = false ∧ w.frozen? ⟨b, 1, none⟩ = false ∧ w.frozen? ⟨b, 2, none⟩ = false
theorem gfrozen {w w' : World} (h : Gr w w') {b o : Nat} {v : Bool} (hb : b < w.heap.size) (hc : w.frozen? ⟨b, o, none⟩ = v) : w'.frozen? ⟨b, o, none⟩ = v := by
  rw [World.frozen?_of_block (h.below.block b hb)]; exact hc
theorem DBox.made (w : World) (y m d : Int) (t : TypeId) : DBox (w.alloc (Obj.cells #[Value.int IntKind.i64 y, Value.int IntKind.i64 m, Value.int IntKind.i64 d] t)) w.heap.size y m d := by
  refine ⟨by simp, boxed w y m d t, ?_, ?_, ?_⟩ <;> simp [go_sem]
theorem DBox.gr {w w' : World} {b : Nat} {y m d : Int} (h : DBox w b y m d) (g : Gr w w') : DBox w' b y m d :=
  ⟨Nat.lt_of_lt_of_le h.1 g.size, ⟨gcell g h.1 h.2.1.1, gcell g h.1 h.2.1.2.1, gcell g h.1 h.2.1.2.2⟩, gfrozen g h.1 h.2.2.1, gfrozen g h.1 h.2.2.2.1, gfrozen g h.1 h.2.2.2.2⟩

theorem DBox.set2 {w : World} {b : Nat} {y m d : Int} (h : DBox w b y m d) (x : Int) : DBox (w.setCell ⟨b, 2, none⟩ (.int .i64 x)) b y m x := by
  obtain ⟨hb, ⟨c0, c1, c2⟩, g0, g1, g2⟩ := h
  refine ⟨by simpa using hb, ⟨?_, ?_, ?_⟩, ?_, ?_, ?_⟩ <;> simp [go_sem, c0, c1, c2, g0, g1, g2]
theorem DBox.other {w : World} {b : Nat} {y m d : Int} (h : DBox w b y m d) {t : Nat} (ht : b < t) (o : Nat) (v : Value) : DBox (w.setCell ⟨t, o, none⟩ v) b y m d := by
  obtain ⟨hb, ⟨c0, c1, c2⟩, g0, g1, g2⟩ := h
  have hne : b ≠ t := by omega
  refine ⟨by simpa using hb, ⟨?_, ?_, ?_⟩, ?_, ?_, ?_⟩ <;> simp [go_sem, c0, c1, c2, g0, g1, g2]

theorem mdiv {y m d n : Int} (h : rightP y m d) (h0 : -4800 ≤ n) (h1 : n ≤ 4800) : (y * 12 + m - 1 + n).tdiv 12 = mY y m n ∧ (y * 12 + m - 1 + n) % 12 = mM y m n - 1 := by
  have := mF_bd h h0 h1
  unfold mF at this
  unfold mY mM mF
  rw [Int.tdiv_eq_ediv_of_nonneg (by omega)]
  exact ⟨rfl, by omega⟩

set_option maxHeartbeats 400000 in
theorem months_no1 (y m d n : Int) (w : World) (hy : I y) (hL : Lens w) (hR : ¬ rightP y m d) : Calls Tryd.prog 14 #[.agg #[.int .i64 y, .int .i64 m, .int .i64 d], .int .i64 n] w fun e w' => e = .returned (.tuple #[.agg #[.int .i64 0, .int .i64 0, .int .i64 0], .int .i64 31]) ∧ Gr w w' := by
  have C : ∀ W, Lens W → Hid (Calls Tryd.prog 30 #[.agg #[.int .i64 y, .int .i64 m, .int .i64 d]] W fun e w' => e = .returned (.bool false) ∧ Gr W w') := fun W h => right_no W hy h hR
  have HL := Lib.hid hL
  clear hL hy hR
  obtain ⟨c0, c1, c2⟩ := boxed w y m d 32
  go_enter Tryd.func14, Tryd.ntmps14
  go_wp2_with fail
  refine (C _ (HL.out.gr (((Gr.refl _).alloc _).alloc _))).out.mono ?_
  rintro e w1 ⟨rfl, hg⟩
  have hB := (DBox.made (w.alloc (Obj.cells #[Value.int IntKind.i64 y, Value.int IntKind.i64 m, Value.int IntKind.i64 d] 32)) 0 0 0 32).gr hg
  have HG := Lib.hid ((((Gr.refl _).alloc _).alloc _).trans hg)
  clear hg c0 c1 c2 C
  obtain ⟨hb, ⟨e0, e1, e2⟩, g0, g1, g2⟩ := hB
  simp only [World.size_alloc] at hb e0 e1 e2 g0 g1 g2
  go_wp2
  refine bodyPost_ret (v := .tuple #[.agg #[.int .i64 0, .int .i64 0, .int .i64 0], .int .i64 31]) (by simp [results, Tryd.results14, go_sem, e0, e1, e2]) rfl ⟨rfl, ?_⟩
  repeat' (first | (with_reducible exact HG.out) | (with_reducible refine Gr.setCell ?_ ?_ _) | (simp; done))

set_option maxHeartbeats 400000 in
theorem months_no2 (y m d n : Int) (w : World) (hL : Lens w) (hR : rightP y m d) (hn : n < -4800 ∨ 4800 < n) : Calls Tryd.prog 14 #[.agg #[.int .i64 y, .int .i64 m, .int .i64 d], .int .i64 n] w fun e w' => e = .returned (.tuple #[.agg #[.int .i64 0, .int .i64 0, .int .i64 0], .int .i64 31]) ∧ Gr w w' := by
  have C : ∀ W, Lens W → Hid (Calls Tryd.prog 30 #[.agg #[.int .i64 y, .int .i64 m, .int .i64 d]] W fun e w' => e = .returned (.bool true) ∧ Gr W w') := fun W h => right_yes W ⟨by have := hR.1; omega, by have := hR.2.1; omega⟩ h hR
  have HL := Lib.hid hL
  clear hL hR
  obtain ⟨c0, c1, c2⟩ := boxed w y m d 32
  go_enter Tryd.func14, Tryd.ntmps14
  go_wp2_with fail
  refine (C _ (HL.out.gr (((Gr.refl _).alloc _).alloc _))).out.mono ?_
  rintro e w1 ⟨rfl, hg⟩
  have hB := (DBox.made (w.alloc (Obj.cells #[Value.int IntKind.i64 y, Value.int IntKind.i64 m, Value.int IntKind.i64 d] 32)) 0 0 0 32).gr hg
  have HG := Lib.hid ((((Gr.refl _).alloc _).alloc _).trans hg)
  clear hg c0 c1 c2 C
  obtain ⟨hb, ⟨e0, e1, e2⟩, g0, g1, g2⟩ := hB
  simp only [World.size_alloc] at hb e0 e1 e2 g0 g1 g2
  by_cases h1 : n < -4800
  · have d1 : decide (n < -4800) = true := by simpa using h1
    go_wp2
    refine bodyPost_ret (v := .tuple #[.agg #[.int .i64 0, .int .i64 0, .int .i64 0], .int .i64 31]) (by simp [results, Tryd.results14, go_sem, e0, e1, e2]) rfl ⟨rfl, ?_⟩
    repeat' (first | (with_reducible exact HG.out) | (with_reducible refine Gr.setCell ?_ ?_ _) | (simp; done))
  · have h2 : 4800 < n := by omega
    have d1 : decide (n < -4800) = false := by simpa using h1
    have d2 : decide (4800 < n) = true := by simpa using h2
    go_wp2
    refine bodyPost_ret (v := .tuple #[.agg #[.int .i64 0, .int .i64 0, .int .i64 0], .int .i64 31]) (by simp [results, Tryd.results14, go_sem, e0, e1, e2]) rfl ⟨rfl, ?_⟩
    repeat' (first | (with_reducible exact HG.out) | (with_reducible refine Gr.setCell ?_ ?_ _) | (simp; done))

/-- what Months answers behind its last question -/
def monV (r : Bool) (Y M D : Int) : Value := if r then .tuple #[.agg #[.int .i64 Y, .int .i64 M, .int .i64 D], .int .i64 0] else .tuple #[.agg #[.int .i64 0, .int .i64 0, .int .i64 0], .int .i64 31]

set_option maxHeartbeats 4000000 in
theorem months_core (y m d n Y M : Int) (r : Bool) (w : World) (hL : Lens w) (hR : rightP y m d) (h0 : -4800 ≤ n) (h1 : n ≤ 4800) (hY : mY y m n = Y) (hM : mM y m n = M)
    (E : ∀ W, Lens W → Calls Tryd.prog 30 #[.agg #[.int .i64 Y, .int .i64 M, .int .i64 (mD y m d n)]] W fun e w' => e = .returned (.bool r) ∧ Gr W w') :
    Calls Tryd.prog 14 #[.agg #[.int .i64 y, .int .i64 m, .int .i64 d], .int .i64 n] w fun e w' => e = .returned (monV r Y M (mD y m d n)) ∧ Gr w w' := by
  have HE := Lib.hid E
  have hYb := mY_bd hR h0 h1
  have hMb := mM_in y m n
  rw [hY] at hYb
  rw [hM] at hMb
  have hq := mdiv hR h0 h1
  rw [hY, hM] at hq
  obtain ⟨q1, q2⟩ := hq
  obtain ⟨a1, a2, a3, a4, a5, a6⟩ := hR
  have C : ∀ W, Lens W → Hid (Calls Tryd.prog 30 #[.agg #[.int .i64 y, .int .i64 m, .int .i64 d]] W fun e w' => e = .returned (.bool true) ∧ Gr W w') := fun W h => right_yes W ⟨by omega, by omega⟩ h ⟨a1, a2, a3, a4, a5, a6⟩
  have D : ∀ W, Lens W → Hid (Calls Tryd.prog 31 #[.int .i64 Y, .int .i64 M] W fun e w' => e = .returned (.int .i64 (lenF Y M)) ∧ W = w') := fun W h => length_any Y M W ⟨by omega, by omega⟩ h
  have F : ∀ W, Lens W → Hid (Calls Tryd.prog 31 #[.int .i64 y, .int .i64 m] W fun e w' => e = .returned (.int .i64 (lenF y m)) ∧ W = w') := fun W h => length_any y m W ⟨by omega, by omega⟩ h
  have HD := Lib.hid (show mD y m d n = if d = lenF y m then lenF Y M else if d ≤ lenF Y M then d else lenF Y M by unfold mD; rw [hY, hM])
  have l0 := lenF_lo Y M (by omega) (by omega)
  have l1 := lenF_hi Y M
  have l2 := lenF_hi y m
  generalize lenF Y M = L at *
  generalize lenF y m = L0 at *
  generalize mD y m d n = DD at *
  have HL := Lib.hid hL
  have HL0 := HL
  clear hL E hY hM
  obtain ⟨c0, c1, c2⟩ := boxed w y m d 32
  go_enter Tryd.func14, Tryd.ntmps14
  go_wp2_with fail
  refine (C _ (HL.out.gr (((Gr.refl _).alloc _).alloc _))).out.mono ?_
  rintro e w1 ⟨rfl, hg⟩
  have hB := (DBox.made (w.alloc (Obj.cells #[Value.int IntKind.i64 y, Value.int IntKind.i64 m, Value.int IntKind.i64 d] 32)) 0 0 0 32).gr hg
  have hA := ((DBox.made w y m d 32).gr ((Gr.refl _).alloc _)).gr hg
  have HG := Lib.hid ((((Gr.refl _).alloc _).alloc _).trans hg)
  clear hg c0 c1 c2 C
  simp only [World.size_alloc] at hB
  have HB := Lib.hid hB
  have HA := Lib.hid hA
  obtain ⟨hb, ⟨e0, e1, e2⟩, g0, g1, g2⟩ := hA
  clear g0 g1 g2
  have s0 := HG.out.size
  go_wp2_with fail
  refine (D _ (HL.out.gr (HG.out.alloc _))).out.mono ?_
  rintro e w2 ⟨rfl, rfl⟩
  have hT := DBox.made w1 Y M 0 32
  have gA := (Gr.refl w1).alloc (Obj.cells #[Value.int IntKind.i64 Y, Value.int IntKind.i64 M, Value.int IntKind.i64 0] 32)
  have HB2 := Lib.hid (HB.out.gr gA)
  have HA2 := Lib.hid (HA.out.gr gA)
  have f2 := HA2.out.2.1.2.2
  have HG2 := Lib.hid (HG.out.trans gA)
  have HT := Lib.hid hT
  have hS : w.heap.size + 1 < w1.heap.size := HB.out.1
  clear D q1 q2 HB HA HG e0 e1 e2 s0 gA hYb hMb hb
  obtain ⟨hbt, ⟨t0, t1, t2⟩, u0, u1, u2⟩ := hT
  generalize w1.heap.size = T at *
  generalize w1.alloc (Obj.cells #[Value.int IntKind.i64 Y, Value.int IntKind.i64 M, Value.int IntKind.i64 0] 32) = W at *
  have hLW : Lens W := HL.out.gr HG2.out
  clear HL
  by_cases hd : d ≤ L
  · have hq : (if d ≤ L then d else L) = d := if_pos hd
    have hd' : d ≤ L := by omega
    rw [hq] at HD
    clear hq hd
    have HT3 := Lib.hid (HT.out.set2 d)
    have HB3 := Lib.hid (HB2.out.other hS 2 (.int .i64 d))
    have HA3 := Lib.hid (HA2.out.other (show w.heap.size < T by omega) 2 (.int .i64 d))
    have HG3 := Lib.hid (HG2.out.setCell (p := ⟨T, 2, none⟩) (by show w.heap.size ≤ T; omega) (.int .i64 d))
    clear HT HB2 HA2
    go_wp2_with fail
    clear t0 t1 t2 u0 u1 u2 f2 hbt
    generalize W.setCell ⟨T, 2, none⟩ (.int .i64 d) = W2 at *
    obtain ⟨_, ⟨e0, e1, e2⟩, _, _, _⟩ := HA3.out
    have HF : ∀ n, Hid (Calls Tryd.prog 31 #[.int .i64 y, .int .i64 m] (W2.drewN n) fun e w' => e = .returned (.int .i64 L0) ∧ W2.drewN n = w') := fun n => F _ (HL0.out.gr (HG3.out.drewN n))
    clear F
    by_cases hE : d = L0
    · have HDD := Lib.hid (show DD = L by rw [HD.out, if_pos hE])
      clear HD
      subst hE
      go_quiet ((go_at_call 31; exact Calls.same' (HF _).out))
      have gq := (Gr.refl W2).drewN nq
      have HT5 := Lib.hid (HT3.out.gr gq)
      have HB5 := Lib.hid (HB3.out.gr gq)
      have HG5 := Lib.hid (HG3.out.trans gq)
      clear HT3 HB3 HG3 gq e0 e1 e2 HF HA3
      generalize W2.drewN nq = W3 at *
      obtain ⟨_, ⟨t0, t1, t2⟩, u0, u1, u2⟩ := HT5.out
      have HT6 := Lib.hid (HT5.out.set2 L)
      have HB6 := Lib.hid (HB5.out.other hS 2 (.int .i64 L))
      have HG6 := Lib.hid (HG5.out.setCell (p := ⟨T, 2, none⟩) (by show w.heap.size ≤ T; omega) (.int .i64 L))
      have HE2 := Lib.hid (show ∀ W, Lens W → Calls Tryd.prog 30 #[.agg #[.int .i64 Y, .int .i64 M, .int .i64 L]] W fun e w' => e = .returned (.bool r) ∧ Gr W w' by have := HE.out; rw [HDD.out] at this; exact this)
      clear HE
      go_wp2_with fail
      clear t0 t1 t2 u0 u1 u2
      generalize W3.setCell ⟨T, 2, none⟩ (.int .i64 L) = W4 at *
      refine (HE2.out _ (HL0.out.gr HG6.out)).mono ?_
      rintro e w5 ⟨rfl, hg5⟩
      obtain ⟨hb1, ⟨e0, e1, e2⟩, g0, g1, g2⟩ := HB6.out.gr hg5
      obtain ⟨hb2, ⟨k0, k1, k2⟩, k3, k4, k5⟩ := HT6.out.gr hg5
      have HG7 := Lib.hid (HG6.out.trans hg5)
      clear hg5
      have n0 : ¬ T = w.heap.size + 1 := by omega
      have n1 : ¬ w.heap.size + 1 = T := by omega
      cases r
      · go_wp2
        refine bodyPost_ret (v := .tuple #[.agg #[.int .i64 0, .int .i64 0, .int .i64 0], .int .i64 31]) (by simp [results, Tryd.results14, go_sem, e0, e1, e2]) rfl ⟨by rw [HDD.out]; rfl, ?_⟩
        repeat' (first | (with_reducible exact HG7.out) | (with_reducible refine Gr.setCell ?_ ?_ _) | (simp; done))
      · go_wp2
        refine bodyPost_ret (v := .tuple #[.agg #[.int .i64 Y, .int .i64 M, .int .i64 L], .int .i64 0]) (by simp [results, Tryd.results14, go_sem, e0, e1, e2]) rfl ⟨by rw [HDD.out]; rfl, ?_⟩
        repeat' (first | (with_reducible exact HG7.out) | (with_reducible refine Gr.setCell ?_ ?_ _) | (simp; done))
    · have d0 : decide (d = L0) = false := by simpa using hE
      have HDD := Lib.hid (show DD = d by rw [HD.out, if_neg hE])
      clear HD
      go_quiet ((go_at_call 31; exact Calls.same' (HF _).out))
      have gq := (Gr.refl W2).drewN nq
      have HT5 := Lib.hid (HT3.out.gr gq)
      have HB5 := Lib.hid (HB3.out.gr gq)
      have HG5 := Lib.hid (HG3.out.trans gq)
      clear HT3 HB3 HG3 gq e0 e1 e2 HF HA3
      generalize W2.drewN nq = W3 at *
      obtain ⟨_, ⟨t0, t1, t2⟩, u0, u1, u2⟩ := HT5.out
      have HT6 := HT5
      have HB6 := HB5
      have HG6 := HG5
      have HE2 := Lib.hid (show ∀ W, Lens W → Calls Tryd.prog 30 #[.agg #[.int .i64 Y, .int .i64 M, .int .i64 d]] W fun e w' => e = .returned (.bool r) ∧ Gr W w' by have := HE.out; rw [HDD.out] at this; exact this)
      clear HE
      go_wp2_with fail
      refine (HE2.out _ (HL0.out.gr HG6.out)).mono ?_
      rintro e w5 ⟨rfl, hg5⟩
      obtain ⟨hb1, ⟨e0, e1, e2⟩, g0, g1, g2⟩ := HB6.out.gr hg5
      obtain ⟨hb2, ⟨k0, k1, k2⟩, k3, k4, k5⟩ := HT6.out.gr hg5
      have HG7 := Lib.hid (HG6.out.trans hg5)
      clear hg5
      have n0 : ¬ T = w.heap.size + 1 := by omega
      have n1 : ¬ w.heap.size + 1 = T := by omega
      cases r
      · go_wp2
        refine bodyPost_ret (v := .tuple #[.agg #[.int .i64 0, .int .i64 0, .int .i64 0], .int .i64 31]) (by simp [results, Tryd.results14, go_sem, e0, e1, e2]) rfl ⟨by rw [HDD.out]; rfl, ?_⟩
        repeat' (first | (with_reducible exact HG7.out) | (with_reducible refine Gr.setCell ?_ ?_ _) | (simp; done))
      · go_wp2
        refine bodyPost_ret (v := .tuple #[.agg #[.int .i64 Y, .int .i64 M, .int .i64 d], .int .i64 0]) (by simp [results, Tryd.results14, go_sem, e0, e1, e2]) rfl ⟨by rw [HDD.out]; rfl, ?_⟩
        repeat' (first | (with_reducible exact HG7.out) | (with_reducible refine Gr.setCell ?_ ?_ _) | (simp; done))
  · have hq : (if d ≤ L then d else L) = L := if_neg hd
    have hd' : L < d := by omega
    rw [hq] at HD
    clear hq hd
    have HT3 := Lib.hid (HT.out.set2 L)
    have HB3 := Lib.hid (HB2.out.other hS 2 (.int .i64 L))
    have HA3 := Lib.hid (HA2.out.other (show w.heap.size < T by omega) 2 (.int .i64 L))
    have HG3 := Lib.hid (HG2.out.setCell (p := ⟨T, 2, none⟩) (by show w.heap.size ≤ T; omega) (.int .i64 L))
    clear HT HB2 HA2
    go_wp2_with fail
    clear t0 t1 t2 u0 u1 u2 f2 hbt
    generalize W.setCell ⟨T, 2, none⟩ (.int .i64 L) = W2 at *
    obtain ⟨_, ⟨e0, e1, e2⟩, _, _, _⟩ := HA3.out
    have HF : ∀ n, Hid (Calls Tryd.prog 31 #[.int .i64 y, .int .i64 m] (W2.drewN n) fun e w' => e = .returned (.int .i64 L0) ∧ W2.drewN n = w') := fun n => F _ (HL0.out.gr (HG3.out.drewN n))
    clear F
    by_cases hE : d = L0
    · have HDD := Lib.hid (show DD = L by rw [HD.out, if_pos hE])
      clear HD
      subst hE
      go_quiet ((go_at_call 31; exact Calls.same' (HF _).out))
      have gq := (Gr.refl W2).drewN nq
      have HT5 := Lib.hid (HT3.out.gr gq)
      have HB5 := Lib.hid (HB3.out.gr gq)
      have HG5 := Lib.hid (HG3.out.trans gq)
      clear HT3 HB3 HG3 gq e0 e1 e2 HF HA3
      generalize W2.drewN nq = W3 at *
      obtain ⟨_, ⟨t0, t1, t2⟩, u0, u1, u2⟩ := HT5.out
      have HT6 := Lib.hid (HT5.out.set2 L)
      have HB6 := Lib.hid (HB5.out.other hS 2 (.int .i64 L))
      have HG6 := Lib.hid (HG5.out.setCell (p := ⟨T, 2, none⟩) (by show w.heap.size ≤ T; omega) (.int .i64 L))
      have HE2 := Lib.hid (show ∀ W, Lens W → Calls Tryd.prog 30 #[.agg #[.int .i64 Y, .int .i64 M, .int .i64 L]] W fun e w' => e = .returned (.bool r) ∧ Gr W w' by have := HE.out; rw [HDD.out] at this; exact this)
      clear HE
      go_wp2_with fail
      clear t0 t1 t2 u0 u1 u2
      generalize W3.setCell ⟨T, 2, none⟩ (.int .i64 L) = W4 at *
      refine (HE2.out _ (HL0.out.gr HG6.out)).mono ?_
      rintro e w5 ⟨rfl, hg5⟩
      obtain ⟨hb1, ⟨e0, e1, e2⟩, g0, g1, g2⟩ := HB6.out.gr hg5
      obtain ⟨hb2, ⟨k0, k1, k2⟩, k3, k4, k5⟩ := HT6.out.gr hg5
      have HG7 := Lib.hid (HG6.out.trans hg5)
      clear hg5
      have n0 : ¬ T = w.heap.size + 1 := by omega
      have n1 : ¬ w.heap.size + 1 = T := by omega
      cases r
      · go_wp2
        refine bodyPost_ret (v := .tuple #[.agg #[.int .i64 0, .int .i64 0, .int .i64 0], .int .i64 31]) (by simp [results, Tryd.results14, go_sem, e0, e1, e2]) rfl ⟨by rw [HDD.out]; rfl, ?_⟩
        repeat' (first | (with_reducible exact HG7.out) | (with_reducible refine Gr.setCell ?_ ?_ _) | (simp; done))
      · go_wp2
        refine bodyPost_ret (v := .tuple #[.agg #[.int .i64 Y, .int .i64 M, .int .i64 L], .int .i64 0]) (by simp [results, Tryd.results14, go_sem, e0, e1, e2]) rfl ⟨by rw [HDD.out]; rfl, ?_⟩
        repeat' (first | (with_reducible exact HG7.out) | (with_reducible refine Gr.setCell ?_ ?_ _) | (simp; done))
    · have d0 : decide (d = L0) = false := by simpa using hE
      have HDD := Lib.hid (show DD = L by rw [HD.out, if_neg hE])
      clear HD
      go_quiet ((go_at_call 31; exact Calls.same' (HF _).out))
      have gq := (Gr.refl W2).drewN nq
      have HT5 := Lib.hid (HT3.out.gr gq)
      have HB5 := Lib.hid (HB3.out.gr gq)
      have HG5 := Lib.hid (HG3.out.trans gq)
      clear HT3 HB3 HG3 gq e0 e1 e2 HF HA3
      generalize W2.drewN nq = W3 at *
      obtain ⟨_, ⟨t0, t1, t2⟩, u0, u1, u2⟩ := HT5.out
      have HT6 := HT5
      have HB6 := HB5
      have HG6 := HG5
      have HE2 := Lib.hid (show ∀ W, Lens W → Calls Tryd.prog 30 #[.agg #[.int .i64 Y, .int .i64 M, .int .i64 L]] W fun e w' => e = .returned (.bool r) ∧ Gr W w' by have := HE.out; rw [HDD.out] at this; exact this)
      clear HE
      go_wp2_with fail
      refine (HE2.out _ (HL0.out.gr HG6.out)).mono ?_
      rintro e w5 ⟨rfl, hg5⟩
      obtain ⟨hb1, ⟨e0, e1, e2⟩, g0, g1, g2⟩ := HB6.out.gr hg5
      obtain ⟨hb2, ⟨k0, k1, k2⟩, k3, k4, k5⟩ := HT6.out.gr hg5
      have HG7 := Lib.hid (HG6.out.trans hg5)
      clear hg5
      have n0 : ¬ T = w.heap.size + 1 := by omega
      have n1 : ¬ w.heap.size + 1 = T := by omega
      cases r
      · go_wp2
        refine bodyPost_ret (v := .tuple #[.agg #[.int .i64 0, .int .i64 0, .int .i64 0], .int .i64 31]) (by simp [results, Tryd.results14, go_sem, e0, e1, e2]) rfl ⟨by rw [HDD.out]; rfl, ?_⟩
        repeat' (first | (with_reducible exact HG7.out) | (with_reducible refine Gr.setCell ?_ ?_ _) | (simp; done))
      · go_wp2
        refine bodyPost_ret (v := .tuple #[.agg #[.int .i64 Y, .int .i64 M, .int .i64 L], .int .i64 0]) (by simp [results, Tryd.results14, go_sem, e0, e1, e2]) rfl ⟨by rw [HDD.out]; rfl, ?_⟩
        repeat' (first | (with_reducible exact HG7.out) | (with_reducible refine Gr.setCell ?_ ?_ _) | (simp; done))

/-- where Months has an answer, and where not -/
theorem months_yes {y m d n : Int} (w : World) (hL : Lens w) (h : okM y m d n) :
    Calls Tryd.prog 14 #[.agg #[.int .i64 y, .int .i64 m, .int .i64 d], .int .i64 n] w fun e w' => e = .returned (.tuple #[.agg #[.int .i64 (mY y m n), .int .i64 (mM y m n), .int .i64 (mD y m d n)], .int .i64 0]) ∧ Gr w w' := by
  have hr := okM_right h
  exact months_core y m d n _ _ true w hL h.1 h.2.1 h.2.2.1 rfl rfl (fun W hW => right_yes W ⟨by have := hr.1; omega, by have := hr.2.1; omega⟩ hW hr)
theorem months_no {y m d n : Int} (w : World) (hy : I y) (hL : Lens w) (h : ¬ okM y m d n) :
    Calls Tryd.prog 14 #[.agg #[.int .i64 y, .int .i64 m, .int .i64 d], .int .i64 n] w fun e w' => e = .returned (.tuple #[.agg #[.int .i64 0, .int .i64 0, .int .i64 0], .int .i64 31]) ∧ Gr w w' := by
  by_cases hR : rightP y m d
  · by_cases hn : n < -4800 ∨ 4800 < n
    · exact months_no2 y m d n w hL hR hn
    · have hb := mY_bd hR (n := n) (by omega) (by omega)
      exact months_core y m d n _ _ false w hL hR (by omega) (by omega) rfl rfl (fun W hW => right_no W ⟨by omega, by omega⟩ hW (okM_wrong hR (by omega) (by omega) h))
  · exact months_no1 y m d n w hy hL hR
end Go.Proofs.YtijhfjehdpgjmaaDoor
