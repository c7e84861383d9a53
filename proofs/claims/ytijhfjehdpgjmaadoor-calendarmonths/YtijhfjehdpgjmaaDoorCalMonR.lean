/- Months of the document's answer. -/
import Derived.Test.YtijhfjehdpgjmaaDoorCalMon
namespace Go.Proofs.YtijhfjehdpgjmaaDoor
open Go.RowKit Go.Sort

theorem DBox.set0 {w : World} {b : Nat} {y m d : Int} (h : DBox w b y m d) (x : Int) : DBox (w.setCell ⟨b, 0, none⟩ (.int .i64 x)) b x m d := by
  obtain ⟨hb, ⟨c0, c1, c2⟩, g0, g1, g2⟩ := h
  refine ⟨by simpa using hb, ⟨?_, ?_, ?_⟩, ?_, ?_, ?_⟩ <;> simp [go_sem, c0, c1, c2, g0, g1, g2]
theorem DBox.set1 {w : World} {b : Nat} {y m d : Int} (h : DBox w b y m d) (x : Int) : DBox (w.setCell ⟨b, 1, none⟩ (.int .i64 x)) b y x d := by
  obtain ⟨hb, ⟨c0, c1, c2⟩, g0, g1, g2⟩ := h
  refine ⟨by simpa using hb, ⟨?_, ?_, ?_⟩, ?_, ?_, ?_⟩ <;> simp [go_sem, c0, c1, c2, g0, g1, g2]

set_option maxHeartbeats 400000 in
theorem rmonths_no1 (y m d n : Int) (w : World) (hy : I y) (hR : ¬ rightP y m d) : Calls Tryd.prog 15 #[.agg #[.int .i64 y, .int .i64 m, .int .i64 d], .int .i64 n] w fun e w' => e = .returned (.tuple #[.agg #[.int .i64 0, .int .i64 0, .int .i64 0], .int .i64 31]) ∧ Gr w w' := by
  have C : ∀ W, Hid (Calls Tryd.prog 26 #[.agg #[.int .i64 y, .int .i64 m, .int .i64 d]] W fun e w' => e = .returned (.bool false) ∧ Gr W w') := fun W => rright_no W hy hR
  clear hy hR
  obtain ⟨c0, c1, c2⟩ := boxed w y m d 32
  go_enter Tryd.func15, Tryd.ntmps15
  go_wp2_with fail
  refine (C _).out.mono ?_
  rintro e w1 ⟨rfl, hg⟩
  have hB := (DBox.made (w.alloc (Obj.cells #[Value.int IntKind.i64 y, Value.int IntKind.i64 m, Value.int IntKind.i64 d] 32)) 0 0 0 32).gr hg
  have HG := Lib.hid ((((Gr.refl _).alloc _).alloc _).trans hg)
  clear hg c0 c1 c2 C
  obtain ⟨hb, ⟨e0, e1, e2⟩, g0, g1, g2⟩ := hB
  simp only [World.size_alloc] at hb e0 e1 e2 g0 g1 g2
  go_wp2
  refine bodyPost_ret (v := .tuple #[.agg #[.int .i64 0, .int .i64 0, .int .i64 0], .int .i64 31]) (by simp [results, Tryd.results15, go_sem, e0, e1, e2]) rfl ⟨rfl, ?_⟩
  repeat' (first | (with_reducible exact HG.out) | (with_reducible refine Gr.setCell ?_ ?_ _) | (simp; done))

set_option maxHeartbeats 400000 in
theorem rmonths_no2 (y m d n : Int) (w : World) (hR : rightP y m d) (hn : n < -4800 ∨ 4800 < n) : Calls Tryd.prog 15 #[.agg #[.int .i64 y, .int .i64 m, .int .i64 d], .int .i64 n] w fun e w' => e = .returned (.tuple #[.agg #[.int .i64 0, .int .i64 0, .int .i64 0], .int .i64 31]) ∧ Gr w w' := by
  have C : ∀ W, Hid (Calls Tryd.prog 26 #[.agg #[.int .i64 y, .int .i64 m, .int .i64 d]] W fun e w' => e = .returned (.bool true) ∧ Gr W w') := fun W => rright_yes W ⟨by have := hR.1; omega, by have := hR.2.1; omega⟩ hR
  clear hR
  obtain ⟨c0, c1, c2⟩ := boxed w y m d 32
  go_enter Tryd.func15, Tryd.ntmps15
  go_wp2_with fail
  refine (C _).out.mono ?_
  rintro e w1 ⟨rfl, hg⟩
  have hB := (DBox.made (w.alloc (Obj.cells #[Value.int IntKind.i64 y, Value.int IntKind.i64 m, Value.int IntKind.i64 d] 32)) 0 0 0 32).gr hg
  have HG := Lib.hid ((((Gr.refl _).alloc _).alloc _).trans hg)
  clear hg c0 c1 c2 C
  obtain ⟨hb, ⟨e0, e1, e2⟩, g0, g1, g2⟩ := hB
  simp only [World.size_alloc] at hb e0 e1 e2 g0 g1 g2
  by_cases h1 : n < -4800
  · have d1 : decide (n < -4800) = true := by simpa using h1
    go_wp2
    refine bodyPost_ret (v := .tuple #[.agg #[.int .i64 0, .int .i64 0, .int .i64 0], .int .i64 31]) (by simp [results, Tryd.results15, go_sem, e0, e1, e2]) rfl ⟨rfl, ?_⟩
    repeat' (first | (with_reducible exact HG.out) | (with_reducible refine Gr.setCell ?_ ?_ _) | (simp; done))
  · have h2 : 4800 < n := by omega
    have d1 : decide (n < -4800) = false := by simpa using h1
    have d2 : decide (4800 < n) = true := by simpa using h2
    go_wp2
    refine bodyPost_ret (v := .tuple #[.agg #[.int .i64 0, .int .i64 0, .int .i64 0], .int .i64 31]) (by simp [results, Tryd.results15, go_sem, e0, e1, e2]) rfl ⟨rfl, ?_⟩
    repeat' (first | (with_reducible exact HG.out) | (with_reducible refine Gr.setCell ?_ ?_ _) | (simp; done))


/-- the loops' state: the date some months on lies in block t, the result in block b + 1 -/
def RM (w wr : World) (t : Nat) (y m d s : Int) : Prop :=
  DBox wr t (mY y m s) (mM y m s) d ∧ DBox wr (w.heap.size + 1) 0 0 0 ∧ w.heap.size + 1 < t ∧ Gr w wr
theorem RM.up1 {w wr : World} {t : Nat} {y m d s : Int} (h : RM w wr t y m d s) (hm : mM y m s = 12) (x : Int) : RM w (((wr.setCell ⟨t, 1, none⟩ (.int .i64 x)).setCell ⟨t, 1, none⟩ (.int .i64 1)).setCell ⟨t, 0, none⟩ (.int .i64 (mY y m s + 1))) t y m d (s + 1) := by
  obtain ⟨h1, h2, h3, h4⟩ := h
  obtain ⟨e1, e2⟩ := (m_up y m s).1 hm
  refine ⟨?_, ((h2.other h3 _ _).other h3 _ _).other h3 _ _, h3, ((h4.setCell (p := ⟨t, 1, none⟩) (by show w.heap.size ≤ t; omega) _).setCell (p := ⟨t, 1, none⟩) (by show w.heap.size ≤ t; omega) _).setCell (p := ⟨t, 0, none⟩) (by show w.heap.size ≤ t; omega) _⟩
  rw [e1, e2]
  exact ((h1.set1 _).set1 _).set0 _
theorem RM.up2 {w wr : World} {t : Nat} {y m d s : Int} (h : RM w wr t y m d s) (hm : mM y m s ≠ 12) : RM w (wr.setCell ⟨t, 1, none⟩ (.int .i64 (mM y m s + 1))) t y m d (s + 1) := by
  obtain ⟨h1, h2, h3, h4⟩ := h
  obtain ⟨e1, e2⟩ := (m_up y m s).2 hm
  refine ⟨?_, h2.other h3 _ _, h3, h4.setCell (p := ⟨t, 1, none⟩) (by show w.heap.size ≤ t; omega) _⟩
  rw [e1, e2]
  exact h1.set1 _
theorem RM.down1 {w wr : World} {t : Nat} {y m d s : Int} (h : RM w wr t y m d s) (hm : mM y m s = 1) (x : Int) : RM w (((wr.setCell ⟨t, 1, none⟩ (.int .i64 x)).setCell ⟨t, 1, none⟩ (.int .i64 12)).setCell ⟨t, 0, none⟩ (.int .i64 (mY y m s - 1))) t y m d (s - 1) := by
  obtain ⟨h1, h2, h3, h4⟩ := h
  obtain ⟨e1, e2⟩ := (m_down y m s).1 hm
  refine ⟨?_, ((h2.other h3 _ _).other h3 _ _).other h3 _ _, h3, ((h4.setCell (p := ⟨t, 1, none⟩) (by show w.heap.size ≤ t; omega) _).setCell (p := ⟨t, 1, none⟩) (by show w.heap.size ≤ t; omega) _).setCell (p := ⟨t, 0, none⟩) (by show w.heap.size ≤ t; omega) _⟩
  rw [e1, e2]
  exact ((h1.set1 _).set1 _).set0 _
theorem RM.down2 {w wr : World} {t : Nat} {y m d s : Int} (h : RM w wr t y m d s) (hm : mM y m s ≠ 1) : RM w (wr.setCell ⟨t, 1, none⟩ (.int .i64 (mM y m s - 1))) t y m d (s - 1) := by
  obtain ⟨h1, h2, h3, h4⟩ := h
  obtain ⟨e1, e2⟩ := (m_down y m s).2 hm
  refine ⟨?_, h2.other h3 _ _, h3, h4.setCell (p := ⟨t, 1, none⟩) (by show w.heap.size ≤ t; omega) _⟩
  rw [e1, e2]
  exact h1.set1 _

set_option maxHeartbeats 1600000 in
theorem rmonths_core (y m d n Y M : Int) (ok : Bool) (w : World) (hR : rightP y m d) (h0 : -4800 ≤ n) (h1 : n ≤ 4800) (hY : mY y m n = Y) (hM : mM y m n = M)
    (E : ∀ W, Calls Tryd.prog 26 #[.agg #[.int .i64 Y, .int .i64 M, .int .i64 (mD y m d n)]] W fun e w' => e = .returned (.bool ok) ∧ Gr W w') :
    Calls Tryd.prog 15 #[.agg #[.int .i64 y, .int .i64 m, .int .i64 d], .int .i64 n] w fun e w' => e = .returned (monV ok Y M (mD y m d n)) ∧ Gr w w' := by
  have HE := Lib.hid E
  have hYb := mY_bd hR h0 h1
  have hMb := mM_in y m n
  rw [hY] at hYb
  rw [hM] at hMb
  have HR := Lib.hid hR
  obtain ⟨a1, a2, a3, a4, a5, a6⟩ := hR
  have C : ∀ W, Hid (Calls Tryd.prog 26 #[.agg #[.int .i64 y, .int .i64 m, .int .i64 d]] W fun e w' => e = .returned (.bool true) ∧ Gr W w') := fun W => rright_yes W ⟨by omega, by omega⟩ ⟨a1, a2, a3, a4, a5, a6⟩
  have D : ∀ W, Hid (Calls Tryd.prog 27 #[.int .i64 Y, .int .i64 M] W fun e w' => e = .returned (.int .i64 (lenF Y M)) ∧ W = w') := fun W => rlength_any Y M W ⟨by omega, by omega⟩
  have F : ∀ W, Hid (Calls Tryd.prog 27 #[.int .i64 y, .int .i64 m] W fun e w' => e = .returned (.int .i64 (lenF y m)) ∧ W = w') := fun W => rlength_any y m W ⟨by omega, by omega⟩
  have HD := Lib.hid (show mD y m d n = if d = lenF y m then lenF Y M else if d ≤ lenF Y M then d else lenF Y M by unfold mD; rw [hY, hM])
  have l0 := lenF_lo Y M (by omega) (by omega)
  have l1 := lenF_hi Y M
  have l2 := lenF_hi y m
  generalize lenF Y M = L at *
  generalize lenF y m = L0 at *
  generalize mD y m d n = DD at *
  have HYM := Lib.hid (And.intro hY hM)
  clear E hY hM
  obtain ⟨c0, c1, c2⟩ := boxed w y m d 32
  go_enter Tryd.func15, Tryd.ntmps15
  go_wp2_with fail
  refine (C _).out.mono ?_
  rintro e w1 ⟨rfl, hg⟩
  have hB := (DBox.made (w.alloc (Obj.cells #[Value.int IntKind.i64 y, Value.int IntKind.i64 m, Value.int IntKind.i64 d] 32)) 0 0 0 32).gr hg
  have hA := ((DBox.made w y m d 32).gr ((Gr.refl _).alloc _)).gr hg
  have HG := Lib.hid ((((Gr.refl _).alloc _).alloc _).trans hg)
  clear hg c0 c1 c2 C
  simp only [World.size_alloc] at hB
  have HB := Lib.hid hB
  obtain ⟨hb, ⟨e0, e1, e2⟩, g0, g1, g2⟩ := hA
  clear g0 g1 g2 hB
  go_wp2_with fail
  go_quiet ((go_at_call 27; exact Calls.same' (F _).out))
  have gq := (Gr.refl w1).drewN nq
  have f0 := gcell gq hb e0
  have f1 := gcell gq hb e1
  have f2 := gcell gq hb e2
  have HB2 := Lib.hid (HB.out.gr gq)
  have HG2 := Lib.hid (HG.out.trans gq)
  clear HB HG e0 e1 e2 F gq
  generalize w1.drewN nq = W1 at *
  have hm0 := m_zero y m a3 a4
  have HRM := Lib.hid (show RM w (W1.alloc (Obj.cells #[Value.int IntKind.i64 y, Value.int IntKind.i64 m, Value.int IntKind.i64 d] 32)) W1.heap.size y m d 0 from ⟨by rw [hm0.1, hm0.2]; exact DBox.made _ y m d _, HB2.out.gr ((Gr.refl _).alloc _), HB2.out.1, HG2.out.alloc _⟩)
  clear hm0 HB2 HG2
  go_wp2_with fail
  have hT : W1.heap.size = W1.heap.size := rfl
  generalize W1.heap.size = T at *
  generalize W1.alloc (Obj.cells #[Value.int IntKind.i64 y, Value.int IntKind.i64 m, Value.int IntKind.i64 d] 32) = W2 at *
  clear hT
  go_loopg [1] n.toNat (fun g c1 wr => ∃ r : Int, c1 = .int .i64 r ∧ (r = n ∨ (0 ≤ r ∧ r ≤ n)) ∧ g = r.toNat ∧ Hid (RM w wr T y m d (n - r)))
  case atStart => exact ⟨n, rfl, Or.inl rfl, rfl, by rw [show n - n = 0 by omega]; exact HRM⟩
  case round =>
    obtain ⟨r, rfl, hr, rfl, HRM⟩ := hrel
    by_cases hlt : 0 < r
    · have hs : -4800 ≤ n - r ∧ n - r ≤ 4800 := by omega
      have hyb := mY_bd HR.out hs.1 hs.2
      have hmb := mM_in y m (n - r)
      have HT := Lib.hid HRM.out.1
      have hTlt := HRM.out.2.2.1
      obtain ⟨_, ⟨t0, t1, t2⟩, u0, u1, u2⟩ := HRM.out.1
      by_cases hm : mM y m (n - r) = 12
      · have HN := Lib.hid (show RM w (((wr.setCell ⟨T, 1, none⟩ (.int .i64 13)).setCell ⟨T, 1, none⟩ (.int .i64 1)).setCell ⟨T, 0, none⟩ (.int .i64 (mY y m (n - r) + 1))) T y m d (n - (r - 1)) from by rw [show n - (r - 1) = n - r + 1 by omega]; exact HRM.out.up1 hm _)
        clear HRM HT
        rw [hm] at t1
        generalize mY y m (n - r) = Yc at *
        go_wp2
        go_roundg ((r - 1).toNat)
        case measure => omega
        case rel => exact ⟨r - 1, by go_num, by omega, rfl, HN⟩
      · have HN := Lib.hid (show RM w (wr.setCell ⟨T, 1, none⟩ (.int .i64 (mM y m (n - r) + 1))) T y m d (n - (r - 1)) from by rw [show n - (r - 1) = n - r + 1 by omega]; exact HRM.out.up2 hm)
        clear HRM HT
        generalize mM y m (n - r) = Mc at *
        have hq : ¬ Mc + 1 = 13 := by omega
        go_wp2
        go_roundg ((r - 1).toNat)
        case measure => omega
        case rel => exact ⟨r - 1, by go_num, by omega, rfl, HN⟩
    · have hr0 : r = n ∨ r = 0 := by omega
      have hr1 : r ≤ 0 := by omega
      have hrn : n ≤ r ∨ r = 0 := by omega
      clear hr hlt
      generalize r = r0 at *
      go_wp2_with fail
      go_loopg [1] (-r0).toNat (fun g c1 wr2 => ∃ r : Int, c1 = .int .i64 r ∧ (r = 0 ∨ (n ≤ r ∧ r ≤ 0)) ∧ g = (-r).toNat ∧ Hid (RM w wr2 T y m d (n - r)))
      case atStart => exact ⟨r0, rfl, by omega, rfl, HRM⟩
      case round =>
        obtain ⟨r, rfl, hr, rfl, HRM⟩ := hrel
        rename World => wr2
        by_cases hlt : r < 0
        · have hs : -4800 ≤ n - r ∧ n - r ≤ 4800 := by omega
          have hyb := mY_bd HR.out hs.1 hs.2
          have hmb := mM_in y m (n - r)
          have HT := Lib.hid HRM.out.1
          have hTlt := HRM.out.2.2.1
          obtain ⟨_, ⟨t0, t1, t2⟩, u0, u1, u2⟩ := HRM.out.1
          by_cases hm : mM y m (n - r) = 1
          · have HN := Lib.hid (show RM w (((wr2.setCell ⟨T, 1, none⟩ (.int .i64 0)).setCell ⟨T, 1, none⟩ (.int .i64 12)).setCell ⟨T, 0, none⟩ (.int .i64 (mY y m (n - r) - 1))) T y m d (n - (r + 1)) from by rw [show n - (r + 1) = n - r - 1 by omega]; exact HRM.out.down1 hm _)
            clear HRM HT
            rw [hm] at t1
            generalize mY y m (n - r) = Yc at *
            go_wp2
            go_roundg ((-(r + 1)).toNat)
            case measure => omega
            case rel => exact ⟨r + 1, by go_num, by omega, rfl, HN⟩
          · have HN := Lib.hid (show RM w (wr2.setCell ⟨T, 1, none⟩ (.int .i64 (mM y m (n - r) - 1))) T y m d (n - (r + 1)) from by rw [show n - (r + 1) = n - r - 1 by omega]; exact HRM.out.down2 hm)
            clear HRM HT
            generalize mM y m (n - r) = Mc at *
            have hq : ¬ Mc - 1 = 0 := by omega
            go_wp2
            go_roundg ((-(r + 1)).toNat)
            case measure => omega
            case rel => exact ⟨r + 1, by go_num, by omega, rfl, HN⟩
        · have r00 : r = 0 := by omega
          subst r00
          rw [show n - 0 = n by omega] at HRM
          have HT := Lib.hid (show DBox wr2 T Y M d by have := HRM.out.1; rwa [HYM.out.1, HYM.out.2] at this)
          have HB := Lib.hid HRM.out.2.1
          have hS := HRM.out.2.2.1
          have HG := Lib.hid HRM.out.2.2.2
          clear HRM HYM hr hlt
          obtain ⟨_, ⟨t0, t1, t2⟩, u0, u1, u2⟩ := HT.out
          go_wp2_with fail
          refine (D _).out.mono ?_
          rintro e w3 ⟨rfl, rfl⟩
          clear D
          by_cases hE : d = L0
          · have HDD := Lib.hid (show DD = L by rw [HD.out, if_pos hE])
            subst hE
            have HE2 := Lib.hid (show ∀ W, Calls Tryd.prog 26 #[.agg #[.int .i64 Y, .int .i64 M, .int .i64 L]] W fun e w' => e = .returned (.bool ok) ∧ Gr W w' by have := HE.out; rw [HDD.out] at this; exact this)
            clear HE HD
            have HT6 := Lib.hid (HT.out.set2 L)
            have HB6 := Lib.hid (HB.out.other hS 2 (.int .i64 L))
            have HG6 := Lib.hid (HG.out.setCell (p := ⟨T, 2, none⟩) (by show w.heap.size ≤ T; omega) (.int .i64 L))
            go_wp2_with fail
            clear t0 t1 t2 u0 u1 u2
            generalize wr2.setCell ⟨T, 2, none⟩ (.int .i64 L) = W4 at *
            refine (HE2.out _).mono ?_
            rintro e w5 ⟨rfl, hg5⟩
            obtain ⟨hb1, ⟨e0, e1, e2⟩, g0, g1, g2⟩ := HB6.out.gr hg5
            obtain ⟨hb2, ⟨k0, k1, k2⟩, k3, k4, k5⟩ := HT6.out.gr hg5
            have HG7 := Lib.hid (HG6.out.trans hg5)
            clear hg5
            have n0 : ¬ T = w.heap.size + 1 := by omega
            have n1 : ¬ w.heap.size + 1 = T := by omega
            cases ok
            · go_wp2
              refine bodyPost_ret (v := .tuple #[.agg #[.int .i64 0, .int .i64 0, .int .i64 0], .int .i64 31]) (by simp [results, Tryd.results15, go_sem, e0, e1, e2]) rfl ⟨by rw [HDD.out]; rfl, ?_⟩
              repeat' (first | (with_reducible exact HG7.out) | (with_reducible refine Gr.setCell ?_ ?_ _) | (simp; done))
            · go_wp2
              refine bodyPost_ret (v := .tuple #[.agg #[.int .i64 Y, .int .i64 M, .int .i64 L], .int .i64 0]) (by simp [results, Tryd.results15, go_sem, e0, e1, e2]) rfl ⟨by rw [HDD.out]; rfl, ?_⟩
              repeat' (first | (with_reducible exact HG7.out) | (with_reducible refine Gr.setCell ?_ ?_ _) | (simp; done))
          by_cases hd : d ≤ L
          · have HDD := Lib.hid (show DD = d by rw [HD.out, if_neg hE, if_pos hd])
            have hdn : decide (L < d) = false := by simpa using hd
            have hb0 : (d == L0) = false := by simpa using hE
            have HE2 := Lib.hid (show ∀ W, Calls Tryd.prog 26 #[.agg #[.int .i64 Y, .int .i64 M, .int .i64 d]] W fun e w' => e = .returned (.bool ok) ∧ Gr W w' by have := HE.out; rw [HDD.out] at this; exact this)
            clear HE HD
            have HT6 := HT
            have HB6 := HB
            have HG6 := HG
            go_wp2_with fail
            refine (HE2.out _).mono ?_
            rintro e w5 ⟨rfl, hg5⟩
            obtain ⟨hb1, ⟨e0, e1, e2⟩, g0, g1, g2⟩ := HB6.out.gr hg5
            obtain ⟨hb2, ⟨k0, k1, k2⟩, k3, k4, k5⟩ := HT6.out.gr hg5
            have HG7 := Lib.hid (HG6.out.trans hg5)
            clear hg5
            have n0 : ¬ T = w.heap.size + 1 := by omega
            have n1 : ¬ w.heap.size + 1 = T := by omega
            cases ok
            · go_wp2
              refine bodyPost_ret (v := .tuple #[.agg #[.int .i64 0, .int .i64 0, .int .i64 0], .int .i64 31]) (by simp [results, Tryd.results15, go_sem, e0, e1, e2]) rfl ⟨by rw [HDD.out]; rfl, ?_⟩
              repeat' (first | (with_reducible exact HG7.out) | (with_reducible refine Gr.setCell ?_ ?_ _) | (simp; done))
            · go_wp2
              refine bodyPost_ret (v := .tuple #[.agg #[.int .i64 Y, .int .i64 M, .int .i64 d], .int .i64 0]) (by simp [results, Tryd.results15, go_sem, e0, e1, e2]) rfl ⟨by rw [HDD.out]; rfl, ?_⟩
              repeat' (first | (with_reducible exact HG7.out) | (with_reducible refine Gr.setCell ?_ ?_ _) | (simp; done))
          · have HDD := Lib.hid (show DD = L by rw [HD.out, if_neg hE, if_neg hd])
            have hdn : decide (L < d) = true := by simpa using hd
            have hb0 : (d == L0) = false := by simpa using hE
            have HE2 := Lib.hid (show ∀ W, Calls Tryd.prog 26 #[.agg #[.int .i64 Y, .int .i64 M, .int .i64 L]] W fun e w' => e = .returned (.bool ok) ∧ Gr W w' by have := HE.out; rw [HDD.out] at this; exact this)
            clear HE HD
            have HT6 := Lib.hid (HT.out.set2 L)
            have HB6 := Lib.hid (HB.out.other hS 2 (.int .i64 L))
            have HG6 := Lib.hid (HG.out.setCell (p := ⟨T, 2, none⟩) (by show w.heap.size ≤ T; omega) (.int .i64 L))
            go_wp2_with fail
            clear t0 t1 t2 u0 u1 u2
            generalize wr2.setCell ⟨T, 2, none⟩ (.int .i64 L) = W4 at *
            refine (HE2.out _).mono ?_
            rintro e w5 ⟨rfl, hg5⟩
            obtain ⟨hb1, ⟨e0, e1, e2⟩, g0, g1, g2⟩ := HB6.out.gr hg5
            obtain ⟨hb2, ⟨k0, k1, k2⟩, k3, k4, k5⟩ := HT6.out.gr hg5
            have HG7 := Lib.hid (HG6.out.trans hg5)
            clear hg5
            have n0 : ¬ T = w.heap.size + 1 := by omega
            have n1 : ¬ w.heap.size + 1 = T := by omega
            cases ok
            · go_wp2
              refine bodyPost_ret (v := .tuple #[.agg #[.int .i64 0, .int .i64 0, .int .i64 0], .int .i64 31]) (by simp [results, Tryd.results15, go_sem, e0, e1, e2]) rfl ⟨by rw [HDD.out]; rfl, ?_⟩
              repeat' (first | (with_reducible exact HG7.out) | (with_reducible refine Gr.setCell ?_ ?_ _) | (simp; done))
            · go_wp2
              refine bodyPost_ret (v := .tuple #[.agg #[.int .i64 Y, .int .i64 M, .int .i64 L], .int .i64 0]) (by simp [results, Tryd.results15, go_sem, e0, e1, e2]) rfl ⟨by rw [HDD.out]; rfl, ?_⟩
              repeat' (first | (with_reducible exact HG7.out) | (with_reducible refine Gr.setCell ?_ ?_ _) | (simp; done))

theorem rmonths_yes {y m d n : Int} (w : World) (h : okM y m d n) :
    Calls Tryd.prog 15 #[.agg #[.int .i64 y, .int .i64 m, .int .i64 d], .int .i64 n] w fun e w' => e = .returned (.tuple #[.agg #[.int .i64 (mY y m n), .int .i64 (mM y m n), .int .i64 (mD y m d n)], .int .i64 0]) ∧ Gr w w' := by
  have hr := okM_right h
  exact rmonths_core y m d n _ _ true w h.1 h.2.1 h.2.2.1 rfl rfl (fun W => rright_yes W ⟨by have := hr.1; omega, by have := hr.2.1; omega⟩ hr)
theorem rmonths_no {y m d n : Int} (w : World) (hy : I y) (h : ¬ okM y m d n) :
    Calls Tryd.prog 15 #[.agg #[.int .i64 y, .int .i64 m, .int .i64 d], .int .i64 n] w fun e w' => e = .returned (.tuple #[.agg #[.int .i64 0, .int .i64 0, .int .i64 0], .int .i64 31]) ∧ Gr w w' := by
  by_cases hR : rightP y m d
  · by_cases hn : n < -4800 ∨ 4800 < n
    · exact rmonths_no2 y m d n w hR hn
    · have hb := mY_bd hR (n := n) (by omega) (by omega)
      exact rmonths_core y m d n _ _ false w hR (by omega) (by omega) rfl rfl (fun W => rright_no W ⟨by omega, by omega⟩ (okM_wrong hR (by omega) (by omega) h))
  · exact rmonths_no1 y m d n w hy hR
end Go.Proofs.YtijhfjehdpgjmaaDoor
