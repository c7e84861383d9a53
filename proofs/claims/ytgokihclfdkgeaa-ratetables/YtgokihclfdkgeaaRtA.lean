/- At, Rate, of the program and of the document's answer. -/
import Derived.Test.YtgokihclfdkgeaaRtT
namespace Go.Proofs.Ytgokihclfdkgeaa
open Go.RowKit Go.Sort

/-- the index of the last reset that is not behind the day -/
def atF (l : List Rs) (d : Int) : Option Int := ((l.filter fun r => decide (r.1 ≤ d)).getLast?).map (·.2)
def atV : Option Int → Int
  | some x => x
  | none => 0
def atB : Option Int → Bool
  | some _ => true
  | none => false
theorem take_one (l : List Rs) (i : Nat) (h : i < l.length) : l.take (i + 1) = l.take i ++ [l.getD i (0, 0)] := by
  rw [List.take_succ_eq_append_getElem h]
  simp [List.getD, h]
theorem at_hit (l : List Rs) (d : Int) (i : Nat) (h : i < l.length) (hd : rsD l i ≤ d) : atF (l.take (i + 1)) d = some (rsX l i) := by
  unfold atF
  rw [take_one l i h, List.filter_append]
  unfold rsD at hd
  have : decide ((l.getD i (0, 0)).1 ≤ d) = true := by simpa using hd
  rw [List.filter_cons, this, if_pos rfl, List.filter_nil, List.getLast?_append]
  rfl
theorem at_miss (l : List Rs) (d : Int) (i : Nat) (h : i < l.length) (hd : ¬ rsD l i ≤ d) : atF (l.take (i + 1)) d = atF (l.take i) d := by
  unfold atF
  rw [take_one l i h, List.filter_append]
  unfold rsD at hd
  have : decide ((l.getD i (0, 0)).1 ≤ d) = false := by simpa using hd
  rw [List.filter_cons, this]
  simp

theorem ret_vb {a b : Int} {c d : Bool} (h : a = b) (h2 : c = d) : Ending.returned (.tuple #[.int .i64 a, .bool c]) = .returned (.tuple #[.int .i64 b, .bool d]) := by rw [h, h2]
theorem ret_pair {a b c d : Int} (h : a = b) (h2 : c = d) : Ending.returned (.tuple #[.int .i64 a, .int .i64 c]) = .returned (.tuple #[.int .i64 b, .int .i64 d]) := by rw [h, h2]

set_option maxHeartbeats 1600000 in
theorem at_any (a : Option Addr) (l : List Rs) (cap : Nat) (d : Int) (w : World) (hr : RsAt w a l) (hl : l.length ≤ 1000) :
    Calls Try.prog 25 #[.slice a l.length cap, .int .i64 d] w fun e w' => e = .returned (.tuple #[.int .i64 (atV (atF l d)), .bool (atB (atF l d))]) ∧ Gr w w' := by
  have HR := Lib.hid hr
  clear hr
  go_enter Try.func25, Try.ntmps25
  go_wp2
  go_loopg [6, 7, 12] l.length (fun g c6 c7 c12 wr => ∃ (i : Nat) (x : Int) (t : Bool), c12 = .int .i64 i ∧ c6 = .int .i64 x ∧ c7 = .bool t ∧ i + g = l.length ∧ Hid (Gr w wr) ∧ Hid (x = atV (atF (l.take i) d) ∧ t = atB (atF (l.take i) d)))
  case atStart => exact ⟨0, 0, false, rfl, rfl, rfl, by omega, Lib.hid (Gr.refl _), Lib.hid ⟨rfl, rfl⟩⟩
  case round =>
    obtain ⟨i, x, t, rfl, rfl, rfl, hi, HG, HX⟩ := hrel
    by_cases hlt : i < l.length
    · have hlz : (i : Int) < (l.length : Int) := by omega
      obtain ⟨b, off, rfl, hb, hc⟩ := (HR.out.gr HG.out).at hlt
      obtain ⟨c0, c1⟩ := hc i hlt
      clear hc
      by_cases hd : rsD l i ≤ d
      · have HN := Lib.hid (at_hit l d i hlt hd)
        go_wp2
        go_roundg (gk - 1)
        case measure => omega
        case rel => exact ⟨i + 1, rsX l i, true, by go_num, rfl, rfl, by omega, Lib.hid (HG.out.alloc _), Lib.hid (by rw [HN.out]; exact ⟨rfl, rfl⟩)⟩
      · have HN := Lib.hid (at_miss l d i hlt hd)
        go_wp2
        go_roundg (gk - 1)
        case measure => omega
        case rel => exact ⟨i + 1, x, t, by go_num, rfl, rfl, by omega, Lib.hid (HG.out.alloc _), Lib.hid (by rw [HN.out]; exact HX.out)⟩
    · have hlz : ¬ (i : Int) < (l.length : Int) := by omega
      have hx := HX.out
      obtain rfl : i = l.length := by omega
      rw [List.take_length] at hx
      have HY := Lib.hid hx
      clear hx HX
      go_wp2
      go_ret2
      exact ⟨ret_vb HY.out.1 HY.out.2, HG.out⟩

set_option maxHeartbeats 1600000 in
theorem rat_any (a : Option Addr) (l : List Rs) (cap : Nat) (d : Int) (w : World) (hr : RsAt w a l) (hl : l.length ≤ 1000) :
    Calls Try.prog 26 #[.slice a l.length cap, .int .i64 d] w fun e w' => e = .returned (.tuple #[.int .i64 (atV (atF l d)), .bool (atB (atF l d))]) ∧ w = w' := by
  have HR := Lib.hid hr
  clear hr
  go_enter Try.func26, Try.ntmps26
  go_wp2
  go_loop [6] (fun c6 => ∃ i : Nat, c6 = .int .i64 ((i : Int) - 1) ∧ i ≤ l.length ∧ Hid (atF (l.take i) d = atF l d)) (fun c6 => (intOf c6 + 1).toNat)
  case atStart => exact ⟨l.length, rfl, by omega, Lib.hid (by rw [List.take_length])⟩
  case round =>
    obtain ⟨i, rfl, hi, HX⟩ := hrel
    by_cases h0 : i = 0
    · subst h0
      have HN := Lib.hid (show atF l d = none from HX.out.symm)
      clear HX
      have d0 : decide ((0 : Int) ≤ ((0 : Nat) : Int) - 1) = false := by decide
      go_wp2
      go_ret2
      exact ⟨ret_vb (by rw [HN.out]; rfl) (by rw [HN.out]; rfl), rfl⟩
    · obtain ⟨k, rfl⟩ : ∃ k, i = k + 1 := ⟨i - 1, by omega⟩
      have ek : ((k + 1 : Nat) : Int) - 1 = (k : Int) := by omega
      rw [ek]
      have hk : k < l.length := by omega
      have hkz : (k : Int) < (l.length : Int) := by omega
      have hk0 : (0 : Int) ≤ (k : Int) := by omega
      obtain ⟨b, off, rfl, hb, hc⟩ := HR.out.at hk
      obtain ⟨c0, c1⟩ := hc k hk
      clear hc h0
      by_cases hd : rsD l k ≤ d
      · have HN := Lib.hid ((at_hit l d k hk hd).symm.trans HX.out)
        clear HX ek
        go_wp2
        go_ret2
        exact ⟨ret_vb (by rw [← HN.out]; rfl) (by rw [← HN.out]; rfl), rfl⟩
      · have HN := Lib.hid ((at_miss l d k hk hd).symm.trans HX.out)
        clear HX ek
        go_wp2
        go_round
        case rel => exact ⟨k, rfl, by omega, HN⟩
        case measure => simp [intOf]

theorem at_range {l : List Rs} {d x : Int} (ht : tabB l = true) (h : atF l d = some x) : -10000 ≤ x ∧ x ≤ 10000 := by
  unfold atF at h
  rw [Option.map_eq_some_iff] at h
  obtain ⟨r, hr, rfl⟩ := h
  have hm := List.mem_filter.1 (List.mem_of_getLast? hr)
  obtain ⟨i, hi, e⟩ := List.getElem_of_mem hm.1
  unfold tabB at ht
  rw [Bool.and_eq_true, List.all_eq_true] at ht
  have hok := ht.2 i (List.mem_range.2 hi)
  unfold rowOk at hok
  rw [Bool.and_eq_true] at hok
  have hs := hok.1
  unfold sgB rsX at hs
  have e2 : l.getD i (0, 0) = r := by simp [List.getD, hi, e]
  rw [e2] at hs
  simpa using hs

def rtB (m f c : Int) (l : List Rs) (d : Int) : Bool := rightB m f c && tabB l && atB (atF l d)
def rtV (m f c : Int) (l : List Rs) (d : Int) : Int := if rtB m f c l d then min (max (atV (atF l d) + m) f) c else 0
def rtE (m f c : Int) (l : List Rs) (d : Int) : Int := if rtB m f c l d then 0 else 52
theorem rt_no {m f c : Int} {l : List Rs} {d : Int} (h : rightB m f c = false ∨ tabB l = false ∨ atF l d = none) : rtV m f c l d = 0 ∧ rtE m f c l d = 52 := by
  have e : rtB m f c l d = false := by
    unfold rtB
    rcases h with h | h | h <;> rw [h] <;> simp [atB]
  unfold rtV rtE
  rw [e]
  exact ⟨rfl, rfl⟩
theorem rt_yes {m f c : Int} {l : List Rs} {d x : Int} (h1 : rightB m f c = true) (h2 : tabB l = true) (h3 : atF l d = some x) : rtV m f c l d = min (max (x + m) f) c ∧ rtE m f c l d = 0 := by
  have e : rtB m f c l d = true := by
    unfold rtB
    rw [h1, h2, h3]; rfl
  unfold rtV rtE
  rw [e, h3]
  exact ⟨rfl, rfl⟩

theorem terms3 (w : World) (x y z : Int) (t : TypeId) : (w.alloc (Obj.cells #[Value.int IntKind.i64 x, Value.int IntKind.i64 y, Value.int IntKind.i64 z] t)).cell? ⟨w.heap.size, 0, none⟩ = some (.int .i64 x) ∧ (w.alloc (Obj.cells #[Value.int IntKind.i64 x, Value.int IntKind.i64 y, Value.int IntKind.i64 z] t)).cell? ⟨w.heap.size, 1, none⟩ = some (.int .i64 y) ∧ (w.alloc (Obj.cells #[Value.int IntKind.i64 x, Value.int IntKind.i64 y, Value.int IntKind.i64 z] t)).cell? ⟨w.heap.size, 2, none⟩ = some (.int .i64 z) := by
  refine ⟨?_, ?_, ?_⟩ <;> simp [go_sem]
/-- terms lie in block b -/
def TBox (w : World) (b : Nat) (m f c : Int) : Prop := b < w.heap.size ∧ w.cell? ⟨b, 0, none⟩ = some (.int .i64 m) ∧ w.cell? ⟨b, 1, none⟩ = some (.int .i64 f) ∧ w.cell? ⟨b, 2, none⟩ = some (.int .i64 c)
theorem TBox.made (w : World) (x y z : Int) (t : TypeId) : TBox (w.alloc (Obj.cells #[Value.int IntKind.i64 x, Value.int IntKind.i64 y, Value.int IntKind.i64 z] t)) w.heap.size x y z := by
  obtain ⟨a, b, c⟩ := terms3 w x y z t
  exact ⟨by simp, a, b, c⟩
theorem TBox.gr {w w' : World} {b : Nat} {y m d : Int} (h : TBox w b y m d) (g : Gr w w') : TBox w' b y m d :=
  ⟨Nat.lt_of_lt_of_le h.1 g.size, gcell g h.1 h.2.1, gcell g h.1 h.2.2.1, gcell g h.1 h.2.2.2⟩
theorem TBox.below {w w' : World} {b : Nat} {y m d : Int} (h : TBox w b y m d) (g : RowKit.Below w.heap.size w w') : TBox w' b y m d := by
  refine ⟨Nat.lt_of_lt_of_le h.1 g.size, ?_, ?_, ?_⟩
  · rw [g.cell (p := ⟨b, 0, none⟩) h.1]; exact h.2.1
  · rw [g.cell (p := ⟨b, 1, none⟩) h.1]; exact h.2.2.1
  · rw [g.cell (p := ⟨b, 2, none⟩) h.1]; exact h.2.2.2

set_option maxHeartbeats 1600000 in
theorem rate_any (m f c : Int) (a : Option Addr) (l : List Rs) (cap : Nat) (d : Int) (w : World) (hr : RsAt w a l) (hl : l.length ≤ 1000) :
    Calls Try.prog 14 #[.agg #[.int .i64 m, .int .i64 f, .int .i64 c], .slice a l.length cap, .int .i64 d] w fun e w' => e = .returned (.tuple #[.int .i64 (rtV m f c l d), .int .i64 (rtE m f c l d)]) ∧ Gr w w' := by
  have HR := Lib.hid hr
  have HM := Lib.hid (TBox.made w m f c 33)
  have T : ∀ W, RsAt W a l → Hid (Calls Try.prog 22 #[.slice a l.length cap] W fun e w' => e = .returned (.bool (tabB l)) ∧ Gr W w') := fun W h => table_any a l cap W h hl
  have A : ∀ W, RsAt W a l → Hid (Calls Try.prog 25 #[.slice a l.length cap, .int .i64 d] W fun e w' => e = .returned (.tuple #[.int .i64 (atV (atF l d)), .bool (atB (atF l d))]) ∧ Gr W w') := fun W h => at_any a l cap d W h hl
  have R : ∀ W, Hid (Calls Try.prog 20 #[.agg #[.int .i64 m, .int .i64 f, .int .i64 c]] W fun e w' => e = .returned (.bool (rightB m f c)) ∧ Gr W w') := fun W => right_any m f c W
  clear hr hl
  cases h1 : rightB m f c
  · have HN := Lib.hid (rt_no (l := l) (d := d) (Or.inl h1))
    rw [h1] at R
    clear h1
    go_enter Try.func14, Try.ntmps14
    go_wp2_with fail
    refine (R _).out.mono ?_
    rintro _ w1 ⟨rfl, hg1⟩
    have HG1 := Lib.hid (((Gr.refl _).alloc _).trans hg1)
    clear hg1
    go_wp2
    go_ret2
    exact ⟨ret_pair HN.out.1.symm HN.out.2.symm, HG1.out⟩
  · have H1 := Lib.hid h1
    rw [h1] at R
    clear h1
    go_enter Try.func14, Try.ntmps14
    go_wp2_with fail
    refine (R _).out.mono ?_
    rintro _ w1 ⟨rfl, hg1⟩
    have HG1 := Lib.hid (((Gr.refl _).alloc _).trans hg1)
    have HM1 := Lib.hid (HM.out.gr hg1)
    clear hg1 HM R
    cases h2 : tabB l
    · have HN := Lib.hid (rt_no (m := m) (f := f) (c := c) (d := d) (Or.inr (Or.inl h2)))
      rw [h2] at T
      clear h2
      go_wp2_with fail
      refine (T _ (HR.out.gr HG1.out)).out.mono ?_
      rintro _ w2 ⟨rfl, hg2⟩
      have HG2 := Lib.hid (HG1.out.trans hg2)
      clear hg2
      go_wp2
      go_ret2
      exact ⟨ret_pair HN.out.1.symm HN.out.2.symm, HG2.out⟩
    · have H2 := Lib.hid h2
      rw [h2] at T
      clear h2
      go_wp2_with fail
      refine (T _ (HR.out.gr HG1.out)).out.mono ?_
      rintro _ w2 ⟨rfl, hg2⟩
      have HG2 := Lib.hid (HG1.out.trans hg2)
      have HM2 := Lib.hid (HM1.out.gr hg2)
      clear hg2 HM1 T
      cases h3 : atF l d with
      | none =>
        have HN := Lib.hid (rt_no (m := m) (f := f) (c := c) (Or.inr (Or.inr h3)))
        rw [h3] at A
        clear h3
        go_wp2_with fail
        refine (A _ (HR.out.gr HG2.out)).out.mono ?_
        rintro _ w3 ⟨rfl, hg3⟩
        have HG3 := Lib.hid (HG2.out.trans hg3)
        have eb : atB none = false := rfl
        clear hg3
        go_wp2
        go_ret2
        exact ⟨ret_pair HN.out.1.symm HN.out.2.symm, HG3.out⟩
      | some x =>
        have HN := Lib.hid (rt_yes H1.out H2.out h3)
        have hx := at_range H2.out h3
        rw [h3] at A
        clear h3
        go_wp2_with fail
        refine (A _ (HR.out.gr HG2.out)).out.mono ?_
        rintro _ w3 ⟨rfl, hg3⟩
        have HG3 := Lib.hid (HG2.out.trans hg3)
        obtain ⟨_, k0, k1, k2⟩ := HM2.out.gr hg3
        have eb : atB (some x) = true := rfl
        have ev : atV (some x) = x := rfl
        have hm : -10000 ≤ m ∧ m ≤ 10000 ∧ 0 ≤ f ∧ f ≤ c ∧ c ≤ 10000 := by have := H1.out; unfold rightB at this; simpa using this
        obtain ⟨m1, m2, m3, m4, m5⟩ := hm
        obtain ⟨x1, x2⟩ := hx
        clear hg3
        go_wp2
        all_goals
          go_ret2
          exact ⟨ret_pair (by rw [HN.out.1]; omega) HN.out.2.symm, HG3.out⟩

set_option maxHeartbeats 1600000 in
theorem rrate_any (m f c : Int) (a : Option Addr) (l : List Rs) (cap : Nat) (d : Int) (w : World) (hr : RsAt w a l) (hl : l.length ≤ 1000) :
    Calls Try.prog 24 #[.agg #[.int .i64 m, .int .i64 f, .int .i64 c], .slice a l.length cap, .int .i64 d] w fun e w' => e = .returned (.tuple #[.int .i64 (rtV m f c l d), .int .i64 (rtE m f c l d)]) ∧ Gr w w' := by
  have HR := Lib.hid hr
  have HM := Lib.hid (TBox.made w m f c 33)
  have T : ∀ W, RsAt W a l → Hid (Calls Try.prog 19 #[.slice a l.length cap] W fun e w' => e = .returned (.bool (tabB l)) ∧ Gr W w') := fun W h => rtable_any a l cap W h hl
  have A : ∀ W, RsAt W a l → Hid (Calls Try.prog 26 #[.slice a l.length cap, .int .i64 d] W fun e w' => e = .returned (.tuple #[.int .i64 (atV (atF l d)), .bool (atB (atF l d))]) ∧ W = w') := fun W h => rat_any a l cap d W h hl
  have R : ∀ W, Hid (Calls Try.prog 21 #[.agg #[.int .i64 m, .int .i64 f, .int .i64 c]] W fun e w' => e = .returned (.bool (rightB m f c)) ∧ Gr W w') := fun W => rright_any m f c W
  clear hr hl
  obtain ⟨o, ho⟩ : ∃ o, o = atF l d := ⟨_, rfl⟩
  rw [← ho] at A
  have HO := Lib.hid ho
  clear ho
  go_enter Try.func24, Try.ntmps24
  go_wp2_with fail
  refine (A _ (HR.out.gr ((Gr.refl _).alloc _))).out.mono ?_
  rintro _ w0 ⟨rfl, rfl⟩
  obtain ⟨_, k0, k1, k2⟩ := HM.out
  cases h1 : rightB m f c
  · have HN := Lib.hid (rt_no (l := l) (d := d) (Or.inl h1))
    rw [h1] at R
    clear h1
    go_wp2_with fail
    refine (R _).out.mono ?_
    rintro _ w1 ⟨rfl, hg1⟩
    have HG1 := Lib.hid (((Gr.refl _).alloc _).trans hg1)
    clear hg1
    go_wp2
    go_ret2
    exact ⟨ret_pair HN.out.1.symm HN.out.2.symm, HG1.out⟩
  · have H1 := Lib.hid h1
    rw [h1] at R
    clear h1
    go_wp2_with fail
    refine (R _).out.mono ?_
    rintro _ w1 ⟨rfl, hg1⟩
    have HG1 := Lib.hid (((Gr.refl _).alloc _).trans hg1)
    have HM1 := Lib.hid (HM.out.gr hg1)
    clear hg1 HM R k0 k1 k2
    cases h2 : tabB l
    · have HN := Lib.hid (rt_no (m := m) (f := f) (c := c) (d := d) (Or.inr (Or.inl h2)))
      rw [h2] at T
      clear h2
      go_wp2_with fail
      refine (T _ (HR.out.gr HG1.out)).out.mono ?_
      rintro _ w2 ⟨rfl, hg2⟩
      have HG2 := Lib.hid (HG1.out.trans hg2)
      clear hg2
      go_wp2
      go_ret2
      exact ⟨ret_pair HN.out.1.symm HN.out.2.symm, HG2.out⟩
    · have H2 := Lib.hid h2
      rw [h2] at T
      clear h2
      go_wp2_with fail
      refine (T _ (HR.out.gr HG1.out)).out.mono ?_
      rintro _ w2 ⟨rfl, hg2⟩
      have HG2 := Lib.hid (HG1.out.trans hg2)
      obtain ⟨_, k0, k1, k2⟩ := HM1.out.gr hg2
      clear hg2 HM1 T
      cases o with
      | none =>
        have HN := Lib.hid (rt_no (m := m) (f := f) (c := c) (Or.inr (Or.inr HO.out.symm)))
        have eb : atB none = false := rfl
        go_wp2
        go_ret2
        exact ⟨ret_pair HN.out.1.symm HN.out.2.symm, HG2.out⟩
      | some x =>
        have HN := Lib.hid (rt_yes H1.out H2.out HO.out.symm)
        have hx := at_range H2.out HO.out.symm
        have eb : atB (some x) = true := rfl
        have ev : atV (some x) = x := rfl
        have hm : -10000 ≤ m ∧ m ≤ 10000 ∧ 0 ≤ f ∧ f ≤ c ∧ c ≤ 10000 := by have := H1.out; unfold rightB at this; simpa using this
        obtain ⟨m1, m2, m3, m4, m5⟩ := hm
        obtain ⟨x1, x2⟩ := hx
        go_wp2
        all_goals
          go_ret2
          exact ⟨ret_pair (by rw [HN.out.1]; omega) HN.out.2.symm, HG2.out⟩
end Go.Proofs.Ytgokihclfdkgeaa
