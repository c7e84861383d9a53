/- rate.Add. -/
import Derived.Test.YtgokihclfdkgeaaRtM
namespace Go.Proofs.Ytgokihclfdkgeaa
open Go.RowKit Go.Sort

theorem two_cells (w : World) (x y : Int) (t : TypeId) : (w.alloc (Obj.cells #[Value.int IntKind.i64 x, Value.int IntKind.i64 y] t)).cell? ⟨w.heap.size, 0, none⟩ = some (.int .i64 x) ∧ (w.alloc (Obj.cells #[Value.int IntKind.i64 x, Value.int IntKind.i64 y] t)).cell? ⟨w.heap.size, 1, none⟩ = some (.int .i64 y) := by
  refine ⟨?_, ?_⟩ <;> simp [go_sem]
/-- a reset lies in block b -/
def RBox (w : World) (b : Nat) (x y : Int) : Prop := b < w.heap.size ∧ w.cell? ⟨b, 0, none⟩ = some (.int .i64 x) ∧ w.cell? ⟨b, 1, none⟩ = some (.int .i64 y)
theorem RBox.made (w : World) (x y : Int) (t : TypeId) : RBox (w.alloc (Obj.cells #[Value.int IntKind.i64 x, Value.int IntKind.i64 y] t)) w.heap.size x y := by
  obtain ⟨a, b⟩ := two_cells w x y t
  exact ⟨by simp, a, b⟩
theorem RBox.gr {w w' : World} {b : Nat} {x y : Int} (h : RBox w b x y) (g : Gr w w') : RBox w' b x y :=
  ⟨Nat.lt_of_lt_of_le h.1 g.size, gcell g h.1 h.2.1, gcell g h.1 h.2.2⟩
theorem one_rs (w : World) (x y : Int) (t : TypeId) : RsAt (w.alloc (.cells #[.int .i64 x, .int .i64 y] t)) (some ⟨w.heap.size, 0, none⟩) [(x, y)] := by
  refine Or.inr ⟨w.heap.size, 0, rfl, by simp, fun i hi => ?_⟩
  obtain rfl : i = 0 := by simp at hi; exact hi
  simp

def addOk (l : List Rs) (x y : Int) : Bool := tabB l && tabB (l ++ [(x, y)])
/-- what Add answers -/
def AddRes (l : List Rs) (x y : Int) (w : World) (e : Ending) (w' : World) : Prop :=
  Gr w w' ∧ ((addOk l x y = false ∧ e = .returned (.tuple #[.slice none 0 0, .int .i64 52])) ∨
    (addOk l x y = true ∧ ∃ v cap, e = .returned (.tuple #[.slice v (l.length + 1) cap, .int .i64 0]) ∧ RsAt w' v (l ++ [(x, y)])))

set_option maxHeartbeats 1600000 in
theorem add_any (a : Option Addr) (l : List Rs) (cap : Nat) (x y : Int) (w : World) (hr : RsAt w a l) (hl : l.length ≤ 500) (hcap : l.length ≤ cap) (hnil : a = none → cap = 0) :
    Calls Try.prog 18 #[.slice a l.length cap, .agg #[.int .i64 x, .int .i64 y]] w (AddRes l x y w) := by
  have HR := Lib.hid hr
  have HB := Lib.hid (RBox.made w x y 42)
  have T : ∀ W, RsAt W a l → Hid (Calls Try.prog 22 #[.slice a l.length cap] W fun e w' => e = .returned (.bool (tabB l)) ∧ Gr W w') := fun W h => table_any a l cap W h (by omega)
  have T2 : ∀ v c W, RsAt W v (l ++ [(x, y)]) → Hid (Calls Try.prog 22 #[.slice v (l.length + 1) c] W fun e w' => e = .returned (.bool (tabB (l ++ [(x, y)]))) ∧ Gr W w') := fun v c W h => Lib.hid (by have := table_any v _ c W h (by simp; omega); rw [show (l ++ [(x, y)]).length = l.length + 1 by simp] at this; exact this)
  have hnil2 : a = none → l = [] := fun h => List.eq_nil_of_length_eq_zero (by have := hnil h; omega)
  have HN := Lib.hid hnil2
  clear hr hnil hnil2
  cases h1 : tabB l
  · have HE := Lib.hid (show addOk l x y = false by unfold addOk; rw [h1]; rfl)
    rw [h1] at T
    clear h1
    go_enter Try.func18, Try.ntmps18
    go_wp2_with fail
    refine (T _ (HR.out.gr ((Gr.refl _).alloc _))).out.mono ?_
    rintro _ w1 ⟨rfl, hg1⟩
    have HG1 := Lib.hid (((Gr.refl _).alloc _).trans hg1)
    clear hg1
    go_wp2
    go_ret2
    exact ⟨HG1.out, Or.inl ⟨HE.out, rfl⟩⟩
  · have HE : ∀ b, Hid (tabB (l ++ [(x, y)]) = b → addOk l x y = b) := fun b => Lib.hid fun h => by unfold addOk; rw [h1, h]; rfl
    rw [h1] at T
    clear h1
    go_enter Try.func18, Try.ntmps18
    go_wp2_with fail
    refine (T _ (HR.out.gr ((Gr.refl _).alloc _))).out.mono ?_
    rintro _ w1 ⟨rfl, hg1⟩
    have HG1 := Lib.hid (((Gr.refl _).alloc _).trans hg1)
    obtain ⟨hbl, c0, c1⟩ := HB.out.gr hg1
    clear hg1 HB T
    have h5 : (l.length : Int) ≤ (cap : Int) := by omega
    have h6 : (0 : Int) ≤ (l.length : Int) := by omega
    go_wp2_with fail
    go_region_law (first
      | (refine step_full (by rfl) _ _ (by rfl) a l [(x, y)] _ l.length l.length 1 1 (by rfl) (by rfl) rfl rfl (HR.out.gr (by first | (exact (HG1.out.drew.alloc _)) | (exact (HG1.out.alloc _).drew))) HN.out (by first | exact one_rs _ _ _ _ | exact one_rs w1.drew _ _ _) (by simp; omega) (by simp) ?_; intro v3 w3 ho3 hg3))
    obtain ⟨a3, c3, hv, hr3, _, _⟩ := ho3.row
    rw [show (l ++ [(x, y)]).length = l.length + 1 by simp] at hv
    subst hv
    have HG3 := Lib.hid (Gr.trans (by first | (exact (HG1.out.drew.alloc _)) | (exact (HG1.out.alloc _).drew)) hg3)
    have HR3 := Lib.hid hr3
    clear hr3 ho3 hg3 c0 c1
    obtain ⟨t, ht⟩ : ∃ t, t = tabB (l ++ [(x, y)]) := ⟨_, rfl⟩
    have HT := Lib.hid ((HE t).out ht.symm)
    rw [← ht] at T2
    clear ht HE
    go_wp2_with fail
    with_reducible refine (T2 _ _ _ HR3.out).out.mono ?_
    rintro _ w4 ⟨rfl, hg4⟩
    have HG4 := Lib.hid (HG3.out.trans hg4)
    have HR4 := Lib.hid (HR3.out.gr hg4)
    clear hg4 HR3
    cases t
    · go_wp2
      go_ret2
      exact ⟨HG4.out, Or.inl ⟨HT.out, rfl⟩⟩
    · go_wp2
      go_ret2
      exact ⟨HG4.out, Or.inr ⟨HT.out, _, _, rfl, HR4.out⟩⟩
end Go.Proofs.Ytgokihclfdkgeaa
