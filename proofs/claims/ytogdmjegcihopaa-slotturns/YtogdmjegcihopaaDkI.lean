
/- slices.Grow of none, slices.Concat of two; a function value is called. -/
import Derived.Test.YtogdmjegcihopaaDkH
import Derived.Lib.AppendZeros
import Derived.LoopN
namespace Go.Proofs.Ytogdmjegcihopaa
set_option maxRecDepth 100000
open Go.RowKit Go.Lib

/-- a function value of one number is called -/
theorem wp_callv {o : Oper} {a : Act} {w : World} {K : Act → World → Prop} {Q : Exit → Act → World → Prop} (fo xo : Operand) (ho : o.op = .call { callee := .value fo, args := #[xo], argTypes := #[3] }) {fid : FuncId} {cap : Array Value} {x v : Value} (hf : a.eval fo = .func (.func fid) #[] cap) (hx : a.eval xo = x)
    (he : ∀ (args : Array Value) (w : World), (callFunc fid args).run Try.prog w = .ok (.enter fid args) w) (hc : Calls Try.prog fid (#[x] ++ cap) w fun e w' => e = .returned v ∧ w = w') (h : K (a.put o.dst v) w) : o.wp Try.prog a w K Q := by
  have hrun : (execOp a.eval o).run Try.prog w = .ok (.enter fid (#[x] ++ cap)) w := by
    unfold execOp
    simp only [ho, resolve, List.map_toArray, List.map_cons, List.map_nil, hf, hx, Deferred.ofValue, Sem.run_bind, Sem.run_pure, Result.andThen_ok, invoke, Array.empty_append, he]
  unfold Oper.wp
  rw [hrun, Oper.upon_enter]
  refine hc.mono fun e w'' hh => ?_
  obtain ⟨rfl, rfl⟩ := hh
  exact h

/-- a new slice of the call's own -/
def MadeB (l : List UInt8) (w : World) (e : Ending) (w' : World) : Prop := ∃ v, e = .returned v ∧ OB w' w.heap.size v l ∧ RowKit.Below w.heap.size w w' ∧ (v = .slice none 0 0 → False)
theorem cell_bl {w w' : World} {p : Addr} {v : Value} (h : w.cell? p = some v) (hb : RowKit.Below w.heap.size w w') : w'.cell? p = some v := by
  rw [hb.cell (World.block_lt_of_cell? w _ h)]; exact h
set_option maxRecDepth 100000 in
theorem grow_nil (n : Nat) (w : World) (h0 : 1 ≤ n) (hn : n ≤ 1000000) :
    Calls Try.prog 67 #[.slice none 0 0, .int .i64 (n : Int)] w (MadeB [] w) := by
  obtain ⟨i, hi, hz, hs1, hs8⟩ := info8
  have hrz : ∀ ty, (Builtin.append_ #[24, 3] ty #[.slice none 0 0, .int .i64 (n : Int)]).run Try.prog w = _ := fun ty =>
    run_append_nil_zeros w 24 3 ty 5 i (.int .u8 0) .i64 .i64 Try.underlying24 Try.underlying3 hi hz n (by omega) (by omega) (by omega) (by rw [hs8]; omega)
  have hg1 := grownCap_ge w n 0 5
  have hg2 := grownCap_le_maxLen w n 0 5 (by unfold maxLen; omega)
  generalize grownCap w n 0 5 = G at *
  obtain ⟨C, hC⟩ : ∃ C, C = Builtin.zeroCells (Value.int .u8 0).cells n ++ Builtin.zeroCells (Value.int .u8 0).cells (G - n) := ⟨_, rfl⟩
  have hCs : C.size = G * 1 := by
    rw [hC, Array.size_append, size_zeroCells, size_zeroCells]
    simp [Value.cells]
    omega
  rw [← hC] at hrz
  have HP := Lib.hid (show MadeB [] w (.returned (.slice (some ⟨w.heap.size, 0, none⟩) 0 G)) (w.drew.alloc (.cells C 5)) from
    ⟨_, rfl, ⟨rfl, Or.inr ⟨w.heap.size, G, C, rfl, Nat.le_refl _, heap_alloc_new w.drew _, Nat.zero_le _, hg2, hCs, rfl⟩⟩, (RowKit.Below.refl _ _).drew.alloc (by simp) _, fun e => by cases e⟩)
  have HR := Lib.hid hrz
  clear hC hCs hi hz hs1 hs8 hrz hg1
  unfold maxLen at hg2
  go_enter Try.func67, Try.ntmps67
  go_wp2_with (at_builtin; refine Lib.wpList_append_run _ rfl _ _ _ _ rfl _ _ rfl rfl _ _ (HR.out _) ?_)
  go_ret
  exact HP.out
theorem MadeB.row {l : List UInt8} {w : World} {e : Ending} {w' : World} (h : MadeB l w e w') : ∃ a cap, e = .returned (.slice a l.length cap) ∧ BAt w' a l ∧ (a = none → l = []) ∧ RowKit.Below w.heap.size w w' ∧ l.length ≤ cap := by
  obtain ⟨v, rfl, ho, hb, _⟩ := h
  obtain ⟨a, cap, hv, h1, h2, _, h3, _⟩ := ho.row
  exact ⟨a, cap, by rw [hv], h1, fun e => List.eq_nil_of_length_eq_zero (by have := h3 e; omega), hb, h2⟩
set_option maxRecDepth 100000 in
set_option maxHeartbeats 800000 in
theorem concat_any (q : Nat) (a a2 : Option Addr) (l l2 : List UInt8) (n n2 c c2 : Nat) (w : World) (hq0 : w.cell? ⟨q, 0, none⟩ = some (.slice a n c)) (hq1 : w.cell? ⟨q, 1, none⟩ = some (.slice a2 n2 c2)) (hb : BAt w a l) (hb2 : BAt w a2 l2) (hn : l.length = n) (hn2 : l2.length = n2)
    (ha : a = none → l = []) (ha2 : a2 = none → l2 = []) (h1 : 1 ≤ n + n2) (hl : n ≤ 500000) (hl2 : n2 ≤ 100) :
    Calls Try.prog 50 #[.slice (some ⟨q, 0, none⟩) 2 2] w (MadeB (l ++ l2) w) := by
  have HG := fun W => Lib.hid (grow_nil (n + n2) W (by omega) (by omega))
  rw [show ((n + n2 : Nat) : Int) = (n : Int) + (n2 : Int) by omega] at HG
  have HB := Lib.hid hb
  have HB2 := Lib.hid hb2
  have HN := Lib.hid hn
  have HN2 := Lib.hid hn2
  have HA := Lib.hid ha
  have HA2 := Lib.hid ha2
  have HQ1 := Lib.hid hq1
  have HQ0 := Lib.hid hq0
  clear hb hb2 hn hn2 ha ha2 h1
  go_enter Try.func50, Try.ntmps50
  go_wp2
  refine wp_loop_rounds 3 ?_
  iterate 3 (rw [rounds_succ]; go_wp2_with fail)
  refine (HG _).out.mono ?_
  rintro _ w1 ⟨v, rfl, ho, hB1, hv⟩
  have HO := Lib.hid ho
  have HW1 := Lib.hid hB1
  have HV := Lib.hid hv
  have c0 := cell_bl hq0 hB1
  have c1 := cell_bl hq1 hB1
  clear ho hB1 hv hq0 hq1 HG
  go_wp2_with fail
  refine wp_loop_rounds 3 ?_
  have HBB := Lib.hid (HB.out.below HW1.out)
  have HL1 := Lib.hid (show ([] : List UInt8).length + l.length ≤ 1000000000 by have := HN.out; simp; omega)
  have HS1 := Lib.hid HW1.out.size
  rw [rounds_succ]
  go_wp2_with (with_reducible refine wpList_appB rfl _ _ rfl w.heap.size v [] l a c n rfl rfl HN.out HO.out HBB.out HA.out HL1.out HS1.out (fun v1 w2 h2 => ?_))
  rw [List.nil_append] at h2
  obtain ⟨o2, u2, s2, z2⟩ := h2
  have HO2 := Lib.hid o2
  have HW2 := Lib.hid (u2.below HO.out HS1.out HW1.out)
  have HS2 := Lib.hid s2
  have HV2 := Lib.hid (fun e => HV.out (z2 e).2)
  have c2' := cell_bl HQ1.out HW2.out
  have HBC := Lib.hid (HB2.out.below HW2.out)
  have HL2 := Lib.hid (show l.length + l2.length ≤ 1000000000 by have := HN.out; have := HN2.out; omega)
  clear o2 u2 s2 z2 c0 c1 HO HBB HL1 HS1
  go_simp
  rw [rounds_succ]
  go_wp2_with (with_reducible refine wpList_appB rfl _ _ rfl w.heap.size v1 l l2 a2 c2 n2 rfl rfl HN2.out HO2.out HBC.out HA2.out HL2.out HS2.out (fun v2 w3 h3 => ?_))
  obtain ⟨o3, u3, s3, z3⟩ := h3
  have HO3 := Lib.hid o3
  have HW3 := Lib.hid (u3.below HO2.out HS2.out HW2.out)
  have HV3 := Lib.hid (fun e => HV2.out (z3 e).2)
  clear o3 u3 s3 z3 c2'
  go_simp
  rw [rounds_succ]
  go_wp2
  go_ret
  exact ⟨_, rfl, HO3.out, HW3.out, HV3.out⟩
theorem bat_of {w : World} {b off : Nat} {s : List UInt8} (h : w.rangeAt b off (bcells s)) : BAt w (some ⟨b, off, none⟩) s := by
  by_cases hs : s = []
  · exact Or.inl hs
  · have hl : 0 < s.length := by cases s with | nil => exact absurd rfl hs | cons x l => exact Nat.succ_pos _
    have h0 := h 0 _ (bcells_get hl)
    exact Or.inr ⟨b, off, rfl, World.block_lt_of_cell? w _ h0, fun i hi => h i _ (bcells_get hi)⟩
theorem range_bat {w : World} {a : Option Addr} {s : List UInt8} (h : BAt w a s) (hs : 0 < s.length) : ∃ b off, a = some ⟨b, off, none⟩ ∧ w.rangeAt b off (bcells s) := by
  rcases h with h | ⟨b, off, ha, hlt, hc⟩
  · rw [h] at hs; exact absurd hs (by decide)
  · refine ⟨b, off, ha, fun j v hv => ?_⟩
    have hj : j < s.length := by rw [← bcells_len]; exact (List.getElem?_eq_some_iff.1 hv).1
    rw [hc j hj, ← hv, bcells_get hj]
end Go.Proofs.Ytogdmjegcihopaa
