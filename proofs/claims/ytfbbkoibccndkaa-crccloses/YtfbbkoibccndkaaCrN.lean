/- slices.Concat of two. -/
import Derived.Test.YtfbbkoibccndkaaCrL
namespace Go.Proofs.Ytfbbkoibccndkaa
open Go.RowKit Go.Lib

theorem MadeB.row {l : List UInt8} {w : World} {e : Ending} {w' : World} (h : MadeB l w e w') : ∃ a cap, e = .returned (.slice a l.length cap) ∧ BAt w' a l ∧ (a = none → l = []) ∧ RowKit.Below w.heap.size w w' ∧ l.length ≤ cap := by
  obtain ⟨v, rfl, ho, hb, _⟩ := h
  obtain ⟨a, cap, hv, h1, h2, _, h3, _⟩ := ho.row
  exact ⟨a, cap, by rw [hv], h1, fun e => List.eq_nil_of_length_eq_zero (by have := h3 e; omega), hb, h2⟩
set_option maxRecDepth 100000 in
set_option maxHeartbeats 800000 in
theorem concat_any (q : Nat) (a a2 : Option Addr) (l l2 : List UInt8) (n n2 c c2 : Nat) (w : World) (hq0 : w.cell? ⟨q, 0, none⟩ = some (.slice a n c)) (hq1 : w.cell? ⟨q, 1, none⟩ = some (.slice a2 n2 c2)) (hb : BAt w a l) (hb2 : BAt w a2 l2) (hn : l.length = n) (hn2 : l2.length = n2)
    (ha : a = none → l = []) (ha2 : a2 = none → l2 = []) (h1 : 1 ≤ n2) (hl : n ≤ 500000) (hl2 : n2 ≤ 100) :
    Calls Try.prog 22 #[.slice (some ⟨q, 0, none⟩) 2 2] w (MadeB (l ++ l2) w) := by
  have HG := fun W => Lib.hid (grow_nil (n + n2) W (by omega) (by omega))
  rw [show ((n + n2 : Nat) : Int) = (n : Int) + (n2 : Int) by omega] at HG
  have HB := Lib.hid hb
  have HB2 := Lib.hid hb2
  have HN := Lib.hid hn
  have HN2 := Lib.hid hn2
  have HA := Lib.hid ha
  have HA2 := Lib.hid ha2
  have HQ1 := Lib.hid hq1
  have HQ0 := Lib.hid hq0
  clear hb hb2 hn hn2 ha ha2
  go_enter Try.func22, Try.ntmps22
  go_wp2
  refine wp_loop_rounds 3 ?_
  iterate 3 (rw [rounds_succ]; go_wp2_with fail)
  refine (HG _).out.mono ?_
  rintro _ w1 ⟨v, rfl, ho, hB1, hv⟩
  have HO := Lib.hid ho
  have HW1 := Lib.hid hB1
  have HV := Lib.hid hv
  have c0 := cell_bl hq0 hB1
  have c1 := cell_bl hq1 hB1
  clear ho hB1 hv hq0 hq1 HG
  go_wp2_with fail
  refine wp_loop_rounds 3 ?_
  have HBB := Lib.hid (HB.out.below HW1.out)
  have HL1 := Lib.hid (show ([] : List UInt8).length + l.length ≤ 1000000000 by have := HN.out; simp; omega)
  have HS1 := Lib.hid HW1.out.size
  rw [rounds_succ]
  go_wp2_with (with_reducible refine wpList_appB rfl _ _ rfl w.heap.size v [] l a c n rfl rfl HN.out HO.out HBB.out HA.out HL1.out HS1.out (fun v1 w2 h2 => ?_))
  rw [List.nil_append] at h2
  obtain ⟨o2, u2, s2, z2⟩ := h2
  have HO2 := Lib.hid o2
  have HW2 := Lib.hid (u2.below HO.out HS1.out HW1.out)
  have HS2 := Lib.hid s2
  have HV2 := Lib.hid (fun e => HV.out (z2 e).2)
  have c2' := cell_bl HQ1.out HW2.out
  have HBC := Lib.hid (HB2.out.below HW2.out)
  have HL2 := Lib.hid (show l.length + l2.length ≤ 1000000000 by have := HN.out; have := HN2.out; omega)
  clear o2 u2 s2 z2 c0 c1 HO HBB HL1 HS1
  go_simp
  rw [rounds_succ]
  go_wp2_with (with_reducible refine wpList_appB rfl _ _ rfl w.heap.size v1 l l2 a2 c2 n2 rfl rfl HN2.out HO2.out HBC.out HA2.out HL2.out HS2.out (fun v2 w3 h3 => ?_))
  obtain ⟨o3, u3, s3, z3⟩ := h3
  have HO3 := Lib.hid o3
  have HW3 := Lib.hid (u3.below HO2.out HS2.out HW2.out)
  have HV3 := Lib.hid (fun e => HV2.out (z3 e).2)
  clear o3 u3 s3 z3 c2'
  go_simp
  rw [rounds_succ]
  go_wp2
  go_ret
  exact ⟨_, rfl, HO3.out, HW3.out, HV3.out⟩
end Go.Proofs.Ytfbbkoibccndkaa
