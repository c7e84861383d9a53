/- Package crc: what is said of bytes, as four bytes. slices.Grow of none. slices.Concat of two. Package crc: Close; bytes.Clone. -/
import Derived.Test.YtdfbpaajkpnaeaaGreatCrMB
import Derived.Lib.AppendZeros

namespace Go.Proofs.YtdfbpaajkpnaeaaGreat
set_option maxRecDepth 100000
open Go.RowKit Go.Lib

/-- what is said of some bytes -/
def ofL (l : List UInt8) : Nat := sm (ad 4294967295 l)
theorem ofL_lt (l : List UInt8) : ofL l < 4294967296 := sm_lt (ad_lt (by omega) l)
/-- four bytes, the lowest one first -/
def le4 (s : Nat) : List UInt8 := [s.toUInt8, (s / 256).toUInt8, (s / 65536).toUInt8, (s / 16777216).toUInt8]
def sealL (l : List UInt8) : List UInt8 := le4 (ofL l)
theorem sealL_len (l : List UInt8) : (sealL l).length = 4 := rfl
theorem le4_cells (s : Nat) (hs : s < 4294967296) : #[Value.int .u8 ((s : Int) % 256), .int .u8 ((s : Int) / 256 % 256), .int .u8 ((s : Int) / 65536 % 256), .int .u8 ((s : Int) / 16777216)] = (bcells (le4 s)).toArray := by
  have e : (s : Int) / 16777216 = (s : Int) / 16777216 % 256 := by omega
  rw [e]
  simp [bcells, le4, Nat.toUInt8]
set_option maxRecDepth 100000 in
theorem seal_any (a : Option Addr) (l : List UInt8) (n cap : Nat) (w : World) (hb : BAt w a l) (hn : l.length = n) (hl : n ≤ 1000000) :
    Calls Tryz.prog 79 #[.slice a n cap] w fun e w' => e = .returned (.agg (bcells (sealL l)).toArray) ∧ RowKit.Below w.heap.size w w' := by
  have HB := Lib.hid (hb.below ((RowKit.Below.refl _ _).alloc (Nat.le_refl _) (.cells #[.int .u8 0, .int .u8 0, .int .u8 0, .int .u8 0] 137)))
  have HN := Lib.hid hn
  have H1 := Lib.hid (start_any (w.alloc (.cells #[.int .u8 0, .int .u8 0, .int .u8 0, .int .u8 0] 137)))
  have H2 := Lib.hid (add_any 4294967295 a l n cap _ (by omega) HB.out hn hl)
  have H3 := Lib.hid (sum_any (ad 4294967295 l) (w.alloc (.cells #[.int .u8 0, .int .u8 0, .int .u8 0, .int .u8 0] 137)) (ad_lt (by omega) l))
  obtain ⟨s, hs⟩ : ∃ s, s = ofL l := ⟨_, rfl⟩
  have hs1 : s < 4294967296 := by rw [hs]; exact ofL_lt l
  have HS := Lib.hid hs
  rw [show sm (ad 4294967295 l) = s from hs.symm] at H3
  have HC := Lib.hid (le4_cells s hs1)
  clear hb hn hs
  go_enter Tryz.func79, Tryz.ntmps79
  go_wp2_with fail
  refine H1.out.mono ?_
  rintro _ _ ⟨rfl, rfl⟩
  go_wp2_with fail
  refine H2.out.mono ?_
  rintro _ _ ⟨rfl, rfl⟩
  go_wp2_with fail
  refine H3.out.mono ?_
  rintro _ _ ⟨rfl, rfl⟩
  go_wp2
  refine bodyPost_ret (v := .agg #[.int .u8 ((s : Int) % 256), .int .u8 ((s : Int) / 256 % 256), .int .u8 ((s : Int) / 65536 % 256), .int .u8 ((s : Int) / 16777216)]) (by simp [results, Tryz.results79, go_sem]) rfl ⟨?_, (RowKit.Below.refl _ _).alloc (Nat.le_refl _) _⟩
  rw [HC.out, HS.out]
  rfl
end Go.Proofs.YtdfbpaajkpnaeaaGreat

namespace Go.Proofs.YtdfbpaajkpnaeaaGreat
set_option maxRecDepth 100000
open Go.RowKit Go.Lib

/-- a new slice of the call's own -/
def cMadeB (l : List UInt8) (w : World) (e : Ending) (w' : World) : Prop := ∃ v, e = .returned v ∧ OB w' w.heap.size v l ∧ RowKit.Below w.heap.size w w' ∧ (v = .slice none 0 0 → False)
set_option maxRecDepth 100000 in
theorem cgrow_nil (n : Nat) (w : World) (h0 : 1 ≤ n) (hn : n ≤ 1000000) :
    Calls Tryz.prog 87 #[.slice none 0 0, .int .i64 (n : Int)] w (cMadeB [] w) := by
  obtain ⟨i, hi, hz, hs1, hs8⟩ := info8
  have hrz : ∀ ty, (Builtin.append_ #[23, 3] ty #[.slice none 0 0, .int .i64 (n : Int)]).run Tryz.prog w = _ := fun ty =>
    run_append_nil_zeros w 23 3 ty 5 i (.int .u8 0) .i64 .i64 Tryz.underlying23 Tryz.underlying3 hi hz n (by omega) (by omega) (by omega) (by rw [hs8]; omega)
  have hg1 := grownCap_ge w n 0 5
  have hg2 := grownCap_le_maxLen w n 0 5 (by unfold maxLen; omega)
  generalize grownCap w n 0 5 = G at *
  obtain ⟨C, hC⟩ : ∃ C, C = Builtin.zeroCells (Value.int .u8 0).cells n ++ Builtin.zeroCells (Value.int .u8 0).cells (G - n) := ⟨_, rfl⟩
  have hCs : C.size = G * 1 := by
    rw [hC, Array.size_append, size_zeroCells, size_zeroCells]
    simp [Value.cells]
    omega
  rw [← hC] at hrz
  have HP := Lib.hid (show cMadeB [] w (.returned (.slice (some ⟨w.heap.size, 0, none⟩) 0 G)) (w.drew.alloc (.cells C 5)) from
    ⟨_, rfl, ⟨rfl, Or.inr ⟨w.heap.size, G, C, rfl, Nat.le_refl _, heap_alloc_new w.drew _, Nat.zero_le _, hg2, hCs, rfl⟩⟩, (RowKit.Below.refl _ _).drew.alloc (by simp) _, fun e => by cases e⟩)
  have HR := Lib.hid hrz
  clear hC hCs hi hz hs1 hs8 hrz hg1
  unfold maxLen at hg2
  go_enter Tryz.func87, Tryz.ntmps87
  go_wp2_with (at_builtin; refine Lib.wpList_append_run _ rfl _ _ _ _ rfl _ _ rfl rfl _ _ (HR.out _) ?_)
  go_ret
  exact HP.out
end Go.Proofs.YtdfbpaajkpnaeaaGreat

namespace Go.Proofs.YtdfbpaajkpnaeaaGreat
set_option maxRecDepth 100000
open Go.RowKit Go.Lib

theorem cMadeB.row {l : List UInt8} {w : World} {e : Ending} {w' : World} (h : cMadeB l w e w') : ∃ a cap, e = .returned (.slice a l.length cap) ∧ BAt w' a l ∧ (a = none → l = []) ∧ RowKit.Below w.heap.size w w' ∧ l.length ≤ cap := by
  obtain ⟨v, rfl, ho, hb, _⟩ := h
  obtain ⟨a, cap, hv, h1, h2, _, h3, _⟩ := ho.row
  exact ⟨a, cap, by rw [hv], h1, fun e => List.eq_nil_of_length_eq_zero (by have := h3 e; omega), hb, h2⟩
set_option maxRecDepth 100000 in
set_option maxHeartbeats 800000 in
theorem cconcat_any (q : Nat) (a a2 : Option Addr) (l l2 : List UInt8) (n n2 c c2 : Nat) (w : World) (hq0 : w.cell? ⟨q, 0, none⟩ = some (.slice a n c)) (hq1 : w.cell? ⟨q, 1, none⟩ = some (.slice a2 n2 c2)) (hb : BAt w a l) (hb2 : BAt w a2 l2) (hn : l.length = n) (hn2 : l2.length = n2)
    (ha : a = none → l = []) (ha2 : a2 = none → l2 = []) (h1 : 1 ≤ n2) (hl : n ≤ 500000) (hl2 : n2 ≤ 100) :
    Calls Tryz.prog 64 #[.slice (some ⟨q, 0, none⟩) 2 2] w (cMadeB (l ++ l2) w) := by
  have HG := fun W => Lib.hid (cgrow_nil (n + n2) W (by omega) (by omega))
  rw [show ((n + n2 : Nat) : Int) = (n : Int) + (n2 : Int) by omega] at HG
  have HB := Lib.hid hb
  have HB2 := Lib.hid hb2
  have HN := Lib.hid hn
  have HN2 := Lib.hid hn2
  have HA := Lib.hid ha
  have HA2 := Lib.hid ha2
  have HQ1 := Lib.hid hq1
  have HQ0 := Lib.hid hq0
  clear hb hb2 hn hn2 ha ha2
  go_enter Tryz.func64, Tryz.ntmps64
  go_wp2
  refine wp_loop_rounds 3 ?_
  iterate 3 (rw [rounds_succ]; go_wp2_with fail)
  refine (HG _).out.mono ?_
  rintro _ w1 ⟨v, rfl, ho, hB1, hv⟩
  have HO := Lib.hid ho
  have HW1 := Lib.hid hB1
  have HV := Lib.hid hv
  have c0 := ccell_bl hq0 hB1
  have c1 := ccell_bl hq1 hB1
  clear ho hB1 hv hq0 hq1 HG
  go_wp2_with fail
  refine wp_loop_rounds 3 ?_
  have HBB := Lib.hid (HB.out.below HW1.out)
  have HL1 := Lib.hid (show ([] : List UInt8).length + l.length ≤ 1000000000 by have := HN.out; simp; omega)
  have HS1 := Lib.hid HW1.out.size
  rw [rounds_succ]
  go_wp2_with (with_reducible refine wpList_appB rfl _ _ rfl w.heap.size v [] l a c n rfl rfl HN.out HO.out HBB.out HA.out HL1.out HS1.out (fun v1 w2 h2 => ?_))
  rw [List.nil_append] at h2
  obtain ⟨o2, u2, s2, z2⟩ := h2
  have HO2 := Lib.hid o2
  have HW2 := Lib.hid (u2.below HO.out HS1.out HW1.out)
  have HS2 := Lib.hid s2
  have HV2 := Lib.hid (fun e => HV.out (z2 e).2)
  have c2' := ccell_bl HQ1.out HW2.out
  have HBC := Lib.hid (HB2.out.below HW2.out)
  have HL2 := Lib.hid (show l.length + l2.length ≤ 1000000000 by have := HN.out; have := HN2.out; omega)
  clear o2 u2 s2 z2 c0 c1 HO HBB HL1 HS1
  go_simp
  rw [rounds_succ]
  go_wp2_with (with_reducible refine wpList_appB rfl _ _ rfl w.heap.size v1 l l2 a2 c2 n2 rfl rfl HN2.out HO2.out HBC.out HA2.out HL2.out HS2.out (fun v2 w3 h3 => ?_))
  obtain ⟨o3, u3, s3, z3⟩ := h3
  have HO3 := Lib.hid o3
  have HW3 := Lib.hid (u3.below HO2.out HS2.out HW2.out)
  have HV3 := Lib.hid (fun e => HV2.out (z3 e).2)
  clear o3 u3 s3 z3 c2'
  go_simp
  rw [rounds_succ]
  go_wp2
  go_ret
  exact ⟨_, rfl, HO3.out, HW3.out, HV3.out⟩
end Go.Proofs.YtdfbpaajkpnaeaaGreat

namespace Go.Proofs.YtdfbpaajkpnaeaaGreat
set_option maxRecDepth 100000
open Go.RowKit Go.Lib

theorem seal_four (l : List UInt8) : ∃ b0 b1 b2 b3 : UInt8, sealL l = [b0, b1, b2, b3] := ⟨_, _, _, _, rfl⟩
set_option maxRecDepth 100000 in
set_option maxHeartbeats 800000 in
theorem close_any (a : Option Addr) (l : List UInt8) (n cap : Nat) (w : World) (hb : BAt w a l) (hn : l.length = n) (ha : a = none → l = []) (hl : n ≤ 500000) :
    Calls Tryz.prog 51 #[.slice a n cap] w (cMadeB (l ++ sealL l) w) := by
  have H1 := Lib.hid (seal_any a l n cap w hb hn (by omega))
  obtain ⟨b0, b1, b2, b3, hs⟩ := seal_four l
  have H2 := fun W q A2 h0 h1 h2 h3 => Lib.hid (cconcat_any q a A2 l (sealL l) n 4 cap 4 W h0 h1 h2 h3 hn rfl ha (fun e => by rw [e] at h3; rcases h3 with h | ⟨_, _, h, _⟩; exact absurd h (by rw [hs]; exact List.cons_ne_nil _ _); cases h) (by omega) hl (by omega))
  rw [hs] at H1 H2 ⊢
  rw [show (bcells [b0, b1, b2, b3]).toArray = #[.int .u8 (b0.toNat : Int), .int .u8 (b1.toNat : Int), .int .u8 (b2.toNat : Int), .int .u8 (b3.toNat : Int)] from rfl] at H1
  have HB := Lib.hid hb
  clear hb hn hs ha
  go_enter Tryz.func51, Tryz.ntmps51
  go_wp2_with fail
  refine H1.out.mono ?_
  rintro _ w1 ⟨rfl, hb1⟩
  have HW1 := Lib.hid hb1
  clear hb1
  go_wp2_with fail
  refine (H2 _ _ (some ⟨w1.heap.size, 0, none⟩) (by simp) (by simp) (((HB.out.below HW1.out).below ((RowKit.Below.refl _ _).alloc (Nat.le_refl _) _)).below ((RowKit.Below.refl _ _).alloc (Nat.le_refl _) _)) ((bat_new _ _ _ _ rfl).below ((RowKit.Below.refl _ _).alloc (Nat.le_refl _) _))).out.mono ?_
  rintro _ w2 ⟨v, rfl, ho, hB2, hv⟩
  have hs := HW1.out.size
  have HO := Lib.hid (ho.mono (b2 := w.heap.size) (by simp; omega))
  have HW2 := Lib.hid (HW1.out.trans ((((RowKit.Below.refl _ _).alloc (Nat.le_refl _) _).alloc (by simp) _).trans (hB2.mono (by simp; omega)) |>.mono HW1.out.size))
  have HV := Lib.hid hv
  clear ho hB2 hv hs H2 H1
  go_wp2
  go_ret
  exact ⟨_, rfl, HO.out, HW2.out, HV.out⟩
theorem clone_some (p : Addr) (l : List UInt8) (n c : Nat) (w : World) (hb : BAt w (some p) l) (hn : l.length = n) (hl : n ≤ 900000000) :
    Calls Tryz.prog 85 #[.slice (some p) n c] w (cMadeB l w) := by
  have q22 : ∀ (w : World) (a : Option Addr) (n c n' c' : Nat), (binOp .eql 23 (.slice a n c) (.slice none n' c')).run Tryz.prog w = .ok (.bool a.isNone) w := fun w a n c n' c' => Lib.run_eql_slice_nil w _ _ a n c n' c' Tryz.underlying23
  have HB := Lib.hid hb
  have HL := Lib.hid hl
  have HE := Lib.hid hn
  clear hb hl hn
  go_enter Tryz.func85, Tryz.ntmps85
  go_wp2_with (at_builtin; refine wpList_appB rfl _ _ rfl w.heap.size _ [] l (some p) _ n (by rfl) (by rfl) HE.out (OB.lit (Nat.le_refl _)) (HB.out.below ((RowKit.Below.refl _ _).alloc (Nat.le_refl _) _)) (fun h => by cases h) (by have := HL.out; have := HE.out; simp; omega) (by simp) ?_; intro v3 w3 h3)
  have H3 := Lib.hid h3
  clear h3
  go_wp2
  go_ret
  exact ⟨v3, rfl, H3.out.1, H3.out.2.1.below (OB.lit (Nat.le_refl _)) (by simp) ((RowKit.Below.refl _ _).alloc (Nat.le_refl _) _), fun e => by cases (H3.out.2.2.2 e).2⟩
end Go.Proofs.YtdfbpaajkpnaeaaGreat
