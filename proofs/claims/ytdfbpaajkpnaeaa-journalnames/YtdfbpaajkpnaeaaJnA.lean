
/- Package journal: canBe, openLog, join, part. Package bytes: Equal, HasPrefix, CutPrefix. Mathematics: a content is a number and a state. -/
import Derived.Test.YtdfbpaajkpnaeaaLgEG
import Derived.Test.YtdfbpaajkpnaeaaSlFG
import Derived.Test.YtdfbpaajkpnaeaaPkI

namespace Go.Proofs.Ytdfbpaajkpnaeaa
set_option maxRecDepth 100000
open Go.RowKit Go.Lib

/-- a content: a floor, and a state behind it -/
def cont (f : Nat) (st : List UInt8) : List UInt8 := uvarint f ++ st
/-- does it begin with a number that may be a floor? -/
def ptO (c : List UInt8) : Bool := nO c && decide (nV c ≤ 1152921504606846976)
theorem uv_zero : uvarint 0 = [0] := by rw [uvarint_small (by omega)]; decide
theorem cont_len {f : Nat} (hf : f < 18446744073709551616) (st : List UInt8) : st.length + 1 ≤ (cont f st).length ∧ (cont f st).length ≤ st.length + 10 := by
  have h1 := uvarint_pos f
  have h2 := uvarint_length64 (x := f) (by omega)
  unfold cont
  rw [List.length_append]
  omega
theorem cont_part {f : Nat} (hf : f ≤ 1152921504606846976) (st : List UInt8) : nV (cont f st) = f ∧ nR (cont f st) = st ∧ nO (cont f st) = true ∧ ptO (cont f st) = true := by
  have h := dec_of f st (by omega)
  have h1 : nV (cont f st) = f := by unfold nV cont; rw [h]
  have h2 : nR (cont f st) = st := by unfold nR cont; rw [h]; simp
  have h3 : nO (cont f st) = true := by unfold nO cont; rw [h]
  refine ⟨h1, h2, h3, ?_⟩
  unfold ptO
  rw [h1, h3]
  simpa using hf
/-- what is taken begins the bytes; of what can't be taken not even nothing's number does -/
theorem begins (c : List UInt8) : c.take (uvarint (nV c)).length = uvarint (nV c) ↔ nO c = true := by
  cases h : dec c with
  | none =>
    have h1 : nV c = 0 := by unfold nV; rw [h]
    have h2 : nO c = false := by unfold nO; rw [h]
    rw [h1, h2, uv_zero]
    constructor
    · intro e
      exfalso
      have := dec_take (l := c) (m := 0) (k := 1) (by omega) (by rw [uv_zero]; exact e) (by
        cases c with
        | nil => simp at e
        | cons x r => simp)
      rw [h] at this
      cases this
    · intro e; cases e
  | some p =>
    obtain ⟨n, k⟩ := p
    obtain ⟨k1, k2, k3⟩ := dec_some h
    have h1 : nV c = n := by unfold nV; rw [h]
    have h2 : nO c = true := by unfold nO; rw [h]
    rw [h1, h2, k1]
    refine ⟨fun _ => rfl, fun _ => ?_⟩
    have := congrArg (List.take k) k2
    rw [this, List.take_append_of_le_length (by omega), List.take_of_length_le (by omega)]
theorem rest_of (c : List UInt8) (h : nO c = true) : c.drop (uvarint (nV c)).length = nR c ∧ (uvarint (nV c)).length ≤ c.length := by
  cases hd : dec c with
  | none => unfold nO at h; rw [hd] at h; cases h
  | some p =>
    obtain ⟨n, k⟩ := p
    obtain ⟨k1, k2, k3⟩ := dec_some hd
    have h4 := dec_le hd
    unfold nV nR
    rw [hd]
    simp only
    exact ⟨by rw [k1], by omega⟩
/-! package bytes -/
set_option maxHeartbeats 1600000 in
theorem bequal_any (l k : List UInt8) (a b : Option Addr) (n m ca cb : Nat) (w : World) (ha : BAt w a l) (hb : BAt w b k) (hn : l.length = n) (hm : k.length = m) :
    Calls Try.prog 67 #[.slice a n ca, .slice b m cb] w fun e w' => e = .returned (.bool (decide (l = k))) ∧ w = w' := by
  have c1 := run_conv ha n ca hn
  have c2 := run_conv hb m cb hm
  clear ha hb hn hm
  by_cases h : l = k
  · subst h
    go_enter Try.func67, Try.ntmps67
    go_wp2
    go_ret
    exact ⟨by simp, rfl⟩
  · have hne := str_ne h
    have HE := Lib.hid (show decide (l = k) = false from decide_eq_false h)
    clear h
    go_enter Try.func67, Try.ntmps67
    go_wp2
    go_ret
    exact ⟨by rw [HE.out]; rfl, rfl⟩
set_option maxHeartbeats 1600000 in
theorem bprefix_any (l k : List UInt8) (a b : Option Addr) (n m ca cb : Nat) (w : World) (ha : BAt w a l) (hb : BAt w b k) (hn : l.length = n) (hm : k.length = m) (hc : n ≤ ca) :
    Calls Try.prog 54 #[.slice a n ca, .slice b m cb] w fun e w' => e = .returned (.bool (decide (l.take m = k))) ∧ w = w' := by
  by_cases h : m ≤ n
  · have d0 : decide ((m : Int) ≤ (n : Int)) = true := by simpa using h
    have st := run_to a n ca m (by omega)
    have HC := Lib.hid (bequal_any (l.take m) k a b m m ca cb w (ha.take m) hb (by rw [List.length_take]; omega) hm)
    clear ha hb hn hm hc d0
    go_enter Try.func54, Try.ntmps54
    go_wp2_with fail
    refine HC.out.mono ?_
    rintro _ _ ⟨rfl, rfl⟩
    go_wp2
    go_ret
    exact ⟨rfl, rfl⟩
  · have d0 : decide ((m : Int) ≤ (n : Int)) = false := by simp; omega
    have HE := Lib.hid (show decide (l.take m = k) = false from decide_eq_false fun e => by
      have := congrArg List.length e
      rw [List.length_take] at this
      omega)
    clear ha hb hn hm hc d0
    go_enter Try.func54, Try.ntmps54
    go_wp2
    go_ret
    exact ⟨by rw [HE.out]; rfl, rfl⟩
set_option maxHeartbeats 1600000 in
theorem bcut_any (l k : List UInt8) (a b : Option Addr) (n m ca cb : Nat) (w : World) (ha : BAt w a l) (hb : BAt w b k) (hn : l.length = n) (hm : k.length = m) (hc : n ≤ ca) :
    Calls Try.prog 37 #[.slice a n ca, .slice b m cb] w fun e w' => w = w' ∧ ((l.take m = k ∧ m ≤ n ∧ e = .returned (.tuple #[.slice (cutA a ca m) (n - m) (ca - m), .bool true])) ∨ (l.take m ≠ k ∧ e = .returned (.tuple #[.slice a n ca, .bool false]))) := by
  have HP := Lib.hid (bprefix_any l k a b n m ca cb w ha hb hn hm hc)
  by_cases h : l.take m = k
  · have hmn : m ≤ n := by
      have := congrArg List.length h
      rw [List.length_take] at this
      omega
    rw [decide_eq_true h] at HP
    have sf := run_from a n ca m hmn
    have HR := Lib.hid (And.intro h hmn)
    clear ha hb hn hm hc h hmn
    go_enter Try.func37, Try.ntmps37
    go_wp2_with fail
    refine HP.out.mono ?_
    rintro _ _ ⟨rfl, rfl⟩
    go_wp2
    go_ret2
    exact ⟨rfl, Or.inl ⟨HR.out.1, HR.out.2, rfl⟩⟩
  · rw [decide_eq_false h] at HP
    have HR := Lib.hid h
    clear ha hb hn hm hc h
    go_enter Try.func37, Try.ntmps37
    go_wp2_with fail
    refine HP.out.mono ?_
    rintro _ _ ⟨rfl, rfl⟩
    go_wp2
    go_ret2
    exact ⟨rfl, Or.inr ⟨HR.out, rfl⟩⟩
/-! package journal -/
theorem num_one (n c : Nat) (hn : n < 18446744073709551616) (W : World) (q : Nat) (h : RAt (Value.int .u64) W (some ⟨q, 0, none⟩) [(n : Int)]) :
    Calls Try.prog 38 #[.slice none 0 0, .slice (some ⟨q, 0, none⟩) 1 c] W (Made (uvarint n) W) := by
  have := num_any none [] 0 0 (some ⟨q, 0, none⟩) [(n : Int)] 1 c W (Or.inl rfl) rfl (fun _ => rfl) (by simp) h rfl (by simp) (fun x hx => by
    have : x = (n : Int) := by simpa using hx
    omega)
  have e : ([] : List UInt8) ++ encU [(n : Int)] = uvarint n := by simp [encU]
  rwa [e] at this
theorem u64_row (W : World) (n : Int) (t : TypeId) : RAt (Value.int .u64) (W.alloc (.cells #[.int .u64 n] t)) (some ⟨W.heap.size, 0, none⟩) [n] := by
  have h := lie_new W [Value.int .u64 n] t
  rcases h with h | ⟨b, off, ha, hlt, hr⟩
  · cases h
  · exact Or.inr ⟨b, off, ha, hlt, fun k x hx => hr k _ (by cases k with
      | zero => simp at hx; subst hx; rfl
      | succ k => simp at hx)⟩
set_option maxHeartbeats 1600000 in
theorem jjoin_any (f : Nat) (l : List UInt8) (a : Option Addr) (len cap : Nat) (w : World) (hf : f < 18446744073709551616) (hb : BAt w a l) (hl : l.length = len) (ha : a = none → l = []) (hm : len ≤ 500000) :
    Calls Try.prog 26 #[.int .u64 (f : Int), .slice a len cap] w (Made (cont f l) w) := by
  have HNM := Lib.hid (fun (W : World) (q : Nat) (h : RAt (Value.int .u64) W (some ⟨q, 0, none⟩) [(f : Int)]) => num_one f 1 hf W q h)
  have HU := Lib.hid (uvarint_length64 (x := f) (by omega))
  have HB := Lib.hid hb
  have HL := Lib.hid hl
  have HA := Lib.hid ha
  have HM := Lib.hid hm
  clear hf hb hl ha hm
  go_enter Try.func26, Try.ntmps26
  go_wp2_with fail
  refine (HNM.out _ _ (u64_row _ _ _)).mono ?_
  rintro _ w1 ⟨v, rfl, ho, hb1⟩
  have HO := Lib.hid (ho.mono (b2 := w.heap.size) (by simp))
  have HB1 := Lib.hid (((RowKit.Below.refl w.heap.size w).alloc (Nat.le_refl _) _).trans (hb1.mono (by simp)))
  have HS := Lib.hid (show w.heap.size ≤ w1.heap.size from HB1.out.size)
  clear ho hb1 HNM
  go_wp2_with (at_builtin; refine wpList_appB rfl _ _ rfl w.heap.size v (uvarint f) l a cap len (by rfl) (by rfl) HL.out HO.out (HB.out.below HB1.out) HA.out (by have := HL.out; have := HM.out; have := HU.out; omega) HS.out ?_; intro v2 w2 h2)
  have HR := Lib.hid (show Made (cont f l) w (.returned v2) w2 from ⟨v2, rfl, h2.1, h2.2.1.below HO.out HS.out HB1.out⟩)
  clear h2
  go_wp2
  go_ret
  exact HR.out
/-- what part answers -/
def PtRes (c : List UInt8) (w : World) (e : Ending) (w' : World) : Prop :=
  RowKit.Below w.heap.size w w' ∧ ((ptO c = true ∧ ∃ a k, e = .returned (.tuple #[.int .u64 (nV c : Int), .slice a (nR c).length k, .bool true]) ∧ BAt w' a (nR c) ∧ (nR c).length ≤ k ∧ (a = none → nR c = [])) ∨ (ptO c = false ∧ e = .returned (.tuple #[.int .u64 0, .slice none 0 0, .bool false])))
theorem cutA_none {a : Option Addr} {cap k : Nat} (h : cutA a cap k = none) : a = none := by
  unfold cutA at h
  split at h
  · exact h
  · cases a with
    | none => rfl
    | some p => simp at h
set_option maxHeartbeats 3200000 in
theorem jpart_any (c : List UInt8) (a : Option Addr) (n cap : Nat) (w : World) (hb : BAt w a c) (hn : c.length = n) (ha : a = none → c = []) (hc : n ≤ cap) (hm : n ≤ 500000) :
    Calls Try.prog 23 #[.slice a n cap] w (PtRes c w) := by
  have HNW := Lib.hid (new_any a c n cap w hb hn (by omega) ha)
  have HRN := Lib.hid (fun (W : World) (g : Nat) (h : RD W w.heap.size g c false) => rnum w.heap.size g c false W h (by omega))
  have hv := nV_lt c
  have HNM := Lib.hid (fun (W : World) (q : Nat) (h : RAt (Value.int .u64) W (some ⟨q, 0, none⟩) [(nV c : Int)]) => num_one (nV c) 1 hv W q h)
  have HCT := Lib.hid (fun (W : World) (b : Option Addr) (m cb : Nat) (hB : RowKit.Below w.heap.size w W) (h : BAt W b (uvarint (nV c))) (hm : (uvarint (nV c)).length = m) => bcut_any c (uvarint (nV c)) a b n m cap cb W (hb.below hB) h hn hm hc)
  have HPO := Lib.hid (show ptO c = (nO c && decide (nV c ≤ 1152921504606846976)) from rfl)
  have HBG := Lib.hid (begins c)
  have HRS := Lib.hid (rest_of c)
  have HB := Lib.hid hb
  have HN := Lib.hid hn
  have HA := Lib.hid ha
  have HC := Lib.hid hc
  obtain ⟨v, hvv⟩ : ∃ v, v = nV c := ⟨_, rfl⟩
  rw [← hvv] at HRS HRN HNM HCT HPO HBG hv
  have HVV := Lib.hid hvv
  clear hb hn ha hc hm hvv
  go_enter Try.func23, Try.ntmps23
  go_wp2_with fail
  refine HNW.out.mono ?_
  rintro _ w1 ⟨g, rfl, hrd, hb1⟩
  have HRD := Lib.hid (HRN.out w1 g hrd)
  have HB1 := Lib.hid hb1
  clear hrd hb1 HNW HRN
  go_wp2_with fail
  refine HRD.out.mono ?_
  rintro _ w2 ⟨rfl, hto⟩
  have HB2 := Lib.hid (hto.below HB1.out HB1.out.size (Nat.le_refl _))
  clear hto HRD
  go_wp2_with fail
  refine (HNM.out _ _ (u64_row _ _ _)).mono ?_
  rintro _ w3 h3
  obtain ⟨v3, rfl, ho3, hB3⟩ := h3
  obtain ⟨a3, c3, rfl, hb3, _⟩ := ho3.row
  have HB3 := Lib.hid (HB2.out.trans (((RowKit.Below.refl w2.heap.size w2).alloc (Nat.le_refl _) _).trans (hB3.mono (by simp)) |>.mono HB2.out.size))
  have HU3 := Lib.hid hb3
  obtain ⟨m, hmm⟩ : ∃ m, m = (uvarint v).length := ⟨_, rfl⟩
  rw [← hmm]
  have HMM := Lib.hid hmm
  clear ho3 hb3 hB3 hmm HNM
  go_wp2_with fail
  refine (HCT.out w3 a3 m c3 HB3.out HU3.out HMM.out.symm).mono ?_
  rintro _ w4 ⟨rfl, ⟨h1, h2, rfl⟩ | ⟨h1, rfl⟩⟩
  · have ho := HBG.out.1 (by rw [← HMM.out]; exact h1)
    have hrs := HRS.out ho
    rw [← HMM.out] at hrs
    have HO := Lib.hid ho
    have HRS2 := Lib.hid hrs
    clear h1 ho hrs
    by_cases hle : v ≤ 1152921504606846976
    · have d0 : decide ((1152921504606846976 : Int) < (v : Int)) = false := by simp; omega
      have HR := Lib.hid (show PtRes c w (.returned (.tuple #[.int .u64 (v : Int), .slice (cutA a cap m) (n - m) (cap - m), .bool true])) w3 by
        refine ⟨HB3.out, Or.inl ⟨by rw [HPO.out, HO.out, decide_eq_true hle]; rfl, cutA a cap m, cap - m, ?_, ?_, ?_, ?_⟩⟩
        · rw [← HRS2.out.1, List.length_drop, HN.out, HVV.out]
        · rw [← HRS2.out.1]
          exact (HB.out.below HB3.out).drop HRS2.out.2 (by rw [HN.out]; exact HC.out)
        · rw [← HRS2.out.1, List.length_drop, HN.out]
          have := HC.out
          omega
        · intro e
          rw [← HRS2.out.1, HA.out (cutA_none e)]
          simp)
      clear hle
      go_wp2
      go_ret3
      exact HR.out
    · have d0 : decide ((1152921504606846976 : Int) < (v : Int)) = true := by simp; omega
      have HR := Lib.hid (show PtRes c w (.returned (.tuple #[.int .u64 0, .slice none 0 0, .bool false])) w3 from ⟨HB3.out, Or.inr ⟨by rw [HPO.out, decide_eq_false hle, Bool.and_false], rfl⟩⟩)
      clear hle
      go_wp2
      go_ret3
      exact HR.out
  · have ho : nO c = false := by
      cases hq : nO c with
      | false => rfl
      | true => exact absurd (HBG.out.2 hq) (by rw [← HMM.out]; exact h1)
    have HR := Lib.hid (show PtRes c w (.returned (.tuple #[.int .u64 0, .slice none 0 0, .bool false])) w3 from ⟨HB3.out, Or.inr ⟨by rw [HPO.out, ho, Bool.false_and], rfl⟩⟩)
    clear h1 ho
    go_wp2
    go_ret3
    exact HR.out
/-- can a journal be there? -/
def canJ (d : Dk) (s : Int) : Bool := decide (1 ≤ s ∧ s ≤ 255 ∧ 2 * s < (d.base.length : Int))
theorem canJ_iff {d : Dk} {s : Int} : canJ d s = true ↔ 1 ≤ s ∧ s ≤ 255 ∧ 2 * s < (d.base.length : Int) := by unfold canJ; exact decide_eq_true_iff
theorem canJ_B {d : Dk} {s : Int} (h : canJ d s = true) : canB d 0 s = true := by
  have := canJ_iff.1 h
  exact canB_iff.2 (by omega)
set_option maxHeartbeats 1600000 in
theorem jcan_any (g : Nat) (F : Nat → Prop) (d : Dk) (s : Int) (w : World) (h : DAt w F g d) (hs : I s) :
    Calls Try.prog 20 #[.pointer (some ⟨g, 0, none⟩), .int .i64 s] w fun e w' => e = .returned (.bool (canJ d s)) ∧ w = w' := by
  have hsz := h.ok.sz
  obtain ⟨N, hN⟩ : ∃ N, N = d.base.length := ⟨_, rfl⟩
  have HSZ := Lib.hid (size_at g F d w h)
  rw [← hN] at HSZ hsz
  obtain ⟨hs1, hs2⟩ := hs
  by_cases c2 : 1 ≤ s
  · have d2 : decide (1 ≤ s) = true := by simpa using c2
    by_cases c3 : s ≤ 255
    · have d3 : decide (s ≤ 255) = true := by simpa using c3
      have HE := Lib.hid (show canJ d s = decide (2 * s < (N : Int)) by
        unfold canJ
        apply Bool.eq_iff_iff.2
        rw [decide_eq_true_iff, decide_eq_true_iff]
        omega)
      clear h hN
      go_enter Try.func20, Try.ntmps20
      go_wp2_with fail
      refine HSZ.out.mono ?_
      rintro _ _ ⟨rfl, rfl⟩
      go_wp2
      go_ret
      exact ⟨by rw [HE.out]; rfl, rfl⟩
    · have d3 : decide (s ≤ 255) = false := by simpa using c3
      have HE := Lib.hid (show canJ d s = false by unfold canJ; rw [decide_eq_false]; omega)
      clear h hN
      go_enter Try.func20, Try.ntmps20
      go_wp2
      go_ret
      exact ⟨by rw [HE.out]; rfl, rfl⟩
  · have d2 : decide (1 ≤ s) = false := by simpa using c2
    have HE := Lib.hid (show canJ d s = false by unfold canJ; rw [decide_eq_false]; omega)
    clear h hN
    go_enter Try.func20, Try.ntmps20
    go_wp2
    go_ret
    exact ⟨by rw [HE.out]; rfl, rfl⟩
/-- what openLog answers -/
def JLog (g : Nat) (d : Dk) (s : Int) (n : Nat) (w : World) (e : Ending) (w' : World) : Prop :=
  ∃ b v L y, e = .returned (.tuple #[.pointer (some ⟨b, 0, none⟩), v]) ∧ w.heap.size ≤ b ∧ Run d (d.base.length : Int) (2 * s) n L y ∧ Recs w' w.heap.size v L ∧ LgAt w' b g y (d.base.length : Int) (nextN d (2 * s) (d.base.length : Int) n) ∧ 2 * s ≤ y ∧ y ≤ (d.base.length : Int) ∧ RowKit.Below w.heap.size w w'
set_option maxHeartbeats 1600000 in
theorem jlog_any (g : Nat) (F : Nat → Prop) (d : Dk) (s : Int) (n : Nat) (w : World) (h : DAt w F g d) (hs : canJ d s = true) (hn : n < 18446744073709551616) :
    Calls Try.prog 21 #[.pointer (some ⟨g, 0, none⟩), .int .i64 s, .int .u64 (n : Int)] w (JLog g d s n w) := by
  obtain ⟨s1, s2, s3⟩ := canJ_iff.1 hs
  have hsz := h.ok.sz
  obtain ⟨N, hN⟩ : ∃ N, N = d.base.length := ⟨_, rfl⟩
  have HSZ := Lib.hid (size_at g F d w h)
  have HLO := Lib.hid (lopen_yes g F d (2 * s) (d.base.length : Int) n w h ⟨by omega, by omega, Int.le_refl _⟩ hn)
  unfold JLog
  rw [← hN] at HSZ hsz HLO s3 ⊢
  clear h hN hs hn
  have HS3 := Lib.hid s3
  clear s3
  go_enter Try.func21, Try.ntmps21
  go_wp2_with fail
  refine HSZ.out.mono ?_
  rintro _ _ ⟨rfl, rfl⟩
  go_wp2_with fail
  refine HLO.out.mono ?_
  rintro _ w1 ⟨b, v, L, y, rfl, h1, h2, h3, h4, h5, h6, h7⟩
  have HR := Lib.hid (And.intro h1 (And.intro h2 (And.intro h3 (And.intro h4 (And.intro h5 (And.intro h6 h7))))))
  clear h1 h2 h3 h4 h5 h6 h7 HLO
  go_wp2
  go_ret2
  exact ⟨b, v, L, y, rfl, HR.out⟩
end Go.Proofs.Ytdfbpaajkpnaeaa
