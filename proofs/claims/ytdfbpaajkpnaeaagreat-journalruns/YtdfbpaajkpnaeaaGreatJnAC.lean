
/- Package journal: canBe, openLog, join, part. Package bytes: Equal, HasPrefix, CutPrefix. Mathematics: a content is a number and a state. Package journal: Room, Ready, Append, Compact. Package journal: Format, Open. -/
import Derived.Test.YtdfbpaajkpnaeaaGreatLgEG
import Derived.Test.YtdfbpaajkpnaeaaGreatSlFG
import Derived.Test.YtdfbpaajkpnaeaaGreatPkAI
import Derived.Test.YtdfbpaajkpnaeaaGreatHld

namespace Go.Proofs.YtdfbpaajkpnaeaaGreat
set_option maxRecDepth 100000
open Go.RowKit Go.Lib

/-- a content: a floor, and a state behind it -/
def cont (f : Nat) (st : List UInt8) : List UInt8 := uvarint f ++ st
/-- does it begin with a number that may be a floor? -/
def ptO (c : List UInt8) : Bool := nO c && decide (nV c ≤ 1152921504606846976)
theorem uv_zero : uvarint 0 = [0] := by rw [uvarint_small (by omega)]; decide
theorem cont_len {f : Nat} (hf : f < 18446744073709551616) (st : List UInt8) : st.length + 1 ≤ (cont f st).length ∧ (cont f st).length ≤ st.length + 10 := by
  have h1 := uvarint_pos f
  have h2 := uvarint_length64 (x := f) (by omega)
  unfold cont
  rw [List.length_append]
  omega
theorem cont_part {f : Nat} (hf : f ≤ 1152921504606846976) (st : List UInt8) : nV (cont f st) = f ∧ nR (cont f st) = st ∧ nO (cont f st) = true ∧ ptO (cont f st) = true := by
  have h := dec_of f st (by omega)
  have h1 : nV (cont f st) = f := by unfold nV cont; rw [h]
  have h2 : nR (cont f st) = st := by unfold nR cont; rw [h]; simp
  have h3 : nO (cont f st) = true := by unfold nO cont; rw [h]
  refine ⟨h1, h2, h3, ?_⟩
  unfold ptO
  rw [h1, h3]
  simpa using hf
/-- what is taken begins the bytes; of what can't be taken not even nothing's number does -/
theorem begins (c : List UInt8) : c.take (uvarint (nV c)).length = uvarint (nV c) ↔ nO c = true := by
  cases h : dec c with
  | none =>
    have h1 : nV c = 0 := by unfold nV; rw [h]
    have h2 : nO c = false := by unfold nO; rw [h]
    rw [h1, h2, uv_zero]
    constructor
    · intro e
      exfalso
      have := dec_take (l := c) (m := 0) (k := 1) (by omega) (by rw [uv_zero]; exact e) (by
        cases c with
        | nil => simp at e
        | cons x r => simp)
      rw [h] at this
      cases this
    · intro e; cases e
  | some p =>
    obtain ⟨n, k⟩ := p
    obtain ⟨k1, k2, k3⟩ := dec_some h
    have h1 : nV c = n := by unfold nV; rw [h]
    have h2 : nO c = true := by unfold nO; rw [h]
    rw [h1, h2, k1]
    refine ⟨fun _ => rfl, fun _ => ?_⟩
    have := congrArg (List.take k) k2
    rw [this, List.take_append_of_le_length (by omega), List.take_of_length_le (by omega)]
theorem rest_of (c : List UInt8) (h : nO c = true) : c.drop (uvarint (nV c)).length = nR c ∧ (uvarint (nV c)).length ≤ c.length := by
  cases hd : dec c with
  | none => unfold nO at h; rw [hd] at h; cases h
  | some p =>
    obtain ⟨n, k⟩ := p
    obtain ⟨k1, k2, k3⟩ := dec_some hd
    have h4 := dec_le hd
    unfold nV nR
    rw [hd]
    simp only
    exact ⟨by rw [k1], by omega⟩
/-! package bytes -/
set_option maxHeartbeats 1600000 in
theorem bequal_any (l k : List UInt8) (a b : Option Addr) (n m ca cb : Nat) (w : World) (ha : BAt w a l) (hb : BAt w b k) (hn : l.length = n) (hm : k.length = m) :
    Calls Tryz.prog 106 #[.slice a n ca, .slice b m cb] w fun e w' => e = .returned (.bool (decide (l = k))) ∧ w = w' := by
  have c1 := run_conv ha n ca hn
  have c2 := run_conv hb m cb hm
  clear ha hb hn hm
  by_cases h : l = k
  · subst h
    go_enter Tryz.func106, Tryz.ntmps106
    go_wp2
    go_ret
    exact ⟨by simp, rfl⟩
  · have hne := str_ne h
    have HE := Lib.hid (show decide (l = k) = false from decide_eq_false h)
    clear h
    go_enter Tryz.func106, Tryz.ntmps106
    go_wp2
    go_ret
    exact ⟨by rw [HE.out]; rfl, rfl⟩
set_option maxHeartbeats 1600000 in
theorem bprefix_any (l k : List UInt8) (a b : Option Addr) (n m ca cb : Nat) (w : World) (ha : BAt w a l) (hb : BAt w b k) (hn : l.length = n) (hm : k.length = m) (hc : n ≤ ca) :
    Calls Tryz.prog 92 #[.slice a n ca, .slice b m cb] w fun e w' => e = .returned (.bool (decide (l.take m = k))) ∧ w = w' := by
  by_cases h : m ≤ n
  · have d0 : decide ((m : Int) ≤ (n : Int)) = true := by simpa using h
    have st := run_to a n ca m (by omega)
    have HC := Lib.hid (bequal_any (l.take m) k a b m m ca cb w (ha.take m) hb (by rw [List.length_take]; omega) hm)
    clear ha hb hn hm hc d0
    go_enter Tryz.func92, Tryz.ntmps92
    go_wp2_with fail
    refine HC.out.mono ?_
    rintro _ _ ⟨rfl, rfl⟩
    go_wp2
    go_ret
    exact ⟨rfl, rfl⟩
  · have d0 : decide ((m : Int) ≤ (n : Int)) = false := by simp; omega
    have HE := Lib.hid (show decide (l.take m = k) = false from decide_eq_false fun e => by
      have := congrArg List.length e
      rw [List.length_take] at this
      omega)
    clear ha hb hn hm hc d0
    go_enter Tryz.func92, Tryz.ntmps92
    go_wp2
    go_ret
    exact ⟨by rw [HE.out]; rfl, rfl⟩
set_option maxHeartbeats 1600000 in
theorem bcut_any (l k : List UInt8) (a b : Option Addr) (n m ca cb : Nat) (w : World) (ha : BAt w a l) (hb : BAt w b k) (hn : l.length = n) (hm : k.length = m) (hc : n ≤ ca) :
    Calls Tryz.prog 69 #[.slice a n ca, .slice b m cb] w fun e w' => w = w' ∧ ((l.take m = k ∧ m ≤ n ∧ e = .returned (.tuple #[.slice (cutA a ca m) (n - m) (ca - m), .bool true])) ∨ (l.take m ≠ k ∧ e = .returned (.tuple #[.slice a n ca, .bool false]))) := by
  have HP := Lib.hid (bprefix_any l k a b n m ca cb w ha hb hn hm hc)
  by_cases h : l.take m = k
  · have hmn : m ≤ n := by
      have := congrArg List.length h
      rw [List.length_take] at this
      omega
    rw [decide_eq_true h] at HP
    have sf := run_from a n ca m hmn
    have HR := Lib.hid (And.intro h hmn)
    clear ha hb hn hm hc h hmn
    go_enter Tryz.func69, Tryz.ntmps69
    go_wp2_with fail
    refine HP.out.mono ?_
    rintro _ _ ⟨rfl, rfl⟩
    go_wp2
    go_ret2
    exact ⟨rfl, Or.inl ⟨HR.out.1, HR.out.2, rfl⟩⟩
  · rw [decide_eq_false h] at HP
    have HR := Lib.hid h
    clear ha hb hn hm hc h
    go_enter Tryz.func69, Tryz.ntmps69
    go_wp2_with fail
    refine HP.out.mono ?_
    rintro _ _ ⟨rfl, rfl⟩
    go_wp2
    go_ret2
    exact ⟨rfl, Or.inr ⟨HR.out, rfl⟩⟩
/-! package journal -/
theorem num_one (n c : Nat) (hn : n < 18446744073709551616) (W : World) (q : Nat) (h : RAt (Value.int .u64) W (some ⟨q, 0, none⟩) [(n : Int)]) :
    Calls Tryz.prog 60 #[.slice none 0 0, .slice (some ⟨q, 0, none⟩) 1 c] W (Made (uvarint n) W) := by
  have := num_any none [] 0 0 (some ⟨q, 0, none⟩) [(n : Int)] 1 c W (Or.inl rfl) rfl (fun _ => rfl) (by simp) h rfl (by simp) (fun x hx => by
    have : x = (n : Int) := by simpa using hx
    omega)
  have e : ([] : List UInt8) ++ encU [(n : Int)] = uvarint n := by simp [encU]
  rwa [e] at this
theorem u64_row (W : World) (n : Int) (t : TypeId) : RAt (Value.int .u64) (W.alloc (.cells #[.int .u64 n] t)) (some ⟨W.heap.size, 0, none⟩) [n] := by
  have h := lie_new W [Value.int .u64 n] t
  rcases h with h | ⟨b, off, ha, hlt, hr⟩
  · cases h
  · exact Or.inr ⟨b, off, ha, hlt, fun k x hx => hr k _ (by cases k with
      | zero => simp at hx; subst hx; rfl
      | succ k => simp at hx)⟩
set_option maxHeartbeats 1600000 in
theorem jjoin_any (f : Nat) (l : List UInt8) (a : Option Addr) (len cap : Nat) (w : World) (hf : f < 18446744073709551616) (hb : BAt w a l) (hl : l.length = len) (ha : a = none → l = []) (hm : len ≤ 500000) :
    Calls Tryz.prog 33 #[.int .u64 (f : Int), .slice a len cap] w (Made (cont f l) w) := by
  have HNM := Lib.hid (fun (W : World) (q : Nat) (h : RAt (Value.int .u64) W (some ⟨q, 0, none⟩) [(f : Int)]) => num_one f 1 hf W q h)
  have HU := Lib.hid (uvarint_length64 (x := f) (by omega))
  have HB := Lib.hid hb
  have HL := Lib.hid hl
  have HA := Lib.hid ha
  have HM := Lib.hid hm
  clear hf hb hl ha hm
  go_enter Tryz.func33, Tryz.ntmps33
  go_wp2_with fail
  refine (HNM.out _ _ (u64_row _ _ _)).mono ?_
  rintro _ w1 ⟨v, rfl, ho, hb1⟩
  have HO := Lib.hid (ho.mono (b2 := w.heap.size) (by simp))
  have HB1 := Lib.hid (((RowKit.Below.refl w.heap.size w).alloc (Nat.le_refl _) _).trans (hb1.mono (by simp)))
  have HS := Lib.hid (show w.heap.size ≤ w1.heap.size from HB1.out.size)
  clear ho hb1 HNM
  go_wp2_with (at_builtin; refine wpList_appB rfl _ _ rfl w.heap.size v (uvarint f) l a cap len (by rfl) (by rfl) HL.out HO.out (HB.out.below HB1.out) HA.out (by have := HL.out; have := HM.out; have := HU.out; omega) HS.out ?_; intro v2 w2 h2)
  have HR := Lib.hid (show Made (cont f l) w (.returned v2) w2 from ⟨v2, rfl, h2.1, h2.2.1.below HO.out HS.out HB1.out⟩)
  clear h2
  go_wp2
  go_ret
  exact HR.out
/-- what part answers -/
def PtRes (c : List UInt8) (w : World) (e : Ending) (w' : World) : Prop :=
  RowKit.Below w.heap.size w w' ∧ ((ptO c = true ∧ ∃ a k, e = .returned (.tuple #[.int .u64 (nV c : Int), .slice a (nR c).length k, .bool true]) ∧ BAt w' a (nR c) ∧ (nR c).length ≤ k ∧ (a = none → nR c = [])) ∨ (ptO c = false ∧ e = .returned (.tuple #[.int .u64 0, .slice none 0 0, .bool false])))
theorem cutA_none {a : Option Addr} {cap k : Nat} (h : cutA a cap k = none) : a = none := by
  unfold cutA at h
  split at h
  · exact h
  · cases a with
    | none => rfl
    | some p => simp at h
set_option maxHeartbeats 3200000 in
theorem jpart_any (c : List UInt8) (a : Option Addr) (n cap : Nat) (w : World) (hb : BAt w a c) (hn : c.length = n) (ha : a = none → c = []) (hc : n ≤ cap) (hm : n ≤ 500000) :
    Calls Tryz.prog 40 #[.slice a n cap] w (PtRes c w) := by
  have HNW := Lib.hid (new_any a c n cap w hb hn (by omega) ha)
  have HRN := Lib.hid (fun (W : World) (g : Nat) (h : RD W w.heap.size g c false) => rnum w.heap.size g c false W h (by omega))
  have hv := nV_lt c
  have HNM := Lib.hid (fun (W : World) (q : Nat) (h : RAt (Value.int .u64) W (some ⟨q, 0, none⟩) [(nV c : Int)]) => num_one (nV c) 1 hv W q h)
  have HCT := Lib.hid (fun (W : World) (b : Option Addr) (m cb : Nat) (hB : RowKit.Below w.heap.size w W) (h : BAt W b (uvarint (nV c))) (hm : (uvarint (nV c)).length = m) => bcut_any c (uvarint (nV c)) a b n m cap cb W (hb.below hB) h hn hm hc)
  have HPO := Lib.hid (show ptO c = (nO c && decide (nV c ≤ 1152921504606846976)) from rfl)
  have HBG := Lib.hid (begins c)
  have HRS := Lib.hid (rest_of c)
  have HB := Lib.hid hb
  have HN := Lib.hid hn
  have HA := Lib.hid ha
  have HC := Lib.hid hc
  obtain ⟨v, hvv⟩ : ∃ v, v = nV c := ⟨_, rfl⟩
  rw [← hvv] at HRS HRN HNM HCT HPO HBG hv
  have HVV := Lib.hid hvv
  clear hb hn ha hc hm hvv
  go_enter Tryz.func40, Tryz.ntmps40
  go_wp2_with fail
  refine HNW.out.mono ?_
  rintro _ w1 ⟨g, rfl, hrd, hb1⟩
  have HRD := Lib.hid (HRN.out w1 g hrd)
  have HB1 := Lib.hid hb1
  clear hrd hb1 HNW HRN
  go_wp2_with fail
  refine HRD.out.mono ?_
  rintro _ w2 ⟨rfl, hto⟩
  have HB2 := Lib.hid (hto.below HB1.out HB1.out.size (Nat.le_refl _))
  clear hto HRD
  go_wp2_with fail
  refine (HNM.out _ _ (u64_row _ _ _)).mono ?_
  rintro _ w3 h3
  obtain ⟨v3, rfl, ho3, hB3⟩ := h3
  obtain ⟨a3, c3, rfl, hb3, _⟩ := ho3.row
  have HB3 := Lib.hid (HB2.out.trans (((RowKit.Below.refl w2.heap.size w2).alloc (Nat.le_refl _) _).trans (hB3.mono (by simp)) |>.mono HB2.out.size))
  have HU3 := Lib.hid hb3
  obtain ⟨m, hmm⟩ : ∃ m, m = (uvarint v).length := ⟨_, rfl⟩
  rw [← hmm]
  have HMM := Lib.hid hmm
  clear ho3 hb3 hB3 hmm HNM
  go_wp2_with fail
  refine (HCT.out w3 a3 m c3 HB3.out HU3.out HMM.out.symm).mono ?_
  rintro _ w4 ⟨rfl, ⟨h1, h2, rfl⟩ | ⟨h1, rfl⟩⟩
  · have ho := HBG.out.1 (by rw [← HMM.out]; exact h1)
    have hrs := HRS.out ho
    rw [← HMM.out] at hrs
    have HO := Lib.hid ho
    have HRS2 := Lib.hid hrs
    clear h1 ho hrs
    by_cases hle : v ≤ 1152921504606846976
    · have d0 : decide ((1152921504606846976 : Int) < (v : Int)) = false := by simp; omega
      have HR := Lib.hid (show PtRes c w (.returned (.tuple #[.int .u64 (v : Int), .slice (cutA a cap m) (n - m) (cap - m), .bool true])) w3 by
        refine ⟨HB3.out, Or.inl ⟨by rw [HPO.out, HO.out, decide_eq_true hle]; rfl, cutA a cap m, cap - m, ?_, ?_, ?_, ?_⟩⟩
        · rw [← HRS2.out.1, List.length_drop, HN.out, HVV.out]
        · rw [← HRS2.out.1]
          exact (HB.out.below HB3.out).drop HRS2.out.2 (by rw [HN.out]; exact HC.out)
        · rw [← HRS2.out.1, List.length_drop, HN.out]
          have := HC.out
          omega
        · intro e
          rw [← HRS2.out.1, HA.out (cutA_none e)]
          simp)
      clear hle
      go_wp2
      go_ret3
      exact HR.out
    · have d0 : decide ((1152921504606846976 : Int) < (v : Int)) = true := by simp; omega
      have HR := Lib.hid (show PtRes c w (.returned (.tuple #[.int .u64 0, .slice none 0 0, .bool false])) w3 from ⟨HB3.out, Or.inr ⟨by rw [HPO.out, decide_eq_false hle, Bool.and_false], rfl⟩⟩)
      clear hle
      go_wp2
      go_ret3
      exact HR.out
  · have ho : nO c = false := by
      cases hq : nO c with
      | false => rfl
      | true => exact absurd (HBG.out.2 hq) (by rw [← HMM.out]; exact h1)
    have HR := Lib.hid (show PtRes c w (.returned (.tuple #[.int .u64 0, .slice none 0 0, .bool false])) w3 from ⟨HB3.out, Or.inr ⟨by rw [HPO.out, ho, Bool.false_and], rfl⟩⟩)
    clear h1 ho
    go_wp2
    go_ret3
    exact HR.out
/-- can a journal be there? -/
def canJ (d : Dk) (s : Int) : Bool := decide (1 ≤ s ∧ s ≤ 255 ∧ 2 * s < (d.base.length : Int))
theorem canJ_iff {d : Dk} {s : Int} : canJ d s = true ↔ 1 ≤ s ∧ s ≤ 255 ∧ 2 * s < (d.base.length : Int) := by unfold canJ; exact decide_eq_true_iff
theorem canJ_B {d : Dk} {s : Int} (h : canJ d s = true) : canB d 0 s = true := by
  have := canJ_iff.1 h
  exact canB_iff.2 (by omega)
set_option maxHeartbeats 1600000 in
theorem jcan_any (g : Nat) (F : Nat → Prop) (d : Dk) (s : Int) (w : World) (h : DAt w F g d) (hs : I s) :
    Calls Tryz.prog 25 #[.pointer (some ⟨g, 0, none⟩), .int .i64 s] w fun e w' => e = .returned (.bool (canJ d s)) ∧ w = w' := by
  have hsz := h.ok.sz
  obtain ⟨N, hN⟩ : ∃ N, N = d.base.length := ⟨_, rfl⟩
  have HSZ := Lib.hid (size_at g F d w h)
  rw [← hN] at HSZ hsz
  obtain ⟨hs1, hs2⟩ := hs
  by_cases c2 : 1 ≤ s
  · have d2 : decide (1 ≤ s) = true := by simpa using c2
    by_cases c3 : s ≤ 255
    · have d3 : decide (s ≤ 255) = true := by simpa using c3
      have HE := Lib.hid (show canJ d s = decide (2 * s < (N : Int)) by
        unfold canJ
        apply Bool.eq_iff_iff.2
        rw [decide_eq_true_iff, decide_eq_true_iff]
        omega)
      clear h hN
      go_enter Tryz.func25, Tryz.ntmps25
      go_wp2_with fail
      refine HSZ.out.mono ?_
      rintro _ _ ⟨rfl, rfl⟩
      go_wp2
      go_ret
      exact ⟨by rw [HE.out]; rfl, rfl⟩
    · have d3 : decide (s ≤ 255) = false := by simpa using c3
      have HE := Lib.hid (show canJ d s = false by unfold canJ; rw [decide_eq_false]; omega)
      clear h hN
      go_enter Tryz.func25, Tryz.ntmps25
      go_wp2
      go_ret
      exact ⟨by rw [HE.out]; rfl, rfl⟩
  · have d2 : decide (1 ≤ s) = false := by simpa using c2
    have HE := Lib.hid (show canJ d s = false by unfold canJ; rw [decide_eq_false]; omega)
    clear h hN
    go_enter Tryz.func25, Tryz.ntmps25
    go_wp2
    go_ret
    exact ⟨by rw [HE.out]; rfl, rfl⟩
/-- what openLog answers -/
def JLog (g : Nat) (d : Dk) (s : Int) (n : Nat) (w : World) (e : Ending) (w' : World) : Prop :=
  ∃ b v L y, e = .returned (.tuple #[.pointer (some ⟨b, 0, none⟩), v]) ∧ w.heap.size ≤ b ∧ Run d (d.base.length : Int) (2 * s) n L y ∧ Recs w' w.heap.size v L ∧ LgAt w' b g y (d.base.length : Int) (nextN d (2 * s) (d.base.length : Int) n) ∧ 2 * s ≤ y ∧ y ≤ (d.base.length : Int) ∧ RowKit.Below w.heap.size w w'
set_option maxHeartbeats 1600000 in
theorem jlog_any (g : Nat) (F : Nat → Prop) (d : Dk) (s : Int) (n : Nat) (w : World) (h : DAt w F g d) (hs : canJ d s = true) (hn : n < 18446744073709551616) :
    Calls Tryz.prog 26 #[.pointer (some ⟨g, 0, none⟩), .int .i64 s, .int .u64 (n : Int)] w (JLog g d s n w) := by
  obtain ⟨s1, s2, s3⟩ := canJ_iff.1 hs
  have hsz := h.ok.sz
  obtain ⟨N, hN⟩ : ∃ N, N = d.base.length := ⟨_, rfl⟩
  have HSZ := Lib.hid (size_at g F d w h)
  have HLO := Lib.hid (lopen_yes g F d (2 * s) (d.base.length : Int) n w h ⟨by omega, by omega, Int.le_refl _⟩ hn)
  unfold JLog
  rw [← hN] at HSZ hsz HLO s3 ⊢
  clear h hN hs hn
  have HS3 := Lib.hid s3
  clear s3
  go_enter Tryz.func26, Tryz.ntmps26
  go_wp2_with fail
  refine HSZ.out.mono ?_
  rintro _ _ ⟨rfl, rfl⟩
  go_wp2_with fail
  refine HLO.out.mono ?_
  rintro _ w1 ⟨b, v, L, y, rfl, h1, h2, h3, h4, h5, h6, h7⟩
  have HR := Lib.hid (And.intro h1 (And.intro h2 (And.intro h3 (And.intro h4 (And.intro h5 (And.intro h6 h7))))))
  clear h1 h2 h3 h4 h5 h6 h7 HLO
  go_wp2
  go_ret2
  exact ⟨b, v, L, y, rfl, HR.out⟩
end Go.Proofs.YtdfbpaajkpnaeaaGreat

namespace Go.Proofs.YtdfbpaajkpnaeaaGreat
set_option maxRecDepth 100000
open Go.RowKit Go.Lib

/-- block b is a journal -/
structure JAt (w : World) (b g lb : Nat) (s : Int) (rd : Bool) : Prop where
  bk : w.heap[b]? = some (.cells #[.pointer (some ⟨g, 0, none⟩), .int .i64 s, .pointer (some ⟨lb, 0, none⟩), .bool rd] 72)
def zJ : List Value := [.pointer none, .int .i64 0, .pointer none, .bool false]
/-- of it nothing is promised any more -/
def JOff (w : World) (b : Nat) : Prop := w.heap[b]? = some (.cells zJ.toArray 72)
theorem isJ : IsAgg 72 4 zJ := ⟨Tryz.zeroValue72, ⟨_, Tryz.underlying72, rfl⟩, by kernel_rfl, rfl⟩
theorem csJ : Cs 4 zJ := ⟨rfl, by decide⟩
theorem JAt.cells {w : World} {b g lb : Nat} {s : Int} {rd : Bool} (h : JAt w b g lb s rd) :
    w.cell? ⟨b, 0, none⟩ = some (.pointer (some ⟨g, 0, none⟩)) ∧ w.cell? ⟨b, 1, none⟩ = some (.int .i64 s) ∧ w.cell? ⟨b, 2, none⟩ = some (.pointer (some ⟨lb, 0, none⟩)) ∧ w.cell? ⟨b, 3, none⟩ = some (.bool rd) := by
  refine ⟨?_, ?_, ?_, ?_⟩ <;> rw [cell_of_row w b _ _ _ _ h.bk] <;> rfl
theorem JAt.lt {w : World} {b g lb : Nat} {s : Int} {rd : Bool} (h : JAt w b g lb s rd) : b < w.heap.size := lt_of_heap h.bk
theorem JAt.same {w w' : World} {b g lb : Nat} {s : Int} {rd : Bool} (h : JAt w b g lb s rd) (e : w'.heap[b]? = w.heap[b]?) : JAt w' b g lb s rd := ⟨e.trans h.bk⟩
theorem JAt.setlog {w : World} {b g lb : Nat} {s : Int} {rd : Bool} (h : JAt w b g lb s rd) (lb2 : Nat) : JAt (w.setCell ⟨b, 2, none⟩ (.pointer (some ⟨lb2, 0, none⟩))) b g lb2 s rd := ⟨by rw [heap_setCell_same w b 2 _ _ _ h.bk]; rfl⟩
theorem JAt.setrd {w : World} {b g lb : Nat} {s : Int} {rd : Bool} (h : JAt w b g lb s rd) (r : Bool) : JAt (w.setCell ⟨b, 3, none⟩ (.bool r)) b g lb s r := ⟨by rw [heap_setCell_same w b 3 _ _ _ h.bk]; rfl⟩
theorem JOff.cells {w : World} {b : Nat} (h : JOff w b) : w.cell? ⟨b, 3, none⟩ = some (.bool false) := by rw [cell_of_row w b _ _ _ _ h]; rfl
/-- a journal in memory: its disk, and its log -/
structure JM (w : World) (F : Nat → Prop) (g b lb : Nat) (d : Dk) (s x z : Int) (n : Nat) (rd : Bool) : Prop where
  dt : DAt w F g d
  ja : JAt w b g lb s rd
  lg : LgAt w lb g x z n
  nb : ¬ F b
  nl : ¬ F lb
  ne : lb ≠ b
/-- what has turned: the disk's, the journal's and its log's -/
structure JFr (F : Nat → Prop) (b lb : Nat) (w w' : World) (F' : Nat → Prop) (lb' : Nat) : Prop where
  on : Only (fun i => F i ∨ i = b ∨ i = lb) w w'
  fr : ∀ i, F' i → F i ∨ w.heap.size ≤ i
  lr : lb' = lb ∨ w.heap.size ≤ lb'
theorem JFr.refl (F : Nat → Prop) (b lb : Nat) (w : World) : JFr F b lb w w F lb := ⟨Only.refl _ _, fun _ h => Or.inl h, Or.inl rfl⟩
theorem JFr.trans {F F1 F2 : Nat → Prop} {b lb lb1 lb2 : Nat} {w w1 w2 : World} (h : JFr F b lb w w1 F1 lb1) (k : JFr F1 b lb1 w1 w2 F2 lb2) : JFr F b lb w w2 F2 lb2 := by
  have hs := h.on.size
  refine ⟨h.on.trans k.on fun i hi => ?_, fun i hi => ?_, ?_⟩
  · rcases hi with hi | hi | hi
    · exact (h.fr i hi).imp Or.inl id
    · exact Or.inl (Or.inr (Or.inl hi))
    · rcases h.lr with e | e
      · exact Or.inl (Or.inr (Or.inr (hi.trans e)))
      · exact Or.inr (hi ▸ e)
  · rcases k.fr i hi with e | e
    · exact h.fr i e
    · exact Or.inr (Nat.le_trans hs e)
  · rcases k.lr with e | e
    · rw [e]; exact h.lr
    · exact Or.inr (Nat.le_trans hs e)
theorem JFr.below {F F1 : Nat → Prop} {b lb lb1 : Nat} {w w1 w2 : World} (h : JFr F b lb w w1 F1 lb1) (hb : RowKit.Below w1.heap.size w1 w2) : JFr F b lb w w2 F1 lb1 :=
  h.trans ⟨Only.of_below hb, (JFr.refl F1 b lb1 w1).fr, Or.inl rfl⟩
/-- a cell of the journal's, and perhaps another log -/
theorem JFr.set {F F1 : Nat → Prop} {b lb lb1 : Nat} {w w1 : World} (h : JFr F b lb w w1 F1 lb1) (k : Nat) (v : Value) : JFr F b lb w (w1.setCell ⟨b, k, none⟩ v) F1 lb1 :=
  h.trans ⟨⟨rfl, rfl, rfl, by simp, fun i _ hi => setCell_other i fun e => hi (Or.inr (Or.inl e))⟩, (JFr.refl F1 b lb1 w1).fr, Or.inl rfl⟩
theorem JFr.log {F F1 : Nat → Prop} {b lb lb1 lb2 : Nat} {w w1 : World} (h : JFr F b lb w w1 F1 lb1) (hl : w.heap.size ≤ lb2) : JFr F b lb w w1 F1 lb2 :=
  ⟨h.on, h.fr, Or.inr hl⟩
theorem JM.below {w w' : World} {F : Nat → Prop} {g b lb : Nat} {d : Dk} {s x z : Int} {n : Nat} {rd : Bool} (h : JM w F g b lb d s x z n rd) (hb : RowKit.Below w.heap.size w w') : JM w' F g b lb d s x z n rd :=
  ⟨h.dt.below hb, h.ja.same (hb.block _ h.ja.lt), h.lg.same (hb.block _ h.lg.lt), h.nb, h.nl, h.ne⟩
theorem JM.setrd {w : World} {F : Nat → Prop} {g b lb : Nat} {d : Dk} {s x z : Int} {n : Nat} {rd : Bool} (h : JM w F g b lb d s x z n rd) (r : Bool) : JM (w.setCell ⟨b, 3, none⟩ (.bool r)) F g b lb d s x z n r :=
  ⟨h.dt.same (by simp) fun i hi => setCell_other i fun e => h.nb (e ▸ hi), h.ja.setrd r, h.lg.same (setCell_other lb h.ne), h.nb, h.nl, h.ne⟩
theorem JM.setlog {w : World} {F : Nat → Prop} {g b lb lb2 : Nat} {d : Dk} {s x y z z2 : Int} {n m : Nat} {rd : Bool} (h : JM w F g b lb d s x z n rd) (hl : LgAt w lb2 g y z2 m) (hF : ¬ F lb2) (hne : lb2 ≠ b) : JM (w.setCell ⟨b, 2, none⟩ (.pointer (some ⟨lb2, 0, none⟩))) F g b lb2 d s y z2 m rd :=
  ⟨h.dt.same (by simp) fun i hi => setCell_other i fun e => h.nb (e ▸ hi), h.ja.setlog lb2, hl.same (setCell_other lb2 hne), h.nb, hF, hne⟩
theorem JM.did {w w' : World} {F : Nat → Prop} {g b lb : Nat} {d d' : Dk} {s x z : Int} {n : Nat} {rd : Bool} (h : JM w F g b lb d s x z n rd) (hd : Did g F d' w w') : ∃ F', JM w' F' g b lb d' s x z n rd ∧ JFr F b lb w w' F' lb := by
  obtain ⟨F', k1, k2, k3⟩ := hd
  have hb := h.ja.lt
  have hl := h.lg.lt
  refine ⟨F', ⟨k1, h.ja.same (k2.block _ hb h.nb), h.lg.same (k2.block _ hl h.nl), fun e => (k3 b e).elim h.nb fun e => by omega, fun e => (k3 lb e).elim h.nl fun e => by omega, h.ne⟩, ⟨⟨k2.os, k2.tape, k2.output, k2.size, fun i hi hn => k2.block i hi fun e => hn (Or.inl e)⟩, k3, Or.inl rfl⟩⟩
theorem JM.moved {w w' : World} {F F' : Nat → Prop} {g b lb : Nat} {d d' : Dk} {s x y z : Int} {n m : Nat} {rd : Bool} (h : JM w F g b lb d s x z n rd) (hm : Moved F g lb d' y z m w w' F') : JM w' F' g b lb d' s y z m rd ∧ JFr F b lb w w' F' lb := by
  have hb := h.ja.lt
  refine ⟨⟨hm.dt, h.ja.same (hm.on.block _ hb fun e => e.elim h.nb fun e => h.ne e.symm), hm.lg, fun e => (hm.fr b e).elim h.nb fun e => by omega, hm.nb, h.ne⟩, ⟨⟨hm.on.os, hm.on.tape, hm.on.output, hm.on.size, fun i hi hn => hm.on.block i hi fun e => hn (e.elim Or.inl fun e => Or.inr (Or.inr e))⟩, hm.fr, Or.inl rfl⟩⟩
/-! Room, Ready -/
theorem jready_any (b : Nat) (rd : Bool) (w : World) (h : w.cell? ⟨b, 3, none⟩ = some (.bool rd)) :
    Calls Tryz.prog 24 #[.pointer (some ⟨b, 0, none⟩)] w fun e w' => e = .returned (.bool rd) ∧ w = w' := by
  go_enter Tryz.func24, Tryz.ntmps24
  go_wp2
  go_ret
  exact ⟨rfl, rfl⟩
theorem jroom_no (b : Nat) (w : World) (h : w.cell? ⟨b, 3, none⟩ = some (.bool false)) :
    Calls Tryz.prog 22 #[.pointer (some ⟨b, 0, none⟩)] w fun e w' => e = .returned (.int .i64 0) ∧ w = w' := by
  go_enter Tryz.func22, Tryz.ntmps22
  go_wp2
  go_ret
  exact ⟨rfl, rfl⟩
theorem jroom_yes (w : World) (F : Nat → Prop) (g b lb : Nat) (d : Dk) (s x z : Int) (n : Nat) (h : JM w F g b lb d s x z n true) (hx : 0 ≤ x ∧ x ≤ 2048) (hz : 0 ≤ z ∧ z ≤ 2048) :
    Calls Tryz.prog 22 #[.pointer (some ⟨b, 0, none⟩)] w fun e w' => e = .returned (.int .i64 (z - x)) ∧ RowKit.Below w.heap.size w w' := by
  obtain ⟨_, _, c2, c3⟩ := h.ja.cells
  have HR := Lib.hid (room_any lb g x z n w h.lg hx hz)
  clear h
  go_enter Tryz.func22, Tryz.ntmps22
  go_wp2_with fail
  refine HR.out.mono ?_
  rintro _ w1 ⟨rfl, hb1⟩
  have HB1 := Lib.hid hb1
  clear hb1
  go_wp2
  go_ret
  exact ⟨rfl, HB1.out⟩
/-! Append -/
theorem app_lens (d : Dk) (x z : Int) (n : Nat) (l : List UInt8) : (d.app x z n l).1.base.length = d.base.length := by
  have h2 := write_base d x n (closed l)
  have h3 : ∀ e : Dk, e.flush.base.length = e.base.length := fun e => by
    unfold Dk.flush
    split
    · exact stl_len _ _ _ _
    · rw [Dk.spend_base]
  unfold Dk.app
  split
  · rfl
  · split
    · rfl
    · split
      · show (Dk.flush _).base.length = _
        rw [h3, h2]
      · rw [h2]
theorem wp_storeP {o : Oper} {a : Act} {w : World} {K : Act → World → Prop} {Q : Exit → Act → World → Prop} (T : TypeId) (x y : Operand) (ho : o.op = .store T x y) (p q : Addr) (old : Value) (hx : a.eval x = .pointer (some p)) (hy : a.eval y = .pointer (some q)) (hi : (Tryz.prog.info? T).map (·.size) = some 1) (hc : w.cell? p = some old) (hf : w.frozen? p = false)
    (h : K (a.put o.dst undef) (w.setCell p (.pointer (some q)))) : o.wp Tryz.prog a w K Q := by
  cases hq : Tryz.prog.info? T with
  | none => rw [hq] at hi; cases hi
  | some i =>
    have hs : i.size = 1 := by rw [hq] at hi; simpa using hi
    unfold Oper.wp execOp
    simp only [ho, hx, hy, Instr.storeAt, Instr.sureAddr, Sem.run_bind, Sem.run_pure, Result.andThen_ok, storeVar, Go.sizeOf, typeInfo]
    simp [hq, hs, Value.cells, storeCells, hc, hf, Addr.add, go_sem]
    exact h
theorem jappend_no (b : Nat) (v : Value) (w : World) (h : w.cell? ⟨b, 3, none⟩ = some (.bool false)) :
    Calls Tryz.prog 10 #[.pointer (some ⟨b, 0, none⟩), v] w fun e w' => e = .returned (.int .i64 121) ∧ w = w' := by
  go_enter Tryz.func10, Tryz.ntmps10
  go_wp2
  go_ret
  exact ⟨rfl, rfl⟩
/-- what Append leaves -/
def AppJ (F : Nat → Prop) (g b lb : Nat) (d : Dk) (s x z : Int) (n : Nat) (l : List UInt8) (w : World) (e : Ending) (w' : World) : Prop :=
  ∃ F' lb', JFr F b lb w w' F' lb' ∧ e = .returned (.int .i64 (d.app x z n l).2) ∧
    (((d.app x z n l).2 ≠ 82 ∧ lb' = lb ∧ JM w' F' g b lb (d.app x z n l).1 s (if (d.app x z n l).2 = 0 then x + (spanN (l.length + 4) : Int) else x) z (if (d.app x z n l).2 = 0 then n + 1 else n) true) ∨
     ((d.app x z n l).2 = 82 ∧ ∃ y m, JM w' F' g b lb' (d.app x z n l).1 s y z m false ∧ 2 * s ≤ y ∧ y ≤ z))
set_option maxRecDepth 100000 in
set_option maxHeartbeats 3200000 in
theorem jappend_any (w : World) (F : Nat → Prop) (g b lb : Nat) (d : Dk) (s x z : Int) (n : Nat) (l : List UInt8) (a : Option Addr) (len cap : Nat) (h : JM w F g b lb d s x z n true) (hs : canJ d s = true) (hz : z = (d.base.length : Int)) (hx : 2 * s ≤ x ∧ x ≤ z) (hn : n + 1 < 18446744073709551616)
    (hb : BAt w a l) (hln : l.length = len) (ha : a = none → l = []) (hq : d.queue.length + 100 < 10000) :
    Calls Tryz.prog 10 #[.pointer (some ⟨b, 0, none⟩), .slice a len cap] w (AppJ F g b lb d s x z n l w) := by
  obtain ⟨_, _, c2, c3⟩ := h.ja.cells
  obtain ⟨s1, s2, s3⟩ := canJ_iff.1 hs
  have hsz := h.dt.ok.sz
  have HST := Lib.hid (lstamp_any lb g x z n w h.lg)
  have HAP := Lib.hid (append_any lb g F d x z n l a len cap w h.lg h.dt h.nl ⟨by omega, hx.2, by omega⟩ hn hb hln ha hq)
  have HMV := Lib.hid (fun (W : World) (F' : Nat → Prop) (d' : Dk) (y : Int) (m : Nat) (hm : Moved F g lb d' y z m w W F') => h.moved hm)
  have HNN := Lib.hid hn
  have HLN := Lib.hid (app_lens d x z n l)
  have HZ := Lib.hid hz
  have HSC := Lib.hid hs
  have HLT := Lib.hid (And.intro h.ja.lt h.lg.lt)
  unfold AppRes at HAP
  have HG : ∀ (E : Int) (e : Ending) (w' : World), E = (d.app x z n l).2 → ((∃ F' lb', JFr F b lb w w' F' lb' ∧ e = .returned (.int .i64 E) ∧
    ((E ≠ 82 ∧ lb' = lb ∧ JM w' F' g b lb (d.app x z n l).1 s (if E = 0 then x + (spanN (l.length + 4) : Int) else x) z (if E = 0 then n + 1 else n) true) ∨
     (E = 82 ∧ ∃ y m, JM w' F' g b lb' (d.app x z n l).1 s y z m false ∧ 2 * s ≤ y ∧ y ≤ z))) → AppJ F g b lb d s x z n l w e w') := fun E e w' hE k => by
    subst hE
    exact k
  have HGO := Lib.hid HG
  obtain ⟨r, hr⟩ : ∃ r, r = d.app x z n l := ⟨_, rfl⟩
  rw [← hr] at HAP HLN HGO
  obtain ⟨d1, E⟩ := r
  simp only at HAP HLN HGO
  clear h hs hz hn hb hln ha hq hr HG hx s1 s2 s3 hsz
  go_enter Tryz.func10, Tryz.ntmps10
  go_wp2_with fail
  refine HST.out.mono ?_
  rintro _ _ ⟨rfl, rfl⟩
  go_wp2_with fail
  refine HAP.out.mono ?_
  rintro _ w2 ⟨F2, rfl, hm⟩
  obtain ⟨hj2, hf2⟩ := HMV.out _ _ _ _ _ hm
  have HJ2 := Lib.hid hj2
  have HF2 := Lib.hid hf2
  clear hm hj2 hf2 HMV HAP HST c2 c3
  by_cases hE : E = 82
  · subst hE
    obtain ⟨k0, k1, k2, k3⟩ := HJ2.out.ja.cells
    have f3 := frozen_of_row w2 b 3 _ _ HJ2.out.ja.bk
    obtain ⟨w3, hw3⟩ : ∃ w3, w3 = w2.setCell ⟨b, 3, none⟩ (.bool false) := ⟨_, rfl⟩
    have HW3 := Lib.hid hw3
    have HJ3 := Lib.hid (show JM w3 F2 g b lb d1 s _ z _ false from by rw [hw3]; exact HJ2.out.setrd false)
    have HF3 := Lib.hid (show JFr F b lb w w3 F2 lb from by rw [hw3]; exact HF2.out.set 3 _)
    have C0 := Lib.hid HJ3.out.ja.cells.1
    have C1 := Lib.hid HJ3.out.ja.cells.2.1
    have HLG := Lib.hid (fun (W : World) (hb : RowKit.Below w3.heap.size w3 W) => jlog_any g F2 d1 s n W (HJ3.out.dt.below hb) (by
      have := canJ_iff.1 HSC.out
      exact canJ_iff.2 (by rw [HLN.out]; exact this)) (by have := HNN.out; omega))
    clear hw3
    go_wp2_with fail
    rw [← HW3.out]
    clear k0 k1 k2 k3 f3
    refine wp_region_held_drew (S := fun W => W.cell? ⟨b, 0, none⟩ = some (.pointer (some ⟨g, 0, none⟩)) ∧ W.cell? ⟨b, 1, none⟩ = some (.int .i64 s)) (by kernel_rfl) ?_ (fun hHeld => ?_)
    · exact ⟨cell_bl C0.out (RowKit.Below.refl _ _).drew, cell_bl C1.out (RowKit.Below.refl _ _).drew⟩
    refine held_take 0 (v := ?_) rfl (by kernel_rfl) (by kernel_rfl) (by kernel_rfl) (fun _ _ _ h => h) hHeld (by rfl) ?_ ?_
    rotate_left
    · (intro W hW; go_simp; try with_reducible rfl)
    try simp only [Act.put, List.setIfInBounds_toArray, List.set_cons_zero, List.set_cons_succ]
    refine held_take 1 (v := ?_) rfl (by kernel_rfl) (by kernel_rfl) (by kernel_rfl) (fun _ _ _ h => h) hHeld (by rfl) ?_ ?_
    rotate_left
    · (intro W hW; go_simp; try with_reducible rfl)
    try simp only [Act.put, List.setIfInBounds_toArray, List.set_cons_zero, List.set_cons_succ]
    refine held_take 2 (v := ?_) rfl (by kernel_rfl) (by kernel_rfl) (by kernel_rfl) (fun _ _ _ h => h) hHeld (by rfl) ?_ ?_
    rotate_left
    · (intro W hW; go_simp; try with_reducible rfl)
    try simp only [Act.put, List.setIfInBounds_toArray, List.set_cons_zero, List.set_cons_succ]
    refine held_take 3 (v := ?_) rfl (by kernel_rfl) (by kernel_rfl) (by kernel_rfl) (fun _ _ _ h => h) hHeld (by rfl) ?_ ?_
    rotate_left
    · (intro W hW; go_simp; try with_reducible rfl)
    try simp only [Act.put, List.setIfInBounds_toArray, List.set_cons_zero, List.set_cons_succ]
    refine held_take 4 (v := ?_) rfl (by kernel_rfl) (by kernel_rfl) (by kernel_rfl) (fun _ _ _ h => h) hHeld (by rfl) ?_ ?_
    rotate_left
    · (intro W hW; have e0 := hW.1; go_simp; try with_reducible rfl)
    try simp only [Act.put, List.setIfInBounds_toArray, List.set_cons_zero, List.set_cons_succ]
    refine held_take 5 (v := ?_) rfl (by kernel_rfl) (by kernel_rfl) (by kernel_rfl) (fun _ _ _ h => h) hHeld (by rfl) ?_ ?_
    rotate_left
    · (intro W hW; go_simp; try with_reducible rfl)
    try simp only [Act.put, List.setIfInBounds_toArray, List.set_cons_zero, List.set_cons_succ]
    refine held_take 6 (v := ?_) rfl (by kernel_rfl) (by kernel_rfl) (by kernel_rfl) (fun _ _ _ h => h) hHeld (by rfl) ?_ ?_
    rotate_left
    · (intro W hW; go_simp; try with_reducible rfl)
    try simp only [Act.put, List.setIfInBounds_toArray, List.set_cons_zero, List.set_cons_succ]
    refine held_take 7 (v := ?_) rfl (by kernel_rfl) (by kernel_rfl) (by kernel_rfl) (fun _ _ _ h => h) hHeld (by rfl) ?_ ?_
    rotate_left
    · (intro W hW; go_simp; try with_reducible rfl)
    try simp only [Act.put, List.setIfInBounds_toArray, List.set_cons_zero, List.set_cons_succ]
    refine held_take 8 (v := ?_) rfl (by kernel_rfl) (by kernel_rfl) (by kernel_rfl) (fun _ _ _ h => h) hHeld (by rfl) ?_ ?_
    rotate_left
    · (intro W hW; have e0 := hW.2; go_simp; try with_reducible rfl)
    try simp only [Act.put, List.setIfInBounds_toArray, List.set_cons_zero, List.set_cons_succ]
    refine held_take 9 (v := ?_) rfl (by kernel_rfl) (by kernel_rfl) (by kernel_rfl) (fun _ _ _ h => h) hHeld (by rfl) ?_ ?_
    rotate_left
    · (intro W hW; go_simp; try with_reducible rfl)
    try simp only [Act.put, List.setIfInBounds_toArray, List.set_cons_zero, List.set_cons_succ]
    refine held_next 10 rfl (by kernel_rfl) (by rfl) (fun K hK => ?_)
    go_simp
    go_at_call 26
    refine (HLG.out _ (RowKit.Below.refl _ _).drew).mono ?_
    rintro _ w4 ⟨b2, v2, L2, y2, rfl, hnb, hrun, hrec, hl4, hy1, hy2, hb4⟩
    have HB4 := Lib.hid (((RowKit.Below.refl w3.heap.size w3).drew).trans (hb4.mono (by simp)))
    have HNB := Lib.hid (show w3.heap.size ≤ b2 by simpa using hnb)
    have HL4 := Lib.hid hl4
    have HRN := Lib.hid hrun
    have HY2 := Lib.hid (And.intro hy1 hy2)
    clear hnb hrun hrec hl4 hy1 hy2 hb4 HLG
    refine hK.out _ _ (⟨cell_bl C0.out HB4.out, cell_bl C1.out HB4.out⟩) (fun hHeld => ?_)
    clear hK K
    try simp only [Act.put, List.setIfInBounds_toArray, List.set_cons_zero, List.set_cons_succ]
    refine held_take 11 (v := ?_) rfl (by kernel_rfl) (by kernel_rfl) (by kernel_rfl) (fun _ _ _ h => h) hHeld (by rfl) ?_ ?_
    rotate_left
    · (intro W hW; go_simp; try with_reducible rfl)
    try simp only [Act.put, List.setIfInBounds_toArray, List.set_cons_zero, List.set_cons_succ]
    refine held_take 12 (v := ?_) rfl (by kernel_rfl) (by kernel_rfl) (by kernel_rfl) (fun _ _ _ h => h) hHeld (by rfl) ?_ ?_
    rotate_left
    · (intro W hW; go_simp; try with_reducible rfl)
    try simp only [Act.put, List.setIfInBounds_toArray, List.set_cons_zero, List.set_cons_succ]
    refine held_take 13 (v := ?_) rfl (by kernel_rfl) (by kernel_rfl) (by kernel_rfl) (fun _ _ _ h => h) hHeld (by rfl) ?_ ?_
    rotate_left
    · (intro W hW; go_simp; try with_reducible rfl)
    try simp only [Act.put, List.setIfInBounds_toArray, List.set_cons_zero, List.set_cons_succ]
    refine held_take 14 (v := ?_) rfl (by kernel_rfl) (by kernel_rfl) (by kernel_rfl) (fun _ _ _ h => h) hHeld (by rfl) ?_ ?_
    rotate_left
    · (intro W hW; go_simp; try with_reducible rfl)
    try simp only [Act.put, List.setIfInBounds_toArray, List.set_cons_zero, List.set_cons_succ]
    refine held_take 15 (v := ?_) rfl (by kernel_rfl) (by kernel_rfl) (by kernel_rfl) (fun _ _ _ h => h) hHeld (by rfl) ?_ ?_
    rotate_left
    · (intro W hW; go_simp; try with_reducible rfl)
    try simp only [Act.put, List.setIfInBounds_toArray, List.set_cons_zero, List.set_cons_succ]
    refine held_next 16 rfl (by kernel_rfl) (by rfl) (fun K hK => ?_)
    refine wp_storeP 68 _ _ rfl ⟨b, 2, none⟩ ⟨b2, 0, none⟩ _ rfl rfl (by kernel_rfl) (HJ3.out.below HB4.out).ja.cells.2.2.1 (frozen_of_row w4 b 2 _ _ (HJ3.out.below HB4.out).ja.bk) ?_
    refine hK.out _ _ (⟨((HJ3.out.below HB4.out).ja.setlog b2).cells.1, ((HJ3.out.below HB4.out).ja.setlog b2).cells.2.1⟩) (fun hHeld => ?_)
    clear hK K
    try simp only [Act.put]
    refine wpAnyH_done (by kernel_rfl) ?_ _
    go_simp
    obtain ⟨w5, hw5⟩ : ∃ w5, w5 = w4.setCell ⟨b, 2, none⟩ (.pointer (some ⟨b2, 0, none⟩)) := ⟨_, rfl⟩
    rw [← hw5]
    have HR := Lib.hid (show AppJ F g b lb d s x z n l w (.returned (.int .i64 82)) w5 by
      refine HGO.out 82 _ _ rfl ⟨F2, b2, ?_, rfl, Or.inr ⟨rfl, y2, nextN d1 (2 * s) z n, ?_, HY2.out.1, by rw [HZ.out, ← HLN.out]; exact HY2.out.2⟩⟩
      · rw [hw5]
        exact ((HF3.out.below HB4.out).set 2 _).log (Nat.le_trans HF3.out.on.size HNB.out)
      · rw [hw5]
        have hl := HL4.out
        rw [HLN.out, ← HZ.out] at hl
        exact (HJ3.out.below HB4.out).setlog hl (fun e => by have := HJ3.out.dt.fl _ e; have := HNB.out; omega) (fun e => by have := HJ3.out.ja.lt; have := HNB.out; omega)
      )
    clear hw5
    go_wp2
    go_ret
    exact HR.out
  · have d0 : (E == 82) = false := by simpa using hE
    have HR := Lib.hid (show AppJ F g b lb d s x z n l w (.returned (.int .i64 E)) w2 from HGO.out E _ _ rfl ⟨F2, lb, HF2.out, rfl, Or.inl ⟨hE, rfl, HJ2.out⟩⟩)
    clear hE
    go_wp2
    go_ret
    exact HR.out
/-! Compact -/
/-- what Compact leaves; r is what the Write of the content does -/
def CmpJ (F : Nat → Prop) (g b lb : Nat) (s x z : Int) (n : Nat) (rd : Bool) (st : List UInt8) (r : Dk × Nat × Int) (w : World) (e : Ending) (w' : World) : Prop :=
  ((12288 < st.length ∨ 1152921504606846976 < n - 1) ∧ e = .returned (.int .i64 121) ∧ RowKit.Below w.heap.size w w') ∨
  (st.length ≤ 12288 ∧ n - 1 ≤ 1152921504606846976 ∧ e = .returned (.int .i64 r.2.2) ∧ ∃ F' lb', JFr F b lb w w' F' lb' ∧
    ((r.2.2 = 82 ∧ DAt w' F' g r.1 ∧ JOff w' b ∧ ¬ F' b) ∨
     (r.2.2 = 0 ∧ ∃ L y, Run r.1 z (2 * s) (n - 1) L y ∧ 2 * s ≤ y ∧ y ≤ z ∧ JM w' F' g b lb' r.1 s y z (nextN r.1 (2 * s) z (n - 1)) true) ∨
     (r.2.2 ≠ 0 ∧ r.2.2 ≠ 82 ∧ lb' = lb ∧ JM w' F' g b lb r.1 s x z n rd)))
theorem wpList_buildJ {ops : Array Oper} {rest : List Oper} {o : Oper} {a : Act} {w : World} {Q : Exit → Act → World → Prop} (hgd : o.guard = none) (ho : o.op = .build 72 #[])
    (hq : wpList Tryz.prog ops Q rest (a.put o.dst (.agg zJ.toArray)) w) : wpList Tryz.prog ops Q (o :: rest) a w :=
  wpList_plain hgd fun K hK => by
    unfold Oper.wp execOp
    have e : (Instr.build 72 #[]).run Tryz.prog w = .ok (.agg zJ.toArray) w := by
      simp [Instr.build, Sem.run_bind, isJ.zero, run_underlying Tryz.underlying72, Value.cells, Instr.fill]
    simp only [ho, Sem.run_bind, Sem.run_pure, Result.andThen_ok, List.map_toArray, List.map_nil, e]
    exact hK _ _ hq
set_option maxRecDepth 100000 in
set_option maxHeartbeats 3200000 in
theorem jcompact_any (w : World) (F : Nat → Prop) (g b lb : Nat) (d : Dk) (s x z : Int) (n : Nat) (rd : Bool) (st : List UInt8) (a : Option Addr) (len cap : Nat) (h : JM w F g b lb d s x z n rd) (hs : canJ d s = true) (hz : z = (d.base.length : Int)) (hn : 1 ≤ n) (hn2 : n < 18446744073709551616)
    (hb : BAt w a st) (hln : st.length = len) (ha : a = none → st = []) (hl : len ≤ 400000) (hq : d.queue.length < 9700) :
    Calls Tryz.prog 13 #[.pointer (some ⟨b, 0, none⟩), .slice a len cap] w (CmpJ F g b lb s x z n rd st (d.slotW 0 s (cont (n - 1) st)) w) := by
  obtain ⟨_, _, c2, _⟩ := h.ja.cells
  by_cases h1 : 12288 < len
  · have d0 : decide ((12288 : Int) < (len : Int)) = true := by simp; omega
    have HR := Lib.hid (show CmpJ F g b lb s x z n rd st (d.slotW 0 s (cont (n - 1) st)) w (.returned (.int .i64 121)) w from Or.inl ⟨Or.inl (by omega), rfl, RowKit.Below.refl _ _⟩)
    clear h hs hz hn hn2 hb hln ha hl hq h1
    go_enter Tryz.func13, Tryz.ntmps13
    go_wp2
    go_ret
    exact HR.out
  · have d0 : decide ((12288 : Int) < (len : Int)) = false := by simp; omega
    have hw : IntKind.u64.wrap ((n : Int) - 1) = ((n - 1 : Nat) : Int) := by rw [IntKind.wrap_u64]; omega
    have HST := Lib.hid (lstamp_any lb g x z n w h.lg)
    obtain ⟨f, hf⟩ : ∃ f, f = n - 1 := ⟨_, rfl⟩
    rw [← hf] at hw
    by_cases h2 : 1152921504606846976 < f
    · have d1 : decide ((1152921504606846976 : Int) < (f : Int)) = true := by simp; omega
      have HR := Lib.hid (show CmpJ F g b lb s x z n rd st (d.slotW 0 s (cont (n - 1) st)) w (.returned (.int .i64 121)) w from Or.inl ⟨Or.inr (by omega), rfl, RowKit.Below.refl _ _⟩)
      clear h hs hz hn hn2 hb hln ha hl hq h1 h2 hf
      go_enter Tryz.func13, Tryz.ntmps13
      go_wp2_with fail
      refine HST.out.mono ?_
      rintro _ _ ⟨rfl, rfl⟩
      go_wp2
      go_ret
      exact HR.out
    · have d1 : decide ((1152921504606846976 : Int) < (f : Int)) = false := by simp; omega
      obtain ⟨s1, s2, s3⟩ := canJ_iff.1 hs
      have hsz := h.dt.ok.sz
      have hcl := cont_len (f := f) (by omega) st
      obtain ⟨C, hC⟩ : ∃ C, C = cont f st := ⟨_, rfl⟩
      rw [← hC] at hcl
      have HJN := Lib.hid (fun (W : World) (hB : RowKit.Below w.heap.size w W) => jjoin_any f st a len cap W (by omega) (hb.below hB) hln ha (by omega))
      rw [← hC] at HJN
      have HSW := Lib.hid (fun (W : World) (hB : RowKit.Below w.heap.size w W) (a3 : Option Addr) (c3 : Nat) (h3 : BAt W a3 C) (hn3 : a3 = none → C = []) => swrite_any g F d 0 s C a3 C.length c3 W (h.dt.below hB) (by unfold I; omega) (by unfold I; omega) h3 rfl hn3 (by omega) hq)
      have HG : ∀ (r : Dk × Nat × Int) (e : Ending) (w' : World), r = d.slotW 0 s C → ((e = .returned (.int .i64 r.2.2) ∧ ∃ F' lb', JFr F b lb w w' F' lb' ∧
        ((r.2.2 = 82 ∧ DAt w' F' g r.1 ∧ JOff w' b ∧ ¬ F' b) ∨
         (r.2.2 = 0 ∧ ∃ L y, Run r.1 z (2 * s) f L y ∧ 2 * s ≤ y ∧ y ≤ z ∧ JM w' F' g b lb' r.1 s y z (nextN r.1 (2 * s) z f) true) ∨
         (r.2.2 ≠ 0 ∧ r.2.2 ≠ 82 ∧ lb' = lb ∧ JM w' F' g b lb r.1 s x z n rd))) → CmpJ F g b lb s x z n rd st (d.slotW 0 s (cont (n - 1) st)) w e w') := fun r e w' hr k => by
        subst hr
        rw [hC, hf] at k
        exact Or.inr ⟨by omega, by omega, k⟩
      have HGO := Lib.hid HG
      have HLN := Lib.hid (slotW_lens d 0 s C).2
      have HJ := Lib.hid h
      have HSC := Lib.hid hs
      have HZ := Lib.hid hz
      have HFL := Lib.hid (show f < 18446744073709551616 by omega)
      have C0 := Lib.hid h.ja.cells.1
      have C1 := Lib.hid h.ja.cells.2.1
      obtain ⟨r, hr⟩ : ∃ r, r = d.slotW 0 s C := ⟨_, rfl⟩
      rw [← hr] at HSW HLN HGO
      unfold SwRes at HSW
      obtain ⟨d1, gen, E⟩ := r
      simp only at HSW HLN
      clear h hs hz hn hn2 hb hln ha hl hq h1 h2 hf hr HG hC hcl s1 s2 s3 hsz
      go_enter Tryz.func13, Tryz.ntmps13
      go_wp2_with fail
      refine HST.out.mono ?_
      rintro _ _ ⟨rfl, rfl⟩
      clear HST
      go_wp2_with fail
      clear c2
      refine wp_region_held_drew (S := fun W => Agree [b] w W) (by kernel_rfl) ?_ (fun hHeld => ?_)
      · exact fun _ _ => rfl
      refine held_take 0 (v := ?_) rfl (by kernel_rfl) (by kernel_rfl) (by kernel_rfl) (fun _ _ _ h => h) hHeld (by rfl) ?_ ?_
      rotate_left
      · (intro W hW; go_simp; try with_reducible rfl)
      try simp only [Act.put, List.setIfInBounds_toArray, List.set_cons_zero, List.set_cons_succ]
      refine held_take 1 (v := ?_) rfl (by kernel_rfl) (by kernel_rfl) (by kernel_rfl) (fun _ _ _ h => h) hHeld (by rfl) ?_ ?_
      rotate_left
      · (intro W hW; go_simp; try with_reducible rfl)
      try simp only [Act.put, List.setIfInBounds_toArray, List.set_cons_zero, List.set_cons_succ]
      refine held_take 2 (v := ?_) rfl (by kernel_rfl) (by kernel_rfl) (by kernel_rfl) (fun _ _ _ h => h) hHeld (by rfl) ?_ ?_
      rotate_left
      · (intro W hW; go_simp; try with_reducible rfl)
      try simp only [Act.put, List.setIfInBounds_toArray, List.set_cons_zero, List.set_cons_succ]
      refine held_take 3 (v := ?_) rfl (by kernel_rfl) (by kernel_rfl) (by kernel_rfl) (fun _ _ _ h => h) hHeld (by rfl) ?_ ?_
      rotate_left
      · (intro W hW; have e0 := hW.cell (b := b) (by simp) C0.out; go_simp; try with_reducible rfl)
      try simp only [Act.put, List.setIfInBounds_toArray, List.set_cons_zero, List.set_cons_succ]
      refine held_take 4 (v := ?_) rfl (by kernel_rfl) (by kernel_rfl) (by kernel_rfl) (fun _ _ _ h => h) hHeld (by rfl) ?_ ?_
      rotate_left
      · (intro W hW; go_simp; try with_reducible rfl)
      try simp only [Act.put, List.setIfInBounds_toArray, List.set_cons_zero, List.set_cons_succ]
      refine held_take 5 (v := ?_) rfl (by kernel_rfl) (by kernel_rfl) (by kernel_rfl) (fun _ _ _ h => h) hHeld (by rfl) ?_ ?_
      rotate_left
      · (intro W hW; go_simp; try with_reducible rfl)
      try simp only [Act.put, List.setIfInBounds_toArray, List.set_cons_zero, List.set_cons_succ]
      refine held_take 6 (v := ?_) rfl (by kernel_rfl) (by kernel_rfl) (by kernel_rfl) (fun _ _ _ h => h) hHeld (by rfl) ?_ ?_
      rotate_left
      · (intro W hW; go_simp; try with_reducible rfl)
      try simp only [Act.put, List.setIfInBounds_toArray, List.set_cons_zero, List.set_cons_succ]
      refine held_take 7 (v := ?_) rfl (by kernel_rfl) (by kernel_rfl) (by kernel_rfl) (fun _ _ _ h => h) hHeld (by rfl) ?_ ?_
      rotate_left
      · (intro W hW; have e0 := hW.cell (b := b) (by simp) C1.out; go_simp; try with_reducible rfl)
      try simp only [Act.put, List.setIfInBounds_toArray, List.set_cons_zero, List.set_cons_succ]
      refine held_take 8 (v := ?_) rfl (by kernel_rfl) (by kernel_rfl) (by kernel_rfl) (fun _ _ _ h => h) hHeld (by rfl) ?_ ?_
      rotate_left
      · (intro W hW; go_simp; try with_reducible rfl)
      try simp only [Act.put, List.setIfInBounds_toArray, List.set_cons_zero, List.set_cons_succ]
      refine held_take 9 (v := ?_) rfl (by kernel_rfl) (by kernel_rfl) (by kernel_rfl) (fun _ _ _ h => h) hHeld (by rfl) ?_ ?_
      rotate_left
      · (intro W hW; go_simp; try with_reducible rfl)
      try simp only [Act.put, List.setIfInBounds_toArray, List.set_cons_zero, List.set_cons_succ]
      refine held_next 10 rfl (by kernel_rfl) (by rfl) (fun K hK => ?_)
      go_simp
      go_at_call 33
      refine (HJN.out _ (RowKit.Below.refl _ _).drew).mono ?_
      rintro _ w3 ⟨v3, rfl, ho3, hB3⟩
      obtain ⟨a3, c3, rfl, hb3, hc3, _, hn3, _⟩ := ho3.row
      have HB3 := Lib.hid (((RowKit.Below.refl w.heap.size w).drew).trans (hB3.mono (by simp)))
      have HBA3 := Lib.hid hb3
      have HN3 := Lib.hid (show a3 = none → C = [] from fun e => List.eq_nil_of_length_eq_zero (by have := hc3; have := hn3 e; omega))
      clear ho3 hb3 hB3 hn3 hc3
      refine hK.out _ _ (fun i hi => by rw [List.mem_singleton.1 hi]; exact HB3.out.block _ HJ.out.ja.lt) (fun hHeld => ?_)
      clear hK K
      try simp only [Act.put, List.setIfInBounds_toArray, List.set_cons_zero, List.set_cons_succ]
      refine held_next 11 rfl (by kernel_rfl) (by rfl) (fun K hK => ?_)
      go_simp
      go_at_call 32
      refine (HSW.out _ HB3.out a3 c3 HBA3.out HN3.out).mono ?_
      rintro _ w4 ⟨rfl, hdid⟩
      obtain ⟨F4, hj4, hf4⟩ := (HJ.out.below HB3.out).did hdid
      have HJ4 := Lib.hid hj4
      have HF4 := Lib.hid (((JFr.refl F b lb w).below HB3.out).trans hf4)
      clear hdid hj4 hf4
      refine hK.out _ _ (fun i hi => by rw [List.mem_singleton.1 hi]; exact HJ4.out.ja.bk.trans HJ.out.ja.bk.symm) (fun hHeld => ?_)
      clear hK K
      try simp only [Act.put, List.setIfInBounds_toArray, List.set_cons_zero, List.set_cons_succ]
      refine held_take 12 (v := ?_) rfl (by kernel_rfl) (by kernel_rfl) (by kernel_rfl) (fun _ _ _ h => h) hHeld (by rfl) ?_ ?_
      rotate_left
      · (intro W hW; go_simp; try with_reducible rfl)
      try simp only [Act.put, List.setIfInBounds_toArray, List.set_cons_zero, List.set_cons_succ]
      refine held_take 13 (v := ?_) rfl (by kernel_rfl) (by kernel_rfl) (by kernel_rfl) (fun _ _ _ h => h) hHeld (by rfl) ?_ ?_
      rotate_left
      · (intro W hW; go_simp; try with_reducible rfl)
      try simp only [Act.put, List.setIfInBounds_toArray, List.set_cons_zero, List.set_cons_succ]
      refine held_take 14 (v := ?_) rfl (by kernel_rfl) (by kernel_rfl) (by kernel_rfl) (fun _ _ _ h => h) hHeld (by rfl) ?_ ?_
      rotate_left
      · (intro W hW; go_simp; try with_reducible rfl)
      try simp only [Act.put, List.setIfInBounds_toArray, List.set_cons_zero, List.set_cons_succ]
      refine held_take 15 (v := ?_) rfl (by kernel_rfl) (by kernel_rfl) (by kernel_rfl) (fun _ _ _ h => h) hHeld (by rfl) ?_ ?_
      rotate_left
      · (intro W hW; go_simp; try with_reducible rfl)
      try simp only [Act.put, List.setIfInBounds_toArray, List.set_cons_zero, List.set_cons_succ]
      refine held_take 16 (v := ?_) rfl (by kernel_rfl) (by kernel_rfl) (by kernel_rfl) (fun _ _ _ h => h) hHeld (by rfl) ?_ ?_
      rotate_left
      · (intro W hW; go_simp; try with_reducible rfl)
      try simp only [Act.put, List.setIfInBounds_toArray, List.set_cons_zero, List.set_cons_succ]
      refine wpAnyH_done (by kernel_rfl) ?_ _
      go_simp
      by_cases hE : E = 82
      · subst hE
        obtain ⟨w5, hw5⟩ : ∃ w5, w5 = w4.setRow b zJ.toArray := ⟨_, rfl⟩
        have HW5 := Lib.hid hw5
        have HBK := Lib.hid HJ4.out.ja.bk
        have HR := Lib.hid (show CmpJ F g b lb s x z n rd st (d.slotW 0 s (cont (n - 1) st)) w (.returned (.int .i64 82)) w5 by
          refine HGO.out (d1, gen, 82) _ _ rfl ⟨rfl, F4, lb, ?_, Or.inl ⟨rfl, ?_, ?_, HJ4.out.nb⟩⟩
          · rw [hw5]
            exact HF4.out.trans ⟨⟨rfl, rfl, rfl, by rw [size_setRow]; exact Nat.le_refl _, fun i _ hn => setRow_other _ _ _ _ (fun e => hn (Or.inr (Or.inl e)))⟩, (JFr.refl F4 b lb w4).fr, Or.inl rfl⟩
          · rw [hw5]
            exact HJ4.out.dt.same (by rw [size_setRow]; exact Nat.le_refl _) fun i hi => setRow_other _ _ _ _ (fun e => HJ4.out.nb (e ▸ hi))
          · rw [hw5]
            exact setRow_heap _ _ _ _ _ _ HJ4.out.ja.bk)
        clear hw5
        go_wp2_with (first | (with_reducible refine wpList_buildJ rfl rfl ?_) | ((with_reducible refine wpList_storeW rfl isJ _ _ rfl b zJ _ _ rfl rfl HBK.out csJ (by simp) ?_); rw [← HW5.out]))
        go_ret
        exact HR.out
      · have d2 : (E == 82) = false := by simpa using hE
        by_cases hE0 : E = 0
        · subst hE0
          have HLG := Lib.hid (fun (W : World) (hb : RowKit.Below w4.heap.size w4 W) => jlog_any g F4 d1 s f W (HJ4.out.dt.below hb) (by
            have := canJ_iff.1 HSC.out
            exact canJ_iff.2 (by rw [HLN.out]; exact this)) HFL.out)
          have C40 := Lib.hid HJ4.out.ja.cells.1
          have C41 := Lib.hid HJ4.out.ja.cells.2.1
          clear hE
          go_wp2_with fail
          refine wp_region_held_drew (S := fun W => W.cell? ⟨b, 0, none⟩ = some (.pointer (some ⟨g, 0, none⟩)) ∧ W.cell? ⟨b, 1, none⟩ = some (.int .i64 s)) (by kernel_rfl) ?_ (fun hHeld => ?_)
          · exact ⟨cell_bl C40.out (RowKit.Below.refl _ _).drew, cell_bl C41.out (RowKit.Below.refl _ _).drew⟩
          refine held_take 0 (v := ?_) rfl (by kernel_rfl) (by kernel_rfl) (by kernel_rfl) (fun _ _ _ h => h) hHeld (by rfl) ?_ ?_
          rotate_left
          · (intro W hW; go_simp; try with_reducible rfl)
          try simp only [Act.put, List.setIfInBounds_toArray, List.set_cons_zero, List.set_cons_succ]
          refine held_take 1 (v := ?_) rfl (by kernel_rfl) (by kernel_rfl) (by kernel_rfl) (fun _ _ _ h => h) hHeld (by rfl) ?_ ?_
          rotate_left
          · (intro W hW; go_simp; try with_reducible rfl)
          try simp only [Act.put, List.setIfInBounds_toArray, List.set_cons_zero, List.set_cons_succ]
          refine held_take 2 (v := ?_) rfl (by kernel_rfl) (by kernel_rfl) (by kernel_rfl) (fun _ _ _ h => h) hHeld (by rfl) ?_ ?_
          rotate_left
          · (intro W hW; go_simp; try with_reducible rfl)
          try simp only [Act.put, List.setIfInBounds_toArray, List.set_cons_zero, List.set_cons_succ]
          refine held_take 3 (v := ?_) rfl (by kernel_rfl) (by kernel_rfl) (by kernel_rfl) (fun _ _ _ h => h) hHeld (by rfl) ?_ ?_
          rotate_left
          · (intro W hW; go_simp; try with_reducible rfl)
          try simp only [Act.put, List.setIfInBounds_toArray, List.set_cons_zero, List.set_cons_succ]
          refine held_take 4 (v := ?_) rfl (by kernel_rfl) (by kernel_rfl) (by kernel_rfl) (fun _ _ _ h => h) hHeld (by rfl) ?_ ?_
          rotate_left
          · (intro W hW; have e0 := hW.1; go_simp; try with_reducible rfl)
          try simp only [Act.put, List.setIfInBounds_toArray, List.set_cons_zero, List.set_cons_succ]
          refine held_take 5 (v := ?_) rfl (by kernel_rfl) (by kernel_rfl) (by kernel_rfl) (fun _ _ _ h => h) hHeld (by rfl) ?_ ?_
          rotate_left
          · (intro W hW; go_simp; try with_reducible rfl)
          try simp only [Act.put, List.setIfInBounds_toArray, List.set_cons_zero, List.set_cons_succ]
          refine held_take 6 (v := ?_) rfl (by kernel_rfl) (by kernel_rfl) (by kernel_rfl) (fun _ _ _ h => h) hHeld (by rfl) ?_ ?_
          rotate_left
          · (intro W hW; go_simp; try with_reducible rfl)
          try simp only [Act.put, List.setIfInBounds_toArray, List.set_cons_zero, List.set_cons_succ]
          refine held_take 7 (v := ?_) rfl (by kernel_rfl) (by kernel_rfl) (by kernel_rfl) (fun _ _ _ h => h) hHeld (by rfl) ?_ ?_
          rotate_left
          · (intro W hW; go_simp; try with_reducible rfl)
          try simp only [Act.put, List.setIfInBounds_toArray, List.set_cons_zero, List.set_cons_succ]
          refine held_take 8 (v := ?_) rfl (by kernel_rfl) (by kernel_rfl) (by kernel_rfl) (fun _ _ _ h => h) hHeld (by rfl) ?_ ?_
          rotate_left
          · (intro W hW; have e0 := hW.2; go_simp; try with_reducible rfl)
          try simp only [Act.put, List.setIfInBounds_toArray, List.set_cons_zero, List.set_cons_succ]
          refine held_take 9 (v := ?_) rfl (by kernel_rfl) (by kernel_rfl) (by kernel_rfl) (fun _ _ _ h => h) hHeld (by rfl) ?_ ?_
          rotate_left
          · (intro W hW; go_simp; try with_reducible rfl)
          try simp only [Act.put, List.setIfInBounds_toArray, List.set_cons_zero, List.set_cons_succ]
          refine held_next 10 rfl (by kernel_rfl) (by rfl) (fun K hK => ?_)
          go_simp
          go_at_call 26
          refine (HLG.out _ (RowKit.Below.refl _ _).drew).mono ?_
          rintro _ w5 ⟨b2, v2, L2, y2, rfl, hnb, hrun, hrec, hl4, hy1, hy2, hb4⟩
          have HB5 := Lib.hid (((RowKit.Below.refl w4.heap.size w4).drew).trans (hb4.mono (by simp)))
          have HNB := Lib.hid (show w4.heap.size ≤ b2 by simpa using hnb)
          have HL5 := Lib.hid hl4
          have HRN := Lib.hid hrun
          have HY2 := Lib.hid (And.intro hy1 hy2)
          clear hnb hrun hrec hl4 hy1 hy2 hb4 HLG
          refine hK.out _ _ (⟨cell_bl C40.out HB5.out, cell_bl C41.out HB5.out⟩) (fun hHeld => ?_)
          clear hK K
          try simp only [Act.put, List.setIfInBounds_toArray, List.set_cons_zero, List.set_cons_succ]
          refine held_take 11 (v := ?_) rfl (by kernel_rfl) (by kernel_rfl) (by kernel_rfl) (fun _ _ _ h => h) hHeld (by rfl) ?_ ?_
          rotate_left
          · (intro W hW; go_simp; try with_reducible rfl)
          try simp only [Act.put, List.setIfInBounds_toArray, List.set_cons_zero, List.set_cons_succ]
          refine held_take 12 (v := ?_) rfl (by kernel_rfl) (by kernel_rfl) (by kernel_rfl) (fun _ _ _ h => h) hHeld (by rfl) ?_ ?_
          rotate_left
          · (intro W hW; go_simp; try with_reducible rfl)
          try simp only [Act.put, List.setIfInBounds_toArray, List.set_cons_zero, List.set_cons_succ]
          refine held_take 13 (v := ?_) rfl (by kernel_rfl) (by kernel_rfl) (by kernel_rfl) (fun _ _ _ h => h) hHeld (by rfl) ?_ ?_
          rotate_left
          · (intro W hW; go_simp; try with_reducible rfl)
          try simp only [Act.put, List.setIfInBounds_toArray, List.set_cons_zero, List.set_cons_succ]
          refine held_take 14 (v := ?_) rfl (by kernel_rfl) (by kernel_rfl) (by kernel_rfl) (fun _ _ _ h => h) hHeld (by rfl) ?_ ?_
          rotate_left
          · (intro W hW; go_simp; try with_reducible rfl)
          try simp only [Act.put, List.setIfInBounds_toArray, List.set_cons_zero, List.set_cons_succ]
          refine held_take 15 (v := ?_) rfl (by kernel_rfl) (by kernel_rfl) (by kernel_rfl) (fun _ _ _ h => h) hHeld (by rfl) ?_ ?_
          rotate_left
          · (intro W hW; go_simp; try with_reducible rfl)
          try simp only [Act.put, List.setIfInBounds_toArray, List.set_cons_zero, List.set_cons_succ]
          refine held_next 16 rfl (by kernel_rfl) (by rfl) (fun K hK => ?_)
          refine wp_storeP 68 _ _ rfl ⟨b, 2, none⟩ ⟨b2, 0, none⟩ _ rfl rfl (by kernel_rfl) (HJ4.out.below HB5.out).ja.cells.2.2.1 (frozen_of_row w5 b 2 _ _ (HJ4.out.below HB5.out).ja.bk) ?_
          refine hK.out _ _ (⟨((HJ4.out.below HB5.out).ja.setlog b2).cells.1, ((HJ4.out.below HB5.out).ja.setlog b2).cells.2.1⟩) (fun hHeld => ?_)
          clear hK K
          try simp only [Act.put]
          refine wpAnyH_done (by kernel_rfl) ?_ _
          go_simp
          obtain ⟨w6, hw6⟩ : ∃ w6, w6 = w5.setCell ⟨b, 2, none⟩ (.pointer (some ⟨b2, 0, none⟩)) := ⟨_, rfl⟩
          rw [← hw6]
          have HF6 := Lib.hid (show JFr F b lb w w6 F4 b2 by
            rw [hw6]
            exact ((HF4.out.below HB5.out).set 2 _).log (Nat.le_trans HF4.out.on.size HNB.out))
          have HJ6 := Lib.hid (show JM w6 F4 g b b2 d1 s y2 z (nextN d1 (2 * s) z f) rd by
            rw [hw6]
            have hl := HL5.out
            rw [HLN.out, ← HZ.out] at hl
            exact (HJ4.out.below HB5.out).setlog hl (fun e => by have := HJ4.out.dt.fl _ e; have := HNB.out; omega) (fun e => by have := HJ4.out.ja.lt; have := HNB.out; omega))
          clear hw6
          obtain ⟨k0, k1, k2, k3⟩ := HJ6.out.ja.cells
          have f3 := frozen_of_row w6 b 3 _ _ HJ6.out.ja.bk
          have HR := Lib.hid (show CmpJ F g b lb s x z n rd st (d.slotW 0 s (cont (n - 1) st)) w (.returned (.int .i64 0)) (w6.setCell ⟨b, 3, none⟩ (.bool true)) from
            HGO.out (d1, gen, 0) _ _ rfl ⟨rfl, F4, b2, HF6.out.set 3 _, Or.inr (Or.inl ⟨rfl, L2, y2, by have := HRN.out; rwa [HLN.out, ← HZ.out] at this, HY2.out.1, by rw [HZ.out, ← HLN.out]; exact HY2.out.2, HJ6.out.setrd true⟩)⟩)
          go_wp2
          go_ret
          exact HR.out
        · have d3 : (E == 0) = false := by simpa using hE0
          have d4 : (E != 0) = true := by simpa using hE0
          have HR := Lib.hid (show CmpJ F g b lb s x z n rd st (d.slotW 0 s (cont (n - 1) st)) w (.returned (.int .i64 E)) w4 from
            HGO.out (d1, gen, E) _ _ rfl ⟨rfl, F4, lb, HF4.out, Or.inr (Or.inr ⟨hE0, hE, rfl, HJ4.out⟩)⟩)
          clear hE hE0
          go_wp2
          go_ret
          exact HR.out
end Go.Proofs.YtdfbpaajkpnaeaaGreat

namespace Go.Proofs.YtdfbpaajkpnaeaaGreat
set_option maxRecDepth 100000
open Go.RowKit Go.Lib

theorem rowJ (w : World) (g lb : Nat) (s : Int) : JAt (w.alloc (.cells #[.pointer (some ⟨g, 0, none⟩), .int .i64 s, .pointer (some ⟨lb, 0, none⟩), .bool false] 72)) w.heap.size g lb s false := ⟨Go.heap_alloc_new w _⟩
/-- what Format answers: r is what the Write of the first content does -/
def FmtRes (F : Nat → Prop) (g : Nat) (d : Dk) (s : Int) (f : Nat) (st : List UInt8) (r : Dk × Nat × Int) (w : World) (e : Ending) (w' : World) : Prop :=
  (canJ d s = false ∧ e = .returned (.tuple #[.pointer none, .int .i64 121]) ∧ w = w') ∨
  (canJ d s = true ∧ (12288 < st.length ∨ 1152921504606846976 < f) ∧ e = .returned (.tuple #[.pointer none, .int .i64 121]) ∧ RowKit.Below w.heap.size w w') ∨
  (canJ d s = true ∧ st.length ≤ 12288 ∧ f ≤ 1152921504606846976 ∧ ∃ F', Only F w w' ∧ (∀ i, F' i → F i ∨ w.heap.size ≤ i) ∧
    ((r.2.2 ≠ 0 ∧ e = .returned (.tuple #[.pointer none, .int .i64 r.2.2])) ∨
     (r.2.2 = 0 ∧ ∃ b lb L y, e = .returned (.tuple #[.pointer (some ⟨b, 0, none⟩), .int .i64 0]) ∧ w.heap.size ≤ b ∧ w.heap.size ≤ lb ∧ Run r.1 (d.base.length : Int) (2 * s) f L y ∧ 2 * s ≤ y ∧ y ≤ (d.base.length : Int) ∧ JM w' F' g b lb r.1 s y (d.base.length : Int) (nextN r.1 (2 * s) (d.base.length : Int) f) true)))
set_option maxRecDepth 100000 in
set_option maxHeartbeats 3200000 in
theorem jformat_any (g : Nat) (F : Nat → Prop) (d : Dk) (s : Int) (f : Nat) (st : List UInt8) (a : Option Addr) (len cap : Nat) (w : World) (h : DAt w F g d) (hs : I s) (hf : canJ d s = true → nextN d (2 * s) (d.base.length : Int) 0 = f + 1)
    (hb : BAt w a st) (hln : st.length = len) (ha : a = none → st = []) (hl : len ≤ 400000) (hq : d.queue.length < 9700) :
    Calls Tryz.prog 7 #[.pointer (some ⟨g, 0, none⟩), .int .i64 s, .slice a len cap] w (FmtRes F g d s f st (d.slotW 0 s (cont f st)) w) := by
  have HCN := Lib.hid (jcan_any g F d s w h hs)
  cases hc : canJ d s with
  | false =>
    rw [hc] at HCN
    have HR := Lib.hid (show FmtRes F g d s f st (d.slotW 0 s (cont f st)) w (.returned (.tuple #[.pointer none, .int .i64 121])) w from Or.inl ⟨hc, rfl, rfl⟩)
    clear h hs hf hb hln ha hl hq hc
    go_enter Tryz.func7, Tryz.ntmps7
    go_wp2_with fail
    refine HCN.out.mono ?_
    rintro _ _ ⟨rfl, rfl⟩
    go_wp2
    go_ret2
    exact HR.out
  | true =>
    rw [hc] at HCN
    have hfn := hf hc
    have hfl : f + 1 < 18446744073709551616 := by rw [← hfn]; exact Nat.mod_lt _ (by decide)
    have HLG := Lib.hid (fun (W : World) (hB : RowKit.Below w.heap.size w W) => show Calls Tryz.prog 26 #[.pointer (some ⟨g, 0, none⟩), .int .i64 s, .int .u64 0] W (JLog g d s 0 W) from jlog_any g F d s 0 W (h.below hB) hc (by omega))
    have HCM := Lib.hid (fun (W : World) (hB : RowKit.Below w.heap.size w W) (b lb : Nat) (y : Int) (hj : JM W F g b lb d s y (d.base.length : Int) (f + 1) false) => jcompact_any W F g b lb d s y (d.base.length : Int) (f + 1) false st a len cap hj hc rfl (by omega) hfl (hb.below hB) hln ha hl hq)
    have HFN := Lib.hid hfn
    have HF := Lib.hid h
    have HC := Lib.hid hc
    clear h hs hf hb hln ha hl hq hc hfn hfl
    go_enter Tryz.func7, Tryz.ntmps7
    go_wp2_with fail
    refine HCN.out.mono ?_
    rintro _ _ ⟨rfl, rfl⟩
    go_wp2_with fail
    refine (HLG.out w (RowKit.Below.refl _ _)).mono ?_
    rintro _ w1 ⟨lb, v1, L1, y1, rfl, hnb, hrun, hrec, hlg, hy1, hy2, hb1⟩
    have HNB := Lib.hid hnb
    have HL1 := Lib.hid hlg
    have HB1 := Lib.hid hb1
    clear hnb hrun hrec hlg hy1 hy2 hb1 HLG HCN
    go_wp2_with fail
    obtain ⟨w2, hw2⟩ : ∃ w2, w2 = w1.alloc (.cells #[.pointer (some ⟨g, 0, none⟩), .int .i64 s, .pointer (some ⟨lb, 0, none⟩), .bool false] 72) := ⟨_, rfl⟩
    have HB12 := Lib.hid (show RowKit.Below w1.heap.size w1 w2 by rw [hw2]; exact (RowKit.Below.refl _ _).alloc (Nat.le_refl _) _)
    have HB2 := Lib.hid (show RowKit.Below w.heap.size w w2 from HB1.out.trans (HB12.out.mono HB1.out.size))
    have HJ2 := Lib.hid (show JM w2 F g w1.heap.size lb d s y1 (d.base.length : Int) (f + 1) false by
      have h1 := HL1.out.lt
      have h2 := HB1.out.size
      refine ⟨HF.out.below HB2.out, by rw [hw2]; exact rowJ _ _ _ _, ?_, fun e => by have := HF.out.fl _ e; omega, fun e => by have := HF.out.fl _ e; have := HNB.out; omega, by omega⟩
      have hl := HL1.out
      rw [HFN.out] at hl
      exact hl.same (HB12.out.block _ hl.lt))
    have HBS := Lib.hid (show w.heap.size ≤ w1.heap.size from HB1.out.size)
    obtain ⟨b, hbb⟩ : ∃ b, b = w1.heap.size := ⟨_, rfl⟩
    rw [← hbb] at HJ2 HBS ⊢
    first | rw [← hw2] | skip
    clear hw2 hbb
    refine (HCM.out w2 HB2.out b lb y1 HJ2.out).mono ?_
    rintro e w3 h3
    have HFR := Lib.hid (fun (F3 : Nat → Prop) (lb3 : Nat) (k : JFr F b lb w2 w3 F3 lb3) => show Only F w w3 ∧ (∀ i, F3 i → F i ∨ w.heap.size ≤ i) from by
      have hs2 := HB2.out.size
      refine ⟨(Only.of_below HB2.out : Only F w w2).trans k.on fun i hi => ?_, fun i hi => ?_⟩
      · rcases hi with hi | hi | hi
        · exact Or.inl hi
        · exact Or.inr (hi ▸ HBS.out)
        · exact Or.inr (hi ▸ HNB.out)
      · exact (k.fr i hi).imp id fun e => Nat.le_trans hs2 e)
    rcases h3 with ⟨h4, rfl, h5⟩ | ⟨h4, h5, rfl, F3, lb3, hfr, h6⟩
    · have HR := Lib.hid (show FmtRes F g d s f st (d.slotW 0 s (cont f st)) w (.returned (.tuple #[.pointer none, .int .i64 121])) w3 from Or.inr (Or.inl ⟨HC.out, by simpa using h4, rfl, HB2.out.trans (h5.mono HB2.out.size)⟩))
      clear h4 h5 HFR
      go_wp2
      go_ret2
      exact HR.out
    · rw [Nat.add_sub_cancel] at h5 h6 ⊢
      have hfr2 := HFR.out F3 lb3 hfr
      have HGO := Lib.hid (fun (e : Ending) (k : (((d.slotW 0 s (cont f st)).2.2 ≠ 0 ∧ e = .returned (.tuple #[.pointer none, .int .i64 (d.slotW 0 s (cont f st)).2.2])) ∨
         ((d.slotW 0 s (cont f st)).2.2 = 0 ∧ ∃ b lb L y, e = .returned (.tuple #[.pointer (some ⟨b, 0, none⟩), .int .i64 0]) ∧ w.heap.size ≤ b ∧ w.heap.size ≤ lb ∧ Run (d.slotW 0 s (cont f st)).1 (d.base.length : Int) (2 * s) f L y ∧ 2 * s ≤ y ∧ y ≤ (d.base.length : Int) ∧ JM w3 F3 g b lb (d.slotW 0 s (cont f st)).1 s y (d.base.length : Int) (nextN (d.slotW 0 s (cont f st)).1 (2 * s) (d.base.length : Int) f) true))) => show FmtRes F g d s f st (d.slotW 0 s (cont f st)) w e w3 from Or.inr (Or.inr ⟨HC.out, h4, h5, F3, hfr2.1, hfr2.2, k⟩))
      have HLB := Lib.hid (show w.heap.size ≤ lb3 from hfr.lr.elim (fun e => by rw [e]; exact HNB.out) fun e => Nat.le_trans HB2.out.size e)
      clear hfr hfr2 HFR h4 h5
      generalize hEE : (d.slotW 0 s (cont f st)).2.2 = E at h6 HGO ⊢
      clear hEE
      by_cases hE : E = 0
      · subst hE
        have HR := Lib.hid (show FmtRes F g d s f st (d.slotW 0 s (cont f st)) w (.returned (.tuple #[.pointer (some ⟨b, 0, none⟩), .int .i64 0])) w3 by
          refine HGO.out _ (Or.inr ⟨rfl, ?_⟩)
          rcases h6 with ⟨e, _⟩ | ⟨_, L, y, k1, k2, k3, k4⟩ | ⟨e, _⟩
          · cases e
          · exact ⟨b, lb3, L, y, rfl, HBS.out, HLB.out, k1, k2, k3, k4⟩
          · exact absurd rfl e)
        clear h6
        go_wp2
        go_ret2
        exact HR.out
      · have d1' : (E != 0) = true := by simpa using hE
        have HR := Lib.hid (show FmtRes F g d s f st (d.slotW 0 s (cont f st)) w (.returned (.tuple #[.pointer none, .int .i64 E])) w3 from HGO.out _ (Or.inl ⟨hE, rfl⟩))
        clear h6 hE
        go_wp2
        go_ret2
        exact HR.out
/-- what Open answers -/
def OpnRes (F : Nat → Prop) (g : Nat) (d : Dk) (s : Int) (w : World) (e : Ending) (w' : World) : Prop :=
  (((canJ d s = false ∧ e = .returned (.tuple #[.pointer none, .slice none 0 0, .slice none 0 0, .int .i64 121])) ∨
    (canJ d s = true ∧ (d.slot 0 s).2 ≠ 0 ∧ e = .returned (.tuple #[.pointer none, .slice none 0 0, .slice none 0 0, .int .i64 (d.slot 0 s).2])) ∨
    (canJ d s = true ∧ (d.slot 0 s).2 = 0 ∧ ptO (d.slot 0 s).1.b = false ∧ e = .returned (.tuple #[.pointer none, .slice none 0 0, .slice none 0 0, .int .i64 121]))) ∧ RowKit.Below w.heap.size w w') ∨
  (canJ d s = true ∧ (d.slot 0 s).2 = 0 ∧ ptO (d.slot 0 s).1.b = true ∧ RowKit.Below w.heap.size w w' ∧
    ∃ b lb a k v L y, e = .returned (.tuple #[.pointer (some ⟨b, 0, none⟩), .slice a (nR (d.slot 0 s).1.b).length k, v, .int .i64 0]) ∧ w.heap.size ≤ b ∧ w.heap.size ≤ lb ∧
      BAt w' a (nR (d.slot 0 s).1.b) ∧ (nR (d.slot 0 s).1.b).length ≤ k ∧ (a = none → nR (d.slot 0 s).1.b = []) ∧ Recs w' w.heap.size v L ∧ Run d (d.base.length : Int) (2 * s) (nV (d.slot 0 s).1.b) L y ∧ 2 * s ≤ y ∧ y ≤ (d.base.length : Int) ∧
      JM w' F g b lb d s y (d.base.length : Int) (nextN d (2 * s) (d.base.length : Int) (nV (d.slot 0 s).1.b)) false)
theorem slot_len (d : Dk) (x s : Int) : (d.slot x s).1.b.length ≤ 13515 := by
  unfold Dk.slot
  split
  · exact both_len d x s
  · exact Nat.zero_le _
set_option maxRecDepth 100000 in
set_option maxHeartbeats 3200000 in
theorem jopen_any (g : Nat) (F : Nat → Prop) (d : Dk) (s : Int) (w : World) (h : DAt w F g d) (hs : I s) :
    Calls Tryz.prog 17 #[.pointer (some ⟨g, 0, none⟩), .int .i64 s] w (OpnRes F g d s w) := by
  have HCN := Lib.hid (jcan_any g F d s w h hs)
  cases hc : canJ d s with
  | false =>
    rw [hc] at HCN
    have HR := Lib.hid (show OpnRes F g d s w (.returned (.tuple #[.pointer none, .slice none 0 0, .slice none 0 0, .int .i64 121])) w from Or.inl ⟨Or.inl ⟨hc, rfl⟩, RowKit.Below.refl _ _⟩)
    clear h hs hc
    go_enter Tryz.func17, Tryz.ntmps17
    go_wp2_with fail
    refine HCN.out.mono ?_
    rintro _ _ ⟨rfl, rfl⟩
    go_wp2
    (try simp only [Exit.inBlock, Exit.then])
    refine bodyPost_ret (results_tmp4 rfl _ _ _) rfl ?_
    exact HR.out
  | true =>
    rw [hc] at HCN
    have HSR := Lib.hid (sread_any g F d 0 s w h (by unfold I; omega) hs)
    have HSL := Lib.hid (slot_len d 0 s)
    have HG : ∀ (G : Gen) (E : Int) (e : Ending) (w' : World), (G, E) = d.slot 0 s → ((((E ≠ 0 ∧ e = .returned (.tuple #[.pointer none, .slice none 0 0, .slice none 0 0, .int .i64 E])) ∨
        (E = 0 ∧ ptO G.b = false ∧ e = .returned (.tuple #[.pointer none, .slice none 0 0, .slice none 0 0, .int .i64 121]))) ∧ RowKit.Below w.heap.size w w') ∨
      (E = 0 ∧ ptO G.b = true ∧ RowKit.Below w.heap.size w w' ∧
        ∃ b lb a k v L y, e = .returned (.tuple #[.pointer (some ⟨b, 0, none⟩), .slice a (nR G.b).length k, v, .int .i64 0]) ∧ w.heap.size ≤ b ∧ w.heap.size ≤ lb ∧
          BAt w' a (nR G.b) ∧ (nR G.b).length ≤ k ∧ (a = none → nR G.b = []) ∧ Recs w' w.heap.size v L ∧ Run d (d.base.length : Int) (2 * s) (nV G.b) L y ∧ 2 * s ≤ y ∧ y ≤ (d.base.length : Int) ∧
          JM w' F g b lb d s y (d.base.length : Int) (nextN d (2 * s) (d.base.length : Int) (nV G.b)) false)) → OpnRes F g d s w e w' := fun G E e w' hr k => by
      unfold OpnRes
      rw [← hr]
      rcases k with ⟨k | k, hb⟩ | k
      · exact Or.inl ⟨Or.inr (Or.inl ⟨hc, k⟩), hb⟩
      · exact Or.inl ⟨Or.inr (Or.inr ⟨hc, k⟩), hb⟩
      · exact Or.inr ⟨hc, k⟩
    have HGO := Lib.hid HG
    have HLG := Lib.hid (fun (W : World) (hB : RowKit.Below w.heap.size w W) (m : Nat) (hm : m < 18446744073709551616) => jlog_any g F d s m W (h.below hB) hc hm)
    have HF := Lib.hid h
    unfold SlRes at HSR
    obtain ⟨r, hr⟩ : ∃ r, r = d.slot 0 s := ⟨_, rfl⟩
    rw [← hr] at HSR HSL HGO
    obtain ⟨G, E⟩ := r
    simp only at HSR HSL
    obtain ⟨c, hcb⟩ : ∃ c, c = G.b := ⟨_, rfl⟩
    have HG2 := Lib.hid (fun e w' => HGO.out G E e w' rfl)
    rw [← hcb] at HSR HSL HG2
    have HV := Lib.hid (nV_lt c)
    clear h hs hc HG HGO hr hcb
    go_enter Tryz.func17, Tryz.ntmps17
    go_wp2_with fail
    refine HCN.out.mono ?_
    rintro _ _ ⟨rfl, rfl⟩
    go_wp2_with fail
    refine HSR.out.mono ?_
    rintro _ w1 ⟨a1, c1, rfl, hb1, hc1, ha1, hB1⟩
    have HB1 := Lib.hid hB1
    clear HCN HSR
    by_cases hE : E = 0
    · subst hE
      have HPT := Lib.hid (jpart_any c a1 c.length c1 w1 hb1 rfl ha1 hc1 (by have := HSL.out; omega))
      clear hb1 hc1 ha1 hB1
      go_wp2_with fail
      refine HPT.out.mono ?_
      rintro _ w2 ⟨hb2, ⟨hp, a2, k2, rfl, hb2', hk2, ha2⟩ | ⟨hp, rfl⟩⟩
      · have HB2 := Lib.hid (show RowKit.Below w.heap.size w w2 from HB1.out.trans (hb2.mono HB1.out.size))
        have HA2 := Lib.hid (And.intro hb2' (And.intro hk2 ha2))
        have HP := Lib.hid hp
        clear hb2 hb2' hk2 ha2 hp HPT
        go_wp2_with fail
        refine (HLG.out w2 HB2.out _ HV.out).mono ?_
        rintro _ w3 ⟨lb, v3, L3, y3, rfl, hnb, hrun, hrec, hlg, hy1, hy2, hb3⟩
        have HS2 := Lib.hid HB2.out.size
        obtain ⟨w4, hw4⟩ : ∃ w4, w4 = w3.alloc (.cells #[.pointer (some ⟨g, 0, none⟩), .int .i64 s, .pointer (some ⟨lb, 0, none⟩), .bool false] 72) := ⟨_, rfl⟩
        have hb4 : RowKit.Below w3.heap.size w3 w4 := by rw [hw4]; exact (RowKit.Below.refl _ _).alloc (Nat.le_refl _) _
        have hb34 : RowKit.Below w2.heap.size w2 w4 := hb3.trans (hb4.mono hb3.size)
        have hb04 : RowKit.Below w.heap.size w w4 := HB2.out.trans (hb34.mono HB2.out.size)
        have hrow : JAt w4 w3.heap.size g lb s false := by rw [hw4]; exact rowJ _ _ _ _
        have hs3 := hb3.size
        have hs2 := HS2.out
        have hlt := hlg.lt
        have HR := Lib.hid (show OpnRes F g d s w (.returned (.tuple #[.pointer (some ⟨w3.heap.size, 0, none⟩), .slice a2 (nR c).length k2, v3, .int .i64 0])) w4 by
          refine HG2.out _ _ (Or.inr ⟨by trivial, HP.out, hb04, w3.heap.size, lb, a2, k2, v3, L3, y3, rfl, by omega, by omega, HA2.out.1.below hb34, HA2.out.2.1, HA2.out.2.2, (hrec.below hb4).mono hs2, hrun, hy1, hy2, ?_⟩)
          exact ⟨HF.out.below hb04, hrow, hlg.same (hb4.block _ hlg.lt), fun e => by have := HF.out.fl _ e; omega, fun e => by have := HF.out.fl _ e; omega, by omega⟩)
        clear hnb hrun hrec hlg hy1 hy2 hb3 hb4 hb34 hb04 hrow hs3 hs2 hlt HLG
        go_wp2
        (try simp only [Exit.inBlock, Exit.then])
        refine bodyPost_ret (results_tmp4 rfl _ _ _) rfl ?_
        first | (rw [← hw4]; exact HR.out) | (rw [hw4] at HR; exact HR.out)
      · have HR := Lib.hid (show OpnRes F g d s w (.returned (.tuple #[.pointer none, .slice none 0 0, .slice none 0 0, .int .i64 121])) w2 from HG2.out _ _ (Or.inl ⟨Or.inr ⟨by trivial, hp, rfl⟩, HB1.out.trans (hb2.mono HB1.out.size)⟩))
        clear hb2 hp HPT
        go_wp2
        (try simp only [Exit.inBlock, Exit.then])
        refine bodyPost_ret (results_tmp4 rfl _ _ _) rfl ?_
        exact HR.out
    · have d0 : (E != 0) = true := by simpa using hE
      have HR := Lib.hid (show OpnRes F g d s w (.returned (.tuple #[.pointer none, .slice none 0 0, .slice none 0 0, .int .i64 E])) w1 from HG2.out _ _ (Or.inl ⟨Or.inl ⟨hE, rfl⟩, HB1.out⟩))
      clear hb1 hc1 ha1 hB1 hE
      go_wp2
      (try simp only [Exit.inBlock, Exit.then])
      refine bodyPost_ret (results_tmp4 rfl _ _ _) rfl ?_
      exact HR.out
end Go.Proofs.YtdfbpaajkpnaeaaGreat
