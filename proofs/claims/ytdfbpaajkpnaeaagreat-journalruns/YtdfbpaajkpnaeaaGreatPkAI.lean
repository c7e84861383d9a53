
/- Package pack: a number behind bytes. Package pack: numbers, texts and floats behind bytes. Package pack: a reader. Package pack: a reader takes a number. Package pack: floats behind bytes. Package pack: a reader takes numbers of any sign, small ones, texts, floats. -/
import Derived.Test.YtdfbpaajkpnaeaaGreatPkB
import Derived.Test.YtdfbpaajkpnaeaaGreatRat
import Derived.Deep.DeepCutAuto
import Derived.Lib.EndianBits

namespace Go.Proofs.YtdfbpaajkpnaeaaGreat
set_option maxRecDepth 100000
open Go.RowKit Go.Lib

theorem or128 {k : Int} (h0 : 0 ≤ k) : bits .or .u8 (k % 256) 128 = (((k.toNat % 128 + 128).toUInt8).toNat : Int) := by
  rw [u8_or128_any _ (by omega) (by omega)]
  have e : ((k.toNat % 128 + 128).toUInt8).toNat = k.toNat % 128 + 128 := by simp [Nat.toUInt8]; omega
  rw [e]
  omega
theorem low8 {k : Int} (h0 : 0 ≤ k) : k % 256 = ((k.toNat.toUInt8).toNat : Int) := by
  have e : (k.toNat.toUInt8).toNat = k.toNat % 256 := by simp [Nat.toUInt8]
  rw [e]; omega
theorem uv_len {k : Int} (hk : k < 18446744073709551616) : (uvarint k.toNat).length ≤ 10 := uvarint_length64 (by omega)

set_option maxHeartbeats 800000 in
theorem number_any (base : Nat) (v : Value) (l : List UInt8) (n : Int) (w : World) (ho : OB w base v l) (hb : base ≤ w.heap.size) (hl : l.length ≤ 900000000) (h0 : 0 ≤ n) (hn : n < 18446744073709551616) :
    Calls Tryz.prog 86 #[v, .int .u64 n] w fun e w' => ∃ v', e = .returned v' ∧ Apd w base v (l ++ uvarint n.toNat) v' w' := by
  have HO := Lib.hid ho
  have HL := Lib.hid hl
  have HN := Lib.hid (uv_len hn)
  clear ho hl
  go_enter Tryz.func86, Tryz.ntmps86
  go_wp2
  go_loopg [0, 1] n.toNat (fun g c0 c1 wr => ∃ (k : Int) (q : List UInt8), c1 = .int .u64 k ∧ 0 ≤ k ∧ k < 18446744073709551616 ∧ Hid (k.toNat = g) ∧ Hid (q ++ uvarint k.toNat = l ++ uvarint n.toNat) ∧ Hid (OB wr base c0 q) ∧ Hid (Upd w wr v c0) ∧ base ≤ wr.heap.size)
  case atStart => exact ⟨n, l, rfl, h0, hn, rfl, rfl, HO.out, Upd.refl _ _, hb⟩
  case round =>
    obtain ⟨k, q, rfl, hk0, hk, HG, HU, HO, HP, hz⟩ := hrel
    obtain ⟨a, cap, hv, hB, hc, _⟩ := HO.out.row
    subst hv
    have HQ := Lib.hid (show q.length ≤ 900000010 by have := congrArg List.length HU.out; simp only [List.length_append] at this; have := HN.out; have := HL.out; omega)
    clear hB hc
    by_cases h : 128 ≤ k
    · have e := or128 hk0
      have EU := Lib.hid (uvarint_big (x := k.toNat) (by omega))
      obtain ⟨y, hy⟩ : ∃ y : UInt8, y = (k.toNat % 128 + 128).toUInt8 := ⟨_, rfl⟩
      rw [← hy] at e
      have HY := Lib.hid hy
      clear hy
      go_wp2_with (at_builtin; refine wpList_appB rfl _ _ rfl base _ q [y] (some ⟨wr.heap.size, 0, none⟩) 1 1 (by rfl) (by rfl) rfl (HO.out.below ((RowKit.Below.refl _ _).alloc (Nat.le_refl _) _)) (one_byte wr y _ _ rfl) (fun h => by cases h) (by have := HQ.out; simp; omega) (by simp; omega) ?_; intro v3 w3 h3)
      have H3 := Lib.hid h3
      clear h3
      go_wp2
      go_roundg ((k / 128).toNat)
      case measure => have := HG.out; omega
      case rel =>
        refine ⟨k / 128, q ++ [y], rfl, by omega, by omega, rfl, ?_, H3.out.1, HP.out.trans (Upd.pre ((RowKit.Below.refl _ _).alloc (Nat.le_refl _) _) H3.out.2.1), H3.out.2.2.1⟩
        show q ++ [y] ++ uvarint (k / 128).toNat = _
        rw [← HU.out, EU.out, HY.out, List.append_assoc, show (k / 128).toNat = k.toNat / 128 by omega]
        rfl
    · have EU := Lib.hid (uvarint_small (x := k.toNat) (by omega))
      obtain ⟨y, hy⟩ : ∃ y : UInt8, y = k.toNat.toUInt8 := ⟨_, rfl⟩
      have HY := Lib.hid hy
      have HK := Lib.hid (show k = (y.toNat : Int) by have := low8 hk0; rw [← hy] at this; omega)
      clear hy
      go_wp2_with (at_builtin; refine wpList_appB rfl _ _ rfl base _ q [y] (some ⟨wr.heap.size, 0, none⟩) 1 1 (by rfl) (by rfl) rfl (HO.out.below ((RowKit.Below.refl _ _).alloc (Nat.le_refl _) _)) (one_byte wr y _ _ HK.out) (fun h => by cases h) (by have := HQ.out; simp; omega) (by simp; omega) ?_; intro v3 w3 h3)
      obtain ⟨x1, x2, x3, x4⟩ := h3
      have hU := HP.out.trans (Upd.pre ((RowKit.Below.refl _ _).alloc (Nat.le_refl _) _) x2)
      have E : q ++ [y] = l ++ uvarint n.toNat := by rw [← HU.out, EU.out, HY.out]
      rw [E] at x1 x4
      have H3 := Lib.hid (show Apd w base v (l ++ uvarint n.toNat) v3 w3 from ⟨x1, hU, x3, fun e => absurd (x4 e).1 (by rw [← E]; simp)⟩)
      clear x1 x2 x3 x4 hU E
      go_wp2
      go_ret
      exact ⟨v3, rfl, H3.out⟩

/-- what Clone answers -/
def CloneRes (a : Option Addr) (l : List UInt8) (w : World) (e : Ending) (w' : World) : Prop := ∃ v', e = .returned v' ∧ OB w' w.heap.size v' l ∧ RowKit.Below w.heap.size w w' ∧ (v' = .slice none 0 0 → a = none)
set_option maxHeartbeats 800000 in
theorem clone_any (a : Option Addr) (l : List UInt8) (n c : Nat) (w : World) (hb : BAt w a l) (hn : l.length = n) (hl : l.length ≤ 900000000) (hnil : a = none → l = []) :
    Calls Tryz.prog 85 #[.slice a n c] w (CloneRes a l w) := by
  have q22 : ∀ (w : World) (a : Option Addr) (n c n' c' : Nat), (binOp .eql 23 (.slice a n c) (.slice none n' c')).run Tryz.prog w = .ok (.bool a.isNone) w := fun w a n c n' c' => Lib.run_eql_slice_nil w _ _ a n c n' c' Tryz.underlying23
  have HB := Lib.hid hb
  have HN := hnil
  have HL := Lib.hid hl
  have HE := Lib.hid hn
  clear hb hnil hl hn
  cases a with
  | none =>
    obtain rfl := HN rfl
    clear HN
    go_enter Tryz.func85, Tryz.ntmps85
    go_wp2
    go_ret
    exact ⟨_, rfl, OB.nil _ _, RowKit.Below.refl _ _, fun _ => rfl⟩
  | some p =>
    clear HN
    go_enter Tryz.func85, Tryz.ntmps85
    go_wp2_with (at_builtin; refine wpList_appB rfl _ _ rfl w.heap.size _ [] l (some p) _ n (by rfl) (by rfl) HE.out (OB.lit (Nat.le_refl _)) (HB.out.below ((RowKit.Below.refl _ _).alloc (Nat.le_refl _) _)) (fun h => by cases h) (by have := HL.out; simp; omega) (by simp) ?_; intro v3 w3 h3)
    have H3 := Lib.hid h3
    clear h3
    go_wp2
    go_ret
    exact ⟨v3, rfl, H3.out.1, H3.out.2.1.below (OB.lit (Nat.le_refl _)) (by simp) ((RowKit.Below.refl _ _).alloc (Nat.le_refl _) _), fun e => by cases (H3.out.2.2.2 e).2⟩
end Go.Proofs.YtdfbpaajkpnaeaaGreat

namespace Go.Proofs.YtdfbpaajkpnaeaaGreat
set_option maxRecDepth 100000
open Go.RowKit Go.Lib

theorem fold_low {n : Int} (h : n < 0) : foldN n = (2 * (-1 - n) + 1).toNat := by unfold foldN; rw [if_neg (by omega)]
theorem fold_up {n : Int} (h : 0 ≤ n) : foldN n = (2 * n).toNat := by unfold foldN; rw [if_pos h]
/-- a slice of bytes that the call has made -/
def Made (l : List UInt8) (w : World) (e : Ending) (w' : World) : Prop := ∃ v', e = .returned v' ∧ OB w' w.heap.size v' l ∧ RowKit.Below w.heap.size w w'
def encU (l : List Int) : List UInt8 := l.flatMap fun n => uvarint n.toNat
def encI (l : List Int) : List UInt8 := l.flatMap fun n => uvarint (foldN n)
theorem encU_snoc (l : List Int) (n : Int) : encU (l ++ [n]) = encU l ++ uvarint n.toNat := by simp [encU]
theorem encI_snoc (l : List Int) (n : Int) : encI (l ++ [n]) = encI l ++ uvarint (foldN n) := by simp [encI]

set_option maxHeartbeats 1600000 in
theorem num_any (a : Option Addr) (bs : List UInt8) (n c : Nat) (a2 : Option Addr) (l : List Int) (n2 c2 : Nat) (w : World) (hb : BAt w a bs) (hn : bs.length = n) (hnil : a = none → bs = []) (hl : bs.length ≤ 800000000) (hr : RAt (Value.int .u64) w a2 l) (hn2 : l.length = n2) (hl2 : l.length ≤ 100000)
    (hI : ∀ x ∈ l, 0 ≤ x ∧ x < 18446744073709551616) :
    Calls Tryz.prog 60 #[.slice a n c, .slice a2 n2 c2] w (Made (bs ++ encU l) w) := by
  have HB := Lib.hid hb
  have HR := Lib.hid hr
  have HI := Lib.hid hI
  have HL := Lib.hid hl
  have HN := Lib.hid hnil
  have HE := Lib.hid hn
  subst hn2
  clear hb hr hI hl hnil hn
  go_enter Tryz.func60, Tryz.ntmps60
  go_wp2_with fail
  refine (clone_any a bs n c _ HB.out HE.out (by have := HL.out; omega) HN.out).mono ?_
  rintro _ w1 ⟨v1, rfl, ho1, hb1, _⟩
  have HO1 := Lib.hid ho1
  have HB1 := Lib.hid hb1
  obtain ⟨a1, c1, hv1, _⟩ := ho1.row
  subst hv1
  clear ho1 hb1
  go_wp2
  go_loopg [5, 12] l.length (fun g c5 c12 wr => ∃ (k : Nat) (q : List UInt8), c12 = .int .i64 (k : Int) ∧ k ≤ l.length ∧ Hid (g + k = l.length) ∧ Hid (q = bs ++ encU (l.take k)) ∧ Hid (q.length ≤ bs.length + 10 * k) ∧ Hid (OB wr w.heap.size c5 q) ∧ Hid (RowKit.Below w.heap.size w wr))
  case atStart => exact ⟨0, bs, rfl, by omega, Nat.add_zero _, (show _ = _ by simp [encU]), Nat.le_refl _, HO1.out, HB1.out⟩
  case round =>
    obtain ⟨k, q, rfl, hk, HG, HQ, HQL, HO, HW⟩ := hrel
    obtain ⟨a5, c5, hv5, _⟩ := HO.out.row
    subst hv5
    by_cases hlt : k < l.length
    · have d1 : decide (k < l.length) = true := by simpa using hlt
      obtain ⟨x, hx, htk, hmem⟩ := get_lt hlt
      obtain ⟨b, off, rfl, hcell⟩ := (HR.out.below HW.out).at_ hx
      obtain ⟨hx1, hx2⟩ := HI.out x hmem
      have HT := Lib.hid htk
      clear hx htk hmem
      go_wp2_with fail
      have UL := Lib.hid (uv_len hx2)
      refine (number_any w.heap.size _ q x _ HO.out HW.out.size (by have := HQL.out; have := HL.out; omega) hx1 hx2).mono ?_
      rintro _ w3 ⟨v3, rfl, h3⟩
      have H3 := Lib.hid h3
      clear h3
      go_wp2
      go_roundg (l.length - (k + 1))
      case measure => have := HG.out; omega
      case rel =>
        refine ⟨k + 1, _, by go_num, by omega, show _ = _ by omega, ?_, ?_, H3.out.1, H3.out.2.1.below HO.out HW.out.size HW.out⟩
        · show _ = _
          rw [HT.out, encU_snoc, HQ.out, List.append_assoc]
        · show _ ≤ _
          rw [List.length_append]
          have := HQL.out
          have := UL.out
          omega
    · have d1 : decide (k < l.length) = false := by simpa using hlt
      have HK := Lib.hid (show k = l.length by omega)
      go_wp2
      go_ret
      refine ⟨_, rfl, ?_, HW.out⟩
      have E : q = bs ++ encU l := by rw [HQ.out, HK.out, List.take_length]
      rw [← E]
      exact HO.out

def encT (l : List ByteArray) : List UInt8 := l.flatMap fun t => uvarint t.size ++ t.data.toList
theorem encT_snoc (l : List ByteArray) (t : ByteArray) : encT (l ++ [t]) = encT l ++ (uvarint t.size ++ t.data.toList) := by simp [encT]
/-- texts behind bytes -/
def Texts (bs : List UInt8) (l : List ByteArray) (w : World) (e : Ending) (w' : World) : Prop :=
  RowKit.Below w.heap.size w w' ∧ (((∀ t ∈ l, t.size ≤ 65536) ∧ ∃ v', e = .returned (.tuple #[v', .int .i64 0]) ∧ OB w' w.heap.size v' (bs ++ encT l)) ∨ ((∃ t ∈ l, 65536 < t.size) ∧ e = .returned (.tuple #[.slice none 0 0, .int .i64 61])))
theorem OB.nn {w : World} {base : Nat} {v : Value} {l : List UInt8} (h : OB w base v l) (hl : l ≠ []) : v ≠ .slice none 0 0 := by
  obtain ⟨a, c, hv, _⟩ := h.row
  intro e
  rw [hv] at e
  injection e with _ e
  exact hl (List.eq_nil_of_length_eq_zero e)
theorem uv_ne (n : Nat) (l : List UInt8) : l ++ uvarint n ≠ [] := by
  intro h
  have h2 := congrArg List.length h
  have := uvarint_pos n
  rw [List.length_append, List.length_nil] at h2
  omega

end Go.Proofs.YtdfbpaajkpnaeaaGreat

namespace Go.Proofs.YtdfbpaajkpnaeaaGreat
set_option maxRecDepth 100000
open Go.RowKit Go.Lib

/-- a reader lies in block g (from base on, like its bytes): bs are left; has it failed? -/
def RDa (w : World) (base g : Nat) (A : Option Addr) (cap : Nat) (bs : List UInt8) (f : Bool) : Prop :=
  w.cell? ⟨g, 0, none⟩ = some (.slice A bs.length cap) ∧ w.cell? ⟨g, 1, none⟩ = some (.bool f) ∧ w.frozen? ⟨g, 0, none⟩ = false ∧ w.frozen? ⟨g, 1, none⟩ = false ∧ g < w.heap.size ∧ base ≤ g ∧ bs.length ≤ cap ∧ BAt w A bs ∧ ¬ inBlk A g ∧ (∀ k, inBlk A k → base ≤ k) ∧ (A = none → bs = [])
def RD (w : World) (base g : Nat) (bs : List UInt8) (f : Bool) : Prop := ∃ A cap, RDa w base g A cap bs f
theorem RDa.grown {w w' : World} {base g : Nat} {A : Option Addr} {cap : Nat} {bs : List UInt8} {f : Bool} {row : Option Nat} (h : RDa w base g A cap bs f) (hg : w.grownBy w' row) (hr : ∀ k, row = some k → k < base) : RDa w' base g A cap bs f := by
  obtain ⟨h1, h2, h3, h4, h5, h6, h7, h8, h9, h10, h11⟩ := h
  have hb : w'.heap[g]? = w.heap[g]? := hg.block g h5 (fun e => by have := hr g e.symm; omega)
  refine ⟨hg.cell h1 (fun e => by have := hr g e.symm; omega), hg.cell h2 (fun e => by have := hr g e.symm; omega), by rw [World.frozen?_of_block (w := w) hb]; exact h3, by rw [World.frozen?_of_block (w := w) hb]; exact h4, Nat.lt_of_lt_of_le h5 hg.size, h6, h7, h8.grown hg (Or.inr fun k hk e => ?_), h9, h10, h11⟩
  have := h10 k e
  have := hr k hk
  omega
theorem RD.grown {w w' : World} {base g : Nat} {bs : List UInt8} {f : Bool} {row : Option Nat} (h : RD w base g bs f) (hg : w.grownBy w' row) (hr : ∀ k, row = some k → k < base) : RD w' base g bs f := by
  obtain ⟨A, cap, h⟩ := h
  exact ⟨A, cap, h.grown hg hr⟩
theorem grown_of_below {a w : World} (h : RowKit.Below a.heap.size a w) (row : Option Nat) : a.grownBy w row := ⟨h.os, h.tape, h.output, h.size, fun i hi _ => h.block i hi⟩
theorem RD.below {w w' : World} {base g : Nat} {bs : List UInt8} {f : Bool} (h : RD w base g bs f) (hg : RowKit.Below w.heap.size w w') : RD w' base g bs f :=
  h.grown (grown_of_below hg none) (fun _ e => by cases e)
theorem grown_set (w : World) (g i : Nat) (v : Value) : w.grownBy (w.setCell ⟨g, i, none⟩ v) (some g) :=
  ⟨rfl, rfl, rfl, by simp [World.setCell], fun k _ hne => Below.heap_setCell _ _ _ _ (fun e => hne (by rw [e]))⟩
theorem grown_trans {a b c : World} {row : Option Nat} (h : a.grownBy b row) (k : b.grownBy c row) : a.grownBy c row :=
  ⟨k.os.trans h.os, k.tape.trans h.tape, k.output.trans h.output, Nat.le_trans h.size k.size, fun i hi hne => (k.block i (Nat.lt_of_lt_of_le hi h.size) hne).trans (h.block i hi hne)⟩
/-- the reader at g is now so, and nothing else has turned -/
def To (base g : Nat) (bs : List UInt8) (f : Bool) (w w' : World) : Prop := RD w' base g bs f ∧ w.grownBy w' (some g)
theorem To.trans {base g : Nat} {bs cs : List UInt8} {f h : Bool} {a b c : World} (x : To base g bs f a b) (y : To base g cs h b c) : To base g cs h a c := ⟨y.1, grown_trans x.2 y.2⟩
theorem To.below {base g : Nat} {bs : List UInt8} {f : Bool} {a b : World} {w0 : World} {B : Nat} (x : To base g bs f a b) (hB : RowKit.Below B w0 a) (h1 : B ≤ a.heap.size) (h2 : B ≤ base) : RowKit.Below B w0 b :=
  hB.grown x.2 h1 (fun k e => by injection e with e; subst e; obtain ⟨_, _, _, _, _, _, _, h, _⟩ := x.1; omega)

/-- bytes that were there before the reader -/
theorem RD.apart {w0 w w' : World} {base g : Nat} {cs : List UInt8} {f : Bool} {a : Option Addr} {l : List UInt8} (h : To base g cs f w w') (hb : BAt w a l) (h0 : BAt w0 a l) (hs : w0.heap.size ≤ base) : BAt w' a l := by
  rcases h0 with e | ⟨b, off, rfl, hlt, _⟩
  · exact Or.inl e
  · exact hb.grown h.2 (Or.inr fun k e x => by
      injection e with e
      subst e
      obtain ⟨p, hp, hq⟩ := x
      injection hp with hp
      subst hp
      obtain ⟨_, _, _, _, _, _, _, h6, _⟩ := h.1
      have : b = g := hq
      omega)
set_option maxHeartbeats 400000 in
theorem fail_any (base g : Nat) (bs : List UInt8) (f : Bool) (w : World) (h : RD w base g bs f) : Calls Tryz.prog 90 #[.pointer (some ⟨g, 0, none⟩)] w fun e w' => e = .returned (.tuple #[]) ∧ To base g [] true w w' := by
  obtain ⟨A, cap, h1, h2, h3, h4, h5, h6, _⟩ := h
  have hk : RD ((w.setCell ⟨g, 0, none⟩ (.slice none 0 0)).setCell ⟨g, 1, none⟩ (.bool true)) base g [] true :=
    ⟨none, 0, by simp [go_sem, h1], by simp [go_sem, h2], by simpa [go_sem] using h3, by simpa [go_sem] using h4, by simpa using h5, h6, Nat.le_refl _, Or.inl rfl, (fun e => by obtain ⟨_, e, _⟩ := e; cases e), (fun k e => by obtain ⟨_, e, _⟩ := e; cases e), fun _ => rfl⟩
  have HT := Lib.hid (show To base g [] true w _ from ⟨hk, grown_trans (grown_set w g 0 _) (grown_set _ g 1 _)⟩)
  clear hk
  go_enter Tryz.func90, Tryz.ntmps90
  go_wp2
  go_end0
  exact ⟨rfl, HT.out⟩

theorem len_of {w : World} {base g : Nat} {A : Option Addr} {cap : Nat} {bs : List UInt8} {f : Bool} (h : RDa w base g A cap bs f) : w.cell? ⟨g, 0, none⟩ = some (.slice A bs.length cap) := h.1
/-- nothing is left, and it hasn't failed -/
def endB (bs : List UInt8) (f : Bool) : Bool := !f && bs.isEmpty
theorem RDa.drop {w : World} {base g : Nat} {A : Option Addr} {cap : Nat} {bs : List UInt8} {f : Bool} (h : RDa w base g A cap bs f) {k : Nat} (hk : k ≤ bs.length) : RDa (w.setCell ⟨g, 0, none⟩ (.slice (cutA A cap k) (bs.length - k) (cap - k))) base g (cutA A cap k) (cap - k) (bs.drop k) f := by
  obtain ⟨h1, h2, h3, h4, h5, h6, h7, h8, h9, h10, h11⟩ := h
  refine ⟨by rw [List.length_drop]; simp [go_sem, h1], by simp [go_sem, h2], by simpa [go_sem] using h3, by simpa [go_sem] using h4, by simpa using h5, h6, by rw [List.length_drop]; omega, ?_, fun e => h9 (cutA_blk e), fun k e => h10 k (cutA_blk e), ?_⟩
  · exact (h8.drop hk h7).grown (grown_set w g 0 _) (Or.inr fun k e x => by injection e with e; subst e; exact h9 (cutA_blk x))
  · intro e
    have : A = none := by
      unfold cutA at e
      split at e
      · exact e
      · cases A <;> simp at e; rfl
    rw [h11 this]; simp
theorem RDa.bytes {w : World} {base g : Nat} {A : Option Addr} {cap : Nat} {bs : List UInt8} {f : Bool} (h : RDa w base g A cap bs f) (k : Nat) (v : Value) : BAt (w.setCell ⟨g, 0, none⟩ v) A (bs.take k) := by
  obtain ⟨h1, h2, h3, h4, h5, h6, h7, h8, h9, h10, h11⟩ := h
  exact (h8.take k).grown (grown_set w g 0 _) (Or.inr fun k e x => by injection e with e; subst e; exact h9 x)
/-- what take answers -/
def Took (base g : Nat) (bs : List UInt8) (f : Bool) (k : Nat) (w : World) (e : Ending) (w' : World) : Prop :=
  ∃ A cap, e = .returned (.slice A k cap) ∧ BAt w' A (bs.take k) ∧ k ≤ cap ∧ ¬ inBlk A g ∧ (A = none → bs.take k = []) ∧ To base g (bs.drop k) f w w'
set_option maxHeartbeats 400000 in
theorem take_yes (base g : Nat) (bs : List UInt8) (f : Bool) (k : Nat) (w : World) (h : RD w base g bs f) (hk : k ≤ bs.length) :
    Calls Tryz.prog 91 #[.pointer (some ⟨g, 0, none⟩), .int .i64 (k : Int)] w (Took base g bs f k w) := by
  obtain ⟨A, cap, h⟩ := h
  have H := Lib.hid h
  obtain ⟨h1, h2, h3, h4, h5, h6, h7, h8, h9, h10, h11⟩ := h
  have r1 := run_from A bs.length cap k hk
  have r2 := run_to A bs.length cap k (by omega)
  clear h2 h8 h9 h10 h11
  have d : decide ((bs.length : Int) < (k : Int)) = false := by simp; omega
  have d2 : decide (bs.length < k) = false := by simp; omega
  go_enter Tryz.func91, Tryz.ntmps91
  go_wp2
  go_ret
  exact ⟨A, cap, rfl, H.out.bytes k _, by omega, H.out.2.2.2.2.2.2.2.2.1, (fun e => by rw [H.out.2.2.2.2.2.2.2.2.2.2 e]; simp), ⟨_, _, H.out.drop hk⟩, grown_set _ _ _ _⟩
set_option maxHeartbeats 400000 in
theorem take_no (base g : Nat) (bs : List UInt8) (f : Bool) (k : Nat) (w : World) (h : RD w base g bs f) (hk : bs.length < k) :
    Calls Tryz.prog 91 #[.pointer (some ⟨g, 0, none⟩), .int .i64 (k : Int)] w fun e w' => e = .returned (.slice none 0 0) ∧ To base g [] true w w' := by
  have H := Lib.hid h
  obtain ⟨A, cap, h1, _⟩ := h
  have d2 : decide (bs.length < k) = true := by simp; omega
  go_enter Tryz.func91, Tryz.ntmps91
  go_wp2_with fail
  refine (fail_any base g bs f _ H.out).mono ?_
  rintro _ w1 ⟨rfl, ht⟩
  have HT := Lib.hid ht
  clear ht h1
  go_wp2
  go_ret
  exact ⟨rfl, HT.out⟩

/-- what New answers -/
def News (l : List UInt8) (w : World) (e : Ending) (w' : World) : Prop := ∃ g, e = .returned (.pointer (some ⟨g, 0, none⟩)) ∧ RD w' w.heap.size g l false ∧ RowKit.Below w.heap.size w w'
set_option maxHeartbeats 400000 in
theorem new_any (a : Option Addr) (l : List UInt8) (n c : Nat) (w : World) (hb : BAt w a l) (hn : l.length = n) (hl : l.length ≤ 900000000) (hnil : a = none → l = []) : Calls Tryz.prog 67 #[.slice a n c] w (News l w) := by
  have C := Lib.hid (clone_any a l n c w hb hn hl hnil)
  clear hb hn hl hnil
  go_enter Tryz.func67, Tryz.ntmps67
  go_wp2_with fail
  refine C.out.mono ?_
  rintro _ w1 ⟨v1, rfl, ho1, hb1, _⟩
  obtain ⟨a1, c1, hv1, r1, r2, r3, r4, r5⟩ := ho1.row
  have HO := Lib.hid ho1
  have HB := Lib.hid hb1
  have HR := Lib.hid (show BAt w1 a1 l ∧ l.length ≤ c1 ∧ (a1 = none → c1 = 0) ∧ ∀ g, inBlk a1 g → v1.ownBlock = some g from ⟨r1, r2, r4, fun g e => (r5 g).mp e⟩)
  subst hv1
  clear ho1 hb1 C r1 r2 r3 r4 r5
  go_wp2
  go_ret
  refine ⟨_, rfl, ⟨a1, c1, by simp [go_sem], by simp [go_sem], by simp [go_sem], by simp [go_sem], by simp, HB.out.size, HR.out.2.1, HR.out.1.below ((RowKit.Below.refl _ _).alloc (Nat.le_refl _) _), fun e => ?_, fun k e => (HO.out.own k (HR.out.2.2.2 k e)).1, fun e => ?_⟩, HB.out.alloc HB.out.size _⟩
  · have := (HO.out.own _ (HR.out.2.2.2 _ e)).2
    omega
  · have := HR.out.2.2.1 e
    have := HR.out.2.1
    exact List.eq_nil_of_length_eq_zero (by omega)
end Go.Proofs.YtdfbpaajkpnaeaaGreat

namespace Go.Proofs.YtdfbpaajkpnaeaaGreat
set_option maxRecDepth 100000
open Go.RowKit Go.Lib

/-- what Num answers -/
def NumRes (base g : Nat) (bs : List UInt8) (f : Bool) (w : World) (e : Ending) (w' : World) : Prop :=
  (∃ n c, dec bs = some (n, c) ∧ e = .returned (.int .u64 (n : Int)) ∧ To base g (bs.drop c) f w w') ∨ (dec bs = none ∧ e = .returned (.int .u64 0) ∧ To base g [] true w w')

theorem pow_int (n : Nat) : (2 : Int) ^ n = ((2 ^ n : Nat) : Int) := by simp
/-- seven bits more -/
theorem join7 {k xn : Nat} {acc : Int} (ha : 0 ≤ acc) (hac : acc.toNat < 2 ^ (7 * k)) (hb : xn % 128 * 2 ^ (7 * k) < 18446744073709551616) (h64 : 7 * k ≤ 64) :
    IntKind.u64.wrap ((xn : Int) % 128 * 2 ^ (7 * k)) = ((xn % 128 * 2 ^ (7 * k) : Nat) : Int) ∧ bits .or .u64 acc ((xn % 128 * 2 ^ (7 * k) : Nat) : Int) = ((acc.toNat + xn % 128 * 2 ^ (7 * k) : Nat) : Int) := by
  have e : (xn : Int) % 128 * 2 ^ (7 * k) = ((xn % 128 * 2 ^ (7 * k) : Nat) : Int) := by
    rw [Int.natCast_mul, Int.natCast_emod, ← pow_int]; rfl
  have e64' : (2 : Int) ^ 64 = 18446744073709551616 := by decide
  refine ⟨by rw [e]; exact wraps_u64 _ (by omega) (by rw [e64']; omega), ?_⟩
  have hp : (2 : Nat) ^ (7 * k) ≤ 2 ^ 64 := Nat.pow_le_pow_right (by omega) h64
  have e64 : (2 : Nat) ^ 64 = 18446744073709551616 := by decide
  have hm : ((xn % 128 * 2 ^ (7 * k) : Nat) : Int) % 2 ^ (7 * k) = 0 := by
    rw [pow_int, ← Int.natCast_emod, Nat.mul_mod_left]; rfl
  rw [bits_join_low .u64 64 (by decide) wraps_u64 (7 * k) acc _ ha (by rw [pow_int]; omega) (by rw [e64']; omega) (by omega) hm (by rw [e64']; omega)]
  omega

set_option maxRecDepth 100000 in
set_option maxHeartbeats 3200000 in
theorem rnum_any (base g : Nat) (bs : List UInt8) (f : Bool) (w : World) (h : RD w base g bs f) (hl : bs.length ≤ 900000000) :
    Calls Tryz.prog 68 #[.pointer (some ⟨g, 0, none⟩)] w (NumRes base g bs f w) := by
  have H := Lib.hid h
  obtain ⟨A, cap, h1, h2, h3, h4, h5, h6, h7, h8, h9, h10, h11⟩ := h
  have HA := Lib.hid h8
  have HL := Lib.hid hl
  clear h2 h3 h4 h5 h6 h7 h8 h9 h10 h11 hl
  go_enter Tryz.func68, Tryz.ntmps68
  go_wp2
  go_step3
  go_wp2
  go_step3
  go_wp2
  go_loopg [3, 4, 12] 10 (fun q c3 c4 c12 wr => ∃ (k : Nat) (acc : Int), c12 = .int .i64 (k : Int) ∧ c3 = .int .u64 acc ∧ c4 = .int .i64 0 ∧ k ≤ 9 ∧ k ≤ bs.length ∧ Hid (q + k = 10) ∧ 0 ≤ acc ∧ Hid (acc.toNat < 2 ^ (7 * k)) ∧ Hid (decF k acc.toNat (bs.drop k) = dec bs) ∧ wr = w)
  case atStart => exact ⟨0, 0, rfl, rfl, rfl, by omega, by omega, Nat.add_zero _, by omega, (show _ < _ by decide), rfl, rfl⟩
  case round =>
    obtain ⟨k, acc, rfl, rfl, rfl, hk9, hkl, HG, ha0, HAC, HD, rfl⟩ := hrel
    by_cases hlt : k < bs.length
    · have d1 : decide (k < bs.length) = true := by simpa using hlt
      obtain ⟨x, hx, _, _⟩ := get_lt hlt
      have hcell : ∃ b off, A = some ⟨b, off, none⟩ ∧ wr.cell? ⟨b, off + k, none⟩ = some (.int .u8 (x.toNat : Int)) := by
        rcases HA.out with e | ⟨b, off, ha, hlt', hc⟩
        · rw [e] at hlt; simp at hlt
        · refine ⟨b, off, ha, ?_⟩
          rw [hc k hlt]
          simp [List.getD, hx]
      obtain ⟨b, off, rfl, hcell⟩ := hcell
      have hdr : bs.drop k = x :: bs.drop (k + 1) := by
        rw [List.drop_eq_getElem_cons hlt]
        rw [List.getElem?_eq_getElem hlt] at hx
        injection hx with hx
        rw [hx]
      have hD := HD.out
      rw [hdr, decF] at hD
      have hx256 := u8lt x
      generalize x.toNat = xn at *
      clear hx hdr
      have hbd : (k ≤ 8 ∨ xn ≤ 1) → xn % 128 * 2 ^ (7 * k) < 18446744073709551616 := by
        intro hc
        have e63 : (2 : Nat) ^ 63 = 9223372036854775808 := by decide
        rcases hc with hc | hc
        · have hp : (2 : Nat) ^ (7 * k) ≤ 2 ^ 56 := Nat.pow_le_pow_right (by omega) (by omega)
          have e56 : (2 : Nat) ^ 56 = 72057594037927936 := by decide
          have := Nat.mul_le_mul (show xn % 128 ≤ 127 by omega) hp
          omega
        · have hp : (2 : Nat) ^ (7 * k) ≤ 2 ^ 63 := Nat.pow_le_pow_right (by omega) (by omega)
          have := Nat.mul_le_mul (show xn % 128 ≤ 1 by omega) hp
          omega
      by_cases hA : 9 ≤ k ∧ 2 ≤ xn
      · rw [if_pos ⟨by omega, by omega⟩] at hD
        have HN := Lib.hid hD.symm
        clear hD hbd HD
        obtain ⟨a1, a2⟩ := hA
        go_wp2_with fail
        refine (fail_any base g bs f _ H.out).mono ?_
        rintro _ w3 ⟨rfl, ht3⟩
        have HT3 := Lib.hid ht3
        clear ht3
        go_wp2
        try rw [Exit.noGoto_ret]
        go_ret
        exact Or.inr ⟨HN.out, rfl, HT3.out⟩
      have HX := Lib.hid (join7 ha0 HAC.out (hbd (by omega)) (by omega))
      rw [if_neg (by omega)] at hD
      by_cases hB : 1 ≤ k ∧ xn ≤ 0
      · rw [if_pos ⟨by omega, by omega⟩] at hD
        have HN := Lib.hid hD.symm
        clear hD hbd HD
        obtain ⟨a1, a2⟩ := hB
        by_cases h9 : 9 ≤ k
        all_goals
          go_wp2_with fail
          refine (fail_any base g bs f _ H.out).mono ?_
          rintro _ w3 ⟨rfl, ht3⟩
          have HT3 := Lib.hid ht3
          clear ht3
          go_wp2
          try rw [Exit.noGoto_ret]
          go_ret
          exact Or.inr ⟨HN.out, rfl, HT3.out⟩
      rw [if_neg (by omega)] at hD
      have hb' := hbd (by omega)
      obtain ⟨ew, eb⟩ := HX.out
      obtain ⟨s, hs⟩ : ∃ s : Int, s = ((xn % 128 * 2 ^ (7 * k) : Nat) : Int) := ⟨_, rfl⟩
      rw [← hs] at ew eb
      obtain ⟨t, ht⟩ : ∃ t : Int, t = ((acc.toNat + xn % 128 * 2 ^ (7 * k) : Nat) : Int) := ⟨_, rfl⟩
      rw [← ht, ← ew] at eb
      have HTT := Lib.hid ht
      have EB := Lib.hid eb
      clear eb ew hs ht hbd hb' HX HD
      by_cases hC : xn < 128
      · rw [if_pos hC] at hD
        have HN := Lib.hid hD.symm
        clear hD
        have HTV := Lib.hid (show t = ((acc.toNat + xn * 2 ^ (7 * k) : Nat) : Int) by rw [HTT.out, Nat.mod_eq_of_lt hC])
        have TK := Lib.hid (take_yes base g bs f (k + 1) wr H.out (by omega))
        rw [show ((k + 1 : Nat) : Int) = (k : Int) + 1 by omega] at TK
        have hne : ((k : Int) + 1 == 0) = false := by simp; omega
        have f9 : k ≤ 8 ∨ (9 ≤ k ∧ xn ≤ 1) := by omega
        have f0 : k ≤ 0 ∨ (1 ≤ k ∧ 1 ≤ xn) := by omega
        clear hA hB
        rcases f9 with h9 | ⟨h9, h9'⟩ <;> rcases f0 with h0 | ⟨h0, h0'⟩
        · skip
          go_upto_region 7 with (fail)
          rw [EB.out]
          go_wp2_with fail
          refine TK.out.mono ?_
          rintro _ w3 ⟨A3, c3, rfl, _, _, _, _, ht3⟩
          have HT3 := Lib.hid ht3
          clear ht3
          go_wp2
          try rw [Exit.noGoto_ret]
          go_ret
          exact Or.inl ⟨_, _, HN.out, ret_int HTV.out, HT3.out⟩
        · skip
          go_upto_region 7 with (fail)
          rw [EB.out]
          go_wp2_with fail
          refine TK.out.mono ?_
          rintro _ w3 ⟨A3, c3, rfl, _, _, _, _, ht3⟩
          have HT3 := Lib.hid ht3
          clear ht3
          go_wp2
          try rw [Exit.noGoto_ret]
          go_ret
          exact Or.inl ⟨_, _, HN.out, ret_int HTV.out, HT3.out⟩
        · omega
        · have e10 : (k : Int) + 1 = 10 := by omega
          rw [e10] at TK
          clear e10 hne
          go_upto_region 7 with (fail)
          rw [EB.out]
          go_wp2_with fail
          refine TK.out.mono ?_
          rintro _ w3 ⟨A3, c3, rfl, _, _, _, _, ht3⟩
          have HT3 := Lib.hid ht3
          clear ht3
          go_wp2
          try rw [Exit.noGoto_ret]
          go_ret
          exact Or.inl ⟨_, _, HN.out, ret_int HTV.out, HT3.out⟩
      · rw [if_neg hC] at hD
        have HN := Lib.hid hD
        clear hD
        have h8 : k ≤ 8 := by omega
        have HAC2 := Lib.hid (show t.toNat < 2 ^ (7 * (k + 1)) by
          rw [HTT.out, Int.toNat_natCast, p128]
          have := Nat.mul_le_mul_right (2 ^ (7 * k)) (show xn % 128 ≤ 127 by omega)
          have := HAC.out
          omega)
        have HD2 := Lib.hid (show decF (k + 1) t.toNat (bs.drop (k + 1)) = dec bs by rw [HTT.out, Int.toNat_natCast]; exact HN.out)
        have ht0 : 0 ≤ t := by have := HTT.out; omega
        have f0 : k ≤ 0 ∨ 1 ≤ k := by omega
        clear hA hB
        rcases f0 with h0 | h0
        all_goals
          go_upto_region 7 with (fail)
          rw [EB.out]
          go_wp2
          go_roundg (10 - (k + 1))
          case measure => have := HG.out; omega
          case rel => exact ⟨k + 1, t, by go_num, rfl, rfl, by omega, by omega, show _ = _ by omega, ht0, HAC2.out, HD2.out, rfl⟩
    · have d1 : decide (k < bs.length) = false := by simpa using hlt
      have HN := Lib.hid (show dec bs = none by rw [← HD.out, List.drop_eq_nil_of_le (by omega)]; rfl)
      go_wp2_with fail
      refine (fail_any base g bs f _ H.out).mono ?_
      rintro _ w3 ⟨rfl, ht3⟩
      have HT3 := Lib.hid ht3
      clear ht3
      go_wp2
      try rw [Exit.noGoto_ret]
      go_ret
      exact Or.inr ⟨HN.out, rfl, HT3.out⟩
end Go.Proofs.YtdfbpaajkpnaeaaGreat

namespace Go.Proofs.YtdfbpaajkpnaeaaGreat
set_option maxRecDepth 100000
open Go.RowKit Go.Lib

def encF (l : List Nat) : List UInt8 := l.flatMap leB
theorem encF_snoc (l : List Nat) (n : Nat) : encF (l ++ [n]) = encF l ++ leB n := by simp [encF]
theorem toU8 (n : Nat) : ((n.toUInt8).toNat : Int) = (n : Int) % 256 := by
  have e : (n.toUInt8).toNat = n % 256 := by simp [Nat.toUInt8]
  rw [e]; omega

end Go.Proofs.YtdfbpaajkpnaeaaGreat

namespace Go.Proofs.YtdfbpaajkpnaeaaGreat
set_option maxRecDepth 100000
open Go.RowKit Go.Lib

/-- a number is taken: it, what is left, and did it go well? -/
def nV (bs : List UInt8) : Nat := match dec bs with | some (n, _) => n | none => 0
def nR (bs : List UInt8) : List UInt8 := match dec bs with | some (_, c) => bs.drop c | none => []
def nO (bs : List UInt8) : Bool := match dec bs with | some _ => true | none => false
theorem nV_lt (bs : List UInt8) : nV bs < 18446744073709551616 := by
  unfold nV
  split
  · next h => exact (dec_le h).2.2
  · omega
theorem nR_len (bs : List UInt8) : (nR bs).length ≤ bs.length := by
  unfold nR
  split
  · simp
  · simp
theorem rnum (base g : Nat) (bs : List UInt8) (f : Bool) (w : World) (h : RD w base g bs f) (hl : bs.length ≤ 900000000) :
    Calls Tryz.prog 68 #[.pointer (some ⟨g, 0, none⟩)] w fun e w' => e = .returned (.int .u64 (nV bs : Int)) ∧ To base g (nR bs) (f || !nO bs) w w' := by
  refine (rnum_any base g bs f w h hl).mono ?_
  rintro e w' (⟨n, c, hd, he, ht⟩ | ⟨hd, he, ht⟩)
  · simp only [nV, nR, nO, hd]
    exact ⟨he, by simpa using ht⟩
  · simp only [nV, nR, nO, hd]
    exact ⟨he, by simpa using ht⟩

theorem unfold_even {q : Int} (h0 : 0 ≤ q) (h : q % 2 = 0) : unfoldN q.toNat = q / 2 := by unfold unfoldN; rw [if_pos (by omega)]; omega
theorem unfold_odd {q : Int} (h0 : 0 ≤ q) (h : q % 2 = 1) : unfoldN q.toNat = -1 - q / 2 := by unfold unfoldN; rw [if_neg (by omega)]; omega
/-- a small number is taken -/
def sO (bs : List UInt8) (most : Nat) : Bool := nO bs && decide (nV bs ≤ most ∧ nV bs ≤ 2147483648)
def sV (bs : List UInt8) (most : Nat) : Nat := if nV bs ≤ most ∧ nV bs ≤ 2147483648 then nV bs else 0
def sR (bs : List UInt8) (most : Nat) : List UInt8 := if nV bs ≤ most ∧ nV bs ≤ 2147483648 then nR bs else []
theorem sR_len (bs : List UInt8) (m : Nat) : (sR bs m).length ≤ bs.length := by
  unfold sR
  split
  · exact nR_len bs
  · simp

/-- a text is taken -/
def tC (bs : List UInt8) : Bool := decide (sV bs 65536 ≤ (sR bs 65536).length)
def tO (bs : List UInt8) : Bool := sO bs 65536 && tC bs
def tV (bs : List UInt8) : List UInt8 := if sV bs 65536 ≤ (sR bs 65536).length then (sR bs 65536).take (sV bs 65536) else []
def tR (bs : List UInt8) : List UInt8 := if sV bs 65536 ≤ (sR bs 65536).length then (sR bs 65536).drop (sV bs 65536) else []
/-- a float is taken -/
def fO (bs : List UInt8) : Bool := decide (8 ≤ bs.length)
def fV (bs : List UInt8) : Nat := if 8 ≤ bs.length then spell (bs.take 8) else 0
def fR (bs : List UInt8) : List UInt8 := if 8 ≤ bs.length then bs.drop 8 else []
theorem spell_snoc : ∀ (l : List UInt8) (x : UInt8), spell (l ++ [x]) = spell l + x.toNat * 2 ^ (8 * l.length)
  | [], x => by simp [spell]
  | y :: r, x => by
    rw [List.cons_append, spell, spell_snoc r x, spell, List.length_cons, show 8 * (r.length + 1) = 8 * r.length + 8 by omega, Nat.pow_add, Nat.add_mul]
    rw [show x.toNat * (2 ^ (8 * r.length) * 2 ^ 8) = x.toNat * 2 ^ (8 * r.length) * 256 by rw [← Nat.mul_assoc]]
    omega
theorem spell_lt : ∀ l : List UInt8, spell l < 2 ^ (8 * l.length)
  | [] => by simp [spell]
  | x :: r => by
    rw [spell, List.length_cons, show 8 * (r.length + 1) = 8 * r.length + 8 by omega, Nat.pow_add]
    have := spell_lt r
    have := u8lt x
    omega
theorem join8 {k xn : Nat} {acc : Int} (ha : 0 ≤ acc) (hac : acc.toNat < 2 ^ (8 * k)) (hx : xn < 256) (hk : k ≤ 7) :
    bits .or .u64 acc (IntKind.u64.wrap ((xn : Int) * 2 ^ (8 * k))) = ((acc.toNat + xn * 2 ^ (8 * k) : Nat) : Int) := by
  have hp : (2 : Nat) ^ (8 * k) ≤ 2 ^ 56 := Nat.pow_le_pow_right (by omega) (by omega)
  have e56 : (2 : Nat) ^ 56 = 72057594037927936 := by decide
  have hb : xn * 2 ^ (8 * k) < 18446744073709551616 := by
    have := Nat.mul_le_mul (show xn ≤ 255 by omega) hp
    omega
  have e : (xn : Int) * 2 ^ (8 * k) = ((xn * 2 ^ (8 * k) : Nat) : Int) := by rw [Int.natCast_mul, ← pow_int]
  have e64' : (2 : Int) ^ 64 = 18446744073709551616 := by decide
  have hm : ((xn * 2 ^ (8 * k) : Nat) : Int) % 2 ^ (8 * k) = 0 := by
    rw [pow_int, ← Int.natCast_emod, Nat.mul_mod_left]; rfl
  rw [e, wraps_u64 _ (by omega) (by rw [e64']; omega)]
  rw [bits_join_low .u64 64 (by decide) wraps_u64 (8 * k) acc _ ha (by rw [pow_int]; omega) (by rw [e64']; omega) (by omega) hm (by rw [e64']; omega)]
  omega
end Go.Proofs.YtdfbpaajkpnaeaaGreat
