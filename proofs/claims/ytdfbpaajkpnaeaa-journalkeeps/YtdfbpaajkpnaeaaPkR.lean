
/- Package pack: a reader. -/
import Derived.Test.YtdfbpaajkpnaeaaPkP
namespace Go.Proofs.Ytdfbpaajkpnaeaa
set_option maxRecDepth 100000
open Go.RowKit Go.Lib

/-- a reader lies in block g (from base on, like its bytes): bs are left; has it failed? -/
def RDa (w : World) (base g : Nat) (A : Option Addr) (cap : Nat) (bs : List UInt8) (f : Bool) : Prop :=
  w.cell? ⟨g, 0, none⟩ = some (.slice A bs.length cap) ∧ w.cell? ⟨g, 1, none⟩ = some (.bool f) ∧ w.frozen? ⟨g, 0, none⟩ = false ∧ w.frozen? ⟨g, 1, none⟩ = false ∧ g < w.heap.size ∧ base ≤ g ∧ bs.length ≤ cap ∧ BAt w A bs ∧ ¬ inBlk A g ∧ (∀ k, inBlk A k → base ≤ k) ∧ (A = none → bs = [])
def RD (w : World) (base g : Nat) (bs : List UInt8) (f : Bool) : Prop := ∃ A cap, RDa w base g A cap bs f
theorem RDa.grown {w w' : World} {base g : Nat} {A : Option Addr} {cap : Nat} {bs : List UInt8} {f : Bool} {row : Option Nat} (h : RDa w base g A cap bs f) (hg : w.grownBy w' row) (hr : ∀ k, row = some k → k < base) : RDa w' base g A cap bs f := by
  obtain ⟨h1, h2, h3, h4, h5, h6, h7, h8, h9, h10, h11⟩ := h
  have hb : w'.heap[g]? = w.heap[g]? := hg.block g h5 (fun e => by have := hr g e.symm; omega)
  refine ⟨hg.cell h1 (fun e => by have := hr g e.symm; omega), hg.cell h2 (fun e => by have := hr g e.symm; omega), by rw [World.frozen?_of_block (w := w) hb]; exact h3, by rw [World.frozen?_of_block (w := w) hb]; exact h4, Nat.lt_of_lt_of_le h5 hg.size, h6, h7, h8.grown hg (Or.inr fun k hk e => ?_), h9, h10, h11⟩
  have := h10 k e
  have := hr k hk
  omega
theorem RD.grown {w w' : World} {base g : Nat} {bs : List UInt8} {f : Bool} {row : Option Nat} (h : RD w base g bs f) (hg : w.grownBy w' row) (hr : ∀ k, row = some k → k < base) : RD w' base g bs f := by
  obtain ⟨A, cap, h⟩ := h
  exact ⟨A, cap, h.grown hg hr⟩
theorem grown_of_below {a w : World} (h : RowKit.Below a.heap.size a w) (row : Option Nat) : a.grownBy w row := ⟨h.os, h.tape, h.output, h.size, fun i hi _ => h.block i hi⟩
theorem RD.below {w w' : World} {base g : Nat} {bs : List UInt8} {f : Bool} (h : RD w base g bs f) (hg : RowKit.Below w.heap.size w w') : RD w' base g bs f :=
  h.grown (grown_of_below hg none) (fun _ e => by cases e)
theorem grown_set (w : World) (g i : Nat) (v : Value) : w.grownBy (w.setCell ⟨g, i, none⟩ v) (some g) :=
  ⟨rfl, rfl, rfl, by simp [World.setCell], fun k _ hne => Below.heap_setCell _ _ _ _ (fun e => hne (by rw [e]))⟩
theorem grown_trans {a b c : World} {row : Option Nat} (h : a.grownBy b row) (k : b.grownBy c row) : a.grownBy c row :=
  ⟨k.os.trans h.os, k.tape.trans h.tape, k.output.trans h.output, Nat.le_trans h.size k.size, fun i hi hne => (k.block i (Nat.lt_of_lt_of_le hi h.size) hne).trans (h.block i hi hne)⟩
/-- the reader at g is now so, and nothing else has turned -/
def To (base g : Nat) (bs : List UInt8) (f : Bool) (w w' : World) : Prop := RD w' base g bs f ∧ w.grownBy w' (some g)
theorem To.trans {base g : Nat} {bs cs : List UInt8} {f h : Bool} {a b c : World} (x : To base g bs f a b) (y : To base g cs h b c) : To base g cs h a c := ⟨y.1, grown_trans x.2 y.2⟩
theorem To.below {base g : Nat} {bs : List UInt8} {f : Bool} {a b : World} {w0 : World} {B : Nat} (x : To base g bs f a b) (hB : RowKit.Below B w0 a) (h1 : B ≤ a.heap.size) (h2 : B ≤ base) : RowKit.Below B w0 b :=
  hB.grown x.2 h1 (fun k e => by injection e with e; subst e; obtain ⟨_, _, _, _, _, _, _, h, _⟩ := x.1; omega)

/-- bytes that were there before the reader -/
theorem RD.apart {w0 w w' : World} {base g : Nat} {cs : List UInt8} {f : Bool} {a : Option Addr} {l : List UInt8} (h : To base g cs f w w') (hb : BAt w a l) (h0 : BAt w0 a l) (hs : w0.heap.size ≤ base) : BAt w' a l := by
  rcases h0 with e | ⟨b, off, rfl, hlt, _⟩
  · exact Or.inl e
  · exact hb.grown h.2 (Or.inr fun k e x => by
      injection e with e
      subst e
      obtain ⟨p, hp, hq⟩ := x
      injection hp with hp
      subst hp
      obtain ⟨_, _, _, _, _, _, _, h6, _⟩ := h.1
      have : b = g := hq
      omega)
set_option maxHeartbeats 400000 in
theorem fail_any (base g : Nat) (bs : List UInt8) (f : Bool) (w : World) (h : RD w base g bs f) : Calls Try.prog 52 #[.pointer (some ⟨g, 0, none⟩)] w fun e w' => e = .returned (.tuple #[]) ∧ To base g [] true w w' := by
  obtain ⟨A, cap, h1, h2, h3, h4, h5, h6, _⟩ := h
  have hk : RD ((w.setCell ⟨g, 0, none⟩ (.slice none 0 0)).setCell ⟨g, 1, none⟩ (.bool true)) base g [] true :=
    ⟨none, 0, by simp [go_sem, h1], by simp [go_sem, h2], by simpa [go_sem] using h3, by simpa [go_sem] using h4, by simpa using h5, h6, Nat.le_refl _, Or.inl rfl, (fun e => by obtain ⟨_, e, _⟩ := e; cases e), (fun k e => by obtain ⟨_, e, _⟩ := e; cases e), fun _ => rfl⟩
  have HT := Lib.hid (show To base g [] true w _ from ⟨hk, grown_trans (grown_set w g 0 _) (grown_set _ g 1 _)⟩)
  clear hk
  go_enter Try.func52, Try.ntmps52
  go_wp2
  go_end0
  exact ⟨rfl, HT.out⟩

theorem len_of {w : World} {base g : Nat} {A : Option Addr} {cap : Nat} {bs : List UInt8} {f : Bool} (h : RDa w base g A cap bs f) : w.cell? ⟨g, 0, none⟩ = some (.slice A bs.length cap) := h.1
/-- nothing is left, and it hasn't failed -/
def endB (bs : List UInt8) (f : Bool) : Bool := !f && bs.isEmpty
theorem RDa.drop {w : World} {base g : Nat} {A : Option Addr} {cap : Nat} {bs : List UInt8} {f : Bool} (h : RDa w base g A cap bs f) {k : Nat} (hk : k ≤ bs.length) : RDa (w.setCell ⟨g, 0, none⟩ (.slice (cutA A cap k) (bs.length - k) (cap - k))) base g (cutA A cap k) (cap - k) (bs.drop k) f := by
  obtain ⟨h1, h2, h3, h4, h5, h6, h7, h8, h9, h10, h11⟩ := h
  refine ⟨by rw [List.length_drop]; simp [go_sem, h1], by simp [go_sem, h2], by simpa [go_sem] using h3, by simpa [go_sem] using h4, by simpa using h5, h6, by rw [List.length_drop]; omega, ?_, fun e => h9 (cutA_blk e), fun k e => h10 k (cutA_blk e), ?_⟩
  · exact (h8.drop hk h7).grown (grown_set w g 0 _) (Or.inr fun k e x => by injection e with e; subst e; exact h9 (cutA_blk x))
  · intro e
    have : A = none := by
      unfold cutA at e
      split at e
      · exact e
      · cases A <;> simp at e; rfl
    rw [h11 this]; simp
theorem RDa.bytes {w : World} {base g : Nat} {A : Option Addr} {cap : Nat} {bs : List UInt8} {f : Bool} (h : RDa w base g A cap bs f) (k : Nat) (v : Value) : BAt (w.setCell ⟨g, 0, none⟩ v) A (bs.take k) := by
  obtain ⟨h1, h2, h3, h4, h5, h6, h7, h8, h9, h10, h11⟩ := h
  exact (h8.take k).grown (grown_set w g 0 _) (Or.inr fun k e x => by injection e with e; subst e; exact h9 x)
/-- what take answers -/
def Took (base g : Nat) (bs : List UInt8) (f : Bool) (k : Nat) (w : World) (e : Ending) (w' : World) : Prop :=
  ∃ A cap, e = .returned (.slice A k cap) ∧ BAt w' A (bs.take k) ∧ k ≤ cap ∧ ¬ inBlk A g ∧ (A = none → bs.take k = []) ∧ To base g (bs.drop k) f w w'
set_option maxHeartbeats 400000 in
theorem take_yes (base g : Nat) (bs : List UInt8) (f : Bool) (k : Nat) (w : World) (h : RD w base g bs f) (hk : k ≤ bs.length) :
    Calls Try.prog 53 #[.pointer (some ⟨g, 0, none⟩), .int .i64 (k : Int)] w (Took base g bs f k w) := by
  obtain ⟨A, cap, h⟩ := h
  have H := Lib.hid h
  obtain ⟨h1, h2, h3, h4, h5, h6, h7, h8, h9, h10, h11⟩ := h
  have r1 := run_from A bs.length cap k hk
  have r2 := run_to A bs.length cap k (by omega)
  clear h2 h8 h9 h10 h11
  have d : decide ((bs.length : Int) < (k : Int)) = false := by simp; omega
  have d2 : decide (bs.length < k) = false := by simp; omega
  go_enter Try.func53, Try.ntmps53
  go_wp2
  go_ret
  exact ⟨A, cap, rfl, H.out.bytes k _, by omega, H.out.2.2.2.2.2.2.2.2.1, (fun e => by rw [H.out.2.2.2.2.2.2.2.2.2.2 e]; simp), ⟨_, _, H.out.drop hk⟩, grown_set _ _ _ _⟩
set_option maxHeartbeats 400000 in
theorem take_no (base g : Nat) (bs : List UInt8) (f : Bool) (k : Nat) (w : World) (h : RD w base g bs f) (hk : bs.length < k) :
    Calls Try.prog 53 #[.pointer (some ⟨g, 0, none⟩), .int .i64 (k : Int)] w fun e w' => e = .returned (.slice none 0 0) ∧ To base g [] true w w' := by
  have H := Lib.hid h
  obtain ⟨A, cap, h1, _⟩ := h
  have d2 : decide (bs.length < k) = true := by simp; omega
  go_enter Try.func53, Try.ntmps53
  go_wp2_with fail
  refine (fail_any base g bs f _ H.out).mono ?_
  rintro _ w1 ⟨rfl, ht⟩
  have HT := Lib.hid ht
  clear ht h1
  go_wp2
  go_ret
  exact ⟨rfl, HT.out⟩

/-- what New answers -/
def News (l : List UInt8) (w : World) (e : Ending) (w' : World) : Prop := ∃ g, e = .returned (.pointer (some ⟨g, 0, none⟩)) ∧ RD w' w.heap.size g l false ∧ RowKit.Below w.heap.size w w'
set_option maxHeartbeats 400000 in
theorem new_any (a : Option Addr) (l : List UInt8) (n c : Nat) (w : World) (hb : BAt w a l) (hn : l.length = n) (hl : l.length ≤ 900000000) (hnil : a = none → l = []) : Calls Try.prog 35 #[.slice a n c] w (News l w) := by
  have C := Lib.hid (clone_any a l n c w hb hn hl hnil)
  clear hb hn hl hnil
  go_enter Try.func35, Try.ntmps35
  go_wp2_with fail
  refine C.out.mono ?_
  rintro _ w1 ⟨v1, rfl, ho1, hb1, _⟩
  obtain ⟨a1, c1, hv1, r1, r2, r3, r4, r5⟩ := ho1.row
  have HO := Lib.hid ho1
  have HB := Lib.hid hb1
  have HR := Lib.hid (show BAt w1 a1 l ∧ l.length ≤ c1 ∧ (a1 = none → c1 = 0) ∧ ∀ g, inBlk a1 g → v1.ownBlock = some g from ⟨r1, r2, r4, fun g e => (r5 g).mp e⟩)
  subst hv1
  clear ho1 hb1 C r1 r2 r3 r4 r5
  go_wp2
  go_ret
  refine ⟨_, rfl, ⟨a1, c1, by simp [go_sem], by simp [go_sem], by simp [go_sem], by simp [go_sem], by simp, HB.out.size, HR.out.2.1, HR.out.1.below ((RowKit.Below.refl _ _).alloc (Nat.le_refl _) _), fun e => ?_, fun k e => (HO.out.own k (HR.out.2.2.2 k e)).1, fun e => ?_⟩, HB.out.alloc HB.out.size _⟩
  · have := (HO.out.own _ (HR.out.2.2.2 _ e)).2
    omega
  · have := HR.out.2.2.1 e
    have := HR.out.2.1
    exact List.eq_nil_of_length_eq_zero (by omega)
end Go.Proofs.Ytdfbpaajkpnaeaa
