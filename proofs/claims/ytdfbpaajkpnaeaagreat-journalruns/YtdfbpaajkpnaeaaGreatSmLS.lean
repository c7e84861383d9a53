
/- falseworklaw09: stampAlive. falseworklaw09.StampBack, mathematics. What the arguments are: deeds. falseworklaw09: what came in: two numbers, acts. falseworklaw09: great. -/
import Derived.Test.YtdfbpaajkpnaeaaGreatSmKQ
import Derived.Test.YtdfbpaajkpnaeaaGreatCame
import Derived.Laws.IdiomArrays
import Derived.Test.YtdfbpaajkpnaeaaGreatDkX
import Derived.Deep.Slices
import Derived.Lib.SmallJoins
import Derived.Test.YtdfbpaajkpnaeaaGreatSmR

namespace Go.Proofs.YtdfbpaajkpnaeaaGreat
set_option maxRecDepth 100000
open Go.RowKit Go.Lib

/-- as many zeros -/
def zeroB (n : Nat) : Obj := .cells (madeCells #[.int .u8 0] n) 5
theorem zeroB_get (n j : Nat) (h : j < n) : (madeCells #[Value.int .u8 0] n)[j]? = some (.int .u8 0) := by
  unfold madeCells
  simp [h, Nat.mod_one]
theorem zeroB_at (n : Nat) (w : World) : BAt (w.alloc (zeroB n)) (some ⟨w.heap.size, 0, none⟩) (List.replicate n 0) := by
  have hb : (w.alloc (zeroB n)).heap[w.heap.size]? = some (.cells (madeCells #[.int .u8 0] n) 5) := heap_alloc_new w _
  refine Or.inr ⟨w.heap.size, 0, rfl, by simp, fun i hi => ?_⟩
  rw [List.length_replicate] at hi
  rw [Nat.zero_add, cell_of_row _ w.heap.size i _ 5 (0, 0) hb, zeroB_get n i hi]
  simp [List.getD, hi]
theorem mk_bytes (n : Nat) (hn : n ≤ 1000000) (w : World) : (Instr.makeSlice 23 (.int .i64 (n : Int)) (.int .i64 (n : Int))).run Tryz.prog w = .ok (.slice (some ⟨w.heap.size, 0, none⟩) n n) (w.alloc (zeroB n)) := by
  obtain ⟨i, hi, hz, h1, h8⟩ := info8
  have h := Go.run_make (P := Tryz.prog) w 23 5 i (.int .u8 0) Tryz.underlying23 hi hz .i64 .i64 n n (by omega) (Int.le_refl _) (by rw [h8]; omega) (by omega)
  rw [h1, Nat.mul_one, Int.toNat_natCast] at h
  exact h
def z54 : List UInt8 := List.replicate 54 0
theorem z54_len : z54.length = 54 := List.length_replicate
theorem span54 : spanN z54.length = 2 := by rw [z54_len]; rfl
def dA : Dk := { Dk.blank 4 with queue := (Dk.blank 4).queue ++ qsOf 1 (secs 7 z54) }
theorem dA_base : dA.base.length = 4 := rfl
theorem wA : (Dk.blank 4).write 1 7 z54 = (dA, 0) := write_up (Up.blank 4) (by omega) (by rw [z54_len]; omega) (by omega) (by rw [span54]; decide)
theorem rA : dA.read 1 4 = ⟨z54, 7, 2, 0⟩ := by
  have h := written_read (d := Dk.blank 4) (x := 1) (z := 4) (n := 7) (l := z54) (by rw [z54_len]; omega) (by omega) (by omega) (by omega) (by rw [span54]; omega) (by decide)
  rw [span54] at h
  exact h
end Go.Proofs.YtdfbpaajkpnaeaaGreat

namespace Go.Proofs.YtdfbpaajkpnaeaaGreat
set_option maxRecDepth 100000
open Go.RowKit Go.Lib

theorem blank_at (n y : Int) : (Dk.blank n).at_ y = zsec := by
  unfold Dk.at_
  split
  · next h =>
    unfold Dk.blank at *
    simp only [List.length_replicate] at h
    simp only [ofQ_nil, List.getLast?_nil, Option.getD_none, List.getD_eq_getElem?_getD]
    rw [List.getElem?_replicate, if_pos (by omega)]
    rfl
  · rfl
/-- the disk on which n and l were written at 1 -/
def dB (n : Nat) (l : List UInt8) : Dk := { Dk.blank ((spanN l.length : Int) + 2) with queue := (Dk.blank ((spanN l.length : Int) + 2)).queue ++ qsOf 1 (secs n l) }
theorem dB_base (n : Nat) (l : List UInt8) : (dB n l).base.length = spanN l.length + 2 := by
  have := spanN_le l.length
  unfold dB Dk.blank
  simp only [List.length_replicate]
  unfold blankN
  omega
theorem dB_up (n : Nat) (l : List UInt8) : Up (dB n l) := ⟨rfl, rfl⟩
theorem dB_blank (l : List UInt8) : ((Dk.blank ((spanN l.length : Int) + 2)).base.length : Int) = (spanN l.length : Int) + 2 := by
  have := spanN_le l.length
  unfold Dk.blank
  simp only [List.length_replicate]
  unfold blankN
  omega
theorem wB {n : Nat} {l : List UInt8} (hn : n ≠ 0) (hl : l.length ≤ 2000) : (Dk.blank ((spanN l.length : Int) + 2)).write 1 n l = (dB n l, 0) := by
  unfold dB
  exact write_up (Up.blank _) hn (by omega) (by omega) (by rw [dB_blank]; omega)
theorem rB {n : Nat} {l : List UInt8} (hn : n ≠ 0) (hn2 : n < 18446744073709551616) (hl : l.length ≤ 2000) : (dB n l).read 1 ((spanN l.length : Int) + 1) = ⟨l, n, spanN l.length, 0⟩ := by
  unfold dB
  exact written_read (d := Dk.blank ((spanN l.length : Int) + 2)) (by omega) hn hn2 (by omega) (by omega) (by rw [dB_blank]; omega)
theorem sB (n : Nat) (l : List UInt8) : Stand (dB n l) 1 n l := by
  unfold dB
  exact Stand.written (d := Dk.blank ((spanN l.length : Int) + 2)) (by omega) (by rw [dB_blank]; omega)
theorem at_B {n : Nat} {l : List UInt8} {t : Int} (h : 1 ≤ t ∧ t ≤ (spanN l.length : Int)) : (dB n l).at_ t = secOf n l (t - 1).toNat := by
  have := sB n l (t - 1).toNat (by omega)
  rw [show (1 : Int) + (((t - 1).toNat : Nat) : Int) = t by omega] at this
  exact this
theorem readL_nil : readL [] = Rd.none 91 := if_neg (fun h => h.1 rfl)
theorem rB1 {n : Nat} {l : List UInt8} (hl : l.length ≤ 2000) : (dB n l).read 1 (spanN l.length : Int) = Rd.none 91 := by
  have hs := spanN_pos (n := l.length) (by omega)
  have hst : (dB n l).stands 1 (spanN l.length : Int) = [] := by
    unfold Dk.stands
    split
    · rfl
    · next h =>
      have h0 := sB n l 0 (by omega)
      rw [show (1 : Int) + ((0 : Nat) : Int) = 1 by omega] at h0
      rw [h0, many_sec, if_pos (by omega)]
  unfold Dk.read
  rw [dB_base, if_neg (by omega), hst, readL_nil]
theorem head_sec {n : Nat} {l : List UInt8} {i : Nat} : (secOf n l i).getD 0 0 = UInt8.ofNat i := by simp [secOf, mkS]
theorem readL_other {L : List Sec} (hL : L.headD [] = [] ∨ (L.headD []).getD 0 0 ≠ 0) : readL L = Rd.none 91 := by
  unfold readL
  rw [if_neg]
  rintro ⟨h1, h2⟩
  have hg := gat_le L
  generalize gat L = b at *
  generalize stN (L.headD []) = n at *
  unfold layL at h2
  split at h2
  · exact h1 h2
  · by_cases hb : b.length ≤ 13515
    · have hh := secs_head (n := n) hb
      rw [← h2] at hh
      rw [hh] at hL
      rcases hL with hL | hL
      · have := secOf_len n b 0
        rw [hL] at this
        simp at this
      · exact hL (by rw [head_sec]; rfl)
    · have : (secs n b).length = 0 := by rw [secs_length]; unfold spanN; rw [if_neg hb]
      rw [← h2] at this
      exact h1 (List.eq_nil_of_length_eq_zero this)
theorem rB2 {n : Nat} {l : List UInt8} (hl : l.length ≤ 2000) : (dB n l).read 2 ((spanN l.length : Int) + 2) = Rd.none 91 := by
  have hs := spanN_pos (n := l.length) (by omega)
  have hle : spanN l.length ≤ 200 := by unfold spanN; split <;> omega
  unfold Dk.read
  rw [dB_base, if_neg (by omega)]
  apply readL_other
  unfold Dk.stands
  rw [if_neg (by omega)]
  by_cases h1 : spanN l.length = 1
  · have hz : (dB n l).at_ 2 = zsec := by
      have := at_qs (d := Dk.blank ((spanN l.length : Int) + 2)) (L := secs n l) (x := 1) (by omega) (by rw [secs_length, dB_blank]; omega) 2
      rw [secs_length, if_neg (by omega)] at this
      unfold dB
      rw [this]
      exact blank_at _ _
    left
    rw [hz, show manyAt zsec = 0 from rfl, if_neg (by omega)]
    rfl
  · have h0 : (dB n l).at_ 2 = secOf n l 1 := at_B (n := n) (l := l) (t := 2) (by omega)
    right
    rw [h0, many_sec, if_neg (by omega)]
    obtain ⟨m, hm⟩ : ∃ m, spanN l.length = m + 1 := ⟨spanN l.length - 1, by omega⟩
    have : (Dk.secsAt (dB n l) 2 (spanN l.length)).headD [] = secOf n l 1 := by
      rw [hm]
      simp only [Dk.secsAt, List.range_succ_eq_map, List.map_cons, List.headD_cons]
      exact h0
    rw [this, head_sec]
    decide
/-- one byte turned -/
def turnS (s : Sec) (k : Nat) : Sec := s.set k (s.getD k 0 + 1)
theorem turnS_len {s : Sec} {k : Nat} (h : s.length = 64) : (turnS s k).length = 64 := by unfold turnS; rw [List.length_set, h]
theorem turnS_ne {s : Sec} {k : Nat} (h : s.length = 64) (hk : k < 64) : turnS s k ≠ s := fun e => by
  have h1 : (turnS s k).getD k 0 = s.getD k 0 + 1 := by unfold turnS; rw [List.getD, List.getElem?_set_self (by omega)]; rfl
  rw [e] at h1
  have h2 := congrArg UInt8.toNat h1
  rw [UInt8.toNat_add] at h2
  have := (s.getD k 0).toNat_lt
  have h3 : (1 : UInt8).toNat = 1 := rfl
  omega
theorem turned_read {n : Nat} {l : List UInt8} {t : Int} (ht : 1 ≤ t ∧ t ≤ (spanN l.length : Int)) {s : Sec} (hs : s ≠ secOf n l (t - 1).toNat) :
    (((dB n l).put t s).read 1 ((spanN l.length : Int) + 1)).e ≠ 0 ∨ (((dB n l).put t s).read 1 ((spanN l.length : Int) + 1)).b ≠ l ∨ (((dB n l).put t s).read 1 ((spanN l.length : Int) + 1)).n ≠ n := by
  have hb := dB_base n l
  have hput : (dB n l).put t s = { dB n l with queue := (dB n l).queue ++ qsOf t [s] } := by
    rw [(dB_up n l).put (by omega)]; rfl
  have hat : ((dB n l).put t s).at_ t = s := by
    rw [hput, at_qs (by omega) (by simp; omega), if_pos (by simp; omega), Int.sub_self]
    rfl
  have hbp : ((dB n l).put t s).base.length = spanN l.length + 2 := by rw [put_base, hb]
  apply Classical.byContradiction
  intro hno
  have hno := not_or.1 hno
  obtain ⟨h1, h23⟩ := hno
  obtain ⟨h2, h3⟩ := not_or.1 h23
  have h1 := Classical.not_not.1 h1
  have h2 := Classical.not_not.1 h2
  have h3 := Classical.not_not.1 h3
  unfold Dk.read at h1 h2 h3
  rw [hbp, if_neg (by omega)] at h1 h2 h3
  obtain ⟨k1, k2, k3⟩ := readL_ok h1
  rw [k3] at h2 h3
  simp only at h2 h3
  rw [h2, h3] at k2
  have hlay : layL n l = secs n l := by
    unfold layL
    split
    · next e => unfold layL at k2; rw [if_pos e] at k2; exact absurd k2 k1
    · rfl
  rw [hlay] at k2
  have hlen := congrArg List.length k2
  rw [secs_length] at hlen
  have hst : ((dB n l).put t s).stands 1 ((spanN l.length : Int) + 1) = ((dB n l).put t s).secsAt 1 (spanN l.length) := by
    have e : ((dB n l).put t s).stands 1 ((spanN l.length : Int) + 1) = ((dB n l).put t s).secsAt 1 (manyAt (((dB n l).put t s).at_ 1)) := by
      unfold Dk.stands at *
      split
      · next h => rw [if_pos h] at k1; exact absurd rfl k1
      · next h =>
        split
        · next h' => rw [if_neg h, if_pos h'] at k1; exact absurd rfl k1
        · rfl
    rw [e, secsAt_length] at hlen
    rw [e, hlen]
  rw [hst] at k2
  have hi : (t - 1).toNat < spanN l.length := by omega
  have g1 := secsAt_get (d := (dB n l).put t s) (x := 1) hi
  rw [k2, secs_get hi, show (1 : Int) + (((t - 1).toNat : Nat) : Int) = t by omega, hat] at g1
  exact hs (Option.some.inj g1).symm
/-! the disk, and what lies below it -/
structure DW (w0 w : World) (F : Nat → Prop) (g : Nat) (d : Dk) : Prop where
  dt : DAt w F g d
  fr : ∀ i, F i → w0.heap.size ≤ i
  bl : RowKit.Below w0.heap.size w0 w
theorem DW.next {w0 w w' : World} {F : Nat → Prop} {g : Nat} {d d' : Dk} (h : DW w0 w F g d) (hd : Did g F d' w w') : ∃ F', DW w0 w' F' g d' := by
  obtain ⟨F', h1, h2, h3⟩ := hd
  exact ⟨F', h1, fun i hi => (h3 i hi).elim (h.fr i) fun e => Nat.le_trans h.bl.size e, h2.below h.bl h.fr h.bl.size⟩
theorem DW.below {w0 w w' : World} {F : Nat → Prop} {g : Nat} {d : Dk} (h : DW w0 w F g d) (hb : RowKit.Below w.heap.size w w') : DW w0 w' F g d :=
  ⟨h.dt.below hb, h.fr, h.bl.trans (hb.mono h.bl.size)⟩
theorem DW.out {a w0 w : World} {F : Nat → Prop} {g : Nat} {d : Dk} (h : DW w0 w F g d) (hb : RowKit.Below a.heap.size a w0) : RowKit.Below a.heap.size a w := hb.trans (h.bl.mono hb.size)
end Go.Proofs.YtdfbpaajkpnaeaaGreat

namespace Go.Proofs.YtdfbpaajkpnaeaaGreat
set_option maxRecDepth 100000
open Go.ChangeShapes Go.WideShapes Go.ChangeAt Go.RowKit

/-- a deed: of which kind, a number, a byte, how many bytes come in -/
structure Dd where
  kind : Int
  n : Int
  paint : UInt8
  ka : Option Addr
  kn : Nat
  kc : Nat
  keep : List Int
instance : Inhabited Dd := ⟨⟨0, 0, 0, none, 0, 0, []⟩⟩
def dcs (x : Dd) : List Value := [.int .i64 x.kind, .int .i64 x.n, .int .u8 (x.paint.toNat : Int), .slice x.ka x.kn x.kc]
theorem dcs_cs (x : Dd) : Cs 4 (dcs x) := ⟨rfl, fun u hu => by
  simp [dcs] at hu
  rcases hu with rfl | rfl | rfl | rfl <;> rfl⟩
structure Dd.Good (w : World) (x : Dd) : Prop where
  kp : Nums w x.ka x.keep
  kl : x.keep.length = x.kn
  ik : I x.kind
  ii : I x.n
structure CameD (w : World) (a : Option Addr) (len : Nat) (l : List Dd) : Prop where
  li : Lie w a (l.flatMap dcs)
  ln : l.length = len
  gd : ∀ x ∈ l, x.Good w
theorem fitI {n : Int} (h : (Lit.int .i64 n).wf = true) : I n := by
  simp [Lit.wf] at h
  have h1 : IntKind.i64.min = -9223372036854775808 := by decide
  have h2 : IntKind.i64.max = 9223372036854775807 := by decide
  unfold I; omega
section
variable {H : Type} {enc : TypeId × Value → H} {w : World} {base : Nat} {held : Bool}
theorem nums_came {a : Option Addr} {len cap : Nat} {x : DataW H} {p : List MemPlace} (h : DataW.Trod enc Tryz.prog w base (fun _ => true) held 45 (.slice a len cap) x p) : ∃ l : List Int, Nums w a l ∧ l.length = len ∧ ∀ n ∈ l, I n := by
  obtain ⟨l, hc, hw⟩ := ints_came Tryz.underlying45 Tryz.underlying3 (by kernel_rfl) h
  refine ⟨l, ?_, hc.ln, fun n hn => fitI (hw n hn)⟩
  rcases hc.row with e | ⟨b, off, ha, hb, hr⟩
  · exact Or.inl (by rw [e]; rfl)
  · refine Or.inr ⟨b, off, ha, hb, fun j v hv => ?_⟩
    rw [List.getElem?_map] at hv
    cases hx : l[j]? with
    | none => rw [hx] at hv; cases hv
    | some y => rw [hx] at hv; cases hv; exact hr j y hx
theorem trod_slice_form {t e : TypeId} (ht : Tryz.prog.underlying t = some (.slice e)) {fuel : Nat} {v : Value} {y : DataW H × List MemPlace} (h : DataW.trod enc Tryz.prog w base (fun _ => true) held fuel t [v] = some y) : ∃ a n c, v = .slice a n c := by
  rcases Deep.open_slice ht h with ⟨e1, _⟩ | ⟨a, len, cap, _, _, _, _, e1, _⟩
  · exact ⟨none, 0, 0, by simpa using e1⟩
  · exact ⟨some a, len, cap, by simpa using e1⟩
end
end Go.Proofs.YtdfbpaajkpnaeaaGreat

namespace Go.Proofs.YtdfbpaajkpnaeaaGreat
set_option maxRecDepth 100000
open Go.ChangeShapes Go.WideShapes Go.ChangeAt Go.RowKit Go.Lib

/-- an act: of which kind, where, a stamp, bytes, how many bytes come in -/
structure Ac where
  kind : Int
  at_ : Int
  st : Nat
  ba : Option Addr
  bn : Nat
  bc : Nat
  bs : List UInt8
  ka : Option Addr
  kn : Nat
  kc : Nat
  keep : List Int
instance : Inhabited Ac := ⟨⟨0, 0, 0, none, 0, 0, [], none, 0, 0, []⟩⟩
def acs (x : Ac) : List Value := [.int .i64 x.kind, .int .i64 x.at_, .int .u64 (x.st : Int), .slice x.ba x.bn x.bc, .slice x.ka x.kn x.kc]
theorem acs_cs (x : Ac) : Cs 5 (acs x) := ⟨rfl, fun u hu => by
  simp [acs] at hu
  rcases hu with rfl | rfl | rfl | rfl | rfl <;> rfl⟩
def zA : List Value := [.int .i64 0, .int .i64 0, .int .u64 0, .slice none 0 0, .slice none 0 0]
structure Ac.Good (w : World) (x : Ac) : Prop where
  bp : CameB w x.ba x.bn x.bc x.bs
  kp : Nums w x.ka x.keep
  kl : x.keep.length = x.kn
  ik : I x.kind
  ii : I x.at_
  sl : x.st < 18446744073709551616
structure CameA (w : World) (a : Option Addr) (len : Nat) (l : List Ac) : Prop where
  li : Lie w a (l.flatMap acs)
  ln : l.length = len
  gd : ∀ x ∈ l, x.Good w
theorem u64_wf {n : Int} (h : (Lit.int .u64 n).wf = true) : 0 ≤ n ∧ n < 18446744073709551616 := by
  have e1 : IntKind.u64.min = 0 := by decide
  have e2 : IntKind.u64.max = 18446744073709551615 := by decide
  simp [Lit.wf, e1, e2] at h
  omega
section
variable {H : Type} {enc : TypeId × Value → H} {w : World} {base : Nat} {spare : Nat → Bool} {held : Bool}
theorem open_i2 {r : Reach} {b0 : Nat} {v : Value} {x : DataW H} {p : List MemPlace} (hv : Value.okWide Tryz.prog w r b0 22 v) (h : DataW.Trod enc Tryz.prog w base spare held 22 v x p) :
    ∃ y m : Int, v = .agg #[.int .i64 y, .int .i64 m] ∧ I y ∧ I m := by
  simp only [Value.okWide, Tryz.underlying22] at hv
  obtain ⟨cs, rfl, hsz, _⟩ := hv
  obtain ⟨c0, c1, rfl⟩ := Joins.array2 (hsz.trans (show Tryz.prog.cellsOf 22 = 2 by kernel_rfl))
  obtain ⟨fuel, hf⟩ := h
  obtain ⟨xs, m, _, hx, hl, hn, hget⟩ := DataW.trod_array Tryz.underlying22 hf
  have g0 := hget 0 (by omega)
  have g1 := hget 1 (by omega)
  obtain ⟨y0, e0⟩ : ∃ y, xs[0]? = some y := ⟨xs[0], List.getElem?_eq_getElem (by omega)⟩
  obtain ⟨y1, e1⟩ : ∃ y, xs[1]? = some y := ⟨xs[1], List.getElem?_eq_getElem (by omega)⟩
  rw [e0] at g0
  rw [e1] at g1
  obtain ⟨x, hx0, _, w0⟩ := DataW.trod_int Tryz.underlying3 g0
  obtain ⟨y, hy0, _, w1⟩ := DataW.trod_int Tryz.underlying3 g1
  have hE : Tryz.prog.cellsOf 3 = 1 := by kernel_rfl
  simp [Value.cells, hE] at hx0 hy0
  exact ⟨x, y, by rw [hx0, hy0], fitI w0, fitI w1⟩
end
end Go.Proofs.YtdfbpaajkpnaeaaGreat

namespace Go.Proofs.YtdfbpaajkpnaeaaGreat
set_option maxRecDepth 100000
open Go.RowKit Go.Lib

def Small (l : List Ac) : Prop := l.length ≤ 40 ∧ ∀ x ∈ l, x.bn ≤ 1000 ∧ x.kn ≤ 400
/-- an act in a new block -/
structure AcAt (w : World) (b : Nat) (x : Ac) : Prop where
  c0 : w.cell? ⟨b, 0, none⟩ = some (.int .i64 x.kind)
  c1 : w.cell? ⟨b, 1, none⟩ = some (.int .i64 x.at_)
  c2 : w.cell? ⟨b, 2, none⟩ = some (.int .u64 (x.st : Int))
  c3 : w.cell? ⟨b, 3, none⟩ = some (.slice x.ba x.bn x.bc)
  c4 : w.cell? ⟨b, 4, none⟩ = some (.slice x.ka x.kn x.kc)
  lt : b < w.heap.size
theorem AcAt.below {w w' : World} {b : Nat} {x : Ac} (h : AcAt w b x) (hb : RowKit.Below w.heap.size w w') : AcAt w' b x :=
  ⟨cell_bl h.c0 hb, cell_bl h.c1 hb, cell_bl h.c2 hb, cell_bl h.c3 hb, cell_bl h.c4 hb, Nat.lt_of_lt_of_le h.lt hb.size⟩
end Go.Proofs.YtdfbpaajkpnaeaaGreat
