
/- Package slot, mathematics: what stands in a place, what counts, what comes next; canBe, placeOf. Package slot: standing, Read, Next. Package slot: Next, Write. -/
import Derived.Test.YtdfbpaajkpnaeaaGreatLgAM

namespace Go.Proofs.YtdfbpaajkpnaeaaGreat
set_option maxRecDepth 100000
open Go.RowKit Go.Lib

/-- are there two places of so many sectors? -/
def canB (d : Dk) (x s : Int) : Bool := decide (0 ≤ x ∧ 1 ≤ s ∧ s ≤ 255 ∧ x + 2 * s ≤ (d.base.length : Int))
theorem canB_iff {d : Dk} {x s : Int} : canB d x s = true ↔ 0 ≤ x ∧ 1 ≤ s ∧ s ≤ 255 ∧ x + 2 * s ≤ (d.base.length : Int) := by unfold canB; exact decide_eq_true_iff
/-- where a generation's place begins -/
def plc (n : Nat) (x s : Int) : Int := if n % 2 = 0 then x else x + s
/-- a content and its generation -/
structure Gen where
  b : List UInt8
  n : Nat
def Gen.none : Gen := ⟨[], 0⟩
/-- what stands in a place for the generations of this oddness -/
def Dk.stand (d : Dk) (p s : Int) (k : Nat) : Gen := if (d.read p (p + s)).e = 0 ∧ (d.read p (p + s)).n % 2 = k ∧ okB (d.read p (p + s)).b = true then ⟨cutB (d.read p (p + s)).b, (d.read p (p + s)).n⟩ else Gen.none
/-- the greater of both -/
def Dk.both (d : Dk) (x s : Int) : Gen := if (d.stand x s 0).n < (d.stand (x + s) s 1).n then d.stand (x + s) s 1 else d.stand x s 0
/-- what counts -/
def Dk.slot (d : Dk) (x s : Int) : Gen × Int := if canB d x s = true ∧ (d.both x s).n ≠ 0 then (d.both x s, 0) else (Gen.none, 111)
/-- the next generation, wherever the places can be -/
def Dk.nextG (d : Dk) (x s : Int) : Nat :=
  if (d.slot x s).2 = 0 ∧ ((topN d x (2 * s).toNat + 1) % 18446744073709551616) % 2 = (d.slot x s).1.n % 2 then ((topN d x (2 * s).toNat + 1) % 18446744073709551616 + 1) % 18446744073709551616
  else (topN d x (2 * s).toNat + 1) % 18446744073709551616
def Dk.next (d : Dk) (x s : Int) : Nat × Int := if canB d x s = true then (d.nextG x s, 0) else (0, 111)
theorem nextG_lt (d : Dk) (x s : Int) : d.nextG x s < 18446744073709551616 := by
  unfold Dk.nextG
  split <;> exact Nat.mod_lt _ (by decide)
theorem read_n_lt {d : Dk} (h : d.Ok) (x z : Int) : (d.read x z).n < 18446744073709551616 := by
  by_cases e : (d.read x z).e = 0
  · rw [(read_in e).2.2.2.2.2.2.1]
    exact stN_lt (at_len h x)
  · unfold Dk.read at *
    split
    · show 0 < _; omega
    · next hb =>
      rw [if_neg hb] at e
      unfold readL at *
      split
      · next k => rw [if_pos k] at e; exact absurd rfl e
      · show 0 < _; omega
theorem stand_n_lt {d : Dk} (h : d.Ok) (p s : Int) (k : Nat) : (d.stand p s k).n < 18446744073709551616 := by
  unfold Dk.stand
  split
  · exact read_n_lt h _ _
  · show 0 < _; omega
theorem stand_len (d : Dk) (p s : Int) (k : Nat) : (d.stand p s k).b.length ≤ 13515 := by
  unfold Dk.stand
  split
  · next h =>
    have := (read_in h.1).2.2.2.2.2.2.2.1
    show (cutB _).length ≤ _
    unfold cutB
    rw [List.length_take]
    omega
  · show 0 ≤ _; omega
theorem both_n_lt {d : Dk} (h : d.Ok) (x s : Int) : (d.both x s).n < 18446744073709551616 := by
  unfold Dk.both
  split <;> exact stand_n_lt h _ _ _
theorem both_len (d : Dk) (x s : Int) : (d.both x s).b.length ≤ 13515 := by
  unfold Dk.both
  split <;> exact stand_len _ _ _ _
theorem slot_n_lt {d : Dk} (h : d.Ok) (x s : Int) : (d.slot x s).1.n < 18446744073709551616 := by
  unfold Dk.slot
  split
  · exact both_n_lt h x s
  · show 0 < _; omega
theorem stand_par (d : Dk) (p s : Int) (k : Nat) : (d.stand p s k).n = 0 ∨ (d.stand p s k).n % 2 = k := by
  unfold Dk.stand
  split
  · next h => exact Or.inr h.2.1
  · exact Or.inl rfl
/-! the calls -/
theorem placeOf_any (n : Nat) (x s : Int) (w : World) (hx : 0 ≤ x ∧ 1 ≤ s ∧ s ≤ 255 ∧ x ≤ 2048) :
    Calls Tryz.prog 59 #[.int .u64 (n : Int), .int .i64 x, .int .i64 s] w fun e w' => e = .returned (.int .i64 (plc n x s)) ∧ w = w' := by
  obtain ⟨h0, h1, h2, h3⟩ := hx
  obtain ⟨p, hp⟩ : ∃ p, p = plc n x s := ⟨_, rfl⟩
  rw [← hp]
  by_cases hn : n % 2 = 0
  · have d0 : ((n : Int) % 2 == 0) = true := by simp; omega
    have e : p = x := by rw [hp]; unfold plc; rw [if_pos hn]
    subst e
    clear hp hn
    go_enter Tryz.func59, Tryz.ntmps59
    go_wp2
    go_ret
    exact ⟨rfl, rfl⟩
  · have d0 : ((n : Int) % 2 == 0) = false := by simp; omega
    have HP := Lib.hid (show p = x + s by rw [hp]; unfold plc; rw [if_neg hn])
    clear hp hn
    go_enter Tryz.func59, Tryz.ntmps59
    go_wp2
    go_ret
    exact ⟨by rw [HP.out]; rfl, rfl⟩
theorem canBe_any (g : Nat) (F : Nat → Prop) (d : Dk) (x s : Int) (w : World) (h : DAt w F g d) (hx : I x) (hs : I s) :
    Calls Tryz.prog 65 #[.pointer (some ⟨g, 0, none⟩), .int .i64 x, .int .i64 s] w fun e w' => e = .returned (.bool (canB d x s)) ∧ w = w' := by
  have hsz := h.ok.sz
  obtain ⟨N, hN⟩ : ∃ N, N = d.base.length := ⟨_, rfl⟩
  have HSZ := Lib.hid (size_at g F d w h)
  rw [← hN] at HSZ hsz
  obtain ⟨hx1, hx2⟩ := hx
  obtain ⟨hs1, hs2⟩ := hs
  by_cases c1 : 0 ≤ x
  · have d1 : decide (0 ≤ x) = true := by simpa using c1
    by_cases c2 : 1 ≤ s
    · have d2 : decide (1 ≤ s) = true := by simpa using c2
      by_cases c3 : s ≤ 255
      · have d3 : decide (s ≤ 255) = true := by simpa using c3
        have HE := Lib.hid (show canB d x s = decide (x ≤ (N : Int) - 2 * s) by
          unfold canB
          apply Bool.eq_iff_iff.2
          rw [decide_eq_true_iff, decide_eq_true_iff]
          omega)
        clear h hN
        go_enter Tryz.func65, Tryz.ntmps65
        go_wp2_with fail
        refine HSZ.out.mono ?_
        rintro _ _ ⟨rfl, rfl⟩
        go_wp2
        go_ret
        exact ⟨by rw [HE.out]; rfl, rfl⟩
      · have d3 : decide (s ≤ 255) = false := by simpa using c3
        have HE := Lib.hid (show canB d x s = false by unfold canB; rw [decide_eq_false]; omega)
        clear h hN
        go_enter Tryz.func65, Tryz.ntmps65
        go_wp2
        go_ret
        exact ⟨by rw [HE.out]; rfl, rfl⟩
    · have d2 : decide (1 ≤ s) = false := by simpa using c2
      have HE := Lib.hid (show canB d x s = false by unfold canB; rw [decide_eq_false]; omega)
      clear h hN
      go_enter Tryz.func65, Tryz.ntmps65
      go_wp2
      go_ret
      exact ⟨by rw [HE.out]; rfl, rfl⟩
  · have d1 : decide (0 ≤ x) = false := by simpa using c1
    have HE := Lib.hid (show canB d x s = false by unfold canB; rw [decide_eq_false]; omega)
    clear h hN
    go_enter Tryz.func65, Tryz.ntmps65
    go_wp2
    go_ret
    exact ⟨by rw [HE.out]; rfl, rfl⟩
end Go.Proofs.YtdfbpaajkpnaeaaGreat

namespace Go.Proofs.YtdfbpaajkpnaeaaGreat
set_option maxRecDepth 100000
open Go.RowKit Go.Lib

/-- a content and its generation, as standing answers them -/
def GenRes (G : Gen) (w : World) (e : Ending) (w' : World) : Prop := ∃ a c, e = .returned (.tuple #[.slice a G.b.length c, .int .u64 (G.n : Int)]) ∧ BAt w' a G.b ∧ G.b.length ≤ c ∧ (a = none → G.b = []) ∧ RowKit.Below w.heap.size w w'
theorem GenRes.no {w w' : World} (hb : RowKit.Below w.heap.size w w') : GenRes Gen.none w (.returned (.tuple #[.slice none 0 0, .int .u64 0])) w' := ⟨none, 0, rfl, Or.inl rfl, Nat.le_refl _, fun _ => rfl, hb⟩
set_option maxRecDepth 100000 in
set_option maxHeartbeats 800000 in
theorem sstand_any (g : Nat) (F : Nat → Prop) (d : Dk) (x s : Int) (k : Nat) (w : World) (h : DAt w F g d) (hr : 0 ≤ x ∧ 1 ≤ s ∧ s ≤ 255 ∧ x + 2 * s ≤ (d.base.length : Int)) (hk : k < 2) :
    Calls Tryz.prog 66 #[.pointer (some ⟨g, 0, none⟩), .int .i64 x, .int .i64 s, .int .u64 (k : Int)] w (GenRes (d.stand (plc k x s) s k) w) := by
  have hsz := h.ok.sz
  obtain ⟨h0, h1, h2, h3⟩ := hr
  have HPL := Lib.hid (fun (n : Nat) (W : World) => placeOf_any n x s W ⟨h0, h1, h2, by omega⟩)
  obtain ⟨p, hp⟩ : ∃ p, p = plc k x s := ⟨_, rfl⟩
  have hpr : 0 ≤ p ∧ p + s ≤ 2048 := by rw [hp]; unfold plc; split <;> omega
  have hpl : ∀ n : Nat, plc n x s = p ↔ n % 2 = k := fun n => by
    rw [hp, show plc n x s = if n % 2 = 0 then x else x + s from rfl, show plc k x s = if k % 2 = 0 then x else x + s from rfl]
    clear hpr hp HPL h
    split <;> split <;> omega
  have HNE := Lib.hid (fun (n : Nat) => show (plc n x s == p) = decide (n % 2 = k) by
    apply Bool.eq_iff_iff.2
    rw [decide_eq_true_iff, beq_iff_eq]
    exact hpl n)
  clear hpl
  have HPK := HPL.out k
  rw [← hp] at HPK ⊢
  have HPK := Lib.hid HPK
  have HRD := Lib.hid (read_any g F d p (p + s) w h (by unfold I; omega))
  have HL := Lib.hid (read_n_lt h.ok p (p + s))
  have HIN := Lib.hid (fun e => read_in (d := d) (x := p) (z := p + s) e)
  have HST := Lib.hid (show d.stand p s k = if (d.read p (p + s)).e = 0 ∧ (d.read p (p + s)).n % 2 = k ∧ okB (d.read p (p + s)).b = true then ⟨cutB (d.read p (p + s)).b, (d.read p (p + s)).n⟩ else Gen.none from rfl)
  obtain ⟨r, hrr⟩ : ∃ r, r = d.read p (p + s) := ⟨_, rfl⟩
  rw [← hrr] at HRD HL HIN HST
  obtain ⟨rb, rn, rm, re⟩ := r
  obtain ⟨p1, p2⟩ := hpr
  clear h hp hrr hsz h0 h2 h3
  have HKK := Lib.hid hk
  clear hk
  go_enter Tryz.func66, Tryz.ntmps66
  go_wp2_with fail
  refine (HPK.out _).mono ?_
  rintro _ _ ⟨rfl, rfl⟩
  go_wp2_with fail
  refine HRD.out.mono ?_
  rintro _ w1 ⟨a1, c1, rfl, hba, hlc, hnn, hb1⟩
  simp only at hba hlc hnn
  have HB1 := Lib.hid hb1
  have HBA := Lib.hid hba
  have HLC := Lib.hid hlc
  clear hb1 hba hlc hnn HRD
  by_cases he : re = 0
  · subst he
    obtain ⟨i1, i2, i3, i4, i5, i6, i7, i8, i10⟩ := HIN.out (by first | rfl | trivial)
    have HRB := Lib.hid i8
    have HNE1 := Lib.hid (HNE.out rn)
    clear i1 i2 i3 i4 i5 i6 i7 i8 i10 HIN HNE
    go_wp2_with fail
    refine (HPL.out rn _).mono ?_
    rintro _ _ ⟨rfl, rfl⟩
    obtain ⟨q, hq⟩ : ∃ q, q = plc rn x s := ⟨_, rfl⟩
    have hne := HNE1.out
    rw [← hq] at hne ⊢
    clear hq HNE1 HPL HPK
    by_cases hp : rn % 2 = k
    · rw [decide_eq_true hp] at hne
      have HPA := Lib.hid hp
      have HCO := Lib.hid (copen_any a1 rb rb.length c1 w1 HBA.out rfl HLC.out (by have := HRB.out; omega))
      clear hp
      go_wp2_with fail
      refine HCO.out.mono ?_
      rintro _ w2 (⟨ho, v, rfl, hob, hb2, _⟩ | ⟨ho, rfl, hb2⟩)
      · rw [if_pos ho] at hob
        obtain ⟨a2, c2, rfl, hba2, hlc2, _, hn2, _⟩ := hob.row
        have HG := Lib.hid (show GenRes (d.stand p s k) w (.returned (.tuple #[.slice a2 (cutB rb).length c2, .int .u64 (rn : Int)])) w2 by
          rw [HST.out, if_pos ⟨by first | rfl | trivial, HPA.out, ho⟩]
          exact ⟨a2, c2, rfl, hba2, hlc2, fun e => by have h1 := hn2 e; have h2 : (cutB rb).length ≤ c2 := hlc2; exact List.length_eq_zero_iff.1 (by show (cutB rb).length = 0; omega), HB1.out.trans (hb2.mono HB1.out.size)⟩)
        clear hob hba2 hlc2 hn2 hb2 ho HCO
        go_wp2
        go_ret2
        exact HG.out
      · have HG := Lib.hid (show GenRes (d.stand p s k) w (.returned (.tuple #[.slice none 0 0, .int .u64 0])) w2 by
          rw [HST.out, if_neg (fun e => by rw [show okB rb = true from e.2.2] at ho; cases ho)]
          exact GenRes.no (HB1.out.trans (hb2.mono HB1.out.size)))
        clear hb2 ho HCO
        go_wp2
        go_ret2
        exact HG.out
    · rw [decide_eq_false hp] at hne
      have HG := Lib.hid (show GenRes (d.stand p s k) w (.returned (.tuple #[.slice none 0 0, .int .u64 0])) w1 by
        rw [HST.out, if_neg (fun e => hp e.2.1)]
        exact GenRes.no HB1.out)
      clear hp
      go_wp2
      go_ret2
      exact HG.out
  · have d0 : (re == 0) = false := by simpa using he
    have HG := Lib.hid (show GenRes (d.stand p s k) w (.returned (.tuple #[.slice none 0 0, .int .u64 0])) w1 by
      rw [HST.out, if_neg (fun e => he e.1)]
      exact GenRes.no HB1.out)
    clear he
    go_wp2
    go_ret2
    exact HG.out
/-- what Read tells -/
def SlRes (r : Gen × Int) (w : World) (e : Ending) (w' : World) : Prop := ∃ a c, e = .returned (.tuple #[.slice a r.1.b.length c, .int .u64 (r.1.n : Int), .int .i64 r.2]) ∧ BAt w' a r.1.b ∧ r.1.b.length ≤ c ∧ (a = none → r.1.b = []) ∧ RowKit.Below w.heap.size w w'
theorem SlRes.no {w w' : World} (hb : RowKit.Below w.heap.size w w') : SlRes (Gen.none, 111) w (.returned (.tuple #[.slice none 0 0, .int .u64 0, .int .i64 111])) w' := ⟨none, 0, rfl, Or.inl rfl, Nat.le_refl _, fun _ => rfl, hb⟩
set_option maxRecDepth 100000 in
set_option maxHeartbeats 800000 in
theorem sread_any (g : Nat) (F : Nat → Prop) (d : Dk) (x s : Int) (w : World) (h : DAt w F g d) (hx : I x) (hs : I s) :
    Calls Tryz.prog 39 #[.pointer (some ⟨g, 0, none⟩), .int .i64 x, .int .i64 s] w (SlRes (d.slot x s) w) := by
  have HCB := Lib.hid (canBe_any g F d x s w h hx hs)
  cases hc : canB d x s with
  | false =>
    have HR := Lib.hid (show SlRes (d.slot x s) w (.returned (.tuple #[.slice none 0 0, .int .u64 0, .int .i64 111])) w by
      unfold Dk.slot
      rw [if_neg (fun e => by rw [hc] at e; cases e.1)]
      exact SlRes.no (RowKit.Below.refl _ _))
    rw [hc] at HCB
    clear h hx hs hc
    go_enter Tryz.func39, Tryz.ntmps39
    go_wp2_with fail
    refine HCB.out.mono ?_
    rintro _ _ ⟨rfl, rfl⟩
    go_wp2
    go_ret3
    exact HR.out
  | true =>
    have hr := canB_iff.1 hc
    rw [hc] at HCB
    have HS0 := Lib.hid (fun (W : World) (hb : RowKit.Below w.heap.size w W) => show Calls Tryz.prog 66 #[.pointer (some ⟨g, 0, none⟩), .int .i64 x, .int .i64 s, .int .u64 0] W (GenRes (d.stand x s 0) W) from sstand_any g F d x s 0 W (h.below hb) hr (by omega))
    have HS1 := Lib.hid (fun (W : World) (hb : RowKit.Below w.heap.size w W) => show Calls Tryz.prog 66 #[.pointer (some ⟨g, 0, none⟩), .int .i64 x, .int .i64 s, .int .u64 1] W (GenRes (d.stand (x + s) s 1) W) from sstand_any g F d x s 1 W (h.below hb) hr (by omega))
    obtain ⟨A, hA⟩ : ∃ A, A = d.stand x s 0 := ⟨_, rfl⟩
    obtain ⟨B, hB⟩ : ∃ B, B = d.stand (x + s) s 1 := ⟨_, rfl⟩
    have HBO := Lib.hid (show d.both x s = if A.n < B.n then B else A by rw [hA, hB]; rfl)
    have HSL := Lib.hid (show d.slot x s = if (d.both x s).n ≠ 0 then (d.both x s, 0) else (Gen.none, 111) by
      unfold Dk.slot
      rw [hc]
      by_cases e : (d.both x s).n ≠ 0
      · rw [if_pos ⟨rfl, e⟩, if_pos e]
      · rw [if_neg (fun q => e q.2), if_neg e])
    rw [← hA] at HS0
    rw [← hB] at HS1
    obtain ⟨Ab, An⟩ := A
    obtain ⟨Bb, Bn⟩ := B
    clear h hx hs hc hr hA hB
    go_enter Tryz.func39, Tryz.ntmps39
    go_wp2_with fail
    refine HCB.out.mono ?_
    rintro _ _ ⟨rfl, rfl⟩
    go_wp2_with fail
    refine (HS0.out _ (RowKit.Below.refl _ _)).mono ?_
    rintro _ w1 ⟨a1, c1, rfl, hba1, hlc1, hn1, hb1⟩
    have HB1 := Lib.hid hb1
    have HA1 := Lib.hid (And.intro hba1 (And.intro hlc1 hn1))
    clear hba1 hlc1 hn1 hb1 HS0 HCB
    go_wp2_with fail
    refine (HS1.out _ HB1.out).mono ?_
    rintro _ w2 ⟨a2, c2, rfl, hba2, hlc2, hn2, hb2⟩
    have HB2 := Lib.hid (HB1.out.trans (hb2.mono HB1.out.size))
    have HA2 := Lib.hid (And.intro hba2 (And.intro hlc2 hn2))
    have HA1 := Lib.hid (And.intro (HA1.out.1.below hb2) HA1.out.2)
    clear hba2 hlc2 hn2 hb2 HS1
    by_cases hlt : (An : Int) < (Bn : Int)
    · have d0 : ((Bn : Int) == 0) = false := by simp; omega
      have HR := Lib.hid (show SlRes (d.slot x s) w (.returned (.tuple #[.slice a2 Bb.length c2, .int .u64 (Bn : Int), .int .i64 0])) w2 by
        rw [HSL.out, HBO.out, if_pos (show (Gen.mk Ab An).n < (Gen.mk Bb Bn).n by show An < Bn; omega), if_pos (by show Bn ≠ 0; omega)]
        exact ⟨a2, c2, rfl, HA2.out.1, HA2.out.2.1, HA2.out.2.2, HB2.out⟩)
      go_wp2
      go_ret3
      exact HR.out
    · by_cases h0 : An = 0
      · subst h0
        have HR := Lib.hid (show SlRes (d.slot x s) w (.returned (.tuple #[.slice none 0 0, .int .u64 0, .int .i64 111])) w2 by
          rw [HSL.out, HBO.out, if_neg (show ¬ (Gen.mk Ab 0).n < (Gen.mk Bb Bn).n by show ¬ 0 < Bn; omega), if_neg (by show ¬ (0 ≠ 0); omega)]
          exact SlRes.no HB2.out)
        go_wp2
        go_ret3
        exact HR.out
      · have d0 : ((An : Int) == 0) = false := by simp; omega
        have HR := Lib.hid (show SlRes (d.slot x s) w (.returned (.tuple #[.slice a1 Ab.length c1, .int .u64 (An : Int), .int .i64 0])) w2 by
          rw [HSL.out, HBO.out, if_neg (show ¬ (Gen.mk Ab An).n < (Gen.mk Bb Bn).n by show ¬ An < Bn; omega), if_pos h0]
          exact ⟨a1, c1, rfl, HA1.out.1, HA1.out.2.1, HA1.out.2.2, HB2.out⟩)
        clear h0
        go_wp2
        go_ret3
        exact HR.out
end Go.Proofs.YtdfbpaajkpnaeaaGreat

namespace Go.Proofs.YtdfbpaajkpnaeaaGreat
set_option maxRecDepth 100000
open Go.RowKit Go.Lib

/-- what Next tells -/
def NxRes (r : Nat × Int) (w : World) (e : Ending) (w' : World) : Prop := e = .returned (.tuple #[.int .u64 (r.1 : Int), .int .i64 r.2]) ∧ RowKit.Below w.heap.size w w'
theorem tm2 (a b : Nat) : ((a : Int) % 2 == (b : Int) % 2) = decide (a % 2 = b % 2) := by
  apply Bool.eq_iff_iff.2
  rw [decide_eq_true_iff, beq_iff_eq]
  omega
set_option maxRecDepth 100000 in
set_option maxHeartbeats 800000 in
theorem snext_any (g : Nat) (F : Nat → Prop) (d : Dk) (x s : Int) (w : World) (h : DAt w F g d) (hx : I x) (hs : I s) :
    Calls Tryz.prog 57 #[.pointer (some ⟨g, 0, none⟩), .int .i64 x, .int .i64 s] w (NxRes (d.next x s) w) := by
  have HCB := Lib.hid (canBe_any g F d x s w h hx hs)
  cases hc : canB d x s with
  | false =>
    have HR := Lib.hid (show NxRes (d.next x s) w (.returned (.tuple #[.int .u64 0, .int .i64 111])) w by
      unfold Dk.next
      rw [hc]
      exact ⟨rfl, RowKit.Below.refl _ _⟩)
    rw [hc] at HCB
    clear h hx hs hc
    go_enter Tryz.func57, Tryz.ntmps57
    go_wp2_with fail
    refine HCB.out.mono ?_
    rintro _ _ ⟨rfl, rfl⟩
    go_wp2
    go_ret2
    exact HR.out
  | true =>
    obtain ⟨h0, h1, h2, h3⟩ := canB_iff.1 hc
    have hsz := h.ok.sz
    rw [hc] at HCB
    obtain ⟨t, ht⟩ : ∃ t, t = topN d x (2 * s).toNat := ⟨_, rfl⟩
    have htop : d.top x (x + 2 * s) = (t, 0) := by
      unfold Dk.top
      rw [if_neg (by omega), if_neg (by omega), ht, show x + 2 * s - x = 2 * s by omega]
    have HTP := Lib.hid (top_any g F d x (x + 2 * s) w h hx (by unfold I; omega))
    unfold TopRes at HTP
    rw [htop] at HTP
    have HRD := Lib.hid (fun (W : World) (hb : RowKit.Below w.heap.size w W) => sread_any g F d x s W (h.below hb) hx hs)
    have ht64 : t < 18446744073709551616 := by rw [ht]; exact topN_lt h.ok _ _
    obtain ⟨r, hr⟩ : ∃ r, r = d.slot x s := ⟨_, rfl⟩
    obtain ⟨T, hT⟩ : ∃ T, T = (t + 1) % 18446744073709551616 := ⟨_, rfl⟩
    obtain ⟨U, hU⟩ : ∃ U, U = (T + 1) % 18446744073709551616 := ⟨_, rfl⟩
    have HN := Lib.hid (show d.next x s = (if r.2 = 0 ∧ T % 2 = r.1.n % 2 then U else T, 0) by
      unfold Dk.next Dk.nextG
      rw [hc, if_pos rfl, ← hr, ← ht, ← hT, ← hU])
    have hw1 : IntKind.u64.wrap ((t : Int) + 1) = (T : Int) := by rw [IntKind.wrap_u64]; omega
    have HW2 := Lib.hid (show IntKind.u64.wrap ((T : Int) + 1) = (U : Int) by rw [IntKind.wrap_u64]; omega)
    have hT64 : T < 18446744073709551616 := by rw [hT]; exact Nat.mod_lt _ (by decide)
    rw [← hr] at HRD
    obtain ⟨⟨rb, rn⟩, re⟩ := r
    clear h hc ht htop hr hT hU ht64 hx hs
    have HTT := Lib.hid hT64
    go_enter Tryz.func57, Tryz.ntmps57
    go_wp2_with fail
    refine HCB.out.mono ?_
    rintro _ _ ⟨rfl, rfl⟩
    go_wp2_with fail
    refine HTP.out.mono ?_
    rintro _ w1 ⟨rfl, hb1⟩
    have HB1 := Lib.hid hb1
    clear hb1 HTP HCB
    go_wp2_with fail
    refine (HRD.out _ HB1.out).mono ?_
    rintro _ w2 ⟨a, c, rfl, _, _, _, hb2⟩
    have HB2 := Lib.hid (HB1.out.trans (hb2.mono HB1.out.size))
    clear hb2 HRD
    have htm := tm2 T rn
    by_cases he : re = 0
    · subst he
      by_cases hp : T % 2 = rn % 2
      · rw [decide_eq_true hp] at htm
        have HR := Lib.hid (show NxRes (d.next x s) w (.returned (.tuple #[.int .u64 (U : Int), .int .i64 0])) w2 by
          rw [HN.out, if_pos ⟨rfl, hp⟩]
          exact ⟨rfl, HB2.out⟩)
        have hw2 := HW2.out
        clear hp
        go_wp2
        go_ret2
        exact HR.out
      · rw [decide_eq_false hp] at htm
        have HR := Lib.hid (show NxRes (d.next x s) w (.returned (.tuple #[.int .u64 (T : Int), .int .i64 0])) w2 by
          rw [HN.out, if_neg (fun q => hp q.2)]
          exact ⟨rfl, HB2.out⟩)
        clear hp
        go_wp2
        go_ret2
        exact HR.out
    · have d0 : (re == 0) = false := by simpa using he
      have HR := Lib.hid (show NxRes (d.next x s) w (.returned (.tuple #[.int .u64 (T : Int), .int .i64 0])) w2 by
        rw [HN.out, if_neg (fun q => he q.1)]
        exact ⟨rfl, HB2.out⟩)
      clear he htm
      go_wp2
      go_ret2
      exact HR.out
/-- a write: the disk behind it, the generation, the error -/
def Dk.slotW (d : Dk) (x s : Int) (l : List UInt8) : Dk × Nat × Int :=
  if canB d x s = false then (d, 0, 111)
  else if spanN (l.length + 4) = 0 ∨ s < (spanN (l.length + 4) : Int) then (d, 0, 111)
  else if (d.write (plc (d.nextG x s) x s) (d.nextG x s) (closed l)).2 ≠ 0 then ((d.write (plc (d.nextG x s) x s) (d.nextG x s) (closed l)).1, 0, (d.write (plc (d.nextG x s) x s) (d.nextG x s) (closed l)).2)
  else if (d.write (plc (d.nextG x s) x s) (d.nextG x s) (closed l)).1.actE ≠ 0 then ((d.write (plc (d.nextG x s) x s) (d.nextG x s) (closed l)).1.flush, 0, (d.write (plc (d.nextG x s) x s) (d.nextG x s) (closed l)).1.actE)
  else ((d.write (plc (d.nextG x s) x s) (d.nextG x s) (closed l)).1.flush, d.nextG x s, 0)
theorem Did.trans {g : Nat} {F F1 : Nat → Prop} {d2 : Dk} {w w1 w2 : World} (ho : Only F w w1) (hf : ∀ i, F1 i → F i ∨ w.heap.size ≤ i) (h : Did g F1 d2 w1 w2) : Did g F d2 w w2 := by
  obtain ⟨F2, k1, k2, k3⟩ := h
  exact ⟨F2, k1, ho.trans k2 hf, fun i hi => (k3 i hi).elim (hf i) fun e => Or.inr (Nat.le_trans ho.size e)⟩
/-- what a write answers -/
def SwRes (g : Nat) (F : Nat → Prop) (r : Dk × Nat × Int) (w : World) (e : Ending) (w' : World) : Prop := e = .returned (.tuple #[.int .u64 (r.2.1 : Int), .int .i64 r.2.2]) ∧ Did g F r.1 w w'
theorem plc_in {n : Nat} {x s N : Int} (h0 : 0 ≤ x) (h1 : 1 ≤ s) (h2 : x + 2 * s ≤ N) : 0 ≤ plc n x s ∧ plc n x s + s ≤ N := by unfold plc; split <;> omega
set_option maxRecDepth 100000 in
set_option maxHeartbeats 800000 in
theorem swrite_any (g : Nat) (F : Nat → Prop) (d : Dk) (x s : Int) (l : List UInt8) (a : Option Addr) (len cap : Nat) (w : World) (h : DAt w F g d) (hx : I x) (hs : I s) (hb : BAt w a l) (hl : l.length = len) (ha : a = none → l = []) (hm : len ≤ 500000) (hq : d.queue.length < 9700) :
    Calls Tryz.prog 32 #[.pointer (some ⟨g, 0, none⟩), .int .i64 x, .int .i64 s, .slice a len cap] w (SwRes g F (d.slotW x s l) w) := by
  have HNX := Lib.hid (snext_any g F d x s w h hx hs)
  cases hc : canB d x s with
  | false =>
    have HR := Lib.hid (fun (w' : World) (hb : RowKit.Below w.heap.size w w') => show SwRes g F (d.slotW x s l) w (.returned (.tuple #[.int .u64 0, .int .i64 111])) w' by
      unfold Dk.slotW
      rw [if_pos hc]
      exact ⟨rfl, (Did.refl h).below hb⟩)
    have e : d.next x s = (0, 111) := by unfold Dk.next; rw [hc]; rfl
    rw [e] at HNX
    clear h hx hs hb hl ha hm hq hc e
    go_enter Tryz.func32, Tryz.ntmps32
    go_wp2_with fail
    refine HNX.out.mono ?_
    rintro _ w1 ⟨rfl, hb1⟩
    have HB1 := Lib.hid hb1
    clear hb1
    go_wp2
    go_ret2
    exact HR.out _ HB1.out
  | true =>
    obtain ⟨h0, h1, h2, h3⟩ := canB_iff.1 hc
    have hsz := h.ok.sz
    obtain ⟨n, hn⟩ : ∃ n, n = d.nextG x s := ⟨_, rfl⟩
    have e : d.next x s = (n, 0) := by unfold Dk.next; rw [hc, if_pos rfl, ← hn]
    rw [e] at HNX
    clear e
    obtain ⟨m, hmm⟩ : ∃ m, m = spanN (l.length + 4) := ⟨_, rfl⟩
    have hm255 : m ≤ 255 := by rw [hmm]; exact spanN_le _
    have hspan : spanI ((len : Int) + 4) = (m : Int) := by rw [hmm, hl, ← spanI_nat]; congr 1
    have HSP := Lib.hid (fun W => span_any ((len : Int) + 4) W)
    rw [hspan] at HSP
    have hSW : d.slotW x s l = if m = 0 ∨ s < (m : Int) then (d, 0, 111) else if (d.write (plc n x s) n (closed l)).2 ≠ 0 then ((d.write (plc n x s) n (closed l)).1, 0, (d.write (plc n x s) n (closed l)).2) else if (d.write (plc n x s) n (closed l)).1.actE ≠ 0 then ((d.write (plc n x s) n (closed l)).1.flush, 0, (d.write (plc n x s) n (closed l)).1.actE) else ((d.write (plc n x s) n (closed l)).1.flush, n, 0) := by
      unfold Dk.slotW
      rw [if_neg (by rw [hc]; exact Bool.noConfusion), ← hmm, ← hn]
    by_cases hcs : m = 0 ∨ s < (m : Int)
    · have HR := Lib.hid (fun (w' : World) (hb : RowKit.Below w.heap.size w w') => show SwRes g F (d.slotW x s l) w (.returned (.tuple #[.int .u64 0, .int .i64 111])) w' by
        rw [hSW, if_pos hcs]
        exact ⟨rfl, (Did.refl h).below hb⟩)
      clear h hb ha hq hc hn hmm hspan hSW hx hs hl
      rcases hcs with hz | hz
      · subst hz
        go_enter Tryz.func32, Tryz.ntmps32
        go_wp2_with fail
        refine HNX.out.mono ?_
        rintro _ w1 ⟨rfl, hb1⟩
        have HB1 := Lib.hid hb1
        clear hb1
        go_wp2_with fail
        refine (HSP.out _).mono ?_
        rintro _ _ ⟨rfl, rfl⟩
        go_wp2
        go_ret2
        exact HR.out _ HB1.out
      · have hz0 : ((m : Int) == 0) = false := by simp; omega
        have hz1 : decide (s < (m : Int)) = true := by simpa using hz
        clear hz
        go_enter Tryz.func32, Tryz.ntmps32
        go_wp2_with fail
        refine HNX.out.mono ?_
        rintro _ w1 ⟨rfl, hb1⟩
        have HB1 := Lib.hid hb1
        clear hb1
        go_wp2_with fail
        refine (HSP.out _).mono ?_
        rintro _ _ ⟨rfl, rfl⟩
        go_wp2
        go_ret2
        exact HR.out _ HB1.out
    · have hz0 : ((m : Int) == 0) = false := by simp; omega
      have hz1 : decide (s < (m : Int)) = false := by simp; omega
      rw [if_neg hcs] at hSW
      obtain ⟨C, hC⟩ : ∃ C, C = closed l := ⟨_, rfl⟩
      have hCl : C.length = len + 4 := by rw [hC, closed_len, hl]
      have hn64 : n < 18446744073709551616 := by rw [hn]; exact nextG_lt d x s
      have HPL := Lib.hid (fun W => placeOf_any n x s W ⟨h0, h1, h2, by omega⟩)
      obtain ⟨p, hp⟩ : ∃ p, p = plc n x s := ⟨_, rfl⟩
      have hpi : I p := by have := plc_in (n := n) h0 h1 h3; unfold I; omega
      obtain ⟨q, hqq⟩ : ∃ q, q = d.write p n C := ⟨_, rfl⟩
      obtain ⟨d1, E⟩ := q
      have HCL := Lib.hid (fun (W : World) (hW : RowKit.Below w.heap.size w W) => close_any a l len cap W (hb.below hW) hl ha hm)
      rw [show l ++ sealL l = C from hC.symm] at HCL
      have HWR := Lib.hid (fun (W : World) (hW : RowKit.Below w.heap.size w W) (a3 : Option Addr) (c3 : Nat) (k3 : BAt W a3 C) (hc : C.length ≤ c3) => write_any g F d p n C a3 C.length c3 W (h.below hW) hpi hn64 k3 rfl hc (by have := spanN_le C.length; omega))
      unfold WriteRes at HWR
      rw [← hC, ← hp, ← hqq] at hSW
      rw [← hqq] at HWR
      rw [← hp] at HPL
      simp only at HWR hSW
      have HSW := Lib.hid hSW
      clear h hb ha hq hc hn hmm hspan hSW hx hs hl hcs hp hqq hC hpi hn64 hCl
      go_enter Tryz.func32, Tryz.ntmps32
      go_wp2_with fail
      refine HNX.out.mono ?_
      rintro _ w1 ⟨rfl, hb1⟩
      have HB1 := Lib.hid hb1
      clear hb1
      go_wp2_with fail
      refine (HSP.out _).mono ?_
      rintro _ _ ⟨rfl, rfl⟩
      go_wp2_with fail
      refine (HPL.out _).mono ?_
      rintro _ _ ⟨rfl, rfl⟩
      go_wp2_with fail
      refine (HCL.out _ HB1.out).mono ?_
      rintro _ w2 ⟨v, rfl, hob, hb2, _⟩
      have HB2 := Lib.hid (HB1.out.trans (hb2.mono HB1.out.size))
      obtain ⟨a3, c3, rfl, hba, hlc, _, _, _⟩ := hob.row
      have HW3 := Lib.hid (HWR.out _ HB2.out a3 c3 hba hlc)
      clear hob hba hlc hb2 HWR HCL
      go_wp2_with fail
      refine HW3.out.mono ?_
      rintro _ w3 ⟨rfl, hdid⟩
      have HDID := Lib.hid (Did.pre HB2.out hdid)
      clear hdid HW3
      by_cases hE : E = 0
      · subst hE
        obtain ⟨F1, hd1, ho1, hf1⟩ := HDID.out
        have HO1 := Lib.hid (And.intro ho1 hf1)
        have HFL := Lib.hid (flush_any g F1 d1 w3 hd1)
        clear hd1 ho1 hf1 HDID
        go_wp2_with fail
        refine HFL.out.mono ?_
        rintro _ w4 ⟨rfl, hdid⟩
        have HD4 := Lib.hid (Did.trans HO1.out.1 HO1.out.2 hdid)
        clear hdid HFL
        obtain ⟨f, hf⟩ : ∃ f, f = d1.actE := ⟨_, rfl⟩
        rw [← hf]
        by_cases hf0 : f = 0
        · have HR := Lib.hid (show SwRes g F (d.slotW x s l) w (.returned (.tuple #[.int .u64 (n : Int), .int .i64 0])) w4 by
            rw [HSW.out, if_neg (by decide), if_neg (by rw [← hf]; exact fun e => e hf0)]
            exact ⟨rfl, HD4.out⟩)
          clear hf
          subst hf0
          go_wp2
          go_ret2
          exact HR.out
        · have HR := Lib.hid (show SwRes g F (d.slotW x s l) w (.returned (.tuple #[.int .u64 0, .int .i64 f])) w4 by
            rw [HSW.out, if_neg (by decide), if_pos (by rw [← hf]; exact hf0), ← hf]
            exact ⟨rfl, HD4.out⟩)
          have dd : (f == 0) = false := by simpa using hf0
          clear hf hf0
          go_wp2
          go_ret2
          exact HR.out
      · have HR := Lib.hid (show SwRes g F (d.slotW x s l) w (.returned (.tuple #[.int .u64 0, .int .i64 E])) w3 by
          rw [HSW.out, if_pos hE]
          exact ⟨rfl, HDID.out⟩)
        have dd : (E == 0) = false := by simpa using hE
        clear hE
        go_wp2
        go_ret2
        exact HR.out
end Go.Proofs.YtdfbpaajkpnaeaaGreat
