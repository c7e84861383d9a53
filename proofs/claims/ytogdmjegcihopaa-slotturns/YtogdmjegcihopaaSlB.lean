
/- Package slot: standing, Read, Next. -/
import Derived.Test.YtogdmjegcihopaaSlA
namespace Go.Proofs.Ytogdmjegcihopaa
set_option maxRecDepth 100000
open Go.RowKit Go.Lib

/-- a content and its generation, as standing answers them -/
def GenRes (G : Gen) (w : World) (e : Ending) (w' : World) : Prop := ∃ a c, e = .returned (.tuple #[.slice a G.b.length c, .int .u64 (G.n : Int)]) ∧ BAt w' a G.b ∧ G.b.length ≤ c ∧ (a = none → G.b = []) ∧ RowKit.Below w.heap.size w w'
theorem GenRes.no {w w' : World} (hb : RowKit.Below w.heap.size w w') : GenRes Gen.none w (.returned (.tuple #[.slice none 0 0, .int .u64 0])) w' := ⟨none, 0, rfl, Or.inl rfl, Nat.le_refl _, fun _ => rfl, hb⟩
set_option maxRecDepth 100000 in
set_option maxHeartbeats 800000 in
theorem sstand_any (g : Nat) (F : Nat → Prop) (d : Dk) (x s : Int) (k : Nat) (w : World) (h : DAt w F g d) (hr : 0 ≤ x ∧ 1 ≤ s ∧ s ≤ 255 ∧ x + 2 * s ≤ (d.base.length : Int)) (hk : k < 2) :
    Calls Try.prog 26 #[.pointer (some ⟨g, 0, none⟩), .int .i64 x, .int .i64 s, .int .u64 (k : Int)] w (GenRes (d.stand (plc k x s) s k) w) := by
  have hsz := h.ok.sz
  obtain ⟨h0, h1, h2, h3⟩ := hr
  have HPL := Lib.hid (fun (n : Nat) (W : World) => placeOf_any n x s W ⟨h0, h1, h2, by omega⟩)
  obtain ⟨p, hp⟩ : ∃ p, p = plc k x s := ⟨_, rfl⟩
  have hpr : 0 ≤ p ∧ p + s ≤ 2048 := by rw [hp]; unfold plc; split <;> omega
  have hpl : ∀ n : Nat, plc n x s = p ↔ n % 2 = k := fun n => by
    rw [hp, show plc n x s = if n % 2 = 0 then x else x + s from rfl, show plc k x s = if k % 2 = 0 then x else x + s from rfl]
    clear hpr hp HPL h
    split <;> split <;> omega
  have HNE := Lib.hid (fun (n : Nat) => show (plc n x s == p) = decide (n % 2 = k) by
    apply Bool.eq_iff_iff.2
    rw [decide_eq_true_iff, beq_iff_eq]
    exact hpl n)
  clear hpl
  have HPK := HPL.out k
  rw [← hp] at HPK ⊢
  have HPK := Lib.hid HPK
  have HRD := Lib.hid (read_any g F d p (p + s) w h (by unfold I; omega))
  have HL := Lib.hid (read_n_lt h.ok p (p + s))
  have HIN := Lib.hid (fun e => read_in (d := d) (x := p) (z := p + s) e)
  have HST := Lib.hid (show d.stand p s k = if (d.read p (p + s)).e = 0 ∧ (d.read p (p + s)).n % 2 = k ∧ okB (d.read p (p + s)).b = true then ⟨cutB (d.read p (p + s)).b, (d.read p (p + s)).n⟩ else Gen.none from rfl)
  obtain ⟨r, hrr⟩ : ∃ r, r = d.read p (p + s) := ⟨_, rfl⟩
  rw [← hrr] at HRD HL HIN HST
  obtain ⟨rb, rn, rm, re⟩ := r
  obtain ⟨p1, p2⟩ := hpr
  clear h hp hrr hsz h0 h2 h3
  have HKK := Lib.hid hk
  clear hk
  go_enter Try.func26, Try.ntmps26
  go_wp2_with fail
  refine (HPK.out _).mono ?_
  rintro _ _ ⟨rfl, rfl⟩
  go_wp2_with fail
  refine HRD.out.mono ?_
  rintro _ w1 ⟨a1, c1, rfl, hba, hlc, hnn, hb1⟩
  simp only at hba hlc hnn
  have HB1 := Lib.hid hb1
  have HBA := Lib.hid hba
  have HLC := Lib.hid hlc
  clear hb1 hba hlc hnn HRD
  by_cases he : re = 0
  · subst he
    obtain ⟨i1, i2, i3, i4, i5, i6, i7, i8, i10⟩ := HIN.out (by first | rfl | trivial)
    have HRB := Lib.hid i8
    have HNE1 := Lib.hid (HNE.out rn)
    clear i1 i2 i3 i4 i5 i6 i7 i8 i10 HIN HNE
    go_wp2_with fail
    refine (HPL.out rn _).mono ?_
    rintro _ _ ⟨rfl, rfl⟩
    obtain ⟨q, hq⟩ : ∃ q, q = plc rn x s := ⟨_, rfl⟩
    have hne := HNE1.out
    rw [← hq] at hne ⊢
    clear hq HNE1 HPL HPK
    by_cases hp : rn % 2 = k
    · rw [decide_eq_true hp] at hne
      have HPA := Lib.hid hp
      have HCO := Lib.hid (copen_any a1 rb rb.length c1 w1 HBA.out rfl HLC.out (by have := HRB.out; omega))
      clear hp
      go_wp2_with fail
      refine HCO.out.mono ?_
      rintro _ w2 (⟨ho, v, rfl, hob, hb2, _⟩ | ⟨ho, rfl, hb2⟩)
      · rw [if_pos ho] at hob
        obtain ⟨a2, c2, rfl, hba2, hlc2, _, hn2, _⟩ := hob.row
        have HG := Lib.hid (show GenRes (d.stand p s k) w (.returned (.tuple #[.slice a2 (cutB rb).length c2, .int .u64 (rn : Int)])) w2 by
          rw [HST.out, if_pos ⟨by first | rfl | trivial, HPA.out, ho⟩]
          exact ⟨a2, c2, rfl, hba2, hlc2, fun e => by have h1 := hn2 e; have h2 : (cutB rb).length ≤ c2 := hlc2; exact List.length_eq_zero_iff.1 (by show (cutB rb).length = 0; omega), HB1.out.trans (hb2.mono HB1.out.size)⟩)
        clear hob hba2 hlc2 hn2 hb2 ho HCO
        go_wp2
        go_ret2
        exact HG.out
      · have HG := Lib.hid (show GenRes (d.stand p s k) w (.returned (.tuple #[.slice none 0 0, .int .u64 0])) w2 by
          rw [HST.out, if_neg (fun e => by rw [show okB rb = true from e.2.2] at ho; cases ho)]
          exact GenRes.no (HB1.out.trans (hb2.mono HB1.out.size)))
        clear hb2 ho HCO
        go_wp2
        go_ret2
        exact HG.out
    · rw [decide_eq_false hp] at hne
      have HG := Lib.hid (show GenRes (d.stand p s k) w (.returned (.tuple #[.slice none 0 0, .int .u64 0])) w1 by
        rw [HST.out, if_neg (fun e => hp e.2.1)]
        exact GenRes.no HB1.out)
      clear hp
      go_wp2
      go_ret2
      exact HG.out
  · have d0 : (re == 0) = false := by simpa using he
    have HG := Lib.hid (show GenRes (d.stand p s k) w (.returned (.tuple #[.slice none 0 0, .int .u64 0])) w1 by
      rw [HST.out, if_neg (fun e => he e.1)]
      exact GenRes.no HB1.out)
    clear he
    go_wp2
    go_ret2
    exact HG.out
/-- what Read tells -/
def SlRes (r : Gen × Int) (w : World) (e : Ending) (w' : World) : Prop := ∃ a c, e = .returned (.tuple #[.slice a r.1.b.length c, .int .u64 (r.1.n : Int), .int .i64 r.2]) ∧ BAt w' a r.1.b ∧ r.1.b.length ≤ c ∧ (a = none → r.1.b = []) ∧ RowKit.Below w.heap.size w w'
theorem SlRes.no {w w' : World} (hb : RowKit.Below w.heap.size w w') : SlRes (Gen.none, 111) w (.returned (.tuple #[.slice none 0 0, .int .u64 0, .int .i64 111])) w' := ⟨none, 0, rfl, Or.inl rfl, Nat.le_refl _, fun _ => rfl, hb⟩
set_option maxRecDepth 100000 in
set_option maxHeartbeats 800000 in
theorem sread_any (g : Nat) (F : Nat → Prop) (d : Dk) (x s : Int) (w : World) (h : DAt w F g d) (hx : I x) (hs : I s) :
    Calls Try.prog 8 #[.pointer (some ⟨g, 0, none⟩), .int .i64 x, .int .i64 s] w (SlRes (d.slot x s) w) := by
  have HCB := Lib.hid (canBe_any g F d x s w h hx hs)
  cases hc : canB d x s with
  | false =>
    have HR := Lib.hid (show SlRes (d.slot x s) w (.returned (.tuple #[.slice none 0 0, .int .u64 0, .int .i64 111])) w by
      unfold Dk.slot
      rw [if_neg (fun e => by rw [hc] at e; cases e.1)]
      exact SlRes.no (RowKit.Below.refl _ _))
    rw [hc] at HCB
    clear h hx hs hc
    go_enter Try.func8, Try.ntmps8
    go_wp2_with fail
    refine HCB.out.mono ?_
    rintro _ _ ⟨rfl, rfl⟩
    go_wp2
    go_ret3
    exact HR.out
  | true =>
    have hr := canB_iff.1 hc
    rw [hc] at HCB
    have HS0 := Lib.hid (fun (W : World) (hb : RowKit.Below w.heap.size w W) => show Calls Try.prog 26 #[.pointer (some ⟨g, 0, none⟩), .int .i64 x, .int .i64 s, .int .u64 0] W (GenRes (d.stand x s 0) W) from sstand_any g F d x s 0 W (h.below hb) hr (by omega))
    have HS1 := Lib.hid (fun (W : World) (hb : RowKit.Below w.heap.size w W) => show Calls Try.prog 26 #[.pointer (some ⟨g, 0, none⟩), .int .i64 x, .int .i64 s, .int .u64 1] W (GenRes (d.stand (x + s) s 1) W) from sstand_any g F d x s 1 W (h.below hb) hr (by omega))
    obtain ⟨A, hA⟩ : ∃ A, A = d.stand x s 0 := ⟨_, rfl⟩
    obtain ⟨B, hB⟩ : ∃ B, B = d.stand (x + s) s 1 := ⟨_, rfl⟩
    have HBO := Lib.hid (show d.both x s = if A.n < B.n then B else A by rw [hA, hB]; rfl)
    have HSL := Lib.hid (show d.slot x s = if (d.both x s).n ≠ 0 then (d.both x s, 0) else (Gen.none, 111) by
      unfold Dk.slot
      rw [hc]
      by_cases e : (d.both x s).n ≠ 0
      · rw [if_pos ⟨rfl, e⟩, if_pos e]
      · rw [if_neg (fun q => e q.2), if_neg e])
    rw [← hA] at HS0
    rw [← hB] at HS1
    obtain ⟨Ab, An⟩ := A
    obtain ⟨Bb, Bn⟩ := B
    clear h hx hs hc hr hA hB
    go_enter Try.func8, Try.ntmps8
    go_wp2_with fail
    refine HCB.out.mono ?_
    rintro _ _ ⟨rfl, rfl⟩
    go_wp2_with fail
    refine (HS0.out _ (RowKit.Below.refl _ _)).mono ?_
    rintro _ w1 ⟨a1, c1, rfl, hba1, hlc1, hn1, hb1⟩
    have HB1 := Lib.hid hb1
    have HA1 := Lib.hid (And.intro hba1 (And.intro hlc1 hn1))
    clear hba1 hlc1 hn1 hb1 HS0 HCB
    go_wp2_with fail
    refine (HS1.out _ HB1.out).mono ?_
    rintro _ w2 ⟨a2, c2, rfl, hba2, hlc2, hn2, hb2⟩
    have HB2 := Lib.hid (HB1.out.trans (hb2.mono HB1.out.size))
    have HA2 := Lib.hid (And.intro hba2 (And.intro hlc2 hn2))
    have HA1 := Lib.hid (And.intro (HA1.out.1.below hb2) HA1.out.2)
    clear hba2 hlc2 hn2 hb2 HS1
    by_cases hlt : (An : Int) < (Bn : Int)
    · have d0 : ((Bn : Int) == 0) = false := by simp; omega
      have HR := Lib.hid (show SlRes (d.slot x s) w (.returned (.tuple #[.slice a2 Bb.length c2, .int .u64 (Bn : Int), .int .i64 0])) w2 by
        rw [HSL.out, HBO.out, if_pos (show (Gen.mk Ab An).n < (Gen.mk Bb Bn).n by show An < Bn; omega), if_pos (by show Bn ≠ 0; omega)]
        exact ⟨a2, c2, rfl, HA2.out.1, HA2.out.2.1, HA2.out.2.2, HB2.out⟩)
      go_wp2
      go_ret3
      exact HR.out
    · by_cases h0 : An = 0
      · subst h0
        have HR := Lib.hid (show SlRes (d.slot x s) w (.returned (.tuple #[.slice none 0 0, .int .u64 0, .int .i64 111])) w2 by
          rw [HSL.out, HBO.out, if_neg (show ¬ (Gen.mk Ab 0).n < (Gen.mk Bb Bn).n by show ¬ 0 < Bn; omega), if_neg (by show ¬ (0 ≠ 0); omega)]
          exact SlRes.no HB2.out)
        go_wp2
        go_ret3
        exact HR.out
      · have d0 : ((An : Int) == 0) = false := by simp; omega
        have HR := Lib.hid (show SlRes (d.slot x s) w (.returned (.tuple #[.slice a1 Ab.length c1, .int .u64 (An : Int), .int .i64 0])) w2 by
          rw [HSL.out, HBO.out, if_neg (show ¬ (Gen.mk Ab An).n < (Gen.mk Bb Bn).n by show ¬ An < Bn; omega), if_pos h0]
          exact ⟨a1, c1, rfl, HA1.out.1, HA1.out.2.1, HA1.out.2.2, HB2.out⟩)
        clear h0
        go_wp2
        go_ret3
        exact HR.out
end Go.Proofs.Ytogdmjegcihopaa
