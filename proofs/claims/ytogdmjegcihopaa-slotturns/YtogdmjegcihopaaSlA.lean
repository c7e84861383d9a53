
/- Package slot, mathematics: what stands in a place, what counts, what comes next; canBe, placeOf. -/
import Derived.Test.YtogdmjegcihopaaLgAM
namespace Go.Proofs.Ytogdmjegcihopaa
set_option maxRecDepth 100000
open Go.RowKit Go.Lib

/-- are there two places of so many sectors? -/
def canB (d : Dk) (x s : Int) : Bool := decide (0 ≤ x ∧ 1 ≤ s ∧ s ≤ 255 ∧ x + 2 * s ≤ (d.base.length : Int))
theorem canB_iff {d : Dk} {x s : Int} : canB d x s = true ↔ 0 ≤ x ∧ 1 ≤ s ∧ s ≤ 255 ∧ x + 2 * s ≤ (d.base.length : Int) := by unfold canB; exact decide_eq_true_iff
/-- where a generation's place begins -/
def plc (n : Nat) (x s : Int) : Int := if n % 2 = 0 then x else x + s
/-- a content and its generation -/
structure Gen where
  b : List UInt8
  n : Nat
def Gen.none : Gen := ⟨[], 0⟩
/-- what stands in a place for the generations of this oddness -/
def Dk.stand (d : Dk) (p s : Int) (k : Nat) : Gen := if (d.read p (p + s)).e = 0 ∧ (d.read p (p + s)).n % 2 = k ∧ okB (d.read p (p + s)).b = true then ⟨cutB (d.read p (p + s)).b, (d.read p (p + s)).n⟩ else Gen.none
/-- the greater of both -/
def Dk.both (d : Dk) (x s : Int) : Gen := if (d.stand x s 0).n < (d.stand (x + s) s 1).n then d.stand (x + s) s 1 else d.stand x s 0
/-- what counts -/
def Dk.slot (d : Dk) (x s : Int) : Gen × Int := if canB d x s = true ∧ (d.both x s).n ≠ 0 then (d.both x s, 0) else (Gen.none, 111)
/-- the next generation, wherever the places can be -/
def Dk.nextG (d : Dk) (x s : Int) : Nat :=
  if (d.slot x s).2 = 0 ∧ ((topN d x (2 * s).toNat + 1) % 18446744073709551616) % 2 = (d.slot x s).1.n % 2 then ((topN d x (2 * s).toNat + 1) % 18446744073709551616 + 1) % 18446744073709551616
  else (topN d x (2 * s).toNat + 1) % 18446744073709551616
def Dk.next (d : Dk) (x s : Int) : Nat × Int := if canB d x s = true then (d.nextG x s, 0) else (0, 111)
theorem nextG_lt (d : Dk) (x s : Int) : d.nextG x s < 18446744073709551616 := by
  unfold Dk.nextG
  split <;> exact Nat.mod_lt _ (by decide)
theorem read_n_lt {d : Dk} (h : d.Ok) (x z : Int) : (d.read x z).n < 18446744073709551616 := by
  by_cases e : (d.read x z).e = 0
  · rw [(read_in e).2.2.2.2.2.2.1]
    exact stN_lt (at_len h x)
  · unfold Dk.read at *
    split
    · show 0 < _; omega
    · next hb =>
      rw [if_neg hb] at e
      unfold readL at *
      split
      · next k => rw [if_pos k] at e; exact absurd rfl e
      · show 0 < _; omega
theorem stand_n_lt {d : Dk} (h : d.Ok) (p s : Int) (k : Nat) : (d.stand p s k).n < 18446744073709551616 := by
  unfold Dk.stand
  split
  · exact read_n_lt h _ _
  · show 0 < _; omega
theorem stand_len (d : Dk) (p s : Int) (k : Nat) : (d.stand p s k).b.length ≤ 13515 := by
  unfold Dk.stand
  split
  · next h =>
    have := (read_in h.1).2.2.2.2.2.2.2.1
    show (cutB _).length ≤ _
    unfold cutB
    rw [List.length_take]
    omega
  · show 0 ≤ _; omega
theorem both_n_lt {d : Dk} (h : d.Ok) (x s : Int) : (d.both x s).n < 18446744073709551616 := by
  unfold Dk.both
  split <;> exact stand_n_lt h _ _ _
theorem both_len (d : Dk) (x s : Int) : (d.both x s).b.length ≤ 13515 := by
  unfold Dk.both
  split <;> exact stand_len _ _ _ _
theorem slot_n_lt {d : Dk} (h : d.Ok) (x s : Int) : (d.slot x s).1.n < 18446744073709551616 := by
  unfold Dk.slot
  split
  · exact both_n_lt h x s
  · show 0 < _; omega
theorem stand_par (d : Dk) (p s : Int) (k : Nat) : (d.stand p s k).n = 0 ∨ (d.stand p s k).n % 2 = k := by
  unfold Dk.stand
  split
  · next h => exact Or.inr h.2.1
  · exact Or.inl rfl
/-! the calls -/
theorem placeOf_any (n : Nat) (x s : Int) (w : World) (hx : 0 ≤ x ∧ 1 ≤ s ∧ s ≤ 255 ∧ x ≤ 2048) :
    Calls Try.prog 28 #[.int .u64 (n : Int), .int .i64 x, .int .i64 s] w fun e w' => e = .returned (.int .i64 (plc n x s)) ∧ w = w' := by
  obtain ⟨h0, h1, h2, h3⟩ := hx
  obtain ⟨p, hp⟩ : ∃ p, p = plc n x s := ⟨_, rfl⟩
  rw [← hp]
  by_cases hn : n % 2 = 0
  · have d0 : ((n : Int) % 2 == 0) = true := by simp; omega
    have e : p = x := by rw [hp]; unfold plc; rw [if_pos hn]
    subst e
    clear hp hn
    go_enter Try.func28, Try.ntmps28
    go_wp2
    go_ret
    exact ⟨rfl, rfl⟩
  · have d0 : ((n : Int) % 2 == 0) = false := by simp; omega
    have HP := Lib.hid (show p = x + s by rw [hp]; unfold plc; rw [if_neg hn])
    clear hp hn
    go_enter Try.func28, Try.ntmps28
    go_wp2
    go_ret
    exact ⟨by rw [HP.out]; rfl, rfl⟩
theorem canBe_any (g : Nat) (F : Nat → Prop) (d : Dk) (x s : Int) (w : World) (h : DAt w F g d) (hx : I x) (hs : I s) :
    Calls Try.prog 25 #[.pointer (some ⟨g, 0, none⟩), .int .i64 x, .int .i64 s] w fun e w' => e = .returned (.bool (canB d x s)) ∧ w = w' := by
  have hsz := h.ok.sz
  obtain ⟨N, hN⟩ : ∃ N, N = d.base.length := ⟨_, rfl⟩
  have HSZ := Lib.hid (size_at g F d w h)
  rw [← hN] at HSZ hsz
  obtain ⟨hx1, hx2⟩ := hx
  obtain ⟨hs1, hs2⟩ := hs
  by_cases c1 : 0 ≤ x
  · have d1 : decide (0 ≤ x) = true := by simpa using c1
    by_cases c2 : 1 ≤ s
    · have d2 : decide (1 ≤ s) = true := by simpa using c2
      by_cases c3 : s ≤ 255
      · have d3 : decide (s ≤ 255) = true := by simpa using c3
        have HE := Lib.hid (show canB d x s = decide (x ≤ (N : Int) - 2 * s) by
          unfold canB
          apply Bool.eq_iff_iff.2
          rw [decide_eq_true_iff, decide_eq_true_iff]
          omega)
        clear h hN
        go_enter Try.func25, Try.ntmps25
        go_wp2_with fail
        refine HSZ.out.mono ?_
        rintro _ _ ⟨rfl, rfl⟩
        go_wp2
        go_ret
        exact ⟨by rw [HE.out]; rfl, rfl⟩
      · have d3 : decide (s ≤ 255) = false := by simpa using c3
        have HE := Lib.hid (show canB d x s = false by unfold canB; rw [decide_eq_false]; omega)
        clear h hN
        go_enter Try.func25, Try.ntmps25
        go_wp2
        go_ret
        exact ⟨by rw [HE.out]; rfl, rfl⟩
    · have d2 : decide (1 ≤ s) = false := by simpa using c2
      have HE := Lib.hid (show canB d x s = false by unfold canB; rw [decide_eq_false]; omega)
      clear h hN
      go_enter Try.func25, Try.ntmps25
      go_wp2
      go_ret
      exact ⟨by rw [HE.out]; rfl, rfl⟩
  · have d1 : decide (0 ≤ x) = false := by simpa using c1
    have HE := Lib.hid (show canB d x s = false by unfold canB; rw [decide_eq_false]; omega)
    clear h hN
    go_enter Try.func25, Try.ntmps25
    go_wp2
    go_ret
    exact ⟨by rw [HE.out]; rfl, rfl⟩
end Go.Proofs.Ytogdmjegcihopaa
