/- Package crc: Add. -/
import Derived.Test.YtdfbpaajkpnaeaaCrA
import Derived.ScopeJumps
import Derived.WalkMore
import Derived.IntWalk
namespace Go.Proofs.Ytdfbpaajkpnaeaa
set_option maxRecDepth 100000
open Go.RowKit Go.Lib

/-- bytes that were just laid -/
theorem bat_new (w : World) (l : List UInt8) (vs : Array Value) (t : TypeId) (h : vs.toList = bcells l) : BAt (w.alloc (.cells vs t)) (some ⟨w.heap.size, 0, none⟩) l := by
  refine Or.inr ⟨w.heap.size, 0, rfl, by simp, fun i hi => ?_⟩
  rw [Nat.zero_add, World.cell?_alloc_new, ← Array.getElem?_toList, h, bcells_get hi]
theorem ccell_bl {w w' : World} {q i : Nat} {v : Value} (h : w.cell? ⟨q, i, none⟩ = some v) (hb : RowKit.Below w.heap.size w w') : w'.cell? ⟨q, i, none⟩ = some v := by
  rw [hb.cell (p := ⟨q, i, none⟩) (World.block_lt_of_cell? w _ h)]; exact h
theorem bit_cell {w : World} {a : Option Addr} {l : List UInt8} (h : BAt w a l) {k : Nat} (hk : k < 8 * l.length) :
    ∃ b off j i x, a = some ⟨b, off, none⟩ ∧ k / 8 = j ∧ k % 8 = i ∧ j < l.length ∧ i < 8 ∧ x < 256 ∧ w.cell? ⟨b, off + j, none⟩ = some (.int .u8 ((x : Nat) : Int)) ∧ bitAt l k = x / 2 ^ i % 2 := by
  rcases h with h | ⟨b, off, ha, hlt, hc⟩
  · subst h; simp at hk
  · exact ⟨b, off, k / 8, k % 8, (l.getD (k / 8) 0).toNat, ha, rfl, rfl, by omega, by omega, UInt8.toNat_lt _, hc _ (by omega), rfl⟩

/-- where Add stands behind k bits -/
def AddAt (r : Nat) (a : Option Addr) (l : List UInt8) (cap : Nat) (w : World) (a' : Act) (w' : World) : Prop :=
  w = w' ∧ ∃ (k : Nat) (u6 u7 u8 u9 u10 u11 u12 u13 u14 u15 u16 u17 u18 u19 u20 u21 u22 u23 u24 : Value), a' = { tmps := #[.int .u32 (up r l k : Int), .slice a l.length cap, undef, undef, .int .u32 0, .int .i64 (k : Int), u6, u7, u8, u9, u10, u11, u12, u13, u14, u15, u16, u17, u18, u19, u20, u21, u22, u23, u24], defers := [] } ∧ k ≤ 8 * l.length
def placeOf (a : Act) : Nat := (match a.tmps.getD 5 undef with | .int _ q => q | _ => 0).toNat
set_option maxRecDepth 100000 in
theorem add_any (r : Nat) (a : Option Addr) (l : List UInt8) (n cap : Nat) (w : World) (hr : r < 4294967296) (hb : BAt w a l) (hn : l.length = n) (hl : n ≤ 1000000) :
    Calls Try.prog 71 #[.int .u32 (r : Int), .slice a n cap] w fun e w' => e = .returned (.int .u32 (ad r l : Int)) ∧ w = w' := by
  subst hn
  have HB := Lib.hid hb
  have HR := Lib.hid hr
  clear hb
  go_enter Try.func71, Try.ntmps71
  go_wp2
  refine wp_scope_jumps 0 (AddAt r a l cap w) (fun a' _ => 8 * l.length - placeOf a') rfl ?_ ?_
  · by_cases hz : l.length = 0
    · have d0 : ((0 : Int) == 8 * (l.length : Int)) = true := by simp [hz]
      have hz' : l = [] := List.eq_nil_of_length_eq_zero hz
      have HZ := Lib.hid (show ad r l = r by rw [hz']; rfl)
      clear hz hz'
      go_wp2
      go_step3
      go_wp2
      simp only [Exit.jump]
      go_ret
      exact ⟨ret_int (by rw [HZ.out]), rfl⟩
    · have d0 : ((0 : Int) == 8 * (l.length : Int)) = false := by simp; omega
      obtain ⟨b, off, j, i, x, rfl, hj, hi, hjl, hi8, hx, hc, hbit⟩ := bit_cell HB.out (k := 0) (by omega)
      have : j = 0 := by omega
      subst this
      have : i = 0 := by omega
      subst this
      have HE := Lib.hid hbit
      have HT := Lib.hid (take_any r (bitAt l 0) w hr (bitAt_le l 0))
      have HE1 := Lib.hid (show bits .and .u8 (x : Int) 1 = (bitAt l 0 : Int) by rw [and1_8 x hx, HE.out]; simp)
      rw [Nat.add_zero] at hc
      clear hbit hj hi hz hi8
      go_wp2
      go_step3
      go_wp2_with fail
      rw [HE1.out]
      refine HT.out.mono ?_
      rintro _ _ ⟨rfl, rfl⟩
      go_wp2
      go_step3
      exact ⟨rfl, rfl, 1, _, _, _, _, _, _, _, _, _, _, _, _, _, _, _, _, _, _, _, rfl, by omega⟩
  · rintro a' w' ⟨rfl, k, u6, u7, u8, u9, u10, u11, u12, u13, u14, u15, u16, u17, u18, u19, u20, u21, u22, u23, u24, rfl, hk⟩
    by_cases hz : 8 * l.length = k
    · have d0 : ((k : Int) == 8 * (l.length : Int)) = true := by simp; omega
      have HZ := Lib.hid (show up r l k = ad r l by rw [← hz]; rfl)
      clear hz
      go_wp2
      simp only [Exit.jump]
      go_ret
      exact ⟨ret_int (by rw [HZ.out]), rfl⟩
    · have d0 : ((k : Int) == 8 * (l.length : Int)) = false := by simp; omega
      obtain ⟨b, off, j, i, x, rfl, hj, hi, hjl, hi8, hx, hc, hbit⟩ := bit_cell HB.out (k := k) (by omega)
      have hJ : (k : Int) / 8 = (j : Int) := by omega
      have hI : (k : Int) % 8 = (i : Int) := by omega
      have HT := Lib.hid (take_any (up r l k) (bitAt l k) w (up_lt hr l k) (bitAt_le l k))
      have HE1 := Lib.hid (show bits .and .u8 ((x : Int) / 2 ^ i) 1 = (bitAt l k : Int) by
        have e : (x : Int) / 2 ^ i = ((x / 2 ^ i : Nat) : Int) := by simp
        rw [e, and1_8 _ (by have := Nat.div_le_self x (2 ^ i); omega), hbit])
      clear hbit hj hi
      have hk2 : k + 1 ≤ 8 * l.length := by omega
      clear hz
      go_wp2_with fail
      rw [HE1.out]
      refine HT.out.mono ?_
      rintro _ _ ⟨rfl, rfl⟩
      go_wp2
      go_step3
      refine ⟨rfl, ⟨rfl, k + 1, _, _, _, _, _, _, _, _, _, _, _, _, _, _, _, _, _, _, _, rfl, hk2⟩, ?_⟩
      simp [placeOf]
      omega
end Go.Proofs.Ytdfbpaajkpnaeaa
