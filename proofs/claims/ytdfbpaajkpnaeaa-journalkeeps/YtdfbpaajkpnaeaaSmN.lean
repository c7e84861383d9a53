
/- Package stamp, mathematics: what is written is read; what is cut off. -/
import Derived.Test.YtdfbpaajkpnaeaaSmK
namespace Go.Proofs.Ytdfbpaajkpnaeaa
set_option maxRecDepth 100000
open Go.RowKit Go.Lib

/-- power, and no fuse -/
structure Up (d : Dk) : Prop where
  fu : d.fuse = -1
  dd : d.dead = false
theorem Up.live {d : Dk} (h : Up d) : d.live = true := by unfold Dk.live; rw [h.fu, h.dd]; rfl
theorem Up.spend {d : Dk} (h : Up d) : d.spend = d := by
  have e : (if 0 < d.fuse then d.fuse - 1 else d.fuse) = d.fuse := if_neg (by rw [h.fu]; omega)
  unfold Dk.spend; rw [if_pos h.live, e]
theorem Up.putE {d : Dk} (h : Up d) {x : Int} (hx : 0 ≤ x ∧ x < d.base.length) : d.putE x = 0 := by
  unfold Dk.putE; rw [if_pos (Dk.has_iff.2 hx), if_pos h.live]
theorem Up.put {d : Dk} (h : Up d) {x : Int} (hx : 0 ≤ x ∧ x < d.base.length) (s : Sec) : d.put x s = { d with queue := d.queue ++ [(x.toNat, s)] } := by
  unfold Dk.put; rw [if_pos (Dk.has_iff.2 hx), if_pos h.live, h.spend]
theorem Up.blank (n : Int) : Up (Dk.blank n) := ⟨rfl, rfl⟩
theorem Up.power (d : Dk) (l : List Int) : Up (d.power l) := ⟨rfl, rfl⟩
theorem Up.flush {d : Dk} (h : Up d) : d.flush = { d with base := stl (fun _ => 64) d.queue d.base d.queue.length, queue := [] } := by
  unfold Dk.flush; rw [if_pos h.live, h.spend]
def qsOf : Int → List Sec → List (Nat × Sec)
  | _, [] => []
  | x, s :: L => (x.toNat, s) :: qsOf (x + 1) L
theorem qsOf_length : ∀ (L : List Sec) (x : Int), (qsOf x L).length = L.length
  | [], _ => rfl
  | s :: L, x => by rw [qsOf, List.length_cons, List.length_cons, qsOf_length L]
theorem qsOf_get : ∀ (L : List Sec) (x : Int) (i : Nat), i < L.length → (qsOf x L)[i]? = some ((x + (i : Int)).toNat, L.getD i [])
  | [], _, i, h => by simp at h
  | s :: L, x, 0, _ => by simp [qsOf]
  | s :: L, x, i + 1, h => by
    rw [qsOf, List.getElem?_cons_succ, qsOf_get L (x + 1) i (by simpa using h), show x + 1 + (i : Int) = x + ((i + 1 : Nat) : Int) by omega]
    rfl
theorem putAll_up : ∀ (L : List Sec) (d : Dk) (x : Int), Up d → 0 ≤ x → x + (L.length : Int) ≤ d.base.length → putAll d x L = ({ d with queue := d.queue ++ qsOf x L }, 0)
  | [], d, x, _, _, _ => by simp [putAll, qsOf]
  | s :: L, d, x, h, h0, h1 => by
    rw [List.length_cons] at h1
    have hx : 0 ≤ x ∧ x < (d.base.length : Int) := by omega
    have hu : Up { d with queue := d.queue ++ [(x.toNat, s)] } := ⟨h.fu, h.dd⟩
    rw [putAll, if_pos (h.putE hx), h.put hx, putAll_up L _ (x + 1) hu (by omega) (by show x + 1 + (L.length : Int) ≤ d.base.length; omega)]
    simp [qsOf]
theorem ofQ_qs : ∀ (L : List Sec) (x y : Int), 0 ≤ x → ofQ (qsOf x L) y = if x ≤ y ∧ y < x + (L.length : Int) then [L.getD (y - x).toNat []] else []
  | [], x, y, _ => by rw [qsOf, if_neg (by simp)]; rfl
  | s :: L, x, y, h => by
    rw [qsOf, ofQ_cons, ofQ_qs L (x + 1) y (by omega)]
    have ex : ((x.toNat : Nat) : Int) = x := by omega
    by_cases e : y = x
    · subst e
      have := ofQ_one_same ((y.toNat, s) : Nat × Sec)
      rw [ex] at this
      rw [this, if_neg (by omega), if_pos (by rw [List.length_cons]; omega), Int.sub_self]
      simp
    · rw [ofQ_one_other ((x.toNat, s) : Nat × Sec) (by rw [ex]; exact e), List.nil_append]
      by_cases h2 : x + 1 ≤ y ∧ y < x + 1 + (L.length : Int)
      · rw [if_pos h2, if_pos (by rw [List.length_cons]; omega), show (y - x).toNat = (y - (x + 1)).toNat + 1 by omega]
        simp
      · rw [if_neg h2, if_neg (by rw [List.length_cons]; omega)]
theorem at_qs {d : Dk} {L : List Sec} {x : Int} (h0 : 0 ≤ x) (h1 : x + (L.length : Int) ≤ d.base.length) (y : Int) :
    Dk.at_ { d with queue := d.queue ++ qsOf x L } y = if x ≤ y ∧ y < x + (L.length : Int) then L.getD (y - x).toNat [] else d.at_ y := by
  unfold Dk.at_
  simp only [ofQ_app, ofQ_qs L x y h0]
  by_cases h : x ≤ y ∧ y < x + (L.length : Int)
  · rw [if_pos h, if_pos (by omega), if_pos h]
    simp
  · rw [if_neg h, if_neg h, List.append_nil]
theorem write_up {d : Dk} (h : Up d) {x : Int} {n : Nat} {l : List UInt8} (hn : n ≠ 0) (hl : l.length ≤ 13515) (h0 : 0 ≤ x) (h1 : x + (spanN l.length : Int) ≤ d.base.length) :
    d.write x n l = ({ d with queue := d.queue ++ qsOf x (secs n l) }, 0) := by
  have e : layL n l = secs n l := if_neg hn
  have hs := spanN_pos hl
  unfold Dk.write
  rw [e, if_neg (by rw [secs_length]; omega), if_neg (by rw [secs_length]; omega), putAll_up _ _ _ h h0 (by rw [secs_length]; exact h1)]
theorem secs_getD {n : Nat} {l : List UInt8} {i : Nat} (h : i < spanN l.length) : (secs n l).getD i [] = secOf n l i := by rw [List.getD, secs_get h]; rfl
/-- n and l stand at x -/
def Stand (d : Dk) (x : Int) (n : Nat) (l : List UInt8) : Prop := ∀ i, i < spanN l.length → d.at_ (x + (i : Int)) = secOf n l i
theorem many_sec {n : Nat} {l : List UInt8} {i : Nat} : manyAt (secOf n l i) = spanN l.length := by
  have : (secOf n l i).getD 1 0 = UInt8.ofNat (spanN l.length) := by simp [secOf, mkS]
  have h2 := spanN_le l.length
  unfold manyAt
  rw [this, UInt8.toNat_ofNat']
  omega
theorem Stand.stands {d : Dk} {x z : Int} {n : Nat} {l : List UInt8} (h : Stand d x n l) (hl : l.length ≤ 13515) (hz : x + (spanN l.length : Int) ≤ z) : d.stands x z = secs n l := by
  have hs := spanN_pos hl
  have h0 := h 0 (by omega)
  rw [show x + ((0 : Nat) : Int) = x by omega] at h0
  unfold Dk.stands
  rw [if_neg (by omega), h0, many_sec, if_neg (by omega)]
  unfold Dk.secsAt secs
  exact List.map_congr_left fun i hi => h i (List.mem_range.1 hi)
theorem Stand.read {d : Dk} {x z : Int} {n : Nat} {l : List UInt8} (h : Stand d x n l) (hl : l.length ≤ 13515) (hn : n ≠ 0) (hn2 : n < 18446744073709551616) (h0 : 0 ≤ x) (hz : x + (spanN l.length : Int) ≤ z) (hz2 : z ≤ d.base.length) : d.read x z = ⟨l, n, spanN l.length, 0⟩ := by
  unfold Dk.read
  rw [if_neg (by omega), h.stands hl hz, readL_secs hl hn hn2]
theorem Stand.written {d : Dk} {x : Int} {n : Nat} {l : List UInt8} (h0 : 0 ≤ x) (h1 : x + (spanN l.length : Int) ≤ d.base.length) : Stand { d with queue := d.queue ++ qsOf x (secs n l) } x n l := fun i hi => by
  rw [at_qs h0 (by rw [secs_length]; exact h1), if_pos (by rw [secs_length]; omega), show x + (i : Int) - x = i by omega, Int.toNat_natCast, secs_getD hi]
theorem written_read {d : Dk} {x z : Int} {n : Nat} {l : List UInt8} (hl : l.length ≤ 13515) (hn : n ≠ 0) (hn2 : n < 18446744073709551616) (h0 : 0 ≤ x) (hz : x + (spanN l.length : Int) ≤ z) (hz2 : z ≤ d.base.length) :
    Dk.read { d with queue := d.queue ++ qsOf x (secs n l) } x z = ⟨l, n, spanN l.length, 0⟩ :=
  Stand.read (d := { d with queue := d.queue ++ qsOf x (secs n l) }) (Stand.written h0 (by omega)) hl hn hn2 h0 hz hz2
end Go.Proofs.Ytdfbpaajkpnaeaa
