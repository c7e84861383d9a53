/- falseworklaw08.painted; sectors are equal. -/
import Derived.Test.YtcboknigjpdmpaaDkD
namespace Go.Proofs.Ytcboknigjpdmpaa
open Go.RowKit Go.Lib

theorem blkn {w : World} {o : Obj} {n : Nat} (h : n = w.heap.size) : (w.alloc o).heap[n]? = some o := by subst h; exact Go.heap_alloc_new w o
theorem blk_in {w : World} {o x : Obj} {i : Nat} (h : w.heap[i]? = some x) : (w.alloc o).heap[i]? = some x := by
  rw [Go.heap_alloc_old _ _ (lt_of_heap h)]; exact h
theorem setRow_new {w : World} {g : Nat} {cs ds : Array Value} {T : TypeId} (hg : g = w.heap.size) : (w.alloc (.cells cs T)).setRow g ds = w.alloc (.cells ds T) := by
  subst hg
  exact World.setRow_alloc_new w cs ds T
theorem below_setRow {B g : Nat} {a w : World} {cs : Array Value} (h : RowKit.Below B a w) (hg : B ≤ g) : RowKit.Below B a (w.setRow g cs) :=
  h.trans ⟨rfl, rfl, rfl, by simp, fun i hi => setRow_other w g i cs (by omega)⟩
/-- 64 bytes, as told -/
def sec (f : Nat → UInt8) : Sec := (List.range 64).map f
theorem sec_len (f : Nat → UInt8) : (sec f).length = 64 := by simp [sec]
theorem sec_get (f : Nat → UInt8) {i : Nat} (h : i < 64) : (sec f).getD i 0 = f i := by simp [sec, List.getD, h]
theorem sec_cell (f : Nat → UInt8) {i : Nat} (h : i < 64) : (bcells (sec f))[i]? = some (.int .u8 ((f i).toNat : Int)) := by
  rw [bcells_get (by rw [sec_len]; exact h), sec_get f h]
theorem sec_congr {f g : Nat → UInt8} (h : ∀ i, i < 64 → f i = g i) : sec f = sec g := by
  unfold sec
  exact List.map_congr_left fun i hi => h i (List.mem_range.1 hi)
theorem sec_of {s : Sec} (h : s.length = 64) : s = sec fun i => s.getD i 0 := by
  apply List.ext_getElem?
  intro i
  by_cases hi : i < 64
  · simp [sec, hi, List.getD, h]
  · rw [List.getElem?_eq_none (by omega), List.getElem?_eq_none (by rw [sec_len]; omega)]
theorem zsec_eq : zsec = sec fun _ => 0 := by decide
theorem sec_set {f g : Nat → UInt8} {k : Nat} (hk : k < 64) (h : ∀ i, i < 64 → i ≠ k → f i = g i) : (bcells (sec f)).toArray.setIfInBounds k (.int .u8 ((g k).toNat : Int)) = (bcells (sec g)).toArray := by
  apply Array.ext_getElem?
  intro i
  rw [Array.getElem?_setIfInBounds]
  have hs : ∀ f, (bcells (sec f)).toArray.size = 64 := fun f => by simp [cells_len _ (sec_len f)]
  by_cases hi : i < 64
  · by_cases e : k = i
    · subst e
      rw [if_pos rfl, if_pos (by rw [hs]; exact hk)]
      simp only [List.getElem?_toArray]
      rw [sec_cell g hk]
    · rw [if_neg e]
      simp only [List.getElem?_toArray]
      rw [sec_cell f hi, sec_cell g hi, h i hi (fun e2 => e e2.symm)]
  · rw [if_neg (by omega), Array.getElem?_eq_none (by rw [hs]; omega), Array.getElem?_eq_none (by rw [hs]; omega)]
/-- a step of a loop over the bytes of a sector: letters for what lies there -/
theorem sec_step {f g : Nat → UInt8} {k : Nat} (hk : k < 64) (h : ∀ i, i < 64 → i ≠ k → f i = g i) : ∃ c c' : List Value, c = bcells (sec f) ∧ c' = bcells (sec g) ∧ Cs 64 c ∧ Cs 64 c' ∧ c[k]? = some (.int .u8 ((f k).toNat : Int)) ∧ c.toArray.setIfInBounds k (.int .u8 ((g k).toNat : Int)) = c'.toArray :=
  ⟨_, _, rfl, rfl, cs_sec (sec_len f), cs_sec (sec_len g), sec_cell f hk, sec_set hk h⟩
def paint (c : UInt8) : Sec := sec fun i => c + UInt8.ofNat i
theorem paint_len (c : UInt8) : (paint c).length = 64 := sec_len _
theorem paint_byte (c : UInt8) (k : Nat) : IntKind.u8.wrap ((c.toNat : Int) + (k : Int)) = (((c + UInt8.ofNat k).toNat : Nat) : Int) := by
  rw [IntKind.wrap_u8]
  have e : (c + UInt8.ofNat k).toNat = (c.toNat + k) % 256 := by
    rw [UInt8.toNat_add, UInt8.toNat_ofNat']
    omega
  rw [e]
  omega
theorem byte_in {k : Nat} (h : k < 64) : IntKind.u8.wrap (k : Int) = (k : Int) := by rw [IntKind.wrap_u8]; omega
set_option maxRecDepth 100000 in
set_option maxHeartbeats 800000 in
theorem painted_any (c : UInt8) (w : World) : Calls Try.prog 18 #[.int .u8 (c.toNat : Int)] w fun e w' => e = .returned (.agg (bcells (paint c)).toArray) ∧ RowKit.Below w.heap.size w w' := by
  have hzz : zc = bcells (sec fun j => if j < 0 then c + UInt8.ofNat j else 0) := by unfold zc; rw [zsec_eq]; exact congrArg _ (sec_congr fun i _ => by simp)
  have HZZ := Lib.hid hzz
  clear hzz
  go_enter Try.func18, Try.ntmps18
  go_wp2_with (first | (with_reducible refine wpList_allocA rfl isS rfl ?_) | (with_reducible refine wpList_buildZ rfl rfl ?_) | ((with_reducible refine wpList_storeW rfl isS _ _ rfl _ zc zc.toArray _ rfl rfl (blkn (by simp)) cs_zc (by simp [zc_len]) ?_); rw [setRow_new (by simp)]))
  go_loopw [6] (fun c6 wr => ∃ k : Nat, c6 = .int .i64 (k : Int) ∧ k ≤ 64 ∧ wr = (w.alloc (.cells zc.toArray 28)).alloc (.cells (bcells (sec fun j => if j < k then c + UInt8.ofNat j else 0)).toArray 28)) (fun c6 _ => 64 - (match c6 with | .int _ q => q | _ => 0).toNat)
  case atStart => exact ⟨0, rfl, by omega, by rw [← HZZ.out]⟩
  case round =>
    obtain ⟨k, rfl, hk, rfl⟩ := hrel
    by_cases hlt : k < 64
    · obtain ⟨x, x', hx, hx', k1, k2, g1, g2⟩ := sec_step (f := fun j => if j < k then c + UInt8.ofNat j else 0) (g := fun j => if j < k + 1 then c + UInt8.ofNat j else 0) hlt (fun i _ hne => by
        by_cases h : i < k
        · rw [if_pos h, if_pos (by omega)]
        · rw [if_neg h, if_neg (by omega)])
      rw [← hx]
      have HX := Lib.hid hx'
      rw [if_pos (by omega)] at g2
      have pb := paint_byte c k
      rw [← pb] at g2
      have bi := byte_in hlt
      have kl := k1.len
      clear hx hx' k1 k2 pb
      go_wp2
      go_roundw
      case rel => exact ⟨k + 1, by go_num, by omega, by rw [← HX.out, ← g2, IntKind.wrap_u8, List.setIfInBounds_toArray]⟩
      case measure => simp; omega
    · obtain rfl : k = 64 := by omega
      obtain ⟨x, hx⟩ : ∃ x, x = bcells (sec fun j => if j < 64 then c + UInt8.ofNat j else 0) := ⟨_, rfl⟩
      have hc : Cs 64 x := by rw [hx]; exact cs_sec (sec_len _)
      have HP := Lib.hid (show x = bcells (paint c) by rw [hx]; exact congrArg _ (sec_congr fun i hi => by rw [if_pos hi]))
      rw [← hx]
      have HC := Lib.hid hc
      clear hx hc
      go_wp2_with (first | (with_reducible refine wpList_loadW rfl isS _ rfl _ x _ rfl (blkn (by simp)) HC.out ?_) | (with_reducible refine wpList_storeW rfl isS _ _ rfl _ x zc.toArray _ rfl rfl (blk_in (blkn rfl)) HC.out (by simp [zc_len]) ?_))
      refine ret_cell isS rfl rfl (setRow_heap _ _ _ _ _ _ (blk_in (blkn rfl))) HC.out rfl ?_
      rw [HP.out]
      exact ⟨rfl, below_setRow (((RowKit.Below.refl _ _).alloc (Nat.le_refl _) _).alloc (by simp) _) (Nat.le_refl _)⟩
end Go.Proofs.Ytcboknigjpdmpaa
