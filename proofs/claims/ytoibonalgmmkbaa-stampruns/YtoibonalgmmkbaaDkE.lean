
/- falseworklaw08.painted; sectors are equal. -/
import Derived.Test.YtoibonalgmmkbaaDkD
namespace Go.Proofs.Ytoibonalgmmkbaa
open Go.RowKit Go.Lib

theorem blkn {w : World} {o : Obj} {n : Nat} (h : n = w.heap.size) : (w.alloc o).heap[n]? = some o := by subst h; exact Go.heap_alloc_new w o
theorem blk_in {w : World} {o x : Obj} {i : Nat} (h : w.heap[i]? = some x) : (w.alloc o).heap[i]? = some x := by
  rw [Go.heap_alloc_old _ _ (lt_of_heap h)]; exact h
theorem setRow_new {w : World} {g : Nat} {cs ds : Array Value} {T : TypeId} (hg : g = w.heap.size) : (w.alloc (.cells cs T)).setRow g ds = w.alloc (.cells ds T) := by
  subst hg
  exact World.setRow_alloc_new w cs ds T
theorem below_setRow {B g : Nat} {a w : World} {cs : Array Value} (h : RowKit.Below B a w) (hg : B ≤ g) : RowKit.Below B a (w.setRow g cs) :=
  h.trans ⟨rfl, rfl, rfl, by simp, fun i hi => setRow_other w g i cs (by omega)⟩
/-- 64 bytes, as told -/
def sec (f : Nat → UInt8) : Sec := (List.range 64).map f
theorem sec_len (f : Nat → UInt8) : (sec f).length = 64 := by simp [sec]
theorem sec_get (f : Nat → UInt8) {i : Nat} (h : i < 64) : (sec f).getD i 0 = f i := by simp [sec, List.getD, h]
theorem sec_cell (f : Nat → UInt8) {i : Nat} (h : i < 64) : (bcells (sec f))[i]? = some (.int .u8 ((f i).toNat : Int)) := by
  rw [bcells_get (by rw [sec_len]; exact h), sec_get f h]
theorem sec_congr {f g : Nat → UInt8} (h : ∀ i, i < 64 → f i = g i) : sec f = sec g := by
  unfold sec
  exact List.map_congr_left fun i hi => h i (List.mem_range.1 hi)
theorem sec_of {s : Sec} (h : s.length = 64) : s = sec fun i => s.getD i 0 := by
  apply List.ext_getElem?
  intro i
  by_cases hi : i < 64
  · simp [sec, hi, List.getD, h]
  · rw [List.getElem?_eq_none (by omega), List.getElem?_eq_none (by rw [sec_len]; omega)]
theorem zsec_eq : zsec = sec fun _ => 0 := by decide
theorem sec_set {f g : Nat → UInt8} {k : Nat} (hk : k < 64) (h : ∀ i, i < 64 → i ≠ k → f i = g i) : (bcells (sec f)).toArray.setIfInBounds k (.int .u8 ((g k).toNat : Int)) = (bcells (sec g)).toArray := by
  apply Array.ext_getElem?
  intro i
  rw [Array.getElem?_setIfInBounds]
  have hs : ∀ f, (bcells (sec f)).toArray.size = 64 := fun f => by simp [cells_len _ (sec_len f)]
  by_cases hi : i < 64
  · by_cases e : k = i
    · subst e
      rw [if_pos rfl, if_pos (by rw [hs]; exact hk)]
      simp only [List.getElem?_toArray]
      rw [sec_cell g hk]
    · rw [if_neg e]
      simp only [List.getElem?_toArray]
      rw [sec_cell f hi, sec_cell g hi, h i hi (fun e2 => e e2.symm)]
  · rw [if_neg (by omega), Array.getElem?_eq_none (by rw [hs]; omega), Array.getElem?_eq_none (by rw [hs]; omega)]
/-- a step of a loop over the bytes of a sector: letters for what lies there -/
theorem sec_step {f g : Nat → UInt8} {k : Nat} (hk : k < 64) (h : ∀ i, i < 64 → i ≠ k → f i = g i) : ∃ c c' : List Value, c = bcells (sec f) ∧ c' = bcells (sec g) ∧ Cs 64 c ∧ Cs 64 c' ∧ c[k]? = some (.int .u8 ((f k).toNat : Int)) ∧ c.toArray.setIfInBounds k (.int .u8 ((g k).toNat : Int)) = c'.toArray :=
  ⟨_, _, rfl, rfl, cs_sec (sec_len f), cs_sec (sec_len g), sec_cell f hk, sec_set hk h⟩
def paint (c : UInt8) : Sec := sec fun i => c + UInt8.ofNat i
theorem paint_len (c : UInt8) : (paint c).length = 64 := sec_len _
theorem paint_byte (c : UInt8) (k : Nat) : IntKind.u8.wrap ((c.toNat : Int) + (k : Int)) = (((c + UInt8.ofNat k).toNat : Nat) : Int) := by
  rw [IntKind.wrap_u8]
  have e : (c + UInt8.ofNat k).toNat = (c.toNat + k) % 256 := by
    rw [UInt8.toNat_add, UInt8.toNat_ofNat']
    omega
  rw [e]
  omega
theorem byte_in {k : Nat} (h : k < 64) : IntKind.u8.wrap (k : Int) = (k : Int) := by rw [IntKind.wrap_u8]; omega
end Go.Proofs.Ytoibonalgmmkbaa
