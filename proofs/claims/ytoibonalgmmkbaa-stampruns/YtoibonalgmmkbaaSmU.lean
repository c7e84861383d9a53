/- falseworkref09: Sectors. -/
import Derived.Test.YtoibonalgmmkbaaSmT
import Derived.Test.YtoibonalgmmkbaaDkS
namespace Go.Proofs.Ytoibonalgmmkbaa
open Go.RowKit Go.Lib

/-- block b is one sector -/
def BRow (w : World) (b : Nat) (s : Sec) : Prop := w.heap[b]? = some (.cells (bcells s).toArray 59)
theorem Only.cell1 {w : World} {b k : Nat} {v : Value} : Only (fun i => i = b) w (w.setCell ⟨b, k, none⟩ v) :=
  ⟨rfl, rfl, rfl, by simp, fun i _ hn => heap_setCell_other _ _ _ _ hn⟩
theorem BRow.set {w : World} {b k : Nat} {s : Sec} (h : BRow w b s) (c : UInt8) : BRow (w.setCell ⟨b, k, none⟩ (.int .u8 (c.toNat : Int))) b (s.set k c) := by
  unfold BRow at *
  rw [heap_setCell_same _ _ _ _ _ _ h]
  simp [bcells, List.map_set]
theorem BRow.cell {w : World} {b k : Nat} {s : Sec} (h : BRow w b s) (hk : k < s.length) : w.cell? ⟨b, k, none⟩ = some (.int .u8 ((s.getD k 0).toNat : Int)) := by
  rw [cell_of_row _ _ _ _ _ _ h, List.getElem?_toArray, bcells_get hk]
theorem wp_byte1 {o : Oper} {a : Act} {w : World} {K : Act → World → Prop} {Q : Exit → Act → World → Prop} (x y : Operand) (ho : o.op = .store 5 x y) {b k off : Nat} {s : Sec} {c : UInt8} {v : Int} (hx : a.eval x = .pointer (some ⟨b, off, none⟩)) (hy : a.eval y = .int .u8 v) (hoff : off = k) (hv : v = (c.toNat : Int))
    (hr : BRow w b s) (hk : k < s.length) (h : ∀ W', BRow W' b (s.set k c) → Only (fun i => i = b) w W' → W'.heap.size = w.heap.size → K (a.put o.dst undef) W') : o.wp Try.prog a w K Q := by
  subst hoff hv
  exact wp_store1 _ x y ho ⟨b, off, none⟩ .u8 _ _ hx hy siz1 (hr.cell hk) (frozen_of_row _ _ _ _ _ hr) (h _ (hr.set c) Only.cell1 (by simp))
theorem wpList_byte1 {ops : Array Oper} {rest : List Oper} {o : Oper} {a : Act} {w : World} {Q : Exit → Act → World → Prop} (hgd : o.guard = none) (x y : Operand) (ho : o.op = .store 5 x y) {b k off : Nat} {s : Sec} {c : UInt8} {v : Int} (hx : a.eval x = .pointer (some ⟨b, off, none⟩)) (hy : a.eval y = .int .u8 v) (hoff : off = k) (hv : v = (c.toNat : Int))
    (hr : BRow w b s) (hk : k < s.length) (h : ∀ W', BRow W' b (s.set k c) → Only (fun i => i = b) w W' → W'.heap.size = w.heap.size → wpList Try.prog ops Q rest (a.put o.dst undef) W') : wpList Try.prog ops Q (o :: rest) a w :=
  wpList_plain hgd fun _ hK => wp_byte1 x y ho hx hy hoff hv hr hk fun W' h1 h2 h3 => hK _ _ (h W' h1 h2 h3)
theorem wpList_lit {t e : TypeId} {size bytes : Nat} (E : El t e size bytes) {ops : Array Oper} {rest : List Oper} {o : Oper} {a : Act} {w : World} {Q : Exit → Act → World → Prop} (hgd : o.guard = none) (ho : o.op = .buildSlice t 0 #[]) (h : wpList Try.prog ops Q rest (a.put o.dst (.slice (some ⟨w.heap.size, 0, none⟩) 0 0)) (w.alloc (.cells #[] e))) : wpList Try.prog ops Q (o :: rest) a w :=
  wpList_plain hgd fun _ hK => wp_lit E ho (hK _ _ h)
theorem own_lit (w : World) (base : Nat) (e : TypeId) (size : Nat) (hb : base ≤ w.heap.size) : (w.alloc (.cells #[] e)).ownsRow base e size (.slice (some ⟨w.heap.size, 0, none⟩) 0 0) 0 [] := by
  have := World.ownsRow_lit (base := base) (e := e) (size := size) w #[] 0 hb (by unfold maxLen; omega) (by simp)
  simpa using this
/-- so far: k bytes -/
def midS (i many : Nat) (p : List UInt8) (k : Nat) : Sec := [UInt8.ofNat i, UInt8.ofNat many, UInt8.ofNat k] ++ (p.take k ++ List.replicate (61 - k) 0)
theorem midS_len {i many : Nat} {p : List UInt8} {k : Nat} (hk : k ≤ p.length) (hp : p.length ≤ 53) : (midS i many p k).length = 64 := by simp [midS]; omega
theorem midS_two (i many : Nat) (p : List UInt8) (k : Nat) : (midS i many p k).getD 2 0 = UInt8.ofNat k := by simp [midS]
theorem midS_next {i many : Nat} {p : List UInt8} {k : Nat} (hk : k < p.length) (hp : p.length ≤ 53) : ((midS i many p k).set 2 (UInt8.ofNat (k + 1))).set (3 + k) (p.getD k 0) = midS i many p (k + 1) := by
  have hk2 : (p.take k).length = k := by rw [List.length_take]; omega
  have e1 : (midS i many p k).set 2 (UInt8.ofNat (k + 1)) = [UInt8.ofNat i, UInt8.ofNat many, UInt8.ofNat (k + 1)] ++ (p.take k ++ List.replicate (61 - k) 0) := by simp [midS]
  rw [e1, List.set_append_right _ _ (by simp), show 3 + k - [UInt8.ofNat i, UInt8.ofNat many, UInt8.ofNat (k + 1)].length = k by simp, List.set_append_right _ _ (by omega), hk2, Nat.sub_self, show 61 - k = (60 - k) + 1 by omega, List.replicate_succ]
  unfold midS
  rw [show 61 - (k + 1) = 60 - k by omega, List.take_add_one, List.getElem?_eq_getElem hk, List.getD, List.getElem?_eq_getElem hk]
  simp only [List.set_cons_zero, Option.getD_some, Option.toList_some, List.append_assoc, List.singleton_append]
def numS (i many : Nat) (p : List UInt8) (n j : Nat) : Sec := ([UInt8.ofNat i, UInt8.ofNat many, UInt8.ofNat p.length] ++ (p ++ List.replicate (53 - p.length) 0)) ++ ((le8 8 n).take j ++ (List.replicate 8 (0 : UInt8)).drop j)
theorem numS_zero {i many : Nat} {p : List UInt8} {n : Nat} (hp : p.length ≤ 53) : midS i many p p.length = numS i many p n 0 := by
  unfold midS numS
  rw [List.take_length, List.take_zero, List.drop_zero, List.nil_append, show 61 - p.length = (53 - p.length) + 8 by omega, ← List.replicate_append_replicate]
  simp
theorem numS_len {i many : Nat} {p : List UInt8} {n j : Nat} (hp : p.length ≤ 53) (hj : j ≤ 8) : (numS i many p n j).length = 64 := by simp [numS, le8_len]; omega
theorem numS_next {i many : Nat} {p : List UInt8} {n j : Nat} (hp : p.length ≤ 53) (hj : j < 8) : (numS i many p n j).set (56 + j) (UInt8.ofNat (n / 256 ^ j % 256)) = numS i many p n (j + 1) :=
  stamp_step (by simp; omega) hj _ (by simp)
theorem numS_all {i many : Nat} {p : List UInt8} {n : Nat} : numS i many p n 8 = mkS i many p n := by
  unfold numS mkS
  rw [List.take_of_length_le (by rw [le8_len]; omega), List.drop_of_length_le (by simp), List.append_nil]
end Go.Proofs.Ytoibonalgmmkbaa
