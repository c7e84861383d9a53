/- Package stamp: stampOf. -/
import Derived.Test.YtoibonalgmmkbaaSmE
import Derived.Lib.EndianBits
import Derived.Lib.Varint
namespace Go.Proofs.Ytoibonalgmmkbaa
open Go.RowKit Go.Lib Go.Shelf

attribute [local go_sem] Oper.semAt_some

def hiN (pre : List (Nat × UInt8)) : Nat := pre.foldl (fun s x => s * 256 + x.2.toNat) 0
theorem hiN_snoc (pre : List (Nat × UInt8)) (x : Nat × UInt8) : hiN (pre ++ [x]) = hiN pre * 256 + x.2.toNat := by simp [hiN]
theorem list8 {z : List UInt8} (h : z.length = 8) : ∃ a b c d e f g i : UInt8, z = [a, b, c, d, e, f, g, i] := by
  match z, h with
  | [a, b, c, d, e, f, g, i], _ => exact ⟨a, b, c, d, e, f, g, i, rfl⟩
theorem hiN_downs {z : List UInt8} (h : z.length = 8) : hiN (downs z 8 8) = num8 z := by
  obtain ⟨a, b, c, d, e, f, g, i, rfl⟩ := list8 h
  have : downs [a, b, c, d, e, f, g, i] 8 8 = [(7, i), (6, g), (5, f), (4, e), (3, d), (2, c), (1, b), (0, a)] := rfl
  rw [this]
  simp only [hiN, List.foldl_cons, List.foldl_nil, num8]
  omega
theorem byte_join {h : Nat} {b : UInt8} (hh : h < 72057594037927936) : bits .or .u64 (IntKind.u64.wrap ((h : Int) * 256)) (IntKind.u64.wrap (b.toNat : Int)) = ((h * 256 + b.toNat : Nat) : Int) := by
  have hb := b.toNat_lt
  have e64 : (2 : Int) ^ 64 = 18446744073709551616 := by decide
  have e8 : (2 : Int) ^ 8 = 256 := by decide
  rw [wraps_u64 _ (by omega) (by rw [e64]; omega), wraps_u64 _ (by omega) (by rw [e64]; omega)]
  rw [bits_join .u64 64 (by decide) wraps_u64 8 _ _ (by omega) (by rw [e8]; omega) (by rw [e64]; omega) (by omega) (by rw [e8]; omega) (by rw [e64]; omega)]
  omega
theorem pow256 {a n : Nat} (h : a < 256 ^ n) (hn : n < 8) : a < 72057594037927936 :=
  Nat.lt_of_lt_of_le h (Nat.pow_le_pow_right (n := 256) (by decide) (Nat.le_of_lt_succ hn) : 256 ^ n ≤ 256 ^ 7)
set_option maxRecDepth 100000 in
set_option maxHeartbeats 2000000 in
theorem stampOf_in (F : Fence) (n : Nat) (h30 : F.fn 30) (h45 : F.fn 45) (h48 : F.fn 48) (hro : F.round = none) (hn : 3 ≤ n) (s : Sec) (hs : s.length = 64) (w : World) :
    CallsIn F n Try.prog 30 #[.agg (bcells s).toArray] w fun e W' => e = .returned (.int .u64 (stN s : Int)) ∧ RowKit.Below w.heap.size w W' := by
  obtain ⟨C, hC⟩ : ∃ C, C = bcells s := ⟨_, rfl⟩
  have HC := Lib.hid hC
  rw [← hC]
  clear hC
  have h1 : 1 ≤ n := by omega
  refine callsIn_of_wp_marks Try.func30 rfl h30 ?_ hro
  simp only [Try.ntmps30, List.size_toArray, List.length_cons, List.length_nil, Nat.reduceAdd, Nat.reduceSub, Array.replicate_succ, Array.replicate_zero, List.push_toArray, List.append_toArray, List.nil_append, List.cons_append]
  gi_wp2_with (gi_at_call 45; refine (back_in F (n - 1) h45 hro _ _ _ _).mono ?_; rintro e w' ⟨rfl, rfl⟩)
  obtain ⟨w3, hw3⟩ : ∃ w3, w3 = ((w.alloc (.cells C.toArray 59)).alloc (.cells #[.int .u64 0] 25)).alloc (.cells #[.slice (some ⟨w.heap.size, 56, none⟩) 8 8] 24) := ⟨_, rfl⟩
  have hB3 : RowKit.Below w.heap.size w w3 := by rw [hw3]; exact (((RowKit.Below.refl _ _).alloc (Nat.le_refl _) _).alloc (by simp) _).alloc (by simp; omega) _
  have hs3 : w3.heap.size = w.heap.size + 3 := by rw [hw3]; simp
  have p0 : w3.heap[w.heap.size]? = some (.cells C.toArray 59) := by rw [hw3]; exact blk_in (blk_in (blkn rfl))
  have p1 : w3.heap[w.heap.size + 1]? = some (.cells #[.int .u64 0] 25) := by rw [hw3]; exact blk_in (blkn (by simp))
  have p2 : w3.heap[w.heap.size + 1 + 1]? = some (.cells #[.slice (some ⟨w.heap.size, 56, none⟩) 8 8] 24) := by rw [hw3]; exact blkn (by simp)
  have c1 : w3.cell? ⟨w.heap.size + 1, 0, none⟩ = some (.int .u64 0) := by rw [cell_of_row _ _ _ _ _ _ p1]; rfl
  have f1 := frozen_of_row _ _ 0 _ _ p1
  have c2 : w3.cell? ⟨w.heap.size + 1 + 1, 0, none⟩ = some (.slice (some ⟨w.heap.size, 56, none⟩) 8 8) := by rw [cell_of_row _ _ _ _ _ _ p2]; rfl
  have c0 : ∀ j, j < 8 → w3.cell? ⟨w.heap.size, 56 + j, none⟩ = some (.int .u8 (((s.drop 56)[j]?.getD 0).toNat : Int)) := fun j hj => by
    rw [cell_of_row _ _ _ _ _ _ p0, HC.out, List.getElem?_toArray, bcells_get (by omega), List.getElem?_drop, List.getD_eq_getElem?_getD]
  rw [← hw3]
  refine wpIn_rangeFunc_ownF hro h1 (gf := 48) (lb := #[.pointer (some ⟨w.heap.size + 1 + 1, 0, none⟩)]) rfl h48 (enters_of Try.func48 (by kernel_rfl) rfl)
    (back_stops F (n - 1) h48 hro (by omega) (w.heap.size + 1 + 1) w.heap.size 56 8 8 (s.drop 56) (by omega) w3 (by omega) (by omega) c2 c0)
    (fun h k i hi => (k i hi).trans (h i hi)) (fun W l o o' hl _ _ _ i hi => World.putObj_heap_other (fun e => by
      have hi2 : i = w.heap.size ∨ i = w.heap.size + 1 + 1 := by simpa using hi
      omega)) (Below.refl _ _) (fun _ => rfl)
    (fun pre W => (W.cell? ⟨w.heap.size + 1, 0, none⟩ = some (.int .u64 (hiN pre : Int)) ∧ W.frozen? ⟨w.heap.size + 1, 0, none⟩ = false ∧ hiN pre < 256 ^ pre.length) ∧ RowKit.Below w.heap.size w W)
    (fun _ _ _ => False)
    (OwnFrom.and (Own.from (fun s A B row hs hg hr => ⟨cell_kept hs.1 hg hr, (frozen_kept hs.1 hg hr).trans hs.2.1, hs.2.2⟩) _) (ownFrom_below (Nat.le_refl _) (by omega)))
    (fun _ _ _ _ _ hs _ _ => hs)
    ⟨⟨c1, f1, by decide⟩, hB3⟩
    (fun x => { tmps := #[.agg C.toArray, .pointer (some ⟨w.heap.size, 0, none⟩), .int .u64 0, .pointer (some ⟨w.heap.size + 1, 0, none⟩), undef, .int .u8 (x.2.toNat : Int), .slice (some ⟨w.heap.size, 56, none⟩) 8 8, .func (.func 48) #[] #[.pointer (some ⟨w.heap.size + 1 + 1, 0, none⟩)], .int .i64 (x.1 : Int), .int .u8 (x.2.toNat : Int), undef, undef, undef, undef, undef, undef], defers := [] }) ?assign ?body ?done ?stop
  case assign =>
    intro l x W K hK
    gi_wp2
    exact hK
  case body =>
    rintro l pre x W ⟨⟨hc, hf, hlt⟩, hB⟩ hlen
    have HJ := Lib.hid (byte_join (b := x.2) (pow256 hlt hlen))
    have HLT := Lib.hid hlt
    gi_wp2
    rw [HJ.out]
    refine ⟨KeepsOthers.setCell _ _ _, ?_, ⟨?_, ?_, ?_⟩, hB.setCell (p := ⟨w.heap.size + 1, 0, none⟩) (by simp) _⟩
    · intro i hi
      have hi2 : i = w.heap.size ∨ i = w.heap.size + 1 + 1 := by simpa using hi
      exact heap_setCell_other _ _ _ _ (by show i ≠ w.heap.size + 1; omega)
    · rw [hiN_snoc]; exact World.cell?_setCell_same' _ _ _ (by rw [hc]; rfl)
    · rw [World.frozen?_setCell]; exact hf
    · have := HLT.out
      have := x.2.toNat_lt
      rw [hiN_snoc, List.length_append, List.length_singleton, Nat.pow_succ]
      omega
  case done =>
    rintro D ys W hD rfl ⟨⟨hc, _⟩, hB⟩ hK
    rw [hiN_downs (by rw [List.length_drop, hs])] at hc
    gi_wp2
    refine ⟨by simp, .inl ⟨_, _, rfl, run_takeDeferred hK, ?_⟩⟩
    exact ⟨_, results_tmp rfl _ _ _, rfl, hB.trans (belowK_b (w := w) (Nat.le_refl _) W D _ _ (by omega) hK rfl rfl)⟩
  case stop =>
    rintro D c pre W _ _ h _
    exact h.elim
theorem stampOf_any (s : Sec) (hs : s.length = 64) (w : World) : Calls Try.prog 30 #[.agg (bcells s).toArray] w fun e W' => e = .returned (.int .u64 (stN s : Int)) ∧ RowKit.Below w.heap.size w W' :=
  callsIn_wide.1 (stampOf_in Fence.wide 3 trivial trivial trivial rfl (by omega) s hs w)
end Go.Proofs.Ytoibonalgmmkbaa
