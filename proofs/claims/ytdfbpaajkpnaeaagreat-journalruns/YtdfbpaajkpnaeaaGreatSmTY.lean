
/- falseworkref09: Span, Number. falseworkref09: Sectors. falseworkref09: Sectors, walked. falseworkref09: Put. falseworkref09: Read. falseworkref09: Read, walked. -/
import Derived.Test.YtdfbpaajkpnaeaaGreatSmKQ
import Derived.Test.YtdfbpaajkpnaeaaGreatDkPV

namespace Go.Proofs.YtdfbpaajkpnaeaaGreat
set_option maxRecDepth 100000
open Go.RowKit Go.Lib

theorem rspan_any (n : Int) (w : World) : Calls Tryz.prog 61 #[.int .i64 n] w fun e w' => e = .returned (.int .i64 (spanI n)) ∧ w = w' := by
  by_cases h0 : n < 0
  · have d0 : decide (n < 0) = true := by simpa using h0
    have H := Lib.hid (show spanI n = 0 by unfold spanI; rw [if_neg (by omega)])
    clear h0
    go_enter Tryz.func61, Tryz.ntmps61
    go_wp2
    go_ret
    exact ⟨by rw [H.out]; rfl, rfl⟩
  · have d0 : decide (n < 0) = false := by simp; omega
    by_cases h1 : 13515 < n
    · have d1 : decide (13515 < n) = true := by simpa using h1
      have H := Lib.hid (show spanI n = 0 by unfold spanI spanN; rw [if_pos (by omega), if_neg (by omega)]; rfl)
      clear h0 h1
      go_enter Tryz.func61, Tryz.ntmps61
      go_wp2
      go_ret
      exact ⟨by rw [H.out]; rfl, rfl⟩
    · have d1 : decide (13515 < n) = false := by simp; omega
      obtain ⟨m, rfl⟩ : ∃ k : Nat, n = (k : Int) := ⟨n.toNat, by omega⟩
      have hm : m ≤ 13515 := by omega
      have HM := Lib.hid hm
      have HS := Lib.hid (show spanI (m : Int) = ((max 1 ((m + 52) / 53) : Nat) : Int) by rw [spanI_nat]; unfold spanN; rw [if_pos hm])
      clear h0 h1 hm
      go_enter Tryz.func61, Tryz.ntmps61
      go_wp2
      go_loopw [3] (fun c3 wr => ∃ k : Nat, c3 = .int .i64 (k : Int) ∧ 1 ≤ k ∧ (k = 1 ∨ 53 * (k - 1) < m) ∧ w = wr) (fun c3 _ => 14000 - (match c3 with | .int _ q => q | _ => 0).toNat)
      case atStart => exact ⟨1, rfl, Nat.le_refl _, Or.inl rfl, rfl⟩
      case round =>
        clear d0 d1
        obtain ⟨k, rfl, hk1, hk, rfl⟩ := hrel
        have hk3 : k ≤ 300 := by have := HM.out; omega
        have HK := Lib.hid hk
        clear hk
        by_cases hlt : 53 * k < m
        · have d0 : decide ((53 : Int) * (k : Int) < (m : Int)) = true := by simp; omega
          go_wp2
          go_roundw
          case rel => exact ⟨k + 1, by go_num, by omega, Or.inr (by omega), trivial⟩
          case measure => simp; omega
        · have d0 : decide ((53 : Int) * (k : Int) < (m : Int)) = false := by simp; omega
          have HR := Lib.hid (show spanI (m : Int) = (k : Int) by rw [HS.out]; have := HK.out; omega)
          clear hlt
          go_wp2
          go_ret
          exact ⟨by rw [HR.out]; rfl, rfl⟩
theorem num8_drop {s : Sec} {i : Nat} (hi : i < s.length) : num8 (s.drop i) = (s.getD i 0).toNat + 256 * num8 (s.drop (i + 1)) := by
  rw [List.drop_eq_getElem_cons hi, num8, List.getD, List.getElem?_eq_getElem hi]
  rfl
set_option maxRecDepth 100000 in
set_option maxHeartbeats 1600000 in
theorem snumber_any (s : Sec) (hs : s.length = 64) (w : World) : Calls Tryz.prog 75 #[.agg (bcells s).toArray] w fun e w' => e = .returned (.int .u64 (stN s : Int)) ∧ RowKit.Below w.heap.size w w' := by
  obtain ⟨c, hc⟩ : ∃ c, c = bcells s := ⟨_, rfl⟩
  have HC := Lib.hid hc
  have HS := Lib.hid hs
  obtain ⟨w1, hw1⟩ : ∃ w1, w1 = w.alloc (.cells c.toArray 88) := ⟨_, rfl⟩
  have HB1 := Lib.hid (show RowKit.Below w.heap.size w w1 by rw [hw1]; exact (RowKit.Below.refl _ _).alloc (Nat.le_refl _) _)
  have hp : w1.heap[w.heap.size]? = some (.cells c.toArray 88) := by rw [hw1]; exact blkn rfl
  have HX := Lib.hid (show ∀ k, k < 64 → w1.cell? ⟨w.heap.size, k, none⟩ = some (.int .u8 ((s.getD k 0).toNat : Int)) from fun k hk => by rw [cell_of_row _ _ _ _ _ _ hp, hc, List.getElem?_toArray, bcells_get (by omega)])
  have HW1 := Lib.hid hw1
  rw [← hc]
  clear hc hs hw1 hp
  go_enter Tryz.func75, Tryz.ntmps75
  go_wp2_with (with_reducible refine wpList_boxA rfl _ _ rfl _ rfl ?_)
  rw [← HW1.out]
  go_loopw [3, 4] (fun c3 c4 wr => ∃ (j : Nat) (z : Int), c3 = .int .u64 ((num8 (s.drop (56 + j)) : Nat) : Int) ∧ c4 = .int .i64 z ∧ z = 55 + (j : Int) ∧ j ≤ 8 ∧ wr = w1) (fun _ c4 _ => ((match c4 with | .int _ q => q | _ => 0) - 55).toNat)
  case atStart => exact ⟨8, 63, by rw [List.drop_of_length_le (by rw [HS.out]; omega)]; rfl, rfl, by omega, by omega, rfl⟩
  case round =>
    obtain ⟨j, z, rfl, rfl, hz, hj, rfl⟩ := hrel
    cases j with
    | succ j =>
      obtain rfl : z = ((56 + j : Nat) : Int) := by omega
      obtain ⟨m, hm⟩ : ∃ m, m = num8 (s.drop (56 + (j + 1))) := ⟨_, rfl⟩
      have hml : m < 72057594037927936 := by
        rw [hm]
        refine pow256 (n := 7 - j) (Nat.lt_of_lt_of_le (num8_lt _) (Nat.pow_le_pow_right (by omega) ?_)) (by omega)
        rw [List.length_drop, HS.out]; omega
      rw [← hm]
      obtain ⟨b, hb⟩ : ∃ b, b = s.getD (56 + j) 0 := ⟨_, rfl⟩
      have q := HX.out (56 + j) (by omega)
      rw [← hb] at q
      have HNX := Lib.hid (show num8 (s.drop (56 + j)) = m * 256 + b.toNat by rw [num8_drop (by rw [HS.out]; omega), hm, hb, show 56 + j + 1 = 56 + (j + 1) by omega]; omega)
      have hbl := b.toNat_lt
      have e1 : IntKind.u64.wrap ((m : Int) * 256) = (m : Int) * 256 := by rw [IntKind.wrap_u64]; omega
      have e2 : IntKind.u64.wrap ((m : Int) * 256 + (b.toNat : Int)) = (m : Int) * 256 + (b.toNat : Int) := by rw [IntKind.wrap_u64]; omega
      have e3 : IntKind.u64.wrap ((b.toNat : Int)) = ((b.toNat : Nat) : Int) := by rw [IntKind.wrap_u64]; omega
      have d0 : decide ((56 : Int) ≤ ((56 + j : Nat) : Int)) = true := by simp; omega
      clear hz hm hml hb hbl
      go_wp2
      go_roundw
      case rel => exact ⟨j, 55 + (j : Int), by rw [HNX.out, Int.natCast_add, Int.natCast_mul]; rfl, by go_num, rfl, by omega, trivial⟩
      case measure => simp; omega
    | zero =>
      have d0 : decide ((56 : Int) ≤ z) = false := by simp; omega
      obtain ⟨m, hm⟩ : ∃ m, m = num8 (s.drop (56 + 0)) := ⟨_, rfl⟩
      have HR := Lib.hid (show stN s = m by rw [hm]; rfl)
      rw [← hm]
      clear hz hm
      go_wp2
      go_ret
      exact ⟨by rw [HR.out]; rfl, HB1.out⟩
end Go.Proofs.YtdfbpaajkpnaeaaGreat

namespace Go.Proofs.YtdfbpaajkpnaeaaGreat
set_option maxRecDepth 100000
open Go.RowKit Go.Lib

/-- block b is one sector -/
def BRow (w : World) (b : Nat) (s : Sec) : Prop := w.heap[b]? = some (.cells (bcells s).toArray 88)
theorem Only.cell1 {w : World} {b k : Nat} {v : Value} : Only (fun i => i = b) w (w.setCell ⟨b, k, none⟩ v) :=
  ⟨rfl, rfl, rfl, by simp, fun i _ hn => heap_setCell_other _ _ _ _ hn⟩
theorem BRow.set {w : World} {b k : Nat} {s : Sec} (h : BRow w b s) (c : UInt8) : BRow (w.setCell ⟨b, k, none⟩ (.int .u8 (c.toNat : Int))) b (s.set k c) := by
  unfold BRow at *
  rw [heap_setCell_same _ _ _ _ _ _ h]
  simp [bcells, List.map_set]
theorem BRow.cell {w : World} {b k : Nat} {s : Sec} (h : BRow w b s) (hk : k < s.length) : w.cell? ⟨b, k, none⟩ = some (.int .u8 ((s.getD k 0).toNat : Int)) := by
  rw [cell_of_row _ _ _ _ _ _ h, List.getElem?_toArray, bcells_get hk]
theorem wp_byte1 {o : Oper} {a : Act} {w : World} {K : Act → World → Prop} {Q : Exit → Act → World → Prop} (x y : Operand) (ho : o.op = .store 5 x y) {b k off : Nat} {s : Sec} {c : UInt8} {v : Int} (hx : a.eval x = .pointer (some ⟨b, off, none⟩)) (hy : a.eval y = .int .u8 v) (hoff : off = k) (hv : v = (c.toNat : Int))
    (hr : BRow w b s) (hk : k < s.length) (h : ∀ W', BRow W' b (s.set k c) → Only (fun i => i = b) w W' → W'.heap.size = w.heap.size → K (a.put o.dst undef) W') : o.wp Tryz.prog a w K Q := by
  subst hoff hv
  exact wp_store1 _ x y ho ⟨b, off, none⟩ .u8 _ _ hx hy siz1 (hr.cell hk) (frozen_of_row _ _ _ _ _ hr) (h _ (hr.set c) Only.cell1 (by simp))
theorem wpList_byte1 {ops : Array Oper} {rest : List Oper} {o : Oper} {a : Act} {w : World} {Q : Exit → Act → World → Prop} (hgd : o.guard = none) (x y : Operand) (ho : o.op = .store 5 x y) {b k off : Nat} {s : Sec} {c : UInt8} {v : Int} (hx : a.eval x = .pointer (some ⟨b, off, none⟩)) (hy : a.eval y = .int .u8 v) (hoff : off = k) (hv : v = (c.toNat : Int))
    (hr : BRow w b s) (hk : k < s.length) (h : ∀ W', BRow W' b (s.set k c) → Only (fun i => i = b) w W' → W'.heap.size = w.heap.size → wpList Tryz.prog ops Q rest (a.put o.dst undef) W') : wpList Tryz.prog ops Q (o :: rest) a w :=
  wpList_plain hgd fun _ hK => wp_byte1 x y ho hx hy hoff hv hr hk fun W' h1 h2 h3 => hK _ _ (h W' h1 h2 h3)
theorem wpList_lit {t e : TypeId} {size bytes : Nat} (E : El t e size bytes) {ops : Array Oper} {rest : List Oper} {o : Oper} {a : Act} {w : World} {Q : Exit → Act → World → Prop} (hgd : o.guard = none) (ho : o.op = .buildSlice t 0 #[]) (h : wpList Tryz.prog ops Q rest (a.put o.dst (.slice (some ⟨w.heap.size, 0, none⟩) 0 0)) (w.alloc (.cells #[] e))) : wpList Tryz.prog ops Q (o :: rest) a w :=
  wpList_plain hgd fun _ hK => wp_lit E ho (hK _ _ h)
theorem own_lit (w : World) (base : Nat) (e : TypeId) (size : Nat) (hb : base ≤ w.heap.size) : (w.alloc (.cells #[] e)).ownsRow base e size (.slice (some ⟨w.heap.size, 0, none⟩) 0 0) 0 [] := by
  have := World.ownsRow_lit (base := base) (e := e) (size := size) w #[] 0 hb (by unfold maxLen; omega) (by simp)
  simpa using this
/-- so far: k bytes -/
def midS (i many : Nat) (p : List UInt8) (k : Nat) : Sec := [UInt8.ofNat i, UInt8.ofNat many, UInt8.ofNat k] ++ (p.take k ++ List.replicate (61 - k) 0)
theorem midS_len {i many : Nat} {p : List UInt8} {k : Nat} (hk : k ≤ p.length) (hp : p.length ≤ 53) : (midS i many p k).length = 64 := by simp [midS]; omega
theorem midS_two (i many : Nat) (p : List UInt8) (k : Nat) : (midS i many p k).getD 2 0 = UInt8.ofNat k := by simp [midS]
theorem midS_next {i many : Nat} {p : List UInt8} {k : Nat} (hk : k < p.length) (hp : p.length ≤ 53) : ((midS i many p k).set 2 (UInt8.ofNat (k + 1))).set (3 + k) (p.getD k 0) = midS i many p (k + 1) := by
  have hk2 : (p.take k).length = k := by rw [List.length_take]; omega
  have e1 : (midS i many p k).set 2 (UInt8.ofNat (k + 1)) = [UInt8.ofNat i, UInt8.ofNat many, UInt8.ofNat (k + 1)] ++ (p.take k ++ List.replicate (61 - k) 0) := by simp [midS]
  rw [e1, List.set_append_right _ _ (by simp), show 3 + k - [UInt8.ofNat i, UInt8.ofNat many, UInt8.ofNat (k + 1)].length = k by simp, List.set_append_right _ _ (by omega), hk2, Nat.sub_self, show 61 - k = (60 - k) + 1 by omega, List.replicate_succ]
  unfold midS
  rw [show 61 - (k + 1) = 60 - k by omega, List.take_add_one, List.getElem?_eq_getElem hk, List.getD, List.getElem?_eq_getElem hk]
  simp only [List.set_cons_zero, Option.getD_some, Option.toList_some, List.append_assoc, List.singleton_append]
def numS (i many : Nat) (p : List UInt8) (n j : Nat) : Sec := ([UInt8.ofNat i, UInt8.ofNat many, UInt8.ofNat p.length] ++ (p ++ List.replicate (53 - p.length) 0)) ++ ((le8 8 n).take j ++ (List.replicate 8 (0 : UInt8)).drop j)
theorem numS_zero {i many : Nat} {p : List UInt8} {n : Nat} (hp : p.length ≤ 53) : midS i many p p.length = numS i many p n 0 := by
  unfold midS numS
  rw [List.take_length, List.take_zero, List.drop_zero, List.nil_append, show 61 - p.length = (53 - p.length) + 8 by omega, ← List.replicate_append_replicate]
  simp
theorem numS_len {i many : Nat} {p : List UInt8} {n j : Nat} (hp : p.length ≤ 53) (hj : j ≤ 8) : (numS i many p n j).length = 64 := by simp [numS, le8_len]; omega
theorem numS_next {i many : Nat} {p : List UInt8} {n j : Nat} (hp : p.length ≤ 53) (hj : j < 8) : (numS i many p n j).set (56 + j) (UInt8.ofNat (n / 256 ^ j % 256)) = numS i many p n (j + 1) :=
  stamp_step (by simp; omega) hj _ (by simp)
theorem numS_all {i many : Nat} {p : List UInt8} {n : Nat} : numS i many p n 8 = mkS i many p n := by
  unfold numS mkS
  rw [List.take_of_length_le (by rw [le8_len]; omega), List.drop_of_length_le (by simp), List.append_nil]
end Go.Proofs.YtdfbpaajkpnaeaaGreat

namespace Go.Proofs.YtdfbpaajkpnaeaaGreat
set_option maxRecDepth 100000
open Go.RowKit Go.Lib

theorem elB : El 23 5 1 1 := ⟨Tryz.underlying23, inf_of (z := .int .u8 0) (by kernel_rfl) rfl, by decide⟩
theorem secs_take {n : Nat} {l : List UInt8} {i : Nat} (h : i < spanN l.length) : (secs n l).take (i + 1) = (secs n l).take i ++ [secOf n l i] := by
  rw [List.take_add_one, secs_get h]; rfl
set_option maxRecDepth 100000 in
set_option maxHeartbeats 6400000 in
theorem rsectors_any (n : Nat) (l : List UInt8) (a : Option Addr) (len cap : Nat) (w : World) (hn : n < 18446744073709551616) (hb : BAt w a l) (hl : l.length = len) (hlen : len ≤ 13515) :
    Calls Tryz.prog 76 #[.int .u64 (n : Int), .slice a len cap] w (LayRes (secs n l) w) := by
  have HL := Lib.hid hl
  have HB := Lib.hid hb
  have HN := Lib.hid hn
  obtain ⟨N, hN⟩ : ∃ N, N = spanN l.length := ⟨_, rfl⟩
  have HNE := Lib.hid hN
  have hN255 : N ≤ 255 := by rw [hN]; exact spanN_le _
  have HSP := Lib.hid (show ∀ W, Calls Tryz.prog 61 #[.int .i64 (len : Int)] W fun e W' => e = .returned (.int .i64 (N : Int)) ∧ W = W' from fun W => by
    have := rspan_any (len : Int) W
    rw [spanI_nat, ← hl, ← hN] at this
    rw [← hl]
    exact this)
  obtain ⟨w1, hw1⟩ : ∃ w1, w1 = w.alloc (.cells #[] 88) := ⟨_, rfl⟩
  have HW1 := Lib.hid hw1
  have HO1 := Lib.hid (show w1.ownsRow w.heap.size 88 64 (.slice (some ⟨w.heap.size, 0, none⟩) 0 0) 0 (scells ((secs n l).take 0)) by rw [hw1]; exact own_lit w w.heap.size _ 64 (Nat.le_refl _))
  have HB1 := Lib.hid (show RowKit.Below w.heap.size w w1 by rw [hw1]; exact (RowKit.Below.refl _ _).alloc (Nat.le_refl _) _)
  clear hn hb hl hN hw1
  go_enter Tryz.func76, Tryz.ntmps76
  go_wp2_with (with_reducible refine wpList_lit elS rfl rfl ?_)
  rw [← HW1.out]
  refine (HSP.out _).mono ?_
  rintro _ _ ⟨rfl, rfl⟩
  go_wp2
  go_loopw [5, 7] (fun c5 c7 wr => ∃ (i : Nat) (v : Value), v = c5 ∧ c7 = .int .i64 (i : Int) ∧ i ≤ N ∧ wr.ownsRow w.heap.size 88 64 v i (scells ((secs n l).take i)) ∧ RowKit.Below w.heap.size w wr) (fun _ c7 _ => N - (match c7 with | .int _ q => q | _ => 0).toNat)
  case atStart => exact ⟨0, _, rfl, rfl, Nat.zero_le _, HO1.out, HB1.out⟩
  case round =>
    obtain ⟨i, v5, rfl, rfl, hi, ho, hbl⟩ := hrel
    have HO := Lib.hid ho
    have HBL := Lib.hid hbl
    clear ho hbl
    by_cases hlt : i < N
    · obtain ⟨wo, rfl⟩ : ∃ wo, wo = wr := ⟨_, rfl⟩
      have hiN : i < spanN l.length := by rw [← HNE.out]; exact hlt
      have HIN := Lib.hid hiN
      obtain ⟨w3, hw3⟩ : ∃ w3, w3 = wo.alloc (.cells zc.toArray 88) := ⟨_, rfl⟩
      have HW3 := Lib.hid (show (wo.alloc (.cells zc.toArray 88)).setRow wo.heap.size zc.toArray = w3 by rw [hw3]; exact setRow_new rfl)
      have HAL := Lib.hid (heap_alloc_new wo (.cells zc.toArray 88))
      have HR3 := Lib.hid (show BRow w3 wo.heap.size zsec by unfold BRow; rw [hw3]; exact blkn rfl)
      have HB3 := Lib.hid (show RowKit.Below wo.heap.size wo w3 by rw [hw3]; exact (RowKit.Below.refl _ _).alloc (Nat.le_refl _) _)
      have HZ0 := Lib.hid (show (zsec.set 0 (UInt8.ofNat i)).set 1 (UInt8.ofNat N) = midS i N (piece l i) 0 by unfold midS; rw [List.take_zero]; rfl)
      have HVA := Lib.hid (show ((i : Int)) = ((UInt8.ofNat i).toNat : Int) by rw [UInt8.toNat_ofNat']; omega)
      have HVB := Lib.hid (show ((N : Int)) = ((UInt8.ofNat N).toNat : Int) by rw [UInt8.toNat_ofNat']; omega)
      have HK1 := Lib.hid (show 1 < (zsec.set 0 (UInt8.ofNat i)).length by rw [List.length_set]; decide)
      have HPL := Lib.hid (piece_le l i)
      obtain ⟨p, hp⟩ : ∃ p, p = piece l i := ⟨_, rfl⟩
      have HPE := Lib.hid hp
      rw [← hp] at HZ0 HPL
      obtain ⟨P, hP⟩ : ∃ P, P = p.length := ⟨_, rfl⟩
      have HPP := Lib.hid hP
      have hPv : (P : Int) = min 53 ((len : Int) - 53 * (i : Int)) ∧ 0 ≤ (len : Int) - 53 * (i : Int) := by
        have h1 : l.length ≤ 13515 := by rw [HL.out]; exact hlen
        have h2 := spanN_lo h1
        have h3 : 53 * i ≤ 53 * (spanN l.length - 1) := Nat.mul_le_mul_left _ (by omega)
        have h4 := piece_len l i
        rw [← hp, HL.out] at h4
        rw [hP, h4]
        rw [HL.out] at h2 h3
        omega
      have HPV := Lib.hid hPv
      clear hw3 hiN hp hP hPv hi
      go_wp2_with (first | ((with_reducible refine wpList_byte1 rfl _ _ rfl (k := 1) (c := UInt8.ofNat N) rfl rfl rfl HVB.out HR4.out HK1.out ?_); intro W5 k1 k2 k3; rw [HZ0.out] at k1; have HR5 := Lib.hid k1; have HO5 := Lib.hid (HO4.out.trans k2 (fun _ e => Or.inl e)); clear k1 k2 k3) | ((with_reducible refine wpList_byte1 rfl _ _ rfl (k := 0) (c := UInt8.ofNat i) rfl rfl rfl HVA.out HR3.out (by decide) ?_); intro W4 k1 k2 k3; have HR4 := Lib.hid k1; have HO4 := Lib.hid k2; clear k1 k2 k3) | ((with_reducible refine wpList_storeW rfl isS _ _ rfl wo.heap.size zc zc.toArray _ rfl rfl HAL.out cs_zc (by simp [zc_len]) ?_); rw [HW3.out]) | (with_reducible refine wpList_allocA rfl isS rfl ?_) | (with_reducible refine wpList_buildZ rfl rfl ?_))
      go_loopw [9] (fun c9 wr => ∃ k : Nat, c9 = .int .i64 (k : Int) ∧ k ≤ P ∧ BRow wr wo.heap.size (midS i N p k) ∧ Only (fun b => b = wo.heap.size) w3 wr) (fun c9 _ => P - (match c9 with | .int _ q => q | _ => 0).toNat)
      case atStart => exact ⟨0, rfl, Nat.zero_le _, HR5.out, HO5.out⟩
      case round =>
        obtain ⟨k, rfl, hk, hr, hon⟩ := hrel
        have HR := Lib.hid hr
        have HON := Lib.hid hon
        clear hr hon
        by_cases hkP : k < P
        · have HBW := Lib.hid (HON.out.below (HBL.out.trans (HB3.out.mono HBL.out.size)) (fun b e => by subst e; exact HBL.out.size) (Nat.le_trans HBL.out.size HB3.out.size))
          have hk53 : k < 53 := by have := HPP.out; have := HPL.out; omega
          have d0 : decide ((k : Int) < 53) = true := by simp; omega
          have hix : 53 * i + k < len := by have := HPV.out; omega
          have d1 : decide ((53 : Int) * (i : Int) + (k : Int) < (len : Int)) = true := by simp; omega
          obtain ⟨bb, ob, ha, hbb, hcs⟩ : ∃ bb ob, a = some ⟨bb, ob, none⟩ ∧ bb < w.heap.size ∧ ∀ j, j < l.length → w.cell? ⟨bb, ob + j, none⟩ = some (.int .u8 ((l.getD j 0).toNat : Int)) := by
            rcases HB.out with h | h
            · have := HL.out; rw [h] at this; simp at this; omega
            · exact h
          obtain ⟨b8, hb8⟩ : ∃ b8, b8 = l.getD (53 * i + k) 0 := ⟨_, rfl⟩
          have hbp : p.getD k 0 = b8 := by
            rw [HPE.out, hb8]
            unfold piece
            rw [List.getD, List.getD, List.getElem?_take_of_lt (by omega), List.getElem?_drop]
          have HCW := Lib.hid (hcs (53 * i + k) (by rw [HL.out]; exact hix))
          rw [← hb8] at HCW
          have HNB := Lib.hid (show bb ≠ wo.heap.size by have := HBL.out.size; omega)
          have HBB := Lib.hid hbb
          have q2 : wr.cell? ⟨wo.heap.size, 2, none⟩ = some (.int .u8 (k : Int)) := by
            have := HR.out.cell (k := 2) (by rw [midS_len (by rw [← HPP.out]; exact hk) HPL.out]; omega)
            rw [midS_two, UInt8.toNat_ofNat'] at this
            rw [this]; congr 2; omega
          have HV2 := Lib.hid (show (k : Int) + 1 = ((UInt8.ofNat (k + 1)).toNat : Int) by rw [UInt8.toNat_ofNat']; omega)
          have HK2 := Lib.hid (show 2 < (midS i N p k).length by rw [midS_len (by rw [← HPP.out]; exact hk) HPL.out]; omega)
          have HK3 := Lib.hid (show 3 + k < ((midS i N p k).set 2 (UInt8.ofNat (k + 1))).length by rw [List.length_set, midS_len (by rw [← HPP.out]; exact hk) HPL.out]; omega)
          have HNXT := Lib.hid (show ((midS i N p k).set 2 (UInt8.ofNat (k + 1))).set (3 + k) b8 = midS i N p (k + 1) by rw [← hbp]; exact midS_next (by rw [← HPP.out]; exact hkP) HPL.out)
          have hidx : ∀ W, (Instr.indexAt 23 (.slice (some ⟨bb, ob, none⟩) len cap) (.int .i64 ((53 : Int) * (i : Int) + (k : Int)))).run Tryz.prog W = .ok (.pointer (some ⟨bb, ob + (53 * i + k), none⟩)) W := fun W => by
            have := run_idx elB (b := bb) (off := ob) (n := len) (cap := cap) (k := .i64) (i := (53 : Int) * (i : Int) + (k : Int)) (j := 53 * i + k) (by omega) hix W
            rw [Nat.mul_one] at this; exact this
          subst ha
          clear hbb hcs hb8 hbp
          go_wp2_with (first | ((with_reducible refine wpList_byte1 rfl _ _ rfl (k := 3 + k) (c := b8) rfl rfl rfl rfl HR6.out HK3.out ?_); intro W7 k1 k2 k3; rw [HNXT.out] at k1; have HR7 := Lib.hid k1; have HO7 := Lib.hid (HO6.out.trans k2 (fun _ e => Or.inl e)); clear k1 k2 k3) | ((with_reducible refine wpList_byte1 rfl _ _ rfl (k := 2) (c := UInt8.ofNat (k + 1)) rfl rfl rfl HV2.out HR.out HK2.out ?_); intro W6 k1 k2 k3; have HR6 := Lib.hid k1; have HO6 := Lib.hid (HON.out.trans k2 (fun _ e => Or.inl e)); have q6 : W6.cell? ⟨bb, ob + (53 * i + k), none⟩ = some (.int .u8 (b8.toNat : Int)) := ((World.cell?_of_block (a := ⟨bb, ob + (53 * i + k), none⟩) ((k2.block bb (Nat.lt_of_lt_of_le HBB.out HBW.out.size) HNB.out).trans (HBW.out.block bb HBB.out))).trans HCW.out); clear k1 k2 k3))
          go_roundw
          case rel => exact ⟨k + 1, by go_num, by omega, HR7.out, HO7.out⟩
          case measure => simp; omega
        · obtain rfl : k = P := by omega
          have hcs : (k : Int) = 53 ∨ ((k : Int) < 53 ∧ (53 : Int) * (i : Int) + (k : Int) = (len : Int)) := by have := HPV.out; omega
          rcases hcs with hq | ⟨hq, hq2⟩
          · have d0 : decide ((k : Int) < 53) = false := by simp; omega
            clear hq
            have HR0 := Lib.hid (show BRow wr wo.heap.size (numS i N p n 0) by have := HR.out; rw [HPP.out, numS_zero (n := n) HPL.out] at this; exact this)
            clear hk
            go_wp2
            go_loopw [10, 11] (fun c10 c11 wr => ∃ j : Nat, c10 = .int .u64 ((n / 256 ^ j : Nat) : Int) ∧ c11 = .int .i64 ((56 + j : Nat) : Int) ∧ j ≤ 8 ∧ BRow wr wo.heap.size (numS i N p n j) ∧ Only (fun b => b = wo.heap.size) w3 wr) (fun _ c11 _ => 64 - (match c11 with | .int _ q => q | _ => 0).toNat)
            case atStart => exact ⟨0, by simp, rfl, by omega, HR0.out, HON.out⟩
            case round =>
              clear HR HON HR0
              obtain ⟨j, rfl, rfl, hj, hr, hon⟩ := hrel
              have HR := Lib.hid hr
              have HON := Lib.hid hon
              clear hr hon
              by_cases hj8 : j < 8
              · obtain ⟨m, hm⟩ : ∃ m, m = n / 256 ^ j := ⟨_, rfl⟩
                have hml : m < 18446744073709551616 := by rw [hm]; exact Nat.lt_of_le_of_lt (Nat.div_le_self _ _) HN.out
                rw [← hm]
                have HVM := Lib.hid (show (m : Int) % 256 = ((UInt8.ofNat (n / 256 ^ j % 256)).toNat : Int) by rw [← hm, UInt8.toNat_ofNat']; omega)
                have HME := Lib.hid (show n / 256 ^ (j + 1) = m / 256 by rw [Nat.pow_succ, ← Nat.div_div_eq_div_mul, ← hm])
                have HKJ := Lib.hid (show 56 + j < (numS i N p n j).length by rw [numS_len HPL.out hj]; omega)
                have HNXT := Lib.hid (numS_next (i := i) (many := N) (n := n) HPL.out hj8)
                have d5 : decide (((56 + j : Nat) : Int) < 64) = true := by simp; omega
                have qm : IntKind.u64.wrap ((m : Int) / 256) = (m : Int) / 256 := by rw [IntKind.wrap_u64]; omega
                clear hm hml
                go_wp2_with ((with_reducible refine wpList_byte1 rfl _ _ rfl (k := 56 + j) (c := UInt8.ofNat (n / 256 ^ j % 256)) rfl rfl rfl ?hv HR.out HKJ.out ?_); (case hv => first | exact HVM.out | (rw [← HVM.out]; simp; done)); intro W7 k1 k2 k3; rw [HNXT.out] at k1; have HR7 := Lib.hid k1; have HO7 := Lib.hid (HON.out.trans k2 (fun _ e => Or.inl e)); clear k1 k2 k3)
                go_roundw
                case rel => exact ⟨j + 1, by rw [HME.out]; rfl, by go_num, by omega, HR7.out, HO7.out⟩
                case measure => simp; omega
              · obtain rfl : j = 8 := by omega
                obtain ⟨m, hm⟩ : ∃ m, m = n / 256 ^ 8 := ⟨_, rfl⟩
                rw [← hm]
                obtain ⟨c, hc⟩ : ∃ c, c = bcells (secOf n l i) := ⟨_, rfl⟩
                have HG := Lib.hid (show wr.heap[wo.heap.size]? = some (.cells c.toArray 88) by have := HR.out; rw [numS_all] at this; rw [hc]; unfold secOf; rw [← HPE.out, ← HNE.out]; exact this)
                have HCC := Lib.hid (show Cs 64 c by rw [hc]; exact cs_sec (secOf_len _ _ _))
                obtain ⟨w8, hw8⟩ : ∃ w8, w8 = wr.alloc (.cells c.toArray 88) := ⟨_, rfl⟩
                have HW8 := Lib.hid hw8.symm
                have hb8 : RowKit.Below wr.heap.size wr w8 := by rw [hw8]; exact (RowKit.Below.refl _ _).alloc (Nat.le_refl _) _
                have HBW := Lib.hid (HON.out.below (HBL.out.trans (HB3.out.mono HBL.out.size)) (fun b e => by subst e; exact HBL.out.size) (Nat.le_trans HBL.out.size HB3.out.size))
                have HB8 := Lib.hid (HBW.out.trans (hb8.mono HBW.out.size))
                have HO8 := Lib.hid (show w8.ownsRow w.heap.size 88 64 v5 i (scells ((secs n l).take i)) from ow_same HO.out fun b hb => by
                  have hlt' := (HO.out.lt b hb).2
                  have hl3 := Nat.lt_of_lt_of_le hlt' HB3.out.size
                  rw [hb8.block b (Nat.lt_of_lt_of_le hl3 HON.out.size), HON.out.block b hl3 (by show ¬ b = wo.heap.size; omega), HB3.out.block b hlt'])
                have HLN := Lib.hid (show Lie w8 (some ⟨wr.heap.size, 0, none⟩) c by rw [hw8]; exact lie_new wr c _)
                have HCL := Lib.hid (show c.length = 1 * 64 by rw [Nat.one_mul]; exact HCC.out.len)
                have HSZ8 := Lib.hid HB8.out.size
                have HI1 := Lib.hid (show i + 1 ≤ 1000000 by omega)
                have HCO := Lib.hid HCC.out.one
                have HNI := Lib.hid (show (some ⟨wr.heap.size, 0, none⟩ : Option Addr) = none → 1 = 0 from fun e => by cases e)
                have HTK := Lib.hid (show scells ((secs n l).take i) ++ c = scells ((secs n l).take (i + 1)) by rw [secs_take HIN.out, scells_app, scells_sing, hc])
                have HCLE := Lib.hid HCC.out.len
                clear hj hj8 hm hc hw8 hb8
                go_wp2_with (first | (with_reducible refine wpList_appO elS rfl _ _ rfl w.heap.size v5 i (scells ((secs n l).take i)) (some ⟨wr.heap.size, 0, none⟩) 1 1 c rfl rfl HO8.out HCL.out HLN.out HNI.out HCO.out HI1.out (by decide) HSZ8.out (fun v9 w9 h9 => ?_)) | ((with_reducible refine wpList_one elS rfl _ rfl c rfl HCLE.out (by decide) ?_); rw [HW8.out]) | (with_reducible refine wpList_loadW rfl isS _ rfl wo.heap.size c _ rfl HG.out HCC.out ?_))
                have HO9 := Lib.hid (show w9.ownsRow w.heap.size 88 64 v9 (i + 1) (scells ((secs n l).take (i + 1))) by rw [← HTK.out]; exact h9.1)
                have HB9 := Lib.hid (below_appd h9 HB8.out HB8.out.size (fun b hb => (HO8.out.lt b hb).1))
                clear h9
                go_wp2_with fail
                go_roundw
                case rel => exact ⟨i + 1, v9, rfl, by go_num, by omega, HO9.out, HB9.out⟩
                case measure => simp; omega

          · have d0 : decide ((k : Int) < 53) = true := by simp; omega
            have d1 : decide ((53 : Int) * (i : Int) + (k : Int) < (len : Int)) = false := by simp; omega
            have hk53 : k < 53 := by omega
            clear hq hq2
            have HR0 := Lib.hid (show BRow wr wo.heap.size (numS i N p n 0) by have := HR.out; rw [HPP.out, numS_zero (n := n) HPL.out] at this; exact this)
            clear hk
            go_wp2
            go_loopw [10, 11] (fun c10 c11 wr => ∃ j : Nat, c10 = .int .u64 ((n / 256 ^ j : Nat) : Int) ∧ c11 = .int .i64 ((56 + j : Nat) : Int) ∧ j ≤ 8 ∧ BRow wr wo.heap.size (numS i N p n j) ∧ Only (fun b => b = wo.heap.size) w3 wr) (fun _ c11 _ => 64 - (match c11 with | .int _ q => q | _ => 0).toNat)
            case atStart => exact ⟨0, by simp, rfl, by omega, HR0.out, HON.out⟩
            case round =>
              clear HR HON HR0
              obtain ⟨j, rfl, rfl, hj, hr, hon⟩ := hrel
              have HR := Lib.hid hr
              have HON := Lib.hid hon
              clear hr hon
              by_cases hj8 : j < 8
              · obtain ⟨m, hm⟩ : ∃ m, m = n / 256 ^ j := ⟨_, rfl⟩
                have hml : m < 18446744073709551616 := by rw [hm]; exact Nat.lt_of_le_of_lt (Nat.div_le_self _ _) HN.out
                rw [← hm]
                have HVM := Lib.hid (show (m : Int) % 256 = ((UInt8.ofNat (n / 256 ^ j % 256)).toNat : Int) by rw [← hm, UInt8.toNat_ofNat']; omega)
                have HME := Lib.hid (show n / 256 ^ (j + 1) = m / 256 by rw [Nat.pow_succ, ← Nat.div_div_eq_div_mul, ← hm])
                have HKJ := Lib.hid (show 56 + j < (numS i N p n j).length by rw [numS_len HPL.out hj]; omega)
                have HNXT := Lib.hid (numS_next (i := i) (many := N) (n := n) HPL.out hj8)
                have d5 : decide (((56 + j : Nat) : Int) < 64) = true := by simp; omega
                have qm : IntKind.u64.wrap ((m : Int) / 256) = (m : Int) / 256 := by rw [IntKind.wrap_u64]; omega
                clear hm hml
                go_wp2_with ((with_reducible refine wpList_byte1 rfl _ _ rfl (k := 56 + j) (c := UInt8.ofNat (n / 256 ^ j % 256)) rfl rfl rfl ?hv HR.out HKJ.out ?_); (case hv => first | exact HVM.out | (rw [← HVM.out]; simp; done)); intro W7 k1 k2 k3; rw [HNXT.out] at k1; have HR7 := Lib.hid k1; have HO7 := Lib.hid (HON.out.trans k2 (fun _ e => Or.inl e)); clear k1 k2 k3)
                go_roundw
                case rel => exact ⟨j + 1, by rw [HME.out]; rfl, by go_num, by omega, HR7.out, HO7.out⟩
                case measure => simp; omega
              · obtain rfl : j = 8 := by omega
                obtain ⟨m, hm⟩ : ∃ m, m = n / 256 ^ 8 := ⟨_, rfl⟩
                rw [← hm]
                obtain ⟨c, hc⟩ : ∃ c, c = bcells (secOf n l i) := ⟨_, rfl⟩
                have HG := Lib.hid (show wr.heap[wo.heap.size]? = some (.cells c.toArray 88) by have := HR.out; rw [numS_all] at this; rw [hc]; unfold secOf; rw [← HPE.out, ← HNE.out]; exact this)
                have HCC := Lib.hid (show Cs 64 c by rw [hc]; exact cs_sec (secOf_len _ _ _))
                obtain ⟨w8, hw8⟩ : ∃ w8, w8 = wr.alloc (.cells c.toArray 88) := ⟨_, rfl⟩
                have HW8 := Lib.hid hw8.symm
                have hb8 : RowKit.Below wr.heap.size wr w8 := by rw [hw8]; exact (RowKit.Below.refl _ _).alloc (Nat.le_refl _) _
                have HBW := Lib.hid (HON.out.below (HBL.out.trans (HB3.out.mono HBL.out.size)) (fun b e => by subst e; exact HBL.out.size) (Nat.le_trans HBL.out.size HB3.out.size))
                have HB8 := Lib.hid (HBW.out.trans (hb8.mono HBW.out.size))
                have HO8 := Lib.hid (show w8.ownsRow w.heap.size 88 64 v5 i (scells ((secs n l).take i)) from ow_same HO.out fun b hb => by
                  have hlt' := (HO.out.lt b hb).2
                  have hl3 := Nat.lt_of_lt_of_le hlt' HB3.out.size
                  rw [hb8.block b (Nat.lt_of_lt_of_le hl3 HON.out.size), HON.out.block b hl3 (by show ¬ b = wo.heap.size; omega), HB3.out.block b hlt'])
                have HLN := Lib.hid (show Lie w8 (some ⟨wr.heap.size, 0, none⟩) c by rw [hw8]; exact lie_new wr c _)
                have HCL := Lib.hid (show c.length = 1 * 64 by rw [Nat.one_mul]; exact HCC.out.len)
                have HSZ8 := Lib.hid HB8.out.size
                have HI1 := Lib.hid (show i + 1 ≤ 1000000 by omega)
                have HCO := Lib.hid HCC.out.one
                have HNI := Lib.hid (show (some ⟨wr.heap.size, 0, none⟩ : Option Addr) = none → 1 = 0 from fun e => by cases e)
                have HTK := Lib.hid (show scells ((secs n l).take i) ++ c = scells ((secs n l).take (i + 1)) by rw [secs_take HIN.out, scells_app, scells_sing, hc])
                have HCLE := Lib.hid HCC.out.len
                clear hj hj8 hm hc hw8 hb8
                go_wp2_with (first | (with_reducible refine wpList_appO elS rfl _ _ rfl w.heap.size v5 i (scells ((secs n l).take i)) (some ⟨wr.heap.size, 0, none⟩) 1 1 c rfl rfl HO8.out HCL.out HLN.out HNI.out HCO.out HI1.out (by decide) HSZ8.out (fun v9 w9 h9 => ?_)) | ((with_reducible refine wpList_one elS rfl _ rfl c rfl HCLE.out (by decide) ?_); rw [HW8.out]) | (with_reducible refine wpList_loadW rfl isS _ rfl wo.heap.size c _ rfl HG.out HCC.out ?_))
                have HO9 := Lib.hid (show w9.ownsRow w.heap.size 88 64 v9 (i + 1) (scells ((secs n l).take (i + 1))) by rw [← HTK.out]; exact h9.1)
                have HB9 := Lib.hid (below_appd h9 HB8.out HB8.out.size (fun b hb => (HO8.out.lt b hb).1))
                clear h9
                go_wp2_with fail
                go_roundw
                case rel => exact ⟨i + 1, v9, rfl, by go_num, by omega, HO9.out, HB9.out⟩
                case measure => simp; omega

    · obtain rfl : i = N := by omega
      have HFIN := Lib.hid (show LayRes (secs n l) w (.returned v5) wr from by
        have ho := HO.out
        rw [List.take_of_length_le (by rw [secs_length, ← HNE.out]; exact Nat.le_refl _)] at ho
        obtain ⟨a', cap', hv, hli, hle, hnn⟩ := ow_lie ho
        refine ⟨a', cap', by rw [hv, secs_length, ← HNE.out], hli, fun e => ?_, fun b hb => ?_, HBL.out⟩
        · rw [secs_length, ← HNE.out]; have := hnn e; omega
        · obtain ⟨q, e, rfl⟩ := hb
          exact ho.lt _ (by rw [hv, e]; rfl))
      clear hi hlt
      go_wp2
      go_ret
      exact HFIN.out
end Go.Proofs.YtdfbpaajkpnaeaaGreat

namespace Go.Proofs.YtdfbpaajkpnaeaaGreat
set_option maxRecDepth 100000
open Go.RowKit Go.Lib

theorem RM.sub {w : World} {F G : Nat → Prop} {r : Dk} {a0 a1 : Option Addr} (h : RM w G r a0 a1) (hFG : ∀ i, F i → G i) : RM w F r a0 a1 :=
  ⟨h.ok, h.bs, h.b0, h.qs, h.q0, fun b hb e => h.o0 b hb (hFG b e), fun b hb e => h.o1 b hb (hFG b e), h.l0, h.l1⟩
theorem RM.grow {w w' : World} {F : Nat → Prop} {r : Dk} {a0 a1 : Option Addr} (h : RM w F r a0 a1) (hb : RowKit.Below w.heap.size w w') : RM w' (fun i => F i ∨ w.heap.size ≤ i) r a0 a1 := by
  have k := h.below hb
  exact ⟨k.ok, k.bs, k.b0, k.qs, k.q0, fun b hi e => e.elim (h.o0 b hi) fun e2 => by have := h.l0 b hi; omega, fun b hi e => e.elim (h.o1 b hi) fun e2 => by have := h.l1 b hi; omega, k.l0, k.l1⟩
theorem RM.same {w w' : World} {F : Nat → Prop} {r : Dk} {a0 a1 : Option Addr} (h : RM w F r a0 a1) (ho : Only F w w') : RM w' F r a0 a1 := h.other ho fun _ e => Or.inl e
theorem putAll_step {dk : Dk} {y : Int} {L : List Sec} {k : Nat} {s : Sec} (hs : L[k]? = some s) : putAll dk y (L.drop k) = if dk.putE y = 0 then putAll (dk.put y s) (y + 1) (L.drop (k + 1)) else (dk.put y s, dk.putE y) := by
  have hk : k < L.length := (List.getElem?_eq_some_iff.1 hs).1
  rw [List.drop_eq_getElem_cons hk]
  have : L[k] = s := by rw [List.getElem?_eq_getElem hk] at hs; exact Option.some.inj hs
  rw [this]
  rfl
theorem only_row {w : World} {g : Nat} {cs : Array Value} {F : Nat → Prop} (hF : F g) : Only F w (w.setRow g cs) :=
  ⟨rfl, rfl, rfl, by rw [size_setRow]; exact Nat.le_refl _, fun i _ hn => setRow_other _ _ _ _ (fun e => hn (e ▸ hF))⟩
def zD : List Value := [.slice none 0 0, .slice none 0 0, .int .i64 0, .bool false]
/-- some of the sectors have been put -/
structure PW (w wr : World) (G : Nat → Prop) (r : Dk) (x : Int) (L : List Sec) (b4 b8 : Nat) (a5 : Option Addr) (k : Nat) (dk : Dk) (a0 : Option Addr) (c0 : Nat) (a1 : Option Addr) (c1 : Nat) : Prop where
  h4 : wr.heap[b4]? = some (.cells (rcs dk a0 c0 a1 c1).toArray 36)
  h8 : wr.heap[b8]? = some (.cells zD.toArray 36)
  rm : RM wr G dk a0 a1
  li : Lie wr a5 (scells L)
  bl : RowKit.Below w.heap.size w wr
  all : putAll dk (x + (k : Int)) (L.drop k) = putAll r x L
  bs : dk.base.length = r.base.length
  qn : dk.queue.length ≤ r.queue.length + k
def RWriteRes (F : Nat → Prop) (r : Dk) (x : Int) (n : Nat) (l : List UInt8) (w : World) (e : Ending) (w' : World) : Prop :=
  ∃ a0 c0 a1 c1, e = .returned (.tuple #[.agg (rcs (r.write x n l).1 a0 c0 a1 c1).toArray, .int .i64 (r.write x n l).2]) ∧ RM w' F (r.write x n l).1 a0 a1 ∧ RowKit.Below w.heap.size w w'
set_option maxRecDepth 100000 in
set_option maxHeartbeats 6400000 in
theorem rwrite_any (r : Dk) (a0 : Option Addr) (c0 : Nat) (a1 : Option Addr) (c1 : Nat) (F : Nat → Prop) (x : Int) (n : Nat) (l : List UInt8) (a : Option Addr) (len cap : Nat) (w : World) (hF : ∀ i, F i → i < w.heap.size) (h : RM w F r a0 a1) (hx : I x) (hn : n < 18446744073709551616) (hb : BAt w a l) (hl : l.length = len) (hI : I (len : Int)) (hq : r.queue.length + spanN len < 10000) :
    Calls Tryz.prog 54 #[.agg (rcs r a0 c0 a1 c1).toArray, .int .i64 x, .int .u64 (n : Int), .slice a len cap] w (RWriteRes F r x n l w) := by
  have HI := Lib.hid hI
  have HX := Lib.hid hx
  have HL := Lib.hid hl
  have HN := Lib.hid hn
  have HQ := Lib.hid hq
  have HM := Lib.hid h
  obtain ⟨R, hR⟩ : ∃ R, R = rcs r a0 c0 a1 c1 := ⟨_, rfl⟩
  have HRE := Lib.hid hR
  have HRC := Lib.hid (show Cs 4 R by rw [hR]; exact rcs_cs _ _ _ _ _)
  obtain ⟨w3, hw3⟩ : ∃ w3, w3 = (w.alloc (.cells R.toArray 36)).alloc (.cells zD.toArray 36) := ⟨_, rfl⟩
  have HW3 := Lib.hid hw3
  have HB3 := Lib.hid (show RowKit.Below w.heap.size w w3 by rw [hw3]; exact ((RowKit.Below.refl _ _).alloc (Nat.le_refl _) _).alloc (by simp) _)
  have HS3 := Lib.hid (show w3.heap.size = w.heap.size + 2 by rw [hw3]; simp)
  have HP4 := Lib.hid (show w3.heap[w.heap.size]? = some (.cells R.toArray 36) by rw [hw3]; exact blk_in (blkn rfl))
  have HP8 := Lib.hid (show w3.heap[w.heap.size + 1]? = some (.cells zD.toArray 36) by rw [hw3]; exact blkn (by simp))
  have HB := Lib.hid (hb.below HB3.out)
  have HGG := Lib.hid (show RM w3 (fun i => F i ∨ i = w.heap.size ∨ i = w.heap.size + 1) r a0 a1 from (h.grow HB3.out).sub (fun i e => by rcases e with e | e | e; exact Or.inl e; exact Or.inr (by omega); exact Or.inr (by omega)))
  have HFL := Lib.hid hF
  have HAW := Lib.hid (show (w.alloc (.cells R.toArray 36)).alloc (.cells [Value.slice none 0 0, .slice none 0 0, .int .i64 0, .bool false].toArray 36) = w3 from hw3.symm)
  have HSPI := Lib.hid (show ∀ W, Calls Tryz.prog 61 #[.int .i64 (len : Int)] W fun e W' => e = .returned (.int .i64 (spanN len : Int)) ∧ W = W' from fun W => by
    have := rspan_any (len : Int) W
    rwa [spanI_nat] at this)
  obtain ⟨N, hN⟩ : ∃ N, N = spanN len := ⟨_, rfl⟩
  have HNE := Lib.hid hN
  rw [← hN] at HSPI
  have q40 : w3.cell? ⟨w.heap.size, 0, none⟩ = some (.slice a0 r.base.length c0) := by rw [cell_of_row _ _ _ _ _ _ HP4.out, HRE.out]; rfl
  have HSZ := Lib.hid h.ok.sz
  rw [← hR]
  clear hI hx hl hn hq h hR hw3 hb hN hF
  have hcs : n = 0 ∨ (n ≠ 0 ∧ N = 0) ∨ (n ≠ 0 ∧ N ≠ 0) := by omega
  rcases hcs with h0 | ⟨h0, hN0⟩ | ⟨h0, hN0⟩
  · subst h0
    go_enter Tryz.func54, Tryz.ntmps54
    have e : r.write x 0 l = (r, 91) := by unfold Dk.write layL; rw [if_pos (by rw [if_pos rfl]; rfl)]
    have HE := Lib.hid e
    clear q40 e
    go_wp2_with (first | (with_reducible refine wpList_boxA rfl _ _ rfl _ rfl ?_) | ((with_reducible refine wpList_allocA rfl isD rfl ?_); rw [HAW.out]) | (with_reducible refine wpList_loadW rfl isD _ rfl w.heap.size R _ rfl HP4.out HRC.out ?_) | (with_reducible refine wpList_storeW rfl isD _ _ rfl (w.heap.size + 1) R zD.toArray _ rfl rfl HP8.out HRC.out rfl ?_))
    refine ret_cell_slot isD rfl rfl rfl (setRow_heap _ _ _ _ _ _ HP8.out) HRC.out rfl ?_
    unfold RWriteRes
    rw [HE.out]
    exact ⟨a0, c0, a1, c1, by rw [HRE.out]; rfl, (HGG.out.same (only_row (Or.inr (Or.inr rfl)))).sub (fun _ e => Or.inl e), below_setRow HB3.out (Nat.le_succ _)⟩
  · subst hN0
    have d0 : ((n : Int) == 0) = false := by simp; exact h0
    have e : r.write x n l = (r, 91) := by
      unfold Dk.write
      have h1 := layL_length_le n l
      rw [HL.out, ← HNE.out] at h1
      rw [if_pos (by omega)]
    have HE := Lib.hid e
    clear q40 e h0
    go_enter Tryz.func54, Tryz.ntmps54
    go_wp2_with (first | (with_reducible refine wpList_boxA rfl _ _ rfl _ rfl ?_) | ((with_reducible refine wpList_allocA rfl isD rfl ?_); rw [HAW.out]))
    refine (HSPI.out _).mono ?_
    rintro _ _ ⟨rfl, rfl⟩
    go_wp2_with (first | (with_reducible refine wpList_loadW rfl isD _ rfl w.heap.size R _ rfl HP4.out HRC.out ?_) | (with_reducible refine wpList_storeW rfl isD _ _ rfl (w.heap.size + 1) R zD.toArray _ rfl rfl HP8.out HRC.out rfl ?_))
    refine ret_cell_slot isD rfl rfl rfl (setRow_heap _ _ _ _ _ _ HP8.out) HRC.out rfl ?_
    unfold RWriteRes
    rw [HE.out]
    exact ⟨a0, c0, a1, c1, by rw [HRE.out]; rfl, (HGG.out.same (only_row (Or.inr (Or.inr rfl)))).sub (fun _ e => Or.inl e), below_setRow HB3.out (Nat.le_succ _)⟩
  · have d0 : ((n : Int) == 0) = false := by simp; exact h0
    have d1 : ((N : Int) == 0) = false := by simp; exact hN0
    have hln : len ≤ 13515 := by
      apply Classical.byContradiction; intro hc
      have : spanN len = 0 := by unfold spanN; rw [if_neg hc]
      rw [← HNE.out] at this; exact hN0 this
    have HRS := Lib.hid (rsectors_any n l a len cap w3 HN.out HB.out HL.out hln)
    obtain ⟨L, hL⟩ : ∃ L, L = secs n l := ⟨_, rfl⟩
    have HLE := Lib.hid hL
    have HLL := Lib.hid (show L.length = N by rw [hL, secs_length, HL.out, HNE.out])
    have HL64 := Lib.hid (show ∀ s ∈ L, s.length = 64 by rw [hL]; exact secs_64 n l)
    have HN255 := Lib.hid (show N ≤ 255 by rw [HNE.out]; exact spanN_le _)
    have HW := Lib.hid (show r.write x n l = if x < 0 ∨ (r.base.length : Int) - (N : Int) < x then (r, 81) else putAll r x L by
      have e : layL n l = L := by rw [hL]; exact if_neg h0
      unfold Dk.write
      rw [e, HLL.out, if_neg hN0])
    rw [← hL] at HRS
    clear h0 hN0 hln hL
    go_enter Tryz.func54, Tryz.ntmps54
    go_wp2_with (first | (with_reducible refine wpList_boxA rfl _ _ rfl _ rfl ?_) | ((with_reducible refine wpList_allocA rfl isD rfl ?_); rw [HAW.out]))
    refine (HSPI.out _).mono ?_
    rintro _ _ ⟨rfl, rfl⟩
    go_wp2_with fail
    refine HRS.out.mono ?_
    rintro _ w5 ⟨a5, c5, rfl, hli, _, hin, hb5⟩
    have HLI := Lib.hid hli
    have HIN := Lib.hid (show ∀ b, inBlk a5 b → w.heap.size + 2 ≤ b from fun b hb => by have := (hin b hb).1; rw [HS3.out] at this; exact this)
    have HB5 := Lib.hid (HB3.out.trans (hb5.mono HB3.out.size))
    have HP45 := Lib.hid ((hb5.block _ (lt_of_heap HP4.out)).trans HP4.out)
    have HP85 := Lib.hid ((hb5.block _ (lt_of_heap HP8.out)).trans HP8.out)
    have HG5 := Lib.hid (HGG.out.below hb5)
    have q5 := cell_bl q40 hb5
    obtain ⟨B, hBB⟩ : ∃ B, B = r.base.length := ⟨_, rfl⟩
    have HBB := Lib.hid hBB
    rw [← hBB] at q5 HW
    rw [HLL.out]
    have HB2048 := Lib.hid (show B ≤ 2048 by rw [hBB]; exact HSZ.out)
    have hB2048 := HB2048.out
    have hN255 := HN255.out
    clear hli hin hb5 q40 hBB
    have hcs : x < 0 ∨ (0 ≤ x ∧ (B : Int) - (N : Int) < x) ∨ (0 ≤ x ∧ x ≤ (B : Int) - (N : Int)) := by omega
    rcases hcs with hx0 | ⟨hx0, hx1⟩ | ⟨hx0, hx1⟩
    · have e1 : decide (x < 0) = true := by simpa using hx0
      have HE := Lib.hid (show r.write x n l = (r, 81) by rw [HW.out, if_pos (Or.inl hx0)])
      clear hx0
      go_wp2_with (first | (with_reducible refine wpList_loadW rfl isD _ rfl w.heap.size R _ rfl HP45.out HRC.out ?_) | (with_reducible refine wpList_storeW rfl isD _ _ rfl (w.heap.size + 1) R zD.toArray _ rfl rfl HP85.out HRC.out rfl ?_))
      refine ret_cell_slot isD rfl rfl rfl (setRow_heap _ _ _ _ _ _ HP85.out) HRC.out rfl ?_
      unfold RWriteRes
      rw [HE.out]
      exact ⟨a0, c0, a1, c1, by rw [HRE.out]; rfl, (HG5.out.same (only_row (Or.inr (Or.inr rfl)))).sub (fun _ e => Or.inl e), below_setRow HB5.out (Nat.le_succ _)⟩
    · have e1 : decide (x < 0) = false := by simp; omega
      have e2 : decide ((B : Int) - (N : Int) < x) = true := by simpa using hx1
      have HE := Lib.hid (show r.write x n l = (r, 81) by rw [HW.out, if_pos (Or.inr hx1)])
      clear hx0 hx1
      go_wp2_with (first | (with_reducible refine wpList_loadW rfl isD _ rfl w.heap.size R _ rfl HP45.out HRC.out ?_) | (with_reducible refine wpList_storeW rfl isD _ _ rfl (w.heap.size + 1) R zD.toArray _ rfl rfl HP85.out HRC.out rfl ?_))
      refine ret_cell_slot isD rfl rfl rfl (setRow_heap _ _ _ _ _ _ HP85.out) HRC.out rfl ?_
      unfold RWriteRes
      rw [HE.out]
      exact ⟨a0, c0, a1, c1, by rw [HRE.out]; rfl, (HG5.out.same (only_row (Or.inr (Or.inr rfl)))).sub (fun _ e => Or.inl e), below_setRow HB5.out (Nat.le_succ _)⟩
    · have e1 : decide (x < 0) = false := by simp; omega
      have e2 : decide ((B : Int) - (N : Int) < x) = false := by simp; omega
      have HE := Lib.hid (show r.write x n l = putAll r x L by rw [HW.out, if_neg (by omega)])
      have HXB := Lib.hid (And.intro hx0 hx1)
      have HS0 := Lib.hid (show PW w w5 (fun i => F i ∨ i = w.heap.size ∨ i = w.heap.size + 1) r x L w.heap.size (w.heap.size + 1) a5 0 r a0 c0 a1 c1 from ⟨by rw [← HRE.out]; exact HP45.out, HP85.out, HG5.out, HLI.out, HB5.out, by simp, rfl, by omega⟩)
      clear hx0 hx1 q5
      have q5 : w5.cell? ⟨w.heap.size, 0, none⟩ = some (.slice a0 B c0) := by rw [cell_of_row _ _ _ _ _ _ HP45.out, HRE.out, HBB.out]; rfl
      go_wp2_with fail
      clear q5 e1 e2 d0 d1
      go_loopw [42] (fun c42 wr => ∃ (k : Nat) (dk : Dk) (A0 : Option Addr) (C0 : Nat) (A1 : Option Addr) (C1 : Nat), c42 = .int .i64 (k : Int) ∧ k ≤ N ∧ PW w wr (fun i => F i ∨ i = w.heap.size ∨ i = w.heap.size + 1) r x L w.heap.size (w.heap.size + 1) a5 k dk A0 C0 A1 C1) (fun c42 _ => N - (match c42 with | .int _ q => q | _ => 0).toNat)
      case atStart => exact ⟨0, r, a0, c0, a1, c1, rfl, Nat.zero_le _, HS0.out⟩
      case round =>
        obtain ⟨k, dk, A0, C0, A1, C1, rfl, hk, hpw⟩ := hrel
        have HPW := Lib.hid hpw
        obtain ⟨D, hD⟩ : ∃ D, D = rcs dk A0 C0 A1 C1 := ⟨_, rfl⟩
        have HDE := Lib.hid hD
        have HDC := Lib.hid (show Cs 4 D by rw [hD]; exact rcs_cs _ _ _ _ _)
        have HP4 := Lib.hid hpw.h4
        rw [← hD] at HP4
        have HP8 := Lib.hid hpw.h8
        clear hpw hD
        by_cases hlt : k < N
        · obtain ⟨s, hs⟩ : ∃ s, L[k]? = some s := ⟨_, List.getElem?_eq_getElem (by rw [HLL.out]; exact hlt)⟩
          have HSS := Lib.hid hs
          have h64 : s.length = 64 := HL64.out s (List.mem_of_getElem? hs)
          obtain ⟨bb, ob, ha5, hbb, hrb⟩ := HPW.out.li.get (f := bcells) (n := 64) (fun s hs => cells_len s (HL64.out s hs)) (by decide) hs
          obtain ⟨c, hc⟩ : ∃ c, c = bcells s := ⟨_, rfl⟩
          rw [← hc] at hrb
          have HRB := Lib.hid hrb
          have HCC := Lib.hid (show Cs 64 c by rw [hc]; exact cs_sec h64)
          obtain ⟨w6, hw6⟩ : ∃ w6, w6 = wr.alloc (.cells c.toArray 88) := ⟨_, rfl⟩
          have HW6 := Lib.hid (show (wr.alloc (.cells zc.toArray 88)).setRow wr.heap.size c.toArray = w6 by rw [hw6]; exact setRow_new rfl)
          have HAL6 := Lib.hid (heap_alloc_new wr (.cells zc.toArray 88))
          have hb6 : RowKit.Below wr.heap.size wr w6 := by rw [hw6]; exact (RowKit.Below.refl _ _).alloc (Nat.le_refl _) _
          have HP12 := Lib.hid (show w6.heap[wr.heap.size]? = some (.cells c.toArray 88) by rw [hw6]; exact blkn rfl)
          have HP46 := Lib.hid ((hb6.block _ (lt_of_heap HP4.out)).trans HP4.out)
          have HB6 := Lib.hid (HPW.out.bl.trans (hb6.mono HPW.out.bl.size))
          obtain ⟨y, hy⟩ : ∃ y, y = x + (k : Int) := ⟨_, rfl⟩
          have HY := Lib.hid hy
          have hy2 : IntKind.i64.wrap (x + (k : Int)) = y := by rw [← hy]; exact IntWalk.i64_in _ (by obtain ⟨q1, q2⟩ := HXB.out; omega)
          have HBW := Lib.hid hb6
          have HPUT := Lib.hid (rput_any dk A0 C0 A1 C1 (fun i => F i ∨ i = w.heap.size ∨ i = w.heap.size + 1) y s w6 (fun i e => by
            have h1 := HPW.out.bl.size
            have h2 := lt_of_heap HP8.out
            have h3 := hb6.size
            rcases e with e | e | e
            · have := HFL.out i e; omega
            · omega
            · omega) (HPW.out.rm.below hb6) (by obtain ⟨q1, q2⟩ := HXB.out; rw [hy]; unfold I; omega) h64 (by have := HPW.out.qn; have := HQ.out; rw [← HNE.out] at this; omega))
          rw [← HDE.out, ← hc] at HPUT
          subst ha5
          clear hs h64 hbb hc hrb hw6 hb6 hy
          go_wp2_with (first | ((with_reducible refine wpList_storeW rfl isS _ _ rfl wr.heap.size c zc.toArray _ rfl rfl HAL6.out HCC.out (by simp [zc_len]) ?_); rw [HW6.out]) | (with_reducible refine wpList_allocA rfl isS rfl ?_) | (with_reducible refine wpList_idx elS rfl _ _ rfl k rfl rfl rfl hlt ?_) | (with_reducible refine wpList_loadM rfl isS _ rfl bb (ob + k * 64) c rfl HRB.out HCC.out ?_) | (with_reducible refine wpList_loadW rfl isD _ rfl w.heap.size D _ rfl HP46.out HDC.out ?_) | (with_reducible refine wpList_loadW rfl isS _ rfl wr.heap.size c _ rfl HP12.out HCC.out ?_))
          refine HPUT.out.mono ?_
          rintro _ w7 ⟨A0', C0', A1', C1', rfl, hrm7, hb7⟩
          obtain ⟨E, hE⟩ : ∃ E, E = dk.putE y := ⟨_, rfl⟩
          obtain ⟨D', hD'⟩ : ∃ D', D' = rcs (dk.put y s) A0' C0' A1' C1' := ⟨_, rfl⟩
          have HEE := Lib.hid hE
          have HDE' := Lib.hid hD'
          have HDC' := Lib.hid (show Cs 4 D' by rw [hD']; exact rcs_cs _ _ _ _ _)
          rw [← hE, ← hD']
          obtain ⟨w8, hw8⟩ : ∃ w8, w8 = w7.alloc (.cells D'.toArray 36) := ⟨_, rfl⟩
          obtain ⟨wz, hwz⟩ : ∃ wz, wz = w7.alloc (.cells zD.toArray 36) := ⟨_, rfl⟩
          have HWZ := Lib.hid (show w7.alloc (.cells [Value.slice none 0 0, .slice none 0 0, .int .i64 0, .bool false].toArray 36) = wz from hwz.symm)
          have HW8 := Lib.hid (show wz.setRow w7.heap.size D'.toArray = w8 by rw [hw8, hwz]; exact setRow_new rfl)
          have HAL8 := Lib.hid (show wz.heap[w7.heap.size]? = some (.cells zD.toArray 36) by rw [hwz]; exact heap_alloc_new w7 _)
          clear hwz
          have hb8 : RowKit.Below w7.heap.size w7 w8 := by rw [hw8]; exact (RowKit.Below.refl _ _).alloc (Nat.le_refl _) _
          have hb68 := hb7.trans (hb8.mono hb7.size)
          have hbr8 := HBW.out.trans (hb68.mono HBW.out.size)
          have HP13 := Lib.hid (show w8.heap[w7.heap.size]? = some (.cells D'.toArray 36) by rw [hw8]; exact blkn rfl)
          have HP48 := Lib.hid ((hbr8.block _ (lt_of_heap HP4.out)).trans HP4.out)
          have HP88 := Lib.hid ((hbr8.block _ (lt_of_heap HP8.out)).trans HP8.out)
          have HDS := Lib.hid (show D.toArray.size = 4 by rw [List.size_toArray]; exact HDC.out.len)
          obtain ⟨w9, hw9⟩ : ∃ w9, w9 = w8.setRow w.heap.size D'.toArray := ⟨_, rfl⟩
          have HW9 := Lib.hid hw9.symm
          have HP49 := Lib.hid (show w9.heap[w.heap.size]? = some (.cells D'.toArray 36) by rw [hw9]; exact setRow_heap _ _ _ _ _ _ HP48.out)
          have HP89 := Lib.hid (show w9.heap[w.heap.size + 1]? = some (.cells zD.toArray 36) by rw [hw9]; exact (setRow_other _ _ _ _ (by omega)).trans HP88.out)
          have HON := Lib.hid (show Only (fun i => F i ∨ i = w.heap.size ∨ i = w.heap.size + 1) w8 w9 by rw [hw9]; exact only_row (Or.inr (Or.inl rfl)))
          have HRM9 := Lib.hid ((hrm7.below hb8).same HON.out)
          have HB8 := Lib.hid (HPW.out.bl.trans (hbr8.mono HPW.out.bl.size))
          have HB9 := Lib.hid (show RowKit.Below w.heap.size w w9 by rw [hw9]; exact below_setRow HB8.out (Nat.le_refl _))
          have HLI9 := Lib.hid (show Lie w9 (some ⟨bb, ob, none⟩) (scells L) from (HPW.out.li.below hbr8).same HON.out.size (fun b hb => by
            rw [hw9]; exact setRow_other _ _ _ _ (by have := HIN.out b hb; omega)))
          have HST := Lib.hid (putAll_step (dk := dk) (y := y) HSS.out)
          have HAL := Lib.hid HPW.out.all
          rw [← HY.out] at HAL
          clear hrm7 hb7 hE hD' hw8 hb8 hb68 hbr8 hw9 HPUT
          by_cases he : E = 0
          · have HNX := Lib.hid (show PW w w9 (fun i => F i ∨ i = w.heap.size ∨ i = w.heap.size + 1) r x L w.heap.size (w.heap.size + 1) (some ⟨bb, ob, none⟩) (k + 1) (dk.put y s) A0' C0' A1' C1' from
              ⟨by rw [← HDE'.out]; exact HP49.out, HP89.out, HRM9.out, HLI9.out, HB9.out, by
                rw [← HAL.out, HST.out, ← HEE.out, if_pos he, HY.out, show x + ((k + 1 : Nat) : Int) = x + (k : Int) + 1 by omega], by rw [put_base]; exact HPW.out.bs, by have := put_queue_le dk y s; have := HPW.out.qn; omega⟩)
            subst he
            go_wp2_with (first | ((with_reducible refine wpList_storeW rfl isD _ _ rfl w.heap.size D' D.toArray _ rfl rfl HP48.out HDC'.out HDS.out ?_); rw [HW9.out]) | ((with_reducible refine wpList_storeW rfl isD _ _ rfl w7.heap.size D' zD.toArray _ rfl rfl HAL8.out HDC'.out rfl ?_); rw [HW8.out]) | ((with_reducible refine wpList_allocA rfl isD rfl ?_); rw [HWZ.out]) | (with_reducible refine wpList_loadW rfl isD _ rfl w7.heap.size D' _ rfl HP13.out HDC'.out ?_))
            go_roundw
            case rel => exact ⟨k + 1, _, A0', C0', A1', C1', by go_num, by omega, HNX.out⟩
            case measure => simp; omega
          · have HR := Lib.hid (show r.write x n l = (dk.put y s, E) by rw [HE.out, ← HAL.out, HST.out, ← HEE.out, if_neg he])
            have e9 : (E == 0) = false := by simpa using he
            clear he
            go_wp2_with (first | ((with_reducible refine wpList_storeW rfl isD _ _ rfl (w.heap.size + 1) D' zD.toArray _ rfl rfl HP89.out HDC'.out rfl ?_)) | ((with_reducible refine wpList_storeW rfl isD _ _ rfl w.heap.size D' D.toArray _ rfl rfl HP48.out HDC'.out HDS.out ?_); rw [HW9.out]) | ((with_reducible refine wpList_storeW rfl isD _ _ rfl w7.heap.size D' zD.toArray _ rfl rfl HAL8.out HDC'.out rfl ?_); rw [HW8.out]) | ((with_reducible refine wpList_allocA rfl isD rfl ?_); rw [HWZ.out]) | (with_reducible refine wpList_loadW rfl isD _ rfl w7.heap.size D' _ rfl HP13.out HDC'.out ?_) | (with_reducible refine wpList_loadW rfl isD _ rfl w.heap.size D' _ rfl HP49.out HDC'.out ?_))
            try rw [Exit.noGoto_ret]
            refine ret_cell_slot isD rfl rfl rfl (setRow_heap _ _ _ _ _ _ HP89.out) HDC'.out rfl ?_
            unfold RWriteRes
            rw [HR.out]
            exact ⟨A0', C0', A1', C1', by rw [HDE'.out]; rfl, (HRM9.out.same (only_row (Or.inr (Or.inr rfl)))).sub (fun _ e => Or.inl e), below_setRow HB9.out (Nat.le_succ _)⟩
        · obtain rfl : k = N := by omega
          have HR := Lib.hid (show r.write x n l = (dk, 0) by
            rw [HE.out, ← HPW.out.all]
            rw [← HLL.out, List.drop_length]
            rfl)
          clear hk hlt
          go_wp2_with (first | (with_reducible refine wpList_loadW rfl isD _ rfl w.heap.size D _ rfl HP4.out HDC.out ?_) | (with_reducible refine wpList_storeW rfl isD _ _ rfl (w.heap.size + 1) D zD.toArray _ rfl rfl HP8.out HDC.out rfl ?_))
          refine ret_cell_slot isD rfl rfl rfl (setRow_heap _ _ _ _ _ _ HP8.out) HDC.out rfl ?_
          unfold RWriteRes
          rw [HR.out]
          exact ⟨A0, C0, A1, C1, by rw [HDE.out]; rfl, (HPW.out.rm.same (only_row (Or.inr (Or.inr rfl)))).sub (fun _ e => Or.inl e), below_setRow HPW.out.bl (Nat.le_succ _)⟩
end Go.Proofs.YtdfbpaajkpnaeaaGreat

namespace Go.Proofs.YtdfbpaajkpnaeaaGreat
set_option maxRecDepth 100000
open Go.RowKit Go.Lib

theorem OB.same {w w' : World} {B : Nat} {v : Value} {l : List UInt8} (h : OB w B v l) (hs : ∀ i, v.ownBlock = some i → w'.heap[i]? = w.heap[i]?) : OB w' B v l := ow_same h hs
theorem own_slice {w : World} {B : Nat} {e : TypeId} {n k : Nat} {v : Value} {xs : List Value} (h : w.ownsRow B e n v k xs) : ∃ a c, v = .slice a k c := by
  obtain ⟨a, c, hv, _⟩ := ow_lie h
  exact ⟨a, c, hv⟩
theorem ob_slice {w : World} {B : Nat} {v : Value} {l : List UInt8} (h : OB w B v l) : ∃ a c, v = .slice a l.length c := own_slice h
theorem readL_none : readL [] = Rd.none 91 := if_neg (fun h => h.1 rfl)
theorem read_tail {r : Dk} {x z : Int} {s : Sec} {m st : Nat} (h0 : 0 ≤ x) (hz : z ≤ (r.base.length : Int)) (hx : x < z) (hs : s = r.at_ x) (hm : m = manyAt s) (hst : st = stN s) :
    (st = 0 ∨ m = 0 ∨ z - x < (m : Int) → r.read x z = Rd.none 91) ∧
    (st ≠ 0 → m ≠ 0 → ¬ z - x < (m : Int) → r.read x z = if r.secsAt x m = secs st (gat (r.secsAt x m)) then ⟨gat (r.secsAt x m), st, m, 0⟩ else Rd.none 91) := by
  have hrd : r.read x z = readL (r.stands x z) := by unfold Dk.read; rw [if_neg (by omega)]
  have hst' : r.stands x z = if z - x < (m : Int) then [] else r.secsAt x m := by unfold Dk.stands; rw [if_neg (by omega), ← hs, ← hm]
  have hhd : m ≠ 0 → (r.secsAt x m).headD [] = s := fun hm0 => by
    obtain ⟨k, rfl⟩ : ∃ k, m = k + 1 := ⟨m - 1, by omega⟩
    simp only [Dk.secsAt, List.range_succ_eq_map, List.map_cons, List.headD_cons]
    rw [hs]; congr 1; omega
  have hne : m ≠ 0 → r.secsAt x m ≠ [] := fun hm0 e => by
    have := congrArg List.length e
    rw [secsAt_length] at this
    exact hm0 this
  refine ⟨fun h => ?_, fun h1 h2 h3 => ?_⟩
  · rw [hrd, hst']
    by_cases hlt : z - x < (m : Int)
    · rw [if_pos hlt, readL_none]
    · rw [if_neg hlt]
      by_cases hm0 : m = 0
      · rw [hm0]; exact readL_none
      · have h0 : st = 0 := by omega
        unfold readL
        rw [hhd hm0, ← hst, h0, if_neg (fun k => k.1 (k.2.trans (if_pos rfl)))]
  · rw [hrd, hst', if_neg h3]
    unfold readL
    rw [hhd h2, ← hst]
    unfold layL
    rw [if_neg h1, secsAt_length]
    by_cases e : r.secsAt x m = secs st (gat (r.secsAt x m))
    · rw [if_pos ⟨hne h2, e⟩, if_pos e]
    · rw [if_neg (fun k => e k.2), if_neg e]
end Go.Proofs.YtdfbpaajkpnaeaaGreat

namespace Go.Proofs.YtdfbpaajkpnaeaaGreat
set_option maxRecDepth 100000
open Go.RowKit Go.Lib

theorem own_lie {w : World} {B : Nat} {e : TypeId} {n k c : Nat} {a : Option Addr} {xs : List Value} (h : w.ownsRow B e n (.slice a k c) k xs) : Lie w a xs := by
  obtain ⟨a', c', hv, hl, _⟩ := ow_lie h
  injection hv with h1 _ _
  rw [h1]; exact hl
theorem ob_bat {w : World} {B n c : Nat} {a : Option Addr} {l : List UInt8} (h : OB w B (.slice a n c) l) : BAt w a l ∧ l.length ≤ c ∧ (a = none → l = []) := by
  obtain ⟨a', c', hv, hb, hc, _, hn, _⟩ := h.row
  injection hv with h1 h2 h3
  subst h1 h3
  exact ⟨hb, hc, fun e => List.eq_nil_of_length_eq_zero (by have := hn e; omega)⟩
set_option maxRecDepth 100000 in
set_option maxHeartbeats 12800000 in
theorem rread_any (r : Dk) (a0 : Option Addr) (c0 : Nat) (a1 : Option Addr) (c1 : Nat) (F : Nat → Prop) (x z : Int) (w : World) (h : RM w F r a0 a1) (hx : I x) :
    Calls Tryz.prog 47 #[.agg (rcs r a0 c0 a1 c1).toArray, .int .i64 x, .int .i64 z] w (RdRes (r.read x z) w) := by
  obtain ⟨R, hR⟩ : ∃ R, R = rcs r a0 c0 a1 c1 := ⟨_, rfl⟩
  have HRE := Lib.hid hR
  have HRC := Lib.hid (show Cs 4 R by rw [hR]; exact rcs_cs _ _ _ _ _)
  obtain ⟨w0, hw0⟩ : ∃ w0, w0 = w.alloc (.cells R.toArray 36) := ⟨_, rfl⟩
  have HW0 := Lib.hid hw0.symm
  have HB0 := Lib.hid (show RowKit.Below w.heap.size w w0 by rw [hw0]; exact (RowKit.Below.refl _ _).alloc (Nat.le_refl _) _)
  have HP3 := Lib.hid (show w0.heap[w.heap.size]? = some (.cells R.toArray 36) by rw [hw0]; exact blkn rfl)
  have HRM := Lib.hid (h.below HB0.out)
  obtain ⟨N, hN⟩ : ∃ N, N = r.base.length := ⟨_, rfl⟩
  have HN := Lib.hid hN
  have q30 : w0.cell? ⟨w.heap.size, 0, none⟩ = some (.slice a0 N c0) := by rw [cell_of_row _ _ _ _ _ _ HP3.out, HRE.out, hN]; rfl
  have HSZ := Lib.hid (show N ≤ 2048 by rw [hN]; exact h.ok.sz)
  have HOK := Lib.hid h.ok
  have HX := Lib.hid hx
  rw [← hR]
  clear hR hw0 h hN hx
  have hcs : x < 0 ∨ (0 ≤ x ∧ (N : Int) < z) ∨ (0 ≤ x ∧ z ≤ (N : Int) ∧ z ≤ x) ∨ (0 ≤ x ∧ z ≤ (N : Int) ∧ x < z) := by omega
  rcases hcs with hx0 | ⟨hx0, hz⟩ | ⟨hx0, hz, hzx⟩ | ⟨hx0, hz, hzx⟩
  · have HR := Lib.hid (show RdRes (r.read x z) w (.returned (.tuple #[.slice none 0 0, .int .u64 0, .int .i64 0, .int .i64 81])) w0 by unfold Dk.read; rw [if_pos (Or.inl hx0)]; exact RdRes.no HB0.out)
    have d0 : decide (x < 0) = true := by simpa using hx0
    clear hx0
    go_enter Tryz.func47, Tryz.ntmps47
    go_wp2_with ((with_reducible refine wpList_boxA rfl _ _ rfl _ rfl ?_); rw [HW0.out])
    (try simp only [Exit.inBlock, Exit.then])
    refine bodyPost_ret (results_tmp4 rfl _ _ _) rfl ?_
    exact HR.out
  · have HR := Lib.hid (show RdRes (r.read x z) w (.returned (.tuple #[.slice none 0 0, .int .u64 0, .int .i64 0, .int .i64 81])) w0 by unfold Dk.read; rw [if_pos (Or.inr (by rw [← HN.out]; exact hz))]; exact RdRes.no HB0.out)
    have d0 : decide (x < 0) = false := by simp; omega
    have d1 : decide ((N : Int) < z) = true := by simpa using hz
    clear hx0 hz
    go_enter Tryz.func47, Tryz.ntmps47
    go_wp2_with ((with_reducible refine wpList_boxA rfl _ _ rfl _ rfl ?_); rw [HW0.out])
    (try simp only [Exit.inBlock, Exit.then])
    refine bodyPost_ret (results_tmp4 rfl _ _ _) rfl ?_
    exact HR.out
  · have HR := Lib.hid (show RdRes (r.read x z) w (.returned (.tuple #[.slice none 0 0, .int .u64 0, .int .i64 0, .int .i64 91])) w0 by
      unfold Dk.read; rw [if_neg (by rw [← HN.out]; omega)]; unfold Dk.stands; rw [if_pos hzx, readL_none]; exact RdRes.no HB0.out)
    have d0 : decide (x < 0) = false := by simp; omega
    have d1 : decide ((N : Int) < z) = false := by simp; omega
    have d2 : decide (z ≤ x) = true := by simpa using hzx
    clear hx0 hz hzx
    go_enter Tryz.func47, Tryz.ntmps47
    go_wp2_with ((with_reducible refine wpList_boxA rfl _ _ rfl _ rfl ?_); rw [HW0.out])
    (try simp only [Exit.inBlock, Exit.then])
    refine bodyPost_ret (results_tmp4 rfl _ _ _) rfl ?_
    exact HR.out
  · have d0 : decide (x < 0) = false := by simp; omega
    have d1 : decide ((N : Int) < z) = false := by simp; omega
    have d2 : decide (z ≤ x) = false := by simp; omega
    have hzxb : 0 ≤ z - x ∧ z - x ≤ 2048 := by have := HSZ.out; omega
    have HXZ := Lib.hid (And.intro hx0 (And.intro hz hzx))
    obtain ⟨s, hs⟩ : ∃ s, s = r.at_ x := ⟨_, rfl⟩
    obtain ⟨m, hm⟩ : ∃ m, m = manyAt s := ⟨_, rfl⟩
    obtain ⟨st, hst⟩ : ∃ st, st = stN s := ⟨_, rfl⟩
    have hsl : s.length = 64 := by rw [hs]; exact at_len HOK.out x
    have HTL := Lib.hid (read_tail hx0 (by rw [← HN.out]; exact hz) hzx hs hm hst)
    have hm255 : m ≤ 255 := by rw [hm]; have := manyAt_lt s; omega
    have HSTL := Lib.hid (show st < 18446744073709551616 by rw [hst]; exact stN_lt hsl)
    obtain ⟨c, hc⟩ : ∃ c, c = bcells s := ⟨_, rfl⟩
    have HCC := Lib.hid (show Cs 64 c by rw [hc]; exact cs_sec hsl)
    have HG1 := Lib.hid (rget_any r a0 c0 a1 c1 F x w0 HRM.out)
    unfold GetRes at HG1
    rw [← HRE.out, ← hs, ← hc, show r.has x = true from Dk.has_iff.2 (by rw [← HN.out]; omega), if_pos rfl] at HG1
    have HNU := Lib.hid (fun W => snumber_any s hsl W)
    rw [← hc, ← hst] at HNU
    have HC1 := Lib.hid (show c[1]? = some (.int .u8 (m : Int)) by rw [hc, bcells_get (by omega), hm]; rfl)
    clear hx0 hz hzx hs hm hst hsl hc
    go_enter Tryz.func47, Tryz.ntmps47
    go_wp2_with (first | ((with_reducible refine wpList_boxA rfl _ _ rfl _ rfl ?_); rw [HW0.out]) | (with_reducible refine wpList_loadW rfl isD _ rfl w.heap.size R _ rfl HP3.out HRC.out ?_))
    refine HG1.out.mono ?_
    rintro _ w1 ⟨rfl, hb1⟩
    obtain ⟨w2, hw2⟩ : ∃ w2, w2 = w1.alloc (.cells c.toArray 88) := ⟨_, rfl⟩
    have HW2 := Lib.hid (show (w1.alloc (.cells zc.toArray 88)).setRow w1.heap.size c.toArray = w2 by rw [hw2]; exact setRow_new rfl)
    have HAL2 := Lib.hid (heap_alloc_new w1 (.cells zc.toArray 88))
    have hb12 : RowKit.Below w1.heap.size w1 w2 := by rw [hw2]; exact (RowKit.Below.refl _ _).alloc (Nat.le_refl _) _
    have HB02 := Lib.hid (hb1.trans (hb12.mono hb1.size))
    have HP10 := Lib.hid (show w2.heap[w1.heap.size]? = some (.cells c.toArray 88) by rw [hw2]; exact blkn rfl)
    clear hb1 hw2 hb12 q30 d0 d1 d2 HG1
    go_wp2_with (first | ((with_reducible refine wpList_storeW rfl isS _ _ rfl w1.heap.size c zc.toArray _ rfl rfl HAL2.out HCC.out (by simp [zc_len]) ?_); rw [HW2.out]) | (with_reducible refine wpList_allocA rfl isS rfl ?_) | (with_reducible refine wpList_loadW rfl isS _ rfl w1.heap.size c _ rfl HP10.out HCC.out ?_))
    refine (HNU.out _).mono ?_
    rintro _ w3 ⟨rfl, hb3⟩
    have HB03 := Lib.hid (HB02.out.trans (hb3.mono HB02.out.size))
    have HB3 := Lib.hid (HB0.out.trans (HB03.out.mono HB0.out.size))
    have hp10 := (hb3.block _ (lt_of_heap HP10.out)).trans HP10.out
    have HP10' := Lib.hid hp10
    have q10 : w3.cell? ⟨w1.heap.size, 1, none⟩ = some (.int .u8 (m : Int)) := by rw [cell_of_row _ _ _ _ _ _ hp10, List.getElem?_toArray, HC1.out]
    have HP33 := Lib.hid ((HB03.out.block _ (lt_of_heap HP3.out)).trans HP3.out)
    have HRM3 := Lib.hid (HRM.out.below HB03.out)
    clear hb3 hp10 HNU
    have hcs : st = 0 ∨ (st ≠ 0 ∧ m = 0) ∨ (st ≠ 0 ∧ m ≠ 0 ∧ z - x < (m : Int)) ∨ (st ≠ 0 ∧ m ≠ 0 ∧ (m : Int) ≤ z - x) := by omega
    rcases hcs with h | ⟨h, h2⟩ | ⟨h, h2, h3⟩ | ⟨h, h2, h3⟩
    · have HR := Lib.hid (show RdRes (r.read x z) w (.returned (.tuple #[.slice none 0 0, .int .u64 0, .int .i64 0, .int .i64 91])) w3 by rw [HTL.out.1 (Or.inl h)]; exact RdRes.no HB3.out)
      subst h
      go_wp2
      (try simp only [Exit.inBlock, Exit.then])
      refine bodyPost_ret (results_tmp4 rfl _ _ _) rfl ?_
      exact HR.out
    · have HR := Lib.hid (show RdRes (r.read x z) w (.returned (.tuple #[.slice none 0 0, .int .u64 0, .int .i64 0, .int .i64 91])) w3 by rw [HTL.out.1 (Or.inr (Or.inl h2))]; exact RdRes.no HB3.out)
      have e1 : ((st : Int) == 0) = false := by simp; exact h
      subst h2
      clear h
      go_wp2
      (try simp only [Exit.inBlock, Exit.then])
      refine bodyPost_ret (results_tmp4 rfl _ _ _) rfl ?_
      exact HR.out
    · have HR := Lib.hid (show RdRes (r.read x z) w (.returned (.tuple #[.slice none 0 0, .int .u64 0, .int .i64 0, .int .i64 91])) w3 by rw [HTL.out.1 (Or.inr (Or.inr h3))]; exact RdRes.no HB3.out)
      have e1 : ((st : Int) == 0) = false := by simp; exact h
      have e2 : ((m : Int) == 0) = false := by simp; exact h2
      have e3 : decide (z - x < (m : Int)) = true := by simpa using h3
      clear h h2 h3
      go_wp2
      (try simp only [Exit.inBlock, Exit.then])
      refine bodyPost_ret (results_tmp4 rfl _ _ _) rfl ?_
      exact HR.out
    · have HRD := Lib.hid (HTL.out.2 h h2 (by omega))
      have e1 : ((st : Int) == 0) = false := by simp; exact h
      have e2 : ((m : Int) == 0) = false := by simp; exact h2
      have e3 : decide (z - x < (m : Int)) = false := by simp; omega
      have HMZ := Lib.hid h3
      obtain ⟨L, hL⟩ : ∃ L, L = r.secsAt x m := ⟨_, rfl⟩
      have HLE := Lib.hid hL
      have HLL := Lib.hid (show L.length = m by rw [hL, secsAt_length])
      have HL64 := Lib.hid (show ∀ s ∈ L, s.length = 64 by rw [hL]; exact secsAt_64 HOK.out x m)
      have HLG := Lib.hid (show ∀ i, i < m → L[i]? = some (r.at_ (x + (i : Int))) by rw [hL]; exact fun i hi => secsAt_get hi)
      rw [← hL] at HRD
      obtain ⟨w4, hw4⟩ : ∃ w4, w4 = w3.alloc (.cells #[] 5) := ⟨_, rfl⟩
      obtain ⟨w5, hw5⟩ : ∃ w5, w5 = w4.alloc (.cells #[] 88) := ⟨_, rfl⟩
      have HW4 := Lib.hid hw4.symm
      have HW5 := Lib.hid hw5.symm
      have hb4 : RowKit.Below w3.heap.size w3 w4 := by rw [hw4]; exact (RowKit.Below.refl _ _).alloc (Nat.le_refl _) _
      have hb45 : RowKit.Below w4.heap.size w4 w5 := by rw [hw5]; exact (RowKit.Below.refl _ _).alloc (Nat.le_refl _) _
      have HB35 := Lib.hid (hb4.trans (hb45.mono hb4.size))
      have hob : OB w4 w3.heap.size (.slice (some ⟨w3.heap.size, 0, none⟩) 0 0) [] := by rw [hw4]; exact OB.lit (Nat.le_refl _)
      have HOB := Lib.hid (show OB w5 w3.heap.size (.slice (some ⟨w3.heap.size, 0, none⟩) 0 0) (gat (L.take 0)) by rw [List.take_zero]; exact hob.below hb45)
      have HOS := Lib.hid (show w5.ownsRow w3.heap.size 88 64 (.slice (some ⟨w4.heap.size, 0, none⟩) 0 0) 0 (scells (L.take 0)) by rw [List.take_zero, hw5]; exact own_lit w4 w3.heap.size _ 64 hb4.size)
      clear h h2 h3 hL hw4 hw5 hb4 hb45 hob
      go_wp2_with (first | ((with_reducible refine wpList_lit elS rfl rfl ?_); rw [HW5.out]) | ((with_reducible refine wpList_lit elB rfl rfl ?_); rw [HW4.out]))
      clear e1 e2 e3 q10
      go_loopw [13, 14, 15] (fun c13 c14 c15 wr => ∃ (i nb : Nat) (ab : Option Addr) (cb : Nat) (al : Option Addr) (cl : Nat), c13 = .slice ab nb cb ∧ c14 = .slice al i cl ∧ c15 = .int .i64 (i : Int) ∧ nb = (gat (L.take i)).length ∧ i ≤ m ∧ OB wr w3.heap.size (.slice ab nb cb) (gat (L.take i)) ∧ wr.ownsRow w3.heap.size 88 64 (.slice al i cl) i (scells (L.take i)) ∧ RowKit.Below w3.heap.size w3 wr) (fun _ _ c15 _ => m - (match c15 with | .int _ q => q | _ => 0).toNat)
      case atStart => exact ⟨0, 0, _, _, _, _, rfl, rfl, rfl, rfl, Nat.zero_le _, HOB.out, HOS.out, HB35.out⟩
      case round =>
        obtain ⟨i, nb, ab, cb, al, cl, rfl, rfl, rfl, hnb, hi, hob, hos, hbl⟩ := hrel
        have HNB := Lib.hid hnb
        have HOB' := Lib.hid hob
        have HOS' := Lib.hid hos
        have HBL := Lib.hid hbl
        have q10 : wr.cell? ⟨w1.heap.size, 1, none⟩ = some (.int .u8 (m : Int)) := by
          rw [cell_of_row _ _ _ _ _ _ ((hbl.block _ (lt_of_heap HP10'.out)).trans HP10'.out), List.getElem?_toArray, HC1.out]
        clear hnb hob hos hbl
        by_cases hlt : i < m
        · obtain ⟨wo, rfl⟩ : ∃ wo, wo = wr := ⟨_, rfl⟩
          obtain ⟨y, hy⟩ : ∃ y, y = x + (i : Int) := ⟨_, rfl⟩
          have hy2 : IntKind.i64.wrap (x + (i : Int)) = y := by rw [← hy]; exact IntWalk.i64_in _ (by obtain ⟨q1, q2, q3⟩ := HXZ.out; have := HSZ.out; have := HMZ.out; omega)
          have HPX := Lib.hid ((HBL.out.block _ (lt_of_heap HP33.out)).trans HP33.out)
          obtain ⟨t, ht⟩ : ∃ t, t = r.at_ y := ⟨_, rfl⟩
          have htl : t.length = 64 := by rw [ht]; exact at_len HOK.out y
          have HTLN := Lib.hid htl
          have HLT := Lib.hid (show L[i]? = some t by rw [HLG.out i hlt, ht, hy])
          obtain ⟨ct, hct⟩ : ∃ ct, ct = bcells t := ⟨_, rfl⟩
          have HCT := Lib.hid (show Cs 64 ct by rw [hct]; exact cs_sec htl)
          have HCTE := Lib.hid hct
          have HG := Lib.hid (rget_any r a0 c0 a1 c1 F y wo (HRM3.out.below HBL.out))
          unfold GetRes at HG
          rw [← HRE.out, ← ht, ← hct, show r.has y = true from Dk.has_iff.2 (by obtain ⟨q1, q2, q3⟩ := HXZ.out; have := HMZ.out; rw [← HN.out, hy]; omega), if_pos rfl] at HG
          clear hy ht htl hct
          go_wp2_with (with_reducible refine wpList_loadW rfl isD _ rfl w.heap.size R _ rfl HPX.out HRC.out ?_)
          refine HG.out.mono ?_
          rintro _ w6 ⟨rfl, hb6⟩
          obtain ⟨w7, hw7⟩ : ∃ w7, w7 = w6.alloc (.cells ct.toArray 88) := ⟨_, rfl⟩
          obtain ⟨w8, hw8⟩ : ∃ w8, w8 = w7.alloc (.cells ct.toArray 88) := ⟨_, rfl⟩
          have HW7 := Lib.hid (show (w6.alloc (.cells zc.toArray 88)).setRow w6.heap.size ct.toArray = w7 by rw [hw7]; exact setRow_new rfl)
          have HAL7 := Lib.hid (heap_alloc_new w6 (.cells zc.toArray 88))
          have HW8 := Lib.hid hw8.symm
          have hb67 : RowKit.Below w6.heap.size w6 w7 := by rw [hw7]; exact (RowKit.Below.refl _ _).alloc (Nat.le_refl _) _
          have hb78 : RowKit.Below w7.heap.size w7 w8 := by rw [hw8]; exact (RowKit.Below.refl _ _).alloc (Nat.le_refl _) _
          have HBO8 := Lib.hid (hb6.trans ((hb67.trans (hb78.mono hb67.size)).mono hb6.size))
          have HP16 := Lib.hid (show w7.heap[w6.heap.size]? = some (.cells ct.toArray 88) by rw [hw7]; exact blkn rfl)
          have HP168 := Lib.hid ((hb78.block _ (lt_of_heap HP16.out)).trans HP16.out)
          have HB8 := Lib.hid (HBL.out.trans (HBO8.out.mono HBL.out.size))
          have HOB8 := Lib.hid (HOB'.out.below HBO8.out)
          have HOS8 := Lib.hid (show w8.ownsRow w3.heap.size 88 64 (.slice al i cl) i (scells (L.take i)) from ow_same HOS'.out fun b hb => HBO8.out.block b (HOS'.out.lt b hb).2)
          have HLN := Lib.hid (show Lie w8 (some ⟨w7.heap.size, 0, none⟩) ct by rw [hw8]; exact lie_new w7 ct _)
          have HCL := Lib.hid (show ct.length = 1 * 64 by rw [Nat.one_mul]; exact HCT.out.len)
          have HCLE := Lib.hid HCT.out.len
          have HCO := Lib.hid HCT.out.one
          have HI1 := Lib.hid (show i + 1 ≤ 1000000 by omega)
          have HNI := Lib.hid (show (some ⟨w7.heap.size, 0, none⟩ : Option Addr) = none → 1 = 0 from fun e => by cases e)
          have HSZ8 := Lib.hid HB8.out.size
          have HTK := Lib.hid (show scells (L.take i) ++ ct = scells (L.take (i + 1)) by rw [List.take_add_one, HLT.out]; show _ = scells (L.take i ++ [t]); rw [scells_app, scells_sing, HCTE.out])
          have HLT6 := Lib.hid (show (Value.slice al i cl).ownBlock ≠ some w6.heap.size from fun e => by have := (HOS'.out.lt _ e).2; have := hb6.size; omega)
          clear hb6 hw7 hw8 hb67 hb78 q10 hy2 HG
          go_wp2_with (first | (with_reducible refine wpList_appO elS rfl _ _ rfl w3.heap.size (.slice al i cl) i (scells (L.take i)) (some ⟨w7.heap.size, 0, none⟩) 1 1 ct rfl rfl HOS8.out HCL.out HLN.out HNI.out HCO.out HI1.out (by decide) HSZ8.out (fun v9 w9 h9 => ?_)) | ((with_reducible refine wpList_one elS rfl _ rfl ct rfl HCLE.out (by decide) ?_); rw [HW8.out]) | ((with_reducible refine wpList_storeW rfl isS _ _ rfl w6.heap.size ct zc.toArray _ rfl rfl HAL7.out HCT.out (by simp [zc_len]) ?_); rw [HW7.out]) | (with_reducible refine wpList_allocA rfl isS rfl ?_) | (with_reducible refine wpList_loadW rfl isS _ rfl w6.heap.size ct _ rfl HP16.out HCT.out ?_))
          have HB9 := Lib.hid (below_appd h9 HB8.out HB8.out.size (fun b hb => (HOS8.out.lt b hb).1))
          have ho9 : w9.ownsRow w3.heap.size 88 64 v9 (i + 1) (scells (L.take (i + 1))) := by rw [← HTK.out]; exact h9.1
          have HOB9 := Lib.hid (show OB w9 w3.heap.size (.slice ab nb cb) (gat (L.take i)) from HOB8.out.kept h9.2.1 (fun b hb e => own_type2 HOS8.out HOB8.out (by decide) b hb e))
          have HR9 := Lib.hid (show BRow w9 w6.heap.size t by
            unfold BRow
            rw [← HCTE.out]
            exact (h9.2.1.block _ (lt_of_heap HP168.out) (fun e => HLT6.out e.symm)).trans HP168.out)
          obtain ⟨al9, cl9, hv9⟩ := own_slice ho9
          rw [hv9] at ho9
          have HOS9 := Lib.hid ho9
          rw [hv9]
          obtain ⟨q, hq⟩ : ∃ q, q = (t.getD 2 0).toNat := ⟨_, rfl⟩
          have HQ := Lib.hid hq
          have HQ255 := Lib.hid (show q ≤ 255 by rw [hq]; have := (t.getD 2 0).toNat_lt; omega)
          have hq255 := HQ255.out
          obtain ⟨g0, hg0⟩ : ∃ g0, g0 = gat (L.take i) := ⟨_, rfl⟩
          have HG0 := Lib.hid hg0
          rw [← hg0] at HOB9
          have HGN := Lib.hid (show gat (L.take (i + 1)) = g0 ++ gatS t by rw [hg0]; exact gat_snoc HLT.out)
          have HGS := Lib.hid (show gatS t = (t.drop 3).take (min q 53) by unfold gatS; rw [← hq])
          have HGL := Lib.hid (show (gatS t).length = min q 53 by rw [gatS_len HTLN.out, ← hq])
          have HNBG := Lib.hid (show nb = g0.length by rw [hg0]; exact HNB.out)
          have HG13 := Lib.hid (show g0.length ≤ 20000 by rw [hg0]; have := gat_le (L.take i); rw [List.length_take] at this; omega)
          clear h9 ho9 hv9 hq hg0
          go_wp2_with fail
          go_loopw [13, 18] (fun c13 c18 wr => ∃ (k : Nat) (ab : Option Addr) (cb : Nat), c13 = .slice ab (nb + k) cb ∧ c18 = .int .i64 (k : Int) ∧ k ≤ min q 53 ∧ OB wr w3.heap.size (.slice ab (nb + k) cb) (g0 ++ (gatS t).take k) ∧ wr.ownsRow w3.heap.size 88 64 (.slice al9 (i + 1) cl9) (i + 1) (scells (L.take (i + 1))) ∧ BRow wr w6.heap.size t ∧ RowKit.Below w3.heap.size w3 wr) (fun _ c18 _ => 53 - (match c18 with | .int _ q => q | _ => 0).toNat)
          case atStart => exact ⟨0, ab, cb, rfl, rfl, Nat.zero_le _, by rw [List.take_zero, List.append_nil]; exact HOB9.out, HOS9.out, HR9.out, HB9.out⟩
          case round =>
            clear HOB9 HOS9 HR9
            obtain ⟨k, ab', cb', rfl, rfl, hk, hob, hos, hr, hbl⟩ := hrel
            have HOBk := Lib.hid hob
            have HOSk := Lib.hid hos
            have HRk := Lib.hid hr
            have HBk := Lib.hid hbl
            have q2 : wr.cell? ⟨w6.heap.size, 2, none⟩ = some (.int .u8 (q : Int)) := by rw [hr.cell (by rw [HTLN.out]; omega), HQ.out]
            clear hob hos hr hbl
            by_cases hkq : k < min q 53
            · have f0 : decide ((k : Int) < (q : Int)) = true := by simp; omega
              have f1 : decide ((k : Int) < 53) = true := by simp; omega
              obtain ⟨b8, hb8⟩ : ∃ b8, b8 = t.getD (3 + k) 0 := ⟨_, rfl⟩
              have q3 : wr.cell? ⟨w6.heap.size, 3 + k, none⟩ = some (.int .u8 (b8.toNat : Int)) := by rw [HRk.out.cell (by rw [HTLN.out]; omega), hb8]
              have HTKK := Lib.hid (show g0 ++ (gatS t).take k ++ [b8] = g0 ++ (gatS t).take (k + 1) by
                rw [List.append_assoc, List.take_add_one, HGS.out, List.getElem?_take_of_lt hkq, List.getElem?_drop, List.getElem?_eq_getElem (by rw [HTLN.out]; omega), hb8, List.getD, List.getElem?_eq_getElem (by rw [HTLN.out]; omega)]
                rfl)
              have hba : RowKit.Below wr.heap.size wr (wr.alloc (.cells #[.int .u8 (b8.toNat : Int)] 5)) := (RowKit.Below.refl _ _).alloc (Nat.le_refl _) _
              have HOBa := Lib.hid (HOBk.out.below hba)
              have HBa := Lib.hid (HBk.out.trans (hba.mono HBk.out.size))
              have HOSa := Lib.hid (show (wr.alloc (.cells #[.int .u8 (b8.toNat : Int)] 5)).ownsRow w3.heap.size 88 64 (.slice al9 (i + 1) cl9) (i + 1) (scells (L.take (i + 1))) from ow_same HOSk.out fun b hb => hba.block b (HOSk.out.lt b hb).2)
              have HRa := Lib.hid (show BRow (wr.alloc (.cells #[.int .u8 (b8.toNat : Int)] 5)) w6.heap.size t from (hba.block _ (lt_of_heap HRk.out)).trans HRk.out)
              have HBAT := Lib.hid (one_byte wr b8 (b8.toNat : Int) 5 rfl)
              have HLEN := Lib.hid (show (g0 ++ (gatS t).take k).length + [b8].length ≤ 1000000000 by have := HG13.out; rw [List.length_append, List.length_take, HGL.out]; simp; omega)
              have HNIL := Lib.hid (show (some ⟨wr.heap.size, 0, none⟩ : Option Addr) = none → [b8] = [] from fun e => by cases e)
              have HSZa := Lib.hid HBa.out.size
              have HNL := Lib.hid (show (g0 ++ (gatS t).take (k + 1)).length = nb + (k + 1) by rw [HNBG.out, List.length_append, List.length_take, HGL.out]; omega)
              clear hb8 hba
              go_wp2_with (with_reducible refine wpList_appB rfl _ _ rfl w3.heap.size (.slice ab' (nb + k) cb') (g0 ++ (gatS t).take k) [b8] (some ⟨wr.heap.size, 0, none⟩) 1 1 rfl rfl rfl HOBa.out HBAT.out HNIL.out HLEN.out HSZa.out (fun vb wb hwb => ?_))
              obtain ⟨o5, u5, s5, z5⟩ := hwb
              rw [HTKK.out] at o5
              obtain ⟨abn, cbn, hvb⟩ := ob_slice o5
              rw [HNL.out] at hvb
              rw [hvb] at o5 u5
              have HOBn := Lib.hid o5
              have HBn := Lib.hid (u5.below HOBa.out HSZa.out HBa.out)
              have HOSn := Lib.hid (show wb.ownsRow w3.heap.size 88 64 (.slice al9 (i + 1) cl9) (i + 1) (scells (L.take (i + 1))) from ow_same HOSa.out fun b hb => u5.g.block b (HOSa.out.lt b hb).2 (fun e => own_type2 HOSa.out HOBa.out (by decide) b hb e.symm))
              have HRn := Lib.hid (show BRow wb w6.heap.size t from (u5.g.block _ (lt_of_heap HRa.out) (fun e => own_type HOBa.out HRa.out (by decide) e.symm)).trans HRa.out)
              clear o5 u5 s5 z5
              go_wp2_with fail
              go_roundw
              case rel => exact ⟨k + 1, abn, cbn, hvb, by go_num, by omega, HOBn.out, HOSn.out, HRn.out, HBn.out⟩
              case measure => simp; omega
            · obtain rfl : k = min q 53 := by omega
              have HOBE := Lib.hid (show OB wr w3.heap.size (.slice ab' (nb + min q 53) cb') (gat (L.take (i + 1))) by
                have := HOBk.out
                rw [List.take_of_length_le (by rw [HGL.out]; exact Nat.le_refl _), ← HGN.out] at this
                exact this)
              have HNBE := Lib.hid (show nb + min q 53 = (gat (L.take (i + 1))).length by rw [HGN.out, List.length_append, HGL.out, HNBG.out])
              have hcs : q ≤ 53 ∨ 53 < q := by omega
              generalize hkk : min q 53 = kk at *
              rcases hcs with hq | hq
              · obtain rfl : kk = q := by omega
                clear hq hkk hkq hk
                go_wp2_with fail
                go_roundw
                case rel => exact ⟨i + 1, nb + kk, ab', cb', al9, cl9, rfl, rfl, by go_num, HNBE.out, by omega, HOBE.out, HOSk.out, HBk.out⟩
                case measure => simp; omega
              · obtain rfl : kk = 53 := by omega
                have f0 : decide ((53 : Int) < (q : Int)) = true := by simp; omega
                clear hkk hkq hk
                go_wp2_with fail
                go_roundw
                case rel => exact ⟨i + 1, nb + 53, ab', cb', al9, cl9, rfl, rfl, by go_num, HNBE.out, by omega, HOBE.out, HOSk.out, HBk.out⟩
                case measure => simp; omega
        · obtain rfl : i = m := by omega
          have HTK := Lib.hid (show L.take i = L by rw [← HLL.out]; exact List.take_length)
          obtain ⟨b, hb⟩ : ∃ b, b = gat L := ⟨_, rfl⟩
          have HBE := Lib.hid hb
          have HOBE := Lib.hid (show OB wr w3.heap.size (.slice ab nb cb) b by rw [hb]; have := HOB'.out; rwa [HTK.out] at this)
          have HNBE := Lib.hid (show b.length = nb by rw [HNB.out, HTK.out, hb])
          obtain ⟨hba, hcb, hna⟩ := ob_bat HOBE.out
          have HBA := Lib.hid hba
          have HCB := Lib.hid hcb
          have HNA := Lib.hid hna
          have HLIL := Lib.hid (show Lie wr al (scells L) by have := own_lie HOS'.out; rwa [HTK.out] at this)
          have HB3W := Lib.hid (HB3.out.trans (HBL.out.mono HB3.out.size))
          have hi255 : i ≤ 255 := hm255
          have HRS := Lib.hid (rsectors_any st b ab nb cb wr HSTL.out hba HNBE.out (by rw [← HNBE.out, hb]; have := gat_le L; rw [HLL.out] at this; omega))
          obtain ⟨K, hK⟩ : ∃ K, K = secs st b := ⟨_, rfl⟩
          have HKE := Lib.hid hK
          have HK64 := Lib.hid (show ∀ s ∈ K, s.length = 64 by rw [hK]; exact secs_64 st b)
          rw [← hK] at HRS
          rw [← HBE.out] at HRD
          rw [← HKE.out] at HRD
          obtain ⟨kl, hkl⟩ : ∃ kl, kl = K.length := ⟨_, rfl⟩
          have HKL := Lib.hid hkl
          clear hb hba hcb hna hK hkl hi hlt
          go_wp2_with fail
          refine HRS.out.mono ?_
          rintro _ w6 ⟨a5, c5, rfl, hli5, _, _, hb6⟩
          have HB6 := Lib.hid (HB3W.out.trans (hb6.mono HB3W.out.size))
          have HLI5 := Lib.hid hli5
          have HLI6 := Lib.hid (HLIL.out.below hb6)
          have HBA6 := Lib.hid (HBA.out.below hb6)
          rw [← HKL.out]
          clear hli5 hb6 q10 HRS
          by_cases hlen : kl = i
          · subst hlen
            have HNIL := Lib.hid (show RdRes (Rd.none 91) w (.returned (.tuple #[.slice none 0 0, .int .u64 0, .int .i64 0, .int .i64 91])) w6 from RdRes.no HB6.out)
            go_wp2_with fail
            go_loopw [106] (fun c106 wr => ∃ k : Nat, c106 = .int .i64 (k : Int) ∧ k ≤ kl ∧ L.take k = K.take k ∧ RowKit.Below w6.heap.size w6 wr) (fun c106 _ => kl - (match c106 with | .int _ q => q | _ => 0).toNat)
            case atStart => exact ⟨0, rfl, Nat.zero_le _, rfl, RowKit.Below.refl _ _⟩
            case round =>
              obtain ⟨k, rfl, hk, htk, hbl⟩ := hrel
              have HT := Lib.hid htk
              have HBQ := Lib.hid hbl
              have HBW := Lib.hid (HB6.out.trans (hbl.mono HB6.out.size))
              clear htk hbl
              by_cases hlt : k < kl
              · obtain ⟨t, ht⟩ : ∃ s, L[k]? = some s := ⟨_, List.getElem?_eq_getElem (by rw [HLL.out]; exact hlt)⟩
                obtain ⟨u, hu⟩ : ∃ t, K[k]? = some t := ⟨_, List.getElem?_eq_getElem (by rw [← HKL.out]; exact hlt)⟩
                have HTT := Lib.hid ht
                have HUU := Lib.hid hu
                have htl := HL64.out t (List.mem_of_getElem? ht)
                have hul := HK64.out u (List.mem_of_getElem? hu)
                obtain ⟨b1, o1, ha1, _, hr1⟩ := (HLI6.out.below HBQ.out).get (f := bcells) (n := 64) (fun s hs => cells_len s (HL64.out s hs)) (by decide) ht
                obtain ⟨b2, o2, ha2, _, hr2⟩ := (HLI5.out.below HBQ.out).get (f := bcells) (n := 64) (fun s hs => cells_len s (HK64.out s hs)) (by decide) hu
                obtain ⟨cx, hcx⟩ : ∃ cx, cx = bcells t := ⟨_, rfl⟩
                obtain ⟨cy, hcy⟩ : ∃ cy, cy = bcells u := ⟨_, rfl⟩
                obtain ⟨q, hq⟩ : ∃ q, q = decide (t = u) := ⟨_, rfl⟩
                have HNEQ := Lib.hid (show ∀ W, (Op.equalIn 10000 88 (.agg cx.toArray) (.agg cy.toArray)).run Tryz.prog W = .ok q W by rw [hcx, hcy, hq]; exact eqS htl hul)
                have HQ := Lib.hid hq
                rw [← hcx] at hr1
                rw [← hcy] at hr2
                have HR1 := Lib.hid hr1
                have HR2 := Lib.hid hr2
                have HC1 := Lib.hid (show Cs 64 cx by rw [hcx]; exact cs_sec htl)
                have HC2 := Lib.hid (show Cs 64 cy by rw [hcy]; exact cs_sec hul)
                subst ha1 ha2
                clear ht hu htl hul hr1 hr2 hcx hcy hq
                go_wp2
                refine wp_region_held_drew (S := fun W => Agree [b1, b2] wr W) (by kernel_rfl) ?_ (fun hHeld => ?_)
                · exact fun _ _ => rfl
                refine held_take 0 (v := ?_) rfl (by kernel_rfl) (by kernel_rfl) (by kernel_rfl) (fun _ _ _ h => h) hHeld (by rfl) ?_ ?_
                rotate_left
                · (intro W hW; go_simp; try with_reducible rfl)
                try simp only [Act.put, List.setIfInBounds_toArray, List.set_cons_zero, List.set_cons_succ]
                refine held_take 1 (v := ?_) rfl (by kernel_rfl) (by kernel_rfl) (by kernel_rfl) (fun _ _ _ h => h) hHeld (by rfl) ?_ ?_
                rotate_left
                · (intro W hW; go_simp; try with_reducible rfl)
                try simp only [Act.put, List.setIfInBounds_toArray, List.set_cons_zero, List.set_cons_succ]
                refine held_take 2 (v := ?_) rfl (by kernel_rfl) (by kernel_rfl) (by kernel_rfl) (fun _ _ _ h => h) hHeld (by rfl) ?_ ?_
                rotate_left
                · (intro W hW; have e := run_idx elS (b := b1) (off := o1) (n := kl) (cap := cl) (k := .i64) (i := (k : Int)) (j := k) rfl hlt W; go_simp; try with_reducible rfl)
                try simp only [Act.put, List.setIfInBounds_toArray, List.set_cons_zero, List.set_cons_succ]
                refine held_take 3 (v := .agg cx.toArray) rfl (by kernel_rfl) (by kernel_rfl) (by kernel_rfl) (fun _ _ _ h => h) hHeld (by rfl) (fun W hW => exec_loadM isS _ rfl _ _ cx rfl (hW.range (by simp) HR1.out) HC1.out) ?_
                try simp only [Act.put, List.setIfInBounds_toArray, List.set_cons_zero, List.set_cons_succ]
                refine held_take 4 (v := ?_) rfl (by kernel_rfl) (by kernel_rfl) (by kernel_rfl) (fun _ _ _ h => h) hHeld (by rfl) ?_ ?_
                rotate_left
                · (intro W hW; go_simp; try with_reducible rfl)
                try simp only [Act.put, List.setIfInBounds_toArray, List.set_cons_zero, List.set_cons_succ]
                refine held_take 5 (v := ?_) rfl (by kernel_rfl) (by kernel_rfl) (by kernel_rfl) (fun _ _ _ h => h) hHeld (by rfl) ?_ ?_
                rotate_left
                · (intro W hW; go_simp; try with_reducible rfl)
                try simp only [Act.put, List.setIfInBounds_toArray, List.set_cons_zero, List.set_cons_succ]
                refine held_take 6 (v := ?_) rfl (by kernel_rfl) (by kernel_rfl) (by kernel_rfl) (fun _ _ _ h => h) hHeld (by rfl) ?_ ?_
                rotate_left
                · (intro W hW; have e := run_idx elS (b := b2) (off := o2) (n := kl) (cap := c5) (k := .i64) (i := (k : Int)) (j := k) rfl hlt W; go_simp; try with_reducible rfl)
                try simp only [Act.put, List.setIfInBounds_toArray, List.set_cons_zero, List.set_cons_succ]
                refine held_take 7 (v := .agg cy.toArray) rfl (by kernel_rfl) (by kernel_rfl) (by kernel_rfl) (fun _ _ _ h => h) hHeld (by rfl) (fun W hW => exec_loadM isS _ rfl _ _ cy rfl (hW.range (by simp) HR2.out) HC2.out) ?_
                try simp only [Act.put, List.setIfInBounds_toArray, List.set_cons_zero, List.set_cons_succ]
                refine held_take 8 (v := ?_) rfl (by kernel_rfl) (by kernel_rfl) (by kernel_rfl) (fun _ _ _ h => h) hHeld (by rfl) ?_ ?_
                rotate_left
                · (intro W hW; have e := HNEQ.out W; go_simp; try with_reducible rfl)
                try simp only [Act.put, List.setIfInBounds_toArray, List.set_cons_zero, List.set_cons_succ]
                refine wpAnyH_done (by kernel_rfl) ?_ _
                go_simp
                cases q with
                | true =>
                  have hst : t = u := of_decide_eq_true HQ.out.symm
                  have HNX := Lib.hid (take_next HTT.out HUU.out HT.out hst)
                  clear hst
                  go_wp2
                  go_roundw
                  case rel => exact ⟨k + 1, by go_num, by omega, HNX.out, HBQ.out.trans ((RowKit.Below.refl _ _).drew.mono HBQ.out.size)⟩
                  case measure => simp; omega
                | false =>
                  have hst : ¬ t = u := of_decide_eq_false HQ.out.symm
                  have HR := Lib.hid (show RdRes (r.read x z) w (.returned (.tuple #[.slice none 0 0, .int .u64 0, .int .i64 0, .int .i64 91])) wr.drew by
                    rw [HRD.out, if_neg (fun e => by
                      have := HTT.out
                      rw [e, HUU.out] at this
                      exact hst (Option.some.inj this).symm)]
                    exact RdRes.no (HBW.out.trans ((RowKit.Below.refl _ wr).drew.mono HBW.out.size)))
                  clear hst
                  go_wp2
                  try rw [Exit.noGoto_ret]
                  (try simp only [Exit.inBlock, Exit.then])
                  refine bodyPost_ret (results_tmp4 rfl _ _ _) rfl ?_
                  exact HR.out
              · obtain rfl : k = kl := by omega
                have HR := Lib.hid (show RdRes (r.read x z) w (.returned (.tuple #[.slice ab nb cb, .int .u64 (st : Int), .int .i64 (k : Int), .int .i64 0])) wr by
                  have e : L = K := by
                    have e := HT.out
                    have e2 : K.take k = K := by rw [HKL.out]; exact List.take_length
                    rw [HTK.out, e2] at e
                    exact e
                  rw [HRD.out, if_pos e]
                  exact ⟨ab, cb, by rw [HNBE.out], HBA6.out.below HBQ.out, HCB.out, HNA.out, HBW.out⟩)
                clear hk hlt
                go_wp2
                (try simp only [Exit.inBlock, Exit.then])
                refine bodyPost_ret (results_tmp4 rfl _ _ _) rfl ?_
                exact HR.out
          · have HR := Lib.hid (show RdRes (r.read x z) w (.returned (.tuple #[.slice none 0 0, .int .u64 0, .int .i64 0, .int .i64 91])) w6 by
              rw [HRD.out, if_neg (fun e => hlen (by rw [HKL.out, ← e, HLL.out]))]
              exact RdRes.no HB6.out)
            have e1 : ((kl : Int) == (i : Int)) = false := by simp; omega
            clear hlen
            go_wp2
            (try simp only [Exit.inBlock, Exit.then])
            refine bodyPost_ret (results_tmp4 rfl _ _ _) rfl ?_
            exact HR.out
end Go.Proofs.YtdfbpaajkpnaeaaGreat
