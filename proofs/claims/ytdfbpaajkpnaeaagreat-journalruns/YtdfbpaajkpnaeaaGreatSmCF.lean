
/- Package stamp: sectors in a row of the call's own, written to byte by byte. Package stamp: lay. slices.Backward over bytes: its iterator's contract. Package stamp: stampOf. -/
import Derived.Test.YtdfbpaajkpnaeaaGreatSmB
import Derived.Test.YtdfbpaajkpnaeaaGreatDkPV
import Derived.Laws.IdiomCopy
import Derived.RangeFuncNested
import Derived.RangeFuncBound
import Derived.RangeFuncCalls
import Derived.RangeFuncLeaves
import Derived.Shelf.Abstract
import Derived.Shelf.RegionOpen
import Derived.OwnWalkIn
import Derived.TacticsInMore
import Derived.LoopNIn
import Derived.LoopIn
import Derived.Lib.EndianBits
import Derived.Lib.Varint

namespace Go.Proofs.YtdfbpaajkpnaeaaGreat
set_option maxRecDepth 100000
open Go.RowKit Go.Lib

/-- p lies in s from k on -/
def patch (s : Sec) (k : Nat) (p : List UInt8) : Sec := s.take k ++ p ++ s.drop (k + p.length)
theorem patch_len {s : Sec} {k : Nat} {p : List UInt8} (hs : s.length = 64) (h : k + p.length ≤ 64) : (patch s k p).length = 64 := by simp [patch]; omega
theorem patch_mid {A B C p : List UInt8} {k : Nat} (hA : A.length = k) (hB : B.length = p.length) : patch (A ++ B ++ C) k p = A ++ p ++ C := by
  unfold patch
  rw [List.append_assoc A B C, ← hA, List.take_left, ← List.drop_drop, List.drop_left, ← hB, List.drop_left]
/-- block g holds the sectors L -/
def SRow (w : World) (g : Nat) (L : List Sec) : Prop := w.ownsRow 0 88 64 (.slice (some ⟨g, 0, none⟩) L.length L.length) L.length (scells L)
theorem SRow.there {w : World} {g : Nat} {L : List Sec} (h : SRow w g L) {i k n : Nat} (hi : i < L.length) (hk : k + n ≤ 64) : w.there g (i * 64 + k) n := ow_there h (by omega)
theorem SRow.lie {w : World} {g : Nat} {L : List Sec} (h : SRow w g L) : Lie w (some ⟨g, 0, none⟩) (scells L) := by
  obtain ⟨a, cap, hv, hl, _, _⟩ := ow_lie h
  injection hv with h1 _ _
  rw [h1]; exact hl
theorem SRow.lt {w : World} {g : Nat} {L : List Sec} (h : SRow w g L) : g < w.heap.size := (World.ownsRow.lt h g rfl).2
theorem SRow.cells {w : World} {g : Nat} {L : List Sec} (h : SRow w g L) (h64 : ∀ s ∈ L, s.length = 64) {i k : Nat} {s : Sec} {p : List UInt8} (hi : L[i]? = some s) (hk : k + p.length ≤ 64) :
    SRow (w.setCells g (i * 64 + k) (bcells p)) g (L.set i (patch s k p)) ∧ w.grownBy (w.setCells g (i * 64 + k) (bcells p)) (some g) := by
  have hil : i < L.length := (List.getElem?_eq_some_iff.1 hi).1
  have hs : s.length = 64 := h64 s (List.mem_of_getElem? hi)
  have hsl := scells_len h64
  have r := ow_setCells (bcells p) (i * 64 + k) w (scells L) h (by rw [bcells_len, hsl]; omega)
  have e : (scells L).take (i * 64 + k) ++ bcells p ++ (scells L).drop (i * 64 + k + (bcells p).length) = scells (L.set i (patch s k p)) := by
    have hf : ∀ y ∈ L, (bcells y).length = 64 := fun y hy => cells_len y (h64 y hy)
    have hd : (scells L).drop (i * 64) = bcells s ++ (scells L).drop (i * 64 + 64) := by
      show (L.flatMap bcells).drop _ = bcells s ++ (L.flatMap bcells).drop _
      rw [show i * 64 + 64 = (i + 1) * 64 by omega, flat_drop i hf (by omega), flat_drop (i + 1) hf (by omega), List.drop_eq_getElem_cons hil, List.flatMap_cons]
      have : L[i] = s := by rw [List.getElem?_eq_getElem hil] at hi; exact Option.some.inj hi
      rw [this]
    unfold scells
    rw [flat_set hf hil, List.take_add]
    show (scells L).take (i * 64) ++ ((scells L).drop (i * 64)).take k ++ bcells p ++ (scells L).drop (i * 64 + k + (bcells p).length) = (scells L).take (i * 64) ++ bcells (patch s k p) ++ (scells L).drop (i * 64 + 64)
    rw [Nat.add_assoc, ← List.drop_drop, hd, patch, bcells_app, bcells_app, List.take_append_of_le_length (by rw [bcells_len]; omega), List.drop_append_of_le_length (by rw [bcells_len, bcells_len]; omega)]
    have t1 : (bcells s).take k = bcells (s.take k) := by simp [bcells]
    have t2 : (bcells s).drop (k + (bcells p).length) = bcells (s.drop (k + p.length)) := by simp [bcells]
    rw [t1, t2]
    simp only [List.append_assoc]
  rw [e] at r
  unfold SRow
  rw [List.length_set]
  exact ⟨r.1, r.2⟩
theorem SRow.below {w w' : World} {g : Nat} {L : List Sec} (h : SRow w g L) (hb : RowKit.Below w.heap.size w w') : SRow w' g L := ow_same h fun i hi => by cases hi; exact hb.block _ h.lt
theorem set64 {L : List Sec} (h : ∀ s ∈ L, s.length = 64) {i : Nat} {s : Sec} (hs : s.length = 64) : ∀ t ∈ L.set i s, t.length = 64 := fun t ht => by
  rcases List.mem_or_eq_of_mem_set ht with h1 | h1
  · exact h t h1
  · rw [h1]; exact hs
theorem siz1 : (Tryz.prog.info? 5).map (·.size) = some 1 := by kernel_rfl
/-- s[k] = b, in a row of sectors -/
theorem wp_byte {o : Oper} {a : Act} {w : World} {K : Act → World → Prop} {Q : Exit → Act → World → Prop} (x y : Operand) (ho : o.op = .store 5 x y) {g i k off : Nat} {L : List Sec} {s : Sec} {b : UInt8} {v : Int} (hx : a.eval x = .pointer (some ⟨g, off, none⟩)) (hy : a.eval y = .int .u8 v) (hoff : off = i * 64 + k) (hv : v = (b.toNat : Int))
    (hr : SRow w g L) (h64 : ∀ s ∈ L, s.length = 64) (hi : L[i]? = some s) (hk : k < 64) (h : ∀ W', SRow W' g (L.set i (patch s k [b])) → w.grownBy W' (some g) → W'.heap.size = w.heap.size → K (a.put o.dst undef) W') : o.wp Tryz.prog a w K Q := by
  have hil : i < L.length := (List.getElem?_eq_some_iff.1 hi).1
  obtain ⟨hs, hf⟩ := hr.there (k := k) (n := 1) hil (by omega) 0 (by omega)
  obtain ⟨old, hc⟩ := Option.isSome_iff_exists.1 hs
  obtain ⟨r1, r2⟩ := hr.cells h64 (k := k) (p := [b]) hi (by simp; omega)
  have e : w.setCells g (i * 64 + k) (bcells [b]) = w.setCell ⟨g, i * 64 + k, none⟩ (.int .u8 (b.toNat : Int)) := rfl
  rw [e] at r1 r2
  subst hoff hv
  exact wp_store1 _ x y ho ⟨g, i * 64 + k, none⟩ .u8 _ old hx hy siz1 hc hf (h _ r1 r2 (by simp))
theorem wpList_byte {ops : Array Oper} {rest : List Oper} {o : Oper} {a : Act} {w : World} {Q : Exit → Act → World → Prop} (hgd : o.guard = none) (x y : Operand) (ho : o.op = .store 5 x y) {g i k off : Nat} {L : List Sec} {s : Sec} {b : UInt8} {v : Int} (hx : a.eval x = .pointer (some ⟨g, off, none⟩)) (hy : a.eval y = .int .u8 v) (hoff : off = i * 64 + k) (hv : v = (b.toNat : Int))
    (hr : SRow w g L) (h64 : ∀ s ∈ L, s.length = 64) (hi : L[i]? = some s) (hk : k < 64) (h : ∀ W', SRow W' g (L.set i (patch s k [b])) → w.grownBy W' (some g) → W'.heap.size = w.heap.size → wpList Tryz.prog ops Q rest (a.put o.dst undef) W') : wpList Tryz.prog ops Q (o :: rest) a w :=
  wpList_plain hgd fun _ hK => wp_byte x y ho hx hy hoff hv hr h64 hi hk fun W' h1 h2 h3 => hK _ _ (h W' h1 h2 h3)
/-- copy(s[k:], p), in a row of sectors -/
theorem wp_copyS {o : Oper} {a : Act} {w : World} {K : Act → World → Prop} {Q : Exit → Act → World → Prop} (x y : Operand) (ho : o.op = .call { callee := .builtin .copy, args := #[x, y], argTypes := #[23, 23] }) {g i k off n c sn sc : Nat} {L : List Sec} {s : Sec} {ad : Option Addr} {p : List UInt8}
    (hx : a.eval x = .slice (some ⟨g, off, none⟩) n c) (hy : a.eval y = .slice ad sn sc) (hoff : off = i * 64 + k) (hp : BAt w ad p) (hn : p.length = Nat.min sn n)
    (hr : SRow w g L) (h64 : ∀ s ∈ L, s.length = 64) (hi : L[i]? = some s) (hk : k + n ≤ 64) (h : ∀ W', SRow W' g (L.set i (patch s k p)) → w.grownBy W' (some g) → W'.heap.size = w.heap.size → K (a.put o.dst (.int .i64 (p.length : Int))) W') : o.wp Tryz.prog a w K Q := by
  have hil : i < L.length := (List.getElem?_eq_some_iff.1 hi).1
  have hpn : p.length ≤ n := by rw [hn]; exact Nat.min_le_right _ _
  obtain ⟨r1, r2⟩ := hr.cells h64 (k := k) (p := p) hi (by omega)
  have hrun : (Builtin.copy_ #[23, 23] o.type #[.slice (some ⟨g, off, none⟩) n c, .slice ad sn sc]).run Tryz.prog w = .ok (goInt p.length) (w.setCells g (i * 64 + k) (bcells p)) := by
    subst hoff
    rcases hp with h0 | ⟨b, off2, rfl, hlt, hcs⟩
    · subst h0
      have := run_copy_none (P := Tryz.prog) w 23 23 o.type 5 (some ⟨g, i * 64 + k, none⟩) ad n c sn sc Tryz.underlying23 siz1 hn.symm
      rw [this]; rfl
    · have ht := hr.there (k := k) (n := p.length) hil (by omega)
      have := run_copy_cells (P := Tryz.prog) w 23 23 o.type 5 g (i * 64 + k) n c ⟨b, off2, none⟩ sn sc (bcells p) Tryz.underlying23 siz1 (by rw [bcells_len]; exact hn) (fun j v hv => by
        have hj : j < p.length := by rw [← bcells_len]; exact (List.getElem?_eq_some_iff.1 hv).1
        rw [Addr.add_mid, hcs j hj, ← hv, bcells_get hj]) (fun j hj => (ht j (by rw [bcells_len] at hj; exact hj)).1) (fun j hj => (ht j (by rw [bcells_len] at hj; exact hj)).2) (bcells_one p)
      rw [bcells_len] at this
      exact this
  unfold Oper.wp execOp
  simp only [ho, resolve, invoke, builtin, Sem.run_bind, Sem.run_pure, Result.andThen_ok, List.map_toArray, List.map_cons, List.map_nil, hx, hy, hrun]
  exact h _ r1 r2 (by rw [size_setCells])
/-- the pointer to a sector of a row -/
theorem laid_steps {i many : Nat} {p : List UInt8} {n : Nat} (hp : p.length ≤ 53) :
    patch (patch (patch (patch (patch zsec 0 [UInt8.ofNat i]) 1 [UInt8.ofNat many]) 3 p) 2 [UInt8.ofNat p.length]) 56 (le8 8 n) = mkS i many p n := by
  have z1 : zsec = ([] : List UInt8) ++ [(0 : UInt8)] ++ List.replicate 63 (0 : UInt8) := rfl
  have z2 : [] ++ [UInt8.ofNat i] ++ List.replicate 63 (0 : UInt8) = [UInt8.ofNat i] ++ [0] ++ List.replicate 62 0 := rfl
  have z3 : [UInt8.ofNat i] ++ [UInt8.ofNat many] ++ List.replicate 62 (0 : UInt8) = [UInt8.ofNat i, UInt8.ofNat many, 0] ++ List.replicate p.length 0 ++ List.replicate (61 - p.length) 0 := by
    rw [List.append_assoc _ (List.replicate p.length 0), List.replicate_append_replicate, show p.length + (61 - p.length) = 61 by omega]; rfl
  have z4 : [UInt8.ofNat i, UInt8.ofNat many, 0] ++ p ++ List.replicate (61 - p.length) (0 : UInt8) = [UInt8.ofNat i, UInt8.ofNat many] ++ [0] ++ (p ++ List.replicate (61 - p.length) 0) := by simp
  have z5 : [UInt8.ofNat i, UInt8.ofNat many] ++ [UInt8.ofNat p.length] ++ (p ++ List.replicate (61 - p.length) (0 : UInt8)) = ([UInt8.ofNat i, UInt8.ofNat many, UInt8.ofNat p.length] ++ (p ++ List.replicate (53 - p.length) 0)) ++ List.replicate 8 0 ++ [] := by
    rw [show 61 - p.length = (53 - p.length) + 8 by omega, ← List.replicate_append_replicate]; simp
  rw [z1, patch_mid (A := []) (B := [0]) (p := [UInt8.ofNat i]) (k := 0) rfl rfl, z2, patch_mid (A := [UInt8.ofNat i]) (B := [0]) (p := [UInt8.ofNat many]) (k := 1) rfl rfl, z3, patch_mid (A := [UInt8.ofNat i, UInt8.ofNat many, 0]) (B := List.replicate p.length 0) (p := p) (k := 3) rfl (by simp), z4,
    patch_mid (A := [UInt8.ofNat i, UInt8.ofNat many]) (B := [0]) (p := [UInt8.ofNat p.length]) (k := 2) rfl rfl, z5, patch_mid (B := List.replicate 8 0) (p := le8 8 n) (k := 56) (by simp; omega) (by rw [le8_len]; rfl)]
  unfold mkS
  simp
end Go.Proofs.YtdfbpaajkpnaeaaGreat

namespace Go.Proofs.YtdfbpaajkpnaeaaGreat
set_option maxRecDepth 100000
open Go.RowKit Go.Lib

theorem run_sl4 (b off : Nat) (W : World) : (Instr.sliceAt 88 (.pointer (some ⟨b, off, none⟩)) (some (.int .i64 3)) (some (.int .i64 56)) none).run Tryz.prog W = .ok (.slice (some ⟨b, off + 3, none⟩) 53 61) W := by
  have h := run_sliceAt_array_lh (P := Tryz.prog) W 88 ⟨b, off, none⟩ (by kernel_rfl) .i64 .i64 3 56 (by omega) (by omega) (by rw [show Tryz.prog.arrayLen 88 = 64 by kernel_rfl]; omega)
  rw [h, show Tryz.prog.elem 88 = 5 by kernel_rfl, sz8, show Tryz.prog.arrayLen 88 = 64 by kernel_rfl]
  rfl
def layK (n : Nat) (l : List UInt8) (i : Nat) : List Sec := (List.range (spanN l.length)).map fun j => if j < i then secOf n l j else zsec
theorem layK_len (n : Nat) (l : List UInt8) (i : Nat) : (layK n l i).length = spanN l.length := by simp [layK]
theorem layK_zero (n : Nat) (l : List UInt8) : layK n l 0 = List.replicate (spanN l.length) zsec := by
  unfold layK
  rw [List.map_congr_left (g := fun _ => zsec) (fun _ _ => if_neg (Nat.not_lt_zero _)), List.map_const', List.length_range]
theorem layK_all (n : Nat) (l : List UInt8) : layK n l (spanN l.length) = secs n l := List.map_congr_left fun _ hj => if_pos (List.mem_range.1 hj)
theorem layK_64 (n : Nat) (l : List UInt8) (i : Nat) : ∀ s ∈ layK n l i, s.length = 64 := fun s hs => by
  obtain ⟨j, _, rfl⟩ := List.mem_map.1 hs
  split
  · exact secOf_len n l j
  · rfl
theorem layK_get {n : Nat} {l : List UInt8} {i : Nat} (h : i < spanN l.length) : (layK n l i)[i]? = some zsec := by simp [layK, h]
theorem layK_set {n : Nat} {l : List UInt8} {i : Nat} (_h : i < spanN l.length) : (layK n l i).set i (secOf n l i) = layK n l (i + 1) := by
  apply List.ext_getElem?
  intro j
  rw [List.getElem?_set]
  split
  · next e => subst e; rw [if_pos (by rw [layK_len]; omega)]; simp [layK, _h]
  · next e =>
    simp only [layK, List.getElem?_map]
    cases h : (List.range (spanN l.length))[j]? with
    | none => rfl
    | some k =>
      have : k = j := by
        have hj : j < spanN l.length := by have := (List.getElem?_eq_some_iff.1 h).1; simpa using this
        rw [List.getElem?_range hj] at h; exact (Option.some.inj h).symm
      subst this
      simp only [Option.map_some, Option.some.injEq]
      by_cases hk : k < i
      · rw [if_pos hk, if_pos (by omega)]
      · rw [if_neg hk, if_neg (by omega)]
def LayRes (L : List Sec) (w : World) (e : Ending) (w' : World) : Prop := ∃ a c, e = .returned (.slice a L.length c) ∧ Lie w' a (scells L) ∧ (a = none → L.length = 0) ∧ (∀ b, inBlk a b → w.heap.size ≤ b ∧ b < w'.heap.size) ∧ RowKit.Below w.heap.size w w'
theorem LayRes.nil (w : World) : LayRes [] w (.returned (.slice none 0 0)) w := ⟨none, 0, rfl, Or.inl rfl, fun _ => rfl, fun b h => (by obtain ⟨p, e, _⟩ := h; cases e), RowKit.Below.refl _ _⟩
set_option maxRecDepth 100000 in
set_option maxHeartbeats 3200000 in
theorem lay_any (n : Nat) (l : List UInt8) (a : Option Addr) (len cap : Nat) (w : World) (hn : n < 18446744073709551616) (hb : BAt w a l) (hl : l.length = len) (hc : len ≤ cap) :
    Calls Tryz.prog 77 #[.int .u64 (n : Int), .slice a len cap] w (LayRes (layL n l) w) := by
  by_cases h0 : n = 0
  · subst h0
    have HF := Lib.hid (LayRes.nil w)
    rw [show layL 0 l = [] from if_pos rfl]
    clear hb hl hc hn
    go_enter Tryz.func77, Tryz.ntmps77
    go_wp2
    go_ret
    exact HF.out
  · have d0 : ((n : Int) == 0) = false := by simp; exact h0
    rw [show layL n l = secs n l from if_neg h0]
    have HL := Lib.hid hl
    have HC := Lib.hid hc
    have HB := Lib.hid hb
    have HN := Lib.hid hn
    obtain ⟨N, hN⟩ : ∃ N, N = spanN l.length := ⟨_, rfl⟩
    have HNE := Lib.hid hN
    have hN255 : N ≤ 255 := by rw [hN]; exact spanN_le _
    have HSP := Lib.hid (show ∀ W, Calls Tryz.prog 58 #[.int .i64 (len : Int)] W fun e W' => e = .returned (.int .i64 (N : Int)) ∧ W = W' from fun W => by
      have := span_any (len : Int) W
      rw [spanI_nat, ← hl, ← hN] at this
      rw [← hl]
      exact this)
    obtain ⟨w1, hrun, ho, hg, hs⟩ := run_make N (by omega) w
    have HR0 := Lib.hid (show SRow w1 w.heap.size (layK n l 0) by unfold SRow; rw [layK_zero, List.length_replicate, ← hN]; exact ⟨ho.1, ho.2.elim (fun h => .inl h) fun ⟨g, cap, cur, e1, _, e2⟩ => .inr ⟨g, cap, cur, e1, Nat.zero_le _, e2⟩⟩)
    have HG0 := Lib.hid (show RowKit.Below w.heap.size w w1 from (RowKit.Below.refl _ _).grown hg (Nat.le_refl _) (fun k h => by cases h))
    have HS1 := Lib.hid hs
    obtain ⟨g, hgq⟩ : ∃ g, g = w.heap.size := ⟨_, rfl⟩
    have HGQ := Lib.hid hgq
    rw [← hgq] at hrun HR0
    clear hn hb hl hc h0 hN ho hg hs hgq
    go_enter Tryz.func77, Tryz.ntmps77
    go_wp2_with fail
    refine (HSP.out _).mono ?_
    rintro _ _ ⟨rfl, rfl⟩
    go_wp2
    go_loopw [16] (fun c16 wr => ∃ i : Nat, c16 = .int .i64 (i : Int) ∧ i ≤ N ∧ SRow wr g (layK n l i) ∧ RowKit.Below w.heap.size w wr ∧ w.heap.size < wr.heap.size) (fun c16 _ => N - (match c16 with | .int _ q => q | _ => 0).toNat)
    case atStart => exact ⟨0, rfl, Nat.zero_le _, HR0.out, HG0.out, by rw [HS1.out]; exact Nat.lt_succ_self _⟩
    case round =>
      clear hrun
      obtain ⟨i, rfl, hi, hr, hbl, hlt⟩ := hrel
      have HR := Lib.hid hr
      have HG := Lib.hid hbl
      have HSZ := Lib.hid hlt
      clear hr hbl hlt
      by_cases hlt : i < N
      · have hiN : i < spanN l.length := by rw [← HNE.out]; exact hlt
        have H640 := Lib.hid (layK_64 n l i)
        have HI0 := Lib.hid (layK_get (n := n) hiN)
        obtain ⟨L, hL⟩ : ∃ L, L = layK n l i := ⟨_, rfl⟩
        have hLl : L.length = N := by rw [hL, layK_len, HNE.out]
        have HLL := Lib.hid hLl
        have HFIN := Lib.hid (show L.set i (secOf n l i) = layK n l (i + 1) by rw [hL]; exact layK_set hiN)
        rw [← hL] at HR H640 HI0
        have hidx : ∀ W, (Instr.indexAt 33 (.slice (some ⟨g, 0, none⟩) N N) (.int .i64 (i : Int))).run Tryz.prog W = .ok (.pointer (some ⟨g, i * 64, none⟩)) W := fun W => by
          have := run_idx elS (b := g) (off := 0) (n := N) (cap := N) (k := .i64) (i := (i : Int)) (j := i) rfl hlt W
          rw [Nat.zero_add] at this; exact this
        have HVA := Lib.hid (show ((i : Int)) = ((UInt8.ofNat i).toNat : Int) by rw [UInt8.toNat_ofNat']; omega)
        have HVB := Lib.hid (show ((N : Int)) = ((UInt8.ofNat N).toNat : Int) by rw [UInt8.toNat_ofNat']; omega)
        have HGE := Lib.hid (show w.heap.size ≤ g by rw [HGQ.out]; exact Nat.le_refl _)
        obtain ⟨s1, hs1⟩ : ∃ s, s = patch zsec 0 [UInt8.ofNat i] := ⟨_, rfl⟩
        obtain ⟨s2, hs2⟩ : ∃ s, s = patch s1 1 [UInt8.ofNat N] := ⟨_, rfl⟩
        obtain ⟨s3, hs3⟩ : ∃ s, s = patch s2 3 (piece l i) := ⟨_, rfl⟩
        obtain ⟨s4, hs4⟩ : ∃ s, s = patch s3 2 [UInt8.ofNat (piece l i).length] := ⟨_, rfl⟩
        have hpl := piece_le l i
        have l1 : s1.length = 64 := by rw [hs1]; exact patch_len rfl (by simp)
        have l2 : s2.length = 64 := by rw [hs2]; exact patch_len l1 (by simp)
        have l3 : s3.length = 64 := by rw [hs3]; exact patch_len l2 (by omega)
        have l4 : s4.length = 64 := by rw [hs4]; exact patch_len l3 (by simp)
        have HS5 := Lib.hid (show patch s4 56 (le8 8 n) = secOf n l i by
          rw [hs4, hs3, hs2, hs1, HNE.out]; exact laid_steps hpl)
        have H641 := Lib.hid (set64 H640.out l1 (i := i))
        have H642 := Lib.hid (set64 H640.out l2 (i := i))
        have H643 := Lib.hid (set64 H640.out l3 (i := i))
        have H644 := Lib.hid (set64 H640.out l4 (i := i))
        have hgs : ∀ s : Sec, (L.set i s)[i]? = some s := fun s => by rw [List.getElem?_set_self (by omega)]
        have HI1 := Lib.hid (hgs s1)
        have HI2 := Lib.hid (hgs s2)
        have HI3 := Lib.hid (hgs s3)
        have HI4 := Lib.hid (hgs s4)
        have HE1 := Lib.hid hs1
        have HE2 := Lib.hid (show (L.set i s1).set i (patch s1 1 [UInt8.ofNat N]) = L.set i s2 by rw [List.set_set, ← hs2])
        have HE3 := Lib.hid (show (L.set i s2).set i (patch s2 3 (piece l i)) = L.set i s3 by rw [List.set_set, ← hs3])
        have HE4 := Lib.hid (show (L.set i s3).set i (patch s3 2 [UInt8.ofNat (piece l i).length]) = L.set i s4 by rw [List.set_set, ← hs4])
        have HE5 := Lib.hid (show (L.set i s4).set i (patch s4 56 (le8 8 n)) = layK n l (i + 1) by rw [List.set_set, HS5.out, HFIN.out])
        have h53 : 53 * i ≤ l.length := by
          have h1 : l.length ≤ 13515 := by
            apply Classical.byContradiction; intro h
            have : spanN l.length = 0 := by unfold spanN; rw [if_neg h]
            omega
          have := spanN_lo h1
          have : 53 * i ≤ 53 * (spanN l.length - 1) := Nat.mul_le_mul_left _ (by omega)
          omega
        have HBP := Lib.hid (show ∀ (W : World), RowKit.Below w.heap.size w W → BAt W (cutA a cap (53 * i)) (piece l i) from fun W hb => ((HB.out.below hb).drop h53 (by rw [HL.out]; exact HC.out) : BAt W (cutA a cap (53 * i)) (l.drop (53 * i))).take 53)
        have HPN := Lib.hid (show (piece l i).length = Nat.min (len - 53 * i) 53 by rw [piece_len, HL.out]; exact Nat.min_comm _ _)
        have HPL8 := Lib.hid (show IntKind.u8.wrap (((piece l i).length : Nat) : Int) = ((UInt8.ofNat (piece l i).length).toNat : Int) by rw [IntKind.wrap_u8, UInt8.toNat_ofNat']; omega)
        have HSL := Lib.hid (fun (W : World) => show (Instr.slice 23 (.slice a len cap) (some (.int .i64 ((i : Int) * 53))) none none).run Tryz.prog W = .ok (.slice (cutA a cap (53 * i)) (len - 53 * i) (cap - 53 * i)) W by
          have := run_from a len cap (53 * i) (by rw [← HL.out]; exact h53) W
          rw [show ((53 * i : Nat) : Int) = (i : Int) * 53 by omega] at this
          exact this)
        have HPL := Lib.hid hpl
        have HWR := Lib.hid (show IntKind.i64.wrap ((i : Int) * 53) = (i : Int) * 53 from IntWalk.i64_in _ (by omega))
        clear hs1 hs2 hs3 hs4 l1 l2 l3 l4 hgs hpl hL hiN h53 hLl hi
        go_wp2_with (first | ((with_reducible refine wpList_byte rfl _ _ rfl (k := 1) (b := UInt8.ofNat N) rfl rfl rfl HVB.out HR1.out H641.out HI1.out (by decide) ?_); intro W2 k1 k2 k3; rw [HE2.out] at k1; have HR2 := Lib.hid k1; have HG2 := Lib.hid (HG1.out.grown k2 HG1.out.size (fun _ e => by cases e; exact HGE.out)); clear k1 k2 k3) | ((with_reducible refine wpList_byte rfl _ _ rfl (k := 0) (b := UInt8.ofNat i) rfl rfl rfl HVA.out HR.out H640.out HI0.out (by decide) ?_); intro W1 k1 k2 k3; rw [← HE1.out] at k1; have HR1 := Lib.hid k1; have HG1 := Lib.hid (HG.out.grown k2 HG.out.size (fun _ e => by cases e; exact HGE.out)); clear k1 k2 k3))
        try simp only [Act.put]
        have HR2d := Lib.hid (HR2.out.below (RowKit.Below.refl _ W2).drew)
        have HG2d := Lib.hid (HG2.out.trans ((RowKit.Below.refl _ W2).drew.mono HG2.out.size))
        have HBPd := Lib.hid (HBP.out _ HG2d.out)
        refine wp_region_held_drew (S := fun _ => True) (by kernel_rfl) ?_ (fun hHeld => ?_)
        · trivial
        refine held_take 0 (v := ?_) rfl (by kernel_rfl) (by kernel_rfl) (by kernel_rfl) (fun _ _ _ h => h) hHeld (by rfl) ?_ ?_
        rotate_left
        · (intro W hW; go_simp; try with_reducible rfl)
        try simp only [Act.put, List.setIfInBounds_toArray, List.set_cons_zero, List.set_cons_succ]
        refine held_take 1 (v := ?_) rfl (by kernel_rfl) (by kernel_rfl) (by kernel_rfl) (fun _ _ _ h => h) hHeld (by rfl) ?_ ?_
        rotate_left
        · (intro W hW; go_simp; try with_reducible rfl)
        try simp only [Act.put, List.setIfInBounds_toArray, List.set_cons_zero, List.set_cons_succ]
        refine held_take 2 (v := ?_) rfl (by kernel_rfl) (by kernel_rfl) (by kernel_rfl) (fun _ _ _ h => h) hHeld (by rfl) ?_ ?_
        rotate_left
        · (intro W hW; go_simp; try with_reducible rfl)
        try simp only [Act.put, List.setIfInBounds_toArray, List.set_cons_zero, List.set_cons_succ]
        refine held_take 3 (v := ?_) rfl (by kernel_rfl) (by kernel_rfl) (by kernel_rfl) (fun _ _ _ h => h) hHeld (by rfl) ?_ ?_
        rotate_left
        · (intro W hW; have e := run_sl4 g (i * 64) W; go_simp; try with_reducible rfl)
        try simp only [Act.put, List.setIfInBounds_toArray, List.set_cons_zero, List.set_cons_succ]
        refine held_take 4 (v := ?_) rfl (by kernel_rfl) (by kernel_rfl) (by kernel_rfl) (fun _ _ _ h => h) hHeld (by rfl) ?_ ?_
        rotate_left
        · (intro W hW; go_simp; try with_reducible rfl)
        try simp only [Act.put, List.setIfInBounds_toArray, List.set_cons_zero, List.set_cons_succ]
        refine held_take 5 (v := ?_) rfl (by kernel_rfl) (by kernel_rfl) (by kernel_rfl) (fun _ _ _ h => h) hHeld (by rfl) ?_ ?_
        rotate_left
        · (intro W hW; go_simp; try with_reducible rfl)
        try simp only [Act.put, List.setIfInBounds_toArray, List.set_cons_zero, List.set_cons_succ]
        refine held_take 6 (v := ?_) rfl (by kernel_rfl) (by kernel_rfl) (by kernel_rfl) (fun _ _ _ h => h) hHeld (by rfl) ?_ ?_
        rotate_left
        · (intro W hW; have e := HWR.out; go_simp; try with_reducible rfl)
        try simp only [Act.put, List.setIfInBounds_toArray, List.set_cons_zero, List.set_cons_succ]
        refine held_take 7 (v := ?_) rfl (by kernel_rfl) (by kernel_rfl) (by kernel_rfl) (fun _ _ _ h => h) hHeld (by rfl) ?_ ?_
        rotate_left
        · (intro W hW; have e := HSL.out W; go_simp; try with_reducible rfl)
        try simp only [Act.put, List.setIfInBounds_toArray, List.set_cons_zero, List.set_cons_succ]
        refine held_take 10 (v := ?_) rfl (by kernel_rfl) (by kernel_rfl) (by kernel_rfl) (fun _ _ _ h => h) hHeld (by rfl) ?_ ?_
        rotate_left
        · (intro W hW; go_simp; try with_reducible rfl)
        try simp only [Act.put, List.setIfInBounds_toArray, List.set_cons_zero, List.set_cons_succ]
        refine held_next 8 rfl (by kernel_rfl) (by rfl) (fun K hK => ?_)
        refine wp_copyS _ _ rfl (k := 3) rfl rfl rfl HBPd.out HPN.out HR2d.out H642.out HI2.out (by omega) (fun W3 k1 k2 k3 => ?_)
        rw [HE3.out] at k1
        have HR3 := Lib.hid k1
        have HG3 := Lib.hid (HG2d.out.grown k2 HG2d.out.size (fun _ e => by cases e; exact HGE.out))
        clear k1 k2 k3
        refine hK.out _ _ trivial (fun hHeld => ?_)
        clear hK K
        try simp only [Act.put, List.setIfInBounds_toArray, List.set_cons_zero, List.set_cons_succ]
        refine held_take 9 (v := ?_) rfl (by kernel_rfl) (by kernel_rfl) (by kernel_rfl) (fun _ _ _ h => h) hHeld (by rfl) ?_ ?_
        rotate_left
        · (intro W hW; go_simp; try with_reducible rfl)
        try simp only [Act.put, List.setIfInBounds_toArray, List.set_cons_zero, List.set_cons_succ]
        refine held_take 11 (v := ?_) rfl (by kernel_rfl) (by kernel_rfl) (by kernel_rfl) (fun _ _ _ h => h) hHeld (by rfl) ?_ ?_
        rotate_left
        · (intro W hW; go_simp; try with_reducible rfl)
        try simp only [Act.put, List.setIfInBounds_toArray, List.set_cons_zero, List.set_cons_succ]
        refine held_next 12 rfl (by kernel_rfl) (by rfl) (fun K hK => ?_)
        refine wp_byte _ _ rfl (k := 2) (b := UInt8.ofNat (piece l i).length) rfl rfl rfl (HPL8.out) HR3.out H643.out HI3.out (by decide) (fun W4 k1 k2 k3 => ?_)
        rw [HE4.out] at k1
        have HR4 := Lib.hid k1
        have HG4 := Lib.hid (HG3.out.grown k2 (HG3.out.size) (fun _ e => by cases e; exact HGE.out))
        clear k1 k2 k3
        refine hK.out _ _ trivial (fun hHeld => ?_)
        clear hK K
        try simp only [Act.put]
        refine wpAnyH_done (by kernel_rfl) ?_ _
        go_simp
        have HR4c := Lib.hid (HR4.out.cells H644.out (k := 56) (p := le8 8 n) HI4.out (by rw [le8_len]; omega))
        have HST := Lib.hid (setStamp_any g (i * 64) n W4 HN.out (HR4.out.there (by rw [List.length_set, HLL.out]; exact hlt) (by omega)))
        go_wp2_with fail
        refine HST.out.mono ?_
        rintro _ W5 ⟨rfl, hW5⟩
        have HR5 := Lib.hid (show SRow W5 g (layK n l (i + 1)) by rw [hW5, ← HE5.out]; exact HR4c.out.1)
        have HG5 := Lib.hid (show RowKit.Below w.heap.size w W5 by rw [hW5]; exact HG4.out.grown HR4c.out.2 HG4.out.size (fun _ e => by cases e; exact HGE.out))
        clear hW5
        go_wp2_with fail
        go_roundw
        case rel => exact ⟨i + 1, by go_num, by omega, HR5.out, HG5.out, by rw [← HGQ.out]; exact HR5.out.lt⟩
        case measure => simp; omega
      · obtain rfl : i = N := by omega
        have HFIN := Lib.hid (show LayRes (secs n l) w (.returned (.slice (some ⟨g, 0, none⟩) i i)) wr from by
          have e : layK n l i = secs n l := by rw [HNE.out]; exact layK_all n l
          refine ⟨some ⟨g, 0, none⟩, i, by rw [secs_length, ← HNE.out], by rw [← e]; exact HR.out.lie, (fun e => by cases e), ?_, HG.out⟩
          rintro b ⟨p, e, rfl⟩
          cases e
          exact ⟨by show _ ≤ g; rw [HGQ.out]; exact Nat.le_refl _, HR.out.lt⟩)
        clear hi
        go_wp2
        go_ret
        exact HFIN.out
end Go.Proofs.YtdfbpaajkpnaeaaGreat

namespace Go.Proofs.YtdfbpaajkpnaeaaGreat
set_option maxRecDepth 100000
open Go.RowKit Go.Lib Go.Shelf

attribute [local go_sem] Oper.semAt_some

/-- the last comes first -/
def downs (zs : List UInt8) (len k : Nat) : List (Nat × UInt8) := (List.range k).map fun r => (len - 1 - r, zs[len - 1 - r]?.getD 0)
theorem downs_succ (zs : List UInt8) (len k : Nat) : downs zs len (k + 1) = downs zs len k ++ [(len - 1 - k, zs[len - 1 - k]?.getD 0)] := by simp [downs, List.range_succ]
theorem downs_length (zs : List UInt8) (len k : Nat) : (downs zs len k).length = k := by simp [downs]
set_option maxRecDepth 100000 in
set_option maxHeartbeats 2000000 in
theorem back1_in (F : Fence) (n : Nat) (h48 : F.fn 110) (hro : F.round = none) (hn : 1 ≤ n) (l Bs b off len cap : Nat) (zs : List UInt8) (hlen : len ≤ 1000000) (J Jx : List (Nat × UInt8) → World → Prop)
    (hY : ∀ pre x W, J pre W → pre.length < len → YieldAt F (n - 1) Tryz.prog l #[.int .i64 (x.1 : Int), .int .u8 (x.2.toNat : Int)] W fun e W' =>
      (e = .returned (.bool true) ∧ J (pre ++ [x]) W' ∧ Agree [b, Bs] W W') ∨ (e = .returned (.bool false) ∧ Jx (pre ++ [x]) W'))
    (W : World) (hBs : W.cell? ⟨Bs, 0, none⟩ = some (.slice (some ⟨b, off, none⟩) len cap)) (hc : ∀ j, j < len → W.cell? ⟨b, off + j, none⟩ = some (.int .u8 ((zs[j]?.getD 0).toNat : Int))) (h0 : J [] W) :
    CallsIn F n Tryz.prog 110 #[.func (.yield l) #[] #[], .pointer (some ⟨Bs, 0, none⟩)] W fun e W' => (∃ v, e = .returned v) ∧
      ((∃ ys, ys = downs zs len len ∧ J ys W') ∨ (∃ pre, True ∧ Jx pre W')) := by
  refine callsIn_of_wp Tryz.func110 rfl h48 ?_ hro
  simp only [Tryz.ntmps110, List.size_toArray, List.length_cons, List.length_nil, Nat.reduceAdd, Nat.reduceSub, Array.replicate_succ, Array.replicate_zero, List.push_toArray, List.append_toArray, List.nil_append, List.cons_append]
  gi_wp2
  gi_loopw [3] (fun i wr => ∃ (j : Nat) (z : Int), i = .int .i64 z ∧ z = (j : Int) - 1 ∧ j ≤ len ∧ J (downs zs len (len - j)) wr ∧ Agree [b, Bs] W wr)
    (fun i _ => (intOf i + 1).toNat)
  case atStart => exact ⟨len, _, rfl, by simp, Nat.le_refl _, by rw [Nat.sub_self]; exact h0, fun _ _ => rfl⟩
  case round =>
    obtain ⟨j, z, rfl, hz, hj, hJs, hag⟩ := hrel
    have hB := hag.cell (by simp) hBs
    cases j with
    | succ j =>
      obtain rfl : z = (j : Int) := by omega
      have hcj := hag.cell (b := b) (by simp) (hc j (by omega))
      have hx : downs zs len (len - j) = downs zs len (len - (j + 1)) ++ [(j, zs[j]?.getD 0)] := by
        rw [show len - j = len - (j + 1) + 1 by omega, downs_succ, show len - 1 - (len - (j + 1)) = j by omega]
      obtain ⟨fn, tmps, assign, body, hy, hR⟩ := hY _ (j, zs[j]?.getD 0) wr hJs (by rw [downs_length]; omega)
      dsimp only at hy
      rw [← hx] at hR
      have HAG := Lib.hid hag
      clear hz hx hag
      gi_wp2
      refine hR.mono ?_
      rintro e W3 (⟨rfl, hJ3, hk3⟩ | ⟨rfl, hJx3⟩)
      · gi_wp2
        go_roundw
        case rel => exact ⟨j, (j : Int) - 1, by go_num, rfl, by omega, hJ3, fun i hi => (hk3 i hi).trans (HAG.out i hi)⟩
        case measure => simp [intOf]
      · gi_wp2
        refine bodyPost_ret (results_none rfl _ _ _) rfl ?_
        exact ⟨⟨_, rfl⟩, .inr ⟨_, trivial, hJx3⟩⟩
    | zero =>
      have d0 : decide (0 ≤ z) = false := by simp; omega
      clear hz
      gi_wp2
      go_end0
      exact ⟨⟨_, rfl⟩, .inl ⟨_, rfl, by rw [Nat.sub_zero] at hJs; exact hJs⟩⟩
/-- slices.Backward(s) -/
theorem back_in (F : Fence) (n : Nat) (h45 : F.fn 107) (hro : F.round = none) (a : Option Addr) (len cap : Nat) (w : World) :
    CallsIn F n Tryz.prog 107 #[.slice a len cap] w fun e w' => e = .returned (.func (.func 110) #[] #[.pointer (some ⟨w.heap.size, 0, none⟩)]) ∧ w' = w.alloc (.cells #[.slice a len cap] 23) := by
  refine callsIn_of_wp Tryz.func107 rfl h45 ?_ hro
  simp only [Tryz.ntmps107, List.size_toArray, List.length_cons, List.length_nil, Nat.reduceAdd, Nat.reduceSub, Array.replicate_succ, Array.replicate_zero, List.push_toArray, List.append_toArray, List.nil_append, List.cons_append]
  gi_wp2
  go_ret
  exact ⟨rfl, rfl⟩
theorem back_stops (F : Fence) (n : Nat) (h48 : F.fn 110) (hro : F.round = none) (hn : 1 ≤ n) (Bs b off len cap : Nat) (zs : List UInt8) (hlen : len ≤ 1000000) (w : World) (hBl : Bs < w.heap.size) (hbl : b < w.heap.size)
    (hBs : w.cell? ⟨Bs, 0, none⟩ = some (.slice (some ⟨b, off, none⟩) len cap)) (hc : ∀ j, j < len → w.cell? ⟨b, off + j, none⟩ = some (.int .u8 ((zs[j]?.getD 0).toNat : Int))) :
    SeqStopsK F n Tryz.prog 110 #[.pointer (some ⟨Bs, 0, none⟩)] (fun x : Nat × UInt8 => #[Value.int .i64 (x.1 : Int), Value.int .u8 (x.2.toNat : Int)]) (Agree [b, Bs]) (fun ys => ys = downs zs len len) (fun _ => True) len w := fun l J Jx W hW _ _ hY h0 =>
  back1_in F n h48 hro hn l Bs b off len cap zs hlen J Jx hY W ((hW.cell hBl).trans hBs) (fun j hj => (hW.cell hbl).trans (hc j hj)) h0
end Go.Proofs.YtdfbpaajkpnaeaaGreat

namespace Go.Proofs.YtdfbpaajkpnaeaaGreat
set_option maxRecDepth 100000
open Go.RowKit Go.Lib Go.Shelf

attribute [local go_sem] Oper.semAt_some

def hiN (pre : List (Nat × UInt8)) : Nat := pre.foldl (fun s x => s * 256 + x.2.toNat) 0
theorem hiN_snoc (pre : List (Nat × UInt8)) (x : Nat × UInt8) : hiN (pre ++ [x]) = hiN pre * 256 + x.2.toNat := by simp [hiN]
theorem list8 {z : List UInt8} (h : z.length = 8) : ∃ a b c d e f g i : UInt8, z = [a, b, c, d, e, f, g, i] := by
  match z, h with
  | [a, b, c, d, e, f, g, i], _ => exact ⟨a, b, c, d, e, f, g, i, rfl⟩
theorem hiN_downs {z : List UInt8} (h : z.length = 8) : hiN (downs z 8 8) = num8 z := by
  obtain ⟨a, b, c, d, e, f, g, i, rfl⟩ := list8 h
  have : downs [a, b, c, d, e, f, g, i] 8 8 = [(7, i), (6, g), (5, f), (4, e), (3, d), (2, c), (1, b), (0, a)] := rfl
  rw [this]
  simp only [hiN, List.foldl_cons, List.foldl_nil, num8]
  omega
theorem byte_join {h : Nat} {b : UInt8} (hh : h < 72057594037927936) : bits .or .u64 (IntKind.u64.wrap ((h : Int) * 256)) (IntKind.u64.wrap (b.toNat : Int)) = ((h * 256 + b.toNat : Nat) : Int) := by
  have hb := b.toNat_lt
  have e64 : (2 : Int) ^ 64 = 18446744073709551616 := by decide
  have e8 : (2 : Int) ^ 8 = 256 := by decide
  rw [wraps_u64 _ (by omega) (by rw [e64]; omega), wraps_u64 _ (by omega) (by rw [e64]; omega)]
  rw [bits_join .u64 64 (by decide) wraps_u64 8 _ _ (by omega) (by rw [e8]; omega) (by rw [e64]; omega) (by omega) (by rw [e8]; omega) (by rw [e64]; omega)]
  omega
theorem pow256 {a n : Nat} (h : a < 256 ^ n) (hn : n < 8) : a < 72057594037927936 :=
  Nat.lt_of_lt_of_le h (Nat.pow_le_pow_right (n := 256) (by decide) (Nat.le_of_lt_succ hn) : 256 ^ n ≤ 256 ^ 7)
set_option maxRecDepth 100000 in
set_option maxHeartbeats 2000000 in
theorem stampOf_in (F : Fence) (n : Nat) (h30 : F.fn 94) (h45 : F.fn 107) (h48 : F.fn 110) (hro : F.round = none) (hn : 3 ≤ n) (s : Sec) (hs : s.length = 64) (w : World) :
    CallsIn F n Tryz.prog 94 #[.agg (bcells s).toArray] w fun e W' => e = .returned (.int .u64 (stN s : Int)) ∧ RowKit.Below w.heap.size w W' := by
  obtain ⟨C, hC⟩ : ∃ C, C = bcells s := ⟨_, rfl⟩
  have HC := Lib.hid hC
  rw [← hC]
  clear hC
  have h1 : 1 ≤ n := by omega
  refine callsIn_of_wp_marks Tryz.func94 rfl h30 ?_ hro
  simp only [Tryz.ntmps94, List.size_toArray, List.length_cons, List.length_nil, Nat.reduceAdd, Nat.reduceSub, Array.replicate_succ, Array.replicate_zero, List.push_toArray, List.append_toArray, List.nil_append, List.cons_append]
  gi_wp2_with (gi_at_call 107; refine (back_in F (n - 1) h45 hro _ _ _ _).mono ?_; rintro e w' ⟨rfl, rfl⟩)
  obtain ⟨w3, hw3⟩ : ∃ w3, w3 = ((w.alloc (.cells C.toArray 88)).alloc (.cells #[.int .u64 0] 37)).alloc (.cells #[.slice (some ⟨w.heap.size, 56, none⟩) 8 8] 23) := ⟨_, rfl⟩
  have hB3 : RowKit.Below w.heap.size w w3 := by rw [hw3]; exact (((RowKit.Below.refl _ _).alloc (Nat.le_refl _) _).alloc (by simp) _).alloc (by simp; omega) _
  have hs3 : w3.heap.size = w.heap.size + 3 := by rw [hw3]; simp
  have p0 : w3.heap[w.heap.size]? = some (.cells C.toArray 88) := by rw [hw3]; exact blk_in (blk_in (blkn rfl))
  have p1 : w3.heap[w.heap.size + 1]? = some (.cells #[.int .u64 0] 37) := by rw [hw3]; exact blk_in (blkn (by simp))
  have p2 : w3.heap[w.heap.size + 1 + 1]? = some (.cells #[.slice (some ⟨w.heap.size, 56, none⟩) 8 8] 23) := by rw [hw3]; exact blkn (by simp)
  have c1 : w3.cell? ⟨w.heap.size + 1, 0, none⟩ = some (.int .u64 0) := by rw [cell_of_row _ _ _ _ _ _ p1]; rfl
  have f1 := frozen_of_row _ _ 0 _ _ p1
  have c2 : w3.cell? ⟨w.heap.size + 1 + 1, 0, none⟩ = some (.slice (some ⟨w.heap.size, 56, none⟩) 8 8) := by rw [cell_of_row _ _ _ _ _ _ p2]; rfl
  have c0 : ∀ j, j < 8 → w3.cell? ⟨w.heap.size, 56 + j, none⟩ = some (.int .u8 (((s.drop 56)[j]?.getD 0).toNat : Int)) := fun j hj => by
    rw [cell_of_row _ _ _ _ _ _ p0, HC.out, List.getElem?_toArray, bcells_get (by omega), List.getElem?_drop, List.getD_eq_getElem?_getD]
  rw [← hw3]
  refine wpIn_rangeFunc_ownF hro h1 (gf := 110) (lb := #[.pointer (some ⟨w.heap.size + 1 + 1, 0, none⟩)]) rfl h48 (enters_of Tryz.func110 (by kernel_rfl) rfl)
    (back_stops F (n - 1) h48 hro (by omega) (w.heap.size + 1 + 1) w.heap.size 56 8 8 (s.drop 56) (by omega) w3 (by omega) (by omega) c2 c0)
    (fun h k i hi => (k i hi).trans (h i hi)) (fun W l o o' hl _ _ _ i hi => World.putObj_heap_other (fun e => by
      have hi2 : i = w.heap.size ∨ i = w.heap.size + 1 + 1 := by simpa using hi
      omega)) (Below.refl _ _) (fun _ => rfl)
    (fun pre W => (W.cell? ⟨w.heap.size + 1, 0, none⟩ = some (.int .u64 (hiN pre : Int)) ∧ W.frozen? ⟨w.heap.size + 1, 0, none⟩ = false ∧ hiN pre < 256 ^ pre.length) ∧ RowKit.Below w.heap.size w W)
    (fun _ _ _ => False)
    (OwnFrom.and (Own.from (fun s A B row hs hg hr => ⟨cell_kept hs.1 hg hr, (frozen_kept hs.1 hg hr).trans hs.2.1, hs.2.2⟩) _) (ownFrom_below (Nat.le_refl _) (by omega)))
    (fun _ _ _ _ _ hs _ _ => hs)
    ⟨⟨c1, f1, by decide⟩, hB3⟩
    (fun x => { tmps := #[.agg C.toArray, .pointer (some ⟨w.heap.size, 0, none⟩), .int .u64 0, .pointer (some ⟨w.heap.size + 1, 0, none⟩), undef, .int .u8 (x.2.toNat : Int), .slice (some ⟨w.heap.size, 56, none⟩) 8 8, .func (.func 110) #[] #[.pointer (some ⟨w.heap.size + 1 + 1, 0, none⟩)], .int .i64 (x.1 : Int), .int .u8 (x.2.toNat : Int), undef, undef, undef, undef, undef, undef], defers := [] }) ?assign ?body ?done ?stop
  case assign =>
    intro l x W K hK
    gi_wp2
    exact hK
  case body =>
    rintro l pre x W ⟨⟨hc, hf, hlt⟩, hB⟩ hlen
    have HJ := Lib.hid (byte_join (b := x.2) (pow256 hlt hlen))
    have HLT := Lib.hid hlt
    gi_wp2
    rw [HJ.out]
    refine ⟨KeepsOthers.setCell _ _ _, ?_, ⟨?_, ?_, ?_⟩, hB.setCell (p := ⟨w.heap.size + 1, 0, none⟩) (by simp) _⟩
    · intro i hi
      have hi2 : i = w.heap.size ∨ i = w.heap.size + 1 + 1 := by simpa using hi
      exact heap_setCell_other _ _ _ _ (by show i ≠ w.heap.size + 1; omega)
    · rw [hiN_snoc]; exact World.cell?_setCell_same' _ _ _ (by rw [hc]; rfl)
    · rw [World.frozen?_setCell]; exact hf
    · have := HLT.out
      have := x.2.toNat_lt
      rw [hiN_snoc, List.length_append, List.length_singleton, Nat.pow_succ]
      omega
  case done =>
    rintro D ys W hD rfl ⟨⟨hc, _⟩, hB⟩ hK
    rw [hiN_downs (by rw [List.length_drop, hs])] at hc
    gi_wp2
    refine ⟨by simp, .inl ⟨_, _, rfl, run_takeDeferred hK, ?_⟩⟩
    exact ⟨_, results_tmp rfl _ _ _, rfl, hB.trans (belowK_b (w := w) (Nat.le_refl _) W D _ _ (by omega) hK rfl rfl)⟩
  case stop =>
    rintro D c pre W _ _ h _
    exact h.elim
theorem stampOf_any (s : Sec) (hs : s.length = 64) (w : World) : Calls Tryz.prog 94 #[.agg (bcells s).toArray] w fun e W' => e = .returned (.int .u64 (stN s : Int)) ∧ RowKit.Below w.heap.size w W' :=
  callsIn_wide.1 (stampOf_in Fence.wide 3 trivial trivial trivial rfl (by omega) s hs w)
end Go.Proofs.YtdfbpaajkpnaeaaGreat
