/- Package stamp: sectors in a row of the call's own, written to byte by byte. -/
import Derived.Test.YtoibonalgmmkbaaSmB
import Derived.Test.YtoibonalgmmkbaaDkQ
import Derived.Laws.IdiomCopy
namespace Go.Proofs.Ytoibonalgmmkbaa
open Go.RowKit Go.Lib

/-- p lies in s from k on -/
def patch (s : Sec) (k : Nat) (p : List UInt8) : Sec := s.take k ++ p ++ s.drop (k + p.length)
theorem patch_len {s : Sec} {k : Nat} {p : List UInt8} (hs : s.length = 64) (h : k + p.length ≤ 64) : (patch s k p).length = 64 := by simp [patch]; omega
theorem patch_mid {A B C p : List UInt8} {k : Nat} (hA : A.length = k) (hB : B.length = p.length) : patch (A ++ B ++ C) k p = A ++ p ++ C := by
  unfold patch
  rw [List.append_assoc A B C, ← hA, List.take_left, ← List.drop_drop, List.drop_left, ← hB, List.drop_left]
/-- block g holds the sectors L -/
def SRow (w : World) (g : Nat) (L : List Sec) : Prop := w.ownsRow 0 59 64 (.slice (some ⟨g, 0, none⟩) L.length L.length) L.length (scells L)
theorem SRow.there {w : World} {g : Nat} {L : List Sec} (h : SRow w g L) {i k n : Nat} (hi : i < L.length) (hk : k + n ≤ 64) : w.there g (i * 64 + k) n := ow_there h (by omega)
theorem SRow.lie {w : World} {g : Nat} {L : List Sec} (h : SRow w g L) : Lie w (some ⟨g, 0, none⟩) (scells L) := by
  obtain ⟨a, cap, hv, hl, _, _⟩ := ow_lie h
  injection hv with h1 _ _
  rw [h1]; exact hl
theorem SRow.lt {w : World} {g : Nat} {L : List Sec} (h : SRow w g L) : g < w.heap.size := (World.ownsRow.lt h g rfl).2
theorem SRow.cells {w : World} {g : Nat} {L : List Sec} (h : SRow w g L) (h64 : ∀ s ∈ L, s.length = 64) {i k : Nat} {s : Sec} {p : List UInt8} (hi : L[i]? = some s) (hk : k + p.length ≤ 64) :
    SRow (w.setCells g (i * 64 + k) (bcells p)) g (L.set i (patch s k p)) ∧ w.grownBy (w.setCells g (i * 64 + k) (bcells p)) (some g) := by
  have hil : i < L.length := (List.getElem?_eq_some_iff.1 hi).1
  have hs : s.length = 64 := h64 s (List.mem_of_getElem? hi)
  have hsl := scells_len h64
  have r := ow_setCells (bcells p) (i * 64 + k) w (scells L) h (by rw [bcells_len, hsl]; omega)
  have e : (scells L).take (i * 64 + k) ++ bcells p ++ (scells L).drop (i * 64 + k + (bcells p).length) = scells (L.set i (patch s k p)) := by
    have hf : ∀ y ∈ L, (bcells y).length = 64 := fun y hy => cells_len y (h64 y hy)
    have hd : (scells L).drop (i * 64) = bcells s ++ (scells L).drop (i * 64 + 64) := by
      show (L.flatMap bcells).drop _ = bcells s ++ (L.flatMap bcells).drop _
      rw [show i * 64 + 64 = (i + 1) * 64 by omega, flat_drop i hf (by omega), flat_drop (i + 1) hf (by omega), List.drop_eq_getElem_cons hil, List.flatMap_cons]
      have : L[i] = s := by rw [List.getElem?_eq_getElem hil] at hi; exact Option.some.inj hi
      rw [this]
    unfold scells
    rw [flat_set hf hil, List.take_add]
    show (scells L).take (i * 64) ++ ((scells L).drop (i * 64)).take k ++ bcells p ++ (scells L).drop (i * 64 + k + (bcells p).length) = (scells L).take (i * 64) ++ bcells (patch s k p) ++ (scells L).drop (i * 64 + 64)
    rw [Nat.add_assoc, ← List.drop_drop, hd, patch, bcells_app, bcells_app, List.take_append_of_le_length (by rw [bcells_len]; omega), List.drop_append_of_le_length (by rw [bcells_len, bcells_len]; omega)]
    have t1 : (bcells s).take k = bcells (s.take k) := by simp [bcells]
    have t2 : (bcells s).drop (k + (bcells p).length) = bcells (s.drop (k + p.length)) := by simp [bcells]
    rw [t1, t2]
    simp only [List.append_assoc]
  rw [e] at r
  unfold SRow
  rw [List.length_set]
  exact ⟨r.1, r.2⟩
theorem SRow.below {w w' : World} {g : Nat} {L : List Sec} (h : SRow w g L) (hb : RowKit.Below w.heap.size w w') : SRow w' g L := ow_same h fun i hi => by cases hi; exact hb.block _ h.lt
theorem set64 {L : List Sec} (h : ∀ s ∈ L, s.length = 64) {i : Nat} {s : Sec} (hs : s.length = 64) : ∀ t ∈ L.set i s, t.length = 64 := fun t ht => by
  rcases List.mem_or_eq_of_mem_set ht with h1 | h1
  · exact h t h1
  · rw [h1]; exact hs
theorem siz1 : (Try.prog.info? 5).map (·.size) = some 1 := by kernel_rfl
/-- s[k] = b, in a row of sectors -/
theorem wp_byte {o : Oper} {a : Act} {w : World} {K : Act → World → Prop} {Q : Exit → Act → World → Prop} (x y : Operand) (ho : o.op = .store 5 x y) {g i k off : Nat} {L : List Sec} {s : Sec} {b : UInt8} {v : Int} (hx : a.eval x = .pointer (some ⟨g, off, none⟩)) (hy : a.eval y = .int .u8 v) (hoff : off = i * 64 + k) (hv : v = (b.toNat : Int))
    (hr : SRow w g L) (h64 : ∀ s ∈ L, s.length = 64) (hi : L[i]? = some s) (hk : k < 64) (h : ∀ W', SRow W' g (L.set i (patch s k [b])) → w.grownBy W' (some g) → W'.heap.size = w.heap.size → K (a.put o.dst undef) W') : o.wp Try.prog a w K Q := by
  have hil : i < L.length := (List.getElem?_eq_some_iff.1 hi).1
  obtain ⟨hs, hf⟩ := hr.there (k := k) (n := 1) hil (by omega) 0 (by omega)
  obtain ⟨old, hc⟩ := Option.isSome_iff_exists.1 hs
  obtain ⟨r1, r2⟩ := hr.cells h64 (k := k) (p := [b]) hi (by simp; omega)
  have e : w.setCells g (i * 64 + k) (bcells [b]) = w.setCell ⟨g, i * 64 + k, none⟩ (.int .u8 (b.toNat : Int)) := rfl
  rw [e] at r1 r2
  subst hoff hv
  exact wp_store1 _ x y ho ⟨g, i * 64 + k, none⟩ .u8 _ old hx hy siz1 hc hf (h _ r1 r2 (by simp))
theorem wpList_byte {ops : Array Oper} {rest : List Oper} {o : Oper} {a : Act} {w : World} {Q : Exit → Act → World → Prop} (hgd : o.guard = none) (x y : Operand) (ho : o.op = .store 5 x y) {g i k off : Nat} {L : List Sec} {s : Sec} {b : UInt8} {v : Int} (hx : a.eval x = .pointer (some ⟨g, off, none⟩)) (hy : a.eval y = .int .u8 v) (hoff : off = i * 64 + k) (hv : v = (b.toNat : Int))
    (hr : SRow w g L) (h64 : ∀ s ∈ L, s.length = 64) (hi : L[i]? = some s) (hk : k < 64) (h : ∀ W', SRow W' g (L.set i (patch s k [b])) → w.grownBy W' (some g) → W'.heap.size = w.heap.size → wpList Try.prog ops Q rest (a.put o.dst undef) W') : wpList Try.prog ops Q (o :: rest) a w :=
  wpList_plain hgd fun _ hK => wp_byte x y ho hx hy hoff hv hr h64 hi hk fun W' h1 h2 h3 => hK _ _ (h W' h1 h2 h3)
/-- copy(s[k:], p), in a row of sectors -/
theorem wp_copyS {o : Oper} {a : Act} {w : World} {K : Act → World → Prop} {Q : Exit → Act → World → Prop} (x y : Operand) (ho : o.op = .call { callee := .builtin .copy, args := #[x, y], argTypes := #[24, 24] }) {g i k off n c sn sc : Nat} {L : List Sec} {s : Sec} {ad : Option Addr} {p : List UInt8}
    (hx : a.eval x = .slice (some ⟨g, off, none⟩) n c) (hy : a.eval y = .slice ad sn sc) (hoff : off = i * 64 + k) (hp : BAt w ad p) (hn : p.length = Nat.min sn n)
    (hr : SRow w g L) (h64 : ∀ s ∈ L, s.length = 64) (hi : L[i]? = some s) (hk : k + n ≤ 64) (h : ∀ W', SRow W' g (L.set i (patch s k p)) → w.grownBy W' (some g) → W'.heap.size = w.heap.size → K (a.put o.dst (.int .i64 (p.length : Int))) W') : o.wp Try.prog a w K Q := by
  have hil : i < L.length := (List.getElem?_eq_some_iff.1 hi).1
  have hpn : p.length ≤ n := by rw [hn]; exact Nat.min_le_right _ _
  obtain ⟨r1, r2⟩ := hr.cells h64 (k := k) (p := p) hi (by omega)
  have hrun : (Builtin.copy_ #[24, 24] o.type #[.slice (some ⟨g, off, none⟩) n c, .slice ad sn sc]).run Try.prog w = .ok (goInt p.length) (w.setCells g (i * 64 + k) (bcells p)) := by
    subst hoff
    rcases hp with h0 | ⟨b, off2, rfl, hlt, hcs⟩
    · subst h0
      have := run_copy_none (P := Try.prog) w 24 24 o.type 5 (some ⟨g, i * 64 + k, none⟩) ad n c sn sc Try.underlying24 siz1 hn.symm
      rw [this]; rfl
    · have ht := hr.there (k := k) (n := p.length) hil (by omega)
      have := run_copy_cells (P := Try.prog) w 24 24 o.type 5 g (i * 64 + k) n c ⟨b, off2, none⟩ sn sc (bcells p) Try.underlying24 siz1 (by rw [bcells_len]; exact hn) (fun j v hv => by
        have hj : j < p.length := by rw [← bcells_len]; exact (List.getElem?_eq_some_iff.1 hv).1
        rw [Addr.add_mid, hcs j hj, ← hv, bcells_get hj]) (fun j hj => (ht j (by rw [bcells_len] at hj; exact hj)).1) (fun j hj => (ht j (by rw [bcells_len] at hj; exact hj)).2) (bcells_one p)
      rw [bcells_len] at this
      exact this
  unfold Oper.wp execOp
  simp only [ho, resolve, invoke, builtin, Sem.run_bind, Sem.run_pure, Result.andThen_ok, List.map_toArray, List.map_cons, List.map_nil, hx, hy, hrun]
  exact h _ r1 r2 (by rw [size_setCells])
/-- the pointer to a sector of a row -/
theorem laid_steps {i many : Nat} {p : List UInt8} {n : Nat} (hp : p.length ≤ 53) :
    patch (patch (patch (patch (patch zsec 0 [UInt8.ofNat i]) 1 [UInt8.ofNat many]) 3 p) 2 [UInt8.ofNat p.length]) 56 (le8 8 n) = mkS i many p n := by
  have z1 : zsec = ([] : List UInt8) ++ [(0 : UInt8)] ++ List.replicate 63 (0 : UInt8) := rfl
  have z2 : [] ++ [UInt8.ofNat i] ++ List.replicate 63 (0 : UInt8) = [UInt8.ofNat i] ++ [0] ++ List.replicate 62 0 := rfl
  have z3 : [UInt8.ofNat i] ++ [UInt8.ofNat many] ++ List.replicate 62 (0 : UInt8) = [UInt8.ofNat i, UInt8.ofNat many, 0] ++ List.replicate p.length 0 ++ List.replicate (61 - p.length) 0 := by
    rw [List.append_assoc _ (List.replicate p.length 0), List.replicate_append_replicate, show p.length + (61 - p.length) = 61 by omega]; rfl
  have z4 : [UInt8.ofNat i, UInt8.ofNat many, 0] ++ p ++ List.replicate (61 - p.length) (0 : UInt8) = [UInt8.ofNat i, UInt8.ofNat many] ++ [0] ++ (p ++ List.replicate (61 - p.length) 0) := by simp
  have z5 : [UInt8.ofNat i, UInt8.ofNat many] ++ [UInt8.ofNat p.length] ++ (p ++ List.replicate (61 - p.length) (0 : UInt8)) = ([UInt8.ofNat i, UInt8.ofNat many, UInt8.ofNat p.length] ++ (p ++ List.replicate (53 - p.length) 0)) ++ List.replicate 8 0 ++ [] := by
    rw [show 61 - p.length = (53 - p.length) + 8 by omega, ← List.replicate_append_replicate]; simp
  rw [z1, patch_mid (A := []) (B := [0]) (p := [UInt8.ofNat i]) (k := 0) rfl rfl, z2, patch_mid (A := [UInt8.ofNat i]) (B := [0]) (p := [UInt8.ofNat many]) (k := 1) rfl rfl, z3, patch_mid (A := [UInt8.ofNat i, UInt8.ofNat many, 0]) (B := List.replicate p.length 0) (p := p) (k := 3) rfl (by simp), z4,
    patch_mid (A := [UInt8.ofNat i, UInt8.ofNat many]) (B := [0]) (p := [UInt8.ofNat p.length]) (k := 2) rfl rfl, z5, patch_mid (B := List.replicate 8 0) (p := le8 8 n) (k := 56) (by simp; omega) (by rw [le8_len]; rfl)]
  unfold mkS
  simp
end Go.Proofs.Ytoibonalgmmkbaa
