/- Two readers, the program's and the document's, side by side. -/
import Derived.Test.YtcahmijcfmakjaaPkT
import Derived.Test.YtcahmijcfmakjaaPkU
import Derived.Test.YtcahmijcfmakjaaPkV
import Derived.Test.YtcahmijcfmakjaaPkO
namespace Go.Proofs.Ytcahmijcfmakjaa
open Go.RowKit Go.Lib

/-- block T is just these cells -/
def Bk (w : World) (T : Nat) (x y : Value) : Prop := w.heap[T]? = some (.cells #[x, y] 47 (0, 0))
theorem Bk.lt {w : World} {T : Nat} {x y : Value} (h : Bk w T x y) : T < w.heap.size := by
  rcases Nat.lt_or_ge T w.heap.size with hlt | hge
  · exact hlt
  · unfold Bk at h; rw [Array.getElem?_eq_none hge] at h; cases h
theorem Bk.cell {w : World} {T : Nat} {x y : Value} (h : Bk w T x y) (i : Nat) : w.cell? ⟨T, i, none⟩ = #[x, y][i]? := cell_of_row w T i _ _ (0, 0) h
theorem Bk.frozen {w : World} {T : Nat} {x y : Value} (h : Bk w T x y) (i : Nat) : w.frozen? ⟨T, i, none⟩ = false := by
  unfold Bk at h
  simp [World.frozen?, h]
theorem Bk.new (w : World) (x y : Value) : Bk (w.alloc (.cells #[x, y] 47)) w.heap.size x y := heap_alloc_new w _
theorem Bk.below {w w' : World} {T : Nat} {x y : Value} (h : Bk w T x y) (hb : RowKit.Below w.heap.size w w') : Bk w' T x y := (hb.block T h.lt).trans h
theorem Bk.grown {w w' : World} {T : Nat} {x y : Value} {row : Option Nat} (h : Bk w T x y) (hb : w.grownBy w' row) (hT : some T ≠ row) : Bk w' T x y := (hb.block T h.lt hT).trans h
theorem Bk.set0 {w : World} {T : Nat} {x y : Value} (h : Bk w T x y) (v : Value) : Bk (w.setCell ⟨T, 0, none⟩ v) T v y := by
  unfold Bk at h ⊢
  simp [World.setCell, Array.getElem?_modify, h]
theorem Bk.set1 {w : World} {T : Nat} {x y : Value} (h : Bk w T x y) (v : Value) : Bk (w.setCell ⟨T, 1, none⟩ v) T x v := by
  unfold Bk at h ⊢
  simp [World.setCell, Array.getElem?_modify, h]
/-- the program's reader, where the document's is written to -/
theorem RD.setT {w : World} {base g T : Nat} {bs : List UInt8} {f : Bool} {A : Option Addr} {n c : Nat} {b : Bool} (h : RD w base g bs f) (hB : Bk w T (.slice A n c) (.bool b)) (hT : T ≠ g) (i : Nat) (v : Value) : RD (w.setCell ⟨T, i, none⟩ v) base g bs f := by
  obtain ⟨A1, cap, h1, h2, h3, h4, h5, h6, h7, h8, h9, h10, h11⟩ := h
  have hg := grown_set w T i v
  have hne : some g ≠ some T := fun e => hT (by injection e with e; exact e.symm)
  have hb : (w.setCell ⟨T, i, none⟩ v).heap[g]? = w.heap[g]? := hg.block g h5 hne
  refine ⟨A1, cap, hg.cell h1 hne, hg.cell h2 hne, by rw [World.frozen?_of_block (w := w) hb]; exact h3, by rw [World.frozen?_of_block (w := w) hb]; exact h4, Nat.lt_of_lt_of_le h5 hg.size, h6, h7, ?_, h9, h10, h11⟩
  rcases h8 with e | ⟨q, off, ha, hlt, hc⟩
  · exact Or.inl e
  · by_cases hl : bs.length = 0
    · exact Or.inl (List.eq_nil_of_length_eq_zero hl)
    · refine Or.inr ⟨q, off, ha, Nat.lt_of_lt_of_le hlt hg.size, fun j hj => ?_⟩
      refine hg.cell (hc j hj) (fun e => ?_)
      injection e with e
      have e : q = T := e
      have h0 := hc j hj
      rw [e, hB.cell] at h0
      match off + j, h0 with
      | 0, h0 => simp at h0
      | 1, h0 => simp at h0
      | m + 2, h0 => simp at h0
/-- where both readers stand -/
structure St (w : World) (base g T : Nat) (a0 : Option Addr) (b0 : List UInt8) (cs : List UInt8) (f : Bool) (A : Option Addr) (cap : Nat) (W : World) : Prop where
  rd : RD W base g cs f
  bk : Bk W T (.slice A cs.length cap) (.bool f)
  rv : RV W A cap cs
  sb : Sub A a0
  ne : T ≠ g
  bT : w.heap.size ≤ T
  bb : w.heap.size ≤ base
  nil : f = true → cs = []
  len : cs.length ≤ b0.length
  b0 : BAt w a0 b0
  bel : RowKit.Below w.heap.size w W
theorem St.below {w : World} {base g T : Nat} {a0 : Option Addr} {b0 cs : List UInt8} {f : Bool} {A : Option Addr} {cap : Nat} {W W' : World} (h : St w base g T a0 b0 cs f A cap W) (hb : RowKit.Below W.heap.size W W') : St w base g T a0 b0 cs f A cap W' :=
  ⟨h.rd.below hb, h.bk.below hb, h.rv.below hb, h.sb, h.ne, h.bT, h.bb, h.nil, h.len, h.b0, bl_trans h.bel hb⟩
/-- a new state of the document's is laid over the old one -/
theorem St.laid {w : World} {base g T : Nat} {a0 : Option Addr} {b0 cs : List UInt8} {f : Bool} {A : Option Addr} {cap : Nat} {W : World} (h : St w base g T a0 b0 cs f A cap W) {cs' : List UInt8} {f' : Bool} {A' : Option Addr} {cap' : Nat} (hv : RV W A' cap' cs') (hs : Sub A' A) (hl : cs'.length ≤ cs.length) :
    RD ((W.setCell ⟨T, 0, none⟩ (.slice A' cs'.length cap')).setCell ⟨T, 1, none⟩ (.bool f')) base g cs f ∧ Bk ((W.setCell ⟨T, 0, none⟩ (.slice A' cs'.length cap')).setCell ⟨T, 1, none⟩ (.bool f')) T (.slice A' cs'.length cap') (.bool f') ∧
      RV ((W.setCell ⟨T, 0, none⟩ (.slice A' cs'.length cap')).setCell ⟨T, 1, none⟩ (.bool f')) A' cap' cs' ∧ RowKit.Below w.heap.size w ((W.setCell ⟨T, 0, none⟩ (.slice A' cs'.length cap')).setCell ⟨T, 1, none⟩ (.bool f')) := by
  have hl2 := h.len
  refine ⟨(h.rd.setT h.bk h.ne 0 _).setT (h.bk.set0 _) h.ne 1 _, (h.bk.set0 _).set1 _, (hv.set (hs.trans h.sb) h.b0 (by omega) h.bT 0 _).set (hs.trans h.sb) h.b0 (by omega) h.bT 1 _, ?_⟩
  exact RowKit.Below.setCell (p := ⟨T, 1, none⟩) (RowKit.Below.setCell (p := ⟨T, 0, none⟩) h.bel h.bT _) h.bT _
/-- then the program's takes the same -/
theorem St.took {w : World} {base g T : Nat} {a0 : Option Addr} {b0 cs : List UInt8} {f : Bool} {A : Option Addr} {cap : Nat} {W W1 W2 W3 : World} (h : St w base g T a0 b0 cs f A cap W) {cs' : List UInt8} {f' : Bool} {A' : Option Addr} {cap' : Nat} (hs : Sub A' A) (hl : cs'.length ≤ cs.length) (hnil : f' = true → cs' = [])
    (h1 : Bk W1 T (.slice A' cs'.length cap') (.bool f')) (h2 : RV W1 A' cap' cs') (h3 : RowKit.Below w.heap.size w W1) (hb : RowKit.Below W1.heap.size W1 W2) (ht : To base g cs' f' W2 W3) : St w base g T a0 b0 cs' f' A' cap' W3 := by
  have hl2 := h.len
  have hv := h2.below hb
  refine ⟨ht.1, (h1.below hb).grown ht.2 (fun e => h.ne (by injection e)), ⟨?_, hv.2⟩, hs.trans h.sb, h.ne, h.bT, h.bb, hnil, by omega, h.b0, ht.below (bl_trans h3 hb) (bl_trans h3 hb).size h.bb⟩
  refine hv.1.grown ht.2 ?_
  rcases h.b0 with e | ⟨b, off, ha, hlt, _⟩
  · left; exact List.eq_nil_of_length_eq_zero (by rw [e] at hl2; simp at hl2; rw [hl2] at hl; simpa using hl)
  · right
    intro k e hin
    injection e with e
    subst e
    obtain ⟨p, hp, hq⟩ := (hs.trans h.sb) _ hin
    rw [ha] at hp
    injection hp with hp
    rw [← hp] at hq
    have e2 : b = g := hq
    obtain ⟨_, _, _, _, _, _, _, h6, _⟩ := ht.1
    have := h.bb
    omega
theorem n_nilO {cs : List UInt8} (h : nO cs = false) : nR cs = [] := by
  cases e : dec cs with
  | none => exact (n_none e).2.1
  | some r => simp [nO, e] at h
theorem t_nilO {cs : List UInt8} (h : tO cs = false) : tR cs = [] := by
  unfold tO at h
  unfold tR
  by_cases hc : sV cs 65536 ≤ (sR cs 65536).length
  · rw [if_pos hc]
    have : sO cs 65536 = false := by unfold tC at h; simpa [hc] using h
    rw [(s_fail this).2]; simp
  · rw [if_neg hc]
theorem f_nilO {cs : List UInt8} (h : fO cs = false) : fR cs = [] := by
  unfold fO at h
  unfold fR
  rw [if_neg (by simpa using h)]
theorem or_n {cs : List UInt8} {f : Bool} (h : f = true → cs = []) : (f || !nO cs) = !nO cs := by
  cases f
  · rfl
  · rw [h rfl]; decide
theorem or_s {cs : List UInt8} {f : Bool} (m : Nat) (h : f = true → cs = []) : (f || !sO cs m) = !sO cs m := by
  cases f
  · rfl
  · rw [h rfl]; simp [sO, show nO [] = false from by decide]
theorem or_t {cs : List UInt8} {f : Bool} (h : f = true → cs = []) : (f || !tO cs) = !tO cs := by
  cases f
  · rfl
  · rw [h rfl]; simp [tO, sO, show nO [] = false from by decide]
theorem or_f {cs : List UInt8} {f : Bool} (h : f = true → cs = []) : (f || !fO cs) = !fO cs := by
  cases f
  · rfl
  · rw [h rfl]; decide
theorem fR_len (cs : List UInt8) : (fR cs).length ≤ cs.length := by
  unfold fR
  split
  · simp
  · simp
theorem fV_lt (cs : List UInt8) : fV cs < 18446744073709551616 := by
  unfold fV
  split
  · next h =>
    have := spell_lt (cs.take 8)
    have e : (cs.take 8).length = 8 := by rw [List.length_take]; omega
    rw [e] at this
    have e64 : (2 : Nat) ^ (8 * 8) = 18446744073709551616 := by decide
    omega
  · omega
end Go.Proofs.Ytcahmijcfmakjaa
