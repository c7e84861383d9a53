/- Package disk: a disk in memory; has, act, Size, Dead, Fuse. -/
import Derived.Test.YtdfbpaajkpnaeaaGreatDkA
import Derived.WalkKit
import Derived.IntWalk
namespace Go.Proofs.YtdfbpaajkpnaeaaGreat
set_option maxRecDepth 100000
open Go.RowKit Go.Lib

/-- nothing has turned but what F says, and what is new -/
structure Only (F : Nat → Prop) (w w' : World) : Prop where
  os : w'.os = w.os
  tape : w'.tape = w.tape
  output : w'.output = w.output
  size : w.heap.size ≤ w'.heap.size
  block : ∀ i, i < w.heap.size → ¬ F i → w'.heap[i]? = w.heap[i]?
theorem Only.refl (F : Nat → Prop) (w : World) : Only F w w := ⟨rfl, rfl, rfl, Nat.le_refl _, fun _ _ _ => rfl⟩
theorem Only.trans {F F' : Nat → Prop} {a b c : World} (h : Only F a b) (k : Only F' b c) (hF : ∀ i, F' i → F i ∨ a.heap.size ≤ i) : Only F a c :=
  ⟨k.os.trans h.os, k.tape.trans h.tape, k.output.trans h.output, Nat.le_trans h.size k.size, fun i hi hn => (k.block i (Nat.lt_of_lt_of_le hi h.size) fun e => (hF i e).elim hn (fun e => by omega)).trans (h.block i hi hn)⟩
theorem Only.of_below {F : Nat → Prop} {w w' : World} (h : RowKit.Below w.heap.size w w') : Only F w w' := ⟨h.os, h.tape, h.output, h.size, fun i hi _ => h.block i hi⟩
theorem Only.of_grown {F : Nat → Prop} {w w' : World} {r : Option Nat} (h : w.grownBy w' r) (hr : ∀ k, r = some k → F k) : Only F w w' := ⟨h.os, h.tape, h.output, h.size, fun i hi hn => h.block i hi fun e => hn (hr i e.symm)⟩
theorem Only.below {F : Nat → Prop} {B : Nat} {w0 w w' : World} (hb : RowKit.Below B w0 w) (h : Only F w w') (hF : ∀ i, F i → B ≤ i) (hB : B ≤ w.heap.size) : RowKit.Below B w0 w' :=
  ⟨h.os.trans hb.os, h.tape.trans hb.tape, h.output.trans hb.output, Nat.le_trans hb.size h.size, fun i hi => (h.block i (by omega) fun e => by have := hF i e; omega).trans (hb.block i hi)⟩
theorem lt_of_heap {w : World} {i : Nat} {x : Obj} (h : w.heap[i]? = some x) : i < w.heap.size := (Array.getElem?_eq_some_iff.1 h).1
theorem Only.at_ {F : Nat → Prop} {w w' : World} (h : Only F w w') {i : Nat} {x : Obj} (hx : w.heap[i]? = some x) (hn : ¬ F i) : w'.heap[i]? = some x := (h.block i (lt_of_heap hx) hn).trans hx
theorem ow_same {w w' : World} {B : Nat} {e : TypeId} {n : Nat} {v : Value} {k : Nat} {xs : List Value} (h : w.ownsRow B e n v k xs) (hs : ∀ i, v.ownBlock = some i → w'.heap[i]? = w.heap[i]?) : w'.ownsRow B e n v k xs := by
  refine ⟨h.1, ?_⟩
  rcases h.2 with hn | ⟨g, cap, cur, rfl, hb, hgg, rest⟩
  · exact .inl hn
  · exact .inr ⟨g, cap, cur, rfl, hb, (hs g rfl).trans hgg, rest⟩
/-- the cells xs lie at a -/
def Lie (w : World) (a : Option Addr) (xs : List Value) : Prop := xs = [] ∨ ∃ b off, a = some ⟨b, off, none⟩ ∧ b < w.heap.size ∧ w.rangeAt b off xs
theorem Lie.same {w w' : World} {a : Option Addr} {xs : List Value} (h : Lie w a xs) (hs : w.heap.size ≤ w'.heap.size) (hb : ∀ b, inBlk a b → w'.heap[b]? = w.heap[b]?) : Lie w' a xs := by
  rcases h with h | ⟨b, off, ha, hlt, hr⟩
  · exact Or.inl h
  · exact Or.inr ⟨b, off, ha, Nat.lt_of_lt_of_le hlt hs, range_of hr (hb b ⟨_, ha, rfl⟩)⟩
theorem ow_lie {w : World} {B : Nat} {e : TypeId} {n : Nat} {v : Value} {k : Nat} {xs : List Value} (h : w.ownsRow B e n v k xs) : ∃ a cap, v = .slice a k cap ∧ Lie w a xs ∧ k ≤ cap ∧ (a = none → cap = 0) := by
  rcases h.2 with ⟨hv, hn⟩ | ⟨g, cap, cur, hv, hb, hg, hr, hm, hc, ht⟩
  · exact ⟨none, 0, by rw [hv, hn], Or.inl (List.eq_nil_of_length_eq_zero (by rw [h.1, hn, Nat.zero_mul])), by omega, fun _ => rfl⟩
  · refine ⟨_, _, hv, Or.inr ⟨g, 0, rfl, lt_of_heap hg, fun j u hj => ?_⟩, hr, fun e => by cases e⟩
    rw [Nat.zero_add, cell_of_row w g j cur e (0, 0) hg]
    rw [← ht, List.getElem?_take] at hj
    split at hj
    · simpa using hj
    · cases hj
/-- the i-th thing of n cells -/
theorem Lie.get {α : Type} {f : α → List Value} {n : Nat} {w : World} {a : Option Addr} {l : List α} (h : Lie w a (l.flatMap f)) (hf : ∀ x ∈ l, (f x).length = n) (hn : 0 < n) {i : Nat} {x : α} (hx : l[i]? = some x) :
    ∃ b off, a = some ⟨b, off, none⟩ ∧ b < w.heap.size ∧ w.rangeAt b (off + i * n) (f x) := by
  have hm := List.mem_of_getElem? hx
  rcases h with h | ⟨b, off, ha, hlt, hr⟩
  · have : (f x).length = n := hf x hm
    have e : f x = [] := List.flatMap_eq_nil_iff.1 h x hm
    rw [e] at this
    simp at this; omega
  · exact ⟨b, off, ha, hlt, fun j v hv => by rw [Nat.add_assoc]; exact hr _ v (flat_mid hf hx j v hv)⟩

/-- block g is a disk; F: its blocks; S: what the map tells is on its way -/
structure DMemS (w : World) (F : Nat → Prop) (g : Nat) (d : Dk) (S : Int → List Sec) (a0 : Option Addr) (c0 : Nat) (a1 : Option Addr) (c1 : Nat) (m cnt : Nat) (f : Int → Value) : Prop where
  ok : d.Ok
  blk : w.heap[g]? = some (.cells #[.slice a0 d.base.length c0, .slice a1 d.queue.length c1, .map (some m), .int .i64 d.fuse, .bool d.dead] 66)
  bs : w.ownsRow 0 88 64 (.slice a0 d.base.length c0) d.base.length (scells d.base)
  qs : w.ownsRow 0 3 1 (.slice a1 d.queue.length c1) d.queue.length (qcells d.queue)
  mp : MapAt w m cnt f
  cn : cnt ≤ d.queue.length
  sh : ∀ x, I x → w.ownsRow 0 88 64 (f x) (S x).length (scells (S x))
  nb : ∀ x k, I x → (f x).ownBlock = some k → (Value.slice a0 d.base.length c0).ownBlock ≠ some k
  ne : ∀ x y k, I x → I y → x ≠ y → (f x).ownBlock = some k → (f y).ownBlock ≠ some k
  fg : F g
  fm : F m
  fb : ∀ k, (Value.slice a0 d.base.length c0).ownBlock = some k → F k
  fq : ∀ k, (Value.slice a1 d.queue.length c1).ownBlock = some k → F k
  fs : ∀ x k, I x → (f x).ownBlock = some k → F k
  fl : ∀ i, F i → i < w.heap.size
abbrev DMem (w : World) (F : Nat → Prop) (g : Nat) (d : Dk) (a0 : Option Addr) (c0 : Nat) (a1 : Option Addr) (c1 m cnt : Nat) (f : Int → Value) : Prop := DMemS w F g d (ofQ d.queue) a0 c0 a1 c1 m cnt f
def DAt (w : World) (F : Nat → Prop) (g : Nat) (d : Dk) : Prop := ∃ a0 c0 a1 c1 m cnt f, DMem w F g d a0 c0 a1 c1 m cnt f
theorem DAt.ok {w : World} {F : Nat → Prop} {g : Nat} {d : Dk} (h : DAt w F g d) : d.Ok := by obtain ⟨_, _, _, _, _, _, _, k⟩ := h; exact k.ok
theorem DAt.fl {w : World} {F : Nat → Prop} {g : Nat} {d : Dk} (h : DAt w F g d) : ∀ i, F i → i < w.heap.size := by obtain ⟨_, _, _, _, _, _, _, k⟩ := h; exact k.fl
theorem DAt.fg {w : World} {F : Nat → Prop} {g : Nat} {d : Dk} (h : DAt w F g d) : F g := by obtain ⟨_, _, _, _, _, _, _, k⟩ := h; exact k.fg
/-- what turns elsewhere leaves a disk as it is -/
theorem DMemS.same {w w' : World} {F : Nat → Prop} {g : Nat} {d : Dk} {S : Int → List Sec} {a0 : Option Addr} {c0 : Nat} {a1 : Option Addr} {c1 m cnt : Nat} {f : Int → Value} (h : DMemS w F g d S a0 c0 a1 c1 m cnt f) (hs : w.heap.size ≤ w'.heap.size) (hb : ∀ i, F i → w'.heap[i]? = w.heap[i]?) : DMemS w' F g d S a0 c0 a1 c1 m cnt f :=
  ⟨h.ok, (hb g h.fg).trans h.blk, ow_same h.bs fun i hi => hb i (h.fb i hi), ow_same h.qs fun i hi => hb i (h.fq i hi), h.mp.same (hb m h.fm), h.cn, fun x hx => ow_same (h.sh x hx) fun i hi => hb i (h.fs x i hx hi), h.nb, h.ne, h.fg, h.fm, h.fb, h.fq, h.fs, fun i hi => Nat.lt_of_lt_of_le (h.fl i hi) hs⟩
theorem DAt.same {w w' : World} {F : Nat → Prop} {g : Nat} {d : Dk} (h : DAt w F g d) (hs : w.heap.size ≤ w'.heap.size) (hb : ∀ i, F i → w'.heap[i]? = w.heap[i]?) : DAt w' F g d := by
  obtain ⟨a0, c0, a1, c1, m, cnt, f, k⟩ := h
  exact ⟨a0, c0, a1, c1, m, cnt, f, k.same hs hb⟩
theorem DAt.below {w w' : World} {F : Nat → Prop} {g : Nat} {d : Dk} (h : DAt w F g d) (hb : RowKit.Below w.heap.size w w') : DAt w' F g d := h.same hb.size fun i hi => hb.block i (h.fl i hi)
theorem DMemS.below {w w' : World} {F : Nat → Prop} {g : Nat} {d : Dk} {S : Int → List Sec} {a0 : Option Addr} {c0 : Nat} {a1 : Option Addr} {c1 m cnt : Nat} {f : Int → Value} (h : DMemS w F g d S a0 c0 a1 c1 m cnt f) (hb : RowKit.Below w.heap.size w w') : DMemS w' F g d S a0 c0 a1 c1 m cnt f := h.same hb.size fun i hi => hb.block i (h.fl i hi)
theorem DAt.only {w w' : World} {F G : Nat → Prop} {g : Nat} {d : Dk} (h : DAt w F g d) (hb : Only G w w') (hd : ∀ i, F i → ¬ G i) : DAt w' F g d := h.same hb.size fun i hi => hb.block i (h.fl i hi) (hd i hi)
/-- fuse and death alone have turned -/
theorem DMem.head {w w' : World} {F : Nat → Prop} {g : Nat} {d : Dk} {a0 : Option Addr} {c0 : Nat} {a1 : Option Addr} {c1 m cnt : Nat} {f : Int → Value} (h : DMem w F g d a0 c0 a1 c1 m cnt f) {fu : Int} {dd : Bool} (hf : I fu)
    (hg : w'.heap[g]? = some (.cells #[.slice a0 d.base.length c0, .slice a1 d.queue.length c1, .map (some m), .int .i64 fu, .bool dd] 66)) (hs : w.heap.size ≤ w'.heap.size) (hb : ∀ i, i < w.heap.size → i ≠ g → w'.heap[i]? = w.heap[i]?) :
    DMem w' F g { d with fuse := fu, dead := dd } a0 c0 a1 c1 m cnt f := by
  have ow : ∀ {e : TypeId} {n k : Nat} {v : Value} {xs : List Value}, w.ownsRow 0 e n v k xs → e ≠ 66 → w'.ownsRow 0 e n v k xs := fun {e n k v xs} ho hne => ow_same ho fun i hi => by
    refine hb i (ho.lt i hi).2 fun e2 => ?_
    subst e2
    rcases ho.2 with ⟨hv, _⟩ | ⟨g', cap, cur, hv, _, hgg, _⟩
    · rw [hv] at hi; cases hi
    · rw [hv] at hi
      have : g' = i := by simpa [Value.ownBlock] using hi
      subst this
      rw [h.blk] at hgg
      injection hgg with hgg
      injection hgg with _ e3
      exact hne e3.symm
  refine ⟨h.ok.fuse hf, hg, ow h.bs (by decide), ow h.qs (by decide), h.mp.same (hb m h.mp.lt fun e => ?_), h.cn, fun x hx => ow (h.sh x hx) (by decide), h.nb, h.ne, h.fg, h.fm, h.fb, h.fq, h.fs, fun i hi => Nat.lt_of_lt_of_le (h.fl i hi) hs⟩
  obtain ⟨es, cl, hm⟩ := h.mp.isMap
  rw [e, h.blk] at hm
  cases hm
theorem DMemS.cells {w : World} {F : Nat → Prop} {g : Nat} {d : Dk} {S : Int → List Sec} {a0 : Option Addr} {c0 : Nat} {a1 : Option Addr} {c1 m cnt : Nat} {f : Int → Value} (h : DMemS w F g d S a0 c0 a1 c1 m cnt f) :
    w.cell? ⟨g, 0, none⟩ = some (.slice a0 d.base.length c0) ∧ w.cell? ⟨g, 1, none⟩ = some (.slice a1 d.queue.length c1) ∧ w.cell? ⟨g, 2, none⟩ = some (.map (some m)) ∧ w.cell? ⟨g, 3, none⟩ = some (.int .i64 d.fuse) ∧ w.cell? ⟨g, 4, none⟩ = some (.bool d.dead) := by
  refine ⟨?_, ?_, ?_, ?_, ?_⟩ <;> rw [cell_of_row w g _ _ _ _ h.blk] <;> rfl
/-- what a deed leaves -/
def Did (g : Nat) (F : Nat → Prop) (d' : Dk) (w w' : World) : Prop := ∃ F', DAt w' F' g d' ∧ Only F w w' ∧ ∀ i, F' i → F i ∨ w.heap.size ≤ i

theorem has_any (g N : Nat) (a0 : Option Addr) (c0 : Nat) (x : Int) (w : World) (h0 : w.cell? ⟨g, 0, none⟩ = some (.slice a0 N c0)) :
    Calls Tryz.prog 96 #[.pointer (some ⟨g, 0, none⟩), .int .i64 x] w fun e w' => e = .returned (.bool (decide (0 ≤ x ∧ x < (N : Int)))) ∧ w = w' := by
  by_cases h : 0 ≤ x
  · have d0 : decide (0 ≤ x) = true := by simpa using h
    have HE := Lib.hid (show decide (0 ≤ x ∧ x < (N : Int)) = decide (x < (N : Int)) by simp [h])
    clear h
    go_enter Tryz.func96, Tryz.ntmps96
    go_wp2
    go_ret
    exact ⟨by rw [HE.out]; rfl, rfl⟩
  · have d0 : decide (0 ≤ x) = false := by simpa using h
    have HE := Lib.hid (show decide (0 ≤ x ∧ x < (N : Int)) = false by simp [h])
    clear h
    go_enter Tryz.func96, Tryz.ntmps96
    go_wp2
    go_ret
    exact ⟨by rw [HE.out]; rfl, rfl⟩
theorem size_any (g N : Nat) (a0 : Option Addr) (c0 : Nat) (w : World) (h0 : w.cell? ⟨g, 0, none⟩ = some (.slice a0 N c0)) :
    Calls Tryz.prog 44 #[.pointer (some ⟨g, 0, none⟩)] w fun e w' => e = .returned (.int .i64 (N : Int)) ∧ w = w' := by
  go_enter Tryz.func44, Tryz.ntmps44
  go_wp2
  go_ret
  exact ⟨rfl, rfl⟩
theorem dead_any (g : Nat) (dd : Bool) (w : World) (h4 : w.cell? ⟨g, 4, none⟩ = some (.bool dd)) :
    Calls Tryz.prog 12 #[.pointer (some ⟨g, 0, none⟩)] w fun e w' => e = .returned (.bool dd) ∧ w = w' := by
  go_enter Tryz.func12, Tryz.ntmps12
  go_wp2
  go_ret
  exact ⟨rfl, rfl⟩
theorem fuse_run (g : Nat) (v0 v1 v2 v3 v4 : Value) (n : Int) (w : World) (hg : w.heap[g]? = some (.cells #[v0, v1, v2, v3, v4] 66)) :
    Calls Tryz.prog 20 #[.pointer (some ⟨g, 0, none⟩), .int .i64 n] w fun e w' => e = .returned (.tuple #[]) ∧ w' = w.setCell ⟨g, 3, none⟩ (.int .i64 n) := by
  have c3 : w.cell? ⟨g, 3, none⟩ = some v3 := by rw [cell_of_row w g _ _ _ _ hg]; rfl
  have f3 := frozen_of_row w g 3 _ _ hg
  clear hg
  go_enter Tryz.func20, Tryz.ntmps20
  go_wp2
  go_end0
  exact ⟨rfl, rfl⟩
theorem fuse_any (g : Nat) (F : Nat → Prop) (d : Dk) (n : Int) (w : World) (h : DAt w F g d) (hn : I n) :
    Calls Tryz.prog 20 #[.pointer (some ⟨g, 0, none⟩), .int .i64 n] w fun e w' => e = .returned (.tuple #[]) ∧ Did g F { d with fuse := n } w w' := by
  obtain ⟨a0, c0, a1, c1, m, cnt, f, k⟩ := h
  refine (fuse_run g _ _ _ _ _ n w k.blk).mono ?_
  rintro e w' ⟨rfl, rfl⟩
  have hb : ∀ i, i < w.heap.size → i ≠ g → (w.setCell ⟨g, 3, none⟩ (.int .i64 n)).heap[i]? = w.heap[i]? := fun i _ hi => heap_setCell_other w _ i _ hi
  refine ⟨rfl, F, ⟨a0, c0, a1, c1, m, cnt, f, k.head hn (by rw [heap_setCell_same w g 3 _ _ _ k.blk]; rfl) (by simp) hb⟩, ⟨rfl, rfl, rfl, by simp, fun i hi hn => hb i hi fun e => hn (e ▸ k.fg)⟩, fun i hi => Or.inl hi⟩
end Go.Proofs.YtdfbpaajkpnaeaaGreat
