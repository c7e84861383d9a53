/- Package disk, mathematics: sectors, what is on its way, cut off. -/
import Derived.Test.YtdfbpaajkpnaeaaGreatPkB
import Derived.Deep.MidRow
namespace Go.Proofs.YtdfbpaajkpnaeaaGreat
set_option maxRecDepth 100000
open Go.RowKit Go.Lib

abbrev Sec := List UInt8
/-- a disk: sectors, what is on its way (to which sector, what), acts that are left, is it dead? -/
structure Dk where
  base : List Sec
  queue : List (Nat × Sec)
  fuse : Int
  dead : Bool
def zsec : Sec := List.replicate 64 0
structure Dk.Ok (d : Dk) : Prop where
  bl : ∀ s ∈ d.base, s.length = 64
  qi : ∀ p ∈ d.queue, p.1 < d.base.length
  ql : ∀ p ∈ d.queue, p.2.length = 64
  sz : d.base.length ≤ 2048
  qn : d.queue.length ≤ 10000
  fz : I d.fuse
/-- what is on its way to a sector -/
def ofQ (q : List (Nat × Sec)) (x : Int) : List Sec := (q.filter fun p => (p.1 : Int) == x).map (·.2)
theorem ofQ_app (q r : List (Nat × Sec)) (x : Int) : ofQ (q ++ r) x = ofQ q x ++ ofQ r x := by simp [ofQ]
theorem ofQ_one_same (p : Nat × Sec) : ofQ [p] (p.1 : Int) = [p.2] := by simp [ofQ]
theorem ofQ_one_other (p : Nat × Sec) {x : Int} (h : x ≠ (p.1 : Int)) : ofQ [p] x = [] := by
  simp [ofQ]; exact fun e => h e.symm
theorem ofQ_mem {q : List (Nat × Sec)} {x : Int} {s : Sec} (h : s ∈ ofQ q x) : ∃ p ∈ q, p.2 = s ∧ (p.1 : Int) = x := by
  unfold ofQ at h
  obtain ⟨p, hp, rfl⟩ := List.mem_map.1 h
  obtain ⟨h1, h2⟩ := List.mem_filter.1 hp
  exact ⟨p, h1, rfl, by simpa using h2⟩
theorem ofQ_le (q : List (Nat × Sec)) (x : Int) : (ofQ q x).length ≤ q.length := by
  unfold ofQ; rw [List.length_map]; exact List.length_filter_le _ _
theorem ofQ_cons (p : Nat × Sec) (q : List (Nat × Sec)) (x : Int) : ofQ (p :: q) x = ofQ [p] x ++ ofQ q x := ofQ_app [p] q x
/-- what a sector is -/
def Dk.at_ (d : Dk) (x : Int) : Sec := if 0 ≤ x ∧ x < d.base.length then ((ofQ d.queue x).getLast?).getD (d.base.getD x.toNat []) else zsec
def Dk.has (d : Dk) (x : Int) : Bool := decide (0 ≤ x ∧ x < d.base.length)
/-- an act -/
def Dk.live (d : Dk) : Bool := !(d.dead || d.fuse == 0)
def Dk.spend (d : Dk) : Dk := if d.live then { d with fuse := if 0 < d.fuse then d.fuse - 1 else d.fuse } else { d with dead := true }
def Dk.put (d : Dk) (x : Int) (s : Sec) : Dk := if d.has x then (if d.live then { d.spend with queue := d.queue ++ [(x.toNat, s)] } else d.spend) else d
def Dk.putE (d : Dk) (x : Int) : Int := if d.has x then (if d.live then 0 else 82) else 81
def cutS (s old : Sec) (n : Nat) : Sec := s.take n ++ old.drop n
theorem cutS_len {s old : Sec} {n : Nat} (h : s.length = 64) (k : old.length = 64) (hn : n ≤ 64) : (cutS s old n).length = 64 := by simp [cutS]; omega
/-- the first k of the queue have gone into the base -/
def stl (cm : Nat → Nat) (q : List (Nat × Sec)) (b : List Sec) : Nat → List Sec
  | 0 => b
  | k + 1 => (stl cm q b k).set (q.getD k (0, [])).1 (cutS (q.getD k (0, [])).2 ((stl cm q b k).getD (q.getD k (0, [])).1 []) (cm k))
theorem stl_len (cm : Nat → Nat) (q : List (Nat × Sec)) (b : List Sec) : ∀ k, (stl cm q b k).length = b.length
  | 0 => rfl
  | k + 1 => by rw [stl, List.length_set, stl_len cm q b k]
theorem getD_mem {α : Type} {l : List α} {k : Nat} {x : α} (h : k < l.length) : l.getD k x ∈ l := by
  rw [List.getD, List.getElem?_eq_getElem h, Option.getD_some]; exact List.getElem_mem h
theorem stl_ok {cm : Nat → Nat} {q : List (Nat × Sec)} {b : List Sec} (hc : ∀ k, cm k ≤ 64) (hb : ∀ s ∈ b, s.length = 64) (hi : ∀ p ∈ q, p.1 < b.length) (hq : ∀ p ∈ q, p.2.length = 64) : ∀ k, k ≤ q.length → ∀ s ∈ stl cm q b k, s.length = 64
  | 0, _ => hb
  | k + 1, hk => fun s hs => by
    have ih := stl_ok hc hb hi hq k (by omega)
    rw [stl] at hs
    rcases List.mem_or_eq_of_mem_set hs with h | rfl
    · exact ih s h
    · have hm := getD_mem (x := ((0 : Nat), ([] : Sec))) (show k < q.length by omega)
      exact cutS_len (hq _ hm) (ih _ (getD_mem (by rw [stl_len]; exact hi _ hm))) (hc k)
theorem stl_congr {cm cm' : Nat → Nat} {q : List (Nat × Sec)} {b : List Sec} : ∀ k, (∀ i, i < k → cm i = cm' i) → stl cm q b k = stl cm' q b k
  | 0, _ => rfl
  | k + 1, h => by rw [stl, stl, stl_congr k (fun i hi => h i (by omega)), h k (by omega)]
def Dk.flush (d : Dk) : Dk := if d.live then { d.spend with base := stl (fun _ => 64) d.queue d.base d.queue.length, queue := [] } else d.spend
def Dk.actE (d : Dk) : Int := if d.live then 0 else 82
/-- how many bytes of the k-th come in -/
def keepF (keep : List Int) (k : Nat) : Nat := (min (max (keep.getD k 0) 0) 64).toNat
theorem keepF_le (keep : List Int) (k : Nat) : keepF keep k ≤ 64 := by unfold keepF; omega
theorem keepF_out {keep : List Int} {k : Nat} (h : keep.length ≤ k) : keepF keep k = 0 := by unfold keepF; rw [List.getD, List.getElem?_eq_none h]; rfl
def Dk.power (d : Dk) (keep : List Int) : Dk := { base := stl (keepF keep) d.queue d.base d.queue.length, queue := [], fuse := -1, dead := false }
def blankN (n : Int) : Nat := (min (max n 0) 2048).toNat
def Dk.blank (n : Int) : Dk := { base := List.replicate (blankN n) zsec, queue := [], fuse := -1, dead := false }
/-- the document's: a fuse below 0 is -1 -/
def Dk.norm (d : Dk) : Dk := { d with fuse := max d.fuse (-1) }

theorem Dk.Ok.blank (n : Int) : (Dk.blank n).Ok := ⟨fun s hs => by rw [(List.mem_replicate.1 hs).2]; rfl, fun p hp => (by cases hp), fun p hp => (by cases hp), by show (List.replicate _ _).length ≤ _; rw [List.length_replicate]; unfold blankN; omega, Nat.zero_le _, by show I (-1); unfold I; omega⟩
theorem Dk.Ok.spend {d : Dk} (h : d.Ok) : d.spend.Ok := by
  unfold Dk.spend
  obtain ⟨h1, h2, h3, h4, h5, h6, h7⟩ := h
  split
  · refine ⟨h1, h2, h3, h4, h5, ?_⟩
    show I (if 0 < d.fuse then d.fuse - 1 else d.fuse)
    unfold I
    split <;> omega
  · exact ⟨h1, h2, h3, h4, h5, h6, h7⟩
theorem Dk.spend_base (d : Dk) : d.spend.base = d.base := by unfold Dk.spend; split <;> rfl
theorem Dk.spend_queue (d : Dk) : d.spend.queue = d.queue := by unfold Dk.spend; split <;> rfl
theorem Dk.has_iff {d : Dk} {x : Int} : d.has x = true ↔ 0 ≤ x ∧ x < d.base.length := by unfold Dk.has; exact decide_eq_true_iff
theorem Dk.Ok.put {d : Dk} (h : d.Ok) {x : Int} {s : Sec} (hs : s.length = 64) (hq : d.queue.length < 10000) : (d.put x s).Ok := by
  unfold Dk.put
  split
  · next hx =>
    have hx := Dk.has_iff.1 hx
    split
    · have hsp := h.spend
      refine ⟨hsp.bl, fun p hp => ?_, fun p hp => ?_, hsp.sz, by show (d.queue ++ [(x.toNat, s)]).length ≤ 10000; simp; omega, hsp.fz⟩
      · show p.1 < d.spend.base.length
        rw [d.spend_base]
        rcases List.mem_append.1 hp with hp | hp
        · exact h.qi p hp
        · rw [List.mem_singleton.1 hp]; show x.toNat < _; omega
      · rcases List.mem_append.1 hp with hp | hp
        · exact h.ql p hp
        · rw [List.mem_singleton.1 hp]; exact hs
    · exact h.spend
  · exact h
theorem Dk.Ok.gone {d : Dk} (h : d.Ok) {cm : Nat → Nat} (hc : ∀ k, cm k ≤ 64) {f : Int} {dd : Bool} (hf : I f) : Dk.Ok { base := stl cm d.queue d.base d.queue.length, queue := [], fuse := f, dead := dd } :=
  ⟨stl_ok hc h.bl h.qi h.ql _ (Nat.le_refl _), fun p hp => (by cases hp), fun p hp => (by cases hp), by show (stl _ _ _ _).length ≤ _; rw [stl_len]; exact h.sz, Nat.zero_le _, hf⟩
theorem Dk.Ok.flush {d : Dk} (h : d.Ok) : d.flush.Ok := by
  unfold Dk.flush
  split
  · exact h.gone (fun _ => Nat.le_refl _) h.spend.fz
  · exact h.spend
theorem Dk.Ok.power {d : Dk} (h : d.Ok) (keep : List Int) : (d.power keep).Ok := h.gone (keepF_le keep) (by unfold I; omega)
theorem Dk.Ok.fuse {d : Dk} (h : d.Ok) {n : Int} {dd : Bool} (hn : I n) : Dk.Ok { d with fuse := n, dead := dd } := ⟨h.bl, h.qi, h.ql, h.sz, h.qn, hn⟩
theorem Dk.Ok.norm {d : Dk} (h : d.Ok) : d.norm.Ok := h.fuse (by obtain ⟨h1, h2⟩ := h.fz; unfold I; omega)

theorem norm_live (d : Dk) : d.norm.live = d.live := by
  unfold Dk.live Dk.norm
  have : (max d.fuse (-1) == 0) = (d.fuse == 0) := by rw [Bool.eq_iff_iff, beq_iff_eq, beq_iff_eq]; omega
  simp only [this]
theorem norm_spend (d : Dk) : d.norm.spend = d.spend.norm := by
  unfold Dk.spend
  rw [norm_live]
  unfold Dk.norm
  split
  · simp only [Dk.mk.injEq, true_and, and_true]
    split <;> split <;> omega
  · rfl
theorem norm_put (d : Dk) (x : Int) (s : Sec) : d.norm.put x s = (d.put x s).norm := by
  unfold Dk.put
  have : d.norm.has x = d.has x := rfl
  rw [this, norm_live, norm_spend]
  split
  · split <;> rfl
  · rfl
theorem norm_putE (d : Dk) (x : Int) : d.norm.putE x = d.putE x := by
  unfold Dk.putE
  have : d.norm.has x = d.has x := rfl
  rw [this, norm_live]
theorem norm_actE (d : Dk) : d.norm.actE = d.actE := by unfold Dk.actE; rw [norm_live]
theorem norm_flush (d : Dk) : d.norm.flush = d.flush.norm := by
  unfold Dk.flush
  rw [norm_live, norm_spend]
  split <;> rfl
theorem norm_power (d : Dk) (k : List Int) : d.norm.power k = (d.power k).norm := rfl
theorem norm_at (d : Dk) (x : Int) : d.norm.at_ x = d.at_ x := rfl
theorem norm_blank (n : Int) : (Dk.blank n).norm = Dk.blank n := rfl
theorem at_len {d : Dk} (h : d.Ok) (x : Int) : (d.at_ x).length = 64 := by
  unfold Dk.at_
  split
  · next hx =>
    cases hq : (ofQ d.queue x).getLast? with
    | none => exact h.bl _ (getD_mem (by omega))
    | some s =>
      obtain ⟨p, hp, rfl, _⟩ := ofQ_mem (List.mem_of_getLast? hq)
      exact h.ql p hp
  · rfl

/-! pieces of one length -/
section
variable {α : Type} {f : α → List Value} {n : Nat}
theorem flat_len : ∀ {l : List α}, (∀ x ∈ l, (f x).length = n) → (l.flatMap f).length = l.length * n
  | [], _ => by simp
  | x :: l, h => by rw [List.flatMap_cons, List.length_append, h x (by simp), flat_len (fun y hy => h y (by simp [hy])), List.length_cons, Nat.succ_mul]; omega
theorem flat_drop : ∀ {l : List α} (i : Nat), (∀ x ∈ l, (f x).length = n) → i ≤ l.length → (l.flatMap f).drop (i * n) = (l.drop i).flatMap f
  | l, 0, _, _ => by simp
  | [], i + 1, _, hi => by simp at hi
  | x :: l, i + 1, h, hi => by
    rw [List.flatMap_cons, List.drop_succ_cons, ← flat_drop (l := l) i (fun y hy => h y (by simp [hy])) (by simpa using hi)]
    have e : (i + 1) * n = (f x).length + i * n := by rw [h x (by simp), Nat.succ_mul]; omega
    rw [e, List.drop_append, List.drop_of_length_le (by omega)]
    simp
theorem flat_take : ∀ {l : List α} (i : Nat), (∀ x ∈ l, (f x).length = n) → i ≤ l.length → (l.flatMap f).take (i * n) = (l.take i).flatMap f
  | l, 0, _, _ => by simp
  | [], i + 1, _, hi => by simp at hi
  | x :: l, i + 1, h, hi => by
    rw [List.flatMap_cons, List.take_succ_cons, List.flatMap_cons, ← flat_take (l := l) i (fun y hy => h y (by simp [hy])) (by simpa using hi)]
    have e : (i + 1) * n = (f x).length + i * n := by rw [h x (by simp), Nat.succ_mul]; omega
    rw [e, List.take_append, List.take_of_length_le (by omega)]
    simp
theorem flat_mid {l : List α} {i : Nat} {x : α} (h : ∀ x ∈ l, (f x).length = n) (hx : l[i]? = some x) : ∀ j v, (f x)[j]? = some v → (l.flatMap f)[i * n + j]? = some v := by
  intro j v hv
  have hi : i < l.length := (List.getElem?_eq_some_iff.1 hx).1
  have hj : j < (f x).length := (List.getElem?_eq_some_iff.1 hv).1
  have e : ((l.flatMap f).drop (i * n))[j]? = some v := by
    rw [flat_drop i h (by omega), List.drop_eq_getElem_cons hi, List.flatMap_cons]
    have : l[i] = x := by rw [List.getElem?_eq_getElem hi] at hx; exact Option.some.inj hx
    rw [this, List.getElem?_append_left hj]
    exact hv
  rwa [List.getElem?_drop] at e
theorem flat_set {l : List α} {i : Nat} {x : α} (h : ∀ y ∈ l, (f y).length = n) (hi : i < l.length) : (l.set i x).flatMap f = (l.flatMap f).take (i * n) ++ f x ++ (l.flatMap f).drop (i * n + n) := by
  rw [flat_take i h (by omega), show i * n + n = (i + 1) * n by rw [Nat.succ_mul], flat_drop (i + 1) h (by omega), List.set_eq_take_append_cons_drop, if_pos hi, List.flatMap_append, List.flatMap_cons, List.append_assoc]
end
/-- the cells of sectors -/
def scells (l : List Sec) : List Value := l.flatMap bcells
def icell (p : Nat × Sec) : List Value := bcells p.2 ++ [.int .i64 (p.1 : Int)]
def icells (q : List (Nat × Sec)) : List Value := q.flatMap icell
def qcells (q : List (Nat × Sec)) : List Value := q.map fun p => .int .i64 (p.1 : Int)
theorem scells_one (l : List Sec) : ∀ u ∈ scells l, u.oneCell' = true := by
  intro u hu
  obtain ⟨s, _, h⟩ := List.mem_flatMap.1 hu
  exact bcells_one s u h
theorem icell_one (p : Nat × Sec) : ∀ u ∈ icell p, u.oneCell' = true := by
  intro u hu
  rcases List.mem_append.1 hu with h | h
  · exact bcells_one p.2 u h
  · rw [List.mem_singleton.1 h]; rfl
theorem icells_one (q : List (Nat × Sec)) : ∀ u ∈ icells q, u.oneCell' = true := by
  intro u hu
  obtain ⟨s, _, h⟩ := List.mem_flatMap.1 hu
  exact icell_one s u h
theorem scells_len {l : List Sec} (h : ∀ s ∈ l, s.length = 64) : (scells l).length = l.length * 64 := flat_len fun s hs => by rw [bcells_len, h s hs]
theorem icell_len {p : Nat × Sec} (h : p.2.length = 64) : (icell p).length = 65 := by simp [icell, bcells_len, h]
theorem icells_len {q : List (Nat × Sec)} (h : ∀ p ∈ q, p.2.length = 64) : (icells q).length = q.length * 65 := flat_len fun p hp => icell_len (h p hp)
theorem scells_app (l k : List Sec) : scells (l ++ k) = scells l ++ scells k := List.flatMap_append
theorem icells_app (l k : List (Nat × Sec)) : icells (l ++ k) = icells l ++ icells k := List.flatMap_append
theorem scells_sing (s : Sec) : scells [s] = bcells s := by simp [scells]
theorem icells_sing (p : Nat × Sec) : icells [p] = icell p := by simp [icells]
theorem qcells_app (l k : List (Nat × Sec)) : qcells (l ++ k) = qcells l ++ qcells k := List.map_append
end Go.Proofs.YtdfbpaajkpnaeaaGreat
