
/- Package slot, mathematics: what is written there counts; the document's disk. falseworklaw11: slotAlive; a slot's calls beside what lies above a world. -/
import Derived.Test.YtdfbpaajkpnaeaaGreatSlAC
import Derived.Test.YtdfbpaajkpnaeaaGreatSmKQ
import Derived.Test.YtdfbpaajkpnaeaaGreatSmLS
import Derived.Test.YtdfbpaajkpnaeaaGreatLgK
import Derived.Test.YtdfbpaajkpnaeaaGreatLgEG

namespace Go.Proofs.YtdfbpaajkpnaeaaGreat
set_option maxRecDepth 100000
open Go.RowKit Go.Lib

theorem read_same {d d' : Dk} {x z : Int} (hb : d'.base.length = d.base.length) (h : ∀ t, x ≤ t → t < z → d'.at_ t = d.at_ t) : d'.read x z = d.read x z := by
  have hs : d'.stands x z = d.stands x z := by
    unfold Dk.stands
    by_cases hz : z ≤ x
    · rw [if_pos hz, if_pos hz]
    · rw [if_neg hz, if_neg hz, h x (Int.le_refl _) (by omega)]
      split
      · rfl
      · next hm =>
        unfold Dk.secsAt
        exact List.map_congr_left fun i hi => h _ (by omega) (by have := List.mem_range.1 hi; omega)
  unfold Dk.read
  rw [hb, hs]
theorem stand_same {d d' : Dk} {p s : Int} {k : Nat} (hb : d'.base.length = d.base.length) (h : ∀ t, p ≤ t → t < p + s → d'.at_ t = d.at_ t) : d'.stand p s k = d.stand p s k := by
  unfold Dk.stand
  rw [read_same hb h]
theorem stand_le {d : Dk} {x s p : Int} {k : Nat} (h1 : x ≤ p) (h2 : p < x + 2 * s) : (d.stand p s k).n ≤ topN d x (2 * s).toNat := by
  unfold Dk.stand
  split
  · next h =>
    show (d.read p (p + s)).n ≤ _
    rw [(read_in h.1).2.2.2.2.2.2.1]
    have := topN_le (d := d) (x := x) (k := (2 * s).toNat) (i := (p - x).toNat) (by omega)
    rwa [show x + (((p - x).toNat : Nat) : Int) = p by omega] at this
  · exact Nat.zero_le _
theorem topN_ub {d : Dk} {x : Int} {m : Nat} : ∀ {k : Nat}, (∀ i, i < k → stN (d.at_ (x + (i : Int))) ≤ m) → topN d x k ≤ m
  | 0, _ => Nat.zero_le _
  | k + 1, h => by
    have h1 := topN_ub (k := k) fun i hi => h i (by omega)
    have h2 := h k (by omega)
    show max _ _ ≤ m
    omega
/-- places in which contents were written whole, one behind the other: n of them, the last one b -/
structure Sl (d : Dk) (x s : Int) (n : Nat) (b : List UInt8) : Prop where
  ok : d.Ok
  up : Up d
  q : d.queue = []
  can : canB d x s = true
  top : topN d x (2 * s).toNat = n
  cur : (n = 0 ∧ d.slot x s = (Gen.none, 111)) ∨ (n ≠ 0 ∧ d.slot x s = (⟨b, n⟩, 0))
theorem Sl.nextG {d : Dk} {x s : Int} {n : Nat} {b : List UInt8} (h : Sl d x s n b) (hn : n + 1 < 18446744073709551616) : d.nextG x s = n + 1 := by
  have e : (n + 1) % 18446744073709551616 = n + 1 := Nat.mod_eq_of_lt hn
  unfold Dk.nextG
  rw [h.top, e]
  rcases h.cur with ⟨_, h2⟩ | ⟨_, h2⟩
  · rw [h2, if_neg (fun q => by cases q.1)]
  · rw [h2, if_neg (fun q => by have := q.2; simp only at this; omega)]
theorem Sl.write {d : Dk} {x s : Int} {n : Nat} {b : List UInt8} (h : Sl d x s n b) (hn : n + 1 < 18446744073709551616) {l : List UInt8} (hl : l.length + 4 ≤ 13515) (hs : (spanN (l.length + 4) : Int) ≤ s) :
    ∃ d', d.slotW x s l = (d', n + 1, 0) ∧ Sl d' x s (n + 1) l := by
  obtain ⟨x0, s1, s2, x2⟩ := canB_iff.1 h.can
  have hnx := h.nextG hn
  have hcl := closed_len l
  have hsp := spanN_pos hl
  obtain ⟨p, hp⟩ : ∃ p, p = plc (n + 1) x s := ⟨_, rfl⟩
  have hpr := plc_in (n := n + 1) x0 s1 x2
  rw [← hp] at hpr
  have hpx : x ≤ p ∧ p < x + 2 * s := by rw [hp]; unfold plc; split <;> omega
  have hw := write_up h.up (x := p) (n := n + 1) (l := closed l) (by omega) (by omega) hpr.1 (by rw [hcl]; omega)
  have hok1 := write_ok h.ok p (n + 1) (closed l) (by rw [h.q]; exact Nat.zero_le _)
  rw [hw] at hok1
  obtain ⟨d1, hd1⟩ : ∃ d1, d1 = { d with queue := d.queue ++ qsOf p (secs (n + 1) (closed l)) } := ⟨_, rfl⟩
  rw [← hd1] at hw hok1
  have hb1 : d1.base.length = d.base.length := by rw [hd1]
  have hup1 : Up d1 := by rw [hd1]; exact ⟨h.up.fu, h.up.dd⟩
  have hat1 : ∀ y, d1.at_ y = if p ≤ y ∧ y < p + (spanN (l.length + 4) : Int) then (secs (n + 1) (closed l)).getD (y - p).toNat [] else d.at_ y := fun y => by
    rw [hd1, at_qs hpr.1 (by rw [secs_length, hcl]; omega), secs_length, hcl]
  have hst1 : Stand d1 p (n + 1) (closed l) := by rw [hd1]; exact Stand.written hpr.1 (by rw [hcl]; omega)
  have hbl : d1.flush.base.length = d.base.length := by rw [hup1.flush, ← hb1]; exact stl_len _ _ _ _
  have hat2 : ∀ y, d1.flush.at_ y = d1.at_ y := fun y => flush_at hok1 hup1.live y
  refine ⟨d1.flush, ?_, hok1.flush, ⟨by rw [hup1.flush]; exact hup1.fu, by rw [hup1.flush]; exact hup1.dd⟩, by rw [hup1.flush], ?_, ?_, Or.inr ⟨by omega, ?_⟩⟩
  · unfold Dk.slotW
    rw [if_neg (by rw [h.can]; exact Bool.noConfusion), if_neg (by omega), hnx, ← hp, hw]
    simp only
    rw [if_neg (fun e => e rfl), if_neg (by unfold Dk.actE; rw [hup1.live]; exact fun e => e rfl)]
  · rw [canB_iff, hbl]
    exact ⟨x0, s1, s2, x2⟩
  · have hub : topN d1.flush x (2 * s).toNat ≤ n + 1 := topN_ub fun i hi => by
      rw [hat2, hat1]
      split
      · next hin =>
        rw [secs_getD (by rw [hcl]; omega), stN_sec hn]
        exact Nat.le_refl _
      · have := topN_le (d := d) (x := x) hi
        rw [h.top] at this
        omega
    have hlb := topN_le (d := d1.flush) (x := x) (k := (2 * s).toNat) (i := (p - x).toNat) (by omega)
    rw [show x + (((p - x).toNat : Nat) : Int) = p by omega, hat2] at hlb
    have h0 := hst1 0 (by rw [hcl]; omega)
    rw [show p + ((0 : Nat) : Int) = p by omega] at h0
    rw [h0, stN_sec hn] at hlb
    omega
  · have hstand : Stand d1.flush p (n + 1) (closed l) := fun i hi => by rw [hat2]; exact hst1 i hi
    have hrd : d1.flush.read p (p + s) = ⟨closed l, n + 1, spanN (closed l).length, 0⟩ := hstand.read (by omega) (by omega) hn hpr.1 (by rw [hcl]; omega) (by rw [hbl]; omega)
    have hown : ∀ k, (n + 1) % 2 = k → d1.flush.stand p s k = ⟨l, n + 1⟩ := fun k hk => by
      unfold Dk.stand
      rw [hrd, if_pos ⟨rfl, hk, okB_close l⟩]
      show Gen.mk (cutB (closed l)) (n + 1) = _
      rw [show cutB (closed l) = l from cutB_close l]
    have hother : ∀ p' k, x ≤ p' → p' < x + 2 * s → (p' + s ≤ p ∨ p + s ≤ p') → (d1.flush.stand p' s k).n ≤ n := fun p' k a1 a2 a3 => by
      rw [stand_same (d := d) hbl fun t t1 t2 => by rw [hat2, hat1, if_neg (by omega)]]
      have := stand_le (d := d) (s := s) (k := k) a1 a2
      rwa [h.top] at this
    have hboth : d1.flush.both x s = ⟨l, n + 1⟩ := by
      unfold Dk.both
      rcases Nat.mod_two_eq_zero_or_one (n + 1) with e | e
      · have ep : p = x := by rw [hp]; unfold plc; rw [if_pos e]
        have h1 := hown 0 e
        rw [ep] at h1
        have h2 := hother (x + s) 1 (by omega) (by omega) (by omega)
        rw [h1, if_neg (by show ¬ (n + 1 < _); omega)]
      · have ep : p = x + s := by rw [hp]; unfold plc; rw [if_neg (by omega)]
        have h1 := hown 1 e
        rw [ep] at h1
        have h2 := hother x 0 (by omega) (by omega) (by omega)
        rw [h1, if_pos (by show _ < n + 1; omega)]
    unfold Dk.slot
    rw [hboth, if_pos ⟨by rw [canB_iff, hbl]; exact ⟨x0, s1, s2, x2⟩, by show n + 1 ≠ 0; omega⟩]
theorem Sl.blank {N x s : Int} (h0 : 0 ≤ x) (h1 : 1 ≤ s) (h2 : s ≤ 255) (h3 : x + 2 * s ≤ N) (h4 : N ≤ 2048) : Sl (Dk.blank N) x s 0 [] := by
  have hlen : ((Dk.blank N).base.length : Int) = N := by
    unfold Dk.blank
    simp only [List.length_replicate]
    unfold blankN
    omega
  have hcan : canB (Dk.blank N) x s = true := by rw [canB_iff, hlen]; exact ⟨h0, h1, h2, h3⟩
  have htop : topN (Dk.blank N) x (2 * s).toNat = 0 := Nat.le_zero.1 (topN_ub fun i _ => by rw [blank_at, zsec_stN]; exact Nat.le_refl _)
  refine ⟨Dk.Ok.blank N, Up.blank N, rfl, hcan, htop, Or.inl ⟨rfl, ?_⟩⟩
  have hA := stand_le (d := Dk.blank N) (x := x) (s := s) (p := x) (k := 0) (by omega) (by omega)
  have hB := stand_le (d := Dk.blank N) (x := x) (s := s) (p := x + s) (k := 1) (by omega) (by omega)
  rw [htop] at hA hB
  unfold Dk.slot
  rw [if_neg]
  rintro ⟨_, e⟩
  apply e
  unfold Dk.both
  split <;> omega
/-! the document's disk -/
theorem norm_slot (d : Dk) (x s : Int) : d.norm.slot x s = d.slot x s := rfl
theorem norm_nextG (d : Dk) (x s : Int) : d.norm.nextG x s = d.nextG x s := by
  unfold Dk.nextG
  rw [norm_topN, norm_slot]
theorem norm_next (d : Dk) (x s : Int) : d.norm.next x s = d.next x s := by
  unfold Dk.next
  rw [norm_nextG]
  rfl
theorem norm_slotW (d : Dk) (x s : Int) (l : List UInt8) : d.norm.slotW x s l = ((d.slotW x s l).1.norm, (d.slotW x s l).2.1, (d.slotW x s l).2.2) := by
  unfold Dk.slotW
  rw [norm_nextG, show canB d.norm x s = canB d x s from rfl, norm_write]
  simp only
  by_cases h1 : canB d x s = false
  · simp only [if_pos h1]
  · simp only [if_neg h1]
    by_cases h2 : spanN (l.length + 4) = 0 ∨ s < (spanN (l.length + 4) : Int)
    · simp only [if_pos h2]
    · simp only [if_neg h2]
      by_cases h3 : (d.write (plc (d.nextG x s) x s) (d.nextG x s) (closed l)).2 ≠ 0
      · simp only [if_pos h3]
      · simp only [if_neg h3]
        rw [norm_actE, norm_flush]
        by_cases h4 : (d.write (plc (d.nextG x s) x s) (d.nextG x s) (closed l)).1.actE ≠ 0
        · simp only [if_pos h4]
        · simp only [if_neg h4]
/-- how long the queue is, how many sectors -/
theorem slotW_lens (d : Dk) (x s : Int) (l : List UInt8) : (d.slotW x s l).1.queue.length ≤ d.queue.length + spanN (l.length + 4) ∧ (d.slotW x s l).1.base.length = d.base.length := by
  have h1 := write_queue d (plc (d.nextG x s) x s) (d.nextG x s) (closed l)
  have h2 := write_base d (plc (d.nextG x s) x s) (d.nextG x s) (closed l)
  rw [closed_len] at h1
  unfold Dk.slotW
  split
  · exact ⟨by show d.queue.length ≤ _; omega, rfl⟩
  · split
    · exact ⟨by show d.queue.length ≤ _; omega, rfl⟩
    · have h3 : ∀ e : Dk, e.flush.queue.length ≤ e.queue.length ∧ e.flush.base.length = e.base.length := fun e => by
        unfold Dk.flush
        split
        · exact ⟨Nat.zero_le _, stl_len _ _ _ _⟩
        · rw [Dk.spend_queue, Dk.spend_base]; exact ⟨Nat.le_refl _, rfl⟩
      have h4 := h3 (d.write (plc (d.nextG x s) x s) (d.nextG x s) (closed l)).1
      split
      · exact ⟨h1, by show (d.write _ _ _).1.base.length = _; rw [h2]⟩
      · split
        · exact ⟨by have := h4.1; show (Dk.flush _).queue.length ≤ _; omega, by show (Dk.flush _).base.length = _; rw [h4.2, h2]⟩
        · exact ⟨by have := h4.1; show (Dk.flush _).queue.length ≤ _; omega, by show (Dk.flush _).base.length = _; rw [h4.2, h2]⟩
end Go.Proofs.YtdfbpaajkpnaeaaGreat

namespace Go.Proofs.YtdfbpaajkpnaeaaGreat
set_option maxRecDepth 100000
open Go.RowKit Go.Lib

/-- a write into places in which all were written whole -/
theorem sl_write {w0 w : World} {F : Nat → Prop} {g : Nat} {d : Dk} {x s : Int} {n : Nat} {b : List UInt8} (h : DW w0 w F g d) (k : Sl d x s n b) (hn : n + 1 < 18446744073709551616) {l : List UInt8} {a : Option Addr} {len cap : Nat} (hb : BAt w a l) (hl : l.length = len) (ha : a = none → l = []) (hm : len + 4 ≤ 13515) (hs : (spanN (len + 4) : Int) ≤ s) (hx : I x) (hsi : I s) :
    Calls Tryz.prog 32 #[.pointer (some ⟨g, 0, none⟩), .int .i64 x, .int .i64 s, .slice a len cap] w (fun e w' => e = .returned (.tuple #[.int .u64 ((n + 1 : Nat) : Int), .int .i64 0]) ∧ ∃ F' d', DW w0 w' F' g d' ∧ Sl d' x s (n + 1) l ∧ d'.base.length = d.base.length) := by
  obtain ⟨d', he, k'⟩ := k.write hn (l := l) (by omega) (by rw [hl]; exact hs)
  refine (swrite_any g F d x s l a len cap w h.dt hx hsi hb hl ha (by omega) (by rw [k.q]; show 0 < 9700; omega)).mono ?_
  rintro e w' ⟨rfl, hdid⟩
  rw [he] at hdid ⊢
  obtain ⟨F', h'⟩ := h.next hdid
  have hbl := (slotW_lens d x s l).2
  rw [he] at hbl
  exact ⟨rfl, F', d', h', k', hbl⟩
/-- a read -/
theorem sl_read {w0 w : World} {F : Nat → Prop} {g : Nat} {d : Dk} {x s : Int} {n : Nat} {b : List UInt8} (h : DW w0 w F g d) (k : Sl d x s n b) (hn : n ≠ 0) (hx : I x) (hs : I s) :
    Calls Tryz.prog 39 #[.pointer (some ⟨g, 0, none⟩), .int .i64 x, .int .i64 s] w (fun e w' => ∃ a c, e = .returned (.tuple #[.slice a b.length c, .int .u64 (n : Int), .int .i64 0]) ∧ BAt w' a b ∧ RowKit.Below w.heap.size w w') := by
  refine (sread_any g F d x s w h.dt hx hs).mono ?_
  rintro e w' ⟨a, c, rfl, h1, _, _, h4⟩
  have e : d.slot x s = (⟨b, n⟩, 0) := by
    rcases k.cur with ⟨e, _⟩ | ⟨_, e⟩
    · exact absurd e hn
    · exact e
  rw [e] at h1 ⊢
  exact ⟨a, c, rfl, h1, h4⟩
end Go.Proofs.YtdfbpaajkpnaeaaGreat
