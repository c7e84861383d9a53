
/- falseworklaw12.JournalRuns: what the disk is, whatever was cut off. falseworklaw12.JournalRuns: the program's journal and the document's, side by side. falseworklaw12.JournalRuns: the other deeds, side by side. falseworklaw12.JournalRuns: what the walk needs besides. -/
import Derived.Test.YtdfbpaajkpnaeaaGreatJnMP
import Derived.Test.YtdfbpaajkpnaeaaGreatJoAF
import Derived.Test.YtdfbpaajkpnaeaaGreatJnQ

namespace Go.Proofs.YtdfbpaajkpnaeaaGreat
set_option maxRecDepth 100000
open Go.RowKit Go.Lib

/-- the first sector of a place: it bears no number, or tells a content that begins with a number that is no greater than G -/
def FirstS (G : Nat) (s : Sec) : Prop := stN s = 0 ∨ (5 ≤ (s.getD 2 0).toNat ∧ (s.getD 3 0).toNat ≤ G)
theorem FirstS.wk {G G' : Nat} {s : Sec} (h : FirstS G s) (hG : G ≤ G') : FirstS G' s := h.imp id fun e => ⟨e.1, by omega⟩
theorem cut_getD {s old : Sec} {k i : Nat} (hs : s.length = 64) (hk : k ≤ 64) : (cutS s old k).getD i 0 = if i < k then s.getD i 0 else old.getD i 0 := by
  unfold cutS
  rw [List.getD_eq_getElem?_getD, List.getD_eq_getElem?_getD, List.getD_eq_getElem?_getD]
  by_cases h : i < k
  · rw [if_pos h, List.getElem?_append_left (by rw [List.length_take]; omega), List.getElem?_take_of_lt h]
  · rw [if_neg h, List.getElem?_append_right (by rw [List.length_take]; omega), List.length_take, List.getElem?_drop, show k + (i - min k s.length) = i by omega]
theorem FirstS.cut {G : Nat} {s old : Sec} {k : Nat} (hs : s.length = 64) (h2 : 5 ≤ (s.getD 2 0).toNat) (h3 : (s.getD 3 0).toNat ≤ G) (ho : FirstS G old) (hk : k ≤ 64) : FirstS G (cutS s old k) := by
  unfold FirstS
  rw [cut_getD hs hk, cut_getD hs hk]
  by_cases h : k ≤ 56
  · rcases ho with e | ⟨e1, e2⟩
    · left
      unfold stN at *
      rw [cut_hi hs h]
      exact e
    · right
      refine ⟨?_, ?_⟩ <;> split <;> assumption
  · right
    rw [if_pos (by omega), if_pos (by omega)]
    exact ⟨h2, h3⟩
theorem first_new {n f : Nat} {st : List UInt8} (hf : f < 128) : 5 ≤ ((secOf n (closed (cont f st)) 0).getD 2 0).toNat ∧ ((secOf n (closed (cont f st)) 0).getD 3 0).toNat = f := by
  have e : closed (cont f st) = f.toUInt8 :: (st ++ sealL (cont f st)) := by
    unfold closed
    conv => lhs; lhs; unfold cont
    rw [uvarint_small hf]
    rfl
  have hl : (closed (cont f st)).length = st.length + 5 := by rw [e]; simp [sealL_len]
  have hp : (piece (closed (cont f st)) 0).length = min 53 (st.length + 5) := by rw [piece_len, hl]; rfl
  have h2 : (secOf n (closed (cont f st)) 0).getD 2 0 = UInt8.ofNat (piece (closed (cont f st)) 0).length := rfl
  have h3 : (secOf n (closed (cont f st)) 0).getD 3 0 = f.toUInt8 := by
    unfold secOf mkS piece
    rw [e]
    rfl
  rw [h2, h3, hp]
  refine ⟨?_, ?_⟩
  · rw [UInt8.toNat_ofNat']; omega
  · show (UInt8.ofNat f).toNat = f
    rw [UInt8.toNat_ofNat']; omega
theorem gatS_cons {s : Sec} (hs : s.length = 64) (h : 5 ≤ (s.getD 2 0).toNat) : ∃ l, gatS s = s.getD 3 0 :: l ∧ 4 ≤ l.length := by
  have hl := gatS_len hs
  unfold gatS at *
  have hd : s.drop 3 = s.getD 3 0 :: s.drop 4 := by
    rw [List.drop_eq_getElem_cons (by omega)]
    congr 1
    rw [List.getD_eq_getElem?_getD, List.getElem?_eq_getElem (by omega)]
    rfl
  obtain ⟨m, hm⟩ : ∃ m, min (s.getD 2 0).toNat 53 = m + 1 := ⟨min (s.getD 2 0).toNat 53 - 1, by omega⟩
  rw [hm] at hl ⊢
  rw [hd, List.take_succ_cons] at hl ⊢
  refine ⟨_, rfl, ?_⟩
  rw [List.length_cons] at hl
  omega
/-- what stands in a place begins with a number -/
theorem stand_first {d : Dk} (ok : d.Ok) {p s : Int} {k G : Nat} (hk : (d.stand p s k).n ≠ 0) (hf : FirstS G (d.at_ p)) : ∃ x l, (d.stand p s k).b = x :: l ∧ x.toNat ≤ G := by
  have e : (d.read p (p + s)).e = 0 ∧ d.stand p s k = ⟨cutB (d.read p (p + s)).b, (d.read p (p + s)).n⟩ := by
    unfold Dk.stand at *
    split
    · next h => exact ⟨h.1, rfl⟩
    · next h => rw [if_neg h] at hk; exact absurd rfl hk
  obtain ⟨e1, e2⟩ := e
  have hin := read_in e1
  rw [e2] at hk ⊢
  have hk : (d.read p (p + s)).n ≠ 0 := hk
  show ∃ x l, cutB (d.read p (p + s)).b = x :: l ∧ _
  rw [hin.2.2.2.2.2.2.1] at hk
  rcases hf with hf | ⟨h2, h3⟩
  · exact absurd hf hk
  · obtain ⟨l, hg, hl⟩ := gatS_cons (at_len ok p) h2
    have hb : ∃ r, (d.read p (p + s)).b = gatS (d.at_ p) ++ r := by
      have hst : (d.stands p (p + s)) = d.secsAt p (manyAt (d.at_ p)) := by
        unfold Dk.stands
        rw [if_neg (by omega), if_neg (by have := hin.2.2.2.2.1; have := hin.2.2.2.2.2.1; omega)]
      have hm : 1 ≤ manyAt (d.at_ p) := by have := hin.2.2.2.1; have := hin.2.2.2.2.2.1; omega
      unfold Dk.read at e1 ⊢
      split
      · next h => rw [if_pos h] at e1; cases e1
      · next h =>
        rw [if_neg h] at e1
        rw [(readL_ok e1).2.2, hst]
        obtain ⟨q, hq⟩ : ∃ q, manyAt (d.at_ p) = q + 1 := ⟨manyAt (d.at_ p) - 1, by omega⟩
        rw [hq]
        unfold Dk.secsAt gat
        rw [List.range_succ_eq_map]
        simp only [List.map_cons, List.flatMap_cons]
        exact ⟨_, by rw [show p + ((0 : Nat) : Int) = p by omega]⟩
    obtain ⟨r, hr⟩ := hb
    rw [hr, hg]
    unfold cutB
    obtain ⟨m, hm⟩ : ∃ m, ((d.at_ p).getD 3 0 :: l ++ r).length - 4 = m + 1 := ⟨((d.at_ p).getD 3 0 :: l ++ r).length - 5, by simp; omega⟩
    rw [hm, List.cons_append, List.take_succ_cons]
    exact ⟨_, _, rfl, h3⟩
/-- what is read there: the places' stamps are at most M, the log's at most G -/
structure VI (d : Dk) (s : Int) (M G : Nat) : Prop where
  cj : canJ d s = true
  tp : ∀ y, 0 ≤ y → y < 2 * s → stN (d.at_ y) ≤ M
  lo : ∀ y, 2 * s ≤ y → y < (d.base.length : Int) → stN (d.at_ y) ≤ G
  f0 : FirstS G (d.at_ 0)
  f1 : FirstS G (d.at_ s)
  bo : (d.both 0 s).n ≠ 0
theorem VI.wk {d : Dk} {s : Int} {M M' G G' : Nat} (h : VI d s M G) (hM : M ≤ M') (hG : G ≤ G') : VI d s M' G' := ⟨h.cj, fun y a b => Nat.le_trans (h.tp y a b) hM, fun y a b => Nat.le_trans (h.lo y a b) hG, h.f0.wk hG, h.f1.wk hG, h.bo⟩
theorem both_part {d : Dk} {s : Int} : (d.both 0 s = d.stand 0 s 0 ∧ ((d.both 0 s).n ≠ 0 → (d.both 0 s).n % 2 = 0)) ∨ (d.both 0 s = d.stand s s 1 ∧ ((d.both 0 s).n ≠ 0 → (d.both 0 s).n % 2 = 1)) := by
  have h0 := stand_par d 0 s 0
  have h1 := stand_par d s s 1
  unfold Dk.both
  rw [show (0 : Int) + s = s by omega]
  split
  · exact Or.inr ⟨rfl, fun e => h1.resolve_left e⟩
  · exact Or.inl ⟨rfl, fun e => h0.resolve_left e⟩
theorem both_ne {d : Dk} {s : Int} (h : (d.stand 0 s 0).n ≠ 0 ∨ (d.stand s s 1).n ≠ 0) : (d.both 0 s).n ≠ 0 := by
  unfold Dk.both
  rw [show (0 : Int) + s = s by omega]
  split <;> omega
theorem both_same {d d' : Dk} {s : Int} (s1 : 1 ≤ s) (hb : d'.base.length = d.base.length) (h : ∀ t, 0 ≤ t → t < 2 * s → d'.at_ t = d.at_ t) : d'.both 0 s = d.both 0 s := by
  have h1 : d'.stand 0 s 0 = d.stand 0 s 0 := stand_same hb fun t h1 h2 => h t h1 (by omega)
  have h2 : d'.stand (0 + s) s 1 = d.stand (0 + s) s 1 := stand_same hb fun t h1 h2 => h t (by omega) (by omega)
  unfold Dk.both
  rw [h1, h2]
theorem VI.same {d d' : Dk} {s : Int} {M G : Nat} (h : VI d s M G) (hb : d'.base.length = d.base.length) (ha : ∀ t, d'.at_ t = d.at_ t) : VI d' s M G := by
  obtain ⟨s1, _⟩ := canJ_iff.1 h.cj
  exact ⟨canJ_iff.2 (by rw [hb]; exact canJ_iff.1 h.cj), fun y a b => by rw [ha]; exact h.tp y a b, fun y a b => by rw [ha]; exact h.lo y a (by rw [← hb]; exact b), by rw [ha]; exact h.f0, by rw [ha]; exact h.f1, by rw [both_same s1 hb fun t _ _ => ha t]; exact h.bo⟩
theorem VI.slot {d : Dk} {s : Int} {M G : Nat} (h : VI d s M G) : d.slot 0 s = (d.both 0 s, 0) := by
  unfold Dk.slot
  rw [if_pos ⟨canJ_B h.cj, h.bo⟩]
/-- Open finds what it needs -/
theorem VI.open_ {d : Dk} {s : Int} {M G : Nat} (h : VI d s M G) (ok : d.Ok) (hG : G ≤ 127) : (d.slot 0 s).2 = 0 ∧ ptO (d.slot 0 s).1.b = true ∧ nV (d.slot 0 s).1.b ≤ G := by
  rw [h.slot]
  have hx : ∃ x l, (d.both 0 s).b = x :: l ∧ x.toNat ≤ G := by
    have hb := h.bo
    rcases both_part (d := d) (s := s) with ⟨e, _⟩ | ⟨e, _⟩
    · rw [e] at hb ⊢
      exact stand_first ok hb h.f0
    · rw [e] at hb ⊢
      exact stand_first ok hb h.f1
  obtain ⟨x, l, e, hx⟩ := hx
  have hc : (d.both 0 s).b = cont x.toNat l := by
    rw [e]
    unfold cont
    rw [uvarint_small (by omega)]
    show x :: l = [UInt8.ofNat x.toNat] ++ l
    simp
  show _ ∧ ptO (d.both 0 s).b = true ∧ nV (d.both 0 s).b ≤ G
  rw [hc]
  obtain ⟨p1, p2, p3, p4⟩ := cont_part (f := x.toNat) (by omega) l
  exact ⟨rfl, p4, by rw [p1]; exact hx⟩
theorem VI.next {d : Dk} {s : Int} {M G : Nat} (h : VI d s M G) (hG : G + 1 < 18446744073709551616) {f : Nat} (hf : f ≤ G) :
    ∃ F1, nextN d (2 * s) (d.base.length : Int) f = F1 + 1 ∧ F1 ≤ G ∧ ∀ y, 2 * s ≤ y → y < (d.base.length : Int) → stN (d.at_ y) ≤ F1 := by
  have hub := topN_low (d := d) (x := 2 * s) (m := G) ((d.base.length : Int) - 2 * s).toNat fun i hi => h.lo _ (by omega) (by omega)
  refine ⟨max f (topN d (2 * s) ((d.base.length : Int) - 2 * s).toNat), ?_, by omega, fun y y0 y1 => ?_⟩
  · unfold nextN
    rw [Nat.mod_eq_of_lt (by omega)]
  · have := topN_le (d := d) (x := 2 * s) (k := ((d.base.length : Int) - 2 * s).toNat) (i := (y - 2 * s).toNat) (by omega)
    rw [show 2 * s + (((y - 2 * s).toNat : Nat) : Int) = y by omega] at this
    omega
/-- as d, but for what a write of n and l has done from p on -/
structure Mixed (d e : Dk) (p : Int) (n : Nat) (l : List UInt8) : Prop where
  bl : e.base.length = d.base.length
  mx : ∀ y, e.at_ y = d.at_ y ∨ (p ≤ y ∧ y < p + (spanN (l.length + 4) : Int) ∧ ∃ k, k ≤ 64 ∧ e.at_ y = cutS (secOf n (closed l) (y - p).toNat) (d.at_ y) k)
theorem cut_all {s old : Sec} (hs : s.length = 64) (ho : old.length = 64) : s = cutS s old 64 := by
  unfold cutS
  rw [List.take_of_length_le (by omega), List.drop_of_length_le (by omega), List.append_nil]
theorem Wrote.mixed {d e : Dk} {p : Int} {n : Nat} {l : List UInt8} (h : Wrote d e p n l) (ok : d.Ok) : Mixed d e p n l := by
  refine ⟨h.bl, fun y => ?_⟩
  have := h.at_ y
  by_cases hy : p ≤ y ∧ y < p + (spanN (l.length + 4) : Int)
  · right
    rw [if_pos hy, secs_getD (by rw [closed_len]; omega)] at this
    exact ⟨hy.1, hy.2, 64, Nat.le_refl _, by rw [this]; exact cut_all (secOf_len _ _ _) (at_len ok _)⟩
  · rw [if_neg hy] at this
    exact Or.inl this
theorem Torn.view {d e : Dk} {p : Int} {n : Nat} {l : List UInt8} (h : Torn d e p n l) (ok : d.Ok) (q : d.queue = []) (h0 : 0 ≤ p) (h1 : p + (spanN (l.length + 4) : Int) ≤ d.base.length) : Mixed d e p n l := by
  obtain ⟨j, hj, hq⟩ := h.qu
  have hcl := closed_len l
  have hlen : ((secs n (closed l)).take j).length = j := by rw [List.length_take, secs_length, hcl]; omega
  refine ⟨by rw [h.bs], fun y => ?_⟩
  have hp := at_qs (d := d) (x := p) (L := (secs n (closed l)).take j) h0 (by rw [hlen]; omega) y
  rw [hlen] at hp
  rw [at_eq (d := { d with queue := d.queue ++ qsOf p ((secs n (closed l)).take j) }) h.bs (by rw [hq, q]; rfl) y, hp]
  by_cases hy : p ≤ y ∧ y < p + (j : Int)
  · right
    rw [if_pos hy]
    refine ⟨hy.1, by omega, 64, Nat.le_refl _, ?_⟩
    have hs : ((secs n (closed l)).take j).getD (y - p).toNat [] = secOf n (closed l) (y - p).toNat := by
      rw [List.getD, List.getElem?_take_of_lt (by omega), secs_get (by rw [hcl]; omega)]; rfl
    rw [hs]
    exact cut_all (secOf_len _ _ _) (at_len ok _)
  · left
    rw [if_neg hy]
theorem Torn.power {d e : Dk} {p : Int} {n : Nat} {l : List UInt8} (h : Torn d e p n l) (q : d.queue = []) (h0 : 0 ≤ p) (h1 : p + (spanN (l.length + 4) : Int) ≤ d.base.length) (keep : List Int) : Mixed d (e.power keep) p n l := by
  obtain ⟨j, hj, ha⟩ := h.at_ q h0 h1 keep
  refine ⟨h.len keep, fun y => ?_⟩
  have := ha y
  by_cases hy : p ≤ y ∧ y < p + (j : Int)
  · rw [if_pos hy] at this
    exact Or.inr ⟨hy.1, by omega, _, keepF_le _ _, this⟩
  · rw [if_neg hy] at this
    exact Or.inl this
theorem VI.mix_slot {d e : Dk} {s : Int} {M G f : Nat} {st : List UInt8} (h : VI d s M G) (ok : d.Ok) (hM : M + 2 < 18446744073709551616) (hf : f ≤ G) (hG : G ≤ 127) (hs : (spanN ((cont f st).length + 4) : Int) ≤ s) (hm : Mixed d e (plc (d.nextG 0 s) 0 s) (d.nextG 0 s) (cont f st)) : VI e s (M + 2) G := by
  obtain ⟨s1, s2, s3⟩ := canJ_iff.1 h.cj
  obtain ⟨t1, t2⟩ := nextG_in s1 h.tp hM
  obtain ⟨n, hn⟩ : ∃ n, n = d.nextG 0 s := ⟨_, rfl⟩
  rw [← hn] at hm t1 t2
  have hpar : n % 2 ≠ (d.both 0 s).n % 2 := by
    have hw : topN d 0 (2 * s).toNat ≤ M := topN_low _ fun i hi => h.tp _ (by omega) (by omega)
    rw [hn]
    unfold Dk.nextG
    rw [h.slot]
    split
    · next q => have q2 := q.2; simp only at q2; omega
    · next q =>
      intro e
      exact q ⟨rfl, e⟩
  have hp := plc_0 n s
  have hpb : plc n 0 s = 0 ∨ plc n 0 s = s := by rcases hp with ⟨_, e⟩ | ⟨_, e⟩ <;> simp [e]
  obtain ⟨p, hpp⟩ : ∃ p, p = plc n 0 s := ⟨_, rfl⟩
  rw [← hpp] at hm hp hpb
  have hst : ∀ i, stN (secOf n (closed (cont f st)) i) = n := fun i => stN_sec (by omega)
  have hfirst : ∀ y, (y = 0 ∨ y = s) → FirstS G (d.at_ y) → FirstS G (e.at_ y) := fun y hy hf0 => by
    rcases hm.mx y with q | ⟨q1, q2, k, q3, q4⟩
    · rw [q]; exact hf0
    · have : y = p := by rcases hpb with e | e <;> rcases hy with e2 | e2 <;> omega
      rw [q4, this, Int.sub_self]
      rw [this] at hf0
      obtain ⟨k1, k2⟩ := first_new (n := n) (f := f) (st := st) (by omega)
      exact FirstS.cut (secOf_len _ _ _) k1 (by show (((secOf n (closed (cont f st)) 0).getD 3 0).toNat) ≤ G; omega) hf0 q3
  refine ⟨canJ_iff.2 (by rw [hm.bl]; exact canJ_iff.1 h.cj), fun y y0 y1 => ?_, fun y y0 y1 => ?_, hfirst 0 (Or.inl rfl) h.f0, hfirst s (Or.inr rfl) h.f1, ?_⟩
  · rcases hm.mx y with q | ⟨q1, q2, k, q3, q4⟩
    · rw [q]; have := h.tp y y0 y1; omega
    · rw [q4]
      have h1 := t1 y y0 y1
      have := stN_cut (k := k) (secOf_len n (closed (cont f st)) (y - p).toNat) (at_len ok y) (by rw [hst]; omega)
      rw [hst] at this
      omega
  · rcases hm.mx y with q | ⟨q1, q2, k, q3, q4⟩
    · rw [q]; exact h.lo y y0 (by rw [← hm.bl]; exact y1)
    · rcases hpb with e | e <;> omega
  · have hb := h.bo
    rcases both_part (d := d) (s := s) with ⟨e1, e2⟩ | ⟨e1, e2⟩
    · have e3 := e2 hb
      have hps : p = s := by
        rcases hp with ⟨a, _⟩ | ⟨_, b⟩
        · omega
        · exact b
      refine both_ne (Or.inl ?_)
      rw [stand_same hm.bl fun t h1 h2 => (hm.mx t).resolve_right fun q => by omega, ← e1]
      exact hb
    · have e3 := e2 hb
      have hps : p = 0 := by
        rcases hp with ⟨_, b⟩ | ⟨a, _⟩
        · exact b
        · omega
      refine both_ne (Or.inr ?_)
      rw [stand_same hm.bl fun t h1 h2 => (hm.mx t).resolve_right fun q => by omega, ← e1]
      exact hb
theorem VI.mix_app {d e : Dk} {s x : Int} {M G n : Nat} {l : List UInt8} (h : VI d s M G) (ok : d.Ok) (hn : n ≤ G + 1) (hG : G ≤ 127) (hlo : ∀ y, 2 * s ≤ y → y < (d.base.length : Int) → stN (d.at_ y) ≤ n) (hx : 2 * s ≤ x) (hm : Mixed d e x n l) : VI e s M (G + 1) := by
  obtain ⟨s1, s2, s3⟩ := canJ_iff.1 h.cj
  have hst : ∀ i, stN (secOf n (closed l) i) = n := fun i => stN_sec (by omega)
  have hlow : ∀ y, y < 2 * s → e.at_ y = d.at_ y := fun y hy => (hm.mx y).resolve_right fun q => by omega
  refine ⟨canJ_iff.2 (by rw [hm.bl]; exact canJ_iff.1 h.cj), fun y y0 y1 => by rw [hlow y y1]; exact h.tp y y0 y1, fun y y0 y1 => ?_, by rw [hlow 0 (by omega)]; exact h.f0.wk (by omega), by rw [hlow s (by omega)]; exact h.f1.wk (by omega), ?_⟩
  · rw [hm.bl] at y1
    rcases hm.mx y with q | ⟨q1, q2, k, q3, q4⟩
    · rw [q]; have := h.lo y y0 y1; omega
    · rw [q4]
      have := stN_cut (k := k) (secOf_len n (closed l) (y - x).toNat) (at_len ok y) (by rw [hst]; exact hlo y y0 y1)
      rw [hst] at this
      omega
  · rw [both_same s1 hm.bl fun t _ h2 => hlow t h2]
    exact h.bo
/-- alive; cut off -/
structure Al (d : Dk) (s : Int) (M G : Nat) : Prop where
  ok : d.Ok
  q : d.queue = []
  dd : d.dead = false
  vi : VI d s M G
structure De (d : Dk) (s : Int) (M G : Nat) : Prop where
  dd : d.dead = true
  qn : d.queue.length ≤ 255
  vi : VI d s M G
  pw : ∀ keep, VI (d.power keep) s M G
theorem Al.wk {d : Dk} {s : Int} {M M' G G' : Nat} (h : Al d s M G) (hM : M ≤ M') (hG : G ≤ G') : Al d s M' G' := ⟨h.ok, h.q, h.dd, h.vi.wk hM hG⟩
theorem De.wk {d : Dk} {s : Int} {M M' G G' : Nat} (h : De d s M G) (hM : M ≤ M') (hG : G ≤ G') : De d s M' G' := ⟨h.dd, h.qn, h.vi.wk hM hG, fun k => (h.pw k).wk hM hG⟩
theorem Al.fuse {d : Dk} {s : Int} {M G : Nat} (h : Al d s M G) {n : Int} (hn : I n) : Al { d with fuse := n } s M G := ⟨h.ok.fuse hn, h.q, h.dd, h.vi.same rfl fun _ => rfl⟩
theorem De.fuse {d : Dk} {s : Int} {M G : Nat} (h : De d s M G) (n : Int) : De { d with fuse := n } s M G := ⟨h.dd, h.qn, h.vi.same rfl fun _ => rfl, fun k => (h.pw k).same rfl fun _ => rfl⟩
theorem Al.power {d : Dk} {s : Int} {M G : Nat} (h : Al d s M G) (l : List Int) : Al (d.power l) s M G := ⟨h.ok.power l, rfl, rfl, h.vi.same (stl_len _ _ _ _) fun t => power_at h.q l t⟩
theorem De.power {d : Dk} {s : Int} {M G : Nat} (h : De d s M G) (ok : d.Ok) (l : List Int) : Al (d.power l) s M G := ⟨ok.power l, rfl, rfl, h.pw l⟩
theorem torn_qn {d e : Dk} {p : Int} {n : Nat} {l : List UInt8} (h : Torn d e p n l) : e.queue.length ≤ 255 := by
  obtain ⟨j, hj, hq⟩ := h.qu
  rw [hq, qsOf_length, List.length_take, secs_length]
  have := spanN_le (closed l).length
  omega
/-- a Compact's write -/
theorem Al.cmp {d : Dk} {s : Int} {M G f : Nat} {st : List UInt8} (h : Al d s M G) (hM : M + 2 < 18446744073709551616) (hf : f ≤ G) (hG : G ≤ 127) (hst : st.length ≤ 12288) :
    ((d.slotW 0 s (cont f st)).2.2 = 111 ∧ (d.slotW 0 s (cont f st)).1 = d) ∨ ((d.slotW 0 s (cont f st)).2.2 = 0 ∧ Al (d.slotW 0 s (cont f st)).1 s (M + 2) G) ∨ ((d.slotW 0 s (cont f st)).2.2 = 82 ∧ De (d.slotW 0 s (cont f st)).1 s (M + 2) G) := by
  have hcl := cont_len (f := f) (by omega) st
  obtain ⟨s1, s2, s3⟩ := canJ_iff.1 h.vi.cj
  by_cases hs : (spanN ((cont f st).length + 4) : Int) ≤ s
  · have h0 : (cont f st).length + 4 ≤ 13515 := by omega
    obtain ⟨e1, e2⟩ := slotW_wr (canJ_B h.vi.cj) h0 hs
    obtain ⟨t1, t2⟩ := nextG_in s1 h.vi.tp hM
    have hn0 : d.nextG 0 s ≠ 0 := by have := t1 0 (by omega) (by omega); omega
    rw [e1, e2]
    have hp0 : 0 ≤ plc (d.nextG 0 s) 0 s ∧ plc (d.nextG 0 s) 0 s + (spanN ((cont f st).length + 4) : Int) ≤ d.base.length := by
      rcases plc_0 (d.nextG 0 s) s with ⟨_, e⟩ | ⟨_, e⟩ <;> rw [e] <;> omega
    rcases wr_fuse h.ok h.q h.dd h0 hn0 hp0.1 hp0.2 with ⟨a, b⟩ | ⟨a, b⟩
    · exact Or.inr (Or.inl ⟨a, b.ok, b.q, b.dd, h.vi.mix_slot h.ok hM hf hG hs (b.mixed h.ok)⟩)
    · exact Or.inr (Or.inr ⟨a, b.dd, torn_qn b, h.vi.mix_slot h.ok hM hf hG hs (b.view h.ok h.q hp0.1 hp0.2), fun k => h.vi.mix_slot h.ok hM hf hG hs (b.power h.q hp0.1 hp0.2 k)⟩)
  · left
    rw [slotW_no (Or.inr (by omega))]
    exact ⟨rfl, rfl⟩
/-- an Append -/
theorem Al.app {d : Dk} {s x : Int} {M G n : Nat} {l : List UInt8} (h : Al d s M G) (hn0 : 1 ≤ n) (hn : n ≤ G + 1) (hG : G ≤ 127) (hlo : ∀ y, 2 * s ≤ y → y < (d.base.length : Int) → stN (d.at_ y) < n) (hx : 2 * s ≤ x) :
    ((d.app x (d.base.length : Int) n l).2 ≠ 0 ∧ (d.app x (d.base.length : Int) n l).2 ≠ 82 ∧ (d.app x (d.base.length : Int) n l).1 = d) ∨
    ((d.app x (d.base.length : Int) n l).2 = 0 ∧ (d.app x (d.base.length : Int) n l).1.base.length = d.base.length ∧ Al (d.app x (d.base.length : Int) n l).1 s M (G + 1) ∧ (∀ y, 2 * s ≤ y → y < (d.base.length : Int) → stN ((d.app x (d.base.length : Int) n l).1.at_ y) < n + 1) ∧ x + (spanN (l.length + 4) : Int) ≤ (d.base.length : Int)) ∨
    ((d.app x (d.base.length : Int) n l).2 = 82 ∧ De (d.app x (d.base.length : Int) n l).1 s M (G + 1)) := by
  obtain ⟨s1, s2, s3⟩ := canJ_iff.1 h.vi.cj
  by_cases h1 : 4096 < l.length
  · left
    rw [show d.app x (d.base.length : Int) n l = (d, 101) by unfold Dk.app; rw [if_pos h1]]
    exact ⟨(fun e => by cases e), (fun e => by cases e), rfl⟩
  · by_cases h2 : (d.base.length : Int) - x < (spanN (l.length + 4) : Int)
    · left
      rw [show d.app x (d.base.length : Int) n l = (d, 102) by unfold Dk.app; rw [if_neg h1, if_pos h2]]
      exact ⟨(fun e => by cases e), (fun e => by cases e), rfl⟩
    · right
      rw [app_wr (by omega) (by omega)]
      have hlo' : ∀ y, 2 * s ≤ y → y < (d.base.length : Int) → stN (d.at_ y) ≤ n := fun y a b => Nat.le_of_lt (hlo y a b)
      rcases wr_fuse (p := x) (n := n) (l := l) h.ok h.q h.dd (by omega) (by omega) (by omega) (by omega) with ⟨a, b⟩ | ⟨a, b⟩
      · refine Or.inl ⟨a, b.bl, ⟨b.ok, b.q, b.dd, h.vi.mix_app h.ok hn hG hlo' hx (b.mixed h.ok)⟩, fun y y0 y1 => ?_, by omega⟩
        rcases (b.mixed h.ok).mx y with q | ⟨q1, q2, k, q3, q4⟩
        · rw [q]; have := hlo y y0 y1; omega
        · rw [q4]
          have hst : stN (secOf n (closed l) (y - x).toNat) = n := stN_sec (by omega)
          have := stN_cut (k := k) (secOf_len n (closed l) (y - x).toNat) (at_len h.ok y) (by rw [hst]; exact hlo' y y0 y1)
          rw [hst] at this
          omega
      · exact Or.inr ⟨a, b.dd, torn_qn b, h.vi.mix_app h.ok hn hG hlo' hx (b.view h.ok h.q (by omega) (by omega)), fun k => h.vi.mix_app h.ok hn hG hlo' hx (b.power h.q (by omega) (by omega) k)⟩
end Go.Proofs.YtdfbpaajkpnaeaaGreat

namespace Go.Proofs.YtdfbpaajkpnaeaaGreat
set_option maxRecDepth 100000
open Go.RowKit Go.Lib

theorem run_norm {d : Dk} {z : Int} : ∀ {L : List (List UInt8)} {x : Int} {m : Nat} {y : Int}, Run d z x m L y → Run d.norm z x m L y := by
  intro L x m y h
  induction h with
  | stop h => exact Run.stop h
  | more h1 h2 h3 _ ih => exact Run.more h1 h2 h3 ih
theorem nextN_norm (d : Dk) (x z : Int) (f : Nat) : nextN d.norm x z f = nextN d x z f := by unfold nextN; rw [norm_topN]
theorem norm_app (d : Dk) (x z : Int) (n : Nat) (l : List UInt8) : d.norm.app x z n l = ((d.app x z n l).1.norm, (d.app x z n l).2) := by
  unfold Dk.app
  rw [norm_write]
  split
  · rfl
  · split
    · rfl
    · simp only
      split
      · rw [norm_flush, norm_actE]
      · rfl
theorem CmpP.uniq {r : Dk} {x z : Int} {n : Nat} {s : Int} {rd : Bool} {st : List UInt8} {p q : Dk × Int × Nat × Bool × Int} (h : CmpP r x z n s rd st p) (k : CmpP r x z n s rd st q) : p = q := by
  rcases h with ⟨h1, rfl⟩ | ⟨h1, L, y, h2, _, _, rfl⟩
  · rcases k with ⟨_, rfl⟩ | ⟨k1, _⟩
    · rfl
    · exact absurd k1 h1
  · rcases k with ⟨k1, _⟩ | ⟨_, K, t, k2, _, _, rfl⟩
    · exact absurd h1 k1
    · obtain ⟨_, rfl⟩ := h2.uniq k2
      rfl
/-- what has turned: of X, and what is new -/
structure Fr (X X' : Nat → Prop) (w w' : World) : Prop where
  on : Only X w w'
  fr : ∀ i, X' i → X i ∨ w.heap.size ≤ i
/-- the document's journal in block q, its disk apart from X -/
structure RJ (w : World) (X : Nat → Prop) (q : Nat) (r : Dk) (R : List Value) (x : Int) (N n : Nat) (s : Int) (rd : Bool) : Prop where
  hq : w.heap[q]? = some (.cells (rjc R x (N : Int) n s rd).toArray 41)
  vv : Val w (fun i => X i ∨ i = q) r R
  nq : ¬ X q
theorem RJ.below {w w' : World} {X : Nat → Prop} {q : Nat} {r : Dk} {R : List Value} {x : Int} {N n : Nat} {s : Int} {rd : Bool} (h : RJ w X q r R x N n s rd) (hb : RowKit.Below w.heap.size w w') : RJ w' X q r R x N n s rd :=
  ⟨(hb.block _ (lt_of_heap h.hq)).trans h.hq, h.vv.below hb, h.nq⟩
theorem RJ.next {w w' : World} {X X' : Nat → Prop} {q : Nat} {r : Dk} {R : List Value} {x : Int} {N n : Nat} {s : Int} {rd : Bool} (h : RJ w X q r R x N n s rd) (hf : Fr X X' w w') : RJ w' X' q r R x N n s rd := by
  have hlt := lt_of_heap h.hq
  have hnq : ¬ X' q := fun e => (hf.fr q e).elim h.nq fun e => by omega
  obtain ⟨a0, c0, a1, c1, e, k⟩ := h.vv
  exact ⟨hf.on.at_ h.hq h.nq, ⟨a0, c0, a1, c1, e, k.other (hf.on.mono fun i e => Or.inl e) fun i hi => hi.elim (fun e => (hf.fr i e).imp Or.inl id) fun e => Or.inl (Or.inr e)⟩, hnq⟩
theorem RJ.less {w : World} {X X' : Nat → Prop} {q : Nat} {r : Dk} {R : List Value} {x : Int} {N n : Nat} {s : Int} {rd : Bool} (h : RJ w X q r R x N n s rd) (hX : ∀ i, X' i → X i) : RJ w X' q r R x N n s rd :=
  ⟨h.hq, h.vv.sub fun i hi => hi.imp (hX i) id, fun e => h.nq (hX q e)⟩
theorem RJ.set {w w' : World} {X : Nat → Prop} {q : Nat} {r r' : Dk} {R R' : List Value} {x x' : Int} {N n n' : Nat} {s : Int} {rd rd' : Bool} (h : RJ w X q r R x N n s rd) (hv : Val w (fun i => X i ∨ i = q) r' R') (e : w'.heap[q]? = some (.cells (rjc R' x' (N : Int) n' s rd').toArray 41)) (ho : Only (fun i => i = q) w w') : RJ w' X q r' R' x' N n' s rd' :=
  ⟨e, hv.only (ho.mono fun _ e => Or.inr e), h.nq⟩
theorem RJ.gl {w : World} {X : Nat → Prop} {q : Nat} {r : Dk} {R : List Value} {x : Int} {N n : Nat} {s : Int} {rd : Bool} (h : RJ w X q r R x N n s rd) (hx : ∀ i, X i → i < w.heap.size) : ∀ i, (X i ∨ i = q) → i < w.heap.size := fun i hi => hi.elim (hx i) fun e => e ▸ lt_of_heap h.hq
/-- the program's: alive; cut off -/
structure SA (w0 w : World) (g b N k : Nat) (s : Int) (X : Nat → Prop) (r : Dk) (x : Int) (n : Nat) (rd : Bool) (F : Nat → Prop) (lb : Nat) (d : Dk) : Prop where
  jl : JL w0 w F g b lb d s x n rd
  al : Al d s (2 * (k + 1)) k
  nm : r = d.norm
  nn : d.base.length = N
  xs : 2 * s ≤ x ∧ x ≤ (N : Int)
  n1 : 1 ≤ n ∧ n ≤ k + 1
  lo : ∀ y, 2 * s ≤ y → y < (d.base.length : Int) → stN (d.at_ y) < n
  fx : ∀ i, X i ↔ (F i ∨ i = b ∨ i = lb)
structure SD (w0 w : World) (g b N k : Nat) (s : Int) (X : Nat → Prop) (r : Dk) (F : Nat → Prop) (d : Dk) : Prop where
  dw : DW w0 w F g d
  nb : ¬ F b
  wb : w0.heap.size ≤ b
  bl : b < w.heap.size
  c3 : w.cell? ⟨b, 3, none⟩ = some (.bool false)
  de : De d s (2 * (k + 1)) k
  nm : r = d.norm
  nn : d.base.length = N
  fx : ∀ i, X i ↔ (F i ∨ i = b)
def Sx (w0 w : World) (g b N k : Nat) (s : Int) (X : Nat → Prop) (r : Dk) (x : Int) (n : Nat) (rd : Bool) : Prop :=
  (∃ F lb d, SA w0 w g b N k s X r x n rd F lb d) ∨ (rd = false ∧ ∃ F d, SD w0 w g b N k s X r F d)
/-- the disk alone -/
def Ds (w0 w : World) (g N k : Nat) (s : Int) (X : Nat → Prop) (r : Dk) : Prop :=
  ∃ d, DW w0 w X g d ∧ r = d.norm ∧ d.base.length = N ∧ (Al d s (2 * (k + 1)) k ∨ De d s (2 * (k + 1)) k)
section
variable {w0 w w' : World} {g b N k : Nat} {s : Int} {X : Nat → Prop} {r : Dk} {x : Int} {n : Nat} {rd : Bool}
theorem SA.jlt {F : Nat → Prop} {lb : Nat} {d : Dk} (h : SA w0 w g b N k s X r x n rd F lb d) : ∀ i, X i → i < w.heap.size ∧ w0.heap.size ≤ i := fun i hi => by
  rcases (h.fx i).1 hi with e | e | e
  · exact ⟨h.jl.jm.dt.fl i e, h.jl.fr i e⟩
  · rw [e]; exact ⟨h.jl.jm.ja.lt, h.jl.lb0⟩
  · rw [e]; exact ⟨h.jl.jm.lg.lt, h.jl.ll⟩
theorem SD.jlt {F : Nat → Prop} {d : Dk} (h : SD w0 w g b N k s X r F d) : ∀ i, X i → i < w.heap.size ∧ w0.heap.size ≤ i := fun i hi => by
  rcases (h.fx i).1 hi with e | e
  · exact ⟨h.dw.dt.fl i e, h.dw.fr i e⟩
  · rw [e]; exact ⟨h.bl, h.wb⟩
theorem Sx.jlt (h : Sx w0 w g b N k s X r x n rd) : ∀ i, X i → i < w.heap.size ∧ w0.heap.size ≤ i := by
  rcases h with ⟨F, lb, d, h⟩ | ⟨_, F, d, h⟩
  · exact h.jlt
  · exact h.jlt
theorem Sx.bl (h : Sx w0 w g b N k s X r x n rd) : RowKit.Below w0.heap.size w0 w := by
  rcases h with ⟨F, lb, d, h⟩ | ⟨_, F, d, h⟩
  · exact h.jl.bl
  · exact h.dw.bl
theorem Sx.below (h : Sx w0 w g b N k s X r x n rd) (hb : RowKit.Below w.heap.size w w') : Sx w0 w' g b N k s X r x n rd := by
  rcases h with ⟨F, lb, d, h⟩ | ⟨hr, F, d, h⟩
  · exact Or.inl ⟨F, lb, d, h.jl.below hb, h.al, h.nm, h.nn, h.xs, h.n1, h.lo, h.fx⟩
  · exact Or.inr ⟨hr, F, d, ⟨h.dw.dt.below hb, h.dw.fr, h.dw.bl.trans (hb.mono h.dw.bl.size)⟩, h.nb, h.wb, Nat.lt_of_lt_of_le h.bl hb.size, by rw [World.cell?_of_block (a := ⟨b, 3, none⟩) (hb.block _ h.bl)]; exact h.c3, h.de, h.nm, h.nn, h.fx⟩
theorem Sx.only {q : Nat} (h : Sx w0 w g b N k s X r x n rd) (ho : Only (fun i => i = q) w w') (hq : ¬ X q) (h0 : w0.heap.size ≤ q) : Sx w0 w' g b N k s X r x n rd := by
  rcases h with ⟨F, lb, d, h⟩ | ⟨hr, F, d, h⟩
  · refine Or.inl ⟨F, lb, d, h.jl.same ho.size (fun i hi e => ho.block i hi fun e2 => hq (e2 ▸ (h.fx i).2 e)) (ho.below h.jl.bl (fun i e => by rw [e]; exact h0) h.jl.bl.size), h.al, h.nm, h.nn, h.xs, h.n1, h.lo, h.fx⟩
  · exact Or.inr ⟨hr, F, d, ⟨h.dw.dt.same ho.size fun i hi => ho.block i (h.dw.dt.fl i hi) fun e => hq (e ▸ (h.fx i).2 (Or.inl hi)), h.dw.fr, ho.below h.dw.bl (fun i e => by rw [e]; exact h0) h.dw.bl.size⟩, h.nb, h.wb, Nat.lt_of_lt_of_le h.bl ho.size, by rw [World.cell?_of_block (a := ⟨b, 3, none⟩) (ho.block _ h.bl fun e => hq ((h.fx q).2 (Or.inr e.symm)))]; exact h.c3, h.de, h.nm, h.nn, h.fx⟩
theorem Sx.more (h : Sx w0 w g b N k s X r x n rd) : Sx w0 w g b N (k + 1) s X r x n rd := by
  rcases h with ⟨F, lb, d, h⟩ | ⟨hr, F, d, h⟩
  · exact Or.inl ⟨F, lb, d, h.jl, h.al.wk (by omega) (by omega), h.nm, h.nn, h.xs, ⟨h.n1.1, by have := h.n1.2; omega⟩, h.lo, h.fx⟩
  · exact Or.inr ⟨hr, F, d, h.dw, h.nb, h.wb, h.bl, h.c3, h.de.wk (by omega) (by omega), h.nm, h.nn, h.fx⟩
theorem Sx.ready_cell (h : Sx w0 w g b N k s X r x n rd) : w.cell? ⟨b, 3, none⟩ = some (.bool rd) := by
  rcases h with ⟨F, lb, d, h⟩ | ⟨rfl, F, d, h⟩
  · exact h.jl.jm.ja.cells.2.2.2
  · exact h.c3
theorem Sx.pos (h : Sx w0 w g b N k s X r x n rd) : N ≤ 2048 ∧ 1 ≤ s ∧ s ≤ 255 ∧ r.base.length = N ∧ r.queue.length ≤ 255 ∧ canJ r s = true := by
  rcases h with ⟨F, lb, d, h⟩ | ⟨_, F, d, h⟩
  · obtain ⟨s1, s2, _⟩ := canJ_iff.1 h.al.vi.cj
    have := h.al.ok.sz
    have hn := h.nn
    refine ⟨by omega, s1, s2, by rw [h.nm]; exact hn, by rw [h.nm]; show d.queue.length ≤ 255; rw [h.al.q]; exact Nat.zero_le _, by rw [h.nm]; exact h.al.vi.cj⟩
  · obtain ⟨s1, s2, _⟩ := canJ_iff.1 h.de.vi.cj
    have := h.dw.dt.ok.sz
    have hn := h.nn
    exact ⟨by omega, s1, s2, by rw [h.nm]; exact hn, by rw [h.nm]; exact h.de.qn, by rw [h.nm]; exact h.de.vi.cj⟩
theorem Sx.ready (h : Sx w0 w g b N k s X r x n rd) (hr : rd = true) : 0 ≤ x ∧ x ≤ (N : Int) ∧ 1 ≤ n ∧ n ≤ k + 1 := by
  rcases h with ⟨F, lb, d, h⟩ | ⟨h, _⟩
  · obtain ⟨s1, _⟩ := canJ_iff.1 h.al.vi.cj
    have := h.xs
    exact ⟨by omega, h.xs.2, h.n1.1, h.n1.2⟩
  · rw [hr] at h; cases h
theorem Sx.ds (h : Sx w0 w g b N k s X r x n rd) : ∃ F, Ds w0 w g N k s F r ∧ ∀ i, F i → X i := by
  rcases h with ⟨F, lb, d, h⟩ | ⟨_, F, d, h⟩
  · exact ⟨F, ⟨d, h.jl.dw, h.nm, h.nn, Or.inl h.al⟩, fun i e => (h.fx i).2 (Or.inl e)⟩
  · exact ⟨F, ⟨d, h.dw, h.nm, h.nn, Or.inr h.de⟩, fun i e => (h.fx i).2 (Or.inl e)⟩
theorem SA.of {F F' : Nat → Prop} {lb lb' : Nat} {d d' : Dk} {y : Int} {m : Nat} {rd' : Bool} {j : Nat} (h : SA w0 w g b N k s X r x n rd F lb d) (hf : JFr F b lb w w' F' lb') (hj : JM w' F' g b lb' d' s y (d.base.length : Int) m rd') (hb : d'.base.length = d.base.length) (al : Al d' s (2 * (j + 1)) j) (hy : 2 * s ≤ y ∧ y ≤ (N : Int)) (hm : 1 ≤ m ∧ m ≤ j + 1) (hlo : ∀ t, 2 * s ≤ t → t < (d.base.length : Int) → stN (d'.at_ t) < m) :
    SA w0 w' g b N j s (fun i => F' i ∨ i = b ∨ i = lb') d'.norm y m rd' F' lb' d' ∧ Fr X (fun i => F' i ∨ i = b ∨ i = lb') w w' :=
  ⟨⟨h.jl.next hf (by rw [hb]; exact hj), al, rfl, hb.trans h.nn, hy, hm, by rw [hb]; exact hlo, fun _ => Iff.rfl⟩,
   ⟨hf.on.mono fun i e => (h.fx i).2 e, fun i e => by
    rcases e with e | e | e
    · exact (hf.fr i e).imp (fun e => (h.fx i).2 (Or.inl e)) id
    · exact Or.inl ((h.fx i).2 (Or.inr (Or.inl e)))
    · rcases hf.lr with e2 | e2
      · exact Or.inl ((h.fx i).2 (Or.inr (Or.inr (e.trans e2))))
      · exact Or.inr (by omega)⟩⟩
theorem SA.dead {F F' : Nat → Prop} {lb lb' : Nat} {d d' : Dk} {j : Nat} (h : SA w0 w g b N k s X r x n rd F lb d) (hf : JFr F b lb w w' F' lb') (hd : DAt w' F' g d') (hc : w'.cell? ⟨b, 3, none⟩ = some (.bool false)) (hnb : ¬ F' b) (hb : d'.base.length = d.base.length) (de : De d' s (2 * (j + 1)) j) :
    SD w0 w' g b N j s (fun i => F' i ∨ i = b) d'.norm F' d' ∧ Fr X (fun i => F' i ∨ i = b) w w' :=
  ⟨⟨⟨hd, (h.jl.off hf).2, (h.jl.off hf).1⟩, hnb, h.jl.lb0, Nat.lt_of_lt_of_le h.jl.jm.ja.lt hf.on.size, hc, de, rfl, hb.trans h.nn, fun _ => Iff.rfl⟩,
   ⟨hf.on.mono fun i e => (h.fx i).2 e, fun i e => by
    rcases e with e | e
    · exact (hf.fr i e).imp (fun e => (h.fx i).2 (Or.inl e)) id
    · exact Or.inl ((h.fx i).2 (Or.inr (Or.inl e)))⟩⟩
theorem Fr.refl : Fr X X w w := ⟨Only.refl _ _, fun _ e => Or.inl e⟩
theorem Fr.bel (hb : RowKit.Below w.heap.size w w') : Fr X X w w' := ⟨Only.of_below hb, fun _ e => Or.inl e⟩
theorem Fr.trans {X1 X2 : Nat → Prop} {w1 w2 : World} (h : Fr X X1 w w1) (k : Fr X1 X2 w1 w2) : Fr X X2 w w2 :=
  ⟨h.on.trans k.on h.fr, fun i e => (k.fr i e).elim (h.fr i) fun e => Or.inr (Nat.le_trans h.on.size e)⟩
/-! Append -/
theorem st_append {l : List UInt8} {a : Option Addr} {len cap : Nat} (h : Sx w0 w g b N k s X r x n rd) (hk : k ≤ 100) (hb : BAt w a l) (hl : l.length = len) (ha : a = none → l = []) :
    Calls Tryz.prog 10 #[.pointer (some ⟨b, 0, none⟩), .slice a len cap] w (fun e w1 => ∃ p X', p = jApp r x (N : Int) n rd l ∧ e = .returned (.int .i64 p.2.2.2.2) ∧ Sx w0 w1 g b N (k + 1) s X' p.1 p.2.1 p.2.2.1 p.2.2.2.1 ∧ Fr X X' w w1) := by
  cases rd with
  | false =>
    refine (jappend_no b _ w h.ready_cell).mono ?_
    rintro _ _ ⟨rfl, rfl⟩
    exact ⟨_, X, rfl, rfl, h.more, Fr.refl⟩
  | true =>
    rcases h with ⟨F, lb, d, h⟩ | ⟨h, _⟩
    · have hxs := h.xs
      have hnn := h.nn
      have hn1 := h.n1
      refine (jappend_any w F g b lb d s x (d.base.length : Int) n l a len cap h.jl.jm h.al.vi.cj rfl ⟨hxs.1, by omega⟩ (by omega) hb hl ha (by rw [h.al.q]; decide)).mono ?_
      rintro _ w1 ⟨F', lb', hf, rfl, hc⟩
      have e1 := app_lens d x (d.base.length : Int) n l
      have hna := norm_app d x (d.base.length : Int) n l
      have hp : jApp r x (N : Int) n true l = ((d.app x (d.base.length : Int) n l).1.norm, if (d.app x (d.base.length : Int) n l).2 = 0 then x + (spanN (l.length + 4) : Int) else x, if (d.app x (d.base.length : Int) n l).2 = 0 then n + 1 else n, (d.app x (d.base.length : Int) n l).2 != 82, (d.app x (d.base.length : Int) n l).2) := by
        unfold jApp
        rw [← hnn, h.nm, hna]
        rfl
      obtain ⟨p, hpe⟩ : ∃ p, p = d.app x (d.base.length : Int) n l := ⟨_, rfl⟩
      rcases h.al.app (l := l) (x := x) (n := n) hn1.1 hn1.2 (by omega) h.lo hxs.1 with ⟨k1, k2, k3⟩ | ⟨k1, k2, k3, k4, k5⟩ | ⟨k1, k2⟩
      · rw [← hpe] at hc e1 hp k1 k2 k3 ⊢
        rcases hc with ⟨_, rfl, hj⟩ | ⟨q, _⟩
        · rw [if_neg k1, if_neg k1, k3] at hj
          rw [if_neg k1, if_neg k1, k3, show (p.2 != 82) = true by simpa using k2] at hp
          obtain ⟨z1, z2⟩ := h.of hf hj rfl (h.al.wk (by omega) (by omega) : Al d s (2 * (k + 1 + 1)) (k + 1)) hxs ⟨hn1.1, by omega⟩ h.lo
          exact ⟨_, _, hp.symm, rfl, Or.inl ⟨_, _, _, z1⟩, z2⟩
        · exact absurd q k2
      · rw [← hpe] at hc e1 hp k1 k2 k3 k4 ⊢
        rcases hc with ⟨_, rfl, hj⟩ | ⟨q, _⟩
        · rw [if_pos k1, if_pos k1] at hj
          rw [if_pos k1, if_pos k1, show (p.2 != 82) = true by rw [k1]; rfl] at hp
          obtain ⟨z1, z2⟩ := h.of hf hj k2 (k3.wk (by omega) (by omega) : Al p.1 s (2 * (k + 1 + 1)) (k + 1)) ⟨by omega, by omega⟩ ⟨by omega, by omega⟩ k4
          exact ⟨_, _, hp.symm, rfl, Or.inl ⟨_, _, _, z1⟩, z2⟩
        · rw [k1] at q; cases q
      · rw [← hpe] at hc e1 hp k1 k2 ⊢
        rcases hc with ⟨q, _⟩ | ⟨_, y, m, hj, _⟩
        · exact absurd k1 q
        · rw [show (p.2 != 82) = false by rw [k1]; rfl] at hp
          obtain ⟨z1, z2⟩ := h.dead hf hj.dt hj.ja.cells.2.2.2 hj.nb e1 (k2.wk (by omega) (by omega) : De p.1 s (2 * (k + 1 + 1)) (k + 1))
          exact ⟨_, _, hp.symm, rfl, Or.inr ⟨rfl, _, _, z1⟩, z2⟩
    · cases h
/-! Compact -/
theorem st_compact {F : Nat → Prop} {lb : Nat} {d : Dk} {st : List UInt8} {a : Option Addr} {len cap : Nat} (h : SA w0 w g b N k s X r x n rd F lb d) (hk : k ≤ 100) (hb : BAt w a st) (hl : st.length = len) (ha : a = none → st = []) (hm : len ≤ 5000) :
    Calls Tryz.prog 13 #[.pointer (some ⟨b, 0, none⟩), .slice a len cap] w (fun e w1 => ∃ p X', CmpP r x (N : Int) n s rd st p ∧ e = .returned (.int .i64 p.2.2.2.2) ∧ Sx w0 w1 g b N (k + 1) s X' p.1 p.2.1 p.2.2.1 p.2.2.2.1 ∧ Fr X X' w w1) := by
  have hxs := h.xs
  have hnn := h.nn
  have hn1 := h.n1
  refine (jcompact_any w F g b lb d s x (d.base.length : Int) n rd st a len cap h.jl.jm h.al.vi.cj rfl hn1.1 (by omega) hb hl ha (by omega) (by rw [h.al.q]; decide)).mono ?_
  rintro _ w1 (⟨q, _⟩ | ⟨_, _, rfl, F', lb', hf, hc⟩)
  · omega
  · have e1 := (slotW_lens d 0 s (cont (n - 1) st)).2
    have hns := norm_slotW d 0 s (cont (n - 1) st)
    have hP : ∀ p, (((d.slotW 0 s (cont (n - 1) st)).2.2 ≠ 0 ∧ p = ((d.slotW 0 s (cont (n - 1) st)).1.norm, x, n, rd && ((d.slotW 0 s (cont (n - 1) st)).2.2 != 82), (d.slotW 0 s (cont (n - 1) st)).2.2)) ∨ ((d.slotW 0 s (cont (n - 1) st)).2.2 = 0 ∧ ∃ L y, Run (d.slotW 0 s (cont (n - 1) st)).1 (d.base.length : Int) (2 * s) (n - 1) L y ∧ 2 * s ≤ y ∧ y ≤ (d.base.length : Int) ∧ p = ((d.slotW 0 s (cont (n - 1) st)).1.norm, y, nextN (d.slotW 0 s (cont (n - 1) st)).1 (2 * s) (d.base.length : Int) (n - 1), true, 0))) → CmpP r x (N : Int) n s rd st p := fun p hp => by
      unfold CmpP
      rw [h.nm, hns, ← hnn]
      rcases hp with hp | ⟨q1, L, y, q2, q3, q4, q5⟩
      · exact Or.inl hp
      · exact Or.inr ⟨q1, L, y, run_norm q2, q3, q4, by rw [nextN_norm]; exact q5⟩
    obtain ⟨p, hpe⟩ : ∃ p, p = d.slotW 0 s (cont (n - 1) st) := ⟨_, rfl⟩
    rcases h.al.cmp (f := n - 1) (st := st) (by omega) (by omega) (by omega) (by omega) with ⟨k1, k2⟩ | ⟨k1, k2⟩ | ⟨k1, k2⟩
    · rw [← hpe] at hc e1 hP k1 k2 ⊢
      rcases hc with ⟨q, _⟩ | ⟨q, _⟩ | ⟨_, _, rfl, hj⟩
      · rw [k1] at q; cases q
      · rw [k1] at q; cases q
      · rw [k2] at hj
        obtain ⟨z1, z2⟩ := h.of hf hj rfl (h.al.wk (by omega) (by omega) : Al d s (2 * (k + 1 + 1)) (k + 1)) hxs ⟨hn1.1, by omega⟩ h.lo
        have := hP _ (Or.inl ⟨by rw [k1]; decide, rfl⟩)
        rw [k2, show (rd && (p.2.2 != 82)) = rd by rw [k1]; cases rd <;> rfl] at this
        exact ⟨_, _, this, rfl, Or.inl ⟨_, _, _, z1⟩, z2⟩
    · rw [← hpe] at hc e1 hP k1 k2 ⊢
      rcases hc with ⟨q, _⟩ | ⟨_, L, y, q2, q3, q4, hj⟩ | ⟨q, _⟩
      · rw [k1] at q; cases q
      · obtain ⟨F1, v1, v2, v3⟩ := k2.vi.next (f := n - 1) (by omega) (by omega)
        rw [e1] at v1 v3
        obtain ⟨z1, z2⟩ := h.of hf hj e1 (k2.wk (by omega) (by omega) : Al p.1 s (2 * (k + 1 + 1)) (k + 1)) ⟨q3, by omega⟩ ⟨by omega, by omega⟩ fun t t1 t2 => by have := v3 t t1 t2; omega
        rw [k1]
        exact ⟨_, _, hP _ (Or.inr ⟨k1, L, y, q2, q3, q4, rfl⟩), rfl, Or.inl ⟨_, _, _, z1⟩, z2⟩
      · exact absurd k1 q
    · rw [← hpe] at hc e1 hP k1 k2 ⊢
      rcases hc with ⟨_, q1, q2, q3⟩ | ⟨q, _⟩ | ⟨_, q, _⟩
      · obtain ⟨z1, z2⟩ := h.dead hf q1 q2.cells q3 e1 (k2.wk (by omega) (by omega) : De p.1 s (2 * (k + 1 + 1)) (k + 1))
        have := hP _ (Or.inl ⟨by rw [k1]; decide, rfl⟩)
        rw [show (rd && (p.2.2 != 82)) = false by rw [k1]; cases rd <;> rfl] at this
        exact ⟨_, _, this, rfl, Or.inr ⟨rfl, _, _, z1⟩, z2⟩
      · rw [k1] at q; cases q
      · exact absurd k1 q
end
end Go.Proofs.YtdfbpaajkpnaeaaGreat

namespace Go.Proofs.YtdfbpaajkpnaeaaGreat
set_option maxRecDepth 100000
open Go.RowKit Go.Lib

section
variable {w0 w w' : World} {g b N k : Nat} {s : Int} {X : Nat → Prop} {r : Dk} {x : Int} {n : Nat} {rd : Bool}
/-- what Open tells -/
def DOpn (w0 w : World) (g N k : Nat) (s : Int) (X : Nat → Prop) (r : Dk) (e : Ending) (w1 : World) : Prop :=
  ∃ b a c v L y X', e = .returned (.tuple #[.pointer (some ⟨b, 0, none⟩), .slice a (nR (r.slot 0 s).1.b).length c, v, .int .i64 0]) ∧ BAt w1 a (nR (r.slot 0 s).1.b) ∧ Recs w1 w.heap.size v L ∧ Run r (N : Int) (2 * s) (nV (r.slot 0 s).1.b) L y ∧
    Sx w0 w1 g b N (k + 1) s X' r y (nextN r (2 * s) (N : Int) (nV (r.slot 0 s).1.b)) false ∧ Fr X X' w w1 ∧ RowKit.Below w.heap.size w w1
theorem Ds.sees (h : Ds w0 w g N k s X r) (hk : k ≤ 100) : canJ r s = true ∧ (r.slot 0 s).2 = 0 ∧ ptO (r.slot 0 s).1.b = true ∧ r.base.length = N := by
  obtain ⟨d, dw, rfl, hn, hv⟩ := h
  have hvi : VI d s (2 * (k + 1)) k := hv.elim (·.vi) (·.vi)
  obtain ⟨h1, h2, _⟩ := hvi.open_ dw.dt.ok (by omega)
  exact ⟨hvi.cj, h1, h2, hn⟩
theorem ds_open (h : Ds w0 w g N k s X r) (hk : k ≤ 100) :
    Calls Tryz.prog 17 #[.pointer (some ⟨g, 0, none⟩), .int .i64 s] w (DOpn w0 w g N k s X r) := by
  obtain ⟨d, dw, rfl, hn, hv⟩ := h
  have hvi : VI d s (2 * (k + 1)) k := hv.elim (·.vi) (·.vi)
  obtain ⟨h1, h2, h3⟩ := hvi.open_ dw.dt.ok (by omega)
  obtain ⟨s1, s2, s3⟩ := canJ_iff.1 hvi.cj
  refine (jopen_any g X d s w dw.dt (by unfold I; omega)).mono ?_
  rintro e w1 (⟨hno, _⟩ | ⟨_, _, _, hb, b, lb, a, c, v, L, y, rfl, hb0, hl0, hba, _, _, hrec, hrun, hy1, hy2, hj⟩)
  · rcases hno with ⟨q, _⟩ | ⟨_, q, _⟩ | ⟨_, _, q, _⟩
    · rw [hvi.cj] at q; cases q
    · exact absurd h1 q
    · rw [h2] at q; cases q
  · obtain ⟨F1, v1, v2, v3⟩ := hvi.next (f := nV (d.slot 0 s).1.b) (by omega) h3
    have hdw : DW w0 w1 X g d := ⟨dw.dt.below hb, dw.fr, dw.bl.trans (hb.mono dw.bl.size)⟩
    have hjl : JL w0 w1 X g b lb d s y (nextN d (2 * s) (d.base.length : Int) (nV (d.slot 0 s).1.b)) false := ⟨hj, dw.fr, Nat.le_trans dw.bl.size hb0, Nat.le_trans dw.bl.size hl0, hdw.bl⟩
    rcases hv with al | de
    · refine ⟨b, a, c, v, L, y, fun i => X i ∨ i = b ∨ i = lb, rfl, hba, hrec, by rw [← hn]; exact run_norm hrun, Or.inl ⟨X, lb, d, ?_⟩, ⟨Only.of_below hb, fun i e => ?_⟩, hb⟩
      · rw [nextN_norm, norm_slot, ← hn]
        exact ⟨hjl, al.wk (by omega) (by omega), rfl, rfl, ⟨hy1, hy2⟩, by rw [v1]; omega, fun t t1 t2 => by rw [v1]; have := v3 t t1 t2; omega, fun _ => Iff.rfl⟩
      · rcases e with e | e | e
        · exact Or.inl e
        · exact Or.inr (by omega)
        · exact Or.inr (by omega)
    · refine ⟨b, a, c, v, L, y, fun i => X i ∨ i = b, rfl, hba, hrec, by rw [← hn]; exact run_norm hrun, Or.inr ⟨rfl, X, d, hdw, hj.nb, Nat.le_trans dw.bl.size hb0, hj.ja.lt, hj.ja.cells.2.2.2, de.wk (by omega) (by omega), rfl, hn, fun _ => Iff.rfl⟩, ⟨Only.of_below hb, fun i e => ?_⟩, hb⟩
      exact e.imp id fun e => by omega
theorem ds_power {a : Option Addr} {l : List Int} {ln cap : Nat} (h : Ds w0 w g N k s X r) (hl : Nums w a l) (hn : l.length = ln) (hF : l = [] ∨ ∀ b, inBlk a b → ¬ X b) :
    Calls Tryz.prog 15 #[.pointer (some ⟨g, 0, none⟩), .slice a ln cap] w (fun e w1 => e = .returned (.tuple #[]) ∧ ∃ X', Ds w0 w1 g N k s X' (r.power l) ∧ Fr X X' w w1) := by
  obtain ⟨d, dw, rfl, hnn, hv⟩ := h
  refine (power_any g X d a l ln cap w dw.dt hl hn hF).mono ?_
  rintro e w1 ⟨rfl, F', k1, k2, k3⟩
  refine ⟨rfl, F', ⟨d.power l, ⟨k1, fun i hi => (k3 i hi).elim (dw.fr i) fun e => Nat.le_trans dw.bl.size e, k2.below dw.bl dw.fr dw.bl.size⟩, rfl, (stl_len _ _ _ _).trans hnn, Or.inl ?_⟩, ⟨k2, k3⟩⟩
  rcases hv with al | de
  · exact al.power l
  · exact de.power dw.dt.ok l
theorem st_fuse {m : Int} (h : Sx w0 w g b N k s X r x n rd) (hm : I m) :
    Calls Tryz.prog 20 #[.pointer (some ⟨g, 0, none⟩), .int .i64 m] w (fun e w1 => e = .returned (.tuple #[]) ∧ ∃ X', Sx w0 w1 g b N (k + 1) s X' { r with fuse := max m (-1) } x n rd ∧ Fr X X' w w1) := by
  rcases h with ⟨F, lb, d, h⟩ | ⟨hr, F, d, h⟩
  · refine (fuse_any g F d m w h.jl.jm.dt hm).mono ?_
    rintro e w1 ⟨rfl, hdid⟩
    obtain ⟨F6, hj6, hf⟩ := h.jl.jm.did hdid
    obtain ⟨z1, z2⟩ := h.of hf hj6 rfl ((h.al.fuse hm).wk (by omega) (by omega) : Al _ s (2 * (k + 1 + 1)) (k + 1)) h.xs ⟨h.n1.1, by have := h.n1.2; omega⟩ h.lo
    rw [h.nm]
    exact ⟨rfl, _, Or.inl ⟨_, _, _, z1⟩, z2⟩
  · refine (fuse_any g F d m w h.dw.dt hm).mono ?_
    rintro e w1 ⟨rfl, F6, k1, k2, k3⟩
    have hbl := h.bl
    rw [h.nm]
    refine ⟨rfl, fun i => F6 i ∨ i = b, Or.inr ⟨hr, F6, { d with fuse := m }, ⟨k1, fun i hi => (k3 i hi).elim (h.dw.fr i) fun e => Nat.le_trans h.dw.bl.size e, k2.below h.dw.bl h.dw.fr h.dw.bl.size⟩, fun e => (k3 b e).elim h.nb fun e => by omega, h.wb, Nat.lt_of_lt_of_le h.bl k2.size, ?_, (h.de.fuse m).wk (by omega) (by omega), rfl, h.nn, fun _ => Iff.rfl⟩, ⟨k2.mono fun i e => (h.fx i).2 (Or.inl e), fun i e => ?_⟩⟩
    · rw [World.cell?_of_block (a := ⟨b, 3, none⟩) (k2.block b h.bl h.nb)]; exact h.c3
    · rcases e with e | e
      · exact (k3 i e).imp (fun e => (h.fx i).2 (Or.inl e)) id
      · exact Or.inl ((h.fx i).2 (Or.inr e))
theorem st_room (h : Sx w0 w g b N k s X r x n rd) : Calls Tryz.prog 22 #[.pointer (some ⟨b, 0, none⟩)] w (fun e w1 => e = .returned (.int .i64 (if rd then (N : Int) - x else 0)) ∧ RowKit.Below w.heap.size w w1) := by
  cases rd with
  | false =>
    refine (jroom_no b w h.ready_cell).mono ?_
    rintro _ _ ⟨rfl, rfl⟩
    exact ⟨rfl, RowKit.Below.refl _ _⟩
  | true =>
    obtain ⟨p1, p2, _⟩ := h.ready rfl
    have hp := h.pos.1
    rcases h with ⟨F, lb, d, h⟩ | ⟨h, _⟩
    · have hj := h.jl.jm
      rw [h.nn] at hj
      exact jroom_yes w F g b lb d s x (N : Int) n hj ⟨p1, by omega⟩ ⟨by omega, by omega⟩
    · cases h
theorem st_ready (h : Sx w0 w g b N k s X r x n rd) : Calls Tryz.prog 24 #[.pointer (some ⟨b, 0, none⟩)] w (fun e w1 => e = .returned (.bool rd) ∧ w = w1) := jready_any b rd w h.ready_cell
/-- the disk lives, or not -/
theorem dat_dead {F : Nat → Prop} {d : Dk} (h : DAt w F g d) : Calls Tryz.prog 12 #[.pointer (some ⟨g, 0, none⟩)] w (fun e w1 => e = .returned (.bool d.dead) ∧ w = w1) := by
  obtain ⟨_, _, _, _, _, _, _, k⟩ := h
  exact dead_any g _ w k.cells.2.2.2.2
end
/-! Format -/
theorem al_blank {p s : Int} (hN : 0 ≤ p ∧ p ≤ 2048) (hc : canJ (Dk.blank p) s = true) {st : List UInt8} (hst : st.length ≤ 12288) (h0 : ((Dk.blank p).slotW 0 s (cont 0 st)).2.2 = 0) : Al ((Dk.blank p).slotW 0 s (cont 0 st)).1 s 2 0 := by
  obtain ⟨b1, b2, b3⟩ := Cd.blank (s := s) hN
  have hcl := cont_len (f := 0) (by omega) st
  have hcan := canJ_B hc
  obtain ⟨s1, s2, s3⟩ := canJ_iff.1 hc
  rcases blank_fmt hN hc hst with ⟨_, q⟩ | ⟨hs, _, lv, _, hbl⟩
  · rw [q] at h0; cases h0
  · obtain ⟨l, hl⟩ : ∃ l, l = cont 0 st := ⟨_, rfl⟩
    have hnx : (Dk.blank p).nextG 0 s = 1 := by
      have ht : topN (Dk.blank p) 0 (2 * s).toNat = 0 := Nat.le_zero.1 (topN_ub fun i _ => Nat.le_of_eq (b2 _))
      have hr : ∀ p' z, ((Dk.blank p).read p' z).e ≠ 0 := fun p' z e => by
        obtain ⟨_, _, _, k4, _, k6, _⟩ := read_in e
        rw [k6, blank_at] at k4
        exact absurd k4 (by decide)
      have hsl : ((Dk.blank p).slot 0 s).2 ≠ 0 := by
        have e1 : (Dk.blank p).stand 0 s 0 = Gen.none := by unfold Dk.stand; rw [if_neg (fun e => hr _ _ e.1)]
        have e2 : (Dk.blank p).stand (0 + s) s 1 = Gen.none := by unfold Dk.stand; rw [if_neg (fun e => hr _ _ e.1)]
        unfold Dk.slot Dk.both
        rw [e1, e2, if_neg (fun e => e.2 (by rfl))]
        show (111 : Int) ≠ 0
        decide
      unfold Dk.nextG
      rw [ht, if_neg (fun e => hsl e.1)]
    have hle : (cont 0 st).length = l.length := by rw [hl]
    rw [← hl] at hs hcl
    have hpl : plc 1 0 s = s := by
      rcases plc_0 1 s with ⟨e, _⟩ | ⟨_, e⟩
      · omega
      · exact e
    have he := slotW_wr (l := l) hcan (by omega) hs
    rw [hnx, hpl] at he
    have hw := wr_fuse (p := s) (n := 1) (l := l) (Dk.Ok.blank p) rfl rfl (by omega) (by omega) (by omega) (by omega)
    rw [← he.1, ← he.2, hl] at hw
    rcases hw with ⟨_, hw⟩ | ⟨e, _⟩
    · have hat := hw.at_
      have hspan : 1 ≤ spanN ((cont 0 st).length + 4) := by unfold spanN; split <;> omega
      have hst1 : ∀ y, s ≤ y ∧ y < s + (spanN ((cont 0 st).length + 4) : Int) → ((Dk.blank p).slotW 0 s (cont 0 st)).1.at_ y = secOf 1 (closed (cont 0 st)) (y - s).toNat := fun y hy => by
        rw [hat, if_pos hy, secs_getD (by rw [closed_len]; omega)]
      have hst2 : ∀ y, ¬ (s ≤ y ∧ y < s + (spanN ((cont 0 st).length + 4) : Int)) → stN (((Dk.blank p).slotW 0 s (cont 0 st)).1.at_ y) = 0 := fun y hy => by
        rw [hat, if_neg hy, b2]
      have hsec : ∀ i, stN (secOf 1 (closed (cont 0 st)) i) = 1 := fun i => stN_sec (by omega)
      rw [← hl] at hspan
      refine ⟨hw.ok, hw.q, hw.dd, canJ_iff.2 (by rw [hbl, ← b1]; exact canJ_iff.1 hc), fun y _ _ => ?_, fun y y0 _ => ?_, Or.inl (hst2 0 (by omega)), Or.inr ?_, ?_⟩
      · by_cases hy : s ≤ y ∧ y < s + (spanN ((cont 0 st).length + 4) : Int)
        · rw [hst1 y hy, hsec]; omega
        · rw [hst2 y hy]; omega
      · rw [hst2 y (by rw [← hl]; omega)]; omega
      · obtain ⟨k1, k2⟩ := first_new (n := 1) (f := 0) (st := st) (by omega)
        rw [hst1 s (by rw [← hl]; omega), Int.sub_self]
        exact ⟨k1, Nat.le_of_eq k2⟩
      · have hcur := lv.pl.cur
        unfold Dk.slot at hcur
        split at hcur
        · next q => exact q.2
        · exact absurd (congrArg Prod.snd hcur) (by show ¬ (111 : Int) = 0; decide)
    · rw [h0] at e; cases e
/-- what Format answers -/
def DFmt (w0 : World) (g N : Nat) (p s : Int) (st : List UInt8) (e : Ending) (w1 : World) : Prop :=
  RowKit.Below w0.heap.size w0 w1 ∧
  ((canJ (Dk.blank p) s = false ∧ e = .returned (.tuple #[.pointer none, .int .i64 121])) ∨
   (canJ (Dk.blank p) s = true ∧ ((Dk.blank p).slotW 0 s (cont 0 st)).2.2 ≠ 0 ∧ e = .returned (.tuple #[.pointer none, .int .i64 ((Dk.blank p).slotW 0 s (cont 0 st)).2.2])) ∨
   (canJ (Dk.blank p) s = true ∧ ∃ b X q, (∀ x, CmpP (Dk.blank p) x (N : Int) 1 s false st q) ∧ q.2.2.2.2 = 0 ∧ e = .returned (.tuple #[.pointer (some ⟨b, 0, none⟩), .int .i64 0]) ∧ Sx w0 w1 g b N 0 s X q.1 q.2.1 q.2.2.1 q.2.2.2.1))
theorem st_format {w0 w : World} {g N : Nat} {p s : Int} {F : Nat → Prop} {st : List UInt8} {a : Option Addr} {len cap : Nat} (h : DW w0 w F g (Dk.blank p)) (hp : p ≤ 60) (hN : blankN p = N) (hs : I s) (hb : BAt w a st) (hl : st.length = len) (ha : a = none → st = []) (hm : len ≤ 5000) :
    Calls Tryz.prog 7 #[.pointer (some ⟨g, 0, none⟩), .int .i64 s, .slice a len cap] w (DFmt w0 g N p s st) := by
  have hbl := blank_len p
  have hpos : canJ (Dk.blank p) s = true → 0 ≤ p ∧ p ≤ 2048 := fun e => by
    obtain ⟨s1, _, s3⟩ := canJ_iff.1 e
    rw [hbl] at s3
    unfold blankN at s3
    omega
  refine (jformat_any g F (Dk.blank p) s 0 st a len cap w h.dt hs (fun e => (Cd.blank (s := s) (hpos e)).2.2) hb hl ha (by omega) (by show 0 < 9700; omega)).mono ?_
  rintro e w1 (⟨h1, rfl, rfl⟩ | ⟨_, h2, _⟩ | ⟨h1, _, _, F', ho, hfr, ⟨h2, rfl⟩ | ⟨h2, b, lb, L, y, rfl, hb0, hl0, hrun, hy1, hy2, hj⟩⟩)
  · exact ⟨h.bl, Or.inl ⟨h1, rfl⟩⟩
  · omega
  · exact ⟨ho.below h.bl h.fr h.bl.size, Or.inr (Or.inl ⟨h1, h2, rfl⟩)⟩
  · have hbw := ho.below h.bl h.fr h.bl.size
    obtain ⟨s1, s2, s3⟩ := canJ_iff.1 h1
    have hal := al_blank (hpos h1) h1 (st := st) (by omega) h2
    have hbl2 := (slotW_lens (Dk.blank p) 0 s (cont 0 st)).2
    obtain ⟨F1, v1, v2, v3⟩ := hal.vi.next (f := 0) (by omega) (by omega)
    have hns := norm_slotW (Dk.blank p) 0 s (cont 0 st)
    rw [show (Dk.blank p).norm = Dk.blank p from rfl] at hns
    have hq1 : ((Dk.blank p).slotW 0 s (cont 0 st)).1 = ((Dk.blank p).slotW 0 s (cont 0 st)).1.norm := congrArg Prod.fst hns
    rw [hbl, hN] at hrun hy2 hj s3 hbl2
    rw [hbl2] at v1 v3
    refine ⟨hbw, Or.inr (Or.inr ⟨h1, b, fun i => F' i ∨ i = b ∨ i = lb, (((Dk.blank p).slotW 0 s (cont 0 st)).1, y, nextN ((Dk.blank p).slotW 0 s (cont 0 st)).1 (2 * s) (N : Int) 0, true, 0), fun x => Or.inr ⟨h2, L, y, hrun, hy1, hy2, rfl⟩, rfl, rfl, Or.inl ⟨F', lb, _, ⟨?_, fun i hi => (hfr i hi).elim (h.fr i) fun e => Nat.le_trans h.bl.size e, Nat.le_trans h.bl.size hb0, Nat.le_trans h.bl.size hl0, hbw⟩, hal, hq1, hbl2, ⟨hy1, hy2⟩, ?_, ?_, fun _ => Iff.rfl⟩⟩)⟩
    · rw [hbl2]; exact hj
    · show 1 ≤ nextN _ _ _ _ ∧ nextN _ _ _ _ ≤ 0 + 1
      rw [v1]; omega
    · rw [hbl2]
      intro t t1 t2
      show stN _ < nextN _ _ _ _
      rw [v1]
      have := v3 t t1 t2
      omega
end Go.Proofs.YtdfbpaajkpnaeaaGreat

namespace Go.Proofs.YtdfbpaajkpnaeaaGreat
set_option maxRecDepth 100000
open Go.RowKit Go.Lib

theorem run_len {d : Dk} {z : Int} : ∀ {L : List (List UInt8)} {x : Int} {m : Nat} {y : Int}, Run d z x m L y → x + (L.length : Int) ≤ y := by
  intro L x m y h
  induction h with
  | stop _ => simp
  | more h1 _ _ _ ih =>
    have := (read_in h1).2.2.2.1
    rw [List.length_cons]
    omega
theorem Val.fuse {w : World} {G : Nat → Prop} {r : Dk} {R : List Value} (h : Val w G r R) {n : Int} (hn : I n) :
    Calls Tryz.prog 21 #[.agg R.toArray, .int .i64 n] w fun e w' => ∃ R', e = .returned (.agg R'.toArray) ∧ Val w' G { r with fuse := max n (-1) } R' ∧ RowKit.Below w.heap.size w w' := by
  obtain ⟨a0, c0, a1, c1, e, k⟩ := h
  rw [e]
  refine (rfuse_any r a0 c0 a1 c1 n w).mono ?_
  rintro _ w' ⟨rfl, hb⟩
  exact ⟨_, rfl, ⟨a0, c0, a1, c1, rfl, (k.below hb).head (by unfold I at *; omega)⟩, hb⟩
theorem Val.power {w : World} {G : Nat → Prop} {r : Dk} {R : List Value} (h : Val w G r R) (hG : ∀ i, G i → i < w.heap.size) {a : Option Addr} {l : List Int} {n c : Nat} (hl : Nums w a l) (hn : l.length = n) :
    Calls Tryz.prog 16 #[.agg R.toArray, .slice a n c] w fun e w' => ∃ R', e = .returned (.agg R'.toArray) ∧ Val w' G (r.power l) R' ∧ RowKit.Below w.heap.size w w' := by
  obtain ⟨a0, c0, a1, c1, e, k⟩ := h
  rw [e]
  refine (rpower_any r a0 c0 a1 c1 G a l n c w hG k hl hn).mono ?_
  rintro _ w' ⟨A0, C0, A1, C1, rfl, k1, k2⟩
  exact ⟨_, rfl, ⟨A0, C0, A1, C1, rfl, k1⟩, k2⟩
/-- both sides -/
structure JB (w0 w : World) (g b q N k : Nat) (s : Int) (X : Nat → Prop) (r : Dk) (R : List Value) (x : Int) (n : Nat) (rd : Bool) : Prop where
  rj : RJ w X q r R x N n s rd
  sx : Sx w0 w g b N k s X r x n rd
  q0 : w0.heap.size ≤ q
section
variable {w0 w w' : World} {g b q N k : Nat} {s : Int} {X : Nat → Prop} {r : Dk} {R : List Value} {x : Int} {n : Nat} {rd : Bool}
theorem JB.below (h : JB w0 w g b q N k s X r R x n rd) (hb : RowKit.Below w.heap.size w w') : JB w0 w' g b q N k s X r R x n rd := ⟨h.rj.below hb, h.sx.below hb, h.q0⟩
theorem JB.more (h : JB w0 w g b q N k s X r R x n rd) : JB w0 w g b q N (k + 1) s X r R x n rd := ⟨h.rj, h.sx.more, h.q0⟩
theorem SA.below {F : Nat → Prop} {lb : Nat} {d : Dk} (h : SA w0 w g b N k s X r x n rd F lb d) (hb : RowKit.Below w.heap.size w w') : SA w0 w' g b N k s X r x n rd F lb d := ⟨h.jl.below hb, h.al, h.nm, h.nn, h.xs, h.n1, h.lo, h.fx⟩
theorem JB.fin {w1 w2 W : World} {X' : Nat → Prop} {r' : Dk} {R' : List Value} {x' : Int} {n' : Nat} {rd' : Bool} {j : Nat} (rj : RJ w1 X' q r R x N n s rd) (sx : Sx w0 w1 g b N j s X' r' x' n' rd') (q0 : w0.heap.size ≤ q) (hb : RowKit.Below w1.heap.size w1 w2) (hv : Val w2 (fun i => X' i ∨ i = q) r' R') (e : W.heap[q]? = some (.cells (rjc R' x' (N : Int) n' s rd').toArray 41)) (ho : Only (fun i => i = q) w2 W) :
    JB w0 W g b q N j s X' r' R' x' n' rd' :=
  ⟨(rj.below hb).set hv e ho, (sx.below hb).only ho rj.nq q0, q0⟩
theorem JB.row {w1 w2 : World} {X' : Nat → Prop} {r' : Dk} {R' : List Value} {x' : Int} {n' : Nat} {rd' : Bool} {j : Nat} (rj : RJ w1 X' q r R x N n s rd) (sx : Sx w0 w1 g b N j s X' r' x' n' rd') (q0 : w0.heap.size ≤ q) (hb : RowKit.Below w1.heap.size w1 w2) (hv : Val w2 (fun i => X' i ∨ i = q) r' R') :
    JB w0 (w2.setRow q (rjc R' x' (N : Int) n' s rd').toArray) g b q N j s X' r' R' x' n' rd' :=
  JB.fin rj sx q0 hb hv (setRow_heap _ _ _ _ _ _ (rj.below hb).hq) (only_row rfl)
theorem Sx.rapp {l : List UInt8} {a : Option Addr} {len cap : Nat} {w1 : World} {X' : Nat → Prop} (h : Sx w0 w g b N k s X r x n rd) (hk : k ≤ 100) (rj : RJ w1 X' q r R x N n s rd) (hX : ∀ i, X' i → i < w1.heap.size) (hb : BAt w1 a l) (hl : l.length = len) (ha : a = none → l = []) (hm : len ≤ 5000) :
    Calls Tryz.prog 11 #[.agg (rjc R x (N : Int) n s rd).toArray, .slice a len cap] w1 (RJRes (fun i => X' i ∨ i = q) (N : Int) s (jApp r x (N : Int) n rd l) w1) := by
  have hp := h.pos
  exact rjappend_any r R _ x (N : Int) n s rd l a len cap w1 (rj.gl hX) rj.vv (fun e => by have := h.ready e; omega) (fun e => by have := h.ready e; omega) hb hl ha (by omega) (by omega)
theorem SA.rcmp {F : Nat → Prop} {lb : Nat} {d : Dk} {l : List UInt8} {a : Option Addr} {len cap : Nat} {w1 : World} {X' : Nat → Prop} (h : SA w0 w g b N k s X r x n rd F lb d) (hk : k ≤ 100) (rj : RJ w1 X' q r R x N n s rd) (hX : ∀ i, X' i → i < w1.heap.size) (hb : BAt w1 a l) (hl : l.length = len) (ha : a = none → l = []) (hm : len ≤ 5000) :
    Calls Tryz.prog 14 #[.agg (rjc R x (N : Int) n s rd).toArray, .slice a len cap] w1 (fun e w' => ∃ p, CmpP r x (N : Int) n s rd l p ∧ RJRes (fun i => X' i ∨ i = q) (N : Int) s p w1 e w') := by
  have hp := Sx.pos (Or.inl ⟨F, lb, d, h⟩)
  have hn := h.n1
  exact rjcompact_any r R _ x N n s rd l a len cap w1 (rj.gl hX) rj.vv hp.2.2.2.1 hp.2.2.2.2.2 (by omega) hb hl ha (by omega) (by omega)
theorem Ds.ropen {w1 : World} {X' : Nat → Prop} (h : Ds w0 w g N k s X r) (hk : k ≤ 100) (rj : RJ w1 X' q r R x N n s rd) :
    Calls Tryz.prog 18 #[.agg R.toArray, .int .i64 s] w1 (ROpJ r R N s w1) := by
  obtain ⟨h1, h2, h3, h4⟩ := h.sees hk
  exact rjopen_any r R _ N s w1 rj.vv h4 h1 h2 h3
theorem JB.rroom (h : JB w0 w g b q N k s X r R x n rd) (hb : RowKit.Below w.heap.size w w') : Calls Tryz.prog 23 #[.agg (rjc R x (N : Int) n s rd).toArray] w' fun e w1 => e = .returned (.int .i64 (if rd then (N : Int) - x else 0)) ∧ RowKit.Below w'.heap.size w' w1 := by
  have hp := h.sx.pos.1
  exact rjroom_any (h.rj.below hb).vv.cs x (N : Int) n s rd w' (fun e => by have := h.sx.ready e; omega) ⟨by omega, by omega⟩
end
theorem Ds.bl {w0 w : World} {g N k : Nat} {s : Int} {X : Nat → Prop} {r : Dk} (h : Ds w0 w g N k s X r) : RowKit.Below w0.heap.size w0 w := by
  obtain ⟨d, h1, _⟩ := h
  exact h1.bl
theorem Ds.jlt {w0 w : World} {g N k : Nat} {s : Int} {X : Nat → Prop} {r : Dk} (h : Ds w0 w g N k s X r) : ∀ i, X i → i < w.heap.size ∧ w0.heap.size ≤ i := by
  obtain ⟨d, h1, _⟩ := h
  exact fun i hi => ⟨h1.dt.fl i hi, h1.fr i hi⟩
theorem Ds.fin {w0 w w' : World} {g N k q : Nat} {s : Int} {X : Nat → Prop} {r : Dk} {W : World} (h : Ds w0 w g N k s X r) (hb : RowKit.Below w.heap.size w w') (ho : Only (fun i => i = q) w' W) (hq : ¬ X q) (h0 : w0.heap.size ≤ q) : Ds w0 W g N k s X r := by
  obtain ⟨d, h1, h2, h3, h4⟩ := h
  have hd := h1.dt.below hb
  have hbl := h1.bl.trans (hb.mono h1.bl.size)
  exact ⟨d, ⟨hd.same ho.size fun i hi => ho.block i (hd.fl i hi) fun e => hq (e ▸ hi), h1.fr, ho.below hbl (fun i e => by rw [e]; exact h0) hbl.size⟩, h2, h3, h4⟩
/-! the first disk, and Format -/
/-- E is what both answer -/
def FQ (p s : Int) (N : Nat) (st : List UInt8) (E : Int) (q : Dk × Int × Nat × Bool × Int) : Prop :=
  (canJ (Dk.blank p) s = false ∧ E = 121) ∨ (canJ (Dk.blank p) s = true ∧ E ≠ 0 ∧ ((Dk.blank p).slotW 0 s (cont 0 st)).2.2 = E) ∨ (canJ (Dk.blank p) s = true ∧ E = 0 ∧ (∀ x, CmpP (Dk.blank p) x (N : Int) 1 s false st q) ∧ q.2.2.2.2 = 0)
def PFmt (w0 : World) (g N : Nat) (p s : Int) (st : List UInt8) (e : Ending) (w1 : World) : Prop :=
  ∃ v E b X q, e = .returned (.tuple #[.pointer v, .int .i64 E]) ∧ RowKit.Below w0.heap.size w0 w1 ∧ FQ p s N st E q ∧ (E ≠ 0 → v = none) ∧ (E = 0 → v = some ⟨b, 0, none⟩ ∧ Sx w0 w1 g b N 0 s X q.1 q.2.1 q.2.2.1 q.2.2.2.1) ∧ ∀ i, X i → i < w1.heap.size
theorem DFmt.pf {w0 : World} {g N : Nat} {p s : Int} {st : List UInt8} {e : Ending} {w1 : World} (h : DFmt w0 g N p s st e w1) : PFmt w0 g N p s st e w1 := by
  obtain ⟨hb, ⟨h1, rfl⟩ | ⟨h1, h2, rfl⟩ | ⟨h1, b, X, q, h2, h3, rfl, h4⟩⟩ := h
  · exact ⟨none, 121, 0, fun _ => False, (Dk.blank p, 0, 0, false, 0), rfl, hb, Or.inl ⟨h1, rfl⟩, fun _ => rfl, (fun e => by cases e), fun _ e => e.elim⟩
  · exact ⟨none, _, 0, fun _ => False, (Dk.blank p, 0, 0, false, 0), rfl, hb, Or.inr (Or.inl ⟨h1, h2, rfl⟩), fun _ => rfl, fun e => absurd e h2, fun _ e => e.elim⟩
  · exact ⟨_, 0, b, X, q, rfl, hb, Or.inr (Or.inr ⟨h1, rfl, h2, h3⟩), fun e => absurd rfl e, fun _ => ⟨rfl, h4⟩, fun i hi => (h4.jlt i hi).1⟩
/-- a drawn region that makes a journal: when the new block comes is open -/
structure K9 (w3 W : World) (y : Option Nat) : Prop where
  bl : RowKit.Below w3.heap.size w3 W
  hy : ∀ b, y = some b → w3.heap.size ≤ b ∧ W.heap[b]? = some (.cells zJ9.toArray 41)
theorem K9.start (w3 : World) : K9 w3 w3.drew none := ⟨⟨rfl, rfl, rfl, Nat.le_refl _, fun _ _ => rfl⟩, nofun⟩
theorem K9.call {w3 W W' : World} {y : Option Nat} (h : K9 w3 W y) (hb : RowKit.Below W.heap.size W W') : K9 w3 W' y :=
  ⟨h.bl.trans (hb.mono h.bl.size), fun b e => ⟨(h.hy b e).1, (hb.block _ (lt_of_heap (h.hy b e).2)).trans (h.hy b e).2⟩⟩
theorem K9.ay {w3 W W' : World} {b : Nat} (h : K9 w3 W none) (he : b = W.heap.size) (hb : RowKit.Below W.heap.size W W') (hn : W'.heap[b]? = some (.cells zJ9.toArray 41)) : K9 w3 W' (some b) :=
  ⟨(h.call hb).bl, fun c e => by cases e; exact ⟨he ▸ h.bl.size, hn⟩⟩
/-- the document's journal is there, apart from F and from the new block -/
def E9 (F : Nat → Prop) (N : Nat) (s E : Int) (q : Dk × Int × Nat × Bool × Int) (c : List Value) (W : World) (y : Option Nat) : Prop :=
  Cs 9 c ∧ (E = 0 → ∃ R, c = rjc R q.2.1 (N : Int) q.2.2.1 s q.2.2.2.1 ∧ E4 F q.1 R W y)
theorem E9.call {F : Nat → Prop} {N : Nat} {s E : Int} {q : Dk × Int × Nat × Bool × Int} {c : List Value} {W W' : World} {y : Option Nat} (h : E9 F N s E q c W y) (hb : RowKit.Below W.heap.size W W') : E9 F N s E q c W' y :=
  ⟨h.1, fun e => by obtain ⟨R, h1, h2⟩ := h.2 e; exact ⟨R, h1, h2.call hb⟩⟩
theorem E9.ay {F : Nat → Prop} {N : Nat} {s E : Int} {q : Dk × Int × Nat × Bool × Int} {c : List Value} {W W' : World} {b : Nat} (h : E9 F N s E q c W none) (he : b = W.heap.size) (hb : RowKit.Below W.heap.size W W') : E9 F N s E q c W' (some b) :=
  ⟨h.1, fun e => by obtain ⟨R, h1, h2⟩ := h.2 e; exact ⟨R, h1, h2.ay he hb⟩⟩
def M9 (F : Nat → Prop) (w3 : World) (N : Nat) (s E : Int) (q : Dk × Int × Nat × Bool × Int) (b : Nat) (c : List Value) (W : World) : Prop :=
  RowKit.Below w3.heap.size w3 W ∧ w3.heap.size ≤ b ∧ W.heap[b]? = some (.cells c.toArray 41) ∧ (E = 0 → ∃ R, c = rjc R q.2.1 (N : Int) q.2.2.1 s q.2.2.2.1 ∧ Val W (fun i => F i ∨ i = b) q.1 R)
theorem E9.fin {F : Nat → Prop} {N : Nat} {s E : Int} {q : Dk × Int × Nat × Bool × Int} {c : List Value} {w3 W : World} {b : Nat} (h : E9 F N s E q c W (some b)) (k : K9 w3 W (some b)) : M9 F w3 N s E q b c (W.setRow b c.toArray) := by
  have hk := k.hy b rfl
  refine ⟨below_setRow k.bl hk.1, hk.1, setRow_heap _ _ _ _ _ _ hk.2, fun e => ?_⟩
  obtain ⟨R, h1, G, h2, h3, h4⟩ := h.2 e
  exact ⟨R, h1, (h2.only (only_row (h4 b rfl))).sub fun i hi => hi.elim (h3 i) fun e => e ▸ h4 b rfl⟩
theorem jallocJ {o : Oper} {a : Act} {w : World} {K : Act → World → Prop} {Q : Exit → Act → World → Prop} (ho : o.op = .alloc 41)
    (hq : ∀ b W, b = w.heap.size → RowKit.Below w.heap.size w W → W.heap[b]? = some (.cells zJ9.toArray 41) → K (a.put o.dst (.pointer (some ⟨b, 0, none⟩))) W) : o.wp Tryz.prog a w K Q :=
  wp_allocA isJ9 ho (hq _ _ rfl ((RowKit.Below.refl _ _).alloc (Nat.le_refl _) _) (heap_alloc_new w _))
theorem wp_then6 {P : Program} {c : Code} {Q : Exit → Act → World → Prop} {a : Act} {w : World} (M : Nat → List Value → List Value → World → Prop) {A : Nat → List Value → List Value → Act} (h : c.wp P (fun e a' w' => e = .normal ∧ ∃ x y z, a' = A x y z ∧ M x y z w') a w) (hQ : ∀ x y z W, M x y z W → Q .normal (A x y z) W) : c.wp P Q a w :=
  Code.wp_mono (fun e a' w' hh => by obtain ⟨rfl, x, y, z, rfl, h2⟩ := hh; exact hQ x y z w' h2) h
theorem rfmt_any {p s : Int} {N : Nat} {st : List UInt8} {E : Int} {q : Dk × Int × Nat × Bool × Int} {w3 W : World} {F : Nat → Prop} {R : List Value} {y : Option Nat} {a : Option Addr} {len cap : Nat} (hq : FQ p s N st E q) (hp : p ≤ 60) (hN : blankN p = N) (hs : I s) (hk : K9 w3 W y) (hF : ∀ i, F i → i < w3.heap.size) (he : E4 F (Dk.blank p) R W y) (hb : BAt W a st) (hl : st.length = len) (ha : a = none → st = []) (hm : len ≤ 5000) :
    Calls Tryz.prog 8 #[.agg R.toArray, .int .i64 s, .slice a len cap] W (fun e w' => ∃ c, e = .returned (.tuple #[.agg c.toArray, .int .i64 E]) ∧ E9 F N s E q c w' y ∧ RowKit.Below W.heap.size W w') := by
  obtain ⟨G, h1, h3, h4⟩ := he
  have hbl := blank_len p
  have hpos : canJ (Dk.blank p) s = true → 0 ≤ p ∧ p ≤ 2048 := fun e => by
    obtain ⟨s1, _, s3⟩ := canJ_iff.1 e
    rw [hbl] at s3
    unfold blankN at s3
    omega
  have hnx : canJ (Dk.blank p) s = true → nextN (Dk.blank p) (2 * s) (N : Int) 0 = 1 := fun e => by
    have := (Cd.blank (s := s) (hpos e)).2.2
    rw [hbl, hN] at this
    exact this
  have hG : Val W (fun i => F i ∨ y = some i) (Dk.blank p) R := h1.sub fun i hi => hi.elim (h3 i) (h4 i)
  refine (rjformat_any (Dk.blank p) R _ N s st a len cap W (fun i hi => ?_) hG (hbl.trans hN) hs (fun e => by rw [hnx e]; omega) hb hl ha (by omega) (by show 0 < 9700; omega)).mono ?_
  · rcases hi with e | e
    · exact Nat.lt_of_lt_of_le (hF i e) hk.bl.size
    · exact lt_of_heap (hk.hy i e).2
  · rintro e w' (⟨k1, rfl, k2⟩ | ⟨k1, x, p', _, _, k2, R', rfl, k3, k4⟩)
    · rcases hq with ⟨_, rfl⟩ | ⟨q, _⟩ | ⟨q, _⟩
      · exact ⟨zJ9, rfl, ⟨⟨rfl, by decide⟩, (fun e => by cases e)⟩, k2⟩
      · rw [k1] at q; cases q
      · rw [k1] at q; cases q
    · rw [hnx k1] at k2
      rcases hq with ⟨q, _⟩ | ⟨_, q1, q2⟩ | ⟨_, rfl, q1, q2⟩
      · rw [k1] at q; cases q
      · rcases k2 with ⟨_, rfl⟩ | ⟨z, _⟩
        · refine ⟨_, by rw [← q2], ⟨rjc_cs k3.cs _ _ _ _ _, fun e => absurd e q1⟩, k4⟩
        · rw [show (1 : Nat) - 1 = 0 from rfl, q2] at z
          exact absurd z q1
      · obtain rfl := k2.uniq (q1 x)
        refine ⟨_, by rw [q2], ⟨rjc_cs k3.cs _ _ _ _ _, fun _ => ⟨R', rfl, _, k3, fun i hi => Or.inl hi, fun b hb => Or.inr hb⟩⟩, k4⟩
end Go.Proofs.YtdfbpaajkpnaeaaGreat
