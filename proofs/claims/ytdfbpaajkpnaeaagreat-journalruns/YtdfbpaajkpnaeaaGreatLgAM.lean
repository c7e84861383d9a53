
/- Package log: Need, Room, Stamp; crc.Open of any bytes. Package log, mathematics: records one behind the other, a torn one. -/
import Derived.Test.YtdfbpaajkpnaeaaGreatSmKQ
import Derived.Test.YtdfbpaajkpnaeaaGreatCrP
import Derived.Test.YtdfbpaajkpnaeaaGreatCame
import Derived.WalkMore
import Derived.Test.YtdfbpaajkpnaeaaGreatSmR
import Derived.Test.YtdfbpaajkpnaeaaGreatDkZz

namespace Go.Proofs.YtdfbpaajkpnaeaaGreat
set_option maxRecDepth 100000
open Go.RowKit Go.Lib

/-- how many sectors a record of n bytes needs -/
def needN (n : Int) : Nat := if 0 ≤ n ∧ n ≤ 4096 then spanN (n.toNat + 4) else 0
theorem needN_nat {n : Nat} (h : n ≤ 4096) : needN (n : Int) = spanN (n + 4) := by
  unfold needN
  rw [if_pos (by omega), Int.toNat_natCast]
theorem need_any (n : Int) (w : World) : Calls Tryz.prog 49 #[.int .i64 n] w fun e w' => e = .returned (.int .i64 (needN n : Int)) ∧ w = w' := by
  by_cases h0 : n < 0
  · have d0 : decide (n < 0) = true := by simpa using h0
    have HE := Lib.hid (show needN n = 0 by unfold needN; rw [if_neg (by omega)])
    clear h0
    go_enter Tryz.func49, Tryz.ntmps49
    go_wp2
    go_ret
    exact ⟨by rw [HE.out]; rfl, rfl⟩
  · have d0 : decide (n < 0) = false := by simpa using h0
    by_cases h1 : 4096 < n
    · have d1 : decide (4096 < n) = true := by simpa using h1
      have HE := Lib.hid (show needN n = 0 by unfold needN; rw [if_neg (by omega)])
      clear h0 h1
      go_enter Tryz.func49, Tryz.ntmps49
      go_wp2
      go_ret
      exact ⟨by rw [HE.out]; rfl, rfl⟩
    · have d1 : decide (4096 < n) = false := by simpa using h1
      have HE := Lib.hid (show needN n = spanN (n + 4).toNat by unfold needN; rw [if_pos (by omega)]; congr 1; omega)
      have HSP := Lib.hid (fun W => span_any (n + 4) W)
      have HN := Lib.hid (show spanI (n + 4) = (spanN (n + 4).toNat : Int) by rw [← spanI_nat]; congr 1; omega)
      go_enter Tryz.func49, Tryz.ntmps49
      go_wp2_with fail
      refine (HSP.out _).mono ?_
      rintro _ _ ⟨rfl, rfl⟩
      go_wp2
      go_ret
      exact ⟨by rw [HE.out, HN.out]; rfl, rfl⟩
/-- block b is a log -/
structure LgAt (w : World) (b g : Nat) (x z : Int) (n : Nat) : Prop where
  bk : w.heap[b]? = some (.cells #[.pointer (some ⟨g, 0, none⟩), .int .i64 z, .int .i64 x, .int .u64 (n : Int)] 111)
theorem LgAt.cells {w : World} {b g : Nat} {x z : Int} {n : Nat} (h : LgAt w b g x z n) :
    w.cell? ⟨b, 0, none⟩ = some (.pointer (some ⟨g, 0, none⟩)) ∧ w.cell? ⟨b, 1, none⟩ = some (.int .i64 z) ∧ w.cell? ⟨b, 2, none⟩ = some (.int .i64 x) ∧ w.cell? ⟨b, 3, none⟩ = some (.int .u64 (n : Int)) := by
  refine ⟨?_, ?_, ?_, ?_⟩ <;> rw [cell_of_row w b _ _ _ _ h.bk] <;> rfl
theorem LgAt.lt {w : World} {b g : Nat} {x z : Int} {n : Nat} (h : LgAt w b g x z n) : b < w.heap.size := lt_of_heap h.bk
theorem LgAt.same {w w' : World} {b g : Nat} {x z : Int} {n : Nat} (h : LgAt w b g x z n) (e : w'.heap[b]? = w.heap[b]?) : LgAt w' b g x z n := ⟨e.trans h.bk⟩
theorem room_any (b g : Nat) (x z : Int) (n : Nat) (w : World) (h : LgAt w b g x z n) (hx : 0 ≤ x ∧ x ≤ 2048) (hz : 0 ≤ z ∧ z ≤ 2048) :
    Calls Tryz.prog 43 #[.pointer (some ⟨b, 0, none⟩)] w fun e w' => e = .returned (.int .i64 (z - x)) ∧ RowKit.Below w.heap.size w w' := by
  obtain ⟨c0, c1, c2, c3⟩ := h.cells
  clear h
  obtain ⟨x0, x1⟩ := hx
  obtain ⟨z0, z1⟩ := hz
  go_enter Tryz.func43, Tryz.ntmps43
  go_wp2
  go_quiet (fail)
  go_wp2
  go_ret
  exact ⟨rfl, below_drewN (RowKit.Below.refl _ _) _⟩
theorem lstamp_any (b g : Nat) (x z : Int) (n : Nat) (w : World) (h : LgAt w b g x z n) :
    Calls Tryz.prog 29 #[.pointer (some ⟨b, 0, none⟩)] w fun e w' => e = .returned (.int .u64 (n : Int)) ∧ w = w' := by
  obtain ⟨c0, c1, c2, c3⟩ := h.cells
  clear h
  go_enter Tryz.func29, Tryz.ntmps29
  go_wp2
  go_ret
  exact ⟨rfl, rfl⟩
/-! crc.Open -/
/-- without the four bytes behind -/
def cutB (l : List UInt8) : List UInt8 := l.take (l.length - 4)
/-- it is closed rightly -/
def okB (l : List UInt8) : Bool := decide (4 ≤ l.length ∧ cutB l ++ sealL (cutB l) = l)
theorem cutB_close (l : List UInt8) : cutB (l ++ sealL l) = l := by
  unfold cutB
  rw [List.length_append, sealL_len, show l.length + 4 - 4 = l.length by omega, List.take_left]
theorem okB_close (l : List UInt8) : okB (l ++ sealL l) = true := by
  unfold okB
  rw [cutB_close]
  simp [sealL_len]
theorem okB_iff {l : List UInt8} (h : okB l = true) : l = cutB l ++ sealL (cutB l) := by
  unfold okB at h
  exact (of_decide_eq_true h).2.symm
theorem copen_any (a : Option Addr) (l : List UInt8) (n cap : Nat) (w : World) (hb : BAt w a l) (hn : l.length = n) (hc : n ≤ cap) (hl : n ≤ 500000) :
    Calls Tryz.prog 89 #[.slice a n cap] w (OpenRes (if okB l = true then cutB l else []) (okB l) w) := by
  by_cases h4 : n < 4
  · have e : okB l = false := by unfold okB; rw [decide_eq_false]; omega
    rw [e]
    exact open_short a n cap w h4
  · obtain ⟨k, rfl⟩ : ∃ k, n = k + 4 := ⟨n - 4, by omega⟩
    have hcut : (cutB l).length = k := by unfold cutB; rw [List.length_take]; omega
    obtain ⟨x0, x1, x2, x3, hx⟩ : ∃ x0 x1 x2 x3 : UInt8, l.drop k = [x0, x1, x2, x3] := by
      have hd : (l.drop k).length = 4 := by rw [List.length_drop]; omega
      match l.drop k, hd with
      | [x0, x1, x2, x3], _ => exact ⟨x0, x1, x2, x3, rfl⟩
    have hl2 : l = cutB l ++ [x0, x1, x2, x3] := by
      rw [← hx]
      unfold cutB
      rw [show l.length - 4 = k by omega, List.take_append_drop]
    have hok : okB l = decide (sealL (cutB l) = [x0, x1, x2, x3]) := by
      unfold okB
      apply Bool.eq_iff_iff.2
      rw [decide_eq_true_iff, decide_eq_true_iff]
      constructor
      · rintro ⟨_, h⟩
        rw [hl2] at h
        have : cutB (cutB l ++ [x0, x1, x2, x3]) = cutB l := by rw [← hl2]
        rw [this] at h
        exact List.append_cancel_left h
      · intro h
        refine ⟨by omega, ?_⟩
        rw [h]; exact hl2.symm
    rcases hb with h | ⟨b, off, ha, hlt, hcell⟩
    · rw [h] at hn; simp at hn
    · subst ha
      have hb' : BAt w (some ⟨b, off, none⟩) (cutB l ++ [x0, x1, x2, x3]) := by rw [← hl2]; exact Or.inr ⟨b, off, rfl, hlt, hcell⟩
      have h := open_in b off (cutB l) x0 x1 x2 x3 k cap w hb' hcut hc (by omega)
      rw [← hok] at h
      refine h.mono ?_
      rintro e w' (⟨h1, v, h2, h3, h4, h5⟩ | ⟨h1, h2, h3⟩)
      · rw [if_pos h1]
        exact Or.inl ⟨h1, v, h2, h3, h4, h5⟩
      · exact Or.inr ⟨h1, h2, h3⟩
end Go.Proofs.YtdfbpaajkpnaeaaGreat

namespace Go.Proofs.YtdfbpaajkpnaeaaGreat
set_option maxRecDepth 100000
open Go.RowKit Go.Lib

/-! what Open tells -/
/-- from x on, above the stamp m: these records, up to y -/
inductive Run (d : Dk) (z : Int) : Int → Nat → List (List UInt8) → Int → Prop
  | stop {x : Int} {m : Nat} : ((d.read x z).e ≠ 0 ∨ (d.read x z).n ≤ m ∨ okB (d.read x z).b = false) → Run d z x m [] x
  | more {x : Int} {m : Nat} {L : List (List UInt8)} {y : Int} : (d.read x z).e = 0 → m < (d.read x z).n → okB (d.read x z).b = true → Run d z (x + ((d.read x z).many : Int)) (d.read x z).n L y → Run d z x m (cutB (d.read x z).b :: L) y
/-- so far: L, now at x with m -/
def Pre (d : Dk) (z x0 : Int) (m0 : Nat) (L : List (List UInt8)) (x : Int) (m : Nat) : Prop := ∀ K y, Run d z x m K y → Run d z x0 m0 (L ++ K) y
theorem Pre.start (d : Dk) (z x : Int) (m : Nat) : Pre d z x m [] x m := fun _ _ h => h
theorem Pre.next {d : Dk} {z x0 : Int} {m0 : Nat} {L : List (List UInt8)} {x : Int} {m : Nat} (h : Pre d z x0 m0 L x m) (he : (d.read x z).e = 0) (hn : m < (d.read x z).n) (ho : okB (d.read x z).b = true) :
    Pre d z x0 m0 (L ++ [cutB (d.read x z).b]) (x + ((d.read x z).many : Int)) (d.read x z).n := fun K y hk => by
  rw [List.append_assoc]
  exact h _ _ (Run.more he hn ho hk)
theorem Pre.done {d : Dk} {z x0 : Int} {m0 : Nat} {L : List (List UInt8)} {x : Int} {m : Nat} (h : Pre d z x0 m0 L x m) (hs : (d.read x z).e ≠ 0 ∨ (d.read x z).n ≤ m ∨ okB (d.read x z).b = false) : Run d z x0 m0 L x := by
  have := h [] x (Run.stop hs)
  rwa [List.append_nil] at this
theorem Run.inv {d : Dk} {z x : Int} {m : Nat} {L : List (List UInt8)} {y : Int} (h : Run d z x m L y) :
    (((d.read x z).e ≠ 0 ∨ (d.read x z).n ≤ m ∨ okB (d.read x z).b = false) ∧ L = [] ∧ y = x) ∨
    ((d.read x z).e = 0 ∧ m < (d.read x z).n ∧ okB (d.read x z).b = true ∧ ∃ K, L = cutB (d.read x z).b :: K ∧ Run d z (x + ((d.read x z).many : Int)) (d.read x z).n K y) := by
  cases h with
  | stop h => exact Or.inl ⟨h, rfl, rfl⟩
  | more h1 h2 h3 h4 => exact Or.inr ⟨h1, h2, h3, _, rfl, h4⟩
/-- what is read lies there -/
theorem read_in {d : Dk} {x z : Int} (h : (d.read x z).e = 0) : 0 ≤ x ∧ x < z ∧ z ≤ (d.base.length : Int) ∧ 1 ≤ (d.read x z).many ∧ x + ((d.read x z).many : Int) ≤ z ∧ (d.read x z).many = manyAt (d.at_ x) ∧ (d.read x z).n = stN (d.at_ x) ∧ (d.read x z).b.length ≤ 13515 ∧ (d.read x z).many ≤ 255 := by
  unfold Dk.read at *
  split at h
  · cases h
  · next hb =>
    rw [if_neg hb] at *
    obtain ⟨k1, k2, k3⟩ := readL_ok h
    rw [k3]
    have hg := gat_le (d.stands x z)
    have hle := stands_le d x z
    have hst : d.stands x z = d.secsAt x (manyAt (d.at_ x)) ∧ x < z ∧ (manyAt (d.at_ x) : Int) ≤ z - x := by
      unfold Dk.stands at *
      split
      · next h => rw [if_pos h] at k1; exact absurd rfl k1
      · next h =>
        rw [if_neg h] at k1
        split
        · next h' => rw [if_pos h'] at k1; exact absurd rfl k1
        · next h' => exact ⟨rfl, by omega, by omega⟩
    obtain ⟨h1, h2, h3⟩ := hst
    have hm : (d.stands x z).length = manyAt (d.at_ x) := by rw [h1, secsAt_length]
    have hpos : 0 < manyAt (d.at_ x) := by rw [← hm]; exact List.length_pos_iff.2 k1
    have hhead : (d.stands x z).headD [] = d.at_ x := by
      rw [h1]
      obtain ⟨k, hk⟩ : ∃ k, manyAt (d.at_ x) = k + 1 := ⟨_, (Nat.succ_pred_eq_of_pos hpos).symm⟩
      rw [hk]
      simp [Dk.secsAt, List.range_succ_eq_map]
    refine ⟨by omega, h2, by omega, by show 1 ≤ (d.stands x z).length; omega, by show x + ((d.stands x z).length : Int) ≤ z; rw [hm]; omega, hm, by rw [hhead], by show (gat (d.stands x z)).length ≤ 13515; omega, hle⟩
/-- where no greater stamp lies there is no record -/
theorem Run.none {d : Dk} {z x : Int} {m : Nat} {L : List (List UInt8)} {y : Int} (h : Run d z x m L y) (hx : x < z → stN (d.at_ x) ≤ m) : L = [] ∧ y = x := by
  rcases h.inv with ⟨_, h⟩ | ⟨h1, h2, _⟩
  · exact h
  · obtain ⟨_, k2, _, _, _, _, k7, _⟩ := read_in h1
    have := hx k2
    omega
/-! records that stand -/
def closed (l : List UInt8) : List UInt8 := l ++ sealL l
theorem closed_len (l : List UInt8) : (closed l).length = l.length + 4 := by unfold closed; rw [List.length_append, sealL_len]
/-- from x on, with the stamps from n on: these records, up to y -/
def Row (d : Dk) : Int → Nat → List (List UInt8) → Int → Prop
  | x, _, [], y => y = x
  | x, n, l :: L, y => l.length ≤ 4096 ∧ Stand d x n (closed l) ∧ Row d (x + (spanN (l.length + 4) : Int)) (n + 1) L y
theorem Row.le {d : Dk} : ∀ {L : List (List UInt8)} {x : Int} {n : Nat} {y : Int}, Row d x n L y → x ≤ y
  | [], _, _, _, h => by have : _ = _ := h; omega
  | l :: L, x, n, y, h => by have := Row.le h.2.2; omega
theorem Row.snoc {d : Dk} : ∀ {L : List (List UInt8)} {x : Int} {n : Nat} {y : Int} {l : List UInt8}, Row d x n L y → l.length ≤ 4096 → Stand d y (n + L.length) (closed l) → Row d x n (L ++ [l]) (y + (spanN (l.length + 4) : Int))
  | [], x, n, y, l, h, hl, hs => by
    have e : y = x := h
    subst e
    exact ⟨hl, hs, rfl⟩
  | k :: L, x, n, y, l, h, hl, hs => by
    refine ⟨h.1, h.2.1, Row.snoc h.2.2 hl ?_⟩
    rw [List.length_cons] at hs
    rwa [show n + 1 + L.length = n + (L.length + 1) by omega]
/-- where sectors are as they were the records are -/
theorem Row.same {d d' : Dk} : ∀ {L : List (List UInt8)} {x : Int} {n : Nat} {y : Int}, Row d x n L y → (∀ t, x ≤ t → t < y → d'.at_ t = d.at_ t) → Row d' x n L y
  | [], _, _, _, h, _ => h
  | l :: L, x, n, y, h, he => by
    have hle := Row.le h.2.2
    refine ⟨h.1, fun i hi => ?_, Row.same h.2.2 fun t h1 h2 => he t (by omega) h2⟩
    rw [closed_len] at hi
    rw [he _ (by omega) (by omega)]
    exact h.2.1 i (by rw [closed_len]; exact hi)
theorem Row.run {d : Dk} {z : Int} (hz : z ≤ (d.base.length : Int)) : ∀ {L : List (List UInt8)} {x : Int} {n : Nat} {y : Int}, Row d x n L y → 0 < n → n + L.length ≤ 18446744073709551616 → 0 ≤ x → y ≤ z → ∀ {K : List (List UInt8)} {t : Int}, Run d z x (n - 1) K t → ∃ K', K = L ++ K' ∧ Run d z y (n + L.length - 1) K' t
  | [], x, n, y, h, _, _, _, _, K, t, hr => by
    have e : y = x := h
    subst e
    exact ⟨K, rfl, hr⟩
  | l :: L, x, n, y, h, hn, hn2, hx, hy, K, t, hr => by
    obtain ⟨h1, h2, h3⟩ := h
    have hle := Row.le h3
    have hlen := closed_len l
    rw [List.length_cons] at hn2
    have hread : d.read x z = ⟨closed l, n, spanN (closed l).length, 0⟩ := h2.read (by omega) (by omega) (by omega) hx (by rw [hlen]; omega) hz
    rcases hr.inv with ⟨hs, _⟩ | ⟨_, _, _, K', hK, hr'⟩
    · rw [hread] at hs
      rcases hs with e | e | e
      · exact absurd rfl e
      · have : n ≤ n - 1 := e
        omega
      · rw [show okB (closed l) = true from okB_close l] at e; cases e
    · rw [hread] at hK hr'
      simp only [hlen] at hK hr'
      obtain ⟨K2, e2, r2⟩ := Row.run hz h3 (by omega) (by omega) (by omega) hy (K := K') (t := t) (by rw [show n + 1 - 1 = n by omega]; exact hr')
      refine ⟨K2, ?_, ?_⟩
      · rw [hK, e2, show cutB (closed l) = l from cutB_close l]; rfl
      · rw [List.length_cons, show n + (L.length + 1) - 1 = n + 1 + L.length - 1 by omega]; exact r2
/-! torn -/
/-- a read of what was cut off: the whole, or of no greater stamp -/
theorem torn_gen {D : Dk} {x : Int} {n : Nat} {l : List UInt8} {top : Nat} (hok : D.Ok) (hl : l.length ≤ 13515) (z : Int)
    (H : ∀ i : Nat, i < spanN l.length → stN (D.at_ (x + (i : Int))) ≤ top ∨ (D.at_ (x + (i : Int))).take 56 = (secOf n l i).take 56) (he : (D.read x z).e = 0) (hr : top < (D.read x z).n) :
    (D.read x z).b = l ∧ (D.read x z).many = spanN l.length := by
  have hs := spanN_pos hl
  obtain ⟨L, hL⟩ : ∃ L, L = D.stands x z := ⟨_, rfl⟩
  have hread : D.read x z = readL L := by
    unfold Dk.read at *
    split
    · next h => rw [if_pos h] at he; cases he
    · rw [hL]
  rw [hread] at he hr ⊢
  obtain ⟨k1, k2, k3⟩ := readL_ok he
  rw [k3] at hr ⊢
  simp only at hr ⊢
  obtain ⟨N, hN⟩ : ∃ N, N = stN (L.headD []) := ⟨_, rfl⟩
  rw [← hN] at hr k2
  obtain ⟨c, hc⟩ : ∃ c, c = gat L := ⟨_, rfl⟩
  rw [← hc] at k2
  have hlay : layL N c = secs N c := if_neg (by omega)
  rw [hlay] at k2
  have hLm : L = D.secsAt x (manyAt (D.at_ x)) := by
    rw [hL]
    unfold Dk.stands at *
    split
    · next h => rw [if_pos h] at hL; exact absurd hL k1
    · next h =>
      split
      · next h' => rw [if_neg h, if_pos h'] at hL; exact absurd hL k1
      · rfl
  have hN64 : N < 18446744073709551616 := by
    rw [hN]
    cases hLc : L with
    | nil => exact absurd hLc k1
    | cons s K =>
      have hm : s ∈ D.secsAt x (manyAt (D.at_ x)) := by rw [← hLm, hLc]; simp
      obtain ⟨i, _, rfl⟩ := List.mem_map.1 hm
      exact stN_lt (at_len hok _)
  have hget : ∀ i, i < manyAt (D.at_ x) → stN (D.at_ (x + (i : Int))) = N := fun i hi => by
    have g1 := secsAt_get (d := D) (x := x) hi
    have hlen := congrArg List.length hLm
    rw [secsAt_length] at hlen
    rw [← hLm, k2] at g1
    have hi2 : i < spanN c.length := by
      have h2 := congrArg List.length k2
      rw [secs_length] at h2
      omega
    rw [secs_get hi2] at g1
    rw [← Option.some.inj g1]
    exact stN_sec hN64
  have hpre : ∀ i, i < spanN l.length → i < manyAt (D.at_ x) → (D.at_ (x + (i : Int))).take 56 = (secOf n l i).take 56 := fun i hi hi2 => by
    have h1 := hget i hi2
    rcases H i hi with h | h
    · omega
    · exact h
  have hm0 : 0 < manyAt (D.at_ x) := by
    apply Nat.pos_of_ne_zero
    intro e
    rw [e] at hLm
    exact k1 hLm
  have hmany : manyAt (D.at_ x) = spanN l.length := by
    have h0 := hpre 0 (by omega) hm0
    rw [show x + ((0 : Nat) : Int) = x by omega] at h0
    rw [many_take h0, many_sec]
  have hgat : gat L = l := by
    rw [hLm, hmany]
    have : gat (D.secsAt x (spanN l.length)) = gat (secs n l) := by
      unfold gat Dk.secsAt secs
      rw [List.flatMap_map, List.flatMap_map]
      have hall : ∀ i ∈ List.range (spanN l.length), gatS (D.at_ (x + (i : Int))) = gatS (secOf n l i) := fun i hi => gatS_take (hpre i (List.mem_range.1 hi) (by rw [hmany]; exact List.mem_range.1 hi))
      rw [List.flatMap_def, List.flatMap_def]
      congr 1
      exact List.map_congr_left hall
    rw [this, gat_secs hl]
  refine ⟨hgat, ?_⟩
  have := congrArg List.length hLm
  rw [secsAt_length, hmany] at this
  exact this
/-- sectors that were cut off in a queue of some -/
theorem power_qs {d : Dk} {x : Int} {L : List Sec} {keep : List Int} (hq : d.queue = []) (h0 : 0 ≤ x) (h1 : x + (L.length : Int) ≤ d.base.length) (y : Int) :
    (Dk.power { d with queue := qsOf x L } keep).at_ y = if x ≤ y ∧ y < x + (L.length : Int) then cutS (L.getD (y - x).toNat []) (d.at_ y) (keepF keep (y - x).toNat) else d.at_ y := by
  have hb : (Dk.power { d with queue := qsOf x L } keep).base.length = d.base.length := stl_len _ _ _ _
  by_cases hy : 0 ≤ y ∧ y < (d.base.length : Int)
  · rw [at_none (d := Dk.power _ keep) rfl (by rw [hb]; exact hy), at_none hq hy]
    have h := stl_qs (cm := keepF keep) (x := x) (L := L) (b := d.base) h0 h1 L.length (Nat.le_refl _) y hy.1 hy.2
    have e : (Dk.power { d with queue := qsOf x L } keep).base = stl (keepF keep) (qsOf x L) d.base L.length := by
      show stl (keepF keep) (qsOf x L) d.base (qsOf x L).length = _
      rw [qsOf_length]
    rw [e]
    exact h
  · rw [if_neg (by omega)]
    unfold Dk.at_
    rw [hb, if_neg hy, if_neg hy]
end Go.Proofs.YtdfbpaajkpnaeaaGreat
