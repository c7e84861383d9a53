
/- Package stamp: Write. -/
import Derived.Test.YtdfbpaajkpnaeaaGreatSmCF
import Derived.Test.YtdfbpaajkpnaeaaGreatDkX
namespace Go.Proofs.YtdfbpaajkpnaeaaGreat
set_option maxRecDepth 100000
open Go.RowKit Go.Lib

theorem put_base (d : Dk) (x : Int) (s : Sec) : (d.put x s).base = d.base := by
  unfold Dk.put
  split
  · split
    · exact d.spend_base
    · exact d.spend_base
  · rfl
theorem put_queue_le (d : Dk) (x : Int) (s : Sec) : (d.put x s).queue.length ≤ d.queue.length + 1 := by
  unfold Dk.put
  split
  · split
    · show (d.queue ++ [_]).length ≤ _; simp
    · rw [d.spend_queue]; omega
  · omega
/-- sectors, one behind the other, till there is an error -/
def putAll (d : Dk) (x : Int) : List Sec → Dk × Int
  | [] => (d, 0)
  | s :: L => if d.putE x = 0 then putAll (d.put x s) (x + 1) L else (d.put x s, d.putE x)
theorem norm_putAll : ∀ (L : List Sec) (d : Dk) (x : Int), putAll d.norm x L = ((putAll d x L).1.norm, (putAll d x L).2)
  | [], _, _ => rfl
  | s :: L, d, x => by
    unfold putAll
    rw [norm_putE, norm_put, norm_putAll L]
    split <;> rfl
theorem putAll_base : ∀ (L : List Sec) (d : Dk) (x : Int), (putAll d x L).1.base = d.base
  | [], _, _ => rfl
  | s :: L, d, x => by
    unfold putAll
    split
    · rw [putAll_base L, put_base]
    · exact put_base _ _ _
theorem putAll_queue : ∀ (L : List Sec) (d : Dk) (x : Int), (putAll d x L).1.queue.length ≤ d.queue.length + L.length
  | [], _, _ => by simp [putAll]
  | s :: L, d, x => by
    have h1 := put_queue_le d x s
    unfold putAll
    split
    · have := putAll_queue L (d.put x s) (x + 1)
      rw [List.length_cons]; omega
    · rw [List.length_cons]; show (d.put x s).queue.length ≤ _; omega
def Dk.write (d : Dk) (x : Int) (n : Nat) (l : List UInt8) : Dk × Int := if (layL n l).length = 0 then (d, 91) else if x < 0 ∨ (d.base.length : Int) - ((layL n l).length : Int) < x then (d, 81) else putAll d x (layL n l)
theorem norm_write (d : Dk) (x : Int) (n : Nat) (l : List UInt8) : d.norm.write x n l = ((d.write x n l).1.norm, (d.write x n l).2) := by
  unfold Dk.write
  rw [norm_putAll]
  have : d.norm.base.length = d.base.length := rfl
  rw [this]
  split
  · rfl
  · split <;> rfl
theorem layL_length_le (n : Nat) (l : List UInt8) : (layL n l).length ≤ spanN l.length := by
  unfold layL
  split
  · exact Nat.zero_le _
  · exact Nat.le_of_eq (secs_length n l)
theorem write_base (d : Dk) (x : Int) (n : Nat) (l : List UInt8) : (d.write x n l).1.base = d.base := by
  unfold Dk.write
  split
  · rfl
  · split
    · rfl
    · exact putAll_base _ _ _
theorem write_queue (d : Dk) (x : Int) (n : Nat) (l : List UInt8) : (d.write x n l).1.queue.length ≤ d.queue.length + spanN l.length := by
  unfold Dk.write
  split
  · show d.queue.length ≤ _; omega
  · split
    · show d.queue.length ≤ _; omega
    · have := putAll_queue (layL n l) d x
      have := layL_length_le n l
      omega
theorem Did.refl {g : Nat} {F : Nat → Prop} {d : Dk} {w : World} (h : DAt w F g d) : Did g F d w w := ⟨F, h, Only.refl F w, fun _ h => Or.inl h⟩
theorem Did.below {g : Nat} {F : Nat → Prop} {d : Dk} {w w' w'' : World} (h : Did g F d w w') (hb : RowKit.Below w'.heap.size w' w'') : Did g F d w w'' := by
  obtain ⟨F', h1, h2, h3⟩ := h
  exact ⟨F', h1.below hb, h2.trans (Only.of_below hb : Only (fun _ => False) w' w'') (fun _ e => e.elim), h3⟩
theorem Did.pre {g : Nat} {F : Nat → Prop} {d : Dk} {w w1 w' : World} (hb : RowKit.Below w.heap.size w w1) (h : Did g F d w1 w') : Did g F d w w' := by
  obtain ⟨F', h1, h2, h3⟩ := h
  exact ⟨F', h1, (Only.of_below hb : Only F w w1).trans h2 (fun _ e => Or.inl e), fun i hi => (h3 i hi).imp id fun e => Nat.le_trans hb.size e⟩
theorem Only.mono {F G : Nat → Prop} {w w' : World} (h : Only F w w') (hFG : ∀ i, F i → G i) : Only G w w' := ⟨h.os, h.tape, h.output, h.size, fun i hi hn => h.block i hi fun e => hn (hFG i e)⟩
/-- some of the sectors have been put -/
structure Wr (w wr : World) (F : Nat → Prop) (g : Nat) (d : Dk) (x : Int) (L : List Sec) (a : Option Addr) (k : Nat) (F' : Nat → Prop) (dk : Dk) : Prop where
  dt : DAt wr F' g dk
  on : Only F w wr
  fr : ∀ i, F' i → F i ∨ w.heap.size ≤ i
  rw_ : ∀ b, inBlk a b → ¬ F' b ∧ b < wr.heap.size
  li : Lie wr a (scells L)
  all : putAll dk (x + (k : Int)) (L.drop k) = putAll d x L
  bs : dk.base.length = d.base.length
  qn : dk.queue.length ≤ d.queue.length + k
theorem Wr.below {w wr wx : World} {F : Nat → Prop} {g : Nat} {d : Dk} {x : Int} {L : List Sec} {a : Option Addr} {k : Nat} {F' : Nat → Prop} {dk : Dk} (h : Wr w wr F g d x L a k F' dk) (hb : RowKit.Below wr.heap.size wr wx) : Wr w wx F g d x L a k F' dk :=
  ⟨h.dt.below hb, h.on.trans (Only.of_below hb : Only (fun _ => False) wr wx) (fun _ e => e.elim), h.fr, fun b hi => ⟨(h.rw_ b hi).1, Nat.lt_of_lt_of_le (h.rw_ b hi).2 hb.size⟩, h.li.below hb, h.all, h.bs, h.qn⟩
theorem Wr.next {w wr w' : World} {F : Nat → Prop} {g : Nat} {d : Dk} {x : Int} {L : List Sec} {a : Option Addr} {k : Nat} {F' : Nat → Prop} {dk : Dk} (h : Wr w wr F g d x L a k F' dk) {s : Sec} (hs : L[k]? = some s) (he : dk.putE (x + (k : Int)) = 0) (hd : Did g F' (dk.put (x + (k : Int)) s) wr w') : ∃ F'', Wr w w' F g d x L a (k + 1) F'' (dk.put (x + (k : Int)) s) := by
  obtain ⟨F'', h1, h2, h3⟩ := hd
  have hk : k < L.length := (List.getElem?_eq_some_iff.1 hs).1
  refine ⟨F'', h1, h.on.trans h2 h.fr, fun i hi => (h3 i hi).elim (fun e => h.fr i e) fun e => Or.inr (Nat.le_trans h.on.size e), fun b hb => ⟨fun e => (h3 b e).elim (h.rw_ b hb).1 fun e2 => by have := (h.rw_ b hb).2; omega, Nat.lt_of_lt_of_le (h.rw_ b hb).2 h2.size⟩, h.li.same h2.size fun b hb => h2.block b (h.rw_ b hb).2 (h.rw_ b hb).1, ?_, by rw [put_base]; exact h.bs, by have := put_queue_le dk (x + (k : Int)) s; have := h.qn; omega⟩
  rw [← h.all, List.drop_eq_getElem_cons hk]
  have : L[k] = s := by rw [List.getElem?_eq_getElem hk] at hs; exact Option.some.inj hs
  rw [this]
  conv => rhs; unfold putAll
  rw [if_pos he, Int.add_assoc]
  rfl
theorem Wr.stop {w wr w' : World} {F : Nat → Prop} {g : Nat} {d : Dk} {x : Int} {L : List Sec} {a : Option Addr} {k : Nat} {F' : Nat → Prop} {dk : Dk} (h : Wr w wr F g d x L a k F' dk) {s : Sec} (hs : L[k]? = some s) (he : ¬ dk.putE (x + (k : Int)) = 0) (hd : Did g F' (dk.put (x + (k : Int)) s) wr w') : (putAll d x L).2 = dk.putE (x + (k : Int)) ∧ Did g F (putAll d x L).1 w w' := by
  obtain ⟨F'', h1, h2, h3⟩ := hd
  have hk : k < L.length := (List.getElem?_eq_some_iff.1 hs).1
  have e : putAll d x L = (dk.put (x + (k : Int)) s, dk.putE (x + (k : Int))) := by
    rw [← h.all, List.drop_eq_getElem_cons hk]
    have : L[k] = s := by rw [List.getElem?_eq_getElem hk] at hs; exact Option.some.inj hs
    rw [this]
    unfold putAll
    rw [if_neg he]
  rw [e]
  exact ⟨rfl, F'', h1, h.on.trans h2 h.fr, fun i hi => (h3 i hi).elim (fun e => h.fr i e) fun e => Or.inr (Nat.le_trans h.on.size e)⟩
theorem Wr.done {w wr : World} {F : Nat → Prop} {g : Nat} {d : Dk} {x : Int} {L : List Sec} {a : Option Addr} {F' : Nat → Prop} {dk : Dk} (h : Wr w wr F g d x L a L.length F' dk) : (putAll d x L).2 = 0 ∧ Did g F (putAll d x L).1 w wr := by
  have e := h.all
  rw [List.drop_length] at e
  rw [← e]
  exact ⟨rfl, F', h.dt, h.on, h.fr⟩
def WriteRes (g : Nat) (F : Nat → Prop) (d : Dk) (x : Int) (n : Nat) (l : List UInt8) (w : World) (e : Ending) (w' : World) : Prop := e = .returned (.int .i64 (d.write x n l).2) ∧ Did g F (d.write x n l).1 w w'
set_option maxRecDepth 100000 in
set_option maxHeartbeats 3200000 in
theorem write_any (g : Nat) (F : Nat → Prop) (d : Dk) (x : Int) (n : Nat) (l : List UInt8) (a : Option Addr) (len cap : Nat) (w : World) (h : DAt w F g d) (hx : I x) (hn : n < 18446744073709551616) (hb : BAt w a l) (hl : l.length = len) (hc : len ≤ cap) (hq : d.queue.length + spanN len < 10000) :
    Calls Tryz.prog 50 #[.pointer (some ⟨g, 0, none⟩), .int .i64 x, .int .u64 (n : Int), .slice a len cap] w (WriteRes g F d x n l w) := by
  have HD := Lib.hid h
  have HX := Lib.hid hx
  have HLAY := Lib.hid (lay_any n l a len cap w hn hb hl hc)
  obtain ⟨L, hL⟩ : ∃ L, L = layL n l := ⟨_, rfl⟩
  have HLE := Lib.hid hL
  have HL64 := Lib.hid (layL_64 n l)
  have hLN : L.length ≤ 255 := by rw [hL]; exact Nat.le_trans (layL_length_le n l) (spanN_le _)
  have HQ := Lib.hid (show d.queue.length + L.length < 10000 by rw [hL]; have := layL_length_le n l; rw [hl] at this; omega)
  rw [← hL] at HLAY HL64
  have HW := Lib.hid (show d.write x n l = if L.length = 0 then (d, 91) else if x < 0 ∨ (d.base.length : Int) - (L.length : Int) < x then (d, 81) else putAll d x L by rw [hL]; rfl)
  have hsz := h.ok.sz
  obtain ⟨N, hN⟩ : ∃ N, N = d.base.length := ⟨_, rfl⟩
  obtain ⟨M, hM⟩ : ∃ M, M = L.length := ⟨_, rfl⟩
  have HN := Lib.hid hN
  have HM := Lib.hid hM
  have HSZ := Lib.hid (fun (W : World) (hb : RowKit.Below w.heap.size w W) => size_at g F d W (h.below hb))
  rw [← hM] at hLN HW
  rw [← hN] at hsz HW
  clear h hx hn hb hl hc hq hL hN hM
  go_enter Tryz.func50, Tryz.ntmps50
  go_wp2_with fail
  refine HLAY.out.mono ?_
  rintro _ w1 ⟨a1, c1, rfl, hli, hna, hin, hb1⟩
  have HLI := Lib.hid hli
  have HNA := Lib.hid hna
  have HIN := Lib.hid hin
  have HB1 := Lib.hid hb1
  rw [← HM.out]
  clear hli hna hin hb1
  by_cases hM0 : M = 0
  · subst hM0
    have HR := Lib.hid (show WriteRes g F d x n l w (.returned (.int .i64 91)) w1 from by
      unfold WriteRes
      rw [HW.out, if_pos rfl]
      exact ⟨rfl, (Did.refl HD.out).below HB1.out⟩)
    go_wp2
    go_ret
    exact HR.out
  · have d0 : ((M : Int) == 0) = false := by simp; exact hM0
    have HM0 := Lib.hid hM0
    clear hM0
    have hcs : x < 0 ∨ (0 ≤ x ∧ (N : Int) - (M : Int) < x) ∨ (0 ≤ x ∧ x ≤ (N : Int) - (M : Int)) := by omega
    rcases hcs with hx0 | ⟨hx0, hx1⟩ | ⟨hx0, hx1⟩
    · have HR := Lib.hid (show WriteRes g F d x n l w (.returned (.int .i64 81)) w1 from by
        unfold WriteRes
        rw [HW.out, if_neg HM0.out, if_pos (Or.inl hx0)]
        exact ⟨rfl, (Did.refl HD.out).below HB1.out⟩)
      have d1 : decide (x < 0) = true := by simpa using hx0
      clear hx0
      go_wp2
      go_ret
      exact HR.out
    · have HR := Lib.hid (show WriteRes g F d x n l w (.returned (.int .i64 81)) w1 from by
        unfold WriteRes
        rw [HW.out, if_neg HM0.out, if_pos (Or.inr hx1)]
        exact ⟨rfl, (Did.refl HD.out).below HB1.out⟩)
      have d1 : decide (x < 0) = false := by simp; omega
      have d2 : decide ((N : Int) - (M : Int) < x) = true := by simpa using hx1
      clear hx0 hx1
      go_wp2_with fail
      refine (HSZ.out _ HB1.out).mono ?_
      rintro _ _ ⟨rfl, rfl⟩
      rw [← HN.out]
      go_wp2
      go_ret
      exact HR.out
    · have HW2 := Lib.hid (show d.write x n l = putAll d x L by rw [HW.out, if_neg HM0.out, if_neg (by omega)])
      have d1 : decide (x < 0) = false := by simp; omega
      have d2 : decide ((N : Int) - (M : Int) < x) = false := by simp; omega
      have HX0 := Lib.hid (And.intro hx0 hx1)
      have HS0 := Lib.hid (show Wr w w1 F g d x L a1 0 F d from ⟨HD.out.below HB1.out, Only.of_below HB1.out, fun _ h => Or.inl h, fun b hb => ⟨fun e => by have := HD.out.fl _ e; have := (HIN.out b hb).1; omega, (HIN.out b hb).2⟩, HLI.out, by simp, rfl, by omega⟩)
      clear hx0 hx1
      go_wp2_with fail
      refine (HSZ.out _ HB1.out).mono ?_
      rintro _ _ ⟨rfl, rfl⟩
      rw [← HN.out]
      go_wp2
      go_loopw [32] (fun c32 wr => ∃ (k : Nat) (F' : Nat → Prop) (dk : Dk), c32 = .int .i64 (k : Int) ∧ k ≤ M ∧ Wr w wr F g d x L a1 k F' dk) (fun c32 _ => M - (match c32 with | .int _ q => q | _ => 0).toNat)
      case atStart => exact ⟨0, F, d, rfl, Nat.zero_le _, HS0.out⟩
      case round =>
        clear d0 d1 d2
        obtain ⟨k, F', dk, rfl, hk, hwr⟩ := hrel
        have HWR := Lib.hid hwr
        clear hwr
        by_cases hlt : k < M
        · obtain ⟨s, hs⟩ : ∃ s, L[k]? = some s := ⟨_, List.getElem?_eq_getElem (by rw [← HM.out]; exact hlt)⟩
          have HS := Lib.hid hs
          have h64 : s.length = 64 := HL64.out s (List.mem_of_getElem? hs)
          have H64 := Lib.hid h64
          obtain ⟨bb, ob, ha1, hbb, hrb⟩ := HWR.out.li.get (f := bcells) (n := 64) (fun s hs => cells_len s (HL64.out s hs)) (by decide) hs
          obtain ⟨c, hc⟩ : ∃ c, c = bcells s := ⟨_, rfl⟩
          have HC := Lib.hid hc
          rw [← hc] at hrb
          have HRB := Lib.hid hrb
          have HCC := Lib.hid (show Cs 64 c by rw [hc]; exact cs_sec h64)
          obtain ⟨w4, hw4⟩ : ∃ w4, w4 = wr.alloc (.cells c.toArray 88) := ⟨_, rfl⟩
          have HW4 := Lib.hid (show (wr.alloc (.cells zc.toArray 88)).setRow wr.heap.size c.toArray = w4 by rw [hw4]; exact setRow_new rfl)
          have HAL := Lib.hid (heap_alloc_new wr (.cells zc.toArray 88))
          have HP4 := Lib.hid (show w4.heap[wr.heap.size]? = some (.cells c.toArray 88) by rw [hw4]; exact blkn rfl)
          have hb4 : RowKit.Below wr.heap.size wr w4 := by rw [hw4]; exact (RowKit.Below.refl _ _).alloc (Nat.le_refl _) _
          have HWR4 := Lib.hid (HWR.out.below hb4)
          obtain ⟨y, hy⟩ : ∃ y, y = x + (k : Int) := ⟨_, rfl⟩
          have HY := Lib.hid hy
          have HPUT := Lib.hid (put_any g F' dk y s w4 HWR4.out.dt (by obtain ⟨q1, q2⟩ := HX0.out; rw [hy]; unfold I; omega) h64 (by have := HWR.out.qn; have := HQ.out; rw [← HM.out] at this; omega))
          rw [← hc] at HPUT
          have hy2 : IntKind.i64.wrap (x + (k : Int)) = y := by rw [← hy]; exact IntWalk.i64_in _ (by obtain ⟨q1, q2⟩ := HX0.out; omega)
          subst ha1
          clear hs h64 hbb hc hrb hw4 hb4 hy
          go_wp2_with (first | ((with_reducible refine wpList_storeW rfl isS _ _ rfl wr.heap.size c zc.toArray _ rfl rfl HAL.out HCC.out (by simp [zc_len]) ?_); rw [HW4.out]) | (with_reducible refine wpList_allocA rfl isS rfl ?_) | (with_reducible refine wpList_idx elS rfl _ _ rfl k rfl rfl rfl hlt ?_) | (with_reducible refine wpList_loadM rfl isS _ rfl bb (ob + k * 64) c rfl HRB.out HCC.out ?_) | (with_reducible refine wpList_loadW rfl isS _ rfl wr.heap.size c _ rfl HP4.out HCC.out ?_))
          refine HPUT.out.mono ?_
          rintro _ w5 ⟨rfl, hdid⟩
          have HDI := Lib.hid hdid
          clear hdid
          obtain ⟨E, hE⟩ : ∃ E, E = dk.putE y := ⟨_, rfl⟩
          rw [← hE]
          have HE := Lib.hid hE
          clear hE
          by_cases he : E = 0
          · subst he
            have HNX := Lib.hid (HWR4.out.next HS.out (by rw [← HY.out]; exact HE.out.symm) (by rw [← HY.out]; exact HDI.out))
            go_wp2
            go_roundw
            case rel =>
              obtain ⟨F'', hF''⟩ := HNX.out
              exact ⟨k + 1, F'', _, by go_num, by omega, hF''⟩
            case measure => simp; omega
          · have d3 : (E == 0) = false := by simpa using he
            have HST := Lib.hid (HWR4.out.stop HS.out (by rw [← HY.out, ← HE.out]; exact he) (by rw [← HY.out]; exact HDI.out))
            have HR := Lib.hid (show WriteRes g F d x n l w (.returned (.int .i64 E)) w5 from by
              unfold WriteRes
              rw [HW2.out, HST.out.1, ← HY.out, ← HE.out]
              exact ⟨rfl, HST.out.2⟩)
            clear he
            go_wp2
            try rw [Exit.noGoto_ret]
            go_ret
            exact HR.out
        · obtain rfl : k = M := by omega
          have HDN := Lib.hid (show (putAll d x L).2 = 0 ∧ Did g F (putAll d x L).1 w wr from by
            have := HWR.out
            rw [HM.out] at this
            exact this.done)
          have HR := Lib.hid (show WriteRes g F d x n l w (.returned (.int .i64 0)) wr from by
            unfold WriteRes
            rw [HW2.out]
            exact ⟨by rw [HDN.out.1], HDN.out.2⟩)
          clear hk hlt
          go_wp2
          go_ret
          exact HR.out
end Go.Proofs.YtdfbpaajkpnaeaaGreat
