/- falseworkref09: Put. -/
import Derived.Test.YtoibonalgmmkbaaSmV
namespace Go.Proofs.Ytoibonalgmmkbaa
open Go.RowKit Go.Lib

theorem RM.sub {w : World} {F G : Nat → Prop} {r : Dk} {a0 a1 : Option Addr} (h : RM w G r a0 a1) (hFG : ∀ i, F i → G i) : RM w F r a0 a1 :=
  ⟨h.ok, h.bs, h.b0, h.qs, h.q0, fun b hb e => h.o0 b hb (hFG b e), fun b hb e => h.o1 b hb (hFG b e), h.l0, h.l1⟩
theorem RM.grow {w w' : World} {F : Nat → Prop} {r : Dk} {a0 a1 : Option Addr} (h : RM w F r a0 a1) (hb : RowKit.Below w.heap.size w w') : RM w' (fun i => F i ∨ w.heap.size ≤ i) r a0 a1 := by
  have k := h.below hb
  exact ⟨k.ok, k.bs, k.b0, k.qs, k.q0, fun b hi e => e.elim (h.o0 b hi) fun e2 => by have := h.l0 b hi; omega, fun b hi e => e.elim (h.o1 b hi) fun e2 => by have := h.l1 b hi; omega, k.l0, k.l1⟩
theorem RM.same {w w' : World} {F : Nat → Prop} {r : Dk} {a0 a1 : Option Addr} (h : RM w F r a0 a1) (ho : Only F w w') : RM w' F r a0 a1 := h.other ho fun _ e => Or.inl e
theorem putAll_step {dk : Dk} {y : Int} {L : List Sec} {k : Nat} {s : Sec} (hs : L[k]? = some s) : putAll dk y (L.drop k) = if dk.putE y = 0 then putAll (dk.put y s) (y + 1) (L.drop (k + 1)) else (dk.put y s, dk.putE y) := by
  have hk : k < L.length := (List.getElem?_eq_some_iff.1 hs).1
  rw [List.drop_eq_getElem_cons hk]
  have : L[k] = s := by rw [List.getElem?_eq_getElem hk] at hs; exact Option.some.inj hs
  rw [this]
  rfl
theorem only_row {w : World} {g : Nat} {cs : Array Value} {F : Nat → Prop} (hF : F g) : Only F w (w.setRow g cs) :=
  ⟨rfl, rfl, rfl, by rw [size_setRow]; exact Nat.le_refl _, fun i _ hn => setRow_other _ _ _ _ (fun e => hn (e ▸ hF))⟩
def zD : List Value := [.slice none 0 0, .slice none 0 0, .int .i64 0, .bool false]
/-- some of the sectors have been put -/
structure PW (w wr : World) (G : Nat → Prop) (r : Dk) (x : Int) (L : List Sec) (b4 b8 : Nat) (a5 : Option Addr) (k : Nat) (dk : Dk) (a0 : Option Addr) (c0 : Nat) (a1 : Option Addr) (c1 : Nat) : Prop where
  h4 : wr.heap[b4]? = some (.cells (rcs dk a0 c0 a1 c1).toArray 37)
  h8 : wr.heap[b8]? = some (.cells zD.toArray 37)
  rm : RM wr G dk a0 a1
  li : Lie wr a5 (scells L)
  bl : RowKit.Below w.heap.size w wr
  all : putAll dk (x + (k : Int)) (L.drop k) = putAll r x L
  bs : dk.base.length = r.base.length
  qn : dk.queue.length ≤ r.queue.length + k
def RWriteRes (F : Nat → Prop) (r : Dk) (x : Int) (n : Nat) (l : List UInt8) (w : World) (e : Ending) (w' : World) : Prop :=
  ∃ a0 c0 a1 c1, e = .returned (.tuple #[.agg (rcs (r.write x n l).1 a0 c0 a1 c1).toArray, .int .i64 (r.write x n l).2]) ∧ RM w' F (r.write x n l).1 a0 a1 ∧ RowKit.Below w.heap.size w w'
set_option maxRecDepth 100000 in
set_option maxHeartbeats 6400000 in
theorem rwrite_any (r : Dk) (a0 : Option Addr) (c0 : Nat) (a1 : Option Addr) (c1 : Nat) (F : Nat → Prop) (x : Int) (n : Nat) (l : List UInt8) (a : Option Addr) (len cap : Nat) (w : World) (hF : ∀ i, F i → i < w.heap.size) (h : RM w F r a0 a1) (hx : I x) (hn : n < 18446744073709551616) (hb : BAt w a l) (hl : l.length = len) (hI : I (len : Int)) (hq : r.queue.length + spanN len < 1000) :
    Calls Try.prog 14 #[.agg (rcs r a0 c0 a1 c1).toArray, .int .i64 x, .int .u64 (n : Int), .slice a len cap] w (RWriteRes F r x n l w) := by
  have HI := Lib.hid hI
  have HX := Lib.hid hx
  have HL := Lib.hid hl
  have HN := Lib.hid hn
  have HQ := Lib.hid hq
  have HM := Lib.hid h
  obtain ⟨R, hR⟩ : ∃ R, R = rcs r a0 c0 a1 c1 := ⟨_, rfl⟩
  have HRE := Lib.hid hR
  have HRC := Lib.hid (show Cs 4 R by rw [hR]; exact rcs_cs _ _ _ _ _)
  obtain ⟨w3, hw3⟩ : ∃ w3, w3 = (w.alloc (.cells R.toArray 37)).alloc (.cells zD.toArray 37) := ⟨_, rfl⟩
  have HW3 := Lib.hid hw3
  have HB3 := Lib.hid (show RowKit.Below w.heap.size w w3 by rw [hw3]; exact ((RowKit.Below.refl _ _).alloc (Nat.le_refl _) _).alloc (by simp) _)
  have HS3 := Lib.hid (show w3.heap.size = w.heap.size + 2 by rw [hw3]; simp)
  have HP4 := Lib.hid (show w3.heap[w.heap.size]? = some (.cells R.toArray 37) by rw [hw3]; exact blk_in (blkn rfl))
  have HP8 := Lib.hid (show w3.heap[w.heap.size + 1]? = some (.cells zD.toArray 37) by rw [hw3]; exact blkn (by simp))
  have HB := Lib.hid (hb.below HB3.out)
  have HGG := Lib.hid (show RM w3 (fun i => F i ∨ i = w.heap.size ∨ i = w.heap.size + 1) r a0 a1 from (h.grow HB3.out).sub (fun i e => by rcases e with e | e | e; exact Or.inl e; exact Or.inr (by omega); exact Or.inr (by omega)))
  have HFL := Lib.hid hF
  have HAW := Lib.hid (show (w.alloc (.cells R.toArray 37)).alloc (.cells [Value.slice none 0 0, .slice none 0 0, .int .i64 0, .bool false].toArray 37) = w3 from hw3.symm)
  have HSPI := Lib.hid (show ∀ W, Calls Try.prog 24 #[.int .i64 (len : Int)] W fun e W' => e = .returned (.int .i64 (spanN len : Int)) ∧ W = W' from fun W => by
    have := rspan_any (len : Int) W
    rwa [spanI_nat] at this)
  obtain ⟨N, hN⟩ : ∃ N, N = spanN len := ⟨_, rfl⟩
  have HNE := Lib.hid hN
  rw [← hN] at HSPI
  have q40 : w3.cell? ⟨w.heap.size, 0, none⟩ = some (.slice a0 r.base.length c0) := by rw [cell_of_row _ _ _ _ _ _ HP4.out, HRE.out]; rfl
  have HSZ := Lib.hid h.ok.sz
  rw [← hR]
  clear hI hx hl hn hq h hR hw3 hb hN hF
  have hcs : n = 0 ∨ (n ≠ 0 ∧ N = 0) ∨ (n ≠ 0 ∧ N ≠ 0) := by omega
  rcases hcs with h0 | ⟨h0, hN0⟩ | ⟨h0, hN0⟩
  · subst h0
    go_enter Try.func14, Try.ntmps14
    have e : r.write x 0 l = (r, 91) := by unfold Dk.write layL; rw [if_pos (by rw [if_pos rfl]; rfl)]
    have HE := Lib.hid e
    clear q40 e
    go_wp2_with (first | (with_reducible refine wpList_boxA rfl _ _ rfl _ rfl ?_) | ((with_reducible refine wpList_allocA rfl isD rfl ?_); rw [HAW.out]) | (with_reducible refine wpList_loadW rfl isD _ rfl w.heap.size R _ rfl HP4.out HRC.out ?_) | (with_reducible refine wpList_storeW rfl isD _ _ rfl (w.heap.size + 1) R zD.toArray _ rfl rfl HP8.out HRC.out rfl ?_))
    refine ret_cell_slot isD rfl rfl rfl (setRow_heap _ _ _ _ _ _ HP8.out) HRC.out rfl ?_
    unfold RWriteRes
    rw [HE.out]
    exact ⟨a0, c0, a1, c1, by rw [HRE.out]; rfl, (HGG.out.same (only_row (Or.inr (Or.inr rfl)))).sub (fun _ e => Or.inl e), below_setRow HB3.out (Nat.le_succ _)⟩
  · subst hN0
    have d0 : ((n : Int) == 0) = false := by simp; exact h0
    have e : r.write x n l = (r, 91) := by
      unfold Dk.write
      have h1 := layL_length_le n l
      rw [HL.out, ← HNE.out] at h1
      rw [if_pos (by omega)]
    have HE := Lib.hid e
    clear q40 e h0
    go_enter Try.func14, Try.ntmps14
    go_wp2_with (first | (with_reducible refine wpList_boxA rfl _ _ rfl _ rfl ?_) | ((with_reducible refine wpList_allocA rfl isD rfl ?_); rw [HAW.out]))
    refine (HSPI.out _).mono ?_
    rintro _ _ ⟨rfl, rfl⟩
    go_wp2_with (first | (with_reducible refine wpList_loadW rfl isD _ rfl w.heap.size R _ rfl HP4.out HRC.out ?_) | (with_reducible refine wpList_storeW rfl isD _ _ rfl (w.heap.size + 1) R zD.toArray _ rfl rfl HP8.out HRC.out rfl ?_))
    refine ret_cell_slot isD rfl rfl rfl (setRow_heap _ _ _ _ _ _ HP8.out) HRC.out rfl ?_
    unfold RWriteRes
    rw [HE.out]
    exact ⟨a0, c0, a1, c1, by rw [HRE.out]; rfl, (HGG.out.same (only_row (Or.inr (Or.inr rfl)))).sub (fun _ e => Or.inl e), below_setRow HB3.out (Nat.le_succ _)⟩
  · have d0 : ((n : Int) == 0) = false := by simp; exact h0
    have d1 : ((N : Int) == 0) = false := by simp; exact hN0
    have hln : len ≤ 13515 := by
      apply Classical.byContradiction; intro hc
      have : spanN len = 0 := by unfold spanN; rw [if_neg hc]
      rw [← HNE.out] at this; exact hN0 this
    have HRS := Lib.hid (rsectors_any n l a len cap w3 HN.out HB.out HL.out hln)
    obtain ⟨L, hL⟩ : ∃ L, L = secs n l := ⟨_, rfl⟩
    have HLE := Lib.hid hL
    have HLL := Lib.hid (show L.length = N by rw [hL, secs_length, HL.out, HNE.out])
    have HL64 := Lib.hid (show ∀ s ∈ L, s.length = 64 by rw [hL]; exact secs_64 n l)
    have HN255 := Lib.hid (show N ≤ 255 by rw [HNE.out]; exact spanN_le _)
    have HW := Lib.hid (show r.write x n l = if x < 0 ∨ (r.base.length : Int) - (N : Int) < x then (r, 81) else putAll r x L by
      have e : layL n l = L := by rw [hL]; exact if_neg h0
      unfold Dk.write
      rw [e, HLL.out, if_neg hN0])
    rw [← hL] at HRS
    clear h0 hN0 hln hL
    go_enter Try.func14, Try.ntmps14
    go_wp2_with (first | (with_reducible refine wpList_boxA rfl _ _ rfl _ rfl ?_) | ((with_reducible refine wpList_allocA rfl isD rfl ?_); rw [HAW.out]))
    refine (HSPI.out _).mono ?_
    rintro _ _ ⟨rfl, rfl⟩
    go_wp2_with fail
    refine HRS.out.mono ?_
    rintro _ w5 ⟨a5, c5, rfl, hli, _, hin, hb5⟩
    have HLI := Lib.hid hli
    have HIN := Lib.hid (show ∀ b, inBlk a5 b → w.heap.size + 2 ≤ b from fun b hb => by have := (hin b hb).1; rw [HS3.out] at this; exact this)
    have HB5 := Lib.hid (HB3.out.trans (hb5.mono HB3.out.size))
    have HP45 := Lib.hid ((hb5.block _ (lt_of_heap HP4.out)).trans HP4.out)
    have HP85 := Lib.hid ((hb5.block _ (lt_of_heap HP8.out)).trans HP8.out)
    have HG5 := Lib.hid (HGG.out.below hb5)
    have q5 := cell_bl q40 hb5
    obtain ⟨B, hBB⟩ : ∃ B, B = r.base.length := ⟨_, rfl⟩
    have HBB := Lib.hid hBB
    rw [← hBB] at q5 HW
    rw [HLL.out]
    have HB2048 := Lib.hid (show B ≤ 2048 by rw [hBB]; exact HSZ.out)
    have hB2048 := HB2048.out
    have hN255 := HN255.out
    clear hli hin hb5 q40 hBB
    have hcs : x < 0 ∨ (0 ≤ x ∧ (B : Int) - (N : Int) < x) ∨ (0 ≤ x ∧ x ≤ (B : Int) - (N : Int)) := by omega
    rcases hcs with hx0 | ⟨hx0, hx1⟩ | ⟨hx0, hx1⟩
    · have e1 : decide (x < 0) = true := by simpa using hx0
      have HE := Lib.hid (show r.write x n l = (r, 81) by rw [HW.out, if_pos (Or.inl hx0)])
      clear hx0
      go_wp2_with (first | (with_reducible refine wpList_loadW rfl isD _ rfl w.heap.size R _ rfl HP45.out HRC.out ?_) | (with_reducible refine wpList_storeW rfl isD _ _ rfl (w.heap.size + 1) R zD.toArray _ rfl rfl HP85.out HRC.out rfl ?_))
      refine ret_cell_slot isD rfl rfl rfl (setRow_heap _ _ _ _ _ _ HP85.out) HRC.out rfl ?_
      unfold RWriteRes
      rw [HE.out]
      exact ⟨a0, c0, a1, c1, by rw [HRE.out]; rfl, (HG5.out.same (only_row (Or.inr (Or.inr rfl)))).sub (fun _ e => Or.inl e), below_setRow HB5.out (Nat.le_succ _)⟩
    · have e1 : decide (x < 0) = false := by simp; omega
      have e2 : decide ((B : Int) - (N : Int) < x) = true := by simpa using hx1
      have HE := Lib.hid (show r.write x n l = (r, 81) by rw [HW.out, if_pos (Or.inr hx1)])
      clear hx0 hx1
      go_wp2_with (first | (with_reducible refine wpList_loadW rfl isD _ rfl w.heap.size R _ rfl HP45.out HRC.out ?_) | (with_reducible refine wpList_storeW rfl isD _ _ rfl (w.heap.size + 1) R zD.toArray _ rfl rfl HP85.out HRC.out rfl ?_))
      refine ret_cell_slot isD rfl rfl rfl (setRow_heap _ _ _ _ _ _ HP85.out) HRC.out rfl ?_
      unfold RWriteRes
      rw [HE.out]
      exact ⟨a0, c0, a1, c1, by rw [HRE.out]; rfl, (HG5.out.same (only_row (Or.inr (Or.inr rfl)))).sub (fun _ e => Or.inl e), below_setRow HB5.out (Nat.le_succ _)⟩
    · have e1 : decide (x < 0) = false := by simp; omega
      have e2 : decide ((B : Int) - (N : Int) < x) = false := by simp; omega
      have HE := Lib.hid (show r.write x n l = putAll r x L by rw [HW.out, if_neg (by omega)])
      have HXB := Lib.hid (And.intro hx0 hx1)
      have HS0 := Lib.hid (show PW w w5 (fun i => F i ∨ i = w.heap.size ∨ i = w.heap.size + 1) r x L w.heap.size (w.heap.size + 1) a5 0 r a0 c0 a1 c1 from ⟨by rw [← HRE.out]; exact HP45.out, HP85.out, HG5.out, HLI.out, HB5.out, by simp, rfl, by omega⟩)
      clear hx0 hx1 q5
      have q5 : w5.cell? ⟨w.heap.size, 0, none⟩ = some (.slice a0 B c0) := by rw [cell_of_row _ _ _ _ _ _ HP45.out, HRE.out, HBB.out]; rfl
      go_wp2_with fail
      clear q5 e1 e2 d0 d1
      go_loopw [42] (fun c42 wr => ∃ (k : Nat) (dk : Dk) (A0 : Option Addr) (C0 : Nat) (A1 : Option Addr) (C1 : Nat), c42 = .int .i64 (k : Int) ∧ k ≤ N ∧ PW w wr (fun i => F i ∨ i = w.heap.size ∨ i = w.heap.size + 1) r x L w.heap.size (w.heap.size + 1) a5 k dk A0 C0 A1 C1) (fun c42 _ => N - (match c42 with | .int _ q => q | _ => 0).toNat)
      case atStart => exact ⟨0, r, a0, c0, a1, c1, rfl, Nat.zero_le _, HS0.out⟩
      case round =>
        obtain ⟨k, dk, A0, C0, A1, C1, rfl, hk, hpw⟩ := hrel
        have HPW := Lib.hid hpw
        obtain ⟨D, hD⟩ : ∃ D, D = rcs dk A0 C0 A1 C1 := ⟨_, rfl⟩
        have HDE := Lib.hid hD
        have HDC := Lib.hid (show Cs 4 D by rw [hD]; exact rcs_cs _ _ _ _ _)
        have HP4 := Lib.hid hpw.h4
        rw [← hD] at HP4
        have HP8 := Lib.hid hpw.h8
        clear hpw hD
        by_cases hlt : k < N
        · obtain ⟨s, hs⟩ : ∃ s, L[k]? = some s := ⟨_, List.getElem?_eq_getElem (by rw [HLL.out]; exact hlt)⟩
          have HSS := Lib.hid hs
          have h64 : s.length = 64 := HL64.out s (List.mem_of_getElem? hs)
          obtain ⟨bb, ob, ha5, hbb, hrb⟩ := HPW.out.li.get (f := bcells) (n := 64) (fun s hs => cells_len s (HL64.out s hs)) (by decide) hs
          obtain ⟨c, hc⟩ : ∃ c, c = bcells s := ⟨_, rfl⟩
          rw [← hc] at hrb
          have HRB := Lib.hid hrb
          have HCC := Lib.hid (show Cs 64 c by rw [hc]; exact cs_sec h64)
          obtain ⟨w6, hw6⟩ : ∃ w6, w6 = wr.alloc (.cells c.toArray 59) := ⟨_, rfl⟩
          have HW6 := Lib.hid (show (wr.alloc (.cells zc.toArray 59)).setRow wr.heap.size c.toArray = w6 by rw [hw6]; exact setRow_new rfl)
          have HAL6 := Lib.hid (heap_alloc_new wr (.cells zc.toArray 59))
          have hb6 : RowKit.Below wr.heap.size wr w6 := by rw [hw6]; exact (RowKit.Below.refl _ _).alloc (Nat.le_refl _) _
          have HP12 := Lib.hid (show w6.heap[wr.heap.size]? = some (.cells c.toArray 59) by rw [hw6]; exact blkn rfl)
          have HP46 := Lib.hid ((hb6.block _ (lt_of_heap HP4.out)).trans HP4.out)
          have HB6 := Lib.hid (HPW.out.bl.trans (hb6.mono HPW.out.bl.size))
          obtain ⟨y, hy⟩ : ∃ y, y = x + (k : Int) := ⟨_, rfl⟩
          have HY := Lib.hid hy
          have hy2 : IntKind.i64.wrap (x + (k : Int)) = y := by rw [← hy]; exact IntWalk.i64_in _ (by obtain ⟨q1, q2⟩ := HXB.out; omega)
          have HBW := Lib.hid hb6
          have HPUT := Lib.hid (rput_any dk A0 C0 A1 C1 (fun i => F i ∨ i = w.heap.size ∨ i = w.heap.size + 1) y s w6 (fun i e => by
            have h1 := HPW.out.bl.size
            have h2 := lt_of_heap HP8.out
            have h3 := hb6.size
            rcases e with e | e | e
            · have := HFL.out i e; omega
            · omega
            · omega) (HPW.out.rm.below hb6) (by obtain ⟨q1, q2⟩ := HXB.out; rw [hy]; unfold I; omega) h64 (by have := HPW.out.qn; have := HQ.out; rw [← HNE.out] at this; omega))
          rw [← HDE.out, ← hc] at HPUT
          subst ha5
          clear hs h64 hbb hc hrb hw6 hb6 hy
          go_wp2_with (first | ((with_reducible refine wpList_storeW rfl isS _ _ rfl wr.heap.size c zc.toArray _ rfl rfl HAL6.out HCC.out (by simp [zc_len]) ?_); rw [HW6.out]) | (with_reducible refine wpList_allocA rfl isS rfl ?_) | (with_reducible refine wpList_idx elS rfl _ _ rfl k rfl rfl rfl hlt ?_) | (with_reducible refine wpList_loadM rfl isS _ rfl bb (ob + k * 64) c rfl HRB.out HCC.out ?_) | (with_reducible refine wpList_loadW rfl isD _ rfl w.heap.size D _ rfl HP46.out HDC.out ?_) | (with_reducible refine wpList_loadW rfl isS _ rfl wr.heap.size c _ rfl HP12.out HCC.out ?_))
          refine HPUT.out.mono ?_
          rintro _ w7 ⟨A0', C0', A1', C1', rfl, hrm7, hb7⟩
          obtain ⟨E, hE⟩ : ∃ E, E = dk.putE y := ⟨_, rfl⟩
          obtain ⟨D', hD'⟩ : ∃ D', D' = rcs (dk.put y s) A0' C0' A1' C1' := ⟨_, rfl⟩
          have HEE := Lib.hid hE
          have HDE' := Lib.hid hD'
          have HDC' := Lib.hid (show Cs 4 D' by rw [hD']; exact rcs_cs _ _ _ _ _)
          rw [← hE, ← hD']
          obtain ⟨w8, hw8⟩ : ∃ w8, w8 = w7.alloc (.cells D'.toArray 37) := ⟨_, rfl⟩
          obtain ⟨wz, hwz⟩ : ∃ wz, wz = w7.alloc (.cells zD.toArray 37) := ⟨_, rfl⟩
          have HWZ := Lib.hid (show w7.alloc (.cells [Value.slice none 0 0, .slice none 0 0, .int .i64 0, .bool false].toArray 37) = wz from hwz.symm)
          have HW8 := Lib.hid (show wz.setRow w7.heap.size D'.toArray = w8 by rw [hw8, hwz]; exact setRow_new rfl)
          have HAL8 := Lib.hid (show wz.heap[w7.heap.size]? = some (.cells zD.toArray 37) by rw [hwz]; exact heap_alloc_new w7 _)
          clear hwz
          have hb8 : RowKit.Below w7.heap.size w7 w8 := by rw [hw8]; exact (RowKit.Below.refl _ _).alloc (Nat.le_refl _) _
          have hb68 := hb7.trans (hb8.mono hb7.size)
          have hbr8 := HBW.out.trans (hb68.mono HBW.out.size)
          have HP13 := Lib.hid (show w8.heap[w7.heap.size]? = some (.cells D'.toArray 37) by rw [hw8]; exact blkn rfl)
          have HP48 := Lib.hid ((hbr8.block _ (lt_of_heap HP4.out)).trans HP4.out)
          have HP88 := Lib.hid ((hbr8.block _ (lt_of_heap HP8.out)).trans HP8.out)
          have HDS := Lib.hid (show D.toArray.size = 4 by rw [List.size_toArray]; exact HDC.out.len)
          obtain ⟨w9, hw9⟩ : ∃ w9, w9 = w8.setRow w.heap.size D'.toArray := ⟨_, rfl⟩
          have HW9 := Lib.hid hw9.symm
          have HP49 := Lib.hid (show w9.heap[w.heap.size]? = some (.cells D'.toArray 37) by rw [hw9]; exact setRow_heap _ _ _ _ _ _ HP48.out)
          have HP89 := Lib.hid (show w9.heap[w.heap.size + 1]? = some (.cells zD.toArray 37) by rw [hw9]; exact (setRow_other _ _ _ _ (by omega)).trans HP88.out)
          have HON := Lib.hid (show Only (fun i => F i ∨ i = w.heap.size ∨ i = w.heap.size + 1) w8 w9 by rw [hw9]; exact only_row (Or.inr (Or.inl rfl)))
          have HRM9 := Lib.hid ((hrm7.below hb8).same HON.out)
          have HB8 := Lib.hid (HPW.out.bl.trans (hbr8.mono HPW.out.bl.size))
          have HB9 := Lib.hid (show RowKit.Below w.heap.size w w9 by rw [hw9]; exact below_setRow HB8.out (Nat.le_refl _))
          have HLI9 := Lib.hid (show Lie w9 (some ⟨bb, ob, none⟩) (scells L) from (HPW.out.li.below hbr8).same HON.out.size (fun b hb => by
            rw [hw9]; exact setRow_other _ _ _ _ (by have := HIN.out b hb; omega)))
          have HST := Lib.hid (putAll_step (dk := dk) (y := y) HSS.out)
          have HAL := Lib.hid HPW.out.all
          rw [← HY.out] at HAL
          clear hrm7 hb7 hE hD' hw8 hb8 hb68 hbr8 hw9 HPUT
          by_cases he : E = 0
          · have HNX := Lib.hid (show PW w w9 (fun i => F i ∨ i = w.heap.size ∨ i = w.heap.size + 1) r x L w.heap.size (w.heap.size + 1) (some ⟨bb, ob, none⟩) (k + 1) (dk.put y s) A0' C0' A1' C1' from
              ⟨by rw [← HDE'.out]; exact HP49.out, HP89.out, HRM9.out, HLI9.out, HB9.out, by
                rw [← HAL.out, HST.out, ← HEE.out, if_pos he, HY.out, show x + ((k + 1 : Nat) : Int) = x + (k : Int) + 1 by omega], by rw [put_base]; exact HPW.out.bs, by have := put_queue_le dk y s; have := HPW.out.qn; omega⟩)
            subst he
            go_wp2_with (first | ((with_reducible refine wpList_storeW rfl isD _ _ rfl w.heap.size D' D.toArray _ rfl rfl HP48.out HDC'.out HDS.out ?_); rw [HW9.out]) | ((with_reducible refine wpList_storeW rfl isD _ _ rfl w7.heap.size D' zD.toArray _ rfl rfl HAL8.out HDC'.out rfl ?_); rw [HW8.out]) | ((with_reducible refine wpList_allocA rfl isD rfl ?_); rw [HWZ.out]) | (with_reducible refine wpList_loadW rfl isD _ rfl w7.heap.size D' _ rfl HP13.out HDC'.out ?_))
            go_roundw
            case rel => exact ⟨k + 1, _, A0', C0', A1', C1', by go_num, by omega, HNX.out⟩
            case measure => simp; omega
          · have HR := Lib.hid (show r.write x n l = (dk.put y s, E) by rw [HE.out, ← HAL.out, HST.out, ← HEE.out, if_neg he])
            have e9 : (E == 0) = false := by simpa using he
            clear he
            go_wp2_with (first | ((with_reducible refine wpList_storeW rfl isD _ _ rfl (w.heap.size + 1) D' zD.toArray _ rfl rfl HP89.out HDC'.out rfl ?_)) | ((with_reducible refine wpList_storeW rfl isD _ _ rfl w.heap.size D' D.toArray _ rfl rfl HP48.out HDC'.out HDS.out ?_); rw [HW9.out]) | ((with_reducible refine wpList_storeW rfl isD _ _ rfl w7.heap.size D' zD.toArray _ rfl rfl HAL8.out HDC'.out rfl ?_); rw [HW8.out]) | ((with_reducible refine wpList_allocA rfl isD rfl ?_); rw [HWZ.out]) | (with_reducible refine wpList_loadW rfl isD _ rfl w7.heap.size D' _ rfl HP13.out HDC'.out ?_) | (with_reducible refine wpList_loadW rfl isD _ rfl w.heap.size D' _ rfl HP49.out HDC'.out ?_))
            try rw [Exit.noGoto_ret]
            refine ret_cell_slot isD rfl rfl rfl (setRow_heap _ _ _ _ _ _ HP89.out) HDC'.out rfl ?_
            unfold RWriteRes
            rw [HR.out]
            exact ⟨A0', C0', A1', C1', by rw [HDE'.out]; rfl, (HRM9.out.same (only_row (Or.inr (Or.inr rfl)))).sub (fun _ e => Or.inl e), below_setRow HB9.out (Nat.le_succ _)⟩
        · obtain rfl : k = N := by omega
          have HR := Lib.hid (show r.write x n l = (dk, 0) by
            rw [HE.out, ← HPW.out.all]
            rw [← HLL.out, List.drop_length]
            rfl)
          clear hk hlt
          go_wp2_with (first | (with_reducible refine wpList_loadW rfl isD _ rfl w.heap.size D _ rfl HP4.out HDC.out ?_) | (with_reducible refine wpList_storeW rfl isD _ _ rfl (w.heap.size + 1) D zD.toArray _ rfl rfl HP8.out HDC.out rfl ?_))
          refine ret_cell_slot isD rfl rfl rfl (setRow_heap _ _ _ _ _ _ HP8.out) HDC.out rfl ?_
          unfold RWriteRes
          rw [HR.out]
          exact ⟨A0, C0, A1, C1, by rw [HDE.out]; rfl, (HPW.out.rm.same (only_row (Or.inr (Or.inr rfl)))).sub (fun _ e => Or.inl e), below_setRow HPW.out.bl (Nat.le_succ _)⟩
end Go.Proofs.Ytoibonalgmmkbaa
