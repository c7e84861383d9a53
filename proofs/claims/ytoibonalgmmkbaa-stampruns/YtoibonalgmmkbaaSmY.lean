/- falseworkref09: Read, walked. -/
import Derived.Test.YtoibonalgmmkbaaSmX
namespace Go.Proofs.Ytoibonalgmmkbaa
open Go.RowKit Go.Lib

theorem own_lie {w : World} {B : Nat} {e : TypeId} {n k c : Nat} {a : Option Addr} {xs : List Value} (h : w.ownsRow B e n (.slice a k c) k xs) : Lie w a xs := by
  obtain ⟨a', c', hv, hl, _⟩ := ow_lie h
  injection hv with h1 _ _
  rw [h1]; exact hl
theorem ob_bat {w : World} {B n c : Nat} {a : Option Addr} {l : List UInt8} (h : OB w B (.slice a n c) l) : BAt w a l ∧ l.length ≤ c ∧ (a = none → l = []) := by
  obtain ⟨a', c', hv, hb, hc, _, hn, _⟩ := h.row
  injection hv with h1 h2 h3
  subst h1 h3
  exact ⟨hb, hc, fun e => List.eq_nil_of_length_eq_zero (by have := hn e; omega)⟩
set_option maxRecDepth 100000 in
set_option maxHeartbeats 12800000 in
theorem rread_any (r : Dk) (a0 : Option Addr) (c0 : Nat) (a1 : Option Addr) (c1 : Nat) (F : Nat → Prop) (x z : Int) (w : World) (h : RM w F r a0 a1) (hx : I x) :
    Calls Try.prog 41 #[.agg (rcs r a0 c0 a1 c1).toArray, .int .i64 x, .int .i64 z] w (RdRes (r.read x z) w) := by
  obtain ⟨R, hR⟩ : ∃ R, R = rcs r a0 c0 a1 c1 := ⟨_, rfl⟩
  have HRE := Lib.hid hR
  have HRC := Lib.hid (show Cs 4 R by rw [hR]; exact rcs_cs _ _ _ _ _)
  obtain ⟨w0, hw0⟩ : ∃ w0, w0 = w.alloc (.cells R.toArray 37) := ⟨_, rfl⟩
  have HW0 := Lib.hid hw0.symm
  have HB0 := Lib.hid (show RowKit.Below w.heap.size w w0 by rw [hw0]; exact (RowKit.Below.refl _ _).alloc (Nat.le_refl _) _)
  have HP3 := Lib.hid (show w0.heap[w.heap.size]? = some (.cells R.toArray 37) by rw [hw0]; exact blkn rfl)
  have HRM := Lib.hid (h.below HB0.out)
  obtain ⟨N, hN⟩ : ∃ N, N = r.base.length := ⟨_, rfl⟩
  have HN := Lib.hid hN
  have q30 : w0.cell? ⟨w.heap.size, 0, none⟩ = some (.slice a0 N c0) := by rw [cell_of_row _ _ _ _ _ _ HP3.out, HRE.out, hN]; rfl
  have HSZ := Lib.hid (show N ≤ 2048 by rw [hN]; exact h.ok.sz)
  have HOK := Lib.hid h.ok
  have HX := Lib.hid hx
  rw [← hR]
  clear hR hw0 h hN hx
  have hcs : x < 0 ∨ (0 ≤ x ∧ (N : Int) < z) ∨ (0 ≤ x ∧ z ≤ (N : Int) ∧ z ≤ x) ∨ (0 ≤ x ∧ z ≤ (N : Int) ∧ x < z) := by omega
  rcases hcs with hx0 | ⟨hx0, hz⟩ | ⟨hx0, hz, hzx⟩ | ⟨hx0, hz, hzx⟩
  · have HR := Lib.hid (show RdRes (r.read x z) w (.returned (.tuple #[.slice none 0 0, .int .u64 0, .int .i64 0, .int .i64 81])) w0 by unfold Dk.read; rw [if_pos (Or.inl hx0)]; exact RdRes.no HB0.out)
    have d0 : decide (x < 0) = true := by simpa using hx0
    clear hx0
    go_enter Try.func41, Try.ntmps41
    go_wp2_with ((with_reducible refine wpList_boxA rfl _ _ rfl _ rfl ?_); rw [HW0.out])
    (try simp only [Exit.inBlock, Exit.then])
    refine bodyPost_ret (results_tmp4 rfl _ _ _) rfl ?_
    exact HR.out
  · have HR := Lib.hid (show RdRes (r.read x z) w (.returned (.tuple #[.slice none 0 0, .int .u64 0, .int .i64 0, .int .i64 81])) w0 by unfold Dk.read; rw [if_pos (Or.inr (by rw [← HN.out]; exact hz))]; exact RdRes.no HB0.out)
    have d0 : decide (x < 0) = false := by simp; omega
    have d1 : decide ((N : Int) < z) = true := by simpa using hz
    clear hx0 hz
    go_enter Try.func41, Try.ntmps41
    go_wp2_with ((with_reducible refine wpList_boxA rfl _ _ rfl _ rfl ?_); rw [HW0.out])
    (try simp only [Exit.inBlock, Exit.then])
    refine bodyPost_ret (results_tmp4 rfl _ _ _) rfl ?_
    exact HR.out
  · have HR := Lib.hid (show RdRes (r.read x z) w (.returned (.tuple #[.slice none 0 0, .int .u64 0, .int .i64 0, .int .i64 91])) w0 by
      unfold Dk.read; rw [if_neg (by rw [← HN.out]; omega)]; unfold Dk.stands; rw [if_pos hzx, readL_none]; exact RdRes.no HB0.out)
    have d0 : decide (x < 0) = false := by simp; omega
    have d1 : decide ((N : Int) < z) = false := by simp; omega
    have d2 : decide (z ≤ x) = true := by simpa using hzx
    clear hx0 hz hzx
    go_enter Try.func41, Try.ntmps41
    go_wp2_with ((with_reducible refine wpList_boxA rfl _ _ rfl _ rfl ?_); rw [HW0.out])
    (try simp only [Exit.inBlock, Exit.then])
    refine bodyPost_ret (results_tmp4 rfl _ _ _) rfl ?_
    exact HR.out
  · have d0 : decide (x < 0) = false := by simp; omega
    have d1 : decide ((N : Int) < z) = false := by simp; omega
    have d2 : decide (z ≤ x) = false := by simp; omega
    have hzxb : 0 ≤ z - x ∧ z - x ≤ 2048 := by have := HSZ.out; omega
    have HXZ := Lib.hid (And.intro hx0 (And.intro hz hzx))
    obtain ⟨s, hs⟩ : ∃ s, s = r.at_ x := ⟨_, rfl⟩
    obtain ⟨m, hm⟩ : ∃ m, m = manyAt s := ⟨_, rfl⟩
    obtain ⟨st, hst⟩ : ∃ st, st = stN s := ⟨_, rfl⟩
    have hsl : s.length = 64 := by rw [hs]; exact at_len HOK.out x
    have HTL := Lib.hid (read_tail hx0 (by rw [← HN.out]; exact hz) hzx hs hm hst)
    have hm255 : m ≤ 255 := by rw [hm]; have := manyAt_lt s; omega
    have HSTL := Lib.hid (show st < 18446744073709551616 by rw [hst]; exact stN_lt hsl)
    obtain ⟨c, hc⟩ : ∃ c, c = bcells s := ⟨_, rfl⟩
    have HCC := Lib.hid (show Cs 64 c by rw [hc]; exact cs_sec hsl)
    have HG1 := Lib.hid (rget_any r a0 c0 a1 c1 F x w0 HRM.out)
    unfold GetRes at HG1
    rw [← HRE.out, ← hs, ← hc, show r.has x = true from Dk.has_iff.2 (by rw [← HN.out]; omega), if_pos rfl] at HG1
    have HNU := Lib.hid (fun W => number_any s hsl W)
    rw [← hc, ← hst] at HNU
    have HC1 := Lib.hid (show c[1]? = some (.int .u8 (m : Int)) by rw [hc, bcells_get (by omega), hm]; rfl)
    clear hx0 hz hzx hs hm hst hsl hc
    go_enter Try.func41, Try.ntmps41
    go_wp2_with (first | ((with_reducible refine wpList_boxA rfl _ _ rfl _ rfl ?_); rw [HW0.out]) | (with_reducible refine wpList_loadW rfl isD _ rfl w.heap.size R _ rfl HP3.out HRC.out ?_))
    refine HG1.out.mono ?_
    rintro _ w1 ⟨rfl, hb1⟩
    obtain ⟨w2, hw2⟩ : ∃ w2, w2 = w1.alloc (.cells c.toArray 59) := ⟨_, rfl⟩
    have HW2 := Lib.hid (show (w1.alloc (.cells zc.toArray 59)).setRow w1.heap.size c.toArray = w2 by rw [hw2]; exact setRow_new rfl)
    have HAL2 := Lib.hid (heap_alloc_new w1 (.cells zc.toArray 59))
    have hb12 : RowKit.Below w1.heap.size w1 w2 := by rw [hw2]; exact (RowKit.Below.refl _ _).alloc (Nat.le_refl _) _
    have HB02 := Lib.hid (hb1.trans (hb12.mono hb1.size))
    have HP10 := Lib.hid (show w2.heap[w1.heap.size]? = some (.cells c.toArray 59) by rw [hw2]; exact blkn rfl)
    clear hb1 hw2 hb12 q30 d0 d1 d2 HG1
    go_wp2_with (first | ((with_reducible refine wpList_storeW rfl isS _ _ rfl w1.heap.size c zc.toArray _ rfl rfl HAL2.out HCC.out (by simp [zc_len]) ?_); rw [HW2.out]) | (with_reducible refine wpList_allocA rfl isS rfl ?_) | (with_reducible refine wpList_loadW rfl isS _ rfl w1.heap.size c _ rfl HP10.out HCC.out ?_))
    refine (HNU.out _).mono ?_
    rintro _ w3 ⟨rfl, hb3⟩
    have HB03 := Lib.hid (HB02.out.trans (hb3.mono HB02.out.size))
    have HB3 := Lib.hid (HB0.out.trans (HB03.out.mono HB0.out.size))
    have hp10 := (hb3.block _ (lt_of_heap HP10.out)).trans HP10.out
    have HP10' := Lib.hid hp10
    have q10 : w3.cell? ⟨w1.heap.size, 1, none⟩ = some (.int .u8 (m : Int)) := by rw [cell_of_row _ _ _ _ _ _ hp10, List.getElem?_toArray, HC1.out]
    have HP33 := Lib.hid ((HB03.out.block _ (lt_of_heap HP3.out)).trans HP3.out)
    have HRM3 := Lib.hid (HRM.out.below HB03.out)
    clear hb3 hp10 HNU
    have hcs : st = 0 ∨ (st ≠ 0 ∧ m = 0) ∨ (st ≠ 0 ∧ m ≠ 0 ∧ z - x < (m : Int)) ∨ (st ≠ 0 ∧ m ≠ 0 ∧ (m : Int) ≤ z - x) := by omega
    rcases hcs with h | ⟨h, h2⟩ | ⟨h, h2, h3⟩ | ⟨h, h2, h3⟩
    · have HR := Lib.hid (show RdRes (r.read x z) w (.returned (.tuple #[.slice none 0 0, .int .u64 0, .int .i64 0, .int .i64 91])) w3 by rw [HTL.out.1 (Or.inl h)]; exact RdRes.no HB3.out)
      subst h
      go_wp2
      (try simp only [Exit.inBlock, Exit.then])
      refine bodyPost_ret (results_tmp4 rfl _ _ _) rfl ?_
      exact HR.out
    · have HR := Lib.hid (show RdRes (r.read x z) w (.returned (.tuple #[.slice none 0 0, .int .u64 0, .int .i64 0, .int .i64 91])) w3 by rw [HTL.out.1 (Or.inr (Or.inl h2))]; exact RdRes.no HB3.out)
      have e1 : ((st : Int) == 0) = false := by simp; exact h
      subst h2
      clear h
      go_wp2
      (try simp only [Exit.inBlock, Exit.then])
      refine bodyPost_ret (results_tmp4 rfl _ _ _) rfl ?_
      exact HR.out
    · have HR := Lib.hid (show RdRes (r.read x z) w (.returned (.tuple #[.slice none 0 0, .int .u64 0, .int .i64 0, .int .i64 91])) w3 by rw [HTL.out.1 (Or.inr (Or.inr h3))]; exact RdRes.no HB3.out)
      have e1 : ((st : Int) == 0) = false := by simp; exact h
      have e2 : ((m : Int) == 0) = false := by simp; exact h2
      have e3 : decide (z - x < (m : Int)) = true := by simpa using h3
      clear h h2 h3
      go_wp2
      (try simp only [Exit.inBlock, Exit.then])
      refine bodyPost_ret (results_tmp4 rfl _ _ _) rfl ?_
      exact HR.out
    · have HRD := Lib.hid (HTL.out.2 h h2 (by omega))
      have e1 : ((st : Int) == 0) = false := by simp; exact h
      have e2 : ((m : Int) == 0) = false := by simp; exact h2
      have e3 : decide (z - x < (m : Int)) = false := by simp; omega
      have HMZ := Lib.hid h3
      obtain ⟨L, hL⟩ : ∃ L, L = r.secsAt x m := ⟨_, rfl⟩
      have HLE := Lib.hid hL
      have HLL := Lib.hid (show L.length = m by rw [hL, secsAt_length])
      have HL64 := Lib.hid (show ∀ s ∈ L, s.length = 64 by rw [hL]; exact secsAt_64 HOK.out x m)
      have HLG := Lib.hid (show ∀ i, i < m → L[i]? = some (r.at_ (x + (i : Int))) by rw [hL]; exact fun i hi => secsAt_get hi)
      rw [← hL] at HRD
      obtain ⟨w4, hw4⟩ : ∃ w4, w4 = w3.alloc (.cells #[] 5) := ⟨_, rfl⟩
      obtain ⟨w5, hw5⟩ : ∃ w5, w5 = w4.alloc (.cells #[] 59) := ⟨_, rfl⟩
      have HW4 := Lib.hid hw4.symm
      have HW5 := Lib.hid hw5.symm
      have hb4 : RowKit.Below w3.heap.size w3 w4 := by rw [hw4]; exact (RowKit.Below.refl _ _).alloc (Nat.le_refl _) _
      have hb45 : RowKit.Below w4.heap.size w4 w5 := by rw [hw5]; exact (RowKit.Below.refl _ _).alloc (Nat.le_refl _) _
      have HB35 := Lib.hid (hb4.trans (hb45.mono hb4.size))
      have hob : OB w4 w3.heap.size (.slice (some ⟨w3.heap.size, 0, none⟩) 0 0) [] := by rw [hw4]; exact OB.lit (Nat.le_refl _)
      have HOB := Lib.hid (show OB w5 w3.heap.size (.slice (some ⟨w3.heap.size, 0, none⟩) 0 0) (gat (L.take 0)) by rw [List.take_zero]; exact hob.below hb45)
      have HOS := Lib.hid (show w5.ownsRow w3.heap.size 59 64 (.slice (some ⟨w4.heap.size, 0, none⟩) 0 0) 0 (scells (L.take 0)) by rw [List.take_zero, hw5]; exact own_lit w4 w3.heap.size _ 64 hb4.size)
      clear h h2 h3 hL hw4 hw5 hb4 hb45 hob
      go_wp2_with (first | ((with_reducible refine wpList_lit elS rfl rfl ?_); rw [HW5.out]) | ((with_reducible refine wpList_lit elB rfl rfl ?_); rw [HW4.out]))
      clear e1 e2 e3 q10
      go_loopw [13, 14, 15] (fun c13 c14 c15 wr => ∃ (i nb : Nat) (ab : Option Addr) (cb : Nat) (al : Option Addr) (cl : Nat), c13 = .slice ab nb cb ∧ c14 = .slice al i cl ∧ c15 = .int .i64 (i : Int) ∧ nb = (gat (L.take i)).length ∧ i ≤ m ∧ OB wr w3.heap.size (.slice ab nb cb) (gat (L.take i)) ∧ wr.ownsRow w3.heap.size 59 64 (.slice al i cl) i (scells (L.take i)) ∧ RowKit.Below w3.heap.size w3 wr) (fun _ _ c15 _ => m - (match c15 with | .int _ q => q | _ => 0).toNat)
      case atStart => exact ⟨0, 0, _, _, _, _, rfl, rfl, rfl, rfl, Nat.zero_le _, HOB.out, HOS.out, HB35.out⟩
      case round =>
        obtain ⟨i, nb, ab, cb, al, cl, rfl, rfl, rfl, hnb, hi, hob, hos, hbl⟩ := hrel
        have HNB := Lib.hid hnb
        have HOB' := Lib.hid hob
        have HOS' := Lib.hid hos
        have HBL := Lib.hid hbl
        have q10 : wr.cell? ⟨w1.heap.size, 1, none⟩ = some (.int .u8 (m : Int)) := by
          rw [cell_of_row _ _ _ _ _ _ ((hbl.block _ (lt_of_heap HP10'.out)).trans HP10'.out), List.getElem?_toArray, HC1.out]
        clear hnb hob hos hbl
        by_cases hlt : i < m
        · obtain ⟨wo, rfl⟩ : ∃ wo, wo = wr := ⟨_, rfl⟩
          obtain ⟨y, hy⟩ : ∃ y, y = x + (i : Int) := ⟨_, rfl⟩
          have hy2 : IntKind.i64.wrap (x + (i : Int)) = y := by rw [← hy]; exact IntWalk.i64_in _ (by obtain ⟨q1, q2, q3⟩ := HXZ.out; have := HSZ.out; have := HMZ.out; omega)
          have HPX := Lib.hid ((HBL.out.block _ (lt_of_heap HP33.out)).trans HP33.out)
          obtain ⟨t, ht⟩ : ∃ t, t = r.at_ y := ⟨_, rfl⟩
          have htl : t.length = 64 := by rw [ht]; exact at_len HOK.out y
          have HTLN := Lib.hid htl
          have HLT := Lib.hid (show L[i]? = some t by rw [HLG.out i hlt, ht, hy])
          obtain ⟨ct, hct⟩ : ∃ ct, ct = bcells t := ⟨_, rfl⟩
          have HCT := Lib.hid (show Cs 64 ct by rw [hct]; exact cs_sec htl)
          have HCTE := Lib.hid hct
          have HG := Lib.hid (rget_any r a0 c0 a1 c1 F y wo (HRM3.out.below HBL.out))
          unfold GetRes at HG
          rw [← HRE.out, ← ht, ← hct, show r.has y = true from Dk.has_iff.2 (by obtain ⟨q1, q2, q3⟩ := HXZ.out; have := HMZ.out; rw [← HN.out, hy]; omega), if_pos rfl] at HG
          clear hy ht htl hct
          go_wp2_with (with_reducible refine wpList_loadW rfl isD _ rfl w.heap.size R _ rfl HPX.out HRC.out ?_)
          refine HG.out.mono ?_
          rintro _ w6 ⟨rfl, hb6⟩
          obtain ⟨w7, hw7⟩ : ∃ w7, w7 = w6.alloc (.cells ct.toArray 59) := ⟨_, rfl⟩
          obtain ⟨w8, hw8⟩ : ∃ w8, w8 = w7.alloc (.cells ct.toArray 59) := ⟨_, rfl⟩
          have HW7 := Lib.hid (show (w6.alloc (.cells zc.toArray 59)).setRow w6.heap.size ct.toArray = w7 by rw [hw7]; exact setRow_new rfl)
          have HAL7 := Lib.hid (heap_alloc_new w6 (.cells zc.toArray 59))
          have HW8 := Lib.hid hw8.symm
          have hb67 : RowKit.Below w6.heap.size w6 w7 := by rw [hw7]; exact (RowKit.Below.refl _ _).alloc (Nat.le_refl _) _
          have hb78 : RowKit.Below w7.heap.size w7 w8 := by rw [hw8]; exact (RowKit.Below.refl _ _).alloc (Nat.le_refl _) _
          have HBO8 := Lib.hid (hb6.trans ((hb67.trans (hb78.mono hb67.size)).mono hb6.size))
          have HP16 := Lib.hid (show w7.heap[w6.heap.size]? = some (.cells ct.toArray 59) by rw [hw7]; exact blkn rfl)
          have HP168 := Lib.hid ((hb78.block _ (lt_of_heap HP16.out)).trans HP16.out)
          have HB8 := Lib.hid (HBL.out.trans (HBO8.out.mono HBL.out.size))
          have HOB8 := Lib.hid (HOB'.out.below HBO8.out)
          have HOS8 := Lib.hid (show w8.ownsRow w3.heap.size 59 64 (.slice al i cl) i (scells (L.take i)) from ow_same HOS'.out fun b hb => HBO8.out.block b (HOS'.out.lt b hb).2)
          have HLN := Lib.hid (show Lie w8 (some ⟨w7.heap.size, 0, none⟩) ct by rw [hw8]; exact lie_new w7 ct _)
          have HCL := Lib.hid (show ct.length = 1 * 64 by rw [Nat.one_mul]; exact HCT.out.len)
          have HCLE := Lib.hid HCT.out.len
          have HCO := Lib.hid HCT.out.one
          have HI1 := Lib.hid (show i + 1 ≤ 1000000 by omega)
          have HNI := Lib.hid (show (some ⟨w7.heap.size, 0, none⟩ : Option Addr) = none → 1 = 0 from fun e => by cases e)
          have HSZ8 := Lib.hid HB8.out.size
          have HTK := Lib.hid (show scells (L.take i) ++ ct = scells (L.take (i + 1)) by rw [List.take_add_one, HLT.out]; show _ = scells (L.take i ++ [t]); rw [scells_app, scells_sing, HCTE.out])
          have HLT6 := Lib.hid (show (Value.slice al i cl).ownBlock ≠ some w6.heap.size from fun e => by have := (HOS'.out.lt _ e).2; have := hb6.size; omega)
          clear hb6 hw7 hw8 hb67 hb78 q10 hy2 HG
          go_wp2_with (first | (with_reducible refine wpList_appO elS rfl _ _ rfl w3.heap.size (.slice al i cl) i (scells (L.take i)) (some ⟨w7.heap.size, 0, none⟩) 1 1 ct rfl rfl HOS8.out HCL.out HLN.out HNI.out HCO.out HI1.out (by decide) HSZ8.out (fun v9 w9 h9 => ?_)) | ((with_reducible refine wpList_one elS rfl _ rfl ct rfl HCLE.out (by decide) ?_); rw [HW8.out]) | ((with_reducible refine wpList_storeW rfl isS _ _ rfl w6.heap.size ct zc.toArray _ rfl rfl HAL7.out HCT.out (by simp [zc_len]) ?_); rw [HW7.out]) | (with_reducible refine wpList_allocA rfl isS rfl ?_) | (with_reducible refine wpList_loadW rfl isS _ rfl w6.heap.size ct _ rfl HP16.out HCT.out ?_))
          have HB9 := Lib.hid (below_appd h9 HB8.out HB8.out.size (fun b hb => (HOS8.out.lt b hb).1))
          have ho9 : w9.ownsRow w3.heap.size 59 64 v9 (i + 1) (scells (L.take (i + 1))) := by rw [← HTK.out]; exact h9.1
          have HOB9 := Lib.hid (show OB w9 w3.heap.size (.slice ab nb cb) (gat (L.take i)) from HOB8.out.kept h9.2.1 (fun b hb e => own_type2 HOS8.out HOB8.out (by decide) b hb e))
          have HR9 := Lib.hid (show BRow w9 w6.heap.size t by
            unfold BRow
            rw [← HCTE.out]
            exact (h9.2.1.block _ (lt_of_heap HP168.out) (fun e => HLT6.out e.symm)).trans HP168.out)
          obtain ⟨al9, cl9, hv9⟩ := own_slice ho9
          rw [hv9] at ho9
          have HOS9 := Lib.hid ho9
          rw [hv9]
          obtain ⟨q, hq⟩ : ∃ q, q = (t.getD 2 0).toNat := ⟨_, rfl⟩
          have HQ := Lib.hid hq
          have HQ255 := Lib.hid (show q ≤ 255 by rw [hq]; have := (t.getD 2 0).toNat_lt; omega)
          have hq255 := HQ255.out
          obtain ⟨g0, hg0⟩ : ∃ g0, g0 = gat (L.take i) := ⟨_, rfl⟩
          have HG0 := Lib.hid hg0
          rw [← hg0] at HOB9
          have HGN := Lib.hid (show gat (L.take (i + 1)) = g0 ++ gatS t by rw [hg0]; exact gat_snoc HLT.out)
          have HGS := Lib.hid (show gatS t = (t.drop 3).take (min q 53) by unfold gatS; rw [← hq])
          have HGL := Lib.hid (show (gatS t).length = min q 53 by rw [gatS_len HTLN.out, ← hq])
          have HNBG := Lib.hid (show nb = g0.length by rw [hg0]; exact HNB.out)
          have HG13 := Lib.hid (show g0.length ≤ 20000 by rw [hg0]; have := gat_le (L.take i); rw [List.length_take] at this; omega)
          clear h9 ho9 hv9 hq hg0
          go_wp2_with fail
          go_loopw [13, 18] (fun c13 c18 wr => ∃ (k : Nat) (ab : Option Addr) (cb : Nat), c13 = .slice ab (nb + k) cb ∧ c18 = .int .i64 (k : Int) ∧ k ≤ min q 53 ∧ OB wr w3.heap.size (.slice ab (nb + k) cb) (g0 ++ (gatS t).take k) ∧ wr.ownsRow w3.heap.size 59 64 (.slice al9 (i + 1) cl9) (i + 1) (scells (L.take (i + 1))) ∧ BRow wr w6.heap.size t ∧ RowKit.Below w3.heap.size w3 wr) (fun _ c18 _ => 53 - (match c18 with | .int _ q => q | _ => 0).toNat)
          case atStart => exact ⟨0, ab, cb, rfl, rfl, Nat.zero_le _, by rw [List.take_zero, List.append_nil]; exact HOB9.out, HOS9.out, HR9.out, HB9.out⟩
          case round =>
            clear HOB9 HOS9 HR9
            obtain ⟨k, ab', cb', rfl, rfl, hk, hob, hos, hr, hbl⟩ := hrel
            have HOBk := Lib.hid hob
            have HOSk := Lib.hid hos
            have HRk := Lib.hid hr
            have HBk := Lib.hid hbl
            have q2 : wr.cell? ⟨w6.heap.size, 2, none⟩ = some (.int .u8 (q : Int)) := by rw [hr.cell (by rw [HTLN.out]; omega), HQ.out]
            clear hob hos hr hbl
            by_cases hkq : k < min q 53
            · have f0 : decide ((k : Int) < (q : Int)) = true := by simp; omega
              have f1 : decide ((k : Int) < 53) = true := by simp; omega
              obtain ⟨b8, hb8⟩ : ∃ b8, b8 = t.getD (3 + k) 0 := ⟨_, rfl⟩
              have q3 : wr.cell? ⟨w6.heap.size, 3 + k, none⟩ = some (.int .u8 (b8.toNat : Int)) := by rw [HRk.out.cell (by rw [HTLN.out]; omega), hb8]
              have HTKK := Lib.hid (show g0 ++ (gatS t).take k ++ [b8] = g0 ++ (gatS t).take (k + 1) by
                rw [List.append_assoc, List.take_add_one, HGS.out, List.getElem?_take_of_lt hkq, List.getElem?_drop, List.getElem?_eq_getElem (by rw [HTLN.out]; omega), hb8, List.getD, List.getElem?_eq_getElem (by rw [HTLN.out]; omega)]
                rfl)
              have hba : RowKit.Below wr.heap.size wr (wr.alloc (.cells #[.int .u8 (b8.toNat : Int)] 5)) := (RowKit.Below.refl _ _).alloc (Nat.le_refl _) _
              have HOBa := Lib.hid (HOBk.out.below hba)
              have HBa := Lib.hid (HBk.out.trans (hba.mono HBk.out.size))
              have HOSa := Lib.hid (show (wr.alloc (.cells #[.int .u8 (b8.toNat : Int)] 5)).ownsRow w3.heap.size 59 64 (.slice al9 (i + 1) cl9) (i + 1) (scells (L.take (i + 1))) from ow_same HOSk.out fun b hb => hba.block b (HOSk.out.lt b hb).2)
              have HRa := Lib.hid (show BRow (wr.alloc (.cells #[.int .u8 (b8.toNat : Int)] 5)) w6.heap.size t from (hba.block _ (lt_of_heap HRk.out)).trans HRk.out)
              have HBAT := Lib.hid (one_byte wr b8 (b8.toNat : Int) 5 rfl)
              have HLEN := Lib.hid (show (g0 ++ (gatS t).take k).length + [b8].length ≤ 1000000000 by have := HG13.out; rw [List.length_append, List.length_take, HGL.out]; simp; omega)
              have HNIL := Lib.hid (show (some ⟨wr.heap.size, 0, none⟩ : Option Addr) = none → [b8] = [] from fun e => by cases e)
              have HSZa := Lib.hid HBa.out.size
              have HNL := Lib.hid (show (g0 ++ (gatS t).take (k + 1)).length = nb + (k + 1) by rw [HNBG.out, List.length_append, List.length_take, HGL.out]; omega)
              clear hb8 hba
              go_wp2_with (with_reducible refine wpList_appB rfl _ _ rfl w3.heap.size (.slice ab' (nb + k) cb') (g0 ++ (gatS t).take k) [b8] (some ⟨wr.heap.size, 0, none⟩) 1 1 rfl rfl rfl HOBa.out HBAT.out HNIL.out HLEN.out HSZa.out (fun vb wb hwb => ?_))
              obtain ⟨o5, u5, s5, z5⟩ := hwb
              rw [HTKK.out] at o5
              obtain ⟨abn, cbn, hvb⟩ := ob_slice o5
              rw [HNL.out] at hvb
              rw [hvb] at o5 u5
              have HOBn := Lib.hid o5
              have HBn := Lib.hid (u5.below HOBa.out HSZa.out HBa.out)
              have HOSn := Lib.hid (show wb.ownsRow w3.heap.size 59 64 (.slice al9 (i + 1) cl9) (i + 1) (scells (L.take (i + 1))) from ow_same HOSa.out fun b hb => u5.g.block b (HOSa.out.lt b hb).2 (fun e => own_type2 HOSa.out HOBa.out (by decide) b hb e.symm))
              have HRn := Lib.hid (show BRow wb w6.heap.size t from (u5.g.block _ (lt_of_heap HRa.out) (fun e => own_type HOBa.out HRa.out (by decide) e.symm)).trans HRa.out)
              clear o5 u5 s5 z5
              go_wp2_with fail
              go_roundw
              case rel => exact ⟨k + 1, abn, cbn, hvb, by go_num, by omega, HOBn.out, HOSn.out, HRn.out, HBn.out⟩
              case measure => simp; omega
            · obtain rfl : k = min q 53 := by omega
              have HOBE := Lib.hid (show OB wr w3.heap.size (.slice ab' (nb + min q 53) cb') (gat (L.take (i + 1))) by
                have := HOBk.out
                rw [List.take_of_length_le (by rw [HGL.out]; exact Nat.le_refl _), ← HGN.out] at this
                exact this)
              have HNBE := Lib.hid (show nb + min q 53 = (gat (L.take (i + 1))).length by rw [HGN.out, List.length_append, HGL.out, HNBG.out])
              have hcs : q ≤ 53 ∨ 53 < q := by omega
              generalize hkk : min q 53 = kk at *
              rcases hcs with hq | hq
              · obtain rfl : kk = q := by omega
                clear hq hkk hkq hk
                go_wp2_with fail
                go_roundw
                case rel => exact ⟨i + 1, nb + kk, ab', cb', al9, cl9, rfl, rfl, by go_num, HNBE.out, by omega, HOBE.out, HOSk.out, HBk.out⟩
                case measure => simp; omega
              · obtain rfl : kk = 53 := by omega
                have f0 : decide ((53 : Int) < (q : Int)) = true := by simp; omega
                clear hkk hkq hk
                go_wp2_with fail
                go_roundw
                case rel => exact ⟨i + 1, nb + 53, ab', cb', al9, cl9, rfl, rfl, by go_num, HNBE.out, by omega, HOBE.out, HOSk.out, HBk.out⟩
                case measure => simp; omega
        · obtain rfl : i = m := by omega
          have HTK := Lib.hid (show L.take i = L by rw [← HLL.out]; exact List.take_length)
          obtain ⟨b, hb⟩ : ∃ b, b = gat L := ⟨_, rfl⟩
          have HBE := Lib.hid hb
          have HOBE := Lib.hid (show OB wr w3.heap.size (.slice ab nb cb) b by rw [hb]; have := HOB'.out; rwa [HTK.out] at this)
          have HNBE := Lib.hid (show b.length = nb by rw [HNB.out, HTK.out, hb])
          obtain ⟨hba, hcb, hna⟩ := ob_bat HOBE.out
          have HBA := Lib.hid hba
          have HCB := Lib.hid hcb
          have HNA := Lib.hid hna
          have HLIL := Lib.hid (show Lie wr al (scells L) by have := own_lie HOS'.out; rwa [HTK.out] at this)
          have HB3W := Lib.hid (HB3.out.trans (HBL.out.mono HB3.out.size))
          have hi255 : i ≤ 255 := hm255
          have HRS := Lib.hid (rsectors_any st b ab nb cb wr HSTL.out hba HNBE.out (by rw [← HNBE.out, hb]; have := gat_le L; rw [HLL.out] at this; omega))
          obtain ⟨K, hK⟩ : ∃ K, K = secs st b := ⟨_, rfl⟩
          have HKE := Lib.hid hK
          have HK64 := Lib.hid (show ∀ s ∈ K, s.length = 64 by rw [hK]; exact secs_64 st b)
          rw [← hK] at HRS
          rw [← HBE.out] at HRD
          rw [← HKE.out] at HRD
          obtain ⟨kl, hkl⟩ : ∃ kl, kl = K.length := ⟨_, rfl⟩
          have HKL := Lib.hid hkl
          clear hb hba hcb hna hK hkl hi hlt
          go_wp2_with fail
          refine HRS.out.mono ?_
          rintro _ w6 ⟨a5, c5, rfl, hli5, _, _, hb6⟩
          have HB6 := Lib.hid (HB3W.out.trans (hb6.mono HB3W.out.size))
          have HLI5 := Lib.hid hli5
          have HLI6 := Lib.hid (HLIL.out.below hb6)
          have HBA6 := Lib.hid (HBA.out.below hb6)
          rw [← HKL.out]
          clear hli5 hb6 q10 HRS
          by_cases hlen : kl = i
          · subst hlen
            have HNIL := Lib.hid (show RdRes (Rd.none 91) w (.returned (.tuple #[.slice none 0 0, .int .u64 0, .int .i64 0, .int .i64 91])) w6 from RdRes.no HB6.out)
            go_wp2_with fail
            go_loopw [106] (fun c106 wr => ∃ k : Nat, c106 = .int .i64 (k : Int) ∧ k ≤ kl ∧ L.take k = K.take k ∧ RowKit.Below w6.heap.size w6 wr) (fun c106 _ => kl - (match c106 with | .int _ q => q | _ => 0).toNat)
            case atStart => exact ⟨0, rfl, Nat.zero_le _, rfl, RowKit.Below.refl _ _⟩
            case round =>
              obtain ⟨k, rfl, hk, htk, hbl⟩ := hrel
              have HT := Lib.hid htk
              have HBQ := Lib.hid hbl
              have HBW := Lib.hid (HB6.out.trans (hbl.mono HB6.out.size))
              clear htk hbl
              by_cases hlt : k < kl
              · obtain ⟨t, ht⟩ : ∃ s, L[k]? = some s := ⟨_, List.getElem?_eq_getElem (by rw [HLL.out]; exact hlt)⟩
                obtain ⟨u, hu⟩ : ∃ t, K[k]? = some t := ⟨_, List.getElem?_eq_getElem (by rw [← HKL.out]; exact hlt)⟩
                have HTT := Lib.hid ht
                have HUU := Lib.hid hu
                have htl := HL64.out t (List.mem_of_getElem? ht)
                have hul := HK64.out u (List.mem_of_getElem? hu)
                obtain ⟨b1, o1, ha1, _, hr1⟩ := (HLI6.out.below HBQ.out).get (f := bcells) (n := 64) (fun s hs => cells_len s (HL64.out s hs)) (by decide) ht
                obtain ⟨b2, o2, ha2, _, hr2⟩ := (HLI5.out.below HBQ.out).get (f := bcells) (n := 64) (fun s hs => cells_len s (HK64.out s hs)) (by decide) hu
                obtain ⟨cx, hcx⟩ : ∃ cx, cx = bcells t := ⟨_, rfl⟩
                obtain ⟨cy, hcy⟩ : ∃ cy, cy = bcells u := ⟨_, rfl⟩
                obtain ⟨q, hq⟩ : ∃ q, q = decide (t = u) := ⟨_, rfl⟩
                have HNEQ := Lib.hid (show ∀ W, (Op.equalIn 10000 59 (.agg cx.toArray) (.agg cy.toArray)).run Try.prog W = .ok q W by rw [hcx, hcy, hq]; exact eqS htl hul)
                have HQ := Lib.hid hq
                rw [← hcx] at hr1
                rw [← hcy] at hr2
                have HR1 := Lib.hid hr1
                have HR2 := Lib.hid hr2
                have HC1 := Lib.hid (show Cs 64 cx by rw [hcx]; exact cs_sec htl)
                have HC2 := Lib.hid (show Cs 64 cy by rw [hcy]; exact cs_sec hul)
                subst ha1 ha2
                clear ht hu htl hul hr1 hr2 hcx hcy hq
                go_wp2
                refine wp_region_held_drew (S := fun W => Agree [b1, b2] wr W) (by kernel_rfl) ?_ (fun hHeld => ?_)
                · exact fun _ _ => rfl
                refine held_take 0 (v := ?_) rfl (by kernel_rfl) (by kernel_rfl) (by kernel_rfl) (fun _ _ _ h => h) hHeld (by rfl) ?_ ?_
                rotate_left
                · (intro W hW; go_simp; try with_reducible rfl)
                try simp only [Act.put, List.setIfInBounds_toArray, List.set_cons_zero, List.set_cons_succ]
                refine held_take 1 (v := ?_) rfl (by kernel_rfl) (by kernel_rfl) (by kernel_rfl) (fun _ _ _ h => h) hHeld (by rfl) ?_ ?_
                rotate_left
                · (intro W hW; go_simp; try with_reducible rfl)
                try simp only [Act.put, List.setIfInBounds_toArray, List.set_cons_zero, List.set_cons_succ]
                refine held_take 2 (v := ?_) rfl (by kernel_rfl) (by kernel_rfl) (by kernel_rfl) (fun _ _ _ h => h) hHeld (by rfl) ?_ ?_
                rotate_left
                · (intro W hW; have e := run_idx elS (b := b1) (off := o1) (n := kl) (cap := cl) (k := .i64) (i := (k : Int)) (j := k) rfl hlt W; go_simp; try with_reducible rfl)
                try simp only [Act.put, List.setIfInBounds_toArray, List.set_cons_zero, List.set_cons_succ]
                refine held_take 3 (v := .agg cx.toArray) rfl (by kernel_rfl) (by kernel_rfl) (by kernel_rfl) (fun _ _ _ h => h) hHeld (by rfl) (fun W hW => exec_loadM isS _ rfl _ _ cx rfl (hW.range (by simp) HR1.out) HC1.out) ?_
                try simp only [Act.put, List.setIfInBounds_toArray, List.set_cons_zero, List.set_cons_succ]
                refine held_take 4 (v := ?_) rfl (by kernel_rfl) (by kernel_rfl) (by kernel_rfl) (fun _ _ _ h => h) hHeld (by rfl) ?_ ?_
                rotate_left
                · (intro W hW; go_simp; try with_reducible rfl)
                try simp only [Act.put, List.setIfInBounds_toArray, List.set_cons_zero, List.set_cons_succ]
                refine held_take 5 (v := ?_) rfl (by kernel_rfl) (by kernel_rfl) (by kernel_rfl) (fun _ _ _ h => h) hHeld (by rfl) ?_ ?_
                rotate_left
                · (intro W hW; go_simp; try with_reducible rfl)
                try simp only [Act.put, List.setIfInBounds_toArray, List.set_cons_zero, List.set_cons_succ]
                refine held_take 6 (v := ?_) rfl (by kernel_rfl) (by kernel_rfl) (by kernel_rfl) (fun _ _ _ h => h) hHeld (by rfl) ?_ ?_
                rotate_left
                · (intro W hW; have e := run_idx elS (b := b2) (off := o2) (n := kl) (cap := c5) (k := .i64) (i := (k : Int)) (j := k) rfl hlt W; go_simp; try with_reducible rfl)
                try simp only [Act.put, List.setIfInBounds_toArray, List.set_cons_zero, List.set_cons_succ]
                refine held_take 7 (v := .agg cy.toArray) rfl (by kernel_rfl) (by kernel_rfl) (by kernel_rfl) (fun _ _ _ h => h) hHeld (by rfl) (fun W hW => exec_loadM isS _ rfl _ _ cy rfl (hW.range (by simp) HR2.out) HC2.out) ?_
                try simp only [Act.put, List.setIfInBounds_toArray, List.set_cons_zero, List.set_cons_succ]
                refine held_take 8 (v := ?_) rfl (by kernel_rfl) (by kernel_rfl) (by kernel_rfl) (fun _ _ _ h => h) hHeld (by rfl) ?_ ?_
                rotate_left
                · (intro W hW; have e := HNEQ.out W; go_simp; try with_reducible rfl)
                try simp only [Act.put, List.setIfInBounds_toArray, List.set_cons_zero, List.set_cons_succ]
                refine wpAnyH_done (by kernel_rfl) ?_ _
                go_simp
                cases q with
                | true =>
                  have hst : t = u := of_decide_eq_true HQ.out.symm
                  have HNX := Lib.hid (take_next HTT.out HUU.out HT.out hst)
                  clear hst
                  go_wp2
                  go_roundw
                  case rel => exact ⟨k + 1, by go_num, by omega, HNX.out, HBQ.out.trans ((RowKit.Below.refl _ _).drew.mono HBQ.out.size)⟩
                  case measure => simp; omega
                | false =>
                  have hst : ¬ t = u := of_decide_eq_false HQ.out.symm
                  have HR := Lib.hid (show RdRes (r.read x z) w (.returned (.tuple #[.slice none 0 0, .int .u64 0, .int .i64 0, .int .i64 91])) wr.drew by
                    rw [HRD.out, if_neg (fun e => by
                      have := HTT.out
                      rw [e, HUU.out] at this
                      exact hst (Option.some.inj this).symm)]
                    exact RdRes.no (HBW.out.trans ((RowKit.Below.refl _ wr).drew.mono HBW.out.size)))
                  clear hst
                  go_wp2
                  try rw [Exit.noGoto_ret]
                  (try simp only [Exit.inBlock, Exit.then])
                  refine bodyPost_ret (results_tmp4 rfl _ _ _) rfl ?_
                  exact HR.out
              · obtain rfl : k = kl := by omega
                have HR := Lib.hid (show RdRes (r.read x z) w (.returned (.tuple #[.slice ab nb cb, .int .u64 (st : Int), .int .i64 (k : Int), .int .i64 0])) wr by
                  have e : L = K := by
                    have e := HT.out
                    have e2 : K.take k = K := by rw [HKL.out]; exact List.take_length
                    rw [HTK.out, e2] at e
                    exact e
                  rw [HRD.out, if_pos e]
                  exact ⟨ab, cb, by rw [HNBE.out], HBA6.out.below HBQ.out, HCB.out, HNA.out, HBW.out⟩)
                clear hk hlt
                go_wp2
                (try simp only [Exit.inBlock, Exit.then])
                refine bodyPost_ret (results_tmp4 rfl _ _ _) rfl ?_
                exact HR.out
          · have HR := Lib.hid (show RdRes (r.read x z) w (.returned (.tuple #[.slice none 0 0, .int .u64 0, .int .i64 0, .int .i64 91])) w6 by
              rw [HRD.out, if_neg (fun e => hlen (by rw [HKL.out, ← e, HLL.out]))]
              exact RdRes.no HB6.out)
            have e1 : ((kl : Int) == (i : Int)) = false := by simp; omega
            clear hlen
            go_wp2
            (try simp only [Exit.inBlock, Exit.then])
            refine bodyPost_ret (results_tmp4 rfl _ _ _) rfl ?_
            exact HR.out
end Go.Proofs.Ytoibonalgmmkbaa
