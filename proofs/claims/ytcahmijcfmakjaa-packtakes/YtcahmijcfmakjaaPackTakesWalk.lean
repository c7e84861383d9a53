/- The walk of falseworklaw06.PackTakes. -/
import Derived.Test.YtcahmijcfmakjaaPkS
namespace Go.Proofs.Ytcahmijcfmakjaa
open Go.RowKit Go.Lib

theorem quiet_same {P : Program} {f : FuncId} {args : Array Value} {w : World} {n : Nat} {v : Value} (h : Calls P f args (w.drewN n) fun e w' => e = .returned v ∧ w.drewN n = w') : Calls P f args (w.drewN n) fun e w'' => e = .returned v ∧ ∃ m, w'' = w.drewN m :=
  h.mono fun _ _ ⟨he, hm⟩ => ⟨he, n, hm.symm⟩
theorem St.failed {w : World} {base g T : Nat} {a0 : Option Addr} {b0 cs : List UInt8} {f : Bool} {A : Option Addr} {cap : Nat} {W W1 : World} (h : St w base g T a0 b0 cs f A cap W) (ht : To base g [] true W W1) : St w base g T a0 b0 [] true none 0 ((W1.setCell ⟨T, 0, none⟩ (.slice none 0 0)).setCell ⟨T, 1, none⟩ (.bool true)) := by
  have b1 := h.bk.grown ht.2 (fun e => h.ne (by injection e))
  refine ⟨(ht.1.setT b1 h.ne 0 _).setT (b1.set0 _) h.ne 1 _, (b1.set0 _).set1 _, RV.nil _, Sub.none _, h.ne, h.bT, h.bb, fun _ => rfl, by simp, h.b0, ?_⟩
  exact RowKit.Below.setCell (p := ⟨T, 1, none⟩) (RowKit.Below.setCell (p := ⟨T, 0, none⟩) (ht.below h.bel h.bel.size h.bb) h.bT _) h.bT _
theorem own_form {w : World} {base : Nat} {v : Value} {l : List UInt8} (h : OB w base v l) (hk : ∃ k, v.ownBlock = some k ∧ base ≤ k) : ∃ g cap, v = .slice (some ⟨g, 0, none⟩) l.length cap ∧ base ≤ g ∧ g < w.heap.size := by
  have h' := h
  unfold OB at h'
  rcases h'.2 with ⟨e, _⟩ | ⟨g, cap, cur, e, hb, hg, _⟩
  · obtain ⟨k, hk, _⟩ := hk; rw [e] at hk; cases hk
  · refine ⟨g, cap, e, hb, ?_⟩
    rcases Nat.lt_or_ge g w.heap.size with hlt | hge
    · exact hlt
    · rw [Array.getElem?_eq_none hge] at hg; cases hg

set_option maxHeartbeats 12800000 in
set_option maxRecDepth 100000 in
theorem takes_in (a0 : Option Addr) (bs : List UInt8) (cap0 : Nat) (a1 : Option Addr) (ks : List Int) (cap1 : Nat) (m : Int) (w : World) (hb0 : BAt w a0 bs) (hn0 : a0 = none → bs = []) (hc0 : bs.length ≤ cap0) (hr1 : RAt (Value.int .i64) w a1 ks) (hl : bs.length ≤ 400) (hk : ks.length ≤ 100) (m0 : 0 ≤ m) (m1 : m < 18446744073709551616) :
    Calls Try.prog 5 #[.slice a0 bs.length cap0, .slice a1 ks.length cap1, .int .u64 m] w fun e w' => e = .returned (.bool true) ∧ RowKit.Below w.heap.size w w' := by
  have HB0 := Lib.hid hb0
  have HN0 := Lib.hid hn0
  have HC0 := Lib.hid hc0
  have HR1 := Lib.hid hr1
  have d0 : decide ((400 : Int) < (bs.length : Int)) = false := by simp; omega
  have d1 : decide ((100 : Int) < (ks.length : Int)) = false := by simp; omega
  have mixedT := mixedT
  clear hb0 hn0 hc0 hr1
  go_enter Try.func5, Try.ntmps5
  go_wp2_with fail
  refine (alive_any _).mono ?_
  rintro _ w1 ⟨rfl, hb1⟩
  have HW1 := Lib.hid hb1
  clear hb1
  go_wp2_with (at_builtin; refine wpList_fresh rfl (.tmp 34) (.tmp 35) rfl bs a0 _ bs.length (by rfl) (by rfl) rfl (HB0.out.below HW1.out) HN0.out (by omega) ?_; intro v7 w7 f7; have HF7 := Lib.hid f7; have HW7 := Lib.hid (bl_trans HW1.out f7.2.1); clear f7)
  obtain ⟨g7, c7, hv7, hg7, hg7'⟩ := own_form HF7.out.1 HF7.out.2.2
  subst hv7
  have HBO := Lib.hid (show BAt w7 (some ⟨g7, 0, none⟩) bs by obtain ⟨a, c, e, hb, _⟩ := HF7.out.1.row; injection e with e; rw [e]; exact hb)
  refine (new_any (some ⟨g7, 0, none⟩) bs bs.length c7 w7 HBO.out rfl (by omega) (fun e => by cases e)).mono ?_
  rintro _ w8 ⟨g, rfl, hr8, hb8⟩
  have HR8 := Lib.hid hr8
  have HW8 := Lib.hid (bl_trans HW7.out hb8)
  have HO8 := Lib.hid (show w8.ownsRow w1.heap.size 5 1 (.slice (some ⟨g7, 0, none⟩) bs.length c7) bs.length (bcells bs) from HF7.out.1.below hb8)
  obtain ⟨base, hbase⟩ : ∃ b, b = w7.heap.size := ⟨_, rfl⟩
  rw [← hbase] at HR8 hg7'
  have HBB := Lib.hid (show w.heap.size ≤ base by rw [hbase]; exact HW7.out.size)
  have HGW := Lib.hid (show w.heap.size ≤ g7 from Nat.le_trans HW1.out.size hg7)
  clear hr8 hb8 hbase HBO hg7
  go_wp2
  go_loopg [41] bs.length (fun q c41 wr => ∃ (j : Nat) (xs : List Value), c41 = .int .i64 (j : Int) ∧ j ≤ bs.length ∧ Hid (q + j = bs.length) ∧ Hid (wr.ownsRow w1.heap.size 5 1 (.slice (some ⟨g7, 0, none⟩) bs.length c7) bs.length xs) ∧ Hid (∀ u ∈ xs, ∃ z : Int, u = .int .u8 z) ∧ Hid (RD wr base g bs false) ∧ Hid (RowKit.Below w.heap.size w wr))
  case atStart => exact ⟨0, bcells bs, rfl, by omega, Nat.add_zero _, HO8.out, (fun u hu => by obtain ⟨b, _, rfl⟩ := List.mem_map.1 hu; exact ⟨_, rfl⟩), HR8.out, HW8.out⟩
  case round =>
    obtain ⟨j, xs, rfl, hj, HG, HO, HX, HR, HW⟩ := hrel
    by_cases hlt : j < bs.length
    · have e1 : decide (j < bs.length) = true := by simpa using hlt
      have hxl : xs.length = bs.length := by have := HO.out.1; omega
      obtain ⟨z, hz⟩ := HX.out xs[j] (List.getElem_mem (by omega))
      have hcell : wr.cell? ⟨g7, j, none⟩ = some (.int .u8 z) := by rw [HO.out.cellAt j (by omega), List.getElem?_eq_getElem (by omega), hz]
      have hfz : wr.frozen? ⟨g7, j, none⟩ = false := HO.out.frozenAt j
      clear hxl hz
      go_wp2
      go_roundg (bs.length - (j + 1))
      case measure => have := HG.out; omega
      case rel =>
        refine ⟨j + 1, _, by go_num, by omega, show _ = _ by omega, (HO.out.stored j _).1, ?_, HR.out.grown (grown_set wr g7 j _) (fun k e => by injection e with e; omega), RowKit.Below.setCell (p := ⟨g7, j, none⟩) HW.out HGW.out _⟩
        intro u hu
        rcases List.mem_or_eq_of_mem_set hu with h | h
        · exact HX.out u h
        · exact ⟨_, h⟩
    · have e1 : decide (j < bs.length) = false := by simpa using hlt
      have hfresh : g < wr.heap.size := by obtain ⟨_, _, _, _, _, _, h5, _⟩ := HR.out; exact h5
      obtain ⟨T, hTT⟩ : ∃ T, T = wr.heap.size := ⟨_, rfl⟩
      have HS0 := Lib.hid (show St w base g T a0 bs bs false a0 cap0 (wr.alloc (.cells #[.slice a0 bs.length cap0, .bool false] 47)) from by
        have hb := (RowKit.Below.refl wr.heap.size wr).alloc (Nat.le_refl _) (.cells #[.slice a0 bs.length cap0, .bool false] 47)
        subst hTT
        exact ⟨HR.out.below hb, Bk.new _ _ _, ⟨HB0.out.below (bl_trans HW.out hb), HC0.out, HN0.out⟩, fun _ h => h, by omega, HW.out.size, HBB.out, (fun e => by cases e), Nat.le_refl _, HB0.out, bl_trans HW.out hb⟩)
      go_wp2
      rw [← hTT]
      clear HO HX HR HW HG hfresh hTT e1
      go_loopg [55] ks.length (fun q c55 W => ∃ (k : Nat) (cs : List UInt8) (f : Bool) (A : Option Addr) (cap : Nat), c55 = .int .i64 (k : Int) ∧ k ≤ ks.length ∧ Hid (q + k = ks.length) ∧ Hid (St w base g T a0 bs cs f A cap W))
      case atStart => exact ⟨0, bs, false, a0, cap0, rfl, by omega, Nat.add_zero _, HS0.out⟩
      case round =>
        obtain ⟨k, cs, f, A, cap, rfl, hkl, HG, HS⟩ := hrel
        clear HS0
        by_cases hlt2 : k < ks.length
        · have e2 : decide (k < ks.length) = true := by simpa using hlt2
          obtain ⟨z, hx, _, _⟩ := get_lt hlt2
          obtain ⟨b, off, rfl, hcell⟩ := (HR1.out.below HS.out.bel).at_ hx
          have u0 : wr.cell? ⟨T, 0, none⟩ = some (.slice A cs.length cap) := HS.out.bk.cell 0
          have u1 : wr.cell? ⟨T, 1, none⟩ = some (.bool f) := HS.out.bk.cell 1
          have hcl : cs.length ≤ 400 := by have := HS.out.len; omega
          clear hx
          by_cases hz0 : z = 0
          · subst hz0
            have CR := Lib.hid (rtakenum A cap cs f wr HS.out.rv hcl)
            have C2 := fun (W : World) (h : RD W base g cs f) => Lib.hid (rnum base g cs f W h (by omega))
            rw [or_n HS.out.nil] at C2
            have HRL := Lib.hid (nR_len cs)
            have HNO := Lib.hid (show (!nO cs) = true → nR cs = [] from fun h => n_nilO (by simpa using h))
            go_wp2_with fail
            refine CR.out.mono ?_
            rintro _ w5 ⟨A5, c5, rfl, hv5, hb5, hs5⟩
            obtain ⟨v, hv⟩ : ∃ v : Int, v = (nV cs : Int) := ⟨_, rfl⟩
            rw [← hv] at C2 ⊢
            have S5 := HS.out.below hb5
            generalize nR cs = r at *
            generalize nO cs = o at *
            obtain ⟨L1, L2, L3, L4⟩ := S5.laid (f' := !o) hv5 hs5 HRL.out
            have hT5 : T < w5.heap.size := S5.bk.lt
            have k0 : w5.cell? ⟨T, 0, none⟩ = some (.slice A cs.length cap) := S5.bk.cell 0
            have k1 : w5.cell? ⟨T, 1, none⟩ = some (.bool f) := S5.bk.cell 1
            have z0 := S5.bk.frozen 0
            have z1 := S5.bk.frozen 1
            have HL1 := Lib.hid L1
            have HTK := Lib.hid (fun (W2 W3 : World) (hb : RowKit.Below _ _ W2) (ht : To base g r (!o) W2 W3) => S5.took hs5 HRL.out HNO.out L2 L3 L4 hb ht)
            clear S5 L1 L2 L3 L4 hv5 hb5 hs5 u0 u1 CR hv
            go_wp2_with fail
            refine (C2 _ (HL1.out.below ((RowKit.Below.refl _ _).alloc (Nat.le_refl _) _))).out.mono ?_
            rintro _ w6 ⟨rfl, ht6⟩
            have HSN := Lib.hid (HTK.out _ _ ((RowKit.Below.refl _ _).alloc (Nat.le_refl _) _) ht6)
            clear ht6 HTK HL1 C2 k0 k1 z0 z1 HS
            go_wp2
            cases o
            · have hr0 : r = [] := HSN.out.nil rfl
              subst hr0
              have t0 : w6.cell? ⟨T, 0, none⟩ = some (.slice A5 0 c5) := HSN.out.bk.cell 0
              have t1 : w6.cell? ⟨T, 1, none⟩ = some (.bool true) := HSN.out.bk.cell 1
              have CL := fun n => Lib.hid (quiet_same (left_any base g [] true (w6.drewN n) (HSN.out.rd.below (below_drewN (RowKit.Below.refl _ _) n))))
              have CE := fun n => Lib.hid (quiet_same (ended_any base g [] true (w6.drewN n) (HSN.out.rd.below (below_drewN (RowKit.Below.refl _ _) n))))
              rw [show endB [] true = false by decide] at CE
              go_quiet ((first | (go_at_call 32; exact (CL _).out) | (go_at_call 12; exact (CE _).out)))
              have HSX := Lib.hid (HSN.out.below (below_drewN (RowKit.Below.refl _ _) nq))
              go_wp2
              go_roundg (ks.length - (k + 1))
              case measure => have := HG.out; omega
              case rel => exact ⟨k + 1, _, _, _, _, by go_num, by omega, show _ = _ by omega, HSX.out⟩
            · by_cases hr0 : r = []
              · subst hr0
                have t0 : w6.cell? ⟨T, 0, none⟩ = some (.slice A5 0 c5) := HSN.out.bk.cell 0
                have t1 : w6.cell? ⟨T, 1, none⟩ = some (.bool false) := HSN.out.bk.cell 1
                have CL := fun n => Lib.hid (quiet_same (left_any base g [] false (w6.drewN n) (HSN.out.rd.below (below_drewN (RowKit.Below.refl _ _) n))))
                have CE := fun n => Lib.hid (quiet_same (ended_any base g [] false (w6.drewN n) (HSN.out.rd.below (below_drewN (RowKit.Below.refl _ _) n))))
                rw [show endB [] false = true by decide] at CE
                go_quiet ((first | (go_at_call 32; exact (CL _).out) | (go_at_call 12; exact (CE _).out)))
                have HSX := Lib.hid (HSN.out.below (below_drewN (RowKit.Below.refl _ _) nq))
                go_wp2
                go_roundg (ks.length - (k + 1))
                case measure => have := HG.out; omega
                case rel => exact ⟨k + 1, _, _, _, _, by go_num, by omega, show _ = _ by omega, HSX.out⟩
              · have hrl : ((r.length : Int) == 0) = false := by have : r.length ≠ 0 := fun e => hr0 (List.eq_nil_of_length_eq_zero e); simp; omega
                have t0 : w6.cell? ⟨T, 0, none⟩ = some (.slice A5 r.length c5) := HSN.out.bk.cell 0
                have t1 : w6.cell? ⟨T, 1, none⟩ = some (.bool false) := HSN.out.bk.cell 1
                have CL := fun n => Lib.hid (quiet_same (left_any base g r false (w6.drewN n) (HSN.out.rd.below (below_drewN (RowKit.Below.refl _ _) n))))
                have CE := fun n => Lib.hid (quiet_same (ended_any base g r false (w6.drewN n) (HSN.out.rd.below (below_drewN (RowKit.Below.refl _ _) n))))
                rw [show endB r false = false by unfold endB; cases r; exact absurd rfl hr0; rfl] at CE
                clear hr0
                go_quiet ((first | (go_at_call 32; exact (CL _).out) | (go_at_call 12; exact (CE _).out)))
                have HSX := Lib.hid (HSN.out.below (below_drewN (RowKit.Below.refl _ _) nq))
                go_wp2
                go_roundg (ks.length - (k + 1))
                case measure => have := HG.out; omega
                case rel => exact ⟨k + 1, _, _, _, _, by go_num, by omega, show _ = _ by omega, HSX.out⟩
          by_cases hz1 : z = 1
          · subst hz1
            have CR := Lib.hid (rtakeint A cap cs f wr HS.out.rv hcl)
            have C2 := fun (W : World) (h : RD W base g cs f) => Lib.hid (rint base g cs f W h (by omega))
            rw [or_n HS.out.nil] at C2
            have HRL := Lib.hid (nR_len cs)
            have HNO := Lib.hid (show (!nO cs) = true → nR cs = [] from fun h => n_nilO (by simpa using h))
            go_wp2_with fail
            refine CR.out.mono ?_
            rintro _ w5 ⟨A5, c5, rfl, hv5, hb5, hs5⟩
            obtain ⟨v, hv⟩ : ∃ v : Int, v = unfoldN (nV cs) := ⟨_, rfl⟩
            rw [← hv] at C2 ⊢
            have S5 := HS.out.below hb5
            generalize nR cs = r at *
            generalize nO cs = o at *
            obtain ⟨L1, L2, L3, L4⟩ := S5.laid (f' := !o) hv5 hs5 HRL.out
            have hT5 : T < w5.heap.size := S5.bk.lt
            have k0 : w5.cell? ⟨T, 0, none⟩ = some (.slice A cs.length cap) := S5.bk.cell 0
            have k1 : w5.cell? ⟨T, 1, none⟩ = some (.bool f) := S5.bk.cell 1
            have z0 := S5.bk.frozen 0
            have z1 := S5.bk.frozen 1
            have HL1 := Lib.hid L1
            have HTK := Lib.hid (fun (W2 W3 : World) (hb : RowKit.Below _ _ W2) (ht : To base g r (!o) W2 W3) => S5.took hs5 HRL.out HNO.out L2 L3 L4 hb ht)
            clear S5 L1 L2 L3 L4 hv5 hb5 hs5 u0 u1 CR hv
            go_wp2_with fail
            refine (C2 _ (HL1.out.below ((RowKit.Below.refl _ _).alloc (Nat.le_refl _) _))).out.mono ?_
            rintro _ w6 ⟨rfl, ht6⟩
            have HSN := Lib.hid (HTK.out _ _ ((RowKit.Below.refl _ _).alloc (Nat.le_refl _) _) ht6)
            clear ht6 HTK HL1 C2 k0 k1 z0 z1 HS
            go_wp2
            cases o
            · have hr0 : r = [] := HSN.out.nil rfl
              subst hr0
              have t0 : w6.cell? ⟨T, 0, none⟩ = some (.slice A5 0 c5) := HSN.out.bk.cell 0
              have t1 : w6.cell? ⟨T, 1, none⟩ = some (.bool true) := HSN.out.bk.cell 1
              have CL := fun n => Lib.hid (quiet_same (left_any base g [] true (w6.drewN n) (HSN.out.rd.below (below_drewN (RowKit.Below.refl _ _) n))))
              have CE := fun n => Lib.hid (quiet_same (ended_any base g [] true (w6.drewN n) (HSN.out.rd.below (below_drewN (RowKit.Below.refl _ _) n))))
              rw [show endB [] true = false by decide] at CE
              go_quiet ((first | (go_at_call 32; exact (CL _).out) | (go_at_call 12; exact (CE _).out)))
              have HSX := Lib.hid (HSN.out.below (below_drewN (RowKit.Below.refl _ _) nq))
              go_wp2
              go_roundg (ks.length - (k + 1))
              case measure => have := HG.out; omega
              case rel => exact ⟨k + 1, _, _, _, _, by go_num, by omega, show _ = _ by omega, HSX.out⟩
            · by_cases hr0 : r = []
              · subst hr0
                have t0 : w6.cell? ⟨T, 0, none⟩ = some (.slice A5 0 c5) := HSN.out.bk.cell 0
                have t1 : w6.cell? ⟨T, 1, none⟩ = some (.bool false) := HSN.out.bk.cell 1
                have CL := fun n => Lib.hid (quiet_same (left_any base g [] false (w6.drewN n) (HSN.out.rd.below (below_drewN (RowKit.Below.refl _ _) n))))
                have CE := fun n => Lib.hid (quiet_same (ended_any base g [] false (w6.drewN n) (HSN.out.rd.below (below_drewN (RowKit.Below.refl _ _) n))))
                rw [show endB [] false = true by decide] at CE
                go_quiet ((first | (go_at_call 32; exact (CL _).out) | (go_at_call 12; exact (CE _).out)))
                have HSX := Lib.hid (HSN.out.below (below_drewN (RowKit.Below.refl _ _) nq))
                go_wp2
                go_roundg (ks.length - (k + 1))
                case measure => have := HG.out; omega
                case rel => exact ⟨k + 1, _, _, _, _, by go_num, by omega, show _ = _ by omega, HSX.out⟩
              · have hrl : ((r.length : Int) == 0) = false := by have : r.length ≠ 0 := fun e => hr0 (List.eq_nil_of_length_eq_zero e); simp; omega
                have t0 : w6.cell? ⟨T, 0, none⟩ = some (.slice A5 r.length c5) := HSN.out.bk.cell 0
                have t1 : w6.cell? ⟨T, 1, none⟩ = some (.bool false) := HSN.out.bk.cell 1
                have CL := fun n => Lib.hid (quiet_same (left_any base g r false (w6.drewN n) (HSN.out.rd.below (below_drewN (RowKit.Below.refl _ _) n))))
                have CE := fun n => Lib.hid (quiet_same (ended_any base g r false (w6.drewN n) (HSN.out.rd.below (below_drewN (RowKit.Below.refl _ _) n))))
                rw [show endB r false = false by unfold endB; cases r; exact absurd rfl hr0; rfl] at CE
                clear hr0
                go_quiet ((first | (go_at_call 32; exact (CL _).out) | (go_at_call 12; exact (CE _).out)))
                have HSX := Lib.hid (HSN.out.below (below_drewN (RowKit.Below.refl _ _) nq))
                go_wp2
                go_roundg (ks.length - (k + 1))
                case measure => have := HG.out; omega
                case rel => exact ⟨k + 1, _, _, _, _, by go_num, by omega, show _ = _ by omega, HSX.out⟩
          by_cases hz2 : z = 2
          · subst hz2
            have CR := Lib.hid (rtakesmall A cap cs f m wr HS.out.rv hcl m0 m1)
            have C2 := fun (W : World) (h : RD W base g cs f) => Lib.hid (rsmall base g cs f m W h (by omega) m0 m1)
            rw [or_s m.toNat HS.out.nil] at C2
            have HRL := Lib.hid (sR_len cs m.toNat)
            have HNO := Lib.hid (show (!sO cs m.toNat) = true → sR cs m.toNat = [] from fun h => (fun h => (s_fail h).2) (by simpa using h))
            go_wp2_with fail
            refine CR.out.mono ?_
            rintro _ w5 ⟨A5, c5, rfl, hv5, hb5, hs5⟩
            obtain ⟨v, hv⟩ : ∃ v : Int, v = (sV cs m.toNat : Int) := ⟨_, rfl⟩
            rw [← hv] at C2 ⊢
            have S5 := HS.out.below hb5
            generalize sR cs m.toNat = r at *
            generalize sO cs m.toNat = o at *
            obtain ⟨L1, L2, L3, L4⟩ := S5.laid (f' := !o) hv5 hs5 HRL.out
            have hT5 : T < w5.heap.size := S5.bk.lt
            have k0 : w5.cell? ⟨T, 0, none⟩ = some (.slice A cs.length cap) := S5.bk.cell 0
            have k1 : w5.cell? ⟨T, 1, none⟩ = some (.bool f) := S5.bk.cell 1
            have z0 := S5.bk.frozen 0
            have z1 := S5.bk.frozen 1
            have HL1 := Lib.hid L1
            have HTK := Lib.hid (fun (W2 W3 : World) (hb : RowKit.Below _ _ W2) (ht : To base g r (!o) W2 W3) => S5.took hs5 HRL.out HNO.out L2 L3 L4 hb ht)
            clear S5 L1 L2 L3 L4 hv5 hb5 hs5 u0 u1 CR hv
            go_wp2_with fail
            refine (C2 _ (HL1.out.below ((RowKit.Below.refl _ _).alloc (Nat.le_refl _) _))).out.mono ?_
            rintro _ w6 ⟨rfl, ht6⟩
            have HSN := Lib.hid (HTK.out _ _ ((RowKit.Below.refl _ _).alloc (Nat.le_refl _) _) ht6)
            clear ht6 HTK HL1 C2 k0 k1 z0 z1 HS
            go_wp2
            cases o
            · have hr0 : r = [] := HSN.out.nil rfl
              subst hr0
              have t0 : w6.cell? ⟨T, 0, none⟩ = some (.slice A5 0 c5) := HSN.out.bk.cell 0
              have t1 : w6.cell? ⟨T, 1, none⟩ = some (.bool true) := HSN.out.bk.cell 1
              have CL := fun n => Lib.hid (quiet_same (left_any base g [] true (w6.drewN n) (HSN.out.rd.below (below_drewN (RowKit.Below.refl _ _) n))))
              have CE := fun n => Lib.hid (quiet_same (ended_any base g [] true (w6.drewN n) (HSN.out.rd.below (below_drewN (RowKit.Below.refl _ _) n))))
              rw [show endB [] true = false by decide] at CE
              go_quiet ((first | (go_at_call 32; exact (CL _).out) | (go_at_call 12; exact (CE _).out)))
              have HSX := Lib.hid (HSN.out.below (below_drewN (RowKit.Below.refl _ _) nq))
              go_wp2
              go_roundg (ks.length - (k + 1))
              case measure => have := HG.out; omega
              case rel => exact ⟨k + 1, _, _, _, _, by go_num, by omega, show _ = _ by omega, HSX.out⟩
            · by_cases hr0 : r = []
              · subst hr0
                have t0 : w6.cell? ⟨T, 0, none⟩ = some (.slice A5 0 c5) := HSN.out.bk.cell 0
                have t1 : w6.cell? ⟨T, 1, none⟩ = some (.bool false) := HSN.out.bk.cell 1
                have CL := fun n => Lib.hid (quiet_same (left_any base g [] false (w6.drewN n) (HSN.out.rd.below (below_drewN (RowKit.Below.refl _ _) n))))
                have CE := fun n => Lib.hid (quiet_same (ended_any base g [] false (w6.drewN n) (HSN.out.rd.below (below_drewN (RowKit.Below.refl _ _) n))))
                rw [show endB [] false = true by decide] at CE
                go_quiet ((first | (go_at_call 32; exact (CL _).out) | (go_at_call 12; exact (CE _).out)))
                have HSX := Lib.hid (HSN.out.below (below_drewN (RowKit.Below.refl _ _) nq))
                go_wp2
                go_roundg (ks.length - (k + 1))
                case measure => have := HG.out; omega
                case rel => exact ⟨k + 1, _, _, _, _, by go_num, by omega, show _ = _ by omega, HSX.out⟩
              · have hrl : ((r.length : Int) == 0) = false := by have : r.length ≠ 0 := fun e => hr0 (List.eq_nil_of_length_eq_zero e); simp; omega
                have t0 : w6.cell? ⟨T, 0, none⟩ = some (.slice A5 r.length c5) := HSN.out.bk.cell 0
                have t1 : w6.cell? ⟨T, 1, none⟩ = some (.bool false) := HSN.out.bk.cell 1
                have CL := fun n => Lib.hid (quiet_same (left_any base g r false (w6.drewN n) (HSN.out.rd.below (below_drewN (RowKit.Below.refl _ _) n))))
                have CE := fun n => Lib.hid (quiet_same (ended_any base g r false (w6.drewN n) (HSN.out.rd.below (below_drewN (RowKit.Below.refl _ _) n))))
                rw [show endB r false = false by unfold endB; cases r; exact absurd rfl hr0; rfl] at CE
                clear hr0
                go_quiet ((first | (go_at_call 32; exact (CL _).out) | (go_at_call 12; exact (CE _).out)))
                have HSX := Lib.hid (HSN.out.below (below_drewN (RowKit.Below.refl _ _) nq))
                go_wp2
                go_roundg (ks.length - (k + 1))
                case measure => have := HG.out; omega
                case rel => exact ⟨k + 1, _, _, _, _, by go_num, by omega, show _ = _ by omega, HSX.out⟩
          by_cases hz3 : z = 3
          · subst hz3
            have CR := Lib.hid (rtaketext A cap cs f wr HS.out.rv hcl)
            have C2 := fun (W : World) (h : RD W base g cs f) => Lib.hid (rtext base g cs f W h (by omega))
            rw [or_t HS.out.nil] at C2
            have HRL := Lib.hid (tR_len cs)
            have HNO := Lib.hid (show (!tO cs) = true → tR cs = [] from fun h => t_nilO (by simpa using h))
            go_wp2_with fail
            refine CR.out.mono ?_
            rintro _ w5 ⟨A5, c5, rfl, hv5, hb5, hs5⟩
            obtain ⟨v, hv⟩ : ∃ v : ByteArray, v = strB (tV cs) := ⟨_, rfl⟩
            rw [← hv] at C2 ⊢
            have S5 := HS.out.below hb5
            generalize tR cs = r at *
            generalize tO cs = o at *
            obtain ⟨L1, L2, L3, L4⟩ := S5.laid (f' := !o) hv5 hs5 HRL.out
            have hT5 : T < w5.heap.size := S5.bk.lt
            have k0 : w5.cell? ⟨T, 0, none⟩ = some (.slice A cs.length cap) := S5.bk.cell 0
            have k1 : w5.cell? ⟨T, 1, none⟩ = some (.bool f) := S5.bk.cell 1
            have z0 := S5.bk.frozen 0
            have z1 := S5.bk.frozen 1
            have HL1 := Lib.hid L1
            have HTK := Lib.hid (fun (W2 W3 : World) (hb : RowKit.Below _ _ W2) (ht : To base g r (!o) W2 W3) => S5.took hs5 HRL.out HNO.out L2 L3 L4 hb ht)
            clear S5 L1 L2 L3 L4 hv5 hb5 hs5 u0 u1 CR hv
            go_wp2_with fail
            refine (C2 _ (HL1.out.below ((RowKit.Below.refl _ _).alloc (Nat.le_refl _) _))).out.mono ?_
            rintro _ w6 ⟨rfl, ht6⟩
            have HSN := Lib.hid (HTK.out _ _ ((RowKit.Below.refl _ _).alloc (Nat.le_refl _) _) ht6)
            clear ht6 HTK HL1 C2 k0 k1 z0 z1 HS
            go_wp2
            cases o
            · have hr0 : r = [] := HSN.out.nil rfl
              subst hr0
              have t0 : w6.cell? ⟨T, 0, none⟩ = some (.slice A5 0 c5) := HSN.out.bk.cell 0
              have t1 : w6.cell? ⟨T, 1, none⟩ = some (.bool true) := HSN.out.bk.cell 1
              have CL := fun n => Lib.hid (quiet_same (left_any base g [] true (w6.drewN n) (HSN.out.rd.below (below_drewN (RowKit.Below.refl _ _) n))))
              have CE := fun n => Lib.hid (quiet_same (ended_any base g [] true (w6.drewN n) (HSN.out.rd.below (below_drewN (RowKit.Below.refl _ _) n))))
              rw [show endB [] true = false by decide] at CE
              go_quiet ((first | (go_at_call 32; exact (CL _).out) | (go_at_call 12; exact (CE _).out)))
              have HSX := Lib.hid (HSN.out.below (below_drewN (RowKit.Below.refl _ _) nq))
              go_wp2
              go_roundg (ks.length - (k + 1))
              case measure => have := HG.out; omega
              case rel => exact ⟨k + 1, _, _, _, _, by go_num, by omega, show _ = _ by omega, HSX.out⟩
            · by_cases hr0 : r = []
              · subst hr0
                have t0 : w6.cell? ⟨T, 0, none⟩ = some (.slice A5 0 c5) := HSN.out.bk.cell 0
                have t1 : w6.cell? ⟨T, 1, none⟩ = some (.bool false) := HSN.out.bk.cell 1
                have CL := fun n => Lib.hid (quiet_same (left_any base g [] false (w6.drewN n) (HSN.out.rd.below (below_drewN (RowKit.Below.refl _ _) n))))
                have CE := fun n => Lib.hid (quiet_same (ended_any base g [] false (w6.drewN n) (HSN.out.rd.below (below_drewN (RowKit.Below.refl _ _) n))))
                rw [show endB [] false = true by decide] at CE
                go_quiet ((first | (go_at_call 32; exact (CL _).out) | (go_at_call 12; exact (CE _).out)))
                have HSX := Lib.hid (HSN.out.below (below_drewN (RowKit.Below.refl _ _) nq))
                go_wp2
                go_roundg (ks.length - (k + 1))
                case measure => have := HG.out; omega
                case rel => exact ⟨k + 1, _, _, _, _, by go_num, by omega, show _ = _ by omega, HSX.out⟩
              · have hrl : ((r.length : Int) == 0) = false := by have : r.length ≠ 0 := fun e => hr0 (List.eq_nil_of_length_eq_zero e); simp; omega
                have t0 : w6.cell? ⟨T, 0, none⟩ = some (.slice A5 r.length c5) := HSN.out.bk.cell 0
                have t1 : w6.cell? ⟨T, 1, none⟩ = some (.bool false) := HSN.out.bk.cell 1
                have CL := fun n => Lib.hid (quiet_same (left_any base g r false (w6.drewN n) (HSN.out.rd.below (below_drewN (RowKit.Below.refl _ _) n))))
                have CE := fun n => Lib.hid (quiet_same (ended_any base g r false (w6.drewN n) (HSN.out.rd.below (below_drewN (RowKit.Below.refl _ _) n))))
                rw [show endB r false = false by unfold endB; cases r; exact absurd rfl hr0; rfl] at CE
                clear hr0
                go_quiet ((first | (go_at_call 32; exact (CL _).out) | (go_at_call 12; exact (CE _).out)))
                have HSX := Lib.hid (HSN.out.below (below_drewN (RowKit.Below.refl _ _) nq))
                go_wp2
                go_roundg (ks.length - (k + 1))
                case measure => have := HG.out; omega
                case rel => exact ⟨k + 1, _, _, _, _, by go_num, by omega, show _ = _ by omega, HSX.out⟩
          by_cases hz4 : z = 4
          · subst hz4
            have CR := Lib.hid (rtakefloat A cap cs f wr HS.out.rv hcl)
            have C2 := fun (W : World) (h : RD W base g cs f) => Lib.hid (rfloat base g cs f W h)
            rw [or_f HS.out.nil] at C2
            have HRL := Lib.hid (fR_len cs)
            have HNO := Lib.hid (show (!fO cs) = true → fR cs = [] from fun h => f_nilO (by simpa using h))
            go_wp2_with fail
            refine CR.out.mono ?_
            rintro _ w5 ⟨A5, c5, rfl, hv5, hb5, hs5⟩
            obtain ⟨v, hv⟩ : ∃ v : Nat, v = fV cs := ⟨_, rfl⟩
            rw [← hv] at C2 ⊢
            have S5 := HS.out.below hb5
            generalize fR cs = r at *
            generalize fO cs = o at *
            obtain ⟨L1, L2, L3, L4⟩ := S5.laid (f' := !o) hv5 hs5 HRL.out
            have hT5 : T < w5.heap.size := S5.bk.lt
            have k0 : w5.cell? ⟨T, 0, none⟩ = some (.slice A cs.length cap) := S5.bk.cell 0
            have k1 : w5.cell? ⟨T, 1, none⟩ = some (.bool f) := S5.bk.cell 1
            have z0 := S5.bk.frozen 0
            have z1 := S5.bk.frozen 1
            have HL1 := Lib.hid L1
            have HTK := Lib.hid (fun (W2 W3 : World) (hb : RowKit.Below _ _ W2) (ht : To base g r (!o) W2 W3) => S5.took hs5 HRL.out HNO.out L2 L3 L4 hb ht)
            clear S5 L1 L2 L3 L4 hv5 hb5 hs5 u0 u1 CR hv
            go_wp2_with fail
            refine (C2 _ (HL1.out.below ((RowKit.Below.refl _ _).alloc (Nat.le_refl _) _))).out.mono ?_
            rintro _ w6 ⟨rfl, ht6⟩
            have HSN := Lib.hid (HTK.out _ _ ((RowKit.Below.refl _ _).alloc (Nat.le_refl _) _) ht6)
            clear ht6 HTK HL1 C2 k0 k1 z0 z1 HS
            have fb := f64bits v
            go_wp2
            clear fb
            cases o
            · have hr0 : r = [] := HSN.out.nil rfl
              subst hr0
              have t0 : w6.cell? ⟨T, 0, none⟩ = some (.slice A5 0 c5) := HSN.out.bk.cell 0
              have t1 : w6.cell? ⟨T, 1, none⟩ = some (.bool true) := HSN.out.bk.cell 1
              have CL := fun n => Lib.hid (quiet_same (left_any base g [] true (w6.drewN n) (HSN.out.rd.below (below_drewN (RowKit.Below.refl _ _) n))))
              have CE := fun n => Lib.hid (quiet_same (ended_any base g [] true (w6.drewN n) (HSN.out.rd.below (below_drewN (RowKit.Below.refl _ _) n))))
              rw [show endB [] true = false by decide] at CE
              go_quiet ((first | (go_at_call 32; exact (CL _).out) | (go_at_call 12; exact (CE _).out)))
              have HSX := Lib.hid (HSN.out.below (below_drewN (RowKit.Below.refl _ _) nq))
              go_wp2
              go_roundg (ks.length - (k + 1))
              case measure => have := HG.out; omega
              case rel => exact ⟨k + 1, _, _, _, _, by go_num, by omega, show _ = _ by omega, HSX.out⟩
            · by_cases hr0 : r = []
              · subst hr0
                have t0 : w6.cell? ⟨T, 0, none⟩ = some (.slice A5 0 c5) := HSN.out.bk.cell 0
                have t1 : w6.cell? ⟨T, 1, none⟩ = some (.bool false) := HSN.out.bk.cell 1
                have CL := fun n => Lib.hid (quiet_same (left_any base g [] false (w6.drewN n) (HSN.out.rd.below (below_drewN (RowKit.Below.refl _ _) n))))
                have CE := fun n => Lib.hid (quiet_same (ended_any base g [] false (w6.drewN n) (HSN.out.rd.below (below_drewN (RowKit.Below.refl _ _) n))))
                rw [show endB [] false = true by decide] at CE
                go_quiet ((first | (go_at_call 32; exact (CL _).out) | (go_at_call 12; exact (CE _).out)))
                have HSX := Lib.hid (HSN.out.below (below_drewN (RowKit.Below.refl _ _) nq))
                go_wp2
                go_roundg (ks.length - (k + 1))
                case measure => have := HG.out; omega
                case rel => exact ⟨k + 1, _, _, _, _, by go_num, by omega, show _ = _ by omega, HSX.out⟩
              · have hrl : ((r.length : Int) == 0) = false := by have : r.length ≠ 0 := fun e => hr0 (List.eq_nil_of_length_eq_zero e); simp; omega
                have t0 : w6.cell? ⟨T, 0, none⟩ = some (.slice A5 r.length c5) := HSN.out.bk.cell 0
                have t1 : w6.cell? ⟨T, 1, none⟩ = some (.bool false) := HSN.out.bk.cell 1
                have CL := fun n => Lib.hid (quiet_same (left_any base g r false (w6.drewN n) (HSN.out.rd.below (below_drewN (RowKit.Below.refl _ _) n))))
                have CE := fun n => Lib.hid (quiet_same (ended_any base g r false (w6.drewN n) (HSN.out.rd.below (below_drewN (RowKit.Below.refl _ _) n))))
                rw [show endB r false = false by unfold endB; cases r; exact absurd rfl hr0; rfl] at CE
                clear hr0
                go_quiet ((first | (go_at_call 32; exact (CL _).out) | (go_at_call 12; exact (CE _).out)))
                have HSX := Lib.hid (HSN.out.below (below_drewN (RowKit.Below.refl _ _) nq))
                go_wp2
                go_roundg (ks.length - (k + 1))
                case measure => have := HG.out; omega
                case rel => exact ⟨k + 1, _, _, _, _, by go_num, by omega, show _ = _ by omega, HSX.out⟩
          by_cases hz5 : z = 5
          · subst hz5
            have CF := Lib.hid (fail_any base g cs f wr HS.out.rd)
            clear u0 u1
            go_wp2_with fail
            refine CF.out.mono ?_
            rintro _ w5 ⟨rfl, ht5⟩
            have b5 := HS.out.bk.grown ht5.2 (fun e => HS.out.ne (by injection e))
            have k0 : w5.cell? ⟨T, 0, none⟩ = some (.slice A cs.length cap) := b5.cell 0
            have k1 : w5.cell? ⟨T, 1, none⟩ = some (.bool f) := b5.cell 1
            have z0 := b5.frozen 0
            have z1 := b5.frozen 1
            have HSN := Lib.hid (HS.out.failed ht5)
            obtain ⟨W9, hW9⟩ : ∃ X, X = (w5.setCell ⟨T, 0, none⟩ (.slice none 0 0)).setCell ⟨T, 1, none⟩ (.bool true) := ⟨_, rfl⟩
            rw [← hW9] at HSN
            clear ht5 b5 CF HS
            go_wp2
            rw [← hW9]
            clear hW9 k0 k1 z0 z1
            have t0 : W9.cell? ⟨T, 0, none⟩ = some (.slice none 0 0) := HSN.out.bk.cell 0
            have t1 : W9.cell? ⟨T, 1, none⟩ = some (.bool true) := HSN.out.bk.cell 1
            have CL := fun n => Lib.hid (quiet_same (left_any base g [] true (W9.drewN n) (HSN.out.rd.below (below_drewN (RowKit.Below.refl _ _) n))))
            have CE := fun n => Lib.hid (quiet_same (ended_any base g [] true (W9.drewN n) (HSN.out.rd.below (below_drewN (RowKit.Below.refl _ _) n))))
            rw [show endB [] true = false by decide] at CE
            go_quiet ((first | (go_at_call 32; exact (CL _).out) | (go_at_call 12; exact (CE _).out)))
            have HSX := Lib.hid (HSN.out.below (below_drewN (RowKit.Below.refl _ _) nq))
            go_wp2
            go_roundg (ks.length - (k + 1))
            case measure => have := HG.out; omega
            case rel => exact ⟨k + 1, _, _, _, _, by go_num, by omega, show _ = _ by omega, HSX.out⟩
          have e100 : (z == 0) = false := by simpa using hz0
          have e101 : (z == 1) = false := by simpa using hz1
          have e102 : (z == 2) = false := by simpa using hz2
          have e103 : (z == 3) = false := by simpa using hz3
          have e104 : (z == 4) = false := by simpa using hz4
          have e105 : (z == 5) = false := by simpa using hz5
          clear hz0 hz1 hz2 hz3 hz4 hz5
          obtain ⟨o, ho⟩ : ∃ o, f = !o := ⟨!f, by simp⟩
          subst ho
          obtain ⟨r, rfl⟩ : ∃ r, r = cs := ⟨_, rfl⟩
          have HSN := HS
          clear u0 u1
          go_wp2
          cases o
          · have hr0 : r = [] := HSN.out.nil rfl
            subst hr0
            have t0 : wr.cell? ⟨T, 0, none⟩ = some (.slice A 0 cap) := HSN.out.bk.cell 0
            have t1 : wr.cell? ⟨T, 1, none⟩ = some (.bool true) := HSN.out.bk.cell 1
            have CL := fun n => Lib.hid (quiet_same (left_any base g [] true (wr.drewN n) (HSN.out.rd.below (below_drewN (RowKit.Below.refl _ _) n))))
            have CE := fun n => Lib.hid (quiet_same (ended_any base g [] true (wr.drewN n) (HSN.out.rd.below (below_drewN (RowKit.Below.refl _ _) n))))
            rw [show endB [] true = false by decide] at CE
            go_quiet ((first | (go_at_call 32; exact (CL _).out) | (go_at_call 12; exact (CE _).out)))
            have HSX := Lib.hid (HSN.out.below (below_drewN (RowKit.Below.refl _ _) nq))
            go_wp2
            go_roundg (ks.length - (k + 1))
            case measure => have := HG.out; omega
            case rel => exact ⟨k + 1, _, _, _, _, by go_num, by omega, show _ = _ by omega, HSX.out⟩
          · by_cases hr0 : r = []
            · subst hr0
              have t0 : wr.cell? ⟨T, 0, none⟩ = some (.slice A 0 cap) := HSN.out.bk.cell 0
              have t1 : wr.cell? ⟨T, 1, none⟩ = some (.bool false) := HSN.out.bk.cell 1
              have CL := fun n => Lib.hid (quiet_same (left_any base g [] false (wr.drewN n) (HSN.out.rd.below (below_drewN (RowKit.Below.refl _ _) n))))
              have CE := fun n => Lib.hid (quiet_same (ended_any base g [] false (wr.drewN n) (HSN.out.rd.below (below_drewN (RowKit.Below.refl _ _) n))))
              rw [show endB [] false = true by decide] at CE
              go_quiet ((first | (go_at_call 32; exact (CL _).out) | (go_at_call 12; exact (CE _).out)))
              have HSX := Lib.hid (HSN.out.below (below_drewN (RowKit.Below.refl _ _) nq))
              go_wp2
              go_roundg (ks.length - (k + 1))
              case measure => have := HG.out; omega
              case rel => exact ⟨k + 1, _, _, _, _, by go_num, by omega, show _ = _ by omega, HSX.out⟩
            · have hrl : ((r.length : Int) == 0) = false := by have : r.length ≠ 0 := fun e => hr0 (List.eq_nil_of_length_eq_zero e); simp; omega
              have t0 : wr.cell? ⟨T, 0, none⟩ = some (.slice A r.length cap) := HSN.out.bk.cell 0
              have t1 : wr.cell? ⟨T, 1, none⟩ = some (.bool false) := HSN.out.bk.cell 1
              have CL := fun n => Lib.hid (quiet_same (left_any base g r false (wr.drewN n) (HSN.out.rd.below (below_drewN (RowKit.Below.refl _ _) n))))
              have CE := fun n => Lib.hid (quiet_same (ended_any base g r false (wr.drewN n) (HSN.out.rd.below (below_drewN (RowKit.Below.refl _ _) n))))
              rw [show endB r false = false by unfold endB; cases r; exact absurd rfl hr0; rfl] at CE
              clear hr0
              go_quiet ((first | (go_at_call 32; exact (CL _).out) | (go_at_call 12; exact (CE _).out)))
              have HSX := Lib.hid (HSN.out.below (below_drewN (RowKit.Below.refl _ _) nq))
              go_wp2
              go_roundg (ks.length - (k + 1))
              case measure => have := HG.out; omega
              case rel => exact ⟨k + 1, _, _, _, _, by go_num, by omega, show _ = _ by omega, HSX.out⟩
        · have e2 : decide (k < ks.length) = false := by simpa using hlt2
          go_wp2
          go_ret
          exact ⟨rfl, HS.out.bel⟩

set_option maxHeartbeats 800000 in
set_option maxRecDepth 100000 in
theorem takes_out (a0 : Option Addr) (len0 cap0 : Nat) (a1 : Option Addr) (len1 cap1 : Nat) (m : Int) (w : World) (h : 400 < len0 ∨ 100 < len1) :
    Calls Try.prog 5 #[.slice a0 len0 cap0, .slice a1 len1 cap1, .int .u64 m] w fun e w' => e = .returned (.bool true) ∧ RowKit.Below w.heap.size w w' := by
  have hc : (400 < len0) ∨ (len0 ≤ 400 ∧ 100 < len1) := by omega
  clear h
  rcases hc with h0 | ⟨h0, h1⟩
  · have d0 : decide ((400 : Int) < (len0 : Int)) = true := by simp; omega
    go_enter Try.func5, Try.ntmps5
    go_wp2_with fail
    refine (alive_any _).mono ?_
    rintro _ w1 ⟨rfl, hb1⟩
    have HW1 := Lib.hid hb1
    clear hb1
    go_wp2
    go_ret
    exact ⟨rfl, HW1.out⟩
  · have d0 : decide ((400 : Int) < (len0 : Int)) = false := by simp; omega
    have d1 : decide ((100 : Int) < (len1 : Int)) = true := by simp; omega
    go_enter Try.func5, Try.ntmps5
    go_wp2_with fail
    refine (alive_any _).mono ?_
    rintro _ w1 ⟨rfl, hb1⟩
    have HW1 := Lib.hid hb1
    clear hb1
    go_wp2
    go_ret
    exact ⟨rfl, HW1.out⟩
theorem u64_wf {n : Int} (h : (Lit.int .u64 n).wf = true) : 0 ≤ n ∧ n < 18446744073709551616 := by
  simp [Lit.wf] at h
  have h1 : IntKind.u64.min = 0 := by decide
  have h2 : IntKind.u64.max = 18446744073709551615 := by decide
  omega
theorem packTakes_walk (w : World) (a0 : Option Addr) (len0 cap0 : Nat) (l0 : List UInt8) (w0 : CameB w a0 len0 cap0 l0) (a1 : Option Addr) (len1 cap1 : Nat) (l1 : List Int) (w1 : Came (Value.int .i64) w a1 len1 cap1 l1 ∧ ∀ n ∈ l1, (Lit.int .i64 n).wf = true) (a2 : Int) (w2 : (Lit.int .u64 a2).wf = true) :
    Calls Try.prog 5 #[.slice a0 len0 cap0, .slice a1 len1 cap1, .int .u64 a2] w fun e w' => e = .returned (.bool true) ∧ RowKit.Below w.heap.size w w' := by
  by_cases h : 400 < len0 ∨ 100 < len1
  · exact takes_out a0 len0 cap0 a1 len1 cap1 a2 w h
  · have hn := w0.none
    obtain ⟨r0, rfl, hc, _, _⟩ := w0
    obtain ⟨⟨r1, rfl, _, _, _⟩, _⟩ := w1
    obtain ⟨m0, m1⟩ := u64_wf w2
    exact takes_in a0 l0 cap0 a1 l1 cap1 a2 w r0 hn hc r1 (by omega) (by omega) m0 m1
end Go.Proofs.Ytcahmijcfmakjaa
