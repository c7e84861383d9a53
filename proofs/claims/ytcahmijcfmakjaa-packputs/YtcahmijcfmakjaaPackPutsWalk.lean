/- The walk of falseworklaw06.PackPuts. -/
import Derived.Test.YtcahmijcfmakjaaPkV
import Derived.Test.YtcahmijcfmakjaaPkG
import Derived.Test.YtcahmijcfmakjaaPkX
import Derived.Test.YtcahmijcfmakjaaPkO
namespace Go.Proofs.Ytcahmijcfmakjaa
open Go.RowKit Go.Lib

def uN (n : Int) : Int := n % 18446744073709551616
def nu (l : List Int) : List Int := l.map uN
def fl (l : List Int) : List Nat := l.map fun n => (uN n).toNat
theorem uN_b (n : Int) : 0 ≤ uN n ∧ uN n < 18446744073709551616 := by unfold uN; omega
theorem nu_snoc (l : List Int) (n : Int) : nu (l ++ [n]) = nu l ++ [uN n] := by simp [nu]
theorem fl_snoc (l : List Int) (n : Int) : fl (l ++ [n]) = fl l ++ [(uN n).toNat] := by simp [fl]
abbrev es7 : List TypeId := [5, 5, 5, 5, 5, 28, 35]
/-- the seven slices: own, a, b, d, c, nums, floats -/
def Sev (wr : World) (base : Nat) (v7 v8 v9 v10 v11 v12 v13 : Value) (F A B D C : List UInt8) (N : List Int) (L : List Nat) : Prop :=
  Rws wr base [v7, v8, v9, v10, v11, v12, v13] es7 [bcells F, bcells A, bcells B, bcells D, bcells C, N.map (Value.int .u64), L.map (Value.float .f64)]
/-- what the numbers' loop has made -/
def Has (F : List UInt8) (l : List Int) (A B D : List UInt8) (N : List Int) (L : List Nat) : Prop :=
  A = F ++ encU (nu l) ∧ B = F ++ encI l ∧ D = F ++ encF (fl l) ∧ N = nu l ∧ L = fl l ∧ A.length ≤ F.length + 10 * l.length ∧ B.length ≤ F.length + 10 * l.length ∧ D.length ≤ F.length + 10 * l.length
theorem Has.step {F : List UInt8} {l : List Int} {A B D : List UInt8} {N : List Int} {L : List Nat} (h : Has F l A B D N L) {n : Int} (hn : -9223372036854775808 ≤ n ∧ n ≤ 9223372036854775807) :
    Has F (l ++ [n]) (A ++ uvarint (uN n).toNat) (B ++ uvarint (foldN n)) (D ++ leB (uN n).toNat) (N ++ [uN n]) (L ++ [(uN n).toNat]) := by
  obtain ⟨rfl, rfl, rfl, rfl, rfl, h1, h2, h3⟩ := h
  have u1 := uv_len (uN_b n).2
  have u2 := uvarint_length64 (foldN_lt hn.1 hn.2)
  refine ⟨by rw [nu_snoc, encU_snoc, List.append_assoc], by rw [encI_snoc, List.append_assoc], by rw [fl_snoc, encF_snoc, List.append_assoc], (nu_snoc _ _).symm, (fl_snoc _ _).symm, ?_, ?_, ?_⟩
  · simp only [List.length_append, List.length_cons, List.length_nil] at h1 h2 h3 ⊢; omega
  · simp only [List.length_append, List.length_cons, List.length_nil] at h1 h2 h3 ⊢; omega
  · simp only [List.length_append, List.length_cons, List.length_nil, leB_len] at h1 h2 h3 ⊢; omega

set_option maxHeartbeats 6400000 in
set_option maxRecDepth 100000 in
theorem puts_in (a0 : Option Addr) (F : List UInt8) (cap0 : Nat) (a1 : Option Addr) (l : List Int) (cap1 : Nat) (a2 : Option Addr) (s : List ByteArray) (cap2 : Nat) (w : World) (hb0 : BAt w a0 F) (hn0 : a0 = none → F = []) (hr1 : RAt (Value.int .i64) w a1 l) (hI : ∀ x ∈ l, -9223372036854775808 ≤ x ∧ x ≤ 9223372036854775807) (hr2 : RAt Value.string w a2 s) (hF : F.length ≤ 100) (hl : l.length ≤ 50) (hs : s.length ≤ 20) :
    Calls Try.prog 4 #[.slice a0 F.length cap0, .slice a1 l.length cap1, .slice a2 s.length cap2] w fun e w' => e = .returned (.bool true) ∧ RowKit.Below w.heap.size w w' := by
  have HB0 := Lib.hid hb0
  have HN0 := Lib.hid hn0
  have HR1 := Lib.hid hr1
  have HR2 := Lib.hid hr2
  have HI := Lib.hid hI
  have d0 : decide ((100 : Int) < (F.length : Int)) = false := by simp; omega
  have d1 : decide ((50 : Int) < (l.length : Int)) = false := by simp; omega
  have d2 : decide ((20 : Int) < (s.length : Int)) = false := by simp; omega
  obtain ⟨iu, hiu, hzu, hu1, hu8⟩ := infoU
  obtain ⟨jf, hif, hzf, hf1, hf8⟩ := infoF
  have IU := Lib.hid (And.intro hiu (And.intro hzu (And.intro hu1 hu8)))
  have IF := Lib.hid (And.intro hif (And.intro hzf (And.intro hf1 hf8)))
  clear hb0 hn0 hr1 hr2 hI hiu hzu hu1 hu8 hif hzf hf1 hf8
  go_enter Try.func4, Try.ntmps4
  go_wp2_with fail
  refine (alive_any _).mono ?_
  rintro _ w1 ⟨rfl, hb1⟩
  have HW1 := Lib.hid hb1
  clear hb1
  go_wp2_with (first
    | (at_builtin; refine wpList_fresh rfl (.tmp 35) (.tmp 36) rfl F a0 _ F.length (by rfl) (by rfl) rfl (HB0.out.below HW1.out) HN0.out (by omega) ?_; intro v7 w7 f7; have HF7 := Lib.hid f7; have HW7 := Lib.hid (bl_trans HW1.out f7.2.1); clear f7)
    | (at_builtin; refine wpList_fresh rfl (.tmp 38) (.tmp 39) rfl F a0 _ F.length (by rfl) (by rfl) rfl (HB0.out.below HW7.out) HN0.out (by omega) ?_; intro v8 w8 f8; have HF8 := Lib.hid f8; have HW8 := Lib.hid (bl_trans HW7.out f8.2.1); clear f8)
    | (at_builtin; refine wpList_fresh rfl (.tmp 41) (.tmp 42) rfl F a0 _ F.length (by rfl) (by rfl) rfl (HB0.out.below HW8.out) HN0.out (by omega) ?_; intro v9 w9 f9; have HF9 := Lib.hid f9; have HW9 := Lib.hid (bl_trans HW8.out f9.2.1); clear f9)
    | (at_builtin; refine wpList_fresh rfl (.tmp 44) (.tmp 45) rfl F a0 _ F.length (by rfl) (by rfl) rfl (HB0.out.below HW9.out) HN0.out (by omega) ?_; intro v10 w10 f10; have HF10 := Lib.hid f10; have HW10 := Lib.hid (bl_trans HW9.out f10.2.1); clear f10)
    | (at_builtin; refine wpList_fresh rfl (.tmp 47) (.tmp 48) rfl F a0 _ F.length (by rfl) (by rfl) rfl (HB0.out.below HW10.out) HN0.out (by omega) ?_; intro v11 w11 f11; have HF11 := Lib.hid f11; have HW11 := Lib.hid (bl_trans HW10.out f11.2.1); clear f11))
  have R0 := Rws.push (Rws.nil w1 w.heap.size) rfl rfl (of_ob HF7.out.1) HW1.out.size HF7.out.2.1 HF7.out.2.2
  have R1 := Rws.push R0 rfl rfl (of_ob HF8.out.1) HW7.out.size HF8.out.2.1 HF8.out.2.2
  have R2 := Rws.push R1 rfl rfl (of_ob HF9.out.1) HW8.out.size HF9.out.2.1 HF9.out.2.2
  have R3 := Rws.push R2 rfl rfl (of_ob HF10.out.1) HW9.out.size HF10.out.2.1 HF10.out.2.2
  have R4 := Rws.push R3 rfl rfl (of_ob HF11.out.1) HW10.out.size HF11.out.2.1 HF11.out.2.2
  have R5 := Rws.push R4 rfl rfl (x := []) (World.ownsRow_lit (base := w11.heap.size) (e := 28) (size := 1) w11 #[] 0 (Nat.le_refl _) (by decide) rfl) HW11.out.size ((RowKit.Below.refl _ _).alloc (Nat.le_refl _) _) ⟨w11.heap.size, rfl, Nat.le_refl _⟩
  have R6 := Rws.push R5 rfl rfl (x := []) (World.ownsRow_lit (base := (w11.alloc (.cells #[] 28)).heap.size) (e := 35) (size := 1) (w11.alloc (.cells #[] 28)) #[] 0 (Nat.le_refl _) (by decide) rfl) (by have := HW11.out.size; simp; omega) ((RowKit.Below.refl _ _).alloc (Nat.le_refl _) _) ⟨(w11.alloc (.cells #[] 28)).heap.size, rfl, Nat.le_refl _⟩
  have HS0 := Lib.hid (show Sev _ w.heap.size v7 v8 v9 v10 v11 (.slice (some ⟨w11.heap.size, 0, none⟩) 0 0) (.slice (some ⟨w11.heap.size + 1, 0, none⟩) 0 0) F F F F F [] [] by simpa [Sev] using R6)
  have HW0 := Lib.hid (bl_trans HW11.out (((RowKit.Below.refl w11.heap.size w11).alloc (Nat.le_refl _) (.cells #[] 28)).alloc (by simp) (.cells #[] 35)))
  clear R0 R1 R2 R3 R4 R5 R6 HF7 HF8 HF9 HF10 HF11
  go_loopg [8, 9, 10, 12, 13, 54] l.length (fun g c8 c9 c10 c12 c13 c54 wr => ∃ (k : Nat) (A B D : List UInt8) (N : List Int) (L : List Nat), c54 = .int .i64 (k : Int) ∧ k ≤ l.length ∧ Hid (g + k = l.length) ∧ Hid (Has F (l.take k) A B D N L) ∧ Hid (Sev wr w.heap.size v7 c8 c9 c10 v11 c12 c13 F A B D F N L) ∧ Hid (RowKit.Below w.heap.size w wr))
  case atStart => exact ⟨0, F, F, F, [], [], rfl, by omega, Nat.add_zero _, (show Has F (l.take 0) F F F [] [] by rw [List.take_zero]; exact ⟨by simp [nu, encU], by simp [encI], by simp [fl, encF], rfl, rfl, by simp, by simp, by simp⟩), HS0.out, HW0.out⟩
  case round =>
    obtain ⟨k, A, B, D, N, L, rfl, hk, HG, HH, HS, HW⟩ := hrel
    by_cases hlt : k < l.length
    · have e1 : decide (k < l.length) = true := by simpa using hlt
      obtain ⟨x, hx, htk, hmem⟩ := get_lt hlt
      obtain ⟨b, off, rfl, hcell⟩ := (HR1.out.below HW.out).at_ hx
      have HXI := Lib.hid (HI.out x hmem)
      have HH1 := Lib.hid (HH.out.step HXI.out)
      rw [← htk] at HH1
      have hlk : (l.take k).length = k := by rw [List.length_take]; omega
      have HLEN := Lib.hid (show A.length ≤ 700 ∧ B.length ≤ 700 ∧ D.length ≤ 700 ∧ N.length ≤ 50 ∧ L.length ≤ 50 by
        obtain ⟨_, _, _, e4, e5, q1, q2, q3⟩ := HH.out
        rw [hlk] at q1 q2 q3
        refine ⟨by omega, by omega, by omega, ?_, ?_⟩
        · rw [e4]; unfold nu; rw [List.length_map, hlk]; omega
        · rw [e5]; unfold fl; rw [List.length_map, hlk]; omega)
      obtain ⟨u0, u1⟩ := uN_b x
      obtain ⟨u, hu⟩ : ∃ u, u = uN x := ⟨_, rfl⟩
      rw [← hu] at u0 u1 HH1
      have eu1 : IntKind.u64.wrap x = u := by rw [IntKind.wrap_u64, hu]; rfl
      have fb := f64from u.toNat
      rw [Int.toNat_of_nonneg u0] at fb
      have CN := fun W => Lib.hid (refnum u W u0 u1)
      have CI := fun W => Lib.hid (refint x W HXI.out.1 HXI.out.2)
      have CF := fun W => Lib.hid (reffloat u.toNat W (by omega))
      generalize hU1 : uvarint u.toNat = U1 at *
      generalize hU2 : uvarint (foldN x) = U2 at *
      generalize hU3 : leB u.toNat = U3 at *
      have HUL := Lib.hid (show U1.length ≤ 10 ∧ U2.length ≤ 10 ∧ U3.length ≤ 10 from ⟨by rw [← hU1]; exact uv_len u1, by rw [← hU2]; exact uvarint_length64 (foldN_lt HXI.out.1 HXI.out.2), by rw [← hU3, leB_len]; omega⟩)
      have HTK := Lib.hid htk
      clear hx htk hmem hlk hu hU1 hU2 hU3
      generalize hxf : u.toNat = xf at *
      clear hxf
      go_wp2_with (first
        | (simp only [fb])
        | (at_builtin; refine wpList_one rfl (.tmp 58) (.tmp 61) 33 28 iu (.int .u64 0) rfl Try.underlying33 IU.out.1 IU.out.2.1 IU.out.2.2.1 IU.out.2.2.2 rfl w.heap.size u12 (.int .u64 u) (N.map (Value.int .u64)) (by rfl) (by rfl) rfl (HS.out.own 5 _ _ _ rfl rfl rfl) (by rw [List.length_map]; have := HLEN.out; omega) HW.out.size ?_; intro v12 w12 ho hU; have HS1 := Lib.hid (show Sev w12 w.heap.size v7 u8 u9 u10 v11 v12 u13 F A B D F (N ++ [u]) L by unfold Sev; rw [List.map_append]; exact HS.out.upd 5 rfl rfl ho hU); have HW12 := Lib.hid (HW.out.grown hU.g HW.out.size fun k hk => (own_lt (HS.out.own 5 _ _ _ rfl rfl rfl) k hk).1); clear ho hU)
        | (at_builtin; refine wpList_one rfl (.tmp 63) (.tmp 67) 34 35 jf (.float .f64 0) rfl Try.underlying34 IF.out.1 IF.out.2.1 IF.out.2.2.1 IF.out.2.2.2 rfl w.heap.size u13 (.float .f64 xf) (L.map (Value.float .f64)) (by rfl) (by rfl) rfl (HS1.out.own 6 _ _ _ rfl rfl rfl) (by rw [List.length_map]; have := HLEN.out; omega) HW12.out.size ?_; intro v13 w13 ho hU; have HS2 := Lib.hid (show Sev w13 w.heap.size v7 u8 u9 u10 v11 v12 v13 F A B D F (N ++ [u]) (L ++ [xf]) by unfold Sev; rw [List.map_append (l₁ := L)]; exact HS1.out.upd 6 rfl rfl ho hU); have HW13 := Lib.hid (HW12.out.grown hU.g HW12.out.size fun k hk => (own_lt (HS1.out.own 6 _ _ _ rfl rfl rfl) k hk).1); clear ho hU))
      refine (CN _).out.mono ?_
      rintro _ w14 h14
      obtain ⟨a14, c14, rfl, hb14, hn14, hB14, _⟩ := h14.row
      have HB14 := Lib.hid hb14
      have HN14 := Lib.hid hn14
      have HS3 := Lib.hid (show Sev w14 _ _ _ _ _ _ _ _ _ _ _ _ _ _ _ from HS2.out.below hB14)
      have HW14 := Lib.hid (bl_trans HW13.out hB14)
      clear h14 hb14 hn14 hB14 CN
      go_wp2_with (at_builtin; refine wpList_appB rfl (.tmp 69) (.tmp 72) rfl w.heap.size _ A U1 a14 _ U1.length (by rfl) (by rfl) rfl (ob_of (HS3.out.own 1 _ _ _ rfl rfl rfl)) HB14.out HN14.out (by have := HLEN.out; have := HUL.out; omega) HW14.out.size ?_; intro v8' w15 h3; have HS4 := Lib.hid (show Sev w15 w.heap.size v7 v8' u9 u10 v11 v12 v13 F (A ++ U1) B D F (N ++ [u]) (L ++ [xf]) from HS3.out.upd 1 rfl rfl (of_ob h3.1) h3.2.1); have HW15 := Lib.hid (HW14.out.grown h3.2.1.g HW14.out.size fun k hk => (own_lt (HS3.out.own 1 _ _ _ rfl rfl rfl) k hk).1); clear h3)
      refine (CI _).out.mono ?_
      rintro _ w16 h16
      obtain ⟨a16, c16, rfl, hb16, hn16, hB16, _⟩ := h16.row
      have HB16 := Lib.hid hb16
      have HN16 := Lib.hid hn16
      have HS5 := Lib.hid (show Sev w16 _ _ _ _ _ _ _ _ _ _ _ _ _ _ _ from HS4.out.below hB16)
      have HW16 := Lib.hid (bl_trans HW15.out hB16)
      clear h16 hb16 hn16 hB16 CI
      go_wp2_with (first | (at_builtin; refine wpList_appB rfl (.tmp 74) (.tmp 76) rfl w.heap.size _ B U2 a16 _ U2.length (by rfl) (by rfl) rfl (ob_of (HS5.out.own 2 _ _ _ rfl rfl rfl)) HB16.out HN16.out (by have := HLEN.out; have := HUL.out; omega) HW16.out.size ?_; intro v9' w17 h3; have HS6 := Lib.hid (show Sev w17 w.heap.size v7 v8' v9' u10 v11 v12 v13 F (A ++ U1) (B ++ U2) D F (N ++ [u]) (L ++ [xf]) from HS5.out.upd 2 rfl rfl (of_ob h3.1) h3.2.1); have HW17 := Lib.hid (HW16.out.grown h3.2.1.g HW16.out.size fun k hk => (own_lt (HS5.out.own 2 _ _ _ rfl rfl rfl) k hk).1); clear h3))
      refine (CF _).out.mono ?_
      rintro _ w18 h18
      obtain ⟨a18, c18, rfl, hb18, hn18, hB18, _⟩ := h18.row
      have HB18 := Lib.hid hb18
      have HN18 := Lib.hid hn18
      have HS7 := Lib.hid (show Sev w18 _ _ _ _ _ _ _ _ _ _ _ _ _ _ _ from HS6.out.below hB18)
      have HW18 := Lib.hid (bl_trans HW17.out hB18)
      clear h18 hb18 hn18 hB18 CF
      go_wp2_with (at_builtin; refine wpList_appB rfl (.tmp 78) (.tmp 82) rfl w.heap.size _ D U3 a18 _ U3.length (by rfl) (by rfl) rfl (ob_of (HS7.out.own 3 _ _ _ rfl rfl rfl)) HB18.out HN18.out (by have := HLEN.out; have := HUL.out; omega) HW18.out.size ?_; intro v10' w19 h3; have HS8 := Lib.hid (show Sev w19 w.heap.size v7 v8' v9' v10' v11 v12 v13 F (A ++ U1) (B ++ U2) (D ++ U3) F (N ++ [u]) (L ++ [xf]) from HS7.out.upd 3 rfl rfl (of_ob h3.1) h3.2.1); have HW19 := Lib.hid (HW18.out.grown h3.2.1.g HW18.out.size fun k hk => (own_lt (HS7.out.own 3 _ _ _ rfl rfl rfl) k hk).1); clear h3)
      go_roundg (l.length - (k + 1))
      case measure => have := HG.out; omega
      case rel => exact ⟨k + 1, _, _, _, _, _, by go_num, by omega, show _ = _ by omega, HH1.out, HS8.out, HW19.out⟩
    · have e1 : decide (k < l.length) = false := by simpa using hlt
      have HA := Lib.hid (show Has F l A B D N L by have := HH.out; rw [List.take_of_length_le (by omega)] at this; exact this)
      obtain ⟨W1, rfl⟩ : ∃ W, W = wr := ⟨_, rfl⟩
      have HS1 := Lib.hid HS.out
      have HWW := Lib.hid HW.out
      clear HS HW HG HH
      go_wp2
      go_loopg [11, 87] s.length (fun g c11 c87 wr => ∃ (j : Nat) (C : List UInt8), c87 = .int .i64 (j : Int) ∧ j ≤ s.length ∧ Hid (g + j = s.length) ∧ Hid (C = F ++ encT (s.take j)) ∧ Hid (C.length ≤ 100 + 1010 * j) ∧ Hid (∀ t ∈ s.take j, t.size ≤ 1000) ∧ Hid (Sev wr w.heap.size v7 u8 u9 u10 c11 u12 u13 F A B D C N L) ∧ Hid (RowKit.Below w.heap.size w wr))
      case atStart => exact ⟨0, F, rfl, by omega, Nat.add_zero _, (show _ = _ by simp [encT]), (show _ ≤ _ by omega), (fun t h => by simp at h), HS1.out, HWW.out⟩
      case round =>
        obtain ⟨j, C, rfl, hj, HG, HC, HCL, HSM, HS, HW⟩ := hrel
        clear HS1 HWW
        by_cases hlt2 : j < s.length
        · have e2 : decide (j < s.length) = true := by simpa using hlt2
          obtain ⟨t, hx, htk, hmem⟩ := get_lt hlt2
          obtain ⟨b, off, rfl, hcell⟩ := (HR2.out.below HW.out).at_ hx
          have HTK := Lib.hid htk
          clear hx htk hmem
          by_cases hbig : 1000 < t.size
          · go_wp2
            go_ret
            exact ⟨rfl, HW.out⟩
          · have HTS := Lib.hid (show t.size ≤ 1000 by omega)
            have CT := fun W => Lib.hid (reftext t W (by omega))
            generalize hU : uvarint t.size ++ t.data.toList = U at *
            have HU := Lib.hid hU
            have HUL := Lib.hid (show U.length ≤ 1010 by rw [← hU, List.length_append, t_size]; have := uvarint_length64 (show t.size < 18446744073709551616 by omega); omega)
            clear hU
            go_wp2_with fail
            refine (CT _).out.mono ?_
            rintro _ w14 h14
            obtain ⟨a14, c14, rfl, hb14, hn14, hB14, _⟩ := h14.row
            have HB14 := Lib.hid hb14
            have HN14 := Lib.hid hn14
            have HS3 := Lib.hid (show Sev w14 _ _ _ _ _ _ _ _ _ _ _ _ _ _ _ from HS.out.below hB14)
            have HW14 := Lib.hid (bl_trans HW.out hB14)
            clear h14 hb14 hn14 hB14 CT
            go_wp2_with (at_builtin; refine wpList_appB rfl (.tmp 94) (.tmp 96) rfl w.heap.size _ C U a14 _ U.length (by rfl) (by rfl) rfl (ob_of (HS3.out.own 4 _ _ _ rfl rfl rfl)) HB14.out HN14.out (by have := HCL.out; have := HUL.out; omega) HW14.out.size ?_; intro v11' w15 h3; have HS4 := Lib.hid (show Sev w15 w.heap.size v7 u8 u9 u10 v11' u12 u13 F A B D (C ++ U) N L from HS3.out.upd 4 rfl rfl (of_ob h3.1) h3.2.1); have HW15 := Lib.hid (HW14.out.grown h3.2.1.g HW14.out.size fun k hk => (own_lt (HS3.out.own 4 _ _ _ rfl rfl rfl) k hk).1); clear h3)
            go_roundg (s.length - (j + 1))
            case measure => have := HG.out; omega
            case rel =>
              refine ⟨j + 1, C ++ U, by go_num, by omega, show _ = _ by omega, ?_, ?_, ?_, HS4.out, HW15.out⟩
              · show _ = _
                rw [HTK.out, encT_snoc, HC.out, HU.out, List.append_assoc]
              · show _ ≤ _
                rw [List.length_append]
                have := HCL.out
                have := HUL.out
                omega
              · show ∀ t ∈ _, _
                rw [HTK.out]
                intro y hy
                rcases List.mem_append.1 hy with h | h
                · exact HSM.out y h
                · rw [List.mem_singleton.1 h]; exact HTS.out
        · have e2 : decide (j < s.length) = false := by simpa using hlt2
          have hst : s.take j = s := List.take_of_length_le (by omega)
          have HC2 := Lib.hid (show C = F ++ encT s by rw [HC.out, hst])
          have HSM2 := Lib.hid (show ∀ t ∈ s, t.size ≤ 1000 by have := HSM.out; rw [hst] at this; exact this)
          have HCL2 := Lib.hid (show C.length ≤ 30000 by have := HCL.out; omega)
          obtain ⟨a7, c7, hv7, hb7, _, _, hn7, _⟩ := (ob_of (HS.out.own 0 _ _ _ rfl rfl rfl)).row
          obtain ⟨a8, c8, hv8, hb8, _⟩ := (ob_of (HS.out.own 1 _ _ _ rfl rfl rfl)).row
          obtain ⟨a9, c9, hv9, hb9, _⟩ := (ob_of (HS.out.own 2 _ _ _ rfl rfl rfl)).row
          obtain ⟨a10, c10, hv10, hb10, _⟩ := (ob_of (HS.out.own 3 _ _ _ rfl rfl rfl)).row
          obtain ⟨a11, c11, hv11, hb11, _⟩ := (ob_of (HS.out.own 4 _ _ _ rfl rfl rfl)).row
          obtain ⟨a12, c12, hv12, hr12⟩ := own_rat (HS.out.own 5 _ _ _ rfl rfl rfl)
          obtain ⟨a13, c13, hv13, hr13⟩ := own_rat (HS.out.own 6 _ _ _ rfl rfl rfl)
          have HN7 := Lib.hid (show a7 = none → F = [] from fun e => List.eq_nil_of_length_eq_zero (by have := hn7 e; omega))
          subst hv7 hv8 hv9 hv10 hv11 hv12 hv13
          have HBX := Lib.hid (show BAt wr a7 F ∧ BAt wr a8 A ∧ BAt wr a9 B ∧ BAt wr a10 D ∧ BAt wr a11 C ∧ RAt (Value.int .u64) wr a12 N ∧ RAt (Value.float .f64) wr a13 L from ⟨hb7, hb8, hb9, hb10, hb11, hr12, hr13⟩)
          have CT := Lib.hid (text_any a7 F F.length c7 a2 s s.length cap2 wr hb7 rfl HN7.out (by omega) (HR2.out.below HW.out) rfl (by omega))
          clear hb7 hb8 hb9 hb10 hb11 hr12 hr13 hn7 HS HG HC HCL HSM hst
          go_wp2_with fail
          refine CT.out.mono ?_
          rintro _ w20 ⟨hB20, (⟨_, v18, rfl, ho18⟩ | ⟨⟨t, ht, hbig⟩, _⟩)⟩
          · rw [← HC2.out] at ho18
            obtain ⟨a18, c18, hv18, hb18, _⟩ := ho18.row
            subst hv18
            obtain ⟨q7, q8, q9, q10, q11, q12, q13⟩ := HBX.out
            have HW20 := Lib.hid (bl_trans HW.out hB20)
            have HB7 := Lib.hid (q7.below hB20)
            have HB8 := Lib.hid (q8.below hB20)
            have HB9 := Lib.hid (q9.below hB20)
            have HB10 := Lib.hid (q10.below hB20)
            have HB11 := Lib.hid (q11.below hB20)
            have HR12 := Lib.hid (q12.below hB20)
            have HR13 := Lib.hid (q13.below hB20)
            have HB18 := Lib.hid hb18
            have HB0 := Lib.hid (HB0.out.below HW20.out)
            have HR1 := Lib.hid (HR1.out.below HW20.out)
            obtain ⟨z1, z2, z3, z4, z5, _⟩ := HA.out
            have hNb : ∀ x ∈ N, 0 ≤ x ∧ x < 18446744073709551616 := by rw [z4]; intro y hy; obtain ⟨n, _, rfl⟩ := List.mem_map.1 hy; exact uN_b n
            have hLb : ∀ x ∈ L, x < 18446744073709551616 := by rw [z5]; intro y hy; obtain ⟨n, _, rfl⟩ := List.mem_map.1 hy; have := uN_b n; omega
            have hNl : N.length = l.length := by rw [z4]; simp [nu]
            have hLl : L.length = l.length := by rw [z5]; simp [fl]
            have CN2 := fun (W : World) (h : RowKit.Below w20.heap.size w20 W) => Lib.hid (num_any a7 F F.length c7 a12 N N.length c12 W (HB7.out.below h) rfl HN7.out (by omega) (HR12.out.below h) rfl (by omega) hNb)
            have CI2 := fun (W : World) (h : RowKit.Below w20.heap.size w20 W) => Lib.hid (int_any a7 F F.length c7 a1 l l.length cap1 W (HB7.out.below h) rfl HN7.out (by omega) (HR1.out.below h) rfl (by omega) HI.out)
            have CF2 := fun (W : World) (h : RowKit.Below w20.heap.size w20 W) => Lib.hid (float_any a7 F F.length c7 a13 L L.length c13 W (HB7.out.below h) rfl HN7.out (by omega) (HR13.out.below h) rfl (by omega) hLb)
            rw [show F ++ encU N = A by rw [z1, z4]] at CN2
            rw [← z2] at CI2
            rw [show F ++ encF L = D by rw [z3, z5]] at CF2
            clear q7 q8 q9 q10 q11 q12 q13 hB20 ho18 hb18 z1 z2 z3 z4 z5 hNb hLb hNl hLl CT
            go_wp2_with fail
            refine wp_region_held_drew (S := fun W => RowKit.Below w20.heap.size w20 W) (by kernel_rfl) ?_ (fun hHeld => ?_)
            · exact (RowKit.Below.refl _ _).drew
            refine held_take 0 (v := ?_) rfl (by kernel_rfl) (by kernel_rfl) (by kernel_rfl) (fun _ _ _ h => h) hHeld (by rfl) ?_ ?_
            rotate_left
            · (intro W hW; go_simp; try with_reducible rfl)
            try simp only [Act.put, List.setIfInBounds_toArray, List.set_cons_zero, List.set_cons_succ]
            refine held_take 1 (v := ?_) rfl (by kernel_rfl) (by kernel_rfl) (by kernel_rfl) (fun _ _ _ h => h) hHeld (by rfl) ?_ ?_
            rotate_left
            · (intro W hW; go_simp; try with_reducible rfl)
            try simp only [Act.put, List.setIfInBounds_toArray, List.set_cons_zero, List.set_cons_succ]
            refine held_take 4 (v := ?_) rfl (by kernel_rfl) (by kernel_rfl) (by kernel_rfl) (fun _ _ _ h => h) hHeld (by rfl) ?_ ?_
            rotate_left
            · (intro W hW; go_simp; try with_reducible rfl)
            try simp only [Act.put, List.setIfInBounds_toArray, List.set_cons_zero, List.set_cons_succ]
            refine held_take 5 (v := ?_) rfl (by kernel_rfl) (by kernel_rfl) (by kernel_rfl) (fun _ _ _ h => h) hHeld (by rfl) ?_ ?_
            rotate_left
            · (intro W hW; have e := run_conv (HB8.out.below hW) _ c8 rfl; go_simp; try with_reducible rfl)
            try simp only [Act.put, List.setIfInBounds_toArray, List.set_cons_zero, List.set_cons_succ]
            refine held_next 2 rfl (by kernel_rfl) (by rfl) (fun K hK => ?_)
            go_simp
            go_at_call 18
            refine (CN2 _ (RowKit.Below.refl _ _).drew).out.mono ?_
            rintro _ w21 h21
            obtain ⟨a21, c21, rfl, hb21, _, hB21, _⟩ := h21.row
            have HB21 := Lib.hid hb21
            have HX21 := Lib.hid (bl_trans (RowKit.Below.refl w20.heap.size w20).drew hB21)
            clear h21 hb21 hB21
            refine hK.out _ _ HX21.out (fun hHeld => ?_)
            clear hK K hHeld
            try simp only [Act.put, List.setIfInBounds_toArray, List.set_cons_zero, List.set_cons_succ]
            refine held_since HX21.out (fun hHeld => ?_)
            have HB9' := Lib.hid (HB9.out.below HX21.out)
            refine held_take 3 (v := ?_) rfl (by kernel_rfl) (by kernel_rfl) (by kernel_rfl) (fun _ _ _ h => h) hHeld (by rfl) ?_ ?_
            rotate_left
            · (intro W hW; have e := run_conv (HB21.out.below hW) _ c21 rfl; go_simp; try with_reducible rfl)
            try simp only [Act.put, List.setIfInBounds_toArray, List.set_cons_zero, List.set_cons_succ]
            refine held_take 6 (v := ?_) rfl (by kernel_rfl) (by kernel_rfl) (by kernel_rfl) (fun _ _ _ h => h) hHeld (by rfl) ?_ ?_
            rotate_left
            · (intro W hW; go_simp; try with_reducible rfl)
            try simp only [Act.put, List.setIfInBounds_toArray, List.set_cons_zero, List.set_cons_succ]
            refine held_take 7 (v := ?_) rfl (by kernel_rfl) (by kernel_rfl) (by kernel_rfl) (fun _ _ _ h => h) hHeld (by rfl) ?_ ?_
            rotate_left
            · (intro W hW; go_simp; try with_reducible rfl)
            try simp only [Act.put, List.setIfInBounds_toArray, List.set_cons_zero, List.set_cons_succ]
            refine held_take 8 (v := ?_) rfl (by kernel_rfl) (by kernel_rfl) (by kernel_rfl) (fun _ _ _ h => h) hHeld (by rfl) ?_ ?_
            rotate_left
            · (intro W hW; go_simp; try with_reducible rfl)
            try simp only [Act.put, List.setIfInBounds_toArray, List.set_cons_zero, List.set_cons_succ]
            refine held_take 9 (v := ?_) rfl (by kernel_rfl) (by kernel_rfl) (by kernel_rfl) (fun _ _ _ h => h) hHeld (by rfl) ?_ ?_
            rotate_left
            · (intro W hW; go_simp; try with_reducible rfl)
            try simp only [Act.put, List.setIfInBounds_toArray, List.set_cons_zero, List.set_cons_succ]
            refine held_take 12 (v := ?_) rfl (by kernel_rfl) (by kernel_rfl) (by kernel_rfl) (fun _ _ _ h => h) hHeld (by rfl) ?_ ?_
            rotate_left
            · (intro W hW; go_simp; try with_reducible rfl)
            try simp only [Act.put, List.setIfInBounds_toArray, List.set_cons_zero, List.set_cons_succ]
            refine held_take 13 (v := ?_) rfl (by kernel_rfl) (by kernel_rfl) (by kernel_rfl) (fun _ _ _ h => h) hHeld (by rfl) ?_ ?_
            rotate_left
            · (intro W hW; have e := run_conv (HB9'.out.below hW) _ c9 rfl; go_simp; try with_reducible rfl)
            try simp only [Act.put, List.setIfInBounds_toArray, List.set_cons_zero, List.set_cons_succ]
            refine held_next 10 rfl (by kernel_rfl) (by rfl) (fun K hK => ?_)
            go_simp
            go_at_call 19
            refine (CI2 _ HX21.out).out.mono ?_
            rintro _ w22 h22
            obtain ⟨a22, c22, rfl, hb22, _, hB22, _⟩ := h22.row
            have HB22 := Lib.hid hb22
            have HX22 := Lib.hid (bl_trans HX21.out hB22)
            refine hK.out _ _ hB22 (fun hHeld => ?_)
            clear hK K hHeld
            try simp only [Act.put, List.setIfInBounds_toArray, List.set_cons_zero, List.set_cons_succ]
            refine held_since hB22 (fun hHeld => ?_)
            clear h22 hb22 hB22
            have HB18' := Lib.hid (HB18.out.below HX22.out)
            have HB11' := Lib.hid (HB11.out.below HX22.out)
            have HB10' := Lib.hid (HB10.out.below HX22.out)
            have HB7' := Lib.hid (HB7.out.below HX22.out)
            have HB0' := Lib.hid (HB0.out.below HX22.out)
            refine held_take 11 (v := ?_) rfl (by kernel_rfl) (by kernel_rfl) (by kernel_rfl) (fun _ _ _ h => h) hHeld (by rfl) ?_ ?_
            rotate_left
            · (intro W hW; have e := run_conv (HB22.out.below hW) _ c22 rfl; go_simp; try with_reducible rfl)
            try simp only [Act.put, List.setIfInBounds_toArray, List.set_cons_zero, List.set_cons_succ]
            refine held_take 14 (v := ?_) rfl (by kernel_rfl) (by kernel_rfl) (by kernel_rfl) (fun _ _ _ h => h) hHeld (by rfl) ?_ ?_
            rotate_left
            · (intro W hW; go_simp; try with_reducible rfl)
            try simp only [Act.put, List.setIfInBounds_toArray, List.set_cons_zero, List.set_cons_succ]
            refine held_take 15 (v := ?_) rfl (by kernel_rfl) (by kernel_rfl) (by kernel_rfl) (fun _ _ _ h => h) hHeld (by rfl) ?_ ?_
            rotate_left
            · (intro W hW; go_simp; try with_reducible rfl)
            try simp only [Act.put, List.setIfInBounds_toArray, List.set_cons_zero, List.set_cons_succ]
            refine held_take 16 (v := ?_) rfl (by kernel_rfl) (by kernel_rfl) (by kernel_rfl) (fun _ _ _ h => h) hHeld (by rfl) ?_ ?_
            rotate_left
            · (intro W hW; go_simp; try with_reducible rfl)
            try simp only [Act.put, List.setIfInBounds_toArray, List.set_cons_zero, List.set_cons_succ]
            refine held_take 17 (v := ?_) rfl (by kernel_rfl) (by kernel_rfl) (by kernel_rfl) (fun _ _ _ h => h) hHeld (by rfl) ?_ ?_
            rotate_left
            · (intro W hW; go_simp; try with_reducible rfl)
            try simp only [Act.put, List.setIfInBounds_toArray, List.set_cons_zero, List.set_cons_succ]
            refine held_take 18 (v := ?_) rfl (by kernel_rfl) (by kernel_rfl) (by kernel_rfl) (fun _ _ _ h => h) hHeld (by rfl) ?_ ?_
            rotate_left
            · (intro W hW; have e := run_conv (HB18'.out.below hW) _ c18 rfl; go_simp; try with_reducible rfl)
            try simp only [Act.put, List.setIfInBounds_toArray, List.set_cons_zero, List.set_cons_succ]
            refine held_take 19 (v := ?_) rfl (by kernel_rfl) (by kernel_rfl) (by kernel_rfl) (fun _ _ _ h => h) hHeld (by rfl) ?_ ?_
            rotate_left
            · (intro W hW; go_simp; try with_reducible rfl)
            try simp only [Act.put, List.setIfInBounds_toArray, List.set_cons_zero, List.set_cons_succ]
            refine held_take 20 (v := ?_) rfl (by kernel_rfl) (by kernel_rfl) (by kernel_rfl) (fun _ _ _ h => h) hHeld (by rfl) ?_ ?_
            rotate_left
            · (intro W hW; have e := run_conv (HB11'.out.below hW) _ c11 rfl; go_simp; try with_reducible rfl)
            try simp only [Act.put, List.setIfInBounds_toArray, List.set_cons_zero, List.set_cons_succ]
            refine held_take 21 (v := ?_) rfl (by kernel_rfl) (by kernel_rfl) (by kernel_rfl) (fun _ _ _ h => h) hHeld (by rfl) ?_ ?_
            rotate_left
            · (intro W hW; go_simp; try with_reducible rfl)
            try simp only [Act.put, List.setIfInBounds_toArray, List.set_cons_zero, List.set_cons_succ]
            refine held_take 22 (v := ?_) rfl (by kernel_rfl) (by kernel_rfl) (by kernel_rfl) (fun _ _ _ h => h) hHeld (by rfl) ?_ ?_
            rotate_left
            · (intro W hW; go_simp; try with_reducible rfl)
            try simp only [Act.put, List.setIfInBounds_toArray, List.set_cons_zero, List.set_cons_succ]
            refine held_take 23 (v := ?_) rfl (by kernel_rfl) (by kernel_rfl) (by kernel_rfl) (fun _ _ _ h => h) hHeld (by rfl) ?_ ?_
            rotate_left
            · (intro W hW; go_simp; try with_reducible rfl)
            try simp only [Act.put, List.setIfInBounds_toArray, List.set_cons_zero, List.set_cons_succ]
            refine held_take 24 (v := ?_) rfl (by kernel_rfl) (by kernel_rfl) (by kernel_rfl) (fun _ _ _ h => h) hHeld (by rfl) ?_ ?_
            rotate_left
            · (intro W hW; go_simp; try with_reducible rfl)
            try simp only [Act.put, List.setIfInBounds_toArray, List.set_cons_zero, List.set_cons_succ]
            refine held_take 25 (v := ?_) rfl (by kernel_rfl) (by kernel_rfl) (by kernel_rfl) (fun _ _ _ h => h) hHeld (by rfl) ?_ ?_
            rotate_left
            · (intro W hW; go_simp; try with_reducible rfl)
            try simp only [Act.put, List.setIfInBounds_toArray, List.set_cons_zero, List.set_cons_succ]
            refine held_take 26 (v := ?_) rfl (by kernel_rfl) (by kernel_rfl) (by kernel_rfl) (fun _ _ _ h => h) hHeld (by rfl) ?_ ?_
            rotate_left
            · (intro W hW; go_simp; try with_reducible rfl)
            try simp only [Act.put, List.setIfInBounds_toArray, List.set_cons_zero, List.set_cons_succ]
            refine held_take 27 (v := ?_) rfl (by kernel_rfl) (by kernel_rfl) (by kernel_rfl) (fun _ _ _ h => h) hHeld (by rfl) ?_ ?_
            rotate_left
            · (intro W hW; go_simp; try with_reducible rfl)
            try simp only [Act.put, List.setIfInBounds_toArray, List.set_cons_zero, List.set_cons_succ]
            refine held_take 28 (v := ?_) rfl (by kernel_rfl) (by kernel_rfl) (by kernel_rfl) (fun _ _ _ h => h) hHeld (by rfl) ?_ ?_
            rotate_left
            · (intro W hW; go_simp; try with_reducible rfl)
            try simp only [Act.put, List.setIfInBounds_toArray, List.set_cons_zero, List.set_cons_succ]
            refine held_take 29 (v := ?_) rfl (by kernel_rfl) (by kernel_rfl) (by kernel_rfl) (fun _ _ _ h => h) hHeld (by rfl) ?_ ?_
            rotate_left
            · (intro W hW; go_simp; try with_reducible rfl)
            try simp only [Act.put, List.setIfInBounds_toArray, List.set_cons_zero, List.set_cons_succ]
            refine held_take 32 (v := ?_) rfl (by kernel_rfl) (by kernel_rfl) (by kernel_rfl) (fun _ _ _ h => h) hHeld (by rfl) ?_ ?_
            rotate_left
            · (intro W hW; go_simp; try with_reducible rfl)
            try simp only [Act.put, List.setIfInBounds_toArray, List.set_cons_zero, List.set_cons_succ]
            refine held_take 33 (v := ?_) rfl (by kernel_rfl) (by kernel_rfl) (by kernel_rfl) (fun _ _ _ h => h) hHeld (by rfl) ?_ ?_
            rotate_left
            · (intro W hW; have e := run_conv (HB10'.out.below hW) _ c10 rfl; go_simp; try with_reducible rfl)
            try simp only [Act.put, List.setIfInBounds_toArray, List.set_cons_zero, List.set_cons_succ]
            refine held_next 30 rfl (by kernel_rfl) (by rfl) (fun K hK => ?_)
            go_simp
            go_at_call 20
            refine (CF2 _ HX22.out).out.mono ?_
            rintro _ w23 h23
            obtain ⟨a23, c23, rfl, hb23, _, hB23, _⟩ := h23.row
            have HB23 := Lib.hid hb23
            have HX23 := Lib.hid (bl_trans HX22.out hB23)
            refine hK.out _ _ hB23 (fun hHeld => ?_)
            clear hK K hHeld
            try simp only [Act.put, List.setIfInBounds_toArray, List.set_cons_zero, List.set_cons_succ]
            refine held_since hB23 (fun hHeld => ?_)
            have HB7'' := Lib.hid (HB7'.out.below hB23)
            have HB0'' := Lib.hid (HB0'.out.below hB23)
            clear h23 hb23 hB23
            refine held_take 31 (v := ?_) rfl (by kernel_rfl) (by kernel_rfl) (by kernel_rfl) (fun _ _ _ h => h) hHeld (by rfl) ?_ ?_
            rotate_left
            · (intro W hW; have e := run_conv (HB23.out.below hW) _ c23 rfl; go_simp; try with_reducible rfl)
            try simp only [Act.put, List.setIfInBounds_toArray, List.set_cons_zero, List.set_cons_succ]
            refine held_take 34 (v := ?_) rfl (by kernel_rfl) (by kernel_rfl) (by kernel_rfl) (fun _ _ _ h => h) hHeld (by rfl) ?_ ?_
            rotate_left
            · (intro W hW; go_simp; try with_reducible rfl)
            try simp only [Act.put, List.setIfInBounds_toArray, List.set_cons_zero, List.set_cons_succ]
            refine held_take 35 (v := ?_) rfl (by kernel_rfl) (by kernel_rfl) (by kernel_rfl) (fun _ _ _ h => h) hHeld (by rfl) ?_ ?_
            rotate_left
            · (intro W hW; go_simp; try with_reducible rfl)
            try simp only [Act.put, List.setIfInBounds_toArray, List.set_cons_zero, List.set_cons_succ]
            refine held_take 36 (v := ?_) rfl (by kernel_rfl) (by kernel_rfl) (by kernel_rfl) (fun _ _ _ h => h) hHeld (by rfl) ?_ ?_
            rotate_left
            · (intro W hW; go_simp; try with_reducible rfl)
            try simp only [Act.put, List.setIfInBounds_toArray, List.set_cons_zero, List.set_cons_succ]
            refine held_take 37 (v := ?_) rfl (by kernel_rfl) (by kernel_rfl) (by kernel_rfl) (fun _ _ _ h => h) hHeld (by rfl) ?_ ?_
            rotate_left
            · (intro W hW; go_simp; try with_reducible rfl)
            try simp only [Act.put, List.setIfInBounds_toArray, List.set_cons_zero, List.set_cons_succ]
            refine held_take 38 (v := ?_) rfl (by kernel_rfl) (by kernel_rfl) (by kernel_rfl) (fun _ _ _ h => h) hHeld (by rfl) ?_ ?_
            rotate_left
            · (intro W hW; have e := run_conv (HB7''.out.below hW) _ c7 rfl; go_simp; try with_reducible rfl)
            try simp only [Act.put, List.setIfInBounds_toArray, List.set_cons_zero, List.set_cons_succ]
            refine held_take 39 (v := ?_) rfl (by kernel_rfl) (by kernel_rfl) (by kernel_rfl) (fun _ _ _ h => h) hHeld (by rfl) ?_ ?_
            rotate_left
            · (intro W hW; go_simp; try with_reducible rfl)
            try simp only [Act.put, List.setIfInBounds_toArray, List.set_cons_zero, List.set_cons_succ]
            refine held_take 40 (v := ?_) rfl (by kernel_rfl) (by kernel_rfl) (by kernel_rfl) (fun _ _ _ h => h) hHeld (by rfl) ?_ ?_
            rotate_left
            · (intro W hW; have e := run_conv (HB0''.out.below hW) _ cap0 rfl; go_simp; try with_reducible rfl)
            try simp only [Act.put, List.setIfInBounds_toArray, List.set_cons_zero, List.set_cons_succ]
            refine held_take 41 (v := ?_) rfl (by kernel_rfl) (by kernel_rfl) (by kernel_rfl) (fun _ _ _ h => h) hHeld (by rfl) ?_ ?_
            rotate_left
            · (intro W hW; go_simp; try with_reducible rfl)
            try simp only [Act.put, List.setIfInBounds_toArray, List.set_cons_zero, List.set_cons_succ]
            refine held_take 42 (v := ?_) rfl (by kernel_rfl) (by kernel_rfl) (by kernel_rfl) (fun _ _ _ h => h) hHeld (by rfl) ?_ ?_
            rotate_left
            · (intro W hW; go_simp; try with_reducible rfl)
            try simp only [Act.put, List.setIfInBounds_toArray, List.set_cons_zero, List.set_cons_succ]
            refine held_take 43 (v := ?_) rfl (by kernel_rfl) (by kernel_rfl) (by kernel_rfl) (fun _ _ _ h => h) hHeld (by rfl) ?_ ?_
            rotate_left
            · (intro W hW; go_simp; try with_reducible rfl)
            try simp only [Act.put, List.setIfInBounds_toArray, List.set_cons_zero, List.set_cons_succ]
            refine wpAnyH_done (by kernel_rfl) ?_ _
            go_simp
            go_wp2
            go_ret
            exact ⟨rfl, bl_trans HW20.out HX23.out⟩
          · have := HSM2.out t ht
            omega

set_option maxHeartbeats 800000 in
set_option maxRecDepth 100000 in
theorem puts_out (a0 : Option Addr) (len0 cap0 : Nat) (a1 : Option Addr) (len1 cap1 : Nat) (a2 : Option Addr) (len2 cap2 : Nat) (w : World) (h : 100 < len0 ∨ 50 < len1 ∨ 20 < len2) :
    Calls Try.prog 4 #[.slice a0 len0 cap0, .slice a1 len1 cap1, .slice a2 len2 cap2] w fun e w' => e = .returned (.bool true) ∧ RowKit.Below w.heap.size w w' := by
  have hc : (100 < len0) ∨ (len0 ≤ 100 ∧ 50 < len1) ∨ (len0 ≤ 100 ∧ len1 ≤ 50 ∧ 20 < len2) := by omega
  clear h
  rcases hc with h0 | ⟨h0, h1⟩ | ⟨h0, h1, h2⟩
  · have d0 : decide ((100 : Int) < (len0 : Int)) = true := by simp; omega
    go_enter Try.func4, Try.ntmps4
    go_wp2_with fail
    refine (alive_any _).mono ?_
    rintro _ w1 ⟨rfl, hb1⟩
    have HW1 := Lib.hid hb1
    clear hb1
    go_wp2
    go_ret
    exact ⟨rfl, HW1.out⟩
  · have d0 : decide ((100 : Int) < (len0 : Int)) = false := by simp; omega
    have d1 : decide ((50 : Int) < (len1 : Int)) = true := by simp; omega
    go_enter Try.func4, Try.ntmps4
    go_wp2_with fail
    refine (alive_any _).mono ?_
    rintro _ w1 ⟨rfl, hb1⟩
    have HW1 := Lib.hid hb1
    clear hb1
    go_wp2
    go_ret
    exact ⟨rfl, HW1.out⟩
  · have d0 : decide ((100 : Int) < (len0 : Int)) = false := by simp; omega
    have d1 : decide ((50 : Int) < (len1 : Int)) = false := by simp; omega
    have d2 : decide ((20 : Int) < (len2 : Int)) = true := by simp; omega
    go_enter Try.func4, Try.ntmps4
    go_wp2_with fail
    refine (alive_any _).mono ?_
    rintro _ w1 ⟨rfl, hb1⟩
    have HW1 := Lib.hid hb1
    clear hb1
    go_wp2
    go_ret
    exact ⟨rfl, HW1.out⟩
theorem packPuts_walk (w : World) (a0 : Option Addr) (len0 cap0 : Nat) (l0 : List UInt8) (w0 : CameB w a0 len0 cap0 l0) (a1 : Option Addr) (len1 cap1 : Nat) (l1 : List Int) (w1 : Came (Value.int .i64) w a1 len1 cap1 l1 ∧ ∀ n ∈ l1, (Lit.int .i64 n).wf = true) (a2 : Option Addr) (len2 cap2 : Nat) (l2 : List ByteArray) (w2 : Came Value.string w a2 len2 cap2 l2 ∧ ∀ s ∈ l2, s.size ≤ maxLen) :
    Calls Try.prog 4 #[.slice a0 len0 cap0, .slice a1 len1 cap1, .slice a2 len2 cap2] w fun e w' => e = .returned (.bool true) ∧ RowKit.Below w.heap.size w w' := by
  by_cases h : 100 < len0 ∨ 50 < len1 ∨ 20 < len2
  · exact puts_out a0 len0 cap0 a1 len1 cap1 a2 len2 cap2 w h
  · have hn := w0.none
    obtain ⟨r0, rfl, _, _, _⟩ := w0
    obtain ⟨⟨r1, rfl, _, _, _⟩, k1⟩ := w1
    obtain ⟨⟨r2, rfl, _, _, _⟩, _⟩ := w2
    exact puts_in a0 l0 cap0 a1 l1 cap1 a2 l2 cap2 w r0 hn r1 (fun x hx => fits (k1 x hx)) r2 (by omega) (by omega) (by omega)
end Go.Proofs.Ytcahmijcfmakjaa
