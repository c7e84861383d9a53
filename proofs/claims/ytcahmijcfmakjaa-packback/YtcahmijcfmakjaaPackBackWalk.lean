/- The walk of falseworklaw06.PackBack. -/
import Derived.Test.YtcahmijcfmakjaaPkX
import Derived.Test.YtcahmijcfmakjaaPkO
namespace Go.Proofs.Ytcahmijcfmakjaa
open Go.RowKit Go.Lib

/-- where a loop over what is put stands -/
def BackAt (w wr : World) (base g : Nat) (rest : List UInt8) (ab : Option Addr) (B : List UInt8) : Prop := RD wr base g rest false ∧ RowKit.Below w.heap.size w wr ∧ BAt wr ab B
/-- where a loop over what is cut off stands -/
def CutAt (w wr : World) (base g : Nat) (rest : List UInt8) : Prop := ∃ cs f, RD wr base g cs f ∧ Pfx cs f rest ∧ cs.length ≤ 800000000 ∧ RowKit.Below w.heap.size w wr

set_option maxHeartbeats 3200000 in
set_option maxRecDepth 100000 in
theorem back_in (a0 : Option Addr) (l : List Int) (cap0 : Nat) (a1 : Option Addr) (s : List ByteArray) (cap1 : Nat) (cut : Int) (w : World) (hr0 : RAt (Value.int .i64) w a0 l) (hI : ∀ x ∈ l, -9223372036854775808 ≤ x ∧ x ≤ 9223372036854775807) (hr1 : RAt Value.string w a1 s) (hl : l.length ≤ 50) (hs : s.length ≤ 20) :
    Calls Try.prog 6 #[.slice a0 l.length cap0, .slice a1 s.length cap1, .int .i64 cut] w fun e w' => e = .returned (.bool true) ∧ RowKit.Below w.heap.size w w' := by
  have HR0 := Lib.hid hr0
  have HR1 := Lib.hid hr1
  have HI := Lib.hid hI
  have HEI := Lib.hid (encI_len l hI)
  have d0 : decide ((50 : Int) < (l.length : Int)) = false := by simp; omega
  have d1 : decide ((20 : Int) < (s.length : Int)) = false := by simp; omega
  have C1 := fun (W : World) (h : RAt (Value.int .i64) W a0 l) => Lib.hid (int_any none [] 0 0 a0 l l.length cap0 W (Or.inl rfl) rfl (fun _ => rfl) (by simp) h rfl (by omega) HI.out)
  simp only [List.nil_append] at C1
  have C2 := fun (W : World) (a : Option Addr) (c : Nat) (hb : BAt W a (encI l)) (hn : a = none → encI l = []) (h : RAt Value.string W a1 s) => Lib.hid (text_any a (encI l) (encI l).length c a1 s s.length cap1 W hb rfl hn (by have := HEI.out; omega) h rfl (by omega))
  clear hr0 hr1 hI
  generalize hX : encI l = X at *
  have HX := Lib.hid hX
  clear hX
  go_enter Try.func6, Try.ntmps6
  go_wp2_with fail
  refine (alive_any _).mono ?_
  rintro _ w1 ⟨rfl, hb1⟩
  have HW1 := Lib.hid hb1
  clear hb1
  go_wp2_with fail
  refine (C1 _ (HR0.out.below HW1.out)).out.mono ?_
  rintro _ w2 h2
  obtain ⟨a2, c2, rfl, hb2, hn2, hB2, _⟩ := h2.row
  have HB2 := Lib.hid hb2
  have HN2 := Lib.hid hn2
  have HW2 := Lib.hid (bl_trans HW1.out hB2)
  clear h2 hb2 hn2 hB2 C1
  go_wp2_with fail
  refine (C2 _ _ _ HB2.out HN2.out (HR1.out.below HW2.out)).out.mono ?_
  rintro _ w3 ⟨hB3, (⟨hsm, v3, rfl, ho3⟩ | ⟨_, rfl⟩)⟩
  · obtain ⟨a3, c3, hv3, hb3, hc3, _, hn3, _⟩ := ho3.row
    subst hv3
    have HT := Lib.hid (encT_len s hsm)
    have HSM := Lib.hid hsm
    have HN3 := Lib.hid (show a3 = none → X ++ encT s = [] from fun e => List.eq_nil_of_length_eq_zero (by have := hn3 e; omega))
    have HW3 := Lib.hid (bl_trans HW2.out hB3)
    obtain ⟨B, hBd⟩ : ∃ B, B = X ++ encT s := ⟨_, rfl⟩
    rw [← hBd] at hb3 hc3 HN3 ⊢
    have HB3 := Lib.hid hb3
    have HC3 := Lib.hid hc3
    have HBD := Lib.hid (show B = encI l ++ encT s by rw [hBd, HX.out])
    have HBL := Lib.hid (show B.length ≤ 700000000 by rw [hBd, List.length_append]; have := HEI.out; have := HT.out; omega)
    clear hsm ho3 hb3 hc3 hn3 hBd hB3 C2
    go_wp2_with fail
    refine (new_any a3 B B.length c3 w3 HB3.out rfl (by have := HBL.out; omega) HN3.out).mono ?_
    rintro _ w4 ⟨g, rfl, hr4, hB4⟩
    have HR4 := Lib.hid hr4
    have HW4 := Lib.hid (bl_trans HW3.out hB4)
    have HB4 := Lib.hid (HB3.out.below hB4)
    clear hr4 hB4
    go_wp2
    go_loopg [38] l.length (fun q c38 wr => ∃ k : Nat, c38 = .int .i64 (k : Int) ∧ k ≤ l.length ∧ Hid (q + k = l.length) ∧ Hid (BackAt w wr w3.heap.size g (encI (l.drop k) ++ encT s) a3 B))
    case atStart => exact ⟨0, rfl, by omega, Nat.add_zero _, by rw [List.drop_zero, ← HBD.out]; exact HR4.out, HW4.out, HB4.out⟩
    case round =>
      obtain ⟨k, rfl, hk, HG, HA⟩ := hrel
      by_cases hlt : k < l.length
      · have e1 : decide (k < l.length) = true := by simpa using hlt
        obtain ⟨x, hx, _, hmem⟩ := get_lt hlt
        obtain ⟨b, off, rfl, hcell⟩ := (HR0.out.below HA.out.2.1).at_ hx
        have HXI := Lib.hid (HI.out x hmem)
        have HD := Lib.hid (show encI (l.drop k) ++ encT s = uvarint (foldN x) ++ (encI (l.drop (k + 1)) ++ encT s) by rw [drop_get hx, encI_cons, List.append_assoc])
        have HLL := Lib.hid (show (encI (l.drop k) ++ encT s).length ≤ 900000000 by
          rw [List.length_append]
          have := encI_len (l.drop k) fun y hy => HI.out y (List.mem_of_mem_drop hy)
          rw [List.length_drop] at this
          have := HT.out
          omega)
        clear hx hmem
        go_wp2_with fail
        refine (rint_enc w3.heap.size g x _ wr HXI.out (by rw [← HD.out]; exact HA.out.1) (by rw [← HD.out]; exact HLL.out)).mono ?_
        rintro _ w5 ⟨rfl, ht5⟩
        have HA5 := Lib.hid (show BackAt w w5 w3.heap.size g (encI (l.drop (k + 1)) ++ encT s) a3 B from ⟨ht5.1, ht5.below HA.out.2.1 HA.out.2.1.size HW3.out.size, RD.apart ht5 HA.out.2.2 HB3.out (Nat.le_refl _)⟩)
        clear ht5
        go_wp2
        go_roundg (l.length - (k + 1))
        case measure => have := HG.out; omega
        case rel => exact ⟨k + 1, by go_num, by omega, show _ = _ by omega, HA5.out⟩
      · have e1 : decide (k < l.length) = false := by simpa using hlt
        have HA1 := Lib.hid (show BackAt w wr w3.heap.size g (encT s) a3 B by have := HA.out; rw [List.drop_eq_nil_of_le (by omega)] at this; simpa [encI] using this)
        obtain ⟨W1, rfl⟩ : ∃ W, W = wr := ⟨_, rfl⟩
        clear HA HG
        go_wp2
        go_loopg [49] s.length (fun q c49 wr => ∃ k : Nat, c49 = .int .i64 (k : Int) ∧ k ≤ s.length ∧ Hid (q + k = s.length) ∧ Hid (BackAt w wr w3.heap.size g (encT (s.drop k)) a3 B))
        case atStart => exact ⟨0, rfl, by omega, Nat.add_zero _, by rw [List.drop_zero]; exact HA1.out⟩
        case round =>
          obtain ⟨k2, rfl, hk2, HG, HA⟩ := hrel
          by_cases hlt2 : k2 < s.length
          · have e2 : decide (k2 < s.length) = true := by simpa using hlt2
            obtain ⟨t, hx, _, hmem⟩ := get_lt hlt2
            obtain ⟨b, off, rfl, hcell⟩ := (HR1.out.below HA.out.2.1).at_ hx
            have HXI := Lib.hid (HSM.out t hmem)
            have HD := Lib.hid (show encT (s.drop k2) = (uvarint t.size ++ t.data.toList) ++ encT (s.drop (k2 + 1)) by rw [drop_get hx, encT_cons])
            have HLL := Lib.hid (show (encT (s.drop k2)).length ≤ 900000000 by
              have := encT_len (s.drop k2) fun y hy => HSM.out y (List.mem_of_mem_drop hy)
              rw [List.length_drop] at this
              omega)
            clear hx hmem
            go_wp2_with fail
            refine (rtext_enc w3.heap.size g t _ wr HXI.out (by rw [← HD.out]; exact HA.out.1) (by rw [← HD.out]; exact HLL.out)).mono ?_
            rintro _ w5 ⟨rfl, ht5⟩
            have HA5 := Lib.hid (show BackAt w w5 w3.heap.size g (encT (s.drop (k2 + 1))) a3 B from ⟨ht5.1, ht5.below HA.out.2.1 HA.out.2.1.size HW3.out.size, RD.apart ht5 HA.out.2.2 HB3.out (Nat.le_refl _)⟩)
            clear ht5
            go_wp2
            go_roundg (s.length - (k2 + 1))
            case measure => have := HG.out; omega
            case rel => exact ⟨k2 + 1, by go_num, by omega, show _ = _ by omega, HA5.out⟩
          · have e2 : decide (k2 < s.length) = false := by simpa using hlt2
            have HA2 := Lib.hid (show BackAt w wr w3.heap.size g [] a3 B by have := HA.out; rw [List.drop_eq_nil_of_le (by omega)] at this; simpa [encT] using this)
            have CE := Lib.hid (ended_any w3.heap.size g [] false wr HA2.out.1)
            rw [show endB [] false = true by decide] at CE
            clear HA HG
            by_cases hc : 0 ≤ cut ∧ cut < (B.length : Int)
            · obtain ⟨h0, h1⟩ := hc
              obtain ⟨n, hn⟩ := Int.eq_ofNat_of_zero_le h0
              subst hn
              have f1 : decide ((n : Int) < 0) = false := by simp
              have f2 : decide (B.length ≤ n) = false := by simp; omega
              have rt := run_to a3 B.length c3 n (by have := HC3.out; omega)
              obtain ⟨C, hC⟩ : ∃ C, C = B.take n := ⟨_, rfl⟩
              have HCL := Lib.hid (show C.length = n by rw [hC, List.length_take]; omega)
              have HCB := Lib.hid (show BAt wr a3 C by rw [hC]; exact HA2.out.2.2.take n)
              have HCP := Lib.hid (show Pfx C false (encI l ++ encT s) from Or.inr ⟨rfl, B.drop n, by intro e; have := congrArg List.length e; rw [List.length_drop] at this; simp at this; omega, by rw [hC, List.take_append_drop, HBD.out]⟩)
              have HCN := Lib.hid (show a3 = none → C = [] from fun e => by rw [hC, HN3.out e]; simp)
              have HC8 := Lib.hid (show C.length ≤ 800000000 by have := HBL.out; rw [hC, List.length_take]; omega)
              clear hC h1
              go_wp2_with fail
              refine CE.out.mono ?_
              rintro _ _ ⟨rfl, rfl⟩
              go_wp2_with fail
              refine (new_any a3 C n c3 wr HCB.out HCL.out (by have := HC8.out; omega) HCN.out).mono ?_
              rintro _ w6 ⟨g6, rfl, hr6, hB6⟩
              have HP := Lib.hid (show CutAt w w6 wr.heap.size g6 (encI (l.drop 0) ++ encT s) from ⟨C, false, hr6, HCP.out, HC8.out, bl_trans HA2.out.2.1 hB6⟩)
              have HSZ := Lib.hid (show w.heap.size ≤ wr.heap.size from HA2.out.2.1.size)
              obtain ⟨base, hbase⟩ : ∃ b, b = wr.heap.size := ⟨_, rfl⟩
              rw [← hbase] at HP HSZ
              clear hr6 hB6 CE hbase rt
              go_wp2
              go_loopg [75] l.length (fun q c75 wr => ∃ k : Nat, c75 = .int .i64 (k : Int) ∧ k ≤ l.length ∧ Hid (q + k = l.length) ∧ Hid (CutAt w wr base g6 (encI (l.drop k) ++ encT s)))
              case atStart => exact ⟨0, rfl, by omega, Nat.add_zero _, HP.out⟩
              case round =>
                obtain ⟨k3, rfl, hk3, HG, HA⟩ := hrel
                by_cases hlt3 : k3 < l.length
                · have e3 : decide (k3 < l.length) = true := by simpa using hlt3
                  obtain ⟨x, hx, _, hmem⟩ := get_lt hlt3
                  have HXI := Lib.hid (HI.out x hmem)
                  have HD := Lib.hid (show encI (l.drop k3) ++ encT s = uvarint (foldN x) ++ (encI (l.drop (k3 + 1)) ++ encT s) by rw [drop_get hx, encI_cons, List.append_assoc])
                  obtain ⟨cs, f, x1, x2, x3, x4⟩ := HA.out
                  have H1 := Lib.hid x1
                  have H2 := Lib.hid x2
                  have H3 := Lib.hid x3
                  have H4 := Lib.hid x4
                  clear hx hmem x1 x2 x3 x4
                  go_wp2_with fail
                  refine (rint_pfx base g6 x (encI (l.drop (k3 + 1)) ++ encT s) cs f 800000000 _ HXI.out H1.out H3.out (by omega) (by rw [← HD.out]; exact H2.out)).mono ?_
                  rintro _ w7 ⟨⟨v7, rfl⟩, cs7, f7, ht7, hp7, hl7⟩
                  have HA7 := Lib.hid (show CutAt w w7 base g6 (encI (l.drop (k3 + 1)) ++ encT s) from ⟨cs7, f7, ht7.1, hp7, hl7, ht7.below H4.out H4.out.size HSZ.out⟩)
                  clear ht7 hp7 hl7
                  go_wp2
                  go_roundg (l.length - (k3 + 1))
                  case measure => have := HG.out; omega
                  case rel => exact ⟨k3 + 1, by go_num, by omega, show _ = _ by omega, HA7.out⟩
                · have e3 : decide (k3 < l.length) = false := by simpa using hlt3
                  have HA3 := Lib.hid (show CutAt w wr base g6 (encT (s.drop 0)) by have := HA.out; rw [List.drop_eq_nil_of_le (by omega)] at this; simpa [encI] using this)
                  clear HA HG
                  go_wp2
                  go_loopg [82] s.length (fun q c82 wr => ∃ k : Nat, c82 = .int .i64 (k : Int) ∧ k ≤ s.length ∧ Hid (q + k = s.length) ∧ Hid (CutAt w wr base g6 (encT (s.drop k))))
                  case atStart => exact ⟨0, rfl, by omega, Nat.add_zero _, HA3.out⟩
                  case round =>
                    obtain ⟨k4, rfl, hk4, HG, HA⟩ := hrel
                    obtain ⟨cs, f, x1, x2, x3, x4⟩ := HA.out
                    have H1 := Lib.hid x1
                    have H2 := Lib.hid x2
                    have H3 := Lib.hid x3
                    have H4 := Lib.hid x4
                    clear x1 x2 x3 x4
                    by_cases hlt4 : k4 < s.length
                    · have e4 : decide (k4 < s.length) = true := by simpa using hlt4
                      obtain ⟨t, hx, _, hmem⟩ := get_lt hlt4
                      have HXI := Lib.hid (HSM.out t hmem)
                      have HD := Lib.hid (show encT (s.drop k4) = (uvarint t.size ++ t.data.toList) ++ encT (s.drop (k4 + 1)) by rw [drop_get hx, encT_cons])
                      clear hx hmem
                      go_wp2_with fail
                      refine (rtext_pfx base g6 t (encT (s.drop (k4 + 1))) cs f 800000000 _ HXI.out H1.out H3.out (by omega) (by rw [← HD.out]; exact H2.out)).mono ?_
                      rintro _ w7 ⟨⟨v7, rfl⟩, cs7, f7, ht7, hp7, hl7⟩
                      have HA7 := Lib.hid (show CutAt w w7 base g6 (encT (s.drop (k4 + 1))) from ⟨cs7, f7, ht7.1, hp7, hl7, ht7.below H4.out H4.out.size HSZ.out⟩)
                      clear ht7 hp7 hl7
                      go_wp2
                      go_roundg (s.length - (k4 + 1))
                      case measure => have := HG.out; omega
                      case rel => exact ⟨k4 + 1, by go_num, by omega, show _ = _ by omega, HA7.out⟩
                    · have e4 : decide (k4 < s.length) = false := by simpa using hlt4
                      have hp := H2.out
                      rw [List.drop_eq_nil_of_le (by omega)] at hp
                      obtain ⟨rfl, rfl⟩ := pfx_end (by simpa [encT] using hp)
                      have CE := Lib.hid (ended_any base g6 [] true _ H1.out)
                      rw [show endB [] true = false by decide] at CE
                      have CL := Lib.hid (left_any base g6 [] true _ H1.out)
                      rw [show (([] : List UInt8).length : Int) = 0 from rfl] at CL
                      clear hp
                      go_wp2_with fail
                      refine CE.out.mono ?_
                      rintro _ _ ⟨rfl, rfl⟩
                      go_wp2_with fail
                      refine CL.out.mono ?_
                      rintro _ _ ⟨rfl, rfl⟩
                      go_wp2
                      go_ret
                      exact ⟨rfl, H4.out⟩
            · by_cases h0 : cut < 0
              · go_wp2_with fail
                refine CE.out.mono ?_
                rintro _ _ ⟨rfl, rfl⟩
                go_wp2
                go_ret
                exact ⟨rfl, HA2.out.2.1⟩
              · have h1 : (B.length : Int) ≤ cut := by omega
                clear hc
                go_wp2_with fail
                refine CE.out.mono ?_
                rintro _ _ ⟨rfl, rfl⟩
                go_wp2
                go_ret
                exact ⟨rfl, HA2.out.2.1⟩
  · have HW3 := Lib.hid (bl_trans HW2.out hB3)
    clear hB3 C2
    go_wp2
    go_ret
    exact ⟨rfl, HW3.out⟩

set_option maxHeartbeats 800000 in
theorem back_out (a0 : Option Addr) (len0 cap0 : Nat) (a1 : Option Addr) (len1 cap1 : Nat) (cut : Int) (w : World) (h : 50 < len0 ∨ 20 < len1) :
    Calls Try.prog 6 #[.slice a0 len0 cap0, .slice a1 len1 cap1, .int .i64 cut] w fun e w' => e = .returned (.bool true) ∧ RowKit.Below w.heap.size w w' := by
  by_cases h0 : 50 < len0
  · have d0 : decide ((50 : Int) < (len0 : Int)) = true := by simp; omega
    go_enter Try.func6, Try.ntmps6
    go_wp2_with fail
    refine (alive_any _).mono ?_
    rintro _ w1 ⟨rfl, hb1⟩
    have HW1 := Lib.hid hb1
    clear hb1
    go_wp2
    go_ret
    exact ⟨rfl, HW1.out⟩
  · have d0 : decide ((50 : Int) < (len0 : Int)) = false := by simp; omega
    have d1 : decide ((20 : Int) < (len1 : Int)) = true := by simp; omega
    clear h
    go_enter Try.func6, Try.ntmps6
    go_wp2_with fail
    refine (alive_any _).mono ?_
    rintro _ w1 ⟨rfl, hb1⟩
    have HW1 := Lib.hid hb1
    clear hb1
    go_wp2
    go_ret
    exact ⟨rfl, HW1.out⟩
theorem packBack_walk (w : World) (a0 : Option Addr) (len0 cap0 : Nat) (l0 : List Int) (w0 : Came (Value.int .i64) w a0 len0 cap0 l0 ∧ ∀ n ∈ l0, (Lit.int .i64 n).wf = true) (a1 : Option Addr) (len1 cap1 : Nat) (l1 : List ByteArray) (w1 : Came Value.string w a1 len1 cap1 l1 ∧ ∀ s ∈ l1, s.size ≤ maxLen) (a2 : Int) (_w2 : (Lit.int .i64 a2).wf = true) :
    Calls Try.prog 6 #[.slice a0 len0 cap0, .slice a1 len1 cap1, .int .i64 a2] w fun e w' => e = .returned (.bool true) ∧ RowKit.Below w.heap.size w w' := by
  by_cases h : 50 < len0 ∨ 20 < len1
  · exact back_out a0 len0 cap0 a1 len1 cap1 a2 w h
  · obtain ⟨⟨r0, rfl, _, _, _⟩, k0⟩ := w0
    obtain ⟨⟨r1, rfl, _, _, _⟩, _⟩ := w1
    exact back_in a0 l0 cap0 a1 l1 cap1 a2 w r0 (fun x hx => fits (k0 x hx)) r1 (by omega) (by omega)
end Go.Proofs.Ytcahmijcfmakjaa
