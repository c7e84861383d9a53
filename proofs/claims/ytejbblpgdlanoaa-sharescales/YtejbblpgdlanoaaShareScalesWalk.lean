/- The walk of falseworklaw02.ShareScales. -/
import Derived.Test.YtejbblpgdlanoaaScalesA
import Derived.Test.YtejbblpgdlanoaaShare5
namespace Go.Proofs.Ytejbblpgdlanoaa
open Go.RowKit Go.Shelf Go.Sort

theorem wpList_app {ops : Array Oper} {rest : List Oper} {o : Oper} {a : Act} {w : World} {Q : Exit → Act → World → Prop} (hgd : o.guard = none) (s x : Operand)
    (ho : o.op = .call { callee := .builtin .append, args := #[s, x], argTypes := #[43, 43] }) (w0 : World) (base : Nat) (v : Value) (l news : List Int) (ad : Addr) (c n : Nat) (hs : a.eval s = v) (hx : a.eval x = .slice (some ad) n c) (hn : news.length = n)
    (hown : OW w base v l) (hr : ∀ i, i < news.length → w.cell? (ad.add i) = some (.int .i64 (news.getD i 0))) (hlen : l.length + news.length ≤ 1000000) (hB : RowKit.Below base w0 w) (hb : base ≤ w.heap.size)
    (h : ∀ v' w', OW w' base v' (l ++ news) → RowKit.Below base w0 w' → base ≤ w'.heap.size → wpList Try.prog ops Q rest (a.put o.dst v') w') : wpList Try.prog ops Q (o :: rest) a w :=
  wpList_plain hgd fun K hK => by
    subst hn
    obtain ⟨v', w', hrun, h2, h3, h4⟩ := app_run w0 base v l news ad c o.type hown hr hlen hB hb
    unfold Oper.wp execOp
    simp only [ho, resolve, invoke, builtin, Sem.run_bind, Sem.run_pure, Result.andThen_ok, List.map_toArray, List.map_cons, List.map_nil, hs, hx, hrun]
    exact hK _ _ (h v' w' h2 h3 h4)
theorem OW.alloc {w : World} {base : Nat} {v : Value} {l : List Int} (h : OW w base v l) (o : Obj) : OW (w.alloc o) base v l := World.ownsRow.alloc h o
theorem bl_over {w u v : World} {n : Nat} (h : RowKit.Below n w u) (hn : n ≤ u.heap.size) (k : RowKit.Below u.heap.size u v) : RowKit.Below n w v := h.trans (k.mono hn)
theorem one_cell (W : World) (x : Int) (t : TypeId) : ∀ i, i < [x].length → (W.alloc (.cells #[.int .i64 x] t)).cell? ((⟨W.heap.size, 0, none⟩ : Addr).add i) = some (.int .i64 ([x].getD i 0)) := by
  intro i hi
  obtain rfl : i = 0 := by simp at hi; exact hi
  simp [Addr.add]
theorem take_scale (k : Int) (l : List Int) (i : Nat) (h : i < l.length) : scaleL k (l.take (i + 1)) = scaleL k (l.take i) ++ [scale k (l.getD i 0)] := by
  unfold scaleL
  rw [List.take_succ_eq_append_getElem h, List.map_append]
  simp [List.getD, h]

set_option maxHeartbeats 16000000 in
set_option maxRecDepth 100000 in
theorem scales_core (a0 : Option Addr) (l : List Int) (cap : Nat) (t k : Int) (w : World) (hT : I t) (hI : ∀ x ∈ l, I x) (hr : RowAt .i64 w a0 l) (hl : l.length ≤ 64) (hk : 0 < k) (hk2 : k ≤ 1000000) :
    Calls Try.prog 11 #[.int .i64 t, .slice a0 l.length cap, .int .i64 k] w fun e w' => e = .returned (.bool true) ∧ RowKit.Below w.heap.size w w' := by
  have HR := Lib.hid hr
  have HI := Lib.hid hI
  clear hr hI
  have d1 : decide ((64 : Int) < (l.length : Int)) = false := by simp only [decide_eq_false_iff_not]; omega
  have d2 : decide (k < 1) = false := by simp only [decide_eq_false_iff_not]; omega
  have d3 : decide (1000000 < k) = false := by simp only [decide_eq_false_iff_not]; omega
  go_enter Try.func11, Try.ntmps11
  go_wp2_with fail
  refine (alive2_any _).mono ?_
  rintro e w1 ⟨rfl, hb1⟩
  have hz1 := hb1.size
  have HB1 := Lib.hid hb1
  clear hb1
  go_wp2
  go_loopg [7, 36] l.length (fun g c7 c36 wr => ∃ i : Nat, c36 = .int .i64 i ∧ i + g = l.length ∧ Hid (OW wr w.heap.size c7 (scaleL k (l.take i))) ∧ Hid (RowKit.Below w.heap.size w wr) ∧ w.heap.size ≤ wr.heap.size ∧ Hid (∀ j, j < i → l.getD j 0 ≤ 1000000000))
  case atStart =>
    exact ⟨0, rfl, by omega, OW.lit (by omega), HB1.out.alloc (by omega) _, by simp; omega, fun j hj => by omega⟩
  case round =>
    obtain ⟨i, rfl, hi, HO, HB, hzr, HW⟩ := hrel
    clear HB1
    by_cases hlt : i < l.length
    · have hlz : (i : Int) < (l.length : Int) := by omega
      have b1 : (0 : Int) ≤ (i : Int) := by omega
      obtain ⟨p1, o1, rfl, hc1⟩ : ∃ b off, a0 = some ⟨b, off, none⟩ ∧ wr.cell? ⟨b, off + i, none⟩ = some (.int .i64 (l.getD i 0)) := by
        rcases HR.out.below HB.out with h | ⟨b, off, e, _, hc⟩
        · rw [h] at hlt; simp at hlt
        · exact ⟨b, off, e, hc i hlt⟩
      obtain ⟨y, hy⟩ : ∃ y, y = l.getD i 0 := ⟨_, rfl⟩
      rw [← hy] at hc1
      have HY := Lib.hid hy
      clear hy
      by_cases hbig : 1000000000 < y
      · have e1 : decide (1000000000 < y) = true := by simpa using hbig
        go_wp2
        go_ret
        exact ⟨rfl, HB.out⟩
      · have e1 : decide (1000000000 < y) = false := by simpa using hbig
        obtain ⟨s, hs⟩ : ∃ s, s = scale k y := ⟨_, rfl⟩
        have hsb := scale_I (w := y) hk hk2 (by omega)
        rw [← hs] at hsb
        have HSC := Lib.hid hs
        have es : max (-1) y * k = s := by
          rw [hs]; unfold scale
          by_cases hneg : y < -1
          · rw [if_pos hneg, Int.max_eq_left (by omega)]
          · rw [if_neg hneg, Int.max_eq_right (by omega)]
        have ew : IntKind.i64.wrap s = s := by rw [IntKind.wrap_i64]; omega
        clear hs
        obtain ⟨a7, k7, hv7, _⟩ := HO.out.row
        subst hv7
        go_wp2_with (at_builtin; refine wpList_app rfl _ _ rfl w w.heap.size _ (scaleL k (l.take i)) [s] ⟨wr.heap.size, 0, none⟩ 1 1 (by rfl) (by rfl) rfl (HO.out.alloc _) (one_cell wr s _) (by rw [scaleL_len]; simp; omega) (HB.out.alloc hzr _) (by simp; omega) ?_; intro v3 w3 ho3 hb3 hz3)
        go_roundg (gk - 1)
        case measure => omega
        case rel =>
          refine ⟨i + 1, by go_num, by omega, ?_, hb3, hz3, fun j hj => ?_⟩
          · have e := take_scale k l i hlt
            rw [← HY.out, ← HSC.out] at e
            rw [e]
            exact ho3
          · by_cases e : j = i
            · subst e; rw [← HY.out]; omega
            · exact HW.out j (by omega)
    · have hlz : ¬ (i : Int) < (l.length : Int) := by omega
      obtain rfl : i = l.length := by omega
      have hO := HO.out
      rw [List.take_length] at hO
      obtain ⟨a4, c4, hv, hr4⟩ := hO.row
      rw [hv]
      have hW : ∀ x ∈ l, x ≤ 1000000000 := fun x hx => by
        obtain ⟨j, hj, e⟩ := List.getElem_of_mem hx
        have := HW.out j hj
        rw [← e]
        simpa [List.getD, hj] using this
      have hI2 : ∀ x ∈ scaleL k l, I x := fun x hx => by
        obtain ⟨u, hu, rfl⟩ := List.mem_map.mp hx
        have := scale_I hk hk2 (hW u hu)
        unfold I; omega
      have C1 := Lib.hid (cut_res a0 l cap t wr hT HI.out (HR.out.below HB.out))
      have C2 := fun W h => Lib.hid (cut_res a4 (scaleL k l) c4 t W hT hI2 h)
      have HR4 := Lib.hid hr4
      have HW2 := Lib.hid hW
      clear hO hv hr4 hW hI2 HO HW
      go_wp2_with fail
      refine C1.out.mono ?_
      rintro e w2 ⟨v1, k1, x, er, sp1, rfl, hb2, hrx⟩
      have HSP1 := Lib.hid sp1
      have HB2 := Lib.hid hb2
      have HRX := Lib.hid hrx
      clear sp1 hb2 hrx C1
      go_wp2_with fail
      refine (C2 _ (HR4.out.below HB2.out)).out.mono ?_
      rintro e w3 ⟨v2, k2, x2, er2, sp2, rfl, hb3, hry⟩
      obtain ⟨hx, her⟩ := spec_scale hk hk2 HW2.out HSP1.out sp2
      subst hx her
      have hBw := bl_trans (bl_over HB.out hzr HB2.out) hb3
      have HB3 := Lib.hid hBw
      have HRX3 := Lib.hid (HRX.out.below hb3)
      have HRY := Lib.hid hry
      have hxl : x.length ≤ 64 := by
        rcases HSP1.out with ⟨_, rfl, _⟩ | ⟨_, _, _, rfl, _⟩ | ⟨_, _, _, rfl, _⟩
        · simp
        · rw [partsL_len]; exact hl
        · simp
      clear sp2 hb3 hry hBw HRX C2 HR4 HW2 HB2 HB
      by_cases ht : t < 0
      · have e1 : decide (t < 0) = true := by simpa using ht
        obtain rfl : er = 21 := by
          rcases HSP1.out with ⟨_, _, rfl⟩ | ⟨h, _⟩ | ⟨h, _⟩
          · rfl
          · omega
          · omega
        go_wp2
        go_ret
        exact ⟨rfl, HB3.out⟩
      · have e1 : decide (t < 0) = false := by simpa using ht
        have T1 := fun W => strip_yes t 10000 W hT (by omega) (by omega) (by omega)
        have p1 : ptF t 10000 = t := by unfold ptF; exact Int.mul_ediv_cancel t (by decide)
        rw [p1, Int.sub_self] at T1
        have T2 := fun W => strip_yes t 0 W hT (by omega) (by omega) (by omega)
        have p2 : ptF t 0 = 0 := by unfold ptF; rw [Int.mul_zero]; rfl
        rw [p2, Int.sub_zero] at T2
        have HT1 := fun W => Lib.hid (T1 W)
        have HT2 := fun W => Lib.hid (T2 W)
        have SM := fun W h1 h2 => Lib.hid (same_any v1 v2 k1 k2 x x W h1 h2 (by omega))
        clear T1 T2 p1 p2
        go_wp2_with fail
        refine (HT1 _).out.mono ?_
        rintro e w4 ⟨rfl, hb4⟩
        go_wp2_with fail
        refine (HT2 _).out.mono ?_
        rintro e w5 ⟨rfl, hb5⟩
        have HB5 := Lib.hid (bl_trans (bl_trans HB3.out hb4) hb5)
        have R1 := Lib.hid ((HRX3.out.below hb4).below hb5)
        have R2 := Lib.hid ((HRY.out.below hb4).below hb5)
        clear hb4 hb5
        go_wp2_with fail
        refine (SM _ R1.out R2.out).out.mono ?_
        rintro e w6 ⟨rfl, q, rfl⟩
        have ex : decide (x = x) = true := by simp
        go_wp2
        go_ret
        exact ⟨by simp, below_drewN HB5.out _⟩

set_option maxHeartbeats 4000000 in
theorem scales_out (a : Option Addr) (len cap : Nat) (t k : Int) (w : World) (h : 64 < len ∨ k < 1 ∨ 1000000 < k) :
    Calls Try.prog 11 #[.int .i64 t, .slice a len cap, .int .i64 k] w fun e w' => e = .returned (.bool true) ∧ RowKit.Below w.heap.size w w' := by
  by_cases h1 : 64 < len
  · have d1 : decide ((64 : Int) < (len : Int)) = true := by simp only [decide_eq_true_eq]; omega
    go_enter Try.func11, Try.ntmps11
    go_wp2_with fail
    refine (alive2_any _).mono ?_
    rintro e w1 ⟨rfl, hw1⟩
    go_wp2
    go_ret
    exact ⟨rfl, hw1⟩
  · have d1 : decide ((64 : Int) < (len : Int)) = false := by simp only [decide_eq_false_iff_not]; omega
    by_cases h2 : k < 1
    · have d2 : decide (k < 1) = true := by simpa using h2
      go_enter Try.func11, Try.ntmps11
      go_wp2_with fail
      refine (alive2_any _).mono ?_
      rintro e w1 ⟨rfl, hw1⟩
      go_wp2
      go_ret
      exact ⟨rfl, hw1⟩
    · have d2 : decide (k < 1) = false := by simpa using h2
      have h3 : 1000000 < k := by omega
      have d3 : decide (1000000 < k) = true := by simpa using h3
      go_enter Try.func11, Try.ntmps11
      go_wp2_with fail
      refine (alive2_any _).mono ?_
      rintro e w1 ⟨rfl, hw1⟩
      go_wp2
      go_ret
      exact ⟨rfl, hw1⟩

theorem shareScales_walk (a0 : Int) (a1 : Option Addr) (len1 cap1 : Nat) (z1 : List Int) (a2 : Int) (w : World) (w0 : (Lit.int .i64 a0).wf = true) (w1 : IsRow .i64 w a1 len1 cap1 z1) (_w2 : (Lit.int .i64 a2).wf = true) :
    Calls Try.prog 11 #[.int .i64 a0, .slice a1 len1 cap1, .int .i64 a2] w fun e w' => e = .returned (.bool true) ∧ RowKit.Below w.heap.size w w' := by
  obtain ⟨hr, hlen, hI, hm⟩ := row_of w1
  by_cases hout : 64 < len1 ∨ a2 < 1 ∨ 1000000 < a2
  · exact scales_out a1 len1 cap1 a0 a2 w hout
  · generalize z1.take len1 = l at *
    subst hlen
    exact scales_core a1 l cap1 a0 a2 w (I_of_wf w0) hI hr (by omega) (by omega) (by omega)
end Go.Proofs.Ytejbblpgdlanoaa
