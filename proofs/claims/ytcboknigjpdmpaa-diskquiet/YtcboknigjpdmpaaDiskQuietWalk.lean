/- The walk of falseworklaw08.DiskQuiet. -/
import Derived.Test.YtcboknigjpdmpaaDkZ
namespace Go.Proofs.Ytcboknigjpdmpaa
open Go.RowKit Go.Lib

theorem dd_at {w w' : World} {a : Option Addr} {n : Nat} {l : List Dd} (h : CameD w a n l) (hb : RowKit.Below w.heap.size w w') {k : Nat} (hk : k < n) : ∃ x b off, l[k]? = some x ∧ x ∈ l ∧ a = some ⟨b, off, none⟩ ∧ w'.rangeAt b (off + k * 4) (dcs x) := by
  obtain ⟨x, hx⟩ : ∃ x, l[k]? = some x := ⟨_, List.getElem?_eq_getElem (by rw [h.ln]; exact hk)⟩
  obtain ⟨b, off, ha, _, hr⟩ := (h.li.below hb).get (n := 4) (fun _ _ => rfl) (by decide) hx
  exact ⟨x, b, off, hx, List.mem_of_getElem? hx, ha, hr⟩
/-- the disk and four sectors beside it -/
structure S4 (w0 w : World) (F : Nat → Prop) (g gb : Nat) (d : Dk) (L : List Sec) : Prop where
  dt : DAt w F g d
  a4 : At4 w gb L
  nf : ¬ F gb
  fr : ∀ i, F i → w0.heap.size ≤ i
  bl : RowKit.Below w0.heap.size w0 w
theorem S4.next {w0 w w' : World} {F : Nat → Prop} {g gb : Nat} {d d' : Dk} {L : List Sec} (h : S4 w0 w F g gb d L) (hd : Did g F d' w w') : ∃ F', S4 w0 w' F' g gb d' L := by
  obtain ⟨F', h1, h2, h3⟩ := hd
  exact ⟨F', h1, h.a4.same (h2.block _ h.a4.lt h.nf), fun e => (h3 _ e).elim h.nf fun e => by have := h.a4.lt; omega, fun i hi => (h3 i hi).elim (h.fr i) fun e => Nat.le_trans h.bl.size e, h2.below h.bl h.fr h.bl.size⟩
theorem S4.below {w0 w w' : World} {F : Nat → Prop} {g gb : Nat} {d : Dk} {L : List Sec} (h : S4 w0 w F g gb d L) (hb : RowKit.Below w.heap.size w w') : S4 w0 w' F g gb d L :=
  ⟨h.dt.below hb, h.a4.same (hb.block _ h.a4.lt), h.nf, h.fr, h.bl.trans (hb.mono h.bl.size)⟩
set_option maxRecDepth 100000 in
set_option maxHeartbeats 6400000 in
theorem diskQuiet_walk (w : World) (a0 : Option Addr) (n0 c0 : Nat) (l : List Dd) (hl : CameD w a0 n0 l) (a1 : Option Addr) (n1 c1 : Nat) (keep : List Int) (hkp : Nums w a1 keep ∧ keep.length = n1 ∧ ∀ n ∈ keep, I n) :
    Calls Try.prog 7 #[.slice a0 n0 c0, .slice a1 n1 c1] w fun e w' => e = .returned (.bool true) ∧ RowKit.Below w.heap.size w w' := by
  have HCAME := Lib.hid hl
  have HKP := Lib.hid hkp
  have A := Lib.hid (alive_any w)
  clear hl hkp
  go_enter Try.func7, Try.ntmps7
  go_wp2_with fail
  refine A.out.mono ?_
  rintro _ w0 ⟨rfl, hb0⟩
  have HB0 := Lib.hid hb0
  clear hb0 A
  have hcs : 60 < n0 ∨ (n0 ≤ 60 ∧ 100 < n1) ∨ (n0 ≤ 60 ∧ n1 ≤ 100) := by omega
  rcases hcs with h | ⟨h, h2⟩ | ⟨h, h2⟩
  · have d0 : decide ((60 : Int) < (n0 : Int)) = true := by simp; omega
    clear h
    go_wp2
    go_ret
    exact ⟨rfl, HB0.out⟩
  · have d0 : decide ((60 : Int) < (n0 : Int)) = false := by simp; omega
    have d1 : decide ((100 : Int) < (n1 : Int)) = true := by simp; omega
    clear h h2
    go_wp2
    go_ret
    exact ⟨rfl, HB0.out⟩
  · have d0 : decide ((60 : Int) < (n0 : Int)) = false := by simp; omega
    have d1 : decide ((100 : Int) < (n1 : Int)) = false := by simp; omega
    have HN := Lib.hid h
    have B := Lib.hid (blank_any 4 w0)
    clear h h2
    go_wp2_with fail
    refine B.out.mono ?_
    rintro _ w1 ⟨g, F, rfl, hd, hb, hf⟩
    have HS := Lib.hid (show ∃ F d, DAt w1 F g d ∧ QI d 0 ∧ (∀ i, F i → w.heap.size ≤ i) ∧ RowKit.Below w.heap.size w w1 from ⟨F, _, hd, ⟨rfl, Nat.zero_le _, rfl, rfl⟩, fun i hi => Nat.le_trans HB0.out.size (hf i hi), HB0.out.trans (hb.mono HB0.out.size)⟩)
    have hn60 := HN.out
    clear hd hb hf B d0 d1
    go_wp2_with fail
    go_loopw [26] (fun c26 wr => ∃ (k : Nat), c26 = .int .i64 (k : Int) ∧ k ≤ n0 ∧ ∃ F d, DAt wr F g d ∧ QI d k ∧ (∀ i, F i → w.heap.size ≤ i) ∧ RowKit.Below w.heap.size w wr) (fun c26 _ => n0 - (match c26 with | .int _ q => q | _ => 0).toNat)
    case atStart => exact ⟨0, rfl, Nat.zero_le _, HS.out⟩
    case round =>
      obtain ⟨k, rfl, hk, F, d, hd, hqi, hf, hbw⟩ := hrel
      have HD := Lib.hid hd
      have HQI := Lib.hid hqi
      have HFF := Lib.hid hf
      have HBW := Lib.hid hbw
      clear hd hqi hf hbw
      by_cases hlt : k < n0
      · have HKL := Lib.hid hlt
        obtain ⟨x, bd, od, _, hxm, ha0, hrd⟩ := dd_at HCAME.out HBW.out hlt
        have HG := Lib.hid (HCAME.out.gd x hxm)
        obtain ⟨cd, hcd⟩ : ∃ cd, cd = dcs x := ⟨_, rfl⟩
        rw [← hcd] at hrd
        have HRD := Lib.hid hrd
        have HCC := Lib.hid (show Cs 4 cd by rw [hcd]; exact dcs_cs x)
        have HA7z := Lib.hid (heap_alloc_new wr (.cells [Value.int .i64 0, .int .i64 0, .int .u8 0, .slice none 0 0].toArray 40))
        have HSN := Lib.hid (show (wr.alloc (.cells [Value.int .i64 0, .int .i64 0, .int .u8 0, .slice none 0 0].toArray 40)).setRow wr.heap.size cd.toArray = wr.alloc (.cells cd.toArray 40) from setRow_new rfl)
        obtain ⟨w7, hw7⟩ : ∃ w7, w7 = wr.alloc (.cells cd.toArray 40) := ⟨_, rfl⟩
        have h7 : w7.heap[wr.heap.size]? = some (.cells cd.toArray 40) := by rw [hw7]; exact heap_alloc_new wr _
        have HB7 := Lib.hid (show RowKit.Below wr.heap.size wr w7 by rw [hw7]; exact (RowKit.Below.refl _ _).alloc (Nat.le_refl _) _)
        have q0 : w7.cell? ⟨wr.heap.size, 0, none⟩ = some (.int .i64 x.kind) := by rw [cell_of_row _ _ _ _ _ _ h7, hcd]; rfl
        have HQ1 := Lib.hid (show w7.cell? ⟨wr.heap.size, 1, none⟩ = some (.int .i64 x.n) by rw [cell_of_row _ _ _ _ _ _ h7, hcd]; rfl)
        have HQ2 := Lib.hid (show w7.cell? ⟨wr.heap.size, 2, none⟩ = some (.int .u8 (x.paint.toNat : Int)) by rw [cell_of_row _ _ _ _ _ _ h7, hcd]; rfl)
        have HQ3 := Lib.hid (show w7.cell? ⟨wr.heap.size, 3, none⟩ = some (.slice x.ka x.kn x.kc) by rw [cell_of_row _ _ _ _ _ _ h7, hcd]; rfl)
        have HN7 := Lib.hid (lt_of_heap h7)
        have HNF := Lib.hid (show ¬ F wr.heap.size from fun e => Nat.lt_irrefl _ (HD.out.fl _ e))
        rw [← hw7] at HSN
        have HPOST := Lib.hid (show ∀ (W w9 : World) (d9 : Dk), RowKit.Below wr.heap.size wr W → Did g F d9 W w9 → QI d9 (k + 1) → ∃ F d, DAt w9 F g d ∧ QI d (k + 1) ∧ (∀ i, F i → w.heap.size ≤ i) ∧ RowKit.Below w.heap.size w w9 from fun W w9 d9 hb ⟨F', h1, h2, h3⟩ h4 =>
          have hbw2 := HBW.out.trans (hb.mono HBW.out.size)
          ⟨F', d9, h1, h4, fun i hi => (h3 i hi).elim (HFF.out i) fun e => Nat.le_trans hbw2.size e, h2.below hbw2 HFF.out hbw2.size⟩)
        have hqn : d.queue.length < 1000 := by have := HQI.out.qn; have := HN.out; omega
        have HPUT := Lib.hid (fun (W : World) (hb : RowKit.Below wr.heap.size wr W) => put_any g F d x.n (paint x.paint) W (HD.out.below (hb.mono (Nat.le_refl _))) HG.out.ii (paint_len _) hqn)
        have HPA := Lib.hid (painted_any x.paint w7.drew)
        have HPW := Lib.hid (power_any g F d x.ka x.keep x.kn x.kc w7 (HD.out.below HB7.out) (HG.out.kp.below (HBW.out.trans (HB7.out.mono HBW.out.size))) HG.out.kl (keep_off HG.out.kp HFF.out))
        subst ha0
        clear hcd hrd hw7 h7 hqn hxm
        have hcs : x.kind = 0 ∨ x.kind = 3 ∨ (x.kind ≠ 0 ∧ x.kind ≠ 3) := by omega
        rcases hcs with hx | hx | ⟨hx, hx2⟩
        · rw [hx] at q0
          clear hx
          go_wp2_with (first | (with_reducible refine wpList_idx elD rfl _ _ rfl k rfl rfl rfl HKL.out ?_) | (with_reducible refine wpList_loadM rfl isDd _ rfl bd (od + k * 4) cd rfl HRD.out HCC.out ?_) | (with_reducible refine wpList_allocA rfl isDd rfl ?_) | ((with_reducible refine wpList_storeW rfl isDd _ _ rfl wr.heap.size cd _ _ rfl rfl HA7z.out HCC.out rfl ?_); rw [HSN.out]))
          refine wp_region_held_drew (S := fun W => Agree [wr.heap.size] w7 W) (by kernel_rfl) ?_ (fun hHeld => ?_)
          · exact fun _ _ => rfl
          refine held_take 0 (v := ?_) rfl (by kernel_rfl) (by kernel_rfl) (by kernel_rfl) (fun _ _ _ h => h) hHeld (by rfl) ?_ ?_
          rotate_left
          · (intro W hW; go_simp; try with_reducible rfl)
          try simp only [Act.put, List.setIfInBounds_toArray, List.set_cons_zero, List.set_cons_succ]
          refine held_take 1 (v := ?_) rfl (by kernel_rfl) (by kernel_rfl) (by kernel_rfl) (fun _ _ _ h => h) hHeld (by rfl) ?_ ?_
          rotate_left
          · (intro W hW; go_simp; try with_reducible rfl)
          try simp only [Act.put, List.setIfInBounds_toArray, List.set_cons_zero, List.set_cons_succ]
          refine held_take 2 (v := ?_) rfl (by kernel_rfl) (by kernel_rfl) (by kernel_rfl) (fun _ _ _ h => h) hHeld (by rfl) ?_ ?_
          rotate_left
          · (intro W hW; have e := hW.cell (b := wr.heap.size) (by simp) HQ1.out; go_simp; try with_reducible rfl)
          try simp only [Act.put, List.setIfInBounds_toArray, List.set_cons_zero, List.set_cons_succ]
          refine held_take 3 (v := ?_) rfl (by kernel_rfl) (by kernel_rfl) (by kernel_rfl) (fun _ _ _ h => h) hHeld (by rfl) ?_ ?_
          rotate_left
          · (intro W hW; go_simp; try with_reducible rfl)
          try simp only [Act.put, List.setIfInBounds_toArray, List.set_cons_zero, List.set_cons_succ]
          refine held_take 4 (v := ?_) rfl (by kernel_rfl) (by kernel_rfl) (by kernel_rfl) (fun _ _ _ h => h) hHeld (by rfl) ?_ ?_
          rotate_left
          · (intro W hW; have e := hW.cell (b := wr.heap.size) (by simp) HQ2.out; go_simp; try with_reducible rfl)
          try simp only [Act.put, List.setIfInBounds_toArray, List.set_cons_zero, List.set_cons_succ]
          refine held_next 5 rfl (by kernel_rfl) (by rfl) (fun K hK => ?_)
          go_simp
          go_at_call 18
          refine HPA.out.mono ?_
          rintro _ wp ⟨rfl, hbp⟩
          have HBP := Lib.hid (show RowKit.Below w7.heap.size w7 wp from ⟨hbp.os, hbp.tape, hbp.output, hbp.size, hbp.block⟩)
          clear hbp
          refine hK.out _ _ (fun i hi => by rw [List.mem_singleton.1 hi]; exact HBP.out.block _ HN7.out) (fun hHeld => ?_)
          clear hK K
          try simp only [Act.put, List.setIfInBounds_toArray, List.set_cons_zero, List.set_cons_succ]
          refine held_next 6 rfl (by kernel_rfl) (by rfl) (fun K hK => ?_)
          go_simp
          go_at_call 17
          refine (HPUT.out wp (HB7.out.trans (HBP.out.mono HB7.out.size))).mono ?_
          rintro _ w9 ⟨rfl, hdid⟩
          have HDID := Lib.hid (HPOST.out wp w9 _ (HB7.out.trans (HBP.out.mono HB7.out.size)) hdid (HQI.out.put x.n (paint x.paint)))
          have HB9 := Lib.hid (show w9.heap[wr.heap.size]? = w7.heap[wr.heap.size]? from (by obtain ⟨F', _, h2, _⟩ := hdid; exact (h2.block _ (Nat.lt_of_lt_of_le HN7.out HBP.out.size) HNF.out).trans (HBP.out.block _ HN7.out)))
          clear hdid
          refine hK.out _ _ (fun i hi => by rw [List.mem_singleton.1 hi]; exact HB9.out) (fun hHeld => ?_)
          clear hK K
          try simp only [Act.put, List.setIfInBounds_toArray, List.set_cons_zero, List.set_cons_succ]
          refine wpAnyH_done (by kernel_rfl) ?_ _
          go_simp
          have q9 : w9.cell? ⟨wr.heap.size, 0, none⟩ = some (.int .i64 0) := by rw [World.cell?_of_block (a := ⟨wr.heap.size, 0, none⟩) HB9.out]; exact q0
          clear q0
          go_wp2_with fail
          go_roundw
          case rel => exact ⟨k + 1, by go_num, by have := HKL.out; omega, HDID.out⟩
          case measure => simp; have := HKL.out; omega
        · rw [hx] at q0
          have q3 := HQ3.out
          clear hx
          go_wp2_with (first | (with_reducible refine wpList_idx elD rfl _ _ rfl k rfl rfl rfl HKL.out ?_) | (with_reducible refine wpList_loadM rfl isDd _ rfl bd (od + k * 4) cd rfl HRD.out HCC.out ?_) | (with_reducible refine wpList_allocA rfl isDd rfl ?_) | ((with_reducible refine wpList_storeW rfl isDd _ _ rfl wr.heap.size cd _ _ rfl rfl HA7z.out HCC.out rfl ?_); rw [HSN.out]))
          refine HPW.out.mono ?_
          rintro _ w9 ⟨rfl, hdid⟩
          have HDID := Lib.hid (HPOST.out w7 w9 _ HB7.out hdid (HQI.out.power x.keep))
          clear hdid q0 q3
          go_wp2_with fail
          go_roundw
          case rel => exact ⟨k + 1, by go_num, by have := HKL.out; omega, HDID.out⟩
          case measure => simp; have := HKL.out; omega
        · have d0 : (x.kind == 0) = false := by simpa using hx
          have d1 : (x.kind == 3) = false := by simpa using hx2
          clear hx hx2
          have HDID := Lib.hid (HPOST.out w7 w7 d HB7.out ⟨F, HD.out.below HB7.out, Only.refl _ _, fun i hi => Or.inl hi⟩ HQI.out.more)
          go_wp2_with (first | (with_reducible refine wpList_idx elD rfl _ _ rfl k rfl rfl rfl HKL.out ?_) | (with_reducible refine wpList_loadM rfl isDd _ rfl bd (od + k * 4) cd rfl HRD.out HCC.out ?_) | (with_reducible refine wpList_allocA rfl isDd rfl ?_) | ((with_reducible refine wpList_storeW rfl isDd _ _ rfl wr.heap.size cd _ _ rfl rfl HA7z.out HCC.out rfl ?_); rw [HSN.out]))
          go_roundw
          case rel => exact ⟨k + 1, by go_num, by have := HKL.out; omega, HDID.out⟩
          case measure => simp; have := HKL.out; omega
      · obtain rfl : k = n0 := by omega
        obtain ⟨gb, hgb⟩ : ∃ gb, gb = wr.heap.size := ⟨_, rfl⟩
        have HA7z := Lib.hid (heap_alloc_new wr (.cells z4.toArray 58))
        obtain ⟨w3, hw3⟩ : ∃ w3, w3 = wr.alloc (.cells z4.toArray 58) := ⟨_, rfl⟩
        have HSN := Lib.hid (show w3.setRow wr.heap.size z4.toArray = w3 by rw [hw3]; exact setRow_new rfl)
        have hb3 : RowKit.Below wr.heap.size wr w3 := by rw [hw3]; exact (RowKit.Below.refl _ _).alloc (Nat.le_refl _) _
        have HW3 := Lib.hid hw3
        have HZ := Lib.hid (show ∃ L, DAt w3 F g d ∧ At4 w3 gb L ∧ (∀ j, j < 0 → L.getD j [] = d.at_ (j : Int)) ∧ RowKit.Below w.heap.size w w3 from ⟨_, HD.out.below hb3, by rw [hgb, hw3]; exact At4.new wr, fun j hj => absurd hj (Nat.not_lt_zero _), HBW.out.trans (hb3.mono HBW.out.size)⟩)
        have HGB := Lib.hid (show w.heap.size ≤ gb ∧ ¬ F gb by rw [hgb]; exact ⟨HBW.out.size, fun e => Nat.lt_irrefl _ (HD.out.fl _ e)⟩)
        clear hk hlt hw3 hb3 HS
        go_wp2_with (first | (with_reducible refine wpList_build4 rfl rfl ?_) | ((with_reducible refine wpList_allocA rfl is4 rfl ?_); rw [← HW3.out]) | ((with_reducible refine wpList_storeW rfl is4 _ _ rfl wr.heap.size z4 _ _ rfl rfl (HW3.out ▸ HA7z.out) cs_z4 z4_size ?_); rw [HSN.out]))
        rw [← hgb]
        clear hgb HA7z HSN HW3 HD
        go_loopw [49] (fun c49 wr => ∃ (k : Nat) (L : List Sec), c49 = .int .i64 (k : Int) ∧ k ≤ 4 ∧ DAt wr F g d ∧ At4 wr gb L ∧ (∀ j, j < k → L.getD j [] = d.at_ (j : Int)) ∧ RowKit.Below w.heap.size w wr) (fun c49 _ => 4 - (match c49 with | .int _ q => q | _ => 0).toNat)
        case atStart =>
          obtain ⟨L, h1, h2, h3, h4⟩ := HZ.out
          exact ⟨0, L, rfl, by omega, h1, h2, h3, h4⟩
        case round =>
          obtain ⟨j, L, rfl, hj4, hd2, hat, hL, hbw2⟩ := hrel
          have HD2 := Lib.hid hd2
          have HAT := Lib.hid hat
          have HLL := Lib.hid hL
          have HB2 := Lib.hid hbw2
          clear hd2 hat hL hbw2
          by_cases hjl : j < 4
          · have HJL := Lib.hid hjl
            have HGET := Lib.hid (get_any g F d (j : Int) wr HD2.out (by unfold I; omega))
            go_wp2_with fail
            refine HGET.out.mono ?_
            rintro _ w5 ⟨rfl, hb5⟩
            obtain ⟨cg, hcg⟩ : ∃ cg, cg = bcells (d.at_ (j : Int)) := ⟨_, rfl⟩
            have hs64 : (d.at_ (j : Int)).length = 64 := at_len HD2.out.ok _
            have HAT5 := Lib.hid (HAT.out.same (hb5.block _ HAT.out.lt))
            have HTH := Lib.hid (HAT5.out.there hjl)
            have HCG := Lib.hid (show Cs 64 cg by rw [hcg]; exact cs_sec hs64)
            have HZ6 := Lib.hid (show ∃ L, DAt (w5.setCells gb (j * 64) cg) F g d ∧ At4 (w5.setCells gb (j * 64) cg) gb L ∧ (∀ i, i < j + 1 → L.getD i [] = d.at_ (i : Int)) ∧ RowKit.Below w.heap.size w (w5.setCells gb (j * 64) cg) by
              refine ⟨L.set j (d.at_ (j : Int)), (HD2.out.below hb5).same (Nat.le_of_eq (size_setCells _ _ _ _).symm) (fun i hi => heap_setCells fun e => HGB.out.2 (e ▸ hi)), by rw [hcg]; exact HAT5.out.set hjl hs64, fun i hi => ?_, below_setCells (HB2.out.trans (hb5.mono HB2.out.size)) HGB.out.1⟩
              by_cases e : i = j
              · subst e; rw [List.getD, List.getElem?_set_self (by rw [HAT.out.1]; exact hjl)]; rfl
              · rw [List.getD, List.getElem?_set_ne (fun e' => e e'.symm)]; exact HLL.out i (by omega))
            rw [← hcg]
            clear hcg hs64 hb5 hjl
            go_wp2_with (first | (with_reducible refine wpList_idx4 rfl _ _ rfl j rfl rfl rfl HJL.out ?_) | (with_reducible refine wpList_store_mid rfl _ _ _ rfl gb (j * 64) cg.toArray rfl rfl (by rw [List.size_toArray, HCG.out.len]; exact HTH.out) (by rw [sizS, List.size_toArray, HCG.out.len]) (all_oneCell_toArray HCG.out.one) ?_))
            go_roundw
            case rel =>
              obtain ⟨L, h1, h2, h3, h4⟩ := HZ6.out
              exact ⟨j + 1, L, by go_num, by have := HJL.out; omega, h1, h2, h3, h4⟩
            case measure => simp; have := HJL.out; omega
          · obtain rfl : j = 4 := by omega
            have HS4 := Lib.hid (show S4 w wr F g gb d L from ⟨HD2.out, HAT.out, HGB.out.2, HFF.out, HB2.out⟩)
            have HFL := Lib.hid (flush_any g F d wr HD2.out)
            obtain ⟨hq1, hq2, hq3⟩ := HQI.out.flush
            obtain ⟨hq4, hq5, hq6⟩ := hq1.flush
            have HA1 := Lib.hid (show d.actE = 0 from hq3)
            have HA2 := Lib.hid (show d.flush.actE = 0 from hq6)
            have HQ5 := Lib.hid (show d.flush.flush.queue = [] from hq5)
            have HQI4 := Lib.hid (show QI d.flush.flush 0 from hq4)
            have HLV := Lib.hid (show d.live = true ∧ d.flush.live = true from ⟨HQI.out.live, hq1.live⟩)
            clear hq1 hq2 hq3 hq4 hq5 hq6 hj4 hjl HD2 HAT HB2
            go_wp2_with fail
            refine HFL.out.mono ?_
            rintro _ w3 ⟨rfl, hdid⟩
            rw [HA1.out]
            obtain ⟨F3, hs3⟩ := HS4.out.next hdid
            have HS3 := Lib.hid hs3
            have HFL3 := Lib.hid (flush_any g F3 _ w3 hs3.dt)
            clear hdid hs3
            go_wp2_with fail
            refine HFL3.out.mono ?_
            rintro _ w4 ⟨rfl, hdid⟩
            rw [HA2.out]
            obtain ⟨F4, hs4⟩ := HS3.out.next hdid
            have HS4' := Lib.hid hs4
            have HQU := Lib.hid (queue_any g F4 _ w4 hs4.dt)
            rw [HQ5.out] at HQU
            clear hdid hs4
            go_wp2_with fail
            refine HQU.out.mono ?_
            rintro _ w5 ⟨v, rfl, hrow, hb5⟩
            obtain ⟨aq, cq, rfl, _, _, _⟩ := ow_lie hrow
            have hs5 := HS4'.out.below hb5
            have HS5 := Lib.hid hs5
            have HPW := Lib.hid (power_any g F4 _ a1 keep n1 c1 w5 hs5.dt (HKP.out.1.below hs5.bl) HKP.out.2.1 (keep_off HKP.out.1 hs5.fr))
            clear hrow hb5 hs5
            go_wp2_with fail
            refine HPW.out.mono ?_
            rintro _ w6 ⟨rfl, hdid⟩
            obtain ⟨F6, hs6⟩ := HS5.out.next hdid
            obtain ⟨D, hD⟩ : ∃ D, D = d.flush.flush.power keep := ⟨_, rfl⟩
            rw [← hD] at hs6
            have HS6 := Lib.hid hs6
            have HDA := Lib.hid (show ∀ x, D.at_ x = d.at_ x from fun x => by rw [hD, power_at HQ5.out, flush_at HS3.out.dt.ok HLV.out.2, flush_at HS4.out.dt.ok HLV.out.1])
            have HDL := Lib.hid (show D.base.length = 4 by rw [hD]; exact (HQI4.out.power keep).bl)
            clear hdid hs6 hD
            go_wp2_with fail
            go_loopw [78] (fun c78 wr => ∃ (k : Nat), c78 = .int .i64 (k : Int) ∧ k ≤ 4 ∧ S4 w wr F6 g gb D L) (fun c78 _ => 4 - (match c78 with | .int _ q => q | _ => 0).toNat)
            case atStart => exact ⟨0, rfl, by omega, HS6.out⟩
            case round =>
              obtain ⟨j, rfl, hj4, hs7⟩ := hrel
              have HS7 := Lib.hid hs7
              clear hs7
              by_cases hjl : j < 4
              · have HJL := Lib.hid hjl
                have HGET := Lib.hid (get_any g F6 D (j : Int) wr HS7.out.dt (by unfold I; omega))
                go_wp2_with fail
                refine HGET.out.mono ?_
                rintro _ w5 ⟨rfl, hb5⟩
                rw [show D.has (j : Int) = true from Dk.has_iff.2 (by rw [HDL.out]; omega), if_pos rfl]
                obtain ⟨cg, hcg⟩ : ∃ cg, cg = bcells (D.at_ (j : Int)) := ⟨_, rfl⟩
                have hs64 : (D.at_ (j : Int)).length = 64 := at_len HS7.out.dt.ok _
                have HCG := Lib.hid (show Cs 64 cg by rw [hcg]; exact cs_sec hs64)
                have HNE := Lib.hid (show ∀ W, (Op.equalIn 10000 28 (.agg cg.toArray) (.agg cg.toArray)).run Try.prog W = .ok true W from fun W => by rw [hcg, eqS hs64 hs64]; simp)
                have HA7z := Lib.hid (heap_alloc_new w5 (.cells zc.toArray 28))
                have HSN := Lib.hid (show (w5.alloc (.cells zc.toArray 28)).setRow w5.heap.size cg.toArray = w5.alloc (.cells cg.toArray 28) from setRow_new rfl)
                obtain ⟨w7, hw7⟩ : ∃ w7, w7 = w5.alloc (.cells cg.toArray 28) := ⟨_, rfl⟩
                have HR7 := Lib.hid (show w7.rangeAt w5.heap.size 0 cg by rw [hw7]; exact range_row (heap_alloc_new w5 _))
                have hs8 : S4 w w7 F6 g gb D L := (HS7.out.below hb5).below (by rw [hw7]; exact (RowKit.Below.refl _ _).alloc (Nat.le_refl _) _)
                have HS8 := Lib.hid (show S4 w w7.drew F6 g gb D L from hs8.below ⟨rfl, rfl, rfl, Nat.le_refl _, fun _ _ => rfl⟩)
                have HRB := Lib.hid (show w7.rangeAt gb (j * 64) cg by rw [hcg, HDA.out, ← HLL.out j hjl]; exact hs8.a4.get hjl)
                rw [← hw7] at HSN
                rw [← hcg]
                clear hcg hs64 hb5 hjl hw7 hs8
                go_wp2_with (first | (with_reducible refine wpList_allocA rfl isS rfl ?_) | ((with_reducible refine wpList_storeW rfl isS _ _ rfl w5.heap.size cg zc.toArray _ rfl rfl HA7z.out HCG.out (by simp [zc_len]) ?_); rw [HSN.out]))
                refine wp_region_held_drew (S := fun W => Agree [w5.heap.size, gb] w7 W) (by kernel_rfl) ?_ (fun hHeld => ?_)
                · exact fun _ _ => rfl
                refine held_take 0 (v := ?_) rfl (by kernel_rfl) (by kernel_rfl) (by kernel_rfl) (fun _ _ _ h => h) hHeld (by rfl) ?_ ?_
                rotate_left
                · (intro W hW; go_simp; try with_reducible rfl)
                try simp only [Act.put, List.setIfInBounds_toArray, List.set_cons_zero, List.set_cons_succ]
                refine held_take 1 (v := ?_) rfl (by kernel_rfl) (by kernel_rfl) (by kernel_rfl) (fun _ _ _ h => h) hHeld (by rfl) ?_ ?_
                rotate_left
                · (intro W hW; go_simp; try with_reducible rfl)
                try simp only [Act.put, List.setIfInBounds_toArray, List.set_cons_zero, List.set_cons_succ]
                refine held_take 2 (v := ?_) rfl (by kernel_rfl) (by kernel_rfl) (by kernel_rfl) (fun _ _ _ h => h) hHeld (by rfl) ?_ ?_
                rotate_left
                · (intro W hW; go_simp; try with_reducible rfl)
                try simp only [Act.put, List.setIfInBounds_toArray, List.set_cons_zero, List.set_cons_succ]
                refine held_take 3 (v := .agg cg.toArray) rfl (by kernel_rfl) (by kernel_rfl) (by kernel_rfl) (fun _ _ _ h => h) hHeld (by rfl) (fun W hW => exec_loadM isS _ rfl _ _ cg rfl (hW.range (by simp) HR7.out) HCG.out) ?_
                try simp only [Act.put, List.setIfInBounds_toArray, List.set_cons_zero, List.set_cons_succ]
                refine held_take 4 (v := ?_) rfl (by kernel_rfl) (by kernel_rfl) (by kernel_rfl) (fun _ _ _ h => h) hHeld (by rfl) ?_ ?_
                rotate_left
                · (intro W hW; go_simp; try with_reducible rfl)
                try simp only [Act.put, List.setIfInBounds_toArray, List.set_cons_zero, List.set_cons_succ]
                refine held_take 5 (v := .pointer (some ⟨gb, j * 64, none⟩)) rfl (by kernel_rfl) (by kernel_rfl) (by kernel_rfl) (fun _ _ _ h => h) hHeld (by rfl) (fun W hW => exec_idx4 _ _ rfl j rfl rfl rfl HJL.out) ?_
                try simp only [Act.put, List.setIfInBounds_toArray, List.set_cons_zero, List.set_cons_succ]
                refine held_take 6 (v := .agg cg.toArray) rfl (by kernel_rfl) (by kernel_rfl) (by kernel_rfl) (fun _ _ _ h => h) hHeld (by rfl) (fun W hW => exec_loadM isS _ rfl _ _ cg rfl (hW.range (by simp) HRB.out) HCG.out) ?_
                try simp only [Act.put, List.setIfInBounds_toArray, List.set_cons_zero, List.set_cons_succ]
                refine held_take 7 (v := ?_) rfl (by kernel_rfl) (by kernel_rfl) (by kernel_rfl) (fun _ _ _ h => h) hHeld (by rfl) ?_ ?_
                rotate_left
                · (intro W hW; have e := HNE.out W; go_simp; try with_reducible rfl)
                try simp only [Act.put, List.setIfInBounds_toArray, List.set_cons_zero, List.set_cons_succ]
                refine held_take 8 (v := ?_) rfl (by kernel_rfl) (by kernel_rfl) (by kernel_rfl) (fun _ _ _ h => h) hHeld (by rfl) ?_ ?_
                rotate_left
                · (intro W hW; go_simp; try with_reducible rfl)
                try simp only [Act.put, List.setIfInBounds_toArray, List.set_cons_zero, List.set_cons_succ]
                refine wpAnyH_done (by kernel_rfl) ?_ _
                go_simp
                go_wp2_with fail
                go_roundw
                case rel => exact ⟨j + 1, by go_num, by have := HJL.out; omega, HS8.out⟩
                case measure => simp; have := HJL.out; omega
              · obtain rfl : j = 4 := by omega
                go_wp2
                go_ret
                exact ⟨rfl, HS7.out.bl⟩
end Go.Proofs.Ytcboknigjpdmpaa
