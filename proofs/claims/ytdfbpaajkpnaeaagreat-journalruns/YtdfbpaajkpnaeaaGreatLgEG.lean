
/- falseworkref10: Same. Texts of one's own. Package log: a log in a world above another one. falseworklaw10.logAlive. -/
import Derived.Test.YtdfbpaajkpnaeaaGreatLgK
import Derived.Test.YtdfbpaajkpnaeaaGreatRat
import Derived.BigQuiet
import Derived.Test.YtdfbpaajkpnaeaaGreatSmLS
import Derived.Test.YtdfbpaajkpnaeaaGreatCvC

namespace Go.Proofs.YtdfbpaajkpnaeaaGreat
set_option maxRecDepth 100000
open Go.RowKit Go.Lib

theorem elT : El 55 9 1 16 := ⟨Tryz.underlying55, inf_of (z := Value.string ⟨#[]⟩) (by kernel_rfl) rfl, by decide⟩
def sv (l : List UInt8) : Value := .string (strB l)
/-- texts of one's own -/
def Own (w : World) (base : Nat) (v : Value) (K : List (List UInt8)) : Prop := w.ownsRow base 9 1 v K.length (K.map sv)
theorem own_rat {w : World} {base : Nat} {v : Value} {K : List (List UInt8)} (h : Own w base v K) : ∃ a c, v = .slice a K.length c ∧ RAt sv w a K := by
  obtain ⟨a, c, hv, hl, _, _⟩ := ow_lie h
  refine ⟨a, c, hv, ?_⟩
  rcases hl with hl | ⟨b, off, ha, hlt, hr⟩
  · exact Or.inl (List.map_eq_nil_iff.1 hl)
  · exact Or.inr ⟨b, off, ha, hlt, fun k x hx => hr k _ (by rw [List.getElem?_map, hx]; rfl)⟩
theorem Own.same {w w' : World} {base : Nat} {v : Value} {K : List (List UInt8)} (h : Own w base v K) (hb : ∀ i, v.ownBlock = some i → w'.heap[i]? = w.heap[i]?) : Own w' base v K := ow_same h hb
theorem Own.below {w w' : World} {base : Nat} {v : Value} {K : List (List UInt8)} (h : Own w base v K) (hb : RowKit.Below w.heap.size w w') : Own w' base v K := h.same fun i hi => hb.block i (World.ownsRow.lt h i hi).2
theorem rat_one (w : World) (l : List UInt8) : RAt sv (w.alloc (.cells #[sv l] 9)) (some ⟨w.heap.size, 0, none⟩) [l] := by
  have h := lie_new w [sv l] 9
  rcases h with h | ⟨b, off, ha, hlt, hr⟩
  · cases h
  · exact Or.inr ⟨b, off, ha, hlt, fun k x hx => hr k _ (by cases k with
      | zero => simp at hx; subst hx; rfl
      | succ k => simp at hx)⟩
/-- slices of bytes in a row -/
def BsAt (w : World) (a : Option Addr) (L : List (List UInt8)) : Prop := ∃ vs : List Value, vs.length = L.length ∧ Lie w a vs ∧ ∀ (i : Nat) (l : List UInt8), L[i]? = some l → ∃ (a' : Option Addr) (c : Nat), vs[i]? = some (Value.slice a' l.length c) ∧ BAt w a' l
theorem BsAt.below {w w' : World} {a : Option Addr} {L : List (List UInt8)} (h : BsAt w a L) (hb : RowKit.Below w.heap.size w w') : BsAt w' a L := by
  obtain ⟨vs, h1, h2, h3⟩ := h
  exact ⟨vs, h1, h2.below hb, fun i l hl => by obtain ⟨a', c, k1, k2⟩ := h3 i l hl; exact ⟨a', c, k1, k2.below hb⟩⟩
theorem Recs.bs {w : World} {base : Nat} {v : Value} {L : List (List UInt8)} (h : Recs w base v L) : ∃ a c, v = .slice a L.length c ∧ BsAt w a L := by
  obtain ⟨vs, ho, hr⟩ := h
  obtain ⟨a, c, hv, hl, _, _⟩ := ow_lie ho
  exact ⟨a, c, hv, vs, by rw [ho.1, Nat.mul_one], hl, fun i l hi => by obtain ⟨a', c', k1, k2, _⟩ := hr i l hi; exact ⟨a', c', k1, k2⟩⟩
set_option maxRecDepth 100000 in
set_option maxHeartbeats 1600000 in
theorem same10_any (L K : List (List UInt8)) (a b : Option Addr) (ca cb : Nat) (w : World) (ha : BsAt w a L) (hb : RAt sv w b K) (hL : L.length ≤ 1000000) :
    Calls Tryz.prog 19 #[.slice a L.length ca, .slice b K.length cb] w fun e w' => e = .returned (.bool (decide (L = K))) ∧ RowKit.Below w.heap.size w w' := by
  obtain ⟨M, hM⟩ : ∃ M, M = L.length := ⟨_, rfl⟩
  obtain ⟨N, hN⟩ : ∃ N, N = K.length := ⟨_, rfl⟩
  have HA := Lib.hid ha
  have HB := Lib.hid hb
  have HM := Lib.hid hM
  have HN := Lib.hid hN
  rw [← hM, ← hN]
  rw [← hM] at hL
  clear ha hb hM hN
  by_cases hMN : M = N
  · subst hMN
    go_enter Tryz.func19, Tryz.ntmps19
    go_wp2
    go_loopw [13] (fun c13 wr => ∃ k : Nat, c13 = .int .i64 (k : Int) ∧ k ≤ M ∧ L.take k = K.take k ∧ RowKit.Below w.heap.size w wr) (fun c13 _ => M - (match c13 with | .int _ q => q | _ => 0).toNat)
    case atStart => exact ⟨0, rfl, Nat.zero_le _, by simp, RowKit.Below.refl _ _⟩
    case round =>
      obtain ⟨k, rfl, hk, htk, hbl⟩ := hrel
      have HT := Lib.hid htk
      have HBL := Lib.hid hbl
      clear htk hbl
      by_cases hlt : k < M
      · obtain ⟨x, hx, hx2, _⟩ := get_lt (l := L) (k := k) (by rw [← HM.out]; exact hlt)
        obtain ⟨y, hy, hy2, _⟩ := get_lt (l := K) (k := k) (by rw [← HN.out]; exact hlt)
        obtain ⟨vs, hv1, hv2, hv3⟩ := HA.out.below HBL.out
        obtain ⟨a', c', hv4, hv5⟩ := hv3 k x hx
        obtain ⟨bo, off, ha1, _, hra⟩ := show ∃ bo off, a = some ⟨bo, off, none⟩ ∧ bo < wr.heap.size ∧ wr.rangeAt bo off vs by
          rcases hv2 with h | h
          · subst h; simp at hv4
          · exact h
        have hca : wr.cell? ⟨bo, off + k, none⟩ = some (.slice a' x.length c') := hra k _ hv4
        obtain ⟨bo2, off2, hb1, hcb⟩ := (HB.out.below HBL.out).at_ hy
        have hcv := run_conv (w := wr) hv5 x.length c' rfl
        have HTX := Lib.hid hx2
        have HTY := Lib.hid hy2
        subst ha1 hb1
        unfold sv at hcb
        have HCV := Lib.hid (fun (W : World) (h : RowKit.Below wr.heap.size wr W) => run_conv (w := W) (hv5.below h) x.length c' rfl)
        have HCA := Lib.hid hca
        have HCB := Lib.hid hcb
        clear hca hcb hcv hv1 hv2 hv3 hv4 hv5 hra hx hx2 hy hy2
        have hkM : (k : Int) < (M : Int) := by omega
        by_cases hxy : x = y
        · subst hxy
          have HNX := Lib.hid (show L.take (k + 1) = K.take (k + 1) by rw [HTX.out, HTY.out, HT.out])
          go_wp2
          refine wp_region_held_drew (S := fun W => RowKit.Below wr.heap.size wr W) (by kernel_rfl) ?_ (fun hHeld => ?_)
          · exact (RowKit.Below.refl _ _).drew
          refine held_take 0 (v := ?_) rfl (by kernel_rfl) (by kernel_rfl) (by kernel_rfl) (fun _ _ _ h => h) hHeld (by rfl) ?_ ?_
          rotate_left
          · (intro W hW; go_simp; try with_reducible rfl)
          try simp only [Act.put, List.setIfInBounds_toArray, List.set_cons_zero, List.set_cons_succ]
          refine held_take 1 (v := ?_) rfl (by kernel_rfl) (by kernel_rfl) (by kernel_rfl) (fun _ _ _ h => h) hHeld (by rfl) ?_ ?_
          rotate_left
          · (intro W hW; go_simp; try with_reducible rfl)
          try simp only [Act.put, List.setIfInBounds_toArray, List.set_cons_zero, List.set_cons_succ]
          refine held_take 2 (v := ?_) rfl (by kernel_rfl) (by kernel_rfl) (by kernel_rfl) (fun _ _ _ h => h) hHeld (by rfl) ?_ ?_
          rotate_left
          · (intro W hW; go_simp; try with_reducible rfl)
          try simp only [Act.put, List.setIfInBounds_toArray, List.set_cons_zero, List.set_cons_succ]
          refine held_take 3 (v := ?_) rfl (by kernel_rfl) (by kernel_rfl) (by kernel_rfl) (fun _ _ _ h => h) hHeld (by rfl) ?_ ?_
          rotate_left
          · (intro W hW; have e0 := cell_bl HCA.out hW; go_simp; try with_reducible rfl)
          try simp only [Act.put, List.setIfInBounds_toArray, List.set_cons_zero, List.set_cons_succ]
          refine held_take 4 (v := ?_) rfl (by kernel_rfl) (by kernel_rfl) (by kernel_rfl) (fun _ _ _ h => h) hHeld (by rfl) ?_ ?_
          rotate_left
          · (intro W hW; have e0 := HCV.out W hW; go_simp; try with_reducible rfl)
          try simp only [Act.put, List.setIfInBounds_toArray, List.set_cons_zero, List.set_cons_succ]
          refine held_take 5 (v := ?_) rfl (by kernel_rfl) (by kernel_rfl) (by kernel_rfl) (fun _ _ _ h => h) hHeld (by rfl) ?_ ?_
          rotate_left
          · (intro W hW; go_simp; try with_reducible rfl)
          try simp only [Act.put, List.setIfInBounds_toArray, List.set_cons_zero, List.set_cons_succ]
          refine held_take 6 (v := ?_) rfl (by kernel_rfl) (by kernel_rfl) (by kernel_rfl) (fun _ _ _ h => h) hHeld (by rfl) ?_ ?_
          rotate_left
          · (intro W hW; go_simp; try with_reducible rfl)
          try simp only [Act.put, List.setIfInBounds_toArray, List.set_cons_zero, List.set_cons_succ]
          refine held_take 7 (v := ?_) rfl (by kernel_rfl) (by kernel_rfl) (by kernel_rfl) (fun _ _ _ h => h) hHeld (by rfl) ?_ ?_
          rotate_left
          · (intro W hW; go_simp; try with_reducible rfl)
          try simp only [Act.put, List.setIfInBounds_toArray, List.set_cons_zero, List.set_cons_succ]
          refine held_take 8 (v := ?_) rfl (by kernel_rfl) (by kernel_rfl) (by kernel_rfl) (fun _ _ _ h => h) hHeld (by rfl) ?_ ?_
          rotate_left
          · (intro W hW; have e0 := cell_bl HCB.out hW; go_simp; try with_reducible rfl)
          try simp only [Act.put, List.setIfInBounds_toArray, List.set_cons_zero, List.set_cons_succ]
          refine held_take 9 (v := ?_) rfl (by kernel_rfl) (by kernel_rfl) (by kernel_rfl) (fun _ _ _ h => h) hHeld (by rfl) ?_ ?_
          rotate_left
          · (intro W hW; go_simp; try with_reducible rfl)
          try simp only [Act.put, List.setIfInBounds_toArray, List.set_cons_zero, List.set_cons_succ]
          refine wpAnyH_done (by kernel_rfl) ?_ _
          go_simp
          go_wp2
          go_roundw
          case rel => exact ⟨k + 1, by go_num, by omega, HNX.out, HBL.out.drew⟩
          case measure => simp; omega
        · have hne := str_ne hxy
          have HR := Lib.hid (show decide (L = K) = false from decide_eq_false fun e => by
            have h1 := HTX.out
            rw [e, HTY.out] at h1
            exact hxy (List.cons.inj (List.append_cancel_left h1)).1.symm)
          clear hxy
          go_wp2
          refine wp_region_held_drew (S := fun W => RowKit.Below wr.heap.size wr W) (by kernel_rfl) ?_ (fun hHeld => ?_)
          · exact (RowKit.Below.refl _ _).drew
          refine held_take 0 (v := ?_) rfl (by kernel_rfl) (by kernel_rfl) (by kernel_rfl) (fun _ _ _ h => h) hHeld (by rfl) ?_ ?_
          rotate_left
          · (intro W hW; go_simp; try with_reducible rfl)
          try simp only [Act.put, List.setIfInBounds_toArray, List.set_cons_zero, List.set_cons_succ]
          refine held_take 1 (v := ?_) rfl (by kernel_rfl) (by kernel_rfl) (by kernel_rfl) (fun _ _ _ h => h) hHeld (by rfl) ?_ ?_
          rotate_left
          · (intro W hW; go_simp; try with_reducible rfl)
          try simp only [Act.put, List.setIfInBounds_toArray, List.set_cons_zero, List.set_cons_succ]
          refine held_take 2 (v := ?_) rfl (by kernel_rfl) (by kernel_rfl) (by kernel_rfl) (fun _ _ _ h => h) hHeld (by rfl) ?_ ?_
          rotate_left
          · (intro W hW; go_simp; try with_reducible rfl)
          try simp only [Act.put, List.setIfInBounds_toArray, List.set_cons_zero, List.set_cons_succ]
          refine held_take 3 (v := ?_) rfl (by kernel_rfl) (by kernel_rfl) (by kernel_rfl) (fun _ _ _ h => h) hHeld (by rfl) ?_ ?_
          rotate_left
          · (intro W hW; have e0 := cell_bl HCA.out hW; go_simp; try with_reducible rfl)
          try simp only [Act.put, List.setIfInBounds_toArray, List.set_cons_zero, List.set_cons_succ]
          refine held_take 4 (v := ?_) rfl (by kernel_rfl) (by kernel_rfl) (by kernel_rfl) (fun _ _ _ h => h) hHeld (by rfl) ?_ ?_
          rotate_left
          · (intro W hW; have e0 := HCV.out W hW; go_simp; try with_reducible rfl)
          try simp only [Act.put, List.setIfInBounds_toArray, List.set_cons_zero, List.set_cons_succ]
          refine held_take 5 (v := ?_) rfl (by kernel_rfl) (by kernel_rfl) (by kernel_rfl) (fun _ _ _ h => h) hHeld (by rfl) ?_ ?_
          rotate_left
          · (intro W hW; go_simp; try with_reducible rfl)
          try simp only [Act.put, List.setIfInBounds_toArray, List.set_cons_zero, List.set_cons_succ]
          refine held_take 6 (v := ?_) rfl (by kernel_rfl) (by kernel_rfl) (by kernel_rfl) (fun _ _ _ h => h) hHeld (by rfl) ?_ ?_
          rotate_left
          · (intro W hW; go_simp; try with_reducible rfl)
          try simp only [Act.put, List.setIfInBounds_toArray, List.set_cons_zero, List.set_cons_succ]
          refine held_take 7 (v := ?_) rfl (by kernel_rfl) (by kernel_rfl) (by kernel_rfl) (fun _ _ _ h => h) hHeld (by rfl) ?_ ?_
          rotate_left
          · (intro W hW; go_simp; try with_reducible rfl)
          try simp only [Act.put, List.setIfInBounds_toArray, List.set_cons_zero, List.set_cons_succ]
          refine held_take 8 (v := ?_) rfl (by kernel_rfl) (by kernel_rfl) (by kernel_rfl) (fun _ _ _ h => h) hHeld (by rfl) ?_ ?_
          rotate_left
          · (intro W hW; have e0 := cell_bl HCB.out hW; go_simp; try with_reducible rfl)
          try simp only [Act.put, List.setIfInBounds_toArray, List.set_cons_zero, List.set_cons_succ]
          refine held_take 9 (v := ?_) rfl (by kernel_rfl) (by kernel_rfl) (by kernel_rfl) (fun _ _ _ h => h) hHeld (by rfl) ?_ ?_
          rotate_left
          · (intro W hW; have e0 := hne; go_simp; try with_reducible rfl)
          try simp only [Act.put, List.setIfInBounds_toArray, List.set_cons_zero, List.set_cons_succ]
          refine wpAnyH_done (by kernel_rfl) ?_ _
          go_simp
          go_wp2
          try rw [Exit.noGoto_ret]
          go_ret
          exact ⟨by rw [HR.out]; rfl, HBL.out.drew⟩
      · obtain rfl : k = M := by omega
        have HR := Lib.hid (show decide (L = K) = true from decide_eq_true (by
          have := HT.out
          rwa [List.take_of_length_le (by rw [← HM.out]; exact Nat.le_refl _), List.take_of_length_le (by rw [← HN.out]; exact Nat.le_refl _)] at this))
        clear hk hlt
        go_wp2
        go_ret
        exact ⟨by rw [HR.out]; rfl, HBL.out⟩
  · have d0 : ((M : Int) == (N : Int)) = false := by simp; omega
    have d1 : (M == N) = false := by simpa using hMN
    have HR := Lib.hid (show decide (L = K) = false from decide_eq_false fun e => hMN (by rw [HM.out, HN.out, e]))
    clear hMN
    go_enter Tryz.func19, Tryz.ntmps19
    go_wp2
    go_ret
    exact ⟨by rw [HR.out]; rfl, RowKit.Below.refl _ _⟩
end Go.Proofs.YtdfbpaajkpnaeaaGreat

namespace Go.Proofs.YtdfbpaajkpnaeaaGreat
set_option maxRecDepth 100000
open Go.RowKit Go.Lib

theorem topN_low {d : Dk} {x : Int} {m : Nat} : ∀ k : Nat, (∀ i : Nat, i < k → stN (d.at_ (x + (i : Int))) ≤ m) → topN d x k ≤ m
  | 0, _ => Nat.zero_le _
  | k + 1, h => by
    have h1 := topN_low k fun i hi => h i (by omega)
    have h2 := h k (by omega)
    show max _ _ ≤ m
    omega
theorem Kp.next {d : Dk} {x0 z : Int} {fl : Nat} (h : Kp d x0 z x0 fl []) (hn : fl + 1 < 18446744073709551616) : nextN d x0 z fl = fl + 1 := by
  have := topN_low (d := d) (x := x0) (m := fl) (z - x0).toNat fun i hi => h.lo _ (by omega) (by omega)
  unfold nextN
  rw [Nat.max_eq_left this, Nat.mod_eq_of_lt hn]
theorem zsec_stN : stN zsec = 0 := by decide
theorem Kp.blank {n x0 : Int} {fl : Nat} (hn : 0 ≤ n ∧ n ≤ 2048) (hx : 0 ≤ x0 ∧ x0 ≤ n) : Kp (Dk.blank n) x0 n x0 fl [] :=
  Kp.start (Dk.Ok.blank n) (by rw [blank_len]; unfold blankN; omega) rfl rfl hx fun y _ _ => by rw [blank_at, zsec_stN]; exact Nat.zero_le _
/-- a log and its disk, above w0 -/
structure LW (w0 w : World) (F : Nat → Prop) (g b : Nat) (d : Dk) (x z : Int) (n : Nat) : Prop where
  dw : DW w0 w F g d
  lg : LgAt w b g x z n
  nf : ¬ F b
  lb : w0.heap.size ≤ b
theorem LW.below {w0 w w' : World} {F : Nat → Prop} {g b : Nat} {d : Dk} {x z : Int} {n : Nat} (h : LW w0 w F g b d x z n) (hb : RowKit.Below w.heap.size w w') : LW w0 w' F g b d x z n :=
  ⟨h.dw.below hb, h.lg.same (hb.block _ h.lg.lt), h.nf, h.lb⟩
theorem LW.moved {w0 w w' : World} {F F' : Nat → Prop} {g b : Nat} {d d' : Dk} {x y z : Int} {n m : Nat} (h : LW w0 w F g b d x z n) (hm : Moved F g b d' y z m w w' F') : LW w0 w' F' g b d' y z m :=
  ⟨⟨hm.dt, fun i hi => (hm.fr i hi).elim (h.dw.fr i) fun e => Nat.le_trans h.dw.bl.size e, hm.on.below h.dw.bl (fun i e => e.elim (h.dw.fr i) fun e => e ▸ h.lb) h.dw.bl.size⟩, hm.lg, hm.nb, h.lb⟩
/-- the disk alone has turned -/
theorem LW.did {w0 w w' : World} {F : Nat → Prop} {g b : Nat} {d d' : Dk} {x z : Int} {n : Nat} (h : LW w0 w F g b d x z n) (hd : Did g F d' w w') : ∃ F', LW w0 w' F' g b d' x z n ∧ Only F w w' ∧ ∀ i, F' i → F i ∨ w.heap.size ≤ i := by
  obtain ⟨F', k1, k2, k3⟩ := hd
  exact ⟨F', ⟨⟨k1, fun i hi => (k3 i hi).elim (h.dw.fr i) fun e => Nat.le_trans h.dw.bl.size e, k2.below h.dw.bl h.dw.fr h.dw.bl.size⟩, h.lg.same (k2.block _ h.lg.lt h.nf), fun e => (k3 b e).elim h.nf fun e => by have := h.lg.lt; omega, h.lb⟩, k2, k3⟩
def Opened (w0 : World) (F : Nat → Prop) (g : Nat) (d : Dk) (y z : Int) (n : Nat) (L : List (List UInt8)) (w : World) (e : Ending) (w' : World) : Prop :=
  ∃ b a c, e = .returned (.tuple #[.pointer (some ⟨b, 0, none⟩), .slice a L.length c, .int .i64 0]) ∧ Recs w' w.heap.size (.slice a L.length c) L ∧ LW w0 w' F g b d y z n ∧ RowKit.Below w.heap.size w w'
theorem kp_open {w0 w : World} {F : Nat → Prop} {g : Nat} {d : Dk} {x0 z : Int} {fl : Nat} (h : DW w0 w F g d) (kp : Kp d x0 z x0 fl []) (hn : fl + 1 < 18446744073709551616) :
    Calls Tryz.prog 45 #[.pointer (some ⟨g, 0, none⟩), .int .i64 x0, .int .i64 z, .int .u64 (fl : Int)] w (Opened w0 F g d x0 z (fl + 1) [] w) := by
  refine (lopen_yes g F d x0 z fl w h.dt ⟨kp.xs.1, kp.xs.2, kp.bl⟩ (by omega)).mono ?_
  rintro e w' ⟨b, v, L, y, rfl, hb, hrun, hrec, hlg, _, _, hbl⟩
  obtain ⟨rfl, rfl⟩ := kp.run (by simp; omega) hrun
  rw [kp.next hn] at hlg
  obtain ⟨a, c, rfl⟩ := hrec.form
  exact ⟨b, a, c, rfl, hrec, ⟨h.below hbl, hlg, fun e => by have := h.dt.fl _ e; omega, Nat.le_trans h.bl.size hb⟩, hbl⟩
def Again (L : List (List UInt8)) (w : World) (e : Ending) (w' : World) : Prop :=
  ∃ b a c, e = .returned (.tuple #[.pointer (some ⟨b, 0, none⟩), .slice a L.length c, .int .i64 0]) ∧ Recs w' w.heap.size (.slice a L.length c) L ∧ RowKit.Below w.heap.size w w'
theorem kp_again {w : World} {F : Nat → Prop} {g : Nat} {d : Dk} {x0 x z : Int} {fl : Nat} {done : List (List UInt8)} (h : DAt w F g d) (kp : Kp d x0 z x fl done) (hn : fl + 1 + done.length < 18446744073709551616) :
    Calls Tryz.prog 45 #[.pointer (some ⟨g, 0, none⟩), .int .i64 x0, .int .i64 z, .int .u64 (fl : Int)] w (Again done w) := by
  refine (lopen_yes g F d x0 z fl w h ⟨kp.xs.1, Int.le_trans kp.le kp.xs.2, kp.bl⟩ (by omega)).mono ?_
  rintro e w' ⟨b, v, L, y, rfl, hb, hrun, hrec, hlg, _, _, hbl⟩
  obtain ⟨rfl, rfl⟩ := kp.run (by omega) hrun
  obtain ⟨a, c, rfl⟩ := hrec.form
  exact ⟨b, a, c, rfl, hrec, hbl⟩
theorem kp_above {w : World} {F : Nat → Prop} {g : Nat} {d : Dk} {x0 x z : Int} {fl m : Nat} {done : List (List UInt8)} (h : DAt w F g d) (kp : Kp d x0 z x fl done) (hn : fl + 1 + done.length < 18446744073709551616) (hm : fl + done.length ≤ m) (hm2 : m < 18446744073709551616) :
    Calls Tryz.prog 45 #[.pointer (some ⟨g, 0, none⟩), .int .i64 x0, .int .i64 z, .int .u64 (m : Int)] w (Again [] w) := by
  refine (lopen_yes g F d x0 z m w h ⟨kp.xs.1, Int.le_trans kp.le kp.xs.2, kp.bl⟩ (by omega)).mono ?_
  rintro e w' ⟨b, v, L, y, rfl, hb, hrun, hrec, hlg, _, _, hbl⟩
  obtain ⟨rfl, rfl⟩ := kp.run_above (by omega) hm hrun
  obtain ⟨a, c, rfl⟩ := hrec.form
  exact ⟨b, a, c, rfl, hrec, hbl⟩
def Append1 (w0 : World) (F : Nat → Prop) (g b : Nat) (d : Dk) (x0 x z : Int) (fl : Nat) (done : List (List UInt8)) (l : List UInt8) (w : World) (e : Ending) (w' : World) : Prop :=
  ∃ E F' d', e = .returned (.int .i64 E) ∧ Only (fun i => F i ∨ i = b) w w' ∧ (∀ i, F' i → F i ∨ w.heap.size ≤ i) ∧
    ((4096 < l.length ∧ E = 101 ∧ d' = d ∧ LW w0 w' F' g b d' x z (fl + 1 + done.length)) ∨
     (l.length ≤ 4096 ∧ z - x < (spanN (l.length + 4) : Int) ∧ E = 102 ∧ d' = d ∧ LW w0 w' F' g b d' x z (fl + 1 + done.length)) ∨
     (l.length ≤ 4096 ∧ (spanN (l.length + 4) : Int) ≤ z - x ∧ E = 0 ∧ Kp d' x0 z (x + (spanN (l.length + 4) : Int)) fl (done ++ [l]) ∧ (d.fuse < 0 → d'.fuse < 0) ∧ LW w0 w' F' g b d' (x + (spanN (l.length + 4) : Int)) z (fl + 1 + (done ++ [l]).length)) ∨
     (l.length ≤ 4096 ∧ (spanN (l.length + 4) : Int) ≤ z - x ∧ E = 82 ∧ Torn d d' x (fl + 1 + done.length) l ∧ LW w0 w' F' g b d' x z (fl + 1 + done.length)))
theorem kp_append {w0 w : World} {F : Nat → Prop} {g b : Nat} {d : Dk} {x0 x z : Int} {fl : Nat} {done : List (List UInt8)} {l : List UInt8} (h : LW w0 w F g b d x z (fl + 1 + done.length)) (kp : Kp d x0 z x fl done) (hz : z ≤ 2048) (hn : fl + 2 + done.length < 18446744073709551616)
    {a : Option Addr} {len cap : Nat} (hb : BAt w a l) (hln : l.length = len) (ha : a = none → l = []) :
    Calls Tryz.prog 30 #[.pointer (some ⟨b, 0, none⟩), .slice a len cap] w (Append1 w0 F g b d x0 x z fl done l w) := by
  have hle := kp.le
  have hxs := kp.xs
  refine (append_any b g F d x z (fl + 1 + done.length) l a len cap w h.lg h.dw.dt h.nf ⟨by omega, hxs.2, hz⟩ (by omega) hb hln ha (by rw [kp.q]; show 0 + 100 < 10000; omega)).mono ?_
  rintro e w' ⟨F', rfl, hm⟩
  have hl' := h.moved hm
  refine ⟨_, F', (d.app x z (fl + 1 + done.length) l).1, rfl, hm.on, hm.fr, ?_⟩
  rcases kp.app l with ⟨h1, h2⟩ | ⟨h1, h2, h3⟩ | ⟨h1, h2, ⟨h3, h4, h5⟩ | ⟨h3, h4⟩⟩
  · left
    rw [h2] at hl' ⊢
    exact ⟨h1, rfl, rfl, hl'⟩
  · right; left
    rw [h3] at hl' ⊢
    exact ⟨h1, h2, rfl, rfl, hl'⟩
  · right; right; left
    rw [if_pos h3, if_pos h3] at hl'
    exact ⟨h1, h2, h3, h4, h5, by rw [List.length_append]; exact hl'⟩
  · right; right; right
    rw [h3] at hl'
    rw [if_neg (by decide), if_neg (by decide)] at hl'
    exact ⟨h1, h2, h3, h4, hl'⟩
end Go.Proofs.YtdfbpaajkpnaeaaGreat

namespace Go.Proofs.YtdfbpaajkpnaeaaGreat
set_option maxRecDepth 100000
open Go.RowKit Go.Lib

theorem Append1.fits {w0 : World} {F : Nat → Prop} {g b : Nat} {d : Dk} {x0 x z : Int} {fl : Nat} {done : List (List UInt8)} {l : List UInt8} {w : World} {e : Ending} {w' : World} (h : Append1 w0 F g b d x0 x z fl done l w e w') (hl : l.length ≤ 4096) (hs : (spanN (l.length + 4) : Int) ≤ z - x) (hf : d.fuse < 0) :
    ∃ F' d', e = .returned (.int .i64 0) ∧ Only (fun i => F i ∨ i = b) w w' ∧ (∀ i, F' i → F i ∨ w.heap.size ≤ i) ∧ Kp d' x0 z (x + (spanN (l.length + 4) : Int)) fl (done ++ [l]) ∧ d'.fuse < 0 ∧ LW w0 w' F' g b d' (x + (spanN (l.length + 4) : Int)) z (fl + 1 + (done ++ [l]).length) := by
  obtain ⟨E, F', d', rfl, h1, h2, ⟨h3, _⟩ | ⟨_, h3, _⟩ | ⟨_, _, h3, h4, h5, h6⟩ | ⟨_, _, _, h3, _⟩⟩ := h
  · omega
  · omega
  · exact ⟨F', d', by rw [h3], h1, h2, h4, h5 hf, h6⟩
  · have := h3.fu; omega
theorem Append1.full {w0 : World} {F : Nat → Prop} {g b : Nat} {d : Dk} {x0 x z : Int} {fl : Nat} {done : List (List UInt8)} {l : List UInt8} {w : World} {e : Ending} {w' : World} (h : Append1 w0 F g b d x0 x z fl done l w e w') (hl : l.length ≤ 4096) (hs : z - x < (spanN (l.length + 4) : Int)) :
    ∃ F', e = .returned (.int .i64 102) ∧ LW w0 w' F' g b d x z (fl + 1 + done.length) := by
  obtain ⟨E, F', d', rfl, h1, h2, ⟨h3, _⟩ | ⟨_, h3, h4, h5, h6⟩ | ⟨_, h3, _⟩ | ⟨_, h3, _⟩⟩ := h
  · omega
  · rw [h5] at h6
    exact ⟨F', by rw [h4], h6⟩
  · omega
  · omega
theorem Append1.long {w0 : World} {F : Nat → Prop} {g b : Nat} {d : Dk} {x0 x z : Int} {fl : Nat} {done : List (List UInt8)} {l : List UInt8} {w : World} {e : Ending} {w' : World} (h : Append1 w0 F g b d x0 x z fl done l w e w') (hl : 4096 < l.length) :
    ∃ F', e = .returned (.int .i64 101) ∧ LW w0 w' F' g b d x z (fl + 1 + done.length) := by
  obtain ⟨E, F', d', rfl, h1, h2, ⟨h3, h4, h5, h6⟩ | ⟨h3, _⟩ | ⟨h3, _⟩ | ⟨h3, _⟩⟩ := h
  · rw [h5] at h6
    exact ⟨F', by rw [h4], h6⟩
  · omega
  · omega
  · omega
def abL : List UInt8 := [97, 98]
end Go.Proofs.YtdfbpaajkpnaeaaGreat
