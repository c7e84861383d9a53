
/- Package disk: Flush, Power. -/
import Derived.Test.YtdfbpaajkpnaeaaGreatDkFK
namespace Go.Proofs.YtdfbpaajkpnaeaaGreat
set_option maxRecDepth 100000
open Go.RowKit Go.Lib

theorem enters30 (args : Array Value) (w : World) : (callFunc 81 args).run Tryz.prog w = .ok (.enter 81 args) w := by
  simp [callFunc, Tryz.func81, mark, go_sem]
  rfl
theorem enters31 (args : Array Value) (w : World) : (callFunc 37 args).run Tryz.prog w = .ok (.enter 37 args) w := by
  simp [callFunc, Tryz.func37, mark, go_sem]
  rfl
theorem flush1 (v : Value) (w : World) : Calls Tryz.prog 81 #[v] w fun e w' => e = .returned (.int .i64 64) ∧ w = w' := by
  go_enter Tryz.func81, Tryz.ntmps81
  go_wp2
  go_ret
  exact ⟨rfl, rfl⟩
/-- numbers lie at a -/
def Nums (w : World) (a : Option Addr) (l : List Int) : Prop := Lie w a (l.map (Value.int .i64))
theorem Nums.at_ {w : World} {a : Option Addr} {l : List Int} (h : Nums w a l) {k : Nat} (hk : k < l.length) : ∃ b off, a = some ⟨b, off, none⟩ ∧ w.cell? ⟨b, off + k, none⟩ = some (.int .i64 (l.getD k 0)) := by
  rcases h with h | ⟨b, off, ha, hb, hr⟩
  · rw [List.map_eq_nil_iff.1 h] at hk; cases hk
  · exact ⟨b, off, ha, hr k _ (by simp [List.getD, hk])⟩
theorem power1 (bk : Nat) (a : Option Addr) (l : List Int) (n c k : Nat) (w : World) (hl : Nums w a l) (hn : l.length = n) (hc : w.cell? ⟨bk, 0, none⟩ = some (.slice a n c)) :
    Calls Tryz.prog 37 #[.int .i64 (k : Int), .pointer (some ⟨bk, 0, none⟩)] w fun e w' => e = .returned (.int .i64 (keepF l k : Int)) ∧ w = w' := by
  by_cases hk : k < n
  · obtain ⟨b, off, ha, hv⟩ := hl.at_ (k := k) (by omega)
    obtain ⟨v, hvv⟩ : ∃ v, v = l.getD k 0 := ⟨_, rfl⟩
    rw [← hvv] at hv
    have HK := Lib.hid (show (keepF l k : Int) = min (max v 0) 64 by unfold keepF; rw [← hvv]; omega)
    subst ha
    clear hl hn hvv
    have hcs : v < 0 ∨ v = 0 ∨ (0 < v ∧ v < 64) ∨ v = 64 ∨ 64 < v := by omega
    rcases hcs with h | h | ⟨h, h2⟩ | h | h
    all_goals
      try subst h
      go_enter Tryz.func37, Tryz.ntmps37
      go_wp2
      go_ret
      refine ⟨?_, rfl⟩
      rw [HK.out]
      first | rfl | exact ret_int (by omega)
  · have HK := Lib.hid (show (keepF l k : Int) = 0 by rw [keepF_out (by omega)]; rfl)
    clear hl hn
    go_enter Tryz.func37, Tryz.ntmps37
    go_wp2
    go_ret
    rw [HK.out]
    exact ⟨rfl, rfl⟩
theorem Nums.only {F : Nat → Prop} {w w' : World} {a : Option Addr} {l : List Int} (h : Nums w a l) (hF : l = [] ∨ ∀ b, inBlk a b → ¬ F b) (ho : Only F w w') : Nums w' a l := by
  rcases hF with e | hF
  · exact Or.inl (by rw [e]; rfl)
  · rcases h with h | ⟨b, off, ha, hb, hr⟩
    · exact Or.inl h
    · exact Or.inr ⟨b, off, ha, Nat.lt_of_lt_of_le hb ho.size, range_of hr (ho.block b hb (hF b ⟨_, ha, rfl⟩))⟩
theorem Nums.below {w w' : World} {a : Option Addr} {l : List Int} (h : Nums w a l) (hb : RowKit.Below w.heap.size w w') : Nums w' a l := Lie.below h hb
def FlushRes (g : Nat) (F : Nat → Prop) (d : Dk) (w : World) (e : Ending) (w' : World) : Prop := e = .returned (.int .i64 d.actE) ∧ Did g F d.flush w w'
theorem flush_any (g : Nat) (F : Nat → Prop) (d : Dk) (w : World) (h : DAt w F g d) : Calls Tryz.prog 52 #[.pointer (some ⟨g, 0, none⟩)] w (FlushRes g F d w) := by
  obtain ⟨a0, c0, a1, c1, m, cnt, f, k⟩ := h
  have HACT := Lib.hid (act_any g F d a0 c0 a1 c1 m cnt f _ k)
  have HK := Lib.hid k
  clear k
  go_enter Tryz.func52, Tryz.ntmps52
  go_wp2_with fail
  refine HACT.out.mono ?_
  rintro _ w1 ⟨rfl, fu, dd, hsp, k1, hg1, hs1⟩
  have HSP := Lib.hid hsp
  have HK1 := Lib.hid k1
  have HO1 := Lib.hid (show Only F w w1 from Only.of_grown hg1 fun i e => by cases e; exact k1.fg)
  clear hsp k1 hg1 hs1 HACT
  cases hl : d.live with
  | false =>
    have HLV := Lib.hid hl
    rw [show d.actE = 82 by unfold Dk.actE; rw [hl]; rfl]
    clear hl
    go_wp2
    go_ret
    unfold FlushRes Dk.actE Dk.flush
    rw [HLV.out, HSP.out]
    exact ⟨rfl, F, ⟨_, _, _, _, _, _, _, HK1.out⟩, HO1.out, fun i hi => Or.inl hi⟩
  | true =>
    have HLV := Lib.hid hl
    rw [show d.actE = 0 by unfold Dk.actE; rw [hl]; rfl]
    clear hl
    have HSE := Lib.hid (settle_any g F { d with fuse := fu, dead := dd } w1 ⟨_, _, _, _, _, _, _, HK1.out⟩ 81 #[] (fun _ => 64) enters30 (fun _ => Nat.le_refl _) (fun W k _ _ => flush1 _ W))
    go_wp2_with fail
    refine HSE.out.mono ?_
    rintro _ w2 ⟨rfl, hd⟩
    have HD := Lib.hid hd
    clear hd HSE
    go_wp2
    go_ret
    unfold FlushRes Dk.actE Dk.flush
    rw [HLV.out, HSP.out]
    obtain ⟨F', h1, h2, h3⟩ := HD.out
    exact ⟨rfl, F', h1, HO1.out.trans h2 (fun i hi => Or.inl hi), fun i hi => (h3 i hi).imp id fun e => Nat.le_trans HO1.out.size e⟩
def PowerRes (g : Nat) (F : Nat → Prop) (d : Dk) (l : List Int) (w : World) (e : Ending) (w' : World) : Prop := e = .returned (.tuple #[]) ∧ Did g F (d.power l) w w'
theorem power_any (g : Nat) (F : Nat → Prop) (d : Dk) (a : Option Addr) (l : List Int) (n c : Nat) (w : World) (h : DAt w F g d) (hl : Nums w a l) (hn : l.length = n) (hF : l = [] ∨ ∀ b, inBlk a b → ¬ F b) :
    Calls Tryz.prog 15 #[.pointer (some ⟨g, 0, none⟩), .slice a n c] w (PowerRes g F d l w) := by
  have hmf : ∀ (fn : Fn) (first cap : Array Value) (w : World), (Instr.makeFunc fn first cap).run Tryz.prog w = .ok (.func fn first cap) w := fun _ _ _ _ => rfl
  have hal : RowKit.Below w.heap.size w (w.alloc (.cells #[.slice a n c] 45)) := (RowKit.Below.refl _ _).alloc (Nat.le_refl _) _
  have HFL := Lib.hid h.fl
  have HSE := Lib.hid (settle_any g F d _ (h.below hal) 37 #[.pointer (some ⟨w.heap.size, 0, none⟩)] (keepF l) enters31 (keepF_le l) (fun W k ho _ => power1 w.heap.size a l n c k W ((hl.below hal).only hF ho) hn (by
    have hb := ho.at_ (heap_alloc_new w (.cells #[.slice a n c] 45)) (fun e => by have := h.fl _ e; omega)
    rw [cell_of_row _ _ _ _ _ _ hb]; rfl)))
  have HW := Lib.hid hal
  clear h hl hn hF hal
  go_enter Tryz.func15, Tryz.ntmps15
  go_wp2_with fail
  refine HSE.out.mono ?_
  rintro _ w2 ⟨rfl, F', ⟨a0, c0, a1, c1, m, cnt, f, k⟩, h2, h3⟩
  have HK := Lib.hid k
  have HO := Lib.hid h2
  have H3 := Lib.hid h3
  have q3 := k.cells.2.2.2.1
  have q4 := k.cells.2.2.2.2
  have f3 := frozen_of_row _ _ 3 _ _ k.blk
  have f4 := frozen_of_row _ _ 4 _ _ k.blk
  clear k h2 h3 HSE
  go_wp2
  go_end0
  have k := HK.out
  have e1 := heap_setCell_same w2 g 3 _ _ (.int .i64 (-1)) k.blk
  have e2 := heap_setCell_same _ g 4 _ _ (.bool false) e1
  have hb : ∀ i, i ≠ g → ((w2.setCell ⟨g, 3, none⟩ (.int .i64 (-1))).setCell ⟨g, 4, none⟩ (.bool false)).heap[i]? = w2.heap[i]? := fun i hi => (heap_setCell_other _ _ _ _ hi).trans (heap_setCell_other _ _ _ _ hi)
  refine ⟨rfl, F', ⟨_, _, _, _, _, _, _, k.head (fu := -1) (dd := false) (by unfold I; omega) e2 (by simp) (fun i _ hi => hb i hi)⟩, ?_, fun i hi => (H3.out i hi).imp id fun e => Nat.le_trans HW.out.size e⟩
  exact ((Only.of_below HW.out).trans HO.out (fun i hi => Or.inl hi)).trans (F' := fun i => i = g) ⟨rfl, rfl, rfl, by simp, fun i _ hi => hb i hi⟩ (fun i hi => by rw [hi]; exact (H3.out g k.fg).imp id fun e => Nat.le_trans HW.out.size e)
end Go.Proofs.YtdfbpaajkpnaeaaGreat
