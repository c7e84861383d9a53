/- Package pack: a number behind bytes. -/
import Derived.Test.YtdfbpaajkpnaeaaPkB
namespace Go.Proofs.Ytdfbpaajkpnaeaa
set_option maxRecDepth 100000
open Go.RowKit Go.Lib

theorem or128 {k : Int} (h0 : 0 ≤ k) : bits .or .u8 (k % 256) 128 = (((k.toNat % 128 + 128).toUInt8).toNat : Int) := by
  rw [u8_or128_any _ (by omega) (by omega)]
  have e : ((k.toNat % 128 + 128).toUInt8).toNat = k.toNat % 128 + 128 := by simp [Nat.toUInt8]; omega
  rw [e]
  omega
theorem low8 {k : Int} (h0 : 0 ≤ k) : k % 256 = ((k.toNat.toUInt8).toNat : Int) := by
  have e : (k.toNat.toUInt8).toNat = k.toNat % 256 := by simp [Nat.toUInt8]
  rw [e]; omega
theorem uv_len {k : Int} (hk : k < 18446744073709551616) : (uvarint k.toNat).length ≤ 10 := uvarint_length64 (by omega)

set_option maxHeartbeats 800000 in
theorem number_any (base : Nat) (v : Value) (l : List UInt8) (n : Int) (w : World) (ho : OB w base v l) (hb : base ≤ w.heap.size) (hl : l.length ≤ 900000000) (h0 : 0 ≤ n) (hn : n < 18446744073709551616) :
    Calls Try.prog 55 #[v, .int .u64 n] w fun e w' => ∃ v', e = .returned v' ∧ Apd w base v (l ++ uvarint n.toNat) v' w' := by
  have HO := Lib.hid ho
  have HL := Lib.hid hl
  have HN := Lib.hid (uv_len hn)
  clear ho hl
  go_enter Try.func55, Try.ntmps55
  go_wp2
  go_loopg [0, 1] n.toNat (fun g c0 c1 wr => ∃ (k : Int) (q : List UInt8), c1 = .int .u64 k ∧ 0 ≤ k ∧ k < 18446744073709551616 ∧ Hid (k.toNat = g) ∧ Hid (q ++ uvarint k.toNat = l ++ uvarint n.toNat) ∧ Hid (OB wr base c0 q) ∧ Hid (Upd w wr v c0) ∧ base ≤ wr.heap.size)
  case atStart => exact ⟨n, l, rfl, h0, hn, rfl, rfl, HO.out, Upd.refl _ _, hb⟩
  case round =>
    obtain ⟨k, q, rfl, hk0, hk, HG, HU, HO, HP, hz⟩ := hrel
    obtain ⟨a, cap, hv, hB, hc, _⟩ := HO.out.row
    subst hv
    have HQ := Lib.hid (show q.length ≤ 900000010 by have := congrArg List.length HU.out; simp only [List.length_append] at this; have := HN.out; have := HL.out; omega)
    clear hB hc
    by_cases h : 128 ≤ k
    · have e := or128 hk0
      have EU := Lib.hid (uvarint_big (x := k.toNat) (by omega))
      obtain ⟨y, hy⟩ : ∃ y : UInt8, y = (k.toNat % 128 + 128).toUInt8 := ⟨_, rfl⟩
      rw [← hy] at e
      have HY := Lib.hid hy
      clear hy
      go_wp2_with (at_builtin; refine wpList_appB rfl _ _ rfl base _ q [y] (some ⟨wr.heap.size, 0, none⟩) 1 1 (by rfl) (by rfl) rfl (HO.out.below ((RowKit.Below.refl _ _).alloc (Nat.le_refl _) _)) (one_byte wr y _ _ rfl) (fun h => by cases h) (by have := HQ.out; simp; omega) (by simp; omega) ?_; intro v3 w3 h3)
      have H3 := Lib.hid h3
      clear h3
      go_wp2
      go_roundg ((k / 128).toNat)
      case measure => have := HG.out; omega
      case rel =>
        refine ⟨k / 128, q ++ [y], rfl, by omega, by omega, rfl, ?_, H3.out.1, HP.out.trans (Upd.pre ((RowKit.Below.refl _ _).alloc (Nat.le_refl _) _) H3.out.2.1), H3.out.2.2.1⟩
        show q ++ [y] ++ uvarint (k / 128).toNat = _
        rw [← HU.out, EU.out, HY.out, List.append_assoc, show (k / 128).toNat = k.toNat / 128 by omega]
        rfl
    · have EU := Lib.hid (uvarint_small (x := k.toNat) (by omega))
      obtain ⟨y, hy⟩ : ∃ y : UInt8, y = k.toNat.toUInt8 := ⟨_, rfl⟩
      have HY := Lib.hid hy
      have HK := Lib.hid (show k = (y.toNat : Int) by have := low8 hk0; rw [← hy] at this; omega)
      clear hy
      go_wp2_with (at_builtin; refine wpList_appB rfl _ _ rfl base _ q [y] (some ⟨wr.heap.size, 0, none⟩) 1 1 (by rfl) (by rfl) rfl (HO.out.below ((RowKit.Below.refl _ _).alloc (Nat.le_refl _) _)) (one_byte wr y _ _ HK.out) (fun h => by cases h) (by have := HQ.out; simp; omega) (by simp; omega) ?_; intro v3 w3 h3)
      obtain ⟨x1, x2, x3, x4⟩ := h3
      have hU := HP.out.trans (Upd.pre ((RowKit.Below.refl _ _).alloc (Nat.le_refl _) _) x2)
      have E : q ++ [y] = l ++ uvarint n.toNat := by rw [← HU.out, EU.out, HY.out]
      rw [E] at x1 x4
      have H3 := Lib.hid (show Apd w base v (l ++ uvarint n.toNat) v3 w3 from ⟨x1, hU, x3, fun e => absurd (x4 e).1 (by rw [← E]; simp)⟩)
      clear x1 x2 x3 x4 hU E
      go_wp2
      go_ret
      exact ⟨v3, rfl, H3.out⟩

/-- what Clone answers -/
def CloneRes (a : Option Addr) (l : List UInt8) (w : World) (e : Ending) (w' : World) : Prop := ∃ v', e = .returned v' ∧ OB w' w.heap.size v' l ∧ RowKit.Below w.heap.size w w' ∧ (v' = .slice none 0 0 → a = none)
set_option maxHeartbeats 800000 in
theorem clone_any (a : Option Addr) (l : List UInt8) (n c : Nat) (w : World) (hb : BAt w a l) (hn : l.length = n) (hl : l.length ≤ 900000000) (hnil : a = none → l = []) :
    Calls Try.prog 51 #[.slice a n c] w (CloneRes a l w) := by
  have q22 : ∀ (w : World) (a : Option Addr) (n c n' c' : Nat), (binOp .eql 29 (.slice a n c) (.slice none n' c')).run Try.prog w = .ok (.bool a.isNone) w := fun w a n c n' c' => Lib.run_eql_slice_nil w _ _ a n c n' c' Try.underlying29
  have HB := Lib.hid hb
  have HN := hnil
  have HL := Lib.hid hl
  have HE := Lib.hid hn
  clear hb hnil hl hn
  cases a with
  | none =>
    obtain rfl := HN rfl
    clear HN
    go_enter Try.func51, Try.ntmps51
    go_wp2
    go_ret
    exact ⟨_, rfl, OB.nil _ _, RowKit.Below.refl _ _, fun _ => rfl⟩
  | some p =>
    clear HN
    go_enter Try.func51, Try.ntmps51
    go_wp2_with (at_builtin; refine wpList_appB rfl _ _ rfl w.heap.size _ [] l (some p) _ n (by rfl) (by rfl) HE.out (OB.lit (Nat.le_refl _)) (HB.out.below ((RowKit.Below.refl _ _).alloc (Nat.le_refl _) _)) (fun h => by cases h) (by have := HL.out; simp; omega) (by simp) ?_; intro v3 w3 h3)
    have H3 := Lib.hid h3
    clear h3
    go_wp2
    go_ret
    exact ⟨v3, rfl, H3.out.1, H3.out.2.1.below (OB.lit (Nat.le_refl _)) (by simp) ((RowKit.Below.refl _ _).alloc (Nat.le_refl _) _), fun e => by cases (H3.out.2.2.2 e).2⟩
end Go.Proofs.Ytdfbpaajkpnaeaa
