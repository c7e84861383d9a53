/- The contracts of falseworkref01, ninth part: Sum. -/
import Derived.Test.YtaebbfaheaghfaaRefF
import Derived.Test.YtaebbfaheaghfaaRowzOf
namespace Go.Proofs.Ytaebbfaheaghfaa
open Go.RowKit

theorem Room.sign {w : World} {b : Nat} {m : Bool} (h : Room w b m) (k : Bool) : Room (w.setCell ⟨b, 0, none⟩ (.bool k)) b k := by
  refine ⟨World.cell?_setCell_same _ _ _ h.c0, fun i h3 h4 => ?_, fun i => ?_, ?_⟩
  · obtain ⟨u, hu⟩ := h.ex i h3 h4
    exact cell?_setCell_some hu
  · rw [World.frozen?_setCell]; exact h.f i
  · simpa using h.lt

theorem below_grew {B : Nat} {a w : World} (h : Below B a w) (hB : B ≤ w.heap.size) (L : List Obj) : Below B a (grew w L) := h.trans ((grew_below w L).mono hB)

theorem far_take (l : List Int) (hI : ∀ n ∈ l, I n) (hl : l.length ≤ 1000000) (k : Nat) (h : k ≤ l.length) : Far (l.take k).sum := by
  have := sum_take_bd l hI k h
  unfold Far
  omega

set_option maxHeartbeats 4000000 in
theorem refSum_any (a : Option Addr) (l : List Int) (cap : Nat) (w : World) (hr : RowAt .i64 w a l) (hI : ∀ n ∈ l, I n) (hl : l.length ≤ 1000000) :
    Calls Try.prog 30 #[.slice a l.length cap] w fun e w' => e = .returned (.tuple #[.int .i64 (cutV l.sum), .int .i64 (cutE l.sum)]) ∧ Below w.heap.size w w' := by
  have HI := Lib.hid hI; clear hI
  have HR := Lib.hid hr; clear hr
  go_enter Try.func30, Try.ntmps30
  go_wp2
  go_loopg [10] l.length (fun g s wr => ∃ k : Nat, k ≤ l.length ∧ s = .int .i64 k ∧ g = l.length - k ∧ Below w.heap.size w wr ∧ NumAt wr w.heap.size (neg? (l.take k).sum) (absI (l.take k).sum))
  case atStart =>
    refine ⟨0, Nat.zero_le _, rfl, by simp, (Below.refl _ _).alloc (Nat.le_refl _) _, ⟨?_, ?_, ?_⟩⟩
    · constructor <;> simp [absI, neg?, dgt_zero]
    · intro i; simp
    · simp
  case round =>
    obtain ⟨k, hk, rfl, rfl, hb, hn⟩ := hrel
    have lt := hn.lt
    have lt1 : w.heap.size < wr.heap.size + 1 := by omega
    have lt2 : w.heap.size < wr.heap.size + 1 + 1 := by omega
    have NN := Lib.hid hn
    have HB := Lib.hid hb
    by_cases hlt : k < l.length
    · obtain ⟨b, off, ha, hbl, hcell⟩ : ∃ b off, a = some ⟨b, off, none⟩ ∧ b < w.heap.size ∧ ∀ i, i < l.length → w.cell? ⟨b, off + i, none⟩ = some (.int .i64 (l.getD i 0)) := by
        rcases HR.out with h | h
        · subst h; simp at hlt
        · exact h
      subst ha
      have hc : wr.cell? ⟨b, off + k, none⟩ = some (.int .i64 (l.getD k 0)) := by rw [hb.cell (p := ⟨b, off + k, none⟩) hbl]; exact hcell k hlt
      clear hcell hb
      have hx := getD_I l HI.out k hlt
      have hF := far_take l HI.out hl k hk
      have HS := Lib.hid (sum_take_succ l k hlt)
      generalize l.getD k 0 = x at *
      generalize (l.take k).sum = S at *
      have HP := fun w => Lib.hid (plus_any2 S x w hF (far_I hx))
      obtain ⟨o0, o1, o2, o3, o4, o5, o6, o7, o8, o9, o10⟩ := hn.c
      have f0 := hn.f 0
      have f1 := hn.f 1
      have f2 := hn.f 2
      have f3 := hn.f 3
      have f4 := hn.f 4
      have f5 := hn.f 5
      have f6 := hn.f 6
      have f7 := hn.f 7
      have f8 := hn.f 8
      have f9 := hn.f 9
      have f10 := hn.f 10
      clear hn
      go_wp2
      go_region_with (first | (go_at_call 15; refine (of_any x _ hx).mono ?_; rintro e w1 ⟨rfl, J1, J2, rfl⟩) | (go_at_call 14; refine (HP _).out.mono ?_; rintro e w2 ⟨rfl, L, n, rfl⟩))
      all_goals
        go_wp2
        go_roundg (l.length - (k + 1))
        case measure => omega
        case rel =>
          go_light
          refine ⟨k + 1, by omega, by go_num, rfl, ?_, ?_⟩
          · repeat' (first | (with_reducible exact HB.out) | (with_reducible refine below_drewN ?_ _) | (with_reducible refine Below.drew ?_) | (with_reducible refine below_grew ?_ ?_ _) | (with_reducible refine Below.alloc ?_ ?_ _) | (with_reducible refine Below.setCell ?_ ?_ _) | (simp; done) | (simp; omega) | omega)
          · rw [HS.out]
            exact (((((NN.out.room.sign (neg? (S + x))).store (absI (S + x))).alloc J1).alloc J2).grew L).drewN _
    · have hkk : k = l.length := by omega
      subst hkk
      have hF := far_take l HI.out hl l.length hk
      rw [List.take_length] at hF hn
      obtain ⟨o0, o1, o2, o3, o4, o5, o6, o7, o8, o9, o10⟩ := hn.c
      clear hn hb
      go_wp2_with fail
      refine (cut_any l.sum _ hF).mono ?_
      rintro e w1 ⟨rfl, hw1⟩
      go_wp2
      go_ret2
      exact ⟨rfl, HB.out.trans (hw1.below.mono (by omega))⟩

end Go.Proofs.Ytaebbfaheaghfaa
