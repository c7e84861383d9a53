/- The walk of falseworklaw04.CalendarRolls. -/
import Derived.Test.YtijhfjehdpgjmaaDoorCalAlive
import Derived.Test.YtijhfjehdpgjmaaDoorCalRefM
import Derived.Test.YtijhfjehdpgjmaaDoorCalIn
import Derived.Test.YtijhfjehdpgjmaaDoorCalApp
namespace Go.Proofs.YtijhfjehdpgjmaaDoor
open Go.RowKit Go.Sort

theorem law_rolls_long (a : Option Addr) (len cap : Nat) (n : Int) (w : World) (hL : Lens w) (h : 600 < len) (h2 : len ≤ 9223372036854775807) :
    Calls Tryd.prog 6 #[.slice a len cap, .int .i64 n] w fun e w' => e = .returned (.bool true) ∧ RowKit.Below w.heap.size w w' := by
  have A := Lib.hid (alive_any w hL)
  clear hL
  go_enter Tryd.func6, Tryd.ntmps6
  go_wp2_with fail
  refine A.out.mono ?_
  rintro e w1 ⟨rfl, hg1⟩
  have HG1 := Lib.hid hg1
  clear hg1 A
  go_wp2
  go_ret
  exact ⟨rfl, HG1.out.below⟩

/-- the loop's state: the call's own slice in block g, the Days in block b -/
def RS (w wr : World) (g b : Nat) (l : List Int) : Prop := w.heap.size ≤ g ∧ OwnAt wr g l.length ∧ CalX wr b l (g + 1) ∧ RowKit.Below w.heap.size w wr
theorem RS.step {w wr : World} {g b : Nat} {l : List Int} (h : RS w wr g b l) (k : Nat) (y : Int) : RS w (wr.setCell ⟨g, k, none⟩ (.int .i64 y)) g b l :=
  ⟨h.1, h.2.1.set k y, h.2.2.1.set (by omega) _, h.2.2.2.setCell (p := ⟨g, k, none⟩) h.1 _⟩

theorem CalX.mono {w : World} {b s t : Nat} {l : List Int} (h : CalX w b l s) (ht : t ≤ s) : CalX w b l t := by
  obtain ⟨h1, h2, m, h3, h4, h5⟩ := h
  exact ⟨h1, by omega, m, by omega, h4, h5⟩

set_option maxHeartbeats 1600000 in
theorem law_rolls_many (a : Option Addr) (l : List Int) (cap : Nat) (n : Int) (w : World) (hL : Lens w) (h5 : 512 < l.length) (h6 : l.length ≤ 600) (hc : a = none → cap = 0 ∧ l = []) (hr : RowAt w a l) :
    Calls Tryd.prog 6 #[.slice a l.length cap, .int .i64 n] w fun e w' => e = .returned (.bool true) ∧ RowKit.Below w.heap.size w w' := by
  have A := Lib.hid (alive_any w hL)
  have B : ∀ a c W, Hid (Calls Tryd.prog 11 #[.slice a l.length c] W fun e w' => e = .returned (.tuple #[.pointer none, .int .i64 41]) ∧ W = w') := fun a c W => new_many a l.length c W (by omega) (by omega)
  have HR := Lib.hid hr
  have HC := Lib.hid hc
  clear hL hr hc
  go_enter Tryd.func6, Tryd.ntmps6
  go_wp2_with fail
  refine A.out.mono ?_
  rintro e w1 ⟨rfl, hg1⟩
  have HG1 := Lib.hid hg1
  clear hg1 A
  go_wp2_with (at_builtin; refine wpList_app_empty w1 rfl _ _ rfl w.heap.size HG1.out.size a l cap l.length (by rfl) (by rfl) rfl HC.out (HR.out.gr (HG1.out.alloc _)) (by omega) ?_; intro v2 w2 h2)
  obtain ⟨g, c2, rfl, hg, _, _, hb2⟩ := h2
  have HB2 := Lib.hid ((HG1.out.alloc (.cells #[] 2)).below.trans hb2)
  clear hb2
  go_wp2_with fail
  refine (B _ _ _).out.mono ?_
  rintro e w3 ⟨rfl, rfl⟩
  go_wp2
  go_ret
  exact ⟨rfl, HB2.out⟩

set_option maxHeartbeats 3200000 in
theorem law_rolls_core (a : Option Addr) (l : List Int) (cap : Nat) (n : Int) (w : World) (hL : Lens w) (h5 : l.length ≤ 512) (hc : a = none → cap = 0 ∧ l = []) (hr : RowAt w a l) (hI : ∀ n ∈ l, I n) (hn : I n) :
    Calls Tryd.prog 6 #[.slice a l.length cap, .int .i64 n] w fun e w' => e = .returned (.bool true) ∧ RowKit.Below w.heap.size w w' := by
  have A := Lib.hid (alive_any w hL)
  have B : ∀ a c W, RowAt W a l → Hid (Calls Tryd.prog 11 #[.slice a l.length c] W (NewFar l W)) := fun a c W h => new_far a l c W h hI (by omega)
  have D : ∀ b W, Cal W b l → Lens W → Hid (Calls Tryd.prog 12 #[.pointer (some ⟨b, 0, none⟩), .int .i64 n] W fun e w' => e = .returned (.tuple #[.int .i64 (seekV (seekF l 1 32 n)), .int .i64 (seekE (seekF l 1 32 n))]) ∧ Gr W w') := fun b W hc hW => roll_any b l n W hn hc hW
  have E : ∀ b W, Cal W b l → Lens W → Hid (Calls Tryd.prog 19 #[.pointer (some ⟨b, 0, none⟩), .int .i64 n] W fun e w' => e = .returned (.tuple #[.int .i64 (seekV (seekF l (-1) 32 n)), .int .i64 (seekE (seekF l (-1) 32 n))]) ∧ Gr W w') := fun b W hc hW => back_any b l n W hn hc hW
  have F : ∀ b W, Cal W b l → Lens W → Hid (Calls Tryd.prog 20 #[.pointer (some ⟨b, 0, none⟩), .int .i64 n] W fun e w' => e = .returned (.tuple #[.int .i64 (seekV (modF l n)), .int .i64 (seekE (modF l n))]) ∧ Gr W w') := fun b W hc hW => modified_any b l n W hn hc hW
  have G : ∀ W, RowAt W a l → Hid (Calls Tryd.prog 21 #[.slice a l.length cap, .int .i64 n, .int .i64 1] W fun e w' => e = .returned (.tuple #[.int .i64 (seekV (seekF l 1 32 n)), .int .i64 (seekE (seekF l 1 32 n))]) ∧ Gr W w') := fun W h => rseek1_any a l cap n W h (by omega)
  have H : ∀ W, RowAt W a l → Hid (Calls Tryd.prog 21 #[.slice a l.length cap, .int .i64 n, .int .i64 (-1)] W fun e w' => e = .returned (.tuple #[.int .i64 (seekV (seekF l (-1) 32 n)), .int .i64 (seekE (seekF l (-1) 32 n))]) ∧ Gr W w') := fun W h => rseek2_any a l cap n W h (by omega)
  have K : ∀ W, RowAt W a l → Hid (Calls Tryd.prog 22 #[.slice a l.length cap, .int .i64 n] W fun e w' => e = .returned (.tuple #[.int .i64 (seekV (modF l n)), .int .i64 (seekE (modF l n))]) ∧ Gr W w') := fun W h => rmodified_any a l cap n W h (by omega)
  have M : ∀ b W, Cal W b l → Hid (Calls Tryd.prog 23 #[.pointer (some ⟨b, 0, none⟩), .int .i64 n] W fun e w' => e = .returned (.bool (decide (biz l n))) ∧ Gr W w') := fun b W hc => business_any b l n W hn hc
  have N : ∀ W, RowAt W a l → Hid (Calls Tryd.prog 24 #[.slice a l.length cap, .int .i64 n] W fun e w' => e = .returned (.bool (decide (biz l n))) ∧ W = w') := fun W h => rbusiness_any a l cap n W hn h (by omega)
  have HR := Lib.hid hr
  have HC := Lib.hid hc
  have HL := Lib.hid hL
  clear hL hr hc hI hn
  generalize seekV (seekF l 1 32 n) = x1 at *
  generalize seekE (seekF l 1 32 n) = x2 at *
  generalize seekV (seekF l (-1) 32 n) = x3 at *
  generalize seekE (seekF l (-1) 32 n) = x4 at *
  generalize seekV (modF l n) = x5 at *
  generalize seekE (modF l n) = x6 at *
  generalize decide (biz l n) = x7 at *
  go_enter Tryd.func6, Tryd.ntmps6
  go_wp2_with fail
  refine A.out.mono ?_
  rintro e w1 ⟨rfl, hg1⟩
  have HG1 := Lib.hid hg1
  clear hg1 A
  go_wp2_with (at_builtin; refine wpList_app_empty w1 rfl _ _ rfl w.heap.size HG1.out.size a l cap l.length (by rfl) (by rfl) rfl HC.out (HR.out.gr (HG1.out.alloc _)) (by omega) ?_; intro v2 w2 h2)
  obtain ⟨g, c2, rfl, hg, ho2, hr2, hb2⟩ := h2
  have HB2 := Lib.hid ((HG1.out.alloc (.cells #[] 2)).below.trans hb2)
  have HO2 := Lib.hid ho2
  have HR2 := Lib.hid hr2
  clear hb2 ho2 hr2 HG1 HC
  go_wp2_with fail
  refine (B _ _ _ HR2.out).out.mono ?_
  rintro e w3 ⟨⟨b, rfl, hx3⟩, hg3⟩
  have HRS := Lib.hid (show RS w w3 g b l from ⟨hg, HO2.out.gr hg3, hx3.mono HO2.out.1, HB2.out.trans (hg3.below.mono HB2.out.size)⟩)
  clear hx3 hg3 HO2 HR2 B HB2
  go_wp2_with fail
  go_loopg [51] l.length (fun q c51 wr => ∃ k : Nat, k ≤ l.length ∧ c51 = .int .i64 (k : Int) ∧ q + k = l.length ∧ Hid (RS w wr g b l))
  case atStart => exact ⟨0, by omega, rfl, by omega, HRS⟩
  case round =>
    obtain ⟨k, hk, rfl, hq, HRS⟩ := hrel
    by_cases hlt : k < l.length
    · obtain ⟨⟨x, hcell⟩, hfz⟩ := HRS.out.2.1.2 k hlt
      have HS : ∀ y, Hid (RS w (wr.setCell ⟨g, k, none⟩ (.int .i64 y)) g b l) := fun y => Lib.hid (HRS.out.step k y)
      clear HRS
      go_wp2
      go_roundg (gk - 1)
      case measure => omega
      case rel => exact ⟨k + 1, by omega, by go_num, by omega, HS _⟩
    · obtain rfl : k = l.length := by omega
      have HC4 := Lib.hid HRS.out.2.2.1.cal
      have HB4 := Lib.hid HRS.out.2.2.2
      clear HRS
      go_wp2_with fail
      refine (D b _ HC4.out (HL.out.below HB4.out)).out.mono ?_
      rintro e w5 ⟨rfl, hg5⟩
      have HC5 := Lib.hid (HC4.out.gr hg5)
      have HB5 := Lib.hid (HB4.out.trans (hg5.below.mono HB4.out.size))
      clear hg5 HC4 HB4 D
      go_wp2_with fail
      refine (E b _ HC5.out (HL.out.below HB5.out)).out.mono ?_
      rintro e w6 ⟨rfl, hg6⟩
      have HC6 := Lib.hid (HC5.out.gr hg6)
      have HB6 := Lib.hid (HB5.out.trans (hg6.below.mono HB5.out.size))
      clear hg6 HC5 HB5 E
      go_wp2_with fail
      refine (F b _ HC6.out (HL.out.below HB6.out)).out.mono ?_
      rintro e w7 ⟨rfl, hg7⟩
      have HC7 := Lib.hid (HC6.out.gr hg7)
      have HB7 := Lib.hid (HB6.out.trans (hg7.below.mono HB6.out.size))
      clear hg7 HC6 HB6 F
      go_wp2_with fail
      refine (G _ (HR.out.below HB7.out)).out.mono ?_
      rintro e w8 ⟨rfl, hg8⟩
      have HC8 := Lib.hid (HC7.out.gr hg8)
      have HB8 := Lib.hid (HB7.out.trans (hg8.below.mono HB7.out.size))
      clear hg8 HC7 HB7 G
      go_wp2_with fail
      refine (H _ (HR.out.below HB8.out)).out.mono ?_
      rintro e w9 ⟨rfl, hg9⟩
      have HC9 := Lib.hid (HC8.out.gr hg9)
      have HB9 := Lib.hid (HB8.out.trans (hg9.below.mono HB8.out.size))
      clear hg9 HC8 HB8 H
      go_wp2_with fail
      refine (K _ (HR.out.below HB9.out)).out.mono ?_
      rintro e w10 ⟨rfl, hg10⟩
      have HC10 := Lib.hid (HC9.out.gr hg10)
      have HB10 := Lib.hid (HB9.out.trans (hg10.below.mono HB9.out.size))
      clear hg10 HC9 HB9 K
      go_wp2_with fail
      refine (M b _ HC10.out).out.mono ?_
      rintro e w11 ⟨rfl, hg11⟩
      have HC11 := Lib.hid (HC10.out.gr hg11)
      have HB11 := Lib.hid (HB10.out.trans (hg11.below.mono HB10.out.size))
      clear hg11 HC10 HB10 M
      go_wp2_with fail
      refine (N _ (HR.out.below HB11.out)).out.mono ?_
      rintro e w12 ⟨rfl, rfl⟩
      clear N HC11
      go_wp2
      go_ret
      exact ⟨by simp [go_sem], HB11.out⟩

theorem calendarRolls_walk (a : Option Addr) (len cap : Nat) (zs : List Int) (n : Int) (w : World) (hr : CameRow w a len cap zs) (hn : I n) (hL : Lens w) :
    Calls Tryd.prog 6 #[.slice a len cap, .int .i64 n] w fun e w' => e = .returned (.bool true) ∧ RowKit.Below w.heap.size w w' := by
  obtain ⟨h1, h2, h3, h4, h5⟩ := row_of hr
  by_cases hl : 600 < len
  · exact law_rolls_long a len cap n w hL hl h4
  · generalize zs.take len = l at *
    subst h2
    by_cases h6 : 512 < l.length
    · exact law_rolls_many a l cap n w hL h6 (by omega) h5 h1
    · exact law_rolls_core a l cap n w hL (by omega) h5 h1 h3 hn
end Go.Proofs.YtijhfjehdpgjmaaDoor
