/- Package crc: what is said of bytes, as four bytes. -/
import Derived.Test.YtfbbkoibccndkaaCrB
namespace Go.Proofs.Ytfbbkoibccndkaa
open Go.RowKit Go.Lib

/-- what is said of some bytes -/
def ofL (l : List UInt8) : Nat := sm (ad 4294967295 l)
theorem ofL_lt (l : List UInt8) : ofL l < 4294967296 := sm_lt (ad_lt (by omega) l)
/-- four bytes, the lowest one first -/
def le4 (s : Nat) : List UInt8 := [s.toUInt8, (s / 256).toUInt8, (s / 65536).toUInt8, (s / 16777216).toUInt8]
def sealL (l : List UInt8) : List UInt8 := le4 (ofL l)
theorem sealL_len (l : List UInt8) : (sealL l).length = 4 := rfl
theorem le4_cells (s : Nat) (hs : s < 4294967296) : #[Value.int .u8 ((s : Int) % 256), .int .u8 ((s : Int) / 256 % 256), .int .u8 ((s : Int) / 65536 % 256), .int .u8 ((s : Int) / 16777216)] = (bcells (le4 s)).toArray := by
  have e : (s : Int) / 16777216 = (s : Int) / 16777216 % 256 := by omega
  rw [e]
  simp [bcells, le4, Nat.toUInt8]
set_option maxRecDepth 100000 in
theorem seal_any (a : Option Addr) (l : List UInt8) (n cap : Nat) (w : World) (hb : BAt w a l) (hn : l.length = n) (hl : n ≤ 1000000) :
    Calls Try.prog 18 #[.slice a n cap] w fun e w' => e = .returned (.agg (bcells (sealL l)).toArray) ∧ RowKit.Below w.heap.size w w' := by
  have HB := Lib.hid (hb.below ((RowKit.Below.refl _ _).alloc (Nat.le_refl _) (.cells #[.int .u8 0, .int .u8 0, .int .u8 0, .int .u8 0] 39)))
  have HN := Lib.hid hn
  have H1 := Lib.hid (start_any (w.alloc (.cells #[.int .u8 0, .int .u8 0, .int .u8 0, .int .u8 0] 39)))
  have H2 := Lib.hid (add_any 4294967295 a l n cap _ (by omega) HB.out hn hl)
  have H3 := Lib.hid (sum_any (ad 4294967295 l) (w.alloc (.cells #[.int .u8 0, .int .u8 0, .int .u8 0, .int .u8 0] 39)) (ad_lt (by omega) l))
  obtain ⟨s, hs⟩ : ∃ s, s = ofL l := ⟨_, rfl⟩
  have hs1 : s < 4294967296 := by rw [hs]; exact ofL_lt l
  have HS := Lib.hid hs
  rw [show sm (ad 4294967295 l) = s from hs.symm] at H3
  have HC := Lib.hid (le4_cells s hs1)
  clear hb hn hs
  go_enter Try.func18, Try.ntmps18
  go_wp2_with fail
  refine H1.out.mono ?_
  rintro _ _ ⟨rfl, rfl⟩
  go_wp2_with fail
  refine H2.out.mono ?_
  rintro _ _ ⟨rfl, rfl⟩
  go_wp2_with fail
  refine H3.out.mono ?_
  rintro _ _ ⟨rfl, rfl⟩
  go_wp2
  refine bodyPost_ret (v := .agg #[.int .u8 ((s : Int) % 256), .int .u8 ((s : Int) / 256 % 256), .int .u8 ((s : Int) / 65536 % 256), .int .u8 ((s : Int) / 16777216)]) (by simp [results, Try.results18, go_sem]) rfl ⟨?_, (RowKit.Below.refl _ _).alloc (Nat.le_refl _) _⟩
  rw [HC.out, HS.out]
  rfl
end Go.Proofs.Ytfbbkoibccndkaa
