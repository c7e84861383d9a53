/- The walk of falseworklaw03.CivilBack. -/
import Derived.Test.YtfifollmpohcoaaDoorCivL0
import Derived.Test.YtfifollmpohcoaaDoorCivL1
namespace Go.Proofs.YtfifollmpohcoaaDoor
open Go.RowKit Go.Sort

theorem wrong0 : ¬ rightP 0 0 0 := by decide
theorem civilBack_walk (y m d n : Int) (s : ByteArray) (w : World) (hy : I y) (_hm : I m) (_hd : I d) (_hn : I n) (hL : Lens w) : Calls Tryd.prog 7 #[.agg #[.int .i64 y, .int .i64 m, .int .i64 d], .int .i64 n, .string s] w fun e w' => e = .returned (.bool true) ∧ Below w.heap.size w w' := by
  have key : Calls Tryd.prog 7 #[.agg #[.int .i64 y, .int .i64 m, .int .i64 d], .int .i64 n, .string s] w fun e w' => e = .returned (.bool true) ∧ Gr w w' := by
    have num0' := fun W hW => number_no 0 0 0 W ⟨by omega, by omega⟩ hW wrong0
    by_cases hd : rightP y m d <;> by_cases hn : n < 0 ∨ 146097 ≤ n <;> by_cases hs : ∃ y m d, rightP y m d ∧ textB y m d = s
    · obtain ⟨y2, m2, d2, hr2, rfl⟩ := hs
      exact back_101 y m d n 0 0 0 0 y2 m2 d2 _ w hL hy hd (fun W _ => of_no n W hn) num0' (fun W hW => parse_yes W hW hr2) (fun W hW => text_yes _ _ _ W hW hr2)
    · have hs' : ∀ y m d, rightP y m d → textB y m d ≠ s := fun y m d h e => hs ⟨y, m, d, h, e⟩
      exact back_100 y m d n 0 0 0 0 0 0 0 _ w hL hy hd (fun W _ => of_no n W hn) num0' (fun W hW => parse_no s W hW hs')
    · obtain ⟨y1, m1, d1, hr1, hn1⟩ := date_of n (by omega) (by omega)
      obtain ⟨y2, m2, d2, hr2, rfl⟩ := hs
      exact back_111 y m d n y1 m1 d1 y2 m2 d2 _ w hL hy hd (fun W hW => of_at W hW hr1 hn1) (fun W hW => by have := number_yes y1 m1 d1 W hW hr1; rwa [hn1] at this) (fun W hW => parse_yes W hW hr2) (fun W hW => text_yes _ _ _ W hW hr2)
    · obtain ⟨y1, m1, d1, hr1, hn1⟩ := date_of n (by omega) (by omega)
      have hs' : ∀ y m d, rightP y m d → textB y m d ≠ s := fun y m d h e => hs ⟨y, m, d, h, e⟩
      exact back_110 y m d n y1 m1 d1 0 0 0 _ w hL hy hd (fun W hW => of_at W hW hr1 hn1) (fun W hW => by have := number_yes y1 m1 d1 W hW hr1; rwa [hn1] at this) (fun W hW => parse_no s W hW hs')
    · obtain ⟨y2, m2, d2, hr2, rfl⟩ := hs
      exact back_001 y m d n 0 0 0 0 y2 m2 d2 _ w hL hy hd (fun W _ => of_no n W hn) num0' (fun W hW => parse_yes W hW hr2) (fun W hW => text_yes _ _ _ W hW hr2)
    · have hs' : ∀ y m d, rightP y m d → textB y m d ≠ s := fun y m d h e => hs ⟨y, m, d, h, e⟩
      exact back_000 y m d n 0 0 0 0 0 0 0 _ w hL hy hd (fun W _ => of_no n W hn) num0' (fun W hW => parse_no s W hW hs')
    · obtain ⟨y1, m1, d1, hr1, hn1⟩ := date_of n (by omega) (by omega)
      obtain ⟨y2, m2, d2, hr2, rfl⟩ := hs
      exact back_011 y m d n y1 m1 d1 y2 m2 d2 _ w hL hy hd (fun W hW => of_at W hW hr1 hn1) (fun W hW => by have := number_yes y1 m1 d1 W hW hr1; rwa [hn1] at this) (fun W hW => parse_yes W hW hr2) (fun W hW => text_yes _ _ _ W hW hr2)
    · obtain ⟨y1, m1, d1, hr1, hn1⟩ := date_of n (by omega) (by omega)
      have hs' : ∀ y m d, rightP y m d → textB y m d ≠ s := fun y m d h e => hs ⟨y, m, d, h, e⟩
      exact back_010 y m d n y1 m1 d1 0 0 0 _ w hL hy hd (fun W hW => of_at W hW hr1 hn1) (fun W hW => by have := number_yes y1 m1 d1 W hW hr1; rwa [hn1] at this) (fun W hW => parse_no s W hW hs')
  exact key.mono fun e w' ⟨he, hg⟩ => ⟨he, hg.below⟩
end Go.Proofs.YtfifollmpohcoaaDoor
