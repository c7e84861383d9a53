/- The document's own Cut (falseworkref02.Cut), whatever it is given; append of an argument's slice to an empty one. -/
import Derived.Test.YtaebbfaheaghfaaCutsG
import Derived.Test.YtaebbfaheaghfaaShare5
namespace Go.Proofs.Ytaebbfaheaghfaa
open Go.RowKit Go.Shelf Go.Sort

set_option maxHeartbeats 400000 in
set_option maxRecDepth 100000 in
theorem rcut_bad (a0 : Option Addr) (l : List Int) (cap : Nat) (t : Int) (w : World) (hno : ¬ (0 ≤ t ∧ okW l)) (hr : RowAt .i64 w a0 l) :
    Calls Try.prog 24 #[.int .i64 t, .slice a0 l.length cap] w (CutRes t l w) := by
  have R1 := Lib.hid (ref02Right_any a0 l cap t w hr)
  have FIN := Lib.hid (show CutRes t l w (.returned (.tuple #[.slice none 0 0, .int .i64 21])) w from
    ⟨none, 0, [], 21, Or.inl ⟨by by_cases h : t < 0; exact Or.inl h; exact Or.inr (fun k => hno ⟨by omega, k⟩), rfl, rfl⟩, rfl, RowKit.Below.refl _ _, Or.inl rfl⟩)
  clear hr
  go_enter Try.func24, Try.ntmps24
  go_wp2_with fail
  refine R1.out.mono ?_
  rintro e w1 ⟨⟨r, hr1, rfl⟩, rfl⟩
  obtain rfl : r = false := by
    cases r with
    | false => rfl
    | true => exact absurd (hr1.mp rfl) hno
  clear hr1 R1
  go_wp2_with fail
  go_ret2
  exact FIN.out

set_option maxHeartbeats 400000 in
set_option maxRecDepth 100000 in
theorem rcut_over (a0 : Option Addr) (l : List Int) (cap : Nat) (t : Int) (w : World) (ht : 0 ≤ t) (hok : okW l) (hS : ¬ I l.sum) (hI : ∀ x ∈ l, I x) (hr : RowAt .i64 w a0 l) :
    Calls Try.prog 24 #[.int .i64 t, .slice a0 l.length cap] w (CutRes t l w) := by
  have R1 := Lib.hid (ref02Right_any a0 l cap t w hr)
  have S1 := Lib.hid (refSum_any a0 l cap w hr hI (by have := hok.2.1; omega))
  have hE : cutE l.sum = 11 := by unfold cutE; rw [if_neg hS]
  rw [hE] at S1
  have FIN := fun w' (hb : RowKit.Below w.heap.size w w') => Lib.hid (show CutRes t l w (.returned (.tuple #[.slice none 0 0, .int .i64 11])) w' from
    ⟨none, 0, [], 11, Or.inr (Or.inr ⟨ht, hok, hS, rfl, rfl⟩), rfl, hb, Or.inl rfl⟩)
  have HOK := Lib.hid hok
  clear hr hI hok hE
  generalize cutV l.sum = sv at *
  go_enter Try.func24, Try.ntmps24
  go_wp2_with fail
  refine R1.out.mono ?_
  rintro e w1 ⟨⟨r, hr1, rfl⟩, rfl⟩
  obtain rfl : r = true := hr1.mpr ⟨ht, HOK.out⟩
  clear hr1 R1
  go_wp2_with fail
  refine S1.out.mono ?_
  rintro e w2 ⟨rfl, hb2⟩
  have HB2 := Lib.hid hb2
  clear hb2 S1
  go_wp2_with fail
  go_ret2
  exact (FIN _ HB2.out).out

theorem rcut_res (a : Option Addr) (l : List Int) (cap : Nat) (t : Int) (w : World) (hT : I t) (hI : ∀ x ∈ l, I x) (hr : RowAt .i64 w a l) :
    Calls Try.prog 24 #[.int .i64 t, .slice a l.length cap] w (CutRes t l w) := by
  by_cases h : 0 ≤ t ∧ okW l
  · by_cases hS : I l.sum
    · exact rcut_core a l cap t w hT h.1 h.2 hS hI hr
    · exact rcut_over a l cap t w h.1 h.2 hS hI hr
  · exact rcut_bad a l cap t w h hr

theorem spec_one {t : Int} {l x y : List Int} {e f : Int} (h : CutSpec t l x e) (k : CutSpec t l y f) : x = y ∧ e = f := by
  rcases h with ⟨h1, rfl, rfl⟩ | ⟨h1, h2, h3, rfl, rfl⟩ | ⟨h1, h2, h3, rfl, rfl⟩ <;> rcases k with ⟨k1, rfl, rfl⟩ | ⟨k1, k2, k3, rfl, rfl⟩ | ⟨k1, k2, k3, rfl, rfl⟩
  · exact ⟨rfl, rfl⟩
  · rcases h1 with h | h
    · omega
    · exact absurd k2 h
  · rcases h1 with h | h
    · omega
    · exact absurd k2 h
  · rcases k1 with h | h
    · omega
    · exact absurd h2 h
  · exact ⟨rfl, rfl⟩
  · exact absurd h3 k3
  · rcases k1 with h | h
    · omega
    · exact absurd h2 h
  · exact absurd k3 h3
  · exact ⟨rfl, rfl⟩
theorem spec_len {t : Int} {l x : List Int} {e : Int} (h : CutSpec t l x e) (hl : l.length ≤ 70) : x.length ≤ 70 := by
  rcases h with ⟨_, rfl, _⟩ | ⟨_, _, _, rfl, _⟩ | ⟨_, _, _, rfl, _⟩
  · simp
  · rw [partsL_len]; exact hl
  · simp

theorem app_any {w : World} (w0 : World) (base : Nat) (v : Value) (l news : List Int) (ad : Option Addr) (c : Nat) (ty : TypeId) (hown : OW w base v l) (hc : ad = none → c = 0 ∧ news = [])
    (hr : RowAt .i64 w ad news) (hlen : l.length + news.length ≤ 1000000) (hB : RowKit.Below base w0 w) (hb : base ≤ w.heap.size) :
    ∃ v' w', (Builtin.append_ #[40, 40] ty #[v, .slice ad news.length c]).run Try.prog w = .ok v' w' ∧ OW w' base v' (l ++ news) ∧ RowKit.Below base w0 w' ∧ base ≤ w'.heap.size := by
  cases ad with
  | none =>
    obtain ⟨rfl, rfl⟩ := hc rfl
    obtain ⟨i, hi, hz, hs1, hs8⟩ := info64
    have hown' := hown
    unfold OW at hown'
    have hrun := run_append_owned_none (P := Try.prog) w base 40 ty 2 i 1 Try.underlying40 hi v l.length (l.map (Value.int .i64)) hown'
    exact ⟨v, w, hrun, by rw [List.append_nil]; exact hown, hB, hb⟩
  | some p => exact app_run w0 base v l news p c ty hown hr.cells hlen hB hb
theorem wpList_app3 {ops : Array Oper} {rest : List Oper} {o : Oper} {a : Act} {w : World} {Q : Exit → Act → World → Prop} (hgd : o.guard = none) (s x : Operand)
    (ho : o.op = .call { callee := .builtin .append, args := #[s, x], argTypes := #[40, 40] }) (w0 : World) (base : Nat) (v : Value) (l news : List Int) (ad : Option Addr) (c n : Nat) (hs : a.eval s = v) (hx : a.eval x = .slice ad n c) (hn : news.length = n)
    (hown : OW w base v l) (hc : ad = none → c = 0 ∧ news = []) (hr : RowAt .i64 w ad news) (hlen : l.length + news.length ≤ 1000000) (hB : RowKit.Below base w0 w) (hb : base ≤ w.heap.size)
    (h : ∀ v' w', OW w' base v' (l ++ news) → RowKit.Below base w0 w' → base ≤ w'.heap.size → wpList Try.prog ops Q rest (a.put o.dst v') w') : wpList Try.prog ops Q (o :: rest) a w :=
  wpList_plain hgd fun K hK => by
    subst hn
    obtain ⟨v', w', hrun, h2, h3, h4⟩ := app_any w0 base v l news ad c o.type hown hc hr hlen hB hb
    unfold Oper.wp execOp
    simp only [ho, resolve, invoke, builtin, Sem.run_bind, Sem.run_pure, Result.andThen_ok, List.map_toArray, List.map_cons, List.map_nil, hs, hx, hrun]
    exact hK _ _ (h v' w' h2 h3 h4)
end Go.Proofs.Ytaebbfaheaghfaa
