
/- Package disk: Get. -/
import Derived.Test.YtogdmjegcihopaaDkCE
namespace Go.Proofs.Ytogdmjegcihopaa
set_option maxRecDepth 100000
open Go.RowKit Go.Lib

section
variable {t e : TypeId} {size bytes : Nat}
theorem run_idx (E : El t e size bytes) {b off n cap : Nat} {k : IntKind} {i : Int} {j : Nat} (hi : i = (j : Int)) (h : j < n) (w : World) : (Instr.indexAt t (.slice (some ⟨b, off, none⟩) n cap) (.int k i)).run Try.prog w = .ok (.pointer (some ⟨b, off + j * size, none⟩)) w := by
  obtain ⟨ti, z, h1, _, h3, _⟩ := E.inf
  subst hi
  simp [Instr.indexAt, asIntOf, run_underlying E.und, Go.sizeOf, typeInfo, h1, h3, Sem.run_bind, h, Addr.add_mid]
theorem wpList_idx (E : El t e size bytes) {ops : Array Oper} {rest : List Oper} {o : Oper} {a : Act} {w : World} {Q : Exit → Act → World → Prop} (hgd : o.guard = none) (x y : Operand) (ho : o.op = .indexAddr t x y) {b off n cap : Nat} {k : IntKind} {i : Int} (j : Nat) (hx : a.eval x = .slice (some ⟨b, off, none⟩) n cap) (hy : a.eval y = .int k i) (hi : i = (j : Int)) (h : j < n)
    (hq : wpList Try.prog ops Q rest (a.put o.dst (.pointer (some ⟨b, off + j * size, none⟩))) w) : wpList Try.prog ops Q (o :: rest) a w :=
  wpList_plain hgd fun K hK => by
    unfold Oper.wp execOp
    simp only [ho, hx, hy, Sem.run_bind, Sem.run_pure, Result.andThen_ok, run_idx E hi h]
    exact hK _ _ hq
end
theorem base_at {w : World} {F : Nat → Prop} {g : Nat} {d : Dk} {a0 : Option Addr} {c0 : Nat} {a1 : Option Addr} {c1 m cnt : Nat} {f : Int → Value} (k : DMem w F g d a0 c0 a1 c1 m cnt f) {j : Nat} (hj : j < d.base.length) : ∃ b off, a0 = some ⟨b, off, none⟩ ∧ b < w.heap.size ∧ w.rangeAt b (off + j * 64) (bcells (d.base.getD j [])) := by
  obtain ⟨a, cap, hv, hl, _, _⟩ := ow_lie k.bs
  simp only [Value.slice.injEq, true_and] at hv
  obtain ⟨rfl, rfl⟩ := hv
  exact hl.get (fun s hs => cells_len s (k.ok.bl s hs)) (by decide) (by rw [List.getD, List.getElem?_eq_getElem hj]; rfl)
theorem shape_at {w : World} {F : Nat → Prop} {g : Nat} {d : Dk} {a0 : Option Addr} {c0 : Nat} {a1 : Option Addr} {c1 m cnt : Nat} {f : Int → Value} (k : DMem w F g d a0 c0 a1 c1 m cnt f) {x : Int} (hx : I x) :
    ∃ a cap, f x = .slice a (ofQ d.queue x).length cap ∧ ∀ j s, (ofQ d.queue x)[j]? = some s → ∃ b off, a = some ⟨b, off, none⟩ ∧ b < w.heap.size ∧ w.rangeAt b (off + j * 64) (bcells s) := by
  obtain ⟨a, cap, hv, hl, _, _⟩ := ow_lie (k.sh x hx)
  exact ⟨a, cap, hv, fun j s hs => hl.get (fun s hs => cells_len s (by obtain ⟨p, hp, rfl, _⟩ := ofQ_mem hs; exact k.ok.ql p hp)) (by decide) hs⟩
def GetRes (d : Dk) (x : Int) (w : World) (e : Ending) (w' : World) : Prop := e = .returned (.tuple #[.agg (bcells (d.at_ x)).toArray, .int .i64 (if d.has x then 0 else 81)]) ∧ RowKit.Below w.heap.size w w'
set_option maxRecDepth 100000 in
set_option maxHeartbeats 800000 in
theorem get_any (g : Nat) (F : Nat → Prop) (d : Dk) (x : Int) (w : World) (h : DAt w F g d) (hx : I x) : Calls Try.prog 51 #[.pointer (some ⟨g, 0, none⟩), .int .i64 x] w (GetRes d x w) := by
  obtain ⟨a0, c0, a1, c1, m, cnt, f, k0⟩ := h
  have hal : RowKit.Below w.heap.size w (w.alloc (.cells zc.toArray 75)) := (RowKit.Below.refl _ _).alloc (Nat.le_refl _) _
  have k := k0.below hal
  have HK := Lib.hid k
  have HW := Lib.hid hal
  obtain ⟨d0, d1, d2, d3, d4⟩ := k.cells
  have AL := at_len k.ok x
  have HA := Lib.hid (fun (W : World) => fun (h0 : W.cell? ⟨g, 0, none⟩ = some (.slice a0 d.base.length c0)) => has_any g d.base.length a0 c0 x W h0)
  have HG := Lib.hid (heap_alloc_new w (.cells zc.toArray 75))
  cases hh : decide (0 ≤ x ∧ x < (d.base.length : Int)) with
  | false =>
    have hhas : d.has x = false := hh
    have hat : d.at_ x = zsec := by unfold Dk.at_; rw [if_neg (by simpa using hh)]
    have HR := Lib.hid (show GetRes d x w (.returned (.tuple #[.agg zc.toArray, .int .i64 81])) ((w.alloc (.cells zc.toArray 75)).setRow w.heap.size zc.toArray) from by
      unfold GetRes; rw [hat, hhas]; exact ⟨rfl, below_setRow hal (Nat.le_refl _)⟩)
    rw [hh] at HA
    have HC0 := Lib.hid d0
    clear k k0 hal d0 d1 d2 d3 d4 AL hx hh hhas hat
    go_enter Try.func51, Try.ntmps51
    go_wp2_with (first | (with_reducible refine wpList_allocA rfl isS rfl ?_))
    refine (HA.out _ HC0.out).mono ?_
    rintro _ _ ⟨rfl, rfl⟩
    go_wp2_with (first | (with_reducible refine wpList_buildZ rfl rfl ?_) | (with_reducible refine wpList_storeW rfl isS _ _ rfl _ zc zc.toArray _ rfl rfl HG.out cs_zc (by simp [zc_len]) ?_))
    refine ret_cell_slot isS rfl rfl rfl (setRow_heap _ _ _ _ _ _ HG.out) cs_zc rfl ?_
    exact HR.out
  | true =>
    have hhas : d.has x = true := hh
    obtain ⟨h1, h2⟩ : 0 ≤ x ∧ x < (d.base.length : Int) := by simpa using hh
    obtain ⟨sa, scap, hs, hsh⟩ := shape_at k hx
    have lk := k.mp.look hx
    rw [hs] at lk
    obtain ⟨q, hq⟩ : ∃ q, q = ofQ d.queue x := ⟨_, rfl⟩
    rw [← hq] at lk hsh
    obtain ⟨n, hn⟩ : ∃ n, n = q.length := ⟨_, rfl⟩
    rw [← hn] at lk
    have hn9 : n ≤ 10000 := by rw [hn, hq]; exact Nat.le_trans (ofQ_le _ _) k.ok.qn
    have hat : d.at_ x = (q.getLast?).getD (d.base.getD x.toNat []) := by unfold Dk.at_; rw [if_pos ⟨h1, h2⟩, hq]
    rw [hh] at HA
    have HC0 := Lib.hid d0
    have hfin : ∀ c : List Value, c = bcells (d.at_ x) → GetRes d x w (.returned (.tuple #[.agg c.toArray, .int .i64 0])) ((w.alloc (.cells zc.toArray 75)).setRow w.heap.size c.toArray) := fun c hc => by
      unfold GetRes; rw [hc, hhas]; exact ⟨rfl, below_setRow hal (Nat.le_refl _)⟩
    have HR := Lib.hid hfin
    by_cases hn0 : n = 0
    · have hq0 : q = [] := List.eq_nil_of_length_eq_zero (by omega)
      obtain ⟨b, off, ha, hb, hr⟩ := base_at k (j := x.toNat) (by omega)
      have HX : x = ((x.toNat : Nat) : Int) := by omega
      have HXX := Lib.hid HX
      have HXL := Lib.hid (show x.toNat < d.base.length by omega)
      obtain ⟨c, hc⟩ : ∃ c, c = bcells (d.base.getD x.toNat []) := ⟨_, rfl⟩
      rw [← hc] at hr
      have hCs : Cs 64 c := by rw [hc]; exact cs_sec (k.ok.bl _ (getD_mem (by omega)))
      have HCE := Lib.hid (show c = bcells (d.at_ x) by rw [hat, hq0, hc]; rfl)
      have HRR := Lib.hid hr
      have HCs := Lib.hid hCs
      subst ha hn0
      clear HX k k0 hal d1 d3 d4 AL hx hh hhas hat hsh hs hq hn hn9 hr hCs hc h1 h2 hfin HK
      go_enter Try.func51, Try.ntmps51
      go_wp2_with (first | (with_reducible refine wpList_allocA rfl isS rfl ?_))
      refine (HA.out _ HC0.out).mono ?_
      rintro _ _ ⟨rfl, rfl⟩
      go_wp2_with (first | (with_reducible refine wpList_idx elS rfl _ _ rfl x.toNat rfl rfl HXX.out HXL.out ?_) | (with_reducible refine wpList_loadM rfl isS _ rfl _ _ c rfl HRR.out HCs.out ?_) | (with_reducible refine wpList_storeW rfl isS _ _ rfl _ c zc.toArray _ rfl rfl HG.out HCs.out (by simp [zc_len]) ?_))
      refine ret_cell_slot isS rfl rfl rfl (setRow_heap _ _ _ _ _ _ HG.out) HCs.out rfl ?_
      exact HR.out _ HCE.out
    · obtain ⟨s, hlast⟩ : ∃ s, q[n - 1]? = some s := ⟨_, List.getElem?_eq_getElem (by omega)⟩
      obtain ⟨b, off, ha, hb, hr⟩ := hsh _ _ hlast
      have hmem := List.mem_of_getElem? hlast
      have hsl : s.length = 64 := by
        rw [hq] at hmem
        obtain ⟨p, hp, e, _⟩ := ofQ_mem hmem
        rw [← e]; exact k.ok.ql p hp
      have hat2 : d.at_ x = s := by rw [hat, List.getLast?_eq_getElem?, ← hn, hlast]; rfl
      obtain ⟨c, hc⟩ : ∃ c, c = bcells s := ⟨_, rfl⟩
      rw [← hc] at hr
      have HCs := Lib.hid (show Cs 64 c by rw [hc]; exact cs_sec hsl)
      have HCE := Lib.hid (show c = bcells (d.at_ x) by rw [hat2, hc])
      have HRR := Lib.hid hr
      have HI := Lib.hid (show (n : Int) - 1 = ((n - 1 : Nat) : Int) by omega)
      have HIL := Lib.hid (show n - 1 < n by omega)
      have r0 : IntKind.i64.wrap ((n : Int) - 1) = (n : Int) - 1 := IntWalk.i64_in _ (by omega)
      have d0' : decide (0 < n) = true := by simp; omega
      subst ha
      clear k k0 hal d1 d3 d4 AL hx hh hhas hat hat2 hsh hs hq hn hn9 hr hc h1 h2 hfin HK hlast hmem hsl hn0
      go_enter Try.func51, Try.ntmps51
      go_wp2_with (first | (with_reducible refine wpList_allocA rfl isS rfl ?_))
      refine (HA.out _ HC0.out).mono ?_
      rintro _ _ ⟨rfl, rfl⟩
      go_wp2_with (first | (with_reducible refine wpList_idx elS rfl _ _ rfl (n - 1) rfl rfl HI.out HIL.out ?_) | (with_reducible refine wpList_loadM rfl isS _ rfl _ _ c rfl HRR.out HCs.out ?_) | (with_reducible refine wpList_storeW rfl isS _ _ rfl _ c zc.toArray _ rfl rfl HG.out HCs.out (by simp [zc_len]) ?_))
      refine ret_cell_slot isS rfl rfl rfl (setRow_heap _ _ _ _ _ _ HG.out) HCs.out rfl ?_
      exact HR.out _ HCE.out
end Go.Proofs.Ytogdmjegcihopaa
