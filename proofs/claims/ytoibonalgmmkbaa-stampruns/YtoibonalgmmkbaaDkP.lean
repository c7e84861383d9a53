/- falseworkref08: a disk as a value; spend, Fuse. -/
import Derived.Test.YtoibonalgmmkbaaDkL
namespace Go.Proofs.Ytoibonalgmmkbaa
open Go.RowKit Go.Lib

/-- the document's disk, as a value -/
def rcs (r : Dk) (a0 : Option Addr) (c0 : Nat) (a1 : Option Addr) (c1 : Nat) : List Value := [.slice a0 r.base.length c0, .slice a1 r.queue.length c1, .int .i64 r.fuse, .bool r.dead]
theorem isD : IsAgg 37 4 [.slice none 0 0, .slice none 0 0, .int .i64 0, .bool false] :=
  ⟨Try.zeroValue37, ⟨_, Try.underlying37, rfl⟩, by kernel_rfl, rfl⟩
theorem rcs_cs (r : Dk) (a0 : Option Addr) (c0 : Nat) (a1 : Option Addr) (c1 : Nat) : Cs 4 (rcs r a0 c0 a1 c1) := ⟨rfl, fun u hu => by
  simp [rcs] at hu
  rcases hu with rfl | rfl | rfl | rfl <;> rfl⟩
def SpendRes (r : Dk) (a0 : Option Addr) (c0 : Nat) (a1 : Option Addr) (c1 : Nat) (w : World) (e : Ending) (w' : World) : Prop := ∃ fu dd, r.spend = { r with fuse := fu, dead := dd } ∧ e = .returned (.tuple #[.agg (rcs { r with fuse := fu, dead := dd } a0 c0 a1 c1).toArray, .bool r.live]) ∧ RowKit.Below w.heap.size w w'
theorem spend_any (r : Dk) (a0 : Option Addr) (c0 : Nat) (a1 : Option Addr) (c1 : Nat) (w : World) (hI : I r.fuse) : Calls Try.prog 38 #[.agg (rcs r a0 c0 a1 c1).toArray] w (SpendRes r a0 c0 a1 c1 w) := by
  have hfin : ∀ (fu : Int) (dd l : Bool) (W : World), r.spend = { r with fuse := fu, dead := dd } → l = r.live → RowKit.Below w.heap.size w W → SpendRes r a0 c0 a1 c1 w (.returned (.tuple #[.agg #[.slice a0 r.base.length c0, .slice a1 r.queue.length c1, .int .i64 fu, .bool dd], .bool l])) W := fun fu dd l W h1 h2 h3 => ⟨fu, dd, h1, by rw [h2]; rfl, h3⟩
  have HF := Lib.hid hfin
  show Calls _ _ #[.agg #[.slice a0 r.base.length c0, .slice a1 r.queue.length c1, .int .i64 r.fuse, .bool r.dead]] _ _
  have hsp : r.spend = if !(r.dead || r.fuse == 0) then { r with fuse := if 0 < r.fuse then r.fuse - 1 else r.fuse } else { r with dead := true } := rfl
  have hlv : r.live = !(r.dead || r.fuse == 0) := rfl
  have HB := Lib.hid (fun (A B : Obj) => show RowKit.Below w.heap.size w ((w.alloc A).alloc B) from ((RowKit.Below.refl _ _).alloc (Nat.le_refl _) _).alloc (by simp) _)
  obtain ⟨fu, hfu⟩ : ∃ fu, fu = r.fuse := ⟨_, rfl⟩
  obtain ⟨dd, hdd⟩ : ∃ dd, dd = r.dead := ⟨_, rfl⟩
  rw [← hfu] at hI
  rw [← hfu, ← hdd] at hsp hlv ⊢
  clear hfin
  by_cases h0 : fu = 0
  · subst h0
    have HL := Lib.hid (show false = r.live by rw [hlv]; simp)
    have HS := Lib.hid (show r.spend = { r with fuse := 0, dead := true } by rw [hsp]; simp [hfu])
    clear hfu hdd hsp hlv hI
    go_enter Try.func38, Try.ntmps38
    go_wp2
    refine ret_cell_slot isD rfl rfl rfl (c := [.slice a0 r.base.length c0, .slice a1 r.queue.length c1, .int .i64 0, .bool true]) (blkn (by simp)) (rcs_cs { r with fuse := 0, dead := true } a0 c0 a1 c1) rfl ?_
    exact HF.out _ _ _ _ HS.out HL.out (HB.out _ _)
  · have b0 : (fu == 0) = false := by simpa using h0
    cases dd with
    | true =>
      have HL := Lib.hid (show false = r.live by rw [hlv]; simp)
      have HS := Lib.hid (show r.spend = { r with fuse := fu, dead := true } by rw [hsp]; simp [hfu])
      clear hfu hdd hsp hlv hI h0
      go_enter Try.func38, Try.ntmps38
      go_wp2
      refine ret_cell_slot isD rfl rfl rfl (c := [.slice a0 r.base.length c0, .slice a1 r.queue.length c1, .int .i64 fu, .bool true]) (blkn (by simp)) (rcs_cs { r with fuse := fu, dead := true } a0 c0 a1 c1) rfl ?_
      exact HF.out _ _ _ _ HS.out HL.out (HB.out _ _)
    | false =>
      have HL := Lib.hid (show true = r.live by rw [hlv, b0]; rfl)
      by_cases hp : 0 < fu
      · have HS := Lib.hid (show r.spend = { r with fuse := fu - 1, dead := false } by rw [hsp, b0]; simp [hp])
        have d0 : decide (0 < fu) = true := by simpa using hp
        have r0 : IntKind.i64.wrap (fu - 1) = fu - 1 := by
          obtain ⟨h1, h2⟩ := hI
          exact IntWalk.i64_in _ (by omega)
        clear hfu hdd hsp hlv hI hp h0
        go_enter Try.func38, Try.ntmps38
        go_wp2
        refine ret_cell_slot isD rfl rfl rfl (c := [.slice a0 r.base.length c0, .slice a1 r.queue.length c1, .int .i64 (fu - 1), .bool false]) (blkn (by simp)) (rcs_cs { r with fuse := fu - 1, dead := false } a0 c0 a1 c1) rfl ?_
        exact HF.out _ _ _ _ HS.out HL.out (HB.out _ _)
      · have HS := Lib.hid (show r.spend = { r with fuse := fu, dead := false } by rw [hsp, b0]; simp [hp])
        have d0 : decide (0 < fu) = false := by simpa using hp
        clear hfu hdd hsp hlv hI hp h0
        go_enter Try.func38, Try.ntmps38
        go_wp2
        refine ret_cell_slot isD rfl rfl rfl (c := [.slice a0 r.base.length c0, .slice a1 r.queue.length c1, .int .i64 fu, .bool false]) (blkn (by simp)) (rcs_cs { r with fuse := fu, dead := false } a0 c0 a1 c1) rfl ?_
        exact HF.out _ _ _ _ HS.out HL.out (HB.out _ _)
theorem rfuse_any (r : Dk) (a0 : Option Addr) (c0 : Nat) (a1 : Option Addr) (c1 : Nat) (n : Int) (w : World) : Calls Try.prog 18 #[.agg (rcs r a0 c0 a1 c1).toArray, .int .i64 n] w fun e w' => e = .returned (.agg (rcs { r with fuse := max n (-1) } a0 c0 a1 c1).toArray) ∧ RowKit.Below w.heap.size w w' := by
  have HB := Lib.hid (fun (A B : Obj) => show RowKit.Below w.heap.size w ((w.alloc A).alloc B) from ((RowKit.Below.refl _ _).alloc (Nat.le_refl _) _).alloc (by simp) _)
  show Calls _ _ #[.agg #[.slice a0 r.base.length c0, .slice a1 r.queue.length c1, .int .i64 r.fuse, .bool r.dead], _] _ _
  by_cases h : n < -1
  · have e : max n (-1) = -1 := by omega
    rw [e]
    go_enter Try.func18, Try.ntmps18
    go_wp2
    refine ret_cell isD rfl rfl (c := [.slice a0 r.base.length c0, .slice a1 r.queue.length c1, .int .i64 (-1), .bool r.dead]) (blkn (by simp)) (rcs_cs { r with fuse := -1 } a0 c0 a1 c1) rfl ?_
    exact ⟨rfl, HB.out _ _⟩
  · have e : max n (-1) = n := by omega
    rw [e]
    by_cases h2 : n = -1
    · subst h2
      clear h e
      go_enter Try.func18, Try.ntmps18
      go_wp2
      refine ret_cell isD rfl rfl (c := [.slice a0 r.base.length c0, .slice a1 r.queue.length c1, .int .i64 (-1), .bool r.dead]) (blkn (by simp)) (rcs_cs { r with fuse := -1 } a0 c0 a1 c1) rfl ?_
      exact ⟨rfl, HB.out _ _⟩
    · have h3 : -1 < n := by omega
      clear h e h2
      go_enter Try.func18, Try.ntmps18
      go_wp2
      refine ret_cell isD rfl rfl (c := [.slice a0 r.base.length c0, .slice a1 r.queue.length c1, .int .i64 n, .bool r.dead]) (blkn (by simp)) (rcs_cs { r with fuse := n } a0 c0 a1 c1) rfl ?_
      exact ⟨rfl, HB.out _ _⟩
end Go.Proofs.Ytoibonalgmmkbaa
