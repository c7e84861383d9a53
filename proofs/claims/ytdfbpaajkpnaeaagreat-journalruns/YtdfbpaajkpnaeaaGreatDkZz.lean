
/- Package disk: what flush and power leave; numbers that lie elsewhere. -/
import Derived.Test.YtdfbpaajkpnaeaaGreatDkX
namespace Go.Proofs.YtdfbpaajkpnaeaaGreat
set_option maxRecDepth 100000
open Go.RowKit Go.Lib

theorem keep_off {w : World} {a : Option Addr} {l : List Int} {F : Nat → Prop} (h : Nums w a l) (hF : ∀ i, F i → w.heap.size ≤ i) : l = [] ∨ ∀ b, inBlk a b → ¬ F b := by
  rcases h with h | ⟨b, off, ha, hb, _⟩
  · exact Or.inl (List.map_eq_nil_iff.1 h)
  · refine Or.inr ?_
    rintro b' ⟨q, e, rfl⟩ hf
    rw [ha] at e
    cases e
    have := hF _ hf
    have e2 : (⟨b, off, none⟩ : Addr).block = b := rfl
    omega
theorem cutS_full {s old : Sec} (hs : s.length = 64) (ho : old.length = 64) : cutS s old 64 = s := by
  unfold cutS
  rw [List.take_of_length_le (by omega), List.drop_of_length_le (by omega), List.append_nil]
/-- all goes in whole: what was told is there -/
theorem stl_full {d : Dk} (h : d.Ok) {x : Int} (hx : 0 ≤ x ∧ x < d.base.length) : ∀ k, k ≤ d.queue.length → (stl (fun _ => 64) d.queue d.base k).getD x.toNat [] = outK d x k
  | 0, _ => rfl
  | k + 1, hk => by
    obtain ⟨p, hp⟩ : ∃ p, d.queue[k]? = some p := ⟨_, List.getElem?_eq_getElem (by omega)⟩
    have hm := List.mem_of_getElem? hp
    have hi := h.qi p hm
    have ho : ((stl (fun _ => 64) d.queue d.base k).getD p.1 []).length = 64 := stl_ok (fun _ => Nat.le_refl _) h.bl h.qi h.ql k (by omega) _ (getD_mem (by rw [stl_len]; exact hi))
    rw [stl, show d.queue.getD k (0, []) = p by rw [List.getD, hp]; rfl, cutS_full (h.ql p hm) ho]
    by_cases e : x = (p.1 : Int)
    · subst e
      rw [outK_same hp, Int.toNat_natCast, List.getD, List.getElem?_set_self (by rw [stl_len]; exact hi)]
      rfl
    · rw [outK_other hp e, ← stl_full h hx k (by omega), List.getD, List.getElem?_set_ne (by omega), List.getD]
theorem flush_at {d : Dk} (h : d.Ok) (hl : d.live = true) (x : Int) : d.flush.at_ x = d.at_ x := by
  have e : d.flush = { d.spend with base := stl (fun _ => 64) d.queue d.base d.queue.length, queue := [] } := by unfold Dk.flush; rw [hl]; rfl
  rw [e]
  unfold Dk.at_
  simp only [stl_len]
  by_cases hx : 0 ≤ x ∧ x < d.base.length
  · rw [if_pos hx, if_pos hx]
    have := stl_full h hx d.queue.length (Nat.le_refl _)
    unfold outK at this
    rw [List.take_length] at this
    rw [← this]
    rfl
  · rw [if_neg hx, if_neg hx]
theorem power_at {d : Dk} (hq : d.queue = []) (l : List Int) (x : Int) : (d.power l).at_ x = d.at_ x := by
  unfold Dk.power Dk.at_
  rw [hq]
  rfl
end Go.Proofs.YtdfbpaajkpnaeaaGreat
