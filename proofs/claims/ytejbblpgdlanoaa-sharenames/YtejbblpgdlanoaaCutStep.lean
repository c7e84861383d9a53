/- Plain arithmetic of a whole cut into parts: who has a cent more. No program in it. -/
import Derived.Test.YtejbblpgdlanoaaCutMath
namespace Go.Proofs.Ytejbblpgdlanoaa
open Go.Sort

section
variable {n : Nat} {d : Array (Fin (n + 1))}
theorem ord_perm (hp : PermIn 0 (n + 1) (places n) d) : d.size = n + 1 ∧ d.toList.Perm (List.finRange (n + 1)) := by
  have hz : (places n).size = n + 1 := by simp [places]
  have hsz : d.size = n + 1 := by rw [hp.1, hz]
  refine ⟨hsz, ?_⟩
  have h := hp.2.2
  rw [ext_all d (n + 1) hsz, ext_all _ _ hz] at h
  exact h
theorem ord_inj (hp : PermIn 0 (n + 1) (places n) d) : ∀ i j, i < j → j < n + 1 → d[i]! ≠ d[j]! := by
  obtain ⟨hsz, h⟩ := ord_perm hp
  have hn : d.toList.Nodup := h.nodup_iff.mpr (List.nodup_finRange _)
  intro i j hij hj e
  rw [← list_get d i (by omega), ← list_get d j (by omega), getElem!_pos d.toList i (by simp; omega), getElem!_pos d.toList j (by simp; omega)] at e
  have := (List.getElem_inj hn).mp e
  omega
theorem ord_surj (hp : PermIn 0 (n + 1) (places n) d) (x : Fin (n + 1)) : ∃ p, p < n + 1 ∧ d[p]! = x := by
  obtain ⟨hsz, h⟩ := ord_perm hp
  have hx : x ∈ d.toList := h.mem_iff.mpr (List.mem_finRange x)
  obtain ⟨p, hp2, e⟩ := List.getElem_of_mem hx
  have hpl : p < d.size := by simpa using hp2
  exact ⟨p, by omega, by rw [← list_get d p hpl, getElem!_pos d.toList p hp2]; exact e⟩
end

theorem up_zero (t : Int) (l : List Int) (n j : Nat) : upF t l n 0 j = 0 := by unfold upF; split <;> simp
theorem up_bd (t : Int) (l : List Int) (n k j : Nat) : 0 ≤ upF t l n k j ∧ upF t l n k j ≤ 1 := by unfold upF; split <;> (try split) <;> omega
theorem up_next {t : Int} {l : List Int} {n : Nat} {d : Array (Fin (n + 1))} (hp : PermIn 0 (n + 1) (places n) d) (hs : SortedIn (ahd (rP t l n)) 0 (n + 1) d) (k : Nat) (hk : k < n + 1) (j : Nat) (hj : j < n + 1) :
    upF t l n (k + 1) j = (if j = d[k]!.val then 1 else upF t l n k j) ∧ (j = d[k]!.val → upF t l n k j = 0) := by
  have hinj := ord_inj hp
  have hr := rank_at d hp hs hinj k hk
  obtain ⟨p, hpn, hpe⟩ := ord_surj hp ⟨j, hj⟩
  have hrp := rank_at d hp hs hinj p hpn
  rw [hpe] at hrp
  unfold upF
  rw [dif_pos hj, dif_pos hj, hrp]
  by_cases e : j = d[k]!.val
  · have : (⟨j, hj⟩ : Fin (n + 1)) = d[k]! := Fin.ext e
    rw [this, hr] at hrp
    subst hrp
    rw [if_pos e]
    exact ⟨by rw [if_pos (by omega)], fun _ => by rw [if_neg (by omega)]⟩
  · have hpk : p ≠ k := fun h => by subst h; exact e (by rw [hpe])
    rw [if_neg e]
    refine ⟨?_, fun h => absurd h e⟩
    by_cases h1 : p < k
    · rw [if_pos (by omega), if_pos h1]
    · rw [if_neg (by omega), if_neg h1]
end Go.Proofs.Ytejbblpgdlanoaa
