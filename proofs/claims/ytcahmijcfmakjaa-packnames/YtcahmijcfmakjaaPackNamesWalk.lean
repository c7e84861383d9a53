/- The walk of falseworklaw06.PackNames. -/
import Derived.Test.YtcahmijcfmakjaaPkL
namespace Go.Proofs.Ytcahmijcfmakjaa
open Go.RowKit Go.Lib

/-- as many zeros -/
def zeroB (n : Nat) : Obj := .cells (madeCells #[.int .u8 0] n) 5
theorem zeroB_get (n j : Nat) (h : j < n) : (madeCells #[Value.int .u8 0] n)[j]? = some (.int .u8 0) := by
  unfold madeCells
  simp [h, Nat.mod_one]
theorem zeroB_at (n : Nat) (w : World) : BAt (w.alloc (zeroB n)) (some ⟨w.heap.size, 0, none⟩) (List.replicate n 0) := by
  have hb : (w.alloc (zeroB n)).heap[w.heap.size]? = some (.cells (madeCells #[.int .u8 0] n) 5) := heap_alloc_new w _
  refine Or.inr ⟨w.heap.size, 0, rfl, by simp, fun i hi => ?_⟩
  rw [List.length_replicate] at hi
  rw [Nat.zero_add, cell_of_row _ w.heap.size i _ 5 (0, 0) hb, zeroB_get n i hi]
  simp [List.getD, hi]
theorem mk_bytes (n : Nat) (hn : n ≤ 1000000) (w : World) : (Instr.makeSlice 22 (.int .i64 (n : Int)) (.int .i64 (n : Int))).run Try.prog w = .ok (.slice (some ⟨w.heap.size, 0, none⟩) n n) (w.alloc (zeroB n)) := by
  obtain ⟨i, hi, hz, h1, h8⟩ := info8
  have h := run_make (P := Try.prog) w 22 5 i (.int .u8 0) Try.underlying22 hi hz .i64 .i64 n n (by omega) (Int.le_refl _) (by rw [h8]; omega) (by omega)
  rw [h1, Nat.mul_one, Int.toNat_natCast] at h
  exact h
/-- the long text -/
theorem long_text (w : World) : ∃ (o : Obj) (S : ByteArray), S.size = 65537 ∧ (∀ W : World, (Instr.makeSlice 22 (.int .i64 65537) (.int .i64 65537)).run Try.prog W = .ok (.slice (some ⟨W.heap.size, 0, none⟩) 65537 65537) (W.alloc o)) ∧ (convert 22 9 (.slice (some ⟨w.heap.size, 0, none⟩) 65537 65537)).run Try.prog (w.alloc o) = .ok (.string S) (w.alloc o) := by
  obtain ⟨n, hn⟩ : ∃ n : Nat, n = 65537 := ⟨_, rfl⟩
  have h1 := mk_bytes n (by omega)
  have h2 := run_conv (zeroB_at n w) n n (by rw [List.length_replicate])
  refine ⟨zeroB n, strB (List.replicate n 0), by rw [strB_size, List.length_replicate, hn], ?_, ?_⟩
  · have e : ((65537 : Int)) = (n : Int) := by omega
    rw [e, show (65537 : Nat) = n from hn.symm]
    exact h1
  · rw [← hn]
    exact h2

theorem uv0 : uvarint 0 = [0] := by rw [uvarint_small (by omega)]; decide
theorem enc_empty : ([] : List UInt8) ++ encT [⟨#[]⟩] = [0] := by
  have : uvarint (ByteArray.size ⟨#[]⟩) = [0] := uv0
  simp [encT, this]

set_option maxHeartbeats 800000 in
set_option maxRecDepth 100000 in
theorem packNames_walk (w : World) : Calls Try.prog 3 #[] w fun e w' => e = .returned (.bool true) ∧ RowKit.Below w.heap.size w w' := by
  obtain ⟨o, S, hS, hmk, hcv⟩ := long_text w
  have C1 : ∀ (W : World) (g : Nat), g = W.heap.size → Hid (Calls Try.prog 8 #[.slice none 0 0, .slice (some ⟨g, 0, none⟩) 1 1] (W.alloc (.cells #[.string S] 9)) fun e w' => e = .returned (.tuple #[.slice none 0 0, .int .i64 61]) ∧ RowKit.Below (W.alloc (.cells #[.string S] 9)).heap.size (W.alloc (.cells #[.string S] 9)) w') := fun W g hg => Lib.hid (by subst hg; exact (text_any none [] 0 0 (some ⟨W.heap.size, 0, none⟩) [S] 1 1 _ (Or.inl rfl) rfl (fun _ => rfl) (by simp) (one_row Value.string W S _ _ rfl) rfl (by simp)).mono (by
    rintro e w' ⟨hb, (⟨h, _⟩ | ⟨_, he⟩)⟩
    · have := h S (by simp); omega
    · exact ⟨he, hb⟩))
  have C2 : ∀ W : World, Hid (Calls Try.prog 8 #[.slice none 0 0, .slice (some ⟨W.heap.size, 0, none⟩) 1 1] (W.alloc (.cells #[.string ⟨#[]⟩] 9)) fun e w' => (∃ a c, e = .returned (.tuple #[.slice a 1 c, .int .i64 0])) ∧ RowKit.Below (W.alloc (.cells #[.string ⟨#[]⟩] 9)).heap.size (W.alloc (.cells #[.string ⟨#[]⟩] 9)) w') := fun W => Lib.hid ((text_any none [] 0 0 (some ⟨W.heap.size, 0, none⟩) [⟨#[]⟩] 1 1 _ (Or.inl rfl) rfl (fun _ => rfl) (by simp) (one_row Value.string W ⟨#[]⟩ _ _ rfl) rfl (by simp)).mono (by
    rintro e w' ⟨hb, (⟨_, v, he, ho⟩ | ⟨⟨t, ht, hbig⟩, _⟩)⟩
    · rw [enc_empty] at ho
      obtain ⟨a, c, hv, _⟩ := ho.row
      exact ⟨⟨a, c, by rw [he, hv]; rfl⟩, hb⟩
    · rw [List.mem_singleton.1 ht] at hbig
      exact absurd hbig (by decide)))
  have C3 := fun (W : World) => Lib.hid (new_any none [] 0 0 W (Or.inl rfl) rfl (by simp) (fun _ => rfl))
  have C4 := fun (base g : Nat) (W : World) (h : RD W base g [] false) => Lib.hid (rnum base g _ _ W h (by simp))
  rw [show nV [] = 0 by decide, show nR [] = [] by decide, show (false || !nO []) = true by decide] at C4
  have C5 := fun (base g : Nat) (W : World) (h : RD W base g [] true) => Lib.hid (ended_any base g _ _ W h)
  rw [show endB [] true = false by decide] at C5
  have C6 := fun (base g : Nat) (W : World) (h : RD W base g [] false) => Lib.hid (ended_any base g _ _ W h)
  rw [show endB [] false = true by decide] at C6
  clear hS
  go_enter Try.func3, Try.ntmps3
  go_wp2_with fail
  with_reducible refine (C1 _ _ (by simp)).out.mono ?_
  rintro _ w1 ⟨rfl, hb1⟩
  have HW1 := Lib.hid (bl_trans (((RowKit.Below.refl w.heap.size w).alloc (Nat.le_refl _) o).alloc (by simp) _) hb1)
  clear hb1 C1 hmk hcv
  go_wp2_with fail
  refine (C2 _).out.mono ?_
  rintro _ w2 ⟨⟨a2, c2, rfl⟩, hb2⟩
  have HW2 := Lib.hid (bl_trans HW1.out (bl_trans ((RowKit.Below.refl _ _).alloc (Nat.le_refl _) _) hb2))
  clear hb2 C2
  go_wp2_with fail
  refine (C3 _).out.mono ?_
  rintro _ w3 ⟨g, rfl, hr3, hB3⟩
  have HW3 := Lib.hid (bl_trans HW2.out hB3)
  have HS := Lib.hid (show w.heap.size ≤ w2.heap.size from HW2.out.size)
  have HR3 := Lib.hid hr3
  clear hr3 hB3
  go_wp2_with fail
  refine (C4 _ _ _ HR3.out).out.mono ?_
  rintro _ w4 ⟨rfl, ht4⟩
  have HT4 := Lib.hid ht4.1
  have HW4 := Lib.hid (ht4.below HW3.out HW3.out.size HS.out)
  clear ht4 C4
  go_wp2_with fail
  refine (alive_any _).mono ?_
  rintro _ w5 ⟨rfl, hb5⟩
  have HT5 := Lib.hid (HT4.out.below hb5)
  have HW5 := Lib.hid (bl_trans HW4.out hb5)
  clear hb5
  go_wp2_with fail
  refine (C5 _ _ _ HT5.out).out.mono ?_
  rintro _ _ ⟨rfl, rfl⟩
  go_wp2_with fail
  refine (C3 _).out.mono ?_
  rintro _ w6 ⟨g6, rfl, hr6, hB6⟩
  have HW6 := Lib.hid (bl_trans HW5.out hB6)
  have HR6 := Lib.hid hr6
  clear hr6 hB6
  go_wp2_with fail
  refine (C6 _ _ _ HR6.out).out.mono ?_
  rintro _ _ ⟨rfl, rfl⟩
  go_wp2
  go_ret
  exact ⟨rfl, HW6.out⟩
end Go.Proofs.Ytcahmijcfmakjaa
