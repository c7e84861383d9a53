/- Plain arithmetic: the school division of 128 by 64 bits in two steps of 32 bits (Knuth's algorithm D), on natural numbers. No program in it. -/
namespace Go.Proofs.Ytaebbfaheaghfaa.DivM

theorem split (q y1 y0 : Nat) : q * (y1 * 4294967296 + y0) = q * y1 * 4294967296 + q * y0 := by
  rw [Nat.mul_add, Nat.mul_assoc]

/-- the loop's invariant: q is not below the quotient -/
structure Inv (y1 y0 U d q r : Nat) : Prop where
  sum : q * y1 + r = U
  small : r < 4294967296
  above : U * 4294967296 + d < (q + 1) * (y1 * 4294967296 + y0)
  most : q ≤ 4294967297

theorem inv_init (y1 y0 U d : Nat) (h1 : 2147483648 ≤ y1) (h2 : y1 < 4294967296) (h0 : y0 < 4294967296) (hd : d < 4294967296) (hU : U < y1 * 4294967296 + y0) : Inv y1 y0 U d (U / y1) (U % y1) := by
  have hlt : U % y1 < y1 := Nat.mod_lt _ (by omega)
  have hs : U / y1 * y1 + U % y1 = U := Nat.div_add_mod' U y1
  refine ⟨hs, by omega, ?_, ?_⟩
  · rw [split, Nat.add_mul, Nat.add_mul]
    generalize U / y1 * y1 = p at *
    have := Nat.zero_le (U / y1 * y0 + 1 * y0)
    omega
  · have : U / y1 < 4294967298 := by
      rw [Nat.div_lt_iff_lt_mul (by omega)]
      omega
    omega

theorem go_pos (y0 d q r : Nat) (h : 4294967296 ≤ q ∨ 4294967296 * r + d < q * y0) : 1 ≤ q := by
  rcases h with h | h
  · omega
  · rcases Nat.eq_zero_or_pos q with e | e
    · subst e; omega
    · exact e

theorem go_above (y1 y0 U d q r : Nat) (hd : d < 4294967296) (hU : U < y1 * 4294967296 + y0) (hi : Inv y1 y0 U d q r) (h : 4294967296 ≤ q ∨ 4294967296 * r + d < q * y0) : U * 4294967296 + d < q * (y1 * 4294967296 + y0) := by
  rcases h with h | h
  · have := Nat.mul_le_mul_right (y1 * 4294967296 + y0) h
    omega
  · have hs := hi.sum
    rw [split]
    generalize q * y1 = p at *
    omega

theorem go_inv (y1 y0 U d q r : Nat) (hd : d < 4294967296) (hU : U < y1 * 4294967296 + y0) (hi : Inv y1 y0 U d q r) (h : 4294967296 ≤ q ∨ 4294967296 * r + d < q * y0) (hr : r + y1 < 4294967296) : Inv y1 y0 U d (q - 1) (r + y1) := by
  have ha := go_above y1 y0 U d q r hd hU hi h
  have hp := go_pos y0 d q r h
  obtain ⟨k, rfl⟩ : ∃ k, q = k + 1 := ⟨q - 1, by omega⟩
  have hs := hi.sum
  have hm := hi.most
  refine ⟨?_, hr, ?_, by omega⟩
  · rw [Nat.add_mul] at hs
    simp only [Nat.add_sub_cancel]
    omega
  · simpa using ha

/-- what a round's end by 'break' tells -/
theorem brk (y1 y0 U d q r : Nat) (h0 : y0 < 4294967296) (hd : d < 4294967296) (hU : U < y1 * 4294967296 + y0) (hi : Inv y1 y0 U d q r) (h : 4294967296 ≤ q ∨ 4294967296 * r + d < q * y0) (hr : 4294967296 ≤ r + y1) : q - 1 = (U * 4294967296 + d) / (y1 * 4294967296 + y0) := by
  have ha := go_above y1 y0 U d q r hd hU hi h
  have hp := go_pos y0 d q r h
  obtain ⟨k, rfl⟩ : ∃ k, q = k + 1 := ⟨q - 1, by omega⟩
  have hs := hi.sum
  have hm := hi.most
  simp only [Nat.add_sub_cancel]
  symm
  apply Nat.div_eq_of_lt_le
  · have h3 : k * y0 ≤ 4294967296 * y0 := Nat.mul_le_mul_right _ (by omega)
    rw [split]
    rw [Nat.add_mul] at hs
    generalize k * y1 = p at *
    omega
  · exact ha

theorem stop (y1 y0 U d q r : Nat) (hi : Inv y1 y0 U d q r) (h : q * y0 ≤ 4294967296 * r + d) : q = (U * 4294967296 + d) / (y1 * 4294967296 + y0) := by
  have hs := hi.sum
  symm
  apply Nat.div_eq_of_lt_le
  · rw [split]
    generalize q * y1 = p at *
    omega
  · exact hi.above

theorem q_lt (y1 y0 U d : Nat) (hd : d < 4294967296) (hU : U < y1 * 4294967296 + y0) : (U * 4294967296 + d) / (y1 * 4294967296 + y0) < 4294967296 := by
  rw [Nat.div_lt_iff_lt_mul (by omega)]
  omega

/-- two steps are one division -/
theorem two (y U a b : Nat) (hy : 0 < y) :
    (U * 4294967296 + a) / y * 4294967296 + ((U * 4294967296 + a) % y * 4294967296 + b) / y = (U * 18446744073709551616 + (a * 4294967296 + b)) / y ∧
    ((U * 4294967296 + a) % y * 4294967296 + b) % y = (U * 18446744073709551616 + (a * 4294967296 + b)) % y := by
  have e := Nat.div_add_mod' (U * 4294967296 + a) y
  have e2 : U * 18446744073709551616 + (a * 4294967296 + b) = ((U * 4294967296 + a) % y * 4294967296 + b) + y * ((U * 4294967296 + a) / y * 4294967296) := by
    rw [← Nat.mul_assoc, Nat.mul_comm y]
    generalize (U * 4294967296 + a) / y * y = p at *
    generalize (U * 4294967296 + a) % y = m at *
    omega
  rw [e2, Nat.add_mul_div_left _ _ hy, Nat.add_mul_mod_self_left]
  exact ⟨Nat.add_comm _ _, rfl⟩

/-- the shift: both sides 2^s times as great -/
theorem shifted (n y s : Nat) (_hy : 0 < y) : (n * 2 ^ s) / (y * 2 ^ s) = n / y ∧ (n * 2 ^ s) % (y * 2 ^ s) / 2 ^ s = n % y := by
  have hp : 0 < 2 ^ s := Nat.two_pow_pos s
  refine ⟨Nat.mul_div_mul_right _ _ hp, ?_⟩
  rw [Nat.mul_mod_mul_right, Nat.mul_div_cancel _ hp]

theorem halves (hi lo s : Nat) (hs : s ≤ 64) :
    (hi * 2 ^ s + lo / 2 ^ (64 - s)) * 18446744073709551616 + lo * 2 ^ s % 18446744073709551616 = (hi * 18446744073709551616 + lo) * 2 ^ s := by
  have e : (18446744073709551616 : Nat) = 2 ^ s * 2 ^ (64 - s) := by rw [← Nat.pow_add, show s + (64 - s) = 64 by omega]
  have e2 : lo * 2 ^ s / 18446744073709551616 = lo / 2 ^ (64 - s) := by
    rw [e, Nat.mul_comm lo, Nat.mul_div_mul_left _ _ (Nat.two_pow_pos s)]
  have e3 := Nat.div_add_mod' (lo * 2 ^ s) 18446744073709551616
  rw [e2] at e3
  rw [Nat.add_mul, Nat.add_mul, Nat.mul_right_comm hi]
  omega

theorem or_add (a b s : Nat) (h : b < 2 ^ s) : (a * 2 ^ s) ||| b = a * 2 ^ s + b := by
  rw [Nat.mul_comm, Nat.two_pow_add_eq_or_of_lt h]

/-- what the shift makes: y * 2^s is a number of 64 bits whose upper half is not below 2^31 -/
theorem norm (y s l : Nat) (hy : y < 2 ^ l) (hy2 : 2 ^ (l - 1) ≤ y) (hl : 1 ≤ l) (hl2 : l ≤ 64) (hs : s = 64 - l) :
    9223372036854775808 ≤ y * 2 ^ s ∧ y * 2 ^ s < 18446744073709551616 := by
  have hp : 0 < 2 ^ s := Nat.two_pow_pos s
  have a : 2 ^ (l - 1) * 2 ^ s = 9223372036854775808 := by
    rw [← Nat.pow_add, show l - 1 + s = 63 by omega]
  have b : 2 ^ l * 2 ^ s = 18446744073709551616 := by
    rw [← Nat.pow_add, show l + s = 64 by omega]
  refine ⟨?_, ?_⟩
  · rw [← a]; exact Nat.mul_le_mul_right _ hy2
  · rw [← b]; exact Nat.mul_lt_mul_of_pos_right hy hp

theorem u_lt (hi lo y s : Nat) (hs : s ≤ 64) (h : hi < y) (hl : lo < 18446744073709551616) : hi * 2 ^ s + lo / 2 ^ (64 - s) < y * 2 ^ s := by
  have e : (18446744073709551616 : Nat) = 2 ^ s * 2 ^ (64 - s) := by rw [← Nat.pow_add, show s + (64 - s) = 64 by omega]
  have a : lo / 2 ^ (64 - s) < 2 ^ s := by
    rw [Nat.div_lt_iff_lt_mul (Nat.two_pow_pos _), ← e]; exact hl
  have b : (hi + 1) * 2 ^ s ≤ y * 2 ^ s := Nat.mul_le_mul_right _ h
  rw [Nat.add_mul] at b
  omega

theorem low_lt (lo s : Nat) (hs : s ≤ 64) (hl : lo < 18446744073709551616) : lo / 2 ^ (64 - s) < 2 ^ s := by
  have e : (18446744073709551616 : Nat) = 2 ^ s * 2 ^ (64 - s) := by rw [← Nat.pow_add, show s + (64 - s) = 64 by omega]
  rw [Nat.div_lt_iff_lt_mul (Nat.two_pow_pos _), ← e]; exact hl

/-- the whole: the two steps' answers are the division's -/
theorem whole (hi lo y s Y U L : Nat) (hs : s ≤ 64) (hy : 0 < y) (eY : Y = y * 2 ^ s) (eU : U = hi * 2 ^ s + lo / 2 ^ (64 - s)) (eL : L = lo * 2 ^ s % 18446744073709551616)
    (Q1 V Q0 : Nat) (e1 : Q1 = (U * 4294967296 + L / 4294967296) / Y) (eV : V = (U * 4294967296 + L / 4294967296) % Y) (e0 : Q0 = (V * 4294967296 + L % 4294967296) / Y) :
    Q1 * 4294967296 + Q0 = (hi * 18446744073709551616 + lo) / y ∧ (V * 4294967296 + L % 4294967296) % Y / 2 ^ s = (hi * 18446744073709551616 + lo) % y := by
  have hY : 0 < Y := by rw [eY]; exact Nat.mul_pos hy (Nat.two_pow_pos s)
  have h2 := two Y U (L / 4294967296) (L % 4294967296) hY
  rw [show L / 4294967296 * 4294967296 + L % 4294967296 = L by omega] at h2
  have hN : U * 18446744073709551616 + L = (hi * 18446744073709551616 + lo) * 2 ^ s := by
    rw [eU, eL]; exact halves hi lo s hs
  rw [hN] at h2
  have hsh := shifted (hi * 18446744073709551616 + lo) y s hy
  subst e1 eV e0
  rw [← eY] at hsh
  refine ⟨?_, ?_⟩
  · rw [h2.1]; exact hsh.1
  · rw [h2.2]; exact hsh.2

end Go.Proofs.Ytaebbfaheaghfaa.DivM
