/- Plain numbers: a number of two digits by one of one digit, digit by digit; a product bit by bit; a quotient bit by bit. No program. -/
import Derived.Laws.Bits64b
import Derived.Lib.Mul64
import Derived.Tactics
import Derived.Lib.Hide
namespace Go.Proofs.Ytompcibcgfjpfaa

theorem dig_mul (q y1 y0 : Nat) : q * (y1 * 4294967296 + y0) = q * y1 * 4294967296 + q * y0 := by rw [Nat.mul_add, ← Nat.mul_assoc]
/-- One digit of a quotient, guessed by the upper digit alone: never too small. -/
theorem dig_first (U u1 y1 y0 : Nat) (h1 : 0 < y1) (hu : u1 < 4294967296) : (U * 4294967296 + u1) / (y1 * 4294967296 + y0) ≤ U / y1 := by
  have h := Nat.div_le_div_left (a := U * 4294967296 + u1) (show y1 * 4294967296 ≤ y1 * 4294967296 + y0 by omega) (by omega)
  refine Nat.le_trans h ?_
  rw [Nat.mul_comm y1, ← Nat.div_div_eq_div_mul]
  refine Nat.div_le_div_right ?_
  omega
/-- What the guess is corrected by. -/
theorem dig_more (U u1 y1 y0 q r : Nat) (_hy : 0 < y1) (hU : U < y1 * 4294967296 + y0) (hu : u1 < 4294967296) (hq : q * y1 + r = U)
    (hc : 4294967296 ≤ q ∨ r * 4294967296 + u1 < q * y0) : (U * 4294967296 + u1) / (y1 * 4294967296 + y0) < q := by
  rw [Nat.div_lt_iff_lt_mul (by omega)]
  rcases hc with hc | hc
  · have := Nat.mul_le_mul_right (y1 * 4294967296 + y0) hc
    omega
  · have e := dig_mul q y1 y0
    rw [e, ← hq, Nat.add_mul, Nat.add_assoc]
    exact Nat.add_lt_add_left hc _
theorem dig_done (U u1 y1 y0 q r : Nat) (hy : 0 < y1) (hq : q * y1 + r = U) (hle : (U * 4294967296 + u1) / (y1 * 4294967296 + y0) ≤ q)
    (hc : q * y0 ≤ r * 4294967296 + u1) : (U * 4294967296 + u1) / (y1 * 4294967296 + y0) = q := by
  refine Nat.le_antisymm hle ?_
  rw [Nat.le_div_iff_mul_le (by omega), dig_mul]
  omega
theorem dig_break (U u1 y1 y0 q r : Nat) (hy : 0 < y1) (hy0 : y0 < 4294967296) (hU : U < y1 * 4294967296 + y0) (hq : q * y1 + r = U) (hr : 4294967296 ≤ r)
    (hle : (U * 4294967296 + u1) / (y1 * 4294967296 + y0) ≤ q) : (U * 4294967296 + u1) / (y1 * 4294967296 + y0) = q := by
  refine dig_done U u1 y1 y0 q r hy hq hle ?_
  have h1 : q < 4294967296 := by
    rw [← Nat.mul_lt_mul_right (a := y1) hy]
    rw [Nat.mul_comm 4294967296]
    omega
  have h2 : q * y0 ≤ 4294967296 * 4294967296 := Nat.mul_le_mul (by omega) (by omega)
  omega
/-- The rest behind a digit. -/
theorem rest_wrap (D Y : Nat) (hY : 0 < Y) (hY2 : Y ≤ 18446744073709551616) (a b : Int) (ha : a % 18446744073709551616 = (D : Int) % 18446744073709551616) (hb : b % 18446744073709551616 = ((D / Y * Y : Nat) : Int) % 18446744073709551616) :
    (a - b) % 18446744073709551616 = ((D % Y : Nat) : Int) := by
  have h1 := Nat.div_add_mod' D Y
  have h2 := Nat.mod_lt D hY
  omega
/-- Two digits by one: the quotient's digits, and the rest. -/
theorem dig_two (U u1 u0 Y : Nat) (hY : 0 < Y) :
    (U * 18446744073709551616 + (u1 * 4294967296 + u0)) / Y = (U * 4294967296 + u1) / Y * 4294967296 + ((U * 4294967296 + u1) % Y * 4294967296 + u0) / Y ∧
    (U * 18446744073709551616 + (u1 * 4294967296 + u0)) % Y = ((U * 4294967296 + u1) % Y * 4294967296 + u0) % Y := by
  have e : U * 18446744073709551616 + (u1 * 4294967296 + u0) = ((U * 4294967296 + u1) % Y * 4294967296 + u0) + Y * ((U * 4294967296 + u1) / Y * 4294967296) := by
    have h := Nat.div_add_mod (U * 4294967296 + u1) Y
    rw [← Nat.mul_assoc]
    omega
  rw [e]
  constructor
  · rw [Nat.add_mul_div_left _ _ hY]; omega
  · rw [Nat.add_mul_mod_self_left]
theorem dig_lt {U u1 Y : Nat} (hU : U < Y) (hu : u1 < 4294967296) : (U * 4294967296 + u1) / Y < 4294967296 := by
  rw [Nat.div_lt_iff_lt_mul (by omega)]
  have := Nat.mul_le_mul_right 4294967296 (show U + 1 ≤ Y from hU)
  rw [Nat.mul_comm 4294967296 Y]
  omega
/-- Shifted both: the same quotient, the rest shifted. -/
theorem div_shift (N y k : Nat) : N * 2 ^ k / (y * 2 ^ k) = N / y := Nat.mul_div_mul_right _ _ (Nat.pow_pos (by omega))
theorem mod_shift (N y k : Nat) : N * 2 ^ k % (y * 2 ^ k) = N % y * 2 ^ k := Nat.mul_mod_mul_right _ _ _

/-- A product, bit by bit. -/
theorem bit_mul (a b i : Nat) : a * (b / 2 ^ i) = 2 * (a * (b / 2 ^ (i + 1))) + a * (b / 2 ^ i % 2) := by
  have h : b / 2 ^ i = 2 * (b / 2 ^ (i + 1)) + b / 2 ^ i % 2 := by
    rw [Nat.pow_succ, ← Nat.div_div_eq_div_mul]; omega
  conv => lhs; rw [h]
  rw [Nat.mul_add, Nat.mul_left_comm]
/-- A quotient, bit by bit. -/
theorem bit_div (N c i : Nat) (hc : 0 < c) : N / 2 ^ i / c = 2 * (N / 2 ^ (i + 1) / c) + (if c ≤ 2 * (N / 2 ^ (i + 1) % c) + N / 2 ^ i % 2 then 1 else 0) ∧
    N / 2 ^ i % c = 2 * (N / 2 ^ (i + 1) % c) + N / 2 ^ i % 2 - (if c ≤ 2 * (N / 2 ^ (i + 1) % c) + N / 2 ^ i % 2 then c else 0) := by
  have h : N / 2 ^ i = 2 * (N / 2 ^ (i + 1)) + N / 2 ^ i % 2 := by
    rw [Nat.pow_succ, ← Nat.div_div_eq_div_mul]; omega
  generalize N / 2 ^ (i + 1) = V at *
  obtain ⟨b, hb⟩ : ∃ b, N / 2 ^ i % 2 = b := ⟨_, rfl⟩
  have hb2 : b < 2 := by omega
  rw [hb] at h ⊢
  rw [h]
  have h1 := Nat.div_add_mod V c
  have h2 := Nat.mod_lt V hc
  obtain ⟨q, hq⟩ : ∃ q, V / c = q := ⟨_, rfl⟩
  obtain ⟨r, hr⟩ : ∃ r, V % c = r := ⟨_, rfl⟩
  rw [hq, hr] at h1 ⊢
  rw [hr] at h2
  have e : 2 * V + b = (2 * r + b) + c * (2 * q) := by rw [← h1, Nat.mul_left_comm]; omega
  rw [e, Nat.add_mul_div_left _ _ hc, Nat.add_mul_mod_self_left]
  split
  · rename_i hle
    have e2 : 2 * r + b = (2 * r + b - c) + c * 1 := by omega
    rw [e2, Nat.add_mul_div_left _ _ hc, Nat.add_mul_mod_self_left, Nat.div_eq_of_lt (by omega), Nat.mod_eq_of_lt (by omega)]
    omega
  · rw [Nat.div_eq_of_lt (by omega), Nat.mod_eq_of_lt (by omega)]
    omega
/-- A product by a number, rounded up; the greatest number where it is more. -/
def upV (N c : Nat) : Nat := if c ≤ N / 18446744073709551616 then 18446744073709551615 else if N % c = 0 ∨ N / c = 18446744073709551615 then N / c else N / c + 1
/-- So many times c are at least N, and one less is not. -/
theorem up_le (N c k : Nat) (hc : 0 < c) (hk : k < 18446744073709551615) : upV N c ≤ k ↔ N ≤ k * c := by
  unfold upV
  have h1 := Nat.div_add_mod N c
  have h2 := Nat.mod_lt N hc
  split
  · rename_i h
    constructor
    · omega
    · intro h3
      have h4 := Nat.mul_le_mul_right c (show k ≤ 18446744073709551614 by omega)
      have : c * 18446744073709551616 ≤ N := Nat.le_trans (Nat.mul_le_mul_right _ h) (Nat.div_mul_le_self _ _)
      omega
  · have key : ∀ m, N / c + 1 ≤ m ∨ (N % c = 0 ∧ N / c ≤ m) → N ≤ m * c := by
      intro m hm
      rcases hm with hm | ⟨hm, hm2⟩
      · have := Nat.mul_le_mul_right c hm
        rw [Nat.add_mul, Nat.mul_comm (N / c)] at this
        omega
      · have := Nat.mul_le_mul_right c hm2
        rw [Nat.mul_comm (N / c)] at this
        omega
    have key2 : ∀ m, N ≤ m * c → N / c ≤ m ∧ (N / c = m → N % c = 0) := by
      intro m hm
      have h3 : N / c ≤ m := by
        have := Nat.div_le_div_right (c := c) hm
        rwa [Nat.mul_div_cancel _ hc] at this
      refine ⟨h3, fun h4 => ?_⟩
      rw [← h4, Nat.mul_comm] at hm
      omega
    split
    · rename_i h
      constructor
      · intro h3
        apply key
        rcases h with h | h
        · exact Or.inr ⟨h, h3⟩
        · omega
      · exact fun h3 => (key2 k h3).1
    · rename_i h
      constructor
      · exact fun h3 => key k (Or.inl h3)
      · intro h3
        have := key2 k h3
        omega
theorem up_max (N c : Nat) : upV N c ≤ 18446744073709551615 := by
  unfold upV
  split
  · omega
  · rename_i h
    have : N / c ≤ 18446744073709551615 := by
      rcases Nat.eq_zero_or_pos c with h0 | h0
      · subst h0; simp
      · have : N < 18446744073709551616 * c := by
          have := Nat.div_add_mod N 18446744073709551616
          have := Nat.mod_lt N (show 0 < 18446744073709551616 by omega)
          have h3 : (N / 18446744073709551616 + 1) ≤ c := by omega
          have := Nat.mul_le_mul_left 18446744073709551616 h3
          omega
        have := (Nat.div_lt_iff_lt_mul h0 (x := N) (y := 18446744073709551616)).2 this
        omega
    split <;> omega
end Go.Proofs.Ytompcibcgfjpfaa
