/- Plain facts on what is read back of what was written. No walk. -/
import Derived.Test.YtojeonepplfhlaaWireD
namespace Go.Proofs.Ytojeonepplfhlaa

theorem num_app (A B : List Int) (bad : Bool) (n : Nat) (h : A.length = n) : num (A ++ B) bad n = (le A, B, bad) := by
  subst h
  unfold num
  rw [if_pos (by simp), List.take_left, List.drop_left]
theorem num_short (l : List Int) (bad : Bool) (n : Nat) (h : l.length < n) : num l bad n = (0, [], true) := if_neg (by omega)
theorem count_bad (bad : Bool) (most : Int) : count [] bad most = (0, [], true) := by
  unfold count
  rw [num_short [] bad 1 (by simp), if_neg (by simp), if_neg (by simp), if_neg (by simp)]
  unfold countEnd
  split <;> rfl
theorem le_leb_of (n k : Nat) (h : n < 256 ^ k) : le (leb n k) = n := by rw [le_leb, Nat.mod_eq_of_lt h]
theorem leb_one (n : Nat) (h : n < 256) : leb n 1 = [(n : Int)] := by simp [leb]; omega

/-- A count is read back as it was. -/
theorem count_back (m : Nat) (B : List Int) (most : Int) (hm : m ≤ 4294967295) (hmost : (m : Int) ≤ most) : count (cnt m ++ B) false most = (m, B, false) := by
  unfold cnt
  by_cases h1 : m < 253
  · rw [if_pos h1]
    unfold count
    rw [num_app (leb m 1) B false 1 (leb_len m 1)]
    simp only
    rw [le_leb_of m 1 (by omega), if_neg (by omega), if_neg (by omega), if_neg (by omega), countEnd_ok _ _ _ _ _ (by omega)]
    simp
  · rw [if_neg h1]
    by_cases h2 : m ≤ 65535
    · rw [if_pos h2]
      unfold count
      rw [show (253 : Int) :: leb m 2 ++ B = [253] ++ (leb m 2 ++ B) from rfl, num_app [253] _ false 1 rfl]
      simp only
      rw [if_pos (by rfl), num_app (leb m 2) B false 2 (leb_len m 2)]
      simp only
      rw [le_leb_of m 2 (by omega), countEnd_ok _ _ _ _ _ (by omega)]
      simp
    · rw [if_neg h2]
      unfold count
      rw [show (254 : Int) :: leb m 4 ++ B = [254] ++ (leb m 4 ++ B) from rfl, num_app [254] _ false 1 rfl]
      simp only
      rw [if_neg (by simp [le]), if_pos (by rfl), num_app (leb m 4) B false 4 (leb_len m 4)]
      simp only
      rw [le_leb_of m 4 (by omega), countEnd_ok _ _ _ _ _ (by omega)]
      simp
/-- A count that is cut can't be read. -/
theorem count_cut (m : Nat) (j : Nat) (most : Int) (hj : j < (cnt m).length) : count ((cnt m).take j) false most = (0, [], true) := by
  rcases Nat.eq_zero_or_pos j with h0 | h0
  · subst h0
    rw [List.take_zero, count_bad]
  unfold cnt at hj ⊢
  by_cases h1 : m < 253
  · rw [if_pos h1, leb_len] at hj
    omega
  · rw [if_neg h1] at hj ⊢
    by_cases h2 : m ≤ 65535
    · rw [if_pos h2, List.length_cons, leb_len] at hj
      rw [if_pos h2]
      obtain ⟨i, rfl⟩ : ∃ i, j = i + 1 := ⟨j - 1, by omega⟩
      rw [List.take_succ_cons]
      unfold count
      rw [show (253 : Int) :: (leb m 2).take i = [253] ++ (leb m 2).take i from rfl, num_app [253] _ false 1 rfl]
      simp only
      rw [if_pos (by rfl), num_short _ _ 2 (by rw [List.length_take, leb_len]; omega)]
      exact countEnd_no _ _ _ _ _ (by omega)
    · rw [if_neg h2, List.length_cons, leb_len] at hj
      rw [if_neg h2]
      obtain ⟨i, rfl⟩ : ∃ i, j = i + 1 := ⟨j - 1, by omega⟩
      rw [List.take_succ_cons]
      unfold count
      rw [show (254 : Int) :: (leb m 4).take i = [254] ++ (leb m 4).take i from rfl, num_app [254] _ false 1 rfl]
      simp only
      rw [if_neg (by simp [le]), if_pos (by rfl), num_short _ _ 4 (by rw [List.length_take, leb_len]; omega)]
      exact countEnd_no _ _ _ _ _ (by omega)

theorem cnt_bys (m : Nat) : Bys (cnt m) := by
  unfold cnt
  split
  · exact leb_bys m 1
  · split
    · exact Bys.app (l := [253]) (by unfold Bys; decide) (leb_bys m 2)
    · exact Bys.app (l := [254]) (by unfold Bys; decide) (leb_bys m 4)
theorem cnt_pos (m : Nat) : 0 < (cnt m).length := by
  unfold cnt
  split
  · simp [leb_len]
  · split <;> simp
theorem cnt_max (m : Nat) : (cnt m).length ≤ 5 := by
  unfold cnt
  split
  · simp [leb_len]
  · split <;> simp [leb_len]

/-- What a Reader says of three numbers, one behind the other. -/
def three (l : List Int) (most : Int) : Nat × Nat × (Nat × List Int × Bool) :=
  ((num l false 4).1, (num (num l false 4).2.1 (num l false 4).2.2 8).1, count (num (num l false 4).2.1 (num l false 4).2.2 8).2.1 (num (num l false 4).2.1 (num l false 4).2.2 8).2.2 most)
theorem three_back (a u m : Nat) (ha : a < 4294967296) (hu : u < 18446744073709551616) (hm : m ≤ 4294967295) :
    three (leb a 4 ++ (leb u 8 ++ cnt m)) 4294967295 = (a, u, (m, [], false)) := by
  unfold three
  rw [num_app (leb a 4) _ false 4 (leb_len a 4)]
  simp only
  rw [num_app (leb u 8) _ false 8 (leb_len u 8)]
  simp only
  have h := count_back m [] 4294967295 hm (by omega)
  rw [List.append_nil] at h
  rw [h, le_leb_of a 4 (by omega), le_leb_of u 8 (by omega)]
theorem three_cut (a u m k : Nat) (hk : k < (leb a 4 ++ (leb u 8 ++ cnt m)).length) : ∃ x y, three ((leb a 4 ++ (leb u 8 ++ cnt m)).take k) 4294967295 = (x, y, (0, [], true)) := by
  rw [List.length_append, List.length_append, leb_len, leb_len] at hk
  unfold three
  by_cases h1 : k < 4
  · rw [num_short _ false 4 (by rw [List.length_take]; omega)]
    simp only
    rw [num_short [] true 8 (by simp)]
    simp only
    rw [count_bad]
    exact ⟨_, _, rfl⟩
  · rw [List.take_append, List.take_of_length_le (by rw [leb_len]; omega), num_app (leb a 4) _ false 4 (leb_len a 4), leb_len]
    simp only
    by_cases h2 : k < 12
    · rw [num_short _ false 8 (by rw [List.length_take]; omega)]
      simp only
      rw [count_bad]
      exact ⟨_, _, rfl⟩
    · rw [List.take_append, List.take_of_length_le (by rw [leb_len]; omega), num_app (leb u 8) _ false 8 (leb_len u 8), leb_len]
      simp only
      rw [count_cut m (k - 4 - 8) _ (by omega)]
      exact ⟨_, _, rfl⟩
end Go.Proofs.Ytojeonepplfhlaa
