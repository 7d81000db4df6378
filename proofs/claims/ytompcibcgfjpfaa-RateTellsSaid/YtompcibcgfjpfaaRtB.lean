/- Contracts of package math/bits and of cmp.Compare, as far as package rate calls them. -/
import Derived.Test.YtompcibcgfjpfaaRows
import Derived.Test.YtompcibcgfjpfaaRtA
import Derived.WalkKit
import Derived.WalkSpells
import Derived.WalkLawsBesides
import Derived.Lib.BitFns
import Derived.Lib.ItoaNum
import Derived.Laws.MathBits
import Derived.Lib.Walk
import Derived.Lib.Small
import Derived.Lib.Strings
import Derived.Lib.Slices
import Derived.Lib.Tables
import Derived.Outline
namespace Go.Proofs.Ytompcibcgfjpfaa
open Go.RowKit

theorem cmp_nan (a : Int) (w : World) : Calls Try.prog 23 #[.int .u64 a] w fun e w' => e = .returned (.bool false) ∧ w = w' := by
  go_enter Try.func23, Try.ntmps23
  go_wp2
  go_ret
  exact ⟨by simp, rfl⟩
/-- What a comparison answers. -/
def ordV (a b : Nat) : Int := if a < b then -1 else if b < a then 1 else 0
theorem cmp_any (a b : Nat) (w : World) : Calls Try.prog 18 #[.int .u64 (a : Int), .int .u64 (b : Int)] w fun e w' => e = .returned (.int .i64 (ordV a b)) ∧ w = w' := by
  rcases Nat.lt_trichotomy a b with h | h | h
  · have h1 : ((a : Int) < (b : Int)) = True := by simp; omega
    have e : ordV a b = -1 := by unfold ordV; rw [if_pos h]
    rw [e]
    clear h e
    go_enter Try.func18, Try.ntmps18
    go_wp2_with fail
    refine (cmp_nan _ w).mono ?_
    rintro e w' ⟨rfl, rfl⟩
    go_wp2_with fail
    refine (cmp_nan _ w).mono ?_
    rintro e w' ⟨rfl, rfl⟩
    go_wp2
    go_ret
    exact ⟨rfl, rfl⟩
  · have h1 : ((a : Int) < (b : Int)) = False := by simp; omega
    have h2 : ((b : Int) < (a : Int)) = False := by simp; omega
    have e : ordV a b = 0 := by unfold ordV; rw [if_neg (by omega), if_neg (by omega)]
    rw [e]
    clear h e
    go_enter Try.func18, Try.ntmps18
    go_wp2_with fail
    refine (cmp_nan _ w).mono ?_
    rintro e w' ⟨rfl, rfl⟩
    go_wp2_with fail
    refine (cmp_nan _ w).mono ?_
    rintro e w' ⟨rfl, rfl⟩
    go_wp2
    go_ret
    exact ⟨rfl, rfl⟩
  · have h1 : ((a : Int) < (b : Int)) = False := by simp; omega
    have h2 : ((b : Int) < (a : Int)) = True := by simp; omega
    have e : ordV a b = 1 := by unfold ordV; rw [if_neg (by omega), if_pos h]
    rw [e]
    clear h e
    go_enter Try.func18, Try.ntmps18
    go_wp2_with fail
    refine (cmp_nan _ w).mono ?_
    rintro e w' ⟨rfl, rfl⟩
    go_wp2_with fail
    refine (cmp_nan _ w).mono ?_
    rintro e w' ⟨rfl, rfl⟩
    go_wp2
    go_ret
    exact ⟨rfl, rfl⟩

theorem tab_size : (Lib.len8tab.size : Int) = 256 := by
  rw [Lib.len8tab_size]; rfl
theorem tab_get (y : Int) (h : y.toNat < Lib.len8tab.size) (h0 : 0 ≤ y) (h1 : y < 256) : ((Lib.len8tab[y.toNat]'h).toNat : Int) = (Lib.bitLen y.toNat : Int) ∧ Lib.bitLen y.toNat ≤ 8 := by
  refine ⟨?_, Lib.bitLen_le8' y h0 (by omega)⟩
  rw [← Lib.len8_of y h0 (by omega)]
  unfold Lib.len8
  rw [getElem?_pos Lib.len8tab y.toNat h]
  rfl
/-- How many bits a number has: those of what is left of it behind a shift, and the shift. -/
theorem tab_tail (x y K : Int) (k : Nat) (h : y.toNat < Lib.len8tab.size) (hK : K = (k : Int)) (hk : k ≤ 56) (h0 : 0 ≤ y) (h1 : y < 256) (hx : x < 18446744073709551616) (hxy : x.toNat / 2 ^ k = y.toNat) (hle : 2 ^ k ≤ x.toNat) :
    wrap64 (K + wrap64 ((Lib.len8tab[y.toNat]'h).toNat : Int)) = (Lib.bitLen x.toNat : Int) := by
  obtain ⟨h2, h3⟩ := tab_get y h h0 h1
  rw [h2, Lib.bitLen_shift k x.toNat hle (by omega), hxy, hK]
  clear h2 hxy hle hK hx h h0 h1
  generalize Lib.bitLen y.toNat = L at *
  unfold wrap64
  omega
theorem tab_none (x : Int) (h : x.toNat < Lib.len8tab.size) (h0 : 0 ≤ x) (h1 : x < 256) : wrap64 ((Lib.len8tab[x.toNat]'h).toNat : Int) = (Lib.bitLen x.toNat : Int) ∧ wrap64 (wrap64 ((Lib.len8tab[x.toNat]'h).toNat : Int)) = (Lib.bitLen x.toNat : Int) := by
  obtain ⟨h2, h3⟩ := tab_get x h h0 h1
  rw [h2]
  generalize Lib.bitLen x.toNat = L at *
  unfold wrap64
  omega
-- eight ways: from here
set_option maxHeartbeats 1000000 in
set_option maxRecDepth 100000 in
theorem len64_56 (x : Int) (h0 : 0 ≤ x) (h1 : x ≤ 18446744073709551615) (w : World) (g1 : (4294967296 ≤ x)) (g2 : (65536 ≤ x / 4294967296)) (g3 : (256 ≤ x / 4294967296 / 65536)) : Calls Try.prog 26 #[.int .u64 x] w fun e w' => e = .returned (.int .i64 (Lib.bitLen x.toNat)) ∧ w' = w := by
  obtain ⟨z, hz⟩ : ∃ z, x / 4294967296 / 65536 / 256 = z := ⟨_, rfl⟩
  have hz0 : 0 ≤ z := by omega
  have hz1 : z < 256 := by omega
  have hzm : z % 256 = z := by omega
  have hxz : x.toNat / 72057594037927936 = z.toNat := by omega
  have hle : 72057594037927936 ≤ x.toNat := by omega
  have HT := fun h => Lib.hid (tab_tail x z 56 56 h (by decide) (by decide) hz0 hz1 (by omega) hxz hle)
  have hi : (0 ≤ z ∧ z < (Lib.len8tab.size : Int)) = True := by rw [tab_size]; simp; omega
  have c1 : (4294967296 ≤ x) = True := by simp only [g1]
  have c2 : (65536 ≤ x / 4294967296) = True := by simp only [g2]
  have c3 : (256 ≤ x / 4294967296 / 65536) = True := by simp only [g3]
  clear hxz hle hz0 hz1 g1 g2 g3
  go_enter Try.func26, Try.ntmps26
  go_wp2
  go_ret
  refine ⟨congrArg Ending.returned (congrArg (Value.int IntKind.i64) ?_), rfl⟩
  subst hz
  exact (HT _).out
set_option maxHeartbeats 1000000 in
set_option maxRecDepth 100000 in
theorem len64_48 (x : Int) (h0 : 0 ≤ x) (h1 : x ≤ 18446744073709551615) (w : World) (g1 : (4294967296 ≤ x)) (g2 : (65536 ≤ x / 4294967296)) (g3 : ¬ (256 ≤ x / 4294967296 / 65536)) : Calls Try.prog 26 #[.int .u64 x] w fun e w' => e = .returned (.int .i64 (Lib.bitLen x.toNat)) ∧ w' = w := by
  obtain ⟨z, hz⟩ : ∃ z, x / 4294967296 / 65536 = z := ⟨_, rfl⟩
  have hz0 : 0 ≤ z := by omega
  have hz1 : z < 256 := by omega
  have hzm : z % 256 = z := by omega
  have hxz : x.toNat / 281474976710656 = z.toNat := by omega
  have hle : 281474976710656 ≤ x.toNat := by omega
  have HT := fun h => Lib.hid (tab_tail x z 48 48 h (by decide) (by decide) hz0 hz1 (by omega) hxz hle)
  have hi : (0 ≤ z ∧ z < (Lib.len8tab.size : Int)) = True := by rw [tab_size]; simp; omega
  have c1 : (4294967296 ≤ x) = True := by simp only [g1]
  have c2 : (65536 ≤ x / 4294967296) = True := by simp only [g2]
  have c3 : (256 ≤ x / 4294967296 / 65536) = False := by simp only [g3]
  clear hxz hle hz0 hz1 g1 g2 g3
  go_enter Try.func26, Try.ntmps26
  go_wp2
  go_ret
  refine ⟨congrArg Ending.returned (congrArg (Value.int IntKind.i64) ?_), rfl⟩
  subst hz
  exact (HT _).out
set_option maxHeartbeats 1000000 in
set_option maxRecDepth 100000 in
theorem len64_40 (x : Int) (h0 : 0 ≤ x) (h1 : x ≤ 18446744073709551615) (w : World) (g1 : (4294967296 ≤ x)) (g2 : ¬ (65536 ≤ x / 4294967296)) (g3 : (256 ≤ x / 4294967296)) : Calls Try.prog 26 #[.int .u64 x] w fun e w' => e = .returned (.int .i64 (Lib.bitLen x.toNat)) ∧ w' = w := by
  obtain ⟨z, hz⟩ : ∃ z, x / 4294967296 / 256 = z := ⟨_, rfl⟩
  have hz0 : 0 ≤ z := by omega
  have hz1 : z < 256 := by omega
  have hzm : z % 256 = z := by omega
  have hxz : x.toNat / 1099511627776 = z.toNat := by omega
  have hle : 1099511627776 ≤ x.toNat := by omega
  have HT := fun h => Lib.hid (tab_tail x z 40 40 h (by decide) (by decide) hz0 hz1 (by omega) hxz hle)
  have hi : (0 ≤ z ∧ z < (Lib.len8tab.size : Int)) = True := by rw [tab_size]; simp; omega
  have c1 : (4294967296 ≤ x) = True := by simp only [g1]
  have c2 : (65536 ≤ x / 4294967296) = False := by simp only [g2]
  have c3 : (256 ≤ x / 4294967296) = True := by simp only [g3]
  clear hxz hle hz0 hz1 g1 g2 g3
  go_enter Try.func26, Try.ntmps26
  go_wp2
  go_ret
  refine ⟨congrArg Ending.returned (congrArg (Value.int IntKind.i64) ?_), rfl⟩
  subst hz
  exact (HT _).out
set_option maxHeartbeats 1000000 in
set_option maxRecDepth 100000 in
theorem len64_32 (x : Int) (h0 : 0 ≤ x) (h1 : x ≤ 18446744073709551615) (w : World) (g1 : (4294967296 ≤ x)) (g2 : ¬ (65536 ≤ x / 4294967296)) (g3 : ¬ (256 ≤ x / 4294967296)) : Calls Try.prog 26 #[.int .u64 x] w fun e w' => e = .returned (.int .i64 (Lib.bitLen x.toNat)) ∧ w' = w := by
  obtain ⟨z, hz⟩ : ∃ z, x / 4294967296 = z := ⟨_, rfl⟩
  have hz0 : 0 ≤ z := by omega
  have hz1 : z < 256 := by omega
  have hzm : z % 256 = z := by omega
  have hxz : x.toNat / 4294967296 = z.toNat := by omega
  have hle : 4294967296 ≤ x.toNat := by omega
  have HT := fun h => Lib.hid (tab_tail x z 32 32 h (by decide) (by decide) hz0 hz1 (by omega) hxz hle)
  have hi : (0 ≤ z ∧ z < (Lib.len8tab.size : Int)) = True := by rw [tab_size]; simp; omega
  have c1 : (4294967296 ≤ x) = True := by simp only [g1]
  have c2 : (65536 ≤ x / 4294967296) = False := by simp only [g2]
  have c3 : (256 ≤ x / 4294967296) = False := by simp only [g3]
  clear hxz hle hz0 hz1 g1 g2 g3
  go_enter Try.func26, Try.ntmps26
  go_wp2
  go_ret
  refine ⟨congrArg Ending.returned (congrArg (Value.int IntKind.i64) ?_), rfl⟩
  subst hz
  exact (HT _).out
set_option maxHeartbeats 1000000 in
set_option maxRecDepth 100000 in
theorem len64_24 (x : Int) (h0 : 0 ≤ x) (h1 : x ≤ 18446744073709551615) (w : World) (g1 : ¬ (4294967296 ≤ x)) (g2 : (65536 ≤ x)) (g3 : (256 ≤ x / 65536)) : Calls Try.prog 26 #[.int .u64 x] w fun e w' => e = .returned (.int .i64 (Lib.bitLen x.toNat)) ∧ w' = w := by
  obtain ⟨z, hz⟩ : ∃ z, x / 65536 / 256 = z := ⟨_, rfl⟩
  have hz0 : 0 ≤ z := by omega
  have hz1 : z < 256 := by omega
  have hzm : z % 256 = z := by omega
  have hxz : x.toNat / 16777216 = z.toNat := by omega
  have hle : 16777216 ≤ x.toNat := by omega
  have HT := fun h => Lib.hid (tab_tail x z 24 24 h (by decide) (by decide) hz0 hz1 (by omega) hxz hle)
  have hi : (0 ≤ z ∧ z < (Lib.len8tab.size : Int)) = True := by rw [tab_size]; simp; omega
  have c1 : (4294967296 ≤ x) = False := by simp only [g1]
  have c2 : (65536 ≤ x) = True := by simp only [g2]
  have c3 : (256 ≤ x / 65536) = True := by simp only [g3]
  clear hxz hle hz0 hz1 g1 g2 g3
  go_enter Try.func26, Try.ntmps26
  go_wp2
  go_ret
  refine ⟨congrArg Ending.returned (congrArg (Value.int IntKind.i64) ?_), rfl⟩
  subst hz
  exact (HT _).out
set_option maxHeartbeats 1000000 in
set_option maxRecDepth 100000 in
theorem len64_16 (x : Int) (h0 : 0 ≤ x) (h1 : x ≤ 18446744073709551615) (w : World) (g1 : ¬ (4294967296 ≤ x)) (g2 : (65536 ≤ x)) (g3 : ¬ (256 ≤ x / 65536)) : Calls Try.prog 26 #[.int .u64 x] w fun e w' => e = .returned (.int .i64 (Lib.bitLen x.toNat)) ∧ w' = w := by
  obtain ⟨z, hz⟩ : ∃ z, x / 65536 = z := ⟨_, rfl⟩
  have hz0 : 0 ≤ z := by omega
  have hz1 : z < 256 := by omega
  have hzm : z % 256 = z := by omega
  have hxz : x.toNat / 65536 = z.toNat := by omega
  have hle : 65536 ≤ x.toNat := by omega
  have HT := fun h => Lib.hid (tab_tail x z 16 16 h (by decide) (by decide) hz0 hz1 (by omega) hxz hle)
  have hi : (0 ≤ z ∧ z < (Lib.len8tab.size : Int)) = True := by rw [tab_size]; simp; omega
  have c1 : (4294967296 ≤ x) = False := by simp only [g1]
  have c2 : (65536 ≤ x) = True := by simp only [g2]
  have c3 : (256 ≤ x / 65536) = False := by simp only [g3]
  clear hxz hle hz0 hz1 g1 g2 g3
  go_enter Try.func26, Try.ntmps26
  go_wp2
  go_ret
  refine ⟨congrArg Ending.returned (congrArg (Value.int IntKind.i64) ?_), rfl⟩
  subst hz
  exact (HT _).out
set_option maxHeartbeats 1000000 in
set_option maxRecDepth 100000 in
theorem len64_8 (x : Int) (h0 : 0 ≤ x) (h1 : x ≤ 18446744073709551615) (w : World) (g1 : ¬ (4294967296 ≤ x)) (g2 : ¬ (65536 ≤ x)) (g3 : (256 ≤ x)) : Calls Try.prog 26 #[.int .u64 x] w fun e w' => e = .returned (.int .i64 (Lib.bitLen x.toNat)) ∧ w' = w := by
  obtain ⟨z, hz⟩ : ∃ z, x / 256 = z := ⟨_, rfl⟩
  have hz0 : 0 ≤ z := by omega
  have hz1 : z < 256 := by omega
  have hzm : z % 256 = z := by omega
  have hxz : x.toNat / 256 = z.toNat := by omega
  have hle : 256 ≤ x.toNat := by omega
  have HT := fun h => Lib.hid (tab_tail x z 8 8 h (by decide) (by decide) hz0 hz1 (by omega) hxz hle)
  have hi : (0 ≤ z ∧ z < (Lib.len8tab.size : Int)) = True := by rw [tab_size]; simp; omega
  have c1 : (4294967296 ≤ x) = False := by simp only [g1]
  have c2 : (65536 ≤ x) = False := by simp only [g2]
  have c3 : (256 ≤ x) = True := by simp only [g3]
  clear hxz hle hz0 hz1 g1 g2 g3
  go_enter Try.func26, Try.ntmps26
  go_wp2
  go_ret
  refine ⟨congrArg Ending.returned (congrArg (Value.int IntKind.i64) ?_), rfl⟩
  subst hz
  exact (HT _).out
set_option maxHeartbeats 1000000 in
set_option maxRecDepth 100000 in
theorem len64_0 (x : Int) (h0 : 0 ≤ x) (h1 : x ≤ 18446744073709551615) (w : World) (g1 : ¬ (4294967296 ≤ x)) (g2 : ¬ (65536 ≤ x)) (g3 : ¬ (256 ≤ x)) : Calls Try.prog 26 #[.int .u64 x] w fun e w' => e = .returned (.int .i64 (Lib.bitLen x.toNat)) ∧ w' = w := by
  obtain ⟨z, hz⟩ : ∃ z, x = z := ⟨_, rfl⟩
  have hz0 : 0 ≤ z := by omega
  have hz1 : z < 256 := by omega
  have hzm : z % 256 = z := by omega
  obtain rfl := hz
  have HT := fun h => Lib.hid (tab_none x h hz0 hz1)
  have hi : (0 ≤ x ∧ x < (Lib.len8tab.size : Int)) = True := by rw [tab_size]; simp; omega
  have c1 : (4294967296 ≤ x) = False := by simp only [g1]
  have c2 : (65536 ≤ x) = False := by simp only [g2]
  have c3 : (256 ≤ x) = False := by simp only [g3]
  clear g1 g2 g3
  go_enter Try.func26, Try.ntmps26
  go_wp2
  go_ret
  refine ⟨congrArg Ending.returned (congrArg (Value.int IntKind.i64) ?_), rfl⟩
  first | exact (HT _).out.1 | exact (HT _).out.2
theorem len64_any (x : Int) (h0 : 0 ≤ x) (h1 : x ≤ 18446744073709551615) (w : World) : Calls Try.prog 26 #[.int .u64 x] w fun e w' => e = .returned (.int .i64 (Lib.bitLen x.toNat)) ∧ w' = w := by
  by_cases g1 : 4294967296 ≤ x
  ·
    by_cases g2 : 65536 ≤ x / 4294967296
    ·
      by_cases g3 : 256 ≤ x / 4294967296 / 65536
      ·
        exact len64_56 x h0 h1 w g1 g2 g3
      ·
        exact len64_48 x h0 h1 w g1 g2 g3
    ·
      by_cases g3 : 256 ≤ x / 4294967296
      ·
        exact len64_40 x h0 h1 w g1 g2 g3
      ·
        exact len64_32 x h0 h1 w g1 g2 g3
  ·
    by_cases g2 : 65536 ≤ x
    ·
      by_cases g3 : 256 ≤ x / 65536
      ·
        exact len64_24 x h0 h1 w g1 g2 g3
      ·
        exact len64_16 x h0 h1 w g1 g2 g3
    ·
      by_cases g3 : 256 ≤ x
      ·
        exact len64_8 x h0 h1 w g1 g2 g3
      ·
        exact len64_0 x h0 h1 w g1 g2 g3
-- eight ways: to here
end Go.Proofs.Ytompcibcgfjpfaa
