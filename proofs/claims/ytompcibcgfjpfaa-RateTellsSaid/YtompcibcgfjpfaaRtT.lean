/- The rows of the law RateForms. -/
import Derived.Test.YtompcibcgfjpfaaRtH
namespace Go.Proofs.Ytompcibcgfjpfaa
open Go.RowKit

theorem ord_swap (x y : Nat) : ordV y x = -ordV x y := by
  unfold ordV
  repeat' split
  all_goals omega
theorem rate_swap (f : Nat) (n : Int) (g : Nat) (m : Int) : rateV g m f n = -rateV f n g m := ord_swap _ _
def cells1 : Array Value := #[.int .u64 0, .int .i64 0, .int .u64 0, .int .i64 0, .int .i64 0, .int .u64 1, .int .i64 0, .int .u64 1, .int .i64 1, .int .i64 0, .int .u64 1, .int .i64 (-5), .int .u64 1, .int .i64 1, .int .i64 0, .int .u64 1, .int .i64 3, .int .u64 2, .int .i64 6, .int .i64 0, .int .u64 1, .int .i64 3, .int .u64 333, .int .i64 1000, .int .i64 1, .int .u64 1, .int .i64 3, .int .u64 334, .int .i64 1000, .int .i64 (-1), .int .u64 18446744073709551615, .int .i64 4611686018427387904, .int .u64 18446744073709551614, .int .i64 4611686018427387904, .int .i64 1, .int .u64 18446744073709551615, .int .i64 9223372036854775807, .int .u64 2, .int .i64 1, .int .i64 1, .int .u64 18446744073709551614, .int .i64 9223372036854775807, .int .u64 2, .int .i64 1, .int .i64 0, .int .u64 0, .int .i64 9, .int .u64 0, .int .i64 1, .int .i64 0]
def cells2 : Array Value := #[.int .u64 0, .int .i64 5, .int .u64 0, .int .u64 1, .int .i64 1, .int .u64 1, .int .u64 1000, .int .i64 0, .int .u64 0, .int .u64 1000, .int .i64 (-5), .int .u64 0, .int .u64 999, .int .i64 1, .int .u64 1, .int .u64 1001, .int .i64 1, .int .u64 2, .int .u64 1000, .int .i64 1073741824, .int .u64 1073741824, .int .u64 1000, .int .i64 1073741829, .int .u64 1073741824, .int .u64 18446744073709551615, .int .i64 1000, .int .u64 18446744073709551615, .int .u64 18446744073709551615, .int .i64 999, .int .u64 18428297329635842064, .int .u64 2000, .int .i64 141, .int .u64 282]
set_option maxRecDepth 100000 in
theorem row1 (i : Nat) (hi : i < 10) : ∃ (fa : Nat) (na : Int) (fb : Nat) (nb c : Int), cells1[i * 5]? = some (.int .u64 (fa : Int)) ∧ cells1[i * 5 + 1]? = some (.int .i64 na) ∧ cells1[i * 5 + 2]? = some (.int .u64 (fb : Int)) ∧ cells1[i * 5 + 3]? = some (.int .i64 nb) ∧ cells1[i * 5 + 4]? = some (.int .i64 c) ∧
    fa < 18446744073709551616 ∧ fb < 18446744073709551616 ∧ na ≤ 9223372036854775807 ∧ nb ≤ 9223372036854775807 ∧ rateV fa na fb nb = c ∧ -1 ≤ c ∧ c ≤ 1 := by
  match i, hi with
  | 0, _ => exact ⟨0, 0, 0, 0, 0, rfl, rfl, rfl, rfl, rfl, by decide, by decide, by decide, by decide, by decide, by decide, by decide⟩
  | 1, _ => exact ⟨1, 0, 1, 1, 0, rfl, rfl, rfl, rfl, rfl, by decide, by decide, by decide, by decide, by decide, by decide, by decide⟩
  | 2, _ => exact ⟨1, (-5), 1, 1, 0, rfl, rfl, rfl, rfl, rfl, by decide, by decide, by decide, by decide, by decide, by decide, by decide⟩
  | 3, _ => exact ⟨1, 3, 2, 6, 0, rfl, rfl, rfl, rfl, rfl, by decide, by decide, by decide, by decide, by decide, by decide, by decide⟩
  | 4, _ => exact ⟨1, 3, 333, 1000, 1, rfl, rfl, rfl, rfl, rfl, by decide, by decide, by decide, by decide, by decide, by decide, by decide⟩
  | 5, _ => exact ⟨1, 3, 334, 1000, (-1), rfl, rfl, rfl, rfl, rfl, by decide, by decide, by decide, by decide, by decide, by decide, by decide⟩
  | 6, _ => exact ⟨18446744073709551615, 4611686018427387904, 18446744073709551614, 4611686018427387904, 1, rfl, rfl, rfl, rfl, rfl, by decide, by decide, by decide, by decide, by decide, by decide, by decide⟩
  | 7, _ => exact ⟨18446744073709551615, 9223372036854775807, 2, 1, 1, rfl, rfl, rfl, rfl, rfl, by decide, by decide, by decide, by decide, by decide, by decide, by decide⟩
  | 8, _ => exact ⟨18446744073709551614, 9223372036854775807, 2, 1, 0, rfl, rfl, rfl, rfl, rfl, by decide, by decide, by decide, by decide, by decide, by decide, by decide⟩
  | 9, _ => exact ⟨0, 9, 0, 1, 0, rfl, rfl, rfl, rfl, rfl, by decide, by decide, by decide, by decide, by decide, by decide, by decide⟩
set_option maxRecDepth 100000 in
theorem row2 (i : Nat) (hi : i < 11) : ∃ (p : Nat) (q : Int) (r : Nat), cells2[i * 3]? = some (.int .u64 (p : Int)) ∧ cells2[i * 3 + 1]? = some (.int .i64 q) ∧ cells2[i * 3 + 2]? = some (.int .u64 (r : Int)) ∧ p < 18446744073709551616 ∧ upV (p * needN q) 1000 = r := by
  match i, hi with
  | 0, _ => exact ⟨0, 5, 0, rfl, rfl, rfl, by decide, by decide⟩
  | 1, _ => exact ⟨1, 1, 1, rfl, rfl, rfl, by decide, by decide⟩
  | 2, _ => exact ⟨1000, 0, 0, rfl, rfl, rfl, by decide, by decide⟩
  | 3, _ => exact ⟨1000, (-5), 0, rfl, rfl, rfl, by decide, by decide⟩
  | 4, _ => exact ⟨999, 1, 1, rfl, rfl, rfl, by decide, by decide⟩
  | 5, _ => exact ⟨1001, 1, 2, rfl, rfl, rfl, by decide, by decide⟩
  | 6, _ => exact ⟨1000, 1073741824, 1073741824, rfl, rfl, rfl, by decide, by decide⟩
  | 7, _ => exact ⟨1000, 1073741829, 1073741824, rfl, rfl, rfl, by decide, by decide⟩
  | 8, _ => exact ⟨18446744073709551615, 1000, 18446744073709551615, rfl, rfl, rfl, by decide, by decide⟩
  | 9, _ => exact ⟨18446744073709551615, 999, 18428297329635842064, rfl, rfl, rfl, by decide, by decide⟩
  | 10, _ => exact ⟨2000, 141, 282, rfl, rfl, rfl, by decide, by decide⟩
end Go.Proofs.Ytompcibcgfjpfaa
