/- Plain numbers: the number of some bytes, the lowest first. No program. -/
import Derived.Test.YtojeonepplfhlaaMem
import Derived.Laws.BitsAllLaws
import Derived.Laws.Bits64
namespace Go.Proofs.Ytojeonepplfhlaa

def le : List Int → Nat
  | [] => 0
  | x :: l => x.toNat + 256 * le l
theorem le_lt : ∀ {l : List Int}, Bys l → le l < 256 ^ l.length
  | [], _ => by simp [le]
  | x :: l, h => by
    have h1 := le_lt (l := l) (fun y hy => h y (List.mem_cons_of_mem _ hy))
    have h2 := h x (List.mem_cons_self ..)
    simp only [le, List.length_cons, Nat.pow_succ]
    omega
theorem le_app : ∀ (a b : List Int), le (a ++ b) = le a + 256 ^ a.length * le b
  | [], b => by simp [le]
  | x :: a, b => by
    simp only [List.cons_append, le, le_app a b, List.length_cons, Nat.pow_succ]
    rw [Nat.mul_add, Nat.mul_comm (256 ^ a.length) 256, Nat.mul_assoc]
    omega
theorem le_take (m : List Int) (k : Nat) (hk : k < m.length) : le (m.take (k + 1)) = le (m.take k) + 256 ^ k * (m.getD k 0).toNat := by
  rw [List.take_succ_eq_append_getElem hk, le_app]
  have : (m.take k).length = k := by rw [List.length_take]; omega
  rw [this]
  simp [le, List.getD_eq_getElem?_getD, List.getElem?_eq_getElem hk]
theorem pow256 (k : Nat) : 256 ^ k = 2 ^ (8 * k) := by rw [show (256 : Nat) = 2 ^ 8 from rfl, ← Nat.pow_mul]
theorem pow_le_8 {k : Nat} (h : k ≤ 8) : 256 ^ k ≤ 18446744073709551616 := by
  rw [show (18446744073709551616 : Nat) = 256 ^ 8 from rfl]
  exact Nat.pow_le_pow_right (by omega) h

/-- One byte more, laid above those that are there. -/
theorem le_or (m : List Int) (hm : Bys m) (k : Nat) (hk : k < m.length) (h8 : k < 8) (x : Int) (hx : x = m.getD k 0) :
    bits .or .u64 (le (m.take k) : Int) (IntKind.u64.wrap (IntKind.u64.wrap x * 2 ^ (8 * k))) = (le (m.take (k + 1)) : Int) := by
  have hb := hm.at k
  rw [← hx] at hb
  obtain ⟨y, rfl⟩ := Int.eq_ofNat_of_zero_le hb.1
  have hy : y ≤ 255 := by omega
  have h1 : IntKind.u64.wrap (y : Int) = y := by rw [IntKind.wrap_u64]; omega
  have hl := le_lt (hm.take k)
  have hlen : (m.take k).length = k := by rw [List.length_take]; omega
  rw [hlen] at hl
  have hp := pow_le_8 (show k + 1 ≤ 8 by omega)
  rw [Nat.pow_succ] at hp
  have hmul : 256 ^ k * y < 18446744073709551616 := Nat.lt_of_lt_of_le (Nat.mul_lt_mul_of_pos_left (show y < 256 by omega) (Nat.pow_pos (by omega))) hp
  have h2 : (y : Int) * 2 ^ (8 * k) = ((256 ^ k * y : Nat) : Int) := by
    rw [pow256, Int.natCast_mul, Int.natCast_pow, Int.mul_comm]
    rfl
  have hl2 : le (m.take k) < 18446744073709551616 := by
    have := pow_le_8 (show k ≤ 8 by omega)
    omega
  have h3 : IntKind.u64.wrap ((256 ^ k * y : Nat) : Int) = ((256 ^ k * y : Nat) : Int) := by rw [IntKind.wrap_u64]; omega
  rw [h1, h2, h3, u64_or_nat _ _ hl2 hmul, le_take m k hk, ← hx]
  congr 1
  rw [Int.toNat_natCast]
  have h4 := Nat.two_pow_add_eq_or_of_lt (i := 8 * k) (b := le (m.take k)) (by rw [← pow256]; exact hl) y
  rw [Nat.or_comm, pow256, ← h4]
  omega
end Go.Proofs.Ytojeonepplfhlaa
