/- A string's bytes, as a slice of bytes; the rows of the law WireForms. -/
import Derived.Test.YtojeonepplfhlaaWireE
import Derived.Test.YtojeonepplfhlaaWireF
import Derived.Lib.ConvBytes
namespace Go.Proofs.Ytojeonepplfhlaa
open Go.RowKit

/-- The bytes of a string as numbers. -/
def nums (s : ByteArray) : List Int := s.data.toList.map fun b => (b.toNat : Int)
theorem nums_bys (s : ByteArray) : Bys (nums s) := by
  intro x hx
  obtain ⟨b, _, rfl⟩ := List.mem_map.1 hx
  have := b.toNat_lt
  omega
theorem nums_len (s : ByteArray) : (nums s).length = s.size := by
  unfold nums
  rw [List.length_map]
  rfl
theorem nums_str {l : List Int} (h : Bys l) : nums (strOfNums l) = l := by
  unfold nums
  rw [strOfNums_data, List.map_map]
  conv => rhs; rw [← List.map_id l]
  apply List.map_congr_left
  intro x hx
  have := h x hx
  simp only [Function.comp, id]
  have h2 : (UInt8.ofNat x.toNat).toNat = x.toNat % 256 := rfl
  rw [h2]
  omega
theorem str_below (w : World) (e : Nat) (s : ByteArray) : Below w.heap.size w (Lib.bytesWorld w e s) :=
  ⟨rfl, rfl, rfl, by rw [Lib.bytesWorld_size]; omega, fun k hk => Lib.bytesWorld_at_old w e s k hk⟩
set_option maxRecDepth 100000 in
theorem str_sl (w : World) (s : ByteArray) (g : Nat) (hg : g ≠ w.heap.size) :
    Sl (Lib.bytesWorld w 5 s) g (.slice (some ⟨w.heap.size, 0, none⟩) s.size (grownCap w s.size 0 5)) (nums s) := by
  refine ⟨_, _, by rw [nums_len], by rw [nums_len]; exact grownCap_ge _ _ _ _, (fun h => by cases h), fun _ => ⟨w.heap.size, 0, rfl, fun h => hg h.symm, by rw [Lib.bytesWorld_size]; omega, fun i hi => ?_⟩⟩
  rw [nums_len] at hi
  rw [Nat.zero_add, Lib.bytesWorld_cell w 5 s i hi]
  have hl : i < s.data.toList.length := hi
  simp [nums, List.getD_eq_getElem?_getD, List.getElem?_eq_getElem hl]

theorem count_neg (l : List Int) (bad : Bool) (most : Int) (h : most < 0) : count l bad most = (0, [], true) := by
  unfold count
  split
  · exact countEnd_no _ _ _ _ _ (.inr (.inl h))
  · split
    · exact countEnd_no _ _ _ _ _ (.inr (.inl h))
    · split
      · rfl
      · exact countEnd_no _ _ _ _ _ (.inr (.inl h))
/-- A count above the bound can't be read. -/
theorem count_low (m : Nat) (B : List Int) (most : Int) (hm : m ≤ 4294967295) (hmost : most < (m : Int)) : count (cnt m ++ B) false most = (0, [], true) := by
  unfold cnt
  by_cases h1 : m < 253
  · rw [if_pos h1]
    unfold count
    rw [num_app (leb m 1) B false 1 (leb_len m 1)]
    simp only
    rw [le_leb_of m 1 (by omega), if_neg (by omega), if_neg (by omega), if_neg (by omega), countEnd_no _ _ _ _ _ (by omega)]
  · rw [if_neg h1]
    by_cases h2 : m ≤ 65535
    · rw [if_pos h2]
      unfold count
      rw [show (253 : Int) :: leb m 2 ++ B = [253] ++ (leb m 2 ++ B) from rfl, num_app [253] _ false 1 rfl]
      simp only
      rw [if_pos (by rfl), num_app (leb m 2) B false 2 (leb_len m 2)]
      simp only
      rw [le_leb_of m 2 (by omega), countEnd_no _ _ _ _ _ (by omega)]
    · rw [if_neg h2]
      unfold count
      rw [show (254 : Int) :: leb m 4 ++ B = [254] ++ (leb m 4 ++ B) from rfl, num_app [254] _ false 1 rfl]
      simp only
      rw [if_neg (by simp [le]), if_pos (by rfl), num_app (leb m 4) B false 4 (leb_len m 4)]
      simp only
      rw [le_leb_of m 4 (by omega), countEnd_no _ _ _ _ _ (by omega)]
/-- What a row of WireForms says: bytes that are just those of a count, or that are none. -/
def Good (s : ByteArray) (n : Int) (ok : Bool) : Prop :=
  s.size ≤ 100 ∧ ((ok = true ∧ ∃ m : Nat, n = (m : Int) ∧ m ≤ 4294967295 ∧ s = strOfNums (cnt m)) ∨ (ok = false ∧ n = 0 ∧ count (nums s) false 4294967295 = (0, [], true)))
theorem good_yes (m : Nat) (hm : m ≤ 4294967295) (s : ByteArray) (h : s = strOfNums (cnt m)) : Good s (m : Int) true := ⟨by rw [h, strOfNums_size]; have := cnt_max m; omega, .inl ⟨rfl, m, rfl, hm, h⟩⟩
theorem good_no (s : ByteArray) (hs : s.size ≤ 100) (h : count (nums s) false 4294967295 = (0, [], true)) : Good s 0 false := ⟨hs, .inr ⟨rfl, rfl, h⟩⟩
theorem good_0 : Good ⟨#[0]⟩ 0 true := good_yes 0 (by omega) _ (by decide +kernel)
theorem good_1 : Good ⟨#[252]⟩ 252 true := good_yes 252 (by omega) _ (by decide +kernel)
theorem good_2 : Good ⟨#[253, 253, 0]⟩ 253 true := good_yes 253 (by omega) _ (by decide +kernel)
theorem good_3 : Good ⟨#[253, 255, 255]⟩ 65535 true := good_yes 65535 (by omega) _ (by decide +kernel)
theorem good_4 : Good ⟨#[254, 0, 0, 1, 0]⟩ 65536 true := good_yes 65536 (by omega) _ (by decide +kernel)
theorem good_5 : Good ⟨#[254, 255, 255, 255, 255]⟩ 4294967295 true := good_yes 4294967295 (by omega) _ (by decide +kernel)
theorem good_6 : Good ⟨#[253, 252, 0]⟩ 0 false := good_no _ (by decide) (by decide +kernel)
theorem good_7 : Good ⟨#[254, 255, 255, 0, 0]⟩ 0 false := good_no _ (by decide) (by decide +kernel)
theorem good_8 : Good ⟨#[255, 0, 0, 0, 0, 1, 0, 0, 0]⟩ 0 false := good_no _ (by decide) (by decide +kernel)
theorem good_9 : Good ⟨#[253, 253]⟩ 0 false := good_no _ (by decide) (by decide +kernel)
theorem good_10 : Good ⟨#[]⟩ 0 false := good_no _ (by decide) (by decide +kernel)
end Go.Proofs.Ytojeonepplfhlaa
