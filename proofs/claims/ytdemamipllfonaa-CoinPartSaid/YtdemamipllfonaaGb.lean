/- Contracts of package wire: the Reader's Small, Big, Count. Contracts of package wire: with, Small, Big, Count (what is written). 'string(b)' of a slice of bytes; what a law's end asks. Plain facts on what is read back of what was written. No walk. A string's bytes, as a slice of bytes; the rows of the law WireForms. Contracts of package txns: Same, and slices.EqualFunc. Contracts of package txns: sameIn, sameOut, Same. Contracts of package txns: sameOut, Same. Contracts of package txns: what is appended to a row of the call's own. Contracts of package txns: addIn, addOut, addWitness. -/
import Derived.Test.YtdemamipllfonaaGa
import Derived.Laws.MakeOwn
import Derived.Laws.CopyOwn
import Derived.Laws.BytesArg
import Derived.Lib.ConvBytes
import Derived.Shelf.Abstract
import Derived.Stop.BytesEq
namespace Go.Proofs.Ytdemamipllfonaa

section
open Go.RowKit

/-- So many bytes of a Reader as a number, and what is left. -/
def num (l : List Int) (bad : Bool) (n : Nat) : Nat × List Int × Bool := if n ≤ l.length then (le (l.take n), l.drop n, bad) else (0, [], true)
theorem num_lt (l : List Int) (hy : Bys l) (bad : Bool) (n : Nat) : (num l bad n).1 < 256 ^ n := by
  unfold num
  split
  · have h := le_lt (hy.take n)
    rw [List.length_take, Nat.min_eq_left (by assumption)] at h
    exact h
  · exact Nat.pow_pos (by omega)
theorem wrap_u32_of {n : Nat} (h : n < 256 ^ 4) : IntKind.u32.wrap (n : Int) = n := by
  have : (256 : Nat) ^ 4 = 4294967296 := by decide
  simp [IntKind.wrap, IntKind.bits, IntKind.signed]
  omega
def countEnd (n least : Nat) (l : List Int) (bad : Bool) (most : Int) : Nat × List Int × Bool :=
  if n < least ∨ most < 0 ∨ most < n then (0, [], true) else if bad = true then (0, l, bad) else (n, l, bad)
theorem countEnd_no (n least : Nat) (l : List Int) (bad : Bool) (most : Int) (h : n < least ∨ most < 0 ∨ most < n) : countEnd n least l bad most = (0, [], true) := if_pos h
theorem countEnd_ok (n least : Nat) (l : List Int) (bad : Bool) (most : Int) (h : ¬ (n < least ∨ most < 0 ∨ most < n)) : countEnd n least l bad most = if bad = true then (0, l, bad) else (n, l, bad) := if_neg h
def count (l : List Int) (bad : Bool) (most : Int) : Nat × List Int × Bool :=
  if (num l bad 1).1 = 253 then countEnd (num (num l bad 1).2.1 (num l bad 1).2.2 2).1 253 (num (num l bad 1).2.1 (num l bad 1).2.2 2).2.1 (num (num l bad 1).2.1 (num l bad 1).2.2 2).2.2 most
  else if (num l bad 1).1 = 254 then countEnd (num (num l bad 1).2.1 (num l bad 1).2.2 4).1 65536 (num (num l bad 1).2.1 (num l bad 1).2.2 4).2.1 (num (num l bad 1).2.1 (num l bad 1).2.2 4).2.2 most
  else if (num l bad 1).1 = 255 then (0, [], true)
  else countEnd (num l bad 1).1 0 (num l bad 1).2.1 (num l bad 1).2.2 most
end

section
open Go.RowKit

/-- So many bytes of a number, the lowest first. -/
def leb (n : Nat) : Nat → List Int
  | 0 => []
  | k + 1 => leb n k ++ [((n / 256 ^ k % 256 : Nat) : Int)]
theorem leb_len (n : Nat) : ∀ k, (leb n k).length = k
  | 0 => rfl
  | k + 1 => by simp [leb, leb_len n k]
theorem leb_bys (n : Nat) : ∀ k, Bys (leb n k)
  | 0 => Bys.nil
  | k + 1 => by
    refine (leb_bys n k).app fun x hx => ?_
    simp only [List.mem_singleton] at hx
    subst hx
    omega
theorem le_leb (n : Nat) : ∀ k, le (leb n k) = n % 256 ^ k
  | 0 => by simp [leb, le, Nat.mod_one]
  | k + 1 => by
    simp only [leb, le_app, leb_len, le_leb n k, le]
    rw [Int.toNat_natCast, Nat.pow_succ, Nat.mod_mul, Nat.mul_zero, Nat.add_zero]

theorem madeCells_bytes (n : Nat) : madeCells #[.int .u8 0] n = (List.replicate n (Value.int .u8 0)).toArray := by
  apply Array.ext
  · simp [size_madeCells]
  · intro i h1 h2
    simp [madeCells, Nat.mod_one]
theorem own_spliced (w : World) (e G base n : Nat) (l : List Int) (hb : base ≤ G)
    (hg : w.heap[G]? = some (.cells (splice (List.replicate (l.length + n) (Value.int .u8 0)) 0 (byteVals l)).toArray e (0, 0))) (hm : l.length + n ≤ maxLen) :
    Own w base e (.slice (some ⟨G, 0, none⟩) l.length (l.length + n)) l := by
  have hlen : (byteVals l).length = l.length := by simp [byteVals]
  refine ⟨by simp [byteVals], .inr ⟨G, l.length + n, _, rfl, hb, hg, by omega, hm, ?_, ?_⟩⟩
  · rw [List.size_toArray, length_splice _ _ _ (by simp [hlen])]
    simp
  · rw [Nat.mul_one]
    simp only [splice, List.take_zero, List.nil_append]
    rw [List.take_append_of_le_length (by omega), List.take_of_length_le (by omega)]

theorem leb_byte (n j : Nat) : (n : Int) / 2 ^ (8 * j) % 256 = ((n / 256 ^ j % 256 : Nat) : Int) := by
  rw [pow256, Int.natCast_emod, Int.natCast_ediv, Int.natCast_pow]
  rfl
/-- 'n & (2^k - 1)' on an int, of whatever sign. -/
theorem and_mask (n : Int) (k : Nat) (hk : k ≤ 62) : bits .and .i64 n ((2 ^ k - 1 : Nat) : Int) = n % ((2 ^ k : Nat) : Int) := by
  have h1 : (2 : Nat) ^ k ≤ 2 ^ 62 := Nat.pow_le_pow_right (by omega) hk
  have h0 : 0 < (2 : Nat) ^ k := Nat.pow_pos (by omega)
  have hd : (2 : Nat) ^ k ∣ 2 ^ 64 := Nat.pow_dvd_pow 2 (by omega)
  show IntKind.i64.wrap ((BitVec.ofInt 64 n &&& BitVec.ofInt 64 ((2 ^ k - 1 : Nat) : Int)).toNat : Int) = _
  rw [BitVec.toNat_and, BitVec.ofInt_natCast, BitVec.toNat_ofNat, Nat.mod_eq_of_lt (show 2 ^ k - 1 < 2 ^ 64 by omega), Nat.and_two_pow_sub_one_eq_mod, BitVec.toNat_ofInt, IntKind.wrap_i64]
  have h2 : (((n % ((2 ^ 64 : Nat) : Int)).toNat % 2 ^ k : Nat) : Int) = n % ((2 ^ k : Nat) : Int) := by
    rw [Int.natCast_emod, Int.toNat_of_nonneg (Int.emod_nonneg _ (by omega)), Int.emod_emod_of_dvd _ (Int.natCast_dvd_natCast.2 hd)]
  rw [h2]
  have h3 := Int.emod_nonneg n (show ((2 ^ k : Nat) : Int) ≠ 0 by omega)
  have h4 := Int.emod_lt_of_pos n (show (0 : Int) < ((2 ^ k : Nat) : Int) by omega)
  omega
theorem leb_at (n : Nat) : ∀ (m j : Nat), j < m → (leb n m)[j]?.getD 0 = (n : Int) / 2 ^ (8 * j) % 256
  | m + 1, j, h => by
    rw [leb_byte]
    by_cases hj : j < m
    · have ih := leb_at n m j hj
      rw [leb_byte] at ih
      rw [← ih]
      simp [leb, List.getElem?_append_left (show j < (leb n m).length by rw [leb_len]; exact hj)]
    · obtain rfl : j = m := by omega
      simp [leb, leb_len]
theorem sl_one (w : World) (e g : Nat) (x : Int) (hg : w.heap.size ≠ g) : Sl (w.alloc (.cells #[.int .u8 x] e)) g (.slice (some ⟨w.heap.size, 0, none⟩) 1 1) [x] := by
  refine ⟨_, 1, rfl, Nat.le_refl _, (fun h => by cases h), fun _ => ⟨w.heap.size, 0, rfl, hg, by simp, fun i hi => ?_⟩⟩
  have h0 : i = 0 := by simpa using hi
  subst h0
  exact (Box.fresh w e #[.int .u8 x]).cell 0
theorem Own.lt {w : World} {base e : Nat} {v : Value} {l : List Int} (h : Own w base e v l) : ∀ k, v.ownBlock = some k → base ≤ k ∧ k < w.heap.size := World.ownsRow.lt h

set_option maxRecDepth 100000 in
set_option maxHeartbeats 1000000 in
theorem with_any (w : World) (g : Nat) (v : Value) (l : List Int) (n k : Nat) (h : Sl w g v l) (h47 : l.length ≤ 140737488355000) (hk : k ≤ 8) :
    Calls Try.prog 98 #[v, .int .u64 (n : Int), .int .i64 (k : Int)] w (NewBytes (l ++ leb n k) w) := by
  obtain ⟨i0, hi, hz0, hz1, hz2⟩ := info_parts infoByte
  have hmk : ∀ W : World, (Instr.makeSlice 55 (.int .i64 (l.length : Int)) (.int .i64 ((l.length : Int) + (k : Int)))).run Try.prog W = .ok (.slice (some ⟨W.heap.size, 0, none⟩) l.length (l.length + k)) (W.alloc (.cells (List.replicate (l.length + k) (Value.int .u8 0)).toArray 5)) := fun W => by
    have hr := run_make (P := Try.prog) W 55 5 i0 _ Try.underlying55 hi hz0 .i64 .i64 (l.length : Int) ((l.length : Int) + (k : Int)) (by omega) (by omega) (by rw [hz2]; omega) (by omega)
    rw [hz1, show ((l.length : Int) + (k : Int)).toNat = l.length + k from by omega, show (l.length : Int).toNat = l.length from by omega, Nat.mul_one] at hr
    rw [hr, ← madeCells_bytes]
    rfl
  have Hs := Lib.hid (h.free w.heap.size (Nat.le_refl _))
  obtain ⟨A, c, rfl, hc, hnn, hr⟩ := h
  have hlk : (l.length : Int) + (k : Int) ≤ 140737488355008 := by omega
  clear hnn hr
  go_enter Try.func98, Try.ntmps98
  go_wp2_with (refine wpList_copy_splice (o := ⟨some 18, _, _, _, _, _⟩) rfl (.tmp 16) (.tmp 17) 55 55 rfl 5 Try.underlying55 (by kernel_rfl) _ _ _ _ _ _ rfl rfl w.heap.size 0 (List.replicate (l.length + k) (Value.int .u8 0)) 5 ?c1 (byteVals l) ?c2 ?c3 ?c4 ?c5 w.heap.size w ?c6 ?c7 ?_)
  case c1 => rw [List.toArray_replicate]; exact heap_alloc_new w _
  case c2 => simp [byteVals]
  case c3 =>
    intro hp
    obtain ⟨A', c', e, _, _, hr⟩ := (Hs.out.below ((Below.refl _ _).alloc (Nat.le_refl _) (.cells (Array.replicate (l.length + k) (Value.int .u8 0)) 5)))
    injection e with e1 e2 e3
    subst e1; subst e3
    obtain ⟨b, off, rfl, _, _, hrun⟩ := hr (by rintro rfl; simp [byteVals] at hp)
    refine ⟨⟨b, off, none⟩, rfl, fun j v hv => ?_⟩
    obtain ⟨hj, rfl⟩ := byteVals_at l j v hv
    rw [← hrun j hj]
    by_cases h0 : j = 0 <;> simp [Addr.add, h0]
  case c4 => simp [byteVals]
  case c5 => exact byteVals_one l
  case c6 => exact (Below.refl _ _).alloc (Nat.le_refl _) _
  case c7 => exact Nat.le_refl _
  intro w1 hg1 hb1
  have Hg := Lib.hid (own_spliced w1 5 w.heap.size w.heap.size k l (Nat.le_refl _) hg1.out (by unfold maxLen; omega))
  have Hb := Lib.hid hb1
  clear hg1 hb1 hmk
  go_wp2
  go_loopw [7, 8, 20] (fun all _ cnt wr => ∃ j : Nat, j ≤ k ∧ cnt = .int .i64 j ∧ Own wr w.heap.size 5 all (l ++ leb n j) ∧ Below w.heap.size w wr) (fun _ _ cnt _ => k - (intOf cnt).toNat)
  case atStart => exact ⟨0, by omega, rfl, by simpa [leb] using Hg.out, Hb.out⟩
  case round =>
    obtain ⟨j, hj, rfl, ho, hb⟩ := hrel
    have Ho := Lib.hid ho
    have HB := Lib.hid hb
    clear ho hb
    by_cases hlt : j < k
    · go_wp2_with (at_builtin; refine wpList_append_bytes rfl (.tmp 23) (.tmp 29) 55 rfl w.heap.size 5 i0 Try.underlying55 hi hz0 hz1 hz2 _ (l ++ leb n j) rfl ?d1 (wr.heap.size + 1) _ [(n : Int) / 2 ^ (8 * j) % 256] rfl ?d2 ?d3 ?d4 ?_)
      case d1 => exact Ho.out.below ((Below.refl _ _).alloc (Nat.le_refl _) _)
      case d2 => exact sl_one wr 5 _ _ (by omega)
      case d3 => simp [leb_len]; omega
      case d4 => simpa using Nat.le_succ_of_le HB.out.size
      intro v' w' ho hg
      have hnb := HB.out.size
      have Hn := Lib.hid (Below.grown (HB.out.alloc HB.out.size (.cells #[.int .u8 ((n : Int) / 2 ^ (8 * j) % 256)] 5)) hg (by simp; omega) (fun q hq => (Ho.out.lt q hq).1))
      have ho2 : Own w' w.heap.size 5 v' (l ++ leb n (j + 1)) := by
        rw [leb_byte] at ho
        exact ho
      have Ho2 := Lib.hid ho2
      clear ho hg ho2 hnb
      go_wp2
      go_roundw
      case rel => exact ⟨j + 1, by omega, by go_num, Ho2.out, Hn.out⟩
      case measure => simp [intOf]; omega
    · obtain rfl : j = k := by omega
      go_wp2
      go_ret
      exact ⟨_, rfl, Ho.out, HB.out⟩

set_option maxRecDepth 100000 in
set_option maxHeartbeats 400000 in
theorem small_any (w : World) (g : Nat) (v : Value) (l : List Int) (n : Nat) (h : Sl w g v l) (h47 : l.length ≤ 140737488355000) (hn : n < 4294967296) :
    Calls Try.prog 91 #[v, .int .u32 (n : Int)] w (NewBytes (l ++ leb n 4) w) := by
  have H := Lib.hid (with_any w g v l n 4 h h47 (by omega))
  have hw : IntKind.u64.wrap (n : Int) = n := by rw [IntKind.wrap_u64]; omega
  clear h
  go_enter Try.func91, Try.ntmps91
  go_wp2_with fail
  refine H.out.mono ?_
  rintro e w1 ⟨v1, rfl, ho, hb⟩
  go_wp2
  go_ret
  exact ⟨_, rfl, ho, hb⟩
set_option maxRecDepth 100000 in
set_option maxHeartbeats 400000 in
theorem big_any (w : World) (g : Nat) (v : Value) (l : List Int) (n : Nat) (h : Sl w g v l) (h47 : l.length ≤ 140737488355000) :
    Calls Try.prog 99 #[v, .int .u64 (n : Int)] w (NewBytes (l ++ leb n 8) w) := by
  have H := Lib.hid (with_any w g v l n 8 h h47 (by omega))
  clear h
  go_enter Try.func99, Try.ntmps99
  go_wp2_with fail
  refine H.out.mono ?_
  rintro e w1 ⟨v1, rfl, ho, hb⟩
  go_wp2
  go_ret
  exact ⟨_, rfl, ho, hb⟩

/-- The bytes of a count. -/
def cnt (c : Nat) : List Int := if c < 253 then leb c 1 else if c ≤ 65535 then 253 :: leb c 2 else 254 :: leb c 4
theorem cnt_len1 (m : Nat) (h : (m : Int) < 253) : (cnt m).length = 1 := by rw [cnt, if_pos (by omega), leb_len]
theorem cnt_len3 (m : Nat) (h : ¬ (m : Int) < 253) (h' : (m : Int) < 65536) : (cnt m).length = 3 := by rw [cnt, if_neg (by omega), if_pos (by omega), List.length_cons, leb_len]
theorem cnt_len5 (m : Nat) (h' : ¬ (m : Int) < 65536) : (cnt m).length = 5 := by rw [cnt, if_neg (by omega), if_neg (by omega), List.length_cons, leb_len]
def clamp (n : Int) : Nat := min n.toNat 4294967295
theorem leb_cons (u x : Nat) (hx : x < 256) : ∀ k, leb (256 * u + x) (k + 1) = (x : Int) :: leb u k
  | 0 => by simp [leb]; omega
  | k + 1 => by
    have ih := leb_cons u x hx k
    rw [show leb (256 * u + x) (k + 1 + 1) = leb (256 * u + x) (k + 1) ++ [(((256 * u + x) / 256 ^ (k + 1) % 256 : Nat) : Int)] from rfl, ih]
    rw [show (256 * u + x) / 256 ^ (k + 1) = u / 256 ^ k by rw [Nat.pow_succ, Nat.mul_comm (256 ^ k) 256, ← Nat.div_div_eq_div_mul, show (256 * u + x) / 256 = u by omega]]
    rfl
theorem or_low (u x : Nat) (hu : u < 4294967296) (hx : x < 256) : bits .or .u64 ((u : Int) * 256) (x : Int) = ((256 * u + x : Nat) : Int) := by
  have h1 : (u : Int) * 256 = ((256 * u : Nat) : Int) := by omega
  rw [h1, u64_or_nat _ _ (by omega) (by omega)]
  have h4 := Nat.two_pow_add_eq_or_of_lt (i := 8) (b := x) (by omega) u
  rw [show (2 : Nat) ^ 8 = 256 from rfl] at h4
  rw [h4]
theorem clamp_in (m : Nat) (h : (m : Int) ≤ 4294967295) : clamp (m : Int) = m := by unfold clamp; rw [Int.toNat_natCast]; omega
theorem clamp_over (m : Nat) (h : (4294967295 : Int) < m) : clamp (m : Int) = 4294967295 := by unfold clamp; rw [Int.toNat_natCast]; omega
theorem clamp_low (n : Int) (h : n < 0) : clamp n = 0 := by unfold clamp; omega
theorem cnt_1 (m : Nat) (h : (m : Int) < 253) : cnt m = leb m 1 := if_pos (by omega)
theorem cnt_3 (m : Nat) (h : ¬ (m : Int) < 253) (h' : (m : Int) ≤ 65535) : cnt m = leb (256 * m + 253) 3 := by
  rw [leb_cons m 253 (by omega) 2]
  unfold cnt
  rw [if_neg (by omega), if_pos (by omega)]
  rfl
theorem cnt_5 (m : Nat) (h' : ¬ (m : Int) ≤ 65535) : cnt m = leb (256 * m + 254) 5 := by
  rw [leb_cons m 254 (by omega) 4]
  unfold cnt
  rw [if_neg (by omega), if_neg (by omega)]
  rfl
set_option maxRecDepth 100000 in
set_option maxHeartbeats 400000 in
theorem count_any (w : World) (g : Nat) (v : Value) (l : List Int) (n : Int) (h : Sl w g v l) (h47 : l.length ≤ 140737488355000) (hn : -9223372036854775808 ≤ n ∧ n ≤ 9223372036854775807) :
    Calls Try.prog 92 #[v, .int .i64 n] w (NewBytes (l ++ cnt (clamp n)) w) := by
  have H := fun m k (hk : k ≤ 8) => with_any w g v l m k h h47 hk
  have HH := Lib.hid H
  clear H h
  by_cases h0 : n < 0
  · have HC := Lib.hid (show cnt (clamp n) = leb 0 1 by rw [clamp_low n h0]; rfl)
    go_enter Try.func92, Try.ntmps92
    go_wp2_with fail
    refine (HH.out 0 1 (by omega)).mono ?_
    rintro e w1 ⟨v1, rfl, ho, hb⟩
    go_wp2
    go_ret
    rw [HC.out]
    exact ⟨_, rfl, ho, hb⟩
  · obtain ⟨m, rfl⟩ := Int.eq_ofNat_of_zero_le (show 0 ≤ n by omega)
    have Hn := Lib.hid hn
    have hw0 : IntKind.u64.wrap (m : Int) = m := by rw [IntKind.wrap_u64]; omega
    clear hn h0
    go_enter Try.func92, Try.ntmps92
    go_wp2_with fail
    · have t1 : (m : Int) < 253 := by omega
      have HC := Lib.hid (show cnt (clamp m) = leb m 1 by rw [clamp_in m (by omega), cnt_1 m t1])
      refine (HH.out m 1 (by omega)).mono ?_
      rintro e w1 ⟨v1, rfl, ho, hb⟩
      go_wp2
      go_ret
      rw [HC.out]
      exact ⟨_, rfl, ho, hb⟩
    · have t1 : ¬ (m : Int) < 253 := by omega
      have t2 : (m : Int) ≤ 65535 := by omega
      have HC := Lib.hid (show cnt (clamp m) = leb (256 * m + 253) 3 by rw [clamp_in m (by omega), cnt_3 m t1 t2])
      have ho := or_low m 253 (by omega) (by omega)
      rw [show ((253 : Nat) : Int) = 253 from rfl] at ho
      rw [ho]
      clear ho
      refine (HH.out (256 * m + 253) 3 (by omega)).mono ?_
      rintro e w1 ⟨v1, rfl, ho, hb⟩
      go_wp2
      go_ret
      rw [HC.out]
      exact ⟨_, rfl, ho, hb⟩
    · have t0 : (4294967295 : Int) < m := by omega
      have HC := Lib.hid (show cnt (clamp m) = leb (256 * 4294967295 + 254) 5 by rw [clamp_over m t0, cnt_5 4294967295 (by omega)])
      have ho := or_low 4294967295 254 (by omega) (by omega)
      rw [show ((4294967295 : Nat) : Int) * 256 = 1099511627520 by decide, show ((254 : Nat) : Int) = 254 from rfl] at ho
      rw [ho]
      clear ho
      refine (HH.out (256 * 4294967295 + 254) 5 (by omega)).mono ?_
      rintro e w1 ⟨v1, rfl, ho, hb⟩
      go_wp2
      go_ret
      rw [HC.out]
      exact ⟨_, rfl, ho, hb⟩
    · have t1 : ¬ (m : Int) ≤ 65535 := by omega
      have t2 : (m : Int) ≤ 4294967295 := by omega
      have HC := Lib.hid (show cnt (clamp m) = leb (256 * m + 254) 5 by rw [clamp_in m (by omega), cnt_5 m t1])
      have ho := or_low m 254 (by omega) (by omega)
      rw [show ((254 : Nat) : Int) = 254 from rfl] at ho
      rw [ho]
      clear ho
      refine (HH.out (256 * m + 254) 5 (by omega)).mono ?_
      rintro e w1 ⟨v1, rfl, ho, hb⟩
      go_wp2
      go_ret
      rw [HC.out]
      exact ⟨_, rfl, ho, hb⟩
end

section
open Go.RowKit

set_option maxRecDepth 100000 in
/-- 'string(b)' of a slice of bytes. -/
theorem run_str {w : World} {g : Nat} {v : Value} {l : List Int} (h : Sl w g v l) :
    (convert 55 9 v).run Try.prog w = .ok (.string (strOfNums l)) w := by
  obtain ⟨A, c, rfl, hc, hn, hr⟩ := h
  cases A with
  | none =>
    have hl : l = [] := by
      by_cases h0 : l = []
      · exact h0
      · obtain ⟨_, _, he, _⟩ := hr h0
        cases he
    subst hl
    exact run_convert_bytes_nil w 55 5 Try.underlying55 Try.underlying5 _ _ 9 Try.underlying9
  | some ad =>
    by_cases h0 : l = []
    · subst h0
      rw [run_convert_bytes_string w 55 9 5 _ _ c Try.underlying55 Try.underlying5 Try.underlying9]
      have hl : (loadCells ad (List.length ([] : List Int))).run Try.prog w = .ok (([] : List Int).map (Value.int .u8)).toArray w :=
        run_loadCells_list (P := Try.prog) w ad [] (fun j v hj => by simp at hj)
      rw [run_bytesToString w ad _ c [] hl]
      rfl
    · obtain ⟨b, off, e, _, _, hrun⟩ := hr h0
      injection e with e
      subst e
      exact run_convert_bytes_arg w 55 5 Try.underlying55 Try.underlying5 b off l.length c l rfl hrun 9 Try.underlying9

theorem Own.any {w : World} {base e : Nat} {v : Value} {l : List Int} (h : Own w base e v l) : Sl w w.heap.size v l := h.sl _ (.inr (Nat.le_refl _))

def YesPost (w : World) (e : Ending) (w' : World) : Prop := e = .returned (.bool true) ∧ Below w.heap.size w w'
end

section
theorem num_app (A B : List Int) (bad : Bool) (n : Nat) (h : A.length = n) : num (A ++ B) bad n = (le A, B, bad) := by
  subst h
  unfold num
  rw [if_pos (by simp), List.take_left, List.drop_left]
theorem num_short (l : List Int) (bad : Bool) (n : Nat) (h : l.length < n) : num l bad n = (0, [], true) := if_neg (by omega)
theorem count_bad (bad : Bool) (most : Int) : count [] bad most = (0, [], true) := by
  unfold count
  rw [num_short [] bad 1 (by simp), if_neg (by simp), if_neg (by simp), if_neg (by simp)]
  unfold countEnd
  split <;> rfl
theorem le_leb_of (n k : Nat) (h : n < 256 ^ k) : le (leb n k) = n := by rw [le_leb, Nat.mod_eq_of_lt h]
theorem leb_one (n : Nat) (h : n < 256) : leb n 1 = [(n : Int)] := by simp [leb]; omega

/-- A count is read back as it was. -/
theorem count_back (m : Nat) (B : List Int) (most : Int) (hm : m ≤ 4294967295) (hmost : (m : Int) ≤ most) : count (cnt m ++ B) false most = (m, B, false) := by
  unfold cnt
  by_cases h1 : m < 253
  · rw [if_pos h1]
    unfold count
    rw [num_app (leb m 1) B false 1 (leb_len m 1)]
    simp only
    rw [le_leb_of m 1 (by omega), if_neg (by omega), if_neg (by omega), if_neg (by omega), countEnd_ok _ _ _ _ _ (by omega)]
    simp
  · rw [if_neg h1]
    by_cases h2 : m ≤ 65535
    · rw [if_pos h2]
      unfold count
      rw [show (253 : Int) :: leb m 2 ++ B = [253] ++ (leb m 2 ++ B) from rfl, num_app [253] _ false 1 rfl]
      simp only
      rw [if_pos (by rfl), num_app (leb m 2) B false 2 (leb_len m 2)]
      simp only
      rw [le_leb_of m 2 (by omega), countEnd_ok _ _ _ _ _ (by omega)]
      simp
    · rw [if_neg h2]
      unfold count
      rw [show (254 : Int) :: leb m 4 ++ B = [254] ++ (leb m 4 ++ B) from rfl, num_app [254] _ false 1 rfl]
      simp only
      rw [if_neg (by simp [le]), if_pos (by rfl), num_app (leb m 4) B false 4 (leb_len m 4)]
      simp only
      rw [le_leb_of m 4 (by omega), countEnd_ok _ _ _ _ _ (by omega)]
      simp
/-- A count that is cut can't be read. -/
theorem count_cut (m : Nat) (j : Nat) (most : Int) (hj : j < (cnt m).length) : count ((cnt m).take j) false most = (0, [], true) := by
  rcases Nat.eq_zero_or_pos j with h0 | h0
  · subst h0
    rw [List.take_zero, count_bad]
  unfold cnt at hj ⊢
  by_cases h1 : m < 253
  · rw [if_pos h1, leb_len] at hj
    omega
  · rw [if_neg h1] at hj ⊢
    by_cases h2 : m ≤ 65535
    · rw [if_pos h2, List.length_cons, leb_len] at hj
      rw [if_pos h2]
      obtain ⟨i, rfl⟩ : ∃ i, j = i + 1 := ⟨j - 1, by omega⟩
      rw [List.take_succ_cons]
      unfold count
      rw [show (253 : Int) :: (leb m 2).take i = [253] ++ (leb m 2).take i from rfl, num_app [253] _ false 1 rfl]
      simp only
      rw [if_pos (by rfl), num_short _ _ 2 (by rw [List.length_take, leb_len]; omega)]
      exact countEnd_no _ _ _ _ _ (by omega)
    · rw [if_neg h2, List.length_cons, leb_len] at hj
      rw [if_neg h2]
      obtain ⟨i, rfl⟩ : ∃ i, j = i + 1 := ⟨j - 1, by omega⟩
      rw [List.take_succ_cons]
      unfold count
      rw [show (254 : Int) :: (leb m 4).take i = [254] ++ (leb m 4).take i from rfl, num_app [254] _ false 1 rfl]
      simp only
      rw [if_neg (by simp [le]), if_pos (by rfl), num_short _ _ 4 (by rw [List.length_take, leb_len]; omega)]
      exact countEnd_no _ _ _ _ _ (by omega)

theorem cnt_bys (m : Nat) : Bys (cnt m) := by
  unfold cnt
  split
  · exact leb_bys m 1
  · split
    · exact Bys.app (l := [253]) (by unfold Bys; decide) (leb_bys m 2)
    · exact Bys.app (l := [254]) (by unfold Bys; decide) (leb_bys m 4)
theorem cnt_pos (m : Nat) : 0 < (cnt m).length := by
  unfold cnt
  split
  · simp [leb_len]
  · split <;> simp
theorem cnt_max (m : Nat) : (cnt m).length ≤ 5 := by
  unfold cnt
  split
  · simp [leb_len]
  · split <;> simp [leb_len]

/-- What a Reader says of three numbers, one behind the other. -/
def three (l : List Int) (most : Int) : Nat × Nat × (Nat × List Int × Bool) :=
  ((num l false 4).1, (num (num l false 4).2.1 (num l false 4).2.2 8).1, count (num (num l false 4).2.1 (num l false 4).2.2 8).2.1 (num (num l false 4).2.1 (num l false 4).2.2 8).2.2 most)
theorem three_back (a u m : Nat) (ha : a < 4294967296) (hu : u < 18446744073709551616) (hm : m ≤ 4294967295) :
    three (leb a 4 ++ (leb u 8 ++ cnt m)) 4294967295 = (a, u, (m, [], false)) := by
  unfold three
  rw [num_app (leb a 4) _ false 4 (leb_len a 4)]
  simp only
  rw [num_app (leb u 8) _ false 8 (leb_len u 8)]
  simp only
  have h := count_back m [] 4294967295 hm (by omega)
  rw [List.append_nil] at h
  rw [h, le_leb_of a 4 (by omega), le_leb_of u 8 (by omega)]
theorem three_cut (a u m k : Nat) (hk : k < (leb a 4 ++ (leb u 8 ++ cnt m)).length) : ∃ x y, three ((leb a 4 ++ (leb u 8 ++ cnt m)).take k) 4294967295 = (x, y, (0, [], true)) := by
  rw [List.length_append, List.length_append, leb_len, leb_len] at hk
  unfold three
  by_cases h1 : k < 4
  · rw [num_short _ false 4 (by rw [List.length_take]; omega)]
    simp only
    rw [num_short [] true 8 (by simp)]
    simp only
    rw [count_bad]
    exact ⟨_, _, rfl⟩
  · rw [List.take_append, List.take_of_length_le (by rw [leb_len]; omega), num_app (leb a 4) _ false 4 (leb_len a 4), leb_len]
    simp only
    by_cases h2 : k < 12
    · rw [num_short _ false 8 (by rw [List.length_take]; omega)]
      simp only
      rw [count_bad]
      exact ⟨_, _, rfl⟩
    · rw [List.take_append, List.take_of_length_le (by rw [leb_len]; omega), num_app (leb u 8) _ false 8 (leb_len u 8), leb_len]
      simp only
      rw [count_cut m (k - 4 - 8) _ (by omega)]
      exact ⟨_, _, rfl⟩
end

section
open Go.RowKit

/-- The bytes of a string as numbers. -/
def nums (s : ByteArray) : List Int := s.data.toList.map fun b => (b.toNat : Int)
theorem nums_bys (s : ByteArray) : Bys (nums s) := by
  intro x hx
  obtain ⟨b, _, rfl⟩ := List.mem_map.1 hx
  have := b.toNat_lt
  omega
theorem nums_len (s : ByteArray) : (nums s).length = s.size := by
  unfold nums
  rw [List.length_map]
  rfl
theorem nums_str {l : List Int} (h : Bys l) : nums (strOfNums l) = l := by
  unfold nums
  rw [strOfNums_data, List.map_map]
  conv => rhs; rw [← List.map_id l]
  apply List.map_congr_left
  intro x hx
  have := h x hx
  simp only [Function.comp, id]
  have h2 : (UInt8.ofNat x.toNat).toNat = x.toNat % 256 := rfl
  rw [h2]
  omega
theorem str_below (w : World) (e : Nat) (s : ByteArray) : Below w.heap.size w (Lib.bytesWorld w e s) :=
  ⟨rfl, rfl, rfl, by rw [Lib.bytesWorld_size]; omega, fun k hk => Lib.bytesWorld_at_old w e s k hk⟩
set_option maxRecDepth 100000 in
theorem str_sl (w : World) (s : ByteArray) (g : Nat) (hg : g ≠ w.heap.size) :
    Sl (Lib.bytesWorld w 5 s) g (.slice (some ⟨w.heap.size, 0, none⟩) s.size (grownCap w s.size 0 5)) (nums s) := by
  refine ⟨_, _, by rw [nums_len], by rw [nums_len]; exact grownCap_ge _ _ _ _, (fun h => by cases h), fun _ => ⟨w.heap.size, 0, rfl, fun h => hg h.symm, by rw [Lib.bytesWorld_size]; omega, fun i hi => ?_⟩⟩
  rw [nums_len] at hi
  rw [Nat.zero_add, Lib.bytesWorld_cell w 5 s i hi]
  have hl : i < s.data.toList.length := hi
  simp [nums, List.getD_eq_getElem?_getD, List.getElem?_eq_getElem hl]

theorem count_neg (l : List Int) (bad : Bool) (most : Int) (h : most < 0) : count l bad most = (0, [], true) := by
  unfold count
  split
  · exact countEnd_no _ _ _ _ _ (.inr (.inl h))
  · split
    · exact countEnd_no _ _ _ _ _ (.inr (.inl h))
    · split
      · rfl
      · exact countEnd_no _ _ _ _ _ (.inr (.inl h))
/-- A count above the bound can't be read. -/
theorem count_low (m : Nat) (B : List Int) (most : Int) (hm : m ≤ 4294967295) (hmost : most < (m : Int)) : count (cnt m ++ B) false most = (0, [], true) := by
  unfold cnt
  by_cases h1 : m < 253
  · rw [if_pos h1]
    unfold count
    rw [num_app (leb m 1) B false 1 (leb_len m 1)]
    simp only
    rw [le_leb_of m 1 (by omega), if_neg (by omega), if_neg (by omega), if_neg (by omega), countEnd_no _ _ _ _ _ (by omega)]
  · rw [if_neg h1]
    by_cases h2 : m ≤ 65535
    · rw [if_pos h2]
      unfold count
      rw [show (253 : Int) :: leb m 2 ++ B = [253] ++ (leb m 2 ++ B) from rfl, num_app [253] _ false 1 rfl]
      simp only
      rw [if_pos (by rfl), num_app (leb m 2) B false 2 (leb_len m 2)]
      simp only
      rw [le_leb_of m 2 (by omega), countEnd_no _ _ _ _ _ (by omega)]
    · rw [if_neg h2]
      unfold count
      rw [show (254 : Int) :: leb m 4 ++ B = [254] ++ (leb m 4 ++ B) from rfl, num_app [254] _ false 1 rfl]
      simp only
      rw [if_neg (by simp [le]), if_pos (by rfl), num_app (leb m 4) B false 4 (leb_len m 4)]
      simp only
      rw [le_leb_of m 4 (by omega), countEnd_no _ _ _ _ _ (by omega)]
/-- What a row of WireForms says: bytes that are just those of a count, or that are none. -/
def Good (s : ByteArray) (n : Int) (ok : Bool) : Prop :=
  s.size ≤ 100 ∧ ((ok = true ∧ ∃ m : Nat, n = (m : Int) ∧ m ≤ 4294967295 ∧ s = strOfNums (cnt m)) ∨ (ok = false ∧ n = 0 ∧ count (nums s) false 4294967295 = (0, [], true)))
theorem good_yes (m : Nat) (hm : m ≤ 4294967295) (s : ByteArray) (h : s = strOfNums (cnt m)) : Good s (m : Int) true := ⟨by rw [h, strOfNums_size]; have := cnt_max m; omega, .inl ⟨rfl, m, rfl, hm, h⟩⟩
theorem good_no (s : ByteArray) (hs : s.size ≤ 100) (h : count (nums s) false 4294967295 = (0, [], true)) : Good s 0 false := ⟨hs, .inr ⟨rfl, rfl, h⟩⟩
theorem good_0 : Good ⟨#[0]⟩ 0 true := good_yes 0 (by omega) _ (by decide +kernel)
theorem good_1 : Good ⟨#[252]⟩ 252 true := good_yes 252 (by omega) _ (by decide +kernel)
theorem good_2 : Good ⟨#[253, 253, 0]⟩ 253 true := good_yes 253 (by omega) _ (by decide +kernel)
theorem good_3 : Good ⟨#[253, 255, 255]⟩ 65535 true := good_yes 65535 (by omega) _ (by decide +kernel)
theorem good_4 : Good ⟨#[254, 0, 0, 1, 0]⟩ 65536 true := good_yes 65536 (by omega) _ (by decide +kernel)
theorem good_5 : Good ⟨#[254, 255, 255, 255, 255]⟩ 4294967295 true := good_yes 4294967295 (by omega) _ (by decide +kernel)
theorem good_6 : Good ⟨#[253, 252, 0]⟩ 0 false := good_no _ (by decide) (by decide +kernel)
theorem good_7 : Good ⟨#[254, 255, 255, 0, 0]⟩ 0 false := good_no _ (by decide) (by decide +kernel)
theorem good_8 : Good ⟨#[255, 0, 0, 0, 0, 1, 0, 0, 0]⟩ 0 false := good_no _ (by decide) (by decide +kernel)
theorem good_9 : Good ⟨#[253, 253]⟩ 0 false := good_no _ (by decide) (by decide +kernel)
theorem good_10 : Good ⟨#[]⟩ 0 false := good_no _ (by decide) (by decide +kernel)
end

section
open Go.RowKit

/-- Element by element. -/
def eqB {α : Type} (p : α → α → Bool) : List α → List α → Bool
  | [], [] => true
  | a :: x, b :: y => p a b && eqB p x y
  | _, _ => false
theorem eqB_len {α : Type} {p : α → α → Bool} : ∀ {x y : List α}, x.length ≠ y.length → eqB p x y = false
  | [], [], h => absurd rfl h
  | [], _ :: _, _ => rfl
  | _ :: _, [], _ => rfl
  | a :: x, b :: y, h => by
    have : x.length ≠ y.length := fun e => h (by simp [e])
    simp [eqB, eqB_len this]
theorem eqB_no {α : Type} {p : α → α → Bool} : ∀ {x y : List α} {i : Nat} (h1 : i < x.length) (h2 : i < y.length), p x[i] y[i] = false → eqB p x y = false
  | a :: x, b :: y, 0, _, _, h => by simp at h; simp [eqB, h]
  | a :: x, b :: y, i + 1, h1, h2, h => by
    simp at h1 h2 h
    simp [eqB, eqB_no h1 h2 h]
theorem eqB_yes {α : Type} {p : α → α → Bool} : ∀ {x y : List α}, x.length = y.length → (∀ (i : Nat) (h1 : i < x.length) (h2 : i < y.length), p x[i] y[i] = true) → eqB p x y = true
  | [], [], _, _ => rfl
  | [], _ :: _, h, _ => by simp at h
  | _ :: _, [], h, _ => by simp at h
  | a :: x, b :: y, h, hp => by
    have h0 := hp 0 (by simp) (by simp)
    simp at h0 h
    simp only [eqB, h0, Bool.true_and]
    exact eqB_yes h fun i h1 h2 => by
      have := hp (i + 1) (by simp; omega) (by simp; omega)
      rw [List.getElem_cons_succ, List.getElem_cons_succ] at this
      exact this

def Asks2 {α : Type} (R : World → List Value → α → Prop) (enc : List Value → Value) (f : Nat) (p : α → α → Bool) : Prop :=
  ∀ (W : World) (c1 : List Value) (x1 : α) (c2 : List Value) (x2 : α), R W c1 x1 → R W c2 x2 → Calls Try.prog f #[enc c1, enc c2] W (BoolP (p x1 x2) W)
/-- GENERATED -/
theorem gen_c_here : True := trivial
end

section
open Go.RowKit

theorem str_inj {a b : List Int} (ha : Bys a) (hb : Bys b) (h : strOfNums a = strOfNums b) : a = b := by rw [← nums_str ha, ← nums_str hb, h]

theorem str_eqB {a b : List Int} (ha : Bys a) (hb : Bys b) : ((strOfNums a).toList == (strOfNums b).toList) = decide (a = b) := by
  rw [Bool.eq_iff_iff]
  simp only [beq_iff_eq, decide_eq_true_eq]
  refine ⟨fun h => str_inj ha hb ?_, fun h => by rw [h]⟩
  rw [ByteArray.toList_eq, ByteArray.toList_eq] at h
  generalize strOfNums a = x at *
  generalize strOfNums b = y at *
  obtain ⟨⟨x⟩⟩ := x
  obtain ⟨⟨y⟩⟩ := y
  simp at h
  rw [h]

def beqB (a b : List Int) : Bool := decide (a = b)
theorem eqB_dec {α : Type} [DecidableEq α] {p : α → α → Bool} (hp : ∀ a b, p a b = decide (a = b)) : ∀ x y : List α, eqB p x y = decide (x = y)
  | [], [] => by simp [eqB]
  | [], _ :: _ => by simp [eqB]
  | _ :: _, [] => by simp [eqB]
  | a :: x, b :: y => by
    rw [eqB, hp, eqB_dec hp x y, Bool.eq_iff_iff]
    simp

set_option maxRecDepth 100000 in
/-- Arrays of bytes. -/
theorem eql_prev (p q : List Int) (hp : Bys p) (hq : Bys q) (h1 : p.length = 32) (h2 : q.length = 32) (w : World) :
    (Op.equalIn 10000 39 (.agg (byteVals p).toArray) (.agg (byteVals q).toArray)).run Try.prog w = .ok (decide (p = q)) w := by
  have key : ∀ l : List Int, Bys l → byteVals l = (l.map fun x => UInt8.ofNat x.toNat).map Extern.Stop.cell := fun l hl => by
    unfold byteVals
    rw [List.map_map]
    apply List.map_congr_left
    intro x hx
    have := hl x hx
    show Value.int .u8 x = Value.int .u8 ((UInt8.ofNat x.toNat).toNat : Int)
    congr 1
    simp
    omega
  rw [key p hp, key q hq, run_equalIn_bytes w 9998 39 5 32 Try.underlying39 Try.underlying5 (fun w => by kernel_rfl) _ _ (by simpa using h1) (by simpa using h2)]
  congr 1
  rw [Bool.eq_iff_iff]
  simp only [beq_iff_eq, decide_eq_true_eq]
  refine ⟨fun h => ?_, fun h => by rw [h]⟩
  have hb : ∀ l : List Int, Bys l → (l.map fun x => UInt8.ofNat x.toNat).map (fun u => (u.toNat : Int)) = l := fun l hl => by
    rw [List.map_map]
    conv => rhs; rw [← List.map_id l]
    apply List.map_congr_left
    intro x hx
    have := hl x hx
    simp
    omega
  rw [← hb p hp, ← hb q hq, h]

def sameInB (a b : InD) : Bool := decide (a.prev = b.prev) && (decide (a.vout = b.vout) && (decide (a.seq = b.seq) && (decide (a.script = b.script) && eqB beqB a.wit b.wit)))
theorem sameInB_dec (a b : InD) : sameInB a b = decide (a = b) := by
  unfold sameInB
  rw [eqB_dec (p := beqB) (fun _ _ => rfl), Bool.eq_iff_iff]
  cases a
  cases b
  simp
  intro _ _
  constructor
  · rintro ⟨h3, h4, h5⟩; exact ⟨h4, h3, h5⟩
  · rintro ⟨h3, h4, h5⟩; exact ⟨h4, h3, h5⟩
theorem inCells_range {w : World} {d : InD} {sv wv : Value} {g : Nat} {t : Nat} (h : w.heap[g]? = some (.cells (inCells d sv wv).toArray t (0, 0))) : w.rangeAt g 0 (byteVals d.prev) := fun j v hj => by
  rw [Nat.zero_add, cell_of_row w g j _ t (0, 0) h]
  unfold inCells
  rw [List.getElem?_toArray, List.getElem?_append_left (List.getElem?_eq_some_iff.1 hj).1]
  exact hj
end

section
open Go.RowKit

def sameOutB (a b : OutD) : Bool := decide (a.value = b.value) && decide (a.script = b.script)
theorem sameOutB_dec (a b : OutD) : sameOutB a b = decide (a = b) := by
  unfold sameOutB
  cases a
  cases b
  rw [Bool.eq_iff_iff]
  simp
def sameB (a b : TxD) : Bool := decide (a.version = b.version) && (decide (a.lock = b.lock) && (eqB sameInB a.ins b.ins && eqB sameOutB a.outs b.outs))
theorem sameB_dec (a b : TxD) : sameB a b = decide (a = b) := by
  unfold sameB
  rw [eqB_dec sameInB_dec, eqB_dec sameOutB_dec, Bool.eq_iff_iff]
  cases a
  cases b
  simp
  intro _
  constructor
  · rintro ⟨h3, h4, h5⟩; exact ⟨h4, h5, h3⟩
  · rintro ⟨h3, h4, h5⟩; exact ⟨h5, h3, h4⟩
end

section
open Go.RowKit

/-- Blocks below B are as they were, and so is each block whose cells are no bytes. -/
structure Grew (B : Nat) (w w' : World) : Prop where
  low : Below B w w'
  box : ∀ (g t : Nat) (cs : Array Value), Box w g t cs → t ≠ 5 → Box w' g t cs
theorem Grew.refl (B : Nat) (w : World) : Grew B w w := ⟨Below.refl _ _, fun _ _ _ h _ => h⟩
theorem Grew.trans {B : Nat} {w w1 w2 : World} (h : Grew B w w1) (k : Grew B w1 w2) : Grew B w w2 := ⟨h.low.trans k.low, fun g t cs hb hne => k.box g t cs (h.box g t cs hb hne) hne⟩
theorem Grew.of_below {B : Nat} {w w' : World} (hB : B ≤ w.heap.size) (h : Below w.heap.size w w') : Grew B w w' := ⟨h.mono hB, fun _ _ _ hb _ => hb.below h⟩
theorem Grew.mono {B B' : Nat} {w w' : World} (h : Grew B w w') (hB : B' ≤ B) : Grew B' w w' := ⟨h.low.mono hB, h.box⟩
set_option maxRecDepth 100000 in
theorem Grew.of_grown {w w' : World} {B : Nat} {v : Value} {l : List Int} (ho : Own w B 5 v l) (hB : B ≤ w.heap.size) (hg : w.grownBy w' v.ownBlock) : Grew B w w' := by
  refine ⟨(Below.refl _ _).grown hg hB (fun k hk => (Own.lt ho k hk).1), fun g t cs hb hne => ?_⟩
  refine (hg.block g hb.lt ?_).trans hb
  intro hrow
  rcases ho.form with ⟨rfl, _⟩ | ⟨g', cap, cur, rfl, _, hx, _⟩
  · cases hrow
  · simp only [Value.ownBlock, Option.some.injEq] at hrow
    subst hrow
    have hx' : w.heap[g]? = some (.cells cur 5 (0, 0)) := hx
    have hb' : w.heap[g]? = some (.cells cs t (0, 0)) := hb
    rw [hx'] at hb'
    injection hb' with hb'
    injection hb' with _ h2
    exact hne h2.symm
/-- What is answered is a row of the call's own, that reads as l'. -/
def App (B : Nat) (l' : List Int) (w : World) (e : Ending) (w' : World) : Prop := ∃ v', e = .returned v' ∧ Own w' B 5 v' l' ∧ Grew B w w'

set_option maxRecDepth 100000 in
set_option maxHeartbeats 1000000 in
theorem addSmall_any (w : World) (B : Nat) (v : Value) (l : List Int) (n : Nat) (hB : B ≤ w.heap.size) (ho : Own w B 5 v l) (hn : n < 4294967296) (hl : l.length ≤ 1000000000000) :
    Calls Try.prog 79 #[v, .int .u32 (n : Int)] w (App B (l ++ leb n 4) w) := by
  obtain ⟨i0, hi, hz0, hz1, hz2⟩ := info_parts infoByte
  have H := Kp.mk (small_any w 0 (.slice none 0 0) [] n (Sl.nil _ _) (by simp) hn)
  have HO := Kp.mk ho
  obtain ⟨A, c, rfl⟩ := ho.slice
  clear ho hn
  go_enter Try.func79, Try.ntmps79
  go_wp2_with fail
  refine H.out.mono ?_
  rintro e w1 ⟨v1, rfl, h1, hb1⟩
  have HN := Kp.mk h1
  have HB := Kp.mk hb1
  obtain ⟨A1, c1, rfl⟩ := h1.slice
  clear h1 hb1
  go_wp2_with (at_builtin; refine wpList_append_bytes rfl (.tmp 5) (.tmp 7) 55 rfl B 5 i0 Try.underlying55 hi hz0 hz1 hz2 _ l rfl (HO.out.below HB.out) w1.heap.size _ _ rfl HN.out.any ?c1 ?c2 ?_)
  case c1 => simp [leb_len]; omega
  case c2 => exact Nat.le_trans hB HB.out.size
  intro v' w' ho2 hg2
  have HO2 := Kp.mk ho2
  have HG2 := Kp.mk ((Grew.of_below hB HB.out).trans (Grew.of_grown (HO.out.below HB.out) (Nat.le_trans hB HB.out.size) hg2))
  obtain ⟨A2, c2, rfl⟩ := ho2.slice
  clear ho2 hg2
  go_wp2
  go_ret
  exact ⟨_, rfl, by simpa using HO2.out, HG2.out⟩
set_option maxRecDepth 100000 in
set_option maxHeartbeats 1000000 in
theorem addBig_any (w : World) (B : Nat) (v : Value) (l : List Int) (n : Nat) (hB : B ≤ w.heap.size) (ho : Own w B 5 v l) (hl : l.length ≤ 1000000000000) :
    Calls Try.prog 94 #[v, .int .u64 (n : Int)] w (App B (l ++ leb n 8) w) := by
  obtain ⟨i0, hi, hz0, hz1, hz2⟩ := info_parts infoByte
  have H := Kp.mk (big_any w 0 (.slice none 0 0) [] n (Sl.nil _ _) (by simp))
  have HO := Kp.mk ho
  obtain ⟨A, c, rfl⟩ := ho.slice
  clear ho
  go_enter Try.func94, Try.ntmps94
  go_wp2_with fail
  refine H.out.mono ?_
  rintro e w1 ⟨v1, rfl, h1, hb1⟩
  have HN := Kp.mk h1
  have HB := Kp.mk hb1
  obtain ⟨A1, c1, rfl⟩ := h1.slice
  clear h1 hb1
  go_wp2_with (at_builtin; refine wpList_append_bytes rfl (.tmp 5) (.tmp 7) 55 rfl B 5 i0 Try.underlying55 hi hz0 hz1 hz2 _ l rfl (HO.out.below HB.out) w1.heap.size _ _ rfl HN.out.any ?c1 ?c2 ?_)
  case c1 => simp [leb_len]; omega
  case c2 => exact Nat.le_trans hB HB.out.size
  intro v' w' ho2 hg2
  have HO2 := Kp.mk ho2
  have HG2 := Kp.mk ((Grew.of_below hB HB.out).trans (Grew.of_grown (HO.out.below HB.out) (Nat.le_trans hB HB.out.size) hg2))
  obtain ⟨A2, c2, rfl⟩ := ho2.slice
  clear ho2 hg2
  go_wp2
  go_ret
  exact ⟨_, rfl, by simpa using HO2.out, HG2.out⟩
set_option maxRecDepth 100000 in
set_option maxHeartbeats 1000000 in
theorem addCount_any (w : World) (B : Nat) (v : Value) (l : List Int) (n : Nat) (hB : B ≤ w.heap.size) (ho : Own w B 5 v l) (hn : n ≤ 4294967295) (hl : l.length ≤ 1000000000000) :
    Calls Try.prog 80 #[v, .int .i64 (n : Int)] w (App B (l ++ cnt n) w) := by
  obtain ⟨i0, hi, hz0, hz1, hz2⟩ := info_parts infoByte
  have h0 := count_any w 0 (.slice none 0 0) [] (n : Int) (Sl.nil _ _) (by simp) (by omega)
  rw [clamp_in n (by omega)] at h0
  have H := Kp.mk h0
  have HO := Kp.mk ho
  have HM := Kp.mk (cnt_max n)
  obtain ⟨A, c, rfl⟩ := ho.slice
  clear ho hn h0
  generalize cnt n = X at *
  go_enter Try.func80, Try.ntmps80
  go_wp2_with fail
  refine H.out.mono ?_
  rintro e w1 ⟨v1, rfl, h1, hb1⟩
  have HN := Kp.mk h1
  have HB := Kp.mk hb1
  obtain ⟨A1, c1, rfl⟩ := h1.slice
  clear h1 hb1
  go_wp2_with (at_builtin; refine wpList_append_bytes rfl (.tmp 5) (.tmp 7) 55 rfl B 5 i0 Try.underlying55 hi hz0 hz1 hz2 _ l rfl (HO.out.below HB.out) w1.heap.size _ _ rfl HN.out.any ?c1 ?c2 ?_)
  case c1 => have := HM.out; simp; omega
  case c2 => exact Nat.le_trans hB HB.out.size
  intro v' w' ho2 hg2
  have HO2 := Kp.mk ho2
  have HG2 := Kp.mk ((Grew.of_below hB HB.out).trans (Grew.of_grown (HO.out.below HB.out) (Nat.le_trans hB HB.out.size) hg2))
  obtain ⟨A2, c2, rfl⟩ := ho2.slice
  clear ho2 hg2
  go_wp2
  go_ret
  exact ⟨_, rfl, by simpa using HO2.out, HG2.out⟩
def encText (x : List Int) : List Int := cnt x.length ++ x
theorem encText_len (x : List Int) : (encText x).length ≤ 5 + x.length := by have := cnt_max x.length; simp [encText]; omega
set_option maxRecDepth 100000 in
set_option maxHeartbeats 1000000 in
theorem addText_any (w0 w : World) (B : Nat) (v : Value) (l : List Int) (tv : Value) (x : List Int) (h0 : w0.heap.size ≤ B) (hB : B ≤ w.heap.size) (hw : Below w0.heap.size w0 w) (ho : Own w B 5 v l) (ht : Rb w0 tv x)
    (hx : x.length ≤ 4294967295) (hl : l.length ≤ 900000000000) : Calls Try.prog 93 #[v, tv] w (App B (l ++ encText x) w) := by
  obtain ⟨i0, hi, hz0, hz1, hz2⟩ := info_parts infoByte
  have h := addCount_any w B v l x.length hB ho hx (by omega)
  obtain ⟨A, c, rfl⟩ := ho.slice
  have HT := Kp.mk ht
  obtain ⟨⟨At, ct, rfl, hct, _⟩, _, hm⟩ := ht
  unfold maxLen at hm
  obtain ⟨L1, hL1⟩ : ∃ L1, l ++ cnt x.length = L1 := ⟨_, rfl⟩
  have HC : Kp (L1.length ≤ l.length + 5) := ⟨by have := cnt_max x.length; rw [← hL1]; simp; omega⟩
  have HE : Kp (l ++ encText x = L1 ++ x) := ⟨by rw [← hL1]; simp [encText]⟩
  have HW := Kp.mk hw
  rw [hL1] at h
  have H := Kp.mk h
  clear ho hw h hL1
  go_enter Try.func93, Try.ntmps93
  go_wp2_with fail
  refine H.out.mono ?_
  rintro e w1 ⟨v1, rfl, h1, hg1⟩
  have HN := Kp.mk h1
  have HG := Kp.mk hg1
  obtain ⟨A1, c1, rfl⟩ := h1.slice
  clear h1 hg1
  go_wp2_with (at_builtin; refine wpList_append_bytes rfl (.tmp 8) (.tmp 9) 55 rfl B 5 i0 Try.underlying55 hi hz0 hz1 hz2 _ _ rfl HN.out w1.heap.size _ x rfl (HT.out.below (HW.out.trans (HG.out.low.mono h0))).1 ?c1 ?c2 ?_)
  case c1 => have := HC.out; omega
  case c2 => exact Nat.le_trans hB HG.out.low.size
  intro v' w' ho2 hg2
  have HO2 := Kp.mk ho2
  have HG2 := Kp.mk (HG.out.trans (Grew.of_grown HN.out (Nat.le_trans hB HG.out.low.size) hg2))
  obtain ⟨A2, c2, rfl⟩ := ho2.slice
  clear ho2 hg2
  go_wp2
  go_ret
  exact ⟨_, rfl, by rw [HE.out]; simpa using HO2.out, HG2.out⟩
end

section
open Go.RowKit

def encIn (d : InD) : List Int := d.prev ++ (leb d.vout 4 ++ (encText d.script ++ leb d.seq 4))
def encOut (d : OutD) : List Int := leb d.value 8 ++ encText d.script
def encRows (ll : List (List Int)) : List Int := (ll.map encText).flatten
def encWit (ll : List (List Int)) : List Int := cnt ll.length ++ encRows ll
theorem encRows_snoc (ll : List (List Int)) (k : Nat) (h : k < ll.length) : encRows (ll.take (k + 1)) = encRows (ll.take k) ++ encText ll[k] := by
  unfold encRows
  rw [List.take_succ_eq_append_getElem h, List.map_append, List.flatten_append]
  simp
theorem encRows_len (ll : List (List Int)) (h : ∀ x ∈ ll, x.length ≤ 500) : (encRows ll).length ≤ 505 * ll.length := by
  induction ll with
  | nil => simp [encRows]
  | cons x xs ih =>
    have h1 := ih fun y hy => h y (List.mem_cons_of_mem _ hy)
    have h2 := h x (by simp)
    have h3 := encText_len x
    have e : encRows (x :: xs) = encText x ++ encRows xs := rfl
    rw [e, List.length_append, List.length_cons]
    omega

theorem sl_prev {w : World} {d : InD} {sv wv : Value} {g t : Nat} (hf : d.Fit) (h : Box w g t (inCells d sv wv).toArray) : Sl w w.heap.size (.slice (some ⟨g, 0, none⟩) 32 32) d.prev := by
  refine ⟨some ⟨g, 0, none⟩, 32, by rw [hf.plen], by rw [hf.plen]; exact Nat.le_refl _, (fun h => by cases h), fun _ => ⟨g, 0, rfl, ?_, h.lt, fun i hi => ?_⟩⟩
  · have := h.lt; omega
  · rw [hf.plen] at hi
    rw [h.cell, Nat.zero_add, List.getElem?_toArray]
    exact inCells_prev hf sv wv hi

set_option maxRecDepth 100000 in
set_option maxHeartbeats 2000000 in
theorem addIn_any (w0 w : World) (B : Nat) (v : Value) (l : List Int) (cs : List Value) (d : InD) (h0 : w0.heap.size ≤ B) (hB : B ≤ w.heap.size) (hw : Below w0.heap.size w0 w) (ho : Own w B 5 v l) (hd : InR w0 cs d)
    (hx : d.script.length ≤ 500) (hl : l.length ≤ 1000000000) : Calls Try.prog 81 #[v, .agg cs.toArray] w (App B (l ++ encIn d) w) := by
  obtain ⟨i0, hi, hz0, hz1, hz2⟩ := info_parts infoByte
  obtain ⟨sv, wv, rfl, hf, hs, _⟩ := hd
  obtain ⟨A, c, rfl⟩ := ho.slice
  obtain ⟨C, hC⟩ : ∃ C, (inCells d sv wv).toArray = C := ⟨_, rfl⟩
  have hb1 : Below w.heap.size w (w.alloc (.cells C 58)) := (Below.refl _ _).alloc (Nat.le_refl _) _
  have hbox : Box (w.alloc (.cells C 58)) w.heap.size 58 C := Box.fresh w _ _
  have HSL : Kp (Sl (w.alloc (.cells C 58)) (w.alloc (.cells C 58)).heap.size (.slice (some ⟨w.heap.size, 0, none⟩) 32 32) d.prev) := ⟨by rw [← hC] at hbox ⊢; exact sl_prev hf hbox⟩
  have HCELL : Kp (∀ w', Grew B (w.alloc (.cells C 58)) w' → w'.cell? ⟨w.heap.size, 32, none⟩ = some (.int .u32 d.vout) ∧ w'.cell? ⟨w.heap.size, 33, none⟩ = some sv ∧ w'.cell? ⟨w.heap.size, 34, none⟩ = some (.int .u32 d.seq)) := ⟨fun w' hg => by
    have hb := hg.box _ _ _ hbox (by decide)
    refine ⟨?_, ?_, ?_⟩
    · rw [hb.cell, ← hC]; simpa using inCells_vout hf sv wv
    · rw [hb.cell, ← hC]; simpa using inCells_script hf sv wv
    · rw [hb.cell, ← hC]; simpa using inCells_seq hf sv wv⟩
  rw [hC]
  have HF := Kp.mk hf
  have HO := Kp.mk (ho.below hb1)
  have HB1 := Kp.mk hb1
  have HS := Kp.mk hs
  have HW := Kp.mk hw
  have HB : Kp (B ≤ (w.alloc (.cells C 58)).heap.size) := ⟨by rw [alloc_size]; omega⟩
  have HG0 : Kp (Grew B w (w.alloc (.cells C 58))) := ⟨Grew.of_below hB hb1⟩
  clear hC hb1 hbox hf ho hs hw hB
  go_enter Try.func81, Try.ntmps81
  go_wp2_with (at_builtin; refine wpList_append_bytes rfl (.tmp 5) (.tmp 7) 55 rfl B 5 i0 Try.underlying55 hi hz0 hz1 hz2 _ l rfl HO.out _ _ d.prev rfl HSL.out ?c1 HB.out ?_)
  case c1 => rw [HF.out.plen]; omega
  intro v1 w1 ho1 hg1
  obtain ⟨L1, hL1⟩ : ∃ L1, l ++ d.prev = L1 := ⟨_, rfl⟩
  have HL1 : Kp (L1.length = l.length + 32) := ⟨by rw [← hL1, List.length_append, HF.out.plen]⟩
  rw [hL1] at ho1
  have HG1 := Kp.mk (Grew.of_grown HO.out HB.out hg1)
  have HB2 := Kp.mk (Nat.le_trans HB.out HG1.out.low.size)
  have HO1 := Kp.mk ho1
  obtain ⟨c32, _, _⟩ := HCELL.out _ HG1.out
  obtain ⟨A1, c1, rfl⟩ := ho1.slice
  clear ho1 hg1
  go_wp2_with fail
  refine (addSmall_any w1 B _ L1 d.vout HB2.out HO1.out HF.out.vlt (by have := HL1.out; omega)).mono ?_
  rintro e w2 ⟨v2, rfl, ho2, hg2⟩
  obtain ⟨L2, hL2⟩ : ∃ L2, L1 ++ leb d.vout 4 = L2 := ⟨_, rfl⟩
  have HL2 : Kp (L2.length = l.length + 36) := ⟨by rw [← hL2, List.length_append, leb_len, HL1.out]⟩
  rw [hL2] at ho2
  have HG2 := Kp.mk (HG1.out.trans hg2)
  have HB3 := Kp.mk (Nat.le_trans HB2.out hg2.low.size)
  have HO2 := Kp.mk ho2
  obtain ⟨_, c33, _⟩ := HCELL.out _ HG2.out
  obtain ⟨A2, c2, rfl⟩ := ho2.slice
  clear ho2 hg2 c32
  go_wp2_with fail
  refine (addText_any w0 w2 B _ L2 sv d.script h0 HB3.out (HW.out.trans ((HG0.out.trans HG2.out).low.mono h0)) HO2.out HS.out (by omega) (by have := HL2.out; omega)).mono ?_
  rintro e w3 ⟨v3, rfl, ho3, hg3⟩
  obtain ⟨L3, hL3⟩ : ∃ L3, L2 ++ encText d.script = L3 := ⟨_, rfl⟩
  have HL3 : Kp (L3.length ≤ l.length + 541) := ⟨by have := encText_len d.script; have := HL2.out; rw [← hL3, List.length_append]; omega⟩
  rw [hL3] at ho3
  have HG3 := Kp.mk (HG2.out.trans hg3)
  have HB4 := Kp.mk (Nat.le_trans HB3.out hg3.low.size)
  have HO3 := Kp.mk ho3
  obtain ⟨_, _, c34⟩ := HCELL.out _ HG3.out
  obtain ⟨A3, c3, rfl⟩ := ho3.slice
  clear ho3 hg3 c33
  go_wp2_with fail
  refine (addSmall_any w3 B _ L3 d.seq HB4.out HO3.out HF.out.slt (by have := HL3.out; omega)).mono ?_
  rintro e w4 ⟨v4, rfl, ho4, hg4⟩
  have HG4 := Kp.mk (HG0.out.trans (HG3.out.trans hg4))
  have HO4 : Kp (Own w4 B 5 v4 (l ++ encIn d)) := ⟨by
    rw [show l ++ encIn d = L3 ++ leb d.seq 4 by rw [← hL3, ← hL2, ← hL1]; simp [encIn]]
    exact ho4⟩
  clear ho4 hg4 c34
  have H4 := HO4.out
  obtain ⟨A4, c4, rfl⟩ := H4.slice
  clear H4
  go_wp2
  go_ret
  exact ⟨_, rfl, by simpa using HO4.out, HG4.out⟩

set_option maxRecDepth 100000 in
set_option maxHeartbeats 2000000 in
theorem addOut_any (w0 w : World) (B : Nat) (v : Value) (l : List Int) (cs : List Value) (d : OutD) (h0 : w0.heap.size ≤ B) (hB : B ≤ w.heap.size) (hw : Below w0.heap.size w0 w) (ho : Own w B 5 v l) (hd : OutR w0 cs d)
    (hx : d.script.length ≤ 500) (hl : l.length ≤ 1000000000) : Calls Try.prog 82 #[v, .agg cs.toArray] w (App B (l ++ encOut d) w) := by
  obtain ⟨sv, rfl, _, hs⟩ := hd
  obtain ⟨A, c, rfl⟩ := ho.slice
  have hb1 : Below w.heap.size w (w.alloc (.cells #[.int .u64 d.value, sv] 61)) := (Below.refl _ _).alloc (Nat.le_refl _) _
  have hbox : Box (w.alloc (.cells #[.int .u64 d.value, sv] 61)) w.heap.size 61 #[.int .u64 d.value, sv] := Box.fresh w _ _
  have HCELL : Kp (∀ w', Grew B (w.alloc (.cells #[.int .u64 d.value, sv] 61)) w' → w'.cell? ⟨w.heap.size, 1, none⟩ = some sv) := ⟨fun w' hg => by
    have hb := hg.box _ _ _ hbox (by decide)
    rw [hb.cell]; rfl⟩
  have HO := Kp.mk (ho.below hb1)
  have HS := Kp.mk hs
  have HW := Kp.mk hw
  have HB : Kp (B ≤ (w.alloc (.cells #[.int .u64 d.value, sv] 61)).heap.size) := ⟨by rw [alloc_size]; omega⟩
  have HG0 : Kp (Grew B w (w.alloc (.cells #[.int .u64 d.value, sv] 61))) := ⟨Grew.of_below hB hb1⟩
  have H1 := Kp.mk (addBig_any (w.alloc (.cells #[.int .u64 d.value, sv] 61)) B _ l d.value HB.out HO.out (by omega))
  clear hb1 hbox ho hs hw hB
  go_enter Try.func82, Try.ntmps82
  go_wp2_with fail
  refine H1.out.mono ?_
  rintro e w2 ⟨v2, rfl, ho2, hg2⟩
  obtain ⟨L2, hL2⟩ : ∃ L2, l ++ leb d.value 8 = L2 := ⟨_, rfl⟩
  have HL2 : Kp (L2.length = l.length + 8) := ⟨by rw [← hL2, List.length_append, leb_len]⟩
  rw [hL2] at ho2
  have HG2 := Kp.mk hg2
  have HB3 := Kp.mk (Nat.le_trans HB.out hg2.low.size)
  have HO2 := Kp.mk ho2
  have c1 := HCELL.out _ HG2.out
  obtain ⟨A2, c2, rfl⟩ := ho2.slice
  clear ho2 hg2
  go_wp2_with fail
  refine (addText_any w0 w2 B _ L2 sv d.script h0 HB3.out (HW.out.trans ((HG0.out.trans HG2.out).low.mono h0)) HO2.out HS.out (by omega) (by have := HL2.out; omega)).mono ?_
  rintro e w3 ⟨v3, rfl, ho3, hg3⟩
  obtain ⟨L3, hL3⟩ : ∃ L3, L2 ++ encText d.script = L3 := ⟨_, rfl⟩
  rw [hL3] at ho3
  have HE : Kp (l ++ encOut d = L3) := ⟨by rw [← hL3, ← hL2]; simp [encOut]⟩
  have HG3 := Kp.mk (HG0.out.trans (HG2.out.trans hg3))
  have HO3 := Kp.mk ho3
  obtain ⟨A3, c3, rfl⟩ := ho3.slice
  clear ho3 hg3 c1
  go_wp2
  go_ret
  exact ⟨_, rfl, by rw [HE.out]; exact HO3.out, HG3.out⟩

set_option maxRecDepth 100000 in
set_option maxHeartbeats 2000000 in
theorem addWitness_any (w0 w : World) (B : Nat) (v : Value) (l : List Int) (wv : Value) (ll : List (List Int)) (h0 : w0.heap.size ≤ B) (hB : B ≤ w.heap.size) (hw : Below w0.heap.size w0 w) (ho : Own w B 5 v l) (hd : Rws w0 wv ll)
    (hn : ll.length ≤ 10) (hx : ∀ x ∈ ll, x.length ≤ 500) (hl : l.length ≤ 1000000000) : Calls Try.prog 83 #[v, wv] w (App B (l ++ encWit ll) w) := by
  obtain ⟨A, c, rfl⟩ := ho.slice
  obtain ⟨Aw, cw, rfl, hlw, _⟩ := hd.slice
  have H1 := Kp.mk (addCount_any w B _ l ll.length hB ho (by omega) (by omega))
  have hn' : (ll.length : Int) ≤ 10 := by omega
  have HW := Kp.mk hw
  have HX := Kp.mk hx
  by_cases hne : ll = []
  · subst hne
    have HE : Kp (l ++ cnt ([] : List (List Int)).length = l ++ encWit []) := ⟨by simp [encWit, encRows]⟩
    rw [HE.out] at H1
    clear ho hw hd hx hB
    go_enter Try.func83, Try.ntmps83
    go_wp2_with fail
    refine H1.out.mono ?_
    rintro e w1 ⟨v1, rfl, ho1, hg1⟩
    have HO1 := Kp.mk ho1
    have HG1 := Kp.mk hg1
    obtain ⟨A1, c1, rfl⟩ := ho1.slice
    clear ho1 hg1
    go_wp2
    refine wp_loop_rounds 1 ?_
    rw [rounds_succ]
    go_wp2
    go_ret
    exact ⟨_, rfl, by simpa using HO1.out, HG1.out⟩
  obtain ⟨b, off, rfl, hlt, hat⟩ := hd.all hne
  have HAT : Kp (∀ (i : Nat) (hi : i < ll.length), ∃ cs, cs.length = 1 ∧ w0.rangeAt b (off + i * 1) cs ∧ RowR w0 cs ll[i]) := ⟨hat⟩
  have HLT := Kp.mk hlt
  have HBw := Kp.mk hB
  clear ho hw hd hx hat hlt hne
  go_enter Try.func83, Try.ntmps83
  go_wp2_with fail
  refine H1.out.mono ?_
  rintro e w1 ⟨v1, rfl, ho1, hg1⟩
  have HO1 := Kp.mk ho1
  have HG1 := Kp.mk hg1
  obtain ⟨A1, c1, rfl⟩ := ho1.slice
  obtain ⟨L1, hL1⟩ : ∃ L1, l ++ cnt ll.length = L1 := ⟨_, rfl⟩
  have HL1 : Kp (l ++ cnt ll.length = L1) := ⟨hL1⟩
  have HL1l : Kp (L1.length ≤ l.length + 5) := ⟨by have := cnt_max ll.length; rw [← hL1]; simp; omega⟩
  rw [hL1] at HO1
  have hln : (l ++ cnt ll.length).length = L1.length := by rw [hL1]
  rw [List.length_append] at hln
  clear ho1 hg1 hL1
  go_wp2
  go_loopw [0, 6, 13] (fun r _ i wr => ∃ j : Nat, j ≤ ll.length ∧ i = .int .i64 j ∧ Kp (Own wr B 5 r (L1 ++ encRows (ll.take j)) ∧ Grew B w wr)) (fun _ _ i _ => ll.length - (intOf i).toNat)
  case atStart => exact ⟨0, Nat.zero_le _, rfl, ⟨by simpa [encRows, hln] using HO1.out, HG1.out⟩⟩
  case round =>
    obtain ⟨j, hj, rfl, ⟨ho, hg⟩⟩ := hrel
    by_cases hjl : j < ll.length
    · obtain ⟨cs, hk, hcs, sv, rfl, hR⟩ := HAT.out j hjl
      have hc1 := load_row (rangeAt_block hcs ((HW.out.trans (hg.low.mono h0)).block b HLT.out)) hk
      have hle : (encRows (ll.take j)).length ≤ 5050 := by
        have := encRows_len (ll.take j) fun x hx => HX.out x (List.mem_of_mem_take hx)
        rw [List.length_take] at this
        omega
      have hxl := HX.out ll[j] (List.getElem_mem hjl)
      obtain ⟨Lj, hLj⟩ : ∃ Lj, L1 ++ encRows (ll.take j) = Lj := ⟨_, rfl⟩
      have hS : Lj ++ encText ll[j] = L1 ++ encRows (ll.take (j + 1)) := by rw [encRows_snoc ll j hjl, ← hLj, List.append_assoc]
      have hLl : Lj.length ≤ 900000000000 := by have := HL1l.out; rw [← hLj, List.length_append]; omega
      rw [hLj] at ho
      have HT := Kp.mk (addText_any w0 wr B _ Lj sv ll[j] h0 (Nat.le_trans HBw.out hg.low.size) (HW.out.trans (hg.low.mono h0)) ho hR (by omega) hLl)
      rw [hS] at HT
      clear hS hLj hLl
      have HG := Kp.mk hg
      have HJ := Kp.mk hjl
      have hjl' : (j : Int) < (ll.length : Int) := by omega
      obtain ⟨Ar, cr, rfl⟩ := ho.slice
      clear ho hg hle hxl hcs hR hk hjl
      go_wp2_with (go_at_call 93; refine HT.out.mono ?_; rintro e w2 ⟨v2, rfl, ho2, hg2⟩)
      exact ⟨⟨j + 1, by have := HJ.out; omega, by go_num, ⟨ho2, HG.out.trans hg2⟩⟩, by simp [intOf]; have := HJ.out; omega⟩
    · obtain rfl : j = ll.length := by omega
      obtain ⟨Lj, hLj⟩ : ∃ Lj, L1 ++ encRows (ll.take ll.length) = Lj := ⟨_, rfl⟩
      have HE : Kp (l ++ encWit ll = Lj) := ⟨by rw [← hLj, ← HL1.out, List.take_length]; simp [encWit]⟩
      rw [hLj] at ho
      have HO := Kp.mk ho
      have HG := Kp.mk hg
      obtain ⟨Ar, cr, rfl⟩ := ho.slice
      clear ho hg hjl hLj
      go_wp2
      go_ret
      exact ⟨_, rfl, by rw [HE.out]; simpa using HO.out, HG.out⟩
end

end Go.Proofs.Ytdemamipllfonaa
