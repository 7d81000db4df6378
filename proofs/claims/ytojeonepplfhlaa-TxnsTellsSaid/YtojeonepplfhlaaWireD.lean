/- Contracts of package wire: with, Small, Big, Count (what is written). -/
import Derived.Test.YtojeonepplfhlaaWireC
import Derived.Laws.MakeOwn
import Derived.Laws.CopyOwn
namespace Go.Proofs.Ytojeonepplfhlaa
open Go.RowKit

/-- So many bytes of a number, the lowest first. -/
def leb (n : Nat) : Nat → List Int
  | 0 => []
  | k + 1 => leb n k ++ [((n / 256 ^ k % 256 : Nat) : Int)]
theorem leb_len (n : Nat) : ∀ k, (leb n k).length = k
  | 0 => rfl
  | k + 1 => by simp [leb, leb_len n k]
theorem leb_bys (n : Nat) : ∀ k, Bys (leb n k)
  | 0 => Bys.nil
  | k + 1 => by
    refine (leb_bys n k).app fun x hx => ?_
    simp only [List.mem_singleton] at hx
    subst hx
    omega
theorem le_leb (n : Nat) : ∀ k, le (leb n k) = n % 256 ^ k
  | 0 => by simp [leb, le, Nat.mod_one]
  | k + 1 => by
    simp only [leb, le_app, leb_len, le_leb n k, le]
    rw [Int.toNat_natCast, Nat.pow_succ, Nat.mod_mul, Nat.mul_zero, Nat.add_zero]

theorem madeCells_bytes (n : Nat) : madeCells #[.int .u8 0] n = (List.replicate n (Value.int .u8 0)).toArray := by
  apply Array.ext
  · simp [size_madeCells]
  · intro i h1 h2
    simp [madeCells, Nat.mod_one]
theorem own_spliced (w : World) (e G base n : Nat) (l : List Int) (hb : base ≤ G)
    (hg : w.heap[G]? = some (.cells (splice (List.replicate (l.length + n) (Value.int .u8 0)) 0 (byteVals l)).toArray e (0, 0))) (hm : l.length + n ≤ maxLen) :
    Own w base e (.slice (some ⟨G, 0, none⟩) l.length (l.length + n)) l := by
  have hlen : (byteVals l).length = l.length := by simp [byteVals]
  refine ⟨by simp [byteVals], .inr ⟨G, l.length + n, _, rfl, hb, hg, by omega, hm, ?_, ?_⟩⟩
  · rw [List.size_toArray, length_splice _ _ _ (by simp [hlen])]
    simp
  · rw [Nat.mul_one]
    simp only [splice, List.take_zero, List.nil_append]
    rw [List.take_append_of_le_length (by omega), List.take_of_length_le (by omega)]

theorem leb_byte (n j : Nat) : (n : Int) / 2 ^ (8 * j) % 256 = ((n / 256 ^ j % 256 : Nat) : Int) := by
  rw [pow256, Int.natCast_emod, Int.natCast_ediv, Int.natCast_pow]
  rfl
/-- 'n & (2^k - 1)' on an int, of whatever sign. -/
theorem and_mask (n : Int) (k : Nat) (hk : k ≤ 62) : bits .and .i64 n ((2 ^ k - 1 : Nat) : Int) = n % ((2 ^ k : Nat) : Int) := by
  have h1 : (2 : Nat) ^ k ≤ 2 ^ 62 := Nat.pow_le_pow_right (by omega) hk
  have h0 : 0 < (2 : Nat) ^ k := Nat.pow_pos (by omega)
  have hd : (2 : Nat) ^ k ∣ 2 ^ 64 := Nat.pow_dvd_pow 2 (by omega)
  show IntKind.i64.wrap ((BitVec.ofInt 64 n &&& BitVec.ofInt 64 ((2 ^ k - 1 : Nat) : Int)).toNat : Int) = _
  rw [BitVec.toNat_and, BitVec.ofInt_natCast, BitVec.toNat_ofNat, Nat.mod_eq_of_lt (show 2 ^ k - 1 < 2 ^ 64 by omega), Nat.and_two_pow_sub_one_eq_mod, BitVec.toNat_ofInt, IntKind.wrap_i64]
  have h2 : (((n % ((2 ^ 64 : Nat) : Int)).toNat % 2 ^ k : Nat) : Int) = n % ((2 ^ k : Nat) : Int) := by
    rw [Int.natCast_emod, Int.toNat_of_nonneg (Int.emod_nonneg _ (by omega)), Int.emod_emod_of_dvd _ (Int.natCast_dvd_natCast.2 hd)]
  rw [h2]
  have h3 := Int.emod_nonneg n (show ((2 ^ k : Nat) : Int) ≠ 0 by omega)
  have h4 := Int.emod_lt_of_pos n (show (0 : Int) < ((2 ^ k : Nat) : Int) by omega)
  omega
theorem leb_at (n : Nat) : ∀ (m j : Nat), j < m → (leb n m)[j]?.getD 0 = (n : Int) / 2 ^ (8 * j) % 256
  | m + 1, j, h => by
    rw [leb_byte]
    by_cases hj : j < m
    · have ih := leb_at n m j hj
      rw [leb_byte] at ih
      rw [← ih]
      simp [leb, List.getElem?_append_left (show j < (leb n m).length by rw [leb_len]; exact hj)]
    · obtain rfl : j = m := by omega
      simp [leb, leb_len]
theorem sl_one (w : World) (e g : Nat) (x : Int) (hg : w.heap.size ≠ g) : Sl (w.alloc (.cells #[.int .u8 x] e)) g (.slice (some ⟨w.heap.size, 0, none⟩) 1 1) [x] := by
  refine ⟨_, 1, rfl, Nat.le_refl _, (fun h => by cases h), fun _ => ⟨w.heap.size, 0, rfl, hg, by simp, fun i hi => ?_⟩⟩
  have h0 : i = 0 := by simpa using hi
  subst h0
  exact (Box.fresh w e #[.int .u8 x]).cell 0
theorem Own.lt {w : World} {base e : Nat} {v : Value} {l : List Int} (h : Own w base e v l) : ∀ k, v.ownBlock = some k → base ≤ k ∧ k < w.heap.size := World.ownsRow.lt h

set_option maxRecDepth 100000 in
set_option maxHeartbeats 1000000 in
theorem with_any (w : World) (g : Nat) (v : Value) (l : List Int) (n k : Nat) (h : Sl w g v l) (h47 : l.length ≤ 140737488355000) (hk : k ≤ 8) :
    Calls Try.prog 76 #[v, .int .u64 (n : Int), .int .i64 (k : Int)] w (NewBytes (l ++ leb n k) w) := by
  obtain ⟨i0, hi, hz0, hz1, hz2⟩ := info_parts infoByte
  have hmk : ∀ W : World, (Instr.makeSlice 27 (.int .i64 (l.length : Int)) (.int .i64 ((l.length : Int) + (k : Int)))).run Try.prog W = .ok (.slice (some ⟨W.heap.size, 0, none⟩) l.length (l.length + k)) (W.alloc (.cells (List.replicate (l.length + k) (Value.int .u8 0)).toArray 5)) := fun W => by
    have hr := run_make (P := Try.prog) W 27 5 i0 _ Try.underlying27 hi hz0 .i64 .i64 (l.length : Int) ((l.length : Int) + (k : Int)) (by omega) (by omega) (by rw [hz2]; omega) (by omega)
    rw [hz1, show ((l.length : Int) + (k : Int)).toNat = l.length + k from by omega, show (l.length : Int).toNat = l.length from by omega, Nat.mul_one] at hr
    rw [hr, ← madeCells_bytes]
    rfl
  have Hs := Lib.hid (h.free w.heap.size (Nat.le_refl _))
  obtain ⟨A, c, rfl, hc, hnn, hr⟩ := h
  have hlk : (l.length : Int) + (k : Int) ≤ 140737488355008 := by omega
  clear hnn hr
  go_enter Try.func76, Try.ntmps76
  go_wp2_with (refine wpList_copy_splice (o := ⟨some 18, _, _, _, _, _⟩) rfl (.tmp 16) (.tmp 17) 27 27 rfl 5 Try.underlying27 (by kernel_rfl) _ _ _ _ _ _ rfl rfl w.heap.size 0 (List.replicate (l.length + k) (Value.int .u8 0)) 5 ?c1 (byteVals l) ?c2 ?c3 ?c4 ?c5 w.heap.size w ?c6 ?c7 ?_)
  case c1 => rw [List.toArray_replicate]; exact heap_alloc_new w _
  case c2 => simp [byteVals]
  case c3 =>
    intro hp
    obtain ⟨A', c', e, _, _, hr⟩ := (Hs.out.below ((Below.refl _ _).alloc (Nat.le_refl _) (.cells (Array.replicate (l.length + k) (Value.int .u8 0)) 5)))
    injection e with e1 e2 e3
    subst e1; subst e3
    obtain ⟨b, off, rfl, _, _, hrun⟩ := hr (by rintro rfl; simp [byteVals] at hp)
    refine ⟨⟨b, off, none⟩, rfl, fun j v hv => ?_⟩
    obtain ⟨hj, rfl⟩ := byteVals_at l j v hv
    rw [← hrun j hj]
    by_cases h0 : j = 0 <;> simp [Addr.add, h0]
  case c4 => simp [byteVals]
  case c5 => exact byteVals_one l
  case c6 => exact (Below.refl _ _).alloc (Nat.le_refl _) _
  case c7 => exact Nat.le_refl _
  intro w1 hg1 hb1
  have Hg := Lib.hid (own_spliced w1 5 w.heap.size w.heap.size k l (Nat.le_refl _) hg1.out (by unfold maxLen; omega))
  have Hb := Lib.hid hb1
  clear hg1 hb1 hmk
  go_wp2
  go_loopw [7, 8, 20] (fun all _ cnt wr => ∃ j : Nat, j ≤ k ∧ cnt = .int .i64 j ∧ Own wr w.heap.size 5 all (l ++ leb n j) ∧ Below w.heap.size w wr) (fun _ _ cnt _ => k - (intOf cnt).toNat)
  case atStart => exact ⟨0, by omega, rfl, by simpa [leb] using Hg.out, Hb.out⟩
  case round =>
    obtain ⟨j, hj, rfl, ho, hb⟩ := hrel
    have Ho := Lib.hid ho
    have HB := Lib.hid hb
    clear ho hb
    by_cases hlt : j < k
    · go_wp2_with (at_builtin; refine wpList_append_bytes rfl (.tmp 23) (.tmp 29) 27 rfl w.heap.size 5 i0 Try.underlying27 hi hz0 hz1 hz2 _ (l ++ leb n j) rfl ?d1 (wr.heap.size + 1) _ [(n : Int) / 2 ^ (8 * j) % 256] rfl ?d2 ?d3 ?d4 ?_)
      case d1 => exact Ho.out.below ((Below.refl _ _).alloc (Nat.le_refl _) _)
      case d2 => exact sl_one wr 5 _ _ (by omega)
      case d3 => simp [leb_len]; omega
      case d4 => simpa using Nat.le_succ_of_le HB.out.size
      intro v' w' ho hg
      have hnb := HB.out.size
      have Hn := Lib.hid (Below.grown (HB.out.alloc HB.out.size (.cells #[.int .u8 ((n : Int) / 2 ^ (8 * j) % 256)] 5)) hg (by simp; omega) (fun q hq => (Ho.out.lt q hq).1))
      have ho2 : Own w' w.heap.size 5 v' (l ++ leb n (j + 1)) := by
        rw [leb_byte] at ho
        exact ho
      have Ho2 := Lib.hid ho2
      clear ho hg ho2 hnb
      go_wp2
      go_roundw
      case rel => exact ⟨j + 1, by omega, by go_num, Ho2.out, Hn.out⟩
      case measure => simp [intOf]; omega
    · obtain rfl : j = k := by omega
      go_wp2
      go_ret
      exact ⟨_, rfl, Ho.out, HB.out⟩

set_option maxRecDepth 100000 in
set_option maxHeartbeats 400000 in
theorem small_any (w : World) (g : Nat) (v : Value) (l : List Int) (n : Nat) (h : Sl w g v l) (h47 : l.length ≤ 140737488355000) (hn : n < 4294967296) :
    Calls Try.prog 68 #[v, .int .u32 (n : Int)] w (NewBytes (l ++ leb n 4) w) := by
  have H := Lib.hid (with_any w g v l n 4 h h47 (by omega))
  have hw : IntKind.u64.wrap (n : Int) = n := by rw [IntKind.wrap_u64]; omega
  clear h
  go_enter Try.func68, Try.ntmps68
  go_wp2_with fail
  refine H.out.mono ?_
  rintro e w1 ⟨v1, rfl, ho, hb⟩
  go_wp2
  go_ret
  exact ⟨_, rfl, ho, hb⟩
set_option maxRecDepth 100000 in
set_option maxHeartbeats 400000 in
theorem big_any (w : World) (g : Nat) (v : Value) (l : List Int) (n : Nat) (h : Sl w g v l) (h47 : l.length ≤ 140737488355000) :
    Calls Try.prog 77 #[v, .int .u64 (n : Int)] w (NewBytes (l ++ leb n 8) w) := by
  have H := Lib.hid (with_any w g v l n 8 h h47 (by omega))
  clear h
  go_enter Try.func77, Try.ntmps77
  go_wp2_with fail
  refine H.out.mono ?_
  rintro e w1 ⟨v1, rfl, ho, hb⟩
  go_wp2
  go_ret
  exact ⟨_, rfl, ho, hb⟩

/-- The bytes of a count. -/
def cnt (c : Nat) : List Int := if c < 253 then leb c 1 else if c ≤ 65535 then 253 :: leb c 2 else 254 :: leb c 4
theorem cnt_len1 (m : Nat) (h : (m : Int) < 253) : (cnt m).length = 1 := by rw [cnt, if_pos (by omega), leb_len]
theorem cnt_len3 (m : Nat) (h : ¬ (m : Int) < 253) (h' : (m : Int) < 65536) : (cnt m).length = 3 := by rw [cnt, if_neg (by omega), if_pos (by omega), List.length_cons, leb_len]
theorem cnt_len5 (m : Nat) (h' : ¬ (m : Int) < 65536) : (cnt m).length = 5 := by rw [cnt, if_neg (by omega), if_neg (by omega), List.length_cons, leb_len]
def clamp (n : Int) : Nat := min n.toNat 4294967295
theorem leb_cons (u x : Nat) (hx : x < 256) : ∀ k, leb (256 * u + x) (k + 1) = (x : Int) :: leb u k
  | 0 => by simp [leb]; omega
  | k + 1 => by
    have ih := leb_cons u x hx k
    rw [show leb (256 * u + x) (k + 1 + 1) = leb (256 * u + x) (k + 1) ++ [(((256 * u + x) / 256 ^ (k + 1) % 256 : Nat) : Int)] from rfl, ih]
    rw [show (256 * u + x) / 256 ^ (k + 1) = u / 256 ^ k by rw [Nat.pow_succ, Nat.mul_comm (256 ^ k) 256, ← Nat.div_div_eq_div_mul, show (256 * u + x) / 256 = u by omega]]
    rfl
theorem or_low (u x : Nat) (hu : u < 4294967296) (hx : x < 256) : bits .or .u64 ((u : Int) * 256) (x : Int) = ((256 * u + x : Nat) : Int) := by
  have h1 : (u : Int) * 256 = ((256 * u : Nat) : Int) := by omega
  rw [h1, u64_or_nat _ _ (by omega) (by omega)]
  have h4 := Nat.two_pow_add_eq_or_of_lt (i := 8) (b := x) (by omega) u
  rw [show (2 : Nat) ^ 8 = 256 from rfl] at h4
  rw [h4]
theorem clamp_in (m : Nat) (h : (m : Int) ≤ 4294967295) : clamp (m : Int) = m := by unfold clamp; rw [Int.toNat_natCast]; omega
theorem clamp_over (m : Nat) (h : (4294967295 : Int) < m) : clamp (m : Int) = 4294967295 := by unfold clamp; rw [Int.toNat_natCast]; omega
theorem clamp_low (n : Int) (h : n < 0) : clamp n = 0 := by unfold clamp; omega
theorem cnt_1 (m : Nat) (h : (m : Int) < 253) : cnt m = leb m 1 := if_pos (by omega)
theorem cnt_3 (m : Nat) (h : ¬ (m : Int) < 253) (h' : (m : Int) ≤ 65535) : cnt m = leb (256 * m + 253) 3 := by
  rw [leb_cons m 253 (by omega) 2]
  unfold cnt
  rw [if_neg (by omega), if_pos (by omega)]
  rfl
theorem cnt_5 (m : Nat) (h' : ¬ (m : Int) ≤ 65535) : cnt m = leb (256 * m + 254) 5 := by
  rw [leb_cons m 254 (by omega) 4]
  unfold cnt
  rw [if_neg (by omega), if_neg (by omega)]
  rfl
set_option maxRecDepth 100000 in
set_option maxHeartbeats 400000 in
theorem count_any (w : World) (g : Nat) (v : Value) (l : List Int) (n : Int) (h : Sl w g v l) (h47 : l.length ≤ 140737488355000) (hn : -9223372036854775808 ≤ n ∧ n ≤ 9223372036854775807) :
    Calls Try.prog 69 #[v, .int .i64 n] w (NewBytes (l ++ cnt (clamp n)) w) := by
  have H := fun m k (hk : k ≤ 8) => with_any w g v l m k h h47 hk
  have HH := Lib.hid H
  clear H h
  by_cases h0 : n < 0
  · have HC := Lib.hid (show cnt (clamp n) = leb 0 1 by rw [clamp_low n h0]; rfl)
    go_enter Try.func69, Try.ntmps69
    go_wp2_with fail
    refine (HH.out 0 1 (by omega)).mono ?_
    rintro e w1 ⟨v1, rfl, ho, hb⟩
    go_wp2
    go_ret
    rw [HC.out]
    exact ⟨_, rfl, ho, hb⟩
  · obtain ⟨m, rfl⟩ := Int.eq_ofNat_of_zero_le (show 0 ≤ n by omega)
    have Hn := Lib.hid hn
    have hw0 : IntKind.u64.wrap (m : Int) = m := by rw [IntKind.wrap_u64]; omega
    clear hn h0
    go_enter Try.func69, Try.ntmps69
    go_wp2_with fail
    · have t1 : (m : Int) < 253 := by omega
      have HC := Lib.hid (show cnt (clamp m) = leb m 1 by rw [clamp_in m (by omega), cnt_1 m t1])
      refine (HH.out m 1 (by omega)).mono ?_
      rintro e w1 ⟨v1, rfl, ho, hb⟩
      go_wp2
      go_ret
      rw [HC.out]
      exact ⟨_, rfl, ho, hb⟩
    · have t1 : ¬ (m : Int) < 253 := by omega
      have t2 : (m : Int) ≤ 65535 := by omega
      have HC := Lib.hid (show cnt (clamp m) = leb (256 * m + 253) 3 by rw [clamp_in m (by omega), cnt_3 m t1 t2])
      have ho := or_low m 253 (by omega) (by omega)
      rw [show ((253 : Nat) : Int) = 253 from rfl] at ho
      rw [ho]
      clear ho
      refine (HH.out (256 * m + 253) 3 (by omega)).mono ?_
      rintro e w1 ⟨v1, rfl, ho, hb⟩
      go_wp2
      go_ret
      rw [HC.out]
      exact ⟨_, rfl, ho, hb⟩
    · have t0 : (4294967295 : Int) < m := by omega
      have HC := Lib.hid (show cnt (clamp m) = leb (256 * 4294967295 + 254) 5 by rw [clamp_over m t0, cnt_5 4294967295 (by omega)])
      have ho := or_low 4294967295 254 (by omega) (by omega)
      rw [show ((4294967295 : Nat) : Int) * 256 = 1099511627520 by decide, show ((254 : Nat) : Int) = 254 from rfl] at ho
      rw [ho]
      clear ho
      refine (HH.out (256 * 4294967295 + 254) 5 (by omega)).mono ?_
      rintro e w1 ⟨v1, rfl, ho, hb⟩
      go_wp2
      go_ret
      rw [HC.out]
      exact ⟨_, rfl, ho, hb⟩
    · have t1 : ¬ (m : Int) ≤ 65535 := by omega
      have t2 : (m : Int) ≤ 4294967295 := by omega
      have HC := Lib.hid (show cnt (clamp m) = leb (256 * m + 254) 5 by rw [clamp_in m (by omega), cnt_5 m t1])
      have ho := or_low m 254 (by omega) (by omega)
      rw [show ((254 : Nat) : Int) = 254 from rfl] at ho
      rw [ho]
      clear ho
      refine (HH.out (256 * m + 254) 5 (by omega)).mono ?_
      rintro e w1 ⟨v1, rfl, ho, hb⟩
      go_wp2
      go_ret
      rw [HC.out]
      exact ⟨_, rfl, ho, hb⟩
end Go.Proofs.Ytojeonepplfhlaa
