/- Contracts of the document's own answer for package wire: what is written. -/
import Derived.Test.YtojeonepplfhlaaWireD
import Derived.Test.YtojeonepplfhlaaWireF
import Derived.Test.YtojeonepplfhlaaWireE
import Derived.Deep.DeepCutAuto
namespace Go.Proofs.Ytojeonepplfhlaa
open Go.RowKit

/-- A fact that no tactic looks into. -/
structure Kept (p : Prop) : Prop where out : p
/-- A slice that the call itself lays, byte by byte. -/
theorem sl_lit (w : World) (e g : Nat) (l : List Int) (hg : w.heap.size ≠ g) : Sl (w.alloc (.cells (byteVals l).toArray e)) g (.slice (some ⟨w.heap.size, 0, none⟩) l.length l.length) l := by
  refine ⟨_, l.length, rfl, Nat.le_refl _, (fun h => by cases h), fun _ => ⟨w.heap.size, 0, rfl, hg, by simp, fun i hi => ?_⟩⟩
  rw [(Box.fresh w e (byteVals l).toArray).cell, Nat.zero_add]
  simp [byteVals, List.getElem?_eq_getElem hi, List.getD_eq_getElem?_getD]

theorem leb4 (n : Nat) (hn : n < 4294967296) : leb n 4 = [(n : Int) % 256, (n : Int) / 256 % 256, (n : Int) / 65536 % 256, (n : Int) / 16777216] := by
  have h : leb n 4 = [((n / 256 ^ 0 % 256 : Nat) : Int), ((n / 256 ^ 1 % 256 : Nat) : Int), ((n / 256 ^ 2 % 256 : Nat) : Int), ((n / 256 ^ 3 % 256 : Nat) : Int)] := rfl
  rw [h, show (256 : Nat) ^ 0 = 1 by decide, show (256 : Nat) ^ 1 = 256 by decide, show (256 : Nat) ^ 2 = 65536 by decide, show (256 : Nat) ^ 3 = 16777216 by decide]
  congr 1
  · omega
  congr 1
  congr 1
  congr 1
  omega
theorem leb_app (n : Nat) (a : Nat) : ∀ b, leb n (a + b) = leb n a ++ leb (n / 256 ^ a) b
  | 0 => by simp [leb]
  | b + 1 => by
    rw [show a + (b + 1) = (a + b) + 1 from rfl]
    simp only [leb, leb_app n a b, List.append_assoc]
    rw [Nat.pow_add, Nat.div_div_eq_div_mul]
theorem leb_mod (n a : Nat) : ∀ b, b ≤ a → leb (n % 256 ^ a) b = leb n b
  | 0, _ => rfl
  | b + 1, h => by
    simp only [leb, leb_mod n a b (by omega)]
    have hq : n % 256 ^ a / 256 ^ b % 256 = n / 256 ^ b % 256 := by
      obtain ⟨c, rfl⟩ : ∃ c, a = b + (c + 1) := ⟨a - b - 1, by omega⟩
      rw [Nat.pow_add, Nat.mod_mul_right_div_self, Nat.pow_succ, Nat.mod_mod_of_dvd _ (Nat.dvd_mul_left 256 (256 ^ c))]
    rw [hq]
theorem leb8 (n lo hi : Nat) (hlo : n % 4294967296 = lo) (hhi : n / 4294967296 = hi) : leb lo 4 ++ leb hi 4 = leb n 8 := by
  subst hlo
  subst hhi
  have h1 := leb_mod n 4 4 (by omega)
  have h2 := leb_app n 4 4
  rw [show (256 : Nat) ^ 4 = 4294967296 by decide] at h1 h2
  rw [h1, ← h2]

set_option maxRecDepth 100000 in
set_option maxHeartbeats 1000000 in
theorem refsmall_any (w : World) (g : Nat) (v : Value) (l : List Int) (n : Nat) (h : Sl w g v l) (h47 : l.length ≤ 140737488355000) (hn : n < 4294967296) :
    Calls Try.prog 32 #[v, .int .u32 (n : Int)] w (NewBytes (l ++ leb n 4) w) := by
  obtain ⟨i0, hi, hz0, hz1, hz2⟩ := info_parts infoByte
  have Hs := Lib.hid (h.free w.heap.size (Nat.le_refl _))
  clear h
  go_enter Try.func32, Try.ntmps32
  go_wp2_with (at_builtin; refine wpList_append_bytes rfl (.tmp 5) (.tmp 6) 27 rfl w.heap.size 5 i0 Try.underlying27 hi hz0 hz1 hz2 _ [] rfl (own_empty w _) w.heap.size _ l rfl ?c1 ?c2 ?c3 ?_)
  case c1 => exact Hs.out.below ((Below.refl _ _).alloc (Nat.le_refl _) _)
  case c2 => simp; omega
  case c3 => simp
  intro v' w' ho hg
  have Ho := Lib.hid ho
  have Hb := Lib.hid (((Below.refl w.heap.size w).alloc (Nat.le_refl _) (.cells #[] 5)).grown hg (by simp) (by simp [Value.ownBlock]))
  clear ho hg
  go_wp2_with (at_builtin; refine wpList_append_bytes rfl (.tmp 7) (.tmp 19) 27 rfl w.heap.size 5 i0 Try.underlying27 hi hz0 hz1 hz2 _ l rfl ?d1 (w'.heap.size + 1) _ [(n : Int) % 256, (n : Int) / 256 % 256, (n : Int) / 65536 % 256, (n : Int) / 16777216] rfl ?d2 ?d3 ?d4 ?_)
  case d1 => exact Ho.out.below ((Below.refl _ _).alloc (Nat.le_refl _) _)
  case d2 => exact sl_lit w' 5 _ [(n : Int) % 256, (n : Int) / 256 % 256, (n : Int) / 65536 % 256, (n : Int) / 16777216] (by omega)
  case d3 => simp; omega
  case d4 => exact Nat.le_trans Hb.out.size (by simp)
  intro v2 w2 ho hg
  have hbb := Hb.out.size
  have Hn := Lib.hid (Below.grown (Hb.out.alloc Hb.out.size (.cells (byteVals [(n : Int) % 256, (n : Int) / 256 % 256, (n : Int) / 65536 % 256, (n : Int) / 16777216]).toArray 5)) hg (by simp; omega) (fun q hq => (Ho.out.lt q hq).1))
  rw [← leb4 n hn] at ho
  have Ho2 := Lib.hid ho
  clear ho hg hbb
  go_wp2
  go_ret
  exact ⟨_, rfl, Ho2.out, Hn.out⟩

set_option maxRecDepth 100000 in
set_option maxHeartbeats 1000000 in
theorem refbig_any (w : World) (g : Nat) (v : Value) (l : List Int) (n : Nat) (h : Sl w g v l) (h47 : l.length ≤ 140737488354000) (hn : n < 18446744073709551616) :
    Calls Try.prog 57 #[v, .int .u64 (n : Int)] w (NewBytes (l ++ leb n 8) w) := by
  obtain ⟨lo, hlo⟩ : ∃ lo : Nat, n % 4294967296 = lo := ⟨_, rfl⟩
  obtain ⟨hi, hhi⟩ : ∃ hi : Nat, n / 4294967296 = hi := ⟨_, rfl⟩
  have H := Lib.hid (refsmall_any w g v l lo h (by omega) (by omega))
  have HS := Lib.hid (fun (w1 : World) (v1 : Value) (ho : Own w1 w.heap.size 5 v1 (l ++ leb lo 4)) => refsmall_any w1 _ v1 (l ++ leb lo 4) hi (Own.any ho) (by rw [List.length_append, leb_len]; omega) (by omega))
  have h1 : IntKind.u32.wrap (n : Int) = (lo : Int) := by simp [IntKind.wrap, IntKind.bits, IntKind.signed]; omega
  have h2 : (n : Int) / 4294967296 = (hi : Int) := by omega
  have h3 : IntKind.u32.wrap (hi : Int) = (hi : Int) := by simp [IntKind.wrap, IntKind.bits, IntKind.signed]; omega
  have HL := Lib.hid (show l ++ leb lo 4 ++ leb hi 4 = l ++ leb n 8 by rw [List.append_assoc, leb8 n lo hi hlo hhi])
  clear h hlo hhi hn h47
  go_enter Try.func57, Try.ntmps57
  go_wp2_with fail
  refine H.out.mono ?_
  rintro e w1 ⟨v1, rfl, ho1, hb1⟩
  have HS1 := Lib.hid (HS.out w1 v1 ho1)
  have HB1 := Lib.hid hb1
  clear ho1 hb1
  go_wp2_with fail
  refine HS1.out.mono ?_
  rintro e w2 ⟨v2, rfl, ho2, hb2⟩
  rw [HL.out] at ho2
  have HO := Lib.hid (ho2.less HB1.out.size)
  have HB := Lib.hid (HB1.out.trans (hb2.mono HB1.out.size))
  clear ho2 hb2
  go_wp2
  go_ret
  exact ⟨_, rfl, HO.out, HB.out⟩

theorem cnt_two (m : Nat) (h : ¬ (m : Int) < 253) (h' : (m : Int) ≤ 65535) : cnt m = [253, (m : Int) % 256, (m : Int) / 256 % 256] := by
  unfold cnt
  rw [if_neg (by omega), if_pos (by omega)]
  have h2 : leb m 2 = [((m / 256 ^ 0 % 256 : Nat) : Int), ((m / 256 ^ 1 % 256 : Nat) : Int)] := rfl
  rw [h2, show (256 : Nat) ^ 0 = 1 by decide, show (256 : Nat) ^ 1 = 256 by decide, Nat.div_one]
  rfl
theorem cnt_four (m : Nat) (h : ¬ (m : Int) ≤ 65535) : cnt m = 254 :: leb m 4 := by
  unfold cnt
  rw [if_neg (by omega), if_neg (by omega)]
set_option maxRecDepth 100000 in
set_option maxHeartbeats 2000000 in
theorem refcount_any (w : World) (g : Nat) (v : Value) (l : List Int) (n : Int) (h : Sl w g v l) (h47 : l.length ≤ 140737488354000) :
    Calls Try.prog 33 #[v, .int .i64 n] w (NewBytes (l ++ cnt (clamp n)) w) := by
  obtain ⟨i0, hi, hz0, hz1, hz2⟩ := info_parts infoByte
  have Hs := Lib.hid (h.free w.heap.size (Nat.le_refl _))
  clear h
  go_enter Try.func33, Try.ntmps33
  go_upto_region 1 with fail
  go_cut [1] (fun v wx => v = .int .i64 (clamp n : Int) ∧ wx = w)
  case first =>
    by_cases h0 : n < 0
    · have HC := Lib.hid (clamp_low n h0)
      go_wp2
      go_meet
      exact ⟨by rw [HC.out]; rfl, rfl⟩
    · by_cases h1 : (4294967295 : Int) < n
      · have HC := Lib.hid (show clamp n = 4294967295 by unfold clamp; omega)
        go_wp2
        go_meet
        exact ⟨by rw [HC.out]; rfl, rfl⟩
      · have HC := Lib.hid (show (clamp n : Int) = n by unfold clamp; omega)
        go_wp2
        go_meet
        exact ⟨by rw [HC.out], rfl⟩
  case rest =>
    obtain ⟨rfl, hw⟩ := hcut
    subst hw
    obtain ⟨m, hmc⟩ : ∃ m, clamp n = m := ⟨_, rfl⟩
    have HMC : Kept (m ≤ 4294967295) := ⟨by rw [← hmc]; unfold clamp; omega⟩
    have HMN : Kept (clamp n = m) := ⟨hmc⟩
    rw [hmc]
    clear hmc
    go_wp2_with (at_builtin; refine wpList_append_bytes rfl (.tmp 9) (.tmp 10) 27 rfl wc.heap.size 5 i0 Try.underlying27 hi hz0 hz1 hz2 _ [] rfl (own_empty wc _) wc.heap.size _ l rfl ?c1 ?c2 ?c3 ?_)
    case c1 => exact Hs.out.below ((Below.refl _ _).alloc (Nat.le_refl _) _)
    case c2 => simp; omega
    case c3 => simp
    intro v' w' ho hg
    have Ho := Lib.hid ho
    have Hb := Lib.hid (((Below.refl wc.heap.size wc).alloc (Nat.le_refl _) (.cells #[] 5)).grown hg (by simp) (by simp [Value.ownBlock]))
    clear ho hg
    by_cases t1 : (m : Int) < 253
    · have HE := Lib.hid (show l ++ [(m : Int)] = l ++ cnt m by rw [cnt_1 m t1, leb_one m (by omega)])
      go_wp2_with (at_builtin; refine wpList_append_bytes rfl (.tmp 15) (.tmp 18) 27 rfl wc.heap.size 5 i0 Try.underlying27 hi hz0 hz1 hz2 _ l rfl ?d1 (w'.heap.size + 1) _ [(m : Int)] rfl ?d2 ?d3 ?d4 ?_)
      case d1 => exact Ho.out.below ((Below.refl _ _).alloc (Nat.le_refl _) _)
      case d2 => exact sl_lit w' 5 _ [(m : Int)] (by omega)
      case d3 => simp; omega
      case d4 => exact Nat.le_trans Hb.out.size (by simp)
      intro v2 w2 ho hg
      have hbb := Hb.out.size
      have Hn := Lib.hid (Below.grown (Hb.out.alloc Hb.out.size (.cells (byteVals [(m : Int)]).toArray 5)) hg (by simp; omega) (fun q hq => (Ho.out.lt q hq).1))
      rw [HE.out] at ho
      have Ho2 := Lib.hid ho
      clear ho hg hbb
      go_wp2
      go_ret
      exact ⟨_, rfl, by rw [HMN.out]; exact Ho2.out, Hn.out⟩
    · by_cases t2 : (m : Int) ≤ 65535
      · have HE := Lib.hid (show l ++ [253, (m : Int) % 256, (m : Int) / 256 % 256] = l ++ cnt m by rw [cnt_two m t1 t2])
        have t2' : ((m : Int) ≤ 65535) = True := eq_true t2
        have t1' : decide ((m : Int) < 253) = false := decide_eq_false t1
        clear t2 t1
        go_wp2_with (at_builtin; refine wpList_append_bytes rfl (.tmp 23) (.tmp 29) 27 rfl wc.heap.size 5 i0 Try.underlying27 hi hz0 hz1 hz2 _ l rfl ?d1 (w'.heap.size + 1) _ [253, (m : Int) % 256, (m : Int) / 256 % 256] rfl ?d2 ?d3 ?d4 ?_)
        case d1 => exact Ho.out.below ((Below.refl _ _).alloc (Nat.le_refl _) _)
        case d2 => exact sl_lit w' 5 _ [253, (m : Int) % 256, (m : Int) / 256 % 256] (by omega)
        case d3 => simp; omega
        case d4 => exact Nat.le_trans Hb.out.size (by simp)
        intro v2 w2 ho hg
        have hbb := Hb.out.size
        have Hn := Lib.hid (Below.grown (Hb.out.alloc Hb.out.size (.cells (byteVals [253, (m : Int) % 256, (m : Int) / 256 % 256]).toArray 5)) hg (by simp; omega) (fun q hq => (Ho.out.lt q hq).1))
        rw [HE.out] at ho
        have Ho2 := Lib.hid ho
        clear ho hg hbb
        go_wp2
        go_ret
        exact ⟨_, rfl, by rw [HMN.out]; exact Ho2.out, Hn.out⟩
      · have HE := Lib.hid (show l ++ [254] ++ leb m 4 = l ++ cnt m by rw [cnt_four m t2]; simp)
        have t2' : ((m : Int) ≤ 65535) = False := eq_false t2
        have t1' : decide ((m : Int) < 253) = false := decide_eq_false t1
        have hw : IntKind.u32.wrap (m : Int) = (m : Int) := by
          have := HMC.out
          simp [IntKind.wrap, IntKind.bits, IntKind.signed]
          omega
        clear t2 t1
        go_wp2_with (at_builtin; refine wpList_append_bytes rfl (.tmp 31) (.tmp 32) 27 rfl wc.heap.size 5 i0 Try.underlying27 hi hz0 hz1 hz2 _ l rfl ?d1 (w'.heap.size + 1) _ [254] rfl ?d2 ?d3 ?d4 ?_)
        case d1 => exact Ho.out.below ((Below.refl _ _).alloc (Nat.le_refl _) _)
        case d2 => exact sl_lit w' 5 _ [254] (by omega)
        case d3 => simp; omega
        case d4 => exact Nat.le_trans Hb.out.size (by simp)
        intro v2 w2 ho hg
        have hbb := Hb.out.size
        have Hn := Lib.hid (Below.grown (Hb.out.alloc Hb.out.size (.cells (byteVals [254]).toArray 5)) hg (by simp; omega) (fun q hq => (Ho.out.lt q hq).1))
        have HS1 := Lib.hid (refsmall_any w2 _ v2 (l ++ [254]) m (Own.any ho) (by simp; omega) (by have := HMC.out; omega))
        clear ho hg hbb
        go_wp2_with fail
        refine HS1.out.mono ?_
        rintro e w3 ⟨v3, rfl, ho3, hb3⟩
        rw [HE.out] at ho3
        have HO := Lib.hid (ho3.less Hn.out.size)
        have HB := Lib.hid (Hn.out.trans (hb3.mono Hn.out.size))
        clear ho3 hb3
        go_wp2
        go_ret
        exact ⟨_, rfl, by rw [HMN.out]; exact HO.out, HB.out⟩
end Go.Proofs.Ytojeonepplfhlaa
