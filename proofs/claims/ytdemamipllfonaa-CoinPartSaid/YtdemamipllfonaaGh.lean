/- Contracts of the document's own answer for package wire: what is written. Contracts of the document's own Reader: Take, number, Small, Big. Contracts of the document's own Reader: number, Small, Big, End, Count. The contract of the document's own Reader's Count. The document's own layer 3: witness, bytes, May. The document's own layer 3: May. The document's own layer 3: body. The document's own layer 3: Base, Bytes. The document's own layer 3: Bytes. Layer 4: Weight and Size, the program's and the document's own. -/
import Derived.Test.YtdemamipllfonaaGb
import Derived.Deep.DeepCutAuto
import Derived.Test.YtdemamipllfonaaGd
import Derived.Test.YtdemamipllfonaaGg
import Derived.Deep.RegionHeld3
namespace Go.Proofs.Ytdemamipllfonaa

section
open Go.RowKit

/-- A fact that no tactic looks into. -/
structure Kept (p : Prop) : Prop where out : p
/-- A slice that the call itself lays, byte by byte. -/
theorem sl_lit (w : World) (e g : Nat) (l : List Int) (hg : w.heap.size ≠ g) : Sl (w.alloc (.cells (byteVals l).toArray e)) g (.slice (some ⟨w.heap.size, 0, none⟩) l.length l.length) l := by
  refine ⟨_, l.length, rfl, Nat.le_refl _, (fun h => by cases h), fun _ => ⟨w.heap.size, 0, rfl, hg, by simp, fun i hi => ?_⟩⟩
  rw [(Box.fresh w e (byteVals l).toArray).cell, Nat.zero_add]
  simp [byteVals, List.getElem?_eq_getElem hi, List.getD_eq_getElem?_getD]

theorem leb4 (n : Nat) (hn : n < 4294967296) : leb n 4 = [(n : Int) % 256, (n : Int) / 256 % 256, (n : Int) / 65536 % 256, (n : Int) / 16777216] := by
  have h : leb n 4 = [((n / 256 ^ 0 % 256 : Nat) : Int), ((n / 256 ^ 1 % 256 : Nat) : Int), ((n / 256 ^ 2 % 256 : Nat) : Int), ((n / 256 ^ 3 % 256 : Nat) : Int)] := rfl
  rw [h, show (256 : Nat) ^ 0 = 1 by decide, show (256 : Nat) ^ 1 = 256 by decide, show (256 : Nat) ^ 2 = 65536 by decide, show (256 : Nat) ^ 3 = 16777216 by decide]
  congr 1
  · omega
  congr 1
  congr 1
  congr 1
  omega
theorem leb_app (n : Nat) (a : Nat) : ∀ b, leb n (a + b) = leb n a ++ leb (n / 256 ^ a) b
  | 0 => by simp [leb]
  | b + 1 => by
    rw [show a + (b + 1) = (a + b) + 1 from rfl]
    simp only [leb, leb_app n a b, List.append_assoc]
    rw [Nat.pow_add, Nat.div_div_eq_div_mul]
theorem leb_mod (n a : Nat) : ∀ b, b ≤ a → leb (n % 256 ^ a) b = leb n b
  | 0, _ => rfl
  | b + 1, h => by
    simp only [leb, leb_mod n a b (by omega)]
    have hq : n % 256 ^ a / 256 ^ b % 256 = n / 256 ^ b % 256 := by
      obtain ⟨c, rfl⟩ : ∃ c, a = b + (c + 1) := ⟨a - b - 1, by omega⟩
      rw [Nat.pow_add, Nat.mod_mul_right_div_self, Nat.pow_succ, Nat.mod_mod_of_dvd _ (Nat.dvd_mul_left 256 (256 ^ c))]
    rw [hq]
theorem leb8 (n lo hi : Nat) (hlo : n % 4294967296 = lo) (hhi : n / 4294967296 = hi) : leb lo 4 ++ leb hi 4 = leb n 8 := by
  subst hlo
  subst hhi
  have h1 := leb_mod n 4 4 (by omega)
  have h2 := leb_app n 4 4
  rw [show (256 : Nat) ^ 4 = 4294967296 by decide] at h1 h2
  rw [h1, ← h2]

set_option maxRecDepth 100000 in
set_option maxHeartbeats 1000000 in
theorem refsmall_any (w : World) (g : Nat) (v : Value) (l : List Int) (n : Nat) (h : Sl w g v l) (h47 : l.length ≤ 140737488355000) (hn : n < 4294967296) :
    Calls Try.prog 44 #[v, .int .u32 (n : Int)] w (NewBytes (l ++ leb n 4) w) := by
  obtain ⟨i0, hi, hz0, hz1, hz2⟩ := info_parts infoByte
  have Hs := Lib.hid (h.free w.heap.size (Nat.le_refl _))
  clear h
  go_enter Try.func44, Try.ntmps44
  go_wp2_with (at_builtin; refine wpList_append_bytes rfl (.tmp 5) (.tmp 6) 55 rfl w.heap.size 5 i0 Try.underlying55 hi hz0 hz1 hz2 _ [] rfl (own_empty w _) w.heap.size _ l rfl ?c1 ?c2 ?c3 ?_)
  case c1 => exact Hs.out.below ((Below.refl _ _).alloc (Nat.le_refl _) _)
  case c2 => simp; omega
  case c3 => simp
  intro v' w' ho hg
  have Ho := Lib.hid ho
  have Hb := Lib.hid (((Below.refl w.heap.size w).alloc (Nat.le_refl _) (.cells #[] 5)).grown hg (by simp) (by simp [Value.ownBlock]))
  clear ho hg
  go_wp2_with (at_builtin; refine wpList_append_bytes rfl (.tmp 7) (.tmp 19) 55 rfl w.heap.size 5 i0 Try.underlying55 hi hz0 hz1 hz2 _ l rfl ?d1 (w'.heap.size + 1) _ [(n : Int) % 256, (n : Int) / 256 % 256, (n : Int) / 65536 % 256, (n : Int) / 16777216] rfl ?d2 ?d3 ?d4 ?_)
  case d1 => exact Ho.out.below ((Below.refl _ _).alloc (Nat.le_refl _) _)
  case d2 => exact sl_lit w' 5 _ [(n : Int) % 256, (n : Int) / 256 % 256, (n : Int) / 65536 % 256, (n : Int) / 16777216] (by omega)
  case d3 => simp; omega
  case d4 => exact Nat.le_trans Hb.out.size (by simp)
  intro v2 w2 ho hg
  have hbb := Hb.out.size
  have Hn := Lib.hid (Below.grown (Hb.out.alloc Hb.out.size (.cells (byteVals [(n : Int) % 256, (n : Int) / 256 % 256, (n : Int) / 65536 % 256, (n : Int) / 16777216]).toArray 5)) hg (by simp; omega) (fun q hq => (Ho.out.lt q hq).1))
  rw [← leb4 n hn] at ho
  have Ho2 := Lib.hid ho
  clear ho hg hbb
  go_wp2
  go_ret
  exact ⟨_, rfl, Ho2.out, Hn.out⟩

set_option maxRecDepth 100000 in
set_option maxHeartbeats 1000000 in
theorem refbig_any (w : World) (g : Nat) (v : Value) (l : List Int) (n : Nat) (h : Sl w g v l) (h47 : l.length ≤ 140737488354000) (hn : n < 18446744073709551616) :
    Calls Try.prog 64 #[v, .int .u64 (n : Int)] w (NewBytes (l ++ leb n 8) w) := by
  obtain ⟨lo, hlo⟩ : ∃ lo : Nat, n % 4294967296 = lo := ⟨_, rfl⟩
  obtain ⟨hi, hhi⟩ : ∃ hi : Nat, n / 4294967296 = hi := ⟨_, rfl⟩
  have H := Lib.hid (refsmall_any w g v l lo h (by omega) (by omega))
  have HS := Lib.hid (fun (w1 : World) (v1 : Value) (ho : Own w1 w.heap.size 5 v1 (l ++ leb lo 4)) => refsmall_any w1 _ v1 (l ++ leb lo 4) hi (Own.any ho) (by rw [List.length_append, leb_len]; omega) (by omega))
  have h1 : IntKind.u32.wrap (n : Int) = (lo : Int) := by simp [IntKind.wrap, IntKind.bits, IntKind.signed]; omega
  have h2 : (n : Int) / 4294967296 = (hi : Int) := by omega
  have h3 : IntKind.u32.wrap (hi : Int) = (hi : Int) := by simp [IntKind.wrap, IntKind.bits, IntKind.signed]; omega
  have HL := Lib.hid (show l ++ leb lo 4 ++ leb hi 4 = l ++ leb n 8 by rw [List.append_assoc, leb8 n lo hi hlo hhi])
  clear h hlo hhi hn h47
  go_enter Try.func64, Try.ntmps64
  go_wp2_with fail
  refine H.out.mono ?_
  rintro e w1 ⟨v1, rfl, ho1, hb1⟩
  have HS1 := Lib.hid (HS.out w1 v1 ho1)
  have HB1 := Lib.hid hb1
  clear ho1 hb1
  go_wp2_with fail
  refine HS1.out.mono ?_
  rintro e w2 ⟨v2, rfl, ho2, hb2⟩
  rw [HL.out] at ho2
  have HO := Lib.hid (ho2.less HB1.out.size)
  have HB := Lib.hid (HB1.out.trans (hb2.mono HB1.out.size))
  clear ho2 hb2
  go_wp2
  go_ret
  exact ⟨_, rfl, HO.out, HB.out⟩

theorem cnt_two (m : Nat) (h : ¬ (m : Int) < 253) (h' : (m : Int) ≤ 65535) : cnt m = [253, (m : Int) % 256, (m : Int) / 256 % 256] := by
  unfold cnt
  rw [if_neg (by omega), if_pos (by omega)]
  have h2 : leb m 2 = [((m / 256 ^ 0 % 256 : Nat) : Int), ((m / 256 ^ 1 % 256 : Nat) : Int)] := rfl
  rw [h2, show (256 : Nat) ^ 0 = 1 by decide, show (256 : Nat) ^ 1 = 256 by decide, Nat.div_one]
  rfl
theorem cnt_four (m : Nat) (h : ¬ (m : Int) ≤ 65535) : cnt m = 254 :: leb m 4 := by
  unfold cnt
  rw [if_neg (by omega), if_neg (by omega)]
set_option maxRecDepth 100000 in
set_option maxHeartbeats 2000000 in
theorem refcount_any (w : World) (g : Nat) (v : Value) (l : List Int) (n : Int) (h : Sl w g v l) (h47 : l.length ≤ 140737488354000) :
    Calls Try.prog 62 #[v, .int .i64 n] w (NewBytes (l ++ cnt (clamp n)) w) := by
  obtain ⟨i0, hi, hz0, hz1, hz2⟩ := info_parts infoByte
  have Hs := Lib.hid (h.free w.heap.size (Nat.le_refl _))
  clear h
  go_enter Try.func62, Try.ntmps62
  go_upto_region 1 with fail
  go_cut [1] (fun v wx => v = .int .i64 (clamp n : Int) ∧ wx = w)
  case first =>
    by_cases h0 : n < 0
    · have HC := Lib.hid (clamp_low n h0)
      go_wp2
      go_meet
      exact ⟨by rw [HC.out]; rfl, rfl⟩
    · by_cases h1 : (4294967295 : Int) < n
      · have HC := Lib.hid (show clamp n = 4294967295 by unfold clamp; omega)
        go_wp2
        go_meet
        exact ⟨by rw [HC.out]; rfl, rfl⟩
      · have HC := Lib.hid (show (clamp n : Int) = n by unfold clamp; omega)
        go_wp2
        go_meet
        exact ⟨by rw [HC.out], rfl⟩
  case rest =>
    obtain ⟨rfl, hw⟩ := hcut
    subst hw
    obtain ⟨m, hmc⟩ : ∃ m, clamp n = m := ⟨_, rfl⟩
    have HMC : Kept (m ≤ 4294967295) := ⟨by rw [← hmc]; unfold clamp; omega⟩
    have HMN : Kept (clamp n = m) := ⟨hmc⟩
    rw [hmc]
    clear hmc
    go_wp2_with (at_builtin; refine wpList_append_bytes rfl (.tmp 9) (.tmp 10) 55 rfl wc.heap.size 5 i0 Try.underlying55 hi hz0 hz1 hz2 _ [] rfl (own_empty wc _) wc.heap.size _ l rfl ?c1 ?c2 ?c3 ?_)
    case c1 => exact Hs.out.below ((Below.refl _ _).alloc (Nat.le_refl _) _)
    case c2 => simp; omega
    case c3 => simp
    intro v' w' ho hg
    have Ho := Lib.hid ho
    have Hb := Lib.hid (((Below.refl wc.heap.size wc).alloc (Nat.le_refl _) (.cells #[] 5)).grown hg (by simp) (by simp [Value.ownBlock]))
    clear ho hg
    by_cases t1 : (m : Int) < 253
    · have HE := Lib.hid (show l ++ [(m : Int)] = l ++ cnt m by rw [cnt_1 m t1, leb_one m (by omega)])
      go_wp2_with (at_builtin; refine wpList_append_bytes rfl (.tmp 15) (.tmp 18) 55 rfl wc.heap.size 5 i0 Try.underlying55 hi hz0 hz1 hz2 _ l rfl ?d1 (w'.heap.size + 1) _ [(m : Int)] rfl ?d2 ?d3 ?d4 ?_)
      case d1 => exact Ho.out.below ((Below.refl _ _).alloc (Nat.le_refl _) _)
      case d2 => exact sl_lit w' 5 _ [(m : Int)] (by omega)
      case d3 => simp; omega
      case d4 => exact Nat.le_trans Hb.out.size (by simp)
      intro v2 w2 ho hg
      have hbb := Hb.out.size
      have Hn := Lib.hid (Below.grown (Hb.out.alloc Hb.out.size (.cells (byteVals [(m : Int)]).toArray 5)) hg (by simp; omega) (fun q hq => (Ho.out.lt q hq).1))
      rw [HE.out] at ho
      have Ho2 := Lib.hid ho
      clear ho hg hbb
      go_wp2
      go_ret
      exact ⟨_, rfl, by rw [HMN.out]; exact Ho2.out, Hn.out⟩
    · by_cases t2 : (m : Int) ≤ 65535
      · have HE := Lib.hid (show l ++ [253, (m : Int) % 256, (m : Int) / 256 % 256] = l ++ cnt m by rw [cnt_two m t1 t2])
        have t2' : ((m : Int) ≤ 65535) = True := eq_true t2
        have t1' : decide ((m : Int) < 253) = false := decide_eq_false t1
        clear t2 t1
        go_wp2_with (at_builtin; refine wpList_append_bytes rfl (.tmp 23) (.tmp 29) 55 rfl wc.heap.size 5 i0 Try.underlying55 hi hz0 hz1 hz2 _ l rfl ?d1 (w'.heap.size + 1) _ [253, (m : Int) % 256, (m : Int) / 256 % 256] rfl ?d2 ?d3 ?d4 ?_)
        case d1 => exact Ho.out.below ((Below.refl _ _).alloc (Nat.le_refl _) _)
        case d2 => exact sl_lit w' 5 _ [253, (m : Int) % 256, (m : Int) / 256 % 256] (by omega)
        case d3 => simp; omega
        case d4 => exact Nat.le_trans Hb.out.size (by simp)
        intro v2 w2 ho hg
        have hbb := Hb.out.size
        have Hn := Lib.hid (Below.grown (Hb.out.alloc Hb.out.size (.cells (byteVals [253, (m : Int) % 256, (m : Int) / 256 % 256]).toArray 5)) hg (by simp; omega) (fun q hq => (Ho.out.lt q hq).1))
        rw [HE.out] at ho
        have Ho2 := Lib.hid ho
        clear ho hg hbb
        go_wp2
        go_ret
        exact ⟨_, rfl, by rw [HMN.out]; exact Ho2.out, Hn.out⟩
      · have HE := Lib.hid (show l ++ [254] ++ leb m 4 = l ++ cnt m by rw [cnt_four m t2]; simp)
        have t2' : ((m : Int) ≤ 65535) = False := eq_false t2
        have t1' : decide ((m : Int) < 253) = false := decide_eq_false t1
        have hw : IntKind.u32.wrap (m : Int) = (m : Int) := by
          have := HMC.out
          simp [IntKind.wrap, IntKind.bits, IntKind.signed]
          omega
        clear t2 t1
        go_wp2_with (at_builtin; refine wpList_append_bytes rfl (.tmp 31) (.tmp 32) 55 rfl wc.heap.size 5 i0 Try.underlying55 hi hz0 hz1 hz2 _ l rfl ?d1 (w'.heap.size + 1) _ [254] rfl ?d2 ?d3 ?d4 ?_)
        case d1 => exact Ho.out.below ((Below.refl _ _).alloc (Nat.le_refl _) _)
        case d2 => exact sl_lit w' 5 _ [254] (by omega)
        case d3 => simp; omega
        case d4 => exact Nat.le_trans Hb.out.size (by simp)
        intro v2 w2 ho hg
        have hbb := Hb.out.size
        have Hn := Lib.hid (Below.grown (Hb.out.alloc Hb.out.size (.cells (byteVals [254]).toArray 5)) hg (by simp; omega) (fun q hq => (Ho.out.lt q hq).1))
        have HS1 := Lib.hid (refsmall_any w2 _ v2 (l ++ [254]) m (Own.any ho) (by simp; omega) (by have := HMC.out; omega))
        clear ho hg hbb
        go_wp2_with fail
        refine HS1.out.mono ?_
        rintro e w3 ⟨v3, rfl, ho3, hb3⟩
        rw [HE.out] at ho3
        have HO := Lib.hid (ho3.less Hn.out.size)
        have HB := Lib.hid (Hn.out.trans (hb3.mono Hn.out.size))
        clear ho3 hb3
        go_wp2
        go_ret
        exact ⟨_, rfl, by rw [HMN.out]; exact HO.out, HB.out⟩
end

section
open Go.RowKit
end

section
open Go.RowKit

/-- One byte more, laid below those that are there. -/
theorem le_back (m : List Int) (hm : Bys m) (h8 : m.length ≤ 8) (k : Nat) (hk : k < m.length) (x : Int) (hx : x = m.getD k 0) :
    bits .or .u64 (IntKind.u64.wrap ((le (m.drop (k + 1)) : Int) * 256)) (IntKind.u64.wrap x) = (le (m.drop k) : Int) := by
  have hb := hm.at k
  rw [← hx] at hb
  obtain ⟨y, rfl⟩ := Int.eq_ofNat_of_zero_le hb.1
  have hl := le_lt (hm.drop (k + 1))
  rw [List.length_drop] at hl
  have hp : 256 ^ (m.length - (k + 1)) ≤ 256 ^ 7 := Nat.pow_le_pow_right (by omega) (by omega)
  rw [show (256 : Nat) ^ 7 = 72057594037927936 by decide] at hp
  have h1 : IntKind.u64.wrap ((le (m.drop (k + 1)) : Int) * 256) = ((256 * le (m.drop (k + 1)) : Nat) : Int) := by rw [IntKind.wrap_u64]; omega
  have h2 : IntKind.u64.wrap (y : Int) = (y : Int) := by rw [IntKind.wrap_u64]; omega
  rw [h1, h2, u64_or_nat _ _ (by omega) (by omega)]
  have h4 := Nat.two_pow_add_eq_or_of_lt (i := 8) (b := y) (by omega) (le (m.drop (k + 1)))
  rw [show (2 : Nat) ^ 8 = 256 from rfl] at h4
  rw [← h4]
  have h5 : m.drop k = m.getD k 0 :: m.drop (k + 1) := by
    rw [List.drop_eq_getElem_cons hk, List.getD_eq_getElem?_getD, List.getElem?_eq_getElem hk]
    rfl
  rw [h5, ← hx]
  simp only [le, Int.toNat_natCast]
  congr 1
  omega
end

section
open Go.RowKit

theorem bad_end (n least : Nat) (l : List Int) (most : Int) (h : l = []) : countEnd n least l true most = (0, [], true) := by
  subst h
  unfold countEnd
  split <;> rfl
end

section
open Go.RowKit


set_option maxRecDepth 1000000 in
set_option maxHeartbeats 4000000 in
theorem refbytes_any (w : World) (g : Nat) (v xv : Value) (l x : List Int) (h : Sl w g v l) (hx : Rb w xv x) (h47 : l.length + x.length ≤ 140737488350000) (h32 : x.length ≤ 4294967295) :
    Calls Try.prog 63 #[v, xv] w (NewBytes (l ++ encText x) w) := by
  obtain ⟨i0, hi, hz0, hz1, hz2⟩ := info_parts infoByte
  have HC := Kp.mk (refcount_any w g v l (x.length : Int) h (by omega))
  rw [clamp_in x.length (by omega)] at HC
  have HX := Kp.mk hx
  have hm := cnt_max x.length
  obtain ⟨L1, hL1⟩ : ∃ L, l ++ cnt x.length = L := ⟨_, rfl⟩
  have HL : Kp (L1.length + x.length ≤ 140737488355328) := ⟨by rw [← hL1, List.length_append]; omega⟩
  have HE : Kp (L1 ++ x = l ++ encText x) := ⟨by rw [← hL1]; unfold encText; rw [List.append_assoc]⟩
  rw [hL1] at HC
  obtain ⟨⟨A, c, rfl, hc0, hn0, hr0⟩, hby, hml⟩ := id hx
  unfold maxLen at hml
  clear hm hL1 hx h hn0 hr0 hby h47 h32
  go_enter Try.func63, Try.ntmps63
  go_wp2_with fail
  refine HC.out.mono ?_
  rintro e w1 ⟨v1, rfl, ho1, hb1⟩
  have HO := Kp.mk ho1
  have HB := Kp.mk hb1
  obtain ⟨A1, c1, rfl⟩ := ho1.slice
  clear ho1 hb1
  go_wp2_with (at_builtin; refine wpList_append_bytes rfl (.tmp 8) (.tmp 9) 55 rfl w.heap.size 5 i0 Try.underlying55 hi hz0 hz1 hz2 _ L1 rfl HO.out _ _ x rfl (HX.out.below HB.out).1 HL.out HB.out.size ?_)
  intro v2 w2 ho2 hg2
  rw [HE.out] at ho2
  have hb2 := (Below.refl w.heap.size w1).grown hg2 HB.out.size (fun q hq => (Own.lt HO.out q hq).1)
  have HO2 := Kp.mk ho2
  have HB2 := Kp.mk (HB.out.trans hb2)
  obtain ⟨A2, c2, rfl⟩ := ho2.slice
  clear ho2 hg2 hb2
  go_wp2_with fail
  go_ret
  exact ⟨_, rfl, HO2.out, HB2.out⟩


theorem may_no {t : TxD} (h : ¬ MayF t) : mayB t = false := by
  cases hm : mayB t with
  | true => exact absurd ((mayB_iff t).1 hm) h
  | false => rfl
theorem longB_iff (l : List Int) : longB l = false ↔ l.length ≤ 500 := by
  unfold longB
  rw [decide_eq_false_iff_not]
  omega
set_option maxRecDepth 1000000 in
set_option maxHeartbeats 8000000 in
theorem refmay_any (W : World) (v : Value) (t : TxD) (h : TxR W v t) : Calls Try.prog 43 #[v] W (BoolP (mayB t) W) := by
  obtain ⟨iv, ov, rfl, _, _, hi, ho⟩ := h
  obtain ⟨Ai, ci, rfl, hic, him⟩ := hi.slice
  obtain ⟨Ao, co, rfl, hoc, hom⟩ := ho.slice
  unfold maxLen at him hom
  have hb0 : Below W.heap.size W (W.alloc (.cells #[.int .u32 t.version, .slice Ai t.ins.length ci, .slice Ao t.outs.length co, .int .u32 t.lock] 30)) := (Below.refl _ _).alloc (Nat.le_refl _) _
  have HB := Kp.mk hb0
  have HI := Kp.mk (ins_below hi hb0)
  have HO := Kp.mk (outs_below ho hb0)
  clear hi ho hb0
  by_cases a1 : 1 ≤ t.ins.length
  · by_cases a2 : t.ins.length ≤ 50
    · by_cases a3 : 1 ≤ t.outs.length
      · by_cases a4 : t.outs.length ≤ 50
        · have g1 : ¬ (t.ins.length : Int) < 1 := by omega
          have g2 : ¬ (50 : Int) < (t.ins.length : Int) := by omega
          have g3 : ¬ (t.outs.length : Int) < 1 := by omega
          have g4 : ¬ (50 : Int) < (t.outs.length : Int) := by omega
          have HM : Kp ((1 ≤ t.ins.length ∧ t.ins.length ≤ 50) ∧ 1 ≤ t.outs.length ∧ t.outs.length ≤ 50) := ⟨⟨a1, a2⟩, a3, a4⟩
          have k1 : ¬ t.ins.length < 1 := by omega
          have k2 : ¬ 50 < t.ins.length := by omega
          have k3 : ¬ t.outs.length < 1 := by omega
          have k4 : ¬ 50 < t.outs.length := by omega
          have k5 : ¬ t.ins.length = 0 := by omega
          have k6 : ¬ t.outs.length = 0 := by omega
          have k7 : t.ins ≠ [] := fun e => by rw [e] at k5; exact k5 rfl
          have k8 : t.outs ≠ [] := fun e => by rw [e] at k6; exact k6 rfl
          clear a1 a2 a3 a4
          go_enter Try.func43, Try.ntmps43
          go_wp2
          go_loopw [3] (fun i wr => ∃ j : Nat, j ≤ t.ins.length ∧ i = .int .i64 j ∧ Kp (wr = W.alloc (.cells #[.int .u32 t.version, .slice Ai t.ins.length ci, .slice Ao t.outs.length co, .int .u32 t.lock] 30)) ∧ Kp (∀ (q : Nat) (h1 : q < t.ins.length), q < j → longInB t.ins[q] = false)) (fun i _ => t.ins.length - (intOf i).toNat)
          case atStart => exact ⟨0, Nat.zero_le _, rfl, ⟨rfl⟩, ⟨fun _ _ h => absurd h (Nat.not_lt_zero _)⟩⟩
          case round =>
            obtain ⟨j, hj, rfl, ⟨rfl⟩, NO⟩ := hrel
            by_cases hjl : j < t.ins.length
            · obtain ⟨b1, o1, cs1, rfl, hlt1, hk1, hcs1, sv, wv, rfl, hf, hs, hw⟩ := HI.out.at hjl
              have hc33 := hcs1 33 _ (inCells_script hf sv wv)
              have hc35 := hcs1 35 _ (inCells_wit hf sv wv)
              have HW := Kp.mk hw
              obtain ⟨Aw, cw, rfl, hcw, hwm⟩ := hw.slice
              unfold maxLen at hwm
              obtain ⟨⟨As, cs, rfl, hcs, h8, h9⟩, h10, hsm⟩ := hs
              unfold maxLen at hsm
              have hjl' : (j : Int) < (t.ins.length : Int) := by omega
              have HJ : Kp (j < t.ins.length) := ⟨hjl⟩
              have HS5 : Kp (500 < t.ins[j].script.length → mayB t = false) := ⟨fun h => may_no fun hm => by have := hm.isc _ (List.getElem_mem hjl); omega⟩
              have HW5 : Kp (10 < t.ins[j].wit.length → mayB t = false) := ⟨fun h => may_no fun hm => by have := hm.iwl _ (List.getElem_mem hjl); omega⟩
              have HR5 : Kp (∀ x ∈ t.ins[j].wit, 500 < x.length → mayB t = false) := ⟨fun x hx h => may_no fun hm => by have := hm.iwx _ (List.getElem_mem hjl) x hx; omega⟩
              have HF : Kp (t.ins[j].script.length ≤ 500 → t.ins[j].wit.length ≤ 10 → (∀ (q : Nat) (h1 : q < t.ins[j].wit.length), t.ins[j].wit[q].length ≤ 500) → ∀ (q : Nat) (h1 : q < t.ins.length), q < j + 1 → longInB t.ins[q] = false) := ⟨fun h1 h2 h3 q h4 h5 => by
                rcases Nat.lt_or_ge q j with h6 | h6
                · exact NO.out q h4 h6
                · obtain rfl : q = j := by omega
                  unfold longInB
                  rw [(longB_iff _).2 h1, decide_eq_false (by omega), Bool.false_or, Bool.false_or, List.any_eq_false]
                  intro x hx
                  obtain ⟨i, hi, rfl⟩ := List.mem_iff_getElem.1 hx
                  rw [(longB_iff _).2 (h3 i hi)]
                  simp⟩
              obtain ⟨D, hD⟩ : ∃ D, t.ins[j] = D := ⟨_, rfl⟩
              rw [hD] at hc33 hc35 HW hwm hsm HS5 HW5 HR5 HF hcw hcs
              clear h8 h9 h10 hcs1 hf hw hk1 hlt1 hj hjl hD hcw hcs
              by_cases s5 : 500 < D.script.length
              · have g5 : (500 : Int) < (D.script.length : Int) := by omega
                have HR := Kp.mk (HS5.out s5)
                clear HS5 HW5 HR5 HF
                go_wp2
                go_ret
                exact ⟨by rw [HR.out]; rfl, HB.out⟩
              · have g5 : ¬ (500 : Int) < (D.script.length : Int) := by omega
                by_cases w5 : 10 < D.wit.length
                · have g6 : (10 : Int) < (D.wit.length : Int) := by omega
                  have HR := Kp.mk (HW5.out w5)
                  clear HS5 HW5 HR5 HF
                  go_wp2
                  go_ret
                  exact ⟨by rw [HR.out]; rfl, HB.out⟩
                · have g6 : ¬ (10 : Int) < (D.wit.length : Int) := by omega
                  have HF2 := Kp.mk (HF.out (by omega) (by omega))
                  clear HS5 HW5 HF
                  go_wp2
                  go_loopw [4] (fun i wr => ∃ k : Nat, k ≤ D.wit.length ∧ i = .int .i64 k ∧ Kp (wr = W.alloc (.cells #[.int .u32 t.version, .slice (some ⟨b1, o1, none⟩) t.ins.length ci, .slice Ao t.outs.length co, .int .u32 t.lock] 30)) ∧ Kp (∀ (q : Nat) (h1 : q < D.wit.length), q < k → D.wit[q].length ≤ 500)) (fun i _ => D.wit.length - (intOf i).toNat)
                  case atStart => exact ⟨0, Nat.zero_le _, rfl, ⟨rfl⟩, ⟨fun _ _ h => absurd h (Nat.not_lt_zero _)⟩⟩
                  case round =>
                    obtain ⟨k, hk, rfl, ⟨rfl⟩, NO2⟩ := hrel
                    by_cases hkl : k < D.wit.length
                    · obtain ⟨b2, o2, cs2, rfl, hlt2, hk2, hcs2, rv, rfl, hr⟩ := HW.out.at hkl
                      have hrc := hcs2 0 _ rfl
                      rw [Nat.mul_one, Nat.add_zero] at hrc
                      obtain ⟨⟨Ar, cr, rfl, hcr, h11, h12⟩, h13, hrm⟩ := hr
                      unfold maxLen at hrm
                      have hkl' : (k : Int) < (D.wit.length : Int) := by omega
                      have HK : Kp (k < D.wit.length) := ⟨hkl⟩
                      have HX5 : Kp (500 < D.wit[k].length → mayB t = false) := ⟨HR5.out _ (List.getElem_mem hkl)⟩
                      have HX6 : Kp (D.wit[k].length ≤ 500 → ∀ (q : Nat) (h1 : q < D.wit.length), q < k + 1 → D.wit[q].length ≤ 500) := ⟨fun h q h1 h2 => by
                        rcases Nat.lt_or_ge q k with h3 | h3
                        · exact NO2.out q h1 h3
                        · obtain rfl : q = k := by omega
                          exact h⟩
                      obtain ⟨X, hX⟩ : ∃ X, D.wit[k] = X := ⟨_, rfl⟩
                      rw [hX] at hrc hrm HX5 HX6 hcr
                      clear h11 h12 h13 hcs2 hk2 hlt2 hk hkl hX hcr
                      by_cases x5 : 500 < X.length
                      · have g7 : (500 : Int) < (X.length : Int) := by omega
                        have HR := Kp.mk (HX5.out x5)
                        clear HX5 HX6
                        go_wp2
                        go_ret
                        exact ⟨by rw [HR.out]; rfl, HB.out⟩
                      · have g7 : ¬ (500 : Int) < (X.length : Int) := by omega
                        have HR := Kp.mk (HX6.out (by omega))
                        clear HX5 HX6
                        go_wp2
                        exact ⟨⟨k + 1, by have := HK.out; omega, by go_num, (by first | exact ⟨rfl⟩ | exact ⟨trivial⟩), HR⟩, by simp [intOf]; have := HK.out; omega⟩
                    · obtain rfl : k = D.wit.length := by omega
                      have HR := Kp.mk (HF2.out fun q h1 => NO2.out q h1 h1)
                      clear hkl hk HF2
                      go_wp2
                      exact ⟨⟨j + 1, by have := HJ.out; omega, by go_num, (by first | exact ⟨rfl⟩ | exact ⟨trivial⟩), HR⟩, by simp [intOf]; have := HJ.out; omega⟩
            · obtain rfl : j = t.ins.length := by omega
              have HINS : Kp (t.ins.any longInB = false) := ⟨by
                rw [List.any_eq_false]
                intro d hd
                obtain ⟨i, hi, rfl⟩ := List.mem_iff_getElem.1 hd
                rw [NO.out i hi hi]
                simp⟩
              clear hjl hj
              go_wp2
              go_loopw [5] (fun i wr => ∃ k : Nat, k ≤ t.outs.length ∧ i = .int .i64 k ∧ Kp (wr = W.alloc (.cells #[.int .u32 t.version, .slice Ai t.ins.length ci, .slice Ao t.outs.length co, .int .u32 t.lock] 30)) ∧ Kp (∀ (q : Nat) (h1 : q < t.outs.length), q < k → longB t.outs[q].script = false)) (fun i _ => t.outs.length - (intOf i).toNat)
              case atStart => exact ⟨0, Nat.zero_le _, rfl, ⟨rfl⟩, ⟨fun _ _ h => absurd h (Nat.not_lt_zero _)⟩⟩
              case round =>
                obtain ⟨j, hj, rfl, ⟨rfl⟩, NO⟩ := hrel
                by_cases hjl : j < t.outs.length
                · obtain ⟨b1, o1, cs1, rfl, hlt1, hk1, hcs1, sv, rfl, hv, hs⟩ := HO.out.at hjl
                  have hc1 := hcs1 1 _ rfl
                  obtain ⟨⟨As, cs, rfl, hcs, h8, h9⟩, h10, hsm⟩ := hs
                  unfold maxLen at hsm
                  have hjl' : (j : Int) < (t.outs.length : Int) := by omega
                  have HJ : Kp (j < t.outs.length) := ⟨hjl⟩
                  have HS5 : Kp (500 < t.outs[j].script.length → mayB t = false) := ⟨fun h => may_no fun hm => by have := hm.osc _ (List.getElem_mem hjl); omega⟩
                  have HF : Kp (t.outs[j].script.length ≤ 500 → ∀ (q : Nat) (h1 : q < t.outs.length), q < j + 1 → longB t.outs[q].script = false) := ⟨fun h1 q h4 h5 => by
                    rcases Nat.lt_or_ge q j with h6 | h6
                    · exact NO.out q h4 h6
                    · obtain rfl : q = j := by omega
                      exact (longB_iff _).2 h1⟩
                  obtain ⟨X, hX⟩ : ∃ X, t.outs[j].script = X := ⟨_, rfl⟩
                  rw [hX] at hc1 hsm HS5 HF hcs
                  clear h8 h9 h10 hcs1 hk1 hlt1 hv hj hjl hX hcs
                  by_cases x5 : 500 < X.length
                  · have g7 : (500 : Int) < (X.length : Int) := by omega
                    have HR := Kp.mk (HS5.out x5)
                    clear HS5 HF
                    go_wp2
                    go_ret
                    exact ⟨by rw [HR.out]; rfl, HB.out⟩
                  · have g7 : ¬ (500 : Int) < (X.length : Int) := by omega
                    have HR := Kp.mk (HF.out (by omega))
                    clear HS5 HF
                    go_wp2
                    exact ⟨⟨j + 1, by have := HJ.out; omega, by go_num, (by first | exact ⟨rfl⟩ | exact ⟨trivial⟩), HR⟩, by simp [intOf]; have := HJ.out; omega⟩
                · obtain rfl : j = t.outs.length := by omega
                  have HR : Kp (mayB t = true) := ⟨by
                    unfold mayB withinB
                    rw [decide_eq_true HM.out.1, decide_eq_true HM.out.2, HINS.out]
                    have : t.outs.any (fun d => longB d.script) = false := by
                      rw [List.any_eq_false]
                      intro d hd
                      obtain ⟨i, hi, rfl⟩ := List.mem_iff_getElem.1 hd
                      rw [NO.out i hi hi]
                      simp
                    rw [this]
                    rfl⟩
                  clear hjl hj
                  go_wp2
                  go_ret
                  exact ⟨by rw [HR.out]; rfl, HB.out⟩
        · have g1 : ¬ (t.ins.length : Int) < 1 := by omega
          have k1 : ¬ t.ins.length < 1 := by omega
          have k5 : ¬ t.ins.length = 0 := by omega
          have k7 : t.ins ≠ [] := fun e => by rw [e] at k5; exact k5 rfl
          have g2 : ¬ (50 : Int) < (t.ins.length : Int) := by omega
          have k2 : ¬ 50 < t.ins.length := by omega
          have g3 : ¬ (t.outs.length : Int) < 1 := by omega
          have k3 : ¬ t.outs.length < 1 := by omega
          have k6 : ¬ t.outs.length = 0 := by omega
          have k8 : t.outs ≠ [] := fun e => by rw [e] at k6; exact k6 rfl
          have g4 : (50 : Int) < (t.outs.length : Int) := by omega
          have k4 : 50 < t.outs.length := by omega
          have HN : Kp (mayB t = false) := ⟨may_no fun h => by have := h.o50; omega⟩
          go_enter Try.func43, Try.ntmps43
          go_wp2
          go_ret
          exact ⟨by rw [HN.out]; rfl, HB.out⟩
      · have g1 : ¬ (t.ins.length : Int) < 1 := by omega
        have k1 : ¬ t.ins.length < 1 := by omega
        have k5 : ¬ t.ins.length = 0 := by omega
        have k7 : t.ins ≠ [] := fun e => by rw [e] at k5; exact k5 rfl
        have g2 : ¬ (50 : Int) < (t.ins.length : Int) := by omega
        have k2 : ¬ 50 < t.ins.length := by omega
        have g3 : (t.outs.length : Int) < 1 := by omega
        have k3 : t.outs.length < 1 := by omega
        have HN : Kp (mayB t = false) := ⟨may_no fun h => by have := h.o1; omega⟩
        go_enter Try.func43, Try.ntmps43
        go_wp2
        go_ret
        exact ⟨by rw [HN.out]; rfl, HB.out⟩
    · have g1 : ¬ (t.ins.length : Int) < 1 := by omega
      have k1 : ¬ t.ins.length < 1 := by omega
      have k5 : ¬ t.ins.length = 0 := by omega
      have k7 : t.ins ≠ [] := fun e => by rw [e] at k5; exact k5 rfl
      have g2 : (50 : Int) < (t.ins.length : Int) := by omega
      have k2 : 50 < t.ins.length := by omega
      have HN : Kp (mayB t = false) := ⟨may_no fun h => by have := h.i50; omega⟩
      go_enter Try.func43, Try.ntmps43
      go_wp2
      go_ret
      exact ⟨by rw [HN.out]; rfl, HB.out⟩
  · have g1 : (t.ins.length : Int) < 1 := by omega
    have k1 : t.ins.length < 1 := by omega
    have HN : Kp (mayB t = false) := ⟨may_no fun h => by have := h.i1; omega⟩
    go_enter Try.func43, Try.ntmps43
    go_wp2
    go_ret
    exact ⟨by rw [HN.out]; rfl, HB.out⟩


def bodyOf (t : TxD) : List Int := cnt t.ins.length ++ (flat encIn t.ins ++ (cnt t.outs.length ++ flat encOut t.outs))
theorem flat_next {α : Type} (f : α → List Int) {l : List α} {j : Nat} (h : j < l.length) : flat f (l.take (j + 1)) = flat f (l.take j) ++ f l[j] := by
  unfold flat
  rw [List.take_succ_eq_append_getElem h, List.map_append, List.flatten_append]
  simp only [List.map_cons, List.map_nil, List.flatten_cons, List.flatten_nil, List.append_nil]
theorem flat_take_len {α : Type} (f : α → List Int) (m : Nat) (l : List α) (j : Nat) (h : ∀ x ∈ l, (f x).length ≤ m) (hl : l.length ≤ 50) : (flat f (l.take j)).length ≤ m * 50 := by
  have h1 := flat_len f m (l.take j) fun x hx => h x (List.mem_of_mem_take hx)
  have h2 : (l.take j).length ≤ 50 := by rw [List.length_take]; omega
  exact Nat.le_trans h1 (Nat.mul_le_mul_left m h2)
set_option linter.unusedSimpArgs false in
set_option maxRecDepth 10000000 in
set_option maxHeartbeats 8000000 in
theorem refbody_any (w : World) (g : Nat) (v tv : Value) (l : List Int) (t : TxD) (hl : Sl w g v l) (ht : TxR w tv t) (hm : MayF t) (h47 : l.length ≤ 1000) :
    Calls Try.prog 45 #[v, tv] w (NewBytes (l ++ bodyOf t) w) := by
  obtain ⟨i0, hi, hz0, hz1, hz2⟩ := info_parts infoByte
  have HFIT := Kp.mk ht.fit
  obtain ⟨iv, ov, rfl, _, _, hins, hout⟩ := ht
  obtain ⟨Ai, ci, rfl, hic, him⟩ := hins.slice
  obtain ⟨Ao, co, rfl, hoc, hom⟩ := hout.slice
  unfold maxLen at him hom
  have hb0 : Below w.heap.size w (w.alloc (.cells #[.int .u32 t.version, .slice Ai t.ins.length ci, .slice Ao t.outs.length co, .int .u32 t.lock] 30)) := (Below.refl _ _).alloc (Nat.le_refl _) _
  have HB0 := Kp.mk hb0
  have HI := Kp.mk (ins_below hins hb0)
  have HO := Kp.mk (outs_below hout hb0)
  have HM := Kp.mk hm
  have HX : Kp (Box (w.alloc (.cells #[.int .u32 t.version, .slice Ai t.ins.length ci, .slice Ao t.outs.length co, .int .u32 t.lock] 30)) w.heap.size 30 #[.int .u32 t.version, .slice Ai t.ins.length ci, .slice Ao t.outs.length co, .int .u32 t.lock]) := ⟨Box.fresh _ _ _⟩
  have HCNT := Kp.mk (refcount_any (w.alloc (.cells #[.int .u32 t.version, .slice Ai t.ins.length ci, .slice Ao t.outs.length co, .int .u32 t.lock] 30)) g v l (t.ins.length : Int) (hl.below hb0) (by omega))
  have hn50 := hm.i50
  have ho50 := hm.o50
  rw [clamp_in _ (by omega)] at HCNT
  obtain ⟨A0, c0, rfl, _⟩ := id hl
  have HLI : Kp (∀ j, (l ++ (cnt t.ins.length ++ flat encIn (t.ins.take j))).length ≤ 40000) := ⟨fun j => by
    have h1 := flat_take_len encIn 545 t.ins j (fun d hd => encIn_len d (HFIT.out.ins d hd).plen (hm.isc d hd)) hn50
    have h2 := cnt_max t.ins.length
    simp only [List.length_append]
    omega⟩
  have HLO : Kp (∀ j, (l ++ (cnt t.ins.length ++ (flat encIn t.ins ++ (cnt t.outs.length ++ flat encOut (t.outs.take j))))).length ≤ 80000) := ⟨fun j => by
    have h1 := flat_len encIn 545 t.ins (fun d hd => encIn_len d (HFIT.out.ins d hd).plen (hm.isc d hd))
    have h2 := cnt_max t.ins.length
    have h3 := flat_take_len encOut 513 t.outs j (fun d hd => encOut_len d (hm.osc d hd)) ho50
    have h4 := cnt_max t.outs.length
    simp only [List.length_append]
    omega⟩
  have HW1 : Kp ((w.alloc (.cells #[.int .u32 t.version, .slice Ai t.ins.length ci, .slice Ao t.outs.length co, .int .u32 t.lock] 30)).heap.size = w.heap.size + 1) := ⟨alloc_size _ _⟩
  clear hins hout hb0 hm hl h47
  go_enter Try.func45, Try.ntmps45
  go_wp2_with fail
  refine HCNT.out.mono ?_
  rintro e w2 ⟨v2, rfl, ho2, hb2⟩
  obtain ⟨W1, hW1⟩ : ∃ W1, (w.alloc (.cells #[.int .u32 t.version, .slice Ai t.ins.length ci, .slice Ao t.outs.length co, .int .u32 t.lock] 30)) = W1 := ⟨_, rfl⟩
  rw [hW1] at HB0 HI HO HX HW1 ho2 hb2
  obtain ⟨L2, hL2⟩ : ∃ X, l ++ cnt t.ins.length = X := ⟨_, rfl⟩
  rw [hL2] at ho2
  have HL2 := Kp.mk hL2
  have HO2 := Kp.mk ho2
  clear hL2
  have HB2 := Kp.mk hb2
  clear hW1 ho2 hb2 HCNT
  have HC : Kp (∀ K, Below W1.heap.size W1 K → K.cell? ⟨w.heap.size, 0, none⟩ = some (.int .u32 t.version) ∧ K.cell? ⟨w.heap.size, 1, none⟩ = some (.slice Ai t.ins.length ci) ∧ K.cell? ⟨w.heap.size, 2, none⟩ = some (.slice Ao t.outs.length co) ∧ K.cell? ⟨w.heap.size, 3, none⟩ = some (.int .u32 t.lock)) := ⟨fun K hb => ⟨(HX.out.below hb).cell 0, (HX.out.below hb).cell 1, (HX.out.below hb).cell 2, (HX.out.below hb).cell 3⟩⟩
  obtain ⟨A2, c2, rfl⟩ := HO2.out.slice
  go_wp2
  go_loopw [0, 5, 6] (fun b i _ wr => ∃ (j : Nat) (L : List Int) (A : Option Addr) (c : Nat), j ≤ t.ins.length ∧ i = .int .i64 j ∧ b = .slice A L.length c ∧ Kp (L = l ++ (cnt t.ins.length ++ flat encIn (t.ins.take j)) ∧ Own wr W1.heap.size 5 (.slice A L.length c) L ∧ Below W1.heap.size W1 wr)) (fun _ i _ _ => t.ins.length - (intOf i).toNat)
  case atStart => exact ⟨0, L2, A2, c2, Nat.zero_le _, rfl, rfl, ⟨by rw [← HL2.out]; simp [flat], HO2.out, HB2.out⟩⟩
  case round =>
    obtain ⟨j, L, A, c, hj, rfl, rfl, ⟨hL, hown, hbl⟩⟩ := hrel
    obtain ⟨k0, k1, k2, k3⟩ := HC.out wr hbl
    by_cases hjl : j < t.ins.length
    · obtain ⟨b1, o1, cs, rfl, hlt1, hk1, hcs1, sv, wv, hcse, hf, hs, hw⟩ := HI.out.at hjl
      have hjl1 : (j : Int) < (t.ins.length : Int) := by omega
      have HJ : Kp (j < t.ins.length) := ⟨hjl⟩
      have hrow : wr.rangeAt b1 (o1 + j * 36) cs := rangeAt_block hcs1 (hbl.block b1 hlt1)
      have HROW := Kp.mk hrow
      have HK1 : Kp ((Try.prog.info? 58).map (·.size) = some cs.length) := ⟨by rw [hk1]; exact sizeIn⟩
      have HONE := Kp.mk (all_oneCell_toArray (show InR W1 cs t.ins[j] from ⟨sv, wv, hcse, hf, hs, hw⟩).one)
      have HL36 : Kp (cs.length = 36) := ⟨hk1⟩
      have hbx : Box (wr.alloc (.cells cs.toArray 58)) wr.heap.size 58 cs.toArray := Box.fresh _ _ _
      have HNEXT : Kp (l ++ (cnt t.ins.length ++ flat encIn (t.ins.take (j + 1))) = L ++ t.ins[j].prev ++ leb t.ins[j].vout 4 ++ encText t.ins[j].script ++ leb t.ins[j].seq 4) := ⟨by rw [flat_next encIn hjl, hL]; unfold encIn; simp⟩
      have HSC : Kp (t.ins[j].script.length ≤ 500) := ⟨HM.out.isc _ (List.getElem_mem hjl)⟩
      have HLL := HLI.out (j + 1)
      rw [HNEXT.out] at HLL
      simp only [List.length_append] at HLL
      have HLEN := Kp.mk HLL
      clear HLL
      obtain ⟨D, hD⟩ : ∃ D, t.ins[j] = D := ⟨_, rfl⟩
      rw [hD] at hcse hf hs hw HNEXT HSC HLEN
      have HSV : Kp (∀ K, Below W1.heap.size W1 K → Rb K sv D.script) := ⟨fun K hb => hs.below hb⟩
      obtain ⟨⟨As, csv, rfl, h8, h9, h10⟩, h11, h12⟩ := hs
      have hc32 : cs.toArray[32]? = some (.int .u32 D.vout) := by rw [hcse]; simpa using inCells_vout hf _ wv
      have hc33 : cs.toArray[33]? = some (.slice As D.script.length csv) := by rw [hcse]; simpa using inCells_script hf _ wv
      have hc34 : cs.toArray[34]? = some (.int .u32 D.seq) := by rw [hcse]; simpa using inCells_seq hf _ wv
      have HPV : Kp (∀ K, Box K wr.heap.size 58 cs.toArray → Sl K K.heap.size (.slice (some ⟨wr.heap.size, 0, none⟩) 32 32) D.prev) := ⟨fun K hb => by
        have hr := inCells_range (d := D) (sv := .slice As D.script.length csv) (wv := wv) (by rw [← hcse]; exact hb)
        refine ⟨some ⟨wr.heap.size, 0, none⟩, 32, by rw [hf.plen], by rw [hf.plen]; exact Nat.le_refl _, (fun h => by cases h), fun _ => ⟨wr.heap.size, 0, rfl, Nat.ne_of_lt hb.lt, hb.lt, fun i hi => ?_⟩⟩
        refine hr i _ ?_
        unfold byteVals
        rw [List.getElem?_map, List.getElem?_eq_getElem hi, List.getD_eq_getElem?_getD, List.getElem?_eq_getElem hi]
        rfl⟩
      have HS6 : Kp (∀ K, Box K wr.heap.size 58 cs.toArray → (fun K => K.cell? ⟨wr.heap.size, 32, none⟩ = some (.int .u32 D.vout) ∧ K.cell? ⟨wr.heap.size, 33, none⟩ = some (.slice As D.script.length csv) ∧ K.cell? ⟨wr.heap.size, 34, none⟩ = some (.int .u32 D.seq)) K) := ⟨fun K hb => ⟨(hb.cell 32).trans hc32, (hb.cell 33).trans hc33, (hb.cell 34).trans hc34⟩⟩
      have HVT : Kp (D.vout < 4294967296 ∧ D.seq < 4294967296 ∧ D.prev.length = 32) := ⟨hf.vlt, hf.slt, hf.plen⟩
      have HOWN := Kp.mk hown
      have HBL := Kp.mk hbl
      have HBX := Kp.mk hbx
      clear hown hbl hcs1 hrow hbx hcse hf hw hc32 hc33 hc34 h8 h9 h10 h11 h12 hk1 hlt1 hj hjl hD hL
      go_upto_region 6 with (first | (refine wpList_load_mid rfl 58 (.tmp 23) rfl b1 (o1 + j * 36) rfl cs _ HROW.out Try.underlying58 rfl HK1.out ?_) | (refine wpList_store_fresh rfl 58 (.tmp 6) (.tmp 24) rfl _ cs.toArray wr.heap.size rfl rfl rfl (by simpa using HK1.out) (by simp [HL36.out]) HONE.out ?_))
      refine wp_region_noPanic ?_
      refine wp_region_held_drew (S := (fun K => K.cell? ⟨wr.heap.size, 32, none⟩ = some (.int .u32 D.vout) ∧ K.cell? ⟨wr.heap.size, 33, none⟩ = some (.slice As D.script.length csv) ∧ K.cell? ⟨wr.heap.size, 34, none⟩ = some (.int .u32 D.seq))) (by kernel_rfl) ?_ (fun hHeld => ?_)
      · exact HS6.out _ HBX.out
      refine wpAnyH_take (i := 0) (oi := ⟨some 25, _, _, _, _, _⟩) (v := ?_) rfl (by kernel_rfl) (by kernel_rfl) (by kernel_rfl) (fun _ _ _ h => h) (Or.inl ⟨by rfl, ?_⟩) hHeld ?_
      rotate_left
      · (intro wx hSw; (try dsimp only at hSw); obtain _ := hSw; go_simp; try with_reducible rfl)
      try simp only [Act.put, List.setIfInBounds_toArray, List.set_cons_zero, List.set_cons_succ]
      refine wpAnyH_take (i := 1) (oi := ⟨some 26, _, _, _, _, _⟩) (v := ?_) rfl (by kernel_rfl) (by kernel_rfl) (by kernel_rfl) (fun _ _ _ h => h) (Or.inl ⟨by rfl, ?_⟩) hHeld ?_
      rotate_left
      · (intro wx hSw; (try dsimp only at hSw); obtain _ := hSw; go_simp; try with_reducible rfl)
      try simp only [Act.put, List.setIfInBounds_toArray, List.set_cons_zero, List.set_cons_succ]
      refine wpAnyH_take (i := 2) (oi := ⟨some 27, _, _, _, _, _⟩) (v := ?_) rfl (by kernel_rfl) (by kernel_rfl) (by kernel_rfl) (fun _ _ _ h => h) (Or.inl ⟨by rfl, ?_⟩) hHeld ?_
      rotate_left
      · (intro wx hSw; (try dsimp only at hSw); obtain _ := hSw; go_simp; try with_reducible rfl)
      try simp only [Act.put, List.setIfInBounds_toArray, List.set_cons_zero, List.set_cons_succ]
      refine wpAnyH_take (i := 4) (oi := ⟨some 29, _, _, _, _, _⟩) (v := ?_) rfl (by kernel_rfl) (by kernel_rfl) (by kernel_rfl) (fun _ _ _ h => h) (Or.inl ⟨by rfl, ?_⟩) hHeld ?_
      rotate_left
      · (intro wx hSw; (try dsimp only at hSw); obtain _ := hSw; go_simp; try with_reducible rfl)
      try simp only [Act.put, List.setIfInBounds_toArray, List.set_cons_zero, List.set_cons_succ]
      refine wpAnyH_take (i := 5) (oi := ⟨some 30, _, _, _, _, _⟩) (v := ?_) rfl (by kernel_rfl) (by kernel_rfl) (by kernel_rfl) (fun _ _ _ h => h) (Or.inl ⟨by rfl, ?_⟩) hHeld ?_
      rotate_left
      · (intro wx hSw; (try dsimp only at hSw); obtain ⟨s1, s2, s3⟩ := hSw; go_simp; try with_reducible rfl)
      try simp only [Act.put, List.setIfInBounds_toArray, List.set_cons_zero, List.set_cons_succ]
      refine wpAnyH_take (i := 7) (oi := ⟨some 32, _, _, _, _, _⟩) (v := ?_) rfl (by kernel_rfl) (by kernel_rfl) (by kernel_rfl) (fun _ _ _ h => h) (Or.inl ⟨by rfl, ?_⟩) hHeld ?_
      rotate_left
      · (intro wx hSw; (try dsimp only at hSw); obtain _ := hSw; go_simp; try with_reducible rfl)
      try simp only [Act.put, List.setIfInBounds_toArray, List.set_cons_zero, List.set_cons_succ]
      refine wpAnyH_take (i := 8) (oi := ⟨some 33, _, _, _, _, _⟩) (v := ?_) rfl (by kernel_rfl) (by kernel_rfl) (by kernel_rfl) (fun _ _ _ h => h) (Or.inl ⟨by rfl, ?_⟩) hHeld ?_
      rotate_left
      · (intro wx hSw; (try dsimp only at hSw); obtain ⟨s1, s2, s3⟩ := hSw; go_simp; try with_reducible rfl)
      try simp only [Act.put, List.setIfInBounds_toArray, List.set_cons_zero, List.set_cons_succ]
      refine wpAnyH_take (i := 10) (oi := ⟨some 35, _, _, _, _, _⟩) (v := ?_) rfl (by kernel_rfl) (by kernel_rfl) (by kernel_rfl) (fun _ _ _ h => h) (Or.inl ⟨by rfl, ?_⟩) hHeld ?_
      rotate_left
      · (intro wx hSw; (try dsimp only at hSw); obtain _ := hSw; go_simp; try with_reducible rfl)
      try simp only [Act.put, List.setIfInBounds_toArray, List.set_cons_zero, List.set_cons_succ]
      refine wpAnyH_take (i := 11) (oi := ⟨some 36, _, _, _, _, _⟩) (v := ?_) rfl (by kernel_rfl) (by kernel_rfl) (by kernel_rfl) (fun _ _ _ h => h) (Or.inl ⟨by rfl, ?_⟩) hHeld ?_
      rotate_left
      · (intro wx hSw; (try dsimp only at hSw); obtain ⟨s1, s2, s3⟩ := hSw; go_simp; try with_reducible rfl)
      try simp only [Act.put, List.setIfInBounds_toArray, List.set_cons_zero, List.set_cons_succ]
      refine wpAnyH_ready (rs := [3]) (by kernel_rfl) (by simp) (AllReadyH.cons (o := ⟨some 28, _, _, _, _, _⟩) rfl (fun K hK => ?_) AllReadyH.nil)
      have howd : Own (wr.alloc (.cells cs.toArray 58)).drew W1.heap.size 5 (.slice A L.length c) L := HOWN.out.below ((Below.refl _ _).alloc (Nat.le_refl _) _).drew
      refine wp_append_bytes rfl (.tmp 25) (.tmp 27) 55 rfl W1.heap.size 5 i0 Try.underlying55 hi hz0 hz1 hz2 _ L rfl howd _ _ D.prev rfl (HPV.out (wr.alloc (.cells cs.toArray 58)).drew HBX.out) (by have := HLEN.out; omega) (by have := HBL.out.size; show W1.heap.size ≤ (wr.alloc (.cells cs.toArray 58)).heap.size; rw [alloc_size]; omega) ?_
      intro v5 w5 ho5 hg5
      have hlt5 : ∀ q, Value.ownBlock (.slice A L.length c) = some q → W1.heap.size ≤ q ∧ q < wr.heap.size := fun q hq => ⟨(Own.lt HOWN.out q hq).1, (Own.lt HOWN.out q hq).2⟩
      have hbx5 : Box w5 wr.heap.size 58 cs.toArray := (hg5.block wr.heap.size (show wr.heap.size < (wr.alloc (.cells cs.toArray 58)).heap.size by rw [alloc_size]; omega) (fun e => by have := (hlt5 _ e.symm).2; omega)).trans HBX.out
      have hbd : Below W1.heap.size W1 (wr.alloc (.cells cs.toArray 58)).drew := (HBL.out.alloc HBL.out.size _).drew
      have hb5 := hbd.grown hg5 hbd.size (fun q hq => (hlt5 q hq).1)
      obtain ⟨L5, hL5⟩ : ∃ X, L ++ D.prev = X := ⟨_, rfl⟩
      rw [hL5] at ho5
      obtain ⟨A5, c5, rfl⟩ := ho5.slice
      have HLE5 := Kp.mk (show L5.length = L.length + 32 from by rw [← hL5, List.length_append, HVT.out.2.2])
      have HLX5 := Kp.mk hL5
      clear hL5
      refine hK.out _ _ (HS6.out _ hbx5) (fun hHeld => ?_)
      clear hK K
      try simp only [Act.put, List.setIfInBounds_toArray, List.set_cons_zero, List.set_cons_succ]
      refine wpAnyH_ready (rs := [6]) (by kernel_rfl) (by simp) (AllReadyH.cons (o := ⟨some 31, _, _, _, _, _⟩) rfl (fun K hK => ?_) AllReadyH.nil)
      go_simp
      refine (refsmall_any w5 w5.heap.size _ L5 D.vout ho5.any (by have := HLEN.out; have := HVT.out.2.2; have := HLE5.out; omega) HVT.out.1).mono ?_
      rintro e w6 ⟨v6, rfl, ho6, hb6⟩
      obtain ⟨L6, hL6⟩ : ∃ X, L5 ++ leb D.vout 4 = X := ⟨_, rfl⟩
      rw [hL6] at ho6
      obtain ⟨A6, c6, rfl⟩ := ho6.slice
      have hbx6 := hbx5.below hb6
      have hb16 := hb5.trans (hb6.mono hb5.size)
      have HLE6 := Kp.mk (show L6.length = L.length + 36 from by rw [← hL6, List.length_append, leb_len, HLE5.out])
      have HLX6 := Kp.mk hL6
      clear hL6
      refine hK.out _ _ (HS6.out _ hbx6) (fun hHeld => ?_)
      clear hK K
      try simp only [Act.put, List.setIfInBounds_toArray, List.set_cons_zero, List.set_cons_succ]
      refine wpAnyH_ready (rs := [9]) (by kernel_rfl) (by simp) (AllReadyH.cons (o := ⟨some 34, _, _, _, _, _⟩) rfl (fun K hK => ?_) AllReadyH.nil)
      go_simp
      refine (refbytes_any w6 w6.heap.size _ _ L6 D.script ho6.any (HSV.out w6 hb16) (by have := HLEN.out; have := HSC.out; have := HVT.out.2.2; have := HLE6.out; omega) (by have := HSC.out; omega)).mono ?_
      rintro e w7 ⟨v7, rfl, ho7, hb7⟩
      obtain ⟨L7, hL7⟩ : ∃ X, L6 ++ encText D.script = X := ⟨_, rfl⟩
      rw [hL7] at ho7
      obtain ⟨A7, c7, rfl⟩ := ho7.slice
      have hbx7 := hbx6.below hb7
      have hb17 := hb16.trans (hb7.mono hb16.size)
      have HLE7 := Kp.mk (show L7.length ≤ L.length + 600 from by have := encText_len D.script; have := HSC.out; rw [← hL7, List.length_append, HLE6.out]; omega)
      have HLX7 := Kp.mk hL7
      clear hL7
      refine hK.out _ _ (HS6.out _ hbx7) (fun hHeld => ?_)
      clear hK K
      try simp only [Act.put, List.setIfInBounds_toArray, List.set_cons_zero, List.set_cons_succ]
      refine wpAnyH_ready (rs := [12]) (by kernel_rfl) (by simp) (AllReadyH.cons (o := ⟨some 37, _, _, _, _, _⟩) rfl (fun K hK => ?_) AllReadyH.nil)
      go_simp
      refine (refsmall_any w7 w7.heap.size _ L7 D.seq ho7.any (by have := HLEN.out; have := HVT.out.2.2; have := HLE7.out; omega) HVT.out.2.1).mono ?_
      rintro e w8 ⟨v8, rfl, ho8, hb8⟩
      obtain ⟨L8, hL8⟩ : ∃ X, L7 ++ leb D.seq 4 = X := ⟨_, rfl⟩
      rw [hL8] at ho8
      obtain ⟨A8, c8, rfl⟩ := ho8.slice
      have hbx8 := hbx7.below hb8
      have hb18 := hb17.trans (hb8.mono hb17.size)
      refine hK.out _ _ (HS6.out _ hbx8) (fun hHeld => ?_)
      clear hK K
      try simp only [Act.put, List.setIfInBounds_toArray, List.set_cons_zero, List.set_cons_succ]
      refine wpAnyH_take (i := 13) (oi := ⟨some 0, _, _, _, _, _⟩) (v := ?_) rfl (by kernel_rfl) (by kernel_rfl) (by kernel_rfl) (fun _ _ _ h => h) (Or.inl ⟨by rfl, ?_⟩) hHeld ?_
      rotate_left
      · (intro wx hSw; (try dsimp only at hSw); obtain _ := hSw; go_simp; try with_reducible rfl)
      try simp only [Act.put, List.setIfInBounds_toArray, List.set_cons_zero, List.set_cons_succ]
      refine wpAnyH_done (by kernel_rfl) ?_ _
      refine NoPanic.normal ?_
      have HEND : Kp (L8 = l ++ (cnt t.ins.length ++ flat encIn (t.ins.take (j + 1))) ∧ Own w8 W1.heap.size 5 (.slice A8 L8.length c8) L8 ∧ Below W1.heap.size W1 w8) := ⟨⟨by rw [HNEXT.out, ← hL8, ← HLX7.out, ← HLX6.out, ← HLX5.out], ho8.less hb17.size, hb18⟩⟩
      clear ho5 hg5 hlt5 hbx5 hbd hb5 ho6 hb6 hbx6 hb16 ho7 hb7 hbx7 hb17 ho8 hb8 hbx8 hb18 hL8 howd k0 k1 k2 k3
      go_wp2
      exact ⟨⟨j + 1, L8, A8, c8, by have := HJ.out; omega, by go_num, rfl, HEND⟩, by simp [intOf]; have := HJ.out; omega⟩
    · obtain rfl : j = t.ins.length := by omega
      rw [List.take_length] at hL
      have HC2 := Kp.mk (refcount_any wr wr.heap.size _ L (t.outs.length : Int) hown.any (by rw [hL]; have := HLO.out 0; simp only [List.length_append] at this ⊢; omega))
      have ho50b := HM.out.o50
      rw [clamp_in _ (by omega)] at HC2
      have HL := Kp.mk hL
      have HBL := Kp.mk hbl
      clear hL hown hbl hj hjl
      go_wp2_with fail
      refine HC2.out.mono ?_
      rintro e w3 ⟨v3, rfl, ho3, hb3⟩
      obtain ⟨L3, hL3⟩ : ∃ X, L ++ cnt t.outs.length = X := ⟨_, rfl⟩
      rw [hL3] at ho3
      obtain ⟨A3, c3, rfl⟩ := ho3.slice
      have HL3 := Kp.mk hL3
      have HO3 := Kp.mk (ho3.less HBL.out.size)
      have HB3 := Kp.mk (HBL.out.trans (hb3.mono HBL.out.size))
      clear ho3 hb3 hL3 HC2 k0 k1 k2 k3
      go_wp2
      go_loopw [0, 7] (fun b i wr => ∃ (j : Nat) (L : List Int) (A : Option Addr) (c : Nat), j ≤ t.outs.length ∧ i = .int .i64 j ∧ b = .slice A L.length c ∧ Kp (L = l ++ (cnt t.ins.length ++ (flat encIn t.ins ++ (cnt t.outs.length ++ flat encOut (t.outs.take j)))) ∧ Own wr W1.heap.size 5 (.slice A L.length c) L ∧ Below W1.heap.size W1 wr)) (fun _ i _ => t.outs.length - (intOf i).toNat)
      case atStart => exact ⟨0, L3, A3, c3, Nat.zero_le _, rfl, rfl, ⟨by rw [← HL3.out, HL.out]; simp [flat], HO3.out, HB3.out⟩⟩
      case round =>
        obtain ⟨j, L, A, c, hj, rfl, rfl, ⟨hL, hown, hbl⟩⟩ := hrel
        obtain ⟨k0, k1, k2, k3⟩ := HC.out wr hbl
        by_cases hjl : j < t.outs.length
        · obtain ⟨b1, o1, cs, rfl, hlt1, hk1, hcs1, sv, rfl, hv, hs⟩ := HO.out.at hjl
          have hjl1 : (j : Int) < (t.outs.length : Int) := by omega
          have HJ : Kp (j < t.outs.length) := ⟨hjl⟩
          have HNEXT : Kp (l ++ (cnt t.ins.length ++ (flat encIn t.ins ++ (cnt t.outs.length ++ flat encOut (t.outs.take (j + 1))))) = L ++ leb t.outs[j].value 8 ++ encText t.outs[j].script) := ⟨by rw [flat_next encOut hjl, hL]; unfold encOut; simp⟩
          have HSC : Kp (t.outs[j].script.length ≤ 500) := ⟨HM.out.osc _ (List.getElem_mem hjl)⟩
          have HLL := HLO.out (j + 1)
          rw [HNEXT.out] at HLL
          simp only [List.length_append, leb_len] at HLL
          have HLEN := Kp.mk HLL
          clear HLL
          obtain ⟨D, hD⟩ : ∃ D, t.outs[j] = D := ⟨_, rfl⟩
          rw [hD] at hs hv hcs1 HNEXT HSC HLEN
          have HSV : Kp (∀ K, Below W1.heap.size W1 K → Rb K sv D.script) := ⟨fun K hb => hs.below hb⟩
          obtain ⟨⟨As, csv, rfl, h8, h9, h10⟩, h11, h12⟩ := hs
          have HS11 : Kp (∀ K, Below W1.heap.size W1 K → (fun K => K.cell? ⟨w.heap.size, 2, none⟩ = some (.slice (some ⟨b1, o1, none⟩) t.outs.length co) ∧ K.cell? ⟨b1, o1 + j * 2, none⟩ = some (.int .u64 D.value) ∧ K.cell? ⟨b1, o1 + j * 2 + 1, none⟩ = some (.slice As D.script.length csv)) K) := ⟨fun K hb => ⟨(HC.out K hb).2.2.1, (rangeAt_block hcs1 (hb.block b1 hlt1)) 0 _ rfl, (rangeAt_block hcs1 (hb.block b1 hlt1)) 1 _ rfl⟩⟩
          have HV : Kp (D.value < 18446744073709551616) := ⟨hv⟩
          have HOWN := Kp.mk hown
          have HBL := Kp.mk hbl
          have hno : t.outs.length ≤ 9223372036854775807 := by have := HM.out.o50; omega
          clear hown hbl hcs1 hv h8 h9 h10 h11 h12 hk1 hlt1 hj hjl hD hL
          go_upto_region 11 with fail
          refine wp_region_noPanic ?_
          refine wp_region_held_drew (S := (fun K => K.cell? ⟨w.heap.size, 2, none⟩ = some (.slice (some ⟨b1, o1, none⟩) t.outs.length co) ∧ K.cell? ⟨b1, o1 + j * 2, none⟩ = some (.int .u64 D.value) ∧ K.cell? ⟨b1, o1 + j * 2 + 1, none⟩ = some (.slice As D.script.length csv))) (by kernel_rfl) ?_ (fun hHeld => ?_)
          · exact HS11.out _ HBL.out.drew
          refine wpAnyH_take (i := 0) (oi := ⟨some 50, _, _, _, _, _⟩) (v := ?_) rfl (by kernel_rfl) (by kernel_rfl) (by kernel_rfl) (fun _ _ _ h => h) (Or.inl ⟨by rfl, ?_⟩) hHeld ?_
          rotate_left
          · (intro wx hSw; (try dsimp only at hSw); obtain ⟨s1, s2, s3⟩ := hSw; go_simp; try with_reducible rfl)
          try simp only [Act.put, List.setIfInBounds_toArray, List.set_cons_zero, List.set_cons_succ]
          refine wpAnyH_take (i := 1) (oi := ⟨some 51, _, _, _, _, _⟩) (v := ?_) rfl (by kernel_rfl) (by kernel_rfl) (by kernel_rfl) (fun _ _ _ h => h) (Or.inl ⟨by rfl, ?_⟩) hHeld ?_
          rotate_left
          · (intro wx hSw; (try dsimp only at hSw); obtain ⟨s1, s2, s3⟩ := hSw; go_simp; try with_reducible rfl)
          try simp only [Act.put, List.setIfInBounds_toArray, List.set_cons_zero, List.set_cons_succ]
          refine wpAnyH_take (i := 2) (oi := ⟨some 52, _, _, _, _, _⟩) (v := ?_) rfl (by kernel_rfl) (by kernel_rfl) (by kernel_rfl) (fun _ _ _ h => h) (Or.inl ⟨by rfl, ?_⟩) hHeld ?_
          rotate_left
          · (intro wx hSw; (try dsimp only at hSw); obtain ⟨s1, s2, s3⟩ := hSw; go_simp; try with_reducible rfl)
          try simp only [Act.put, List.setIfInBounds_toArray, List.set_cons_zero, List.set_cons_succ]
          refine wpAnyH_take (i := 3) (oi := ⟨some 53, _, _, _, _, _⟩) (v := ?_) rfl (by kernel_rfl) (by kernel_rfl) (by kernel_rfl) (fun _ _ _ h => h) (Or.inl ⟨by rfl, ?_⟩) hHeld ?_
          rotate_left
          · (intro wx hSw; (try dsimp only at hSw); obtain ⟨s1, s2, s3⟩ := hSw; go_simp; try with_reducible rfl)
          try simp only [Act.put, List.setIfInBounds_toArray, List.set_cons_zero, List.set_cons_succ]
          refine wpAnyH_take (i := 4) (oi := ⟨some 54, _, _, _, _, _⟩) (v := ?_) rfl (by kernel_rfl) (by kernel_rfl) (by kernel_rfl) (fun _ _ _ h => h) (Or.inl ⟨by rfl, ?_⟩) hHeld ?_
          rotate_left
          · (intro wx hSw; (try dsimp only at hSw); obtain ⟨s1, s2, s3⟩ := hSw; go_simp; try with_reducible rfl)
          try simp only [Act.put, List.setIfInBounds_toArray, List.set_cons_zero, List.set_cons_succ]
          refine wpAnyH_take (i := 5) (oi := ⟨some 55, _, _, _, _, _⟩) (v := ?_) rfl (by kernel_rfl) (by kernel_rfl) (by kernel_rfl) (fun _ _ _ h => h) (Or.inl ⟨by rfl, ?_⟩) hHeld ?_
          rotate_left
          · (intro wx hSw; (try dsimp only at hSw); obtain ⟨s1, s2, s3⟩ := hSw; go_simp; try with_reducible rfl)
          try simp only [Act.put, List.setIfInBounds_toArray, List.set_cons_zero, List.set_cons_succ]
          refine wpAnyH_take (i := 6) (oi := ⟨some 56, _, _, _, _, _⟩) (v := ?_) rfl (by kernel_rfl) (by kernel_rfl) (by kernel_rfl) (fun _ _ _ h => h) (Or.inl ⟨by rfl, ?_⟩) hHeld ?_
          rotate_left
          · (intro wx hSw; (try dsimp only at hSw); obtain ⟨s1, s2, s3⟩ := hSw; go_simp; try with_reducible rfl)
          try simp only [Act.put, List.setIfInBounds_toArray, List.set_cons_zero, List.set_cons_succ]
          refine wpAnyH_take (i := 8) (oi := ⟨some 58, _, _, _, _, _⟩) (v := ?_) rfl (by kernel_rfl) (by kernel_rfl) (by kernel_rfl) (fun _ _ _ h => h) (Or.inl ⟨by rfl, ?_⟩) hHeld ?_
          rotate_left
          · (intro wx hSw; (try dsimp only at hSw); obtain ⟨s1, s2, s3⟩ := hSw; go_simp; try with_reducible rfl)
          try simp only [Act.put, List.setIfInBounds_toArray, List.set_cons_zero, List.set_cons_succ]
          refine wpAnyH_take (i := 9) (oi := ⟨some 59, _, _, _, _, _⟩) (v := ?_) rfl (by kernel_rfl) (by kernel_rfl) (by kernel_rfl) (fun _ _ _ h => h) (Or.inl ⟨by rfl, ?_⟩) hHeld ?_
          rotate_left
          · (intro wx hSw; (try dsimp only at hSw); obtain ⟨s1, s2, s3⟩ := hSw; go_simp; try with_reducible rfl)
          try simp only [Act.put, List.setIfInBounds_toArray, List.set_cons_zero, List.set_cons_succ]
          refine wpAnyH_take (i := 10) (oi := ⟨some 60, _, _, _, _, _⟩) (v := ?_) rfl (by kernel_rfl) (by kernel_rfl) (by kernel_rfl) (fun _ _ _ h => h) (Or.inl ⟨by rfl, ?_⟩) hHeld ?_
          rotate_left
          · (intro wx hSw; (try dsimp only at hSw); obtain ⟨s1, s2, s3⟩ := hSw; go_simp; try with_reducible rfl)
          try simp only [Act.put, List.setIfInBounds_toArray, List.set_cons_zero, List.set_cons_succ]
          refine wpAnyH_take (i := 11) (oi := ⟨some 61, _, _, _, _, _⟩) (v := ?_) rfl (by kernel_rfl) (by kernel_rfl) (by kernel_rfl) (fun _ _ _ h => h) (Or.inl ⟨by rfl, ?_⟩) hHeld ?_
          rotate_left
          · (intro wx hSw; (try dsimp only at hSw); obtain ⟨s1, s2, s3⟩ := hSw; go_simp; try with_reducible rfl)
          try simp only [Act.put, List.setIfInBounds_toArray, List.set_cons_zero, List.set_cons_succ]
          refine wpAnyH_take (i := 12) (oi := ⟨some 62, _, _, _, _, _⟩) (v := ?_) rfl (by kernel_rfl) (by kernel_rfl) (by kernel_rfl) (fun _ _ _ h => h) (Or.inl ⟨by rfl, ?_⟩) hHeld ?_
          rotate_left
          · (intro wx hSw; (try dsimp only at hSw); obtain ⟨s1, s2, s3⟩ := hSw; go_simp; try with_reducible rfl)
          try simp only [Act.put, List.setIfInBounds_toArray, List.set_cons_zero, List.set_cons_succ]
          refine wpAnyH_take (i := 13) (oi := ⟨some 63, _, _, _, _, _⟩) (v := ?_) rfl (by kernel_rfl) (by kernel_rfl) (by kernel_rfl) (fun _ _ _ h => h) (Or.inl ⟨by rfl, ?_⟩) hHeld ?_
          rotate_left
          · (intro wx hSw; (try dsimp only at hSw); obtain ⟨s1, s2, s3⟩ := hSw; go_simp; try with_reducible rfl)
          try simp only [Act.put, List.setIfInBounds_toArray, List.set_cons_zero, List.set_cons_succ]
          refine wpAnyH_ready (rs := [7]) (by kernel_rfl) (by simp) (AllReadyH.cons (o := ⟨some 57, _, _, _, _, _⟩) rfl (fun K hK => ?_) AllReadyH.nil)
          go_simp
          refine (refbig_any wr.drew wr.heap.size _ L D.value ((HOWN.out.below (Below.refl _ _).drew).any) (by have := HLEN.out; omega) HV.out).mono ?_
          rintro e w5 ⟨v5, rfl, ho5, hb5⟩
          obtain ⟨L5, hL5⟩ : ∃ X, L ++ leb D.value 8 = X := ⟨_, rfl⟩
          rw [hL5] at ho5
          obtain ⟨A5, c5, rfl⟩ := ho5.slice
          have hb15 := HBL.out.drew.trans (hb5.mono HBL.out.size)
          have HLE5 := Kp.mk (show L5.length = L.length + 8 by rw [← hL5, List.length_append, leb_len])
          have HLX5 := Kp.mk hL5
          clear hL5
          refine hK.out _ _ (HS11.out _ hb15) (fun hHeld => ?_)
          clear hK K
          try simp only [Act.put, List.setIfInBounds_toArray, List.set_cons_zero, List.set_cons_succ]
          refine wpAnyH_ready (rs := [14]) (by kernel_rfl) (by simp) (AllReadyH.cons (o := ⟨some 64, _, _, _, _, _⟩) rfl (fun K hK => ?_) AllReadyH.nil)
          go_simp
          refine (refbytes_any w5 w5.heap.size _ _ L5 D.script ho5.any (HSV.out w5 hb15) (by have := HLEN.out; have := HSC.out; have := HLE5.out; omega) (by have := HSC.out; omega)).mono ?_
          rintro e w6 ⟨v6, rfl, ho6, hb6⟩
          obtain ⟨L6, hL6⟩ : ∃ X, L5 ++ encText D.script = X := ⟨_, rfl⟩
          rw [hL6] at ho6
          obtain ⟨A6, c6, rfl⟩ := ho6.slice
          have hb16 := hb15.trans (hb6.mono hb15.size)
          have HLX6 := Kp.mk hL6
          clear hL6
          refine hK.out _ _ (HS11.out _ hb16) (fun hHeld => ?_)
          clear hK K
          try simp only [Act.put, List.setIfInBounds_toArray, List.set_cons_zero, List.set_cons_succ]
          refine wpAnyH_take (i := 15) (oi := ⟨some 0, _, _, _, _, _⟩) (v := ?_) rfl (by kernel_rfl) (by kernel_rfl) (by kernel_rfl) (fun _ _ _ h => h) (Or.inl ⟨by rfl, ?_⟩) hHeld ?_
          rotate_left
          · (intro wx hSw; (try dsimp only at hSw); obtain _ := hSw; go_simp; try with_reducible rfl)
          try simp only [Act.put, List.setIfInBounds_toArray, List.set_cons_zero, List.set_cons_succ]
          refine wpAnyH_done (by kernel_rfl) ?_ _
          refine NoPanic.normal ?_
          have HEND : Kp (L6 = l ++ (cnt t.ins.length ++ (flat encIn t.ins ++ (cnt t.outs.length ++ flat encOut (t.outs.take (j + 1))))) ∧ Own w6 W1.heap.size 5 (.slice A6 L6.length c6) L6 ∧ Below W1.heap.size W1 w6) := ⟨⟨by rw [HNEXT.out, ← HLX6.out, ← HLX5.out], ho6.less hb15.size, hb16⟩⟩
          clear ho5 hb5 ho6 hb6 hb15 hb16
          obtain ⟨k0, k1, k2, k3⟩ := HC.out w6 HEND.out.2.2
          go_wp2
          exact ⟨⟨j + 1, L6, A6, c6, by have := HJ.out; omega, by go_num, rfl, HEND⟩, by simp [intOf]; have := HJ.out; omega⟩
        · obtain rfl : j = t.outs.length := by omega
          rw [List.take_length] at hL
          have HE : Kp (L = l ++ bodyOf t) := ⟨hL⟩
          have HOWN := Kp.mk hown
          have HBL := Kp.mk hbl
          clear hL hown hbl hj hjl
          go_wp2
          go_ret
          have hz := HW1.out
          exact ⟨_, rfl, by rw [← HE.out]; exact HOWN.out.less (by omega), HB0.out.trans (HBL.out.mono (by omega))⟩


theorem bodyOf_len {t : TxD} (h : MayF t) (hp : ∀ d ∈ t.ins, d.prev.length = 32) : (bodyOf t).length ≤ 100000 := by
  have h1 := flat_len encIn 545 t.ins fun d hd => encIn_len d (hp d hd) (h.isc d hd)
  have h2 := flat_len encOut 513 t.outs fun d hd => encOut_len d (h.osc d hd)
  have h3 := cnt_max t.ins.length
  have h4 := cnt_max t.outs.length
  have h5 := h.i50
  have h6 := h.o50
  unfold bodyOf
  simp only [List.length_append]
  omega
theorem encBody (t : TxD) : encTx t false = leb t.version 4 ++ (bodyOf t ++ leb t.lock 4) := by
  unfold encTx bodyOf
  simp
theorem encBodyW (t : TxD) : encTx t true = leb t.version 4 ++ ([0, 1] ++ (bodyOf t ++ (flat encWits t.ins ++ leb t.lock 4))) := by
  unfold encTx bodyOf
  simp
set_option linter.unusedSimpArgs false in
set_option maxRecDepth 10000000 in
set_option maxHeartbeats 8000000 in
theorem refBase_any (w : World) (tv : Value) (t : TxD) (ht : TxR w tv t) : Calls Try.prog 34 #[tv] w (NewBytes (baseOf t) w) := by
  obtain ⟨i0, hi, hz0, hz1, hz2⟩ := info_parts infoByte
  have HT0 := Kp.mk ht
  obtain ⟨iv, ov, rfl, hvl, hkl, hins, hout⟩ := ht
  obtain ⟨Ai, ci, rfl, hic, him⟩ := hins.slice
  obtain ⟨Ao, co, rfl, hoc, hom⟩ := hout.slice
  unfold maxLen at him hom
  have hb0 : Below w.heap.size w (w.alloc (.cells #[.int .u32 t.version, .slice Ai t.ins.length ci, .slice Ao t.outs.length co, .int .u32 t.lock] 30)) := (Below.refl _ _).alloc (Nat.le_refl _) _
  have HB0 := Kp.mk hb0
  have HT : Kp (∀ K, Below (w.alloc (.cells #[.int .u32 t.version, .slice Ai t.ins.length ci, .slice Ao t.outs.length co, .int .u32 t.lock] 30)).heap.size (w.alloc (.cells #[.int .u32 t.version, .slice Ai t.ins.length ci, .slice Ao t.outs.length co, .int .u32 t.lock] 30)) K → TxR K (.agg #[.int .u32 t.version, .slice Ai t.ins.length ci, .slice Ao t.outs.length co, .int .u32 t.lock]) t) := ⟨fun K hb => (HT0.out.below hb0).below hb⟩
  have HX : Kp (Box (w.alloc (.cells #[.int .u32 t.version, .slice Ai t.ins.length ci, .slice Ao t.outs.length co, .int .u32 t.lock] 30)) w.heap.size 30 #[.int .u32 t.version, .slice Ai t.ins.length ci, .slice Ao t.outs.length co, .int .u32 t.lock]) := ⟨Box.fresh _ _ _⟩
  have HC : Kp (∀ K, Below (w.alloc (.cells #[.int .u32 t.version, .slice Ai t.ins.length ci, .slice Ao t.outs.length co, .int .u32 t.lock] 30)).heap.size (w.alloc (.cells #[.int .u32 t.version, .slice Ai t.ins.length ci, .slice Ao t.outs.length co, .int .u32 t.lock] 30)) K → (fun K => K.cell? ⟨w.heap.size, 0, none⟩ = some (.int .u32 t.version) ∧ K.cell? ⟨w.heap.size, 1, none⟩ = some (.slice Ai t.ins.length ci) ∧ K.cell? ⟨w.heap.size, 2, none⟩ = some (.slice Ao t.outs.length co) ∧ K.cell? ⟨w.heap.size, 3, none⟩ = some (.int .u32 t.lock)) K) := ⟨fun K hb => ⟨(HX.out.below hb).cell 0, (HX.out.below hb).cell 1, (HX.out.below hb).cell 2, (HX.out.below hb).cell 3⟩⟩
  have HMY := Kp.mk (refmay_any (w.alloc (.cells #[.int .u32 t.version, .slice Ai t.ins.length ci, .slice Ao t.outs.length co, .int .u32 t.lock] 30)) _ t (HT.out _ (Below.refl _ _)))
  have HW1 : Kp ((w.alloc (.cells #[.int .u32 t.version, .slice Ai t.ins.length ci, .slice Ao t.outs.length co, .int .u32 t.lock] 30)).heap.size = w.heap.size + 1) := ⟨alloc_size _ _⟩
  have HV : Kp (t.version < 4294967296 ∧ t.lock < 4294967296) := ⟨hvl, hkl⟩
  obtain ⟨k0, k1, k2, k3⟩ := HC.out _ (Below.refl _ _)
  clear hins hout hb0 HT0 hvl hkl
  go_enter Try.func34, Try.ntmps34
  go_wp2_with fail
  refine HMY.out.mono ?_
  rintro e w2 ⟨rfl, hb2⟩
  obtain ⟨W1, hW1⟩ : ∃ W1, (w.alloc (.cells #[.int .u32 t.version, .slice Ai t.ins.length ci, .slice Ao t.outs.length co, .int .u32 t.lock] 30)) = W1 := ⟨_, rfl⟩
  rw [hW1] at HB0 HT HX HC HW1 hb2
  have HB2 := Kp.mk hb2
  clear hW1 hb2 HMY k0 k1 k2 k3
  obtain ⟨k0, k1, k2, k3⟩ := HC.out w2 HB2.out
  cases hm : mayB t with
  | false =>
    have HE : Kp (baseOf t = []) := ⟨by unfold baseOf; rw [hm]; rfl⟩

    clear hm
    go_wp2
    go_ret
    have hz := HW1.out
    exact ⟨_, rfl, by rw [HE.out]; exact own_nil _ _ _, HB0.out.trans (HB2.out.mono (by omega))⟩
  | true =>
    have HMAY := Kp.mk ((mayB_iff t).1 hm)
    have HPL : Kp (∀ d ∈ t.ins, d.prev.length = 32) := ⟨fun d hd => ((HT.out W1 (Below.refl _ _)).fit.ins d hd).plen⟩

    clear hm
    go_upto_region 3 with fail
    refine wp_region_noPanic ?_
    refine wp_region_held_drew (S := (fun K => K.cell? ⟨w.heap.size, 0, none⟩ = some (.int .u32 t.version) ∧ K.cell? ⟨w.heap.size, 1, none⟩ = some (.slice Ai t.ins.length ci) ∧ K.cell? ⟨w.heap.size, 2, none⟩ = some (.slice Ao t.outs.length co) ∧ K.cell? ⟨w.heap.size, 3, none⟩ = some (.int .u32 t.lock))) (by kernel_rfl) ?_ (fun hHeld => ?_)
    · exact HC.out _ HB2.out.drew
    refine wpAnyH_take (i := 0) (oi := ⟨some 6, _, _, _, _, _⟩) (v := ?_) rfl (by kernel_rfl) (by kernel_rfl) (by kernel_rfl) (fun _ _ _ h => h) (Or.inl ⟨by rfl, ?_⟩) hHeld ?_
    rotate_left
    · (intro wx hSw; (try dsimp only at hSw); obtain ⟨s1, s2, s3, s4⟩ := hSw; go_simp; try with_reducible rfl)
    try simp only [Act.put, List.setIfInBounds_toArray, List.set_cons_zero, List.set_cons_succ]
    refine wpAnyH_take (i := 1) (oi := ⟨some 7, _, _, _, _, _⟩) (v := ?_) rfl (by kernel_rfl) (by kernel_rfl) (by kernel_rfl) (fun _ _ _ h => h) (Or.inl ⟨by rfl, ?_⟩) hHeld ?_
    rotate_left
    · (intro wx hSw; (try dsimp only at hSw); obtain ⟨s1, s2, s3, s4⟩ := hSw; go_simp; try with_reducible rfl)
    try simp only [Act.put, List.setIfInBounds_toArray, List.set_cons_zero, List.set_cons_succ]
    refine wpAnyH_take (i := 3) (oi := ⟨some 9, _, _, _, _, _⟩) (v := ?_) rfl (by kernel_rfl) (by kernel_rfl) (by kernel_rfl) (fun _ _ _ h => h) (Or.inl ⟨by rfl, ?_⟩) hHeld ?_
    rotate_left
    · (intro wx hSw; (try dsimp only at hSw); obtain ⟨s1, s2, s3, s4⟩ := hSw; go_simp; try with_reducible rfl)
    try simp only [Act.put, List.setIfInBounds_toArray, List.set_cons_zero, List.set_cons_succ]
    refine wpAnyH_take (i := 5) (oi := ⟨some 11, _, _, _, _, _⟩) (v := ?_) rfl (by kernel_rfl) (by kernel_rfl) (by kernel_rfl) (fun _ _ _ h => h) (Or.inl ⟨by rfl, ?_⟩) hHeld ?_
    rotate_left
    · (intro wx hSw; (try dsimp only at hSw); obtain ⟨s1, s2, s3, s4⟩ := hSw; go_simp; try with_reducible rfl)
    try simp only [Act.put, List.setIfInBounds_toArray, List.set_cons_zero, List.set_cons_succ]
    refine wpAnyH_take (i := 6) (oi := ⟨some 12, _, _, _, _, _⟩) (v := ?_) rfl (by kernel_rfl) (by kernel_rfl) (by kernel_rfl) (fun _ _ _ h => h) (Or.inl ⟨by rfl, ?_⟩) hHeld ?_
    rotate_left
    · (intro wx hSw; (try dsimp only at hSw); obtain ⟨s1, s2, s3, s4⟩ := hSw; go_simp; try with_reducible rfl)
    try simp only [Act.put, List.setIfInBounds_toArray, List.set_cons_zero, List.set_cons_succ]
    refine wpAnyH_ready (rs := [2]) (by kernel_rfl) (by simp) (AllReadyH.cons (o := ⟨some 8, _, _, _, _, _⟩) rfl (fun K hK => ?_) AllReadyH.nil)
    go_simp
    refine (refsmall_any w2.drew w2.heap.size _ [] t.version (Sl.nil _ _) (by simp) HV.out.1).mono ?_
    rintro e w3 ⟨v3, rfl, ho3, hb3⟩
    obtain ⟨L3, hL3⟩ : ∃ X, [] ++ leb t.version 4 = X := ⟨_, rfl⟩
    rw [hL3] at ho3
    obtain ⟨A3, c3, rfl⟩ := ho3.slice
    have hb13 := HB2.out.drew.trans (hb3.mono HB2.out.size)
    have HLE3 := Kp.mk (show L3.length = 4 by rw [← hL3, List.nil_append, leb_len])
    have HLX3 := Kp.mk hL3
    clear hL3
    refine hK.out _ _ (HC.out _ hb13) (fun hHeld => ?_)
    clear hK K
    try simp only [Act.put, List.setIfInBounds_toArray, List.set_cons_zero, List.set_cons_succ]
    refine wpAnyH_ready (rs := [4]) (by kernel_rfl) (by simp) (AllReadyH.cons (o := ⟨some 10, _, _, _, _, _⟩) rfl (fun K hK => ?_) AllReadyH.nil)
    go_simp
    refine (refbody_any w3 w3.heap.size _ _ L3 t ho3.any (HT.out w3 hb13) HMAY.out (by have := HLE3.out; omega)).mono ?_
    rintro e w4 ⟨v4, rfl, ho4, hb4⟩
    obtain ⟨L4, hL4⟩ : ∃ X, L3 ++ bodyOf t = X := ⟨_, rfl⟩
    rw [hL4] at ho4
    obtain ⟨A4, c4, rfl⟩ := ho4.slice
    have hb14 := hb13.trans (hb4.mono hb13.size)
    have HLX4 := Kp.mk hL4
    have HLE4 := Kp.mk (show L4.length ≤ 200000 by have := HLE3.out; have := bodyOf_len HMAY.out HPL.out; rw [← hL4, List.length_append]; omega)
    clear hL4
    refine hK.out _ _ (HC.out _ hb14) (fun hHeld => ?_)
    clear hK K
    try simp only [Act.put, List.setIfInBounds_toArray, List.set_cons_zero, List.set_cons_succ]
    refine wpAnyH_ready (rs := [7]) (by kernel_rfl) (by simp) (AllReadyH.cons (o := ⟨some 13, _, _, _, _, _⟩) rfl (fun K hK => ?_) AllReadyH.nil)
    go_simp
    refine (refsmall_any w4 w4.heap.size _ L4 t.lock ho4.any (by have := HLE4.out; omega) HV.out.2).mono ?_
    rintro e w5 ⟨v5, rfl, ho5, hb5⟩
    obtain ⟨L5, hL5⟩ : ∃ X, L4 ++ leb t.lock 4 = X := ⟨_, rfl⟩
    rw [hL5] at ho5
    obtain ⟨A5, c5, rfl⟩ := ho5.slice
    have hb15 := hb14.trans (hb5.mono hb14.size)
    refine hK.out _ _ (HC.out _ hb15) (fun hHeld => ?_)
    clear hK K
    try simp only [Act.put, List.setIfInBounds_toArray, List.set_cons_zero, List.set_cons_succ]
    refine wpAnyH_take (i := 8) (oi := ⟨some 2, _, _, _, _, _⟩) (v := ?_) rfl (by kernel_rfl) (by kernel_rfl) (by kernel_rfl) (fun _ _ _ h => h) (Or.inl ⟨by rfl, ?_⟩) hHeld ?_
    rotate_left
    · (intro wx hSw; (try dsimp only at hSw); obtain _ := hSw; go_simp; try with_reducible rfl)
    try simp only [Act.put, List.setIfInBounds_toArray, List.set_cons_zero, List.set_cons_succ]
    refine wpAnyH_done (by kernel_rfl) ?_ _
    refine NoPanic.normal ?_
    have HE : Kp (L5 = baseOf t) := ⟨by rw [baseOf_enc HMAY.out, encBody, ← hL5, ← HLX4.out, ← HLX3.out]; simp⟩
    have HO5 := Kp.mk (ho5.less (show w.heap.size ≤ w4.heap.size by have := hb14.size; have := HW1.out; omega))
    have HB5 := Kp.mk hb15
    clear ho5 hL5 hb5 ho4 hb4 ho3 hb3 hb13 hb14 hb15
    go_wp2_with fail
    go_ret
    have hz := HW1.out
    exact ⟨_, rfl, by rw [← HE.out]; exact HO5.out, HB0.out.trans (HB5.out.mono (by omega))⟩
end

section
open Go.RowKit

def weightOf (t : TxD) : Nat := 3 * (baseOf t).length + (bytesOf t).length
def sizeOf (t : TxD) : Nat := (weightOf t + 3) / 4
def NumP (n : Nat) (w : World) (e : Ending) (w' : World) : Prop := e = .returned (.int .i64 (n : Int)) ∧ Below w.heap.size w w'
theorem base_len {t : TxD} (hf : TxFit t) : (baseOf t).length ≤ 400000 := by
  unfold baseOf
  split
  · rename_i h
    exact encTx_len ((mayB_iff t).1 h) (fun d hd => (hf.ins d hd).plen) false
  · simp
end

end Go.Proofs.Ytdemamipllfonaa
