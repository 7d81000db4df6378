/- math/bits: Mul64, LeadingZeros64, Div64. -/
import Derived.Test.YtompcibcgfjpfaaRtB
import Derived.Lib.Mul64
import Derived.RegionTactic
namespace Go.Proofs.Ytompcibcgfjpfaa
open Go.RowKit

/-- How many zeros stand ahead of a number: shifted by so many its first bit is set. -/
def lead (y : Nat) : Nat := 64 - Lib.bitLen y
theorem lead_fits (y : Nat) (h0 : 0 < y) (h : y < 18446744073709551616) : lead y ≤ 63 ∧ 9223372036854775808 ≤ y * 2 ^ lead y ∧ y * 2 ^ lead y < 18446744073709551616 := by
  obtain ⟨a, b, c⟩ := Lib.bitLenAux_bounds 64 y (by omega) (by omega)
  have d := Lib.bitLen_le y 64 (Nat.le_refl _) (by omega)
  unfold lead
  rw [show Lib.bitLenAux 64 y = Lib.bitLen y from rfl] at a b c
  generalize Lib.bitLen y = L at *
  refine ⟨by omega, ?_, ?_⟩
  · have := Nat.mul_le_mul_right (2 ^ (64 - L)) b
    rw [← Nat.pow_add, show L - 1 + (64 - L) = 63 by omega] at this
    exact this
  · have := Nat.mul_lt_mul_of_lt_of_le c (Nat.le_refl (2 ^ (64 - L))) (Nat.pow_pos (by omega))
    rw [← Nat.pow_add, show L + (64 - L) = 64 by omega] at this
    exact this
theorem lz_any (y : Nat) (h0 : 0 < y) (h : y < 18446744073709551616) (w : World) : Calls Try.prog 25 #[.int .u64 (y : Int)] w fun e w' => e = .returned (.int .i64 (lead y : Int)) ∧ w' = w := by
  have H := len64_any (y : Int) (by omega) (by omega) w
  have hl := (lead_fits y h0 h).1
  have d := Lib.bitLen_le y 64 (Nat.le_refl _) (by omega)
  have e : wrap64 (64 - (Lib.bitLen y : Int)) = (lead y : Int) := by unfold wrap64 lead; unfold lead at hl; omega
  have HE := Lib.hid e
  rw [Int.toNat_natCast] at H
  clear hl e d h h0
  generalize Lib.bitLen y = L at *
  go_enter Try.func25, Try.ntmps25
  go_wp2_with fail
  refine H.mono ?_
  rintro e w' ⟨rfl, rfl⟩
  go_wp2
  go_ret
  exact ⟨congrArg Ending.returned (congrArg (Value.int IntKind.i64) HE.out), rfl⟩

theorem mask_u64 (a : Nat) (ha : a < 18446744073709551616) : bits .and .u64 (a : Int) 4294967295 = ((a % 4294967296 : Nat) : Int) := by
  have h := bits_and_u64_nat a 4294967295 ha (by omega)
  rw [show a &&& 4294967295 = a % 4294967296 from Nat.and_two_pow_sub_one_eq_mod a 32] at h
  exact h
theorem div_u64 (a : Nat) : (a : Int) / 4294967296 = ((a / 4294967296 : Nat) : Int) := by omega
theorem fit_u64 (a : Nat) (ha : a < 18446744073709551616) : IntKind.u64.wrap (a : Int) = (a : Int) := by rw [IntKind.wrap_u64]; omega
theorem mulfit_u64 (a b : Nat) (ha : a * b < 18446744073709551616) : IntKind.u64.wrap ((a : Int) * (b : Int)) = ((a * b : Nat) : Int) := by
  rw [← Int.natCast_mul]; exact fit_u64 _ ha
theorem addfit_u64 (a b : Nat) (ha : a + b < 18446744073709551616) : IntKind.u64.wrap ((a : Int) + (b : Int)) = ((a + b : Nat) : Int) := by
  rw [← Int.natCast_add]; exact fit_u64 _ ha

set_option maxHeartbeats 1000000 in
theorem mul64_any (x y : Nat) (hx : x < 18446744073709551616) (hy : y < 18446744073709551616) (w : World) :
    Calls Try.prog 16 #[.int .u64 (x : Int), .int .u64 (y : Int)] w fun e w' => e = .returned (.tuple #[.int .u64 ((x * y / 18446744073709551616 : Nat) : Int), .int .u64 ((x * y % 18446744073709551616 : Nat) : Int)]) ∧ w' = w := by
  obtain ⟨b1, b2, b3, e1⟩ := Lib.mul64_hi x y hx hy
  have hb := Lib.half_mul_le (a := x / 4294967296) (b := y % 4294967296) (by omega) (by omega)
  have hc := Lib.half_mul_le (a := x % 4294967296) (b := y / 4294967296) (by omega) (by omega)
  have ha := Lib.half_mul_le (a := x / 4294967296) (b := y / 4294967296) (by omega) (by omega)
  have ex0 := mask_u64 x hx
  have ey0 := mask_u64 y hy
  have ex1 := div_u64 x
  have ey1 := div_u64 y
  have elo : IntKind.u64.wrap ((x : Int) * (y : Int)) = ((x * y % 18446744073709551616 : Nat) : Int) := by rw [← Int.natCast_mul, IntKind.wrap_u64]; omega
  have hx1 : x / 4294967296 < 4294967296 := by omega
  have hy1 : y / 4294967296 < 4294967296 := by omega
  have hx0 : x % 4294967296 < 4294967296 := by omega
  have hy0 : y % 4294967296 < 4294967296 := by omega
  clear hx hy
  generalize x * y / 18446744073709551616 = HI at *
  generalize x * y % 18446744073709551616 = LO at *
  generalize x / 4294967296 = x1 at *
  generalize y / 4294967296 = y1 at *
  generalize x % 4294967296 = x0 at *
  generalize y % 4294967296 = y0 at *
  have f1 := mulfit_u64 x0 y0 b1
  have f2 := mulfit_u64 x1 y0 (by omega)
  have f3 := mulfit_u64 x0 y1 (by omega)
  have f4 := mulfit_u64 x1 y1 (by omega)
  generalize x0 * y0 = p at *
  generalize x1 * y0 = q at *
  generalize x0 * y1 = r at *
  generalize x1 * y1 = s at *
  have f5 := div_u64 p
  generalize p / 4294967296 = c at *
  have f6 := addfit_u64 q c b2
  generalize q + c = t at *
  have f7 := mask_u64 t b2
  have f8 := div_u64 t
  generalize t % 4294967296 = w1 at *
  have f9 := addfit_u64 w1 r b3
  generalize w1 + r = s1 at *
  have f10 := div_u64 s1
  have hs2 : s1 / 4294967296 < 4294967296 := by omega
  have ht2 : t / 4294967296 < 4294967296 := by omega
  generalize s1 / 4294967296 = s2 at *
  generalize t / 4294967296 = t2 at *
  have f11 := addfit_u64 s t2 (by omega)
  have f12 := addfit_u64 (s + t2) s2 (by omega)
  rw [e1] at f12
  generalize s + t2 = h2 at *
  clear b1 b2 b3 e1 hb hc ha hx1 hy1 hx0 hy0 hs2 ht2
  go_enter Try.func16, Try.ntmps16
  go_wp2
  go_ret2
  exact ⟨rfl, rfl⟩

theorem div64_less (lo y : Nat) (h : 0 < y) (hy : y < 18446744073709551616) (hlo : lo < 18446744073709551616) (w : World) :
    Calls Try.prog 24 #[.int .u64 0, .int .u64 (lo : Int), .int .u64 (y : Int)] w fun e w' => e = .returned (.tuple #[.int .u64 ((lo / y : Nat) : Int), .int .u64 ((lo % y : Nat) : Int)]) ∧ Below w.heap.size w w' := by
  have h1 : ((y : Int) = 0) = False := by simp; omega
  have h2 : (y = 0) = False := by simp; omega
  have h1b : ((y : Int) == 0) = false := by simp; omega
  have e1 : IntKind.u64.wrap ((lo : Int) / (y : Int)) = ((lo / y : Nat) : Int) := by
    rw [← Int.natCast_ediv]
    exact fit_u64 _ (Nat.lt_of_le_of_lt (Nat.div_le_self _ _) hlo)
  have e2 : (lo : Int) % (y : Int) = ((lo % y : Nat) : Int) := by rw [← Int.natCast_emod]
  clear h hy hlo
  go_enter Try.func24, Try.ntmps24
  go_wp2_with fail
  go_region
  go_wp2
  go_ret2
  exact ⟨rfl, (Below.refl _ _).drew⟩
theorem or_low (a b s : Nat) (hb : b < 2 ^ s) (h : a * 2 ^ s < 18446744073709551616) (h2 : b < 18446744073709551616) : bits .or .u64 ((a * 2 ^ s : Nat) : Int) (b : Int) = ((a * 2 ^ s + b : Nat) : Int) := by
  rw [bits_or_u64_nat _ _ h h2, ← Nat.shiftLeft_eq, Nat.shiftLeft_add_eq_or_of_lt hb]
/-- What Div64 shifts, and what it is of the numbers. -/
theorem div_prep (hi lo y : Nat) (h : hi < y) (hy : y < 18446744073709551616) (hlo : lo < 18446744073709551616) :
    ∃ s k Y A B U L : Nat, lead y = s ∧ s ≤ 63 ∧ k = 64 - s ∧ y * 2 ^ s = Y ∧ 9223372036854775808 ≤ Y ∧ Y < 18446744073709551616 ∧ hi * 2 ^ s = A ∧ A < 18446744073709551616 ∧ lo / 2 ^ k = B ∧ bits .or .u64 (A : Int) (B : Int) = (U : Int) ∧ U < Y ∧
      lo * 2 ^ s % 18446744073709551616 = L ∧ L < 18446744073709551616 ∧ (hi * 18446744073709551616 + lo) * 2 ^ s = U * 18446744073709551616 + L := by
  obtain ⟨a1, a2, a3⟩ := lead_fits y (by omega) hy
  obtain ⟨s, hs⟩ : ∃ s, lead y = s := ⟨_, rfl⟩
  rw [hs] at a1 a2 a3
  have hp : 0 < 2 ^ s := Nat.pow_pos (by omega)
  have hA : hi * 2 ^ s < y * 2 ^ s := Nat.mul_lt_mul_of_pos_right h hp
  have hpk : 2 ^ (64 - s) * 2 ^ s = 18446744073709551616 := by rw [← Nat.pow_add, show 64 - s + s = 64 by omega]
  have hB1 : lo / 2 ^ (64 - s) < 2 ^ s := by
    rw [Nat.div_lt_iff_lt_mul (Nat.pow_pos (by omega)), Nat.mul_comm, hpk]
    exact hlo
  have hB2 : lo * 2 ^ s / 18446744073709551616 = lo / 2 ^ (64 - s) := by
    rw [← hpk, Nat.mul_div_mul_right _ _ hp]
  have hBl : lo / 2 ^ (64 - s) < 18446744073709551616 := Nat.lt_of_le_of_lt (Nat.div_le_self _ _) hlo
  have hor := or_low hi (lo / 2 ^ (64 - s)) s hB1 (by omega) hBl
  have hN : (hi * 18446744073709551616 + lo) * 2 ^ s = (hi * 2 ^ s + lo / 2 ^ (64 - s)) * 18446744073709551616 + lo * 2 ^ s % 18446744073709551616 := by
    rw [← hB2, Nat.add_mul, Nat.add_mul, Nat.mul_right_comm, Nat.add_assoc, Nat.div_add_mod']
  have hU : hi * 2 ^ s + lo / 2 ^ (64 - s) < y * 2 ^ s := by
    have h5 : (hi + 1) * 2 ^ s ≤ y * 2 ^ s := Nat.mul_le_mul_right _ h
    rw [Nat.add_mul, Nat.one_mul] at h5
    omega
  exact ⟨s, 64 - s, y * 2 ^ s, hi * 2 ^ s, lo / 2 ^ (64 - s), hi * 2 ^ s + lo / 2 ^ (64 - s), lo * 2 ^ s % 18446744073709551616, hs, a1, rfl, rfl, a2, a3, rfl, by omega, rfl, hor, hU, rfl, by omega, hN⟩
theorem dig_guess (U u1 y1 y0 Y : Nat) (b1 : 2147483648 ≤ y1) (b2 : y1 < 4294967296) (bu : u1 < 4294967296) (hY : y1 * 4294967296 + y0 = Y) (hU : U < Y) (hY2 : Y < 18446744073709551616) :
    ∃ g gm r0 d : Nat, IntKind.u64.wrap ((U : Int) / (y1 : Int)) = (g : Int) ∧ IntKind.u64.wrap ((g : Int) * (y1 : Int)) = (gm : Int) ∧ IntKind.u64.wrap ((U : Int) - (gm : Int)) = (r0 : Int) ∧ (U * 4294967296 + u1) / Y = d ∧
      Hid (g * y1 + r0 = U ∧ d ≤ g ∧ r0 < 4294967296 ∧ g < 8589934592) := by
  obtain ⟨g, hg⟩ : ∃ g, U / y1 = g := ⟨_, rfl⟩
  have e1 := Nat.div_add_mod' U y1
  have e2 := Nat.mod_lt U (show 0 < y1 by omega)
  have hgl : g < 8589934592 := by
    rw [← hg, Nat.div_lt_iff_lt_mul (by omega)]
    have := Nat.mul_le_mul_left 8589934592 b1
    omega
  have eg : IntKind.u64.wrap ((U : Int) / (y1 : Int)) = (g : Int) := by rw [← Int.natCast_ediv, hg]; exact fit_u64 g (by omega)
  have hfirst := dig_first U u1 y1 y0 (by omega) bu
  rw [hg, hY] at hfirst
  rw [hg] at e1
  generalize U % y1 = m at e1 e2
  obtain ⟨gm, hgm⟩ : ∃ gm, g * y1 = gm := ⟨_, rfl⟩
  have egm : IntKind.u64.wrap ((g : Int) * (y1 : Int)) = ((g * y1 : Nat) : Int) := mulfit_u64 _ _ (by omega)
  rw [hgm] at e1 egm
  obtain ⟨d, hd⟩ : ∃ d, (U * 4294967296 + u1) / Y = d := ⟨_, rfl⟩
  rw [hd] at hfirst
  refine ⟨g, gm, m, d, eg, egm, ?_, hd, Lib.hid ⟨by omega, hfirst, by omega, hgl⟩⟩
  rw [IntKind.wrap_u64]
  clear hg hd hgm egm eg hfirst
  omega
theorem dig_after (U u1 Y d : Nat) (hd : (U * 4294967296 + u1) / Y = d) (hY : 0 < Y) (hY2 : Y < 18446744073709551616) :
    ∃ UB E P R : Nat, IntKind.u64.wrap ((U : Int) * 4294967296) = (UB : Int) ∧ IntKind.u64.wrap ((UB : Int) + (u1 : Int)) = (E : Int) ∧ IntKind.u64.wrap ((d : Int) * (Y : Int)) = (P : Int) ∧ IntKind.u64.wrap ((E : Int) - (P : Int)) = (R : Int) ∧ (U * 4294967296 + u1) % Y = R := by
  refine ⟨U * 4294967296 % 18446744073709551616, (U * 4294967296 + u1) % 18446744073709551616, d * Y % 18446744073709551616, (U * 4294967296 + u1) % Y, ?_, ?_, ?_, ?_, rfl⟩
  · rw [IntKind.wrap_u64]; omega
  · rw [IntKind.wrap_u64]; omega
  · rw [← Int.natCast_mul, IntKind.wrap_u64]; omega
  · subst hd
    rw [IntKind.wrap_u64]
    exact rest_wrap (U * 4294967296 + u1) Y hY (by omega) _ _ (by omega) (by omega)
theorem pow_i (s : Nat) : ((2 ^ s : Nat) : Int) = (2 : Int) ^ s := by simp
set_option maxHeartbeats 4000000 in
set_option maxRecDepth 100000 in
theorem div64_more (hi lo y : Nat) (h : hi < y) (h0 : 0 < hi) (hy : y < 18446744073709551616) (hlo : lo < 18446744073709551616) (w : World) :
    Calls Try.prog 24 #[.int .u64 (hi : Int), .int .u64 (lo : Int), .int .u64 (y : Int)] w fun e w' => e = .returned (.tuple #[.int .u64 (((hi * 18446744073709551616 + lo) / y : Nat) : Int), .int .u64 (((hi * 18446744073709551616 + lo) % y : Nat) : Int)]) ∧ Below w.heap.size w w' := by
  obtain ⟨s, k, Y, A, B, U, L, hs, hs1, hk, hY, hY1, hY2, hA, hA1, hB, hor, hU, hL, hL1, hN⟩ := div_prep hi lo y h hy hlo
  have HL := Lib.hid (lz_any y (by omega) hy w)
  rw [hs] at HL
  have h1 : ((y : Int) = 0) = False := by simp; omega
  have h2 : ((y : Int) ≤ (hi : Int)) = False := by simp; omega
  have h2b : (y ≤ hi) = False := by simp; omega
  have h3c : (hi = 0) = False := by simp; omega
  have h3d : (y = 0) = False := by simp; omega
  have h3 : ((hi : Int) = 0) = False := by simp; omega
  have h1b : ((y : Int) == 0) = false := by simp; omega
  have h3b : ((hi : Int) == 0) = false := by simp; omega
  have es : IntKind.u64.wrap (s : Int) = (s : Int) := fit_u64 s (by omega)
  have em : min s 64 = s := by omega
  have eY : IntKind.u64.wrap ((y : Int) * 2 ^ s) = (Y : Int) := by rw [← pow_i, ← Int.natCast_mul, hY]; exact fit_u64 Y hY2
  have eA : IntKind.u64.wrap ((hi : Int) * 2 ^ s) = (A : Int) := by rw [← pow_i, ← Int.natCast_mul, hA]; exact fit_u64 A hA1
  have eL : IntKind.u64.wrap ((lo : Int) * 2 ^ s) = (L : Int) := by rw [← pow_i, ← Int.natCast_mul, IntKind.wrap_u64]; omega
  have ek : IntKind.u64.wrap (64 - (s : Int)) = (k : Int) := by rw [IntKind.wrap_u64]; omega
  have ekm : min k 64 = k := by omega
  have eB : (lo : Int) / 2 ^ k = (B : Int) := by rw [← pow_i, ← Int.natCast_ediv, hB]
  -- the halves
  have ey1 := div_u64 Y
  have ey0 := mask_u64 Y hY2
  have eu1 := div_u64 L
  have eu0 := mask_u64 L hL1
  obtain ⟨y1, hy1⟩ : ∃ y1, Y / 4294967296 = y1 := ⟨_, rfl⟩
  obtain ⟨y0, hy0⟩ : ∃ y0, Y % 4294967296 = y0 := ⟨_, rfl⟩
  obtain ⟨u1, hu1⟩ : ∃ u1, L / 4294967296 = u1 := ⟨_, rfl⟩
  obtain ⟨u0, hu0⟩ : ∃ u0, L % 4294967296 = u0 := ⟨_, rfl⟩
  rw [hy1] at ey1
  rw [hy0] at ey0
  rw [hu1] at eu1
  rw [hu0] at eu0
  have hYe : y1 * 4294967296 + y0 = Y := by rw [← hy1, ← hy0]; exact Nat.div_add_mod' Y _
  have hLe : u1 * 4294967296 + u0 = L := by rw [← hu1, ← hu0]; exact Nat.div_add_mod' L _
  have hb1 : 2147483648 ≤ y1 ∧ y1 < 4294967296 ∧ y0 < 4294967296 ∧ u1 < 4294967296 ∧ u0 < 4294967296 := by omega
  have hz : ((y1 : Int) = 0) = False := by simp; omega
  have hzc : (y1 = 0) = False := by simp; omega
  have hzb : ((y1 : Int) == 0) = false := by simp; omega
  obtain ⟨g, gm, r0, d, eg, egm, er0, hd, HF⟩ := dig_guess U u1 y1 y0 Y hb1.1 hb1.2.1 hb1.2.2.2.1 hYe hU hY2
  obtain ⟨UB, E, P, R, fU, fE, fP, fR, hR⟩ := dig_after U u1 Y d hd (by omega) hY2
  have hRY : R < Y := by rw [← hR]; exact Nat.mod_lt _ (by omega)
  obtain ⟨g2, gm2, r02, dq, eg2, egm2, er02, hd2, HF2⟩ := dig_guess R u0 y1 y0 Y hb1.1 hb1.2.1 hb1.2.2.2.2 hYe hRY hY2
  obtain ⟨UB2, E2, P2, R2, fU2, fE2, fP2, fR2, hR2⟩ := dig_after R u0 Y dq hd2 (by omega) hY2
  have HD := Lib.hid hd
  have HD2 := Lib.hid hd2
  have HRY := Lib.hid hRY
  have hd1l : d < 4294967296 := by rw [← hd]; exact dig_lt hU hb1.2.2.2.1
  have hd2l : dq < 4294967296 := by rw [← hd2]; exact dig_lt hRY hb1.2.2.2.2
  have htwo := dig_two U u1 u0 Y (by omega)
  rw [hLe, ← hN, hd, hR, hd2, hR2, ← hY, div_shift, mod_shift] at htwo
  have fd : IntKind.u64.wrap ((d : Int) * 4294967296) = ((d * 4294967296 : Nat) : Int) := mulfit_u64 d 4294967296 (by omega)
  have fdd := addfit_u64 (d * 4294967296) dq (by omega)
  rw [← htwo.1] at fdd
  obtain ⟨dB, hdB⟩ : ∃ dB, d * 4294967296 = dB := ⟨_, rfl⟩
  rw [hdB] at fd fdd
  have frem : (R2 : Int) / 2 ^ s = (((hi * 18446744073709551616 + lo) % y : Nat) : Int) := by
    rw [← pow_i, ← Int.natCast_ediv, ← htwo.2, Nat.mul_div_cancel _ (Nat.pow_pos (by omega))]
  have HG := Lib.hid (And.intro hb1 (And.intro hYe (And.intro hU hY2)))
  clear hs hs1 hk hY hY1 hY2 hA hA1 hB hU hL hL1 hN hy1 hy0 hu1 hu0 hYe hLe hb1 hd hd2 hR hR2 hRY hd1l hd2l htwo hdB h h0 hy hlo
  go_enter Try.func24, Try.ntmps24
  go_wp2_with fail
  refine HL.out.mono ?_
  rintro e w' ⟨rfl, rfl⟩
  clear HL
  go_wp2_with fail
  go_loop [15, 16] (fun q r => ∃ qn rn : Nat, q = .int .u64 (qn : Int) ∧ r = .int .u64 (rn : Int) ∧ Hid (qn * y1 + rn = U ∧ d ≤ qn ∧ rn < 4294967296 ∧ qn < 8589934592)) (fun q _ => (intOf q).toNat)
  case atStart => exact ⟨_, _, rfl, rfl, HF⟩
  case round =>
    obtain ⟨q, r, rfl, rfl, H⟩ := hrel
    obtain ⟨c1, c2, c3, c4⟩ := H.out
    obtain ⟨⟨b1, b2, b3, b4, b5⟩, b6, b7, b8⟩ := HG.out
    by_cases hc : 4294967296 ≤ q ∨ r * 4294967296 + u1 < q * y0
    · have hm := dig_more U u1 y1 y0 q r (by omega) (by omega) (by omega) c1 hc
      rw [b6, HD.out] at hm
      have en : IntKind.u64.wrap ((q : Int) - 1) = ((q - 1 : Nat) : Int) := by rw [IntKind.wrap_u64]; omega
      have ear : IntKind.u64.wrap ((r : Int) + (y1 : Int)) = ((r + y1 : Nat) : Int) := addfit_u64 r y1 (by omega)
      have cq : (q - 1) * y1 + (r + y1) = U := by
        have e5 : q - 1 + 1 = q := by omega
        rw [← c1]
        conv => rhs; rw [← e5, Nat.add_mul, Nat.one_mul]
        omega
      obtain ⟨q2, hq2⟩ : ∃ q2, q - 1 = q2 := ⟨_, rfl⟩
      obtain ⟨r2, hr2⟩ : ∃ r2, r + y1 = r2 := ⟨_, rfl⟩
      rw [hq2] at en cq
      rw [hr2] at ear cq
      have HQ : Hid (q2 + 1 = q ∧ q2 * y1 + r2 = U ∧ d ≤ q2 ∧ q2 < 8589934592) := Lib.hid ⟨by omega, cq, by omega, by omega⟩
      have hcond : (4294967296 ≤ (q : Int)) = True ∨ ((4294967296 ≤ (q : Int)) = False ∧ IntKind.u64.wrap ((q : Int) * (y0 : Int)) = ((q * y0 : Nat) : Int) ∧ IntKind.u64.wrap (4294967296 * (r : Int)) = ((4294967296 * r : Nat) : Int) ∧ IntKind.u64.wrap (((4294967296 * r : Nat) : Int) + (u1 : Int)) = ((4294967296 * r + u1 : Nat) : Int) ∧ (((4294967296 * r + u1 : Nat) : Int) < ((q * y0 : Nat) : Int)) = True) := by
        by_cases hq : 4294967296 ≤ q
        · left; simp; omega
        · right
          have hql : q * y0 ≤ 4294967295 * 4294967295 := Nat.mul_le_mul (by omega) (by omega)
          refine ⟨by simp; omega, mulfit_u64 q y0 (by omega), mulfit_u64 4294967296 r (by omega), addfit_u64 (4294967296 * r) u1 (by omega), ?_⟩
          have : 4294967296 * r + u1 < q * y0 := by omega
          exact eq_true (Int.ofNat_lt.2 this)
      generalize q * y0 = qy at hcond
      generalize 4294967296 * r + u1 = ru at hcond
      generalize 4294967296 * r = rb at hcond
      have HC := Lib.hid hcond
      clear hcond hc hm cq hq2 hr2 c1 c2 c3 c4 H b1 b2 b3 b4 b5 b6 b7 b8
      by_cases hb : 4294967296 ≤ r2
      · have eb : (4294967296 ≤ (r2 : Int)) = True := by simp; omega
        have HX : Hid (d = q2) := by
          obtain ⟨⟨b1, b2, b3, b4, b5⟩, b6, b7, b8⟩ := HG.out
          obtain ⟨_, cq, cl, _⟩ := HQ.out
          have := dig_break U u1 y1 y0 q2 r2 (by omega) b3 (by omega) cq hb (by rw [b6, HD.out]; exact cl)
          rw [b6, HD.out] at this
          exact Lib.hid this
        clear hb HQ
        rcases HC.out with hcond | ⟨hcond, d1, d2, d3, d4⟩
        · clear HC
          obtain rfl := HX.out
          clear HX HF HD
          go_wp2_with fail
          go_loop [18, 16] (fun q r => ∃ qn rn : Nat, q = .int .u64 (qn : Int) ∧ r = .int .u64 (rn : Int) ∧ Hid (qn * y1 + rn = R ∧ dq ≤ qn ∧ rn < 4294967296 ∧ qn < 8589934592)) (fun q _ => (intOf q).toNat)
          case atStart => exact ⟨_, _, rfl, rfl, HF2⟩
          case round =>
            obtain ⟨q, r, rfl, rfl, H⟩ := hrel
            obtain ⟨c1, c2, c3, c4⟩ := H.out
            obtain ⟨⟨b1, b2, b3, b4, b5⟩, b6, b7, b8⟩ := HG.out
            have b7 : R < Y := HRY.out
            by_cases hc : 4294967296 ≤ q ∨ r * 4294967296 + u0 < q * y0
            · have hm := dig_more R u0 y1 y0 q r (by omega) (by omega) (by omega) c1 hc
              rw [b6, HD2.out] at hm
              have en : IntKind.u64.wrap ((q : Int) - 1) = ((q - 1 : Nat) : Int) := by rw [IntKind.wrap_u64]; omega
              have ear : IntKind.u64.wrap ((r : Int) + (y1 : Int)) = ((r + y1 : Nat) : Int) := addfit_u64 r y1 (by omega)
              have cq : (q - 1) * y1 + (r + y1) = R := by
                have e5 : q - 1 + 1 = q := by omega
                rw [← c1]
                conv => rhs; rw [← e5, Nat.add_mul, Nat.one_mul]
                omega
              obtain ⟨q2, hq2⟩ : ∃ q2, q - 1 = q2 := ⟨_, rfl⟩
              obtain ⟨r2, hr2⟩ : ∃ r2, r + y1 = r2 := ⟨_, rfl⟩
              rw [hq2] at en cq
              rw [hr2] at ear cq
              have HQ : Hid (q2 + 1 = q ∧ q2 * y1 + r2 = R ∧ dq ≤ q2 ∧ q2 < 8589934592) := Lib.hid ⟨by omega, cq, by omega, by omega⟩
              have hcond : (4294967296 ≤ (q : Int)) = True ∨ ((4294967296 ≤ (q : Int)) = False ∧ IntKind.u64.wrap ((q : Int) * (y0 : Int)) = ((q * y0 : Nat) : Int) ∧ IntKind.u64.wrap (4294967296 * (r : Int)) = ((4294967296 * r : Nat) : Int) ∧ IntKind.u64.wrap (((4294967296 * r : Nat) : Int) + (u0 : Int)) = ((4294967296 * r + u0 : Nat) : Int) ∧ (((4294967296 * r + u0 : Nat) : Int) < ((q * y0 : Nat) : Int)) = True) := by
                by_cases hq : 4294967296 ≤ q
                · left; simp; omega
                · right
                  have hql : q * y0 ≤ 4294967295 * 4294967295 := Nat.mul_le_mul (by omega) (by omega)
                  refine ⟨by simp; omega, mulfit_u64 q y0 (by omega), mulfit_u64 4294967296 r (by omega), addfit_u64 (4294967296 * r) u0 (by omega), ?_⟩
                  have : 4294967296 * r + u0 < q * y0 := by omega
                  exact eq_true (Int.ofNat_lt.2 this)
              generalize q * y0 = qy at hcond
              generalize 4294967296 * r + u0 = ru at hcond
              generalize 4294967296 * r = rb at hcond
              have HC := Lib.hid hcond
              clear hcond hc hm cq hq2 hr2 c1 c2 c3 c4 H b1 b2 b3 b4 b5 b6 b7 b8
              by_cases hb : 4294967296 ≤ r2
              · have eb : (4294967296 ≤ (r2 : Int)) = True := by simp; omega
                have HX : Hid (dq = q2) := by
                  obtain ⟨⟨b1, b2, b3, b4, b5⟩, b6, b7, b8⟩ := HG.out
                  have b7 : R < Y := HRY.out
                  obtain ⟨_, cq, cl, _⟩ := HQ.out
                  have := dig_break R u0 y1 y0 q2 r2 (by omega) b3 (by omega) cq hb (by rw [b6, HD2.out]; exact cl)
                  rw [b6, HD2.out] at this
                  exact Lib.hid this
                clear hb HQ
                rcases HC.out with hcond | ⟨hcond, d1, d2, d3, d4⟩
                · clear HC
                  obtain rfl := HX.out
                  go_wp2
                  go_ret2
                  exact ⟨rfl, Below.refl _ _⟩
                · clear HC
                  obtain rfl := HX.out
                  go_wp2
                  go_ret2
                  exact ⟨rfl, Below.refl _ _⟩
              · have eb : (4294967296 ≤ (r2 : Int)) = False := by simp; omega
                rcases HC.out with hcond | ⟨hcond, d1, d2, d3, d4⟩
                · clear HC
                  go_wp2
                  go_round
                  case rel => exact ⟨q2, r2, rfl, rfl, Lib.hid ⟨HQ.out.2.1, HQ.out.2.2.1, by omega, HQ.out.2.2.2⟩⟩
                  case measure => have := HQ.out.1; simp [intOf]; omega
                · clear HC
                  go_wp2
                  go_round
                  case rel => exact ⟨q2, r2, rfl, rfl, Lib.hid ⟨HQ.out.2.1, HQ.out.2.2.1, by omega, HQ.out.2.2.2⟩⟩
                  case measure => have := HQ.out.1; simp [intOf]; omega
            · have hx := dig_done R u0 y1 y0 q r (by omega) c1 (by rw [b6, HD2.out]; exact c2) (by omega)
              rw [b6, HD2.out] at hx
              have HX := Lib.hid hx
              have hq : (4294967296 ≤ (q : Int)) = False := by simp; omega
              have hql : q * y0 ≤ 4294967295 * 4294967295 := Nat.mul_le_mul (by omega) (by omega)
              have d1 := mulfit_u64 q y0 (by omega)
              have d2 : IntKind.u64.wrap (4294967296 * (r : Int)) = ((4294967296 * r : Nat) : Int) := mulfit_u64 4294967296 r (by omega)
              have d3 := addfit_u64 (4294967296 * r) u0 (by omega)
              have d4 : (((4294967296 * r + u0 : Nat) : Int) < ((q * y0 : Nat) : Int)) = False := by rw [Int.ofNat_lt]; simp; omega
              generalize q * y0 = qy at d1 d4
              generalize 4294967296 * r + u0 = ru at d3 d4
              generalize 4294967296 * r = rb at d2 d3
              clear hx hc hql c1 c2 c3 c4 H b1 b2 b3 b4 b5 b6 b7 b8
              obtain rfl := HX.out
              go_wp2
              go_ret2
              exact ⟨rfl, Below.refl _ _⟩
        · clear HC
          obtain rfl := HX.out
          clear HX HF HD
          go_wp2_with fail
          go_loop [18, 16] (fun q r => ∃ qn rn : Nat, q = .int .u64 (qn : Int) ∧ r = .int .u64 (rn : Int) ∧ Hid (qn * y1 + rn = R ∧ dq ≤ qn ∧ rn < 4294967296 ∧ qn < 8589934592)) (fun q _ => (intOf q).toNat)
          case atStart => exact ⟨_, _, rfl, rfl, HF2⟩
          case round =>
            obtain ⟨q, r, rfl, rfl, H⟩ := hrel
            obtain ⟨c1, c2, c3, c4⟩ := H.out
            obtain ⟨⟨b1, b2, b3, b4, b5⟩, b6, b7, b8⟩ := HG.out
            have b7 : R < Y := HRY.out
            by_cases hc : 4294967296 ≤ q ∨ r * 4294967296 + u0 < q * y0
            · have hm := dig_more R u0 y1 y0 q r (by omega) (by omega) (by omega) c1 hc
              rw [b6, HD2.out] at hm
              have en : IntKind.u64.wrap ((q : Int) - 1) = ((q - 1 : Nat) : Int) := by rw [IntKind.wrap_u64]; omega
              have ear : IntKind.u64.wrap ((r : Int) + (y1 : Int)) = ((r + y1 : Nat) : Int) := addfit_u64 r y1 (by omega)
              have cq : (q - 1) * y1 + (r + y1) = R := by
                have e5 : q - 1 + 1 = q := by omega
                rw [← c1]
                conv => rhs; rw [← e5, Nat.add_mul, Nat.one_mul]
                omega
              obtain ⟨q2, hq2⟩ : ∃ q2, q - 1 = q2 := ⟨_, rfl⟩
              obtain ⟨r2, hr2⟩ : ∃ r2, r + y1 = r2 := ⟨_, rfl⟩
              rw [hq2] at en cq
              rw [hr2] at ear cq
              have HQ : Hid (q2 + 1 = q ∧ q2 * y1 + r2 = R ∧ dq ≤ q2 ∧ q2 < 8589934592) := Lib.hid ⟨by omega, cq, by omega, by omega⟩
              have hcond : (4294967296 ≤ (q : Int)) = True ∨ ((4294967296 ≤ (q : Int)) = False ∧ IntKind.u64.wrap ((q : Int) * (y0 : Int)) = ((q * y0 : Nat) : Int) ∧ IntKind.u64.wrap (4294967296 * (r : Int)) = ((4294967296 * r : Nat) : Int) ∧ IntKind.u64.wrap (((4294967296 * r : Nat) : Int) + (u0 : Int)) = ((4294967296 * r + u0 : Nat) : Int) ∧ (((4294967296 * r + u0 : Nat) : Int) < ((q * y0 : Nat) : Int)) = True) := by
                by_cases hq : 4294967296 ≤ q
                · left; simp; omega
                · right
                  have hql : q * y0 ≤ 4294967295 * 4294967295 := Nat.mul_le_mul (by omega) (by omega)
                  refine ⟨by simp; omega, mulfit_u64 q y0 (by omega), mulfit_u64 4294967296 r (by omega), addfit_u64 (4294967296 * r) u0 (by omega), ?_⟩
                  have : 4294967296 * r + u0 < q * y0 := by omega
                  exact eq_true (Int.ofNat_lt.2 this)
              generalize q * y0 = qy at hcond
              generalize 4294967296 * r + u0 = ru at hcond
              generalize 4294967296 * r = rb at hcond
              have HC := Lib.hid hcond
              clear hcond hc hm cq hq2 hr2 c1 c2 c3 c4 H b1 b2 b3 b4 b5 b6 b7 b8
              by_cases hb : 4294967296 ≤ r2
              · have eb : (4294967296 ≤ (r2 : Int)) = True := by simp; omega
                have HX : Hid (dq = q2) := by
                  obtain ⟨⟨b1, b2, b3, b4, b5⟩, b6, b7, b8⟩ := HG.out
                  have b7 : R < Y := HRY.out
                  obtain ⟨_, cq, cl, _⟩ := HQ.out
                  have := dig_break R u0 y1 y0 q2 r2 (by omega) b3 (by omega) cq hb (by rw [b6, HD2.out]; exact cl)
                  rw [b6, HD2.out] at this
                  exact Lib.hid this
                clear hb HQ
                rcases HC.out with hcond | ⟨hcond, d1, d2, d3, d4⟩
                · clear HC
                  obtain rfl := HX.out
                  go_wp2
                  go_ret2
                  exact ⟨rfl, Below.refl _ _⟩
                · clear HC
                  obtain rfl := HX.out
                  go_wp2
                  go_ret2
                  exact ⟨rfl, Below.refl _ _⟩
              · have eb : (4294967296 ≤ (r2 : Int)) = False := by simp; omega
                rcases HC.out with hcond | ⟨hcond, d1, d2, d3, d4⟩
                · clear HC
                  go_wp2
                  go_round
                  case rel => exact ⟨q2, r2, rfl, rfl, Lib.hid ⟨HQ.out.2.1, HQ.out.2.2.1, by omega, HQ.out.2.2.2⟩⟩
                  case measure => have := HQ.out.1; simp [intOf]; omega
                · clear HC
                  go_wp2
                  go_round
                  case rel => exact ⟨q2, r2, rfl, rfl, Lib.hid ⟨HQ.out.2.1, HQ.out.2.2.1, by omega, HQ.out.2.2.2⟩⟩
                  case measure => have := HQ.out.1; simp [intOf]; omega
            · have hx := dig_done R u0 y1 y0 q r (by omega) c1 (by rw [b6, HD2.out]; exact c2) (by omega)
              rw [b6, HD2.out] at hx
              have HX := Lib.hid hx
              have hq : (4294967296 ≤ (q : Int)) = False := by simp; omega
              have hql : q * y0 ≤ 4294967295 * 4294967295 := Nat.mul_le_mul (by omega) (by omega)
              have d1 := mulfit_u64 q y0 (by omega)
              have d2 : IntKind.u64.wrap (4294967296 * (r : Int)) = ((4294967296 * r : Nat) : Int) := mulfit_u64 4294967296 r (by omega)
              have d3 := addfit_u64 (4294967296 * r) u0 (by omega)
              have d4 : (((4294967296 * r + u0 : Nat) : Int) < ((q * y0 : Nat) : Int)) = False := by rw [Int.ofNat_lt]; simp; omega
              generalize q * y0 = qy at d1 d4
              generalize 4294967296 * r + u0 = ru at d3 d4
              generalize 4294967296 * r = rb at d2 d3
              clear hx hc hql c1 c2 c3 c4 H b1 b2 b3 b4 b5 b6 b7 b8
              obtain rfl := HX.out
              go_wp2
              go_ret2
              exact ⟨rfl, Below.refl _ _⟩
      · have eb : (4294967296 ≤ (r2 : Int)) = False := by simp; omega
        rcases HC.out with hcond | ⟨hcond, d1, d2, d3, d4⟩
        · clear HC
          go_wp2
          go_round
          case rel => exact ⟨q2, r2, rfl, rfl, Lib.hid ⟨HQ.out.2.1, HQ.out.2.2.1, by omega, HQ.out.2.2.2⟩⟩
          case measure => have := HQ.out.1; simp [intOf]; omega
        · clear HC
          go_wp2
          go_round
          case rel => exact ⟨q2, r2, rfl, rfl, Lib.hid ⟨HQ.out.2.1, HQ.out.2.2.1, by omega, HQ.out.2.2.2⟩⟩
          case measure => have := HQ.out.1; simp [intOf]; omega
    · have hx := dig_done U u1 y1 y0 q r (by omega) c1 (by rw [b6, HD.out]; exact c2) (by omega)
      rw [b6, HD.out] at hx
      have HX := Lib.hid hx
      have hq : (4294967296 ≤ (q : Int)) = False := by simp; omega
      have hql : q * y0 ≤ 4294967295 * 4294967295 := Nat.mul_le_mul (by omega) (by omega)
      have d1 := mulfit_u64 q y0 (by omega)
      have d2 : IntKind.u64.wrap (4294967296 * (r : Int)) = ((4294967296 * r : Nat) : Int) := mulfit_u64 4294967296 r (by omega)
      have d3 := addfit_u64 (4294967296 * r) u1 (by omega)
      have d4 : (((4294967296 * r + u1 : Nat) : Int) < ((q * y0 : Nat) : Int)) = False := by rw [Int.ofNat_lt]; simp; omega
      generalize q * y0 = qy at d1 d4
      generalize 4294967296 * r + u1 = ru at d3 d4
      generalize 4294967296 * r = rb at d2 d3
      clear hx hc hql c1 c2 c3 c4 H b1 b2 b3 b4 b5 b6 b7 b8
      obtain rfl := HX.out
      clear HX HF HD
      go_wp2_with fail
      go_loop [18, 16] (fun q r => ∃ qn rn : Nat, q = .int .u64 (qn : Int) ∧ r = .int .u64 (rn : Int) ∧ Hid (qn * y1 + rn = R ∧ dq ≤ qn ∧ rn < 4294967296 ∧ qn < 8589934592)) (fun q _ => (intOf q).toNat)
      case atStart => exact ⟨_, _, rfl, rfl, HF2⟩
      case round =>
        obtain ⟨q, r, rfl, rfl, H⟩ := hrel
        obtain ⟨c1, c2, c3, c4⟩ := H.out
        obtain ⟨⟨b1, b2, b3, b4, b5⟩, b6, b7, b8⟩ := HG.out
        have b7 : R < Y := HRY.out
        by_cases hc : 4294967296 ≤ q ∨ r * 4294967296 + u0 < q * y0
        · have hm := dig_more R u0 y1 y0 q r (by omega) (by omega) (by omega) c1 hc
          rw [b6, HD2.out] at hm
          have en : IntKind.u64.wrap ((q : Int) - 1) = ((q - 1 : Nat) : Int) := by rw [IntKind.wrap_u64]; omega
          have ear : IntKind.u64.wrap ((r : Int) + (y1 : Int)) = ((r + y1 : Nat) : Int) := addfit_u64 r y1 (by omega)
          have cq : (q - 1) * y1 + (r + y1) = R := by
            have e5 : q - 1 + 1 = q := by omega
            rw [← c1]
            conv => rhs; rw [← e5, Nat.add_mul, Nat.one_mul]
            omega
          obtain ⟨q2, hq2⟩ : ∃ q2, q - 1 = q2 := ⟨_, rfl⟩
          obtain ⟨r2, hr2⟩ : ∃ r2, r + y1 = r2 := ⟨_, rfl⟩
          rw [hq2] at en cq
          rw [hr2] at ear cq
          have HQ : Hid (q2 + 1 = q ∧ q2 * y1 + r2 = R ∧ dq ≤ q2 ∧ q2 < 8589934592) := Lib.hid ⟨by omega, cq, by omega, by omega⟩
          have hcond : (4294967296 ≤ (q : Int)) = True ∨ ((4294967296 ≤ (q : Int)) = False ∧ IntKind.u64.wrap ((q : Int) * (y0 : Int)) = ((q * y0 : Nat) : Int) ∧ IntKind.u64.wrap (4294967296 * (r : Int)) = ((4294967296 * r : Nat) : Int) ∧ IntKind.u64.wrap (((4294967296 * r : Nat) : Int) + (u0 : Int)) = ((4294967296 * r + u0 : Nat) : Int) ∧ (((4294967296 * r + u0 : Nat) : Int) < ((q * y0 : Nat) : Int)) = True) := by
            by_cases hq : 4294967296 ≤ q
            · left; simp; omega
            · right
              have hql : q * y0 ≤ 4294967295 * 4294967295 := Nat.mul_le_mul (by omega) (by omega)
              refine ⟨by simp; omega, mulfit_u64 q y0 (by omega), mulfit_u64 4294967296 r (by omega), addfit_u64 (4294967296 * r) u0 (by omega), ?_⟩
              have : 4294967296 * r + u0 < q * y0 := by omega
              exact eq_true (Int.ofNat_lt.2 this)
          generalize q * y0 = qy at hcond
          generalize 4294967296 * r + u0 = ru at hcond
          generalize 4294967296 * r = rb at hcond
          have HC := Lib.hid hcond
          clear hcond hc hm cq hq2 hr2 c1 c2 c3 c4 H b1 b2 b3 b4 b5 b6 b7 b8
          by_cases hb : 4294967296 ≤ r2
          · have eb : (4294967296 ≤ (r2 : Int)) = True := by simp; omega
            have HX : Hid (dq = q2) := by
              obtain ⟨⟨b1, b2, b3, b4, b5⟩, b6, b7, b8⟩ := HG.out
              have b7 : R < Y := HRY.out
              obtain ⟨_, cq, cl, _⟩ := HQ.out
              have := dig_break R u0 y1 y0 q2 r2 (by omega) b3 (by omega) cq hb (by rw [b6, HD2.out]; exact cl)
              rw [b6, HD2.out] at this
              exact Lib.hid this
            clear hb HQ
            rcases HC.out with hcond | ⟨hcond, d1, d2, d3, d4⟩
            · clear HC
              obtain rfl := HX.out
              go_wp2
              go_ret2
              exact ⟨rfl, Below.refl _ _⟩
            · clear HC
              obtain rfl := HX.out
              go_wp2
              go_ret2
              exact ⟨rfl, Below.refl _ _⟩
          · have eb : (4294967296 ≤ (r2 : Int)) = False := by simp; omega
            rcases HC.out with hcond | ⟨hcond, d1, d2, d3, d4⟩
            · clear HC
              go_wp2
              go_round
              case rel => exact ⟨q2, r2, rfl, rfl, Lib.hid ⟨HQ.out.2.1, HQ.out.2.2.1, by omega, HQ.out.2.2.2⟩⟩
              case measure => have := HQ.out.1; simp [intOf]; omega
            · clear HC
              go_wp2
              go_round
              case rel => exact ⟨q2, r2, rfl, rfl, Lib.hid ⟨HQ.out.2.1, HQ.out.2.2.1, by omega, HQ.out.2.2.2⟩⟩
              case measure => have := HQ.out.1; simp [intOf]; omega
        · have hx := dig_done R u0 y1 y0 q r (by omega) c1 (by rw [b6, HD2.out]; exact c2) (by omega)
          rw [b6, HD2.out] at hx
          have HX := Lib.hid hx
          have hq : (4294967296 ≤ (q : Int)) = False := by simp; omega
          have hql : q * y0 ≤ 4294967295 * 4294967295 := Nat.mul_le_mul (by omega) (by omega)
          have d1 := mulfit_u64 q y0 (by omega)
          have d2 : IntKind.u64.wrap (4294967296 * (r : Int)) = ((4294967296 * r : Nat) : Int) := mulfit_u64 4294967296 r (by omega)
          have d3 := addfit_u64 (4294967296 * r) u0 (by omega)
          have d4 : (((4294967296 * r + u0 : Nat) : Int) < ((q * y0 : Nat) : Int)) = False := by rw [Int.ofNat_lt]; simp; omega
          generalize q * y0 = qy at d1 d4
          generalize 4294967296 * r + u0 = ru at d3 d4
          generalize 4294967296 * r = rb at d2 d3
          clear hx hc hql c1 c2 c3 c4 H b1 b2 b3 b4 b5 b6 b7 b8
          obtain rfl := HX.out
          go_wp2
          go_ret2
          exact ⟨rfl, Below.refl _ _⟩
end Go.Proofs.Ytompcibcgfjpfaa
