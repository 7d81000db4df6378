/- What one needs for a size at a rate is enough at that rate, and one less is not; two rates taken together stand between them: for any two numbers and any two rates the law RateMeans returns true and leaves them as they were. No further condition. -/
import Derived.Test.YtompcibcgfjpfaaRtH
import Derived.Test.YtompcibcgfjpfaaRtR
import Derived.Test.YtompcibcgfjpfaaNumK
import Derived.Deep.DeepCutAuto
import Derived.RegionTactic
import Derived.ChangeAlike
namespace Go.Proofs.Ytompcibcgfjpfaa.lawRtMeans
open Go.ChangeShapes Go.WideShapes Go.ChangeAt Go.RowKit

theorem ord_lt {x y : Nat} (h : x < y) : ordV x y = -1 := by unfold ordV; rw [if_pos h]
theorem ord_eq {x y : Nat} (h : x = y) : ordV x y = 0 := by unfold ordV; rw [if_neg (by omega), if_neg (by omega)]
theorem ord_gt {x y : Nat} (h : y < x) : ordV x y = 1 := by unfold ordV; rw [if_neg (by omega), if_pos h]
theorem size_of (z : Nat) (h : 0 < z) : sizeN (z : Int) = z := by unfold sizeN; omega
theorem need_of (z : Nat) (h : z ≤ 1073741824) : needN (z : Int) = z := by unfold needN; omega
/-- What one needs is enough, and one less is not. -/
theorem enough (p z : Nat) (hp : 0 < p) (hp2 : p ≤ 1048576) (hz : 0 < z) (hz2 : z ≤ 65536) :
    ∃ k : Nat, upV (p * z) 1000 = k + 1 ∧ k < 18446744073709551615 ∧ p * z ≤ (k + 1) * 1000 ∧ k * 1000 < p * z := by
  have h1 : 0 < p * z := Nat.mul_pos hp hz
  have h2 : p * z ≤ 1048576 * 65536 := Nat.mul_le_mul hp2 hz2
  generalize p * z = N at *
  have h3 := (up_le N 1000 68719476736 (by omega) (by omega)).2 (by omega)
  obtain ⟨u, hu⟩ : ∃ u, upV N 1000 = u := ⟨_, rfl⟩
  have h4 := (up_le N 1000 u (by omega) (by omega)).1 (by omega)
  have h5 : u ≠ 0 := by rintro rfl; omega
  obtain ⟨k, rfl⟩ : ∃ k, u = k + 1 := ⟨u - 1, by omega⟩
  have h6 : ¬ N ≤ k * 1000 := fun h => by
    have := (up_le N 1000 k (by omega) (by omega)).2 h
    omega
  exact ⟨k, hu, by omega, h4, by omega⟩
/-- Two rates, and both taken together. -/
theorem between (f1 f2 s1 s2 : Nat) (h : f1 * s2 ≤ f2 * s1) :
    (f1 * s2 = f2 * s1 ∧ ordV (f1 * (s1 + s2)) ((f1 + f2) * s1) = 0 ∧ ordV ((f1 + f2) * s2) (f2 * (s1 + s2)) = 0 ∧ ordV (f1 * s2) (f2 * s1) = 0) ∨
    (f1 * s2 < f2 * s1 ∧ ordV (f1 * (s1 + s2)) ((f1 + f2) * s1) = -1 ∧ ordV ((f1 + f2) * s2) (f2 * (s1 + s2)) = -1 ∧ ordV (f1 * s2) (f2 * s1) = -1) := by
  rw [Nat.mul_add, Nat.add_mul, Nat.add_mul, Nat.mul_add]
  generalize f1 * s2 = A at *
  generalize f2 * s1 = B at *
  generalize f1 * s1 = C at *
  generalize f2 * s2 = D at *
  rcases Nat.eq_or_lt_of_le h with e | e
  · left; exact ⟨e, ord_eq (by omega), ord_eq (by omega), ord_eq e⟩
  · right; exact ⟨e, ord_lt (by omega), ord_lt (by omega), ord_lt e⟩
theorem add_two (f1 f2 s1 s2 : Nat) (h : f1 + f2 < 18446744073709551616) (hs : s1 + s2 < 9223372036854775808) : addV [⟨f1, s1⟩, ⟨f2, s2⟩] = ⟨f1 + f2, ((s1 + s2 : Nat) : Int)⟩ := by
  have e1 : ((0 + f1) % 18446744073709551616 + f2) % 18446744073709551616 = f1 + f2 := by omega
  have e2 : IntKind.i64.wrap (IntKind.i64.wrap (0 + (s1 : Int)) + (s2 : Int)) = ((s1 + s2 : Nat) : Int) := by rw [IntKind.wrap_i64, IntKind.wrap_i64]; omega
  show RateD.mk (((0 + f1) % 18446744073709551616 + f2) % 18446744073709551616) (IntKind.i64.wrap (IntKind.i64.wrap (0 + (s1 : Int)) + (s2 : Int))) = _
  rw [e1, e2]

set_option maxRecDepth 100000 in
set_option maxHeartbeats 4000000 in
theorem walk (per size : Int) (a b : RateD) (w : World) (ha : a.Fit) (hb : b.Fit) :
    Calls Try.prog 6 #[.int .i64 per, .int .i64 size, .agg #[.int .u64 (a.fee : Int), .int .i64 a.size], .agg #[.int .u64 (b.fee : Int), .int .i64 b.size]] w (YesK w) := by
  obtain ⟨fa, na⟩ := a
  obtain ⟨fb, nb⟩ := b
  dsimp only
  clear ha hb
  -- the numbers
  obtain ⟨p0, ep, hp0⟩ := kmask_i64 per 20 (by omega) 1048575 (by decide)
  obtain ⟨z0, ez, hz0⟩ := kmask_i64 size 16 (by omega) 65535 (by decide)
  obtain ⟨xf, exf, hxf⟩ := kmask_u64 (fa : Int) 24 (by omega) 16777215 (by decide)
  obtain ⟨xz, exz, hxz⟩ := kmask_i64 na 16 (by omega) 65535 (by decide)
  obtain ⟨yf, eyf, hyf⟩ := kmask_u64 (fb : Int) 24 (by omega) 16777215 (by decide)
  obtain ⟨yz, eyz, hyz⟩ := kmask_i64 nb 16 (by omega) 65535 (by decide)
  obtain ⟨k, hk1, hk2, hk3, hk4⟩ := enough (p0 + 1) (z0 + 1) (by omega) (by omega) (by omega) (by omega)
  have HN := Lib.hid (fun W => need_any (p0 + 1) ((z0 + 1 : Nat) : Int) (by omega) W)
  rw [need_of (z0 + 1) (by omega), hk1] at HN
  have HC1 := Lib.hid (fun W => compare_any (k + 1) ((z0 + 1 : Nat) : Int) (p0 + 1) 1000 (by omega) (by omega) (by omega) (by omega) W)
  have HC2 := Lib.hid (fun W => compare_any k ((z0 + 1 : Nat) : Int) (p0 + 1) 1000 (by omega) (by omega) (by omega) (by omega) W)
  obtain ⟨V1, hV1⟩ : ∃ V, rateV (k + 1) ((z0 + 1 : Nat) : Int) (p0 + 1) 1000 = V := ⟨_, rfl⟩
  have hV10 : 0 ≤ V1 := by
    rw [← hV1]
    unfold rateV
    rw [size_of (z0 + 1) (by omega), show sizeN 1000 = 1000 from rfl]
    rcases Nat.eq_or_lt_of_le hk3 with e | e
    · rw [ord_eq e.symm]; omega
    · rw [ord_gt e]; omega
  have hV2 : rateV k ((z0 + 1 : Nat) : Int) (p0 + 1) 1000 = -1 := by
    unfold rateV
    rw [size_of (z0 + 1) (by omega), show sizeN 1000 = 1000 from rfl, ord_lt hk4]
  rw [hV1] at HC1
  rw [hV2] at HC2
  have gV : (V1 < 0) = False := by simp; omega
  have gk : (0 < ((k + 1 : Nat) : Int)) = True := by simp <;> omega
  have gk2 : (0 < k + 1) = True := by simp
  have ek : IntKind.u64.wrap (((k + 1 : Nat) : Int) - 1) = (k : Int) := by rw [IntKind.wrap_u64]; omega
  have ep1 : IntKind.i64.wrap ((p0 : Int) + 1) = ((p0 + 1 : Nat) : Int) := by rw [IntKind.wrap_i64]; omega
  have ez1 : IntKind.i64.wrap ((z0 : Int) + 1) = ((z0 + 1 : Nat) : Int) := by rw [IntKind.wrap_i64]; omega
  have exz1 : IntKind.i64.wrap ((xz : Int) + 1) = ((xz + 1 : Nat) : Int) := by rw [IntKind.wrap_i64]; omega
  have eyz1 : IntKind.i64.wrap ((yz : Int) + 1) = ((yz + 1 : Nat) : Int) := by rw [IntKind.wrap_i64]; omega
  have epw : IntKind.u64.wrap ((p0 + 1 : Nat) : Int) = ((p0 + 1 : Nat) : Int) := fit_u64 _ (by omega)
  obtain ⟨sx, hsx⟩ : ∃ s, xz + 1 = s := ⟨_, rfl⟩
  obtain ⟨sy, hsy⟩ : ∃ s, yz + 1 = s := ⟨_, rfl⟩
  rw [hsx] at exz1
  rw [hsy] at eyz1
  have HXY := Lib.hid (show xf ≤ 16777215 ∧ yf ≤ 16777215 ∧ 0 < sx ∧ sx ≤ 65536 ∧ 0 < sy ∧ sy ≤ 65536 by omega)
  generalize p0 + 1 = P at *
  generalize z0 + 1 = Z at *
  generalize k + 1 = K at *
  clear hp0 hz0 hxf hxz hyf hyz hk1 hk2 hk3 hk4 hV1 hV10 hV2 hsx hsy
  have HAW := Lib.hid awake7_any
  -- the worlds
  obtain ⟨W1, hW1⟩ : ∃ W, (w.alloc (.cells #[.int .u64 (fa : Int), .int .i64 na] 24)).alloc (.cells #[.int .u64 (fb : Int), .int .i64 nb] 24) = W := ⟨_, rfl⟩
  have HB1 := Lib.hid (show Below w.heap.size w W1 by rw [← hW1]; exact ((Below.refl _ _).alloc (Nat.le_refl _) _).alloc (by simp) _)
  have HX := Lib.hid (fun W (hW : Below W1.heap.size W1 W) => by
    have hb : Box W w.heap.size 24 #[.int .u64 (fa : Int), .int .i64 na] := by
      have h0 : Box W1 w.heap.size 24 #[.int .u64 (fa : Int), .int .i64 na] := by rw [← hW1]; exact (Box.fresh _ _ _).below ((Below.refl _ _).alloc (by simp) _)
      exact h0.below hW
    have hb2 : Box W (w.heap.size + 1) 24 #[.int .u64 (fb : Int), .int .i64 nb] := by
      have h0 : Box W1 (w.heap.size + 1) 24 #[.int .u64 (fb : Int), .int .i64 nb] := by
        have := Box.fresh (w.alloc (.cells #[.int .u64 (fa : Int), .int .i64 na] 24)) 24 #[.int .u64 (fb : Int), .int .i64 nb]
        rw [← hW1]
        simpa using this
      exact h0.below hW
    exact (show W.cell? ⟨w.heap.size, 0, none⟩ = some (.int .u64 (fa : Int)) ∧ W.cell? ⟨w.heap.size, 1, none⟩ = some (.int .i64 na) ∧ W.cell? ⟨w.heap.size + 1, 0, none⟩ = some (.int .u64 (fb : Int)) ∧ W.cell? ⟨w.heap.size + 1, 1, none⟩ = some (.int .i64 nb) from ⟨hb.cell 0, hb.cell 1, hb2.cell 0, hb2.cell 1⟩))
  have HW1 := Lib.hid hW1
  clear hW1
  go_enter Try.func6, Try.ntmps6
  go_wp2_with fail
  rw [HW1.out]
  clear HW1
  refine (HN.out _).mono ?_
  rintro e w2 ⟨rfl, hb2⟩
  have HB2 := Lib.hid hb2
  clear hb2 HN
  -- the rate at hand
  have e3 : (w2.alloc (.cells #[.int .u64 (P : Int), .int .i64 1000] 24)).cell? ⟨w2.heap.size, 0, none⟩ = some (.int .u64 (P : Int)) := (Box.fresh w2 24 #[.int .u64 (P : Int), .int .i64 1000]).cell 0
  have e4 : (w2.alloc (.cells #[.int .u64 (P : Int), .int .i64 1000] 24)).cell? ⟨w2.heap.size, 1, none⟩ = some (.int .i64 1000) := (Box.fresh w2 24 #[.int .u64 (P : Int), .int .i64 1000]).cell 1
  have HY := Lib.hid (Box.fresh w2 24 #[.int .u64 (P : Int), .int .i64 1000])
  have HB3 := Lib.hid (HB2.out.alloc HB2.out.size (.cells #[.int .u64 (P : Int), .int .i64 1000] 24))
  go_wp2_with fail
  refine (HC1.out _).mono ?_
  rintro e w4 ⟨rfl, hb4⟩
  obtain ⟨e5, e6⟩ := (show w4.cell? ⟨w2.heap.size, 0, none⟩ = some (.int .u64 (P : Int)) ∧ w4.cell? ⟨w2.heap.size, 1, none⟩ = some (.int .i64 1000) from ⟨(HY.out.below hb4).cell 0, (HY.out.below hb4).cell 1⟩)
  replace HB3 := Lib.hid (HB3.out.trans (hb4.mono HB3.out.size))
  clear hb4 HC1 HY e3 e4
  go_wp2_with fail
  refine (HC2.out _).mono ?_
  rintro e w5 ⟨rfl, hb5⟩
  replace HB3 := Lib.hid (HB3.out.trans (hb5.mono HB3.out.size))
  clear hb5 HC2 e5 e6 HB2
  obtain ⟨a1, a2, a3, a4⟩ := HX.out _ HB3.out
  obtain ⟨b1, b2, b3, b4⟩ := HX.out (w5.alloc (.cells #[.int .u64 (xf : Int), .int .i64 (sx : Int)] 24)) (HB3.out.alloc HB3.out.size _)
  clear HX a3 a4 b1 b2
  obtain ⟨W7, hW7⟩ : ∃ W, (w5.alloc (.cells #[.int .u64 (xf : Int), .int .i64 (sx : Int)] 24)).alloc (.cells #[.int .u64 (yf : Int), .int .i64 (sy : Int)] 24) = W := ⟨_, rfl⟩
  have x7 : Box W7 w5.heap.size 24 #[.int .u64 (xf : Int), .int .i64 (sx : Int)] := by rw [← hW7]; exact (Box.fresh _ _ _).below ((Below.refl _ _).alloc (by simp) _)
  have y7 : Box W7 (w5.heap.size + 1) 24 #[.int .u64 (yf : Int), .int .i64 (sy : Int)] := by
    have := Box.fresh (w5.alloc (.cells #[.int .u64 (xf : Int), .int .i64 (sx : Int)] 24)) 24 #[.int .u64 (yf : Int), .int .i64 (sy : Int)]
    rw [← hW7]
    simpa using this
  have HB7 : Hid (Below w.heap.size w W7) := Lib.hid (by
    have h5 := HB1.out.trans (HB3.out.mono HB1.out.size)
    rw [← hW7]
    exact (h5.alloc h5.size _).alloc (Nat.le_trans h5.size (by simp)) _)
  have h75 : w5.heap.size + 1 < W7.heap.size := y7.lt
  have hg5 : w.heap.size ≤ w5.heap.size := (HB1.out.trans (HB3.out.mono HB1.out.size)).size
  have HG := Lib.hid (And.intro h75 hg5)
  have c1 : W7.cell? ⟨w5.heap.size, 0, none⟩ = some (.int .u64 (xf : Int)) := x7.cell 0
  have c2 : W7.cell? ⟨w5.heap.size, 1, none⟩ = some (.int .i64 (sx : Int)) := x7.cell 1
  have c3 : W7.cell? ⟨w5.heap.size + 1, 0, none⟩ = some (.int .u64 (yf : Int)) := y7.cell 0
  have c4 : W7.cell? ⟨w5.heap.size + 1, 1, none⟩ = some (.int .i64 (sy : Int)) := y7.cell 1
  have HX7 := Lib.hid (And.intro x7 y7)
  have HW7 := Lib.hid hW7
  clear hW7 x7 y7 h75 hg5 HB1 HB3
  go_wp2_with fail
  rw [HW7.out]
  clear HW7 a1 a2 b3 b4
  obtain ⟨q1, q2, q3, q4, q5, q6⟩ := HXY.out
  have HC8 := Lib.hid (fun W => compare_any xf (sx : Int) yf (sy : Int) (by omega) (by omega) (by omega) (by omega) W)
  by_cases hgt : yf * sx < xf * sy
  · have hv : rateV xf (sx : Int) yf (sy : Int) = 1 := by unfold rateV; rw [size_of sx q3, size_of sy q5, ord_gt hgt]
    rw [hv] at HC8
    clear hv q1 q2 q3 q4 q5 q6
    refine (HC8.out _).mono ?_
    rintro e w8 ⟨rfl, hb8⟩
    have x8 := HX7.out.1.below hb8
    have y8 := HX7.out.2.below hb8
    have d1 : w8.cell? ⟨w5.heap.size, 0, none⟩ = some (.int .u64 (xf : Int)) := x8.cell 0
    have d2 : w8.cell? ⟨w5.heap.size, 1, none⟩ = some (.int .i64 (sx : Int)) := x8.cell 1
    have d3 : w8.cell? ⟨w5.heap.size + 1, 0, none⟩ = some (.int .u64 (yf : Int)) := y8.cell 0
    have d4 : w8.cell? ⟨w5.heap.size + 1, 1, none⟩ = some (.int .i64 (sy : Int)) := y8.cell 1
    have m1 := x8.warm 0
    have m2 := x8.warm 1
    have m3 := y8.warm 0
    have m4 := y8.warm 1
    clear c1 c2 c3 c4 HC8
    go_wp2_with fail
    have o1 := Only.set (Only.refl w5.heap.size w8) 0 (.int .u64 (yf : Int))
    have o2 := Only.set o1 1 (.int .i64 (sy : Int))
    have x9 := (x8.set 0 (.int .u64 (yf : Int))).set 1 (.int .i64 (sy : Int))
    rw [set_two] at x9
    have y9 := y8.keep o2 (by omega)
    have p1 := Only.set (Only.refl (w5.heap.size + 1) ((w8.setCell ⟨w5.heap.size, 0, none⟩ (.int .u64 (yf : Int))).setCell ⟨w5.heap.size, 1, none⟩ (.int .i64 (sy : Int)))) 0 (.int .u64 (xf : Int))
    have p2 := Only.set p1 1 (.int .i64 (sx : Int))
    replace x9 := x9.keep p2 (by omega)
    replace y9 := (y9.set 0 (.int .u64 (xf : Int))).set 1 (.int .i64 (sx : Int))
    rw [set_two] at y9
    have HB8 : Below w.heap.size w w8 := HB7.out.trans (hb8.mono HB7.out.size)
    have hb9 : Below w.heap.size w ((w8.setCell ⟨w5.heap.size, 0, none⟩ (.int .u64 (yf : Int))).setCell ⟨w5.heap.size, 1, none⟩ (.int .i64 (sy : Int))) := Only.below HB8 o2 HG.out.2
    have HB9 := Lib.hid (Only.below hb9 p2 (Nat.le_trans HG.out.2 (Nat.le_succ _)))
    obtain ⟨W9, hW9⟩ : ∃ W, (((w8.setCell ⟨w5.heap.size, 0, none⟩ (.int .u64 (yf : Int))).setCell ⟨w5.heap.size, 1, none⟩ (.int .i64 (sy : Int))).setCell ⟨w5.heap.size + 1, 0, none⟩ (.int .u64 (xf : Int))).setCell ⟨w5.heap.size + 1, 1, none⟩ (.int .i64 (sx : Int)) = W := ⟨_, rfl⟩
    have hs9 : W9.heap.size = w8.heap.size := by rw [← hW9, setCell_size, setCell_size, setCell_size, setCell_size]
    rw [hW9] at HB9 x9 y9 ⊢
    clear o1 o2 p1 p2 hb9 hW9 x8 y8 d1 d2 d3 d4 m1 m2 m3 m4 hb8 HB8 HX7 HB7
    have hle : yf * sx ≤ xf * sy := Nat.le_of_lt hgt
    obtain ⟨q1, q2, q3, q4, q5, q6⟩ := HXY.out
    clear hgt
    have hadd := add_any _ _ _ (two_rates W9 ⟨yf, (sy : Int)⟩ ⟨xf, (sx : Int)⟩ ⟨by show yf < _; omega, by show _ ≤ (sy : Int); omega, by show (sy : Int) ≤ _; omega⟩ ⟨by show xf < _; omega, by show _ ≤ (sx : Int); omega, by show (sx : Int) ≤ _; omega⟩ (yf : Int) (xf : Int) rfl rfl) (by simp [maxLen])
    rw [add_two yf xf sy sx (by omega) (by omega), hs9] at hadd
    simp only [RateD.val] at hadd
    obtain ⟨FZ, hFZ⟩ : ∃ v, yf + xf = v := ⟨_, rfl⟩
    obtain ⟨SZ, hSZ⟩ : ∃ v, sy + sx = v := ⟨_, rfl⟩
    rw [hFZ, hSZ] at hadd
    have CA := Lib.hid (fun W => compare_any yf (sy : Int) FZ (SZ : Int) (by omega) (by omega) (by omega) (by omega) W)
    have CB := Lib.hid (fun W => compare_any FZ (SZ : Int) xf (sx : Int) (by omega) (by omega) (by omega) (by omega) W)
    have CC := Lib.hid (fun W => compare_any yf (sy : Int) xf (sx : Int) (by omega) (by omega) (by omega) (by omega) W)
    have hbt := between yf xf sy sx hle
    unfold rateV at CA CB CC
    rw [size_of sy (by omega), size_of SZ (by omega)] at CA
    rw [size_of SZ (by omega), size_of sx (by omega)] at CB
    rw [size_of sy (by omega), size_of sx (by omega)] at CC
    rw [hFZ, hSZ] at hbt
    refine hadd.mono ?_
    rintro e w11 ⟨rfl, hb11⟩
    have hal : Below W9.heap.size W9 (W9.alloc (.cells #[.int .u64 (yf : Int), .int .i64 (sy : Int), .int .u64 (xf : Int), .int .i64 (sx : Int)] 24)) := (Below.refl _ _).alloc (Nat.le_refl _) _
    have x11 := (x9.below hal).below hb11
    have y11 := (y9.below hal).below hb11
    have HB11 : Hid (Below w.heap.size w w11) := Lib.hid (by
      have h5 := HB9.out.trans (hal.mono HB9.out.size)
      exact h5.trans (hb11.mono h5.size))
    obtain ⟨W12, hW12⟩ : ∃ W, w11.alloc (.cells #[.int .u64 (FZ : Int), .int .i64 (SZ : Int)] 24) = W := ⟨_, rfl⟩
    have z12 := Box.fresh w11 24 #[.int .u64 (FZ : Int), .int .i64 (SZ : Int)]
    have hal2 : Below w11.heap.size w11 W12 := by rw [← hW12]; exact (Below.refl _ _).alloc (Nat.le_refl _) _
    have x12 := x11.below hal2
    have y12 := y11.below hal2
    rw [hW12] at z12
    have HX12 := Lib.hid (fun W (hW : Below W12.heap.size W12 W) => show W.cell? ⟨w5.heap.size, 0, none⟩ = some (.int .u64 (yf : Int)) ∧ W.cell? ⟨w5.heap.size, 1, none⟩ = some (.int .i64 (sy : Int)) ∧ W.cell? ⟨w5.heap.size + 1, 0, none⟩ = some (.int .u64 (xf : Int)) ∧ W.cell? ⟨w5.heap.size + 1, 1, none⟩ = some (.int .i64 (sx : Int)) ∧ W.cell? ⟨w11.heap.size, 0, none⟩ = some (.int .u64 (FZ : Int)) ∧ W.cell? ⟨w11.heap.size, 1, none⟩ = some (.int .i64 (SZ : Int)) from ⟨(x12.below hW).cell 0, (x12.below hW).cell 1, (y12.below hW).cell 0, (y12.below hW).cell 1, (z12.below hW).cell 0, (z12.below hW).cell 1⟩)
    have HB12 := Lib.hid (HB11.out.trans (hal2.mono HB11.out.size))
    have hbd : Below W12.heap.size W12 W12.drew := (Below.refl _ _).drew
    have h12 := HX12.out _ hbd
    have HW12 := Lib.hid hW12
    have HBT := Lib.hid hbt
    clear hadd hbt hFZ hSZ hb11 hal hal2 x11 y11 x12 y12 z12 hW12 x9 y9 HB9 HB11 hs9 hle q1 q2 q3 q4 q5 q6 HXY
    go_wp2_with fail
    rw [HW12.out]
    clear HW12
    rcases HBT.out with ⟨_, v1, v2, v3⟩ | ⟨_, v1, v2, v3⟩
    all_goals
      clear HBT
      rw [v1] at CA
      rw [v2] at CB
      rw [v3] at CC
      clear v1 v2 v3
      refine wp_region_noPanic ?_
      refine wp_region_held_drew (S := (fun W => W.cell? ⟨w5.heap.size, 0, none⟩ = some (.int .u64 (yf : Int)) ∧ W.cell? ⟨w5.heap.size, 1, none⟩ = some (.int .i64 (sy : Int)) ∧ W.cell? ⟨w5.heap.size + 1, 0, none⟩ = some (.int .u64 (xf : Int)) ∧ W.cell? ⟨w5.heap.size + 1, 1, none⟩ = some (.int .i64 (sx : Int)) ∧ W.cell? ⟨w11.heap.size, 0, none⟩ = some (.int .u64 (FZ : Int)) ∧ W.cell? ⟨w11.heap.size, 1, none⟩ = some (.int .i64 (SZ : Int)))) (by kernel_rfl) ?_ (fun hHeld => ?_)
      · exact h12
      refine wpAnyH_take (i := 0) (oi := ⟨some 72, _, _, _, _, _⟩) (v := ?_) rfl (by kernel_rfl) (by kernel_rfl) (by kernel_rfl) (fun _ _ _ h => h) (Or.inl ⟨by rfl, ?_⟩) hHeld ?_
      rotate_left
      · (intro wx hSw; (try dsimp only at hSw); go_simp; try with_reducible rfl)
      try simp only [Act.put, List.setIfInBounds_toArray, List.set_cons_zero, List.set_cons_succ]
      refine wpAnyH_take (i := 1) (oi := ⟨some 73, _, _, _, _, _⟩) (v := ?_) rfl (by kernel_rfl) (by kernel_rfl) (by kernel_rfl) (fun _ _ _ h => h) (Or.inl ⟨by rfl, ?_⟩) hHeld ?_
      rotate_left
      · (intro wx hSw; (try dsimp only at hSw); go_simp; try with_reducible rfl)
      try simp only [Act.put, List.setIfInBounds_toArray, List.set_cons_zero, List.set_cons_succ]
      refine wpAnyH_ready (rs := [2]) (by kernel_rfl) (by simp) (AllReadyH.cons (o := ⟨some 74, _, _, _, _, _⟩) rfl (fun K hK => ?_) AllReadyH.nil)
      go_simp
      refine (CA.out _).mono ?_
      rintro e u1 ⟨rfl, hu1⟩
      replace hbd := hbd.trans (hu1.mono hbd.size)
      clear hu1
      refine hK.out _ _ ?_ (fun hHeld => ?_)
      · exact HX12.out _ hbd
      clear hK K
      try simp only [Act.put, List.setIfInBounds_toArray, List.set_cons_zero, List.set_cons_succ]
      refine wpAnyH_take (i := 3) (oi := ⟨some 75, _, _, _, _, _⟩) (v := ?_) rfl (by kernel_rfl) (by kernel_rfl) (by kernel_rfl) (fun _ _ _ h => h) (Or.inl ⟨by rfl, ?_⟩) hHeld ?_
      rotate_left
      · (intro wx hSw; (try dsimp only at hSw); go_simp; try with_reducible rfl)
      try simp only [Act.put, List.setIfInBounds_toArray, List.set_cons_zero, List.set_cons_succ]
      refine wpAnyH_take (i := 4) (oi := ⟨some 76, _, _, _, _, _⟩) (v := ?_) rfl (by kernel_rfl) (by kernel_rfl) (by kernel_rfl) (fun _ _ _ h => h) (Or.inl ⟨by rfl, ?_⟩) hHeld ?_
      rotate_left
      · (intro wx hSw; (try dsimp only at hSw); go_simp; try with_reducible rfl)
      try simp only [Act.put, List.setIfInBounds_toArray, List.set_cons_zero, List.set_cons_succ]
      refine wpAnyH_take (i := 5) (oi := ⟨some 77, _, _, _, _, _⟩) (v := ?_) rfl (by kernel_rfl) (by kernel_rfl) (by kernel_rfl) (fun _ _ _ h => h) (Or.inl ⟨by rfl, ?_⟩) hHeld ?_
      rotate_left
      · (intro wx hSw; (try dsimp only at hSw); go_simp; try with_reducible rfl)
      try simp only [Act.put, List.setIfInBounds_toArray, List.set_cons_zero, List.set_cons_succ]
      refine wpAnyH_take (i := 6) (oi := ⟨some 78, _, _, _, _, _⟩) (v := ?_) rfl (by kernel_rfl) (by kernel_rfl) (by kernel_rfl) (fun _ _ _ h => h) (Or.inl ⟨by rfl, ?_⟩) hHeld ?_
      rotate_left
      · (intro wx hSw; (try dsimp only at hSw); go_simp; try with_reducible rfl)
      try simp only [Act.put, List.setIfInBounds_toArray, List.set_cons_zero, List.set_cons_succ]
      refine wpAnyH_ready (rs := [7]) (by kernel_rfl) (by simp) (AllReadyH.cons (o := ⟨some 79, _, _, _, _, _⟩) rfl (fun K hK => ?_) AllReadyH.nil)
      go_simp
      refine (CB.out _).mono ?_
      rintro e u2 ⟨rfl, hu2⟩
      replace hbd := hbd.trans (hu2.mono hbd.size)
      clear hu2
      refine hK.out _ _ ?_ (fun hHeld => ?_)
      · exact HX12.out _ hbd
      clear hK K
      try simp only [Act.put, List.setIfInBounds_toArray, List.set_cons_zero, List.set_cons_succ]
      refine wpAnyH_take (i := 8) (oi := ⟨some 80, _, _, _, _, _⟩) (v := ?_) rfl (by kernel_rfl) (by kernel_rfl) (by kernel_rfl) (fun _ _ _ h => h) (Or.inl ⟨by rfl, ?_⟩) hHeld ?_
      rotate_left
      · (intro wx hSw; (try dsimp only at hSw); go_simp; try with_reducible rfl)
      try simp only [Act.put, List.setIfInBounds_toArray, List.set_cons_zero, List.set_cons_succ]
      refine wpAnyH_take (i := 9) (oi := ⟨some 81, _, _, _, _, _⟩) (v := ?_) rfl (by kernel_rfl) (by kernel_rfl) (by kernel_rfl) (fun _ _ _ h => h) (Or.inl ⟨by rfl, ?_⟩) hHeld ?_
      rotate_left
      · (intro wx hSw; (try dsimp only at hSw); go_simp; try with_reducible rfl)
      try simp only [Act.put, List.setIfInBounds_toArray, List.set_cons_zero, List.set_cons_succ]
      refine wpAnyH_take (i := 10) (oi := ⟨some 82, _, _, _, _, _⟩) (v := ?_) rfl (by kernel_rfl) (by kernel_rfl) (by kernel_rfl) (fun _ _ _ h => h) (Or.inl ⟨by rfl, ?_⟩) hHeld ?_
      rotate_left
      · (intro wx hSw; (try dsimp only at hSw); go_simp; try with_reducible rfl)
      try simp only [Act.put, List.setIfInBounds_toArray, List.set_cons_zero, List.set_cons_succ]
      refine wpAnyH_take (i := 11) (oi := ⟨some 83, _, _, _, _, _⟩) (v := ?_) rfl (by kernel_rfl) (by kernel_rfl) (by kernel_rfl) (fun _ _ _ h => h) (Or.inl ⟨by rfl, ?_⟩) hHeld ?_
      rotate_left
      · (intro wx hSw; (try dsimp only at hSw); go_simp; try with_reducible rfl)
      try simp only [Act.put, List.setIfInBounds_toArray, List.set_cons_zero, List.set_cons_succ]
      refine wpAnyH_take (i := 12) (oi := ⟨some 84, _, _, _, _, _⟩) (v := ?_) rfl (by kernel_rfl) (by kernel_rfl) (by kernel_rfl) (fun _ _ _ h => h) (Or.inl ⟨by rfl, ?_⟩) hHeld ?_
      rotate_left
      · (intro wx hSw; (try dsimp only at hSw); go_simp; try with_reducible rfl)
      try simp only [Act.put, List.setIfInBounds_toArray, List.set_cons_zero, List.set_cons_succ]
      refine wpAnyH_take (i := 15) (oi := ⟨some 87, _, _, _, _, _⟩) (v := ?_) rfl (by kernel_rfl) (by kernel_rfl) (by kernel_rfl) (fun _ _ _ h => h) (Or.inl ⟨by rfl, ?_⟩) hHeld ?_
      rotate_left
      · (intro wx hSw; (try dsimp only at hSw); go_simp; try with_reducible rfl)
      try simp only [Act.put, List.setIfInBounds_toArray, List.set_cons_zero, List.set_cons_succ]
      refine wpAnyH_take (i := 16) (oi := ⟨some 88, _, _, _, _, _⟩) (v := ?_) rfl (by kernel_rfl) (by kernel_rfl) (by kernel_rfl) (fun _ _ _ h => h) (Or.inl ⟨by rfl, ?_⟩) hHeld ?_
      rotate_left
      · (intro wx hSw; (try dsimp only at hSw); go_simp; try with_reducible rfl)
      try simp only [Act.put, List.setIfInBounds_toArray, List.set_cons_zero, List.set_cons_succ]
      refine wpAnyH_ready (rs := [13]) (by kernel_rfl) (by simp) (AllReadyH.cons (o := ⟨some 85, _, _, _, _, _⟩) rfl (fun K hK => ?_) AllReadyH.nil)
      go_simp
      refine (CC.out _).mono ?_
      rintro e u3 ⟨rfl, hu3⟩
      replace hbd := hbd.trans (hu3.mono hbd.size)
      clear hu3
      refine hK.out _ _ ?_ (fun hHeld => ?_)
      · exact HX12.out _ hbd
      clear hK K
      try simp only [Act.put, List.setIfInBounds_toArray, List.set_cons_zero, List.set_cons_succ]
      refine wpAnyH_take (i := 14) (oi := ⟨some 86, _, _, _, _, _⟩) (v := ?_) rfl (by kernel_rfl) (by kernel_rfl) (by kernel_rfl) (fun _ _ _ h => h) (Or.inl ⟨by rfl, ?_⟩) hHeld ?_
      rotate_left
      · (intro wx hSw; (try dsimp only at hSw); go_simp; try with_reducible rfl)
      try simp only [Act.put, List.setIfInBounds_toArray, List.set_cons_zero, List.set_cons_succ]
      refine wpAnyH_ready (rs := [17]) (by kernel_rfl) (by simp) (AllReadyH.cons (o := ⟨some 89, _, _, _, _, _⟩) rfl (fun K hK => ?_) AllReadyH.nil)
      go_simp
      refine (CA.out _).mono ?_
      rintro e u4 ⟨rfl, hu4⟩
      replace hbd := hbd.trans (hu4.mono hbd.size)
      clear hu4
      refine hK.out _ _ ?_ (fun hHeld => ?_)
      · exact HX12.out _ hbd
      clear hK K
      try simp only [Act.put, List.setIfInBounds_toArray, List.set_cons_zero, List.set_cons_succ]
      refine wpAnyH_take (i := 18) (oi := ⟨some 90, _, _, _, _, _⟩) (v := ?_) rfl (by kernel_rfl) (by kernel_rfl) (by kernel_rfl) (fun _ _ _ h => h) (Or.inl ⟨by rfl, ?_⟩) hHeld ?_
      rotate_left
      · (intro wx hSw; (try dsimp only at hSw); go_simp; try with_reducible rfl)
      try simp only [Act.put, List.setIfInBounds_toArray, List.set_cons_zero, List.set_cons_succ]
      refine wpAnyH_take (i := 19) (oi := ⟨some 91, _, _, _, _, _⟩) (v := ?_) rfl (by kernel_rfl) (by kernel_rfl) (by kernel_rfl) (fun _ _ _ h => h) (Or.inl ⟨by rfl, ?_⟩) hHeld ?_
      rotate_left
      · (intro wx hSw; (try dsimp only at hSw); go_simp; try with_reducible rfl)
      try simp only [Act.put, List.setIfInBounds_toArray, List.set_cons_zero, List.set_cons_succ]
      refine wpAnyH_take (i := 20) (oi := ⟨some 92, _, _, _, _, _⟩) (v := ?_) rfl (by kernel_rfl) (by kernel_rfl) (by kernel_rfl) (fun _ _ _ h => h) (Or.inl ⟨by rfl, ?_⟩) hHeld ?_
      rotate_left
      · (intro wx hSw; (try dsimp only at hSw); go_simp; try with_reducible rfl)
      try simp only [Act.put, List.setIfInBounds_toArray, List.set_cons_zero, List.set_cons_succ]
      refine wpAnyH_take (i := 21) (oi := ⟨some 93, _, _, _, _, _⟩) (v := ?_) rfl (by kernel_rfl) (by kernel_rfl) (by kernel_rfl) (fun _ _ _ h => h) (Or.inl ⟨by rfl, ?_⟩) hHeld ?_
      rotate_left
      · (intro wx hSw; (try dsimp only at hSw); go_simp; try with_reducible rfl)
      try simp only [Act.put, List.setIfInBounds_toArray, List.set_cons_zero, List.set_cons_succ]
      refine wpAnyH_ready (rs := [22]) (by kernel_rfl) (by simp) (AllReadyH.cons (o := ⟨some 94, _, _, _, _, _⟩) rfl (fun K hK => ?_) AllReadyH.nil)
      go_simp
      refine (HAW.out _).mono ?_
      rintro e u5 ⟨rfl, hu5⟩
      replace hbd := hbd.trans (hu5.mono hbd.size)
      clear hu5
      refine hK.out _ _ ?_ (fun hHeld => ?_)
      · exact HX12.out _ hbd
      clear hK K
      try simp only [Act.put, List.setIfInBounds_toArray, List.set_cons_zero, List.set_cons_succ]
      refine wpAnyH_take (i := 23) (oi := ⟨some 95, _, _, _, _, _⟩) (v := ?_) rfl (by kernel_rfl) (by kernel_rfl) (by kernel_rfl) (fun _ _ _ h => h) (Or.inl ⟨by rfl, ?_⟩) hHeld ?_
      rotate_left
      · (intro wx hSw; (try dsimp only at hSw); go_simp; try with_reducible rfl)
      try simp only [Act.put, List.setIfInBounds_toArray, List.set_cons_zero, List.set_cons_succ]
      refine wpAnyH_take (i := 24) (oi := ⟨some 8, _, _, _, _, _⟩) (v := ?_) rfl (by kernel_rfl) (by kernel_rfl) (by kernel_rfl) (fun _ _ _ h => h) (Or.inl ⟨by rfl, ?_⟩) hHeld ?_
      rotate_left
      · (intro wx hSw; (try dsimp only at hSw); go_simp; try with_reducible rfl)
      try simp only [Act.put, List.setIfInBounds_toArray, List.set_cons_zero, List.set_cons_succ]
      refine wpAnyH_done (by kernel_rfl) ?_ _
      refine NoPanic.normal ?_
      have HB13 := Lib.hid (HB12.out.trans (hbd.mono HB12.out.size))
      clear hbd hHeld HX12 HB12 h12 CA CB CC
      go_wp2
      go_ret
      exact ⟨rfl, HB13.out⟩
  · have hle : xf * sy ≤ yf * sx := by omega
    obtain ⟨V8, hV8⟩ : ∃ V, rateV xf (sx : Int) yf (sy : Int) = V := ⟨_, rfl⟩
    have hv8 : V8 ≤ 0 := by
      rw [← hV8]
      unfold rateV
      rw [size_of sx q3, size_of sy q5]
      rcases Nat.eq_or_lt_of_le hle with e | e
      · rw [ord_eq e]; omega
      · rw [ord_lt e]; omega
    have gV8 : (0 < V8) = False := by simp; omega
    rw [hV8] at HC8
    clear hV8 hv8 hgt
    refine (HC8.out _).mono ?_
    rintro e W9 ⟨rfl, hb8⟩
    have x9 := HX7.out.1.below hb8
    have y9 := HX7.out.2.below hb8
    have d1 : W9.cell? ⟨w5.heap.size, 0, none⟩ = some (.int .u64 (xf : Int)) := x9.cell 0
    have d2 : W9.cell? ⟨w5.heap.size, 1, none⟩ = some (.int .i64 (sx : Int)) := x9.cell 1
    have d3 : W9.cell? ⟨w5.heap.size + 1, 0, none⟩ = some (.int .u64 (yf : Int)) := y9.cell 0
    have d4 : W9.cell? ⟨w5.heap.size + 1, 1, none⟩ = some (.int .i64 (sy : Int)) := y9.cell 1
    have HB9 : Hid (Below w.heap.size w W9) := Lib.hid (HB7.out.trans (hb8.mono HB7.out.size))
    have hs9 : W9.heap.size = W9.heap.size := rfl
    have HLE := Lib.hid hle
    have HS9 := Lib.hid (And.intro x9 y9)
    clear c1 c2 c3 c4 HC8 hb8 HX7 HB7 hs9 hle x9 y9 q1 q2 q3 q4 q5 q6
    go_wp2_with fail
    clear d1 d2 d3 d4 gV8
    have hle := HLE.out
    obtain ⟨x9, y9⟩ := HS9.out
    obtain ⟨q1, q2, q3, q4, q5, q6⟩ := HXY.out
    have hs9 : W9.heap.size = W9.heap.size := rfl
    clear HLE HS9
    have hadd := add_any _ _ _ (two_rates W9 ⟨xf, (sx : Int)⟩ ⟨yf, (sy : Int)⟩ ⟨by show xf < _; omega, by show _ ≤ (sx : Int); omega, by show (sx : Int) ≤ _; omega⟩ ⟨by show yf < _; omega, by show _ ≤ (sy : Int); omega, by show (sy : Int) ≤ _; omega⟩ (xf : Int) (yf : Int) rfl rfl) (by simp [maxLen])
    rw [add_two xf yf sx sy (by omega) (by omega)] at hadd
    simp only [RateD.val] at hadd
    obtain ⟨FZ, hFZ⟩ : ∃ v, xf + yf = v := ⟨_, rfl⟩
    obtain ⟨SZ, hSZ⟩ : ∃ v, sx + sy = v := ⟨_, rfl⟩
    rw [hFZ, hSZ] at hadd
    have CA := Lib.hid (fun W => compare_any xf (sx : Int) FZ (SZ : Int) (by omega) (by omega) (by omega) (by omega) W)
    have CB := Lib.hid (fun W => compare_any FZ (SZ : Int) yf (sy : Int) (by omega) (by omega) (by omega) (by omega) W)
    have CC := Lib.hid (fun W => compare_any xf (sx : Int) yf (sy : Int) (by omega) (by omega) (by omega) (by omega) W)
    have hbt := between xf yf sx sy hle
    unfold rateV at CA CB CC
    rw [size_of sx (by omega), size_of SZ (by omega)] at CA
    rw [size_of SZ (by omega), size_of sy (by omega)] at CB
    rw [size_of sx (by omega), size_of sy (by omega)] at CC
    rw [hFZ, hSZ] at hbt
    refine hadd.mono ?_
    rintro e w11 ⟨rfl, hb11⟩
    have hal : Below W9.heap.size W9 (W9.alloc (.cells #[.int .u64 (xf : Int), .int .i64 (sx : Int), .int .u64 (yf : Int), .int .i64 (sy : Int)] 24)) := (Below.refl _ _).alloc (Nat.le_refl _) _
    have x11 := (x9.below hal).below hb11
    have y11 := (y9.below hal).below hb11
    have HB11 : Hid (Below w.heap.size w w11) := Lib.hid (by
      have h5 := HB9.out.trans (hal.mono HB9.out.size)
      exact h5.trans (hb11.mono h5.size))
    obtain ⟨W12, hW12⟩ : ∃ W, w11.alloc (.cells #[.int .u64 (FZ : Int), .int .i64 (SZ : Int)] 24) = W := ⟨_, rfl⟩
    have z12 := Box.fresh w11 24 #[.int .u64 (FZ : Int), .int .i64 (SZ : Int)]
    have hal2 : Below w11.heap.size w11 W12 := by rw [← hW12]; exact (Below.refl _ _).alloc (Nat.le_refl _) _
    have x12 := x11.below hal2
    have y12 := y11.below hal2
    rw [hW12] at z12
    have HX12 := Lib.hid (fun W (hW : Below W12.heap.size W12 W) => show W.cell? ⟨w5.heap.size, 0, none⟩ = some (.int .u64 (xf : Int)) ∧ W.cell? ⟨w5.heap.size, 1, none⟩ = some (.int .i64 (sx : Int)) ∧ W.cell? ⟨w5.heap.size + 1, 0, none⟩ = some (.int .u64 (yf : Int)) ∧ W.cell? ⟨w5.heap.size + 1, 1, none⟩ = some (.int .i64 (sy : Int)) ∧ W.cell? ⟨w11.heap.size, 0, none⟩ = some (.int .u64 (FZ : Int)) ∧ W.cell? ⟨w11.heap.size, 1, none⟩ = some (.int .i64 (SZ : Int)) from ⟨(x12.below hW).cell 0, (x12.below hW).cell 1, (y12.below hW).cell 0, (y12.below hW).cell 1, (z12.below hW).cell 0, (z12.below hW).cell 1⟩)
    have HB12 := Lib.hid (HB11.out.trans (hal2.mono HB11.out.size))
    have hbd : Below W12.heap.size W12 W12.drew := (Below.refl _ _).drew
    have h12 := HX12.out _ hbd
    have HW12 := Lib.hid hW12
    have HBT := Lib.hid hbt
    clear hadd hbt hFZ hSZ hb11 hal hal2 x11 y11 x12 y12 z12 hW12 x9 y9 HB9 HB11 hs9 hle q1 q2 q3 q4 q5 q6 HXY
    go_wp2_with fail
    rw [HW12.out]
    clear HW12
    rcases HBT.out with ⟨_, v1, v2, v3⟩ | ⟨_, v1, v2, v3⟩
    all_goals
      clear HBT
      rw [v1] at CA
      rw [v2] at CB
      rw [v3] at CC
      clear v1 v2 v3
      refine wp_region_noPanic ?_
      refine wp_region_held_drew (S := (fun W => W.cell? ⟨w5.heap.size, 0, none⟩ = some (.int .u64 (xf : Int)) ∧ W.cell? ⟨w5.heap.size, 1, none⟩ = some (.int .i64 (sx : Int)) ∧ W.cell? ⟨w5.heap.size + 1, 0, none⟩ = some (.int .u64 (yf : Int)) ∧ W.cell? ⟨w5.heap.size + 1, 1, none⟩ = some (.int .i64 (sy : Int)) ∧ W.cell? ⟨w11.heap.size, 0, none⟩ = some (.int .u64 (FZ : Int)) ∧ W.cell? ⟨w11.heap.size, 1, none⟩ = some (.int .i64 (SZ : Int)))) (by kernel_rfl) ?_ (fun hHeld => ?_)
      · exact h12
      refine wpAnyH_take (i := 0) (oi := ⟨some 72, _, _, _, _, _⟩) (v := ?_) rfl (by kernel_rfl) (by kernel_rfl) (by kernel_rfl) (fun _ _ _ h => h) (Or.inl ⟨by rfl, ?_⟩) hHeld ?_
      rotate_left
      · (intro wx hSw; (try dsimp only at hSw); go_simp; try with_reducible rfl)
      try simp only [Act.put, List.setIfInBounds_toArray, List.set_cons_zero, List.set_cons_succ]
      refine wpAnyH_take (i := 1) (oi := ⟨some 73, _, _, _, _, _⟩) (v := ?_) rfl (by kernel_rfl) (by kernel_rfl) (by kernel_rfl) (fun _ _ _ h => h) (Or.inl ⟨by rfl, ?_⟩) hHeld ?_
      rotate_left
      · (intro wx hSw; (try dsimp only at hSw); go_simp; try with_reducible rfl)
      try simp only [Act.put, List.setIfInBounds_toArray, List.set_cons_zero, List.set_cons_succ]
      refine wpAnyH_ready (rs := [2]) (by kernel_rfl) (by simp) (AllReadyH.cons (o := ⟨some 74, _, _, _, _, _⟩) rfl (fun K hK => ?_) AllReadyH.nil)
      go_simp
      refine (CA.out _).mono ?_
      rintro e u1 ⟨rfl, hu1⟩
      replace hbd := hbd.trans (hu1.mono hbd.size)
      clear hu1
      refine hK.out _ _ ?_ (fun hHeld => ?_)
      · exact HX12.out _ hbd
      clear hK K
      try simp only [Act.put, List.setIfInBounds_toArray, List.set_cons_zero, List.set_cons_succ]
      refine wpAnyH_take (i := 3) (oi := ⟨some 75, _, _, _, _, _⟩) (v := ?_) rfl (by kernel_rfl) (by kernel_rfl) (by kernel_rfl) (fun _ _ _ h => h) (Or.inl ⟨by rfl, ?_⟩) hHeld ?_
      rotate_left
      · (intro wx hSw; (try dsimp only at hSw); go_simp; try with_reducible rfl)
      try simp only [Act.put, List.setIfInBounds_toArray, List.set_cons_zero, List.set_cons_succ]
      refine wpAnyH_take (i := 4) (oi := ⟨some 76, _, _, _, _, _⟩) (v := ?_) rfl (by kernel_rfl) (by kernel_rfl) (by kernel_rfl) (fun _ _ _ h => h) (Or.inl ⟨by rfl, ?_⟩) hHeld ?_
      rotate_left
      · (intro wx hSw; (try dsimp only at hSw); go_simp; try with_reducible rfl)
      try simp only [Act.put, List.setIfInBounds_toArray, List.set_cons_zero, List.set_cons_succ]
      refine wpAnyH_take (i := 5) (oi := ⟨some 77, _, _, _, _, _⟩) (v := ?_) rfl (by kernel_rfl) (by kernel_rfl) (by kernel_rfl) (fun _ _ _ h => h) (Or.inl ⟨by rfl, ?_⟩) hHeld ?_
      rotate_left
      · (intro wx hSw; (try dsimp only at hSw); go_simp; try with_reducible rfl)
      try simp only [Act.put, List.setIfInBounds_toArray, List.set_cons_zero, List.set_cons_succ]
      refine wpAnyH_take (i := 6) (oi := ⟨some 78, _, _, _, _, _⟩) (v := ?_) rfl (by kernel_rfl) (by kernel_rfl) (by kernel_rfl) (fun _ _ _ h => h) (Or.inl ⟨by rfl, ?_⟩) hHeld ?_
      rotate_left
      · (intro wx hSw; (try dsimp only at hSw); go_simp; try with_reducible rfl)
      try simp only [Act.put, List.setIfInBounds_toArray, List.set_cons_zero, List.set_cons_succ]
      refine wpAnyH_ready (rs := [7]) (by kernel_rfl) (by simp) (AllReadyH.cons (o := ⟨some 79, _, _, _, _, _⟩) rfl (fun K hK => ?_) AllReadyH.nil)
      go_simp
      refine (CB.out _).mono ?_
      rintro e u2 ⟨rfl, hu2⟩
      replace hbd := hbd.trans (hu2.mono hbd.size)
      clear hu2
      refine hK.out _ _ ?_ (fun hHeld => ?_)
      · exact HX12.out _ hbd
      clear hK K
      try simp only [Act.put, List.setIfInBounds_toArray, List.set_cons_zero, List.set_cons_succ]
      refine wpAnyH_take (i := 8) (oi := ⟨some 80, _, _, _, _, _⟩) (v := ?_) rfl (by kernel_rfl) (by kernel_rfl) (by kernel_rfl) (fun _ _ _ h => h) (Or.inl ⟨by rfl, ?_⟩) hHeld ?_
      rotate_left
      · (intro wx hSw; (try dsimp only at hSw); go_simp; try with_reducible rfl)
      try simp only [Act.put, List.setIfInBounds_toArray, List.set_cons_zero, List.set_cons_succ]
      refine wpAnyH_take (i := 9) (oi := ⟨some 81, _, _, _, _, _⟩) (v := ?_) rfl (by kernel_rfl) (by kernel_rfl) (by kernel_rfl) (fun _ _ _ h => h) (Or.inl ⟨by rfl, ?_⟩) hHeld ?_
      rotate_left
      · (intro wx hSw; (try dsimp only at hSw); go_simp; try with_reducible rfl)
      try simp only [Act.put, List.setIfInBounds_toArray, List.set_cons_zero, List.set_cons_succ]
      refine wpAnyH_take (i := 10) (oi := ⟨some 82, _, _, _, _, _⟩) (v := ?_) rfl (by kernel_rfl) (by kernel_rfl) (by kernel_rfl) (fun _ _ _ h => h) (Or.inl ⟨by rfl, ?_⟩) hHeld ?_
      rotate_left
      · (intro wx hSw; (try dsimp only at hSw); go_simp; try with_reducible rfl)
      try simp only [Act.put, List.setIfInBounds_toArray, List.set_cons_zero, List.set_cons_succ]
      refine wpAnyH_take (i := 11) (oi := ⟨some 83, _, _, _, _, _⟩) (v := ?_) rfl (by kernel_rfl) (by kernel_rfl) (by kernel_rfl) (fun _ _ _ h => h) (Or.inl ⟨by rfl, ?_⟩) hHeld ?_
      rotate_left
      · (intro wx hSw; (try dsimp only at hSw); go_simp; try with_reducible rfl)
      try simp only [Act.put, List.setIfInBounds_toArray, List.set_cons_zero, List.set_cons_succ]
      refine wpAnyH_take (i := 12) (oi := ⟨some 84, _, _, _, _, _⟩) (v := ?_) rfl (by kernel_rfl) (by kernel_rfl) (by kernel_rfl) (fun _ _ _ h => h) (Or.inl ⟨by rfl, ?_⟩) hHeld ?_
      rotate_left
      · (intro wx hSw; (try dsimp only at hSw); go_simp; try with_reducible rfl)
      try simp only [Act.put, List.setIfInBounds_toArray, List.set_cons_zero, List.set_cons_succ]
      refine wpAnyH_take (i := 15) (oi := ⟨some 87, _, _, _, _, _⟩) (v := ?_) rfl (by kernel_rfl) (by kernel_rfl) (by kernel_rfl) (fun _ _ _ h => h) (Or.inl ⟨by rfl, ?_⟩) hHeld ?_
      rotate_left
      · (intro wx hSw; (try dsimp only at hSw); go_simp; try with_reducible rfl)
      try simp only [Act.put, List.setIfInBounds_toArray, List.set_cons_zero, List.set_cons_succ]
      refine wpAnyH_take (i := 16) (oi := ⟨some 88, _, _, _, _, _⟩) (v := ?_) rfl (by kernel_rfl) (by kernel_rfl) (by kernel_rfl) (fun _ _ _ h => h) (Or.inl ⟨by rfl, ?_⟩) hHeld ?_
      rotate_left
      · (intro wx hSw; (try dsimp only at hSw); go_simp; try with_reducible rfl)
      try simp only [Act.put, List.setIfInBounds_toArray, List.set_cons_zero, List.set_cons_succ]
      refine wpAnyH_ready (rs := [13]) (by kernel_rfl) (by simp) (AllReadyH.cons (o := ⟨some 85, _, _, _, _, _⟩) rfl (fun K hK => ?_) AllReadyH.nil)
      go_simp
      refine (CC.out _).mono ?_
      rintro e u3 ⟨rfl, hu3⟩
      replace hbd := hbd.trans (hu3.mono hbd.size)
      clear hu3
      refine hK.out _ _ ?_ (fun hHeld => ?_)
      · exact HX12.out _ hbd
      clear hK K
      try simp only [Act.put, List.setIfInBounds_toArray, List.set_cons_zero, List.set_cons_succ]
      refine wpAnyH_take (i := 14) (oi := ⟨some 86, _, _, _, _, _⟩) (v := ?_) rfl (by kernel_rfl) (by kernel_rfl) (by kernel_rfl) (fun _ _ _ h => h) (Or.inl ⟨by rfl, ?_⟩) hHeld ?_
      rotate_left
      · (intro wx hSw; (try dsimp only at hSw); go_simp; try with_reducible rfl)
      try simp only [Act.put, List.setIfInBounds_toArray, List.set_cons_zero, List.set_cons_succ]
      refine wpAnyH_ready (rs := [17]) (by kernel_rfl) (by simp) (AllReadyH.cons (o := ⟨some 89, _, _, _, _, _⟩) rfl (fun K hK => ?_) AllReadyH.nil)
      go_simp
      refine (CA.out _).mono ?_
      rintro e u4 ⟨rfl, hu4⟩
      replace hbd := hbd.trans (hu4.mono hbd.size)
      clear hu4
      refine hK.out _ _ ?_ (fun hHeld => ?_)
      · exact HX12.out _ hbd
      clear hK K
      try simp only [Act.put, List.setIfInBounds_toArray, List.set_cons_zero, List.set_cons_succ]
      refine wpAnyH_take (i := 18) (oi := ⟨some 90, _, _, _, _, _⟩) (v := ?_) rfl (by kernel_rfl) (by kernel_rfl) (by kernel_rfl) (fun _ _ _ h => h) (Or.inl ⟨by rfl, ?_⟩) hHeld ?_
      rotate_left
      · (intro wx hSw; (try dsimp only at hSw); go_simp; try with_reducible rfl)
      try simp only [Act.put, List.setIfInBounds_toArray, List.set_cons_zero, List.set_cons_succ]
      refine wpAnyH_take (i := 19) (oi := ⟨some 91, _, _, _, _, _⟩) (v := ?_) rfl (by kernel_rfl) (by kernel_rfl) (by kernel_rfl) (fun _ _ _ h => h) (Or.inl ⟨by rfl, ?_⟩) hHeld ?_
      rotate_left
      · (intro wx hSw; (try dsimp only at hSw); go_simp; try with_reducible rfl)
      try simp only [Act.put, List.setIfInBounds_toArray, List.set_cons_zero, List.set_cons_succ]
      refine wpAnyH_take (i := 20) (oi := ⟨some 92, _, _, _, _, _⟩) (v := ?_) rfl (by kernel_rfl) (by kernel_rfl) (by kernel_rfl) (fun _ _ _ h => h) (Or.inl ⟨by rfl, ?_⟩) hHeld ?_
      rotate_left
      · (intro wx hSw; (try dsimp only at hSw); go_simp; try with_reducible rfl)
      try simp only [Act.put, List.setIfInBounds_toArray, List.set_cons_zero, List.set_cons_succ]
      refine wpAnyH_take (i := 21) (oi := ⟨some 93, _, _, _, _, _⟩) (v := ?_) rfl (by kernel_rfl) (by kernel_rfl) (by kernel_rfl) (fun _ _ _ h => h) (Or.inl ⟨by rfl, ?_⟩) hHeld ?_
      rotate_left
      · (intro wx hSw; (try dsimp only at hSw); go_simp; try with_reducible rfl)
      try simp only [Act.put, List.setIfInBounds_toArray, List.set_cons_zero, List.set_cons_succ]
      refine wpAnyH_ready (rs := [22]) (by kernel_rfl) (by simp) (AllReadyH.cons (o := ⟨some 94, _, _, _, _, _⟩) rfl (fun K hK => ?_) AllReadyH.nil)
      go_simp
      refine (HAW.out _).mono ?_
      rintro e u5 ⟨rfl, hu5⟩
      replace hbd := hbd.trans (hu5.mono hbd.size)
      clear hu5
      refine hK.out _ _ ?_ (fun hHeld => ?_)
      · exact HX12.out _ hbd
      clear hK K
      try simp only [Act.put, List.setIfInBounds_toArray, List.set_cons_zero, List.set_cons_succ]
      refine wpAnyH_take (i := 23) (oi := ⟨some 95, _, _, _, _, _⟩) (v := ?_) rfl (by kernel_rfl) (by kernel_rfl) (by kernel_rfl) (fun _ _ _ h => h) (Or.inl ⟨by rfl, ?_⟩) hHeld ?_
      rotate_left
      · (intro wx hSw; (try dsimp only at hSw); go_simp; try with_reducible rfl)
      try simp only [Act.put, List.setIfInBounds_toArray, List.set_cons_zero, List.set_cons_succ]
      refine wpAnyH_take (i := 24) (oi := ⟨some 8, _, _, _, _, _⟩) (v := ?_) rfl (by kernel_rfl) (by kernel_rfl) (by kernel_rfl) (fun _ _ _ h => h) (Or.inl ⟨by rfl, ?_⟩) hHeld ?_
      rotate_left
      · (intro wx hSw; (try dsimp only at hSw); go_simp; try with_reducible rfl)
      try simp only [Act.put, List.setIfInBounds_toArray, List.set_cons_zero, List.set_cons_succ]
      refine wpAnyH_done (by kernel_rfl) ?_ _
      refine NoPanic.normal ?_
      have HB13 := Lib.hid (HB12.out.trans (hbd.mono HB12.out.size))
      clear hbd hHeld HX12 HB12 h12 CA CB CC
      go_wp2
      go_ret
      exact ⟨rfl, HB13.out⟩

set_option maxRecDepth 100000 in
theorem lifted (os : Os) (started : os.Started) (H : Type) (enc : TypeId × Value → H) :
    ReturnsInHanded {} Try.checked os 6 .any (Rows.rateMeansSpec.pre6 enc Try.prog Try.f6 Rows.rateMeansRow.domain false) (Rows.rateMeansSpec.post enc Try.prog Try.f6 false true false false) := by
  refine returnsInHanded_of_change (C := Try.checked) ownKnobNone started (by kernel_rfl) Try.func6
    (ChangeSpec.witness6 (enc := enc) (C := Try.checked) false ⟨#[], #[.int .i64 0, .int .i64 0, .agg #[.int .u64 0, .int .i64 0], .agg #[.int .u64 0, .int .i64 0]], []⟩ 8 (by kernel_rfl) (by kernel_rfl) (by kernel_rfl) (by kernel_rfl)) ?_
  intro W base args ds gs before hval0 hW _ _
  have hval : ∀ (j : Nat) t v, Try.f6.params[j]? = some t → args[j]? = some v → Value.okWide Try.prog W .any base t v := hval0
  have hW' := hW
  obtain ⟨p, q, hA0, hV, rfl, _, _⟩ := hW
  have hA : DataW.TrodAll enc Try.prog W 0 (fun _ => true) true Try.f6.params.toList args.toList ds p := hA0
  rw [Try.params6] at hA hval
  obtain ⟨v0, vs0, d0, ds0, p0, q0, hargs, rfl, rfl, h0, r0⟩ := trodAll_cons hA
  obtain ⟨v1, vs1, d1, ds1, p1, q1, rfl, rfl, rfl, h1, r1⟩ := trodAll_cons r0
  obtain ⟨v2, vs2, d2, ds2, p2, q2, rfl, rfl, rfl, h2, r2⟩ := trodAll_cons r1
  obtain ⟨v3, vs3, d3, ds3, p3, q3, rfl, rfl, rfl, h3, r3⟩ := trodAll_cons r2
  obtain ⟨rfl, rfl, rfl⟩ := trodAll_nil r3
  obtain rfl : args = #[v0, v1, v2, v3] := by cases args; simp_all
  obtain ⟨rfl, rfl⟩ := trodVars_none hV
  obtain ⟨a0, rfl, rfl, rfl, w0⟩ := open_int Try.underlying3 (hval 0 3 v0 rfl rfl) h0
  have b0 := bd_i64 w0
  obtain ⟨a1, rfl, rfl, rfl, w1⟩ := open_int Try.underlying3 (hval 1 3 v1 rfl rfl) h1
  have b1 := bd_i64 w1
  obtain ⟨t2, rfl, s2⟩ := rate_arg (hval 2 24 v2 rfl rfl) h2
  obtain ⟨t3, rfl, s3⟩ := rate_arg (hval 3 24 v3 rfl rfl) h3
  clear hA0 hval0
  refine (walk a0 a1 t2 t3 W s2 s3).mono fun e W' ⟨he, hb⟩ => ?_
  subst he
  exact ⟨_, rfl, law_post hW' rfl rfl (by kernel_rfl) rfl hb⟩

set_option maxRecDepth 100000 in
theorem over : Rows.rateMeansRow.holds Try.pinned (OpenSpec.ofChange Rows.rateMeansSpec) :=
  OpenClaim.holds_of_wide 6 Try.f6 rfl rfl rfl rfl rfl rfl rfl ⟨rfl, rfl, rfl, rfl, rfl⟩ rfl rfl rfl rfl rfl (by kernel_rfl) Try.func6 (by kernel_rfl)
    (of_decide_eq_true (by kernel_rfl)) (by unfold Func.isWrapper; first | (rw [if_pos (by decide +kernel)]; kernel_rfl) | (rw [if_neg (by decide +kernel)]; exact ⟨rfl, rfl⟩))
    (fun os started H enc _ => lifted os started H enc)

/-- The statement. -/
theorem proved : Rows.RateMeansSaid :=
  over
end Go.Proofs.Ytompcibcgfjpfaa.lawRtMeans
