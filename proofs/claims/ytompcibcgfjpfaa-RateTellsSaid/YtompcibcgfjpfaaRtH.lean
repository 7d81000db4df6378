/- What stands for layer 7 awake; contracts at numbers written out. -/
import Derived.Test.YtompcibcgfjpfaaRtG
namespace Go.Proofs.Ytompcibcgfjpfaa
open Go.RowKit

def YesK (w : World) (e : Ending) (w' : World) : Prop := e = .returned (.bool true) ∧ Below w.heap.size w w'
theorem cmp_at (f g : Nat) (n m F G V : Int) (hF : F = (f : Int)) (hG : G = (g : Int)) (hf : f < 18446744073709551616) (hg : g < 18446744073709551616) (hn : n ≤ 9223372036854775807) (hm : m ≤ 9223372036854775807) (hV : rateV f n g m = V) (w : World) :
    Calls Try.prog 7 #[.agg #[.int .u64 F, .int .i64 n], .agg #[.int .u64 G, .int .i64 m]] w fun e w' => e = .returned (.int .i64 V) ∧ Below w.heap.size w w' := by
  subst hF; subst hG; subst hV
  exact compare_any f n g m hf hg hn hm w
theorem need_at (p : Nat) (n P V : Int) (hP : P = (p : Int)) (hp : p < 18446744073709551616) (hV : (upV (p * needN n) 1000 : Int) = V) (w : World) :
    Calls Try.prog 8 #[.int .u64 P, .int .i64 n] w fun e w' => e = .returned (.int .u64 V) ∧ Below w.heap.size w w' := by
  subst hP; subst hV
  exact need_any p n hp w
theorem per_at (f : Nat) (n F V : Int) (hF : F = (f : Int)) (hf : f < 18446744073709551616) (hn : n ≤ 9223372036854775807) (hV : (upV (f * 1000) (sizeN n) : Int) = V) (w : World) :
    Calls Try.prog 10 #[.agg #[.int .u64 F, .int .i64 n]] w fun e w' => e = .returned (.int .u64 V) ∧ Below w.heap.size w w' := by
  subst hF; subst hV
  exact per_any f n hf hn w
/-- Two rates in a row of their own. -/
theorem two_rates (w : World) (a b : RateD) (ha : a.Fit) (hb : b.Fit) (A B : Int) (hA : A = (a.fee : Int)) (hB : B = (b.fee : Int)) :
    RatesR (w.alloc (.cells #[.int .u64 A, .int .i64 a.size, .int .u64 B, .int .i64 b.size] 24)) (.slice (some ⟨w.heap.size, 0, none⟩) 2 2) [a, b] := by
  subst hA; subst hB
  have hx := Box.fresh w 24 #[.int .u64 (a.fee : Int), .int .i64 a.size, .int .u64 (b.fee : Int), .int .i64 b.size]
  refine ⟨some ⟨w.heap.size, 0, none⟩, 2, rfl, Nat.le_refl _, by simp [maxLen], (fun h => by cases h), fun _ => ⟨w.heap.size, 0, rfl, by simp, fun i x hi => ?_⟩⟩
  match i, hi with
  | 0, hi =>
    obtain rfl := Option.some.inj hi
    refine ⟨_, rfl, fun j v hj => ?_, rfl, ha⟩
    rw [hx.cell]
    match j, hj with
    | 0, hj => exact hj
    | 1, hj => exact hj
  | 1, hi =>
    obtain rfl := Option.some.inj hi
    refine ⟨_, rfl, fun j v hj => ?_, rfl, hb⟩
    rw [hx.cell]
    match j, hj with
    | 0, hj => exact hj
    | 1, hj => exact hj
  | i + 2, hi => simp at hi

set_option maxRecDepth 100000 in
set_option maxHeartbeats 2000000 in
theorem awake7_any (w : World) : Calls Try.prog 9 #[] w (YesK w) := by
  obtain ⟨W1, hW1⟩ : ∃ W, (w.alloc (.cells #[.int .u64 10, .int .i64 4] 24)).alloc (.cells #[.int .u64 5, .int .i64 2] 24) = W := ⟨_, rfl⟩
  have HB1 := Lib.hid (show Below w.heap.size w W1 by rw [← hW1]; exact ((Below.refl _ _).alloc (Nat.le_refl _) _).alloc (by simp) _)
  have HX := Lib.hid (fun W (hW : Below W1.heap.size W1 W) => by
    have hb : Box W w.heap.size 24 #[.int .u64 10, .int .i64 4] := by
      have h0 : Box W1 w.heap.size 24 #[.int .u64 10, .int .i64 4] := by rw [← hW1]; exact (Box.fresh _ _ _).below ((Below.refl _ _).alloc (by simp) _)
      exact h0.below hW
    have hb2 : Box W (w.heap.size + 1) 24 #[.int .u64 5, .int .i64 2] := by
      have h0 : Box W1 (w.heap.size + 1) 24 #[.int .u64 5, .int .i64 2] := by
        have := Box.fresh (w.alloc (.cells #[.int .u64 10, .int .i64 4] 24)) 24 #[.int .u64 5, .int .i64 2]
        rw [← hW1]
        simpa using this
      exact h0.below hW
    exact (show W.cell? ⟨w.heap.size, 0, none⟩ = some (.int .u64 10) ∧ W.cell? ⟨w.heap.size, 1, none⟩ = some (.int .i64 4) ∧ W.cell? ⟨w.heap.size + 1, 0, none⟩ = some (.int .u64 5) ∧ W.cell? ⟨w.heap.size + 1, 1, none⟩ = some (.int .i64 2) from ⟨hb.cell 0, hb.cell 1, hb2.cell 0, hb2.cell 1⟩))
  have HW1 := Lib.hid hW1
  obtain ⟨f1, f2, f3, f4⟩ := HX.out W1 (Below.refl _ _)
  have HB := Lib.hid (Below.refl W1.heap.size W1)
  clear hW1
  have H1 := Lib.hid (fun W => cmp_at 10 5 4 2 10 5 0 rfl rfl (by decide) (by decide) (by decide) (by decide) (by decide) W)
  have H2 := Lib.hid (fun W => cmp_at 10 11 4 4 10 11 (-1) rfl rfl (by decide) (by decide) (by decide) (by decide) (by decide) W)
  have H3 := Lib.hid (fun W => cmp_at 9223372036854775808 9223372036854775807 1099511627776 1099511627776 9223372036854775808 9223372036854775807 1 rfl rfl (by decide) (by decide) (by decide) (by decide) (by decide) W)
  have H4 := Lib.hid (fun W => need_at 1000 5 1000 5 rfl (by decide) (by decide) W)
  have H5 := Lib.hid (fun W => need_at 1001 5 1001 6 rfl (by decide) (by decide) W)
  have H6 := Lib.hid (fun W => need_at 18446744073709551615 1073741824 18446744073709551615 18446744073709551615 rfl (by decide) (by decide) W)
  have H7 := Lib.hid (fun W => per_at 5 3 5 1667 rfl (by decide) (by decide) (by decide) W)
  have H8 := Lib.hid (fun W => add_any _ _ _ (two_rates W ⟨10, 4⟩ ⟨5, 2⟩ ⟨by decide, by decide, by decide⟩ ⟨by decide, by decide, by decide⟩ 10 5 rfl rfl) (by simp [maxLen]))
  have H9 := Lib.hid (fun W => add_any _ [] W (Many.nil 2 RateR W) (by simp [maxLen]))
  rw [show (addV [⟨10, 4⟩, ⟨5, 2⟩]).val = .agg #[.int .u64 15, .int .i64 6] by rfl] at H8
  rw [show (addV []).val = .agg #[.int .u64 0, .int .i64 0] by rfl] at H9
  dsimp only at H8
  go_enter Try.func9, Try.ntmps9
  go_wp2_with fail
  rw [HW1.out]
  refine (H1.out _).mono ?_
  rintro e w2 ⟨rfl, hb2⟩
  replace HB := Lib.hid (HB.out.trans (hb2.mono HB.out.size))
  clear hb2 f1 f2 f3 f4
  obtain ⟨f1, f2, f3, f4⟩ := HX.out w2 HB.out
  obtain ⟨w1, rfl⟩ : ∃ W : World, W = w2 := ⟨_, rfl⟩
  go_wp2_with fail
  refine (H2.out _).mono ?_
  rintro e w2 ⟨rfl, hb2⟩
  replace HB := Lib.hid (HB.out.trans (hb2.mono HB.out.size))
  clear hb2 f1 f2 f3 f4
  obtain ⟨f1, f2, f3, f4⟩ := HX.out w2 HB.out
  obtain ⟨w1, rfl⟩ : ∃ W : World, W = w2 := ⟨_, rfl⟩
  go_wp2_with fail
  refine (H3.out _).mono ?_
  rintro e w2 ⟨rfl, hb2⟩
  replace HB := Lib.hid (HB.out.trans (hb2.mono HB.out.size))
  clear hb2 f1 f2 f3 f4
  obtain ⟨f1, f2, f3, f4⟩ := HX.out w2 HB.out
  obtain ⟨w1, rfl⟩ : ∃ W : World, W = w2 := ⟨_, rfl⟩
  go_wp2_with fail
  refine (H4.out _).mono ?_
  rintro e w2 ⟨rfl, hb2⟩
  replace HB := Lib.hid (HB.out.trans (hb2.mono HB.out.size))
  clear hb2 f1 f2 f3 f4
  obtain ⟨f1, f2, f3, f4⟩ := HX.out w2 HB.out
  obtain ⟨w1, rfl⟩ : ∃ W : World, W = w2 := ⟨_, rfl⟩
  go_wp2_with fail
  refine (H5.out _).mono ?_
  rintro e w2 ⟨rfl, hb2⟩
  replace HB := Lib.hid (HB.out.trans (hb2.mono HB.out.size))
  clear hb2 f1 f2 f3 f4
  obtain ⟨f1, f2, f3, f4⟩ := HX.out w2 HB.out
  obtain ⟨w1, rfl⟩ : ∃ W : World, W = w2 := ⟨_, rfl⟩
  go_wp2_with fail
  refine (H6.out _).mono ?_
  rintro e w2 ⟨rfl, hb2⟩
  replace HB := Lib.hid (HB.out.trans (hb2.mono HB.out.size))
  clear hb2 f1 f2 f3 f4
  obtain ⟨f1, f2, f3, f4⟩ := HX.out w2 HB.out
  obtain ⟨w1, rfl⟩ : ∃ W : World, W = w2 := ⟨_, rfl⟩
  go_wp2_with fail
  refine (H7.out _).mono ?_
  rintro e w2 ⟨rfl, hb2⟩
  replace HB := Lib.hid (HB.out.trans (hb2.mono HB.out.size))
  clear hb2 f1 f2 f3 f4
  obtain ⟨f1, f2, f3, f4⟩ := HX.out w2 HB.out
  obtain ⟨w1, rfl⟩ : ∃ W : World, W = w2 := ⟨_, rfl⟩
  go_wp2_with fail
  refine (H8.out _).mono ?_
  rintro e w2 ⟨rfl, hb2⟩
  replace HB := Lib.hid ((HB.out.alloc HB.out.size _).trans (hb2.mono (HB.out.alloc HB.out.size _).size))
  clear hb2 f1 f2 f3 f4
  go_wp2_with fail
  refine (H9.out _).mono ?_
  rintro e w3 ⟨rfl, hb2⟩
  replace HB := Lib.hid (HB.out.trans (hb2.mono HB.out.size))
  clear hb2
  go_wp2
  go_ret
  exact ⟨rfl, HB1.out.trans (HB.out.mono HB1.out.size)⟩
end Go.Proofs.Ytompcibcgfjpfaa
