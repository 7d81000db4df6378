/- Contracts of package rate: counted, share, Compare, Need, Per. -/
import Derived.Test.YtompcibcgfjpfaaRtC
import Derived.Test.YtompcibcgfjpfaaKsA
import Derived.Deep.RegionHeld3
import Derived.Lib.MinMax
namespace Go.Proofs.Ytompcibcgfjpfaa
open Go.RowKit

/-- What a size counts as where one asks what it needs. -/
def needN (n : Int) : Nat := (min (max n 0) 1073741824).toNat
theorem needN_le (n : Int) : needN n ≤ 1073741824 := by unfold needN; omega
theorem div64_any (hi lo y : Nat) (h : hi < y) (hy : y < 18446744073709551616) (hlo : lo < 18446744073709551616) (w : World) :
    Calls Try.prog 24 #[.int .u64 (hi : Int), .int .u64 (lo : Int), .int .u64 (y : Int)] w fun e w' => e = .returned (.tuple #[.int .u64 (((hi * 18446744073709551616 + lo) / y : Nat) : Int), .int .u64 (((hi * 18446744073709551616 + lo) % y : Nat) : Int)]) ∧ Below w.heap.size w w' := by
  rcases Nat.eq_zero_or_pos hi with h0 | h0
  · subst h0
    have := div64_less lo y h hy hlo w
    rw [Nat.zero_mul, Nat.zero_add]
    exact this
  · exact div64_more hi lo y h h0 hy hlo w
/-- What a size counts as. -/
def sizeN (n : Int) : Nat := (max n 1).toNat
theorem sizeN_pos (n : Int) : 0 < sizeN n := by unfold sizeN; omega
theorem sizeN_lt {n : Int} (h : n ≤ 9223372036854775807) : sizeN n < 9223372036854775808 := by unfold sizeN; omega
theorem counted_any (f : Nat) (n : Int) (hn : n ≤ 9223372036854775807) (w : World) : Calls Try.prog 17 #[.agg #[.int .u64 (f : Int), .int .i64 n]] w fun e w' => e = .returned (.int .u64 (sizeN n : Int)) ∧ Below w.heap.size w w' := by
  go_enter Try.func17, Try.ntmps17
  go_wp2
  go_ret
  exact ⟨congrArg Ending.returned (congrArg (Value.int IntKind.u64) (by unfold sizeN; omega)), (Below.refl _ _).alloc (Nat.le_refl _) _⟩
set_option maxRecDepth 100000 in
theorem share_any (a b c : Nat) (ha : a < 18446744073709551616) (hb : b < 18446744073709551616) (_hc : 0 < c) (hc2 : c < 18446744073709551616) (w : World) :
    Calls Try.prog 19 #[.int .u64 (a : Int), .int .u64 (b : Int), .int .u64 (c : Int)] w fun e w' => e = .returned (.int .u64 (upV (a * b) c : Int)) ∧ Below w.heap.size w w' := by
  have HM := Lib.hid (mul64_any a b ha hb w)
  generalize a * b = N at *
  obtain ⟨hi, hhi⟩ : ∃ hi, N / 18446744073709551616 = hi := ⟨_, rfl⟩
  obtain ⟨lo, hlo⟩ : ∃ lo, N % 18446744073709551616 = lo := ⟨_, rfl⟩
  have hNe : hi * 18446744073709551616 + lo = N := by rw [← hhi, ← hlo]; exact Nat.div_add_mod' N _
  have hll : lo < 18446744073709551616 := by rw [← hlo]; exact Nat.mod_lt _ (by omega)
  rw [hhi, hlo] at HM
  by_cases h : c ≤ hi
  · have hv : upV N c = 18446744073709551615 := by unfold upV; rw [hhi, if_pos h]
    have h1 : ((c : Int) ≤ (hi : Int)) = True := by simp; omega
    have h1b : (c ≤ hi) = True := by simp [h]
    have HV := Lib.hid hv
    clear ha hb hc2 hhi hlo hNe hll hv h
    go_enter Try.func19, Try.ntmps19
    go_wp2_with fail
    refine HM.out.mono ?_
    rintro e w' ⟨rfl, rfl⟩
    go_wp2
    go_ret
    exact ⟨by rw [HV.out]; rfl, Below.refl _ _⟩
  · have h1 : ((c : Int) ≤ (hi : Int)) = False := by simp; omega
    have h1b : (c ≤ hi) = False := by simp; omega
    have HD := Lib.hid (div64_any hi lo c (by omega) hc2 hll w)
    rw [hNe] at HD
    have hq : N / c < 18446744073709551616 := by
      have := Nat.div_lt_of_lt_mul (m := N) (n := c) (k := 18446744073709551616) (by
        have : (hi + 1) * 18446744073709551616 ≤ c * 18446744073709551616 := Nat.mul_le_mul_right _ (by omega)
        omega)
      exact this
    by_cases hr : N % c = 0 ∨ N / c = 18446744073709551615
    · have HV : Hid (upV N c = N / c) := Lib.hid (by unfold upV; rw [hhi, if_neg h, if_pos hr])
      generalize N / c = q at *
      generalize N % c = r at *
      by_cases hr0 : r = 0
      · have c1 : ((r : Int) = 0) = True := by simp; omega
        have c2 : (r = 0) = True := by simp [hr0]
        have c5 : ((r : Int) == 0) = true := by simp; omega
        clear hr0
        clear ha hb hc2 hhi hlo hNe hll hq h hr
        go_enter Try.func19, Try.ntmps19
        go_wp2_with fail
        refine HM.out.mono ?_
        rintro e w' ⟨rfl, rfl⟩
        go_wp2_with fail
        refine HD.out.mono ?_
        rintro e w' ⟨rfl, hb⟩
        have HB := Lib.hid hb
        clear hb
        go_wp2
        go_ret
        exact ⟨by rw [HV.out]; rfl, HB.out⟩
      · have c1 : ((r : Int) = 0) = False := by simp; omega
        have c2 : (r = 0) = False := by simp; omega
        have c5 : ((r : Int) == 0) = false := by simp; omega
        have c6 : ((q : Int) == 18446744073709551615) = true := by simp; omega
        have c3 : ((q : Int) = 18446744073709551615) = True := by simp; omega
        have c4 : (q = 18446744073709551615) = True := by simp; omega
        clear hr0
        clear ha hb hc2 hhi hlo hNe hll hq h hr
        go_enter Try.func19, Try.ntmps19
        go_wp2_with fail
        refine HM.out.mono ?_
        rintro e w' ⟨rfl, rfl⟩
        go_wp2_with fail
        refine HD.out.mono ?_
        rintro e w' ⟨rfl, hb⟩
        have HB := Lib.hid hb
        clear hb
        go_wp2
        go_ret
        exact ⟨by rw [HV.out]; rfl, HB.out⟩
    · have HV : Hid (upV N c = N / c + 1) := Lib.hid (by unfold upV; rw [hhi, if_neg h, if_neg hr])
      generalize N / c = q at *
      generalize N % c = r at *
      have e1 : IntKind.u64.wrap ((q : Int) + 1) = ((q + 1 : Nat) : Int) := addfit_u64 q 1 (by omega)
      have c1 : ((r : Int) = 0) = False := by simp; omega
      have c2 : (r = 0) = False := by simp; omega
      have c5 : ((r : Int) == 0) = false := by simp; omega
      have c6 : ((q : Int) == 18446744073709551615) = false := by simp; omega
      have c3 : ((q : Int) = 18446744073709551615) = False := by simp; omega
      have c4 : (q = 18446744073709551615) = False := by simp; omega
      clear ha hb hc2 hhi hlo hNe hll hq h hr
      go_enter Try.func19, Try.ntmps19
      go_wp2_with fail
      refine HM.out.mono ?_
      rintro e w' ⟨rfl, rfl⟩
      go_wp2_with fail
      refine HD.out.mono ?_
      rintro e w' ⟨rfl, hb⟩
      have HB := Lib.hid hb
      clear hb
      go_wp2
      go_ret
      exact ⟨by rw [HV.out]; rfl, HB.out⟩

set_option maxRecDepth 100000 in
theorem need_any (p : Nat) (n : Int) (hp : p < 18446744073709551616) (w : World) :
    Calls Try.prog 8 #[.int .u64 (p : Int), .int .i64 n] w fun e w' => e = .returned (.int .u64 (upV (p * needN n) 1000 : Int)) ∧ Below w.heap.size w w' := by
  have H := Lib.hid (share_any p (needN n) 1000 hp (by have := needN_le n; omega) (by omega) (by omega) w)
  have e : min (max n 0) 1073741824 = (needN n : Int) := by unfold needN; omega
  have hw : IntKind.u64.wrap (needN n : Int) = (needN n : Int) := fit_u64 _ (by have := needN_le n; omega)
  obtain ⟨V, hV⟩ : ∃ V, upV (p * needN n) 1000 = V := ⟨_, rfl⟩
  rw [hV] at H ⊢
  clear hV
  generalize needN n = k at *
  go_enter Try.func8, Try.ntmps8
  go_wp2_with fail
  refine H.out.mono ?_
  rintro e w' ⟨rfl, hb⟩
  have HB := Lib.hid hb
  clear hb
  go_wp2
  go_ret
  exact ⟨rfl, HB.out⟩

set_option maxRecDepth 100000 in
theorem per_any (f : Nat) (n : Int) (hf : f < 18446744073709551616) (hn : n ≤ 9223372036854775807) (w : World) :
    Calls Try.prog 10 #[.agg #[.int .u64 (f : Int), .int .i64 n]] w fun e w' => e = .returned (.int .u64 (upV (f * 1000) (sizeN n) : Int)) ∧ Below w.heap.size w w' := by
  have hs := sizeN_lt hn
  have HS := Lib.hid (fun W => share_any f 1000 (sizeN n) hf (by omega) (sizeN_pos n) (by omega) W)
  have HC := Lib.hid (fun W => counted_any f n hn W)
  obtain ⟨V, hV⟩ : ∃ V, upV (f * 1000) (sizeN n) = V := ⟨_, rfl⟩
  rw [hV] at HS ⊢
  clear hV hs
  generalize sizeN n = k at *
  obtain ⟨W1, hW1⟩ : ∃ W, w.alloc (.cells #[.int .u64 (f : Int), .int .i64 n] 24) = W := ⟨_, rfl⟩
  have HB1 := Lib.hid (show Below w.heap.size w W1 by rw [← hW1]; exact (Below.refl _ _).alloc (Nat.le_refl _) _)
  have HX := Lib.hid (fun W (hW : Below W1.heap.size W1 W) => by
    have hb : Box W w.heap.size 24 #[.int .u64 (f : Int), .int .i64 n] := by
      have h0 : Box W1 w.heap.size 24 #[.int .u64 (f : Int), .int .i64 n] := by rw [← hW1]; exact Box.fresh _ _ _
      exact h0.below hW
    exact And.intro (hb.cell 0) (hb.cell 1))
  have HW1 := Lib.hid hW1
  have hbd : Below W1.heap.size W1 W1.drew := (Below.refl _ _).drew
  have h0 := HX.out _ hbd
  have HBD := Lib.hid hbd
  clear hW1 hbd
  go_enter Try.func10, Try.ntmps10
  go_wp2_with fail
  rw [HW1.out]
  go_region_held3 (fun W => W.cell? ⟨w.heap.size, 0, none⟩ = some (.int .u64 (f : Int)) ∧ W.cell? ⟨w.heap.size, 1, none⟩ = some (.int .i64 n)) (first | exact h0 | exact HX.out _ (HBD.out.trans hb2) | exact HX.out _ ((HBD.out.trans hb2).trans (hb3.mono (HBD.out.trans hb2).size)) | assumption) ((first | (go_at_call 17; refine (HC.out _).mono ?_; rintro e w2 ⟨rfl, hb2⟩) | (go_at_call 19; refine (HS.out _).mono ?_; rintro e w3 ⟨rfl, hb3⟩)))
  have HB := Lib.hid (HB1.out.trans (((HBD.out.trans hb2).trans (hb3.mono (HBD.out.trans hb2).size)).mono HB1.out.size))
  clear hb2 hb3 h0 HBD HX HB1
  go_wp2
  go_ret
  exact ⟨rfl, HB.out⟩

theorem ord_high (x y : Nat) (h : ordV (x / 18446744073709551616) (y / 18446744073709551616) ≠ 0) : ordV (x / 18446744073709551616) (y / 18446744073709551616) = ordV x y := by
  unfold ordV at *
  repeat' split at h
  all_goals (repeat' split) <;> omega
theorem ord_low (x y : Nat) (h : ordV (x / 18446744073709551616) (y / 18446744073709551616) = 0) : ordV (x % 18446744073709551616) (y % 18446744073709551616) = ordV x y := by
  unfold ordV at *
  repeat' split at h
  all_goals (repeat' split) <;> omega
/-- How two rates stand. -/
def rateV (f : Nat) (n : Int) (g : Nat) (m : Int) : Int := ordV (f * sizeN m) (g * sizeN n)

set_option maxRecDepth 100000 in
set_option maxHeartbeats 1000000 in
theorem compare_any (f : Nat) (n : Int) (g : Nat) (m : Int) (hf : f < 18446744073709551616) (hg : g < 18446744073709551616) (hn : n ≤ 9223372036854775807) (hm : m ≤ 9223372036854775807) (w : World) :
    Calls Try.prog 7 #[.agg #[.int .u64 (f : Int), .int .i64 n], .agg #[.int .u64 (g : Int), .int .i64 m]] w fun e w' => e = .returned (.int .i64 (rateV f n g m)) ∧ Below w.heap.size w w' := by
  have hs := sizeN_lt hn
  have ht := sizeN_lt hm
  have HA := Lib.hid (fun W => mul64_any f (sizeN m) hf (by omega) W)
  have HB := Lib.hid (fun W => mul64_any g (sizeN n) hg (by omega) W)
  have HCA := Lib.hid (fun W => counted_any f n hn W)
  have HCB := Lib.hid (fun W => counted_any g m hm W)
  unfold rateV
  generalize f * sizeN m = x at *
  generalize g * sizeN n = y at *
  generalize sizeN m = k at *
  generalize sizeN n = l at *
  have hh := ord_high x y
  have hl := ord_low x y
  obtain ⟨V, hV⟩ : ∃ V, ordV x y = V := ⟨_, rfl⟩
  rw [hV] at hh hl ⊢
  have HO1 := Lib.hid (fun W => cmp_any (x / 18446744073709551616) (y / 18446744073709551616) W)
  have HO2 := Lib.hid (fun W => cmp_any (x % 18446744073709551616) (y % 18446744073709551616) W)
  obtain ⟨O1, hO1⟩ : ∃ V, ordV (x / 18446744073709551616) (y / 18446744073709551616) = V := ⟨_, rfl⟩
  obtain ⟨O2, hO2⟩ : ∃ V, ordV (x % 18446744073709551616) (y % 18446744073709551616) = V := ⟨_, rfl⟩
  rw [hO1] at HO1 hh hl
  rw [hO2] at HO2 hl
  have HV : Hid ((O1 ≠ 0 → O1 = V) ∧ (O1 = 0 → O2 = V)) := Lib.hid ⟨hh, hl⟩
  generalize x / 18446744073709551616 = xh at *
  generalize y / 18446744073709551616 = yh at *
  generalize x % 18446744073709551616 = xl at *
  generalize y % 18446744073709551616 = yl at *
  clear hs ht hf hg hn hm hh hl hV hO1 hO2
  obtain ⟨W1, hW1⟩ : ∃ W, (w.alloc (.cells #[.int .u64 (f : Int), .int .i64 n] 24)).alloc (.cells #[.int .u64 (g : Int), .int .i64 m] 24) = W := ⟨_, rfl⟩
  have HB1 := Lib.hid (show Below w.heap.size w W1 by rw [← hW1]; exact ((Below.refl _ _).alloc (Nat.le_refl _) _).alloc (by simp) _)
  have HX := Lib.hid (fun W (hW : Below W1.heap.size W1 W) => by
    have hb : Box W w.heap.size 24 #[.int .u64 (f : Int), .int .i64 n] := by
      have h0 : Box W1 w.heap.size 24 #[.int .u64 (f : Int), .int .i64 n] := by rw [← hW1]; exact (Box.fresh _ _ _).below ((Below.refl _ _).alloc (by simp) _)
      exact h0.below hW
    have hb2 : Box W (w.heap.size + 1) 24 #[.int .u64 (g : Int), .int .i64 m] := by
      have h0 : Box W1 (w.heap.size + 1) 24 #[.int .u64 (g : Int), .int .i64 m] := by
        have := Box.fresh (w.alloc (.cells #[.int .u64 (f : Int), .int .i64 n] 24)) 24 #[.int .u64 (g : Int), .int .i64 m]
        rw [← hW1]
        simpa using this
      exact h0.below hW
    exact And.intro (hb.cell 0) (And.intro (hb.cell 1) (And.intro (hb2.cell 0) (hb2.cell 1))))
  have HW1 := Lib.hid hW1
  have hbd : Below W1.heap.size W1 W1.drew := (Below.refl _ _).drew
  have h0 := HX.out _ hbd
  have HBD := Lib.hid hbd
  clear hW1 hbd
  go_enter Try.func7, Try.ntmps7
  go_wp2_with fail
  rw [HW1.out]
  go_region_held3 (fun W => W.cell? ⟨w.heap.size, 0, none⟩ = some (.int .u64 (f : Int)) ∧ W.cell? ⟨w.heap.size, 1, none⟩ = some (.int .i64 n) ∧ W.cell? ⟨w.heap.size + 1, 0, none⟩ = some (.int .u64 (g : Int)) ∧ W.cell? ⟨w.heap.size + 1, 1, none⟩ = some (.int .i64 m)) (first | exact h0 | exact HX.out _ (HBD.out.trans hb2) | assumption) ((first | (go_at_call 17; refine (HCB.out _).mono ?_; rintro e w2 ⟨rfl, hb2⟩) | (go_at_call 16; refine (HA.out _).mono ?_; rintro e w3 ⟨rfl, rfl⟩)))
  have hbd2 : Below W1.heap.size W1 w3.drew := (HBD.out.trans hb2).drew
  replace h0 := HX.out _ hbd2
  replace HBD := Lib.hid hbd2
  clear hbd2 hb2
  go_wp2_with fail
  go_region_held3 (fun W => W.cell? ⟨w.heap.size, 0, none⟩ = some (.int .u64 (f : Int)) ∧ W.cell? ⟨w.heap.size, 1, none⟩ = some (.int .i64 n) ∧ W.cell? ⟨w.heap.size + 1, 0, none⟩ = some (.int .u64 (g : Int)) ∧ W.cell? ⟨w.heap.size + 1, 1, none⟩ = some (.int .i64 m)) (first | exact h0 | exact HX.out _ (HBD.out.trans (hb4.mono HBD.out.size)) | assumption) ((first | (go_at_call 17; refine (HCA.out _).mono ?_; rintro e w4 ⟨rfl, hb4⟩) | (go_at_call 16; refine (HB.out _).mono ?_; rintro e w5 ⟨rfl, rfl⟩)))
  have HE := Lib.hid (HB1.out.trans ((HBD.out.trans (hb4.mono HBD.out.size)).mono HB1.out.size))
  clear hb4 h0 HBD HX HB1
  by_cases hz : O1 = 0
  · have c1 : (O1 == 0) = true := by simp [hz]
    have c2 : (O1 = 0) = True := by simp [hz]
    have HF := Lib.hid (HV.out.2 hz)
    clear hz
    go_wp2_with fail
    refine (HO1.out _).mono ?_
    rintro e w' ⟨rfl, rfl⟩
    go_wp2_with fail
    refine (HO2.out _).mono ?_
    rintro e w' ⟨rfl, rfl⟩
    go_wp2
    go_ret
    exact ⟨by rw [← HF.out]; rfl, HE.out⟩
  · have c1 : (O1 == 0) = false := by simp [hz]
    have c2 : (O1 = 0) = False := by simp [hz]
    have HF := Lib.hid (HV.out.1 hz)
    clear hz
    go_wp2_with fail
    refine (HO1.out _).mono ?_
    rintro e w' ⟨rfl, rfl⟩
    go_wp2
    go_ret
    exact ⟨by rw [← HF.out]; rfl, HE.out⟩
end Go.Proofs.Ytompcibcgfjpfaa
