/- The document's own Compare, Need, Per; Add of both sides. -/
import Derived.Test.YtompcibcgfjpfaaRtE
import Derived.Test.YtompcibcgfjpfaaTxMem
namespace Go.Proofs.Ytompcibcgfjpfaa
open Go.RowKit

theorem refsize_any (n : Int) (hn : n ≤ 9223372036854775807) (w : World) : Calls Try.prog 21 #[.int .i64 n] w fun e w' => e = .returned (.int .u64 (sizeN n : Int)) ∧ w' = w := by
  go_enter Try.func21, Try.ntmps21
  go_wp2
  go_ret
  exact ⟨congrArg Ending.returned (congrArg (Value.int IntKind.u64) (by unfold sizeN; omega)), rfl⟩
theorem up_parts (N c : Nat) : upV (N / 18446744073709551616 * 18446744073709551616 + N % 18446744073709551616) c = upV N c := by rw [Nat.div_add_mod']
set_option maxRecDepth 100000 in
theorem refneed_any (p : Nat) (n : Int) (hp : p < 18446744073709551616) (w : World) :
    Calls Try.prog 13 #[.int .u64 (p : Int), .int .i64 n] w fun e w' => e = .returned (.int .u64 (upV (p * needN n) 1000 : Int)) ∧ w' = w := by
  have HT := Lib.hid (times_any p (needN n) hp (by have := needN_le n; omega) w)
  have e : min (max n 0) 1073741824 = (needN n : Int) := by unfold needN; omega
  have hw : IntKind.u64.wrap (needN n : Int) = (needN n : Int) := fit_u64 _ (by have := needN_le n; omega)
  have hS := shared_any (p * needN n / 18446744073709551616) (p * needN n % 18446744073709551616) 1000 (by omega) (by omega) (Nat.mod_lt _ (by omega)) w
  rw [up_parts] at hS
  have HS := Lib.hid hS
  generalize upV (p * needN n) 1000 = V at *
  generalize p * needN n / 18446744073709551616 = hi at *
  generalize p * needN n % 18446744073709551616 = lo at *
  generalize needN n = k at *
  clear hS
  go_enter Try.func13, Try.ntmps13
  go_wp2_with fail
  refine HT.out.mono ?_
  rintro e w' ⟨rfl, rfl⟩
  go_wp2_with fail
  refine HS.out.mono ?_
  rintro e w' ⟨rfl, rfl⟩
  go_wp2
  go_ret
  exact ⟨rfl, rfl⟩
set_option maxRecDepth 100000 in
theorem refper_any (f : Nat) (n : Int) (hf : f < 18446744073709551616) (hn : n ≤ 9223372036854775807) (w : World) :
    Calls Try.prog 12 #[.agg #[.int .u64 (f : Int), .int .i64 n]] w fun e w' => e = .returned (.int .u64 (upV (f * 1000) (sizeN n) : Int)) ∧ Below w.heap.size w w' := by
  have hs := sizeN_lt hn
  have HT := Lib.hid (fun W => times_any f 1000 hf (by omega) W)
  have HZ := Lib.hid (fun W => refsize_any n hn W)
  have hS := fun W => shared_any (f * 1000 / 18446744073709551616) (f * 1000 % 18446744073709551616) (sizeN n) (sizeN_pos n) (by omega) (Nat.mod_lt _ (by omega)) W
  rw [up_parts] at hS
  have HS := Lib.hid hS
  generalize upV (f * 1000) (sizeN n) = V at *
  generalize f * 1000 / 18446744073709551616 = hi at *
  generalize f * 1000 % 18446744073709551616 = lo at *
  generalize sizeN n = k at *
  clear hS hs
  go_enter Try.func12, Try.ntmps12
  go_wp2_with fail
  refine (HT.out _).mono ?_
  rintro e w' ⟨rfl, rfl⟩
  go_wp2_with fail
  refine (HZ.out _).mono ?_
  rintro e w' ⟨rfl, rfl⟩
  go_wp2_with fail
  refine (HS.out _).mono ?_
  rintro e w' ⟨rfl, rfl⟩
  go_wp2
  go_ret
  exact ⟨rfl, (Below.refl _ _).alloc (Nat.le_refl _) _⟩

set_option maxRecDepth 100000 in
set_option maxHeartbeats 1000000 in
theorem refcompare_any (f : Nat) (n : Int) (g : Nat) (m : Int) (hf : f < 18446744073709551616) (hg : g < 18446744073709551616) (hn : n ≤ 9223372036854775807) (hm : m ≤ 9223372036854775807) (w : World) :
    Calls Try.prog 11 #[.agg #[.int .u64 (f : Int), .int .i64 n], .agg #[.int .u64 (g : Int), .int .i64 m]] w fun e w' => e = .returned (.int .i64 (rateV f n g m)) ∧ Below w.heap.size w w' := by
  have hs := sizeN_lt hn
  have ht := sizeN_lt hm
  have HA := Lib.hid (fun W => times_any f (sizeN m) hf (by omega) W)
  have HB := Lib.hid (fun W => times_any g (sizeN n) hg (by omega) W)
  have HCA := Lib.hid (fun W => refsize_any n hn W)
  have HCB := Lib.hid (fun W => refsize_any m hm W)
  unfold rateV
  generalize f * sizeN m = x at *
  generalize g * sizeN n = y at *
  generalize sizeN m = k at *
  generalize sizeN n = l at *
  have hx := Nat.div_add_mod' x 18446744073709551616
  have hy := Nat.div_add_mod' y 18446744073709551616
  have hxl := Nat.mod_lt x (show 0 < 18446744073709551616 by omega)
  have hyl := Nat.mod_lt y (show 0 < 18446744073709551616 by omega)
  generalize x / 18446744073709551616 = xh at *
  generalize y / 18446744073709551616 = yh at *
  generalize x % 18446744073709551616 = xl at *
  generalize y % 18446744073709551616 = yl at *
  obtain ⟨V, hV⟩ : ∃ V, ordV x y = V := ⟨_, rfl⟩
  rw [hV]
  have HV : Hid ((xh < yh → V = -1) ∧ (xh = yh → xl < yl → V = -1) ∧ (xh = yh → xl = yl → V = 0) ∧ (xh = yh → yl < xl → V = 1) ∧ (yh < xh → V = 1)) := Lib.hid (by
    unfold ordV at hV
    repeat' split at hV
    all_goals omega)
  clear hx hy hxl hyl hs ht hf hg hn hm hV
  obtain ⟨W1, hW1⟩ : ∃ W, (w.alloc (.cells #[.int .u64 (f : Int), .int .i64 n] 24)).alloc (.cells #[.int .u64 (g : Int), .int .i64 m] 24) = W := ⟨_, rfl⟩
  have HB1 := Lib.hid (show Below w.heap.size w W1 by rw [← hW1]; exact ((Below.refl _ _).alloc (Nat.le_refl _) _).alloc (by simp) _)
  have HX := Lib.hid (fun W (hW : Below W1.heap.size W1 W) => by
    have hb : Box W w.heap.size 24 #[.int .u64 (f : Int), .int .i64 n] := by
      have h0 : Box W1 w.heap.size 24 #[.int .u64 (f : Int), .int .i64 n] := by rw [← hW1]; exact (Box.fresh _ _ _).below ((Below.refl _ _).alloc (by simp) _)
      exact h0.below hW
    have hb2 : Box W (w.heap.size + 1) 24 #[.int .u64 (g : Int), .int .i64 m] := by
      have h0 : Box W1 (w.heap.size + 1) 24 #[.int .u64 (g : Int), .int .i64 m] := by
        have := Box.fresh (w.alloc (.cells #[.int .u64 (f : Int), .int .i64 n] 24)) 24 #[.int .u64 (g : Int), .int .i64 m]
        rw [← hW1]
        simpa using this
      exact h0.below hW
    exact And.intro (hb.cell 0) (And.intro (hb.cell 1) (And.intro (hb2.cell 0) (hb2.cell 1))))
  have HW1 := Lib.hid hW1
  have hbd : Below W1.heap.size W1 W1.drew := (Below.refl _ _).drew
  have h0 := HX.out _ hbd
  have HBD := Lib.hid hbd
  clear hW1 hbd
  go_enter Try.func11, Try.ntmps11
  go_wp2_with fail
  rw [HW1.out]
  go_region_held3 (fun W => W.cell? ⟨w.heap.size, 0, none⟩ = some (.int .u64 (f : Int)) ∧ W.cell? ⟨w.heap.size, 1, none⟩ = some (.int .i64 n) ∧ W.cell? ⟨w.heap.size + 1, 0, none⟩ = some (.int .u64 (g : Int)) ∧ W.cell? ⟨w.heap.size + 1, 1, none⟩ = some (.int .i64 m)) (first | exact h0 | assumption) ((first | (go_at_call 21; refine (HCB.out _).mono ?_; rintro e w2 ⟨rfl, rfl⟩) | (go_at_call 20; refine (HA.out _).mono ?_; rintro e w3 ⟨rfl, rfl⟩)))
  have hbd2 : Below W1.heap.size W1 W1.drew.drew := HBD.out.drew
  replace h0 := HX.out _ hbd2
  replace HBD := Lib.hid hbd2
  clear hbd2
  go_wp2_with fail
  go_region_held3 (fun W => W.cell? ⟨w.heap.size, 0, none⟩ = some (.int .u64 (f : Int)) ∧ W.cell? ⟨w.heap.size, 1, none⟩ = some (.int .i64 n) ∧ W.cell? ⟨w.heap.size + 1, 0, none⟩ = some (.int .u64 (g : Int)) ∧ W.cell? ⟨w.heap.size + 1, 1, none⟩ = some (.int .i64 m)) (first | exact h0 | assumption) ((first | (go_at_call 21; refine (HCA.out _).mono ?_; rintro e w4 ⟨rfl, rfl⟩) | (go_at_call 20; refine (HB.out _).mono ?_; rintro e w5 ⟨rfl, rfl⟩)))
  have HE := Lib.hid (HB1.out.trans (HBD.out.mono HB1.out.size))
  clear h0 HBD HX HB1
  obtain ⟨v1, v2, v3, v4, v5⟩ := HV.out
  rcases Nat.lt_trichotomy xh yh with c | c | c
  · obtain rfl := v1 c
    have lxh1 : ((xh : Int) < (yh : Int)) = True := by simp; omega
    have lxh2 : (xh < yh) = True := by simp; omega
    have exh1 : ((xh : Int) = (yh : Int)) = False := by simp; omega
    have exh2 : (xh = yh) = False := by simp; omega
    have exh3 : ((xh : Int) == (yh : Int)) = false := by simp; omega
    clear c v1 v2 v3 v4 v5 HV
    go_wp2
    go_ret
    exact ⟨rfl, HE.out⟩
  · rcases Nat.lt_trichotomy xl yl with d | d | d
    · obtain rfl := v2 c d
      have lxl1 : ((xl : Int) < (yl : Int)) = True := by simp; omega
      have lxl2 : (xl < yl) = True := by simp; omega
      have exl1 : ((xl : Int) = (yl : Int)) = False := by simp; omega
      have exl2 : (xl = yl) = False := by simp; omega
      have exl3 : ((xl : Int) == (yl : Int)) = false := by simp; omega
      have lxh1 : ((xh : Int) < (yh : Int)) = False := by simp; omega
      have lxh2 : (xh < yh) = False := by simp; omega
      have exh1 : ((xh : Int) = (yh : Int)) = True := by simp; omega
      have exh2 : (xh = yh) = True := by simp; omega
      have exh3 : ((xh : Int) == (yh : Int)) = true := by simp; omega
      clear c d v1 v2 v3 v4 v5 HV
      go_wp2
      go_ret
      exact ⟨rfl, HE.out⟩
    · obtain rfl := v3 c d
      have lxl1 : ((xl : Int) < (yl : Int)) = False := by simp; omega
      have lxl2 : (xl < yl) = False := by simp; omega
      have exl1 : ((xl : Int) = (yl : Int)) = True := by simp; omega
      have exl2 : (xl = yl) = True := by simp; omega
      have exl3 : ((xl : Int) == (yl : Int)) = true := by simp; omega
      have lxh1 : ((xh : Int) < (yh : Int)) = False := by simp; omega
      have lxh2 : (xh < yh) = False := by simp; omega
      have exh1 : ((xh : Int) = (yh : Int)) = True := by simp; omega
      have exh2 : (xh = yh) = True := by simp; omega
      have exh3 : ((xh : Int) == (yh : Int)) = true := by simp; omega
      clear c d v1 v2 v3 v4 v5 HV
      go_wp2
      go_ret
      exact ⟨rfl, HE.out⟩
    · obtain rfl := v4 c d
      have lxl1 : ((xl : Int) < (yl : Int)) = False := by simp; omega
      have lxl2 : (xl < yl) = False := by simp; omega
      have exl1 : ((xl : Int) = (yl : Int)) = False := by simp; omega
      have exl2 : (xl = yl) = False := by simp; omega
      have exl3 : ((xl : Int) == (yl : Int)) = false := by simp; omega
      have lxh1 : ((xh : Int) < (yh : Int)) = False := by simp; omega
      have lxh2 : (xh < yh) = False := by simp; omega
      have exh1 : ((xh : Int) = (yh : Int)) = True := by simp; omega
      have exh2 : (xh = yh) = True := by simp; omega
      have exh3 : ((xh : Int) == (yh : Int)) = true := by simp; omega
      clear c d v1 v2 v3 v4 v5 HV
      go_wp2
      go_ret
      exact ⟨rfl, HE.out⟩
  · obtain rfl := v5 c
    have lxh1 : ((xh : Int) < (yh : Int)) = False := by simp; omega
    have lxh2 : (xh < yh) = False := by simp; omega
    have exh1 : ((xh : Int) = (yh : Int)) = False := by simp; omega
    have exh2 : (xh = yh) = False := by simp; omega
    have exh3 : ((xh : Int) == (yh : Int)) = false := by simp; omega
    clear c v1 v2 v3 v4 v5 HV
    go_wp2
    go_ret
    exact ⟨rfl, HE.out⟩
end Go.Proofs.Ytompcibcgfjpfaa
