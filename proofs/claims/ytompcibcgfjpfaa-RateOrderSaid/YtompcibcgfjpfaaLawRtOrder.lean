/- Rates stand in one order: for any three rates the law RateOrder returns true and leaves them as they were. No further condition. -/
import Derived.Test.YtompcibcgfjpfaaRtH
import Derived.Test.YtompcibcgfjpfaaRtR
import Derived.Deep.DeepCutAuto
import Derived.RegionTactic
import Derived.ChangeAlike
namespace Go.Proofs.Ytompcibcgfjpfaa.lawRtOrder
open Go.ChangeShapes Go.WideShapes Go.ChangeAt Go.RowKit

theorem ord_cases (x y : Nat) : (x < y ∧ ordV x y = -1) ∨ (x = y ∧ ordV x y = 0) ∨ (y < x ∧ ordV x y = 1) := by
  unfold ordV
  rcases Nat.lt_trichotomy x y with h | h | h
  · left; exact ⟨h, if_pos h⟩
  · right; left; exact ⟨h, by rw [if_neg (by omega), if_neg (by omega)]⟩
  · right; right; exact ⟨h, by rw [if_neg (by omega), if_pos h]⟩
/-- What is no more than what is no more is no more, crosswise. -/
theorem cross (f1 f2 f3 s1 s2 s3 : Nat) (h2 : 0 < s2) (a : f1 * s2 ≤ f2 * s1) (b : f2 * s3 ≤ f3 * s2) : f1 * s3 ≤ f3 * s1 := by
  have h1 : f1 * s2 * s3 ≤ f2 * s1 * s3 := Nat.mul_le_mul_right _ a
  have h3 : f2 * s3 * s1 ≤ f3 * s2 * s1 := Nat.mul_le_mul_right _ b
  rw [Nat.mul_right_comm f2 s1 s3] at h1
  have h4 : f1 * s3 * s2 ≤ f3 * s1 * s2 := by
    rw [Nat.mul_right_comm f1 s3 s2, Nat.mul_right_comm f3 s1 s2]
    omega
  exact Nat.le_of_mul_le_mul_right h4 h2
theorem cross_lt1 (f1 f2 f3 s1 s2 s3 : Nat) (_h2 : 0 < s2) (h3 : 0 < s3) (a : f1 * s2 < f2 * s1) (b : f2 * s3 ≤ f3 * s2) : f1 * s3 < f3 * s1 := by
  have h1 : f1 * s2 * s3 < f2 * s1 * s3 := Nat.mul_lt_mul_of_pos_right a h3
  have h4 : f2 * s3 * s1 ≤ f3 * s2 * s1 := Nat.mul_le_mul_right _ b
  rw [Nat.mul_right_comm f2 s1 s3] at h1
  have h5 : f1 * s3 * s2 < f3 * s1 * s2 := by
    rw [Nat.mul_right_comm f1 s3 s2, Nat.mul_right_comm f3 s1 s2]
    omega
  exact Nat.lt_of_mul_lt_mul_right h5
theorem cross_lt2 (f1 f2 f3 s1 s2 s3 : Nat) (h1 : 0 < s1) (a : f1 * s2 ≤ f2 * s1) (b : f2 * s3 < f3 * s2) : f1 * s3 < f3 * s1 := by
  have h4 : f1 * s2 * s3 ≤ f2 * s1 * s3 := Nat.mul_le_mul_right _ a
  have h5 : f2 * s3 * s1 < f3 * s2 * s1 := Nat.mul_lt_mul_of_pos_right b h1
  rw [Nat.mul_right_comm f2 s1 s3] at h4
  have h6 : f1 * s3 * s2 < f3 * s1 * s2 := by
    rw [Nat.mul_right_comm f1 s3 s2, Nat.mul_right_comm f3 s1 s2]
    omega
  exact Nat.lt_of_mul_lt_mul_right h6
/-- How three rates stand to each other. -/
theorem order3 (f1 f2 f3 : Nat) (n1 n2 n3 x y z : Int) (hx : rateV f1 n1 f2 n2 = x) (hy : rateV f2 n2 f3 n3 = y) (hz : rateV f1 n1 f3 n3 = z) :
    (x ≤ 0 → y ≤ 0 → z ≤ 0) ∧ (x < 0 → y ≤ 0 → z < 0) ∧ (x ≤ 0 → y < 0 → z < 0) ∧ (x = 0 → y = 0 → z = 0) ∧ (x = -1 ∨ x = 0 ∨ x = 1) ∧ (y = -1 ∨ y = 0 ∨ y = 1) ∧ (z = -1 ∨ z = 0 ∨ z = 1) := by
  unfold rateV at *
  have p1 := sizeN_pos n1
  have p2 := sizeN_pos n2
  have p3 := sizeN_pos n3
  generalize sizeN n1 = s1 at *
  generalize sizeN n2 = s2 at *
  generalize sizeN n3 = s3 at *
  have k1 := cross f1 f2 f3 s1 s2 s3 p2
  have k2 := cross_lt1 f1 f2 f3 s1 s2 s3 p2 p3
  have k3 := cross_lt2 f1 f2 f3 s1 s2 s3 p1
  have k4 := cross f3 f2 f1 s3 s2 s1 p2
  have c1 := ord_cases (f1 * s2) (f2 * s1)
  have c2 := ord_cases (f2 * s3) (f3 * s2)
  have c3 := ord_cases (f1 * s3) (f3 * s1)
  rw [hx] at c1
  rw [hy] at c2
  rw [hz] at c3
  generalize f1 * s2 = A at *
  generalize f2 * s1 = B at *
  generalize f2 * s3 = C at *
  generalize f3 * s2 = D at *
  generalize f1 * s3 = E at *
  generalize f3 * s1 = F at *
  clear hx hy hz
  rcases c1 with ⟨c1, rfl⟩ | ⟨c1, rfl⟩ | ⟨c1, rfl⟩ <;> rcases c2 with ⟨c2, rfl⟩ | ⟨c2, rfl⟩ | ⟨c2, rfl⟩ <;> rcases c3 with ⟨c3, rfl⟩ | ⟨c3, rfl⟩ | ⟨c3, rfl⟩ <;>
    refine ⟨fun _ _ => ?_, fun _ _ => ?_, fun _ _ => ?_, fun _ _ => ?_, by decide, by decide, by decide⟩ <;> omega
theorem up_mono (N M c : Nat) (hc : 0 < c) (h : N ≤ M) : upV N c ≤ upV M c := by
  have h1 := up_max M c
  have h2 := up_max N c
  by_cases hk : upV M c < 18446744073709551615
  · exact (up_le N c _ hc hk).2 (Nat.le_trans h ((up_le M c _ hc hk).1 (Nat.le_refl _)))
  · omega
theorem more_is_more (f : Nat) (n : Int) : rateV f n (f + 1) n = -1 := by
  unfold rateV ordV
  have := sizeN_pos n
  rw [Nat.add_mul, Nat.one_mul, if_pos (by omega)]

set_option maxRecDepth 100000 in
set_option maxHeartbeats 4000000 in
theorem walk (a b c : RateD) (w : World) (ha : a.Fit) (hb : b.Fit) (hc : c.Fit) :
    Calls Try.prog 4 #[.agg #[.int .u64 (a.fee : Int), .int .i64 a.size], .agg #[.int .u64 (b.fee : Int), .int .i64 b.size], .agg #[.int .u64 (c.fee : Int), .int .i64 c.size]] w (YesK w) := by
  obtain ⟨fa, na⟩ := a
  obtain ⟨fb, nb⟩ := b
  obtain ⟨fc, nc⟩ := c
  obtain ⟨a1, a2, a3⟩ := ha
  obtain ⟨b1, b2, b3⟩ := hb
  obtain ⟨c1, c2, c3⟩ := hc
  dsimp only at a1 a2 a3 b1 b2 b3 c1 c2 c3 ⊢
  have H1 := Lib.hid (fun W => compare_any fa na fb nb a1 b1 a3 b3 W)
  have H2 := Lib.hid (fun W => compare_any fb nb fc nc b1 c1 b3 c3 W)
  have H3 := Lib.hid (fun W => compare_any fa na fc nc a1 c1 a3 c3 W)
  obtain ⟨x, hx⟩ : ∃ x, rateV fa na fb nb = x := ⟨_, rfl⟩
  obtain ⟨y, hy⟩ : ∃ x, rateV fb nb fc nc = x := ⟨_, rfl⟩
  obtain ⟨z, hz⟩ : ∃ x, rateV fa na fc nc = x := ⟨_, rfl⟩
  have HO := Lib.hid (order3 fa fb fc na nb nc x y z hx hy hz)
  rw [hx] at H1
  rw [hy] at H2
  rw [hz] at H3
  have HF := Lib.hid (And.intro a1 (And.intro a2 a3))
  clear hx hy hz a1 a2 a3 b1 b2 b3 c1 c2 c3
  obtain ⟨W1, hW1⟩ : ∃ W, ((w.alloc (.cells #[.int .u64 (fa : Int), .int .i64 na] 24)).alloc (.cells #[.int .u64 (fb : Int), .int .i64 nb] 24)).alloc (.cells #[.int .u64 (fc : Int), .int .i64 nc] 24) = W := ⟨_, rfl⟩
  have HB1 := Lib.hid (show Below w.heap.size w W1 by rw [← hW1]; exact (((Below.refl _ _).alloc (Nat.le_refl _) _).alloc (by simp) _).alloc (by simp; omega) _)
  have HX := Lib.hid (fun W (hW : Below W1.heap.size W1 W) => by
    have h1 : Box W w.heap.size 24 #[.int .u64 (fa : Int), .int .i64 na] := by
      have h0 : Box W1 w.heap.size 24 #[.int .u64 (fa : Int), .int .i64 na] := by rw [← hW1]; exact ((Box.fresh _ _ _).below ((Below.refl _ _).alloc (by simp) _)).below ((Below.refl _ _).alloc (by simp) _)
      exact h0.below hW
    have h2 : Box W (w.heap.size + 1) 24 #[.int .u64 (fb : Int), .int .i64 nb] := by
      have h0 : Box W1 (w.heap.size + 1) 24 #[.int .u64 (fb : Int), .int .i64 nb] := by
        have := Box.fresh (w.alloc (.cells #[.int .u64 (fa : Int), .int .i64 na] 24)) 24 #[.int .u64 (fb : Int), .int .i64 nb]
        rw [← hW1]
        exact Box.below (by simpa using this) ((Below.refl _ _).alloc (by simp) _)
      exact h0.below hW
    have h3 : Box W (w.heap.size + 1 + 1) 24 #[.int .u64 (fc : Int), .int .i64 nc] := by
      have h0 : Box W1 (w.heap.size + 1 + 1) 24 #[.int .u64 (fc : Int), .int .i64 nc] := by
        have := Box.fresh ((w.alloc (.cells #[.int .u64 (fa : Int), .int .i64 na] 24)).alloc (.cells #[.int .u64 (fb : Int), .int .i64 nb] 24)) 24 #[.int .u64 (fc : Int), .int .i64 nc]
        rw [← hW1]
        simpa using this
      exact h0.below hW
    exact (show W.cell? ⟨w.heap.size, 0, none⟩ = some (.int .u64 (fa : Int)) ∧ W.cell? ⟨w.heap.size, 1, none⟩ = some (.int .i64 na) ∧ W.cell? ⟨w.heap.size + 1, 0, none⟩ = some (.int .u64 (fb : Int)) ∧ W.cell? ⟨w.heap.size + 1, 1, none⟩ = some (.int .i64 nb) ∧ W.cell? ⟨w.heap.size + 1 + 1, 0, none⟩ = some (.int .u64 (fc : Int)) ∧ W.cell? ⟨w.heap.size + 1 + 1, 1, none⟩ = some (.int .i64 nc) from ⟨h1.cell 0, h1.cell 1, h2.cell 0, h2.cell 1, h3.cell 0, h3.cell 1⟩))
  have HXB := Lib.hid (fun W (hW : Below W1.heap.size W1 W) => show Box W w.heap.size 24 #[.int .u64 (fa : Int), .int .i64 na] from by
    have h0 : Box W1 w.heap.size 24 #[.int .u64 (fa : Int), .int .i64 na] := by rw [← hW1]; exact ((Box.fresh _ _ _).below ((Below.refl _ _).alloc (by simp) _)).below ((Below.refl _ _).alloc (by simp) _)
    exact h0.below hW)
  have HW1 := Lib.hid hW1
  have hbd : Below W1.heap.size W1 W1.drew := (Below.refl _ _).drew
  have h0 := HX.out _ hbd
  clear hW1
  go_enter Try.func4, Try.ntmps4
  go_wp2_with fail
  rw [HW1.out]
  refine wp_region_noPanic ?_
  refine wp_region_held_drew (S := (fun W => W.cell? ⟨w.heap.size, 0, none⟩ = some (.int .u64 (fa : Int)) ∧ W.cell? ⟨w.heap.size, 1, none⟩ = some (.int .i64 na) ∧ W.cell? ⟨w.heap.size + 1, 0, none⟩ = some (.int .u64 (fb : Int)) ∧ W.cell? ⟨w.heap.size + 1, 1, none⟩ = some (.int .i64 nb) ∧ W.cell? ⟨w.heap.size + 1 + 1, 0, none⟩ = some (.int .u64 (fc : Int)) ∧ W.cell? ⟨w.heap.size + 1 + 1, 1, none⟩ = some (.int .i64 nc))) (by kernel_rfl) ?_ (fun hHeld => ?_)
  · exact h0
  refine wpAnyH_take (i := 0) (oi := ⟨some 11, _, _, _, _, _⟩) (v := ?_) rfl (by kernel_rfl) (by kernel_rfl) (by kernel_rfl) (fun _ _ _ h => h) (Or.inl ⟨by rfl, ?_⟩) hHeld ?_
  rotate_left
  · (intro wx hSw; (try dsimp only at hSw); go_simp; try with_reducible rfl)
  try simp only [Act.put, List.setIfInBounds_toArray, List.set_cons_zero, List.set_cons_succ]
  refine wpAnyH_take (i := 1) (oi := ⟨some 12, _, _, _, _, _⟩) (v := ?_) rfl (by kernel_rfl) (by kernel_rfl) (by kernel_rfl) (fun _ _ _ h => h) (Or.inl ⟨by rfl, ?_⟩) hHeld ?_
  rotate_left
  · (intro wx hSw; (try dsimp only at hSw); go_simp; try with_reducible rfl)
  try simp only [Act.put, List.setIfInBounds_toArray, List.set_cons_zero, List.set_cons_succ]
  refine wpAnyH_take (i := 3) (oi := ⟨some 14, _, _, _, _, _⟩) (v := ?_) rfl (by kernel_rfl) (by kernel_rfl) (by kernel_rfl) (fun _ _ _ h => h) (Or.inl ⟨by rfl, ?_⟩) hHeld ?_
  rotate_left
  · (intro wx hSw; (try dsimp only at hSw); go_simp; try with_reducible rfl)
  try simp only [Act.put, List.setIfInBounds_toArray, List.set_cons_zero, List.set_cons_succ]
  refine wpAnyH_take (i := 4) (oi := ⟨some 15, _, _, _, _, _⟩) (v := ?_) rfl (by kernel_rfl) (by kernel_rfl) (by kernel_rfl) (fun _ _ _ h => h) (Or.inl ⟨by rfl, ?_⟩) hHeld ?_
  rotate_left
  · (intro wx hSw; (try dsimp only at hSw); go_simp; try with_reducible rfl)
  try simp only [Act.put, List.setIfInBounds_toArray, List.set_cons_zero, List.set_cons_succ]
  refine wpAnyH_take (i := 6) (oi := ⟨some 17, _, _, _, _, _⟩) (v := ?_) rfl (by kernel_rfl) (by kernel_rfl) (by kernel_rfl) (fun _ _ _ h => h) (Or.inl ⟨by rfl, ?_⟩) hHeld ?_
  rotate_left
  · (intro wx hSw; (try dsimp only at hSw); go_simp; try with_reducible rfl)
  try simp only [Act.put, List.setIfInBounds_toArray, List.set_cons_zero, List.set_cons_succ]
  refine wpAnyH_take (i := 7) (oi := ⟨some 18, _, _, _, _, _⟩) (v := ?_) rfl (by kernel_rfl) (by kernel_rfl) (by kernel_rfl) (fun _ _ _ h => h) (Or.inl ⟨by rfl, ?_⟩) hHeld ?_
  rotate_left
  · (intro wx hSw; (try dsimp only at hSw); go_simp; try with_reducible rfl)
  try simp only [Act.put, List.setIfInBounds_toArray, List.set_cons_zero, List.set_cons_succ]
  refine wpAnyH_ready (rs := [2]) (by kernel_rfl) (by simp) (AllReadyH.cons (o := ⟨some 13, _, _, _, _, _⟩) rfl (fun K hK => ?_) AllReadyH.nil)
  go_simp
  refine (H1.out _).mono ?_
  rintro e w2 ⟨rfl, hb2⟩
  replace hbd := hbd.trans (hb2.mono hbd.size)
  clear hb2
  refine hK.out _ _ ?_ (fun hHeld => ?_)
  · exact HX.out _ hbd
  clear hK K
  try simp only [Act.put, List.setIfInBounds_toArray, List.set_cons_zero, List.set_cons_succ]
  refine wpAnyH_ready (rs := [5]) (by kernel_rfl) (by simp) (AllReadyH.cons (o := ⟨some 16, _, _, _, _, _⟩) rfl (fun K hK => ?_) AllReadyH.nil)
  go_simp
  refine (H2.out _).mono ?_
  rintro e w3 ⟨rfl, hb3⟩
  replace hbd := hbd.trans (hb3.mono hbd.size)
  clear hb3
  refine hK.out _ _ ?_ (fun hHeld => ?_)
  · exact HX.out _ hbd
  clear hK K
  try simp only [Act.put, List.setIfInBounds_toArray, List.set_cons_zero, List.set_cons_succ]
  refine wpAnyH_ready (rs := [8]) (by kernel_rfl) (by simp) (AllReadyH.cons (o := ⟨some 19, _, _, _, _, _⟩) rfl (fun K hK => ?_) AllReadyH.nil)
  go_simp
  refine (H3.out _).mono ?_
  rintro e w4 ⟨rfl, hb4⟩
  replace hbd := hbd.trans (hb4.mono hbd.size)
  clear hb4
  refine hK.out _ _ ?_ (fun hHeld => ?_)
  · exact HX.out _ hbd
  clear hK K
  try simp only [Act.put, List.setIfInBounds_toArray, List.set_cons_zero, List.set_cons_succ]
  refine wpAnyH_take (i := 9) (oi := ⟨some 7, _, _, _, _, _⟩) (v := ?_) rfl (by kernel_rfl) (by kernel_rfl) (by kernel_rfl) (fun _ _ _ h => h) (Or.inl ⟨by rfl, ?_⟩) hHeld ?_
  rotate_left
  · (intro wx hSw; (try dsimp only at hSw); go_simp; try with_reducible rfl)
  try simp only [Act.put, List.setIfInBounds_toArray, List.set_cons_zero, List.set_cons_succ]
  refine wpAnyH_take (i := 10) (oi := ⟨some 8, _, _, _, _, _⟩) (v := ?_) rfl (by kernel_rfl) (by kernel_rfl) (by kernel_rfl) (fun _ _ _ h => h) (Or.inl ⟨by rfl, ?_⟩) hHeld ?_
  rotate_left
  · (intro wx hSw; (try dsimp only at hSw); go_simp; try with_reducible rfl)
  try simp only [Act.put, List.setIfInBounds_toArray, List.set_cons_zero, List.set_cons_succ]
  refine wpAnyH_take (i := 11) (oi := ⟨some 9, _, _, _, _, _⟩) (v := ?_) rfl (by kernel_rfl) (by kernel_rfl) (by kernel_rfl) (fun _ _ _ h => h) (Or.inl ⟨by rfl, ?_⟩) hHeld ?_
  rotate_left
  · (intro wx hSw; (try dsimp only at hSw); go_simp; try with_reducible rfl)
  try simp only [Act.put, List.setIfInBounds_toArray, List.set_cons_zero, List.set_cons_succ]
  refine wpAnyH_done (by kernel_rfl) ?_ _
  refine NoPanic.normal ?_
  obtain ⟨o1, o2, o3, o4, ox, oy, oz⟩ := HO.out
  clear HO H1 H2 H3 HW1 h0
  obtain ⟨f1, f2, f3, f4, f5, f6⟩ := HX.out _ hbd
  have HBA := Lib.hid (HXB.out _ hbd)
  have HBD := Lib.hid (HB1.out.trans (hbd.mono HB1.out.size))
  have hz1 := HB1.out.size
  have hz2 := hbd.size
  have hlt : w.heap.size < w4.heap.size := World.block_lt_of_cell? w4 ⟨w.heap.size, 0, none⟩ f1
  clear hbd HX HXB HB1 hz1 hz2 f3 f4 f5 f6
  have HAW := Lib.hid awake7_any
  by_cases hmax : fa < 18446744073709551615
  · have g1 : ((fa : Int) < 18446744073709551615) = True := by simp; omega
    have g2 : (fa < 18446744073709551615) = True := by simp [hmax]
    obtain ⟨F1, hF1⟩ : ∃ F1, fa + 1 = F1 := ⟨_, rfl⟩
    have g3 : IntKind.u64.wrap ((fa : Int) + 1) = (F1 : Int) := by rw [← hF1]; exact addfit_u64 fa 1 (by omega)
    have hcm := more_is_more fa na
    have hpm := up_mono (fa * 1000) (F1 * 1000) (sizeN na) (sizeN_pos na) (by omega)
    rw [hF1] at hcm
    have H4 := Lib.hid (fun W => compare_any fa na F1 na HF.out.1 (by omega) HF.out.2.2 HF.out.2.2 W)
    rw [hcm] at H4
    have H5 := Lib.hid (fun W => per_any F1 na (by omega) HF.out.2.2 W)
    have H6 := Lib.hid (fun W => per_any fa na HF.out.1 HF.out.2.2 W)
    generalize upV (F1 * 1000) (sizeN na) = PD at *
    generalize upV (fa * 1000) (sizeN na) = PA at *
    have g4 : ((PD : Int) < (PA : Int)) = False := by simp; omega
    have g5 : (PD < PA) = False := by simp; omega
    have h1 : Box w4 w.heap.size 24 #[.int .u64 (fa : Int), .int .i64 na] := HBA.out
    have e1 : (w4.alloc (.cells #[.int .u64 (fa : Int), .int .i64 na] 24)).cell? ⟨w4.heap.size, 0, none⟩ = some (.int .u64 (fa : Int)) := (Box.fresh w4 24 #[.int .u64 (fa : Int), .int .i64 na]).cell 0
    have e2 := (Box.fresh w4 24 #[.int .u64 (fa : Int), .int .i64 na]).warm 0
    have qb : Below w4.heap.size w4 (w4.alloc (.cells #[.int .u64 (F1 : Int), .int .i64 na] 24)) := (Below.refl _ _).alloc (Nat.le_refl _) _
    have z1 := h1.below qb
    have z2 := Box.fresh w4 24 #[.int .u64 (F1 : Int), .int .i64 na]
    obtain ⟨W6, hW6⟩ : ∃ W, w4.alloc (.cells #[.int .u64 (F1 : Int), .int .i64 na] 24) = W := ⟨_, rfl⟩
    rw [hW6] at qb z1 z2
    have HW6 := Lib.hid hW6
    have HX7 := Lib.hid (fun W (hW : Below W6.heap.size W6 W) => show W.cell? ⟨w.heap.size, 0, none⟩ = some (.int .u64 (fa : Int)) ∧ W.cell? ⟨w.heap.size, 1, none⟩ = some (.int .i64 na) ∧ W.cell? ⟨w4.heap.size, 0, none⟩ = some (.int .u64 (F1 : Int)) ∧ W.cell? ⟨w4.heap.size, 1, none⟩ = some (.int .i64 na) from ⟨(z1.below hW).cell 0, (z1.below hW).cell 1, (z2.below hW).cell 0, (z2.below hW).cell 1⟩)
    replace HBD := Lib.hid (HBD.out.trans (qb.mono HBD.out.size))
    have hbd : Below W6.heap.size W6 W6.drew := (Below.refl _ _).drew
    have h7 := HX7.out _ hbd
    clear hcm hpm hF1 hmax HF h1 z2 z1 qb hW6 hlt HBA
    rcases ox with rfl | rfl | rfl <;> rcases oy with rfl | rfl | rfl <;> rcases oz with rfl | rfl | rfl
    all_goals try (exfalso; omega)
    all_goals clear o1 o2 o3 o4
    all_goals
      go_wp2_with fail
      rw [HW6.out]
      refine wp_region_noPanic ?_
      refine wp_region_held_drew (S := (fun W => W.cell? ⟨w.heap.size, 0, none⟩ = some (.int .u64 (fa : Int)) ∧ W.cell? ⟨w.heap.size, 1, none⟩ = some (.int .i64 na) ∧ W.cell? ⟨w4.heap.size, 0, none⟩ = some (.int .u64 (F1 : Int)) ∧ W.cell? ⟨w4.heap.size, 1, none⟩ = some (.int .i64 na))) (by kernel_rfl) ?_ (fun hHeld => ?_)
      · exact h7
      refine wpAnyH_take (i := 0) (oi := ⟨some 74, _, _, _, _, _⟩) (v := ?_) rfl (by kernel_rfl) (by kernel_rfl) (by kernel_rfl) (fun _ _ _ h => h) (Or.inl ⟨by rfl, ?_⟩) hHeld ?_
      rotate_left
      · (intro wx hSw; (try dsimp only at hSw); go_simp; try with_reducible rfl)
      try simp only [Act.put, List.setIfInBounds_toArray, List.set_cons_zero, List.set_cons_succ]
      refine wpAnyH_take (i := 1) (oi := ⟨some 75, _, _, _, _, _⟩) (v := ?_) rfl (by kernel_rfl) (by kernel_rfl) (by kernel_rfl) (fun _ _ _ h => h) (Or.inl ⟨by rfl, ?_⟩) hHeld ?_
      rotate_left
      · (intro wx hSw; (try dsimp only at hSw); go_simp; try with_reducible rfl)
      try simp only [Act.put, List.setIfInBounds_toArray, List.set_cons_zero, List.set_cons_succ]
      refine wpAnyH_ready (rs := [2]) (by kernel_rfl) (by simp) (AllReadyH.cons (o := ⟨some 76, _, _, _, _, _⟩) rfl (fun K hK => ?_) AllReadyH.nil)
      go_simp
      refine (H4.out _).mono ?_
      rintro e w5 ⟨rfl, hb5⟩
      replace hbd := hbd.trans (hb5.mono hbd.size)
      clear hb5
      refine hK.out _ _ ?_ (fun hHeld => ?_)
      · exact HX7.out _ hbd
      clear hK K
      try simp only [Act.put, List.setIfInBounds_toArray, List.set_cons_zero, List.set_cons_succ]
      refine wpAnyH_take (i := 3) (oi := ⟨some 77, _, _, _, _, _⟩) (v := ?_) rfl (by kernel_rfl) (by kernel_rfl) (by kernel_rfl) (fun _ _ _ h => h) (Or.inl ⟨by rfl, ?_⟩) hHeld ?_
      rotate_left
      · (intro wx hSw; (try dsimp only at hSw); go_simp; try with_reducible rfl)
      try simp only [Act.put, List.setIfInBounds_toArray, List.set_cons_zero, List.set_cons_succ]
      refine wpAnyH_take (i := 4) (oi := ⟨some 78, _, _, _, _, _⟩) (v := ?_) rfl (by kernel_rfl) (by kernel_rfl) (by kernel_rfl) (fun _ _ _ h => h) (Or.inl ⟨by rfl, ?_⟩) hHeld ?_
      rotate_left
      · (intro wx hSw; (try dsimp only at hSw); go_simp; try with_reducible rfl)
      try simp only [Act.put, List.setIfInBounds_toArray, List.set_cons_zero, List.set_cons_succ]
      refine wpAnyH_take (i := 5) (oi := ⟨some 79, _, _, _, _, _⟩) (v := ?_) rfl (by kernel_rfl) (by kernel_rfl) (by kernel_rfl) (fun _ _ _ h => h) (Or.inl ⟨by rfl, ?_⟩) hHeld ?_
      rotate_left
      · (intro wx hSw; (try dsimp only at hSw); go_simp; try with_reducible rfl)
      try simp only [Act.put, List.setIfInBounds_toArray, List.set_cons_zero, List.set_cons_succ]
      refine wpAnyH_take (i := 7) (oi := ⟨some 81, _, _, _, _, _⟩) (v := ?_) rfl (by kernel_rfl) (by kernel_rfl) (by kernel_rfl) (fun _ _ _ h => h) (Or.inl ⟨by rfl, ?_⟩) hHeld ?_
      rotate_left
      · (intro wx hSw; (try dsimp only at hSw); go_simp; try with_reducible rfl)
      try simp only [Act.put, List.setIfInBounds_toArray, List.set_cons_zero, List.set_cons_succ]
      refine wpAnyH_ready (rs := [6]) (by kernel_rfl) (by simp) (AllReadyH.cons (o := ⟨some 80, _, _, _, _, _⟩) rfl (fun K hK => ?_) AllReadyH.nil)
      go_simp
      refine (H5.out _).mono ?_
      rintro e w6 ⟨rfl, hb6⟩
      replace hbd := hbd.trans (hb6.mono hbd.size)
      clear hb6
      refine hK.out _ _ ?_ (fun hHeld => ?_)
      · exact HX7.out _ hbd
      clear hK K
      try simp only [Act.put, List.setIfInBounds_toArray, List.set_cons_zero, List.set_cons_succ]
      refine wpAnyH_ready (rs := [8]) (by kernel_rfl) (by simp) (AllReadyH.cons (o := ⟨some 82, _, _, _, _, _⟩) rfl (fun K hK => ?_) AllReadyH.nil)
      go_simp
      refine (H6.out _).mono ?_
      rintro e w7 ⟨rfl, hb7⟩
      replace hbd := hbd.trans (hb7.mono hbd.size)
      clear hb7
      refine hK.out _ _ ?_ (fun hHeld => ?_)
      · exact HX7.out _ hbd
      clear hK K
      try simp only [Act.put, List.setIfInBounds_toArray, List.set_cons_zero, List.set_cons_succ]
      refine wpAnyH_take (i := 9) (oi := ⟨some 83, _, _, _, _, _⟩) (v := ?_) rfl (by kernel_rfl) (by kernel_rfl) (by kernel_rfl) (fun _ _ _ h => h) (Or.inl ⟨by rfl, ?_⟩) hHeld ?_
      rotate_left
      · (intro wx hSw; (try dsimp only at hSw); go_simp; try with_reducible rfl)
      try simp only [Act.put, List.setIfInBounds_toArray, List.set_cons_zero, List.set_cons_succ]
      refine wpAnyH_take (i := 10) (oi := ⟨some 84, _, _, _, _, _⟩) (v := ?_) rfl (by kernel_rfl) (by kernel_rfl) (by kernel_rfl) (fun _ _ _ h => h) (Or.inl ⟨by rfl, ?_⟩) hHeld ?_
      rotate_left
      · (intro wx hSw; (try dsimp only at hSw); go_simp; try with_reducible rfl)
      try simp only [Act.put, List.setIfInBounds_toArray, List.set_cons_zero, List.set_cons_succ]
      refine wpAnyH_done (by kernel_rfl) ?_ _
      refine NoPanic.normal ?_
      have HB7 := Lib.hid (HBD.out.trans (hbd.mono HBD.out.size))
      clear hbd hHeld HX7 HBD h7 H4 H5 H6 HW6
      go_wp2_with fail
      refine (HAW.out _).mono ?_
      rintro e w8 ⟨rfl, hb8⟩
      go_wp2
      go_ret
      exact ⟨rfl, HB7.out.trans (hb8.mono HB7.out.size)⟩
  · have g1 : ((fa : Int) < 18446744073709551615) = False := by simp; omega
    have g2 : (fa < 18446744073709551615) = False := by simp [hmax]
    have e1 : (w4.alloc (.cells #[.int .u64 (fa : Int), .int .i64 na] 24)).cell? ⟨w4.heap.size, 0, none⟩ = some (.int .u64 (fa : Int)) := (Box.fresh w4 24 #[.int .u64 (fa : Int), .int .i64 na]).cell 0
    clear hmax HF hlt HBA
    rcases ox with rfl | rfl | rfl <;> rcases oy with rfl | rfl | rfl <;> rcases oz with rfl | rfl | rfl
    all_goals try (exfalso; omega)
    all_goals clear o1 o2 o3 o4
    all_goals
      go_wp2_with fail
      refine (HAW.out _).mono ?_
      rintro e w8 ⟨rfl, hb8⟩
      go_wp2
      go_ret
      exact ⟨rfl, (HBD.out.alloc HBD.out.size _).trans (hb8.mono (HBD.out.alloc HBD.out.size _).size)⟩

set_option maxRecDepth 100000 in
theorem lifted (os : Os) (started : os.Started) (H : Type) (enc : TypeId × Value → H) :
    ReturnsInHanded {} Try.checked os 4 .any (Rows.rateOrderSpec.pre6 enc Try.prog Try.f4 Rows.rateOrderRow.domain false) (Rows.rateOrderSpec.post enc Try.prog Try.f4 false true false false) := by
  refine returnsInHanded_of_change (C := Try.checked) ownKnobNone started (by kernel_rfl) Try.func4
    (ChangeSpec.witness6 (enc := enc) (C := Try.checked) false ⟨#[], #[.agg #[.int .u64 0, .int .i64 0], .agg #[.int .u64 0, .int .i64 0], .agg #[.int .u64 0, .int .i64 0]], []⟩ 8 (by kernel_rfl) (by kernel_rfl) (by kernel_rfl) (by kernel_rfl)) ?_
  intro W base args ds gs before hval0 hW _ _
  have hval : ∀ (j : Nat) t v, Try.f4.params[j]? = some t → args[j]? = some v → Value.okWide Try.prog W .any base t v := hval0
  have hW' := hW
  obtain ⟨p, q, hA0, hV, rfl, _, _⟩ := hW
  have hA : DataW.TrodAll enc Try.prog W 0 (fun _ => true) true Try.f4.params.toList args.toList ds p := hA0
  rw [Try.params4] at hA hval
  obtain ⟨v0, vs0, d0, ds0, p0, q0, hargs, rfl, rfl, h0, r0⟩ := trodAll_cons hA
  obtain ⟨v1, vs1, d1, ds1, p1, q1, rfl, rfl, rfl, h1, r1⟩ := trodAll_cons r0
  obtain ⟨v2, vs2, d2, ds2, p2, q2, rfl, rfl, rfl, h2, r2⟩ := trodAll_cons r1
  obtain ⟨rfl, rfl, rfl⟩ := trodAll_nil r2
  obtain rfl : args = #[v0, v1, v2] := by cases args; simp_all
  obtain ⟨rfl, rfl⟩ := trodVars_none hV
  obtain ⟨t0, rfl, s0⟩ := rate_arg (hval 0 24 v0 rfl rfl) h0
  obtain ⟨t1, rfl, s1⟩ := rate_arg (hval 1 24 v1 rfl rfl) h1
  obtain ⟨t2, rfl, s2⟩ := rate_arg (hval 2 24 v2 rfl rfl) h2
  clear hA0 hval0
  refine (walk t0 t1 t2 W s0 s1 s2).mono fun e W' ⟨he, hb⟩ => ?_
  subst he
  exact ⟨_, rfl, law_post hW' rfl rfl (by kernel_rfl) rfl hb⟩

set_option maxRecDepth 100000 in
theorem over : Rows.rateOrderRow.holds Try.pinned (OpenSpec.ofChange Rows.rateOrderSpec) :=
  OpenClaim.holds_of_wide 4 Try.f4 rfl rfl rfl rfl rfl rfl rfl ⟨rfl, rfl, rfl, rfl, rfl⟩ rfl rfl rfl rfl rfl (by kernel_rfl) Try.func4 (by kernel_rfl)
    (of_decide_eq_true (by kernel_rfl)) (by unfold Func.isWrapper; first | (rw [if_pos (by decide +kernel)]; kernel_rfl) | (rw [if_neg (by decide +kernel)]; exact ⟨rfl, rfl⟩))
    (fun os started H enc _ => lifted os started H enc)

/-- The statement. -/
theorem proved : Rows.RateOrderSaid :=
  over
end Go.Proofs.Ytompcibcgfjpfaa.lawRtOrder
