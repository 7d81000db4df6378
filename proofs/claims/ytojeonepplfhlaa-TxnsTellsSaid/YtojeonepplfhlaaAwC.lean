/- awake of layer 3: what the document fixes. -/
import Derived.Test.YtojeonepplfhlaaScB
import Derived.Test.YtojeonepplfhlaaTxP
namespace Go.Proofs.Ytojeonepplfhlaa
open Go.RowKit

theorem t59_may : MayF (txOf 5 9) := (mayB_iff _).1 (by decide +kernel)
theorem t59_fit : TxFit (txOf 5 9) := by
  refine ⟨by decide +kernel, by decide +kernel, fun d hd => ?_, fun d hd => ?_⟩
  · have e : (txOf 5 9).ins = [inOf 9 0] := by decide +kernel
    rw [e, List.mem_singleton] at hd
    subst hd
    exact ⟨by decide +kernel, by unfold Bys; decide +kernel, by decide +kernel, by decide +kernel⟩
  · have e : (txOf 5 9).outs = [outOf 5 9 0] := by decide +kernel
    rw [e, List.mem_singleton] at hd
    subst hd
    decide +kernel
theorem t59_len : (bytesOf (txOf 5 9)).length ≤ 1000 := by decide +kernel
theorem t59_more : pParse (bytesOf (txOf 5 9) ++ [0]) = (noTx, false) := by
  have h := pTx_back (txOf 5 9) [0] t59_may t59_fit
  have hb : bytesOf (txOf 5 9) = encTx (txOf 5 9) (witT (txOf 5 9)) := if_pos ((mayB_iff _).2 t59_may)
  unfold pParse pRead
  rw [hb, h]
  rfl
theorem noTx_r (W : World) : TxR W (.agg #[.int .u32 0, .slice none 0 0, .slice none 0 0, .int .u32 0]) noTx := ⟨_, _, rfl, by decide, by decide, Many.nil _ _ _, Many.nil _ _ _⟩

set_option maxRecDepth 100000 in
set_option maxHeartbeats 8000000 in
theorem awake3_any (w : World) : Calls Try.prog 4 #[] w (YesPost w) := by
  obtain ⟨i0, hi, hz0, hz1, hz2⟩ := info_parts infoByte
  have H1 := Kp.mk (lawTx_any w 5 9 (by omega) (by omega))
  have HLEN := Kp.mk t59_len
  have HP1 := Kp.mk (pParse_back _ t59_may t59_fit)
  have HP2 := Kp.mk t59_more
  have HMAY : Kp (mayB (txOf 5 9) = true) := ⟨(mayB_iff _).2 t59_may⟩
  have HSAME : Kp (decide (txOf 5 9 = noTx) = false) := ⟨by decide +kernel⟩
  have HBY : Kp (Bys (bytesOf (txOf 5 9))) := ⟨by unfold Bys; decide +kernel⟩
  have HBY0 : Kp (Bys (bytesOf (txOf 5 9) ++ [0])) := ⟨by unfold Bys; decide +kernel⟩
  have HBO : Kp (∀ (W : World) (v : Value), TxR W v (txOf 5 9) → Calls Try.prog 8 #[v] W (App W.heap.size (bytesOf (txOf 5 9)) W)) := ⟨fun W v h => bytes_any W v _ h⟩
  have HPA : Kp (∀ (W : World) (v : Value) (l : List Int), Rb W v l → l.length ≤ 2000 → Calls Try.prog 14 #[v] W (ParP (pParse l) W)) := ⟨fun W v l h hl => parse_any W v l h (by omega)⟩
  have HN0 : Kp (∀ W : World, TxR W (.agg #[.int .u32 0, .slice none 0 0, .slice none 0 0, .int .u32 0]) noTx) := ⟨noTx_r⟩
  have HN1 : Kp (mayB noTx = false) := ⟨by decide +kernel⟩
  have HN2 : Kp (baseOf noTx = []) := ⟨by decide +kernel⟩
  clear hi hz0 hz1 hz2
  obtain ⟨i0, hi, hz0, hz1, hz2⟩ := info_parts infoByte
  generalize txOf 5 9 = T at *
  generalize bytesOf T = L at *
  generalize noTx = N at *
  go_enter Try.func4, Try.ntmps4
  go_wp2_with fail
  refine H1.out.mono ?_
  rintro e w1 ⟨v1, rfl, hT1, hb1⟩
  obtain ⟨iv, ov, rfl, _, _, hi1, ho1⟩ := id hT1
  obtain ⟨Ai, ci, rfl⟩ := hi1.slice
  obtain ⟨Ao, co, rfl⟩ := ho1.slice
  have hR1 := hT1.txR
  have hba : Below w1.heap.size w1 (w1.alloc (.cells #[.int .u32 T.version, .slice Ai T.ins.length ci, .slice Ao T.outs.length co, .int .u32 T.lock] 26)) := (Below.refl _ _).alloc (Nat.le_refl _) _
  have HR2 := Kp.mk (hR1.below hba)
  have HX2 : Kp (Box (w1.alloc (.cells #[.int .u32 T.version, .slice Ai T.ins.length ci, .slice Ao T.outs.length co, .int .u32 T.lock] 26)) w1.heap.size 26 #[.int .u32 T.version, .slice Ai T.ins.length ci, .slice Ao T.outs.length co, .int .u32 T.lock]) := ⟨Box.fresh _ _ _⟩
  have HB2 : Kp (Below w.heap.size w (w1.alloc (.cells #[.int .u32 T.version, .slice Ai T.ins.length ci, .slice Ao T.outs.length co, .int .u32 T.lock] 26))) := ⟨hb1.trans (hba.mono hb1.size)⟩
  have HC : Kp (∀ W, Below (w1.heap.size + 1) (w1.alloc (.cells #[.int .u32 T.version, .slice Ai T.ins.length ci, .slice Ao T.outs.length co, .int .u32 T.lock] 26)) W → W.cell? ⟨w1.heap.size, 0, none⟩ = some (.int .u32 T.version) ∧ W.cell? ⟨w1.heap.size, 1, none⟩ = some (.slice Ai T.ins.length ci) ∧ W.cell? ⟨w1.heap.size, 2, none⟩ = some (.slice Ao T.outs.length co) ∧ W.cell? ⟨w1.heap.size, 3, none⟩ = some (.int .u32 T.lock)) := ⟨fun W hb => ⟨cell_new hb 0 _ rfl, cell_new hb 1 _ rfl, cell_new hb 2 _ rfl, cell_new hb 3 _ rfl⟩⟩
  have HBY2 := Kp.mk (HBO.out _ _ HR2.out)
  clear hT1 hb1 hi1 ho1 hR1 hba H1
  go_wp2_with fail
  refine HBY2.out.mono ?_
  rintro e w3 ⟨v3, rfl, ho3, hg3⟩
  have HO3 := Kp.mk ho3
  have HB3 : Kp (Below (w1.heap.size + 1) (w1.alloc (.cells #[.int .u32 T.version, .slice Ai T.ins.length ci, .slice Ao T.outs.length co, .int .u32 T.lock] 26)) w3) := ⟨by rw [← alloc_size]; exact hg3.low⟩
  have HPA3 := Kp.mk (HPA.out w3 v3 L (ho3.rb HBY.out) (by have := HLEN.out; omega))
  rw [HP1.out] at HPA3
  obtain ⟨A3, c3, rfl⟩ := ho3.slice
  clear ho3 hg3
  go_wp2_with fail
  refine HPA3.out.mono ?_
  rintro e w4 ⟨v4, rfl, hb4, hT4⟩
  obtain ⟨iv4, ov4, rfl, _, _, hi4, hv4⟩ := id hT4
  obtain ⟨Ai4, ci4, rfl⟩ := hi4.slice
  obtain ⟨Ao4, co4, rfl⟩ := hv4.slice
  have hba4 : Below w4.heap.size w4 (w4.alloc (.cells #[.int .u32 T.version, .slice Ai4 T.ins.length ci4, .slice Ao4 T.outs.length co4, .int .u32 T.lock] 26)) := (Below.refl _ _).alloc (Nat.le_refl _) _
  have HR4 := Kp.mk (hT4.txR.below hba4)
  have HC4 : Kp (∀ W, Below (w4.heap.size + 1) (w4.alloc (.cells #[.int .u32 T.version, .slice Ai4 T.ins.length ci4, .slice Ao4 T.outs.length co4, .int .u32 T.lock] 26)) W → W.cell? ⟨w4.heap.size, 0, none⟩ = some (.int .u32 T.version) ∧ W.cell? ⟨w4.heap.size, 1, none⟩ = some (.slice Ai4 T.ins.length ci4) ∧ W.cell? ⟨w4.heap.size, 2, none⟩ = some (.slice Ao4 T.outs.length co4) ∧ W.cell? ⟨w4.heap.size, 3, none⟩ = some (.int .u32 T.lock)) := ⟨fun W hb => ⟨cell_new hb 0 _ rfl, cell_new hb 1 _ rfl, cell_new hb 2 _ rfl, cell_new hb 3 _ rfl⟩⟩
  have hz13 : w1.heap.size + 1 ≤ w3.heap.size := by have := HB3.out.size; rw [alloc_size] at this; exact this
  have HB4 : Kp (Below (w1.heap.size + 1) (w1.alloc (.cells #[.int .u32 T.version, .slice Ai T.ins.length ci, .slice Ao T.outs.length co, .int .u32 T.lock] 26)) (w4.alloc (.cells #[.int .u32 T.version, .slice Ai4 T.ins.length ci4, .slice Ao4 T.outs.length co4, .int .u32 T.lock] 26))) := ⟨HB3.out.trans ((hb4.mono hz13).trans (hba4.mono (Nat.le_trans hz13 hb4.size)))⟩
  have HO4 := Kp.mk ((HO3.out.below hb4).below hba4)
  have HOW4 : Kp (Own ((w4.alloc (.cells #[.int .u32 T.version, .slice Ai4 T.ins.length ci4, .slice Ao4 T.outs.length co4, .int .u32 T.lock] 26)).alloc (.cells #[] 5)) (w4.heap.size + 1) 5 (.slice (some ⟨w4.heap.size + 1, 0, none⟩) 0 0) []) := ⟨by have := own_empty (w4.alloc (.cells #[.int .u32 T.version, .slice Ai4 T.ins.length ci4, .slice Ao4 T.outs.length co4, .int .u32 T.lock] 26)) 5; rw [alloc_size] at this; exact this⟩
  have HSL4 := Kp.mk (HO4.out.any.below ((Below.refl _ _).alloc (Nat.le_refl _) (.cells #[] 5)))
  clear hb4 hT4 hi4 hv4 hba4 hz13
  go_wp2_with (at_builtin; refine wpList_append_bytes rfl (.tmp 16) (.tmp 17) 27 rfl (w4.heap.size + 1) 5 i0 Try.underlying27 hi hz0 hz1 hz2 _ [] rfl HOW4.out _ _ L rfl HSL4.out ?c1 ?c2 ?_)
  case c1 => have := HLEN.out; simp; omega
  case c2 => simp
  intro v5 w5 ho5 hg5
  have HO5 := Kp.mk ho5
  have HG5 := Kp.mk hg5
  obtain ⟨A5, c5, rfl⟩ := ho5.slice
  have HO5b := Kp.mk (ho5.below ((Below.refl _ _).alloc (Nat.le_refl _) (.cells #[.int .u8 0] 5)))
  have hs5 : w4.heap.size + 2 ≤ w5.heap.size := by have := hg5.size; rw [alloc_size, alloc_size] at this; exact this
  have HSL5 := Kp.mk (sl_one w5 5 (w4.heap.size + 1) 0 (by omega))
  clear ho5 hg5
  go_wp2_with (at_builtin; refine wpList_append_bytes rfl (.tmp 18) (.tmp 19) 27 rfl (w4.heap.size + 1) 5 i0 Try.underlying27 hi hz0 hz1 hz2 _ L rfl HO5b.out (w4.heap.size + 1) _ [0] rfl HSL5.out ?c3 ?c4 ?_)
  case c3 => have := HLEN.out; simp; omega
  case c4 => exact Nat.le_trans (Nat.le_of_succ_le hs5) (by rw [alloc_size]; exact Nat.le_succ _)
  intro v6 w6 ho6 hg6
  have HB6 : Kp (Below (w4.heap.size + 1) (w4.alloc (.cells #[.int .u32 T.version, .slice Ai4 T.ins.length ci4, .slice Ao4 T.outs.length co4, .int .u32 T.lock] 26)) w6) := ⟨(((Below.refl _ _).alloc (by rw [alloc_size]; exact Nat.le_refl _) (.cells #[] 5)).trans (Grew.of_grown HOW4.out (by rw [alloc_size, alloc_size]; exact Nat.le_succ _) HG5.out).low).trans (((Below.refl _ _).alloc (Nat.le_of_succ_le hs5) (.cells #[.int .u8 0] 5)).trans (Grew.of_grown HO5b.out (by rw [alloc_size]; omega) hg6).low)⟩
  have HPA6 := Kp.mk (HPA.out w6 v6 (L ++ [0]) (ho6.rb HBY0.out) (by have := HLEN.out; simp; omega))
  rw [HP2.out] at HPA6
  have hl0 : (L ++ [0]).length = L.length + 1 := by simp
  obtain ⟨A6, c6, he6⟩ := ho6.slice
  rw [hl0] at he6
  subst he6
  clear ho6 hg6 HG5 HOW4 HSL4 HO5b HSL5
  go_wp2_with fail
  refine HPA6.out.mono ?_
  rintro e w7 ⟨v7, rfl, hb7, hT7⟩
  obtain ⟨iv7, ov7, rfl, _, _, hi7, hv7⟩ := id hT7
  obtain ⟨Ai7, ci7, rfl⟩ := hi7.slice
  obtain ⟨Ao7, co7, rfl⟩ := hv7.slice
  clear hT7 hi7 hv7
  have h46 : w4.heap.size + 1 ≤ w6.heap.size := by have := HB6.out.size; rw [alloc_size] at this; exact this
  have h14 : w1.heap.size + 1 ≤ w4.heap.size + 1 := by have := HB4.out.size; rw [alloc_size, alloc_size] at this; exact this
  have HB8 : Kp (Below (w4.heap.size + 1) (w4.alloc (.cells #[.int .u32 T.version, .slice Ai4 T.ins.length ci4, .slice Ao4 T.outs.length co4, .int .u32 T.lock] 26)) (w7.alloc (.cells #[.int .u32 N.version, .slice Ai7 N.ins.length ci7, .slice Ao7 N.outs.length co7, .int .u32 N.lock] 26))) := ⟨HB6.out.trans ((hb7.mono h46).trans ((Below.refl _ _).alloc (Nat.le_trans h46 hb7.size) _))⟩
  have HB18 : Kp (Below (w1.heap.size + 1) (w1.alloc (.cells #[.int .u32 T.version, .slice Ai T.ins.length ci, .slice Ao T.outs.length co, .int .u32 T.lock] 26)) (w7.alloc (.cells #[.int .u32 N.version, .slice Ai7 N.ins.length ci7, .slice Ao7 N.outs.length co7, .int .u32 N.lock] 26))) := ⟨HB4.out.trans (HB8.out.mono h14)⟩
  have h18 : w1.heap.size + 1 ≤ ((w7.alloc (.cells #[.int .u32 N.version, .slice Ai7 N.ins.length ci7, .slice Ao7 N.outs.length co7, .int .u32 N.lock] 26))).heap.size := by have := HB18.out.size; rw [alloc_size] at this; exact this
  have HK : Kp (∀ W, Below ((w7.alloc (.cells #[.int .u32 N.version, .slice Ai7 N.ins.length ci7, .slice Ao7 N.outs.length co7, .int .u32 N.lock] 26))).heap.size (w7.alloc (.cells #[.int .u32 N.version, .slice Ai7 N.ins.length ci7, .slice Ao7 N.outs.length co7, .int .u32 N.lock] 26)) W → W.cell? ⟨w1.heap.size, 0, none⟩ = some (.int .u32 T.version) ∧ W.cell? ⟨w1.heap.size, 1, none⟩ = some (.slice Ai T.ins.length ci) ∧ W.cell? ⟨w1.heap.size, 2, none⟩ = some (.slice Ao T.outs.length co) ∧ W.cell? ⟨w1.heap.size, 3, none⟩ = some (.int .u32 T.lock)) := ⟨fun W hb => HC.out W (HB18.out.trans (hb.mono h18))⟩
  have hR18 : TxR (w7.alloc (.cells #[.int .u32 N.version, .slice Ai7 N.ins.length ci7, .slice Ao7 N.outs.length co7, .int .u32 N.lock] 26)) (.agg #[.int .u32 T.version, .slice Ai T.ins.length ci, .slice Ao T.outs.length co, .int .u32 T.lock]) T := HR2.out.below (by rw [alloc_size]; exact HB18.out)
  have HKR : Kp (∀ W, Below ((w7.alloc (.cells #[.int .u32 N.version, .slice Ai7 N.ins.length ci7, .slice Ao7 N.outs.length co7, .int .u32 N.lock] 26))).heap.size (w7.alloc (.cells #[.int .u32 N.version, .slice Ai7 N.ins.length ci7, .slice Ao7 N.outs.length co7, .int .u32 N.lock] 26)) W → TxR W (.agg #[.int .u32 T.version, .slice Ai T.ins.length ci, .slice Ao T.outs.length co, .int .u32 T.lock]) T) := ⟨fun W hb => hR18.below hb⟩
  have HS1 := Kp.mk (same_any (w7.alloc (.cells #[.int .u32 N.version, .slice Ai7 N.ins.length ci7, .slice Ao7 N.outs.length co7, .int .u32 N.lock] 26)) _ _ T T hR18 (HR4.out.below (by rw [alloc_size]; exact HB8.out)))
  have hd : decide (T = T) = true := by simp
  rw [hd] at HS1
  obtain ⟨k1, k2, k3, k4⟩ := HC4.out _ HB8.out
  obtain ⟨j1, j2, j3, j4⟩ := HK.out _ (Below.refl _ _)
  clear hR18
  go_wp2_with fail
  refine HS1.out.mono ?_
  rintro e w9 ⟨rfl, hb9⟩
  obtain ⟨l1, l2, l3, l4⟩ := HK.out _ hb9
  have HM1 := Kp.mk (may_any w9 _ _ (HKR.out _ hb9))
  rw [HMAY.out] at HM1
  go_wp2_with fail
  refine HM1.out.mono ?_
  rintro e w10 ⟨rfl, hb10⟩
  have HM2 := Kp.mk (may_any w10 _ _ (HN0.out w10))
  rw [HN1.out] at HM2
  go_wp2_with fail
  refine HM2.out.mono ?_
  rintro e w11 ⟨rfl, hb11⟩
  have HM3 := Kp.mk (base_any w11 _ _ (HN0.out w11))
  rw [HN2.out] at HM3
  go_wp2_with fail
  refine HM3.out.mono ?_
  rintro e w12 ⟨v12, rfl, ho12, hg12⟩
  obtain ⟨A12, c12, rfl⟩ := ho12.slice
  have hba : Below _ _ w11 := (hb9.trans (hb10.mono hb9.size)).trans (hb11.mono (Nat.le_trans hb9.size hb10.size))
  have hbb := hba.trans (hg12.low.mono hba.size)
  obtain ⟨m1, m2, m3, m4⟩ := HK.out _ hbb
  have HS2 := Kp.mk (same_any w12 _ _ _ _ (HKR.out _ hbb) (HN0.out w12))
  rw [HSAME.out] at HS2
  have HBB := Kp.mk hbb
  clear ho12 hg12 hba hbb
  simp only [List.length_nil] at *
  go_wp2_with fail
  refine HS2.out.mono ?_
  rintro e w13 ⟨rfl, hb13⟩
  go_wp2_with fail
  have hz1 : w.heap.size ≤ w1.heap.size + 1 := by have := HB2.out.size; rw [alloc_size] at this; exact this
  have hz8 := Nat.le_trans hz1 h18
  go_ret
  exact ⟨rfl, ((HB2.out.trans (HB18.out.mono hz1)).trans (HBB.out.mono hz8)).trans (hb13.mono (Nat.le_trans hz8 HBB.out.size))⟩
end Go.Proofs.Ytojeonepplfhlaa
