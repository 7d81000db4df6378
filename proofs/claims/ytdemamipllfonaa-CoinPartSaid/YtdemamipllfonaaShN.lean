/- SHA-256: the document's own Twice. Names of transactions: Txid and Wtxid of both sides. (Written by gen_shj.py.) awake of layer 4: what the document fixes. -/
import Derived.Test.YtdemamipllfonaaShI
import Derived.Test.YtdemamipllfonaaGh
import Derived.Test.YtdemamipllfonaaGe
import Derived.Test.YtdemamipllfonaaAwC
import Derived.Test.YtdemamipllfonaaGg
import Derived.Deep.RegionHeld3
namespace Go.Proofs.Ytdemamipllfonaa
open Go.RowKit


set_option maxRecDepth 1000000 in
set_option maxHeartbeats 4000000 in
theorem reftwice_any (w : World) (v : Value) (l : List Int) (hs : Sl w w.heap.size v l) (hy : Bys l) (hm : l.length ≤ 140737488355000) :
    Calls Try.prog 33 #[v] w (Ans (.agg (u8s (twiceOf l))) w) := by
  have HD1 := Kp.mk (fun W hW => refsum_any W v l hW hy hm)
  have HSL := Kp.mk hs
  have HD2 := Kp.mk (fun W v hW => refsum_any W v (shaOf l) hW (shaOf_bys l) (by rw [shaOf_len]; omega))
  rw [show shaOf (shaOf l) = twiceOf l from rfl] at HD2
  have HL1 := Kp.mk (shaOf_len l)
  have HL2 : Kp ((twiceOf l).length = 32) := ⟨shaOf_len _⟩
  generalize twiceOf l = R at *
  generalize shaOf l = M at *
  have HI1 : Kp ((Try.prog.info? 39).map (·.size) = some (u8s M).size) := ⟨by rw [u8s_size, HL1.out]; kernel_rfl⟩
  have HS1 : Kp ((u8s (List.replicate 32 0)).size = (u8s M).size) := ⟨by rw [u8s_size, u8s_size, HL1.out]; rfl⟩
  have HO1 := Kp.mk (u8s_one M)
  have HI2 : Kp ((Try.prog.info? 39).map (·.size) = some (u8s R).size) := ⟨by rw [u8s_size, HL2.out]; kernel_rfl⟩
  have HS2 : Kp ((u8s (List.replicate 32 0)).size = (u8s R).size) := ⟨by rw [u8s_size, u8s_size, HL2.out]; rfl⟩
  have HO2 := Kp.mk (u8s_one R)
  clear hs hy hm
  go_enter Try.func33, Try.ntmps33
  go_wp2_with fail
  refine (HD1.out _ ((HSL.out.below ((Below.refl _ _).alloc (Nat.le_refl _) _)).free _ (Nat.le_refl _))).mono ?_
  rintro e w1 ⟨rfl, hb1⟩
  have hx0 : Box w1 w.heap.size 39 (u8s (List.replicate 32 0)) := (Box.new (w := w) rfl rfl).below hb1
  have hbw : Below w.heap.size w w1 := ((Below.refl _ _).alloc (Nat.le_refl _) _).trans (hb1.mono (by simp))
  have ha : Below w1.heap.size w1 (w1.alloc (.cells (u8s M) 39)) := (Below.refl _ _).alloc (Nat.le_refl _) _
  have HX0 := Kp.mk (hx0.below ha)
  have HBW := Kp.mk (hbw.trans (ha.mono hbw.size))
  have HSM : Kp (Sl (w1.alloc (.cells (u8s M) 39)) (w1.alloc (.cells (u8s M) 39)).heap.size (.slice (some ⟨w1.heap.size, 0, none⟩) 32 32) M) := ⟨⟨_, 32, by rw [HL1.out], by rw [HL1.out]; omega, (fun h => by cases h), fun _ => ⟨w1.heap.size, 0, rfl, by simp, by simp, fun i hi => by rw [Nat.zero_add, (Box.fresh w1 _ _).cell, u8s_at M i hi]⟩⟩⟩
  clear hx0 hbw ha hb1
  go_wp2_with (refine wpList_store_fresh rfl 39 (.tmp 3) (.tmp 5) rfl _ (u8s M) w1.heap.size rfl rfl rfl HI1.out HS1.out HO1.out ?_)
  refine (HD2.out _ _ HSM.out).mono ?_
  rintro e w2 ⟨rfl, hb2⟩
  have HX2 := Kp.mk (HX0.out.below hb2)
  have HB2 := Kp.mk (HBW.out.trans (hb2.mono HBW.out.size))
  clear hb2
  go_wp2_with (refine wpList_store_row rfl 39 (.tmp 2) (.tmp 7) rfl w.heap.size (u8s R) rfl rfl 39 _ HX2.out HI2.out HS2.out HO2.out ?_)
  exact bodyPost_ret (results_cell_row (by rfl) _ _ w.heap.size 39 (u8s R) _ _ rfl (row_box HX2.out _) Try.underlying39 rfl HI2.out) rfl ⟨rfl, HB2.out.trans (row_below (Nat.le_refl _) _)⟩
set_option maxRecDepth 1000000 in
set_option maxHeartbeats 4000000 in
theorem txid_any (W : World) (v : Value) (t : TxD) (h : TxR W v t) (hby : TxBys t) : Calls Try.prog 31 #[v] W (Ans (.agg (u8s (twiceOf (baseOf t)))) W) := by
  have HLN := Kp.mk (base_len h.fit)
  have HBY := Kp.mk (baseOf_bys hby)
  have hT := h
  obtain ⟨iv, ov, rfl, _⟩ := h
  have hb1 : Below W.heap.size W ((W.alloc (.cells #[.int .u32 t.version, iv, ov, .int .u32 t.lock] 30)).alloc (.cells (u8s (List.replicate 32 0)) 39)) := ((Below.refl _ _).alloc (Nat.le_refl _) _).alloc (by simp) _
  have HC := Kp.mk (base_any ((W.alloc (.cells #[.int .u32 t.version, iv, ov, .int .u32 t.lock] 30)).alloc (.cells (u8s (List.replicate 32 0)) 39)) _ t (hT.below hb1))
  have HB1 := Kp.mk hb1
  have HX : Kp (Box ((W.alloc (.cells #[.int .u32 t.version, iv, ov, .int .u32 t.lock] 30)).alloc (.cells (u8s (List.replicate 32 0)) 39)) (W.heap.size + 1) 39 (u8s (List.replicate 32 0))) := ⟨Box.new (by simp) rfl⟩
  have HTW : Kp (∀ w v, Sl w w.heap.size v (baseOf t) → Calls Try.prog 40 #[v] w (Ans (.agg (u8s (twiceOf (baseOf t)))) w)) := ⟨fun w v hv => twice_any w v _ hv HBY.out (by have := HLN.out; omega)⟩
  have HL2 : Kp ((twiceOf (baseOf t)).length = 32) := ⟨shaOf_len _⟩
  generalize twiceOf (baseOf t) = R at *
  generalize baseOf t = la at *
  have HI2 : Kp ((Try.prog.info? 39).map (·.size) = some (u8s R).size) := ⟨by rw [u8s_size, HL2.out]; kernel_rfl⟩
  have HS2 : Kp ((u8s (List.replicate 32 0)).size = (u8s R).size) := ⟨by rw [u8s_size, u8s_size, HL2.out]; rfl⟩
  have HO2 := Kp.mk (u8s_one R)
  clear hT hb1 hby
  go_enter Try.func31, Try.ntmps31
  go_wp2_with fail
  refine HC.out.mono ?_
  rintro e w3 ⟨A3, rfl, ho3, hg3⟩
  obtain ⟨a3, c3, rfl⟩ := ho3.slice
  have hb3 : Below ((W.alloc (.cells #[.int .u32 t.version, iv, ov, .int .u32 t.lock] 30)).alloc (.cells (u8s (List.replicate 32 0)) 39)).heap.size ((W.alloc (.cells #[.int .u32 t.version, iv, ov, .int .u32 t.lock] 30)).alloc (.cells (u8s (List.replicate 32 0)) 39)) w3 := hg3.low
  have HX3 := Kp.mk (HX.out.below hb3)
  have HB3 := Kp.mk (HB1.out.trans (hb3.mono HB1.out.size))
  have HT3 := Kp.mk (HTW.out w3 _ (ho3.sl w3.heap.size (.inr (Nat.le_refl _))))
  clear hg3 ho3 hb3
  go_wp2_with fail
  refine HT3.out.mono ?_
  rintro e w4 ⟨rfl, hb4⟩
  have HX4 := Kp.mk (HX3.out.below hb4)
  have HB4 := Kp.mk (HB3.out.trans (hb4.mono HB3.out.size))
  clear hb4
  go_wp2_with (refine wpList_store_row rfl 39 (.tmp 2) (.tmp 5) rfl (W.heap.size + 1) (u8s R) rfl rfl 39 _ HX4.out HI2.out HS2.out HO2.out ?_)
  exact bodyPost_ret (results_cell_row (by rfl) _ _ (W.heap.size + 1) 39 (u8s R) _ _ rfl (row_box HX4.out _) Try.underlying39 rfl HI2.out) rfl ⟨rfl, HB4.out.trans (row_below (by omega) _)⟩
set_option maxRecDepth 1000000 in
set_option maxHeartbeats 4000000 in
theorem refTxid_any (W : World) (v : Value) (t : TxD) (h : TxR W v t) (hby : TxBys t) : Calls Try.prog 25 #[v] W (Ans (.agg (u8s (twiceOf (baseOf t)))) W) := by
  have HLN := Kp.mk (base_len h.fit)
  have HBY := Kp.mk (baseOf_bys hby)
  have hT := h
  obtain ⟨iv, ov, rfl, _⟩ := h
  have hb1 : Below W.heap.size W ((W.alloc (.cells #[.int .u32 t.version, iv, ov, .int .u32 t.lock] 30)).alloc (.cells (u8s (List.replicate 32 0)) 39)) := ((Below.refl _ _).alloc (Nat.le_refl _) _).alloc (by simp) _
  have HC := Kp.mk (refBase_any ((W.alloc (.cells #[.int .u32 t.version, iv, ov, .int .u32 t.lock] 30)).alloc (.cells (u8s (List.replicate 32 0)) 39)) _ t (hT.below hb1))
  have HB1 := Kp.mk hb1
  have HX : Kp (Box ((W.alloc (.cells #[.int .u32 t.version, iv, ov, .int .u32 t.lock] 30)).alloc (.cells (u8s (List.replicate 32 0)) 39)) (W.heap.size + 1) 39 (u8s (List.replicate 32 0))) := ⟨Box.new (by simp) rfl⟩
  have HTW : Kp (∀ w v, Sl w w.heap.size v (baseOf t) → Calls Try.prog 33 #[v] w (Ans (.agg (u8s (twiceOf (baseOf t)))) w)) := ⟨fun w v hv => reftwice_any w v _ hv HBY.out (by have := HLN.out; omega)⟩
  have HL2 : Kp ((twiceOf (baseOf t)).length = 32) := ⟨shaOf_len _⟩
  generalize twiceOf (baseOf t) = R at *
  generalize baseOf t = la at *
  have HI2 : Kp ((Try.prog.info? 39).map (·.size) = some (u8s R).size) := ⟨by rw [u8s_size, HL2.out]; kernel_rfl⟩
  have HS2 : Kp ((u8s (List.replicate 32 0)).size = (u8s R).size) := ⟨by rw [u8s_size, u8s_size, HL2.out]; rfl⟩
  have HO2 := Kp.mk (u8s_one R)
  clear hT hb1 hby
  go_enter Try.func25, Try.ntmps25
  go_wp2_with fail
  refine HC.out.mono ?_
  rintro e w3 ⟨A3, rfl, ho3, hg3⟩
  obtain ⟨a3, c3, rfl⟩ := ho3.slice
  have hb3 : Below ((W.alloc (.cells #[.int .u32 t.version, iv, ov, .int .u32 t.lock] 30)).alloc (.cells (u8s (List.replicate 32 0)) 39)).heap.size ((W.alloc (.cells #[.int .u32 t.version, iv, ov, .int .u32 t.lock] 30)).alloc (.cells (u8s (List.replicate 32 0)) 39)) w3 := hg3
  have HX3 := Kp.mk (HX.out.below hb3)
  have HB3 := Kp.mk (HB1.out.trans (hb3.mono HB1.out.size))
  have HT3 := Kp.mk (HTW.out w3 _ (ho3.sl w3.heap.size (.inr (Nat.le_refl _))))
  clear hg3 ho3 hb3
  go_wp2_with fail
  refine HT3.out.mono ?_
  rintro e w4 ⟨rfl, hb4⟩
  have HX4 := Kp.mk (HX3.out.below hb4)
  have HB4 := Kp.mk (HB3.out.trans (hb4.mono HB3.out.size))
  clear hb4
  go_wp2_with (refine wpList_store_row rfl 39 (.tmp 2) (.tmp 5) rfl (W.heap.size + 1) (u8s R) rfl rfl 39 _ HX4.out HI2.out HS2.out HO2.out ?_)
  exact bodyPost_ret (results_cell_row (by rfl) _ _ (W.heap.size + 1) 39 (u8s R) _ _ rfl (row_box HX4.out _) Try.underlying39 rfl HI2.out) rfl ⟨rfl, HB4.out.trans (row_below (by omega) _)⟩
theorem id_eq (R : List Int) (hb : Bys R) (hl : R.length = 32) (w : World) : (Op.equalIn 10000 39 (.agg (u8s R)) (.agg (u8s R))).run Try.prog w = .ok true w :=
  (eql_prev R R hb hb hl hl w).trans (by simp)
theorem size_ge (t : TxD) : 4 * (sizeOf t : Int) - 3 ≤ (weightOf t : Int) := by unfold sizeOf; omega
theorem size_le {t : TxD} (h : TxFit t) : sizeOf t ≤ 400001 := by
  have h1 := base_len h
  have h2 := bytes_len h
  unfold sizeOf weightOf
  omega

end Go.Proofs.Ytdemamipllfonaa
