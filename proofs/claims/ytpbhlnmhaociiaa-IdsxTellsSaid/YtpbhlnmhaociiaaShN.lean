/- SHA-256: the document's own Twice. Names of transactions: Txid and Wtxid of both sides. (Written by gen_shj.py.) awake of layer 4: what the document fixes. -/
import Derived.Test.YtpbhlnmhaociiaaShI
import Derived.Test.YtpbhlnmhaociiaaIdA
import Derived.Test.YtpbhlnmhaociiaaTxQ
import Derived.Test.YtpbhlnmhaociiaaAwC
import Derived.Test.YtpbhlnmhaociiaaSmC
import Derived.Deep.RegionHeld3
namespace Go.Proofs.Ytpbhlnmhaociiaa
open Go.RowKit


set_option maxRecDepth 1000000 in
set_option maxHeartbeats 4000000 in
theorem reftwice_any (w : World) (v : Value) (l : List Int) (hs : Sl w w.heap.size v l) (hy : Bys l) (hm : l.length ≤ 140737488355000) :
    Calls Try.prog 58 #[v] w (Ans (.agg (u8s (twiceOf l))) w) := by
  have HD1 := Kp.mk (fun W hW => refsum_any W v l hW hy hm)
  have HSL := Kp.mk hs
  have HD2 := Kp.mk (fun W v hW => refsum_any W v (shaOf l) hW (shaOf_bys l) (by rw [shaOf_len]; omega))
  rw [show shaOf (shaOf l) = twiceOf l from rfl] at HD2
  have HL1 := Kp.mk (shaOf_len l)
  have HL2 : Kp ((twiceOf l).length = 32) := ⟨shaOf_len _⟩
  generalize twiceOf l = R at *
  generalize shaOf l = M at *
  have HI1 : Kp ((Try.prog.info? 45).map (·.size) = some (u8s M).size) := ⟨by rw [u8s_size, HL1.out]; kernel_rfl⟩
  have HS1 : Kp ((u8s (List.replicate 32 0)).size = (u8s M).size) := ⟨by rw [u8s_size, u8s_size, HL1.out]; rfl⟩
  have HO1 := Kp.mk (u8s_one M)
  have HI2 : Kp ((Try.prog.info? 45).map (·.size) = some (u8s R).size) := ⟨by rw [u8s_size, HL2.out]; kernel_rfl⟩
  have HS2 : Kp ((u8s (List.replicate 32 0)).size = (u8s R).size) := ⟨by rw [u8s_size, u8s_size, HL2.out]; rfl⟩
  have HO2 := Kp.mk (u8s_one R)
  clear hs hy hm
  go_enter Try.func58, Try.ntmps58
  go_wp2_with fail
  refine (HD1.out _ ((HSL.out.below ((Below.refl _ _).alloc (Nat.le_refl _) _)).free _ (Nat.le_refl _))).mono ?_
  rintro e w1 ⟨rfl, hb1⟩
  have hx0 : Box w1 w.heap.size 45 (u8s (List.replicate 32 0)) := (Box.new (w := w) rfl rfl).below hb1
  have hbw : Below w.heap.size w w1 := ((Below.refl _ _).alloc (Nat.le_refl _) _).trans (hb1.mono (by simp))
  have ha : Below w1.heap.size w1 (w1.alloc (.cells (u8s M) 45)) := (Below.refl _ _).alloc (Nat.le_refl _) _
  have HX0 := Kp.mk (hx0.below ha)
  have HBW := Kp.mk (hbw.trans (ha.mono hbw.size))
  have HSM : Kp (Sl (w1.alloc (.cells (u8s M) 45)) (w1.alloc (.cells (u8s M) 45)).heap.size (.slice (some ⟨w1.heap.size, 0, none⟩) 32 32) M) := ⟨⟨_, 32, by rw [HL1.out], by rw [HL1.out]; omega, (fun h => by cases h), fun _ => ⟨w1.heap.size, 0, rfl, by simp, by simp, fun i hi => by rw [Nat.zero_add, (Box.fresh w1 _ _).cell, u8s_at M i hi]⟩⟩⟩
  clear hx0 hbw ha hb1
  go_wp2_with (refine wpList_store_fresh rfl 45 (.tmp 3) (.tmp 5) rfl _ (u8s M) w1.heap.size rfl rfl rfl HI1.out HS1.out HO1.out ?_)
  refine (HD2.out _ _ HSM.out).mono ?_
  rintro e w2 ⟨rfl, hb2⟩
  have HX2 := Kp.mk (HX0.out.below hb2)
  have HB2 := Kp.mk (HBW.out.trans (hb2.mono HBW.out.size))
  clear hb2
  go_wp2_with (refine wpList_store_row rfl 45 (.tmp 2) (.tmp 7) rfl w.heap.size (u8s R) rfl rfl 45 _ HX2.out HI2.out HS2.out HO2.out ?_)
  exact bodyPost_ret (results_cell_row (by rfl) _ _ w.heap.size 45 (u8s R) _ _ rfl (row_box HX2.out _) Try.underlying45 rfl HI2.out) rfl ⟨rfl, HB2.out.trans (row_below (Nat.le_refl _) _)⟩
set_option maxRecDepth 1000000 in
set_option maxHeartbeats 4000000 in
theorem txid_any (W : World) (v : Value) (t : TxD) (h : TxR W v t) (hby : TxBys t) : Calls Try.prog 24 #[v] W (Ans (.agg (u8s (twiceOf (baseOf t)))) W) := by
  have HLN := Kp.mk (base_len h.fit)
  have HBY := Kp.mk (baseOf_bys hby)
  have hT := h
  obtain ⟨iv, ov, rfl, _⟩ := h
  have hb1 : Below W.heap.size W ((W.alloc (.cells #[.int .u32 t.version, iv, ov, .int .u32 t.lock] 26)).alloc (.cells (u8s (List.replicate 32 0)) 45)) := ((Below.refl _ _).alloc (Nat.le_refl _) _).alloc (by simp) _
  have HC := Kp.mk (base_any ((W.alloc (.cells #[.int .u32 t.version, iv, ov, .int .u32 t.lock] 26)).alloc (.cells (u8s (List.replicate 32 0)) 45)) _ t (hT.below hb1))
  have HB1 := Kp.mk hb1
  have HX : Kp (Box ((W.alloc (.cells #[.int .u32 t.version, iv, ov, .int .u32 t.lock] 26)).alloc (.cells (u8s (List.replicate 32 0)) 45)) (W.heap.size + 1) 45 (u8s (List.replicate 32 0))) := ⟨Box.new (by simp) rfl⟩
  have HTW : Kp (∀ w v, Sl w w.heap.size v (baseOf t) → Calls Try.prog 57 #[v] w (Ans (.agg (u8s (twiceOf (baseOf t)))) w)) := ⟨fun w v hv => twice_any w v _ hv HBY.out (by have := HLN.out; omega)⟩
  have HL2 : Kp ((twiceOf (baseOf t)).length = 32) := ⟨shaOf_len _⟩
  generalize twiceOf (baseOf t) = R at *
  generalize baseOf t = la at *
  have HI2 : Kp ((Try.prog.info? 45).map (·.size) = some (u8s R).size) := ⟨by rw [u8s_size, HL2.out]; kernel_rfl⟩
  have HS2 : Kp ((u8s (List.replicate 32 0)).size = (u8s R).size) := ⟨by rw [u8s_size, u8s_size, HL2.out]; rfl⟩
  have HO2 := Kp.mk (u8s_one R)
  clear hT hb1 hby
  go_enter Try.func24, Try.ntmps24
  go_wp2_with fail
  refine HC.out.mono ?_
  rintro e w3 ⟨A3, rfl, ho3, hg3⟩
  obtain ⟨a3, c3, rfl⟩ := ho3.slice
  have hb3 : Below ((W.alloc (.cells #[.int .u32 t.version, iv, ov, .int .u32 t.lock] 26)).alloc (.cells (u8s (List.replicate 32 0)) 45)).heap.size ((W.alloc (.cells #[.int .u32 t.version, iv, ov, .int .u32 t.lock] 26)).alloc (.cells (u8s (List.replicate 32 0)) 45)) w3 := hg3.low
  have HX3 := Kp.mk (HX.out.below hb3)
  have HB3 := Kp.mk (HB1.out.trans (hb3.mono HB1.out.size))
  have HT3 := Kp.mk (HTW.out w3 _ (ho3.sl w3.heap.size (.inr (Nat.le_refl _))))
  clear hg3 ho3 hb3
  go_wp2_with fail
  refine HT3.out.mono ?_
  rintro e w4 ⟨rfl, hb4⟩
  have HX4 := Kp.mk (HX3.out.below hb4)
  have HB4 := Kp.mk (HB3.out.trans (hb4.mono HB3.out.size))
  clear hb4
  go_wp2_with (refine wpList_store_row rfl 45 (.tmp 2) (.tmp 5) rfl (W.heap.size + 1) (u8s R) rfl rfl 45 _ HX4.out HI2.out HS2.out HO2.out ?_)
  exact bodyPost_ret (results_cell_row (by rfl) _ _ (W.heap.size + 1) 45 (u8s R) _ _ rfl (row_box HX4.out _) Try.underlying45 rfl HI2.out) rfl ⟨rfl, HB4.out.trans (row_below (by omega) _)⟩
set_option maxRecDepth 1000000 in
set_option maxHeartbeats 4000000 in
theorem wtxid_any (W : World) (v : Value) (t : TxD) (h : TxR W v t) (hby : TxBys t) : Calls Try.prog 26 #[v] W (Ans (.agg (u8s (twiceOf (bytesOf t)))) W) := by
  have HLN := Kp.mk (bytes_len h.fit)
  have HBY := Kp.mk (bytesOf_bys hby)
  have hT := h
  obtain ⟨iv, ov, rfl, _⟩ := h
  have hb1 : Below W.heap.size W ((W.alloc (.cells #[.int .u32 t.version, iv, ov, .int .u32 t.lock] 26)).alloc (.cells (u8s (List.replicate 32 0)) 45)) := ((Below.refl _ _).alloc (Nat.le_refl _) _).alloc (by simp) _
  have HC := Kp.mk (bytes_any ((W.alloc (.cells #[.int .u32 t.version, iv, ov, .int .u32 t.lock] 26)).alloc (.cells (u8s (List.replicate 32 0)) 45)) _ t (hT.below hb1))
  have HB1 := Kp.mk hb1
  have HX : Kp (Box ((W.alloc (.cells #[.int .u32 t.version, iv, ov, .int .u32 t.lock] 26)).alloc (.cells (u8s (List.replicate 32 0)) 45)) (W.heap.size + 1) 45 (u8s (List.replicate 32 0))) := ⟨Box.new (by simp) rfl⟩
  have HTW : Kp (∀ w v, Sl w w.heap.size v (bytesOf t) → Calls Try.prog 57 #[v] w (Ans (.agg (u8s (twiceOf (bytesOf t)))) w)) := ⟨fun w v hv => twice_any w v _ hv HBY.out (by have := HLN.out; omega)⟩
  have HL2 : Kp ((twiceOf (bytesOf t)).length = 32) := ⟨shaOf_len _⟩
  generalize twiceOf (bytesOf t) = R at *
  generalize bytesOf t = la at *
  have HI2 : Kp ((Try.prog.info? 45).map (·.size) = some (u8s R).size) := ⟨by rw [u8s_size, HL2.out]; kernel_rfl⟩
  have HS2 : Kp ((u8s (List.replicate 32 0)).size = (u8s R).size) := ⟨by rw [u8s_size, u8s_size, HL2.out]; rfl⟩
  have HO2 := Kp.mk (u8s_one R)
  clear hT hb1 hby
  go_enter Try.func26, Try.ntmps26
  go_wp2_with fail
  refine HC.out.mono ?_
  rintro e w3 ⟨A3, rfl, ho3, hg3⟩
  obtain ⟨a3, c3, rfl⟩ := ho3.slice
  have hb3 : Below ((W.alloc (.cells #[.int .u32 t.version, iv, ov, .int .u32 t.lock] 26)).alloc (.cells (u8s (List.replicate 32 0)) 45)).heap.size ((W.alloc (.cells #[.int .u32 t.version, iv, ov, .int .u32 t.lock] 26)).alloc (.cells (u8s (List.replicate 32 0)) 45)) w3 := hg3.low
  have HX3 := Kp.mk (HX.out.below hb3)
  have HB3 := Kp.mk (HB1.out.trans (hb3.mono HB1.out.size))
  have HT3 := Kp.mk (HTW.out w3 _ (ho3.sl w3.heap.size (.inr (Nat.le_refl _))))
  clear hg3 ho3 hb3
  go_wp2_with fail
  refine HT3.out.mono ?_
  rintro e w4 ⟨rfl, hb4⟩
  have HX4 := Kp.mk (HX3.out.below hb4)
  have HB4 := Kp.mk (HB3.out.trans (hb4.mono HB3.out.size))
  clear hb4
  go_wp2_with (refine wpList_store_row rfl 45 (.tmp 2) (.tmp 5) rfl (W.heap.size + 1) (u8s R) rfl rfl 45 _ HX4.out HI2.out HS2.out HO2.out ?_)
  exact bodyPost_ret (results_cell_row (by rfl) _ _ (W.heap.size + 1) 45 (u8s R) _ _ rfl (row_box HX4.out _) Try.underlying45 rfl HI2.out) rfl ⟨rfl, HB4.out.trans (row_below (by omega) _)⟩
set_option maxRecDepth 1000000 in
set_option maxHeartbeats 4000000 in
theorem refTxid_any (W : World) (v : Value) (t : TxD) (h : TxR W v t) (hby : TxBys t) : Calls Try.prog 25 #[v] W (Ans (.agg (u8s (twiceOf (baseOf t)))) W) := by
  have HLN := Kp.mk (base_len h.fit)
  have HBY := Kp.mk (baseOf_bys hby)
  have hT := h
  obtain ⟨iv, ov, rfl, _⟩ := h
  have hb1 : Below W.heap.size W ((W.alloc (.cells #[.int .u32 t.version, iv, ov, .int .u32 t.lock] 26)).alloc (.cells (u8s (List.replicate 32 0)) 45)) := ((Below.refl _ _).alloc (Nat.le_refl _) _).alloc (by simp) _
  have HC := Kp.mk (refBase_any ((W.alloc (.cells #[.int .u32 t.version, iv, ov, .int .u32 t.lock] 26)).alloc (.cells (u8s (List.replicate 32 0)) 45)) _ t (hT.below hb1))
  have HB1 := Kp.mk hb1
  have HX : Kp (Box ((W.alloc (.cells #[.int .u32 t.version, iv, ov, .int .u32 t.lock] 26)).alloc (.cells (u8s (List.replicate 32 0)) 45)) (W.heap.size + 1) 45 (u8s (List.replicate 32 0))) := ⟨Box.new (by simp) rfl⟩
  have HTW : Kp (∀ w v, Sl w w.heap.size v (baseOf t) → Calls Try.prog 58 #[v] w (Ans (.agg (u8s (twiceOf (baseOf t)))) w)) := ⟨fun w v hv => reftwice_any w v _ hv HBY.out (by have := HLN.out; omega)⟩
  have HL2 : Kp ((twiceOf (baseOf t)).length = 32) := ⟨shaOf_len _⟩
  generalize twiceOf (baseOf t) = R at *
  generalize baseOf t = la at *
  have HI2 : Kp ((Try.prog.info? 45).map (·.size) = some (u8s R).size) := ⟨by rw [u8s_size, HL2.out]; kernel_rfl⟩
  have HS2 : Kp ((u8s (List.replicate 32 0)).size = (u8s R).size) := ⟨by rw [u8s_size, u8s_size, HL2.out]; rfl⟩
  have HO2 := Kp.mk (u8s_one R)
  clear hT hb1 hby
  go_enter Try.func25, Try.ntmps25
  go_wp2_with fail
  refine HC.out.mono ?_
  rintro e w3 ⟨A3, rfl, ho3, hg3⟩
  obtain ⟨a3, c3, rfl⟩ := ho3.slice
  have hb3 : Below ((W.alloc (.cells #[.int .u32 t.version, iv, ov, .int .u32 t.lock] 26)).alloc (.cells (u8s (List.replicate 32 0)) 45)).heap.size ((W.alloc (.cells #[.int .u32 t.version, iv, ov, .int .u32 t.lock] 26)).alloc (.cells (u8s (List.replicate 32 0)) 45)) w3 := hg3
  have HX3 := Kp.mk (HX.out.below hb3)
  have HB3 := Kp.mk (HB1.out.trans (hb3.mono HB1.out.size))
  have HT3 := Kp.mk (HTW.out w3 _ (ho3.sl w3.heap.size (.inr (Nat.le_refl _))))
  clear hg3 ho3 hb3
  go_wp2_with fail
  refine HT3.out.mono ?_
  rintro e w4 ⟨rfl, hb4⟩
  have HX4 := Kp.mk (HX3.out.below hb4)
  have HB4 := Kp.mk (HB3.out.trans (hb4.mono HB3.out.size))
  clear hb4
  go_wp2_with (refine wpList_store_row rfl 45 (.tmp 2) (.tmp 5) rfl (W.heap.size + 1) (u8s R) rfl rfl 45 _ HX4.out HI2.out HS2.out HO2.out ?_)
  exact bodyPost_ret (results_cell_row (by rfl) _ _ (W.heap.size + 1) 45 (u8s R) _ _ rfl (row_box HX4.out _) Try.underlying45 rfl HI2.out) rfl ⟨rfl, HB4.out.trans (row_below (by omega) _)⟩
set_option maxRecDepth 1000000 in
set_option maxHeartbeats 4000000 in
theorem refWtxid_any (W : World) (v : Value) (t : TxD) (h : TxR W v t) (hby : TxBys t) : Calls Try.prog 27 #[v] W (Ans (.agg (u8s (twiceOf (bytesOf t)))) W) := by
  have HLN := Kp.mk (bytes_len h.fit)
  have HBY := Kp.mk (bytesOf_bys hby)
  have hT := h
  obtain ⟨iv, ov, rfl, _⟩ := h
  have hb1 : Below W.heap.size W ((W.alloc (.cells #[.int .u32 t.version, iv, ov, .int .u32 t.lock] 26)).alloc (.cells (u8s (List.replicate 32 0)) 45)) := ((Below.refl _ _).alloc (Nat.le_refl _) _).alloc (by simp) _
  have HC := Kp.mk (refBytes_any ((W.alloc (.cells #[.int .u32 t.version, iv, ov, .int .u32 t.lock] 26)).alloc (.cells (u8s (List.replicate 32 0)) 45)) _ t (hT.below hb1))
  have HB1 := Kp.mk hb1
  have HX : Kp (Box ((W.alloc (.cells #[.int .u32 t.version, iv, ov, .int .u32 t.lock] 26)).alloc (.cells (u8s (List.replicate 32 0)) 45)) (W.heap.size + 1) 45 (u8s (List.replicate 32 0))) := ⟨Box.new (by simp) rfl⟩
  have HTW : Kp (∀ w v, Sl w w.heap.size v (bytesOf t) → Calls Try.prog 58 #[v] w (Ans (.agg (u8s (twiceOf (bytesOf t)))) w)) := ⟨fun w v hv => reftwice_any w v _ hv HBY.out (by have := HLN.out; omega)⟩
  have HL2 : Kp ((twiceOf (bytesOf t)).length = 32) := ⟨shaOf_len _⟩
  generalize twiceOf (bytesOf t) = R at *
  generalize bytesOf t = la at *
  have HI2 : Kp ((Try.prog.info? 45).map (·.size) = some (u8s R).size) := ⟨by rw [u8s_size, HL2.out]; kernel_rfl⟩
  have HS2 : Kp ((u8s (List.replicate 32 0)).size = (u8s R).size) := ⟨by rw [u8s_size, u8s_size, HL2.out]; rfl⟩
  have HO2 := Kp.mk (u8s_one R)
  clear hT hb1 hby
  go_enter Try.func27, Try.ntmps27
  go_wp2_with fail
  refine HC.out.mono ?_
  rintro e w3 ⟨A3, rfl, ho3, hg3⟩
  obtain ⟨a3, c3, rfl⟩ := ho3.slice
  have hb3 : Below ((W.alloc (.cells #[.int .u32 t.version, iv, ov, .int .u32 t.lock] 26)).alloc (.cells (u8s (List.replicate 32 0)) 45)).heap.size ((W.alloc (.cells #[.int .u32 t.version, iv, ov, .int .u32 t.lock] 26)).alloc (.cells (u8s (List.replicate 32 0)) 45)) w3 := hg3
  have HX3 := Kp.mk (HX.out.below hb3)
  have HB3 := Kp.mk (HB1.out.trans (hb3.mono HB1.out.size))
  have HT3 := Kp.mk (HTW.out w3 _ (ho3.sl w3.heap.size (.inr (Nat.le_refl _))))
  clear hg3 ho3 hb3
  go_wp2_with fail
  refine HT3.out.mono ?_
  rintro e w4 ⟨rfl, hb4⟩
  have HX4 := Kp.mk (HX3.out.below hb4)
  have HB4 := Kp.mk (HB3.out.trans (hb4.mono HB3.out.size))
  clear hb4
  go_wp2_with (refine wpList_store_row rfl 45 (.tmp 2) (.tmp 5) rfl (W.heap.size + 1) (u8s R) rfl rfl 45 _ HX4.out HI2.out HS2.out HO2.out ?_)
  exact bodyPost_ret (results_cell_row (by rfl) _ _ (W.heap.size + 1) 45 (u8s R) _ _ rfl (row_box HX4.out _) Try.underlying45 rfl HI2.out) rfl ⟨rfl, HB4.out.trans (row_below (by omega) _)⟩


theorem id_eq (R : List Int) (hb : Bys R) (hl : R.length = 32) (w : World) : (Op.equalIn 10000 45 (.agg (u8s R)) (.agg (u8s R))).run Try.prog w = .ok true w :=
  (eql_prev R R hb hb hl hl w).trans (by simp)
theorem size_ge (t : TxD) : 4 * (sizeOf t : Int) - 3 ≤ (weightOf t : Int) := by unfold sizeOf; omega
theorem size_le {t : TxD} (h : TxFit t) : sizeOf t ≤ 400001 := by
  have h1 := base_len h
  have h2 := bytes_len h
  unfold sizeOf weightOf
  omega

set_option maxRecDepth 1000000 in
set_option maxHeartbeats 8000000 in
theorem awake4_any (w : World) : Calls Try.prog 23 #[] w (YesPost w) := by
  have H1 := Kp.mk (lawTx_any w 5 9 (by omega) (by omega))
  have HID : Kp (∀ W v, TxR W v (txOf 5 9) → Calls Try.prog 24 #[v] W (Ans (.agg (u8s (twiceOf (baseOf (txOf 5 9))))) W)) := ⟨fun W v h => txid_any W v _ h h.bys⟩
  have HRI : Kp (∀ W v, TxR W v (txOf 5 9) → Calls Try.prog 25 #[v] W (Ans (.agg (u8s (twiceOf (baseOf (txOf 5 9))))) W)) := ⟨fun W v h => refTxid_any W v _ h h.bys⟩
  have HWT : Kp (∀ W v, TxR W v (txOf 5 9) → Calls Try.prog 28 #[v] W (NumP (weightOf (txOf 5 9)) W)) := ⟨fun W v h => weight_any W v _ h⟩
  have HST : Kp (∀ W v, TxR W v (txOf 5 9) → Calls Try.prog 30 #[v] W (NumP (sizeOf (txOf 5 9)) W)) := ⟨fun W v h => size_any W v _ h⟩
  have HWN : Kp (∀ W : World, Calls Try.prog 28 #[.agg #[.int .u32 0, .slice none 0 0, .slice none 0 0, .int .u32 0]] W (fun e w' => e = .returned (.int .i64 0) ∧ Below W.heap.size W w')) := ⟨fun W => weight_any W _ noTx (noTx_r W)⟩
  have HSN : Kp (∀ W : World, Calls Try.prog 30 #[.agg #[.int .u32 0, .slice none 0 0, .slice none 0 0, .int .u32 0]] W (fun e w' => e = .returned (.int .i64 0) ∧ Below W.heap.size W w')) := ⟨fun W => size_any W _ noTx (noTx_r W)⟩
  have HSZ : Kp (0 < sizeOf (txOf 5 9) ∧ sizeOf (txOf 5 9) ≤ 400001 ∧ 4 * (sizeOf (txOf 5 9) : Int) - 3 ≤ (weightOf (txOf 5 9) : Int)) := ⟨by decide +kernel, size_le t59_fit, size_ge _⟩
  have HE := Kp.mk (fun W => id_eq (twiceOf (baseOf (txOf 5 9))) (shaOf_bys _) (shaOf_len _) W)
  generalize twiceOf (baseOf (txOf 5 9)) = R at *
  generalize sizeOf (txOf 5 9) = sz at *
  generalize weightOf (txOf 5 9) = wt at *
  generalize txOf 5 9 = T at *
  go_enter Try.func23, Try.ntmps23
  go_wp2_with fail
  refine H1.out.mono ?_
  rintro e w1 ⟨v1, rfl, hT1, hb1⟩
  obtain ⟨iv, ov, rfl, _, _, hi1, ho1⟩ := id hT1
  obtain ⟨Ai, ci, rfl⟩ := hi1.slice
  obtain ⟨Ao, co, rfl⟩ := ho1.slice
  have hR1 := hT1.txR
  have hba : Below w1.heap.size w1 (w1.alloc (.cells #[.int .u32 T.version, .slice Ai T.ins.length ci, .slice Ao T.outs.length co, .int .u32 T.lock] 26)) := (Below.refl _ _).alloc (Nat.le_refl _) _
  have HX2 : Kp (∀ W, Below (w1.heap.size + 1) (w1.alloc (.cells #[.int .u32 T.version, .slice Ai T.ins.length ci, .slice Ao T.outs.length co, .int .u32 T.lock] 26)) W → TxR W (.agg #[.int .u32 T.version, .slice Ai T.ins.length ci, .slice Ao T.outs.length co, .int .u32 T.lock]) T) := ⟨fun W hW => (hR1.below hba).below (by rw [alloc_size]; exact hW)⟩
  have HC : Kp (∀ W, Below (w1.heap.size + 1) (w1.alloc (.cells #[.int .u32 T.version, .slice Ai T.ins.length ci, .slice Ao T.outs.length co, .int .u32 T.lock] 26)) W → W.cell? ⟨w1.heap.size, 0, none⟩ = some (.int .u32 T.version) ∧ W.cell? ⟨w1.heap.size, 1, none⟩ = some (.slice Ai T.ins.length ci) ∧ W.cell? ⟨w1.heap.size, 2, none⟩ = some (.slice Ao T.outs.length co) ∧ W.cell? ⟨w1.heap.size, 3, none⟩ = some (.int .u32 T.lock)) := ⟨fun W hW => by
    have hb := (Box.fresh w1 26 #[.int .u32 T.version, .slice Ai T.ins.length ci, .slice Ao T.outs.length co, .int .u32 T.lock]).below (by rw [alloc_size]; exact hW)
    exact ⟨hb.cell 0, hb.cell 1, hb.cell 2, hb.cell 3⟩⟩
  have HB2 : Kp (Below w.heap.size w (w1.alloc (.cells #[.int .u32 T.version, .slice Ai T.ins.length ci, .slice Ao T.outs.length co, .int .u32 T.lock] 26))) := ⟨hb1.trans (hba.mono hb1.size)⟩
  have HCL : Kp (∀ W W', Below (w1.heap.size + 1) (w1.alloc (.cells #[.int .u32 T.version, .slice Ai T.ins.length ci, .slice Ao T.outs.length co, .int .u32 T.lock] 26)) W → Below W.heap.size W W' → Below (w1.heap.size + 1) (w1.alloc (.cells #[.int .u32 T.version, .slice Ai T.ins.length ci, .slice Ao T.outs.length co, .int .u32 T.lock] 26)) W') := ⟨fun W W' h1 h2 => h1.trans (h2.mono (by have := h1.size; rw [alloc_size] at this; exact this))⟩
  have hbl : Below (w1.heap.size + 1) (w1.alloc (.cells #[.int .u32 T.version, .slice Ai T.ins.length ci, .slice Ao T.outs.length co, .int .u32 T.lock] 26)) (w1.alloc (.cells #[.int .u32 T.version, .slice Ai T.ins.length ci, .slice Ao T.outs.length co, .int .u32 T.lock] 26)).drew := (Below.refl _ _).drew
  have h0 := HC.out _ hbl
  have HZ1 : Kp (w.heap.size ≤ w1.heap.size) := ⟨hb1.size⟩
  have hz1 := HSZ.out.1
  have hz2 : IntKind.i64.wrap (4 * (sz : Int)) = 4 * (sz : Int) := by have := HSZ.out.2.1; rw [IntKind.wrap_i64]; omega
  have hz3 : IntKind.i64.wrap (4 * (sz : Int) - 3) = 4 * (sz : Int) - 3 := by have := HSZ.out.2.1; rw [IntKind.wrap_i64]; omega
  have hz4 := HSZ.out.2.2
  have hz1d : decide (0 < sz) = true := by simp; omega
  have hz4d : decide (4 * (sz : Int) - 3 ≤ (wt : Int)) = true := by simp; omega
  have he := HE.out
  clear hT1 hb1 hR1 hba H1 hi1 ho1
  go_wp2_with fail
  go_region_held3 (fun W => W.cell? ⟨w1.heap.size, 0, none⟩ = some (.int .u32 T.version) ∧ W.cell? ⟨w1.heap.size, 1, none⟩ = some (.slice Ai T.ins.length ci) ∧ W.cell? ⟨w1.heap.size, 2, none⟩ = some (.slice Ao T.outs.length co) ∧ W.cell? ⟨w1.heap.size, 3, none⟩ = some (.int .u32 T.lock)) (first | exact h0 | exact HC.out _ hbl) (first
    | (go_at_call 24; refine (HID.out _ _ (HX2.out _ hbl)).mono ?_; rintro e w3 ⟨rfl, hb3⟩; replace hbl := HCL.out _ _ hbl hb3; clear hb3)
    | (go_at_call 25; refine (HRI.out _ _ (HX2.out _ hbl)).mono ?_; rintro e w4 ⟨rfl, hb4⟩; replace hbl := HCL.out _ _ hbl hb4; clear hb4)
    | (go_at_call 28; with_reducible refine (HWN.out _).mono ?_; rintro e w5 ⟨rfl, hb5⟩; replace hbl := HCL.out _ _ hbl hb5; clear hb5)
    | (go_at_call 30; with_reducible refine (HSN.out _).mono ?_; rintro e w6 ⟨rfl, hb6⟩; replace hbl := HCL.out _ _ hbl hb6; clear hb6)
    | (go_at_call 28; refine (HWT.out _ _ (HX2.out _ hbl)).mono ?_; rintro e w7 ⟨rfl, hb7⟩; replace hbl := HCL.out _ _ hbl hb7; clear hb7)
    | (go_at_call 30; refine (HST.out _ _ (HX2.out _ hbl)).mono ?_; rintro e w8 ⟨rfl, hb8⟩; replace hbl := HCL.out _ _ hbl hb8; clear hb8))
  all_goals
    go_wp2
    go_ret
    exact ⟨rfl, HB2.out.trans (hbl.mono (by have := HZ1.out; omega))⟩
end Go.Proofs.Ytpbhlnmhaociiaa
