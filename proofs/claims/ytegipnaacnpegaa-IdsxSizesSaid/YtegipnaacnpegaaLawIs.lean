/- A size is a quarter of the weight, no less, and less than one more, and without witnesses it is how many bytes there are: for every two ints the law IdsxSizes returns true. No further condition. -/
import Derived.Test.YtegipnaacnpegaaShN
import Derived.Test.YtegipnaacnpegaaBkC
import Derived.Test.YtegipnaacnpegaaClose
import Derived.Deep.DeepCutAuto
namespace Go.Proofs.Ytegipnaacnpegaa.lawIs
open Go.ChangeShapes Go.WideShapes Go.ChangeAt Go.RowKit

theorem baseOf_strip {t : TxD} (h : MayF t) : baseOf (stripT t) = baseOf t := by
  have h1 := stripT_bytes h
  rw [bytesOf_enc (stripT_may h), stripT_wit] at h1
  rw [baseOf_enc (stripT_may h), h1]
theorem base_pos {t : TxD} (h : MayF t) : 0 < (baseOf t).length := by
  rw [baseOf_enc h]
  unfold encTx
  simp [leb_len]
  omega
theorem sizes (t : TxD) (h : MayF t) : 1 ≤ sizeOf t ∧ weightOf t ≤ 4 * sizeOf t ∧ 4 * sizeOf t < weightOf t + 4 := by
  have := base_pos h
  unfold sizeOf weightOf
  omega
theorem bare (t : TxD) (h : MayF t) : weightOf (stripT t) = 4 * (baseOf t).length ∧ sizeOf (stripT t) = (baseOf t).length := by
  unfold sizeOf weightOf
  rw [baseOf_strip h, stripT_bytes h]
  omega

set_option maxRecDepth 1000000 in
set_option maxHeartbeats 8000000 in
theorem walk (n m : Int) (w : World) (hn : -9223372036854775808 ≤ n ∧ n ≤ 9223372036854775807) (hm : -9223372036854775808 ≤ m ∧ m ≤ 9223372036854775807) : Calls Try.prog 8 #[.int .i64 n, .int .i64 m] w (YesPost w) := by
  have H1 := Kp.mk (lawTx_any w n m hn hm)
  have HMAY := Kp.mk (txOf_may n m)
  have HI0 : Kp (0 < (txOf n m).ins.length ∧ (txOf n m).ins.length ≤ 4) := ⟨by have := txOf_lens n m; omega, by have := txOf_lens n m; omega⟩
  have HFIT := txOf_fit n m
  have HWT : Kp (∀ W v, TxR W v (txOf n m) → Calls Try.prog 28 #[v] W (NumP (weightOf (txOf n m)) W)) := ⟨fun W v h => weight_any W v _ h⟩
  have HST : Kp (∀ W v, TxR W v (txOf n m) → Calls Try.prog 29 #[v] W (NumP (sizeOf (txOf n m)) W)) := ⟨fun W v h => size_any W v _ h⟩
  have HSZ := Kp.mk (sizes (txOf n m) (txOf_may n m))
  have HBL : Kp ((baseOf (txOf n m)).length ≤ 400000) := ⟨base_len HFIT⟩
  have HLE : Kp (weightOf (txOf n m) ≤ 1600000) := ⟨by have := bytes_len HFIT; have := base_len HFIT; unfold weightOf; omega⟩
  have HBW : Kp (∀ W v, TxR W v (stripT (txOf n m)) → Calls Try.prog 28 #[v] W (fun e w' => e = .returned (.int .i64 (4 * ((baseOf (txOf n m)).length : Int))) ∧ Below W.heap.size W w')) := ⟨fun W v h => (weight_any W v _ h).mono fun e w' hh => ⟨by rw [hh.1, (bare _ (txOf_may n m)).1]; simp, hh.2⟩⟩
  have HBS : Kp (∀ W v, TxR W v (stripT (txOf n m)) → Calls Try.prog 29 #[v] W (fun e w' => e = .returned (.int .i64 ((baseOf (txOf n m)).length : Int)) ∧ Below W.heap.size W w')) := ⟨fun W v h => (size_any W v _ h).mono fun e w' hh => ⟨by rw [hh.1, (bare _ (txOf_may n m)).2], hh.2⟩⟩
  have HBR : Kp (∀ W v, TxR W v (stripT (txOf n m)) → Calls Try.prog 20 #[v] W (fun e w' => ∃ A c, e = .returned (.slice A (baseOf (txOf n m)).length c) ∧ Below W.heap.size W w')) := ⟨fun W v h => (refBase_any W v _ h).mono fun e w' ⟨x, he, ho, hb⟩ => by
    obtain ⟨A, c, rfl⟩ := ho.slice
    rw [baseOf_strip (txOf_may n m)] at he
    exact ⟨A, c, he, hb⟩⟩
  generalize sizeOf (txOf n m) = sz at *
  generalize weightOf (txOf n m) = wt at *
  generalize hbb : (baseOf (txOf n m)).length = b at *
  generalize txOf n m = T at *
  clear hbb HFIT hn hm
  go_enter Try.func8, Try.ntmps8
  go_wp2_with fail
  refine H1.out.mono ?_
  rintro e w1 ⟨v1, rfl, hT1, hb1⟩
  have HT1 := Kp.mk hT1
  obtain ⟨iv, ov, rfl, hv, hk, hi1, ho1⟩ := id hT1
  obtain ⟨gi, ci, rfl, hic, hgi1, hgi2, Ci, hxi⟩ := hi1.box HI0.out.1
  obtain ⟨Ao, co, rfl⟩ := ho1.slice
  have hba : Below w1.heap.size w1 (w1.alloc (.cells #[.int .u32 T.version, .slice (some ⟨gi, 0, none⟩) T.ins.length ci, .slice Ao T.outs.length co, .int .u32 T.lock] 26)) := (Below.refl _ _).alloc (Nat.le_refl _) _
  have HX2 : Kp (∀ W, Below (w1.heap.size + 1) (w1.alloc (.cells #[.int .u32 T.version, .slice (some ⟨gi, 0, none⟩) T.ins.length ci, .slice Ao T.outs.length co, .int .u32 T.lock] 26)) W → TxR W (.agg #[.int .u32 T.version, .slice (some ⟨gi, 0, none⟩) T.ins.length ci, .slice Ao T.outs.length co, .int .u32 T.lock]) T) := ⟨fun W hW => (hT1.txR.below hba).below (by rw [alloc_size]; exact hW)⟩
  have HBX : Kp (∀ W, Below (w1.heap.size + 1) (w1.alloc (.cells #[.int .u32 T.version, .slice (some ⟨gi, 0, none⟩) T.ins.length ci, .slice Ao T.outs.length co, .int .u32 T.lock] 26)) W → Box W w1.heap.size 26 #[.int .u32 T.version, .slice (some ⟨gi, 0, none⟩) T.ins.length ci, .slice Ao T.outs.length co, .int .u32 T.lock]) := ⟨fun W hW => (Box.fresh w1 26 _).below (by rw [alloc_size]; exact hW)⟩
  have HC : Kp (∀ W, Box W w1.heap.size 26 #[.int .u32 T.version, .slice (some ⟨gi, 0, none⟩) T.ins.length ci, .slice Ao T.outs.length co, .int .u32 T.lock] → W.cell? ⟨w1.heap.size, 0, none⟩ = some (.int .u32 T.version) ∧ W.cell? ⟨w1.heap.size, 1, none⟩ = some (.slice (some ⟨gi, 0, none⟩) T.ins.length ci) ∧ W.cell? ⟨w1.heap.size, 2, none⟩ = some (.slice Ao T.outs.length co) ∧ W.cell? ⟨w1.heap.size, 3, none⟩ = some (.int .u32 T.lock)) := ⟨fun W hb => ⟨hb.cell 0, hb.cell 1, hb.cell 2, hb.cell 3⟩⟩
  have HB2 : Kp (Below w.heap.size w (w1.alloc (.cells #[.int .u32 T.version, .slice (some ⟨gi, 0, none⟩) T.ins.length ci, .slice Ao T.outs.length co, .int .u32 T.lock] 26))) := ⟨hb1.trans (hba.mono hb1.size)⟩
  have HCL : Kp (∀ W W', Below (w1.heap.size + 1) (w1.alloc (.cells #[.int .u32 T.version, .slice (some ⟨gi, 0, none⟩) T.ins.length ci, .slice Ao T.outs.length co, .int .u32 T.lock] 26)) W → Below W.heap.size W W' → Below (w1.heap.size + 1) (w1.alloc (.cells #[.int .u32 T.version, .slice (some ⟨gi, 0, none⟩) T.ins.length ci, .slice Ao T.outs.length co, .int .u32 T.lock] 26)) W') := ⟨fun W W' h1 h2 => h1.trans (h2.mono (by have := h1.size; rw [alloc_size] at this; exact this))⟩
  have HZ1 : Kp (w.heap.size ≤ w1.heap.size ∧ w.heap.size ≤ gi ∧ gi < w1.heap.size) := ⟨hb1.size, hgi1, hgi2⟩
  have HOWN : Kp (∀ W, Below (w1.heap.size + 1) (w1.alloc (.cells #[.int .u32 T.version, .slice (some ⟨gi, 0, none⟩) T.ins.length ci, .slice Ao T.outs.length co, .int .u32 T.lock] 26)) W → OwnMany 36 31 (InO W w.heap.size) W w.heap.size (.slice (some ⟨gi, 0, none⟩) T.ins.length ci) T.ins ∧ OwnMany 2 34 (OutF W w.heap.size) W w.heap.size (.slice Ao T.outs.length co) T.outs) := ⟨fun W hW => by
    have hk : Keeps [5, 28, 31, 34] w1 W := (Keeps.of_below _ hba).trans (Keeps.of_below _ (by rw [alloc_size]; exact hW))
    exact ⟨OwnMany.turn hi1 hk (by decide) (Nat.le_refl _) (fun cs d h => InO.turn h hk (by decide) (by decide) (Nat.le_refl _)), OwnMany.turn ho1 hk (by decide) (Nat.le_refl _) (fun cs d h => OutF.keeps h hk (by decide))⟩⟩
  have HVK : Kp (T.version < 4294967296 ∧ T.lock < 4294967296) := ⟨hv, hk⟩
  have hbl : Below (w1.heap.size + 1) (w1.alloc (.cells #[.int .u32 T.version, .slice (some ⟨gi, 0, none⟩) T.ins.length ci, .slice Ao T.outs.length co, .int .u32 T.lock] 26)) (w1.alloc (.cells #[.int .u32 T.version, .slice (some ⟨gi, 0, none⟩) T.ins.length ci, .slice Ao T.outs.length co, .int .u32 T.lock] 26)).drew := (Below.refl _ _).drew
  have h0 := HC.out _ (HBX.out _ hbl)
  have hs1 : IntKind.i64.wrap (4 * (sz : Int)) = 4 * (sz : Int) := by have := HSZ.out; have := HLE.out; rw [IntKind.wrap_i64]; omega
  have hs2 : IntKind.i64.wrap ((wt : Int) + 4) = (wt : Int) + 4 := by have := HLE.out; rw [IntKind.wrap_i64]; omega
  have hs3 : (4 * (sz : Int) < (wt : Int)) = False := by have := HSZ.out; simp; omega
  have hs4 : ((wt : Int) + 4 ≤ 4 * (sz : Int)) = False := by have := HSZ.out; simp; omega
  have hs5 : ((sz : Int) < 1) = False := by have := HSZ.out; simp; omega
  have hs6 : (sz = 0) = False := by have := HSZ.out; simp; omega
  clear hT1 hb1 hba hi1 ho1 hxi H1 hv hk hgi1 hgi2
  go_wp2_with fail
  go_region_held3 (fun W => W.cell? ⟨w1.heap.size, 0, none⟩ = some (.int .u32 T.version) ∧ W.cell? ⟨w1.heap.size, 1, none⟩ = some (.slice (some ⟨gi, 0, none⟩) T.ins.length ci) ∧ W.cell? ⟨w1.heap.size, 2, none⟩ = some (.slice Ao T.outs.length co) ∧ W.cell? ⟨w1.heap.size, 3, none⟩ = some (.int .u32 T.lock)) (first | exact h0 | exact HC.out _ (HBX.out _ hbl)) (first
    | (go_at_call 28; refine (HWT.out _ _ (HX2.out _ hbl)).mono ?_; rintro e w3 ⟨rfl, hb3⟩; replace hbl := HCL.out _ _ hbl hb3; clear hb3)
    | (go_at_call 29; refine (HST.out _ _ (HX2.out _ hbl)).mono ?_; rintro e w4 ⟨rfl, hb4⟩; replace hbl := HCL.out _ _ hbl hb4; clear hb4))
  all_goals
    have e1 := (HC.out _ (HBX.out _ hbl)).2.1
    have hni : T.ins.length ≤ 4 := HI0.out.2
    have hHH := HOWN.out _ hbl
    have HIN := Kp.mk (And.intro hHH.1 (And.intro hHH.2 (And.intro (HBX.out _ hbl) hbl)))
    clear hHH hbl h0
    go_wp2
    clear hs2 hs3 hs4 hs5 hs6 hs1
    go_loopw [34] (fun i wr => ∃ (j : Nat) (ds : List InD), j ≤ T.ins.length ∧ i = .int .i64 j ∧ Kp (ds = insJ T.ins j ∧ ds.length = T.ins.length ∧ OwnMany 36 31 (InO wr w.heap.size) wr w.heap.size (.slice (some ⟨gi, 0, none⟩) ds.length ci) ds ∧ OwnMany 2 34 (OutF wr w.heap.size) wr w.heap.size (.slice Ao T.outs.length co) T.outs ∧ Box wr w1.heap.size 26 #[.int .u32 T.version, .slice (some ⟨gi, 0, none⟩) T.ins.length ci, .slice Ao T.outs.length co, .int .u32 T.lock] ∧ Below w.heap.size w wr)) (fun i _ => T.ins.length - (intOf i).toNat)
    case atStart => exact ⟨0, T.ins, Nat.zero_le _, rfl, ⟨by simp [insJ], rfl, HIN.out.1, HIN.out.2.1, HIN.out.2.2.1, HB2.out.trans (HIN.out.2.2.2.mono (by have := HZ1.out.1; omega))⟩⟩
    case round =>
      obtain ⟨j, ds, hj, rfl, ⟨hds, hdl, hown, houts, hx8, hbl⟩⟩ := hrel
      clear e1
      have e1 := hx8.cell 1
      by_cases hjl : j < T.ins.length
      · have hjd : j < ds.length := by rw [hdl]; exact hjl
        obtain ⟨cs, hcl, hin, hc, hf⟩ := hown.cell (j := 35) hjd (by omega)
        obtain ⟨sv, wv, rfl, hfit, hsv1, hsv2, hrows⟩ := hin
        rw [inCells_wit hfit] at hc
        obtain ⟨Aw, cw, rfl⟩ := hrows.slice
        obtain ⟨g2, c2, he2, _, _, _, Ci, hxi⟩ := hown.box (by omega)
        injection he2 with he2
        injection he2 with he2
        injection he2 with he2
        subst he2
        have hjl' : (j : Int) < (T.ins.length : Int) := by omega
        have HJ : Kp (j < T.ins.length) := ⟨hjl⟩
        have hk : Keeps [5, 28, 34] wr (wr.setCell ⟨gi, j * 36 + 35, none⟩ (.slice none 0 0)) := Keeps.of_set hxi (by decide) _ _
        have HNXT : Kp (OwnMany 36 31 (InO (wr.setCell ⟨gi, j * 36 + 35, none⟩ (.slice none 0 0)) w.heap.size) (wr.setCell ⟨gi, j * 36 + 35, none⟩ (.slice none 0 0)) w.heap.size (.slice (some ⟨gi, 0, none⟩) (ds.set j (strip ds[j])).length ci) (ds.set j (strip ds[j])) ∧ OwnMany 2 34 (OutF (wr.setCell ⟨gi, j * 36 + 35, none⟩ (.slice none 0 0)) w.heap.size) (wr.setCell ⟨gi, j * 36 + 35, none⟩ (.slice none 0 0)) w.heap.size (.slice Ao T.outs.length co) T.outs ∧ Box (wr.setCell ⟨gi, j * 36 + 35, none⟩ (.slice none 0 0)) w1.heap.size 26 #[.int .u32 T.version, .slice (some ⟨gi, 0, none⟩) T.ins.length ci, .slice Ao T.outs.length co, .int .u32 T.lock] ∧ Below w.heap.size w (wr.setCell ⟨gi, j * 36 + 35, none⟩ (.slice none 0 0))) := ⟨by
          refine ⟨?_, OwnMany.turn houts hk (by decide) (Nat.le_refl _) (fun cs d h => OutF.keeps h hk (by decide)), ?_, ?_⟩
          · have h := ins_strip hown hjd hxi
            rw [List.length_set]
            exact h
          · exact (Below.heap_setCell wr _ _ _ (show w1.heap.size ≠ gi by have := HZ1.out; omega)).trans hx8
          · exact hbl.setCell (show w.heap.size ≤ gi by have := HZ1.out; omega) _⟩
        have HDS : Kp (ds.set j (strip ds[j]) = insJ T.ins (j + 1) ∧ (ds.set j (strip ds[j])).length = T.ins.length) := ⟨by
          refine ⟨?_, by rw [List.length_set]; exact hdl⟩
          subst hds
          rw [insJ_at hjl hjd]
          exact insJ_next hjl⟩
        clear hown houts hx8 hbl hds hdl hfit hsv1 hsv2 hrows hk hjl hj hxi hcl
        go_wp2_with fail
        go_roundw
        case rel => exact ⟨j + 1, _, by have := HJ.out; omega, by go_num, ⟨HDS.out.1, HDS.out.2, HNXT.out⟩⟩
        case measure => have := HJ.out; simp [intOf]; omega
      · obtain rfl : j = T.ins.length := by omega
        have HTS : Kp (TxR wr (.agg #[.int .u32 T.version, .slice (some ⟨gi, 0, none⟩) T.ins.length ci, .slice Ao T.outs.length co, .int .u32 T.lock]) (stripT T)) := ⟨by
          rw [insJ_end] at hds
          have h36 := OwnMany.many hown fun _ _ h => h.inR
          rw [hdl, hds] at h36
          exact ⟨_, _, rfl, HVK.out.1, HVK.out.2, h36, OwnMany.many houts fun _ _ h => h.outR⟩⟩
        have HX8 := Kp.mk hx8
        have HBLR := Kp.mk hbl
        have hbm : Below wr.heap.size wr wr.drew := (Below.refl _ _).drew
        have h0 := HC.out _ (hx8.below hbm)
        have hs1 : IntKind.i64.wrap (4 * (b : Int)) = 4 * (b : Int) := by have := HBL.out; rw [IntKind.wrap_i64]; omega
        clear hown houts hx8 hbl hds hdl hjl hj e1
        obtain ⟨wz, rfl⟩ : ∃ W : World, W = wr := ⟨_, rfl⟩
        go_wp2_with fail
        go_region_held3 (fun W => W.cell? ⟨w1.heap.size, 0, none⟩ = some (.int .u32 T.version) ∧ W.cell? ⟨w1.heap.size, 1, none⟩ = some (.slice (some ⟨gi, 0, none⟩) T.ins.length ci) ∧ W.cell? ⟨w1.heap.size, 2, none⟩ = some (.slice Ao T.outs.length co) ∧ W.cell? ⟨w1.heap.size, 3, none⟩ = some (.int .u32 T.lock)) (first | exact h0 | exact HC.out _ (HX8.out.below hbm)) (first
          | (go_at_call 28; refine (HBW.out _ _ (HTS.out.below hbm)).mono ?_; rintro e w5 ⟨rfl, hb5⟩; replace hbm := hbm.trans (hb5.mono hbm.size); clear hb5)
          | (go_at_call 29; refine (HBS.out _ _ (HTS.out.below hbm)).mono ?_; rintro e w6 ⟨rfl, hb6⟩; replace hbm := hbm.trans (hb6.mono hbm.size); clear hb6)
          | (go_at_call 20; refine (HBR.out _ _ (HTS.out.below hbm)).mono ?_; rintro e w7 ⟨A7, c7, rfl, hb7⟩; replace hbm := hbm.trans (hb7.mono hbm.size); clear hb7)
          | (go_at_call 30; refine (awake4_any _).mono ?_; rintro e w8 ⟨rfl, hb8⟩; replace hbm := hbm.trans (hb8.mono hbm.size); clear hb8))
        all_goals
          go_wp2
          go_ret
          exact ⟨rfl, HBLR.out.trans (hbm.mono HBLR.out.size)⟩

set_option maxRecDepth 100000 in
theorem lifted (os : Os) (started : os.Started) (H : Type) (enc : TypeId × Value → H) :
    ReturnsInHanded {} Try.checked os 8 .any (Rows.idsxSizesSpec.pre6 enc Try.prog Try.f8 Rows.idsxSizesRow.domain false) (Rows.idsxSizesSpec.post enc Try.prog Try.f8 false true false false) := by
  refine returnsInHanded_of_change (C := Try.checked) ownKnobNone started (by kernel_rfl) Try.func8
    (ChangeSpec.witness6 (enc := enc) (C := Try.checked) false ⟨#[], #[.int .i64 0, .int .i64 0], []⟩ 8 (by kernel_rfl) (by kernel_rfl) (by kernel_rfl) (by kernel_rfl)) ?_
  intro W base args ds gs before hval0 hW _ _
  have hval : ∀ (j : Nat) t v, Try.f8.params[j]? = some t → args[j]? = some v → Value.okWide Try.prog W .any base t v := hval0
  have hW' := hW
  obtain ⟨p, q, hA0, hV, rfl, _, _⟩ := hW
  have hA : DataW.TrodAll enc Try.prog W 0 (fun _ => true) true Try.f8.params.toList args.toList ds p := hA0
  rw [Try.params8] at hA hval
  obtain ⟨v0, vs0, d0, ds0, p0, q0, hargs, rfl, rfl, h0, r0⟩ := trodAll_cons hA
  obtain ⟨v1, vs1, d1, ds1, p1, q1, rfl, rfl, rfl, h1, r1⟩ := trodAll_cons r0
  obtain ⟨rfl, rfl, rfl⟩ := trodAll_nil r1
  obtain rfl : args = #[v0, v1] := by cases args; simp_all
  obtain ⟨rfl, rfl⟩ := trodVars_none hV
  obtain ⟨a0, rfl, rfl, rfl, w0⟩ := open_int Try.underlying3 (hval 0 3 v0 rfl rfl) h0
  have b0 := bd_i64 w0
  obtain ⟨a1, rfl, rfl, rfl, w1⟩ := open_int Try.underlying3 (hval 1 3 v1 rfl rfl) h1
  have b1 := bd_i64 w1
  clear hA0 hval0
  refine (walk a0 a1 W b0 b1).mono fun e W' ⟨he, hb⟩ => ?_
  subst he
  exact ⟨_, rfl, law_post hW' rfl rfl (by kernel_rfl) rfl hb⟩

set_option maxRecDepth 100000 in
theorem over : Rows.idsxSizesRow.holds Try.pinned (OpenSpec.ofChange Rows.idsxSizesSpec) :=
  OpenClaim.holds_of_wide 8 Try.f8 rfl rfl rfl rfl rfl rfl rfl ⟨rfl, rfl, rfl, rfl, rfl⟩ rfl rfl rfl rfl rfl (by kernel_rfl) Try.func8 (by kernel_rfl)
    (of_decide_eq_true (by kernel_rfl)) (by unfold Func.isWrapper; first | (rw [if_pos (by decide +kernel)]; kernel_rfl) | (rw [if_neg (by decide +kernel)]; exact ⟨rfl, rfl⟩))
    (fun os started H enc _ => lifted os started H enc)

/-- The statement. -/
theorem proved : Rows.IdsxSizesSaid :=
  over
end Go.Proofs.Ytegipnaacnpegaa.lawIs
