/- The law TxnsTells: its beginning. The law TxnsTells where its arguments are too great. -/
import Derived.Test.YtojeonepplfhlaaTtM
import Derived.Test.YtojeonepplfhlaaAwC
import Derived.Test.YtojeonepplfhlaaArM
import Derived.Deep.DeepCutAuto
namespace Go.Proofs.Ytojeonepplfhlaa
open Go.RowKit


set_option maxRecDepth 100000 in
theorem app_new {W : World} {l : List Int} {e : Ending} {w' : World} (h : App W.heap.size l W e w') : NewBytes l W e w' := by
  obtain ⟨v, rfl, ho, hg⟩ := h
  exact ⟨v, rfl, ho, hg.low⟩

set_option maxRecDepth 10000000 in
set_option maxHeartbeats 16000000 in
theorem tells_short (v bv : Value) (t : TxD) (lb : List Int) (n m at_ by_ : Int) (w : World) (h : TxR w v t) (hb : Rb w bv lb) (hn : -9223372036854775808 ≤ n ∧ n ≤ 9223372036854775807) (hm : -9223372036854775808 ≤ m ∧ m ≤ 9223372036854775807) (hat : -9223372036854775808 ≤ at_ ∧ at_ ≤ 9223372036854775807) (hby : 0 ≤ by_ ∧ by_ ≤ 255) (h0 : lb.length ≤ 400) (h1 : t.ins.length ≤ 60) (h2 : t.outs.length ≤ 60) :
    Calls Try.prog 3 #[v, .int .i64 n, .int .i64 m, bv, .int .i64 at_, .int .u8 by_] w (YesPost w) := by
  have HT := Kp.mk h
  have HBV := Kp.mk hb
  obtain ⟨iv, ov, rfl, _, _, hi, ho⟩ := h
  obtain ⟨Ai, ci, rfl, _⟩ := hi.slice
  obtain ⟨Ao, co, rfl, _⟩ := ho.slice
  obtain ⟨⟨Ab, cb, rfl, _⟩, _⟩ := hb
  obtain ⟨NI, hNI⟩ : ∃ N, t.ins.length = N := ⟨_, rfl⟩
  obtain ⟨NO, hNO⟩ : ∃ N, t.outs.length = N := ⟨_, rfl⟩
  obtain ⟨NB, hNB⟩ : ∃ N, lb.length = N := ⟨_, rfl⟩
  rw [hNI] at h1 HT ⊢
  rw [hNO] at h2 HT ⊢
  have HNB := Kp.mk hNB
  rw [hNB] at h0 HBV ⊢
  have g0 : decide (400 < (NB : Int)) = false := by simp; omega
  have g1 : decide (60 < (NI : Int)) = false := by simp; omega
  have g2 : decide (60 < (NO : Int)) = false := by simp; omega
  obtain ⟨W1, hW1⟩ : ∃ W, w.alloc (.cells #[.int .u32 (t.version : Int), .slice Ai NI ci, .slice Ao NO co, .int .u32 (t.lock : Int)] 26) = W := ⟨_, rfl⟩
  have HB1 : Kp (Below w.heap.size w W1) := ⟨by rw [← hW1]; exact (Below.refl _ _).alloc (Nat.le_refl _) _⟩
  have HX1 : Kp (Box W1 w.heap.size 26 #[.int .u32 (t.version : Int), .slice Ai NI ci, .slice Ao NO co, .int .u32 (t.lock : Int)]) := ⟨by rw [← hW1]; exact Box.fresh _ _ _⟩
  have HW1 := Kp.mk hW1
  have HL := Kp.mk (lawTx_any W1 n m hn hm)
  have c0 := HX1.out.cell 0
  have c1 := HX1.out.cell 1
  have c2 := HX1.out.cell 2
  have c3 := HX1.out.cell 3
  have HMAY := Kp.mk (txOf_may n m)
  have HFIT := Kp.mk (txOf_fit n m)
  have HLENU := Kp.mk (txOf_len n m)
  have HPOSU := Kp.mk (txOf_pos n m)
  have HAT := Kp.mk hat
  have HBYT := Kp.mk hby
  have HN400 := Kp.mk h0
  clear hi ho hNI hNO hNB h0 h1 h2 hn hm hW1 hat hby
  go_enter Try.func3, Try.ntmps3
  go_upto_region 3 with fail
  (try rw [HW1.out])
  clear c0 c1 c2 c3 g0 g1 g2
  go_wp2_with fail
  refine HL.out.mono ?_
  rintro e w2 ⟨v2, rfl, hT2, hb2⟩
  obtain ⟨iv2, ov2, rfl, _, _, hi2, ho2⟩ := id hT2
  obtain ⟨Ai2, ci2, rfl⟩ := hi2.slice
  obtain ⟨Ao2, co2, rfl⟩ := ho2.slice
  have hTR2 := hT2.txR
  obtain ⟨N2, hN2⟩ : ∃ N, (txOf n m).ins.length = N := ⟨_, rfl⟩
  obtain ⟨M2, hM2⟩ : ∃ N, (txOf n m).outs.length = N := ⟨_, rfl⟩
  rw [hN2, hM2] at hTR2 ⊢
  clear hT2 hi2 ho2 hN2 hM2 HL
  generalize txOf n m = u at *
  obtain ⟨W3, hW3⟩ : ∃ W, w2.alloc (.cells #[.int .u32 (u.version : Int), .slice Ai2 N2 ci2, .slice Ao2 M2 co2, .int .u32 (u.lock : Int)] 26) = W := ⟨_, rfl⟩
  have hb3 : Below w2.heap.size w2 W3 := by rw [← hW3]; exact (Below.refl _ _).alloc (Nat.le_refl _) _
  have hx3 : Box W3 w2.heap.size 26 #[.int .u32 (u.version : Int), .slice Ai2 N2 ci2, .slice Ao2 M2 co2, .int .u32 (u.lock : Int)] := by rw [← hW3]; exact Box.fresh _ _ _
  have HW3 := Kp.mk hW3
  obtain ⟨g3, hg3⟩ : ∃ g, w2.heap.size = g := ⟨_, rfl⟩
  rw [hg3] at hx3
  have hb13 : Below W1.heap.size W1 W3 := hb2.trans (hb3.mono hb2.size)
  have HB3 : Kp (Below w.heap.size w W3) := ⟨HB1.out.trans (hb13.mono HB1.out.size)⟩
  have HC : Kp (∀ W : World, Below W3.heap.size W3 W → W.cell? ⟨w.heap.size, 0, none⟩ = some (.int .u32 (t.version : Int)) ∧ W.cell? ⟨w.heap.size, 1, none⟩ = some (.slice Ai NI ci) ∧ W.cell? ⟨w.heap.size, 2, none⟩ = some (.slice Ao NO co) ∧ W.cell? ⟨w.heap.size, 3, none⟩ = some (.int .u32 (t.lock : Int)) ∧ W.cell? ⟨g3, 0, none⟩ = some (.int .u32 (u.version : Int)) ∧ W.cell? ⟨g3, 1, none⟩ = some (.slice Ai2 N2 ci2) ∧ W.cell? ⟨g3, 2, none⟩ = some (.slice Ao2 M2 co2) ∧ W.cell? ⟨g3, 3, none⟩ = some (.int .u32 (u.lock : Int))) := ⟨fun W hW => by
    have e0 := (HX1.out.below hb13).below hW
    have e1 := hx3.below hW
    exact ⟨e0.cell 0, e0.cell 1, e0.cell 2, e0.cell 3, e1.cell 0, e1.cell 1, e1.cell 2, e1.cell 3⟩⟩
  have HTA : Kp (∀ W : World, Below W3.heap.size W3 W → TxR W (.agg #[.int .u32 (t.version : Int), .slice Ai NI ci, .slice Ao NO co, .int .u32 (t.lock : Int)]) t) := ⟨fun W hW => (HT.out.below HB3.out).below hW⟩
  have HTB : Kp (∀ W : World, Below W3.heap.size W3 W → TxR W (.agg #[.int .u32 (u.version : Int), .slice Ai2 N2 ci2, .slice Ao2 M2 co2, .int .u32 (u.lock : Int)]) u) := ⟨fun W hW => (hTR2.below hb3).below hW⟩
  have HMA : Kp (∀ W, Below W3.heap.size W3 W → Calls Try.prog 6 #[.agg #[.int .u32 (t.version : Int), .slice Ai NI ci, .slice Ao NO co, .int .u32 (t.lock : Int)]] W (BoolP (mayB t) W)) := ⟨fun W hW => may_any W _ t (HTA.out W hW)⟩
  have HMB : Kp (∀ W, Below W3.heap.size W3 W → Calls Try.prog 7 #[.agg #[.int .u32 (t.version : Int), .slice Ai NI ci, .slice Ao NO co, .int .u32 (t.lock : Int)]] W (BoolP (mayB t) W)) := ⟨fun W hW => refmay_any W _ t (HTA.out W hW)⟩
  have HMC : Kp (∀ W, Below W3.heap.size W3 W → Calls Try.prog 7 #[.agg #[.int .u32 (u.version : Int), .slice Ai2 N2 ci2, .slice Ao2 M2 co2, .int .u32 (u.lock : Int)]] W (BoolP true W)) := ⟨fun W hW => by
    have h := refmay_any W _ u (HTB.out W hW)
    rw [(mayB_iff u).2 HMAY.out] at h
    exact h⟩
  have HYA : Kp (∀ W, Below W3.heap.size W3 W → Calls Try.prog 8 #[.agg #[.int .u32 (t.version : Int), .slice Ai NI ci, .slice Ao NO co, .int .u32 (t.lock : Int)]] W (NewBytes (bytesOf t) W)) := ⟨fun W hW => (bytes_any W _ t (HTA.out W hW)).mono fun _ _ h => app_new h⟩
  have HYB : Kp (∀ W, Below W3.heap.size W3 W → Calls Try.prog 9 #[.agg #[.int .u32 (t.version : Int), .slice Ai NI ci, .slice Ao NO co, .int .u32 (t.lock : Int)]] W (NewBytes (bytesOf t) W)) := ⟨fun W hW => refBytes_any W _ t (HTA.out W hW)⟩
  have HEA : Kp (∀ W, Below W3.heap.size W3 W → Calls Try.prog 10 #[.agg #[.int .u32 (t.version : Int), .slice Ai NI ci, .slice Ao NO co, .int .u32 (t.lock : Int)]] W (NewBytes (baseOf t) W)) := ⟨fun W hW => (base_any W _ t (HTA.out W hW)).mono fun _ _ h => app_new h⟩
  have HEB : Kp (∀ W, Below W3.heap.size W3 W → Calls Try.prog 11 #[.agg #[.int .u32 (t.version : Int), .slice Ai NI ci, .slice Ao NO co, .int .u32 (t.lock : Int)]] W (NewBytes (baseOf t) W)) := ⟨fun W hW => refBase_any W _ t (HTA.out W hW)⟩
  have HYC : Kp (∀ W, Below W3.heap.size W3 W → Calls Try.prog 8 #[.agg #[.int .u32 (u.version : Int), .slice Ai2 N2 ci2, .slice Ao2 M2 co2, .int .u32 (u.lock : Int)]] W (NewBytes (bytesOf u) W)) := ⟨fun W hW => (bytes_any W _ u (HTB.out W hW)).mono fun _ _ h => app_new h⟩
  have HYD : Kp (∀ W, Below W3.heap.size W3 W → Calls Try.prog 9 #[.agg #[.int .u32 (u.version : Int), .slice Ai2 N2 ci2, .slice Ao2 M2 co2, .int .u32 (u.lock : Int)]] W (NewBytes (bytesOf u) W)) := ⟨fun W hW => refBytes_any W _ u (HTB.out W hW)⟩
  have HEC : Kp (∀ W, Below W3.heap.size W3 W → Calls Try.prog 10 #[.agg #[.int .u32 (u.version : Int), .slice Ai2 N2 ci2, .slice Ao2 M2 co2, .int .u32 (u.lock : Int)]] W (NewBytes (baseOf u) W)) := ⟨fun W hW => (base_any W _ u (HTB.out W hW)).mono fun _ _ h => app_new h⟩
  have HED : Kp (∀ W, Below W3.heap.size W3 W → Calls Try.prog 11 #[.agg #[.int .u32 (u.version : Int), .slice Ai2 N2 ci2, .slice Ao2 M2 co2, .int .u32 (u.lock : Int)]] W (NewBytes (baseOf u) W)) := ⟨fun W hW => refBase_any W _ u (HTB.out W hW)⟩
  have HSA : Kp (∀ W, Below W3.heap.size W3 W → Calls Try.prog 12 #[.agg #[.int .u32 (t.version : Int), .slice Ai NI ci, .slice Ao NO co, .int .u32 (t.lock : Int)], .agg #[.int .u32 (u.version : Int), .slice Ai2 N2 ci2, .slice Ao2 M2 co2, .int .u32 (u.lock : Int)]] W (BoolP (decide (t = u)) W)) := ⟨fun W hW => same_any W _ _ _ _ (HTA.out W hW) (HTB.out W hW)⟩
  have HSB : Kp (∀ W, Below W3.heap.size W3 W → Calls Try.prog 13 #[.agg #[.int .u32 (t.version : Int), .slice Ai NI ci, .slice Ao NO co, .int .u32 (t.lock : Int)], .agg #[.int .u32 (u.version : Int), .slice Ai2 N2 ci2, .slice Ao2 M2 co2, .int .u32 (u.lock : Int)]] W (BoolP (decide (t = u)) W)) := ⟨fun W hW => refSame_any W _ _ _ _ (HTA.out W hW) (HTB.out W hW)⟩
  have hbd : Below W3.heap.size W3 W3.drew := (Below.refl _ _).drew
  clear hTR2 hb2 hb3 hb13 hx3 hW3
  go_upto_region 4 with fail
  (try rw [HW3.out])
  refine wp_region_noPanic ?_
  refine wp_region_held_drew (S := (fun W => Below W3.drew.heap.size W3.drew W)) (by kernel_rfl) ?_ (fun hHeld => ?_)
  · exact Below.refl _ _
  refine wpAnyH_take (i := 0) (oi := ⟨some 48, _, _, _, _, _⟩) (v := ?_) rfl (by kernel_rfl) (by kernel_rfl) (by kernel_rfl) (fun _ _ _ h => h) (Or.inl ⟨by rfl, ?_⟩) hHeld ?_
  rotate_left
  · (intro wx hSw; have hq := HC.out wx (hbd.trans (hSw.mono hbd.size)); (try dsimp only at hSw); go_simp; try with_reducible rfl)
  try simp only [Act.put, List.setIfInBounds_toArray, List.set_cons_zero, List.set_cons_succ]
  refine wpAnyH_take (i := 2) (oi := ⟨some 50, _, _, _, _, _⟩) (v := ?_) rfl (by kernel_rfl) (by kernel_rfl) (by kernel_rfl) (fun _ _ _ h => h) (Or.inl ⟨by rfl, ?_⟩) hHeld ?_
  rotate_left
  · (intro wx hSw; have hq := HC.out wx (hbd.trans (hSw.mono hbd.size)); (try dsimp only at hSw); go_simp; try with_reducible rfl)
  try simp only [Act.put, List.setIfInBounds_toArray, List.set_cons_zero, List.set_cons_succ]
  refine wpAnyH_ready (rs := [1]) (by kernel_rfl) (by simp) (AllReadyH.cons (o := ⟨some 49, _, _, _, _, _⟩) rfl (fun K hK => ?_) AllReadyH.nil)
  go_simp
  refine (HMA.out _ hbd).mono ?_
  rintro e z1 ⟨rfl, hz1⟩
  replace hbd := hbd.trans (hz1.mono hbd.size)
  refine hK.out _ _ ?_ (fun hHeld => ?_)
  · exact hz1
  clear hK K
  try simp only [Act.put, List.setIfInBounds_toArray, List.set_cons_zero, List.set_cons_succ]
  refine heldMoreR (S2 := (fun W => Below z1.heap.size z1 W)) (fun W h => hz1.trans (h.mono hz1.size)) _ _ _ _ ?_
  replace hHeld : (fun W => Below z1.heap.size z1 W) z1 := Below.refl _ _
  refine wpAnyH_ready (rs := [3]) (by kernel_rfl) (by simp) (AllReadyH.cons (o := ⟨some 51, _, _, _, _, _⟩) rfl (fun K hK => ?_) AllReadyH.nil)
  go_simp
  refine (HMB.out _ hbd).mono ?_
  rintro e z2 ⟨rfl, hz2⟩
  replace hbd := hbd.trans (hz2.mono hbd.size)
  refine hK.out _ _ ?_ (fun hHeld => ?_)
  · exact hz2
  clear hK K
  try simp only [Act.put, List.setIfInBounds_toArray, List.set_cons_zero, List.set_cons_succ]
  refine heldMoreR (S2 := (fun W => Below z2.heap.size z2 W)) (fun W h => hz2.trans (h.mono hz2.size)) _ _ _ _ ?_
  replace hHeld : (fun W => Below z2.heap.size z2 W) z2 := Below.refl _ _
  refine wpAnyH_take (i := 4) (oi := ⟨some 52, _, _, _, _, _⟩) (v := ?_) rfl (by kernel_rfl) (by kernel_rfl) (by kernel_rfl) (fun _ _ _ h => h) (Or.inl ⟨by rfl, ?_⟩) hHeld ?_
  rotate_left
  · (intro wx hSw; (try dsimp only at hSw); go_simp; try with_reducible rfl)
  try simp only [Act.put, List.setIfInBounds_toArray, List.set_cons_zero, List.set_cons_succ]
  refine wpAnyH_take (i := 5) (oi := ⟨some 53, _, _, _, _, _⟩) (v := ?_) rfl (by kernel_rfl) (by kernel_rfl) (by kernel_rfl) (fun _ _ _ h => h) (Or.inl ⟨by rfl, ?_⟩) hHeld ?_
  rotate_left
  · (intro wx hSw; (try dsimp only at hSw); go_simp; try with_reducible rfl)
  try simp only [Act.put, List.setIfInBounds_toArray, List.set_cons_zero, List.set_cons_succ]
  refine wpAnyH_take (i := 6) (oi := ⟨some 54, _, _, _, _, _⟩) (v := ?_) rfl (by kernel_rfl) (by kernel_rfl) (by kernel_rfl) (fun _ _ _ h => h) (Or.inl ⟨by rfl, ?_⟩) hHeld ?_
  rotate_left
  · (intro wx hSw; have hq := HC.out wx (hbd.trans (hSw.mono hbd.size)); (try dsimp only at hSw); go_simp; try with_reducible rfl)
  try simp only [Act.put, List.setIfInBounds_toArray, List.set_cons_zero, List.set_cons_succ]
  refine wpAnyH_take (i := 9) (oi := ⟨some 57, _, _, _, _, _⟩) (v := ?_) rfl (by kernel_rfl) (by kernel_rfl) (by kernel_rfl) (fun _ _ _ h => h) (Or.inl ⟨by rfl, ?_⟩) hHeld ?_
  rotate_left
  · (intro wx hSw; have hq := HC.out wx (hbd.trans (hSw.mono hbd.size)); (try dsimp only at hSw); go_simp; try with_reducible rfl)
  try simp only [Act.put, List.setIfInBounds_toArray, List.set_cons_zero, List.set_cons_succ]
  refine wpAnyH_ready (rs := [7]) (by kernel_rfl) (by simp) (AllReadyH.cons (o := ⟨some 55, _, _, _, _, _⟩) rfl (fun K hK => ?_) AllReadyH.nil)
  go_simp
  refine (HYA.out _ hbd).mono ?_
  rintro e z3 ⟨v3, rfl, hv3, hz3⟩
  replace hbd := hbd.trans (hz3.mono hbd.size)
  refine hK.out _ _ ?_ (fun hHeld => ?_)
  · exact hz3
  clear hK K
  try simp only [Act.put, List.setIfInBounds_toArray, List.set_cons_zero, List.set_cons_succ]
  refine heldMoreR (S2 := (fun W => Below z3.heap.size z3 W)) (fun W h => hz3.trans (h.mono hz3.size)) _ _ _ _ ?_
  replace hHeld : (fun W => Below z3.heap.size z3 W) z3 := Below.refl _ _
  have hs3 := hv3.sl z3.heap.size (.inr (Nat.le_refl _))
  refine wpAnyH_take (i := 8) (oi := ⟨some 56, _, _, _, _, _⟩) (v := ?_) rfl (by kernel_rfl) (by kernel_rfl) (by kernel_rfl) (fun _ _ _ h => h) (Or.inl ⟨by rfl, ?_⟩) hHeld ?_
  rotate_left
  · (intro wx hSw; have hq := run_str (hs3.below hSw); (try dsimp only at hSw); go_simp; try with_reducible rfl)
  try simp only [Act.put, List.setIfInBounds_toArray, List.set_cons_zero, List.set_cons_succ]
  refine wpAnyH_ready (rs := [10]) (by kernel_rfl) (by simp) (AllReadyH.cons (o := ⟨some 58, _, _, _, _, _⟩) rfl (fun K hK => ?_) AllReadyH.nil)
  go_simp
  refine (HYB.out _ hbd).mono ?_
  rintro e z4 ⟨v4, rfl, hv4, hz4⟩
  replace hbd := hbd.trans (hz4.mono hbd.size)
  refine hK.out _ _ ?_ (fun hHeld => ?_)
  · exact hz4
  clear hK K
  try simp only [Act.put, List.setIfInBounds_toArray, List.set_cons_zero, List.set_cons_succ]
  refine heldMoreR (S2 := (fun W => Below z4.heap.size z4 W)) (fun W h => hz4.trans (h.mono hz4.size)) _ _ _ _ ?_
  replace hHeld : (fun W => Below z4.heap.size z4 W) z4 := Below.refl _ _
  have hs4 := hv4.sl z4.heap.size (.inr (Nat.le_refl _))
  refine wpAnyH_take (i := 11) (oi := ⟨some 59, _, _, _, _, _⟩) (v := ?_) rfl (by kernel_rfl) (by kernel_rfl) (by kernel_rfl) (fun _ _ _ h => h) (Or.inl ⟨by rfl, ?_⟩) hHeld ?_
  rotate_left
  · (intro wx hSw; have hq := run_str (hs4.below hSw); (try dsimp only at hSw); go_simp; try with_reducible rfl)
  try simp only [Act.put, List.setIfInBounds_toArray, List.set_cons_zero, List.set_cons_succ]
  clear hs3 hs4 hv3 hv4
  refine wpAnyH_take (i := 12) (oi := ⟨some 60, _, _, _, _, _⟩) (v := ?_) rfl (by kernel_rfl) (by kernel_rfl) (by kernel_rfl) (fun _ _ _ h => h) (Or.inl ⟨by rfl, ?_⟩) hHeld ?_
  rotate_left
  · (intro wx hSw; (try dsimp only at hSw); go_simp; try with_reducible rfl)
  try simp only [Act.put, List.setIfInBounds_toArray, List.set_cons_zero, List.set_cons_succ]
  refine wpAnyH_take (i := 13) (oi := ⟨some 61, _, _, _, _, _⟩) (v := ?_) rfl (by kernel_rfl) (by kernel_rfl) (by kernel_rfl) (fun _ _ _ h => h) (Or.inl ⟨by rfl, ?_⟩) hHeld ?_
  rotate_left
  · (intro wx hSw; (try dsimp only at hSw); go_simp; try with_reducible rfl)
  try simp only [Act.put, List.setIfInBounds_toArray, List.set_cons_zero, List.set_cons_succ]
  refine wpAnyH_take (i := 14) (oi := ⟨some 62, _, _, _, _, _⟩) (v := ?_) rfl (by kernel_rfl) (by kernel_rfl) (by kernel_rfl) (fun _ _ _ h => h) (Or.inl ⟨by rfl, ?_⟩) hHeld ?_
  rotate_left
  · (intro wx hSw; (try dsimp only at hSw); go_simp; try with_reducible rfl)
  try simp only [Act.put, List.setIfInBounds_toArray, List.set_cons_zero, List.set_cons_succ]
  refine wpAnyH_take (i := 15) (oi := ⟨some 63, _, _, _, _, _⟩) (v := ?_) rfl (by kernel_rfl) (by kernel_rfl) (by kernel_rfl) (fun _ _ _ h => h) (Or.inl ⟨by rfl, ?_⟩) hHeld ?_
  rotate_left
  · (intro wx hSw; have hq := HC.out wx (hbd.trans (hSw.mono hbd.size)); (try dsimp only at hSw); go_simp; try with_reducible rfl)
  try simp only [Act.put, List.setIfInBounds_toArray, List.set_cons_zero, List.set_cons_succ]
  refine wpAnyH_take (i := 18) (oi := ⟨some 66, _, _, _, _, _⟩) (v := ?_) rfl (by kernel_rfl) (by kernel_rfl) (by kernel_rfl) (fun _ _ _ h => h) (Or.inl ⟨by rfl, ?_⟩) hHeld ?_
  rotate_left
  · (intro wx hSw; have hq := HC.out wx (hbd.trans (hSw.mono hbd.size)); (try dsimp only at hSw); go_simp; try with_reducible rfl)
  try simp only [Act.put, List.setIfInBounds_toArray, List.set_cons_zero, List.set_cons_succ]
  refine wpAnyH_ready (rs := [16]) (by kernel_rfl) (by simp) (AllReadyH.cons (o := ⟨some 64, _, _, _, _, _⟩) rfl (fun K hK => ?_) AllReadyH.nil)
  go_simp
  refine (HEA.out _ hbd).mono ?_
  rintro e z5 ⟨v5, rfl, hv5, hz5⟩
  replace hbd := hbd.trans (hz5.mono hbd.size)
  refine hK.out _ _ ?_ (fun hHeld => ?_)
  · exact hz5
  clear hK K
  try simp only [Act.put, List.setIfInBounds_toArray, List.set_cons_zero, List.set_cons_succ]
  refine heldMoreR (S2 := (fun W => Below z5.heap.size z5 W)) (fun W h => hz5.trans (h.mono hz5.size)) _ _ _ _ ?_
  replace hHeld : (fun W => Below z5.heap.size z5 W) z5 := Below.refl _ _
  have hs5 := hv5.sl z5.heap.size (.inr (Nat.le_refl _))
  refine wpAnyH_take (i := 17) (oi := ⟨some 65, _, _, _, _, _⟩) (v := ?_) rfl (by kernel_rfl) (by kernel_rfl) (by kernel_rfl) (fun _ _ _ h => h) (Or.inl ⟨by rfl, ?_⟩) hHeld ?_
  rotate_left
  · (intro wx hSw; have hq := run_str (hs5.below hSw); (try dsimp only at hSw); go_simp; try with_reducible rfl)
  try simp only [Act.put, List.setIfInBounds_toArray, List.set_cons_zero, List.set_cons_succ]
  refine wpAnyH_ready (rs := [19]) (by kernel_rfl) (by simp) (AllReadyH.cons (o := ⟨some 67, _, _, _, _, _⟩) rfl (fun K hK => ?_) AllReadyH.nil)
  go_simp
  refine (HEB.out _ hbd).mono ?_
  rintro e z6 ⟨v6, rfl, hv6, hz6⟩
  replace hbd := hbd.trans (hz6.mono hbd.size)
  refine hK.out _ _ ?_ (fun hHeld => ?_)
  · exact hz6
  clear hK K
  try simp only [Act.put, List.setIfInBounds_toArray, List.set_cons_zero, List.set_cons_succ]
  refine heldMoreR (S2 := (fun W => Below z6.heap.size z6 W)) (fun W h => hz6.trans (h.mono hz6.size)) _ _ _ _ ?_
  replace hHeld : (fun W => Below z6.heap.size z6 W) z6 := Below.refl _ _
  have hs6 := hv6.sl z6.heap.size (.inr (Nat.le_refl _))
  refine wpAnyH_take (i := 20) (oi := ⟨some 68, _, _, _, _, _⟩) (v := ?_) rfl (by kernel_rfl) (by kernel_rfl) (by kernel_rfl) (fun _ _ _ h => h) (Or.inl ⟨by rfl, ?_⟩) hHeld ?_
  rotate_left
  · (intro wx hSw; have hq := run_str (hs6.below hSw); (try dsimp only at hSw); go_simp; try with_reducible rfl)
  try simp only [Act.put, List.setIfInBounds_toArray, List.set_cons_zero, List.set_cons_succ]
  clear hs5 hs6 hv5 hv6
  refine wpAnyH_take (i := 21) (oi := ⟨some 69, _, _, _, _, _⟩) (v := ?_) rfl (by kernel_rfl) (by kernel_rfl) (by kernel_rfl) (fun _ _ _ h => h) (Or.inl ⟨by rfl, ?_⟩) hHeld ?_
  rotate_left
  · (intro wx hSw; (try dsimp only at hSw); go_simp; try with_reducible rfl)
  try simp only [Act.put, List.setIfInBounds_toArray, List.set_cons_zero, List.set_cons_succ]
  refine wpAnyH_take (i := 22) (oi := ⟨some 70, _, _, _, _, _⟩) (v := ?_) rfl (by kernel_rfl) (by kernel_rfl) (by kernel_rfl) (fun _ _ _ h => h) (Or.inl ⟨by rfl, ?_⟩) hHeld ?_
  rotate_left
  · (intro wx hSw; (try dsimp only at hSw); go_simp; try with_reducible rfl)
  try simp only [Act.put, List.setIfInBounds_toArray, List.set_cons_zero, List.set_cons_succ]
  refine wpAnyH_take (i := 23) (oi := ⟨some 71, _, _, _, _, _⟩) (v := ?_) rfl (by kernel_rfl) (by kernel_rfl) (by kernel_rfl) (fun _ _ _ h => h) (Or.inl ⟨by rfl, ?_⟩) hHeld ?_
  rotate_left
  · (intro wx hSw; (try dsimp only at hSw); go_simp; try with_reducible rfl)
  try simp only [Act.put, List.setIfInBounds_toArray, List.set_cons_zero, List.set_cons_succ]
  refine wpAnyH_take (i := 24) (oi := ⟨some 72, _, _, _, _, _⟩) (v := ?_) rfl (by kernel_rfl) (by kernel_rfl) (by kernel_rfl) (fun _ _ _ h => h) (Or.inl ⟨by rfl, ?_⟩) hHeld ?_
  rotate_left
  · (intro wx hSw; have hq := HC.out wx (hbd.trans (hSw.mono hbd.size)); (try dsimp only at hSw); go_simp; try with_reducible rfl)
  try simp only [Act.put, List.setIfInBounds_toArray, List.set_cons_zero, List.set_cons_succ]
  refine wpAnyH_take (i := 27) (oi := ⟨some 75, _, _, _, _, _⟩) (v := ?_) rfl (by kernel_rfl) (by kernel_rfl) (by kernel_rfl) (fun _ _ _ h => h) (Or.inl ⟨by rfl, ?_⟩) hHeld ?_
  rotate_left
  · (intro wx hSw; have hq := HC.out wx (hbd.trans (hSw.mono hbd.size)); (try dsimp only at hSw); go_simp; try with_reducible rfl)
  try simp only [Act.put, List.setIfInBounds_toArray, List.set_cons_zero, List.set_cons_succ]
  refine wpAnyH_ready (rs := [25]) (by kernel_rfl) (by simp) (AllReadyH.cons (o := ⟨some 73, _, _, _, _, _⟩) rfl (fun K hK => ?_) AllReadyH.nil)
  go_simp
  refine (HYC.out _ hbd).mono ?_
  rintro e z7 ⟨v7, rfl, hv7, hz7⟩
  replace hbd := hbd.trans (hz7.mono hbd.size)
  refine hK.out _ _ ?_ (fun hHeld => ?_)
  · exact hz7
  clear hK K
  try simp only [Act.put, List.setIfInBounds_toArray, List.set_cons_zero, List.set_cons_succ]
  refine heldMoreR (S2 := (fun W => Below z7.heap.size z7 W)) (fun W h => hz7.trans (h.mono hz7.size)) _ _ _ _ ?_
  replace hHeld : (fun W => Below z7.heap.size z7 W) z7 := Below.refl _ _
  have hs7 := hv7.sl z7.heap.size (.inr (Nat.le_refl _))
  refine wpAnyH_take (i := 26) (oi := ⟨some 74, _, _, _, _, _⟩) (v := ?_) rfl (by kernel_rfl) (by kernel_rfl) (by kernel_rfl) (fun _ _ _ h => h) (Or.inl ⟨by rfl, ?_⟩) hHeld ?_
  rotate_left
  · (intro wx hSw; have hq := run_str (hs7.below hSw); (try dsimp only at hSw); go_simp; try with_reducible rfl)
  try simp only [Act.put, List.setIfInBounds_toArray, List.set_cons_zero, List.set_cons_succ]
  refine wpAnyH_ready (rs := [28]) (by kernel_rfl) (by simp) (AllReadyH.cons (o := ⟨some 76, _, _, _, _, _⟩) rfl (fun K hK => ?_) AllReadyH.nil)
  go_simp
  refine (HYD.out _ hbd).mono ?_
  rintro e z8 ⟨v8, rfl, hv8, hz8⟩
  replace hbd := hbd.trans (hz8.mono hbd.size)
  refine hK.out _ _ ?_ (fun hHeld => ?_)
  · exact hz8
  clear hK K
  try simp only [Act.put, List.setIfInBounds_toArray, List.set_cons_zero, List.set_cons_succ]
  refine heldMoreR (S2 := (fun W => Below z8.heap.size z8 W)) (fun W h => hz8.trans (h.mono hz8.size)) _ _ _ _ ?_
  replace hHeld : (fun W => Below z8.heap.size z8 W) z8 := Below.refl _ _
  have hs8 := hv8.sl z8.heap.size (.inr (Nat.le_refl _))
  refine wpAnyH_take (i := 29) (oi := ⟨some 77, _, _, _, _, _⟩) (v := ?_) rfl (by kernel_rfl) (by kernel_rfl) (by kernel_rfl) (fun _ _ _ h => h) (Or.inl ⟨by rfl, ?_⟩) hHeld ?_
  rotate_left
  · (intro wx hSw; have hq := run_str (hs8.below hSw); (try dsimp only at hSw); go_simp; try with_reducible rfl)
  try simp only [Act.put, List.setIfInBounds_toArray, List.set_cons_zero, List.set_cons_succ]
  clear hs7 hs8 hv7 hv8
  refine wpAnyH_take (i := 30) (oi := ⟨some 78, _, _, _, _, _⟩) (v := ?_) rfl (by kernel_rfl) (by kernel_rfl) (by kernel_rfl) (fun _ _ _ h => h) (Or.inl ⟨by rfl, ?_⟩) hHeld ?_
  rotate_left
  · (intro wx hSw; (try dsimp only at hSw); go_simp; try with_reducible rfl)
  try simp only [Act.put, List.setIfInBounds_toArray, List.set_cons_zero, List.set_cons_succ]
  refine wpAnyH_take (i := 31) (oi := ⟨some 79, _, _, _, _, _⟩) (v := ?_) rfl (by kernel_rfl) (by kernel_rfl) (by kernel_rfl) (fun _ _ _ h => h) (Or.inl ⟨by rfl, ?_⟩) hHeld ?_
  rotate_left
  · (intro wx hSw; (try dsimp only at hSw); go_simp; try with_reducible rfl)
  try simp only [Act.put, List.setIfInBounds_toArray, List.set_cons_zero, List.set_cons_succ]
  refine wpAnyH_take (i := 32) (oi := ⟨some 80, _, _, _, _, _⟩) (v := ?_) rfl (by kernel_rfl) (by kernel_rfl) (by kernel_rfl) (fun _ _ _ h => h) (Or.inl ⟨by rfl, ?_⟩) hHeld ?_
  rotate_left
  · (intro wx hSw; (try dsimp only at hSw); go_simp; try with_reducible rfl)
  try simp only [Act.put, List.setIfInBounds_toArray, List.set_cons_zero, List.set_cons_succ]
  refine wpAnyH_take (i := 33) (oi := ⟨some 81, _, _, _, _, _⟩) (v := ?_) rfl (by kernel_rfl) (by kernel_rfl) (by kernel_rfl) (fun _ _ _ h => h) (Or.inl ⟨by rfl, ?_⟩) hHeld ?_
  rotate_left
  · (intro wx hSw; have hq := HC.out wx (hbd.trans (hSw.mono hbd.size)); (try dsimp only at hSw); go_simp; try with_reducible rfl)
  try simp only [Act.put, List.setIfInBounds_toArray, List.set_cons_zero, List.set_cons_succ]
  refine wpAnyH_take (i := 36) (oi := ⟨some 84, _, _, _, _, _⟩) (v := ?_) rfl (by kernel_rfl) (by kernel_rfl) (by kernel_rfl) (fun _ _ _ h => h) (Or.inl ⟨by rfl, ?_⟩) hHeld ?_
  rotate_left
  · (intro wx hSw; have hq := HC.out wx (hbd.trans (hSw.mono hbd.size)); (try dsimp only at hSw); go_simp; try with_reducible rfl)
  try simp only [Act.put, List.setIfInBounds_toArray, List.set_cons_zero, List.set_cons_succ]
  refine wpAnyH_ready (rs := [34]) (by kernel_rfl) (by simp) (AllReadyH.cons (o := ⟨some 82, _, _, _, _, _⟩) rfl (fun K hK => ?_) AllReadyH.nil)
  go_simp
  refine (HEC.out _ hbd).mono ?_
  rintro e z9 ⟨v9, rfl, hv9, hz9⟩
  replace hbd := hbd.trans (hz9.mono hbd.size)
  refine hK.out _ _ ?_ (fun hHeld => ?_)
  · exact hz9
  clear hK K
  try simp only [Act.put, List.setIfInBounds_toArray, List.set_cons_zero, List.set_cons_succ]
  refine heldMoreR (S2 := (fun W => Below z9.heap.size z9 W)) (fun W h => hz9.trans (h.mono hz9.size)) _ _ _ _ ?_
  replace hHeld : (fun W => Below z9.heap.size z9 W) z9 := Below.refl _ _
  have hs9 := hv9.sl z9.heap.size (.inr (Nat.le_refl _))
  refine wpAnyH_take (i := 35) (oi := ⟨some 83, _, _, _, _, _⟩) (v := ?_) rfl (by kernel_rfl) (by kernel_rfl) (by kernel_rfl) (fun _ _ _ h => h) (Or.inl ⟨by rfl, ?_⟩) hHeld ?_
  rotate_left
  · (intro wx hSw; have hq := run_str (hs9.below hSw); (try dsimp only at hSw); go_simp; try with_reducible rfl)
  try simp only [Act.put, List.setIfInBounds_toArray, List.set_cons_zero, List.set_cons_succ]
  refine wpAnyH_ready (rs := [37]) (by kernel_rfl) (by simp) (AllReadyH.cons (o := ⟨some 85, _, _, _, _, _⟩) rfl (fun K hK => ?_) AllReadyH.nil)
  go_simp
  refine (HED.out _ hbd).mono ?_
  rintro e z10 ⟨v10, rfl, hv10, hz10⟩
  replace hbd := hbd.trans (hz10.mono hbd.size)
  refine hK.out _ _ ?_ (fun hHeld => ?_)
  · exact hz10
  clear hK K
  try simp only [Act.put, List.setIfInBounds_toArray, List.set_cons_zero, List.set_cons_succ]
  refine heldMoreR (S2 := (fun W => Below z10.heap.size z10 W)) (fun W h => hz10.trans (h.mono hz10.size)) _ _ _ _ ?_
  replace hHeld : (fun W => Below z10.heap.size z10 W) z10 := Below.refl _ _
  have hs10 := hv10.sl z10.heap.size (.inr (Nat.le_refl _))
  refine wpAnyH_take (i := 38) (oi := ⟨some 86, _, _, _, _, _⟩) (v := ?_) rfl (by kernel_rfl) (by kernel_rfl) (by kernel_rfl) (fun _ _ _ h => h) (Or.inl ⟨by rfl, ?_⟩) hHeld ?_
  rotate_left
  · (intro wx hSw; have hq := run_str (hs10.below hSw); (try dsimp only at hSw); go_simp; try with_reducible rfl)
  try simp only [Act.put, List.setIfInBounds_toArray, List.set_cons_zero, List.set_cons_succ]
  clear hs9 hs10 hv9 hv10
  refine wpAnyH_take (i := 39) (oi := ⟨some 87, _, _, _, _, _⟩) (v := ?_) rfl (by kernel_rfl) (by kernel_rfl) (by kernel_rfl) (fun _ _ _ h => h) (Or.inl ⟨by rfl, ?_⟩) hHeld ?_
  rotate_left
  · (intro wx hSw; (try dsimp only at hSw); go_simp; try with_reducible rfl)
  try simp only [Act.put, List.setIfInBounds_toArray, List.set_cons_zero, List.set_cons_succ]
  refine wpAnyH_take (i := 40) (oi := ⟨some 88, _, _, _, _, _⟩) (v := ?_) rfl (by kernel_rfl) (by kernel_rfl) (by kernel_rfl) (fun _ _ _ h => h) (Or.inl ⟨by rfl, ?_⟩) hHeld ?_
  rotate_left
  · (intro wx hSw; (try dsimp only at hSw); go_simp; try with_reducible rfl)
  try simp only [Act.put, List.setIfInBounds_toArray, List.set_cons_zero, List.set_cons_succ]
  refine wpAnyH_take (i := 41) (oi := ⟨some 89, _, _, _, _, _⟩) (v := ?_) rfl (by kernel_rfl) (by kernel_rfl) (by kernel_rfl) (fun _ _ _ h => h) (Or.inl ⟨by rfl, ?_⟩) hHeld ?_
  rotate_left
  · (intro wx hSw; (try dsimp only at hSw); go_simp; try with_reducible rfl)
  try simp only [Act.put, List.setIfInBounds_toArray, List.set_cons_zero, List.set_cons_succ]
  refine wpAnyH_take (i := 42) (oi := ⟨some 90, _, _, _, _, _⟩) (v := ?_) rfl (by kernel_rfl) (by kernel_rfl) (by kernel_rfl) (fun _ _ _ h => h) (Or.inl ⟨by rfl, ?_⟩) hHeld ?_
  rotate_left
  · (intro wx hSw; have hq := HC.out wx (hbd.trans (hSw.mono hbd.size)); (try dsimp only at hSw); go_simp; try with_reducible rfl)
  try simp only [Act.put, List.setIfInBounds_toArray, List.set_cons_zero, List.set_cons_succ]
  refine wpAnyH_take (i := 43) (oi := ⟨some 91, _, _, _, _, _⟩) (v := ?_) rfl (by kernel_rfl) (by kernel_rfl) (by kernel_rfl) (fun _ _ _ h => h) (Or.inl ⟨by rfl, ?_⟩) hHeld ?_
  rotate_left
  · (intro wx hSw; have hq := HC.out wx (hbd.trans (hSw.mono hbd.size)); (try dsimp only at hSw); go_simp; try with_reducible rfl)
  try simp only [Act.put, List.setIfInBounds_toArray, List.set_cons_zero, List.set_cons_succ]
  refine wpAnyH_take (i := 45) (oi := ⟨some 93, _, _, _, _, _⟩) (v := ?_) rfl (by kernel_rfl) (by kernel_rfl) (by kernel_rfl) (fun _ _ _ h => h) (Or.inl ⟨by rfl, ?_⟩) hHeld ?_
  rotate_left
  · (intro wx hSw; have hq := HC.out wx (hbd.trans (hSw.mono hbd.size)); (try dsimp only at hSw); go_simp; try with_reducible rfl)
  try simp only [Act.put, List.setIfInBounds_toArray, List.set_cons_zero, List.set_cons_succ]
  refine wpAnyH_take (i := 46) (oi := ⟨some 94, _, _, _, _, _⟩) (v := ?_) rfl (by kernel_rfl) (by kernel_rfl) (by kernel_rfl) (fun _ _ _ h => h) (Or.inl ⟨by rfl, ?_⟩) hHeld ?_
  rotate_left
  · (intro wx hSw; have hq := HC.out wx (hbd.trans (hSw.mono hbd.size)); (try dsimp only at hSw); go_simp; try with_reducible rfl)
  try simp only [Act.put, List.setIfInBounds_toArray, List.set_cons_zero, List.set_cons_succ]
  refine wpAnyH_ready (rs := [44]) (by kernel_rfl) (by simp) (AllReadyH.cons (o := ⟨some 92, _, _, _, _, _⟩) rfl (fun K hK => ?_) AllReadyH.nil)
  go_simp
  refine (HSA.out _ hbd).mono ?_
  rintro e z11 ⟨rfl, hz11⟩
  replace hbd := hbd.trans (hz11.mono hbd.size)
  refine hK.out _ _ ?_ (fun hHeld => ?_)
  · exact hz11
  clear hK K
  try simp only [Act.put, List.setIfInBounds_toArray, List.set_cons_zero, List.set_cons_succ]
  refine heldMoreR (S2 := (fun W => Below z11.heap.size z11 W)) (fun W h => hz11.trans (h.mono hz11.size)) _ _ _ _ ?_
  replace hHeld : (fun W => Below z11.heap.size z11 W) z11 := Below.refl _ _
  refine wpAnyH_ready (rs := [47]) (by kernel_rfl) (by simp) (AllReadyH.cons (o := ⟨some 95, _, _, _, _, _⟩) rfl (fun K hK => ?_) AllReadyH.nil)
  go_simp
  refine (HSB.out _ hbd).mono ?_
  rintro e z12 ⟨rfl, hz12⟩
  replace hbd := hbd.trans (hz12.mono hbd.size)
  refine hK.out _ _ ?_ (fun hHeld => ?_)
  · exact hz12
  clear hK K
  try simp only [Act.put, List.setIfInBounds_toArray, List.set_cons_zero, List.set_cons_succ]
  refine heldMoreR (S2 := (fun W => Below z12.heap.size z12 W)) (fun W h => hz12.trans (h.mono hz12.size)) _ _ _ _ ?_
  replace hHeld : (fun W => Below z12.heap.size z12 W) z12 := Below.refl _ _
  refine wpAnyH_take (i := 48) (oi := ⟨some 96, _, _, _, _, _⟩) (v := ?_) rfl (by kernel_rfl) (by kernel_rfl) (by kernel_rfl) (fun _ _ _ h => h) (Or.inl ⟨by rfl, ?_⟩) hHeld ?_
  rotate_left
  · (intro wx hSw; (try dsimp only at hSw); go_simp; try with_reducible rfl)
  try simp only [Act.put, List.setIfInBounds_toArray, List.set_cons_zero, List.set_cons_succ]
  refine wpAnyH_take (i := 49) (oi := ⟨some 97, _, _, _, _, _⟩) (v := ?_) rfl (by kernel_rfl) (by kernel_rfl) (by kernel_rfl) (fun _ _ _ h => h) (Or.inl ⟨by rfl, ?_⟩) hHeld ?_
  rotate_left
  · (intro wx hSw; (try dsimp only at hSw); go_simp; try with_reducible rfl)
  try simp only [Act.put, List.setIfInBounds_toArray, List.set_cons_zero, List.set_cons_succ]
  refine wpAnyH_take (i := 50) (oi := ⟨some 98, _, _, _, _, _⟩) (v := ?_) rfl (by kernel_rfl) (by kernel_rfl) (by kernel_rfl) (fun _ _ _ h => h) (Or.inl ⟨by rfl, ?_⟩) hHeld ?_
  rotate_left
  · (intro wx hSw; (try dsimp only at hSw); go_simp; try with_reducible rfl)
  try simp only [Act.put, List.setIfInBounds_toArray, List.set_cons_zero, List.set_cons_succ]
  refine wpAnyH_take (i := 51) (oi := ⟨some 99, _, _, _, _, _⟩) (v := ?_) rfl (by kernel_rfl) (by kernel_rfl) (by kernel_rfl) (fun _ _ _ h => h) (Or.inl ⟨by rfl, ?_⟩) hHeld ?_
  rotate_left
  · (intro wx hSw; have hq := HC.out wx (hbd.trans (hSw.mono hbd.size)); (try dsimp only at hSw); go_simp; try with_reducible rfl)
  try simp only [Act.put, List.setIfInBounds_toArray, List.set_cons_zero, List.set_cons_succ]
  refine wpAnyH_ready (rs := [52]) (by kernel_rfl) (by simp) (AllReadyH.cons (o := ⟨some 100, _, _, _, _, _⟩) rfl (fun K hK => ?_) AllReadyH.nil)
  go_simp
  refine (HMC.out _ hbd).mono ?_
  rintro e z13 ⟨rfl, hz13⟩
  replace hbd := hbd.trans (hz13.mono hbd.size)
  refine hK.out _ _ ?_ (fun hHeld => ?_)
  · exact hz13
  clear hK K
  try simp only [Act.put, List.setIfInBounds_toArray, List.set_cons_zero, List.set_cons_succ]
  refine heldMoreR (S2 := (fun W => Below z13.heap.size z13 W)) (fun W h => hz13.trans (h.mono hz13.size)) _ _ _ _ ?_
  replace hHeld : (fun W => Below z13.heap.size z13 W) z13 := Below.refl _ _
  refine wpAnyH_take (i := 53) (oi := ⟨some 101, _, _, _, _, _⟩) (v := ?_) rfl (by kernel_rfl) (by kernel_rfl) (by kernel_rfl) (fun _ _ _ h => h) (Or.inl ⟨by rfl, ?_⟩) hHeld ?_
  rotate_left
  · (intro wx hSw; (try dsimp only at hSw); go_simp; try with_reducible rfl)
  try simp only [Act.put, List.setIfInBounds_toArray, List.set_cons_zero, List.set_cons_succ]
  refine wpAnyH_take (i := 54) (oi := ⟨some 102, _, _, _, _, _⟩) (v := ?_) rfl (by kernel_rfl) (by kernel_rfl) (by kernel_rfl) (fun _ _ _ h => h) (Or.inl ⟨by rfl, ?_⟩) hHeld ?_
  rotate_left
  · (intro wx hSw; (try dsimp only at hSw); go_simp; try with_reducible rfl)
  try simp only [Act.put, List.setIfInBounds_toArray, List.set_cons_zero, List.set_cons_succ]
  refine wpAnyH_done (by kernel_rfl) ?_ _
  refine NoPanic.normal ?_
  clear HMA HMB HMC HEA HEB HEC HED HSA HSB HYA HYC hHeld
  obtain ⟨_, _, _, _, e4, e5, e6, e7⟩ := HC.out _ hbd
  go_wp2_with fail
  refine (HYD.out _ hbd).mono ?_
  rintro e z14 ⟨v14, rfl, hv14, hz14⟩
  replace hbd := hbd.trans (hz14.mono hbd.size)
  have hz314 := hbd.size
  clear e4 e5 e6 e7
  obtain ⟨Ax, cx, rfl⟩ := hv14.slice
  obtain ⟨i0, hi, hz0, hz1, hz2⟩ := info_parts infoByte
  obtain ⟨LU, hLU⟩ : ∃ L, bytesOf u = L := ⟨_, rfl⟩
  rw [hLU] at hv14 HLENU HPOSU ⊢
  have HBYU : Kp (Bys LU) := ⟨by rw [← hLU]; exact bytesOf_bys (HTB.out W3 (Below.refl _ _)).bys⟩
  have HLU := Kp.mk hLU
  obtain ⟨NU, hNU⟩ : ∃ N, LU.length = N := ⟨_, rfl⟩
  have HNU := Kp.mk hNU
  have HXR : Kp (Rb z14 (.slice Ax NU cx) LU) := ⟨by have h := hv14.rb HBYU.out; rw [hNU] at h; exact h⟩
  have hsx := hv14.sl z14.heap.size (.inr (Nat.le_refl _))
  rw [hNU] at hsx ⊢
  clear hLU hNU hz14
  go_wp2_with (at_builtin; refine wpList_append_bytes rfl (.tmp 105) (.tmp 106) 27 rfl z14.heap.size 5 i0 Try.underlying27 hi hz0 hz1 hz2 _ [] rfl (own_empty z14 _) z14.heap.size _ LU rfl ?d1 ?d2 ?d3 ?_)
  case d1 => exact hsx.below ((Below.refl _ _).alloc (Nat.le_refl _) _)
  case d2 => have := HLENU.out; simp; omega
  case d3 => simp
  intro v15 z15 ho15 hg15
  have hlo15 : Below z14.heap.size z14 z15 := ((Below.refl z14.heap.size z14).alloc (Nat.le_refl _) (.cells #[] 5)).grown hg15 (by simp) (by simp [Value.ownBlock])
  replace hbd := hbd.trans (hlo15.mono hbd.size)
  have HLO := Kp.mk hlo15
  clear hg15 hlo15 hsx hv14
  rcases ho15.form with ⟨rfl, h0⟩ | ⟨gu, cu, cur, rfl, hgu, hxu, hcu, hmu, hsu, htu⟩
  · exfalso
    subst h0
    have := HPOSU.out
    simp at this
  rw [HNU.out]
  have hpos : (0 : Int) < (NU : Int) := by have := HPOSU.out; have := HNU.out; omega
  have hand : bits BinOp.and IntKind.i64 at_ 65535 = at_ % 65536 := and_mask at_ 16 (by omega)
  go_upto_region 9 with fail
  have hk0 : 0 ≤ at_ % 65536 % (NU : Int) := Int.emod_nonneg _ (by omega)
  have hk1 : at_ % 65536 % (NU : Int) < (NU : Int) := Int.emod_lt_of_pos _ hpos
  obtain ⟨k, hk⟩ : ∃ k : Nat, at_ % 65536 % (NU : Int) = (k : Int) := ⟨(at_ % 65536 % (NU : Int)).toNat, by omega⟩
  rw [hk] at hk0 hk1 ⊢
  have hkl : k < NU := by omega
  have hks : k < cur.size := by rw [hsu]; rw [HNU.out] at hcu; omega
  have fw := hxu.warm k
  have fc : z15.cell? ⟨gu, k, none⟩ = some cur[k] := by rw [hxu.cell]; exact Array.getElem?_eq_getElem hks
  clear hand hpos
  go_upto_region 10 with fail
  clear fw fc hk0 hk1
  have HOS := own_set ho15 k by_
  rw [HNU.out] at HOS
  obtain ⟨z16, hz16⟩ : ∃ W, z15.setCell ⟨gu, k, none⟩ (.int .u8 by_) = W := ⟨_, rfl⟩
  have h1416 : Below z14.heap.size z14 z16 := by rw [← hz16]; exact Only.below HLO.out (Only.set (Only.refl gu z15) k _) hgu
  have h316 : Below W3.heap.size W3 z16 := by rw [← hz16]; exact Only.below hbd (Only.set (Only.refl gu z15) k _) (Nat.le_trans hz314 hgu)
  rw [hz16] at HOS ⊢
  have HWZ : Kp (Below w.heap.size w z16) := ⟨HB3.out.trans (h316.mono HB3.out.size)⟩
  have r0 : Kp (Rb z16 (.slice Ab NB cb) lb) := ⟨HBV.out.below HWZ.out⟩
  have r1 : Kp (Rb z16 (.slice Ax NU cx) LU) := ⟨HXR.out.below h1416⟩
  have r2 : Kp (Rb z16 (.slice (some ⟨gu, 0, none⟩) NU cu) (LU.set k by_)) := ⟨HOS.rb (fun x hx => by
    rcases List.mem_or_eq_of_mem_set hx with hx | rfl
    · exact HBYU.out x hx
    · exact HBYT.out)⟩
  have hcx : NU ≤ cx := by
    obtain ⟨⟨A', c', e, hc, _⟩, _⟩ := r1.out
    injection e with _ e2 e3
    omega
  have r3 : Kp (Rb z16 (.slice Ax k cx) (LU.take k)) := ⟨by
    obtain ⟨h1, h2, h3⟩ := r1.out
    rw [← HNU.out] at h1
    refine ⟨sl_take h1 k (by rw [HNU.out]; omega), h2.take k, ?_⟩
    rw [List.length_take]
    exact Nat.le_trans (Nat.min_le_right _ _) h3⟩
  have HBT : Kp (Bys (bytesOf t)) := ⟨bytesOf_bys (HTA.out W3 (Below.refl _ _)).bys⟩
  have HLT : Kp ((bytesOf t).length ≤ 400000) := ⟨by
    by_cases hm : mayB t = true
    · exact bytesOf_len ((mayB_iff t).1 hm) (fun d hd => ((HTA.out W3 (Below.refl _ _)).fit.ins d hd).plen)
    · unfold bytesOf
      rw [if_neg hm]
      simp⟩
  have HC16 : Kp (∀ W : World, Below z16.heap.size z16 W → W.cell? ⟨w.heap.size, 0, none⟩ = some (.int .u32 (t.version : Int)) ∧ W.cell? ⟨w.heap.size, 1, none⟩ = some (.slice Ai NI ci) ∧ W.cell? ⟨w.heap.size, 2, none⟩ = some (.slice Ao NO co) ∧ W.cell? ⟨w.heap.size, 3, none⟩ = some (.int .u32 (t.lock : Int))) := ⟨fun W hW => by
    obtain ⟨e0, e1, e2, e3, _⟩ := HC.out W (h316.trans (hW.mono h316.size))
    exact ⟨e0, e1, e2, e3⟩⟩
  have HYB16 : Kp (∀ W, Below z16.heap.size z16 W → Calls Try.prog 9 #[.agg #[.int .u32 (t.version : Int), .slice Ai NI ci, .slice Ao NO co, .int .u32 (t.lock : Int)]] W (NewBytes (bytesOf t) W)) := ⟨fun W hW => HYB.out W (h316.trans (hW.mono h316.size))⟩
  have HK : Kp (k ≤ cx) := ⟨by omega⟩
  have HLL : Kp (LU.length ≤ 140737488354000) := ⟨by have := HLENU.out; omega⟩
  have HLB := Kp.mk (show lb.length ≤ 400 from HNB.out ▸ HN400.out)
  clear HOS h1416 h316 hz16 hbd hz314 hcx hkl hks hgu hxu hcu hmu hsu htu ho15 HXR HLO HC HYB HYD HTA HTB HB3
  refine tells_six Ab Ax Ai Ao gu w.heap.size NB NU NI NO k cb cx cu ci co by_ t lb LU (LU.set k by_) (bytesOf t) z16 _ _ _ _ _ _ _ _ _ _ _ _ _ _ _ _ _ _ _ _ _ _ _ _ _ _ _ _ _ _ _ _ _ _ _ _ _ _ _ _ _ _ _ _ _ _ _ _ _ _ _ _ _ _ _ _ _ _ _ _ _ _ _ _ _ _ _ _ _ _ _ _ _ _ _ _ _ _ _ _ _ _ _ _ _ _ _ _ _ _ _ _ _ _ _ _ _ _ _ _ _ _ _ _ _ _ _ _ _ _ _ _ _ _ _ _ _ _ _ _ _ _ _ _ _ _ _ _ _ _ _ _ _ _ _ _ _ _ _ _ _ _ _ _ _ _ _ _ _ _ _ _ _ _ _ _ _ _ _ _ _ _ _ _ _ _ _ _ _ _ _ _ _ _ _ _ _ _ _ _ _ _ _ _ _ _ _ _ _ _ _ _ _ _ _ _ _ _ _ _ r0 r1 r2 r3 HK HLL HBYT HBT HC16 HYB16 ?_
  intro v117 v118 v119 v120 v121 v122 v123 v124 v125 v126 v127 v128 v129 v130 g w17 HR HB17
  clear r0 r1 r2 r3 HC16 HYB16 HK HBT
  have HZ : Kp (∀ l ∈ [lb, LU, LU.set k by_, LU.take k, LU ++ [by_], bytesOf t], l.length ≤ 140737488354000) := ⟨by
    have h1 := HLB.out
    have h2 := HLENU.out
    have h3 := HLT.out
    intro l hl
    simp only [List.mem_cons, List.not_mem_nil, or_false] at hl
    rcases hl with rfl | rfl | rfl | rfl | rfl | rfl
    · omega
    · omega
    · rw [List.length_set]; omega
    · rw [List.length_take]; omega
    · rw [List.length_append]; simp; omega
    · omega⟩
  have HLS : Kp ([lb, LU, LU.set k by_, LU.take k, LU ++ [by_], bytesOf t].length = 6) := ⟨rfl⟩
  have HW17 : Kp (Below w.heap.size w w17) := ⟨HWZ.out.trans (HB17.out.mono HWZ.out.size)⟩
  clear HB17 HWZ HLB HLT
  generalize [lb, LU, LU.set k by_, LU.take k, LU ++ [by_], bytesOf t] = ll at *
  have HAW : Kp (∀ W, Calls Try.prog 4 #[] W (YesPost W)) := ⟨awake3_any⟩
  go_wp2_with fail
  refine tells_loop (some ⟨g, 0, none⟩) 6 w17 ll _ _ _ _ _ _ _ _ _ _ _ _ _ _ _ _ _ _ _ _ _ _ _ _ _ _ _ _ _ _ _ _ _ _ _ _ _ _ _ _ _ _ _ _ _ _ _ _ _ _ _ _ _ _ _ _ _ _ _ _ _ _ _ _ _ _ _ _ _ _ _ _ _ _ _ _ _ _ _ _ _ _ _ _ _ _ _ _ _ _ _ _ _ _ _ _ _ _ _ _ _ _ _ _ _ _ _ _ _ _ _ _ _ _ _ _ _ _ _ _ _ _ _ _ _ _ _ _ _ _ _ _ _ _ _ _ _ _ _ _ _ _ _ _ _ _ _ _ _ _ _ _ _ _ _ _ _ _ _ _ _ _ _ _ _ _ _ _ _ _ _ _ _ _ _ _ _ _ _ _ _ _ _ _ _ _ _ _ _ _ _ _ _ _ _ _ _ _ _ _ _ _ _ HR HLS HZ ?_
  intro t12 t18 t19 t20 t21 t22 t23 t24 t25 t26 t27 t28 t133 t134 t135 t136 t137 t138 t139 t140 t141 t142 t143 t144 t145 t146 t147 t148 t149 t150 t151 t152 t153 t154 t155 t156 t157 t158 t159 t160 t161 t162 t163 t164 t165 t166 t167 t168 t169 t170 t171 t172 t173 t174 t175 t176 t177 t178 t179 t180 t181 t182 t183 t184 t185 t186 t187 t188 t189 t190 t191 t192 t193 t194 t195 t196 t197 t198 t199 t200 t201 t202 t203 w18 HB18
  go_wp2_with fail
  refine (HAW.out _).mono ?_
  rintro e w19 ⟨rfl, hb19⟩
  have HE : Kp (Below w.heap.size w w19) := ⟨by
    have h := HW17.out.trans (HB18.out.mono HW17.out.size)
    exact h.trans (hb19.mono h.size)⟩
  go_wp2
  go_ret
  exact ⟨rfl, HE.out⟩


set_option maxRecDepth 1000000 in
set_option maxHeartbeats 4000000 in
theorem tells_long (v bv : Value) (t : TxD) (lb : List Int) (n m at_ by_ : Int) (w : World) (h : TxR w v t) (hb : Sl w w.heap.size bv lb) (hl : 400 < lb.length ∨ 60 < t.ins.length ∨ 60 < t.outs.length) :
    Calls Try.prog 3 #[v, .int .i64 n, .int .i64 m, bv, .int .i64 at_, .int .u8 by_] w (YesPost w) := by
  obtain ⟨iv, ov, rfl, _, _, hi, ho⟩ := h
  obtain ⟨Ai, ci, rfl, _⟩ := hi.slice
  obtain ⟨Ao, co, rfl, _⟩ := ho.slice
  obtain ⟨Ab, cb, rfl, _⟩ := hb
  obtain ⟨NI, hNI⟩ : ∃ N, t.ins.length = N := ⟨_, rfl⟩
  obtain ⟨NO, hNO⟩ : ∃ N, t.outs.length = N := ⟨_, rfl⟩
  obtain ⟨NB, hNB⟩ : ∃ N, lb.length = N := ⟨_, rfl⟩
  rw [hNI] at hl ⊢
  rw [hNO] at hl ⊢
  rw [hNB] at hl ⊢
  have hb : Below w.heap.size w (w.alloc (.cells #[.int .u32 t.version, .slice Ai NI ci, .slice Ao NO co, .int .u32 t.lock] 26)) := (Below.refl _ _).alloc (Nat.le_refl _) _
  have HB := Kp.mk hb
  clear hb hi ho hNI hNO hNB
  by_cases h0 : 400 < NB
  · have g0 : decide (400 < (NB : Int)) = true := by simp; omega
    clear h0
    clear hl
    go_enter Try.func3, Try.ntmps3
    go_wp2_with fail
    refine (awake3_any _).mono ?_
    rintro e w1 ⟨rfl, hb1⟩
    go_wp2
    go_ret
    exact ⟨rfl, HB.out.trans (hb1.mono HB.out.size)⟩
  · have g0 : decide (400 < (NB : Int)) = false := by simp; omega
    by_cases h1 : 60 < NI
    · have g1 : decide (60 < (NI : Int)) = true := by simp; omega
      clear h0 h1
      clear hl
      go_enter Try.func3, Try.ntmps3
      go_wp2_with fail
      refine (awake3_any _).mono ?_
      rintro e w1 ⟨rfl, hb1⟩
      go_wp2
      go_ret
      exact ⟨rfl, HB.out.trans (hb1.mono HB.out.size)⟩
    · have g1 : decide (60 < (NI : Int)) = false := by simp; omega
      have g2 : decide (60 < (NO : Int)) = true := by simp; omega
      clear h0 h1
      clear hl
      go_enter Try.func3, Try.ntmps3
      go_wp2_with fail
      refine (awake3_any _).mono ?_
      rintro e w1 ⟨rfl, hb1⟩
      go_wp2
      go_ret
      exact ⟨rfl, HB.out.trans (hb1.mono HB.out.size)⟩
end Go.Proofs.Ytojeonepplfhlaa
