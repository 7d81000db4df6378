/- A transaction is read as it was told, and stands behind each other one; without its witnesses it has the bytes of its base: for every four ints, the law TxnsBack returns true and leaves its arguments as they were. No further condition. -/
import Derived.Test.YthkjhfdafjlllaaAwC
import Derived.Test.YthkjhfdafjlllaaSmB
import Derived.Test.YthkjhfdafjlllaaBkC
import Derived.Test.YthkjhfdafjlllaaClose
namespace Go.Proofs.Ythkjhfdafjlllaa.lawBk
open Go.ChangeShapes Go.WideShapes Go.ChangeAt Go.RowKit

/-- More may be held from here on. -/
theorem heldMore {P : Program} {md : Region.Mode} {ops : Array Oper} {Q : Exit → Act → World → Prop} {S S2 : World → Prop} (hS : ∀ w, S2 w → S w) :
    ∀ (fuel : Nat) (listed : Array Bool) (a : Act) (w : World), wpAnyH P md ops Q S2 fuel listed a w → wpAnyH P md ops Q S fuel listed a w
  | 0, _, _, _, h => h
  | fuel + 1, _, _, _, h => ⟨h.1, fun i hi => wpOp_mono (fun _ _ h' => ⟨hS _ h'.1, heldMore hS fuel _ _ _ h'.2⟩) (h.2 i hi)⟩

set_option linter.unusedSimpArgs false in
set_option maxRecDepth 10000000 in
set_option maxHeartbeats 8000000 in
theorem walk (n m k l : Int) (hn : -9223372036854775808 ≤ n ∧ n ≤ 9223372036854775807) (hm : -9223372036854775808 ≤ m ∧ m ≤ 9223372036854775807) (hk : -9223372036854775808 ≤ k ∧ k ≤ 9223372036854775807) (hl : -9223372036854775808 ≤ l ∧ l ≤ 9223372036854775807) (w : World) :
    Calls Try.prog 7 #[.int .i64 n, .int .i64 m, .int .i64 k, .int .i64 l] w (YesPost w) := by
  have HTXA : Kp (∀ W : World, Calls Try.prog 15 #[.int .i64 n, .int .i64 m] W (TxP (txOf n m) W)) := ⟨fun W => lawTx_any W n m hn hm⟩
  have HBOA : Kp (∀ (W : World) (v : Value), TxR W v (txOf n m) → Calls Try.prog 10 #[v] W (App W.heap.size (bytesOf (txOf n m)) W)) := ⟨fun W v h => bytes_any W v _ h⟩
  have HLENA := Kp.mk (txOf_len n m)
  have HPOSA := Kp.mk (txOf_pos n m)
  have HBYA := Kp.mk (bytesOf_bys (txOf_bys n m))
  have HMAYA := Kp.mk (txOf_may n m)
  have HFITA := Kp.mk (txOf_fit n m)
  have HTXB : Kp (∀ W : World, Calls Try.prog 15 #[.int .i64 k, .int .i64 l] W (TxP (txOf k l) W)) := ⟨fun W => lawTx_any W k l hk hl⟩
  have HBOB : Kp (∀ (W : World) (v : Value), TxR W v (txOf k l) → Calls Try.prog 10 #[v] W (App W.heap.size (bytesOf (txOf k l)) W)) := ⟨fun W v h => bytes_any W v _ h⟩
  have HLENB := Kp.mk (txOf_len k l)
  have HPOSB := Kp.mk (txOf_pos k l)
  have HBYB := Kp.mk (bytesOf_bys (txOf_bys k l))
  have HMAYB := Kp.mk (txOf_may k l)
  have HFITB := Kp.mk (txOf_fit k l)
  have HI0 : Kp (0 < (txOf n m).ins.length ∧ (txOf n m).ins.length ≤ 4) := ⟨by have := txOf_lens n m; omega, by have := txOf_lens n m; omega⟩
  have HAW : Kp (∀ W : World, Calls Try.prog 14 #[] W (YesPost W)) := ⟨awake3_any⟩
  have HBYS := Kp.mk (baseOf_bys (txOf_bys n m))
  generalize txOf n m = TA at *
  generalize txOf k l = TB at *
  have HRA : Kp (pRead (bytesOf TA ++ bytesOf TB) false = ((TA, true), bytesOf TB, false)) := ⟨pRead_back TA _ HMAYA.out HFITA.out⟩
  have HRB : Kp (pRead (bytesOf TB) false = ((TB, true), [], false)) := ⟨by have := pRead_back TB [] HMAYB.out HFITB.out; rw [List.append_nil] at this; exact this⟩
  have HSAME := Kp.mk (bytes_same HMAYA.out HMAYB.out HFITA.out HFITB.out)
  have HSTRIP := Kp.mk (stripT_bytes HMAYA.out)
  have HBASE := Kp.mk (bytes_base HMAYA.out)
  have HBSA : Kp (∀ (W : World) (v : Value), TxR W v TA → Calls Try.prog 13 #[v] W (App W.heap.size (baseOf TA) W)) := ⟨fun W v h => base_any W v _ h⟩
  have HBOS : Kp (∀ (W : World) (v : Value), TxR W v (stripT TA) → Calls Try.prog 10 #[v] W (App W.heap.size (bytesOf (stripT TA)) W)) := ⟨fun W v h => bytes_any W v _ h⟩
  rw [HSTRIP.out] at HBOS
  generalize bytesOf TA = LA at *
  generalize bytesOf TB = LB at *
  generalize baseOf TA = LS at *
  clear hn hm hk hl
  go_enter Try.func7, Try.ntmps7
  go_wp2_with fail
  refine (HTXA.out w).mono ?_
  rintro e w1 ⟨v1, rfl, hT1, hb1⟩
  obtain ⟨iv, ov, rfl, _, _, hi1, ho1⟩ := id hT1
  obtain ⟨Aia, cia, rfl⟩ := hi1.slice
  obtain ⟨Aoa, coa, rfl⟩ := ho1.slice
  have HTA1 := Kp.mk hT1.txR
  have HB1 := Kp.mk hb1
  clear hT1 hb1 hi1 ho1
  go_wp2_with fail
  refine (HTXB.out w1).mono ?_
  rintro e w2 ⟨v2, rfl, hT2, hb2⟩
  obtain ⟨iv, ov, rfl, _, _, hi2, ho2⟩ := id hT2
  obtain ⟨Aib, cib, rfl⟩ := hi2.slice
  obtain ⟨Aob, cob, rfl⟩ := ho2.slice
  have hba : Below w2.heap.size w2 ((w2.alloc (.cells #[.int .u32 TA.version, .slice Aia TA.ins.length cia, .slice Aoa TA.outs.length coa, .int .u32 TA.lock] 26)).alloc (.cells #[.int .u32 TB.version, .slice Aib TB.ins.length cib, .slice Aob TB.outs.length cob, .int .u32 TB.lock] 26)) := ((Below.refl _ _).alloc (Nat.le_refl _) _).alloc (by simp) _
  have HTA := Kp.mk ((HTA1.out.below hb2).below hba)
  have HTB := Kp.mk (hT2.txR.below hba)
  have HB2 : Kp (Below w.heap.size w ((w2.alloc (.cells #[.int .u32 TA.version, .slice Aia TA.ins.length cia, .slice Aoa TA.outs.length coa, .int .u32 TA.lock] 26)).alloc (.cells #[.int .u32 TB.version, .slice Aib TB.ins.length cib, .slice Aob TB.outs.length cob, .int .u32 TB.lock] 26))) := ⟨HB1.out.trans ((hb2.mono HB1.out.size).trans (hba.mono (Nat.le_trans HB1.out.size hb2.size)))⟩
  have HX : Kp (Box ((w2.alloc (.cells #[.int .u32 TA.version, .slice Aia TA.ins.length cia, .slice Aoa TA.outs.length coa, .int .u32 TA.lock] 26)).alloc (.cells #[.int .u32 TB.version, .slice Aib TB.ins.length cib, .slice Aob TB.outs.length cob, .int .u32 TB.lock] 26)) w2.heap.size 26 #[.int .u32 TA.version, .slice Aia TA.ins.length cia, .slice Aoa TA.outs.length coa, .int .u32 TA.lock] ∧ Box ((w2.alloc (.cells #[.int .u32 TA.version, .slice Aia TA.ins.length cia, .slice Aoa TA.outs.length coa, .int .u32 TA.lock] 26)).alloc (.cells #[.int .u32 TB.version, .slice Aib TB.ins.length cib, .slice Aob TB.outs.length cob, .int .u32 TB.lock] 26)) (w2.heap.size + 1) 26 #[.int .u32 TB.version, .slice Aib TB.ins.length cib, .slice Aob TB.outs.length cob, .int .u32 TB.lock]) := ⟨heap_alloc2_old w2 _ _, heap_alloc2_new w2 _ _⟩
  have HZ : Kp (((w2.alloc (.cells #[.int .u32 TA.version, .slice Aia TA.ins.length cia, .slice Aoa TA.outs.length coa, .int .u32 TA.lock] 26)).alloc (.cells #[.int .u32 TB.version, .slice Aib TB.ins.length cib, .slice Aob TB.outs.length cob, .int .u32 TB.lock] 26)).heap.size = w2.heap.size + 2) := ⟨by simp⟩
  clear hT2 hb2 hi2 ho2 hba HTA1 HB1
  go_upto_region 2 with fail
  obtain ⟨W0, hW0⟩ : ∃ W0, ((w2.alloc (.cells #[.int .u32 TA.version, .slice Aia TA.ins.length cia, .slice Aoa TA.outs.length coa, .int .u32 TA.lock] 26)).alloc (.cells #[.int .u32 TB.version, .slice Aib TB.ins.length cib, .slice Aob TB.outs.length cob, .int .u32 TB.lock] 26)) = W0 := ⟨_, rfl⟩
  rw [hW0] at HTA HTB HB2 HX HZ
  try rw [hW0]
  clear hW0
  have HCELL : Kp (∀ W, Below (w2.heap.size + 2) W0 W → (W.cell? ⟨w2.heap.size, 0, none⟩ = some (.int .u32 TA.version) ∧ W.cell? ⟨w2.heap.size, 1, none⟩ = some (.slice Aia TA.ins.length cia) ∧ W.cell? ⟨w2.heap.size, 2, none⟩ = some (.slice Aoa TA.outs.length coa) ∧ W.cell? ⟨w2.heap.size, 3, none⟩ = some (.int .u32 TA.lock)) ∧ (W.cell? ⟨w2.heap.size + 1, 0, none⟩ = some (.int .u32 TB.version) ∧ W.cell? ⟨w2.heap.size + 1, 1, none⟩ = some (.slice Aib TB.ins.length cib) ∧ W.cell? ⟨w2.heap.size + 1, 2, none⟩ = some (.slice Aob TB.outs.length cob) ∧ W.cell? ⟨w2.heap.size + 1, 3, none⟩ = some (.int .u32 TB.lock))) := ⟨fun W hb => by
    have hb' : Below W0.heap.size W0 W := by rw [HZ.out]; exact hb
    exact ⟨⟨(HX.out.1.below hb').cell 0, (HX.out.1.below hb').cell 1, (HX.out.1.below hb').cell 2, (HX.out.1.below hb').cell 3⟩, (HX.out.2.below hb').cell 0, (HX.out.2.below hb').cell 1, (HX.out.2.below hb').cell 2, (HX.out.2.below hb').cell 3⟩⟩
  have HCA : Kp (∀ W, Below (w2.heap.size + 2) W0 W → TxR W (.agg #[.int .u32 TA.version, .slice Aia TA.ins.length cia, .slice Aoa TA.outs.length coa, .int .u32 TA.lock]) TA) := ⟨fun W hb => HTA.out.below (by rw [HZ.out]; exact hb)⟩
  have HCB : Kp (∀ W, Below (w2.heap.size + 2) W0 W → TxR W (.agg #[.int .u32 TB.version, .slice Aib TB.ins.length cib, .slice Aob TB.outs.length cob, .int .u32 TB.lock]) TB) := ⟨fun W hb => HTB.out.below (by rw [HZ.out]; exact hb)⟩
  obtain ⟨i0, hi, hz0, hz1, hz2⟩ := info_parts infoByte
  go_cut [11] (fun r wx => ∃ g : Nat, Kp (r = .pointer (some ⟨g, 0, none⟩) ∧ w2.heap.size + 2 ≤ g ∧ Rd wx g (LA ++ LB) false ∧ Below (w2.heap.size + 2) W0 wx))
  case first =>
    refine wp_region_noPanic ?_
    refine wp_region_held_drew (S := (fun W => (W.cell? ⟨w2.heap.size, 0, none⟩ = some (.int .u32 TA.version) ∧ W.cell? ⟨w2.heap.size, 1, none⟩ = some (.slice Aia TA.ins.length cia) ∧ W.cell? ⟨w2.heap.size, 2, none⟩ = some (.slice Aoa TA.outs.length coa) ∧ W.cell? ⟨w2.heap.size, 3, none⟩ = some (.int .u32 TA.lock)) ∧ (W.cell? ⟨w2.heap.size + 1, 0, none⟩ = some (.int .u32 TB.version) ∧ W.cell? ⟨w2.heap.size + 1, 1, none⟩ = some (.slice Aib TB.ins.length cib) ∧ W.cell? ⟨w2.heap.size + 1, 2, none⟩ = some (.slice Aob TB.outs.length cob) ∧ W.cell? ⟨w2.heap.size + 1, 3, none⟩ = some (.int .u32 TB.lock)))) (by kernel_rfl) ?_ (fun hHeld => ?_)
    · exact HCELL.out _ (Below.refl _ _).drew
    refine wpAnyH_take (i := 1) (oi := ⟨some 25, _, _, _, _, _⟩) (v := ?_) rfl (by kernel_rfl) (by kernel_rfl) (by kernel_rfl) (fun _ _ _ h => h) (Or.inl ⟨by rfl, ?_⟩) hHeld ?_
    rotate_left
    · (intro wx hSw; (try dsimp only at hSw); obtain ⟨⟨s1, s2, s3, s4⟩, r1, r2, r3, r4⟩ := hSw; go_simp; try with_reducible rfl)
    try simp only [Act.put, List.setIfInBounds_toArray, List.set_cons_zero, List.set_cons_succ]
    refine wpAnyH_take (i := 4) (oi := ⟨some 28, _, _, _, _, _⟩) (v := ?_) rfl (by kernel_rfl) (by kernel_rfl) (by kernel_rfl) (fun _ _ _ h => h) (Or.inl ⟨by rfl, ?_⟩) hHeld ?_
    rotate_left
    · (intro wx hSw; (try dsimp only at hSw); obtain ⟨⟨s1, s2, s3, s4⟩, r1, r2, r3, r4⟩ := hSw; go_simp; try with_reducible rfl)
    try simp only [Act.put, List.setIfInBounds_toArray, List.set_cons_zero, List.set_cons_succ]
    refine wpAnyH_ready (rs := [0, 2]) (by kernel_rfl) (by simp) (AllReadyH.cons (o := ⟨some 24, _, _, _, _, _⟩) rfl (fun K hK => ?_) (AllReadyH.cons (o := ⟨some 26, _, _, _, _, _⟩) rfl (fun K hK => ?_) AllReadyH.nil))
    · go_simp
      have hba : Below (w2.heap.size + 2) W0 (W0.alloc (.cells #[] 5)).drew := ((Below.refl _ _).alloc (by show w2.heap.size + 2 ≤ W0.heap.size; rw [HZ.out]; exact Nat.le_refl _) _).drew
      refine hK.out _ _ (HCELL.out _ hba) (fun hHeld => ?_)
      clear hK K
      try simp only [Act.put, List.setIfInBounds_toArray, List.set_cons_zero, List.set_cons_succ]
      refine wpAnyH_ready (rs := [2]) (by kernel_rfl) (by simp) (AllReadyH.cons (o := ⟨some 26, _, _, _, _, _⟩) rfl (fun K hK => ?_) AllReadyH.nil)
      go_simp
      refine (HBOA.out _ _ (HCA.out _ hba)).mono ?_
      rintro e w6 ⟨v26, rfl, h26, hg26⟩
      obtain ⟨A26, c26, rfl⟩ := h26.slice
      have hb6 := hba.trans (hg26.low.mono (by have := hba.size; rw [HZ.out] at this; exact this))
      have hs26 := h26.any
      refine hK.out _ _ (HCELL.out _ hb6) (fun hHeld => ?_)
      clear hK K
      try simp only [Act.put, List.setIfInBounds_toArray, List.set_cons_zero, List.set_cons_succ]
      have hz6 : w2.heap.size + 2 ≤ w6.heap.size := by have := hb6.size; rw [HZ.out] at this; exact this
      refine wpAnyH_ready (rs := [3]) (by kernel_rfl) (by simp) (AllReadyH.cons (o := ⟨some 27, _, _, _, _, _⟩) rfl (fun K hK => ?_) AllReadyH.nil)
      refine wp_append_fresh (.tmp 24) (.tmp 26) rfl (W0.heap.size) rfl w6.heap.size _ LA rfl hs26 (by have := HPOSA.out; omega) (by have := HLENA.out; omega) ?_
      intro v27 w7 h27 hb7
      have hb67 := hb6.trans (hb7.mono hz6)
      obtain ⟨A27, c27, rfl⟩ := h27.slice
      refine hK.out _ _ (HCELL.out _ hb67) (fun hHeld => ?_)
      clear hK K
      try simp only [Act.put, List.setIfInBounds_toArray, List.set_cons_zero, List.set_cons_succ]
      refine wpAnyH_ready (rs := [5]) (by kernel_rfl) (by simp) (AllReadyH.cons (o := ⟨some 29, _, _, _, _, _⟩) rfl (fun K hK => ?_) AllReadyH.nil)
      go_simp
      refine (HBOB.out w7 _ (HCB.out _ hb67)).mono ?_
      rintro e w8 ⟨v29, rfl, h29, hg29⟩
      obtain ⟨A29, c29, rfl⟩ := h29.slice
      have hb68 := hb67.trans (hg29.low.mono (Nat.le_trans hz6 hb7.size))
      refine hK.out _ _ (HCELL.out _ hb68) (fun hHeld => ?_)
      clear hK K
      try simp only [Act.put, List.setIfInBounds_toArray, List.set_cons_zero, List.set_cons_succ]
      have h27b := h27.below hg29.low
      refine wpAnyH_ready (rs := [6]) (by kernel_rfl) (by simp) (AllReadyH.cons (o := ⟨some 30, _, _, _, _, _⟩) rfl (fun K hK => ?_) AllReadyH.nil)
      refine wp_append_bytes rfl (.tmp 27) (.tmp 29) 28 rfl w6.heap.size 5 i0 Try.underlying28 hi hz0 hz1 hz2 _ LA rfl h27b _ _ LB rfl h29.any (by have := HLENA.out; have := HLENB.out; omega) (Nat.le_trans hb7.size hg29.low.size) ?_
      intro v30 w9 h30 hg30
      have hb69 := hb68.grown hg30 (Nat.le_trans hz6 (Nat.le_trans hb7.size hg29.low.size)) (fun q hq => Nat.le_trans hz6 (Own.lt h27b q hq).1)
      obtain ⟨A30, c30, he30⟩ := h30.slice
      rw [List.length_append] at he30
      subst he30
      refine hK.out _ _ (HCELL.out _ hb69) (fun hHeld => ?_)
      clear hK K
      try simp only [Act.put, List.setIfInBounds_toArray, List.set_cons_zero, List.set_cons_succ]
      refine wpAnyH_ready (rs := [7]) (by kernel_rfl) (by simp) (AllReadyH.cons (o := ⟨some 31, _, _, _, _, _⟩) rfl (fun K hK => ?_) AllReadyH.nil)
      go_simp
      refine (read_any w9 w9.heap.size _ _ h30.any (HBYA.out.app HBYB.out) (by rw [List.length_append]; have := HLENA.out; have := HLENB.out; omega)).mono ?_
      rintro e w10 ⟨g, rfl, hg, hr, hb10⟩
      have hz9 : w2.heap.size + 2 ≤ w9.heap.size := by have := hb69.size; rw [HZ.out] at this; exact this
      have hb610 := hb69.trans (hb10.mono hz9)
      refine hK.out _ _ (HCELL.out _ hb610) (fun hHeld => ?_)
      clear hK K
      try simp only [Act.put, List.setIfInBounds_toArray, List.set_cons_zero, List.set_cons_succ]
      refine wpAnyH_take (i := 8) (oi := ⟨some 11, _, _, _, _, _⟩) (v := ?_) rfl (by kernel_rfl) (by kernel_rfl) (by kernel_rfl) (fun _ _ _ h => h) (Or.inl ⟨by rfl, ?_⟩) hHeld ?_
      rotate_left
      · (intro wx hSw; (try dsimp only at hSw); go_simp; try with_reducible rfl)
      try simp only [Act.put, List.setIfInBounds_toArray, List.set_cons_zero, List.set_cons_succ]
      refine wpAnyH_done (by kernel_rfl) ?_ _
      refine NoPanic.normal ?_
      go_wp2_with fail
      go_meet
      exact ⟨_, ⟨rfl, Nat.le_trans hz9 hg, hr, hb610⟩⟩
    · go_simp
      refine (HBOA.out _ _ (HCA.out _ (Below.refl _ _).drew)).mono ?_
      rintro e w5 ⟨v26, rfl, h26, hg26⟩
      obtain ⟨A26, c26, rfl⟩ := h26.slice
      have hb5 : Below (w2.heap.size + 2) W0 w5 := (Below.refl _ _).drew.trans (hg26.low.mono (by show w2.heap.size + 2 ≤ W0.heap.size; rw [HZ.out]; exact Nat.le_refl _))
      refine hK.out _ _ (HCELL.out _ hb5) (fun hHeld => ?_)
      clear hK K
      try simp only [Act.put, List.setIfInBounds_toArray, List.set_cons_zero, List.set_cons_succ]
      refine wpAnyH_ready (rs := [0]) (by kernel_rfl) (by simp) (AllReadyH.cons (o := ⟨some 24, _, _, _, _, _⟩) rfl (fun K hK => ?_) AllReadyH.nil)
      go_simp
      have hba : Below w5.heap.size w5 (w5.alloc (.cells #[] 5)) := (Below.refl _ _).alloc (Nat.le_refl _) _
      have hb6 := hb5.trans (hba.mono (by have := hb5.size; rw [HZ.out] at this; exact this))
      have hs26 := (h26.below hba).any
      refine hK.out _ _ (HCELL.out _ hb6) (fun hHeld => ?_)
      clear hK K
      try simp only [Act.put, List.setIfInBounds_toArray, List.set_cons_zero, List.set_cons_succ]
      obtain ⟨w6, hw6⟩ : ∃ W, w5.alloc (.cells #[] 5) = W := ⟨_, rfl⟩
      rw [hw6] at hb6 hs26 ⊢
      have hz6 : w2.heap.size + 2 ≤ w6.heap.size := by have := hb6.size; rw [HZ.out] at this; exact this
      refine wpAnyH_ready (rs := [3]) (by kernel_rfl) (by simp) (AllReadyH.cons (o := ⟨some 27, _, _, _, _, _⟩) rfl (fun K hK => ?_) AllReadyH.nil)
      refine wp_append_fresh (.tmp 24) (.tmp 26) rfl (w5.heap.size) rfl w6.heap.size _ LA rfl hs26 (by have := HPOSA.out; omega) (by have := HLENA.out; omega) ?_
      intro v27 w7 h27 hb7
      have hb67 := hb6.trans (hb7.mono hz6)
      obtain ⟨A27, c27, rfl⟩ := h27.slice
      refine hK.out _ _ (HCELL.out _ hb67) (fun hHeld => ?_)
      clear hK K
      try simp only [Act.put, List.setIfInBounds_toArray, List.set_cons_zero, List.set_cons_succ]
      refine wpAnyH_ready (rs := [5]) (by kernel_rfl) (by simp) (AllReadyH.cons (o := ⟨some 29, _, _, _, _, _⟩) rfl (fun K hK => ?_) AllReadyH.nil)
      go_simp
      refine (HBOB.out w7 _ (HCB.out _ hb67)).mono ?_
      rintro e w8 ⟨v29, rfl, h29, hg29⟩
      obtain ⟨A29, c29, rfl⟩ := h29.slice
      have hb68 := hb67.trans (hg29.low.mono (Nat.le_trans hz6 hb7.size))
      refine hK.out _ _ (HCELL.out _ hb68) (fun hHeld => ?_)
      clear hK K
      try simp only [Act.put, List.setIfInBounds_toArray, List.set_cons_zero, List.set_cons_succ]
      have h27b := h27.below hg29.low
      refine wpAnyH_ready (rs := [6]) (by kernel_rfl) (by simp) (AllReadyH.cons (o := ⟨some 30, _, _, _, _, _⟩) rfl (fun K hK => ?_) AllReadyH.nil)
      refine wp_append_bytes rfl (.tmp 27) (.tmp 29) 28 rfl w6.heap.size 5 i0 Try.underlying28 hi hz0 hz1 hz2 _ LA rfl h27b _ _ LB rfl h29.any (by have := HLENA.out; have := HLENB.out; omega) (Nat.le_trans hb7.size hg29.low.size) ?_
      intro v30 w9 h30 hg30
      have hb69 := hb68.grown hg30 (Nat.le_trans hz6 (Nat.le_trans hb7.size hg29.low.size)) (fun q hq => Nat.le_trans hz6 (Own.lt h27b q hq).1)
      obtain ⟨A30, c30, he30⟩ := h30.slice
      rw [List.length_append] at he30
      subst he30
      refine hK.out _ _ (HCELL.out _ hb69) (fun hHeld => ?_)
      clear hK K
      try simp only [Act.put, List.setIfInBounds_toArray, List.set_cons_zero, List.set_cons_succ]
      refine wpAnyH_ready (rs := [7]) (by kernel_rfl) (by simp) (AllReadyH.cons (o := ⟨some 31, _, _, _, _, _⟩) rfl (fun K hK => ?_) AllReadyH.nil)
      go_simp
      refine (read_any w9 w9.heap.size _ _ h30.any (HBYA.out.app HBYB.out) (by rw [List.length_append]; have := HLENA.out; have := HLENB.out; omega)).mono ?_
      rintro e w10 ⟨g, rfl, hg, hr, hb10⟩
      have hz9 : w2.heap.size + 2 ≤ w9.heap.size := by have := hb69.size; rw [HZ.out] at this; exact this
      have hb610 := hb69.trans (hb10.mono hz9)
      refine hK.out _ _ (HCELL.out _ hb610) (fun hHeld => ?_)
      clear hK K
      try simp only [Act.put, List.setIfInBounds_toArray, List.set_cons_zero, List.set_cons_succ]
      refine wpAnyH_take (i := 8) (oi := ⟨some 11, _, _, _, _, _⟩) (v := ?_) rfl (by kernel_rfl) (by kernel_rfl) (by kernel_rfl) (fun _ _ _ h => h) (Or.inl ⟨by rfl, ?_⟩) hHeld ?_
      rotate_left
      · (intro wx hSw; (try dsimp only at hSw); go_simp; try with_reducible rfl)
      try simp only [Act.put, List.setIfInBounds_toArray, List.set_cons_zero, List.set_cons_succ]
      refine wpAnyH_done (by kernel_rfl) ?_ _
      refine NoPanic.normal ?_
      go_wp2_with fail
      go_meet
      exact ⟨_, ⟨rfl, Nat.le_trans hz9 hg, hr, hb610⟩⟩
  case rest =>
    obtain ⟨g, ⟨rfl, hg, hr, hb3⟩⟩ := hcut
    obtain ⟨w3, rfl⟩ : ∃ W : World, W = wc := ⟨_, rfl⟩
    clear hi hz0 hz1 hz2
    have H3 : Kp (Calls Try.prog 23 #[.pointer (some ⟨g, 0, none⟩)] w3 (fun e w' => ∃ v, e = .returned (.tuple #[v, .bool true]) ∧ Only g w3 w' ∧ TxO w' w3.heap.size v TA ∧ Rd w' g LB false)) := ⟨by
      have h := txRead_any g w3 _ false hr (by rw [List.length_append]; have := HLENA.out; have := HLENB.out; omega)
      rw [HRA.out] at h
      exact h⟩
    have HG : Kp (w2.heap.size + 2 ≤ g ∧ g < w3.heap.size) := ⟨hg, by obtain ⟨cs, hx⟩ := hr.box; exact hx.lt⟩
    have HB3 := Kp.mk hb3
    clear hr hg hb3
    go_wp2_with fail
    refine H3.out.mono ?_
    rintro e w4 ⟨v4, rfl, ho4, hT4, hr4⟩
    obtain ⟨iv4, ov4, rfl, _, _, hi4, hv4⟩ := id hT4
    obtain ⟨gi, cix, rfl, hic, hgi3, hgi4, Ci, hxi⟩ := hi4.box HI0.out.1
    obtain ⟨Aox, cox, rfl⟩ := hv4.slice
    have hba5 : Below w4.heap.size w4 (w4.alloc (.cells #[.int .u32 TA.version, .slice (some ⟨gi, 0, none⟩) TA.ins.length cix, .slice Aox TA.outs.length cox, .int .u32 TA.lock] 26)) := (Below.refl _ _).alloc (Nat.le_refl _) _
    have HX12 : Kp (Box (w4.alloc (.cells #[.int .u32 TA.version, .slice (some ⟨gi, 0, none⟩) TA.ins.length cix, .slice Aox TA.outs.length cox, .int .u32 TA.lock] 26)) w4.heap.size 26 #[.int .u32 TA.version, .slice (some ⟨gi, 0, none⟩) TA.ins.length cix, .slice Aox TA.outs.length cox, .int .u32 TA.lock]) := ⟨Box.fresh _ _ _⟩
    have HT5 := Kp.mk (hT4.high (High.below hba5))
    have HR5 := Kp.mk (hr4.below hba5)
    have HB5 : Kp (Below (w2.heap.size + 2) W0 (w4.alloc (.cells #[.int .u32 TA.version, .slice (some ⟨gi, 0, none⟩) TA.ins.length cix, .slice Aox TA.outs.length cox, .int .u32 TA.lock] 26))) := ⟨(HB3.out.trans ⟨ho4.os, ho4.tape, ho4.output, ho4.size, fun k hk => ho4.block k (by have := HG.out; omega) (by simp; have := HG.out; omega)⟩).trans (hba5.mono (by have := ho4.size; have := HG.out; omega))⟩
    have HS5 : Kp (w3.heap.size ≤ w4.heap.size ∧ w3.heap.size ≤ gi ∧ gi < w4.heap.size) := ⟨ho4.size, hgi3, hgi4⟩
    have H6 : Kp (Calls Try.prog 23 #[.pointer (some ⟨g, 0, none⟩)] (w4.alloc (.cells #[.int .u32 TA.version, .slice (some ⟨gi, 0, none⟩) TA.ins.length cix, .slice Aox TA.outs.length cox, .int .u32 TA.lock] 26)) (fun e w' => ∃ v, e = .returned (.tuple #[v, .bool true]) ∧ Only g (w4.alloc (.cells #[.int .u32 TA.version, .slice (some ⟨gi, 0, none⟩) TA.ins.length cix, .slice Aox TA.outs.length cox, .int .u32 TA.lock] 26)) w' ∧ TxO w' (w4.alloc (.cells #[.int .u32 TA.version, .slice (some ⟨gi, 0, none⟩) TA.ins.length cix, .slice Aox TA.outs.length cox, .int .u32 TA.lock] 26)).heap.size v TB ∧ Rd w' g [] false)) := ⟨by
      have h := txRead_any g (w4.alloc (.cells #[.int .u32 TA.version, .slice (some ⟨gi, 0, none⟩) TA.ins.length cix, .slice Aox TA.outs.length cox, .int .u32 TA.lock] 26)) _ false HR5.out (by have := HLENB.out; omega)
      rw [HRB.out] at h
      exact h⟩
    clear ho4 hT4 hr4 hi4 hv4 hba5 hgi3 hgi4 hxi H3 HR5
    go_wp2_with fail
    refine H6.out.mono ?_
    rintro e w6 ⟨v6, rfl, ho6, hT6, hr6⟩
    obtain ⟨iv6, ov6, rfl, _, _, hi6, hv6⟩ := id hT6
    obtain ⟨Aiy, ciy, rfl⟩ := hi6.slice
    obtain ⟨Aoy, coy, rfl⟩ := hv6.slice
    have hba7 : Below w6.heap.size w6 (w6.alloc (.cells #[.int .u32 TB.version, .slice Aiy TB.ins.length ciy, .slice Aoy TB.outs.length coy, .int .u32 TB.lock] 26)) := (Below.refl _ _).alloc (Nat.le_refl _) _
    have hh56 : High w3.heap.size (w4.alloc (.cells #[.int .u32 TA.version, .slice (some ⟨gi, 0, none⟩) TA.ins.length cix, .slice Aox TA.outs.length cox, .int .u32 TA.lock] 26)) w6 := High.only ho6 HG.out.2
    have HTX7 := Kp.mk ((HT5.out.high hh56).high (High.below hba7))
    have HTY7 := Kp.mk ((hT6.high (High.below hba7)).txR)
    have HR7 := Kp.mk (hr6.below hba7)
    have HX12b : Kp (Box (w6.alloc (.cells #[.int .u32 TB.version, .slice Aiy TB.ins.length ciy, .slice Aoy TB.outs.length coy, .int .u32 TB.lock] 26)) w4.heap.size 26 #[.int .u32 TA.version, .slice (some ⟨gi, 0, none⟩) TA.ins.length cix, .slice Aox TA.outs.length cox, .int .u32 TA.lock]) := ⟨(HX12.out.keep ho6 (by have := HG.out; have := HS5.out; omega)).below hba7⟩
    have HX14 : Kp (Box (w6.alloc (.cells #[.int .u32 TB.version, .slice Aiy TB.ins.length ciy, .slice Aoy TB.outs.length coy, .int .u32 TB.lock] 26)) w6.heap.size 26 #[.int .u32 TB.version, .slice Aiy TB.ins.length ciy, .slice Aoy TB.outs.length coy, .int .u32 TB.lock]) := ⟨Box.fresh _ _ _⟩
    have HS6 : Kp (w4.heap.size + 1 ≤ w6.heap.size) := ⟨by have := ho6.size; rw [alloc_size] at this; exact this⟩
    have HB7 : Kp (Below (w2.heap.size + 2) W0 (w6.alloc (.cells #[.int .u32 TB.version, .slice Aiy TB.ins.length ciy, .slice Aoy TB.outs.length coy, .int .u32 TB.lock] 26))) := ⟨(HB5.out.trans ⟨ho6.os, ho6.tape, ho6.output, ho6.size, fun k hk => ho6.block k (by rw [alloc_size]; have := HG.out; have := HS5.out; omega) (by simp; have := HG.out; omega)⟩).trans (hba7.mono (by have := HS6.out; have := HG.out; have := HS5.out; omega))⟩
    clear ho6 hT6 hr6 hi6 hv6 hba7 hh56 H6 HT5 HX12
    go_upto_region 7 with fail
    obtain ⟨W7, hW7⟩ : ∃ W7, (w6.alloc (.cells #[.int .u32 TB.version, .slice Aiy TB.ins.length ciy, .slice Aoy TB.outs.length coy, .int .u32 TB.lock] 26)) = W7 := ⟨_, rfl⟩
    rw [hW7] at HTX7 HTY7 HR7 HX12b HX14 HB7
    try rw [hW7]
    have HZ7 : Kp (W7.heap.size = w6.heap.size + 1) := ⟨by rw [← hW7, alloc_size]⟩
    clear hW7
    have HEN := Kp.mk (end_good g W7 [] HR7.out)
    have HSA : Kp (∀ W, Below W7.heap.size W7 W → Calls Try.prog 16 #[.agg #[.int .u32 TA.version, .slice (some ⟨gi, 0, none⟩) TA.ins.length cix, .slice Aox TA.outs.length cox, .int .u32 TA.lock], .agg #[.int .u32 TA.version, .slice Aia TA.ins.length cia, .slice Aoa TA.outs.length coa, .int .u32 TA.lock]] W (BoolP true W)) := ⟨fun W hb => by
      have h := refSame_any W _ _ TA TA (HTX7.out.txR.below hb) (HCA.out W (HB7.out.trans (hb.mono (by rw [HZ7.out]; have := HS6.out; have := HG.out; have := HS5.out; omega))))
      rw [show decide (TA = TA) = true by simp] at h
      exact h⟩
    have HSB : Kp (∀ W, Below W7.heap.size W7 W → Calls Try.prog 16 #[.agg #[.int .u32 TB.version, .slice Aiy TB.ins.length ciy, .slice Aoy TB.outs.length coy, .int .u32 TB.lock], .agg #[.int .u32 TB.version, .slice Aib TB.ins.length cib, .slice Aob TB.outs.length cob, .int .u32 TB.lock]] W (BoolP true W)) := ⟨fun W hb => by
      have h := refSame_any W _ _ TB TB (HTY7.out.below hb) (HCB.out W (HB7.out.trans (hb.mono (by rw [HZ7.out]; have := HS6.out; have := HG.out; have := HS5.out; omega))))
      rw [show decide (TB = TB) = true by simp] at h
      exact h⟩
    have HC7 : Kp (∀ W, Below W7.heap.size W7 W → (W.cell? ⟨w4.heap.size, 0, none⟩ = some (.int .u32 TA.version) ∧ W.cell? ⟨w4.heap.size, 1, none⟩ = some (.slice (some ⟨gi, 0, none⟩) TA.ins.length cix) ∧ W.cell? ⟨w4.heap.size, 2, none⟩ = some (.slice Aox TA.outs.length cox) ∧ W.cell? ⟨w4.heap.size, 3, none⟩ = some (.int .u32 TA.lock)) ∧ (W.cell? ⟨w6.heap.size, 0, none⟩ = some (.int .u32 TB.version) ∧ W.cell? ⟨w6.heap.size, 1, none⟩ = some (.slice Aiy TB.ins.length ciy) ∧ W.cell? ⟨w6.heap.size, 2, none⟩ = some (.slice Aoy TB.outs.length coy) ∧ W.cell? ⟨w6.heap.size, 3, none⟩ = some (.int .u32 TB.lock)) ∧ (W.cell? ⟨w2.heap.size, 0, none⟩ = some (.int .u32 TA.version) ∧ W.cell? ⟨w2.heap.size, 1, none⟩ = some (.slice Aia TA.ins.length cia) ∧ W.cell? ⟨w2.heap.size, 2, none⟩ = some (.slice Aoa TA.outs.length coa) ∧ W.cell? ⟨w2.heap.size, 3, none⟩ = some (.int .u32 TA.lock)) ∧ (W.cell? ⟨w2.heap.size + 1, 0, none⟩ = some (.int .u32 TB.version) ∧ W.cell? ⟨w2.heap.size + 1, 1, none⟩ = some (.slice Aib TB.ins.length cib) ∧ W.cell? ⟨w2.heap.size + 1, 2, none⟩ = some (.slice Aob TB.outs.length cob) ∧ W.cell? ⟨w2.heap.size + 1, 3, none⟩ = some (.int .u32 TB.lock))) := ⟨fun W hb => by
      have hb' := HB7.out.trans (hb.mono (show w2.heap.size + 2 ≤ W7.heap.size by rw [HZ7.out]; have := HS6.out; have := HG.out; have := HS5.out; omega))
      have y1 := HX12b.out.below hb
      have y2 := HX14.out.below hb
      exact ⟨⟨y1.cell 0, y1.cell 1, y1.cell 2, y1.cell 3⟩, ⟨y2.cell 0, y2.cell 1, y2.cell 2, y2.cell 3⟩, (HCELL.out W hb').1, (HCELL.out W hb').2⟩⟩
    obtain ⟨⟨x0, x1, x2, x3⟩, ⟨y0, y1, y2, y3⟩, ⟨p0, p1, p2, p3⟩, q0, q1, q2, q3⟩ := HC7.out W7 (Below.refl _ _)
    go_wp2_with fail
    refine HEN.out.mono ?_
    rintro e w8 ⟨rfl, rfl⟩
    go_wp2_with fail
    refine (HSA.out _ (Below.refl _ _)).mono ?_
    rintro e w9 ⟨rfl, hb9⟩
    obtain ⟨⟨x0, x1, x2, x3⟩, ⟨y0, y1, y2, y3⟩, ⟨p0, p1, p2, p3⟩, q0, q1, q2, q3⟩ := HC7.out w9 hb9
    go_wp2_with fail
    refine (HSB.out _ hb9).mono ?_
    rintro e w10 ⟨rfl, hb10'⟩
    have hb10 := hb9.trans (hb10'.mono hb9.size)
    clear x0 x1 x2 x3 y0 y1 y2 y3 p0 p1 p2 p3 q0 q1 q2 q3 hb9 hb10'
    go_upto_region 9 with fail
    have HZZ : Kp (w2.heap.size + 2 ≤ W7.heap.size) := ⟨by rw [HZ7.out]; have := HS6.out; have := HG.out; have := HS5.out; omega⟩
    have HC7A : Kp (∀ W, Below W7.heap.size W7 W → TxR W (.agg #[.int .u32 TA.version, .slice Aia TA.ins.length cia, .slice Aoa TA.outs.length coa, .int .u32 TA.lock]) TA) := ⟨fun W hb => HCA.out W (HB7.out.trans (hb.mono HZZ.out))⟩
    have HC7B : Kp (∀ W, Below W7.heap.size W7 W → TxR W (.agg #[.int .u32 TB.version, .slice Aib TB.ins.length cib, .slice Aob TB.outs.length cob, .int .u32 TB.lock]) TB) := ⟨fun W hb => HCB.out W (HB7.out.trans (hb.mono HZZ.out))⟩
    have hq0 := str_eqB HBYA.out HBYB.out
    rw [HSAME.out] at hq0
    obtain ⟨SA, hSA⟩ : ∃ S, strOfNums LA = S := ⟨_, rfl⟩
    obtain ⟨SB, hSB⟩ : ∃ S, strOfNums LB = S := ⟨_, rfl⟩
    rw [hSA, hSB] at hq0
    have HSTA := Kp.mk hSA
    have HSTB := Kp.mk hSB
    clear hSA hSB
    go_cut [77] (fun v wx => v = .bool false ∧ Kp (Below W7.heap.size W7 wx))
    case first =>
      refine wp_region_noPanic ?_
      refine wp_region_held_drew (S := (fun W => (W.cell? ⟨w2.heap.size, 0, none⟩ = some (.int .u32 TA.version) ∧ W.cell? ⟨w2.heap.size, 1, none⟩ = some (.slice Aia TA.ins.length cia) ∧ W.cell? ⟨w2.heap.size, 2, none⟩ = some (.slice Aoa TA.outs.length coa) ∧ W.cell? ⟨w2.heap.size, 3, none⟩ = some (.int .u32 TA.lock)) ∧ (W.cell? ⟨w2.heap.size + 1, 0, none⟩ = some (.int .u32 TB.version) ∧ W.cell? ⟨w2.heap.size + 1, 1, none⟩ = some (.slice Aib TB.ins.length cib) ∧ W.cell? ⟨w2.heap.size + 1, 2, none⟩ = some (.slice Aob TB.outs.length cob) ∧ W.cell? ⟨w2.heap.size + 1, 3, none⟩ = some (.int .u32 TB.lock)))) (by kernel_rfl) ?_ (fun hHeld => ?_)
      · exact ⟨(HC7.out _ hb10.drew).2.2.1, (HC7.out _ hb10.drew).2.2.2⟩
      refine wpAnyH_take (i := 0) (oi := ⟨some 67, _, _, _, _, _⟩) (v := ?_) rfl (by kernel_rfl) (by kernel_rfl) (by kernel_rfl) (fun _ _ _ h => h) (Or.inl ⟨by rfl, ?_⟩) hHeld ?_
      rotate_left
      · (intro wx hSw; (try dsimp only at hSw); obtain ⟨⟨s1, s2, s3, s4⟩, r1, r2, r3, r4⟩ := hSw; go_simp; try with_reducible rfl)
      try simp only [Act.put, List.setIfInBounds_toArray, List.set_cons_zero, List.set_cons_succ]
      refine wpAnyH_take (i := 3) (oi := ⟨some 70, _, _, _, _, _⟩) (v := ?_) rfl (by kernel_rfl) (by kernel_rfl) (by kernel_rfl) (fun _ _ _ h => h) (Or.inl ⟨by rfl, ?_⟩) hHeld ?_
      rotate_left
      · (intro wx hSw; (try dsimp only at hSw); obtain ⟨⟨s1, s2, s3, s4⟩, r1, r2, r3, r4⟩ := hSw; go_simp; try with_reducible rfl)
      try simp only [Act.put, List.setIfInBounds_toArray, List.set_cons_zero, List.set_cons_succ]
      refine wpAnyH_take (i := 7) (oi := ⟨some 74, _, _, _, _, _⟩) (v := ?_) rfl (by kernel_rfl) (by kernel_rfl) (by kernel_rfl) (fun _ _ _ h => h) (Or.inl ⟨by rfl, ?_⟩) hHeld ?_
      rotate_left
      · (intro wx hSw; (try dsimp only at hSw); obtain ⟨⟨s1, s2, s3, s4⟩, r1, r2, r3, r4⟩ := hSw; go_simp; try with_reducible rfl)
      try simp only [Act.put, List.setIfInBounds_toArray, List.set_cons_zero, List.set_cons_succ]
      refine wpAnyH_take (i := 8) (oi := ⟨some 75, _, _, _, _, _⟩) (v := ?_) rfl (by kernel_rfl) (by kernel_rfl) (by kernel_rfl) (fun _ _ _ h => h) (Or.inl ⟨by rfl, ?_⟩) hHeld ?_
      rotate_left
      · (intro wx hSw; (try dsimp only at hSw); obtain ⟨⟨s1, s2, s3, s4⟩, r1, r2, r3, r4⟩ := hSw; go_simp; try with_reducible rfl)
      try simp only [Act.put, List.setIfInBounds_toArray, List.set_cons_zero, List.set_cons_succ]
      refine wpAnyH_ready (rs := [1]) (by kernel_rfl) (by simp) (AllReadyH.cons (o := ⟨some 68, _, _, _, _, _⟩) rfl (fun K hK => ?_) AllReadyH.nil)
      go_simp
      refine (HBOA.out _ _ (HC7A.out _ hb10.drew)).mono ?_
      rintro e w11 ⟨v68, rfl, h68, hg68⟩
      obtain ⟨A68, c68, rfl⟩ := h68.slice
      have hb11 := hb10.drew.trans (hg68.low.mono hb10.size)
      have HCV68 : Kp (∀ W, Below w11.heap.size w11 W → (convert 28 9 (.slice A68 LA.length c68)).run Try.prog W = .ok (.string SA) W) := ⟨fun W hb => by have h := run_str (h68.below hb).any; rw [HSTA.out] at h; exact h⟩
      refine hK.out _ _ (⟨(HC7.out _ hb11).2.2.1, (HC7.out _ hb11).2.2.2⟩) (fun hHeld => ?_)
      clear hK K
      try simp only [Act.put, List.setIfInBounds_toArray, List.set_cons_zero, List.set_cons_succ]
      refine heldMore (S2 := (fun W => ((W.cell? ⟨w2.heap.size, 0, none⟩ = some (.int .u32 TA.version) ∧ W.cell? ⟨w2.heap.size, 1, none⟩ = some (.slice Aia TA.ins.length cia) ∧ W.cell? ⟨w2.heap.size, 2, none⟩ = some (.slice Aoa TA.outs.length coa) ∧ W.cell? ⟨w2.heap.size, 3, none⟩ = some (.int .u32 TA.lock)) ∧ (W.cell? ⟨w2.heap.size + 1, 0, none⟩ = some (.int .u32 TB.version) ∧ W.cell? ⟨w2.heap.size + 1, 1, none⟩ = some (.slice Aib TB.ins.length cib) ∧ W.cell? ⟨w2.heap.size + 1, 2, none⟩ = some (.slice Aob TB.outs.length cob) ∧ W.cell? ⟨w2.heap.size + 1, 3, none⟩ = some (.int .u32 TB.lock))) ∧ (convert 28 9 (.slice A68 LA.length c68)).run Try.prog W = .ok (.string SA) W)) (fun _ h => h.1) _ _ _ _ ?_
      replace hHeld : ((fun W => ((W.cell? ⟨w2.heap.size, 0, none⟩ = some (.int .u32 TA.version) ∧ W.cell? ⟨w2.heap.size, 1, none⟩ = some (.slice Aia TA.ins.length cia) ∧ W.cell? ⟨w2.heap.size, 2, none⟩ = some (.slice Aoa TA.outs.length coa) ∧ W.cell? ⟨w2.heap.size, 3, none⟩ = some (.int .u32 TA.lock)) ∧ (W.cell? ⟨w2.heap.size + 1, 0, none⟩ = some (.int .u32 TB.version) ∧ W.cell? ⟨w2.heap.size + 1, 1, none⟩ = some (.slice Aib TB.ins.length cib) ∧ W.cell? ⟨w2.heap.size + 1, 2, none⟩ = some (.slice Aob TB.outs.length cob) ∧ W.cell? ⟨w2.heap.size + 1, 3, none⟩ = some (.int .u32 TB.lock))) ∧ (convert 28 9 (.slice A68 LA.length c68)).run Try.prog W = .ok (.string SA) W)) _ := ⟨hHeld, HCV68.out _ (Below.refl _ _)⟩
      refine wpAnyH_take (i := 2) (oi := ⟨some 69, _, _, _, _, _⟩) (v := ?_) rfl (by kernel_rfl) (by kernel_rfl) (by kernel_rfl) (fun _ _ _ h => h) (Or.inl ⟨by rfl, ?_⟩) hHeld ?_
      rotate_left
      · (intro wx hSw; (try dsimp only at hSw); obtain ⟨_, hcvt⟩ := hSw; go_simp; try with_reducible rfl)
      try simp only [Act.put, List.setIfInBounds_toArray, List.set_cons_zero, List.set_cons_succ]
      refine wpAnyH_ready (rs := [4]) (by kernel_rfl) (by simp) (AllReadyH.cons (o := ⟨some 71, _, _, _, _, _⟩) rfl (fun K hK => ?_) AllReadyH.nil)
      go_simp
      refine (HBOB.out _ _ (HC7B.out _ hb11)).mono ?_
      rintro e w12 ⟨v71, rfl, h71, hg71⟩
      obtain ⟨A71, c71, rfl⟩ := h71.slice
      have hb12 := hb11.trans (hg71.low.mono hb11.size)
      have HCV71 : Kp (∀ W, Below w12.heap.size w12 W → (convert 28 9 (.slice A71 LB.length c71)).run Try.prog W = .ok (.string SB) W) := ⟨fun W hb => by have h := run_str (h71.below hb).any; rw [HSTB.out] at h; exact h⟩
      refine hK.out _ _ (⟨⟨(HC7.out _ hb12).2.2.1, (HC7.out _ hb12).2.2.2⟩, HCV68.out _ hg71.low⟩) (fun hHeld => ?_)
      clear hK K
      try simp only [Act.put, List.setIfInBounds_toArray, List.set_cons_zero, List.set_cons_succ]
      refine heldMore (S2 := (fun W => ((W.cell? ⟨w2.heap.size, 0, none⟩ = some (.int .u32 TA.version) ∧ W.cell? ⟨w2.heap.size, 1, none⟩ = some (.slice Aia TA.ins.length cia) ∧ W.cell? ⟨w2.heap.size, 2, none⟩ = some (.slice Aoa TA.outs.length coa) ∧ W.cell? ⟨w2.heap.size, 3, none⟩ = some (.int .u32 TA.lock)) ∧ (W.cell? ⟨w2.heap.size + 1, 0, none⟩ = some (.int .u32 TB.version) ∧ W.cell? ⟨w2.heap.size + 1, 1, none⟩ = some (.slice Aib TB.ins.length cib) ∧ W.cell? ⟨w2.heap.size + 1, 2, none⟩ = some (.slice Aob TB.outs.length cob) ∧ W.cell? ⟨w2.heap.size + 1, 3, none⟩ = some (.int .u32 TB.lock))) ∧ (convert 28 9 (.slice A68 LA.length c68)).run Try.prog W = .ok (.string SA) W ∧ (convert 28 9 (.slice A71 LB.length c71)).run Try.prog W = .ok (.string SB) W)) (fun _ h => ⟨h.1, h.2.1⟩) _ _ _ _ ?_
      replace hHeld : ((fun W => ((W.cell? ⟨w2.heap.size, 0, none⟩ = some (.int .u32 TA.version) ∧ W.cell? ⟨w2.heap.size, 1, none⟩ = some (.slice Aia TA.ins.length cia) ∧ W.cell? ⟨w2.heap.size, 2, none⟩ = some (.slice Aoa TA.outs.length coa) ∧ W.cell? ⟨w2.heap.size, 3, none⟩ = some (.int .u32 TA.lock)) ∧ (W.cell? ⟨w2.heap.size + 1, 0, none⟩ = some (.int .u32 TB.version) ∧ W.cell? ⟨w2.heap.size + 1, 1, none⟩ = some (.slice Aib TB.ins.length cib) ∧ W.cell? ⟨w2.heap.size + 1, 2, none⟩ = some (.slice Aob TB.outs.length cob) ∧ W.cell? ⟨w2.heap.size + 1, 3, none⟩ = some (.int .u32 TB.lock))) ∧ (convert 28 9 (.slice A68 LA.length c68)).run Try.prog W = .ok (.string SA) W ∧ (convert 28 9 (.slice A71 LB.length c71)).run Try.prog W = .ok (.string SB) W)) _ := ⟨hHeld.1, hHeld.2, HCV71.out _ (Below.refl _ _)⟩
      refine wpAnyH_take (i := 5) (oi := ⟨some 72, _, _, _, _, _⟩) (v := ?_) rfl (by kernel_rfl) (by kernel_rfl) (by kernel_rfl) (fun _ _ _ h => h) (Or.inl ⟨by rfl, ?_⟩) hHeld ?_
      rotate_left
      · (intro wx hSw; (try dsimp only at hSw); obtain ⟨_, _, hcvt⟩ := hSw; go_simp; try with_reducible rfl)
      try simp only [Act.put, List.setIfInBounds_toArray, List.set_cons_zero, List.set_cons_succ]
      refine wpAnyH_take (i := 6) (oi := ⟨some 73, _, _, _, _, _⟩) (v := ?_) rfl (by kernel_rfl) (by kernel_rfl) (by kernel_rfl) (fun _ _ _ h => h) (Or.inl ⟨by rfl, ?_⟩) hHeld ?_
      rotate_left
      · (intro wx hSw; (try dsimp only at hSw); obtain _ := hSw; go_simp; try with_reducible rfl)
      try simp only [Act.put, List.setIfInBounds_toArray, List.set_cons_zero, List.set_cons_succ]
      refine wpAnyH_ready (rs := [9]) (by kernel_rfl) (by simp) (AllReadyH.cons (o := ⟨some 76, _, _, _, _, _⟩) rfl (fun K hK => ?_) AllReadyH.nil)
      go_simp
      refine (refSame_any _ _ _ TA TB (HC7A.out _ hb12) (HC7B.out _ hb12)).mono ?_
      rintro e w13 ⟨rfl, hb13⟩
      have hb14 := hb12.trans (hb13.mono hb12.size)
      refine hK.out _ _ (⟨⟨(HC7.out _ hb14).2.2.1, (HC7.out _ hb14).2.2.2⟩, HCV68.out _ (hg71.low.trans (hb13.mono hg71.low.size)), HCV71.out _ hb13⟩) (fun hHeld => ?_)
      clear hK K
      try simp only [Act.put, List.setIfInBounds_toArray, List.set_cons_zero, List.set_cons_succ]
      refine wpAnyH_take (i := 10) (oi := ⟨some 77, _, _, _, _, _⟩) (v := ?_) rfl (by kernel_rfl) (by kernel_rfl) (by kernel_rfl) (fun _ _ _ h => h) (Or.inl ⟨by rfl, ?_⟩) hHeld ?_
      rotate_left
      · (intro wx hSw; (try dsimp only at hSw); obtain _ := hSw; go_simp; try with_reducible rfl)
      try simp only [Act.put, List.setIfInBounds_toArray, List.set_cons_zero, List.set_cons_succ]
      refine wpAnyH_done (by kernel_rfl) ?_ _
      refine NoPanic.normal ?_
      go_wp2_with fail
      go_meet
      exact ⟨by simp, ⟨hb14⟩⟩
    case rest =>
      obtain ⟨rfl, ⟨hb14⟩⟩ := hcut
      obtain ⟨w14, rfl⟩ : ∃ W : World, W = wc := ⟨_, rfl⟩
      clear hq0
      have HINIT : Kp (OwnMany 36 31 (InO w14 w3.heap.size) w14 w3.heap.size (.slice (some ⟨gi, 0, none⟩) TA.ins.length cix) TA.ins ∧ OwnMany 2 34 (OutO w14 w3.heap.size) w14 w3.heap.size (.slice Aox TA.outs.length cox) TA.outs) := ⟨by
        obtain ⟨iv, ov, he, _, _, h3, h4⟩ := HTX7.out.high (High.below hb14)
        simp at he
        obtain ⟨rfl, rfl⟩ := he
        exact ⟨h3, h4⟩⟩
      have HX15b : Kp (Box w14 w4.heap.size 26 #[.int .u32 TA.version, .slice (some ⟨gi, 0, none⟩) TA.ins.length cix, .slice Aox TA.outs.length cox, .int .u32 TA.lock] ∧ Below (w2.heap.size + 2) W0 w14) := ⟨HX12b.out.below hb14, HB7.out.trans (hb14.mono HZZ.out)⟩
      have e1 := HX15b.out.1.cell 1
      have hni : TA.ins.length ≤ 4 := HI0.out.2
      clear hb14
      go_wp2
      go_loopw [16, 81] (fun h i wr => ∃ (j : Nat) (ds : List InD), j ≤ TA.ins.length ∧ i = .int .i64 j ∧ h = .bool ((TA.ins.take j).any witB) ∧ Kp (ds = insJ TA.ins j ∧ ds.length = TA.ins.length ∧ OwnMany 36 31 (InO wr w3.heap.size) wr w3.heap.size (.slice (some ⟨gi, 0, none⟩) ds.length cix) ds ∧ OwnMany 2 34 (OutO wr w3.heap.size) wr w3.heap.size (.slice Aox TA.outs.length cox) TA.outs ∧ Box wr w4.heap.size 26 #[.int .u32 TA.version, .slice (some ⟨gi, 0, none⟩) TA.ins.length cix, .slice Aox TA.outs.length cox, .int .u32 TA.lock] ∧ Below (w2.heap.size + 2) W0 wr)) (fun _ i _ => TA.ins.length - (intOf i).toNat)
      case atStart => exact ⟨0, TA.ins, Nat.zero_le _, rfl, by simp, ⟨by simp [insJ], rfl, HINIT.out.1, HINIT.out.2, HX15b.out.1, HX15b.out.2⟩⟩
      case round =>
        obtain ⟨j, ds, hj, rfl, rfl, ⟨hds, hdl, hown, houts, hx8, hbl⟩⟩ := hrel
        clear e1
        have e1 := hx8.cell 1
        by_cases hjl : j < TA.ins.length
        · have hjd : j < ds.length := by rw [hdl]; exact hjl
          obtain ⟨cs, hcl, hin, hc, hf⟩ := hown.cell (j := 35) hjd (by omega)
          have hdj : ds[j] = TA.ins[j] := by subst hds; exact insJ_at hjl hjd
          obtain ⟨sv, wv, rfl, hfit, hsv1, hsv2, hrows⟩ := hin
          rw [inCells_wit hfit] at hc
          obtain ⟨Aw, cw, rfl⟩ := hrows.slice
          obtain ⟨_, _, _, _, _, _, Ci, hxi⟩ := hown.box (by omega)
          obtain ⟨g2, c2, he2, _, _, _, Ci, hxi⟩ := hown.box (by omega)
          injection he2 with he2
          injection he2 with he2
          injection he2 with he2
          subst he2
          have hjl' : (j : Int) < (TA.ins.length : Int) := by omega
          have HJ : Kp (j < TA.ins.length) := ⟨hjl⟩
          have hwit : witB TA.ins[j] = decide (0 < ds[j].wit.length) := by rw [← hdj]; rfl
          have hk : Keeps [5, 28, 34] wr (wr.setCell ⟨gi, j * 36 + 35, none⟩ (.slice none 0 0)) := Keeps.of_set hxi (by decide) _ _
          have HNXT : Kp (OwnMany 36 31 (InO (wr.setCell ⟨gi, j * 36 + 35, none⟩ (.slice none 0 0)) w3.heap.size) (wr.setCell ⟨gi, j * 36 + 35, none⟩ (.slice none 0 0)) w3.heap.size (.slice (some ⟨gi, 0, none⟩) (ds.set j (strip ds[j])).length cix) (ds.set j (strip ds[j])) ∧ OwnMany 2 34 (OutO (wr.setCell ⟨gi, j * 36 + 35, none⟩ (.slice none 0 0)) w3.heap.size) (wr.setCell ⟨gi, j * 36 + 35, none⟩ (.slice none 0 0)) w3.heap.size (.slice Aox TA.outs.length cox) TA.outs ∧ Box (wr.setCell ⟨gi, j * 36 + 35, none⟩ (.slice none 0 0)) w4.heap.size 26 #[.int .u32 TA.version, .slice (some ⟨gi, 0, none⟩) TA.ins.length cix, .slice Aox TA.outs.length cox, .int .u32 TA.lock] ∧ Below (w2.heap.size + 2) W0 (wr.setCell ⟨gi, j * 36 + 35, none⟩ (.slice none 0 0))) := ⟨by
            refine ⟨?_, OwnMany.turn houts hk (by decide) (Nat.le_refl _) (fun cs d h => OutO.turn h hk (by decide) (Nat.le_refl _)), ?_, ?_⟩
            · have h := ins_strip hown hjd hxi
              rw [List.length_set]
              exact h
            · exact (Below.heap_setCell wr _ _ _ (show w4.heap.size ≠ gi by have := HS5.out; omega)).trans hx8
            · exact hbl.setCell (show w2.heap.size + 2 ≤ gi by have := HS5.out; have := HG.out; omega) _⟩
          have HDS : Kp (ds.set j (strip ds[j]) = insJ TA.ins (j + 1) ∧ (ds.set j (strip ds[j])).length = TA.ins.length) := ⟨by
            refine ⟨?_, by rw [List.length_set]; exact hdl⟩
            subst hds
            rw [insJ_at hjl hjd]
            exact insJ_next hjl⟩
          have hany := any_next hjl
          obtain ⟨nw, hnw⟩ : ∃ nw, ds[j].wit.length = nw := ⟨_, rfl⟩
          rw [hnw] at hc hwit
          rw [hwit] at hany
          have hnw9 : (nw : Int) ≤ 9223372036854775807 := by
            have h9 := hrows.many (RR := RowR) (fun _ _ ⟨sv, hc, h1, h2⟩ => ⟨sv, hc, h1.rb h2⟩)
            obtain ⟨_, _, _, _, h10⟩ := h9.slice
            unfold maxLen at h10
            omega
          obtain ⟨hd, hhd⟩ : ∃ b, (TA.ins.take j).any witB = b := ⟨_, rfl⟩
          rw [hhd] at hany ⊢
          have HANY := Kp.mk hany
          clear hown houts hx8 hbl hds hdl hdj hfit hsv1 hsv2 hrows hk hjl hj hxi hwit hnw hhd hany hcl
          cases hd with
          | true =>
            have HA2 : Kp ((TA.ins.take (j + 1)).any witB = true) := ⟨by rw [HANY.out]; rfl⟩
            go_wp2
            exact ⟨⟨j + 1, _, by have := HJ.out; omega, by go_num, by rw [HA2.out], ⟨HDS.out.1, HDS.out.2, HNXT.out⟩⟩, by simp [intOf]; have := HJ.out; omega⟩
          | false =>
            have HA2 : Kp ((TA.ins.take (j + 1)).any witB = decide (0 < nw)) := ⟨by rw [HANY.out]; simp⟩
            go_wp2
            exact ⟨⟨j + 1, _, by have := HJ.out; omega, by go_num, by rw [HA2.out], ⟨HDS.out.1, HDS.out.2, HNXT.out⟩⟩, by simp [intOf]; have := HJ.out; omega⟩
        · obtain rfl : j = TA.ins.length := by omega
          rw [List.take_length]
          obtain ⟨wT, hwT⟩ : ∃ b, TA.ins.any witB = b := ⟨_, rfl⟩
          rw [hwT]
          have hq1 := str_eqB HBYA.out HBYS.out
          rw [HBASE.out, show witT TA = wT from hwT] at hq1
          obtain ⟨SS, hSS⟩ : ∃ S, strOfNums LS = S := ⟨_, rfl⟩
          rw [HSTA.out, hSS] at hq1
          have HSTS := Kp.mk hSS
          have HTS : Kp (TxR wr (.agg #[.int .u32 TA.version, .slice (some ⟨gi, 0, none⟩) TA.ins.length cix, .slice Aox TA.outs.length cox, .int .u32 TA.lock]) (stripT TA)) := ⟨by
            rw [insJ_end] at hds
            obtain ⟨iv, ov, he, hv, hk, _, _⟩ := HTX7.out
            have h36 := OwnMany.many hown fun _ _ h => h.inR
            rw [hdl, hds] at h36
            exact ⟨_, _, rfl, hv, hk, h36, OwnMany.many houts fun _ _ h => h.outR⟩⟩
          have HX8 := Kp.mk hx8
          have HBL := Kp.mk hbl
          clear hown houts hx8 hbl hds hdl hwT hSS hjl hj e1 HX15b HINIT
          go_upto_region 18 with fail
          obtain ⟨w15, hw15⟩ : ∃ W : World, W = wr := ⟨_, rfl⟩
          subst hw15
          have HZ15 : Kp (w2.heap.size + 2 ≤ w15.heap.size) := ⟨by have := HBL.out.size; rw [HZ.out] at this; exact this⟩
          have HC15 : Kp (∀ W, Below w15.heap.size w15 W → (W.cell? ⟨w4.heap.size, 0, none⟩ = some (.int .u32 TA.version) ∧ W.cell? ⟨w4.heap.size, 1, none⟩ = some (.slice (some ⟨gi, 0, none⟩) TA.ins.length cix) ∧ W.cell? ⟨w4.heap.size, 2, none⟩ = some (.slice Aox TA.outs.length cox) ∧ W.cell? ⟨w4.heap.size, 3, none⟩ = some (.int .u32 TA.lock)) ∧ (W.cell? ⟨w2.heap.size, 0, none⟩ = some (.int .u32 TA.version) ∧ W.cell? ⟨w2.heap.size, 1, none⟩ = some (.slice Aia TA.ins.length cia) ∧ W.cell? ⟨w2.heap.size, 2, none⟩ = some (.slice Aoa TA.outs.length coa) ∧ W.cell? ⟨w2.heap.size, 3, none⟩ = some (.int .u32 TA.lock))) := ⟨fun W hb => by
            have y1 := HX8.out.below hb
            exact ⟨⟨y1.cell 0, y1.cell 1, y1.cell 2, y1.cell 3⟩, (HCELL.out W (HBL.out.trans (hb.mono HZ15.out))).1⟩⟩
          have HX15 : Kp (∀ W, Below w15.heap.size w15 W → TxR W (.agg #[.int .u32 TA.version, .slice (some ⟨gi, 0, none⟩) TA.ins.length cix, .slice Aox TA.outs.length cox, .int .u32 TA.lock]) (stripT TA)) := ⟨fun W hb => HTS.out.below hb⟩
          have HA15 : Kp (∀ W, Below w15.heap.size w15 W → TxR W (.agg #[.int .u32 TA.version, .slice Aia TA.ins.length cia, .slice Aoa TA.outs.length coa, .int .u32 TA.lock]) TA) := ⟨fun W hb => HCA.out W (HBL.out.trans (hb.mono HZ15.out))⟩
          have HEND : Kp (Below w.heap.size w w15) := ⟨HB2.out.trans (HBL.out.mono (by have := HB2.out.size; rw [HZ.out] at this; exact this))⟩
          have HZE : Kp (w.heap.size ≤ w15.heap.size) := ⟨HEND.out.size⟩
          refine wp_region_noPanic ?_
          refine wp_region_held_drew (S := (fun W => ((W.cell? ⟨w4.heap.size, 0, none⟩ = some (.int .u32 TA.version) ∧ W.cell? ⟨w4.heap.size, 1, none⟩ = some (.slice (some ⟨gi, 0, none⟩) TA.ins.length cix) ∧ W.cell? ⟨w4.heap.size, 2, none⟩ = some (.slice Aox TA.outs.length cox) ∧ W.cell? ⟨w4.heap.size, 3, none⟩ = some (.int .u32 TA.lock)) ∧ (W.cell? ⟨w2.heap.size, 0, none⟩ = some (.int .u32 TA.version) ∧ W.cell? ⟨w2.heap.size, 1, none⟩ = some (.slice Aia TA.ins.length cia) ∧ W.cell? ⟨w2.heap.size, 2, none⟩ = some (.slice Aoa TA.outs.length coa) ∧ W.cell? ⟨w2.heap.size, 3, none⟩ = some (.int .u32 TA.lock))))) (by kernel_rfl) ?_ (fun hHeld => ?_)
          · exact HC15.out _ (Below.refl _ _).drew
          refine wpAnyH_take (i := 0) (oi := ⟨some 101, _, _, _, _, _⟩) (v := ?_) rfl (by kernel_rfl) (by kernel_rfl) (by kernel_rfl) (fun _ _ _ h => h) (Or.inl ⟨by rfl, ?_⟩) hHeld ?_
          rotate_left
          · (intro wx hSw; (try dsimp only at hSw); obtain ⟨⟨s1, s2, s3, s4⟩, r1, r2, r3, r4⟩ := hSw; go_simp; try with_reducible rfl)
          try simp only [Act.put, List.setIfInBounds_toArray, List.set_cons_zero, List.set_cons_succ]
          refine wpAnyH_take (i := 3) (oi := ⟨some 104, _, _, _, _, _⟩) (v := ?_) rfl (by kernel_rfl) (by kernel_rfl) (by kernel_rfl) (fun _ _ _ h => h) (Or.inl ⟨by rfl, ?_⟩) hHeld ?_
          rotate_left
          · (intro wx hSw; (try dsimp only at hSw); obtain ⟨⟨s1, s2, s3, s4⟩, r1, r2, r3, r4⟩ := hSw; go_simp; try with_reducible rfl)
          try simp only [Act.put, List.setIfInBounds_toArray, List.set_cons_zero, List.set_cons_succ]
          have hb0 := (Below.refl w15.heap.size w15).drew
          refine wpAnyH_ready (rs := [1]) (by kernel_rfl) (by simp) (AllReadyH.cons (o := ⟨some 102, _, _, _, _, _⟩) rfl (fun K hK => ?_) AllReadyH.nil)
          go_simp
          refine (HBOS.out _ _ (HX15.out _ hb0)).mono ?_
          rintro e w16 ⟨v102, rfl, h102, hg102⟩
          obtain ⟨A102, c102, rfl⟩ := h102.slice
          have hb102 := hb0.trans (hg102.low.mono hb0.size)
          have HCV102 : Kp (∀ W, Below w16.heap.size w16 W → (convert 28 9 (.slice A102 LS.length c102)).run Try.prog W = .ok (.string SS) W) := ⟨fun W hb => by have h := run_str (h102.below hb).any; rw [HSTS.out] at h; exact h⟩
          refine hK.out _ _ (HC15.out _ hb102) (fun hHeld => ?_)
          clear hK K
          try simp only [Act.put, List.setIfInBounds_toArray, List.set_cons_zero, List.set_cons_succ]
          refine heldMore (S2 := (fun W => ((W.cell? ⟨w4.heap.size, 0, none⟩ = some (.int .u32 TA.version) ∧ W.cell? ⟨w4.heap.size, 1, none⟩ = some (.slice (some ⟨gi, 0, none⟩) TA.ins.length cix) ∧ W.cell? ⟨w4.heap.size, 2, none⟩ = some (.slice Aox TA.outs.length cox) ∧ W.cell? ⟨w4.heap.size, 3, none⟩ = some (.int .u32 TA.lock)) ∧ (W.cell? ⟨w2.heap.size, 0, none⟩ = some (.int .u32 TA.version) ∧ W.cell? ⟨w2.heap.size, 1, none⟩ = some (.slice Aia TA.ins.length cia) ∧ W.cell? ⟨w2.heap.size, 2, none⟩ = some (.slice Aoa TA.outs.length coa) ∧ W.cell? ⟨w2.heap.size, 3, none⟩ = some (.int .u32 TA.lock))) ∧ (convert 28 9 (.slice A102 LS.length c102)).run Try.prog W = .ok (.string SS) W)) (fun _ h => h.1) _ _ _ _ ?_
          replace hHeld : ((fun W => ((W.cell? ⟨w4.heap.size, 0, none⟩ = some (.int .u32 TA.version) ∧ W.cell? ⟨w4.heap.size, 1, none⟩ = some (.slice (some ⟨gi, 0, none⟩) TA.ins.length cix) ∧ W.cell? ⟨w4.heap.size, 2, none⟩ = some (.slice Aox TA.outs.length cox) ∧ W.cell? ⟨w4.heap.size, 3, none⟩ = some (.int .u32 TA.lock)) ∧ (W.cell? ⟨w2.heap.size, 0, none⟩ = some (.int .u32 TA.version) ∧ W.cell? ⟨w2.heap.size, 1, none⟩ = some (.slice Aia TA.ins.length cia) ∧ W.cell? ⟨w2.heap.size, 2, none⟩ = some (.slice Aoa TA.outs.length coa) ∧ W.cell? ⟨w2.heap.size, 3, none⟩ = some (.int .u32 TA.lock))) ∧ (convert 28 9 (.slice A102 LS.length c102)).run Try.prog W = .ok (.string SS) W)) _ := ⟨hHeld, HCV102.out _ (Below.refl _ _)⟩
          refine wpAnyH_take (i := 2) (oi := ⟨some 103, _, _, _, _, _⟩) (v := ?_) rfl (by kernel_rfl) (by kernel_rfl) (by kernel_rfl) (fun _ _ _ h => h) (Or.inl ⟨by rfl, ?_⟩) hHeld ?_
          rotate_left
          · (intro wx hSw; (try dsimp only at hSw); obtain ⟨_, hcvt⟩ := hSw; go_simp; try with_reducible rfl)
          try simp only [Act.put, List.setIfInBounds_toArray, List.set_cons_zero, List.set_cons_succ]
          refine wpAnyH_ready (rs := [4]) (by kernel_rfl) (by simp) (AllReadyH.cons (o := ⟨some 105, _, _, _, _, _⟩) rfl (fun K hK => ?_) AllReadyH.nil)
          go_simp
          refine (HBSA.out _ _ (HA15.out _ hb102)).mono ?_
          rintro e w17 ⟨v105, rfl, h105, hg105⟩
          obtain ⟨A105, c105, rfl⟩ := h105.slice
          have hb105 := hb102.trans (hg105.low.mono hb102.size)
          have HCV105 : Kp (∀ W, Below w17.heap.size w17 W → (convert 28 9 (.slice A105 LS.length c105)).run Try.prog W = .ok (.string SS) W) := ⟨fun W hb => by have h := run_str (h105.below hb).any; rw [HSTS.out] at h; exact h⟩
          refine hK.out _ _ (⟨HC15.out _ hb105, HCV102.out _ hg105.low⟩) (fun hHeld => ?_)
          clear hK K
          try simp only [Act.put, List.setIfInBounds_toArray, List.set_cons_zero, List.set_cons_succ]
          refine heldMore (S2 := (fun W => ((W.cell? ⟨w4.heap.size, 0, none⟩ = some (.int .u32 TA.version) ∧ W.cell? ⟨w4.heap.size, 1, none⟩ = some (.slice (some ⟨gi, 0, none⟩) TA.ins.length cix) ∧ W.cell? ⟨w4.heap.size, 2, none⟩ = some (.slice Aox TA.outs.length cox) ∧ W.cell? ⟨w4.heap.size, 3, none⟩ = some (.int .u32 TA.lock)) ∧ (W.cell? ⟨w2.heap.size, 0, none⟩ = some (.int .u32 TA.version) ∧ W.cell? ⟨w2.heap.size, 1, none⟩ = some (.slice Aia TA.ins.length cia) ∧ W.cell? ⟨w2.heap.size, 2, none⟩ = some (.slice Aoa TA.outs.length coa) ∧ W.cell? ⟨w2.heap.size, 3, none⟩ = some (.int .u32 TA.lock))) ∧ (convert 28 9 (.slice A102 LS.length c102)).run Try.prog W = .ok (.string SS) W ∧ (convert 28 9 (.slice A105 LS.length c105)).run Try.prog W = .ok (.string SS) W)) (fun _ h => ⟨h.1, h.2.1⟩) _ _ _ _ ?_
          replace hHeld : ((fun W => ((W.cell? ⟨w4.heap.size, 0, none⟩ = some (.int .u32 TA.version) ∧ W.cell? ⟨w4.heap.size, 1, none⟩ = some (.slice (some ⟨gi, 0, none⟩) TA.ins.length cix) ∧ W.cell? ⟨w4.heap.size, 2, none⟩ = some (.slice Aox TA.outs.length cox) ∧ W.cell? ⟨w4.heap.size, 3, none⟩ = some (.int .u32 TA.lock)) ∧ (W.cell? ⟨w2.heap.size, 0, none⟩ = some (.int .u32 TA.version) ∧ W.cell? ⟨w2.heap.size, 1, none⟩ = some (.slice Aia TA.ins.length cia) ∧ W.cell? ⟨w2.heap.size, 2, none⟩ = some (.slice Aoa TA.outs.length coa) ∧ W.cell? ⟨w2.heap.size, 3, none⟩ = some (.int .u32 TA.lock))) ∧ (convert 28 9 (.slice A102 LS.length c102)).run Try.prog W = .ok (.string SS) W ∧ (convert 28 9 (.slice A105 LS.length c105)).run Try.prog W = .ok (.string SS) W)) _ := ⟨hHeld.1, hHeld.2, HCV105.out _ (Below.refl _ _)⟩
          refine wpAnyH_take (i := 5) (oi := ⟨some 106, _, _, _, _, _⟩) (v := ?_) rfl (by kernel_rfl) (by kernel_rfl) (by kernel_rfl) (fun _ _ _ h => h) (Or.inl ⟨by rfl, ?_⟩) hHeld ?_
          rotate_left
          · (intro wx hSw; (try dsimp only at hSw); obtain ⟨_, _, hcvt⟩ := hSw; go_simp; try with_reducible rfl)
          try simp only [Act.put, List.setIfInBounds_toArray, List.set_cons_zero, List.set_cons_succ]
          refine wpAnyH_take (i := 6) (oi := ⟨some 107, _, _, _, _, _⟩) (v := ?_) rfl (by kernel_rfl) (by kernel_rfl) (by kernel_rfl) (fun _ _ _ h => h) (Or.inl ⟨by rfl, ?_⟩) hHeld ?_
          rotate_left
          · (intro wx hSw; (try dsimp only at hSw); obtain _ := hSw; go_simp; try with_reducible rfl)
          try simp only [Act.put, List.setIfInBounds_toArray, List.set_cons_zero, List.set_cons_succ]
          refine wpAnyH_take (i := 7) (oi := ⟨some 108, _, _, _, _, _⟩) (v := ?_) rfl (by kernel_rfl) (by kernel_rfl) (by kernel_rfl) (fun _ _ _ h => h) (Or.inl ⟨by rfl, ?_⟩) hHeld ?_
          rotate_left
          · (intro wx hSw; (try dsimp only at hSw); obtain _ := hSw; go_simp; try with_reducible rfl)
          try simp only [Act.put, List.setIfInBounds_toArray, List.set_cons_zero, List.set_cons_succ]
          refine wpAnyH_take (i := 8) (oi := ⟨some 109, _, _, _, _, _⟩) (v := ?_) rfl (by kernel_rfl) (by kernel_rfl) (by kernel_rfl) (fun _ _ _ h => h) (Or.inl ⟨by rfl, ?_⟩) hHeld ?_
          rotate_left
          · (intro wx hSw; (try dsimp only at hSw); obtain ⟨⟨⟨s1, s2, s3, s4⟩, r1, r2, r3, r4⟩, _⟩ := hSw; go_simp; try with_reducible rfl)
          try simp only [Act.put, List.setIfInBounds_toArray, List.set_cons_zero, List.set_cons_succ]
          refine wpAnyH_take (i := 11) (oi := ⟨some 112, _, _, _, _, _⟩) (v := ?_) rfl (by kernel_rfl) (by kernel_rfl) (by kernel_rfl) (fun _ _ _ h => h) (Or.inl ⟨by rfl, ?_⟩) hHeld ?_
          rotate_left
          · (intro wx hSw; (try dsimp only at hSw); obtain ⟨⟨⟨s1, s2, s3, s4⟩, r1, r2, r3, r4⟩, _⟩ := hSw; go_simp; try with_reducible rfl)
          try simp only [Act.put, List.setIfInBounds_toArray, List.set_cons_zero, List.set_cons_succ]
          refine wpAnyH_take (i := 15) (oi := ⟨some 116, _, _, _, _, _⟩) (v := ?_) rfl (by kernel_rfl) (by kernel_rfl) (by kernel_rfl) (fun _ _ _ h => h) (Or.inl ⟨by rfl, ?_⟩) hHeld ?_
          rotate_left
          · (intro wx hSw; (try dsimp only at hSw); obtain _ := hSw; go_simp; try with_reducible rfl)
          try simp only [Act.put, List.setIfInBounds_toArray, List.set_cons_zero, List.set_cons_succ]
          refine wpAnyH_take (i := 16) (oi := ⟨some 117, _, _, _, _, _⟩) (v := ?_) rfl (by kernel_rfl) (by kernel_rfl) (by kernel_rfl) (fun _ _ _ h => h) (Or.inl ⟨by rfl, ?_⟩) hHeld ?_
          rotate_left
          · (intro wx hSw; (try dsimp only at hSw); obtain _ := hSw; go_simp; try with_reducible rfl)
          try simp only [Act.put, List.setIfInBounds_toArray, List.set_cons_zero, List.set_cons_succ]
          refine wpAnyH_ready (rs := [9]) (by kernel_rfl) (by simp) (AllReadyH.cons (o := ⟨some 110, _, _, _, _, _⟩) rfl (fun K hK => ?_) AllReadyH.nil)
          go_simp
          refine (HBOA.out _ _ (HA15.out _ hb105)).mono ?_
          rintro e w18 ⟨v110, rfl, h110, hg110⟩
          obtain ⟨A110, c110, rfl⟩ := h110.slice
          have hb110 := hb105.trans (hg110.low.mono hb105.size)
          have HCV110 : Kp (∀ W, Below w18.heap.size w18 W → (convert 28 9 (.slice A110 LA.length c110)).run Try.prog W = .ok (.string SA) W) := ⟨fun W hb => by have h := run_str (h110.below hb).any; rw [HSTA.out] at h; exact h⟩
          refine hK.out _ _ (⟨HC15.out _ hb110, HCV102.out _ (hg105.low.trans (hg110.low.mono hg105.low.size)), HCV105.out _ hg110.low⟩) (fun hHeld => ?_)
          clear hK K
          try simp only [Act.put, List.setIfInBounds_toArray, List.set_cons_zero, List.set_cons_succ]
          refine heldMore (S2 := (fun W => ((W.cell? ⟨w4.heap.size, 0, none⟩ = some (.int .u32 TA.version) ∧ W.cell? ⟨w4.heap.size, 1, none⟩ = some (.slice (some ⟨gi, 0, none⟩) TA.ins.length cix) ∧ W.cell? ⟨w4.heap.size, 2, none⟩ = some (.slice Aox TA.outs.length cox) ∧ W.cell? ⟨w4.heap.size, 3, none⟩ = some (.int .u32 TA.lock)) ∧ (W.cell? ⟨w2.heap.size, 0, none⟩ = some (.int .u32 TA.version) ∧ W.cell? ⟨w2.heap.size, 1, none⟩ = some (.slice Aia TA.ins.length cia) ∧ W.cell? ⟨w2.heap.size, 2, none⟩ = some (.slice Aoa TA.outs.length coa) ∧ W.cell? ⟨w2.heap.size, 3, none⟩ = some (.int .u32 TA.lock))) ∧ (convert 28 9 (.slice A102 LS.length c102)).run Try.prog W = .ok (.string SS) W ∧ (convert 28 9 (.slice A105 LS.length c105)).run Try.prog W = .ok (.string SS) W ∧ (convert 28 9 (.slice A110 LA.length c110)).run Try.prog W = .ok (.string SA) W)) (fun _ h => ⟨h.1, h.2.1, h.2.2.1⟩) _ _ _ _ ?_
          replace hHeld : ((fun W => ((W.cell? ⟨w4.heap.size, 0, none⟩ = some (.int .u32 TA.version) ∧ W.cell? ⟨w4.heap.size, 1, none⟩ = some (.slice (some ⟨gi, 0, none⟩) TA.ins.length cix) ∧ W.cell? ⟨w4.heap.size, 2, none⟩ = some (.slice Aox TA.outs.length cox) ∧ W.cell? ⟨w4.heap.size, 3, none⟩ = some (.int .u32 TA.lock)) ∧ (W.cell? ⟨w2.heap.size, 0, none⟩ = some (.int .u32 TA.version) ∧ W.cell? ⟨w2.heap.size, 1, none⟩ = some (.slice Aia TA.ins.length cia) ∧ W.cell? ⟨w2.heap.size, 2, none⟩ = some (.slice Aoa TA.outs.length coa) ∧ W.cell? ⟨w2.heap.size, 3, none⟩ = some (.int .u32 TA.lock))) ∧ (convert 28 9 (.slice A102 LS.length c102)).run Try.prog W = .ok (.string SS) W ∧ (convert 28 9 (.slice A105 LS.length c105)).run Try.prog W = .ok (.string SS) W ∧ (convert 28 9 (.slice A110 LA.length c110)).run Try.prog W = .ok (.string SA) W)) _ := ⟨hHeld.1, hHeld.2.1, hHeld.2.2, HCV110.out _ (Below.refl _ _)⟩
          refine wpAnyH_take (i := 10) (oi := ⟨some 111, _, _, _, _, _⟩) (v := ?_) rfl (by kernel_rfl) (by kernel_rfl) (by kernel_rfl) (fun _ _ _ h => h) (Or.inl ⟨by rfl, ?_⟩) hHeld ?_
          rotate_left
          · (intro wx hSw; (try dsimp only at hSw); obtain ⟨_, _, _, hcvt⟩ := hSw; go_simp; try with_reducible rfl)
          try simp only [Act.put, List.setIfInBounds_toArray, List.set_cons_zero, List.set_cons_succ]
          refine wpAnyH_ready (rs := [12]) (by kernel_rfl) (by simp) (AllReadyH.cons (o := ⟨some 113, _, _, _, _, _⟩) rfl (fun K hK => ?_) AllReadyH.nil)
          go_simp
          refine (HBSA.out _ _ (HA15.out _ hb110)).mono ?_
          rintro e w19 ⟨v113, rfl, h113, hg113⟩
          obtain ⟨A113, c113, rfl⟩ := h113.slice
          have hb113 := hb110.trans (hg113.low.mono hb110.size)
          have HCV113 : Kp (∀ W, Below w19.heap.size w19 W → (convert 28 9 (.slice A113 LS.length c113)).run Try.prog W = .ok (.string SS) W) := ⟨fun W hb => by have h := run_str (h113.below hb).any; rw [HSTS.out] at h; exact h⟩
          have z17 := hg110.low.trans (hg113.low.mono hg110.low.size)
          have z16 := hg105.low.trans (z17.mono hg105.low.size)
          refine hK.out _ _ (⟨HC15.out _ hb113, HCV102.out _ z16, HCV105.out _ z17, HCV110.out _ hg113.low⟩) (fun hHeld => ?_)
          clear hK K
          try simp only [Act.put, List.setIfInBounds_toArray, List.set_cons_zero, List.set_cons_succ]
          refine heldMore (S2 := (fun W => ((W.cell? ⟨w4.heap.size, 0, none⟩ = some (.int .u32 TA.version) ∧ W.cell? ⟨w4.heap.size, 1, none⟩ = some (.slice (some ⟨gi, 0, none⟩) TA.ins.length cix) ∧ W.cell? ⟨w4.heap.size, 2, none⟩ = some (.slice Aox TA.outs.length cox) ∧ W.cell? ⟨w4.heap.size, 3, none⟩ = some (.int .u32 TA.lock)) ∧ (W.cell? ⟨w2.heap.size, 0, none⟩ = some (.int .u32 TA.version) ∧ W.cell? ⟨w2.heap.size, 1, none⟩ = some (.slice Aia TA.ins.length cia) ∧ W.cell? ⟨w2.heap.size, 2, none⟩ = some (.slice Aoa TA.outs.length coa) ∧ W.cell? ⟨w2.heap.size, 3, none⟩ = some (.int .u32 TA.lock))) ∧ (convert 28 9 (.slice A102 LS.length c102)).run Try.prog W = .ok (.string SS) W ∧ (convert 28 9 (.slice A105 LS.length c105)).run Try.prog W = .ok (.string SS) W ∧ (convert 28 9 (.slice A110 LA.length c110)).run Try.prog W = .ok (.string SA) W ∧ (convert 28 9 (.slice A113 LS.length c113)).run Try.prog W = .ok (.string SS) W)) (fun _ h => ⟨h.1, h.2.1, h.2.2.1, h.2.2.2.1⟩) _ _ _ _ ?_
          replace hHeld : ((fun W => ((W.cell? ⟨w4.heap.size, 0, none⟩ = some (.int .u32 TA.version) ∧ W.cell? ⟨w4.heap.size, 1, none⟩ = some (.slice (some ⟨gi, 0, none⟩) TA.ins.length cix) ∧ W.cell? ⟨w4.heap.size, 2, none⟩ = some (.slice Aox TA.outs.length cox) ∧ W.cell? ⟨w4.heap.size, 3, none⟩ = some (.int .u32 TA.lock)) ∧ (W.cell? ⟨w2.heap.size, 0, none⟩ = some (.int .u32 TA.version) ∧ W.cell? ⟨w2.heap.size, 1, none⟩ = some (.slice Aia TA.ins.length cia) ∧ W.cell? ⟨w2.heap.size, 2, none⟩ = some (.slice Aoa TA.outs.length coa) ∧ W.cell? ⟨w2.heap.size, 3, none⟩ = some (.int .u32 TA.lock))) ∧ (convert 28 9 (.slice A102 LS.length c102)).run Try.prog W = .ok (.string SS) W ∧ (convert 28 9 (.slice A105 LS.length c105)).run Try.prog W = .ok (.string SS) W ∧ (convert 28 9 (.slice A110 LA.length c110)).run Try.prog W = .ok (.string SA) W ∧ (convert 28 9 (.slice A113 LS.length c113)).run Try.prog W = .ok (.string SS) W)) _ := ⟨hHeld.1, hHeld.2.1, hHeld.2.2.1, hHeld.2.2.2, HCV113.out _ (Below.refl _ _)⟩
          refine wpAnyH_take (i := 13) (oi := ⟨some 114, _, _, _, _, _⟩) (v := ?_) rfl (by kernel_rfl) (by kernel_rfl) (by kernel_rfl) (fun _ _ _ h => h) (Or.inl ⟨by rfl, ?_⟩) hHeld ?_
          rotate_left
          · (intro wx hSw; (try dsimp only at hSw); obtain ⟨_, _, _, _, hcvt⟩ := hSw; go_simp; try with_reducible rfl)
          try simp only [Act.put, List.setIfInBounds_toArray, List.set_cons_zero, List.set_cons_succ]
          refine wpAnyH_take (i := 14) (oi := ⟨some 115, _, _, _, _, _⟩) (v := ?_) rfl (by kernel_rfl) (by kernel_rfl) (by kernel_rfl) (fun _ _ _ h => h) (Or.inl ⟨by rfl, ?_⟩) hHeld ?_
          rotate_left
          · (intro wx hSw; (try dsimp only at hSw); obtain _ := hSw; go_simp; try with_reducible rfl)
          try simp only [Act.put, List.setIfInBounds_toArray, List.set_cons_zero, List.set_cons_succ]
          refine wpAnyH_take (i := 17) (oi := ⟨some 118, _, _, _, _, _⟩) (v := ?_) rfl (by kernel_rfl) (by kernel_rfl) (by kernel_rfl) (fun _ _ _ h => h) (Or.inl ⟨by rfl, ?_⟩) hHeld ?_
          rotate_left
          · (intro wx hSw; (try dsimp only at hSw); obtain _ := hSw; go_simp; try with_reducible rfl)
          try simp only [Act.put, List.setIfInBounds_toArray, List.set_cons_zero, List.set_cons_succ]
          refine wpAnyH_take (i := 18) (oi := ⟨some 119, _, _, _, _, _⟩) (v := ?_) rfl (by kernel_rfl) (by kernel_rfl) (by kernel_rfl) (fun _ _ _ h => h) (Or.inl ⟨by rfl, ?_⟩) hHeld ?_
          rotate_left
          · (intro wx hSw; (try dsimp only at hSw); obtain _ := hSw; go_simp; try with_reducible rfl)
          try simp only [Act.put, List.setIfInBounds_toArray, List.set_cons_zero, List.set_cons_succ]
          refine wpAnyH_take (i := 19) (oi := ⟨some 120, _, _, _, _, _⟩) (v := ?_) rfl (by kernel_rfl) (by kernel_rfl) (by kernel_rfl) (fun _ _ _ h => h) (Or.inl ⟨by rfl, ?_⟩) hHeld ?_
          rotate_left
          · (intro wx hSw; (try dsimp only at hSw); obtain _ := hSw; go_simp; try with_reducible rfl)
          try simp only [Act.put, List.setIfInBounds_toArray, List.set_cons_zero, List.set_cons_succ]
          refine wpAnyH_ready (rs := [20]) (by kernel_rfl) (by simp) (AllReadyH.cons (o := ⟨some 121, _, _, _, _, _⟩) rfl (fun K hK => ?_) AllReadyH.nil)
          go_simp
          refine (HAW.out w19).mono ?_
          rintro e w20 ⟨rfl, hb20⟩
          have hb21 := hb113.trans (hb20.mono hb113.size)
          have z18 := hg113.low.trans (hb20.mono hg113.low.size)
          have z19 := hg110.low.trans (z18.mono hg110.low.size)
          have z20 := hg105.low.trans (z19.mono hg105.low.size)
          refine hK.out _ _ (⟨HC15.out _ hb21, HCV102.out _ z20, HCV105.out _ z19, HCV110.out _ z18, HCV113.out _ hb20⟩) (fun hHeld => ?_)
          clear hK K
          try simp only [Act.put, List.setIfInBounds_toArray, List.set_cons_zero, List.set_cons_succ]
          refine wpAnyH_take (i := 21) (oi := ⟨some 122, _, _, _, _, _⟩) (v := ?_) rfl (by kernel_rfl) (by kernel_rfl) (by kernel_rfl) (fun _ _ _ h => h) (Or.inl ⟨by rfl, ?_⟩) hHeld ?_
          rotate_left
          · (intro wx hSw; (try dsimp only at hSw); obtain _ := hSw; go_simp; try with_reducible rfl)
          try simp only [Act.put, List.setIfInBounds_toArray, List.set_cons_zero, List.set_cons_succ]
          refine wpAnyH_take (i := 22) (oi := ⟨some 8, _, _, _, _, _⟩) (v := ?_) rfl (by kernel_rfl) (by kernel_rfl) (by kernel_rfl) (fun _ _ _ h => h) (Or.inl ⟨by rfl, ?_⟩) hHeld ?_
          rotate_left
          · (intro wx hSw; (try dsimp only at hSw); obtain _ := hSw; go_simp; try with_reducible rfl)
          try simp only [Act.put, List.setIfInBounds_toArray, List.set_cons_zero, List.set_cons_succ]
          refine wpAnyH_done (by kernel_rfl) ?_ _
          refine NoPanic.normal ?_
          go_wp2_with fail
          go_ret
          exact ⟨rfl, HEND.out.trans (hb21.mono HZE.out)⟩

set_option maxRecDepth 100000 in
theorem lifted (os : Os) (started : os.Started) (H : Type) (enc : TypeId × Value → H) :
    ReturnsInHanded {} Try.checked os 7 .any (Rows.txnsBackSpec.pre6 enc Try.prog Try.f7 Rows.txnsBackRow.domain false) (Rows.txnsBackSpec.post enc Try.prog Try.f7 false true false false) := by
  refine returnsInHanded_of_change (C := Try.checked) ownKnobNone started (by kernel_rfl) Try.func7
    (ChangeSpec.witness6 (enc := enc) (C := Try.checked) false ⟨#[], #[.int .i64 0, .int .i64 0, .int .i64 0, .int .i64 0], []⟩ 8 (by kernel_rfl) (by kernel_rfl) (by kernel_rfl) (by kernel_rfl)) ?_
  intro W base args ds gs before hval0 hW _ _
  have hval : ∀ (j : Nat) t v, Try.f7.params[j]? = some t → args[j]? = some v → Value.okWide Try.prog W .any base t v := hval0
  have hW' := hW
  obtain ⟨p, q, hA0, hV, rfl, _, _⟩ := hW
  have hA : DataW.TrodAll enc Try.prog W 0 (fun _ => true) true Try.f7.params.toList args.toList ds p := hA0
  rw [Try.params7] at hA hval
  obtain ⟨v0, vs0, d0, ds0, p0, q0, hargs, rfl, rfl, h0, r0⟩ := trodAll_cons hA
  obtain ⟨v1, vs1, d1, ds1, p1, q1, rfl, rfl, rfl, h1, r1⟩ := trodAll_cons r0
  obtain ⟨v2, vs2, d2, ds2, p2, q2, rfl, rfl, rfl, h2, r2⟩ := trodAll_cons r1
  obtain ⟨v3, vs3, d3, ds3, p3, q3, rfl, rfl, rfl, h3, r3⟩ := trodAll_cons r2
  obtain ⟨rfl, rfl, rfl⟩ := trodAll_nil r3
  obtain rfl : args = #[v0, v1, v2, v3] := by cases args; simp_all
  obtain ⟨rfl, rfl⟩ := trodVars_none hV
  obtain ⟨a0, rfl, rfl, rfl, w0⟩ := open_int Try.underlying3 (hval 0 3 v0 rfl rfl) h0
  have b0 := bd_i64 w0
  obtain ⟨a1, rfl, rfl, rfl, w1⟩ := open_int Try.underlying3 (hval 1 3 v1 rfl rfl) h1
  have b1 := bd_i64 w1
  obtain ⟨a2, rfl, rfl, rfl, w2⟩ := open_int Try.underlying3 (hval 2 3 v2 rfl rfl) h2
  have b2 := bd_i64 w2
  obtain ⟨a3, rfl, rfl, rfl, w3⟩ := open_int Try.underlying3 (hval 3 3 v3 rfl rfl) h3
  have b3 := bd_i64 w3
  clear hA0 hval0
  refine (walk a0 a1 a2 a3 b0 b1 b2 b3 W).mono fun e W' ⟨he, hb⟩ => ?_
  subst he
  exact ⟨_, rfl, law_post hW' rfl rfl (by kernel_rfl) rfl hb⟩

set_option maxRecDepth 100000 in
theorem over : Rows.txnsBackRow.holds Try.pinned (OpenSpec.ofChange Rows.txnsBackSpec) :=
  OpenClaim.holds_of_wide 7 Try.f7 rfl rfl rfl rfl rfl rfl rfl ⟨rfl, rfl, rfl, rfl, rfl⟩ rfl rfl rfl rfl rfl (by kernel_rfl) Try.func7 (by kernel_rfl)
    (of_decide_eq_true (by kernel_rfl)) (by unfold Func.isWrapper; first | (rw [if_pos (by decide +kernel)]; kernel_rfl) | (rw [if_neg (by decide +kernel)]; exact ⟨rfl, rfl⟩))
    (fun os started H enc _ => lifted os started H enc)

/-- The statement. -/
theorem proved : Rows.TxnsBackSaid :=
  over
end Go.Proofs.Ythkjhfdafjlllaa.lawBk
