/- The document's own Same: two transactions are the same. -/
import Derived.Test.YtojeonepplfhlaaSmA
import Derived.Test.YtojeonepplfhlaaTxN
import Derived.Deep.RegionHeld3
import Derived.Deep.DeepCutAuto
namespace Go.Proofs.Ytojeonepplfhlaa
open Go.RowKit

/-- The cells of an input that was made just now. -/
def z36 : Array Value := #[Value.int .u8 0, .int .u8 0, .int .u8 0, .int .u8 0, .int .u8 0, .int .u8 0, .int .u8 0, .int .u8 0, .int .u8 0, .int .u8 0, .int .u8 0, .int .u8 0, .int .u8 0, .int .u8 0, .int .u8 0, .int .u8 0, .int .u8 0, .int .u8 0, .int .u8 0, .int .u8 0, .int .u8 0, .int .u8 0, .int .u8 0, .int .u8 0, .int .u8 0, .int .u8 0, .int .u8 0, .int .u8 0, .int .u8 0, .int .u8 0, .int .u8 0, .int .u8 0, .int .u32 0, .slice none 0 0, .int .u32 0, .slice none 0 0]
set_option maxRecDepth 100000 in
/-- Some cells of a row loaded, as one step of a region that draws its order. -/
theorem step_load_mid {P : Program} {ops : Array Oper} {o : Oper} {a : Act} {w : World} {K : Act → World → Prop} {Q : Exit → Act → World → Prop} {E : Prop} (hgd : o.guard = none) (ty : TypeId) (x : Operand) (ho : o.op = .load ty x)
    (b off : Nat) (hx : a.eval x = .pointer (some ⟨b, off, none⟩)) (cs : List Value) (d : TypeDesc) (hc : w.rangeAt b off cs)
    (hu : P.underlying ty = some d) (hd : d.isRow = true) (hi : (P.info? ty).map (·.size) = some cs.length)
    (h : K (a.put o.dst (.agg cs.toArray)) w) : if Region.wanted o (yielded ops a.tmps) = true then Oper.wp P o a w K Q else E := by
  have hwd : Region.wanted o (yielded ops a.tmps) = true := by simp [Region.wanted, hgd]
  rw [if_pos hwd]
  exact wp_load_mid ty x ho b off hx cs d hc hu hd hi h
theorem tx_info : (Try.prog.info? 26).map (·.size) = some 4 := by kernel_rfl

set_option linter.unusedSimpArgs false in
set_option maxRecDepth 10000000 in
set_option maxHeartbeats 8000000 in
theorem refSame_any (W : World) (v1 v2 : Value) (t1 t2 : TxD) (h1 : TxR W v1 t1) (h2 : TxR W v2 t2) : Calls Try.prog 13 #[v1, v2] W (BoolP (decide (t1 = t2)) W) := by
  rw [← sameB_dec]
  obtain ⟨iv1, ov1, rfl, _, _, hi1, ho1⟩ := h1
  obtain ⟨iv2, ov2, rfl, _, _, hi2, ho2⟩ := h2
  have HD : Kp (sameB t1 t2 = (decide (t1.version = t2.version) && (decide (t1.lock = t2.lock) && (eqB sameInB t1.ins t2.ins && eqB sameOutB t1.outs t2.outs)))) := ⟨rfl⟩
  obtain ⟨Ai1, ci1, rfl, hic1, him1⟩ := hi1.slice
  obtain ⟨Ai2, ci2, rfl, hic2, him2⟩ := hi2.slice
  obtain ⟨Ao1, co1, rfl, hoc1, hom1⟩ := ho1.slice
  obtain ⟨Ao2, co2, rfl, hoc2, hom2⟩ := ho2.slice
  unfold maxLen at him1 him2 hom1 hom2
  obtain ⟨C1, hC1⟩ : ∃ C1, #[Value.int .u32 t1.version, .slice Ai1 t1.ins.length ci1, .slice Ao1 t1.outs.length co1, .int .u32 t1.lock] = C1 := ⟨_, rfl⟩
  obtain ⟨C2, hC2⟩ : ∃ C2, #[Value.int .u32 t2.version, .slice Ai2 t2.ins.length ci2, .slice Ao2 t2.outs.length co2, .int .u32 t2.lock] = C2 := ⟨_, rfl⟩
  have hb0 : Below W.heap.size W ((W.alloc (.cells C1 26)).alloc (.cells C2 26)) := ((Below.refl _ _).alloc (Nat.le_refl _) _).alloc (by simp) _
  have x1 : Box ((W.alloc (.cells C1 26)).alloc (.cells C2 26)) W.heap.size 26 C1 := heap_alloc2_old W _ _
  have x2 : Box ((W.alloc (.cells C1 26)).alloc (.cells C2 26)) (W.heap.size + 1) 26 C2 := heap_alloc2_new W _ _
  have hz : ((W.alloc (.cells C1 26)).alloc (.cells C2 26)).heap.size = W.heap.size + 2 := by simp
  obtain ⟨W1, hW1⟩ : ∃ W1, (W.alloc (.cells C1 26)).alloc (.cells C2 26) = W1 := ⟨_, rfl⟩
  rw [hW1] at hb0 x1 x2
  have HI1 := Kp.mk (ins_below hi1 hb0)
  have HI2 := Kp.mk (ins_below hi2 hb0)
  have HO1 := Kp.mk (outs_below ho1 hb0)
  have HO2 := Kp.mk (outs_below ho2 hb0)
  have HX : Kp (Box W1 W.heap.size 26 C1 ∧ Box W1 (W.heap.size + 1) 26 C2) := ⟨x1, x2⟩
  have HB := Kp.mk hb0
  have HC : Kp ((C1[0]? = some (.int .u32 t1.version) ∧ C1[1]? = some (.slice Ai1 t1.ins.length ci1) ∧ C1[2]? = some (.slice Ao1 t1.outs.length co1) ∧ C1[3]? = some (.int .u32 t1.lock)) ∧ (C2[0]? = some (.int .u32 t2.version) ∧ C2[1]? = some (.slice Ai2 t2.ins.length ci2) ∧ C2[2]? = some (.slice Ao2 t2.outs.length co2) ∧ C2[3]? = some (.int .u32 t2.lock))) := ⟨by rw [← hC1, ← hC2]; exact ⟨⟨rfl, rfl, rfl, rfl⟩, rfl, rfl, rfl, rfl⟩⟩
  have HCELL : Kp (∀ w, Below W1.heap.size W1 w → (w.cell? ⟨W.heap.size, 0, none⟩ = some (.int .u32 t1.version) ∧ w.cell? ⟨W.heap.size, 1, none⟩ = some (.slice Ai1 t1.ins.length ci1) ∧ w.cell? ⟨W.heap.size, 2, none⟩ = some (.slice Ao1 t1.outs.length co1) ∧ w.cell? ⟨W.heap.size, 3, none⟩ = some (.int .u32 t1.lock)) ∧ (w.cell? ⟨W.heap.size + 1, 0, none⟩ = some (.int .u32 t2.version) ∧ w.cell? ⟨W.heap.size + 1, 1, none⟩ = some (.slice Ai2 t2.ins.length ci2) ∧ w.cell? ⟨W.heap.size + 1, 2, none⟩ = some (.slice Ao2 t2.outs.length co2) ∧ w.cell? ⟨W.heap.size + 1, 3, none⟩ = some (.int .u32 t2.lock))) := ⟨fun w hb => by
    have y1 := HX.out.1.below hb
    have y2 := HX.out.2.below hb
    simp only [y1.cell, y2.cell]
    exact HC.out⟩
  have HW : Kp (∀ K, (W.alloc (.cells #[Value.int .u32 t1.version, .slice Ai1 t1.ins.length ci1, .slice Ao1 t1.outs.length co1, .int .u32 t1.lock] 26)).alloc (.cells #[Value.int .u32 t2.version, .slice Ai2 t2.ins.length ci2, .slice Ao2 t2.outs.length co2, .int .u32 t2.lock] 26) = K → K = W1) := ⟨fun K h => by rw [← h, hC1, hC2, hW1]⟩
  obtain ⟨⟨k1, k2, k3, k4⟩, l1, l2, l3, l4⟩ := HCELL.out W1 (Below.refl _ _)
  clear hb0 x1 x2 hz hC1 hC2 hW1 hi1 hi2 ho1 ho2
  go_enter Try.func13, Try.ntmps13
  go_upto_region 1 with fail
  simp only [HW.out _ rfl]
  by_cases q1 : t1.version = t2.version
  · rw [← q1] at HCELL l1
    by_cases q2 : t1.lock = t2.lock
    · rw [← q2] at HCELL l4
      by_cases q3 : t1.ins.length = t2.ins.length
      · rw [← q3] at HCELL l2 hic2
        by_cases q4 : t1.outs.length = t2.outs.length
        · rw [← q4] at HCELL l3 hoc2
          have HQ : Kp (sameB t1 t2 = (eqB sameInB t1.ins t2.ins && eqB sameOutB t1.outs t2.outs)) := ⟨by rw [HD.out]; simp [q1, q2]⟩
          have HQ3 := Kp.mk q3
          have HQ4 := Kp.mk q4
          clear q1 q2 q3 q4
          go_wp2
          go_loopw [5, 6, 7] (fun i _ _ wr => ∃ j : Nat, j ≤ t1.ins.length ∧ i = .int .i64 j ∧ Kp (Below W1.heap.size W1 wr) ∧ Kp (∀ (q : Nat) (h1 : q < t1.ins.length) (h2 : q < t2.ins.length), q < j → sameInB t1.ins[q] t2.ins[q] = true)) (fun i _ _ _ => t1.ins.length - (intOf i).toNat)
          case atStart => exact ⟨0, Nat.zero_le _, rfl, ⟨Below.refl _ _⟩, ⟨fun _ _ _ h => absurd h (Nat.not_lt_zero _)⟩⟩
          case round =>
            obtain ⟨j, hj, rfl, BW, NO⟩ := hrel
            obtain ⟨⟨k1, k2, k3, k4⟩, l1, l2, l3, l4⟩ := HCELL.out wr BW.out
            by_cases hjl : j < t1.ins.length
            · have hjl2 : j < t2.ins.length := by rw [← HQ3.out]; exact hjl
              obtain ⟨b1, o1, cs1, rfl, hlt1, hk1, hcs1, hR1⟩ := HI1.out.at hjl
              obtain ⟨b2, o2, cs2, rfl, hlt2, hk2, hcs2, hR2⟩ := HI2.out.at hjl2
              have HCS : Kp (∀ W, Below wr.heap.size wr W → W.rangeAt b1 (o1 + j * 36) cs1 ∧ W.rangeAt b2 (o2 + j * 36) cs2) := ⟨fun w hb => ⟨rangeAt_block hcs1 ((BW.out.trans (hb.mono BW.out.size)).block b1 hlt1), rangeAt_block hcs2 ((BW.out.trans (hb.mono BW.out.size)).block b2 hlt2)⟩⟩
              have HK1 : Kp ((Try.prog.info? 47).map (·.size) = some cs1.length) := ⟨by rw [hk1]; exact sizeIn⟩
              have HK2 : Kp ((Try.prog.info? 47).map (·.size) = some cs2.length) := ⟨by rw [hk2]; exact sizeIn⟩
              have HO36 : Kp (cs1.toArray.all (·.oneCell') = true ∧ cs2.toArray.all (·.oneCell') = true) := ⟨all_oneCell_toArray hR1.one, all_oneCell_toArray hR2.one⟩
              have hjl' : (j : Int) < (t1.ins.length : Int) := by omega
              have HJ : Kp (j < t1.ins.length) := ⟨hjl⟩
              have HL36 : Kp (cs1.length = 36 ∧ cs2.length = 36) := ⟨hk1, hk2⟩
              have HR : Kp (InR W1 cs1 t1.ins[j] ∧ InR W1 cs2 t2.ins[j]) := ⟨hR1, hR2⟩
              have HS : Kp (∀ K, Below wr.heap.size wr K → K.rangeAt b1 (o1 + j * 36) cs1 ∧ K.rangeAt b2 (o2 + j * 36) cs2 ∧ K.cell? ⟨W.heap.size, 1, none⟩ = some (.slice (some ⟨b1, o1, none⟩) t1.ins.length ci1) ∧ K.cell? ⟨W.heap.size + 1, 1, none⟩ = some (.slice (some ⟨b2, o2, none⟩) t1.ins.length ci2)) := ⟨fun K hb => ⟨(HCS.out K hb).1, (HCS.out K hb).2, (HCELL.out K (BW.out.trans (hb.mono BW.out.size))).1.2.1, (HCELL.out K (BW.out.trans (hb.mono BW.out.size))).2.2.1⟩⟩
              have HZ36 : Kp (#[Value.int .u8 0, .int .u8 0, .int .u8 0, .int .u8 0, .int .u8 0, .int .u8 0, .int .u8 0, .int .u8 0, .int .u8 0, .int .u8 0, .int .u8 0, .int .u8 0, .int .u8 0, .int .u8 0, .int .u8 0, .int .u8 0, .int .u8 0, .int .u8 0, .int .u8 0, .int .u8 0, .int .u8 0, .int .u8 0, .int .u8 0, .int .u8 0, .int .u8 0, .int .u8 0, .int .u8 0, .int .u8 0, .int .u8 0, .int .u8 0, .int .u8 0, .int .u8 0, .int .u32 0, .slice none 0 0, .int .u32 0, .slice none 0 0] = z36) := ⟨rfl⟩
              have HSZ36 : Kp (z36.size = 36) := ⟨rfl⟩
              clear hk1 hk2 hcs1 hcs2 hR1 hR2 hlt1 hlt2
              go_upto_region 6 with fail
              go_cut [6, 7] (fun p q wx => ∃ (g h : Nat), Kp (p = .pointer (some ⟨g, 0, none⟩) ∧ q = .pointer (some ⟨h, 0, none⟩) ∧ Box wx g 47 cs1.toArray ∧ Box wx h 47 cs2.toArray ∧ Below wr.heap.size wr wx))
              case first =>
                refine wp_region_noPanic ?_
                refine wp_region_held_drew (S := (fun K => K.rangeAt b1 (o1 + j * 36) cs1 ∧ K.rangeAt b2 (o2 + j * 36) cs2 ∧ K.cell? ⟨W.heap.size, 1, none⟩ = some (.slice (some ⟨b1, o1, none⟩) t1.ins.length ci1) ∧ K.cell? ⟨W.heap.size + 1, 1, none⟩ = some (.slice (some ⟨b2, o2, none⟩) t1.ins.length ci2))) (by kernel_rfl) ?_ (fun hHeld => ?_)
                · exact HS.out _ (Below.refl _ _).drew
                refine wpAnyH_take (i := 0) (oi := ⟨some 46, _, _, _, _, _⟩) (v := ?_) rfl (by kernel_rfl) (by kernel_rfl) (by kernel_rfl) (fun _ _ _ h => h) (Or.inl ⟨by rfl, ?_⟩) hHeld ?_
                rotate_left
                · (intro wx hSw; (try dsimp only at hSw); obtain ⟨_, _, hs3, hs4⟩ := hSw; go_simp; try with_reducible rfl)
                try simp only [Act.put, List.setIfInBounds_toArray, List.set_cons_zero, List.set_cons_succ]
                refine wpAnyH_take (i := 1) (oi := ⟨some 47, _, _, _, _, _⟩) (v := ?_) rfl (by kernel_rfl) (by kernel_rfl) (by kernel_rfl) (fun _ _ _ h => h) (Or.inl ⟨by rfl, ?_⟩) hHeld ?_
                rotate_left
                · (intro wx hSw; (try dsimp only at hSw); obtain ⟨_, _, hs3, hs4⟩ := hSw; go_simp; try with_reducible rfl)
                try simp only [Act.put, List.setIfInBounds_toArray, List.set_cons_zero, List.set_cons_succ]
                refine wpAnyH_take (i := 2) (oi := ⟨some 48, _, _, _, _, _⟩) (v := ?_) rfl (by kernel_rfl) (by kernel_rfl) (by kernel_rfl) (fun _ _ _ h => h) (Or.inl ⟨by rfl, ?_⟩) hHeld ?_
                rotate_left
                · (intro wx hSw; (try dsimp only at hSw); obtain ⟨_, _, hs3, hs4⟩ := hSw; go_simp; try with_reducible rfl)
                try simp only [Act.put, List.setIfInBounds_toArray, List.set_cons_zero, List.set_cons_succ]
                refine wpAnyH_take (i := 3) (oi := ⟨some 49, _, _, _, _, _⟩) (v := ?_) rfl (by kernel_rfl) (by kernel_rfl) (by kernel_rfl) (fun _ _ _ h => h) (Or.inl ⟨by rfl, ?_⟩) hHeld ?_
                rotate_left
                · (intro wx hSw; (try dsimp only at hSw); obtain ⟨_, _, hs3, hs4⟩ := hSw; go_simp; try with_reducible rfl)
                try simp only [Act.put, List.setIfInBounds_toArray, List.set_cons_zero, List.set_cons_succ]
                refine wpAnyH_take (i := 4) (oi := ⟨some 50, _, _, _, _, _⟩) (v := .agg cs1.toArray) rfl (by kernel_rfl) (by kernel_rfl) (by kernel_rfl) (fun _ _ _ h => h) (yieldsIf_load_mid rfl 47 (.tmp 49) rfl b1 (o1 + j * 36) rfl cs1 _ (fun _ h => h.1) Try.underlying47 rfl HK1.out) hHeld ?_
                try simp only [Act.put, List.setIfInBounds_toArray, List.set_cons_zero, List.set_cons_succ]
                refine wpAnyH_take (i := 5) (oi := ⟨some 51, _, _, _, _, _⟩) (v := ?_) rfl (by kernel_rfl) (by kernel_rfl) (by kernel_rfl) (fun _ _ _ h => h) (Or.inl ⟨by rfl, ?_⟩) hHeld ?_
                rotate_left
                · (intro wx hSw; (try dsimp only at hSw); obtain ⟨_, _, hs3, hs4⟩ := hSw; go_simp; try with_reducible rfl)
                try simp only [Act.put, List.setIfInBounds_toArray, List.set_cons_zero, List.set_cons_succ]
                refine wpAnyH_take (i := 6) (oi := ⟨some 52, _, _, _, _, _⟩) (v := ?_) rfl (by kernel_rfl) (by kernel_rfl) (by kernel_rfl) (fun _ _ _ h => h) (Or.inl ⟨by rfl, ?_⟩) hHeld ?_
                rotate_left
                · (intro wx hSw; (try dsimp only at hSw); obtain ⟨_, _, hs3, hs4⟩ := hSw; go_simp; try with_reducible rfl)
                try simp only [Act.put, List.setIfInBounds_toArray, List.set_cons_zero, List.set_cons_succ]
                refine wpAnyH_take (i := 7) (oi := ⟨some 53, _, _, _, _, _⟩) (v := ?_) rfl (by kernel_rfl) (by kernel_rfl) (by kernel_rfl) (fun _ _ _ h => h) (Or.inl ⟨by rfl, ?_⟩) hHeld ?_
                rotate_left
                · (intro wx hSw; (try dsimp only at hSw); obtain ⟨_, _, hs3, hs4⟩ := hSw; go_simp; try with_reducible rfl)
                try simp only [Act.put, List.setIfInBounds_toArray, List.set_cons_zero, List.set_cons_succ]
                refine wpAnyH_take (i := 8) (oi := ⟨some 54, _, _, _, _, _⟩) (v := ?_) rfl (by kernel_rfl) (by kernel_rfl) (by kernel_rfl) (fun _ _ _ h => h) (Or.inl ⟨by rfl, ?_⟩) hHeld ?_
                rotate_left
                · (intro wx hSw; (try dsimp only at hSw); obtain ⟨_, _, hs3, hs4⟩ := hSw; go_simp; try with_reducible rfl)
                try simp only [Act.put, List.setIfInBounds_toArray, List.set_cons_zero, List.set_cons_succ]
                refine wpAnyH_take (i := 9) (oi := ⟨some 55, _, _, _, _, _⟩) (v := .agg cs2.toArray) rfl (by kernel_rfl) (by kernel_rfl) (by kernel_rfl) (fun _ _ _ h => h) (yieldsIf_load_mid rfl 47 (.tmp 54) rfl b2 (o2 + j * 36) rfl cs2 _ (fun _ h => h.2.1) Try.underlying47 rfl HK2.out) hHeld ?_
                try simp only [Act.put, List.setIfInBounds_toArray, List.set_cons_zero, List.set_cons_succ]
                refine wpAnyH_ready (rs := [10, 11]) (by kernel_rfl) (by simp) (AllReadyH.cons (o := ⟨some 6, _, _, _, _, _⟩) rfl (fun K hK => ?_) (AllReadyH.cons (o := ⟨some 7, _, _, _, _, _⟩) rfl (fun K hK => ?_) AllReadyH.nil))
                · go_simp
                  rw [HZ36.out]
                  refine hK.out _ _ (HS.out _ (by repeat' (first | exact Below.refl _ _ | apply Below.drew | apply Below.alloc | exact Nat.le_refl _ | (simp only [alloc_size]; omega)))) (fun hHeld => ?_)
                  clear hK K
                  try simp only [Act.put, List.setIfInBounds_toArray, List.set_cons_zero, List.set_cons_succ]
                  refine wpAnyH_ready (rs := [11]) (by kernel_rfl) (by simp) (AllReadyH.cons (o := ⟨some 7, _, _, _, _, _⟩) rfl (fun K hK => ?_) AllReadyH.nil)
                  go_simp
                  rw [HZ36.out]
                  refine hK.out _ _ (HS.out _ (by repeat' (first | exact Below.refl _ _ | apply Below.drew | apply Below.alloc | exact Nat.le_refl _ | (simp only [alloc_size]; omega)))) (fun hHeld => ?_)
                  clear hK K
                  try simp only [Act.put, List.setIfInBounds_toArray, List.set_cons_zero, List.set_cons_succ]
                  obtain ⟨W2, hW2, y1, y2, hbb⟩ : ∃ W2, ((wr.alloc (.cells z36 47)).alloc (.cells z36 47)).drew = W2 ∧ Box W2 wr.heap.size 47 z36 ∧ Box W2 (wr.heap.size + 1) 47 z36 ∧ Below wr.heap.size wr W2 := ⟨_, rfl, heap_alloc2_old wr _ _, heap_alloc2_new wr _ _, (by repeat' (first | exact Below.refl _ _ | apply Below.drew | apply Below.alloc | exact Nat.le_refl _ | (simp only [alloc_size]; omega)))⟩
                  rw [hW2]
                  refine wpAnyH_ready (rs := [12]) (by kernel_rfl) (by simp) (AllReadyH.cons (o := ⟨none, _, _, _, _, _⟩) rfl (fun K hK => ?_) AllReadyH.nil)
                  refine wp_store_row 47 (.tmp 6) (.tmp 50) rfl (wr.heap.size) cs1.toArray rfl rfl 47 z36 y1 (by simpa using HK1.out) (by rw [HSZ36.out]; simp [HL36.out.1]) HO36.out.1 ?_
                  have hb3 := hbb.trans (Below.setRow_self (B := wr.heap.size) (G := wr.heap.size) (w := W2) (by omega) cs1.toArray)
                  refine hK.out _ _ (HS.out _ hb3) (fun hHeld => ?_)
                  clear hK K
                  try simp only [Act.put, List.setIfInBounds_toArray, List.set_cons_zero, List.set_cons_succ]
                  have z6 := setRow_box y1 cs1.toArray
                  have z7 : Box (W2.setRow (wr.heap.size) cs1.toArray) (wr.heap.size + 1) 47 z36 := (setRow_other W2 (wr.heap.size) (wr.heap.size + 1) cs1.toArray (by omega)).trans y2
                  obtain ⟨W3, hW3⟩ : ∃ W3, W2.setRow (wr.heap.size) cs1.toArray = W3 := ⟨_, rfl⟩
                  rw [hW3] at z6 z7 hb3 ⊢
                  refine wpAnyH_ready (rs := [13]) (by kernel_rfl) (by simp) (AllReadyH.cons (o := ⟨none, _, _, _, _, _⟩) rfl (fun K hK => ?_) AllReadyH.nil)
                  refine wp_store_row 47 (.tmp 7) (.tmp 55) rfl (wr.heap.size + 1) cs2.toArray rfl rfl 47 z36 z7 (by simpa using HK2.out) (by rw [HSZ36.out]; simp [HL36.out.2]) HO36.out.2 ?_
                  have hb4 := hb3.trans (Below.setRow_self (B := wr.heap.size) (G := wr.heap.size + 1) (w := W3) (by omega) cs2.toArray)
                  refine hK.out _ _ (HS.out _ hb4) (fun hHeld => ?_)
                  clear hK K
                  try simp only [Act.put, List.setIfInBounds_toArray, List.set_cons_zero, List.set_cons_succ]
                  refine wpAnyH_done (by kernel_rfl) ?_ _
                  refine NoPanic.normal ?_
                  go_wp2_with fail
                  go_meet
                  exact ⟨_, _, ⟨rfl, rfl, (setRow_other W3 (wr.heap.size + 1) (wr.heap.size) cs2.toArray (by omega)).trans z6, setRow_box z7 cs2.toArray, hb4⟩⟩
                · go_simp
                  rw [HZ36.out]
                  refine hK.out _ _ (HS.out _ (by repeat' (first | exact Below.refl _ _ | apply Below.drew | apply Below.alloc | exact Nat.le_refl _ | (simp only [alloc_size]; omega)))) (fun hHeld => ?_)
                  clear hK K
                  try simp only [Act.put, List.setIfInBounds_toArray, List.set_cons_zero, List.set_cons_succ]
                  refine wpAnyH_ready (rs := [10]) (by kernel_rfl) (by simp) (AllReadyH.cons (o := ⟨some 6, _, _, _, _, _⟩) rfl (fun K hK => ?_) AllReadyH.nil)
                  go_simp
                  rw [HZ36.out]
                  refine hK.out _ _ (HS.out _ (by repeat' (first | exact Below.refl _ _ | apply Below.drew | apply Below.alloc | exact Nat.le_refl _ | (simp only [alloc_size]; omega)))) (fun hHeld => ?_)
                  clear hK K
                  try simp only [Act.put, List.setIfInBounds_toArray, List.set_cons_zero, List.set_cons_succ]
                  obtain ⟨W2, hW2, y1, y2, hbb⟩ : ∃ W2, ((wr.alloc (.cells z36 47)).alloc (.cells z36 47)).drew = W2 ∧ Box W2 wr.heap.size 47 z36 ∧ Box W2 (wr.heap.size + 1) 47 z36 ∧ Below wr.heap.size wr W2 := ⟨_, rfl, heap_alloc2_old wr _ _, heap_alloc2_new wr _ _, (by repeat' (first | exact Below.refl _ _ | apply Below.drew | apply Below.alloc | exact Nat.le_refl _ | (simp only [alloc_size]; omega)))⟩
                  rw [hW2]
                  refine wpAnyH_ready (rs := [12]) (by kernel_rfl) (by simp) (AllReadyH.cons (o := ⟨none, _, _, _, _, _⟩) rfl (fun K hK => ?_) AllReadyH.nil)
                  refine wp_store_row 47 (.tmp 6) (.tmp 50) rfl (wr.heap.size + 1) cs1.toArray rfl rfl 47 z36 y2 (by simpa using HK1.out) (by rw [HSZ36.out]; simp [HL36.out.1]) HO36.out.1 ?_
                  have hb3 := hbb.trans (Below.setRow_self (B := wr.heap.size) (G := wr.heap.size + 1) (w := W2) (by omega) cs1.toArray)
                  refine hK.out _ _ (HS.out _ hb3) (fun hHeld => ?_)
                  clear hK K
                  try simp only [Act.put, List.setIfInBounds_toArray, List.set_cons_zero, List.set_cons_succ]
                  have z6 := setRow_box y2 cs1.toArray
                  have z7 : Box (W2.setRow (wr.heap.size + 1) cs1.toArray) (wr.heap.size) 47 z36 := (setRow_other W2 (wr.heap.size + 1) (wr.heap.size) cs1.toArray (by omega)).trans y1
                  obtain ⟨W3, hW3⟩ : ∃ W3, W2.setRow (wr.heap.size + 1) cs1.toArray = W3 := ⟨_, rfl⟩
                  rw [hW3] at z6 z7 hb3 ⊢
                  refine wpAnyH_ready (rs := [13]) (by kernel_rfl) (by simp) (AllReadyH.cons (o := ⟨none, _, _, _, _, _⟩) rfl (fun K hK => ?_) AllReadyH.nil)
                  refine wp_store_row 47 (.tmp 7) (.tmp 55) rfl (wr.heap.size) cs2.toArray rfl rfl 47 z36 z7 (by simpa using HK2.out) (by rw [HSZ36.out]; simp [HL36.out.2]) HO36.out.2 ?_
                  have hb4 := hb3.trans (Below.setRow_self (B := wr.heap.size) (G := wr.heap.size) (w := W3) (by omega) cs2.toArray)
                  refine hK.out _ _ (HS.out _ hb4) (fun hHeld => ?_)
                  clear hK K
                  try simp only [Act.put, List.setIfInBounds_toArray, List.set_cons_zero, List.set_cons_succ]
                  refine wpAnyH_done (by kernel_rfl) ?_ _
                  refine NoPanic.normal ?_
                  go_wp2_with fail
                  go_meet
                  exact ⟨_, _, ⟨rfl, rfl, (setRow_other W3 (wr.heap.size) (wr.heap.size + 1) cs2.toArray (by omega)).trans z6, setRow_box z7 cs2.toArray, hb4⟩⟩
              case rest =>
                obtain ⟨g, h, ⟨rfl, rfl, y1, y2, hbx⟩⟩ := hcut
                obtain ⟨wx, rfl⟩ : ∃ wx : World, wx = wc := ⟨_, rfl⟩
                obtain ⟨hR1, hR2⟩ := HR.out
                have HNO : Kp (sameInB t1.ins[j] t2.ins[j] = true → ∀ (q : Nat) (h1 : q < t1.ins.length) (h2 : q < t2.ins.length), q < j + 1 → sameInB t1.ins[q] t2.ins[q] = true) := ⟨fun hq q h1 h2 h3 => by
                  rcases Nat.lt_or_ge q j with h4 | h4
                  · exact NO.out q h1 h2 h4
                  · obtain rfl : q = j := by omega
                    exact hq⟩
                have HNN : Kp (sameInB t1.ins[j] t2.ins[j] = false → sameB t1 t2 = false) := ⟨fun hq => by rw [HQ.out, eqB_no hjl hjl2 hq]; rfl⟩
                obtain ⟨X, hX⟩ : ∃ X, t1.ins[j] = X := ⟨_, rfl⟩
                obtain ⟨Y, hY⟩ : ∃ Y, t2.ins[j] = Y := ⟨_, rfl⟩
                rw [hX] at hR1 HNO HNN
                rw [hY] at hR2 HNO HNN
                obtain ⟨sv1, wv1, rfl, hf1, hs1, hw1⟩ := hR1
                obtain ⟨sv2, wv2, rfl, hf2, hs2, hw2⟩ := hR2
                have hbW : Below W1.heap.size W1 wx := BW.out.trans (hbx.mono BW.out.size)
                have hr1 := inCells_range y1
                have hr2 := inCells_range y2
                have a32 : wx.cell? ⟨g, 32, none⟩ = some (.int .u32 X.vout) := (y1.cell 32).trans (by simpa using inCells_vout hf1 sv1 wv1)
                have a33 : wx.cell? ⟨g, 33, none⟩ = some sv1 := (y1.cell 33).trans (by simpa using inCells_script hf1 sv1 wv1)
                have a34 : wx.cell? ⟨g, 34, none⟩ = some (.int .u32 X.seq) := (y1.cell 34).trans (by simpa using inCells_seq hf1 sv1 wv1)
                have a35 : wx.cell? ⟨g, 35, none⟩ = some wv1 := (y1.cell 35).trans (by simpa using inCells_wit hf1 sv1 wv1)
                have b32 : wx.cell? ⟨h, 32, none⟩ = some (.int .u32 Y.vout) := (y2.cell 32).trans (by simpa using inCells_vout hf2 sv2 wv2)
                have b33 : wx.cell? ⟨h, 33, none⟩ = some sv2 := (y2.cell 33).trans (by simpa using inCells_script hf2 sv2 wv2)
                have b34 : wx.cell? ⟨h, 34, none⟩ = some (.int .u32 Y.seq) := (y2.cell 34).trans (by simpa using inCells_seq hf2 sv2 wv2)
                have b35 : wx.cell? ⟨h, 35, none⟩ = some wv2 := (y2.cell 35).trans (by simpa using inCells_wit hf2 sv2 wv2)
                have he := eql_prev X.prev Y.prev hf1.pbys hf2.pbys hf1.plen hf2.plen wx
                have HSZ : Kp ((Try.prog.info? 45).map (·.size) = some (byteVals X.prev).length ∧ (Try.prog.info? 45).map (·.size) = some (byteVals Y.prev).length) := by
                  constructor
                  constructor
                  · simp only [byteVals, List.length_map, hf1.plen]; kernel_rfl
                  · simp only [byteVals, List.length_map, hf2.plen]; kernel_rfl
                have hv1 := run_str (hs1.below hbW).1
                have hv2 := run_str (hs2.below hbW).1
                have hq0 := str_eqB hs1.2.1 hs2.2.1
                have HEQ := Kp.mk (rsrows_any wx wv1 wv2 X.wit Y.wit (rws_below hw1 hbW) (rws_below hw2 hbW))
                have HR1 := Kp.mk hr1
                have HR2 := Kp.mk hr2
                have HBX := Kp.mk hbW
                have HIN : Kp (sameInB X Y = (decide (X.prev = Y.prev) && (decide (X.vout = Y.vout) && (decide (X.seq = Y.seq) && (decide (X.script = Y.script) && eqB beqB X.wit Y.wit))))) := ⟨rfl⟩
                obtain ⟨S1, hS1⟩ : ∃ S, strOfNums X.script = S := ⟨_, rfl⟩
                obtain ⟨S2, hS2⟩ : ∃ S, strOfNums Y.script = S := ⟨_, rfl⟩
                rw [hS1, hS2] at hq0
                rw [hS1] at hv1
                rw [hS2] at hv2
                obtain ⟨DS, hDS⟩ : ∃ D, decide (X.script = Y.script) = D := ⟨_, rfl⟩
                rw [hDS] at hq0 HIN
                obtain ⟨RW, hRW⟩ : ∃ R, eqB beqB X.wit Y.wit = R := ⟨_, rfl⟩
                rw [hRW] at HIN HEQ
                clear hr1 hr2 hf1 hf2 hs1 hs2 hw1 hw2 y1 y2 hbx hX hY hS1 hS2 hDS hRW hbW HCS HS HO36 HK1 HK2 HR HL36
                by_cases q1 : X.prev = Y.prev
                · rw [decide_eq_true q1] at he
                  by_cases q2 : X.vout = Y.vout
                  · rw [← q2] at b32
                    by_cases q3 : X.seq = Y.seq
                    · rw [← q3] at b34
                      cases DS with
                      | true =>
                        cases RW with
                        | true =>
                          have HT := Kp.mk (HNO.out (by rw [HIN.out, q1, q2, q3]; simp))
                          clear HNO HNN HIN q1 q2 q3
                          go_wp2_with (first | (have hz1 := HR1; refine wpList_load_mid rfl 45 (.tmp 56) rfl g 0 rfl (byteVals X.prev) _ HR1.out Try.underlying45 rfl HSZ.out.1 ?_; clear HR1 hz1) | (have hz2 := HR2; refine wpList_load_mid rfl 45 (.tmp 58) rfl h 0 rfl (byteVals Y.prev) _ HR2.out Try.underlying45 rfl HSZ.out.2 ?_; clear HR2 hz2) | (go_at_call 39; refine HEQ.out.mono ?_; rintro e w1 ⟨rfl, hb1⟩))
                          exact ⟨⟨j + 1, by have := HJ.out; omega, by go_num, ⟨HBX.out.trans (hb1.mono HBX.out.size)⟩, HT⟩, by simp [intOf]; have := HJ.out; omega⟩
                        | false =>
                          have HF := Kp.mk (HNN.out (by rw [HIN.out]; simp))
                          clear HNO HNN HIN q1 q2 q3
                          go_wp2_with (first | (have hz1 := HR1; refine wpList_load_mid rfl 45 (.tmp 56) rfl g 0 rfl (byteVals X.prev) _ HR1.out Try.underlying45 rfl HSZ.out.1 ?_; clear HR1 hz1) | (have hz2 := HR2; refine wpList_load_mid rfl 45 (.tmp 58) rfl h 0 rfl (byteVals Y.prev) _ HR2.out Try.underlying45 rfl HSZ.out.2 ?_; clear HR2 hz2) | (go_at_call 39; refine HEQ.out.mono ?_; rintro e w1 ⟨rfl, hb1⟩))
                          go_ret
                          exact ⟨by rw [HF.out]; rfl, HB.out.trans ((HBX.out.trans (hb1.mono HBX.out.size)).mono HB.out.size)⟩
                      | false =>
                        clear q1 q2 q3
                        have HF := Kp.mk (HNN.out (by rw [HIN.out]; simp))
                        clear HNO HNN HIN
                        clear NO
                        go_wp2_with (first | (have hz1 := HR1; refine wpList_load_mid rfl 45 (.tmp 56) rfl g 0 rfl (byteVals X.prev) _ HR1.out Try.underlying45 rfl HSZ.out.1 ?_; clear HR1 hz1) | (have hz2 := HR2; refine wpList_load_mid rfl 45 (.tmp 58) rfl h 0 rfl (byteVals Y.prev) _ HR2.out Try.underlying45 rfl HSZ.out.2 ?_; clear HR2 hz2))
                        go_ret
                        exact ⟨by rw [HF.out]; rfl, HB.out.trans ((HBX.out).mono HB.out.size)⟩
                    · have f3 : ¬ ((X.seq : Int) = (Y.seq : Int)) := by omega
                      have HF := Kp.mk (HNN.out (by rw [HIN.out]; simp [q3]))
                      clear HNO HNN HIN
                      clear q1 q2 q3
                      go_wp2_with (first | (have hz1 := HR1; refine wpList_load_mid rfl 45 (.tmp 56) rfl g 0 rfl (byteVals X.prev) _ HR1.out Try.underlying45 rfl HSZ.out.1 ?_; clear HR1 hz1) | (have hz2 := HR2; refine wpList_load_mid rfl 45 (.tmp 58) rfl h 0 rfl (byteVals Y.prev) _ HR2.out Try.underlying45 rfl HSZ.out.2 ?_; clear HR2 hz2))
                      go_ret
                      exact ⟨by rw [HF.out]; rfl, HB.out.trans ((HBX.out).mono HB.out.size)⟩
                  · have f2 : ¬ ((X.vout : Int) = (Y.vout : Int)) := by omega
                    have HF := Kp.mk (HNN.out (by rw [HIN.out]; simp [q2]))
                    clear HNO HNN HIN
                    clear q1 q2
                    go_wp2_with (first | (have hz1 := HR1; refine wpList_load_mid rfl 45 (.tmp 56) rfl g 0 rfl (byteVals X.prev) _ HR1.out Try.underlying45 rfl HSZ.out.1 ?_; clear HR1 hz1) | (have hz2 := HR2; refine wpList_load_mid rfl 45 (.tmp 58) rfl h 0 rfl (byteVals Y.prev) _ HR2.out Try.underlying45 rfl HSZ.out.2 ?_; clear HR2 hz2))
                    go_ret
                    exact ⟨by rw [HF.out]; rfl, HB.out.trans ((HBX.out).mono HB.out.size)⟩
                · rw [decide_eq_false q1] at he
                  have HF := Kp.mk (HNN.out (by rw [HIN.out]; simp [q1]))
                  clear HNO HNN HIN
                  clear q1
                  go_wp2_with (first | (have hz1 := HR1; refine wpList_load_mid rfl 45 (.tmp 56) rfl g 0 rfl (byteVals X.prev) _ HR1.out Try.underlying45 rfl HSZ.out.1 ?_; clear HR1 hz1) | (have hz2 := HR2; refine wpList_load_mid rfl 45 (.tmp 58) rfl h 0 rfl (byteVals Y.prev) _ HR2.out Try.underlying45 rfl HSZ.out.2 ?_; clear HR2 hz2))
                  go_ret
                  exact ⟨by rw [HF.out]; rfl, HB.out.trans ((HBX.out).mono HB.out.size)⟩
            · obtain rfl : j = t1.ins.length := by omega
              have HINS : Kp (eqB sameInB t1.ins t2.ins = true) := ⟨eqB_yes HQ3.out fun i h1 h2 => NO.out i h1 h2 h1⟩
              have HB1 := BW
              clear hjl NO BW hj
              obtain ⟨w5, hw5⟩ : ∃ w5 : World, w5 = wr := ⟨_, rfl⟩
              subst hw5
              go_wp2
              go_loopw [8] (fun i wr => ∃ k : Nat, k ≤ t1.outs.length ∧ i = .int .i64 k ∧ Kp (Below W1.heap.size W1 wr) ∧ Kp (∀ (q : Nat) (h1 : q < t1.outs.length) (h2 : q < t2.outs.length), q < k → sameOutB t1.outs[q] t2.outs[q] = true)) (fun i _ => t1.outs.length - (intOf i).toNat)
              case atStart => exact ⟨0, Nat.zero_le _, rfl, HB1, ⟨fun _ _ _ h => absurd h (Nat.not_lt_zero _)⟩⟩
              case round =>
                obtain ⟨j, hj, rfl, BW, NO⟩ := hrel
                clear k1 k2 k3 k4 l1 l2 l3 l4
                obtain ⟨⟨k1, k2, k3, k4⟩, l1, l2, l3, l4⟩ := HCELL.out wr BW.out
                by_cases hjl : j < t1.outs.length
                · have hjl2 : j < t2.outs.length := by rw [← HQ4.out]; exact hjl
                  obtain ⟨b1, o1, cs1, rfl, hlt1, hk1, hcs1, hR1⟩ := HO1.out.at hjl
                  obtain ⟨b2, o2, cs2, rfl, hlt2, hk2, hcs2, hR2⟩ := HO2.out.at hjl2
                  have hjl' : (j : Int) < (t1.outs.length : Int) := by omega
                  have HJ : Kp (j < t1.outs.length) := ⟨hjl⟩
                  have HNO : Kp (sameOutB t1.outs[j] t2.outs[j] = true → ∀ (q : Nat) (h1 : q < t1.outs.length) (h2 : q < t2.outs.length), q < j + 1 → sameOutB t1.outs[q] t2.outs[q] = true) := ⟨fun hq q h1 h2 h3 => by
                    rcases Nat.lt_or_ge q j with h4 | h4
                    · exact NO.out q h1 h2 h4
                    · obtain rfl : q = j := by omega
                      exact hq⟩
                  have HNN : Kp (sameOutB t1.outs[j] t2.outs[j] = false → sameB t1 t2 = false) := ⟨fun hq => by rw [HQ.out, eqB_no hjl hjl2 hq, Bool.and_false]⟩
                  obtain ⟨X, hX⟩ : ∃ X, t1.outs[j] = X := ⟨_, rfl⟩
                  obtain ⟨Y, hY⟩ : ∃ Y, t2.outs[j] = Y := ⟨_, rfl⟩
                  rw [hX] at hR1 HNO HNN
                  rw [hY] at hR2 HNO HNN
                  obtain ⟨sv1, rfl, _, hs1⟩ := hR1
                  obtain ⟨sv2, rfl, _, hs2⟩ := hR2
                  have r1 := rangeAt_block hcs1 (BW.out.block b1 hlt1)
                  have r2 := rangeAt_block hcs2 (BW.out.block b2 hlt2)
                  have a0 : wr.cell? ⟨b1, o1 + j * 2, none⟩ = some (.int .u64 X.value) := r1 0 _ rfl
                  have a1 : wr.cell? ⟨b1, o1 + j * 2 + 1, none⟩ = some sv1 := r1 1 _ rfl
                  have c0 : wr.cell? ⟨b2, o2 + j * 2, none⟩ = some (.int .u64 Y.value) := r2 0 _ rfl
                  have c1 : wr.cell? ⟨b2, o2 + j * 2 + 1, none⟩ = some sv2 := r2 1 _ rfl
                  have hv1 := fun n => run_str ((hs1.below BW.out).below (Below.drewN_self wr n)).1
                  have hv2 := fun n => run_str ((hs2.below BW.out).below (Below.drewN_self wr n)).1
                  have hq0 := str_eqB hs1.2.1 hs2.2.1
                  have HOUT : Kp (sameOutB X Y = (decide (X.value = Y.value) && decide (X.script = Y.script))) := ⟨rfl⟩
                  obtain ⟨S1, hS1⟩ : ∃ S, strOfNums X.script = S := ⟨_, rfl⟩
                  obtain ⟨S2, hS2⟩ : ∃ S, strOfNums Y.script = S := ⟨_, rfl⟩
                  rw [hS1, hS2] at hq0
                  simp only [hS1] at hv1
                  simp only [hS2] at hv2
                  obtain ⟨DS, hDS⟩ : ∃ D, decide (X.script = Y.script) = D := ⟨_, rfl⟩
                  rw [hDS] at hq0 HOUT
                  clear hX hY r1 r2 hcs1 hcs2 hk1 hk2 hlt1 hlt2 hs1 hs2 hS1 hS2 hDS hjl hjl2 hj
                  by_cases q1 : X.value = Y.value
                  · rw [← q1] at c0
                    have HO3 : Kp (sameOutB X Y = DS) := ⟨by rw [HOUT.out]; simp [q1]⟩
                    clear q1 HOUT
                    cases DS with
                    | true =>
                      have HT := Kp.mk (HNO.out HO3.out)
                      clear HNO HNN HO3
                      go_wp2_with fail
                      go_quiet (fail)
                      go_wp2
                      exact ⟨⟨j + 1, by have := HJ.out; omega, by go_num, ⟨BW.out.trans ((Below.drewN_self _ _).mono BW.out.size)⟩, HT⟩, by simp [intOf]; have := HJ.out; omega⟩
                    | false =>
                      have HF := Kp.mk (HNN.out HO3.out)
                      clear HNO HNN HO3
                      go_wp2_with fail
                      go_quiet (fail)
                      go_wp2
                      go_ret
                      exact ⟨by rw [HF.out]; rfl, HB.out.trans ((BW.out.trans ((Below.drewN_self _ _).mono BW.out.size)).mono HB.out.size)⟩
                  · have f1 : ((X.value : Int) == (Y.value : Int)) = false := by rw [beq_eq_false_iff_ne]; omega
                    have f2 : ¬ ((X.value : Int) = (Y.value : Int)) := by omega
                    have f3 : decide ((X.value : Int) = (Y.value : Int)) = false := decide_eq_false f2
                    have f4 : ((X.value : Int) != (Y.value : Int)) = true := by simp [f2]
                    have HF := Kp.mk (HNN.out (by rw [HOUT.out]; simp [q1]))
                    clear HNO HNN HOUT q1
                    go_wp2_with fail
                    go_quiet (fail)
                    go_wp2
                    go_ret
                    exact ⟨by rw [HF.out]; rfl, HB.out.trans ((BW.out.trans ((Below.drewN_self _ _).mono BW.out.size)).mono HB.out.size)⟩
                · obtain rfl : j = t1.outs.length := by omega
                  have HT : Kp (sameB t1 t2 = true) := ⟨by rw [HQ.out, HINS.out, eqB_yes HQ4.out fun i h1 h2 => NO.out i h1 h2 h1]; rfl⟩
                  clear hjl NO hj
                  go_wp2
                  go_ret
                  exact ⟨by rw [HT.out]; rfl, HB.out.trans (BW.out.mono HB.out.size)⟩
        · have f4 : ((t1.outs.length : Int) == (t2.outs.length : Int)) = false := by rw [beq_eq_false_iff_ne]; omega
          have g4 : (t1.outs.length == t2.outs.length) = false := by rw [beq_eq_false_iff_ne]; omega
          have HQ : Kp (sameB t1 t2 = false) := ⟨by rw [HD.out, eqB_len q4]; simp⟩
          clear q1 q2 q3 q4
          go_wp2
          go_ret
          exact ⟨by rw [HQ.out]; rfl, HB.out⟩
      · have f3 : ((t1.ins.length : Int) == (t2.ins.length : Int)) = false := by rw [beq_eq_false_iff_ne]; omega
        have g3 : (t1.ins.length == t2.ins.length) = false := by rw [beq_eq_false_iff_ne]; omega
        have HQ : Kp (sameB t1 t2 = false) := ⟨by rw [HD.out, eqB_len q3]; simp⟩
        clear q1 q2 q3
        go_wp2
        go_ret
        exact ⟨by rw [HQ.out]; rfl, HB.out⟩
    · have f2 : ¬ ((t1.lock : Int) = (t2.lock : Int)) := by omega
      have HQ : Kp (sameB t1 t2 = false) := ⟨by rw [HD.out]; simp [q2]⟩
      clear q1 q2
      go_wp2
      go_ret
      exact ⟨by rw [HQ.out]; rfl, HB.out⟩
  · have f1 : ¬ ((t1.version : Int) = (t2.version : Int)) := by omega
    have HQ : Kp (sameB t1 t2 = false) := ⟨by rw [HD.out]; simp [q1]⟩
    clear q1
    go_wp2
    go_ret
    exact ⟨by rw [HQ.out]; rfl, HB.out⟩
end Go.Proofs.Ytojeonepplfhlaa
