/- Two transactions are the same just if each part of them is: one thing turned they are not: for every three ints, the law TxnsSame returns true and leaves its arguments as they were. No further condition. -/
import Derived.Test.YthkjhfdafjlllaaAwC
import Derived.Test.YthkjhfdafjlllaaSmD
import Derived.Test.YthkjhfdafjlllaaClose
import Derived.Deep.RegionHeld3
import Derived.Deep.CutBlock
namespace Go.Proofs.Ythkjhfdafjlllaa.lawSm
open Go.ChangeShapes Go.WideShapes Go.ChangeAt Go.RowKit

/-- More may be held from here on. -/
theorem heldMore {P : Program} {md : Region.Mode} {ops : Array Oper} {Q : Exit → Act → World → Prop} {S S2 : World → Prop} (hS : ∀ w, S2 w → S w) :
    ∀ (fuel : Nat) (listed : Array Bool) (a : Act) (w : World), wpAnyH P md ops Q S2 fuel listed a w → wpAnyH P md ops Q S fuel listed a w
  | 0, _, _, _, h => h
  | fuel + 1, _, _, _, h => ⟨h.1, fun i hi => wpOp_mono (fun _ _ h' => ⟨hS _ h'.1, heldMore hS fuel _ _ _ h'.2⟩) (h.2 i hi)⟩

set_option linter.unusedSimpArgs false in
set_option maxRecDepth 10000000 in
set_option maxHeartbeats 8000000 in
theorem walk (n m how : Int) (hn : -9223372036854775808 ≤ n ∧ n ≤ 9223372036854775807) (hm : -9223372036854775808 ≤ m ∧ m ≤ 9223372036854775807) (w : World) :
    Calls Try.prog 5 #[.int .i64 n, .int .i64 m, .int .i64 how] w (YesPost w) := by
  have HTX : Kp (∀ W : World, Calls Try.prog 15 #[.int .i64 n, .int .i64 m] W (TxP (txOf n m) W)) := ⟨fun W => lawTx_any W n m hn hm⟩
  have HMAY := Kp.mk (txOf_may n m)
  have HFIT := Kp.mk (txOf_fit n m)
  have HBYS := Kp.mk (txOf_bys n m)
  have HSH := Kp.mk (txOf_small n m)
  have HAW : Kp (∀ W : World, Calls Try.prog 14 #[] W (YesPost W)) := ⟨awake3_any⟩
  generalize txOf n m = T at *
  have hq7 : bits BinOp.and IntKind.i64 how 7 = how % 8 := and_mask how 3 (by omega)
  obtain ⟨q, hq⟩ : ∃ q : Nat, how % 8 = (q : Int) := ⟨(how % 8).toNat, by omega⟩
  have hq8 : q < 8 := by omega
  rw [hq] at hq7
  clear hn hm hq
  go_enter Try.func5, Try.ntmps5
  go_wp2_with fail
  refine (HTX.out w).mono ?_
  rintro e w1 ⟨v1, rfl, hT1, hb1⟩
  obtain ⟨iv, ov, rfl, _, _, hi1, ho1⟩ := id hT1
  obtain ⟨gia, cia, rfl, _, hgia1, hgia2, _⟩ := hi1.box HSH.out.i1
  obtain ⟨goa, coa, rfl, _, hgoa1, hgoa2, _⟩ := ho1.box HSH.out.o1
  have HTA1 := Kp.mk hT1.txR
  have HB1 := Kp.mk hb1
  clear hT1 hb1 hi1 ho1
  go_wp2_with fail
  refine (HTX.out w1).mono ?_
  rintro e w2 ⟨v2, rfl, hT2, hb2⟩
  obtain ⟨iv, ov, rfl, hv2, hk2, hi2, ho2⟩ := id hT2
  obtain ⟨gi, ci, rfl, hic, hgi1, hgi2, Ci, hxi⟩ := hi2.box HSH.out.i1
  obtain ⟨go, co, rfl, hoc, hgo1, hgo2, Co, hxo⟩ := ho2.box HSH.out.o1
  have hba : Below w2.heap.size w2 ((w2.alloc (.cells #[.int .u32 T.version, .slice (some ⟨gia, 0, none⟩) T.ins.length cia, .slice (some ⟨goa, 0, none⟩) T.outs.length coa, .int .u32 T.lock] 26)).alloc (.cells #[.int .u32 T.version, .slice (some ⟨gi, 0, none⟩) T.ins.length ci, .slice (some ⟨go, 0, none⟩) T.outs.length co, .int .u32 T.lock] 26)) := ((Below.refl _ _).alloc (Nat.le_refl _) _).alloc (by simp) _
  have hkp : Keeps [5, 28, 31, 34] w2 ((w2.alloc (.cells #[.int .u32 T.version, .slice (some ⟨gia, 0, none⟩) T.ins.length cia, .slice (some ⟨goa, 0, none⟩) T.outs.length coa, .int .u32 T.lock] 26)).alloc (.cells #[.int .u32 T.version, .slice (some ⟨gi, 0, none⟩) T.ins.length ci, .slice (some ⟨go, 0, none⟩) T.outs.length co, .int .u32 T.lock] 26)) := Keeps.of_below _ hba
  have HTA := Kp.mk ((HTA1.out.below hb2).below hba)
  have HI := Kp.mk (OwnMany.turn hi2 hkp (by decide) (Nat.le_refl _) (fun cs d h => InO.turn h hkp (by decide) (by decide) (Nat.le_refl _)))
  have HO := Kp.mk (OwnMany.turn ho2 hkp (by decide) (Nat.le_refl _) (fun cs d h => OutF.keeps h hkp (by decide)))
  have HB2 : Kp (Below w1.heap.size w1 ((w2.alloc (.cells #[.int .u32 T.version, .slice (some ⟨gia, 0, none⟩) T.ins.length cia, .slice (some ⟨goa, 0, none⟩) T.outs.length coa, .int .u32 T.lock] 26)).alloc (.cells #[.int .u32 T.version, .slice (some ⟨gi, 0, none⟩) T.ins.length ci, .slice (some ⟨go, 0, none⟩) T.outs.length co, .int .u32 T.lock] 26))) := ⟨hb2.trans (hba.mono hb2.size)⟩
  have HX : Kp (Box ((w2.alloc (.cells #[.int .u32 T.version, .slice (some ⟨gia, 0, none⟩) T.ins.length cia, .slice (some ⟨goa, 0, none⟩) T.outs.length coa, .int .u32 T.lock] 26)).alloc (.cells #[.int .u32 T.version, .slice (some ⟨gi, 0, none⟩) T.ins.length ci, .slice (some ⟨go, 0, none⟩) T.outs.length co, .int .u32 T.lock] 26)) w2.heap.size 26 #[.int .u32 T.version, .slice (some ⟨gia, 0, none⟩) T.ins.length cia, .slice (some ⟨goa, 0, none⟩) T.outs.length coa, .int .u32 T.lock] ∧ Box ((w2.alloc (.cells #[.int .u32 T.version, .slice (some ⟨gia, 0, none⟩) T.ins.length cia, .slice (some ⟨goa, 0, none⟩) T.outs.length coa, .int .u32 T.lock] 26)).alloc (.cells #[.int .u32 T.version, .slice (some ⟨gi, 0, none⟩) T.ins.length ci, .slice (some ⟨go, 0, none⟩) T.outs.length co, .int .u32 T.lock] 26)) (w2.heap.size + 1) 26 #[.int .u32 T.version, .slice (some ⟨gi, 0, none⟩) T.ins.length ci, .slice (some ⟨go, 0, none⟩) T.outs.length co, .int .u32 T.lock]) := ⟨heap_alloc2_old w2 _ _, heap_alloc2_new w2 _ _⟩
  have HZ : Kp (((w2.alloc (.cells #[.int .u32 T.version, .slice (some ⟨gia, 0, none⟩) T.ins.length cia, .slice (some ⟨goa, 0, none⟩) T.outs.length coa, .int .u32 T.lock] 26)).alloc (.cells #[.int .u32 T.version, .slice (some ⟨gi, 0, none⟩) T.ins.length ci, .slice (some ⟨go, 0, none⟩) T.outs.length co, .int .u32 T.lock] 26)).heap.size = w2.heap.size + 2 ∧ w1.heap.size ≤ w2.heap.size) := ⟨by simp, hb2.size⟩
  have HGS : Kp (w1.heap.size ≤ gi ∧ gi < w2.heap.size ∧ w1.heap.size ≤ go ∧ go < w2.heap.size) := ⟨hgi1, hgi2, hgo1, hgo2⟩
  have HXI : Kp (Box ((w2.alloc (.cells #[.int .u32 T.version, .slice (some ⟨gia, 0, none⟩) T.ins.length cia, .slice (some ⟨goa, 0, none⟩) T.outs.length coa, .int .u32 T.lock] 26)).alloc (.cells #[.int .u32 T.version, .slice (some ⟨gi, 0, none⟩) T.ins.length ci, .slice (some ⟨go, 0, none⟩) T.outs.length co, .int .u32 T.lock] 26)) gi 31 Ci ∧ Box ((w2.alloc (.cells #[.int .u32 T.version, .slice (some ⟨gia, 0, none⟩) T.ins.length cia, .slice (some ⟨goa, 0, none⟩) T.outs.length coa, .int .u32 T.lock] 26)).alloc (.cells #[.int .u32 T.version, .slice (some ⟨gi, 0, none⟩) T.ins.length ci, .slice (some ⟨go, 0, none⟩) T.outs.length co, .int .u32 T.lock] 26)) go 34 Co) := ⟨Box.below hxi hba, Box.below hxo hba⟩
  clear hT2 hb2 hi2 ho2 hba hkp hgi1 hgi2 hgo1 hgo2 hgia1 hgia2 hgoa1 hgoa2 hxi hxo
  go_upto_block 0 with fail
  obtain ⟨W0, hW0⟩ : ∃ W0, ((w2.alloc (.cells #[.int .u32 T.version, .slice (some ⟨gia, 0, none⟩) T.ins.length cia, .slice (some ⟨goa, 0, none⟩) T.outs.length coa, .int .u32 T.lock] 26)).alloc (.cells #[.int .u32 T.version, .slice (some ⟨gi, 0, none⟩) T.ins.length ci, .slice (some ⟨go, 0, none⟩) T.outs.length co, .int .u32 T.lock] 26)) = W0 := ⟨_, rfl⟩
  rw [hW0] at HTA HI HO HB2 HX HZ HXI
  try rw [hW0]
  clear hW0
  have HBUN : Kp (Bun W0 w1.heap.size (w2.heap.size + 1) gi go ci co T) := ⟨⟨HX.out.2, HI.out, HO.out, ⟨_, HXI.out.1⟩, ⟨_, HXI.out.2⟩, HSH.out⟩⟩
  have HPOST : Kp (∀ (K : World), Keeps [26] W0 K → Below w1.heap.size W0 K → ∀ (g i : Nat) (u : Value), w1.heap.size ≤ g → g ≠ w2.heap.size → Box (K.setCell ⟨g, i, none⟩ u) w2.heap.size 26 #[.int .u32 T.version, .slice (some ⟨gia, 0, none⟩) T.ins.length cia, .slice (some ⟨goa, 0, none⟩) T.outs.length coa, .int .u32 T.lock] ∧ Below w1.heap.size w1 (K.setCell ⟨g, i, none⟩ u)) := ⟨fun K hk hb g i u h1 h2 => ⟨(Below.heap_setCell K _ _ _ (fun e => h2 e.symm)).trans (hk.2 _ _ _ (by decide) HX.out.1), (HB2.out.trans hb).setCell h1 _⟩⟩
  have HK0 : Kp (Keeps [26] W0 W0 ∧ Below w1.heap.size W0 W0) := ⟨Keeps.refl _ _, Below.refl _ _⟩
  have e1 := HX.out.2.cell 1
  have e2 := HX.out.2.cell 2
  have hli : (0 : Int) < (T.ins.length : Int) := by have := HSH.out.i1; omega
  have hlo : (0 : Int) < (T.outs.length : Int) := by have := HSH.out.o1; omega
  have hni : T.ins.length ≤ 4 := HSH.out.i4
  have hli' : 0 < T.ins.length := HSH.out.i1
  have hlo' : 0 < T.outs.length := HSH.out.o1
  have hno : T.outs.length ≤ 4 := HSH.out.o4
  go_cut [] (fun wx => Kp (Tb wx (w2.heap.size + 1) T ∧ Box wx w2.heap.size 26 #[.int .u32 T.version, .slice (some ⟨gia, 0, none⟩) T.ins.length cia, .slice (some ⟨goa, 0, none⟩) T.outs.length coa, .int .u32 T.lock] ∧ Below w1.heap.size w1 wx))
  case first =>
    rcases (show q = 0 ∨ q = 1 ∨ q = 2 ∨ q = 3 ∨ q = 4 ∨ q = 5 ∨ q = 6 ∨ q = 7 by omega) with rfl | rfl | rfl | rfl | rfl | rfl | rfl | rfl
    · rw [show ((0 : Nat) : Int) = 0 from rfl] at hq7
      have c0 := HX.out.2.cell 0
      have f0 := HX.out.2.warm 0
      have hw : IntKind.u32.wrap ((T.version : Int) + 1) = (T.version : Int) + 1 := by have := HSH.out.ver; simp [IntKind.wrap, IntKind.bits, IntKind.signed]; omega
      have HE : Kp (Tb (W0.setCell ⟨w2.heap.size + 1, 0, none⟩ (.int .u32 ((T.version : Int) + 1))) (w2.heap.size + 1) T ∧ _ ∧ _) := ⟨HBUN.out.tb_ver, HPOST.out _ HK0.out.1 HK0.out.2 (w2.heap.size + 1) 0 (.int .u32 ((T.version : Int) + 1)) (by have := HZ.out; omega) (by omega)⟩
      go_wp2
      go_meet
      exact HE
    · rw [show ((1 : Nat) : Int) = 1 from rfl] at hq7
      have c3 := HX.out.2.cell 3
      have f3 := HX.out.2.warm 3
      have hw : IntKind.u32.wrap ((T.lock : Int) + 1) = (T.lock : Int) + 1 := by have := HSH.out.lck; simp [IntKind.wrap, IntKind.bits, IntKind.signed]; omega
      have HE : Kp (Tb (W0.setCell ⟨w2.heap.size + 1, 3, none⟩ (.int .u32 ((T.lock : Int) + 1))) (w2.heap.size + 1) T ∧ _ ∧ _) := ⟨HBUN.out.tb_lock, HPOST.out _ HK0.out.1 HK0.out.2 (w2.heap.size + 1) 3 (.int .u32 ((T.lock : Int) + 1)) (by have := HZ.out; omega) (by omega)⟩
      go_wp2
      go_meet
      exact HE
    · rw [show ((2 : Nat) : Int) = 2 from rfl] at hq7
      obtain ⟨cs, hcs, ⟨sv, wv, rfl, hf, _⟩, c9, f9⟩ := HBUN.out.cell_in (j := 9) (by omega)
      rw [inCells_prev (j := 9) hf sv wv (by omega)] at c9
      obtain ⟨x, hx⟩ : ∃ x, T.ins[0]!.prev.getD 9 0 = x := ⟨_, rfl⟩
      have hx9 := hf.pbys.at 9
      rw [hx] at c9 hx9
      have hw : IntKind.u8.wrap (x + 1) = (x + 1) % 256 := by simp [IntKind.wrap, IntKind.bits, IntKind.signed]
      have HE : Kp (Tb (W0.setCell ⟨gi, 9, none⟩ (.int .u8 ((x + 1) % 256))) (w2.heap.size + 1) T ∧ _ ∧ _) := ⟨HBUN.out.tb_prev _ (by omega) (by rw [hx]; omega), HPOST.out _ HK0.out.1 HK0.out.2 gi 9 (.int .u8 ((x + 1) % 256)) (by have := HGS.out; omega) (by have := HGS.out; omega)⟩
      go_upto_region 9 with fail
      have HSA : Kp (∀ K, Keeps [26] W0 K → (fun W => W.cell? ⟨w2.heap.size + 1, 1, none⟩ = some (.slice (some ⟨gi, 0, none⟩) T.ins.length ci)) K) := ⟨fun K hk => by have y1 : Box K (w2.heap.size + 1) 26 _ := hk.2 _ _ _ (by decide) HX.out.2; exact y1.cell 1⟩
      have HSS : Kp (∀ (K : World) (i : Nat) (u : Value), Keeps [26] W0 K → (fun W => W.cell? ⟨w2.heap.size + 1, 1, none⟩ = some (.slice (some ⟨gi, 0, none⟩) T.ins.length ci)) (K.setCell ⟨gi, i, none⟩ u)) := ⟨fun K i u hk => by have y1 : Box K (w2.heap.size + 1) 26 _ := hk.2 _ _ _ (by decide) HX.out.2; exact (Box.cell ((Below.heap_setCell K _ _ (w2.heap.size + 1) (show w2.heap.size + 1 ≠ gi by have := HGS.out; omega)).trans y1) 1)⟩
      refine wp_region_noPanic ?_
      refine wp_region_held_drew (S := (fun W => W.cell? ⟨w2.heap.size + 1, 1, none⟩ = some (.slice (some ⟨gi, 0, none⟩) T.ins.length ci))) (by kernel_rfl) ?_ (fun hHeld => ?_)
      · exact HSA.out _ (Keeps.of_below _ (Below.refl W0.heap.size W0).drew)
      refine wpAnyH_take (i := 0) (oi := ⟨some 37, _, _, _, _, _⟩) (v := ?_) rfl (by kernel_rfl) (by kernel_rfl) (by kernel_rfl) (fun _ _ _ h => h) (Or.inl ⟨by rfl, ?_⟩) hHeld ?_
      rotate_left
      · (intro wx hSw; (try dsimp only at hSw); obtain s1 := hSw; go_simp; try with_reducible rfl)
      try simp only [Act.put, List.setIfInBounds_toArray, List.set_cons_zero, List.set_cons_succ]
      refine wpAnyH_take (i := 1) (oi := ⟨some 38, _, _, _, _, _⟩) (v := ?_) rfl (by kernel_rfl) (by kernel_rfl) (by kernel_rfl) (fun _ _ _ h => h) (Or.inl ⟨by rfl, ?_⟩) hHeld ?_
      rotate_left
      · (intro wx hSw; (try dsimp only at hSw); obtain s1 := hSw; go_simp; try with_reducible rfl)
      try simp only [Act.put, List.setIfInBounds_toArray, List.set_cons_zero, List.set_cons_succ]
      refine wpAnyH_take (i := 2) (oi := ⟨some 39, _, _, _, _, _⟩) (v := ?_) rfl (by kernel_rfl) (by kernel_rfl) (by kernel_rfl) (fun _ _ _ h => h) (Or.inl ⟨by rfl, ?_⟩) hHeld ?_
      rotate_left
      · (intro wx hSw; (try dsimp only at hSw); obtain s1 := hSw; go_simp; try with_reducible rfl)
      try simp only [Act.put, List.setIfInBounds_toArray, List.set_cons_zero, List.set_cons_succ]
      refine wpAnyH_take (i := 3) (oi := ⟨some 40, _, _, _, _, _⟩) (v := ?_) rfl (by kernel_rfl) (by kernel_rfl) (by kernel_rfl) (fun _ _ _ h => h) (Or.inl ⟨by rfl, ?_⟩) hHeld ?_
      rotate_left
      · (intro wx hSw; (try dsimp only at hSw); obtain s1 := hSw; go_simp; try with_reducible rfl)
      try simp only [Act.put, List.setIfInBounds_toArray, List.set_cons_zero, List.set_cons_succ]
      refine wpAnyH_take (i := 4) (oi := ⟨some 41, _, _, _, _, _⟩) (v := ?_) rfl (by kernel_rfl) (by kernel_rfl) (by kernel_rfl) (fun _ _ _ h => h) (Or.inl ⟨by rfl, ?_⟩) hHeld ?_
      rotate_left
      · (intro wx hSw; (try dsimp only at hSw); obtain s1 := hSw; go_simp; try with_reducible rfl)
      try simp only [Act.put, List.setIfInBounds_toArray, List.set_cons_zero, List.set_cons_succ]
      refine wpAnyH_take (i := 7) (oi := ⟨some 44, _, _, _, _, _⟩) (v := ?_) rfl (by kernel_rfl) (by kernel_rfl) (by kernel_rfl) (fun _ _ _ h => h) (Or.inl ⟨by rfl, ?_⟩) hHeld ?_
      rotate_left
      · (intro wx hSw; (try dsimp only at hSw); obtain s1 := hSw; go_simp; try with_reducible rfl)
      try simp only [Act.put, List.setIfInBounds_toArray, List.set_cons_zero, List.set_cons_succ]
      refine wpAnyH_take (i := 8) (oi := ⟨some 45, _, _, _, _, _⟩) (v := ?_) rfl (by kernel_rfl) (by kernel_rfl) (by kernel_rfl) (fun _ _ _ h => h) (Or.inl ⟨by rfl, ?_⟩) hHeld ?_
      rotate_left
      · (intro wx hSw; (try dsimp only at hSw); obtain s1 := hSw; go_simp; try with_reducible rfl)
      try simp only [Act.put, List.setIfInBounds_toArray, List.set_cons_zero, List.set_cons_succ]
      refine wpAnyH_ready (rs := [5]) (by kernel_rfl) (by simp) (AllReadyH.cons (o := ⟨some 42, _, _, _, _, _⟩) rfl (fun K hK => ?_) AllReadyH.nil)
      go_simp
      refine hK.out _ _ (HSA.out _ (Keeps.of_below _ (Below.refl W0.heap.size W0).drew)) (fun hHeld => ?_)
      clear hK K
      try simp only [Act.put, List.setIfInBounds_toArray, List.set_cons_zero, List.set_cons_succ]
      refine wpAnyH_take (i := 6) (oi := ⟨some 43, _, _, _, _, _⟩) (v := ?_) rfl (by kernel_rfl) (by kernel_rfl) (by kernel_rfl) (fun _ _ _ h => h) (Or.inl ⟨by rfl, ?_⟩) hHeld ?_
      rotate_left
      · (intro wx hSw; (try dsimp only at hSw); obtain _ := hSw; go_simp; try with_reducible rfl)
      try simp only [Act.put, List.setIfInBounds_toArray, List.set_cons_zero, List.set_cons_succ]
      refine wpAnyH_take (i := 9) (oi := ⟨some 46, _, _, _, _, _⟩) (v := ?_) rfl (by kernel_rfl) (by kernel_rfl) (by kernel_rfl) (fun _ _ _ h => h) (Or.inl ⟨by rfl, ?_⟩) hHeld ?_
      rotate_left
      · (intro wx hSw; (try dsimp only at hSw); obtain s1 := hSw; go_simp; try with_reducible rfl)
      try simp only [Act.put, List.setIfInBounds_toArray, List.set_cons_zero, List.set_cons_succ]
      refine wpAnyH_ready (rs := [10]) (by kernel_rfl) (by simp) (AllReadyH.cons (o := ⟨none, _, _, _, _, _⟩) rfl (fun K hK => ?_) AllReadyH.nil)
      go_simp
      refine hK.out _ _ (HSS.out W0 _ _ (Keeps.refl _ _)) (fun hHeld => ?_)
      clear hK K
      try simp only [Act.put, List.setIfInBounds_toArray, List.set_cons_zero, List.set_cons_succ]
      refine wpAnyH_done (by kernel_rfl) ?_ _
      refine NoPanic.normal ?_
      go_wp2_with fail
      go_meet
      exact ⟨HE.out.1.below (Below.refl _ _).drew, HE.out.2.1.below (Below.refl _ _).drew, HE.out.2.2.drew⟩
    · rw [show ((3 : Nat) : Int) = 3 from rfl] at hq7
      obtain ⟨cs, hcs, ⟨sv, wv, rfl, hf, _⟩, c9, f9⟩ := HBUN.out.cell_in (j := 34) (by omega)
      rw [inCells_seq hf] at c9
      have hs0 := HSH.out.seq _ HBUN.out.in0
      have hs1 := hf.slt
      have hw : IntKind.u32.wrap ((T.ins[0]!.seq : Int) - 1) = (T.ins[0]!.seq : Int) - 1 := by have hg : ∀ s : Nat, 0 < s → s < 4294967296 → IntKind.u32.wrap ((s : Int) - 1) = (s : Int) - 1 := (fun s _ _ => by simp [IntKind.wrap, IntKind.bits, IntKind.signed]; omega); exact hg _ hs0 hs1
      have HE : Kp (Tb (W0.setCell ⟨gi, 34, none⟩ (.int .u32 ((T.ins[0]!.seq : Int) - 1))) (w2.heap.size + 1) T ∧ _ ∧ _) := ⟨HBUN.out.tb_seq, HPOST.out _ HK0.out.1 HK0.out.2 gi 34 (.int .u32 ((T.ins[0]!.seq : Int) - 1)) (by have := HGS.out; omega) (by have := HGS.out; omega)⟩
      obtain ⟨sq, hsq⟩ : ∃ s, T.ins[0]!.seq = s := ⟨_, rfl⟩
      rw [hsq] at c9 hw HE
      clear hs0 hs1 hsq hcs hf
      go_wp2
      go_meet
      exact HE
    · rw [show ((4 : Nat) : Int) = 4 from rfl] at hq7
      obtain ⟨cs, hcs, ⟨sv, rfl, hf, _⟩, c9, f9⟩ := HBUN.out.cell_out (j := 0) (by omega)
      replace c9 : W0.cell? ⟨go, 0, none⟩ = some (.int .u64 T.outs[0]!.value) := c9
      have hs0 := (HSH.out.out _ HBUN.out.out0).2
      have hw : IntKind.u64.wrap ((T.outs[0]!.value : Int) + 1) = (T.outs[0]!.value : Int) + 1 := by have hg : ∀ s : Nat, s ≤ 4095 → IntKind.u64.wrap ((s : Int) + 1) = (s : Int) + 1 := (fun s _ => by simp [IntKind.wrap, IntKind.bits, IntKind.signed]; omega); exact hg _ hs0
      have HE : Kp (Tb (W0.setCell ⟨go, 0, none⟩ (.int .u64 ((T.outs[0]!.value : Int) + 1))) (w2.heap.size + 1) T ∧ _ ∧ _) := ⟨HBUN.out.tb_val, HPOST.out _ HK0.out.1 HK0.out.2 go 0 (.int .u64 ((T.outs[0]!.value : Int) + 1)) (by have := HGS.out; omega) (by have := HGS.out; omega)⟩
      obtain ⟨sq, hsq⟩ : ∃ s, T.outs[0]!.value = s := ⟨_, rfl⟩
      rw [hsq] at c9 hw HE
      clear hs0 hsq hcs hf
      go_wp2
      go_meet
      exact HE
    · rw [show ((5 : Nat) : Int) = 5 from rfl] at hq7
      obtain ⟨cs, hcs, ⟨sv, rfl, hf, _⟩, c9, f9⟩ := HBUN.out.cell_out (j := 1) (by omega)
      replace c9 : W0.cell? ⟨go, 1, none⟩ = some sv := c9
      go_upto_region 15 with fail
      have HSA : Kp (∀ K, Keeps [26] W0 K → (fun W => W.cell? ⟨w2.heap.size + 1, 2, none⟩ = some (.slice (some ⟨go, 0, none⟩) T.outs.length co)) K) := ⟨fun K hk => by have y1 : Box K (w2.heap.size + 1) 26 _ := hk.2 _ _ _ (by decide) HX.out.2; exact y1.cell 2⟩
      have HSS : Kp (∀ (K : World) (i : Nat) (u : Value), Keeps [26] W0 K → (fun W => W.cell? ⟨w2.heap.size + 1, 2, none⟩ = some (.slice (some ⟨go, 0, none⟩) T.outs.length co)) (K.setCell ⟨go, i, none⟩ u)) := ⟨fun K i u hk => by have y1 : Box K (w2.heap.size + 1) 26 _ := hk.2 _ _ _ (by decide) HX.out.2; exact (Box.cell ((Below.heap_setCell K _ _ (w2.heap.size + 1) (show w2.heap.size + 1 ≠ go by have := HGS.out; omega)).trans y1) 2)⟩
      have hba : Below W0.heap.size W0 (W0.alloc (.cells #[.int .u8 7] 5)).drew := ((Below.refl _ _).alloc (Nat.le_refl _) _).drew
      have HBA : Kp (Bun (W0.alloc (.cells #[.int .u8 7] 5)).drew w1.heap.size (w2.heap.size + 1) gi go ci co T) := ⟨HBUN.out.turn (Keeps.of_below _ hba)⟩
      have c9a : Kp ((W0.alloc (.cells #[.int .u8 7] 5)).drew.cell? ⟨go, 1, none⟩ = some sv) := Kp.mk ((Box.below (HXI.out.2) hba).cell 1 |>.trans ((HXI.out.2.cell 1).symm.trans c9))
      refine wp_region_noPanic ?_
      refine wp_region_held_drew (S := (fun W => W.cell? ⟨w2.heap.size + 1, 2, none⟩ = some (.slice (some ⟨go, 0, none⟩) T.outs.length co))) (by kernel_rfl) ?_ (fun hHeld => ?_)
      · exact HSA.out _ (Keeps.of_below _ (Below.refl W0.heap.size W0).drew)
      refine wpAnyH_take (i := 0) (oi := ⟨some 69, _, _, _, _, _⟩) (v := ?_) rfl (by kernel_rfl) (by kernel_rfl) (by kernel_rfl) (fun _ _ _ h => h) (Or.inl ⟨by rfl, ?_⟩) hHeld ?_
      rotate_left
      · (intro wx hSw; (try dsimp only at hSw); obtain s1 := hSw; go_simp; try with_reducible rfl)
      try simp only [Act.put, List.setIfInBounds_toArray, List.set_cons_zero, List.set_cons_succ]
      refine wpAnyH_take (i := 1) (oi := ⟨some 70, _, _, _, _, _⟩) (v := ?_) rfl (by kernel_rfl) (by kernel_rfl) (by kernel_rfl) (fun _ _ _ h => h) (Or.inl ⟨by rfl, ?_⟩) hHeld ?_
      rotate_left
      · (intro wx hSw; (try dsimp only at hSw); obtain s1 := hSw; go_simp; try with_reducible rfl)
      try simp only [Act.put, List.setIfInBounds_toArray, List.set_cons_zero, List.set_cons_succ]
      refine wpAnyH_take (i := 2) (oi := ⟨some 71, _, _, _, _, _⟩) (v := ?_) rfl (by kernel_rfl) (by kernel_rfl) (by kernel_rfl) (fun _ _ _ h => h) (Or.inl ⟨by rfl, ?_⟩) hHeld ?_
      rotate_left
      · (intro wx hSw; (try dsimp only at hSw); obtain s1 := hSw; go_simp; try with_reducible rfl)
      try simp only [Act.put, List.setIfInBounds_toArray, List.set_cons_zero, List.set_cons_succ]
      refine wpAnyH_take (i := 3) (oi := ⟨some 72, _, _, _, _, _⟩) (v := ?_) rfl (by kernel_rfl) (by kernel_rfl) (by kernel_rfl) (fun _ _ _ h => h) (Or.inl ⟨by rfl, ?_⟩) hHeld ?_
      rotate_left
      · (intro wx hSw; (try dsimp only at hSw); obtain s1 := hSw; go_simp; try with_reducible rfl)
      try simp only [Act.put, List.setIfInBounds_toArray, List.set_cons_zero, List.set_cons_succ]
      refine wpAnyH_take (i := 4) (oi := ⟨some 73, _, _, _, _, _⟩) (v := ?_) rfl (by kernel_rfl) (by kernel_rfl) (by kernel_rfl) (fun _ _ _ h => h) (Or.inl ⟨by rfl, ?_⟩) hHeld ?_
      rotate_left
      · (intro wx hSw; (try dsimp only at hSw); obtain s1 := hSw; go_simp; try with_reducible rfl)
      try simp only [Act.put, List.setIfInBounds_toArray, List.set_cons_zero, List.set_cons_succ]
      refine wpAnyH_take (i := 5) (oi := ⟨some 74, _, _, _, _, _⟩) (v := ?_) rfl (by kernel_rfl) (by kernel_rfl) (by kernel_rfl) (fun _ _ _ h => h) (Or.inl ⟨by rfl, ?_⟩) hHeld ?_
      rotate_left
      · (intro wx hSw; (try dsimp only at hSw); obtain s1 := hSw; go_simp; try with_reducible rfl)
      try simp only [Act.put, List.setIfInBounds_toArray, List.set_cons_zero, List.set_cons_succ]
      refine wpAnyH_ready (rs := [6, 7]) (by kernel_rfl) (by simp) (AllReadyH.cons (o := ⟨some 75, _, _, _, _, _⟩) rfl (fun K hK => ?_) (AllReadyH.cons (o := ⟨some 76, _, _, _, _, _⟩) rfl (fun K hK => ?_) AllReadyH.nil))
      · go_simp
        refine hK.out _ _ (HSA.out _ (Keeps.of_below _ (Below.refl W0.heap.size W0).drew)) (fun hHeld => ?_)
        clear hK K
        try simp only [Act.put, List.setIfInBounds_toArray, List.set_cons_zero, List.set_cons_succ]
        refine wpAnyH_ready (rs := [7]) (by kernel_rfl) (by simp) (AllReadyH.cons (o := ⟨some 76, _, _, _, _, _⟩) rfl (fun K hK => ?_) AllReadyH.nil)
        go_simp
        refine hK.out _ _ (HSA.out _ (Keeps.of_below _ hba)) (fun hHeld => ?_)
        clear hK K
        try simp only [Act.put, List.setIfInBounds_toArray, List.set_cons_zero, List.set_cons_succ]
        refine wpAnyH_ready (rs := [8]) (by kernel_rfl) (by simp) (AllReadyH.cons (o := ⟨some 77, _, _, _, _, _⟩) rfl (fun K hK => ?_) AllReadyH.nil)
        refine HBA.out.wp_script (by have := hba.size; have := HZ.out; omega) (.tmp 75) (.tmp 76) rfl (y := 7) (by omega) rfl c9a.out rfl (cell_of_row _ _ _ _ _ _ (heap_alloc_new W0 (.cells #[.int .u8 7] 5))) ?_
        rintro v5 w5 hb5 hf5 hk5 htb5 ⟨x5, hx5⟩ ⟨A5, n5, c5, rfl⟩
        have hk05 := (Keeps.of_below [31, 34, 26] hba).trans hk5
        refine hK.out _ _ (HSA.out _ (hk05.sub (by decide))) (fun hHeld => ?_)
        clear hK K
        try simp only [Act.put, List.setIfInBounds_toArray, List.set_cons_zero, List.set_cons_succ]
        have HE : Kp (Tb (w5.setCell ⟨go, 1, none⟩ (.slice A5 n5 c5)) (w2.heap.size + 1) T ∧ _ ∧ _) := ⟨htb5, HPOST.out w5 (hk05.sub (by decide)) ((hba.mono (by have := HZ.out; omega)).trans hb5) go 1 (.slice A5 n5 c5) (by have := HGS.out; omega) (by have := HGS.out; omega)⟩
        refine wpAnyH_take (i := 9) (oi := ⟨some 78, _, _, _, _, _⟩) (v := ?_) rfl (by kernel_rfl) (by kernel_rfl) (by kernel_rfl) (fun _ _ _ h => h) (Or.inl ⟨by rfl, ?_⟩) hHeld ?_
        rotate_left
        · (intro wx hSw; (try dsimp only at hSw); obtain s1 := hSw; go_simp; try with_reducible rfl)
        try simp only [Act.put, List.setIfInBounds_toArray, List.set_cons_zero, List.set_cons_succ]
        refine wpAnyH_take (i := 10) (oi := ⟨some 79, _, _, _, _, _⟩) (v := ?_) rfl (by kernel_rfl) (by kernel_rfl) (by kernel_rfl) (fun _ _ _ h => h) (Or.inl ⟨by rfl, ?_⟩) hHeld ?_
        rotate_left
        · (intro wx hSw; (try dsimp only at hSw); obtain s1 := hSw; go_simp; try with_reducible rfl)
        try simp only [Act.put, List.setIfInBounds_toArray, List.set_cons_zero, List.set_cons_succ]
        refine wpAnyH_ready (rs := [11]) (by kernel_rfl) (by simp) (AllReadyH.cons (o := ⟨none, _, _, _, _, _⟩) rfl (fun K hK => ?_) AllReadyH.nil)
        go_simp
        refine hK.out _ _ (HSS.out _ _ _ (hk05.sub (by decide))) (fun hHeld => ?_)
        clear hK K
        try simp only [Act.put, List.setIfInBounds_toArray, List.set_cons_zero, List.set_cons_succ]
        refine wpAnyH_done (by kernel_rfl) ?_ _
        refine NoPanic.normal ?_
        go_wp2_with fail
        go_meet
        exact HE
      · go_simp
        refine hK.out _ _ (HSA.out _ (Keeps.of_below _ hba)) (fun hHeld => ?_)
        clear hK K
        try simp only [Act.put, List.setIfInBounds_toArray, List.set_cons_zero, List.set_cons_succ]
        refine wpAnyH_ready (rs := [6]) (by kernel_rfl) (by simp) (AllReadyH.cons (o := ⟨some 75, _, _, _, _, _⟩) rfl (fun K hK => ?_) AllReadyH.nil)
        have c9b := c9a.out
        go_simp
        refine hK.out _ _ (HSA.out _ (Keeps.of_below _ hba)) (fun hHeld => ?_)
        clear hK K
        try simp only [Act.put, List.setIfInBounds_toArray, List.set_cons_zero, List.set_cons_succ]
        refine wpAnyH_ready (rs := [8]) (by kernel_rfl) (by simp) (AllReadyH.cons (o := ⟨some 77, _, _, _, _, _⟩) rfl (fun K hK => ?_) AllReadyH.nil)
        refine HBA.out.wp_script (by have := hba.size; have := HZ.out; omega) (.tmp 75) (.tmp 76) rfl (y := 7) (by omega) rfl c9a.out rfl (cell_of_row _ _ _ _ _ _ (heap_alloc_new W0 (.cells #[.int .u8 7] 5))) ?_
        rintro v5 w5 hb5 hf5 hk5 htb5 ⟨x5, hx5⟩ ⟨A5, n5, c5, rfl⟩
        have hk05 := (Keeps.of_below [31, 34, 26] hba).trans hk5
        refine hK.out _ _ (HSA.out _ (hk05.sub (by decide))) (fun hHeld => ?_)
        clear hK K
        try simp only [Act.put, List.setIfInBounds_toArray, List.set_cons_zero, List.set_cons_succ]
        have HE : Kp (Tb (w5.setCell ⟨go, 1, none⟩ (.slice A5 n5 c5)) (w2.heap.size + 1) T ∧ _ ∧ _) := ⟨htb5, HPOST.out w5 (hk05.sub (by decide)) ((hba.mono (by have := HZ.out; omega)).trans hb5) go 1 (.slice A5 n5 c5) (by have := HGS.out; omega) (by have := HGS.out; omega)⟩
        refine wpAnyH_take (i := 9) (oi := ⟨some 78, _, _, _, _, _⟩) (v := ?_) rfl (by kernel_rfl) (by kernel_rfl) (by kernel_rfl) (fun _ _ _ h => h) (Or.inl ⟨by rfl, ?_⟩) hHeld ?_
        rotate_left
        · (intro wx hSw; (try dsimp only at hSw); obtain s1 := hSw; go_simp; try with_reducible rfl)
        try simp only [Act.put, List.setIfInBounds_toArray, List.set_cons_zero, List.set_cons_succ]
        refine wpAnyH_take (i := 10) (oi := ⟨some 79, _, _, _, _, _⟩) (v := ?_) rfl (by kernel_rfl) (by kernel_rfl) (by kernel_rfl) (fun _ _ _ h => h) (Or.inl ⟨by rfl, ?_⟩) hHeld ?_
        rotate_left
        · (intro wx hSw; (try dsimp only at hSw); obtain s1 := hSw; go_simp; try with_reducible rfl)
        try simp only [Act.put, List.setIfInBounds_toArray, List.set_cons_zero, List.set_cons_succ]
        refine wpAnyH_ready (rs := [11]) (by kernel_rfl) (by simp) (AllReadyH.cons (o := ⟨none, _, _, _, _, _⟩) rfl (fun K hK => ?_) AllReadyH.nil)
        go_simp
        refine hK.out _ _ (HSS.out _ _ _ (hk05.sub (by decide))) (fun hHeld => ?_)
        clear hK K
        try simp only [Act.put, List.setIfInBounds_toArray, List.set_cons_zero, List.set_cons_succ]
        refine wpAnyH_done (by kernel_rfl) ?_ _
        refine NoPanic.normal ?_
        go_wp2_with fail
        go_meet
        exact HE
    · rw [show ((6 : Nat) : Int) = 6 from rfl] at hq7
      obtain ⟨cs, hcs, ⟨sv, wv, rfl, hf, _⟩, c9, f9⟩ := HBUN.out.cell_in (j := 35) (by omega)
      rw [inCells_wit hf] at c9
      go_upto_region 17 with fail
      have HSA : Kp (∀ K, Keeps [26] W0 K → (fun W => W.cell? ⟨w2.heap.size + 1, 1, none⟩ = some (.slice (some ⟨gi, 0, none⟩) T.ins.length ci)) K) := ⟨fun K hk => by have y1 : Box K (w2.heap.size + 1) 26 _ := hk.2 _ _ _ (by decide) HX.out.2; exact y1.cell 1⟩
      have HSS : Kp (∀ (K : World) (i : Nat) (u : Value), Keeps [26] W0 K → (fun W => W.cell? ⟨w2.heap.size + 1, 1, none⟩ = some (.slice (some ⟨gi, 0, none⟩) T.ins.length ci)) (K.setCell ⟨gi, i, none⟩ u)) := ⟨fun K i u hk => by have y1 : Box K (w2.heap.size + 1) 26 _ := hk.2 _ _ _ (by decide) HX.out.2; exact (Box.cell ((Below.heap_setCell K _ _ (w2.heap.size + 1) (show w2.heap.size + 1 ≠ gi by have := HGS.out; omega)).trans y1) 1)⟩
      have hba1 : Below W0.heap.size W0 (W0.alloc (.cells #[.int .u8 1] 5)).drew := ((Below.refl _ _).alloc (Nat.le_refl _) _).drew
      have hba : Below W0.heap.size W0 ((W0.alloc (.cells #[.int .u8 1] 5)).alloc (.cells #[.slice (some ⟨W0.heap.size, 0, none⟩) 1 1] 28)).drew := (((Below.refl _ _).alloc (Nat.le_refl _) _).alloc (by simp) _).drew
      have HBA : Kp (Bun ((W0.alloc (.cells #[.int .u8 1] 5)).alloc (.cells #[.slice (some ⟨W0.heap.size, 0, none⟩) 1 1] 28)).drew w1.heap.size (w2.heap.size + 1) gi go ci co T) := ⟨HBUN.out.turn (Keeps.of_below _ hba)⟩
      have hgs : Kp (Own ((W0.alloc (.cells #[.int .u8 1] 5)).alloc (.cells #[.slice (some ⟨W0.heap.size, 0, none⟩) 1 1] 28)).drew w1.heap.size 5 (.slice (some ⟨W0.heap.size, 0, none⟩) 1 1) [1]) := ⟨own_one (show Box ((W0.alloc (.cells #[.int .u8 1] 5)).alloc (.cells #[.slice (some ⟨W0.heap.size, 0, none⟩) 1 1] 28)).drew W0.heap.size 5 #[.int .u8 1] from heap_alloc2_old W0 _ _) (by have := HZ.out; omega) 1⟩
      have c9a : Kp ((W0.alloc (.cells #[.int .u8 1] 5)).drew.cell? ⟨gi, 35, none⟩ = some wv) := Kp.mk ((Box.below (HXI.out.1) hba1).cell 35 |>.trans ((HXI.out.1.cell 35).symm.trans c9))
      have c9b : Kp (((W0.alloc (.cells #[.int .u8 1] 5)).alloc (.cells #[.slice (some ⟨W0.heap.size, 0, none⟩) 1 1] 28)).drew.cell? ⟨gi, 35, none⟩ = some wv) := Kp.mk ((Box.below (HXI.out.1) hba).cell 35 |>.trans ((HXI.out.1.cell 35).symm.trans c9))
      refine wp_region_noPanic ?_
      refine wp_region_held_drew (S := (fun W => W.cell? ⟨w2.heap.size + 1, 1, none⟩ = some (.slice (some ⟨gi, 0, none⟩) T.ins.length ci))) (by kernel_rfl) ?_ (fun hHeld => ?_)
      · exact HSA.out _ (Keeps.of_below _ (Below.refl W0.heap.size W0).drew)
      refine wpAnyH_take (i := 0) (oi := ⟨some 82, _, _, _, _, _⟩) (v := ?_) rfl (by kernel_rfl) (by kernel_rfl) (by kernel_rfl) (fun _ _ _ h => h) (Or.inl ⟨by rfl, ?_⟩) hHeld ?_
      rotate_left
      · (intro wx hSw; (try dsimp only at hSw); obtain s1 := hSw; go_simp; try with_reducible rfl)
      try simp only [Act.put, List.setIfInBounds_toArray, List.set_cons_zero, List.set_cons_succ]
      refine wpAnyH_take (i := 1) (oi := ⟨some 83, _, _, _, _, _⟩) (v := ?_) rfl (by kernel_rfl) (by kernel_rfl) (by kernel_rfl) (fun _ _ _ h => h) (Or.inl ⟨by rfl, ?_⟩) hHeld ?_
      rotate_left
      · (intro wx hSw; (try dsimp only at hSw); obtain s1 := hSw; go_simp; try with_reducible rfl)
      try simp only [Act.put, List.setIfInBounds_toArray, List.set_cons_zero, List.set_cons_succ]
      refine wpAnyH_take (i := 2) (oi := ⟨some 84, _, _, _, _, _⟩) (v := ?_) rfl (by kernel_rfl) (by kernel_rfl) (by kernel_rfl) (fun _ _ _ h => h) (Or.inl ⟨by rfl, ?_⟩) hHeld ?_
      rotate_left
      · (intro wx hSw; (try dsimp only at hSw); obtain s1 := hSw; go_simp; try with_reducible rfl)
      try simp only [Act.put, List.setIfInBounds_toArray, List.set_cons_zero, List.set_cons_succ]
      refine wpAnyH_take (i := 3) (oi := ⟨some 85, _, _, _, _, _⟩) (v := ?_) rfl (by kernel_rfl) (by kernel_rfl) (by kernel_rfl) (fun _ _ _ h => h) (Or.inl ⟨by rfl, ?_⟩) hHeld ?_
      rotate_left
      · (intro wx hSw; (try dsimp only at hSw); obtain s1 := hSw; go_simp; try with_reducible rfl)
      try simp only [Act.put, List.setIfInBounds_toArray, List.set_cons_zero, List.set_cons_succ]
      refine wpAnyH_take (i := 4) (oi := ⟨some 86, _, _, _, _, _⟩) (v := ?_) rfl (by kernel_rfl) (by kernel_rfl) (by kernel_rfl) (fun _ _ _ h => h) (Or.inl ⟨by rfl, ?_⟩) hHeld ?_
      rotate_left
      · (intro wx hSw; (try dsimp only at hSw); obtain s1 := hSw; go_simp; try with_reducible rfl)
      try simp only [Act.put, List.setIfInBounds_toArray, List.set_cons_zero, List.set_cons_succ]
      refine wpAnyH_take (i := 5) (oi := ⟨some 87, _, _, _, _, _⟩) (v := ?_) rfl (by kernel_rfl) (by kernel_rfl) (by kernel_rfl) (fun _ _ _ h => h) (Or.inl ⟨by rfl, ?_⟩) hHeld ?_
      rotate_left
      · (intro wx hSw; (try dsimp only at hSw); obtain s1 := hSw; go_simp; try with_reducible rfl)
      try simp only [Act.put, List.setIfInBounds_toArray, List.set_cons_zero, List.set_cons_succ]
      refine wpAnyH_ready (rs := [6, 7]) (by kernel_rfl) (by simp) (AllReadyH.cons (o := ⟨some 88, _, _, _, _, _⟩) rfl (fun K hK => ?_) (AllReadyH.cons (o := ⟨some 89, _, _, _, _, _⟩) rfl (fun K hK => ?_) AllReadyH.nil))
      · go_simp
        refine hK.out _ _ (HSA.out _ (Keeps.of_below _ (Below.refl W0.heap.size W0).drew)) (fun hHeld => ?_)
        clear hK K
        try simp only [Act.put, List.setIfInBounds_toArray, List.set_cons_zero, List.set_cons_succ]
        refine wpAnyH_ready (rs := [7]) (by kernel_rfl) (by simp) (AllReadyH.cons (o := ⟨some 89, _, _, _, _, _⟩) rfl (fun K hK => ?_) AllReadyH.nil)
        go_simp
        refine hK.out _ _ (HSA.out _ (Keeps.of_below _ hba1)) (fun hHeld => ?_)
        clear hK K
        try simp only [Act.put, List.setIfInBounds_toArray, List.set_cons_zero, List.set_cons_succ]
        refine wpAnyH_ready (rs := [8]) (by kernel_rfl) (by simp) (AllReadyH.cons (o := ⟨some 90, _, _, _, _, _⟩) rfl (fun K hK => ?_) AllReadyH.nil)
        go_simp
        refine hK.out _ _ (HSA.out _ (Keeps.of_below _ hba)) (fun hHeld => ?_)
        clear hK K
        try simp only [Act.put, List.setIfInBounds_toArray, List.set_cons_zero, List.set_cons_succ]
        refine wpAnyH_ready (rs := [9]) (by kernel_rfl) (by simp) (AllReadyH.cons (o := ⟨some 91, _, _, _, _, _⟩) rfl (fun K hK => ?_) AllReadyH.nil)
        refine HBA.out.wp_wit (by have := hba.size; have := HZ.out; omega) (.tmp 88) (.tmp 90) rfl rfl c9b.out rfl (cell_of_row _ _ _ _ _ _ (heap_alloc2_new W0 (.cells #[.int .u8 1] 5) (.cells #[.slice (some ⟨W0.heap.size, 0, none⟩) 1 1] 28))) hgs.out ?_
        rintro v5 w5 hb5 hf5 hk5 htb5 ⟨x5, hx5⟩ ⟨A5, n5, c5, rfl⟩
        have hk05 := (Keeps.of_below [31, 34, 26] hba).trans hk5
        refine hK.out _ _ (HSA.out _ (hk05.sub (by decide))) (fun hHeld => ?_)
        clear hK K
        try simp only [Act.put, List.setIfInBounds_toArray, List.set_cons_zero, List.set_cons_succ]
        have HE : Kp (Tb (w5.setCell ⟨gi, 35, none⟩ (.slice A5 n5 c5)) (w2.heap.size + 1) T ∧ _ ∧ _) := ⟨htb5, HPOST.out w5 (hk05.sub (by decide)) ((hba.mono (by have := HZ.out; omega)).trans hb5) gi 35 (.slice A5 n5 c5) (by have := HGS.out; omega) (by have := HGS.out; omega)⟩
        refine wpAnyH_take (i := 10) (oi := ⟨some 92, _, _, _, _, _⟩) (v := ?_) rfl (by kernel_rfl) (by kernel_rfl) (by kernel_rfl) (fun _ _ _ h => h) (Or.inl ⟨by rfl, ?_⟩) hHeld ?_
        rotate_left
        · (intro wx hSw; (try dsimp only at hSw); obtain s1 := hSw; go_simp; try with_reducible rfl)
        try simp only [Act.put, List.setIfInBounds_toArray, List.set_cons_zero, List.set_cons_succ]
        refine wpAnyH_take (i := 11) (oi := ⟨some 93, _, _, _, _, _⟩) (v := ?_) rfl (by kernel_rfl) (by kernel_rfl) (by kernel_rfl) (fun _ _ _ h => h) (Or.inl ⟨by rfl, ?_⟩) hHeld ?_
        rotate_left
        · (intro wx hSw; (try dsimp only at hSw); obtain s1 := hSw; go_simp; try with_reducible rfl)
        try simp only [Act.put, List.setIfInBounds_toArray, List.set_cons_zero, List.set_cons_succ]
        refine wpAnyH_ready (rs := [12]) (by kernel_rfl) (by simp) (AllReadyH.cons (o := ⟨none, _, _, _, _, _⟩) rfl (fun K hK => ?_) AllReadyH.nil)
        go_simp
        refine hK.out _ _ (HSS.out _ _ _ (hk05.sub (by decide))) (fun hHeld => ?_)
        clear hK K
        try simp only [Act.put, List.setIfInBounds_toArray, List.set_cons_zero, List.set_cons_succ]
        refine wpAnyH_done (by kernel_rfl) ?_ _
        refine NoPanic.normal ?_
        go_wp2_with fail
        go_meet
        exact HE
      · go_simp
        refine hK.out _ _ (HSA.out _ (Keeps.of_below _ hba1)) (fun hHeld => ?_)
        clear hK K
        try simp only [Act.put, List.setIfInBounds_toArray, List.set_cons_zero, List.set_cons_succ]
        refine wpAnyH_ready (rs := [6, 8]) (by kernel_rfl) (by simp) (AllReadyH.cons (o := ⟨some 88, _, _, _, _, _⟩) rfl (fun K hK => ?_) (AllReadyH.cons (o := ⟨some 90, _, _, _, _, _⟩) rfl (fun K hK => ?_) AllReadyH.nil))
        · have c9c := c9a.out
          go_simp
          refine hK.out _ _ (HSA.out _ (Keeps.of_below _ hba1)) (fun hHeld => ?_)
          clear hK K
          try simp only [Act.put, List.setIfInBounds_toArray, List.set_cons_zero, List.set_cons_succ]
          refine wpAnyH_ready (rs := [8]) (by kernel_rfl) (by simp) (AllReadyH.cons (o := ⟨some 90, _, _, _, _, _⟩) rfl (fun K hK => ?_) AllReadyH.nil)
          go_simp
          refine hK.out _ _ (HSA.out _ (Keeps.of_below _ hba)) (fun hHeld => ?_)
          clear hK K
          try simp only [Act.put, List.setIfInBounds_toArray, List.set_cons_zero, List.set_cons_succ]
          refine wpAnyH_ready (rs := [9]) (by kernel_rfl) (by simp) (AllReadyH.cons (o := ⟨some 91, _, _, _, _, _⟩) rfl (fun K hK => ?_) AllReadyH.nil)
          refine HBA.out.wp_wit (by have := hba.size; have := HZ.out; omega) (.tmp 88) (.tmp 90) rfl rfl c9b.out rfl (cell_of_row _ _ _ _ _ _ (heap_alloc2_new W0 (.cells #[.int .u8 1] 5) (.cells #[.slice (some ⟨W0.heap.size, 0, none⟩) 1 1] 28))) hgs.out ?_
          rintro v5 w5 hb5 hf5 hk5 htb5 ⟨x5, hx5⟩ ⟨A5, n5, c5, rfl⟩
          have hk05 := (Keeps.of_below [31, 34, 26] hba).trans hk5
          refine hK.out _ _ (HSA.out _ (hk05.sub (by decide))) (fun hHeld => ?_)
          clear hK K
          try simp only [Act.put, List.setIfInBounds_toArray, List.set_cons_zero, List.set_cons_succ]
          have HE : Kp (Tb (w5.setCell ⟨gi, 35, none⟩ (.slice A5 n5 c5)) (w2.heap.size + 1) T ∧ _ ∧ _) := ⟨htb5, HPOST.out w5 (hk05.sub (by decide)) ((hba.mono (by have := HZ.out; omega)).trans hb5) gi 35 (.slice A5 n5 c5) (by have := HGS.out; omega) (by have := HGS.out; omega)⟩
          refine wpAnyH_take (i := 10) (oi := ⟨some 92, _, _, _, _, _⟩) (v := ?_) rfl (by kernel_rfl) (by kernel_rfl) (by kernel_rfl) (fun _ _ _ h => h) (Or.inl ⟨by rfl, ?_⟩) hHeld ?_
          rotate_left
          · (intro wx hSw; (try dsimp only at hSw); obtain s1 := hSw; go_simp; try with_reducible rfl)
          try simp only [Act.put, List.setIfInBounds_toArray, List.set_cons_zero, List.set_cons_succ]
          refine wpAnyH_take (i := 11) (oi := ⟨some 93, _, _, _, _, _⟩) (v := ?_) rfl (by kernel_rfl) (by kernel_rfl) (by kernel_rfl) (fun _ _ _ h => h) (Or.inl ⟨by rfl, ?_⟩) hHeld ?_
          rotate_left
          · (intro wx hSw; (try dsimp only at hSw); obtain s1 := hSw; go_simp; try with_reducible rfl)
          try simp only [Act.put, List.setIfInBounds_toArray, List.set_cons_zero, List.set_cons_succ]
          refine wpAnyH_ready (rs := [12]) (by kernel_rfl) (by simp) (AllReadyH.cons (o := ⟨none, _, _, _, _, _⟩) rfl (fun K hK => ?_) AllReadyH.nil)
          go_simp
          refine hK.out _ _ (HSS.out _ _ _ (hk05.sub (by decide))) (fun hHeld => ?_)
          clear hK K
          try simp only [Act.put, List.setIfInBounds_toArray, List.set_cons_zero, List.set_cons_succ]
          refine wpAnyH_done (by kernel_rfl) ?_ _
          refine NoPanic.normal ?_
          go_wp2_with fail
          go_meet
          exact HE
        · go_simp
          refine hK.out _ _ (HSA.out _ (Keeps.of_below _ hba)) (fun hHeld => ?_)
          clear hK K
          try simp only [Act.put, List.setIfInBounds_toArray, List.set_cons_zero, List.set_cons_succ]
          refine wpAnyH_ready (rs := [6]) (by kernel_rfl) (by simp) (AllReadyH.cons (o := ⟨some 88, _, _, _, _, _⟩) rfl (fun K hK => ?_) AllReadyH.nil)
          have c9c := c9b.out
          go_simp
          refine hK.out _ _ (HSA.out _ (Keeps.of_below _ hba)) (fun hHeld => ?_)
          clear hK K
          try simp only [Act.put, List.setIfInBounds_toArray, List.set_cons_zero, List.set_cons_succ]
          refine wpAnyH_ready (rs := [9]) (by kernel_rfl) (by simp) (AllReadyH.cons (o := ⟨some 91, _, _, _, _, _⟩) rfl (fun K hK => ?_) AllReadyH.nil)
          refine HBA.out.wp_wit (by have := hba.size; have := HZ.out; omega) (.tmp 88) (.tmp 90) rfl rfl c9b.out rfl (cell_of_row _ _ _ _ _ _ (heap_alloc2_new W0 (.cells #[.int .u8 1] 5) (.cells #[.slice (some ⟨W0.heap.size, 0, none⟩) 1 1] 28))) hgs.out ?_
          rintro v5 w5 hb5 hf5 hk5 htb5 ⟨x5, hx5⟩ ⟨A5, n5, c5, rfl⟩
          have hk05 := (Keeps.of_below [31, 34, 26] hba).trans hk5
          refine hK.out _ _ (HSA.out _ (hk05.sub (by decide))) (fun hHeld => ?_)
          clear hK K
          try simp only [Act.put, List.setIfInBounds_toArray, List.set_cons_zero, List.set_cons_succ]
          have HE : Kp (Tb (w5.setCell ⟨gi, 35, none⟩ (.slice A5 n5 c5)) (w2.heap.size + 1) T ∧ _ ∧ _) := ⟨htb5, HPOST.out w5 (hk05.sub (by decide)) ((hba.mono (by have := HZ.out; omega)).trans hb5) gi 35 (.slice A5 n5 c5) (by have := HGS.out; omega) (by have := HGS.out; omega)⟩
          refine wpAnyH_take (i := 10) (oi := ⟨some 92, _, _, _, _, _⟩) (v := ?_) rfl (by kernel_rfl) (by kernel_rfl) (by kernel_rfl) (fun _ _ _ h => h) (Or.inl ⟨by rfl, ?_⟩) hHeld ?_
          rotate_left
          · (intro wx hSw; (try dsimp only at hSw); obtain s1 := hSw; go_simp; try with_reducible rfl)
          try simp only [Act.put, List.setIfInBounds_toArray, List.set_cons_zero, List.set_cons_succ]
          refine wpAnyH_take (i := 11) (oi := ⟨some 93, _, _, _, _, _⟩) (v := ?_) rfl (by kernel_rfl) (by kernel_rfl) (by kernel_rfl) (fun _ _ _ h => h) (Or.inl ⟨by rfl, ?_⟩) hHeld ?_
          rotate_left
          · (intro wx hSw; (try dsimp only at hSw); obtain s1 := hSw; go_simp; try with_reducible rfl)
          try simp only [Act.put, List.setIfInBounds_toArray, List.set_cons_zero, List.set_cons_succ]
          refine wpAnyH_ready (rs := [12]) (by kernel_rfl) (by simp) (AllReadyH.cons (o := ⟨none, _, _, _, _, _⟩) rfl (fun K hK => ?_) AllReadyH.nil)
          go_simp
          refine hK.out _ _ (HSS.out _ _ _ (hk05.sub (by decide))) (fun hHeld => ?_)
          clear hK K
          try simp only [Act.put, List.setIfInBounds_toArray, List.set_cons_zero, List.set_cons_succ]
          refine wpAnyH_done (by kernel_rfl) ?_ _
          refine NoPanic.normal ?_
          go_wp2_with fail
          go_meet
          exact HE
    · rw [show ((7 : Nat) : Int) = 7 from rfl] at hq7
      have c0 := HX.out.1.cell 0
      have c1 := HX.out.1.cell 1
      have c2 := HX.out.1.cell 2
      have c3 := HX.out.1.cell 3
      have d0 := HX.out.2.cell 0
      have d3 := HX.out.2.cell 3
      have HTB : Kp (TxR W0 (.agg #[.int .u32 T.version, .slice (some ⟨gi, 0, none⟩) T.ins.length ci, .slice (some ⟨go, 0, none⟩) T.outs.length co, .int .u32 T.lock]) T) := ⟨⟨_, _, rfl, HFIT.out.vlt, HFIT.out.klt, HBUN.out.insR (Keeps.refl _ _), HBUN.out.outsR (Keeps.refl _ _)⟩⟩
      have HS := Kp.mk (same_any W0 _ _ T T HTA.out HTB.out)
      rw [show decide (T = T) = true by simp] at HS
      go_wp2_with fail
      refine HS.out.mono ?_
      rintro e w5 ⟨rfl, hb5⟩
      go_wp2_with fail
      refine (HAW.out w5).mono ?_
      rintro e w6 ⟨rfl, hb6⟩
      go_wp2_with fail
      go_ret
      have hb05 : Below w1.heap.size w1 w6 := (HB2.out.trans (hb5.mono (by have := HZ.out; omega))).trans (hb6.mono (Nat.le_trans HB2.out.size hb5.size))
      exact ⟨rfl, HB1.out.trans (hb05.mono HB1.out.size)⟩
  case rest =>
    obtain ⟨⟨tb, Ai, Ao, c1, c2, hne, hmay, hbox, htx⟩, hbxa, hbz⟩ := hcut
    obtain ⟨wz, rfl⟩ : ∃ W : World, W = wc := ⟨_, rfl⟩
    have HBZ := Kp.mk hbz
    have HTZ : Kp (∀ W, Below wz.heap.size wz W → TxR W (.agg #[.int .u32 T.version, .slice (some ⟨gia, 0, none⟩) T.ins.length cia, .slice (some ⟨goa, 0, none⟩) T.outs.length coa, .int .u32 T.lock]) T) := ⟨fun W hb => HTA1.out.below (hbz.trans (hb.mono hbz.size))⟩
    have HTT : Kp (∀ W, Below wz.heap.size wz W → TxR W (.agg #[.int .u32 tb.version, .slice Ai tb.ins.length c1, .slice Ao tb.outs.length c2, .int .u32 tb.lock]) tb) := ⟨fun W hb => htx.below hb⟩
    have HC : Kp (∀ W, Below wz.heap.size wz W → (W.cell? ⟨w2.heap.size, 0, none⟩ = some (.int .u32 T.version) ∧ W.cell? ⟨w2.heap.size, 1, none⟩ = some (.slice (some ⟨gia, 0, none⟩) T.ins.length cia) ∧ W.cell? ⟨w2.heap.size, 2, none⟩ = some (.slice (some ⟨goa, 0, none⟩) T.outs.length coa) ∧ W.cell? ⟨w2.heap.size, 3, none⟩ = some (.int .u32 T.lock)) ∧ (W.cell? ⟨w2.heap.size + 1, 0, none⟩ = some (.int .u32 tb.version) ∧ W.cell? ⟨w2.heap.size + 1, 1, none⟩ = some (.slice Ai tb.ins.length c1) ∧ W.cell? ⟨w2.heap.size + 1, 2, none⟩ = some (.slice Ao tb.outs.length c2) ∧ W.cell? ⟨w2.heap.size + 1, 3, none⟩ = some (.int .u32 tb.lock))) := ⟨fun W hb => by
      have y1 := hbxa.below hb
      have y2 := hbox.below hb
      exact ⟨⟨y1.cell 0, y1.cell 1, y1.cell 2, y1.cell 3⟩, y2.cell 0, y2.cell 1, y2.cell 2, y2.cell 3⟩⟩
    have HAB : Kp (∀ W, Below wz.heap.size wz W → Calls Try.prog 17 #[.agg #[.int .u32 T.version, .slice (some ⟨gia, 0, none⟩) T.ins.length cia, .slice (some ⟨goa, 0, none⟩) T.outs.length coa, .int .u32 T.lock], .agg #[.int .u32 tb.version, .slice Ai tb.ins.length c1, .slice Ao tb.outs.length c2, .int .u32 tb.lock]] W (BoolP false W)) := ⟨fun W hb => by
      have h := same_any W _ _ T tb (HTZ.out W hb) (HTT.out W hb)
      rw [decide_eq_false (fun e => hne e.symm)] at h
      exact h⟩
    have HBA : Kp (∀ W, Below wz.heap.size wz W → Calls Try.prog 17 #[.agg #[.int .u32 tb.version, .slice Ai tb.ins.length c1, .slice Ao tb.outs.length c2, .int .u32 tb.lock], .agg #[.int .u32 T.version, .slice (some ⟨gia, 0, none⟩) T.ins.length cia, .slice (some ⟨goa, 0, none⟩) T.outs.length coa, .int .u32 T.lock]] W (BoolP false W)) := ⟨fun W hb => by
      have h := same_any W _ _ tb T (HTT.out W hb) (HTZ.out W hb)
      rw [decide_eq_false hne] at h
      exact h⟩
    have HAA : Kp (∀ W, Below wz.heap.size wz W → Calls Try.prog 17 #[.agg #[.int .u32 T.version, .slice (some ⟨gia, 0, none⟩) T.ins.length cia, .slice (some ⟨goa, 0, none⟩) T.outs.length coa, .int .u32 T.lock], .agg #[.int .u32 T.version, .slice (some ⟨gia, 0, none⟩) T.ins.length cia, .slice (some ⟨goa, 0, none⟩) T.outs.length coa, .int .u32 T.lock]] W (BoolP true W)) := ⟨fun W hb => by
      have h := same_any W _ _ T T (HTZ.out W hb) (HTZ.out W hb)
      rw [show decide (T = T) = true by simp] at h
      exact h⟩
    have hyA := bytesOf_bys HBYS.out
    have hyB := bytesOf_bys htx.bys
    have hdec : decide (bytesOf T = bytesOf tb) = false := by
      rw [bytes_same HMAY.out hmay HFIT.out htx.fit]
      exact decide_eq_false (fun e => hne e.symm)
    have hq0 := str_eqB hyA hyB
    rw [hdec] at hq0
    have HBOA : Kp (∀ W, Below wz.heap.size wz W → Calls Try.prog 10 #[.agg #[.int .u32 T.version, .slice (some ⟨gia, 0, none⟩) T.ins.length cia, .slice (some ⟨goa, 0, none⟩) T.outs.length coa, .int .u32 T.lock]] W (App W.heap.size (bytesOf T) W)) := ⟨fun W hb => bytes_any W _ _ (HTZ.out W hb)⟩
    have HBOB : Kp (∀ W, Below wz.heap.size wz W → Calls Try.prog 10 #[.agg #[.int .u32 tb.version, .slice Ai tb.ins.length c1, .slice Ao tb.outs.length c2, .int .u32 tb.lock]] W (App W.heap.size (bytesOf tb) W)) := ⟨fun W hb => bytes_any W _ _ (HTT.out W hb)⟩
    generalize bytesOf T = LA at *
    generalize bytesOf tb = LB at *
    obtain ⟨SA, hSA⟩ : ∃ S, strOfNums LA = S := ⟨_, rfl⟩
    obtain ⟨SB, hSB⟩ : ∃ S, strOfNums LB = S := ⟨_, rfl⟩
    rw [hSA, hSB] at hq0
    have HSTA := Kp.mk hSA
    have HSTB := Kp.mk hSB
    clear hSA hSB hyA hyB hdec hne hmay hbox htx hbxa hbz e1 e2
    go_upto_region 18 with fail
    refine wp_region_noPanic ?_
    refine wp_region_held_drew (S := (fun W => (W.cell? ⟨w2.heap.size, 0, none⟩ = some (.int .u32 T.version) ∧ W.cell? ⟨w2.heap.size, 1, none⟩ = some (.slice (some ⟨gia, 0, none⟩) T.ins.length cia) ∧ W.cell? ⟨w2.heap.size, 2, none⟩ = some (.slice (some ⟨goa, 0, none⟩) T.outs.length coa) ∧ W.cell? ⟨w2.heap.size, 3, none⟩ = some (.int .u32 T.lock)) ∧ (W.cell? ⟨w2.heap.size + 1, 0, none⟩ = some (.int .u32 tb.version) ∧ W.cell? ⟨w2.heap.size + 1, 1, none⟩ = some (.slice Ai tb.ins.length c1) ∧ W.cell? ⟨w2.heap.size + 1, 2, none⟩ = some (.slice Ao tb.outs.length c2) ∧ W.cell? ⟨w2.heap.size + 1, 3, none⟩ = some (.int .u32 tb.lock)))) (by kernel_rfl) ?_ (fun hHeld => ?_)
    · exact HC.out _ (Below.refl _ _).drew
    have hb0 := (Below.refl wz.heap.size wz).drew
    refine wpAnyH_take (i := 0) (oi := ⟨some 94, _, _, _, _, _⟩) (v := ?_) rfl (by kernel_rfl) (by kernel_rfl) (by kernel_rfl) (fun _ _ _ h => h) (Or.inl ⟨by rfl, ?_⟩) hHeld ?_
    rotate_left
    · (intro wx hSw; (try dsimp only at hSw); obtain ⟨⟨s1, s2, s3, s4⟩, r1, r2, r3, r4⟩ := hSw; go_simp; try with_reducible rfl)
    try simp only [Act.put, List.setIfInBounds_toArray, List.set_cons_zero, List.set_cons_succ]
    refine wpAnyH_take (i := 1) (oi := ⟨some 95, _, _, _, _, _⟩) (v := ?_) rfl (by kernel_rfl) (by kernel_rfl) (by kernel_rfl) (fun _ _ _ h => h) (Or.inl ⟨by rfl, ?_⟩) hHeld ?_
    rotate_left
    · (intro wx hSw; (try dsimp only at hSw); obtain ⟨⟨s1, s2, s3, s4⟩, r1, r2, r3, r4⟩ := hSw; go_simp; try with_reducible rfl)
    try simp only [Act.put, List.setIfInBounds_toArray, List.set_cons_zero, List.set_cons_succ]
    refine wpAnyH_ready (rs := [2]) (by kernel_rfl) (by simp) (AllReadyH.cons (o := ⟨some 96, _, _, _, _, _⟩) rfl (fun K hK => ?_) AllReadyH.nil)
    go_simp
    refine (HAB.out _ hb0).mono ?_
    rintro e w10 ⟨rfl, hq10⟩
    have hb10 := hb0.trans (hq10.mono hb0.size)
    refine hK.out _ _ (HC.out _ hb10) (fun hHeld => ?_)
    clear hK K
    try simp only [Act.put, List.setIfInBounds_toArray, List.set_cons_zero, List.set_cons_succ]
    refine wpAnyH_take (i := 3) (oi := ⟨some 97, _, _, _, _, _⟩) (v := ?_) rfl (by kernel_rfl) (by kernel_rfl) (by kernel_rfl) (fun _ _ _ h => h) (Or.inl ⟨by rfl, ?_⟩) hHeld ?_
    rotate_left
    · (intro wx hSw; (try dsimp only at hSw); obtain _ := hSw; go_simp; try with_reducible rfl)
    try simp only [Act.put, List.setIfInBounds_toArray, List.set_cons_zero, List.set_cons_succ]
    refine wpAnyH_take (i := 4) (oi := ⟨some 98, _, _, _, _, _⟩) (v := ?_) rfl (by kernel_rfl) (by kernel_rfl) (by kernel_rfl) (fun _ _ _ h => h) (Or.inl ⟨by rfl, ?_⟩) hHeld ?_
    rotate_left
    · (intro wx hSw; (try dsimp only at hSw); obtain _ := hSw; go_simp; try with_reducible rfl)
    try simp only [Act.put, List.setIfInBounds_toArray, List.set_cons_zero, List.set_cons_succ]
    refine wpAnyH_take (i := 5) (oi := ⟨some 99, _, _, _, _, _⟩) (v := ?_) rfl (by kernel_rfl) (by kernel_rfl) (by kernel_rfl) (fun _ _ _ h => h) (Or.inl ⟨by rfl, ?_⟩) hHeld ?_
    rotate_left
    · (intro wx hSw; (try dsimp only at hSw); obtain ⟨⟨s1, s2, s3, s4⟩, r1, r2, r3, r4⟩ := hSw; go_simp; try with_reducible rfl)
    try simp only [Act.put, List.setIfInBounds_toArray, List.set_cons_zero, List.set_cons_succ]
    refine wpAnyH_take (i := 6) (oi := ⟨some 100, _, _, _, _, _⟩) (v := ?_) rfl (by kernel_rfl) (by kernel_rfl) (by kernel_rfl) (fun _ _ _ h => h) (Or.inl ⟨by rfl, ?_⟩) hHeld ?_
    rotate_left
    · (intro wx hSw; (try dsimp only at hSw); obtain ⟨⟨s1, s2, s3, s4⟩, r1, r2, r3, r4⟩ := hSw; go_simp; try with_reducible rfl)
    try simp only [Act.put, List.setIfInBounds_toArray, List.set_cons_zero, List.set_cons_succ]
    refine wpAnyH_ready (rs := [7]) (by kernel_rfl) (by simp) (AllReadyH.cons (o := ⟨some 101, _, _, _, _, _⟩) rfl (fun K hK => ?_) AllReadyH.nil)
    go_simp
    refine (HBA.out _ hb10).mono ?_
    rintro e w11 ⟨rfl, hq11⟩
    have hb11 := hb10.trans (hq11.mono hb10.size)
    refine hK.out _ _ (HC.out _ hb11) (fun hHeld => ?_)
    clear hK K
    try simp only [Act.put, List.setIfInBounds_toArray, List.set_cons_zero, List.set_cons_succ]
    refine wpAnyH_take (i := 8) (oi := ⟨some 102, _, _, _, _, _⟩) (v := ?_) rfl (by kernel_rfl) (by kernel_rfl) (by kernel_rfl) (fun _ _ _ h => h) (Or.inl ⟨by rfl, ?_⟩) hHeld ?_
    rotate_left
    · (intro wx hSw; (try dsimp only at hSw); obtain _ := hSw; go_simp; try with_reducible rfl)
    try simp only [Act.put, List.setIfInBounds_toArray, List.set_cons_zero, List.set_cons_succ]
    refine wpAnyH_take (i := 9) (oi := ⟨some 103, _, _, _, _, _⟩) (v := ?_) rfl (by kernel_rfl) (by kernel_rfl) (by kernel_rfl) (fun _ _ _ h => h) (Or.inl ⟨by rfl, ?_⟩) hHeld ?_
    rotate_left
    · (intro wx hSw; (try dsimp only at hSw); obtain _ := hSw; go_simp; try with_reducible rfl)
    try simp only [Act.put, List.setIfInBounds_toArray, List.set_cons_zero, List.set_cons_succ]
    refine wpAnyH_take (i := 10) (oi := ⟨some 104, _, _, _, _, _⟩) (v := ?_) rfl (by kernel_rfl) (by kernel_rfl) (by kernel_rfl) (fun _ _ _ h => h) (Or.inl ⟨by rfl, ?_⟩) hHeld ?_
    rotate_left
    · (intro wx hSw; (try dsimp only at hSw); obtain _ := hSw; go_simp; try with_reducible rfl)
    try simp only [Act.put, List.setIfInBounds_toArray, List.set_cons_zero, List.set_cons_succ]
    refine wpAnyH_take (i := 11) (oi := ⟨some 105, _, _, _, _, _⟩) (v := ?_) rfl (by kernel_rfl) (by kernel_rfl) (by kernel_rfl) (fun _ _ _ h => h) (Or.inl ⟨by rfl, ?_⟩) hHeld ?_
    rotate_left
    · (intro wx hSw; (try dsimp only at hSw); obtain ⟨⟨s1, s2, s3, s4⟩, r1, r2, r3, r4⟩ := hSw; go_simp; try with_reducible rfl)
    try simp only [Act.put, List.setIfInBounds_toArray, List.set_cons_zero, List.set_cons_succ]
    refine wpAnyH_take (i := 12) (oi := ⟨some 106, _, _, _, _, _⟩) (v := ?_) rfl (by kernel_rfl) (by kernel_rfl) (by kernel_rfl) (fun _ _ _ h => h) (Or.inl ⟨by rfl, ?_⟩) hHeld ?_
    rotate_left
    · (intro wx hSw; (try dsimp only at hSw); obtain ⟨⟨s1, s2, s3, s4⟩, r1, r2, r3, r4⟩ := hSw; go_simp; try with_reducible rfl)
    try simp only [Act.put, List.setIfInBounds_toArray, List.set_cons_zero, List.set_cons_succ]
    refine wpAnyH_ready (rs := [13]) (by kernel_rfl) (by simp) (AllReadyH.cons (o := ⟨some 107, _, _, _, _, _⟩) rfl (fun K hK => ?_) AllReadyH.nil)
    go_simp
    refine (HAA.out _ hb11).mono ?_
    rintro e w12 ⟨rfl, hq12⟩
    have hb12 := hb11.trans (hq12.mono hb11.size)
    refine hK.out _ _ (HC.out _ hb12) (fun hHeld => ?_)
    clear hK K
    try simp only [Act.put, List.setIfInBounds_toArray, List.set_cons_zero, List.set_cons_succ]
    refine wpAnyH_take (i := 14) (oi := ⟨some 108, _, _, _, _, _⟩) (v := ?_) rfl (by kernel_rfl) (by kernel_rfl) (by kernel_rfl) (fun _ _ _ h => h) (Or.inl ⟨by rfl, ?_⟩) hHeld ?_
    rotate_left
    · (intro wx hSw; (try dsimp only at hSw); obtain _ := hSw; go_simp; try with_reducible rfl)
    try simp only [Act.put, List.setIfInBounds_toArray, List.set_cons_zero, List.set_cons_succ]
    refine wpAnyH_take (i := 15) (oi := ⟨some 109, _, _, _, _, _⟩) (v := ?_) rfl (by kernel_rfl) (by kernel_rfl) (by kernel_rfl) (fun _ _ _ h => h) (Or.inl ⟨by rfl, ?_⟩) hHeld ?_
    rotate_left
    · (intro wx hSw; (try dsimp only at hSw); obtain _ := hSw; go_simp; try with_reducible rfl)
    try simp only [Act.put, List.setIfInBounds_toArray, List.set_cons_zero, List.set_cons_succ]
    refine wpAnyH_take (i := 16) (oi := ⟨some 110, _, _, _, _, _⟩) (v := ?_) rfl (by kernel_rfl) (by kernel_rfl) (by kernel_rfl) (fun _ _ _ h => h) (Or.inl ⟨by rfl, ?_⟩) hHeld ?_
    rotate_left
    · (intro wx hSw; (try dsimp only at hSw); obtain ⟨⟨s1, s2, s3, s4⟩, r1, r2, r3, r4⟩ := hSw; go_simp; try with_reducible rfl)
    try simp only [Act.put, List.setIfInBounds_toArray, List.set_cons_zero, List.set_cons_succ]
    refine wpAnyH_take (i := 19) (oi := ⟨some 113, _, _, _, _, _⟩) (v := ?_) rfl (by kernel_rfl) (by kernel_rfl) (by kernel_rfl) (fun _ _ _ h => h) (Or.inl ⟨by rfl, ?_⟩) hHeld ?_
    rotate_left
    · (intro wx hSw; (try dsimp only at hSw); obtain ⟨⟨s1, s2, s3, s4⟩, r1, r2, r3, r4⟩ := hSw; go_simp; try with_reducible rfl)
    try simp only [Act.put, List.setIfInBounds_toArray, List.set_cons_zero, List.set_cons_succ]
    refine wpAnyH_ready (rs := [17]) (by kernel_rfl) (by simp) (AllReadyH.cons (o := ⟨some 111, _, _, _, _, _⟩) rfl (fun K hK => ?_) AllReadyH.nil)
    go_simp
    refine (HBOA.out _ hb12).mono ?_
    rintro e w13 ⟨v111, rfl, h111, hg111⟩
    obtain ⟨A111, c111, rfl⟩ := h111.slice
    have hb111 := hb12.trans (hg111.low.mono hb12.size)
    have HCV111 : Kp (∀ W, Below w13.heap.size w13 W → (convert 28 9 (.slice A111 LA.length c111)).run Try.prog W = .ok (.string SA) W) := ⟨fun W hb => by have h := run_str (h111.below hb).any; rw [HSTA.out] at h; exact h⟩
    refine hK.out _ _ (HC.out _ hb111) (fun hHeld => ?_)
    clear hK K
    try simp only [Act.put, List.setIfInBounds_toArray, List.set_cons_zero, List.set_cons_succ]
    refine heldMore (S2 := (fun W => ((W.cell? ⟨w2.heap.size, 0, none⟩ = some (.int .u32 T.version) ∧ W.cell? ⟨w2.heap.size, 1, none⟩ = some (.slice (some ⟨gia, 0, none⟩) T.ins.length cia) ∧ W.cell? ⟨w2.heap.size, 2, none⟩ = some (.slice (some ⟨goa, 0, none⟩) T.outs.length coa) ∧ W.cell? ⟨w2.heap.size, 3, none⟩ = some (.int .u32 T.lock)) ∧ (W.cell? ⟨w2.heap.size + 1, 0, none⟩ = some (.int .u32 tb.version) ∧ W.cell? ⟨w2.heap.size + 1, 1, none⟩ = some (.slice Ai tb.ins.length c1) ∧ W.cell? ⟨w2.heap.size + 1, 2, none⟩ = some (.slice Ao tb.outs.length c2) ∧ W.cell? ⟨w2.heap.size + 1, 3, none⟩ = some (.int .u32 tb.lock))) ∧ (convert 28 9 (.slice A111 LA.length c111)).run Try.prog W = .ok (.string SA) W)) (fun _ h => h.1) _ _ _ _ ?_
    replace hHeld : ((fun W => ((W.cell? ⟨w2.heap.size, 0, none⟩ = some (.int .u32 T.version) ∧ W.cell? ⟨w2.heap.size, 1, none⟩ = some (.slice (some ⟨gia, 0, none⟩) T.ins.length cia) ∧ W.cell? ⟨w2.heap.size, 2, none⟩ = some (.slice (some ⟨goa, 0, none⟩) T.outs.length coa) ∧ W.cell? ⟨w2.heap.size, 3, none⟩ = some (.int .u32 T.lock)) ∧ (W.cell? ⟨w2.heap.size + 1, 0, none⟩ = some (.int .u32 tb.version) ∧ W.cell? ⟨w2.heap.size + 1, 1, none⟩ = some (.slice Ai tb.ins.length c1) ∧ W.cell? ⟨w2.heap.size + 1, 2, none⟩ = some (.slice Ao tb.outs.length c2) ∧ W.cell? ⟨w2.heap.size + 1, 3, none⟩ = some (.int .u32 tb.lock))) ∧ (convert 28 9 (.slice A111 LA.length c111)).run Try.prog W = .ok (.string SA) W)) _ := ⟨hHeld, HCV111.out _ (Below.refl _ _)⟩
    refine wpAnyH_take (i := 18) (oi := ⟨some 112, _, _, _, _, _⟩) (v := ?_) rfl (by kernel_rfl) (by kernel_rfl) (by kernel_rfl) (fun _ _ _ h => h) (Or.inl ⟨by rfl, ?_⟩) hHeld ?_
    rotate_left
    · (intro wx hSw; (try dsimp only at hSw); obtain ⟨_, hcvt⟩ := hSw; go_simp; try with_reducible rfl)
    try simp only [Act.put, List.setIfInBounds_toArray, List.set_cons_zero, List.set_cons_succ]
    refine wpAnyH_ready (rs := [20]) (by kernel_rfl) (by simp) (AllReadyH.cons (o := ⟨some 114, _, _, _, _, _⟩) rfl (fun K hK => ?_) AllReadyH.nil)
    go_simp
    refine (HBOB.out _ hb111).mono ?_
    rintro e w14 ⟨v114, rfl, h114, hg114⟩
    obtain ⟨A114, c114, rfl⟩ := h114.slice
    have hb114 := hb111.trans (hg114.low.mono hb111.size)
    have HCV114 : Kp (∀ W, Below w14.heap.size w14 W → (convert 28 9 (.slice A114 LB.length c114)).run Try.prog W = .ok (.string SB) W) := ⟨fun W hb => by have h := run_str (h114.below hb).any; rw [HSTB.out] at h; exact h⟩
    refine hK.out _ _ (⟨HC.out _ hb114, HCV111.out _ hg114.low⟩) (fun hHeld => ?_)
    clear hK K
    try simp only [Act.put, List.setIfInBounds_toArray, List.set_cons_zero, List.set_cons_succ]
    refine heldMore (S2 := (fun W => ((W.cell? ⟨w2.heap.size, 0, none⟩ = some (.int .u32 T.version) ∧ W.cell? ⟨w2.heap.size, 1, none⟩ = some (.slice (some ⟨gia, 0, none⟩) T.ins.length cia) ∧ W.cell? ⟨w2.heap.size, 2, none⟩ = some (.slice (some ⟨goa, 0, none⟩) T.outs.length coa) ∧ W.cell? ⟨w2.heap.size, 3, none⟩ = some (.int .u32 T.lock)) ∧ (W.cell? ⟨w2.heap.size + 1, 0, none⟩ = some (.int .u32 tb.version) ∧ W.cell? ⟨w2.heap.size + 1, 1, none⟩ = some (.slice Ai tb.ins.length c1) ∧ W.cell? ⟨w2.heap.size + 1, 2, none⟩ = some (.slice Ao tb.outs.length c2) ∧ W.cell? ⟨w2.heap.size + 1, 3, none⟩ = some (.int .u32 tb.lock))) ∧ (convert 28 9 (.slice A111 LA.length c111)).run Try.prog W = .ok (.string SA) W ∧ (convert 28 9 (.slice A114 LB.length c114)).run Try.prog W = .ok (.string SB) W)) (fun _ h => ⟨h.1, h.2.1⟩) _ _ _ _ ?_
    replace hHeld : ((fun W => ((W.cell? ⟨w2.heap.size, 0, none⟩ = some (.int .u32 T.version) ∧ W.cell? ⟨w2.heap.size, 1, none⟩ = some (.slice (some ⟨gia, 0, none⟩) T.ins.length cia) ∧ W.cell? ⟨w2.heap.size, 2, none⟩ = some (.slice (some ⟨goa, 0, none⟩) T.outs.length coa) ∧ W.cell? ⟨w2.heap.size, 3, none⟩ = some (.int .u32 T.lock)) ∧ (W.cell? ⟨w2.heap.size + 1, 0, none⟩ = some (.int .u32 tb.version) ∧ W.cell? ⟨w2.heap.size + 1, 1, none⟩ = some (.slice Ai tb.ins.length c1) ∧ W.cell? ⟨w2.heap.size + 1, 2, none⟩ = some (.slice Ao tb.outs.length c2) ∧ W.cell? ⟨w2.heap.size + 1, 3, none⟩ = some (.int .u32 tb.lock))) ∧ (convert 28 9 (.slice A111 LA.length c111)).run Try.prog W = .ok (.string SA) W ∧ (convert 28 9 (.slice A114 LB.length c114)).run Try.prog W = .ok (.string SB) W)) _ := ⟨hHeld.1, hHeld.2, HCV114.out _ (Below.refl _ _)⟩
    refine wpAnyH_take (i := 21) (oi := ⟨some 115, _, _, _, _, _⟩) (v := ?_) rfl (by kernel_rfl) (by kernel_rfl) (by kernel_rfl) (fun _ _ _ h => h) (Or.inl ⟨by rfl, ?_⟩) hHeld ?_
    rotate_left
    · (intro wx hSw; (try dsimp only at hSw); obtain ⟨_, _, hcvt⟩ := hSw; go_simp; try with_reducible rfl)
    try simp only [Act.put, List.setIfInBounds_toArray, List.set_cons_zero, List.set_cons_succ]
    refine wpAnyH_take (i := 22) (oi := ⟨some 116, _, _, _, _, _⟩) (v := ?_) rfl (by kernel_rfl) (by kernel_rfl) (by kernel_rfl) (fun _ _ _ h => h) (Or.inl ⟨by rfl, ?_⟩) hHeld ?_
    rotate_left
    · (intro wx hSw; (try dsimp only at hSw); obtain _ := hSw; go_simp; try with_reducible rfl)
    try simp only [Act.put, List.setIfInBounds_toArray, List.set_cons_zero, List.set_cons_succ]
    refine wpAnyH_take (i := 23) (oi := ⟨some 117, _, _, _, _, _⟩) (v := ?_) rfl (by kernel_rfl) (by kernel_rfl) (by kernel_rfl) (fun _ _ _ h => h) (Or.inl ⟨by rfl, ?_⟩) hHeld ?_
    rotate_left
    · (intro wx hSw; (try dsimp only at hSw); obtain _ := hSw; go_simp; try with_reducible rfl)
    try simp only [Act.put, List.setIfInBounds_toArray, List.set_cons_zero, List.set_cons_succ]
    refine wpAnyH_take (i := 24) (oi := ⟨some 118, _, _, _, _, _⟩) (v := ?_) rfl (by kernel_rfl) (by kernel_rfl) (by kernel_rfl) (fun _ _ _ h => h) (Or.inl ⟨by rfl, ?_⟩) hHeld ?_
    rotate_left
    · (intro wx hSw; (try dsimp only at hSw); obtain _ := hSw; go_simp; try with_reducible rfl)
    try simp only [Act.put, List.setIfInBounds_toArray, List.set_cons_zero, List.set_cons_succ]
    refine wpAnyH_ready (rs := [25]) (by kernel_rfl) (by simp) (AllReadyH.cons (o := ⟨some 119, _, _, _, _, _⟩) rfl (fun K hK => ?_) AllReadyH.nil)
    go_simp
    refine (HAW.out w14).mono ?_
    rintro e w15 ⟨rfl, hq15⟩
    have hb15 := hb114.trans (hq15.mono hb114.size)
    have z13 := hg114.low.trans (hq15.mono hg114.low.size)
    refine hK.out _ _ (⟨HC.out _ hb15, HCV111.out _ z13, HCV114.out _ hq15⟩) (fun hHeld => ?_)
    clear hK K
    try simp only [Act.put, List.setIfInBounds_toArray, List.set_cons_zero, List.set_cons_succ]
    refine wpAnyH_take (i := 26) (oi := ⟨some 120, _, _, _, _, _⟩) (v := ?_) rfl (by kernel_rfl) (by kernel_rfl) (by kernel_rfl) (fun _ _ _ h => h) (Or.inl ⟨by rfl, ?_⟩) hHeld ?_
    rotate_left
    · (intro wx hSw; (try dsimp only at hSw); obtain _ := hSw; go_simp; try with_reducible rfl)
    try simp only [Act.put, List.setIfInBounds_toArray, List.set_cons_zero, List.set_cons_succ]
    refine wpAnyH_take (i := 27) (oi := ⟨some 6, _, _, _, _, _⟩) (v := ?_) rfl (by kernel_rfl) (by kernel_rfl) (by kernel_rfl) (fun _ _ _ h => h) (Or.inl ⟨by rfl, ?_⟩) hHeld ?_
    rotate_left
    · (intro wx hSw; (try dsimp only at hSw); obtain _ := hSw; go_simp; try with_reducible rfl)
    try simp only [Act.put, List.setIfInBounds_toArray, List.set_cons_zero, List.set_cons_succ]
    refine wpAnyH_done (by kernel_rfl) ?_ _
    refine NoPanic.normal ?_
    go_wp2_with fail
    go_ret
    have hbz : Below w1.heap.size w1 w15 := HBZ.out.trans (hb15.mono HBZ.out.size)
    exact ⟨rfl, HB1.out.trans (hbz.mono HB1.out.size)⟩

set_option maxRecDepth 100000 in
theorem lifted (os : Os) (started : os.Started) (H : Type) (enc : TypeId × Value → H) :
    ReturnsInHanded {} Try.checked os 5 .any (Rows.txnsSameSpec.pre6 enc Try.prog Try.f5 Rows.txnsSameRow.domain false) (Rows.txnsSameSpec.post enc Try.prog Try.f5 false true false false) := by
  refine returnsInHanded_of_change (C := Try.checked) ownKnobNone started (by kernel_rfl) Try.func5
    (ChangeSpec.witness6 (enc := enc) (C := Try.checked) false ⟨#[], #[.int .i64 0, .int .i64 0, .int .i64 0], []⟩ 8 (by kernel_rfl) (by kernel_rfl) (by kernel_rfl) (by kernel_rfl)) ?_
  intro W base args ds gs before hval0 hW _ _
  have hval : ∀ (j : Nat) t v, Try.f5.params[j]? = some t → args[j]? = some v → Value.okWide Try.prog W .any base t v := hval0
  have hW' := hW
  obtain ⟨p, q, hA0, hV, rfl, _, _⟩ := hW
  have hA : DataW.TrodAll enc Try.prog W 0 (fun _ => true) true Try.f5.params.toList args.toList ds p := hA0
  rw [Try.params5] at hA hval
  obtain ⟨v0, vs0, d0, ds0, p0, q0, hargs, rfl, rfl, h0, r0⟩ := trodAll_cons hA
  obtain ⟨v1, vs1, d1, ds1, p1, q1, rfl, rfl, rfl, h1, r1⟩ := trodAll_cons r0
  obtain ⟨v2, vs2, d2, ds2, p2, q2, rfl, rfl, rfl, h2, r2⟩ := trodAll_cons r1
  obtain ⟨rfl, rfl, rfl⟩ := trodAll_nil r2
  obtain rfl : args = #[v0, v1, v2] := by cases args; simp_all
  obtain ⟨rfl, rfl⟩ := trodVars_none hV
  obtain ⟨a0, rfl, rfl, rfl, w0⟩ := open_int Try.underlying3 (hval 0 3 v0 rfl rfl) h0
  have b0 := bd_i64 w0
  obtain ⟨a1, rfl, rfl, rfl, w1⟩ := open_int Try.underlying3 (hval 1 3 v1 rfl rfl) h1
  have b1 := bd_i64 w1
  obtain ⟨a2, rfl, rfl, rfl, w2⟩ := open_int Try.underlying3 (hval 2 3 v2 rfl rfl) h2
  have b2 := bd_i64 w2
  clear hA0 hval0
  refine (walk a0 a1 a2 b0 b1 W).mono fun e W' ⟨he, hb⟩ => ?_
  subst he
  exact ⟨_, rfl, law_post hW' rfl rfl (by kernel_rfl) rfl hb⟩

set_option maxRecDepth 100000 in
theorem over : Rows.txnsSameRow.holds Try.pinned (OpenSpec.ofChange Rows.txnsSameSpec) :=
  OpenClaim.holds_of_wide 5 Try.f5 rfl rfl rfl rfl rfl rfl rfl ⟨rfl, rfl, rfl, rfl, rfl⟩ rfl rfl rfl rfl rfl (by kernel_rfl) Try.func5 (by kernel_rfl)
    (of_decide_eq_true (by kernel_rfl)) (by unfold Func.isWrapper; first | (rw [if_pos (by decide +kernel)]; kernel_rfl) | (rw [if_neg (by decide +kernel)]; exact ⟨rfl, rfl⟩))
    (fun os started H enc _ => lifted os started H enc)

/-- The statement. -/
theorem proved : Rows.TxnsSameSaid :=
  over
end Go.Proofs.Ythkjhfdafjlllaa.lawSm
