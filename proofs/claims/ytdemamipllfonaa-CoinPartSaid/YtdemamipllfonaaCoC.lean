/- Package coin: the order of points; shas.Less, bytes.Compare, cmp.Compare at 32-bit numbers. -/
import Derived.Test.YtdemamipllfonaaCoA
import Derived.Test.YtdemamipllfonaaGe
import Derived.Deep.MidRow
import Derived.Deep.RegionHeld3
import Derived.Lib.BytesEntry
import Derived.Laws.Externs
import Derived.Sort.Grow
import Derived.Deep.Draws
namespace Go.Proofs.Ytdemamipllfonaa
open Go.RowKit Go.Sort

/-- A world with more drawn, and more blocks. -/
def Grown (w w' : World) : Prop := ∃ q os, w' = grow (w.drewN q) os
theorem Grown.refl (w : World) : Grown w w := ⟨0, #[], by simp [World.drewN]⟩
theorem Grown.trans {a b c : World} (h : Grown a b) (k : Grown b c) : Grown a c := by
  obtain ⟨q, os, rfl⟩ := h
  obtain ⟨q', os', rfl⟩ := k
  exact ⟨q + q', os ++ os', by simp [grow, World.drewN, Nat.add_assoc]⟩
theorem Grown.alloc {a b : World} (h : Grown a b) (o : Obj) : Grown a (b.alloc o) := h.trans ⟨0, #[o], by rw [alloc_eq_grow]; simp [World.drewN]⟩
theorem Grown.drew {a b : World} (h : Grown a b) : Grown a b.drew := h.trans ⟨1, #[], by rw [grow_empty]; rfl⟩
theorem Grown.below {a b : World} (h : Grown a b) : Below a.heap.size a b := by
  obtain ⟨q, os, rfl⟩ := h
  refine ⟨rfl, rfl, rfl, by simp [grow, World.drewN], fun k hk => ?_⟩
  show (a.heap ++ os)[k]? = a.heap[k]?
  rw [Array.getElem?_append_left hk]

/-- How two rows of bytes stand. -/
def cmpB (a b : List Int) : Int := Lib.compareBytes (Lib.bytesOf a) (Lib.bytesOf b)
theorem run_compareBoxes {P : Program} {w : World} {b1 b2 c1 c2 : Nat} {p q : List Int} (h1 : w.rangeAt b1 0 (byteVals p)) (h2 : w.rangeAt b2 0 (byteVals q)) :
    (Extern.BytealgCompare.compare #[.slice (some ⟨b1, 0, none⟩) p.length c1, .slice (some ⟨b2, 0, none⟩) q.length c2]).run P w = .ok (.int .i64 (cmpB p q)) w := by
  have key : ∀ (b : Nat) (l : List Int), w.rangeAt b 0 (byteVals l) → ∀ j x, l[j]? = some x → w.cell? ((⟨b, 0, none⟩ : Addr).add j) = some (.int .u8 x) := fun b l h j x hj => by
    have := h j (.int .u8 x) (by simp [byteVals, hj])
    rw [Addr.add_mid]
    exact this
  have e1 := Lib.run_loadBytesX (P := P) w p ⟨b1, 0, none⟩ .empty (key b1 p h1)
  have e2 := Lib.run_loadBytesX (P := P) w q ⟨b2, 0, none⟩ .empty (key b2 q h2)
  change Sem.run P (do pure (goInt (Extern.BytealgCompare.cmp (← Extern.Bytes.bytesOf (.slice (some ⟨b1, 0, none⟩) p.length c1)) (← Extern.Bytes.bytesOf (.slice (some ⟨b2, 0, none⟩) q.length c2))))) w = _
  simp only [Extern.Bytes.bytesOf, Sem.run_bind, Sem.run_pure, Result.andThen, e1, e2]
  rw [Lib.cmp_eq]
  simp [cmpB, goInt]
set_option maxRecDepth 100000 in
set_option maxHeartbeats 1000000 in
theorem bcompare_any (w : World) (b1 b2 : Nat) (p q : List Int) (h1 : w.rangeAt b1 0 (byteVals p)) (h2 : w.rangeAt b2 0 (byteVals q)) (hp : p.length = 32) (hq : q.length = 32) :
    Calls Try.prog 38 #[.slice (some ⟨b1, 0, none⟩) 32 32, .slice (some ⟨b2, 0, none⟩) 32 32] w fun e w' => e = .returned (.int .i64 (cmpB p q)) ∧ w' = w := by
  have HR := Kp.mk (run_compareBoxes (P := Try.prog) (c1 := 32) (c2 := 32) h1 h2)
  rw [hp, hq] at HR
  clear h1 h2
  generalize cmpB p q = r at *
  go_enter Try.func38, Try.ntmps38
  go_wp2
  rw [run_callFunc_extern Try.func56 (by kernel_rfl) (by kernel_rfl) (by kernel_rfl) (e := Extern.BytealgCompare.compare) (by kernel_rfl), HR.out]
  simp only [Result.andThen]
  rw [Oper.upon_value]
  go_wp2
  go_ret
  exact ⟨rfl, rfl⟩
set_option maxRecDepth 100000 in
theorem sizeArr9 : (Try.prog.info? 39).map (·.size) = some 32 := by kernel_rfl

theorem box_range9 {w : World} {b t : Nat} {cs : List Value} (h : Box w b t cs.toArray) : w.rangeAt b 0 cs := fun j v hv => by
  have := h.cell j
  rw [Nat.zero_add, this]
  simpa using hv
set_option maxRecDepth 100000 in
set_option maxHeartbeats 1000000 in
theorem less_any (w : World) (p q : List Int) (hp : p.length = 32) (hq : q.length = 32) : Calls Try.prog 29 #[.agg (byteVals p).toArray, .agg (byteVals q).toArray] w fun e w' => e = .returned (.bool (decide (cmpB p q < 0))) ∧ Grown w w' := by
  have hl1 : (byteVals p).length = 32 := by simp [byteVals, hp]
  have hl2 : (byteVals q).length = 32 := by simp [byteVals, hq]
  obtain ⟨W1, hW1⟩ : ∃ W, (w.alloc (.cells (byteVals p).toArray 39)).alloc (.cells (byteVals q).toArray 39) = W := ⟨_, rfl⟩
  have HG : Kp (Grown w W1) := ⟨by rw [← hW1]; exact ((Grown.refl _).alloc _).alloc _⟩
  have hx1 : Box W1 w.heap.size 39 (byteVals p).toArray := by rw [← hW1]; exact (Box.fresh _ _ _).below ((Below.refl _ _).alloc (Nat.le_refl _) _)
  have hx2 : Box W1 (w.heap.size + 1) 39 (byteVals q).toArray := by have := Box.fresh (w.alloc (.cells (byteVals p).toArray 39)) 39 (byteVals q).toArray; rw [hW1] at this; simpa using this
  have HC : Kp (∀ W, Below W1.heap.size W1 W → Calls Try.prog 38 #[.slice (some ⟨w.heap.size, 0, none⟩) 32 32, .slice (some ⟨w.heap.size + 1, 0, none⟩) 32 32] W fun e w' => e = .returned (.int .i64 (cmpB p q)) ∧ w' = W) := ⟨fun W hW => bcompare_any W _ _ p q (box_range9 (hx1.below hW)) (box_range9 (hx2.below hW)) hp hq⟩
  have HW1 := Kp.mk hW1
  clear hW1 hx1 hx2 hp hq hl1 hl2
  generalize byteVals p = A at *
  generalize byteVals q = B at *
  generalize cmpB p q = r at *
  go_enter Try.func29, Try.ntmps29
  go_wp2
  rw [HW1.out]
  refine wp_region_noPanic ?_
  refine wp_region_held_drew (S := fun W => Below W1.heap.size W1 W) (by kernel_rfl) ?_ (fun hHeld => ?_)
  · exact (Below.refl _ _).drew
  refine wpAnyH_take (i := 0) (oi := ⟨some 5, _, _, _, _, _⟩) (v := ?_) rfl (by kernel_rfl) (by kernel_rfl) (by kernel_rfl) (fun _ _ _ h => h) (Or.inl ⟨by rfl, ?_⟩) hHeld ?_
  rotate_left
  · (intro wx hSw; (try dsimp only at hSw); go_simp; try with_reducible rfl)
  try simp only [Act.put, List.setIfInBounds_toArray, List.set_cons_zero, List.set_cons_succ]
  refine wpAnyH_take (i := 1) (oi := ⟨some 6, _, _, _, _, _⟩) (v := ?_) rfl (by kernel_rfl) (by kernel_rfl) (by kernel_rfl) (fun _ _ _ h => h) (Or.inl ⟨by rfl, ?_⟩) hHeld ?_
  rotate_left
  · (intro wx hSw; (try dsimp only at hSw); go_simp; try with_reducible rfl)
  try simp only [Act.put, List.setIfInBounds_toArray, List.set_cons_zero, List.set_cons_succ]
  refine wpAnyH_ready (rs := [2]) (by kernel_rfl) (by simp) (AllReadyH.cons (o := ⟨some 7, _, _, _, _, _⟩) rfl (fun K hK => ?_) AllReadyH.nil)
  go_simp
  go_at_call 38
  refine (HC.out _ hHeld).mono ?_
  rintro e wb ⟨rfl, rfl⟩
  refine hK.out _ _ ?_ (fun hHeld => ?_)
  · exact hHeld
  clear hK K
  try simp only [Act.put, List.setIfInBounds_toArray, List.set_cons_zero, List.set_cons_succ]
  refine wpAnyH_take (i := 3) (oi := ⟨some 8, _, _, _, _, _⟩) (v := ?_) rfl (by kernel_rfl) (by kernel_rfl) (by kernel_rfl) (fun _ _ _ h => h) (Or.inl ⟨by rfl, ?_⟩) hHeld ?_
  rotate_left
  · (intro wx hSw; (try dsimp only at hSw); go_simp; try with_reducible rfl)
  try simp only [Act.put, List.setIfInBounds_toArray, List.set_cons_zero, List.set_cons_succ]
  refine wpAnyH_take (i := 4) (oi := ⟨some 4, _, _, _, _, _⟩) (v := ?_) rfl (by kernel_rfl) (by kernel_rfl) (by kernel_rfl) (fun _ _ _ h => h) (Or.inl ⟨by rfl, ?_⟩) hHeld ?_
  rotate_left
  · (intro wx hSw; (try dsimp only at hSw); go_simp; try with_reducible rfl)
  try simp only [Act.put, List.setIfInBounds_toArray, List.set_cons_zero, List.set_cons_succ]
  refine wpAnyH_done (by kernel_rfl) ?_ _
  refine NoPanic.normal ?_
  go_wp2
  go_ret
  exact ⟨rfl, HG.out.drew⟩

def ordN (a b : Nat) : Int := if a < b then -1 else if b < a then 1 else 0
set_option maxRecDepth 100000 in
set_option maxHeartbeats 1000000 in
theorem nan_any (w : World) (a : Nat) : Calls Try.prog 39 #[.int .u32 a] w fun e w' => e = .returned (.bool false) ∧ w' = w := by
  go_enter Try.func39, Try.ntmps39
  go_wp2
  go_ret
  exact ⟨rfl, rfl⟩
set_option maxRecDepth 100000 in
set_option maxHeartbeats 1000000 in
theorem cmpu_any (w : World) (a b : Nat) : Calls Try.prog 30 #[.int .u32 a, .int .u32 b] w fun e w' => e = .returned (.int .i64 (ordN a b)) ∧ w' = w := by
  have HN := Kp.mk (fun W n => nan_any W n)
  go_enter Try.func30, Try.ntmps30
  go_wp2_with (go_at_call 39; refine (HN.out _ _).mono ?_; rintro e w' ⟨rfl, rfl⟩)
  all_goals
    go_ret
    refine ⟨?_, rfl⟩
    unfold ordN
    split <;> first | rfl | (exfalso; omega) | (split <;> first | rfl | (exfalso; omega))

def ordB (p q : PtD) : Int := if cmpB p.id q.id < 0 then -1 else if cmpB q.id p.id < 0 then 1 else ordN p.vout q.vout
theorem rangeAt_left {w : World} {b o : Nat} {cs ds : List Value} (h : w.rangeAt b o (cs ++ ds)) : w.rangeAt b o cs := fun j v hj => h j v (by rw [List.getElem?_append_left (List.getElem?_eq_some_iff.1 hj).1]; exact hj)
set_option maxRecDepth 100000 in
set_option maxHeartbeats 2000000 in
theorem order_any (w : World) (p q : PtD) (hp : p.Fit) (hq : q.Fit) : Calls Try.prog 19 #[ptV p, ptV q] w fun e w' => e = .returned (.int .i64 (ordB p q)) ∧ Grown w w' := by
  have hl1 : (byteVals p.id).length = 32 := by simp [byteVals, hp.1]
  have hl2 : (byteVals q.id).length = 32 := by simp [byteVals, hq.1]
  have HS1 : Kp ((Try.prog.info? 39).map (·.size) = some (byteVals p.id).length) := ⟨by rw [hl1]; exact sizeArr9⟩
  have HS2 : Kp ((Try.prog.info? 39).map (·.size) = some (byteVals q.id).length) := ⟨by rw [hl2]; exact sizeArr9⟩
  obtain ⟨W1, hW1⟩ : ∃ W, (w.alloc (.cells (ptC p.id p.vout).toArray 41)).alloc (.cells (ptC q.id q.vout).toArray 41) = W := ⟨_, rfl⟩
  have HG : Kp (Grown w W1) := ⟨by rw [← hW1]; exact ((Grown.refl _).alloc _).alloc _⟩
  have hx1 : Box W1 w.heap.size 41 (ptC p.id p.vout).toArray := by rw [← hW1]; exact (Box.fresh _ _ _).below ((Below.refl _ _).alloc (Nat.le_refl _) _)
  have hx2 : Box W1 (w.heap.size + 1) 41 (ptC q.id q.vout).toArray := by have := Box.fresh (w.alloc (.cells (ptC p.id p.vout).toArray 41)) 41 (ptC q.id q.vout).toArray; rw [hW1] at this; simpa using this
  have HR1 : Kp (∀ W, Grown W1 W → W.rangeAt w.heap.size 0 (byteVals p.id)) := ⟨fun W hW => rangeAt_left (box_range9 (hx1.below hW.below))⟩
  have HR2 : Kp (∀ W, Grown W1 W → W.rangeAt (w.heap.size + 1) 0 (byteVals q.id)) := ⟨fun W hW => rangeAt_left (box_range9 (hx2.below hW.below))⟩
  have HV : Kp (∀ W, Grown W1 W → W.cell? ⟨w.heap.size, 32, none⟩ = some (.int .u32 p.vout) ∧ W.cell? ⟨w.heap.size + 1, 32, none⟩ = some (.int .u32 q.vout)) := ⟨fun W hW => ⟨by
    rw [(hx1.below hW.below).cell 32]; simp [ptC, byteVals, hp.1], by
    rw [(hx2.below hW.below).cell 32]; simp [ptC, byteVals, hq.1]⟩⟩
  have HL1 := Kp.mk (fun W => less_any W p.id q.id hp.1 hq.1)
  have HL2 := Kp.mk (fun W => less_any W q.id p.id hq.1 hp.1)
  have HC := Kp.mk (fun W => cmpu_any W p.vout q.vout)
  have HW1 := Kp.mk hW1
  clear hW1 hx1 hx2 hl1 hl2 hp hq
  unfold ordB ptV
  generalize cmpB p.id q.id = r1 at *
  generalize cmpB q.id p.id = r2 at *
  generalize ordN p.vout q.vout = r3 at *
  generalize ptC p.id p.vout = cp at *
  generalize ptC q.id q.vout = cq at *
  generalize byteVals p.id = A at *
  generalize byteVals q.id = B at *
  have G0 := Kp.mk (Grown.refl W1)
  by_cases c1 : r1 < 0
  · rw [if_pos c1]
    have e1 : decide (r1 < 0) = true := by simp; exact c1
    rw [e1] at HL1
    clear c1 e1
    go_enter Try.func19, Try.ntmps19
    go_upto_region 1 with fail
    rw [HW1.out]
    go_wp2_with (first | (refine wpList_load_mid rfl 39 (.tmp 6) rfl w.heap.size 0 rfl A _ (HR1.out _ G0.out) Try.underlying39 rfl HS1.out ?_) | (refine wpList_load_mid rfl 39 (.tmp 8) rfl (w.heap.size + 1) 0 rfl B _ (HR2.out _ G0.out) Try.underlying39 rfl HS2.out ?_) | (go_at_call 29; refine (HL1.out _).mono ?_; rintro e w2 ⟨rfl, hg2⟩; have G1 := Kp.mk (G0.out.trans hg2); clear hg2 HL1))
    go_ret
    exact ⟨rfl, HG.out.trans G1.out⟩
  · rw [if_neg c1]
    have e1 : decide (r1 < 0) = false := by simp; omega
    rw [e1] at HL1
    clear c1 e1
    by_cases c2 : r2 < 0
    · rw [if_pos c2]
      have e2 : decide (r2 < 0) = true := by simp; exact c2
      rw [e2] at HL2
      clear c2 e2
      go_enter Try.func19, Try.ntmps19
      go_upto_region 1 with fail
      rw [HW1.out]
      go_wp2_with (first | (refine wpList_load_mid rfl 39 (.tmp 6) rfl w.heap.size 0 rfl A _ (HR1.out _ G0.out) Try.underlying39 rfl HS1.out ?_) | (refine wpList_load_mid rfl 39 (.tmp 8) rfl (w.heap.size + 1) 0 rfl B _ (HR2.out _ G0.out) Try.underlying39 rfl HS2.out ?_) | (go_at_call 29; refine (HL1.out _).mono ?_; rintro e w2 ⟨rfl, hg2⟩; have G1 := Kp.mk (G0.out.trans hg2); clear hg2 HL1) | (refine wpList_load_mid rfl 39 (.tmp 12) rfl (w.heap.size + 1) 0 rfl B _ (HR2.out _ G1.out) Try.underlying39 rfl HS2.out ?_) | (refine wpList_load_mid rfl 39 (.tmp 14) rfl w.heap.size 0 rfl A _ (HR1.out _ G1.out) Try.underlying39 rfl HS1.out ?_) | (go_at_call 29; refine (HL2.out _).mono ?_; rintro e w3 ⟨rfl, hg3⟩; have G2 := Kp.mk (G1.out.trans hg3); have v1 := (HV.out _ G2.out).1; have v2 := (HV.out _ G2.out).2; clear hg3 HL2))
      go_ret
      exact ⟨rfl, HG.out.trans G2.out⟩
    · rw [if_neg c2]
      have e2 : decide (r2 < 0) = false := by simp; omega
      rw [e2] at HL2
      clear c2 e2
      go_enter Try.func19, Try.ntmps19
      go_upto_region 1 with fail
      rw [HW1.out]
      go_wp2_with (first | (refine wpList_load_mid rfl 39 (.tmp 6) rfl w.heap.size 0 rfl A _ (HR1.out _ G0.out) Try.underlying39 rfl HS1.out ?_) | (refine wpList_load_mid rfl 39 (.tmp 8) rfl (w.heap.size + 1) 0 rfl B _ (HR2.out _ G0.out) Try.underlying39 rfl HS2.out ?_) | (go_at_call 29; refine (HL1.out _).mono ?_; rintro e w2 ⟨rfl, hg2⟩; have G1 := Kp.mk (G0.out.trans hg2); clear hg2 HL1) | (refine wpList_load_mid rfl 39 (.tmp 12) rfl (w.heap.size + 1) 0 rfl B _ (HR2.out _ G1.out) Try.underlying39 rfl HS2.out ?_) | (refine wpList_load_mid rfl 39 (.tmp 14) rfl w.heap.size 0 rfl A _ (HR1.out _ G1.out) Try.underlying39 rfl HS1.out ?_) | (go_at_call 29; refine (HL2.out _).mono ?_; rintro e w3 ⟨rfl, hg3⟩; have G2 := Kp.mk (G1.out.trans hg3); have v1 := (HV.out _ G2.out).1; have v2 := (HV.out _ G2.out).2; clear hg3 HL2) | (go_at_call 30; refine (HC.out _).mono ?_; rintro e w4 ⟨rfl, rfl⟩))
      go_ret
      exact ⟨rfl, HG.out.trans G2.out⟩
end Go.Proofs.Ytdemamipllfonaa
