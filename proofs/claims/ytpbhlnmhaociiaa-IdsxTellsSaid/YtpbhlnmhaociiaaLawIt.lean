/- Any transaction has the names, the weight, and the size that the document says: for every transaction and every two ints the law IdsxTells returns true and leaves its arguments as they were. No further condition. -/
import Derived.Test.YtpbhlnmhaociiaaShN
import Derived.Test.YtpbhlnmhaociiaaRawT
import Derived.Deep.DeepCutAuto
import Derived.Deep.RegionHeld3
import Derived.Laws.StructEq
namespace Go.Proofs.Ytpbhlnmhaociiaa.lawIt
open Go.ChangeShapes Go.WideShapes Go.ChangeAt Go.RowKit

/-- A transaction, as the cells of one element. -/
def TxE (w : World) (cs : List Value) (t : TxD) : Prop := TxR w (.agg cs.toArray) t
theorem TxE.below {w w' : World} {cs : List Value} {t : TxD} (h : TxE w cs t) (hb : Below w.heap.size w w') : TxE w' cs t := TxR.below h hb
theorem two_txs (w : World) (a0 a1 a2 a3 b0 b1 b2 b3 : Value) (t u : TxD) (ht : TxR w (.agg #[a0, a1, a2, a3]) t) (hu : TxR w (.agg #[b0, b1, b2, b3]) u) :
    Many 4 TxE (w.alloc (.cells #[a0, a1, a2, a3, b0, b1, b2, b3] 26)) (.slice (some ⟨w.heap.size, 0, none⟩) 2 2) [t, u] := by
  have hb : Below w.heap.size w (w.alloc (.cells #[a0, a1, a2, a3, b0, b1, b2, b3] 26)) := (Below.refl _ _).alloc (Nat.le_refl _) _
  have hx := Box.fresh w 26 #[a0, a1, a2, a3, b0, b1, b2, b3]
  refine ⟨_, _, rfl, Nat.le_refl _, by unfold maxLen; omega, (fun h => by cases h), fun _ => ⟨w.heap.size, 0, rfl, hx.lt, fun i d hd => ?_⟩⟩
  match i, hd with
  | 0, hd =>
    obtain rfl := Option.some.inj hd
    refine ⟨[a0, a1, a2, a3], rfl, ?_, ht.below hb⟩
    intro j x hj
    match j, hj with
    | 0, hj => rw [← hj]; exact hx.cell 0
    | 1, hj => rw [← hj]; exact hx.cell 1
    | 2, hj => rw [← hj]; exact hx.cell 2
    | 3, hj => rw [← hj]; exact hx.cell 3
    | j + 4, hj => simp at hj
  | 1, hd =>
    obtain rfl := Option.some.inj hd
    refine ⟨[b0, b1, b2, b3], rfl, ?_, hu.below hb⟩
    intro j x hj
    match j, hj with
    | 0, hj => rw [← hj]; exact hx.cell 4
    | 1, hj => rw [← hj]; exact hx.cell 5
    | 2, hj => rw [← hj]; exact hx.cell 6
    | 3, hj => rw [← hj]; exact hx.cell 7
    | j + 4, hj => simp at hj
  | i + 2, hd => simp at hd

/-- Two arrays that are the same do not differ. -/
theorem exec_neq {t : TypeId} {o : Oper} {ev : Operand → Value} {r : TypeId} {x y : Operand} (A : Array Value) (w : World) (ho : o.op = .binOp .neq t x y r) (hx : ev x = .agg A) (hy : ev y = .agg A)
    (hg : Try.prog.eqGuardType Try.prog.depth t = false) (he : (Op.equalIn 10000 t (.agg A) (.agg A)).run Try.prog w = .ok true w) : (execOp ev o).run Try.prog w = .ok (.value (.bool false)) w := by
  unfold execOp
  simp only [ho, hx, hy]
  simp [run_eqGuard_agg, hg, run_neq_struct, he]

set_option maxRecDepth 1000000 in
set_option maxHeartbeats 4000000 in
theorem walk_long (v : Value) (t : TxD) (n m : Int) (w : World) (h : TxR w v t) (hl : 60 < t.ins.length ∨ 60 < t.outs.length) : Calls Try.prog 4 #[v, .int .i64 n, .int .i64 m] w (YesPost w) := by
  obtain ⟨iv, ov, rfl, _, _, hi, ho⟩ := h
  obtain ⟨Ai, ci, rfl, _⟩ := hi.slice
  obtain ⟨Ao, co, rfl, _⟩ := ho.slice
  obtain ⟨NI, hNI⟩ : ∃ N, t.ins.length = N := ⟨_, rfl⟩
  obtain ⟨NO, hNO⟩ : ∃ N, t.outs.length = N := ⟨_, rfl⟩
  rw [hNI] at hl ⊢
  rw [hNO] at hl ⊢
  have hb : Below w.heap.size w (w.alloc (.cells #[.int .u32 t.version, .slice Ai NI ci, .slice Ao NO co, .int .u32 t.lock] 26)) := (Below.refl _ _).alloc (Nat.le_refl _) _
  have HB := Kp.mk hb
  clear hb hi ho hNI hNO
  by_cases h1 : 60 < NI
  · have g1 : decide (60 < (NI : Int)) = true := by simp; omega
    clear hl h1
    go_enter Try.func4, Try.ntmps4
    go_wp2_with fail
    refine (awake4_any _).mono ?_
    rintro e w1 ⟨rfl, hb1⟩
    go_wp2
    go_ret
    exact ⟨rfl, HB.out.trans (hb1.mono HB.out.size)⟩
  · have g1 : decide (60 < (NI : Int)) = false := by simp; omega
    have g2 : decide (60 < (NO : Int)) = true := by simp; omega
    clear hl h1
    go_enter Try.func4, Try.ntmps4
    go_wp2_with fail
    refine (awake4_any _).mono ?_
    rintro e w1 ⟨rfl, hb1⟩
    go_wp2
    go_ret
    exact ⟨rfl, HB.out.trans (hb1.mono HB.out.size)⟩

set_option maxRecDepth 10000000 in
set_option maxHeartbeats 8000000 in
theorem walk_short (v : Value) (t : TxD) (n m : Int) (w : World) (h : TxR w v t) (hn : -9223372036854775808 ≤ n ∧ n ≤ 9223372036854775807) (hm : -9223372036854775808 ≤ m ∧ m ≤ 9223372036854775807) (h1 : t.ins.length ≤ 60) (h2 : t.outs.length ≤ 60) :
    Calls Try.prog 4 #[v, .int .i64 n, .int .i64 m] w (YesPost w) := by
  have HT := Kp.mk h
  obtain ⟨iv, ov, rfl, _, _, hi, ho⟩ := h
  obtain ⟨Ai, ci, rfl, _⟩ := hi.slice
  obtain ⟨Ao, co, rfl, _⟩ := ho.slice
  obtain ⟨NI, hNI⟩ : ∃ N, t.ins.length = N := ⟨_, rfl⟩
  obtain ⟨NO, hNO⟩ : ∃ N, t.outs.length = N := ⟨_, rfl⟩
  rw [hNI] at h1 HT ⊢
  rw [hNO] at h2 HT ⊢
  have g1 : decide (60 < (NI : Int)) = false := by simp; omega
  have g2 : decide (60 < (NO : Int)) = false := by simp; omega
  obtain ⟨W1, hW1⟩ : ∃ W, w.alloc (.cells #[.int .u32 t.version, .slice Ai NI ci, .slice Ao NO co, .int .u32 t.lock] 26) = W := ⟨_, rfl⟩
  have HB1 : Kp (Below w.heap.size w W1) := ⟨by rw [← hW1]; exact (Below.refl _ _).alloc (Nat.le_refl _) _⟩
  have HC : Kp (∀ W, Below W1.heap.size W1 W → W.cell? ⟨w.heap.size, 0, none⟩ = some (.int .u32 t.version) ∧ W.cell? ⟨w.heap.size, 1, none⟩ = some (.slice Ai NI ci) ∧ W.cell? ⟨w.heap.size, 2, none⟩ = some (.slice Ao NO co) ∧ W.cell? ⟨w.heap.size, 3, none⟩ = some (.int .u32 t.lock)) := ⟨fun W hW => by
    have hb : Box W w.heap.size 26 #[.int .u32 t.version, .slice Ai NI ci, .slice Ao NO co, .int .u32 t.lock] := by
      have h0 : Box W1 w.heap.size 26 #[.int .u32 t.version, .slice Ai NI ci, .slice Ao NO co, .int .u32 t.lock] := by rw [← hW1]; exact Box.fresh _ _ _
      exact h0.below hW
    exact ⟨hb.cell 0, hb.cell 1, hb.cell 2, hb.cell 3⟩⟩
  have HW1 := Kp.mk hW1
  have HL := Kp.mk (fun W => lawTx_any W n m hn hm)
  have hbd : Below W1.heap.size W1 W1.drew := (Below.refl _ _).drew
  have h0 := HC.out _ hbd
  have HBD := Kp.mk hbd
  have hrd : W1.drew.heap.size = W1.heap.size := rfl
  clear hi ho hNI hNO h1 h2 hn hm hW1 hbd hrd
  go_enter Try.func4, Try.ntmps4
  go_wp2_with fail
  rw [HW1.out]
  go_region_held3 (fun W => W.cell? ⟨w.heap.size, 0, none⟩ = some (.int .u32 t.version) ∧ W.cell? ⟨w.heap.size, 1, none⟩ = some (.slice Ai NI ci) ∧ W.cell? ⟨w.heap.size, 2, none⟩ = some (.slice Ao NO co) ∧ W.cell? ⟨w.heap.size, 3, none⟩ = some (.int .u32 t.lock)) (first | exact h0 | exact HC.out _ (HBD.out.trans hb2) | exact HC.out _ ((HBD.out.trans hb2).alloc (HBD.out.trans hb2).size _) | assumption) ((go_at_call 6; refine (HL.out _).mono ?_; rintro e w2 ⟨v2, rfl, hT2, hb2⟩; obtain ⟨iv2, ov2, rfl, _, _, hi2, ho2⟩ := id hT2; obtain ⟨Ai2, ci2, rfl⟩ := hi2.slice; obtain ⟨Ao2, co2, rfl⟩ := ho2.slice))
  have HB2 : Kp (Below w.heap.size w w2) := ⟨HB1.out.trans ((HBD.out.trans hb2).mono HB1.out.size)⟩
  have HT2 : Kp (TxR w2 (.agg #[.int .u32 t.version, .slice Ai NI ci, .slice Ao NO co, .int .u32 t.lock]) t) := ⟨HT.out.below HB2.out⟩
  have HU2 := Kp.mk hT2.txR
  obtain ⟨N2, hN2⟩ : ∃ N, (txOf n m).ins.length = N := ⟨_, rfl⟩
  obtain ⟨M2, hM2⟩ : ∃ N, (txOf n m).outs.length = N := ⟨_, rfl⟩
  rw [hN2, hM2] at HU2 ⊢
  clear hT2 hi2 ho2 hb2 h0 hN2 hM2 HC HW1 HBD HL HT HB1 g1 g2
  generalize txOf n m = u at *
  have HMANY := Kp.mk (two_txs w2 _ _ _ _ _ _ _ _ t u HT2.out HU2.out)
  obtain ⟨W3, hW3⟩ : ∃ W, w2.alloc (.cells #[.int .u32 t.version, .slice Ai NI ci, .slice Ao NO co, .int .u32 t.lock, .int .u32 u.version, .slice Ai2 N2 ci2, .slice Ao2 M2 co2, .int .u32 u.lock] 26) = W := ⟨_, rfl⟩
  have HB3 : Kp (Below w.heap.size w W3) := ⟨by rw [← hW3]; exact HB2.out.alloc HB2.out.size _⟩
  rw [hW3] at HMANY ⊢
  clear hW3 HT2 HU2 HB2
  have HAW : Kp (∀ W, Calls Try.prog 23 #[] W (YesPost W)) := ⟨awake4_any⟩
  go_wp2
  go_loopw [26] (fun i wr => ∃ j : Nat, j ≤ 2 ∧ i = .int .i64 j ∧ Kp (Below W3.heap.size W3 wr)) (fun i _ => 2 - (intOf i).toNat)
  case atStart => exact ⟨0, by omega, rfl, ⟨Below.refl _ _⟩⟩
  case round =>
    obtain ⟨j, hj, rfl, H⟩ := hrel
    by_cases hlt : j < 2
    · obtain ⟨b, off, cs, hA, hbl, hcl, hcs, hR⟩ := (Many.below HMANY.out H.out (fun cs x h => TxE.below (h.below (Below.refl _ _)) H.out)).at (i := j) (by simpa using hlt)
      injection hA with hA
      injection hA with hA1 hA2 _
      subst hA1
      subst hA2
      generalize [t, u][j] = d at *
      obtain ⟨iv3, ov3, he, hv3, hk3, hi3, ho3⟩ := id hR
      obtain ⟨Ai3, ci3, rfl, _⟩ := hi3.slice
      obtain ⟨Ao3, co3, rfl, _⟩ := ho3.slice
      obtain ⟨N3, hN3⟩ : ∃ N, d.ins.length = N := ⟨_, rfl⟩
      obtain ⟨M3, hM3⟩ : ∃ N, d.outs.length = N := ⟨_, rfl⟩
      rw [hN3, hM3] at he
      obtain rfl : cs = [.int .u32 d.version, .slice Ai3 N3 ci3, .slice Ao3 M3 co3, .int .u32 d.lock] := by
        injection he with he
        have := congrArg Array.toList he
        simpa using this
      rw [Nat.zero_add] at hcs
      have HCS := Kp.mk hcs
      have HR3 : Kp (TxR wr (.agg #[.int .u32 d.version, .slice Ai3 N3 ci3, .slice Ao3 M3 co3, .int .u32 d.lock]) d) := ⟨hR⟩
      have HIT : Kp ((Try.prog.info? 26).map (·.size) = some 4) := ⟨by kernel_rfl⟩
      obtain ⟨W4, hW4⟩ : ∃ W, wr.alloc (.cells #[.int .u32 d.version, .slice Ai3 N3 ci3, .slice Ao3 M3 co3, .int .u32 d.lock] 26) = W := ⟨_, rfl⟩
      have HB4 : Kp (Below wr.heap.size wr W4) := ⟨by rw [← hW4]; exact (Below.refl _ _).alloc (Nat.le_refl _) _⟩
      have HC : Kp (∀ W, Below W4.heap.size W4 W → W.cell? ⟨wr.heap.size, 0, none⟩ = some (.int .u32 d.version) ∧ W.cell? ⟨wr.heap.size, 1, none⟩ = some (.slice Ai3 N3 ci3) ∧ W.cell? ⟨wr.heap.size, 2, none⟩ = some (.slice Ao3 M3 co3) ∧ W.cell? ⟨wr.heap.size, 3, none⟩ = some (.int .u32 d.lock)) := ⟨fun W hW => by
        have hb : Box W wr.heap.size 26 #[.int .u32 d.version, .slice Ai3 N3 ci3, .slice Ao3 M3 co3, .int .u32 d.lock] := by
          have h0 : Box W4 wr.heap.size 26 #[.int .u32 d.version, .slice Ai3 N3 ci3, .slice Ao3 M3 co3, .int .u32 d.lock] := by rw [← hW4]; exact Box.fresh _ _ _
          exact h0.below hW
        exact ⟨hb.cell 0, hb.cell 1, hb.cell 2, hb.cell 3⟩⟩
      have HX : Kp (∀ W, Below W4.heap.size W4 W → TxR W (.agg #[.int .u32 d.version, .slice Ai3 N3 ci3, .slice Ao3 M3 co3, .int .u32 d.lock]) d) := ⟨fun W hW => (HR3.out.below HB4.out).below hW⟩
      have HW4 := Kp.mk hW4
      have HBY := Kp.mk hR.bys
      have HID : Kp (∀ W v, TxR W v d → Calls Try.prog 24 #[v] W (Ans (.agg (u8s (twiceOf (baseOf d)))) W)) := ⟨fun W v h => txid_any W v _ h h.bys⟩
      have HRI : Kp (∀ W v, TxR W v d → Calls Try.prog 25 #[v] W (Ans (.agg (u8s (twiceOf (baseOf d)))) W)) := ⟨fun W v h => refTxid_any W v _ h h.bys⟩
      have HWD : Kp (∀ W v, TxR W v d → Calls Try.prog 26 #[v] W (Ans (.agg (u8s (twiceOf (bytesOf d)))) W)) := ⟨fun W v h => wtxid_any W v _ h h.bys⟩
      have HRW : Kp (∀ W v, TxR W v d → Calls Try.prog 27 #[v] W (Ans (.agg (u8s (twiceOf (bytesOf d)))) W)) := ⟨fun W v h => refWtxid_any W v _ h h.bys⟩
      have HWT : Kp (∀ W v, TxR W v d → Calls Try.prog 28 #[v] W (NumP (weightOf d) W)) := ⟨fun W v h => weight_any W v _ h⟩
      have HRT : Kp (∀ W v, TxR W v d → Calls Try.prog 29 #[v] W (NumP (weightOf d) W)) := ⟨fun W v h => refWeight_any W v _ h⟩
      have HST : Kp (∀ W v, TxR W v d → Calls Try.prog 30 #[v] W (NumP (sizeOf d) W)) := ⟨fun W v h => size_any W v _ h⟩
      have HRS : Kp (∀ W v, TxR W v d → Calls Try.prog 31 #[v] W (NumP (sizeOf d) W)) := ⟨fun W v h => refSize_any W v _ h⟩
      have he1 := fun W => id_eq (twiceOf (baseOf d)) (shaOf_bys _) (shaOf_len _) W
      have he2 := fun W => id_eq (twiceOf (bytesOf d)) (shaOf_bys _) (shaOf_len _) W
      have hmg : Try.prog.eqGuardType Try.prog.depth 45 = false := by kernel_rfl
      generalize twiceOf (baseOf d) = R1 at *
      generalize twiceOf (bytesOf d) = R2 at *
      generalize weightOf d = wt at *
      generalize sizeOf d = sz at *
      have hj0 : (0 : Int) ≤ (j : Int) := by omega
      have hj2 : (j : Int) < 2 := by omega
      have HJ := Kp.mk hlt
      clear he hv3 hk3 hi3 ho3 hN3 hM3 hcs hR hbl hcl hW4 hj hlt
      go_wp2_with (first | (refine wpList_load_mid rfl 26 (.tmp 28) rfl w2.heap.size (j * 4) rfl [.int .u32 d.version, .slice Ai3 N3 ci3, .slice Ao3 M3 co3, .int .u32 d.lock] _ HCS.out Try.underlying26 rfl HIT.out ?_) | (refine wpList_store_fresh rfl 26 (.tmp 8) (.tmp 29) rfl _ #[.int .u32 d.version, .slice Ai3 N3 ci3, .slice Ao3 M3 co3, .int .u32 d.lock] wr.heap.size rfl rfl rfl HIT.out rfl rfl ?_))
      rw [HW4.out]
      have hbd : Below W4.heap.size W4 W4.drew := (Below.refl _ _).drew
      have hc0 := HC.out _ hbd
      refine wp_region_noPanic ?_
      refine wp_region_held_drew (S := (fun W => W.cell? ⟨wr.heap.size, 0, none⟩ = some (.int .u32 d.version) ∧ W.cell? ⟨wr.heap.size, 1, none⟩ = some (.slice Ai3 N3 ci3) ∧ W.cell? ⟨wr.heap.size, 2, none⟩ = some (.slice Ao3 M3 co3) ∧ W.cell? ⟨wr.heap.size, 3, none⟩ = some (.int .u32 d.lock))) (by kernel_rfl) ?_ (fun hHeld => ?_)
      · exact hc0
      refine wpAnyH_take (i := 0) (oi := ⟨some 30, _, _, _, _, _⟩) (v := ?_) rfl (by kernel_rfl) (by kernel_rfl) (by kernel_rfl) (fun _ _ _ h => h) (Or.inl ⟨by rfl, ?_⟩) hHeld ?_
      rotate_left
      · (intro wx hSw; (try dsimp only at hSw); go_simp; try with_reducible rfl)
      try simp only [Act.put, List.setIfInBounds_toArray, List.set_cons_zero, List.set_cons_succ]
      refine wpAnyH_take (i := 2) (oi := ⟨some 32, _, _, _, _, _⟩) (v := ?_) rfl (by kernel_rfl) (by kernel_rfl) (by kernel_rfl) (fun _ _ _ h => h) (Or.inl ⟨by rfl, ?_⟩) hHeld ?_
      rotate_left
      · (intro wx hSw; (try dsimp only at hSw); go_simp; try with_reducible rfl)
      try simp only [Act.put, List.setIfInBounds_toArray, List.set_cons_zero, List.set_cons_succ]
      refine wpAnyH_ready (rs := [1]) (by kernel_rfl) (by simp) (AllReadyH.cons (o := ⟨some 31, _, _, _, _, _⟩) rfl (fun K hK => ?_) AllReadyH.nil)
      go_simp
      refine (HID.out _ _ (HX.out _ hbd)).mono ?_
      rintro e w3 ⟨rfl, hb3⟩
      replace hbd := hbd.trans (hb3.mono hbd.size)
      clear hb3
      refine hK.out _ _ ?_ (fun hHeld => ?_)
      · exact HC.out _ hbd
      clear hK K
      try simp only [Act.put, List.setIfInBounds_toArray, List.set_cons_zero, List.set_cons_succ]
      refine wpAnyH_ready (rs := [3]) (by kernel_rfl) (by simp) (AllReadyH.cons (o := ⟨some 33, _, _, _, _, _⟩) rfl (fun K hK => ?_) AllReadyH.nil)
      go_simp
      refine (HRI.out _ _ (HX.out _ hbd)).mono ?_
      rintro e w4 ⟨rfl, hb4⟩
      replace hbd := hbd.trans (hb4.mono hbd.size)
      clear hb4
      refine hK.out _ _ ?_ (fun hHeld => ?_)
      · exact HC.out _ hbd
      clear hK K
      try simp only [Act.put, List.setIfInBounds_toArray, List.set_cons_zero, List.set_cons_succ]
      refine wpAnyH_take (i := 4) (oi := ⟨some 34, _, _, _, _, _⟩) (v := .bool false) rfl (by kernel_rfl) (by kernel_rfl) (by kernel_rfl) (fun _ _ _ h => h) (Or.inl ⟨by rfl, ?_⟩) hHeld ?_
      · (intro wx hSw; exact exec_neq (u8s R1) wx rfl rfl rfl hmg (he1 wx))
      try simp only [Act.put, List.setIfInBounds_toArray, List.set_cons_zero, List.set_cons_succ]
      refine wpAnyH_take (i := 5) (oi := ⟨some 35, _, _, _, _, _⟩) (v := ?_) rfl (by kernel_rfl) (by kernel_rfl) (by kernel_rfl) (fun _ _ _ h => h) (Or.inl ⟨by rfl, ?_⟩) hHeld ?_
      rotate_left
      · (intro wx hSw; (try dsimp only at hSw); go_simp; try with_reducible rfl)
      try simp only [Act.put, List.setIfInBounds_toArray, List.set_cons_zero, List.set_cons_succ]
      refine wpAnyH_take (i := 6) (oi := ⟨some 36, _, _, _, _, _⟩) (v := ?_) rfl (by kernel_rfl) (by kernel_rfl) (by kernel_rfl) (fun _ _ _ h => h) (Or.inl ⟨by rfl, ?_⟩) hHeld ?_
      rotate_left
      · (intro wx hSw; (try dsimp only at hSw); go_simp; try with_reducible rfl)
      try simp only [Act.put, List.setIfInBounds_toArray, List.set_cons_zero, List.set_cons_succ]
      refine wpAnyH_take (i := 8) (oi := ⟨some 38, _, _, _, _, _⟩) (v := ?_) rfl (by kernel_rfl) (by kernel_rfl) (by kernel_rfl) (fun _ _ _ h => h) (Or.inl ⟨by rfl, ?_⟩) hHeld ?_
      rotate_left
      · (intro wx hSw; (try dsimp only at hSw); go_simp; try with_reducible rfl)
      try simp only [Act.put, List.setIfInBounds_toArray, List.set_cons_zero, List.set_cons_succ]
      refine wpAnyH_ready (rs := [7]) (by kernel_rfl) (by simp) (AllReadyH.cons (o := ⟨some 37, _, _, _, _, _⟩) rfl (fun K hK => ?_) AllReadyH.nil)
      go_simp
      refine (HWD.out _ _ (HX.out _ hbd)).mono ?_
      rintro e w5 ⟨rfl, hb5⟩
      replace hbd := hbd.trans (hb5.mono hbd.size)
      clear hb5
      refine hK.out _ _ ?_ (fun hHeld => ?_)
      · exact HC.out _ hbd
      clear hK K
      try simp only [Act.put, List.setIfInBounds_toArray, List.set_cons_zero, List.set_cons_succ]
      refine wpAnyH_ready (rs := [9]) (by kernel_rfl) (by simp) (AllReadyH.cons (o := ⟨some 39, _, _, _, _, _⟩) rfl (fun K hK => ?_) AllReadyH.nil)
      go_simp
      refine (HRW.out _ _ (HX.out _ hbd)).mono ?_
      rintro e w6 ⟨rfl, hb6⟩
      replace hbd := hbd.trans (hb6.mono hbd.size)
      clear hb6
      refine hK.out _ _ ?_ (fun hHeld => ?_)
      · exact HC.out _ hbd
      clear hK K
      try simp only [Act.put, List.setIfInBounds_toArray, List.set_cons_zero, List.set_cons_succ]
      refine wpAnyH_take (i := 10) (oi := ⟨some 40, _, _, _, _, _⟩) (v := .bool false) rfl (by kernel_rfl) (by kernel_rfl) (by kernel_rfl) (fun _ _ _ h => h) (Or.inl ⟨by rfl, ?_⟩) hHeld ?_
      · (intro wx hSw; exact exec_neq (u8s R2) wx rfl rfl rfl hmg (he2 wx))
      try simp only [Act.put, List.setIfInBounds_toArray, List.set_cons_zero, List.set_cons_succ]
      refine wpAnyH_take (i := 11) (oi := ⟨some 41, _, _, _, _, _⟩) (v := ?_) rfl (by kernel_rfl) (by kernel_rfl) (by kernel_rfl) (fun _ _ _ h => h) (Or.inl ⟨by rfl, ?_⟩) hHeld ?_
      rotate_left
      · (intro wx hSw; (try dsimp only at hSw); go_simp; try with_reducible rfl)
      try simp only [Act.put, List.setIfInBounds_toArray, List.set_cons_zero, List.set_cons_succ]
      refine wpAnyH_take (i := 12) (oi := ⟨some 42, _, _, _, _, _⟩) (v := ?_) rfl (by kernel_rfl) (by kernel_rfl) (by kernel_rfl) (fun _ _ _ h => h) (Or.inl ⟨by rfl, ?_⟩) hHeld ?_
      rotate_left
      · (intro wx hSw; (try dsimp only at hSw); go_simp; try with_reducible rfl)
      try simp only [Act.put, List.setIfInBounds_toArray, List.set_cons_zero, List.set_cons_succ]
      refine wpAnyH_take (i := 13) (oi := ⟨some 43, _, _, _, _, _⟩) (v := ?_) rfl (by kernel_rfl) (by kernel_rfl) (by kernel_rfl) (fun _ _ _ h => h) (Or.inl ⟨by rfl, ?_⟩) hHeld ?_
      rotate_left
      · (intro wx hSw; (try dsimp only at hSw); go_simp; try with_reducible rfl)
      try simp only [Act.put, List.setIfInBounds_toArray, List.set_cons_zero, List.set_cons_succ]
      refine wpAnyH_take (i := 15) (oi := ⟨some 45, _, _, _, _, _⟩) (v := ?_) rfl (by kernel_rfl) (by kernel_rfl) (by kernel_rfl) (fun _ _ _ h => h) (Or.inl ⟨by rfl, ?_⟩) hHeld ?_
      rotate_left
      · (intro wx hSw; (try dsimp only at hSw); go_simp; try with_reducible rfl)
      try simp only [Act.put, List.setIfInBounds_toArray, List.set_cons_zero, List.set_cons_succ]
      refine wpAnyH_ready (rs := [14]) (by kernel_rfl) (by simp) (AllReadyH.cons (o := ⟨some 44, _, _, _, _, _⟩) rfl (fun K hK => ?_) AllReadyH.nil)
      go_simp
      refine (HWT.out _ _ (HX.out _ hbd)).mono ?_
      rintro e w7 ⟨rfl, hb7⟩
      replace hbd := hbd.trans (hb7.mono hbd.size)
      clear hb7
      refine hK.out _ _ ?_ (fun hHeld => ?_)
      · exact HC.out _ hbd
      clear hK K
      try simp only [Act.put, List.setIfInBounds_toArray, List.set_cons_zero, List.set_cons_succ]
      refine wpAnyH_ready (rs := [16]) (by kernel_rfl) (by simp) (AllReadyH.cons (o := ⟨some 46, _, _, _, _, _⟩) rfl (fun K hK => ?_) AllReadyH.nil)
      go_simp
      refine (HRT.out _ _ (HX.out _ hbd)).mono ?_
      rintro e w8 ⟨rfl, hb8⟩
      replace hbd := hbd.trans (hb8.mono hbd.size)
      clear hb8
      refine hK.out _ _ ?_ (fun hHeld => ?_)
      · exact HC.out _ hbd
      clear hK K
      try simp only [Act.put, List.setIfInBounds_toArray, List.set_cons_zero, List.set_cons_succ]
      refine wpAnyH_take (i := 17) (oi := ⟨some 47, _, _, _, _, _⟩) (v := ?_) rfl (by kernel_rfl) (by kernel_rfl) (by kernel_rfl) (fun _ _ _ h => h) (Or.inl ⟨by rfl, ?_⟩) hHeld ?_
      rotate_left
      · (intro wx hSw; (try dsimp only at hSw); go_simp; try with_reducible rfl)
      try simp only [Act.put, List.setIfInBounds_toArray, List.set_cons_zero, List.set_cons_succ]
      refine wpAnyH_take (i := 18) (oi := ⟨some 48, _, _, _, _, _⟩) (v := ?_) rfl (by kernel_rfl) (by kernel_rfl) (by kernel_rfl) (fun _ _ _ h => h) (Or.inl ⟨by rfl, ?_⟩) hHeld ?_
      rotate_left
      · (intro wx hSw; (try dsimp only at hSw); go_simp; try with_reducible rfl)
      try simp only [Act.put, List.setIfInBounds_toArray, List.set_cons_zero, List.set_cons_succ]
      refine wpAnyH_take (i := 19) (oi := ⟨some 49, _, _, _, _, _⟩) (v := ?_) rfl (by kernel_rfl) (by kernel_rfl) (by kernel_rfl) (fun _ _ _ h => h) (Or.inl ⟨by rfl, ?_⟩) hHeld ?_
      rotate_left
      · (intro wx hSw; (try dsimp only at hSw); go_simp; try with_reducible rfl)
      try simp only [Act.put, List.setIfInBounds_toArray, List.set_cons_zero, List.set_cons_succ]
      refine wpAnyH_take (i := 20) (oi := ⟨some 50, _, _, _, _, _⟩) (v := ?_) rfl (by kernel_rfl) (by kernel_rfl) (by kernel_rfl) (fun _ _ _ h => h) (Or.inl ⟨by rfl, ?_⟩) hHeld ?_
      rotate_left
      · (intro wx hSw; (try dsimp only at hSw); go_simp; try with_reducible rfl)
      try simp only [Act.put, List.setIfInBounds_toArray, List.set_cons_zero, List.set_cons_succ]
      refine wpAnyH_take (i := 22) (oi := ⟨some 52, _, _, _, _, _⟩) (v := ?_) rfl (by kernel_rfl) (by kernel_rfl) (by kernel_rfl) (fun _ _ _ h => h) (Or.inl ⟨by rfl, ?_⟩) hHeld ?_
      rotate_left
      · (intro wx hSw; (try dsimp only at hSw); go_simp; try with_reducible rfl)
      try simp only [Act.put, List.setIfInBounds_toArray, List.set_cons_zero, List.set_cons_succ]
      refine wpAnyH_ready (rs := [21]) (by kernel_rfl) (by simp) (AllReadyH.cons (o := ⟨some 51, _, _, _, _, _⟩) rfl (fun K hK => ?_) AllReadyH.nil)
      go_simp
      refine (HST.out _ _ (HX.out _ hbd)).mono ?_
      rintro e w9 ⟨rfl, hb9⟩
      replace hbd := hbd.trans (hb9.mono hbd.size)
      clear hb9
      refine hK.out _ _ ?_ (fun hHeld => ?_)
      · exact HC.out _ hbd
      clear hK K
      try simp only [Act.put, List.setIfInBounds_toArray, List.set_cons_zero, List.set_cons_succ]
      refine wpAnyH_ready (rs := [23]) (by kernel_rfl) (by simp) (AllReadyH.cons (o := ⟨some 53, _, _, _, _, _⟩) rfl (fun K hK => ?_) AllReadyH.nil)
      go_simp
      refine (HRS.out _ _ (HX.out _ hbd)).mono ?_
      rintro e w10 ⟨rfl, hb10⟩
      replace hbd := hbd.trans (hb10.mono hbd.size)
      clear hb10
      refine hK.out _ _ ?_ (fun hHeld => ?_)
      · exact HC.out _ hbd
      clear hK K
      try simp only [Act.put, List.setIfInBounds_toArray, List.set_cons_zero, List.set_cons_succ]
      refine wpAnyH_take (i := 24) (oi := ⟨some 54, _, _, _, _, _⟩) (v := ?_) rfl (by kernel_rfl) (by kernel_rfl) (by kernel_rfl) (fun _ _ _ h => h) (Or.inl ⟨by rfl, ?_⟩) hHeld ?_
      rotate_left
      · (intro wx hSw; (try dsimp only at hSw); go_simp; try with_reducible rfl)
      try simp only [Act.put, List.setIfInBounds_toArray, List.set_cons_zero, List.set_cons_succ]
      refine wpAnyH_take (i := 25) (oi := ⟨some 55, _, _, _, _, _⟩) (v := ?_) rfl (by kernel_rfl) (by kernel_rfl) (by kernel_rfl) (fun _ _ _ h => h) (Or.inl ⟨by rfl, ?_⟩) hHeld ?_
      rotate_left
      · (intro wx hSw; (try dsimp only at hSw); go_simp; try with_reducible rfl)
      try simp only [Act.put, List.setIfInBounds_toArray, List.set_cons_zero, List.set_cons_succ]
      refine wpAnyH_done (by kernel_rfl) ?_ _
      refine NoPanic.normal ?_
      go_wp2
      go_roundw
      case rel => exact ⟨j + 1, by have := HJ.out; omega, by go_num, ⟨H.out.trans ((HB4.out.trans (hbd.mono HB4.out.size)).mono H.out.size)⟩⟩
      case measure => simp [intOf]; have := HJ.out; omega
    · obtain rfl : j = 2 := by omega
      rw [show ((2 : Nat) : Int) = 2 from rfl]
      go_wp2_with fail
      refine (HAW.out _).mono ?_
      rintro e w8 ⟨rfl, hb8⟩
      go_wp2
      go_ret
      exact ⟨rfl, HB3.out.trans ((H.out.trans (hb8.mono H.out.size)).mono HB3.out.size)⟩

theorem walk (v : Value) (t : TxD) (n m : Int) (w : World) (h : TxR w v t) (hn : -9223372036854775808 ≤ n ∧ n ≤ 9223372036854775807) (hm : -9223372036854775808 ≤ m ∧ m ≤ 9223372036854775807) :
    Calls Try.prog 4 #[v, .int .i64 n, .int .i64 m] w (YesPost w) := by
  by_cases h1 : t.ins.length ≤ 60 ∧ t.outs.length ≤ 60
  · exact walk_short v t n m w h hn hm h1.1 h1.2
  · exact walk_long v t n m w h (by omega)

set_option maxRecDepth 100000 in
theorem lifted (os : Os) (started : os.Started) (H : Type) (enc : TypeId × Value → H) :
    ReturnsInHanded {} Try.checked os 4 .any (Rows.idsxTellsSpec.pre6 enc Try.prog Try.f4 Rows.idsxTellsRow.domain false) (Rows.idsxTellsSpec.post enc Try.prog Try.f4 false true false false) := by
  refine returnsInHanded_of_change (C := Try.checked) ownKnobNone started (by kernel_rfl) Try.func4
    (ChangeSpec.witness6 (enc := enc) (C := Try.checked) false ⟨#[], #[.agg #[.int .u32 0, .slice none 0 0, .slice none 0 0, .int .u32 0], .int .i64 0, .int .i64 0], []⟩ 8 (by kernel_rfl) (by kernel_rfl) (by kernel_rfl) (by kernel_rfl)) ?_
  intro W base args ds gs before hval0 hW _ _
  have hval : ∀ (j : Nat) t v, Try.f4.params[j]? = some t → args[j]? = some v → Value.okWide Try.prog W .any base t v := hval0
  have hW' := hW
  obtain ⟨p, q, hA0, hV, rfl, _, _⟩ := hW
  have hA : DataW.TrodAll enc Try.prog W 0 (fun _ => true) true Try.f4.params.toList args.toList ds p := hA0
  rw [Try.params4] at hA hval
  obtain ⟨v0, vs0, d0, ds0, p0, q0, hargs, rfl, rfl, h0, r0⟩ := trodAll_cons hA
  obtain ⟨v1, vs1, d1, ds1, p1, q1, rfl, rfl, rfl, h1, r1⟩ := trodAll_cons r0
  obtain ⟨v2, vs2, d2, ds2, p2, q2, rfl, rfl, rfl, h2, r2⟩ := trodAll_cons r1
  obtain ⟨rfl, rfl, rfl⟩ := trodAll_nil r2
  obtain rfl : args = #[v0, v1, v2] := by cases args; simp_all
  obtain ⟨rfl, rfl⟩ := trodVars_none hV
  obtain ⟨t0, s0⟩ := tx_arg (hval 0 26 v0 rfl rfl) h0
  obtain ⟨a1, rfl, rfl, rfl, w1⟩ := open_int Try.underlying3 (hval 1 3 v1 rfl rfl) h1
  have b1 := bd_i64 w1
  obtain ⟨a2, rfl, rfl, rfl, w2⟩ := open_int Try.underlying3 (hval 2 3 v2 rfl rfl) h2
  have b2 := bd_i64 w2
  clear hA0 hval0
  refine (walk v0 t0 a1 a2 W s0 b1 b2).mono fun e W' ⟨he, hb⟩ => ?_
  subst he
  exact ⟨_, rfl, law_post hW' rfl rfl (by kernel_rfl) rfl hb⟩

set_option maxRecDepth 100000 in
theorem over : Rows.idsxTellsRow.holds Try.pinned (OpenSpec.ofChange Rows.idsxTellsSpec) :=
  OpenClaim.holds_of_wide 4 Try.f4 rfl rfl rfl rfl rfl rfl rfl ⟨rfl, rfl, rfl, rfl, rfl⟩ rfl rfl rfl rfl rfl (by kernel_rfl) Try.func4 (by kernel_rfl)
    (of_decide_eq_true (by kernel_rfl)) (by unfold Func.isWrapper; first | (rw [if_pos (by decide +kernel)]; kernel_rfl) | (rw [if_neg (by decide +kernel)]; exact ⟨rfl, rfl⟩))
    (fun os started H enc _ => lifted os started H enc)

/-- The statement. -/
theorem proved : Rows.IdsxTellsSaid :=
  over
end Go.Proofs.Ytpbhlnmhaociiaa.lawIt
