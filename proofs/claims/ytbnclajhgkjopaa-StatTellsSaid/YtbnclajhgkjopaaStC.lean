/- The document's own Null, Coinbase, Values. -/
import Derived.Test.YtbnclajhgkjopaaStB
namespace Go.Proofs.Ytbnclajhgkjopaa
open Go.RowKit

set_option maxRecDepth 100000 in
theorem built_arr0 : Try.prog.built 28 [] = some (byteVals (zeros 32)).toArray := by kernel_rfl
set_option maxRecDepth 100000 in
theorem arr_guard : Try.prog.eqGuardType Try.prog.depth 28 = false := by kernel_rfl
set_option maxRecDepth 100000 in
set_option maxHeartbeats 1000000 in
theorem refnull_any (w : World) (cs : List Value) (d : InD) (h : InR w cs d) : Calls Try.prog 33 #[.agg cs.toArray] w (BoolP (nullB d) w) := by
  obtain ⟨sv, wv, rfl, hf, _, _⟩ := h
  have hb : Below w.heap.size w (w.alloc (.cells (inCells d sv wv).toArray 32)) := (Below.refl _ _).alloc (Nat.le_refl _) _
  have HB := Kp.mk hb
  have hx : Box (w.alloc (.cells (inCells d sv wv).toArray 32)) w.heap.size 32 (inCells d sv wv).toArray := Box.fresh _ _ _
  have HR := Kp.mk (inCells_range hx)
  have hv : (inCells d sv wv).toArray[32]? = some (.int .u32 d.vout) := by simpa using inCells_vout hf sv wv
  have HP : Kp ((Try.prog.info? 28).map (·.size) = some (byteVals d.prev).length) := ⟨by simp only [byteVals, List.length_map, hf.plen]; exact sizeArr⟩
  have hg := arr_guard
  have he := eql_prev d.prev (zeros 32) hf.pbys (zeros_bys 32) hf.plen (by simp [zeros])
  have HL : Kp (∀ L, L = [] → Try.prog.built 28 L = some (byteVals (zeros 32)).toArray) := ⟨fun L h => by rw [h]; exact built_arr0⟩
  generalize (inCells d sv wv).toArray = C at *
  generalize (byteVals (zeros 32)).toArray = Z at *
  obtain ⟨P, hP⟩ : ∃ P, byteVals d.prev = P := ⟨_, rfl⟩
  rw [hP] at HR HP he
  by_cases hz : d.prev = zeros 32
  · have HE : Kp (nullB d = decide ((d.vout : Int) = 4294967295)) := ⟨by
      unfold nullB
      rw [Bool.eq_iff_iff, decide_eq_true_eq, decide_eq_true_eq]
      constructor
      · rintro ⟨_, h⟩; omega
      · intro h; exact ⟨hz, by omega⟩⟩
    have he2 : ∀ w, (Op.equalIn 10000 28 (.agg P.toArray) (.agg Z)).run Try.prog w = .ok true w := fun w => by rw [he w, decide_eq_true hz]
    clear he hz hP hf hb hx
    go_enter Try.func33, Try.ntmps33
    go_wp2_with (first | (refine wpList_load_mid rfl 28 (.tmp 3) rfl w.heap.size 0 rfl P _ HR.out Try.underlying28 rfl HP.out ?_) | (refine wpList_built rfl 28 #[] rfl Z (HL.out _ rfl) ?_))
    go_ret
    exact ⟨by rw [HE.out]; rfl, HB.out⟩
  · have HE : Kp (nullB d = false) := ⟨by
      unfold nullB
      exact decide_eq_false fun h => hz h.1⟩
    have he2 : ∀ w, (Op.equalIn 10000 28 (.agg P.toArray) (.agg Z)).run Try.prog w = .ok false w := fun w => by rw [he w, decide_eq_false hz]
    clear he hz hP hf hb hx
    go_enter Try.func33, Try.ntmps33
    go_wp2_with (first | (refine wpList_load_mid rfl 28 (.tmp 3) rfl w.heap.size 0 rfl P _ HR.out Try.underlying28 rfl HP.out ?_) | (refine wpList_built rfl 28 #[] rfl Z (HL.out _ rfl) ?_))
    go_ret
    exact ⟨by rw [HE.out]; rfl, HB.out⟩

set_option maxRecDepth 100000 in
set_option maxHeartbeats 4000000 in
theorem refcoinbase_any (W : World) (v : Value) (t : TxD) (h : TxR W v t) : Calls Try.prog 21 #[v] W (BoolP (coinB t) W) := by
  obtain ⟨iv, ov, rfl, _, _, hi, ho⟩ := h
  obtain ⟨W1, hW1⟩ : ∃ W1, W.alloc (.cells #[.int .u32 t.version, iv, ov, .int .u32 t.lock] 26) = W1 := ⟨_, rfl⟩
  have HB1 : Kp (Below W.heap.size W W1) := ⟨by rw [← hW1]; exact (Below.refl _ _).alloc (Nat.le_refl _) _⟩
  have hcell : W1.cell? ⟨W.heap.size, 1, none⟩ = some iv := by
    have h0 : Box W1 W.heap.size 26 #[.int .u32 t.version, iv, ov, .int .u32 t.lock] := by rw [← hW1]; exact Box.fresh _ _ _
    exact h0.cell 1
  have HW1 := Kp.mk hW1
  have hi1 := ins_below hi HB1.out
  obtain ⟨Ai, ci, rfl, _⟩ := hi.slice
  obtain ⟨Ao, co, rfl, _⟩ := ho.slice
  by_cases hl : t.ins.length = 1
  · have hlt : 0 < t.ins.length := by omega
    obtain ⟨b, off, cs, rfl, hbl, hcl, hcs, hR⟩ := hi1.at hlt
    have hget : t.ins.getD 0 default = t.ins[0] := by rw [List.getD_eq_getElem?_getD, List.getElem?_eq_getElem hlt]; rfl
    have HE : Kp (coinB t = nullB t.ins[0]) := ⟨by unfold coinB; rw [hget, decide_eq_true hl]; rfl⟩
    rw [hl] at hcell ⊢
    rw [show off + 0 * 36 = off from by omega] at hcs
    have HCS := Kp.mk hcs
    have HC := Kp.mk (refnull_any W1 cs _ hR)
    have HI1 : Kp ((Try.prog.info? 32).map (·.size) = some cs.length) := ⟨by rw [hcl]; exact sizeIn⟩
    generalize t.outs.length = NO at *
    have HW2 : Kp (∀ K, W.alloc (.cells #[.int .u32 t.version, .slice (some ⟨b, off, none⟩) 1 ci, .slice Ao NO co, .int .u32 t.lock] 26) = K → K = W1) := ⟨fun K hK => by rw [← hK, ← HW1.out, hl]⟩
    generalize nullB (t.ins[0]'hlt) = bb at *
    clear hi ho hi1 hl hbl hcl hcs hR hget hW1 HW1
    go_enter Try.func21, Try.ntmps21
    go_upto_region 1 with fail
    rw [HW2.out _ rfl]
    go_wp2_with (first | (refine wpList_load_mid_g (by rfl) 32 (.tmp 10) rfl b off rfl cs _ HCS.out Try.underlying32 rfl HI1.out ?_) | (go_at_call 33; refine HC.out.mono ?_; rintro e w2 ⟨rfl, hb2⟩))
    go_ret
    exact ⟨by rw [HE.out]; rfl, HB1.out.trans (hb2.mono HB1.out.size)⟩
  · have HE : Kp (coinB t = false) := ⟨by unfold coinB; rw [decide_eq_false hl]; rfl⟩
    have g1 : (t.ins.length = 1) = False := eq_false hl
    have g2 : ((t.ins.length : Int) = 1) = False := eq_false (by omega)
    have g3 : ((t.ins.length : Int) == 1) = false := by simp; omega
    generalize t.ins.length = NI at *
    generalize t.outs.length = NO at *
    clear hi ho hi1 hl hW1
    go_enter Try.func21, Try.ntmps21
    go_upto_region 1 with fail
    rw [HW1.out]
    go_wp2
    go_ret
    exact ⟨by rw [HE.out]; rfl, HB1.out⟩

/-- A row of numbers of 64 bits, of the call's own. -/
def ValsP (l : List Int) (w : World) (e : Ending) (w' : World) : Prop := ∃ v, e = .returned v ∧ OwnK .u64 w' w.heap.size 33 v l ∧ Below w.heap.size w w'
set_option maxRecDepth 100000 in
set_option maxHeartbeats 4000000 in
theorem refvalues_any (W : World) (a0 a1 a3 ov : Value) (outs : List OutD) (h : OutsR W ov outs) (hl : outs.length ≤ 1000) : Calls Try.prog 36 #[.agg #[a0, a1, ov, a3]] W (ValsP (valsOf outs) W) := by
  obtain ⟨i0, hi, hz0, hz1, hz2⟩ := info_parts infoU64
  have HI := Kp.mk (And.intro hi (And.intro hz0 (And.intro hz1 hz2)))
  clear hi hz0 hz1 hz2
  have HO := Kp.mk h
  obtain ⟨A, c, rfl, hlc, hlm⟩ := h.slice
  obtain ⟨N, hN⟩ : ∃ N, outs.length = N := ⟨_, rfl⟩
  have HN := Kp.mk hN
  rw [hN] at hl ⊢
  obtain ⟨W1, hW1⟩ : ∃ W1, W.alloc (.cells #[a0, a1, .slice A N c, a3] 26) = W1 := ⟨_, rfl⟩
  have HB1 : Kp (Below W.heap.size W W1) := ⟨by rw [← hW1]; exact (Below.refl _ _).alloc (Nat.le_refl _) _⟩
  have HSZ : Kp (W.heap.size + 1 ≤ W1.heap.size) := ⟨by rw [← hW1, alloc_size1]; exact Nat.le_refl _⟩
  have HSZ2 : Kp (W1.heap.size ≤ W.heap.size + 1) := ⟨by rw [← hW1, alloc_size1]; exact Nat.le_refl _⟩
  have HCL : Kp (∀ wr, Below W1.heap.size W1 wr → wr.cell? ⟨W.heap.size, 2, none⟩ = some (.slice A N c)) := ⟨fun wr hb => by subst hW1; exact cell_made hb 2 _ rfl⟩
  have HW1 := Kp.mk hW1
  clear h hlc hlm hN hW1
  go_enter Try.func36, Try.ntmps36
  go_wp2
  rw [HW1.out]
  go_loopw [3, 4] (fun v i wr => ∃ k : Nat, k ≤ N ∧ i = .int .i64 k ∧ Kp (OwnK .u64 wr (W.heap.size + 1) 33 v (valsTo outs k) ∧ Below W1.heap.size W1 wr)) (fun _ i _ => N - (intOf i).toNat)
  case atStart => exact ⟨0, Nat.zero_le _, rfl, ⟨OwnK.none .u64 _ _ _, Below.refl _ _⟩⟩
  case round =>
    obtain ⟨k, hk, rfl, H⟩ := hrel
    have hcell := HCL.out wr H.out.2
    by_cases hlt : k < N
    · obtain ⟨hown, hbel⟩ := H.out
      have HLT := Kp.mk (show k < outs.length by have := HN.out; omega)
      have hO := outs_below HO.out (HB1.out.trans (hbel.mono HB1.out.size))
      have hnn := HN.out
      rw [hnn] at hO
      obtain ⟨b, off, cs, rfl, hbl, hcl, hcs, sv, rfl, hv, hrb⟩ := hO.at HLT.out
      have hget : outs.getD k default = outs[k]'HLT.out := by rw [List.getD_eq_getElem?_getD, List.getElem?_eq_getElem HLT.out]; rfl
      have HST : Kp (valsTo outs (k + 1) = valsTo outs k ++ [((outs[k]'HLT.out).value : Int)]) := ⟨by simp only [valsTo]; rw [hget]⟩
      have hc0 := hcs 0 _ rfl
      simp only [Nat.add_zero] at hc0
      generalize outs[k] = d at *
      obtain ⟨x, hx⟩ : ∃ x, d.value = x := ⟨_, rfl⟩
      rw [hx] at hc0 HST
      have HOWN := Kp.mk hown
      have HB := Kp.mk hbel
      have HK := Kp.mk hlt
      have HL := Kp.mk hl
      have HLEN := Kp.mk (valsTo_len outs k)
      have HBA : Kp (∀ c t, Below W1.heap.size W1 (wr.alloc (.cells c t))) := ⟨fun c t => HB.out.alloc HB.out.size _⟩
      have hkn : (k : Int) < (N : Int) := by omega
      clear hO hbl hcl hcs hv hrb hx hbel hnn hget hown
      go_wp2_with (first | (at_builtin; refine wpList_append_nums .u64 8 (by omega) rfl (.tmp 12) (.tmp 19) 55 rfl (W.heap.size + 1) 33 i0 Try.underlying55 HI.out.1 HI.out.2.1 HI.out.2.2.1 HI.out.2.2.2 _ (valsTo outs k) rfl (HOWN.out.below ((Below.refl _ _).alloc (Nat.le_refl _) _)) _ [(x : Int)] rfl (SlK.fresh .u64 wr 33 [(x : Int)]) (by have := HLEN.out; have := HK.out; have := HL.out; simp only [List.length_singleton]; omega) (Nat.le_trans HSZ.out (HBA.out _ _).size) ?_; intro v1 w1 ho1 hg1; have HG1 := Kp.mk ((HOWN.out.below ((Below.refl _ _).alloc (Nat.le_refl _) _)).grows (HBA.out _ _) hg1 HSZ2.out); have HO1 := Kp.mk ho1; clear ho1 hg1))
      go_roundw
      case rel => exact ⟨k + 1, by have := HK.out; omega, by go_num, ⟨by rw [HST.out]; exact HO1.out, HG1.out⟩⟩
      case measure => simp [intOf]; have := HK.out; omega
    · obtain ⟨hown, hbel⟩ := H.out
      obtain rfl : k = N := by omega
      have HD : Kp (valsOf outs = valsTo outs k) := ⟨by rw [← HN.out]; rfl⟩
      have HOWN := Kp.mk hown
      have HB := Kp.mk hbel
      clear hown hbel
      go_wp2
      go_ret
      exact ⟨_, rfl, by rw [HD.out]; exact HOWN.out.less (Nat.le_succ _), HB1.out.trans (HB.out.mono HB1.out.size)⟩
end Go.Proofs.Ytbnclajhgkjopaa
