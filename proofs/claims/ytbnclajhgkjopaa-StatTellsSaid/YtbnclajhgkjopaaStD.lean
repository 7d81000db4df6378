/- The document's own Check. -/
import Derived.Test.YtbnclajhgkjopaaStC
import Derived.Deep.DeepCutAuto
import Derived.Deep.CutBlock
import Derived.BigQuiet
namespace Go.Proofs.Ytbnclajhgkjopaa
open Go.RowKit

/-- Some cells of a row loaded, as one step of a quiet region. -/
theorem quiet_load_mid {P : Program} {o : Oper} {a : Act} {w0 : World} {K : Act → Prop} (ty : TypeId) (x : Operand) (ho : o.op = .load ty x)
    (b off : Nat) (hx : a.eval x = .pointer (some ⟨b, off, none⟩)) (cs : List Value) (d : TypeDesc) (hc : w0.rangeAt b off cs)
    (hu : P.underlying ty = some d) (hd : d.isRow = true) (hi : (P.info? ty).map (·.size) = some cs.length)
    (h : K (a.put o.dst (.agg cs.toArray))) : o.quiet P a (fun w' => ∃ n, w' = w0.drewN n) K :=
  ⟨.agg cs.toArray, fun w hw => by
    obtain ⟨n, rfl⟩ := hw
    have hc' : (w0.drewN n).rangeAt b off cs := fun j v hj => hc j v hj
    unfold Oper.quietAt execOp
    simp only [ho, hx, Instr.loadAt, Instr.sureAddr, Sem.run_bind, Sem.run_pure, Result.andThen_ok, run_loadVar_mid _ b off ty cs d hc' hu hd hi]
    exact ⟨rfl, rfl⟩, h⟩
/-- Whether one of the first n names nothing. -/
def nullTo (l : List InD) : Nat → Bool
  | 0 => false
  | n + 1 => nullTo l n || nullB (l.getD n default)
theorem nullTo_any (l : List InD) : ∀ n, n ≤ l.length → nullTo l n = (l.take n).any nullB
  | 0, _ => by simp [nullTo]
  | n + 1, h => by
    rw [nullTo, nullTo_any l n (by omega), List.take_succ_eq_append_getElem (by omega), List.any_append]
    simp [List.getD_eq_getElem?_getD, List.getElem?_eq_getElem (show n < l.length by omega)]
theorem nullTo_all (l : List InD) : nullTo l l.length = l.any nullB := by rw [nullTo_any l _ (Nat.le_refl _), List.take_length]
/-- Whether one of the first n is of no kind. -/
def noneTo (outs : List OutD) : Nat → Bool
  | 0 => false
  | n + 1 => noneTo outs n || decide ((kindOf (outs.getD n default).script : Int) = 0)
theorem noneTo_cnt (outs : List OutD) : ∀ n, noneTo outs n = decide (0 < cntTo outs 0 n)
  | 0 => rfl
  | n + 1 => by
    rw [noneTo, noneTo_cnt outs n, cntTo]
    by_cases h : (kindOf (outs.getD n default).script : Int) = 0
    · rw [if_pos h, decide_eq_true h, Bool.or_true, decide_eq_true (by omega)]
    · rw [if_neg h, decide_eq_false h, Bool.or_false, Nat.add_zero]
set_option maxRecDepth 100000 in
set_option maxHeartbeats 4000000 in
theorem refcheck_1 (W : World) (v : Value) (t : TxD) (h : TxR W v t) (hmay : mayB t = false) : Calls Try.prog 19 #[v] W (CodeP 1 W) := by
  have HT := Kp.mk h
  obtain ⟨iv, ov, rfl, hv4, _, hi, ho⟩ := h
  obtain ⟨W1, hW1⟩ : ∃ W1, W.alloc (.cells #[.int .u32 t.version, iv, ov, .int .u32 t.lock] 26) = W1 := ⟨_, rfl⟩
  have HB1 : Kp (Below W.heap.size W W1) := ⟨by rw [← hW1]; exact (Below.refl _ _).alloc (Nat.le_refl _) _⟩
  have HBX : Kp (∀ wr, Below W1.heap.size W1 wr → wr.heap[W.heap.size]? = some (.cells #[.int .u32 t.version, iv, ov, .int .u32 t.lock] 26 (0, 0)) ∧ wr.cell? ⟨W.heap.size, 0, none⟩ = some (.int .u32 t.version) ∧ wr.cell? ⟨W.heap.size, 1, none⟩ = some iv ∧ wr.cell? ⟨W.heap.size, 2, none⟩ = some ov) := ⟨fun wr hb => by
    have hb : Box wr W.heap.size 26 #[.int .u32 t.version, iv, ov, .int .u32 t.lock] := by
      have h0 : Box W1 W.heap.size 26 #[.int .u32 t.version, iv, ov, .int .u32 t.lock] := by rw [← hW1]; exact Box.fresh _ _ _
      exact h0.below hb
    exact ⟨hb, hb.cell 0, hb.cell 1, hb.cell 2⟩⟩
  have HW1 := Kp.mk hW1
  have HIT : Kp ((Try.prog.info? 26).map (·.size) = some 4) := ⟨by kernel_rfl⟩
  have HC1 := Kp.mk (refmay_any W1 _ t (HT.out.below HB1.out))
  rw [hmay] at HC1
  have hoo : True := trivial
  obtain ⟨Ai, ci, rfl, _⟩ := hi.slice
  obtain ⟨Ao, co, rfl, _⟩ := ho.slice
  generalize t.ins.length = NI at *
  generalize t.outs.length = NO at *
  clear hi ho hv4 hW1 hoo hmay HT
  go_enter Try.func19, Try.ntmps19
  go_wp2_with fail
  rw [HW1.out]
  go_wp2_with (first | (go_at_call 32; refine HC1.out.mono ?_; rintro e w2 ⟨rfl, hb2⟩; have HD2 := Kp.mk hb2; have HB2 := Kp.mk (HB1.out.trans (hb2.mono HB1.out.size)); obtain ⟨x2, a2, b2, c2⟩ := HBX.out _ HD2.out; have HX2 := Kp.mk x2; clear x2 hb2))
  go_ret
  exact ⟨rfl, HB2.out⟩

set_option maxRecDepth 100000 in
set_option maxHeartbeats 4000000 in
theorem refcheck_2a (W : World) (v : Value) (t : TxD) (h : TxR W v t) (hmay : mayB t = true) (hver : t.version = 0) : Calls Try.prog 19 #[v] W (CodeP 2 W) := by
  have HT := Kp.mk h
  have HM := Kp.mk ((mayB_iff t).1 hmay)
  obtain ⟨iv, ov, rfl, hv4, _, hi, ho⟩ := h
  obtain ⟨W1, hW1⟩ : ∃ W1, W.alloc (.cells #[.int .u32 t.version, iv, ov, .int .u32 t.lock] 26) = W1 := ⟨_, rfl⟩
  have HB1 : Kp (Below W.heap.size W W1) := ⟨by rw [← hW1]; exact (Below.refl _ _).alloc (Nat.le_refl _) _⟩
  have HBX : Kp (∀ wr, Below W1.heap.size W1 wr → wr.heap[W.heap.size]? = some (.cells #[.int .u32 t.version, iv, ov, .int .u32 t.lock] 26 (0, 0)) ∧ wr.cell? ⟨W.heap.size, 0, none⟩ = some (.int .u32 t.version) ∧ wr.cell? ⟨W.heap.size, 1, none⟩ = some iv ∧ wr.cell? ⟨W.heap.size, 2, none⟩ = some ov) := ⟨fun wr hb => by
    have hb : Box wr W.heap.size 26 #[.int .u32 t.version, iv, ov, .int .u32 t.lock] := by
      have h0 : Box W1 W.heap.size 26 #[.int .u32 t.version, iv, ov, .int .u32 t.lock] := by rw [← hW1]; exact Box.fresh _ _ _
      exact h0.below hb
    exact ⟨hb, hb.cell 0, hb.cell 1, hb.cell 2⟩⟩
  have HW1 := Kp.mk hW1
  have HIT : Kp ((Try.prog.info? 26).map (·.size) = some 4) := ⟨by kernel_rfl⟩
  have HC1 := Kp.mk (refmay_any W1 _ t (HT.out.below HB1.out))
  rw [hmay] at HC1
  have gv1 : (t.version = 0) = True := eq_true hver
  have gv2 : ((t.version : Int) = 0) = True := eq_true (by omega)
  have gv3 : ((t.version : Int) == 0) = true := by simpa using hver
  have hoo : t.outs.length ≤ 1000 := by have := HM.out.o50; omega
  obtain ⟨Ai, ci, rfl, _⟩ := hi.slice
  obtain ⟨Ao, co, rfl, _⟩ := ho.slice
  generalize t.ins.length = NI at *
  generalize t.outs.length = NO at *
  clear hi ho hv4 hW1 hoo hmay hver HT
  go_enter Try.func19, Try.ntmps19
  go_wp2_with fail
  rw [HW1.out]
  go_wp2_with (first | (go_at_call 32; refine HC1.out.mono ?_; rintro e w2 ⟨rfl, hb2⟩; have HD2 := Kp.mk hb2; have HB2 := Kp.mk (HB1.out.trans (hb2.mono HB1.out.size)); obtain ⟨x2, a2, b2, c2⟩ := HBX.out _ HD2.out; have HX2 := Kp.mk x2; clear x2 hb2))
  go_ret
  exact ⟨rfl, HB2.out⟩

set_option maxRecDepth 100000 in
set_option maxHeartbeats 4000000 in
theorem refcheck_2b (W : World) (v : Value) (t : TxD) (h : TxR W v t) (hmay : mayB t = true) (hver : ¬ t.version = 0 ∧ 3 < t.version) : Calls Try.prog 19 #[v] W (CodeP 2 W) := by
  have HT := Kp.mk h
  have HM := Kp.mk ((mayB_iff t).1 hmay)
  obtain ⟨iv, ov, rfl, hv4, _, hi, ho⟩ := h
  obtain ⟨W1, hW1⟩ : ∃ W1, W.alloc (.cells #[.int .u32 t.version, iv, ov, .int .u32 t.lock] 26) = W1 := ⟨_, rfl⟩
  have HB1 : Kp (Below W.heap.size W W1) := ⟨by rw [← hW1]; exact (Below.refl _ _).alloc (Nat.le_refl _) _⟩
  have HBX : Kp (∀ wr, Below W1.heap.size W1 wr → wr.heap[W.heap.size]? = some (.cells #[.int .u32 t.version, iv, ov, .int .u32 t.lock] 26 (0, 0)) ∧ wr.cell? ⟨W.heap.size, 0, none⟩ = some (.int .u32 t.version) ∧ wr.cell? ⟨W.heap.size, 1, none⟩ = some iv ∧ wr.cell? ⟨W.heap.size, 2, none⟩ = some ov) := ⟨fun wr hb => by
    have hb : Box wr W.heap.size 26 #[.int .u32 t.version, iv, ov, .int .u32 t.lock] := by
      have h0 : Box W1 W.heap.size 26 #[.int .u32 t.version, iv, ov, .int .u32 t.lock] := by rw [← hW1]; exact Box.fresh _ _ _
      exact h0.below hb
    exact ⟨hb, hb.cell 0, hb.cell 1, hb.cell 2⟩⟩
  have HW1 := Kp.mk hW1
  have HIT : Kp ((Try.prog.info? 26).map (·.size) = some 4) := ⟨by kernel_rfl⟩
  have HC1 := Kp.mk (refmay_any W1 _ t (HT.out.below HB1.out))
  rw [hmay] at HC1
  have gv1 : (t.version = 0) = False := eq_false hver.1
  have gv2 : ((t.version : Int) = 0) = False := eq_false (by omega)
  have gv3 : ((t.version : Int) == 0) = false := by simpa using hver.1
  have gv4 : (3 : Int) < (t.version : Int) := by omega
  have gv5 : (3 : Nat) < t.version := hver.2
  have hoo : t.outs.length ≤ 1000 := by have := HM.out.o50; omega
  obtain ⟨Ai, ci, rfl, _⟩ := hi.slice
  obtain ⟨Ao, co, rfl, _⟩ := ho.slice
  generalize t.ins.length = NI at *
  generalize t.outs.length = NO at *
  clear hi ho hv4 hW1 hoo hmay hver HT
  go_enter Try.func19, Try.ntmps19
  go_wp2_with fail
  rw [HW1.out]
  go_wp2_with (first | (go_at_call 32; refine HC1.out.mono ?_; rintro e w2 ⟨rfl, hb2⟩; have HD2 := Kp.mk hb2; have HB2 := Kp.mk (HB1.out.trans (hb2.mono HB1.out.size)); obtain ⟨x2, a2, b2, c2⟩ := HBX.out _ HD2.out; have HX2 := Kp.mk x2; clear x2 hb2))
  go_ret
  exact ⟨rfl, HB2.out⟩

set_option maxRecDepth 100000 in
set_option maxHeartbeats 4000000 in
theorem refcheck_3 (W : World) (v : Value) (t : TxD) (h : TxR W v t) (hmay : mayB t = true) (hver : ¬ t.version = 0 ∧ t.version ≤ 3) (hwt : 80000 < weightOf t) : Calls Try.prog 19 #[v] W (CodeP 3 W) := by
  have HT := Kp.mk h
  have HM := Kp.mk ((mayB_iff t).1 hmay)
  obtain ⟨iv, ov, rfl, hv4, _, hi, ho⟩ := h
  obtain ⟨W1, hW1⟩ : ∃ W1, W.alloc (.cells #[.int .u32 t.version, iv, ov, .int .u32 t.lock] 26) = W1 := ⟨_, rfl⟩
  have HB1 : Kp (Below W.heap.size W W1) := ⟨by rw [← hW1]; exact (Below.refl _ _).alloc (Nat.le_refl _) _⟩
  have HBX : Kp (∀ wr, Below W1.heap.size W1 wr → wr.heap[W.heap.size]? = some (.cells #[.int .u32 t.version, iv, ov, .int .u32 t.lock] 26 (0, 0)) ∧ wr.cell? ⟨W.heap.size, 0, none⟩ = some (.int .u32 t.version) ∧ wr.cell? ⟨W.heap.size, 1, none⟩ = some iv ∧ wr.cell? ⟨W.heap.size, 2, none⟩ = some ov) := ⟨fun wr hb => by
    have hb : Box wr W.heap.size 26 #[.int .u32 t.version, iv, ov, .int .u32 t.lock] := by
      have h0 : Box W1 W.heap.size 26 #[.int .u32 t.version, iv, ov, .int .u32 t.lock] := by rw [← hW1]; exact Box.fresh _ _ _
      exact h0.below hb
    exact ⟨hb, hb.cell 0, hb.cell 1, hb.cell 2⟩⟩
  have HW1 := Kp.mk hW1
  have HIT : Kp ((Try.prog.info? 26).map (·.size) = some 4) := ⟨by kernel_rfl⟩
  have HC1 := Kp.mk (refmay_any W1 _ t (HT.out.below HB1.out))
  rw [hmay] at HC1
  have gv1 : (t.version = 0) = False := eq_false hver.1
  have gv2 : ((t.version : Int) = 0) = False := eq_false (by omega)
  have gv3 : ((t.version : Int) == 0) = false := by simpa using hver.1
  have gv4 : ((3 : Int) < (t.version : Int)) = False := eq_false (by omega)
  have gv5 : (3 < t.version) = False := eq_false (by omega)
  have hoo : t.outs.length ≤ 1000 := by have := HM.out.o50; omega
  have HC2 : Kp (∀ wi, Below W.heap.size W wi → Calls Try.prog 17 #[.agg #[.int .u32 t.version, iv, ov, .int .u32 t.lock]] wi (NumP (weightOf t) wi)) := ⟨fun wi hb => refWeight_any wi _ t (HT.out.below hb)⟩
  have gw : (80000 : Int) < (weightOf t : Int) := by omega
  have gw2 : (80000 : Nat) < weightOf t := hwt
  generalize weightOf t = wt at *
  obtain ⟨Ai, ci, rfl, _⟩ := hi.slice
  obtain ⟨Ao, co, rfl, _⟩ := ho.slice
  generalize t.ins.length = NI at *
  generalize t.outs.length = NO at *
  clear hi ho hv4 hW1 hoo hmay hver hwt HT
  go_enter Try.func19, Try.ntmps19
  go_wp2_with fail
  rw [HW1.out]
  go_wp2_with (first | (go_at_call 32; refine HC1.out.mono ?_; rintro e w2 ⟨rfl, hb2⟩; have HD2 := Kp.mk hb2; have HB2 := Kp.mk (HB1.out.trans (hb2.mono HB1.out.size)); obtain ⟨x2, a2, b2, c2⟩ := HBX.out _ HD2.out; have HX2 := Kp.mk x2; clear x2 hb2) | (refine wpList_load_row rfl 26 (.tmp 1) rfl W.heap.size rfl 26 _ (0, 0) _ HX2.out Try.underlying26 rfl HIT.out ?_) | (go_at_call 17; refine (HC2.out _ HB2.out).mono ?_; rintro e w3 ⟨rfl, hb3⟩; have HD3 := Kp.mk (HD2.out.trans (hb3.mono HD2.out.size)); have HB3 := Kp.mk (HB2.out.trans (hb3.mono HB2.out.size)); obtain ⟨x3, a3, b3, c3⟩ := HBX.out _ HD3.out; have HX3 := Kp.mk x3; clear x3 hb3))
  go_ret
  exact ⟨rfl, HB3.out⟩

theorem int_beq (a b : Nat) : ((a : Int) == (b : Int)) = decide (a = b) := by
  rw [Bool.eq_iff_iff, beq_iff_eq, decide_eq_true_eq]
  omega
set_option maxRecDepth 1000000 in
set_option maxHeartbeats 8000000 in
theorem refcheck_rest (W : World) (v : Value) (t : TxD) (h : TxR W v t) (hmay : mayB t = true) (hver : ¬ t.version = 0 ∧ t.version ≤ 3) (hwt : weightOf t ≤ 80000) : Calls Try.prog 19 #[v] W (CodeP (checkV t) W) := by
  have HT := Kp.mk h
  have HM := Kp.mk ((mayB_iff t).1 hmay)
  obtain ⟨iv, ov, rfl, hv4, _, hi, ho⟩ := h
  obtain ⟨W1, hW1⟩ : ∃ W1, W.alloc (.cells #[.int .u32 t.version, iv, ov, .int .u32 t.lock] 26) = W1 := ⟨_, rfl⟩
  have HB1 : Kp (Below W.heap.size W W1) := ⟨by rw [← hW1]; exact (Below.refl _ _).alloc (Nat.le_refl _) _⟩
  have HBX : Kp (∀ wr, Below W1.heap.size W1 wr → wr.heap[W.heap.size]? = some (.cells #[.int .u32 t.version, iv, ov, .int .u32 t.lock] 26 (0, 0)) ∧ wr.cell? ⟨W.heap.size, 0, none⟩ = some (.int .u32 t.version) ∧ wr.cell? ⟨W.heap.size, 1, none⟩ = some iv ∧ wr.cell? ⟨W.heap.size, 2, none⟩ = some ov) := ⟨fun wr hb => by
    have hb : Box wr W.heap.size 26 #[.int .u32 t.version, iv, ov, .int .u32 t.lock] := by
      have h0 : Box W1 W.heap.size 26 #[.int .u32 t.version, iv, ov, .int .u32 t.lock] := by rw [← hW1]; exact Box.fresh _ _ _
      exact h0.below hb
    exact ⟨hb, hb.cell 0, hb.cell 1, hb.cell 2⟩⟩
  have HW1 := Kp.mk hW1
  have HIT : Kp ((Try.prog.info? 26).map (·.size) = some 4) := ⟨by kernel_rfl⟩
  have HC1 := Kp.mk (refmay_any W1 _ t (HT.out.below HB1.out))
  rw [hmay] at HC1
  have gv1 : (t.version = 0) = False := eq_false hver.1
  have gv2 : ((t.version : Int) = 0) = False := eq_false (by omega)
  have gv3 : ((t.version : Int) == 0) = false := by simpa using hver.1
  have gv4 : ((3 : Int) < (t.version : Int)) = False := eq_false (by omega)
  have gv5 : (3 < t.version) = False := eq_false (by omega)
  have hoo : t.outs.length ≤ 1000 := by have := HM.out.o50; omega
  have HC2 : Kp (∀ wi, Below W.heap.size W wi → Calls Try.prog 17 #[.agg #[.int .u32 t.version, iv, ov, .int .u32 t.lock]] wi (NumP (weightOf t) wi)) := ⟨fun wi hb => refWeight_any wi _ t (HT.out.below hb)⟩
  have gw : ((80000 : Int) < (weightOf t : Int)) = False := eq_false (by omega)
  have gw2 : (80000 < weightOf t) = False := eq_false (by omega)
  have HC4 : Kp (∀ wi, Below W.heap.size W wi → Calls Try.prog 36 #[.agg #[.int .u32 t.version, iv, ov, .int .u32 t.lock]] wi (ValsP (valsOf t.outs) wi)) := ⟨fun wi hb => refvalues_any wi _ _ _ ov t.outs (outs_below ho hb) hoo⟩
  have HC5 : Kp (∀ wi, Below W.heap.size W wi → Calls Try.prog 37 #[.agg #[.int .u32 t.version, iv, ov, .int .u32 t.lock]] wi (IntsP (dustsOf t.outs) wi)) := ⟨fun wi hb => refdusts_any wi _ _ _ ov t.outs (outs_below ho hb) hoo⟩
  have HVU : Kp (U64s (valsOf t.outs) ∧ (valsOf t.outs).length ≤ maxLen) := ⟨valsTo_u64 _ (outs_fit ho) _, by unfold valsOf; rw [valsTo_len]; unfold maxLen; omega⟩
  have HEND : Kp (checkV t = if nullTo t.ins t.ins.length = true then 4 else if dupTo t.ins t.ins.length = true then 5 else if noneTo t.outs t.outs.length = true then 6 else if 1 < cntTo t.outs 5 t.outs.length then 7 else if sumB t.outs = false then 8 else if 1 < (dustsOf t.outs).length then 9 else 0) := ⟨by
    unfold checkV
    rw [hmay, if_neg (by simp), if_neg (by omega), if_neg (by omega), nullTo_all, noneTo_cnt]
    simp only [decide_eq_true_eq]
    rfl⟩
  have HSUM : Kp (sumB t.outs = decide (tot (valsOf t.outs) ≤ 2100000000000000)) := ⟨rfl⟩
  generalize weightOf t = wt at *
  generalize sumB t.outs = sb at *
  generalize valsOf t.outs = vl at *
  generalize dustsOf t.outs = ds at *
  generalize checkV t = cv at *
  have HI := Kp.mk hi
  have HO := Kp.mk ho
  have HFIT := Kp.mk (ins_fit hi)
  obtain ⟨bi, oi, ci, rfl, hbi, hAT⟩ : ∃ b off c, iv = .slice (some ⟨b, off, none⟩) t.ins.length c ∧ b < W.heap.size ∧ ∀ (j : Nat) (hj : j < t.ins.length), ∃ cs, cs.length = 36 ∧ W.rangeAt b (off + j * 36) cs ∧ InR W cs t.ins[j] := by
    obtain ⟨A, c, rfl, _⟩ := hi.slice
    obtain ⟨b, off, rfl, h1, h2⟩ := hi.all (by intro e; have := HM.out.i1; rw [e] at this; simp at this)
    exact ⟨b, off, c, rfl, h1, h2⟩
  obtain ⟨bo, oo, co, rfl, hbo, hOT⟩ : ∃ b off c, ov = .slice (some ⟨b, off, none⟩) t.outs.length c ∧ b < W.heap.size ∧ ∀ (j : Nat) (hj : j < t.outs.length), ∃ cs, cs.length = 2 ∧ W.rangeAt b (off + j * 2) cs ∧ OutR W cs t.outs[j] := by
    obtain ⟨A, c, rfl, _⟩ := ho.slice
    obtain ⟨b, off, rfl, h1, h2⟩ := ho.all (by intro e; have := HM.out.o1; rw [e] at this; simp at this)
    exact ⟨b, off, c, rfl, h1, h2⟩
  have HIN50 : Kp (t.ins.length ≤ 50 ∧ t.outs.length ≤ 50) := ⟨HM.out.i50, HM.out.o50⟩
  obtain ⟨NI, hNI⟩ : ∃ N, t.ins.length = N := ⟨_, rfl⟩
  obtain ⟨NO, hNO⟩ : ∃ N, t.outs.length = N := ⟨_, rfl⟩
  have HNI := Kp.mk hNI
  have HNO := Kp.mk hNO
  have HBI := Kp.mk (And.intro hbi hbo)
  rw [hNI] at HEND HIN50
  rw [hNO] at HEND HIN50
  have HAT : Kp (∀ (j : Nat) (hj : j < t.ins.length), ∃ cs, cs.length = 36 ∧ W.rangeAt bi (oi + j * 36) cs ∧ InR W cs t.ins[j]) := ⟨hAT⟩
  have HOT : Kp (∀ (j : Nat) (hj : j < t.outs.length), ∃ cs, cs.length = 2 ∧ W.rangeAt bo (oo + j * 2) cs ∧ OutR W cs t.outs[j]) := ⟨hOT⟩
  rw [hNI, hNO] at HBX HC1 HC2 HC4 HC5 HW1 ⊢
  have hni : (NI : Int) ≤ 50 := by have := HIN50.out.1; omega
  have hno : (NO : Int) ≤ 50 := by have := HIN50.out.2; omega
  clear hi ho hv4 hW1 hoo hmay hver hwt hNI hNO hbi hbo hAT hOT HT HI HO HM
  go_enter Try.func19, Try.ntmps19
  go_wp2_with fail
  rw [HW1.out]
  go_wp2_with (first | (go_at_call 32; refine HC1.out.mono ?_; rintro e w2 ⟨rfl, hb2⟩; have HD2 := Kp.mk hb2; have HB2 := Kp.mk (HB1.out.trans (hb2.mono HB1.out.size)); obtain ⟨x2, a2, b2, c2⟩ := HBX.out _ HD2.out; have HX2 := Kp.mk x2; clear x2 hb2) | (refine wpList_load_row rfl 26 (.tmp 1) rfl W.heap.size rfl 26 _ (0, 0) _ HX2.out Try.underlying26 rfl HIT.out ?_) | (go_at_call 17; refine (HC2.out _ HB2.out).mono ?_; rintro e w3 ⟨rfl, hb3⟩; have HD3 := Kp.mk (HD2.out.trans (hb3.mono HD2.out.size)); clear hb3))
  clear HX2 HC1 HC2 gw gw2 gv1 gv2 gv3 gv4 gv5 a2 b2 c2
  go_loopw [3, 4, 7] (fun nl tw i wr => ∃ k : Nat, k ≤ NI ∧ i = .int .i64 k ∧ nl = .bool (nullTo t.ins k) ∧ tw = .bool (dupTo t.ins k) ∧ Kp (Below W1.heap.size W1 wr)) (fun _ _ i _ => NI - (intOf i).toNat)
  case atStart => exact ⟨0, Nat.zero_le _, rfl, rfl, rfl, HD3⟩
  case round =>
    obtain ⟨k, hk, rfl, rfl, rfl, BW⟩ := hrel
    obtain ⟨_, _, b4, _⟩ := HBX.out _ BW.out
    by_cases hlt : k < NI
    · have HLT := Kp.mk (show k < t.ins.length by have := HNI.out; omega)
      obtain ⟨cs, hcl, hcs, hR⟩ := HAT.out k HLT.out
      have hbw : Below W.heap.size W wr := HB1.out.trans (BW.out.mono HB1.out.size)
      have HCS := Kp.mk (rangeAt_block hcs (hbw.block bi HBI.out.1))
      have HC := Kp.mk (refnull_any wr cs _ (hR.below hbw))
      have HI1 : Kp ((Try.prog.info? 32).map (·.size) = some cs.length) := ⟨by rw [hcl]; exact sizeIn⟩
      have hget : t.ins.getD k default = t.ins[k]'HLT.out := by rw [List.getD_eq_getElem?_getD, List.getElem?_eq_getElem HLT.out]; rfl
      have HS3 : Kp (nullTo t.ins (k + 1) = (nullTo t.ins k || nullB (t.ins[k]'HLT.out))) := ⟨by simp only [nullTo]; rw [hget]⟩
      have HS4 : Kp (dupTo t.ins (k + 1) = (dupTo t.ins k || dupIn t.ins k k)) := ⟨rfl⟩
      obtain ⟨n3, h3⟩ : ∃ n3, nullTo t.ins k = n3 := ⟨_, rfl⟩
      obtain ⟨n4, h4⟩ : ∃ n4, dupTo t.ins k = n4 := ⟨_, rfl⟩
      obtain ⟨nn, hn⟩ : ∃ nn, nullB (t.ins[k]'HLT.out) = nn := ⟨_, rfl⟩
      rw [h3, hn] at HS3
      rw [h4] at HS4
      rw [hn] at HC
      rw [h3, h4]
      have hkn : (k : Int) < (NI : Int) := by omega
      have HK := Kp.mk hlt
      clear hcl hcs hR hbw hget h3 h4 hn hlt
      go_upto_region 11 with fail
      go_cut [3] (fun nv wx => nv = .bool (nullTo t.ins (k + 1)) ∧ Kp (Below wr.heap.size wr wx))
      case first =>
        cases n3 with
        | true =>
          go_wp2
          go_meet
          case rel => exact ⟨by rw [HS3.out]; rfl, ⟨Below.refl _ _⟩⟩
        | false =>
          go_wp2_with (first | (refine wpList_load_mid_g (by rfl) 32 (.tmp 42) rfl bi (oi + k * 36) rfl cs _ HCS.out Try.underlying32 rfl HI1.out ?_) | (go_at_call 33; refine HC.out.mono ?_; rintro e w5 ⟨rfl, hb5⟩))
          go_meet
          case rel => exact ⟨by rw [HS3.out]; rfl, ⟨hb5⟩⟩
      obtain ⟨rfl, BX⟩ := hcut
      obtain ⟨wi, rfl⟩ : ∃ wi : World, wi = wc := ⟨_, rfl⟩
      go_wp2
      have BI := Kp.mk (BW.out.trans (BX.out.mono BW.out.size))
      have HCK := HCS
      clear b4 HC BX
      obtain ⟨wo, rfl⟩ : ∃ wo : World, wo = wr := ⟨_, rfl⟩
      go_loopw [4, 8] (fun tw j wr => ∃ q : Nat, q ≤ k ∧ j = .int .i64 q ∧ tw = .bool (n4 || dupIn t.ins k q) ∧ Kp (Below W1.heap.size W1 wr)) (fun _ j _ => k - (intOf j).toNat)
      case atStart => exact ⟨0, Nat.zero_le _, rfl, by simp [dupIn], BI⟩
      case round =>
        obtain ⟨q, hq, rfl, rfl, BY⟩ := hrel
        obtain ⟨_, _, b5, _⟩ := HBX.out _ BY.out
        by_cases hqk : q < k
        · have HQL := Kp.mk (show q < t.ins.length by have := HLT.out; omega)
          have hby : Below W.heap.size W wr := HB1.out.trans (BY.out.mono HB1.out.size)
          obtain ⟨cs1, _, hcs1, sv1, wv1, rfl, hf1, _, _⟩ := HAT.out k HLT.out
          obtain ⟨cs2, _, hcs2, sv2, wv2, rfl, hf2, _, _⟩ := HAT.out q HQL.out
          have hc1 := rangeAt_block hcs1 (hby.block bi HBI.out.1)
          have hc2 := rangeAt_block hcs2 (hby.block bi HBI.out.1)
          have v1 : wr.cell? ⟨bi, oi + k * 36 + 32, none⟩ = some (.int .u32 (t.ins[k]'HLT.out).vout) := hc1 32 _ (inCells_vout hf1 sv1 wv1)
          have v2 : wr.cell? ⟨bi, oi + q * 36 + 32, none⟩ = some (.int .u32 (t.ins[q]'HQL.out).vout) := hc2 32 _ (inCells_vout hf2 sv2 wv2)
          have p1 : wr.rangeAt bi (oi + k * 36) (byteVals (t.ins[k]'HLT.out).prev) := fun j v hj => hc1 j v (by unfold inCells; rw [List.getElem?_append_left (List.getElem?_eq_some_iff.1 hj).1]; exact hj)
          have p2 : wr.rangeAt bi (oi + q * 36) (byteVals (t.ins[q]'HQL.out).prev) := fun j v hj => hc2 j v (by unfold inCells; rw [List.getElem?_append_left (List.getElem?_eq_some_iff.1 hj).1]; exact hj)
          have HP1 : Kp (wr.rangeAt bi (oi + k * 36) (byteVals (t.ins[k]'HLT.out).prev) ∧ (Try.prog.info? 28).map (·.size) = some (byteVals (t.ins[k]'HLT.out).prev).length) := ⟨p1, by simp only [byteVals, List.length_map, hf1.plen]; exact sizeArr⟩
          have HP2 : Kp (wr.rangeAt bi (oi + q * 36) (byteVals (t.ins[q]'HQL.out).prev) ∧ (Try.prog.info? 28).map (·.size) = some (byteVals (t.ins[q]'HQL.out).prev).length) := ⟨p2, by simp only [byteVals, List.length_map, hf2.plen]; exact sizeArr⟩
          have he := eql_prev (t.ins[k]'HLT.out).prev (t.ins[q]'HQL.out).prev hf1.pbys hf2.pbys hf1.plen hf2.plen
          have hgd := arr_guard
          have hg1 : t.ins.getD k default = t.ins[k]'HLT.out := by rw [List.getD_eq_getElem?_getD, List.getElem?_eq_getElem HLT.out]; rfl
          have hg2 : t.ins.getD q default = t.ins[q]'HQL.out := by rw [List.getD_eq_getElem?_getD, List.getElem?_eq_getElem HQL.out]; rfl
          have HS5 : Kp (dupIn t.ins k (q + 1) = (dupIn t.ins k q || ptEq (t.ins[k]'HLT.out) (t.ins[q]'HQL.out))) := ⟨by simp only [dupIn]; rw [hg1, hg2]⟩
          unfold ptEq at HS5
          generalize t.ins[k]'HLT.out = X at *
          generalize t.ins[q]'HQL.out = Y at *
          obtain ⟨n5, h5⟩ : ∃ n5, (n4 || dupIn t.ins k q) = n5 := ⟨_, rfl⟩
          have HS6 : Kp ((n4 || dupIn t.ins k (q + 1)) = (n5 || decide (X.prev = Y.prev ∧ X.vout = Y.vout))) := ⟨by rw [HS5.out, ← h5, Bool.or_assoc]⟩
          rw [h5]
          obtain ⟨P1, hP1⟩ : ∃ P, byteVals X.prev = P := ⟨_, rfl⟩
          obtain ⟨P2, hP2⟩ : ∃ P, byteVals Y.prev = P := ⟨_, rfl⟩
          rw [hP1] at HP1 he
          rw [hP2] at HP2 he
          have hqn : (q : Int) < (k : Int) := by omega
          have hqN : (q : Int) < (NI : Int) := by have := HK.out; omega
          have hkN : (k : Int) < (NI : Int) := by have := HK.out; omega
          have HQ := Kp.mk hqk
          have HDR : Kp (∀ n, Below W1.heap.size W1 (wr.drewN n)) := ⟨fun n => ⟨BY.out.os, BY.out.tape, BY.out.output, BY.out.size, BY.out.block⟩⟩
          clear hby hcs1 hcs2 hf1 hf2 hc1 hc2 p1 p2 hg1 hg2 h5 hP1 hP2 hqk HS5
          go_upto_block 4 with fail
          go_cut [4] (fun tv wx => tv = .bool (n4 || dupIn t.ins k (q + 1)) ∧ Kp (Below W1.heap.size W1 wx))
          case first =>
            cases n5 with
            | true =>
              go_wp2_with fail
              refine wp_region_quiet_lit (by kernel_rfl) (by kernel_rfl) ?_
              repeat (first | go_big_quiet_skip | (go_big_quiet_want; (first | (refine quiet_load_mid 28 (.tmp 57) rfl bi (oi + k * 36) rfl P1 _ HP1.out.1 Try.underlying28 rfl HP1.out.2 ?_; simp only [Act.put, List.setIfInBounds_toArray, List.set_cons_zero, List.set_cons_succ]; go_big_quiet_on) | (refine quiet_load_mid 28 (.tmp 63) rfl bi (oi + q * 36) rfl P2 _ HP2.out.1 Try.underlying28 rfl HP2.out.2 ?_; simp only [Act.put, List.setIfInBounds_toArray, List.set_cons_zero, List.set_cons_succ]; go_big_quiet_on) | (go_big_quiet_op; go_big_quiet_on))))
              refine wpQuiet_nil ?_
              intro _ hw9
              obtain ⟨nq, hw8⟩ := hw9
              subst hw8
              go_wp2
              go_meet
              case rel => exact ⟨by rw [HS6.out]; rfl, ⟨HDR.out _⟩⟩
            | false =>
              by_cases hp : X.prev = Y.prev
              · rw [decide_eq_true hp] at he
                have HS7 : Kp ((n4 || dupIn t.ins k (q + 1)) = decide (X.vout = Y.vout)) := ⟨by rw [HS6.out, Bool.false_or, Bool.eq_iff_iff, decide_eq_true_eq, decide_eq_true_eq]; exact ⟨fun h => h.2, fun h => ⟨hp, h⟩⟩⟩
                clear hp
                go_wp2_with fail
                refine wp_region_quiet_lit (by kernel_rfl) (by kernel_rfl) ?_
                repeat (first | go_big_quiet_skip | (go_big_quiet_want; (first | (refine quiet_load_mid 28 (.tmp 57) rfl bi (oi + k * 36) rfl P1 _ HP1.out.1 Try.underlying28 rfl HP1.out.2 ?_; simp only [Act.put, List.setIfInBounds_toArray, List.set_cons_zero, List.set_cons_succ]; go_big_quiet_on) | (refine quiet_load_mid 28 (.tmp 63) rfl bi (oi + q * 36) rfl P2 _ HP2.out.1 Try.underlying28 rfl HP2.out.2 ?_; simp only [Act.put, List.setIfInBounds_toArray, List.set_cons_zero, List.set_cons_succ]; go_big_quiet_on) | (go_big_quiet_op; go_big_quiet_on))))
                refine wpQuiet_nil ?_
                intro _ hw9
                obtain ⟨nq, hw8⟩ := hw9
                subst hw8
                go_wp2
                go_meet
                case rel => exact ⟨by rw [HS7.out, ← int_beq], ⟨HDR.out _⟩⟩
              · rw [decide_eq_false hp] at he
                have HS7 : Kp ((n4 || dupIn t.ins k (q + 1)) = false) := ⟨by rw [HS6.out, Bool.false_or]; exact decide_eq_false fun h => hp h.1⟩
                clear hp
                go_wp2_with fail
                refine wp_region_quiet_lit (by kernel_rfl) (by kernel_rfl) ?_
                repeat (first | go_big_quiet_skip | (go_big_quiet_want; (first | (refine quiet_load_mid 28 (.tmp 57) rfl bi (oi + k * 36) rfl P1 _ HP1.out.1 Try.underlying28 rfl HP1.out.2 ?_; simp only [Act.put, List.setIfInBounds_toArray, List.set_cons_zero, List.set_cons_succ]; go_big_quiet_on) | (refine quiet_load_mid 28 (.tmp 63) rfl bi (oi + q * 36) rfl P2 _ HP2.out.1 Try.underlying28 rfl HP2.out.2 ?_; simp only [Act.put, List.setIfInBounds_toArray, List.set_cons_zero, List.set_cons_succ]; go_big_quiet_on) | (go_big_quiet_op; go_big_quiet_on))))
                refine wpQuiet_nil ?_
                intro _ hw9
                obtain ⟨nq, hw8⟩ := hw9
                subst hw8
                go_wp2
                go_meet
                case rel => exact ⟨by rw [HS7.out], ⟨HDR.out _⟩⟩
          obtain ⟨rfl, BZ⟩ := hcut
          go_wp2
          exact ⟨⟨q + 1, by have := HQ.out; omega, by go_num, rfl, BZ⟩, by simp [intOf]; have := HQ.out; omega⟩
        · obtain rfl : q = k := by omega
          have HS8 := HS4
          rw [← HS4.out]
          have HDQ : Kp ((n4 || dupIn t.ins q q) = dupTo t.ins (q + 1)) := ⟨HS4.out.symm⟩
          clear b5 hqk
          go_wp2
          exact ⟨⟨q + 1, by have := HK.out; omega, by go_num, rfl, rfl, BY⟩, by simp [intOf]; have := HK.out; omega⟩
    · obtain rfl : k = NI := by omega
      obtain ⟨b3, h3⟩ : ∃ b, nullTo t.ins k = b := ⟨_, rfl⟩
      obtain ⟨b4', h4⟩ : ∃ b, dupTo t.ins k = b := ⟨_, rfl⟩
      rw [h3, h4] at HEND
      rw [h3, h4]
      clear h3 h4 hlt
      go_wp2
      clear b4
      obtain ⟨wi, rfl⟩ : ∃ wi : World, wi = wr := ⟨_, rfl⟩
      go_loopw [5, 6, 9] (fun ns nd i wr => ∃ j m : Nat, j ≤ NO ∧ i = .int .i64 j ∧ ns = .bool (noneTo t.outs j) ∧ nd = .int .i64 m ∧ Kp (m = cntTo t.outs 5 j ∧ m ≤ j ∧ Below W1.heap.size W1 wr)) (fun _ _ i _ => NO - (intOf i).toNat)
      case atStart => exact ⟨0, 0, Nat.zero_le _, rfl, rfl, rfl, ⟨rfl, Nat.le_refl _, BW.out⟩⟩
      case round =>
        obtain ⟨j, m, hj, rfl, rfl, rfl, HJ⟩ := hrel
        obtain ⟨_, _, _, c5⟩ := HBX.out _ HJ.out.2.2
        by_cases hlt : j < NO
        · obtain ⟨hm, hmj, hbw⟩ := HJ.out
          have HLT := Kp.mk (show j < t.outs.length by have := HNO.out; omega)
          obtain ⟨cs, hcl, hcs, hR⟩ := HOT.out j HLT.out
          have hby : Below W.heap.size W wr := HB1.out.trans (hbw.mono HB1.out.size)
          obtain ⟨sv, rfl, hv, hrb⟩ := hR.below hby
          have hc := rangeAt_block hcs (hby.block bo HBI.out.2)
          have v1 : wr.cell? ⟨bo, oo + j * 2 + 1, none⟩ = some sv := hc 1 _ rfl
          have hget : t.outs.getD j default = t.outs[j]'HLT.out := by rw [List.getD_eq_getElem?_getD, List.getElem?_eq_getElem HLT.out]; rfl
          have HS5 : Kp (noneTo t.outs (j + 1) = (noneTo t.outs j || decide ((kindOf (t.outs[j]'HLT.out).script : Int) = 0))) := ⟨by simp only [noneTo]; rw [hget]⟩
          have HS6 : Kp (cntTo t.outs 5 (j + 1) = m + (if (kindOf (t.outs[j]'HLT.out).script : Int) = 5 then 1 else 0)) := ⟨by simp only [cntTo]; rw [hget, hm]⟩
          have HC := Kp.mk (refkind_any wr sv _ hrb)
          obtain ⟨kd, hkd⟩ : ∃ kd : Int, (kindOf (t.outs[j]'HLT.out).script : Int) = kd := ⟨_, rfl⟩
          rw [hkd] at HS5 HS6 HC
          obtain ⟨n5, h5⟩ : ∃ b, noneTo t.outs j = b := ⟨_, rfl⟩
          rw [h5] at HS5
          rw [h5]
          have HBW := Kp.mk hbw
          have HMJ := Kp.mk hmj
          have HJL := Kp.mk hlt
          have hjn : (j : Int) < (NO : Int) := by omega
          have hmn : (m : Int) ≤ 50 := by omega
          obtain ⟨As, cs0, rfl, _⟩ := hrb.1
          generalize (t.outs[j]'HLT.out).script.length = SL at *
          clear hm hmj hbw hcl hcs hR hby hv hrb hc hget hkd h5 hlt HJ
          by_cases hk0 : kd = 0
          · subst hk0
            cases n5 <;> (
              go_wp2_with (first | (go_at_call 34; refine HC.out.mono ?_; rintro e w5 ⟨rfl, rfl⟩))
              exact ⟨⟨j + 1, m, by have := HJL.out; omega, by go_num, by rw [HS5.out]; rfl, rfl, ⟨HS6.out.symm, by have := HMJ.out; omega, HBW.out⟩⟩, by simp [intOf]; have := HJL.out; omega⟩)
          by_cases hk5 : kd = 5
          · subst hk5
            clear hk0
            cases n5 <;> (
              go_wp2_with (first | (go_at_call 34; refine HC.out.mono ?_; rintro e w5 ⟨rfl, rfl⟩))
              exact ⟨⟨j + 1, m + 1, by have := HJL.out; omega, by go_num, by rw [HS5.out]; rfl, by go_num, ⟨HS6.out.symm, by have := HMJ.out; omega, HBW.out⟩⟩, by simp [intOf]; have := HJL.out; omega⟩)
          have k1 : (kd = 0) = False := eq_false hk0
          have k2 : (kd == 0) = false := by simpa using hk0
          have k3 : (kd = 5) = False := eq_false hk5
          have k4 : (kd == 5) = false := by simpa using hk5
          have HS5 : Kp (noneTo t.outs (j + 1) = n5) := ⟨by rw [HS5.out, decide_eq_false hk0, Bool.or_false]⟩
          have HS6 : Kp (cntTo t.outs 5 (j + 1) = m) := ⟨by rw [HS6.out, if_neg hk5]; rfl⟩
          clear hk0 hk5
          cases n5 <;> (
            go_wp2_with (first | (go_at_call 34; refine HC.out.mono ?_; rintro e w5 ⟨rfl, rfl⟩))
            exact ⟨⟨j + 1, m, by have := HJL.out; omega, by go_num, by rw [HS5.out], rfl, ⟨HS6.out.symm, by have := HMJ.out; omega, HBW.out⟩⟩, by simp [intOf]; have := HJL.out; omega⟩)
        · obtain ⟨hm, _, hbw⟩ := HJ.out
          obtain rfl : j = NO := by omega
          rw [← hm] at HEND
          obtain ⟨b5, h5⟩ : ∃ b, noneTo t.outs j = b := ⟨_, rfl⟩
          rw [h5] at HEND
          rw [h5]
          have HBW := Kp.mk (HB1.out.trans (hbw.mono HB1.out.size))
          obtain ⟨x6, _, _, _⟩ := HBX.out _ hbw
          have HX6 := Kp.mk x6
          have HBX2 := Kp.mk (fun w7 (hb : Below wr.heap.size wr w7) => (HBX.out w7 (hbw.trans (hb.mono hbw.size))).1)
          have HMJ : Kp (m ≤ j) := ⟨by have := HJ.out.2.1; omega⟩
          clear hm hbw h5 hlt HJ x6 c5
          go_wp2_with (first | (refine wpList_load_row rfl 26 (.tmp 1) rfl W.heap.size rfl 26 _ (0, 0) _ HX6.out Try.underlying26 rfl HIT.out ?_) | (go_at_call 36; refine (HC4.out _ HBW.out).mono ?_; rintro e w7 ⟨v7, rfl, ho7, hb7⟩; have HO7 := Kp.mk ho7; have HB7 := Kp.mk hb7; clear ho7 hb7; skip))
          by_cases hs : tot vl ≤ 2100000000000000
          · have hsb : sb = true := by rw [HSUM.out]; exact decide_eq_true hs
            have HC6 := Kp.mk (total_any v7 vl w7 HO7.out.sl HVU.out.1 HVU.out.2)
            rw [sumV_yes hs] at HC6
            rw [hsb] at HEND
            have HB8 := Kp.mk (HBW.out.trans (HB7.out.mono HBW.out.size))
            have HX8 := Kp.mk (HBX2.out _ HB7.out)
            clear hs hsb
            refine HC6.out.mono ?_
            rintro e w8 ⟨rfl, rfl⟩
            cases b3 with
            | true =>
              go_wp2
              go_ret
              exact ⟨by rw [HEND.out]; rfl, HB8.out⟩
            | false =>
              cases b4' with
              | true =>
                go_wp2
                go_ret
                exact ⟨by rw [HEND.out]; rfl, HB8.out⟩
              | false =>
                cases b5 with
                | true =>
                  go_wp2
                  go_ret
                  exact ⟨by rw [HEND.out]; rfl, HB8.out⟩
                | false =>
                  by_cases hm1 : 1 < m
                  · have HE7 : Kp (cv = 7) := ⟨by rw [HEND.out, if_neg (by simp), if_neg (by simp), if_neg (by simp), if_pos hm1]⟩
                    have hm2 : (1 : Int) < (m : Int) := by omega
                    have hm3 : (m : Int) ≤ 50 := by have := HMJ.out; omega
                    clear HEND
                    go_wp2
                    go_ret
                    exact ⟨by rw [HE7.out]; rfl, HB8.out⟩
                  · have hm2 : ((1 : Int) < (m : Int)) = False := eq_false (by omega)
                    have hm4 : (1 < m) = False := eq_false hm1
                    have HE8 : Kp (cv = if 1 < ds.length then 9 else 0) := ⟨by rw [HEND.out, if_neg (by simp), if_neg (by simp), if_neg (by simp), if_neg hm1, if_neg (by simp)]⟩
                    clear HEND hm1
                    by_cases hd : 1 < ds.length
                    · have HE9 : Kp (cv = 9) := ⟨by rw [HE8.out, if_pos hd]⟩
                      have gd : (1 : Int) < (ds.length : Int) := by omega
                      clear HE8
                      go_wp2_with (first | (refine wpList_load_row rfl 26 (.tmp 1) rfl W.heap.size rfl 26 _ (0, 0) _ HX8.out Try.underlying26 rfl HIT.out ?_) | (go_at_call 37; refine (HC5.out _ HB8.out).mono ?_; rintro e w9 ⟨v9, rfl, ho9, hb9⟩; obtain ⟨A9, c9, rfl⟩ := ho9.slice; have HB9 := Kp.mk (HB8.out.trans (hb9.mono HB8.out.size)); clear ho9 hb9))
                      go_ret
                      exact ⟨by rw [HE9.out]; rfl, HB9.out⟩
                    · have HE9 : Kp (cv = 0) := ⟨by rw [HE8.out, if_neg hd]⟩
                      have gd : ((1 : Int) < (ds.length : Int)) = False := eq_false (by omega)
                      have gd2 : (1 < ds.length) = False := eq_false hd
                      clear HE8 hd
                      go_wp2_with (first | (refine wpList_load_row rfl 26 (.tmp 1) rfl W.heap.size rfl 26 _ (0, 0) _ HX8.out Try.underlying26 rfl HIT.out ?_) | (go_at_call 37; refine (HC5.out _ HB8.out).mono ?_; rintro e w9 ⟨v9, rfl, ho9, hb9⟩; obtain ⟨A9, c9, rfl⟩ := ho9.slice; have HB9 := Kp.mk (HB8.out.trans (hb9.mono HB8.out.size)); clear ho9 hb9))
                      go_ret
                      exact ⟨by rw [HE9.out]; rfl, HB9.out⟩
          · have hsb : sb = false := by rw [HSUM.out]; exact decide_eq_false hs
            have HC6 := Kp.mk (total_any v7 vl w7 HO7.out.sl HVU.out.1 HVU.out.2)
            rw [sumV_no (by omega)] at HC6
            rw [hsb] at HEND
            have HB8 := Kp.mk (HBW.out.trans (HB7.out.mono HBW.out.size))
            have HX8 := Kp.mk (HBX2.out _ HB7.out)
            clear hs hsb
            refine HC6.out.mono ?_
            rintro e w8 ⟨rfl, rfl⟩
            cases b3 with
            | true =>
              go_wp2
              go_ret
              exact ⟨by rw [HEND.out]; rfl, HB8.out⟩
            | false =>
              cases b4' with
              | true =>
                go_wp2
                go_ret
                exact ⟨by rw [HEND.out]; rfl, HB8.out⟩
              | false =>
                cases b5 with
                | true =>
                  go_wp2
                  go_ret
                  exact ⟨by rw [HEND.out]; rfl, HB8.out⟩
                | false =>
                  by_cases hm1 : 1 < m
                  · have HE7 : Kp (cv = 7) := ⟨by rw [HEND.out, if_neg (by simp), if_neg (by simp), if_neg (by simp), if_pos hm1]⟩
                    have hm2 : (1 : Int) < (m : Int) := by omega
                    have hm3 : (m : Int) ≤ 50 := by have := HMJ.out; omega
                    clear HEND
                    go_wp2
                    go_ret
                    exact ⟨by rw [HE7.out]; rfl, HB8.out⟩
                  · have hm2 : ((1 : Int) < (m : Int)) = False := eq_false (by omega)
                    have hm4 : (1 < m) = False := eq_false hm1
                    have HE8 : Kp (cv = 8) := ⟨by rw [HEND.out, if_neg (by simp), if_neg (by simp), if_neg (by simp), if_neg hm1, if_pos rfl]⟩
                    clear HEND hm1
                    go_wp2
                    go_ret
                    exact ⟨by rw [HE8.out]; rfl, HB8.out⟩

theorem refcheck_any (W : World) (v : Value) (t : TxD) (h : TxR W v t) : Calls Try.prog 19 #[v] W (CodeP (checkV t) W) := by
  cases hmay : mayB t with
  | false =>
    have e : checkV t = 1 := by unfold checkV; rw [if_pos hmay]
    rw [e]; exact refcheck_1 W v t h hmay
  | true =>
    by_cases hv0 : t.version = 0
    · have e : checkV t = 2 := by unfold checkV; rw [hmay, if_neg (by simp), if_pos (.inl hv0)]
      rw [e]; exact refcheck_2a W v t h hmay hv0
    by_cases hv3 : 3 < t.version
    · have e : checkV t = 2 := by unfold checkV; rw [hmay, if_neg (by simp), if_pos (.inr hv3)]
      rw [e]; exact refcheck_2b W v t h hmay ⟨hv0, hv3⟩
    have hver : ¬ t.version = 0 ∧ t.version ≤ 3 := ⟨hv0, by omega⟩
    by_cases hwt : 80000 < weightOf t
    · have e : checkV t = 3 := by unfold checkV; rw [hmay, if_neg (by simp), if_neg (by omega), if_pos hwt]
      rw [e]; exact refcheck_3 W v t h hmay hver hwt
    exact refcheck_rest W v t h hmay hver (by omega)
end Go.Proofs.Ytbnclajhgkjopaa
