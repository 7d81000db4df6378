/- Package stat of the program: Check, Coinbase. -/
import Derived.Test.YtbnclajhgkjopaaStA
import Derived.Test.YtbnclajhgkjopaaGd
import Derived.Deep.DeepCutAuto
namespace Go.Proofs.Ytbnclajhgkjopaa
open Go.RowKit

/-- Some cells of a row loaded, behind a guard that is met. -/
theorem wpList_load_mid_g {P : Program} {ops : Array Oper} {rest : List Oper} {o : Oper} {a : Act} {w : World} {Q : Exit → Act → World → Prop} (hwd : Region.wanted o (yielded ops a.tmps) = true) (ty : TypeId) (x : Operand) (ho : o.op = .load ty x)
    (b off : Nat) (hx : a.eval x = .pointer (some ⟨b, off, none⟩)) (cs : List Value) (d : TypeDesc) (hc : w.rangeAt b off cs)
    (hu : P.underlying ty = some d) (hd : d.isRow = true) (hi : (P.info? ty).map (·.size) = some cs.length)
    (h : wpList P ops Q rest (a.put o.dst (.agg cs.toArray)) w) : wpList P ops Q (o :: rest) a w :=
  wpList_step fun K hK => by
    simp only [hwd, if_true]
    exact wp_load_mid ty x ho b off hx cs d hc hu hd hi (hK _ _ h)
def CodeP (n : Int) (w : World) (e : Ending) (w' : World) : Prop := e = .returned (.int .i64 n) ∧ Below w.heap.size w w'
/-- The first code that applies. -/
def checkV (t : TxD) : Int :=
  if mayB t = false then 1 else if t.version = 0 ∨ 3 < t.version then 2 else if 80000 < weightOf t then 3 else if t.ins.any nullB = true then 4 else if twiceB t.ins = true then 5
  else if 0 < countK t.outs 0 then 6 else if 1 < countK t.outs 5 then 7 else if sumB t.outs = false then 8 else if 1 < (dustsOf t.outs).length then 9 else 0

set_option maxRecDepth 100000 in
set_option maxHeartbeats 4000000 in
theorem scheck_1 (W : World) (v : Value) (t : TxD) (h : TxR W v t) (hmay : mayB t = false) : Calls Try.prog 15 #[v] W (CodeP 1 W) := by
  have HT := Kp.mk h
  obtain ⟨iv, ov, rfl, hv4, _, hi, ho⟩ := h
  obtain ⟨W1, hW1⟩ : ∃ W1, W.alloc (.cells #[.int .u32 t.version, iv, ov, .int .u32 t.lock] 26) = W1 := ⟨_, rfl⟩
  have HB1 : Kp (Below W.heap.size W W1) := ⟨by rw [← hW1]; exact (Below.refl _ _).alloc (Nat.le_refl _) _⟩
  have HBX : Kp (∀ wr, Below W1.heap.size W1 wr → wr.heap[W.heap.size]? = some (.cells #[.int .u32 t.version, iv, ov, .int .u32 t.lock] 26 (0, 0)) ∧ wr.cell? ⟨W.heap.size, 0, none⟩ = some (.int .u32 t.version) ∧ wr.cell? ⟨W.heap.size, 1, none⟩ = some iv ∧ wr.cell? ⟨W.heap.size, 2, none⟩ = some ov) := ⟨fun wr hb => by
    have hb : Box wr W.heap.size 26 #[.int .u32 t.version, iv, ov, .int .u32 t.lock] := by
      have h0 : Box W1 W.heap.size 26 #[.int .u32 t.version, iv, ov, .int .u32 t.lock] := by rw [← hW1]; exact Box.fresh _ _ _
      exact h0.below hb
    exact ⟨hb, hb.cell 0, hb.cell 1, hb.cell 2⟩⟩
  have HW1 := Kp.mk hW1
  have HIT : Kp ((Try.prog.info? 26).map (·.size) = some 4) := ⟨by kernel_rfl⟩
  have HC1 := Kp.mk (may_any W1 _ t (HT.out.below HB1.out))
  rw [hmay] at HC1
  have hoo : True := trivial
  obtain ⟨Ai, ci, rfl, _⟩ := hi.slice
  obtain ⟨Ao, co, rfl, _⟩ := ho.slice
  generalize t.ins.length = NI at *
  generalize t.outs.length = NO at *
  clear hi ho hv4 hW1 hoo hmay HT
  go_enter Try.func15, Try.ntmps15
  go_wp2_with fail
  rw [HW1.out]
  go_wp2_with (first | (go_at_call 22; refine HC1.out.mono ?_; rintro e w2 ⟨rfl, hb2⟩; have HD2 := Kp.mk hb2; have HB2 := Kp.mk (HB1.out.trans (hb2.mono HB1.out.size)); obtain ⟨x2, a2, b2, c2⟩ := HBX.out _ HD2.out; have HX2 := Kp.mk x2; clear x2 hb2))
  go_ret
  exact ⟨rfl, HB2.out⟩

set_option maxRecDepth 100000 in
set_option maxHeartbeats 4000000 in
theorem scheck_2a (W : World) (v : Value) (t : TxD) (h : TxR W v t) (hmay : mayB t = true) (hver : t.version = 0) : Calls Try.prog 15 #[v] W (CodeP 2 W) := by
  have HT := Kp.mk h
  have HM := Kp.mk ((mayB_iff t).1 hmay)
  obtain ⟨iv, ov, rfl, hv4, _, hi, ho⟩ := h
  obtain ⟨W1, hW1⟩ : ∃ W1, W.alloc (.cells #[.int .u32 t.version, iv, ov, .int .u32 t.lock] 26) = W1 := ⟨_, rfl⟩
  have HB1 : Kp (Below W.heap.size W W1) := ⟨by rw [← hW1]; exact (Below.refl _ _).alloc (Nat.le_refl _) _⟩
  have HBX : Kp (∀ wr, Below W1.heap.size W1 wr → wr.heap[W.heap.size]? = some (.cells #[.int .u32 t.version, iv, ov, .int .u32 t.lock] 26 (0, 0)) ∧ wr.cell? ⟨W.heap.size, 0, none⟩ = some (.int .u32 t.version) ∧ wr.cell? ⟨W.heap.size, 1, none⟩ = some iv ∧ wr.cell? ⟨W.heap.size, 2, none⟩ = some ov) := ⟨fun wr hb => by
    have hb : Box wr W.heap.size 26 #[.int .u32 t.version, iv, ov, .int .u32 t.lock] := by
      have h0 : Box W1 W.heap.size 26 #[.int .u32 t.version, iv, ov, .int .u32 t.lock] := by rw [← hW1]; exact Box.fresh _ _ _
      exact h0.below hb
    exact ⟨hb, hb.cell 0, hb.cell 1, hb.cell 2⟩⟩
  have HW1 := Kp.mk hW1
  have HIT : Kp ((Try.prog.info? 26).map (·.size) = some 4) := ⟨by kernel_rfl⟩
  have HC1 := Kp.mk (may_any W1 _ t (HT.out.below HB1.out))
  rw [hmay] at HC1
  have gv1 : (t.version = 0) = True := eq_true hver
  have gv2 : ((t.version : Int) = 0) = True := eq_true (by omega)
  have gv3 : ((t.version : Int) == 0) = true := by simpa using hver
  have hoo : t.outs.length ≤ 1000 := by have := HM.out.o50; omega
  obtain ⟨Ai, ci, rfl, _⟩ := hi.slice
  obtain ⟨Ao, co, rfl, _⟩ := ho.slice
  generalize t.ins.length = NI at *
  generalize t.outs.length = NO at *
  clear hi ho hv4 hW1 hoo hmay hver HT
  go_enter Try.func15, Try.ntmps15
  go_wp2_with fail
  rw [HW1.out]
  go_wp2_with (first | (go_at_call 22; refine HC1.out.mono ?_; rintro e w2 ⟨rfl, hb2⟩; have HD2 := Kp.mk hb2; have HB2 := Kp.mk (HB1.out.trans (hb2.mono HB1.out.size)); obtain ⟨x2, a2, b2, c2⟩ := HBX.out _ HD2.out; have HX2 := Kp.mk x2; clear x2 hb2))
  go_ret
  exact ⟨rfl, HB2.out⟩

set_option maxRecDepth 100000 in
set_option maxHeartbeats 4000000 in
theorem scheck_2b (W : World) (v : Value) (t : TxD) (h : TxR W v t) (hmay : mayB t = true) (hver : ¬ t.version = 0 ∧ 3 < t.version) : Calls Try.prog 15 #[v] W (CodeP 2 W) := by
  have HT := Kp.mk h
  have HM := Kp.mk ((mayB_iff t).1 hmay)
  obtain ⟨iv, ov, rfl, hv4, _, hi, ho⟩ := h
  obtain ⟨W1, hW1⟩ : ∃ W1, W.alloc (.cells #[.int .u32 t.version, iv, ov, .int .u32 t.lock] 26) = W1 := ⟨_, rfl⟩
  have HB1 : Kp (Below W.heap.size W W1) := ⟨by rw [← hW1]; exact (Below.refl _ _).alloc (Nat.le_refl _) _⟩
  have HBX : Kp (∀ wr, Below W1.heap.size W1 wr → wr.heap[W.heap.size]? = some (.cells #[.int .u32 t.version, iv, ov, .int .u32 t.lock] 26 (0, 0)) ∧ wr.cell? ⟨W.heap.size, 0, none⟩ = some (.int .u32 t.version) ∧ wr.cell? ⟨W.heap.size, 1, none⟩ = some iv ∧ wr.cell? ⟨W.heap.size, 2, none⟩ = some ov) := ⟨fun wr hb => by
    have hb : Box wr W.heap.size 26 #[.int .u32 t.version, iv, ov, .int .u32 t.lock] := by
      have h0 : Box W1 W.heap.size 26 #[.int .u32 t.version, iv, ov, .int .u32 t.lock] := by rw [← hW1]; exact Box.fresh _ _ _
      exact h0.below hb
    exact ⟨hb, hb.cell 0, hb.cell 1, hb.cell 2⟩⟩
  have HW1 := Kp.mk hW1
  have HIT : Kp ((Try.prog.info? 26).map (·.size) = some 4) := ⟨by kernel_rfl⟩
  have HC1 := Kp.mk (may_any W1 _ t (HT.out.below HB1.out))
  rw [hmay] at HC1
  have gv1 : (t.version = 0) = False := eq_false hver.1
  have gv2 : ((t.version : Int) = 0) = False := eq_false (by omega)
  have gv3 : ((t.version : Int) == 0) = false := by simpa using hver.1
  have gv4 : (3 : Int) < (t.version : Int) := by omega
  have gv5 : (3 : Nat) < t.version := hver.2
  have hoo : t.outs.length ≤ 1000 := by have := HM.out.o50; omega
  obtain ⟨Ai, ci, rfl, _⟩ := hi.slice
  obtain ⟨Ao, co, rfl, _⟩ := ho.slice
  generalize t.ins.length = NI at *
  generalize t.outs.length = NO at *
  clear hi ho hv4 hW1 hoo hmay hver HT
  go_enter Try.func15, Try.ntmps15
  go_wp2_with fail
  rw [HW1.out]
  go_wp2_with (first | (go_at_call 22; refine HC1.out.mono ?_; rintro e w2 ⟨rfl, hb2⟩; have HD2 := Kp.mk hb2; have HB2 := Kp.mk (HB1.out.trans (hb2.mono HB1.out.size)); obtain ⟨x2, a2, b2, c2⟩ := HBX.out _ HD2.out; have HX2 := Kp.mk x2; clear x2 hb2))
  go_ret
  exact ⟨rfl, HB2.out⟩

set_option maxRecDepth 100000 in
set_option maxHeartbeats 4000000 in
theorem scheck_3 (W : World) (v : Value) (t : TxD) (h : TxR W v t) (hmay : mayB t = true) (hver : ¬ t.version = 0 ∧ t.version ≤ 3) (hwt : 80000 < weightOf t) : Calls Try.prog 15 #[v] W (CodeP 3 W) := by
  have HT := Kp.mk h
  have HM := Kp.mk ((mayB_iff t).1 hmay)
  obtain ⟨iv, ov, rfl, hv4, _, hi, ho⟩ := h
  obtain ⟨W1, hW1⟩ : ∃ W1, W.alloc (.cells #[.int .u32 t.version, iv, ov, .int .u32 t.lock] 26) = W1 := ⟨_, rfl⟩
  have HB1 : Kp (Below W.heap.size W W1) := ⟨by rw [← hW1]; exact (Below.refl _ _).alloc (Nat.le_refl _) _⟩
  have HBX : Kp (∀ wr, Below W1.heap.size W1 wr → wr.heap[W.heap.size]? = some (.cells #[.int .u32 t.version, iv, ov, .int .u32 t.lock] 26 (0, 0)) ∧ wr.cell? ⟨W.heap.size, 0, none⟩ = some (.int .u32 t.version) ∧ wr.cell? ⟨W.heap.size, 1, none⟩ = some iv ∧ wr.cell? ⟨W.heap.size, 2, none⟩ = some ov) := ⟨fun wr hb => by
    have hb : Box wr W.heap.size 26 #[.int .u32 t.version, iv, ov, .int .u32 t.lock] := by
      have h0 : Box W1 W.heap.size 26 #[.int .u32 t.version, iv, ov, .int .u32 t.lock] := by rw [← hW1]; exact Box.fresh _ _ _
      exact h0.below hb
    exact ⟨hb, hb.cell 0, hb.cell 1, hb.cell 2⟩⟩
  have HW1 := Kp.mk hW1
  have HIT : Kp ((Try.prog.info? 26).map (·.size) = some 4) := ⟨by kernel_rfl⟩
  have HC1 := Kp.mk (may_any W1 _ t (HT.out.below HB1.out))
  rw [hmay] at HC1
  have gv1 : (t.version = 0) = False := eq_false hver.1
  have gv2 : ((t.version : Int) = 0) = False := eq_false (by omega)
  have gv3 : ((t.version : Int) == 0) = false := by simpa using hver.1
  have gv4 : ((3 : Int) < (t.version : Int)) = False := eq_false (by omega)
  have gv5 : (3 < t.version) = False := eq_false (by omega)
  have hoo : t.outs.length ≤ 1000 := by have := HM.out.o50; omega
  have HC2 : Kp (∀ wi, Below W.heap.size W wi → Calls Try.prog 23 #[.agg #[.int .u32 t.version, iv, ov, .int .u32 t.lock]] wi (NumP (weightOf t) wi)) := ⟨fun wi hb => weight_any wi _ t (HT.out.below hb)⟩
  have gw : (80000 : Int) < (weightOf t : Int) := by omega
  have gw2 : (80000 : Nat) < weightOf t := hwt
  generalize weightOf t = wt at *
  obtain ⟨Ai, ci, rfl, _⟩ := hi.slice
  obtain ⟨Ao, co, rfl, _⟩ := ho.slice
  generalize t.ins.length = NI at *
  generalize t.outs.length = NO at *
  clear hi ho hv4 hW1 hoo hmay hver hwt HT
  go_enter Try.func15, Try.ntmps15
  go_wp2_with fail
  rw [HW1.out]
  go_wp2_with (first | (go_at_call 22; refine HC1.out.mono ?_; rintro e w2 ⟨rfl, hb2⟩; have HD2 := Kp.mk hb2; have HB2 := Kp.mk (HB1.out.trans (hb2.mono HB1.out.size)); obtain ⟨x2, a2, b2, c2⟩ := HBX.out _ HD2.out; have HX2 := Kp.mk x2; clear x2 hb2) | (refine wpList_load_row rfl 26 (.tmp 1) rfl W.heap.size rfl 26 _ (0, 0) _ HX2.out Try.underlying26 rfl HIT.out ?_) | (go_at_call 23; refine (HC2.out _ HB2.out).mono ?_; rintro e w3 ⟨rfl, hb3⟩; have HD3 := Kp.mk (HD2.out.trans (hb3.mono HD2.out.size)); have HB3 := Kp.mk (HB2.out.trans (hb3.mono HB2.out.size)); obtain ⟨x3, a3, b3, c3⟩ := HBX.out _ HD3.out; have HX3 := Kp.mk x3; clear x3 hb3))
  go_ret
  exact ⟨rfl, HB3.out⟩

set_option maxRecDepth 100000 in
set_option maxHeartbeats 4000000 in
theorem scheck_4 (W : World) (v : Value) (t : TxD) (h : TxR W v t) (hmay : mayB t = true) (hver : ¬ t.version = 0 ∧ t.version ≤ 3) (hwt : weightOf t ≤ 80000) (hnull : t.ins.any nullB = true) : Calls Try.prog 15 #[v] W (CodeP 4 W) := by
  have HT := Kp.mk h
  have HM := Kp.mk ((mayB_iff t).1 hmay)
  obtain ⟨iv, ov, rfl, hv4, _, hi, ho⟩ := h
  obtain ⟨W1, hW1⟩ : ∃ W1, W.alloc (.cells #[.int .u32 t.version, iv, ov, .int .u32 t.lock] 26) = W1 := ⟨_, rfl⟩
  have HB1 : Kp (Below W.heap.size W W1) := ⟨by rw [← hW1]; exact (Below.refl _ _).alloc (Nat.le_refl _) _⟩
  have HBX : Kp (∀ wr, Below W1.heap.size W1 wr → wr.heap[W.heap.size]? = some (.cells #[.int .u32 t.version, iv, ov, .int .u32 t.lock] 26 (0, 0)) ∧ wr.cell? ⟨W.heap.size, 0, none⟩ = some (.int .u32 t.version) ∧ wr.cell? ⟨W.heap.size, 1, none⟩ = some iv ∧ wr.cell? ⟨W.heap.size, 2, none⟩ = some ov) := ⟨fun wr hb => by
    have hb : Box wr W.heap.size 26 #[.int .u32 t.version, iv, ov, .int .u32 t.lock] := by
      have h0 : Box W1 W.heap.size 26 #[.int .u32 t.version, iv, ov, .int .u32 t.lock] := by rw [← hW1]; exact Box.fresh _ _ _
      exact h0.below hb
    exact ⟨hb, hb.cell 0, hb.cell 1, hb.cell 2⟩⟩
  have HW1 := Kp.mk hW1
  have HIT : Kp ((Try.prog.info? 26).map (·.size) = some 4) := ⟨by kernel_rfl⟩
  have HC1 := Kp.mk (may_any W1 _ t (HT.out.below HB1.out))
  rw [hmay] at HC1
  have gv1 : (t.version = 0) = False := eq_false hver.1
  have gv2 : ((t.version : Int) = 0) = False := eq_false (by omega)
  have gv3 : ((t.version : Int) == 0) = false := by simpa using hver.1
  have gv4 : ((3 : Int) < (t.version : Int)) = False := eq_false (by omega)
  have gv5 : (3 < t.version) = False := eq_false (by omega)
  have hoo : t.outs.length ≤ 1000 := by have := HM.out.o50; omega
  have HC2 : Kp (∀ wi, Below W.heap.size W wi → Calls Try.prog 23 #[.agg #[.int .u32 t.version, iv, ov, .int .u32 t.lock]] wi (NumP (weightOf t) wi)) := ⟨fun wi hb => weight_any wi _ t (HT.out.below hb)⟩
  have gw : ((80000 : Int) < (weightOf t : Int)) = False := eq_false (by omega)
  have gw2 : (80000 < weightOf t) = False := eq_false (by omega)
  have HC3 : Kp (∀ wi, Below W.heap.size W wi → Calls Try.prog 24 #[iv, .func (.func 25) #[] #[]] wi (BoolP true wi)) := ⟨fun wi hb => by have := conIn_any wi iv t.ins 25 nullB (ins_below hi hb) (fun W0 cs d h => null_any W0 cs d h) (fun W0 cs x hb0 h0 => h0.below hb0) (fun args w0 => rfl); rw [hnull] at this; exact this⟩
  generalize weightOf t = wt at *
  obtain ⟨Ai, ci, rfl, _⟩ := hi.slice
  obtain ⟨Ao, co, rfl, _⟩ := ho.slice
  generalize t.ins.length = NI at *
  generalize t.outs.length = NO at *
  clear hi ho hv4 hW1 hoo hmay hver hwt hnull HT
  go_enter Try.func15, Try.ntmps15
  go_wp2_with fail
  rw [HW1.out]
  go_wp2_with (first | (go_at_call 22; refine HC1.out.mono ?_; rintro e w2 ⟨rfl, hb2⟩; have HD2 := Kp.mk hb2; have HB2 := Kp.mk (HB1.out.trans (hb2.mono HB1.out.size)); obtain ⟨x2, a2, b2, c2⟩ := HBX.out _ HD2.out; have HX2 := Kp.mk x2; clear x2 hb2) | (refine wpList_load_row rfl 26 (.tmp 1) rfl W.heap.size rfl 26 _ (0, 0) _ HX2.out Try.underlying26 rfl HIT.out ?_) | (go_at_call 23; refine (HC2.out _ HB2.out).mono ?_; rintro e w3 ⟨rfl, hb3⟩; have HD3 := Kp.mk (HD2.out.trans (hb3.mono HD2.out.size)); have HB3 := Kp.mk (HB2.out.trans (hb3.mono HB2.out.size)); obtain ⟨x3, a3, b3, c3⟩ := HBX.out _ HD3.out; have HX3 := Kp.mk x3; clear x3 hb3) | (go_at_call 24; refine (HC3.out _ HB3.out).mono ?_; rintro e w4 ⟨rfl, hb4⟩; have HD4 := Kp.mk (HD3.out.trans (hb4.mono HD3.out.size)); have HB4 := Kp.mk (HB3.out.trans (hb4.mono HB3.out.size)); obtain ⟨x4, a4, b4, c4⟩ := HBX.out _ HD4.out; have HX4 := Kp.mk x4; clear x4 hb4))
  go_ret
  exact ⟨rfl, HB4.out⟩

set_option maxRecDepth 100000 in
set_option maxHeartbeats 4000000 in
theorem scheck_5 (W : World) (v : Value) (t : TxD) (h : TxR W v t) (hmay : mayB t = true) (hver : ¬ t.version = 0 ∧ t.version ≤ 3) (hwt : weightOf t ≤ 80000) (hnull : t.ins.any nullB = false) (htw : twiceB t.ins = true) : Calls Try.prog 15 #[v] W (CodeP 5 W) := by
  have HT := Kp.mk h
  have HM := Kp.mk ((mayB_iff t).1 hmay)
  obtain ⟨iv, ov, rfl, hv4, _, hi, ho⟩ := h
  obtain ⟨W1, hW1⟩ : ∃ W1, W.alloc (.cells #[.int .u32 t.version, iv, ov, .int .u32 t.lock] 26) = W1 := ⟨_, rfl⟩
  have HB1 : Kp (Below W.heap.size W W1) := ⟨by rw [← hW1]; exact (Below.refl _ _).alloc (Nat.le_refl _) _⟩
  have HBX : Kp (∀ wr, Below W1.heap.size W1 wr → wr.heap[W.heap.size]? = some (.cells #[.int .u32 t.version, iv, ov, .int .u32 t.lock] 26 (0, 0)) ∧ wr.cell? ⟨W.heap.size, 0, none⟩ = some (.int .u32 t.version) ∧ wr.cell? ⟨W.heap.size, 1, none⟩ = some iv ∧ wr.cell? ⟨W.heap.size, 2, none⟩ = some ov) := ⟨fun wr hb => by
    have hb : Box wr W.heap.size 26 #[.int .u32 t.version, iv, ov, .int .u32 t.lock] := by
      have h0 : Box W1 W.heap.size 26 #[.int .u32 t.version, iv, ov, .int .u32 t.lock] := by rw [← hW1]; exact Box.fresh _ _ _
      exact h0.below hb
    exact ⟨hb, hb.cell 0, hb.cell 1, hb.cell 2⟩⟩
  have HW1 := Kp.mk hW1
  have HIT : Kp ((Try.prog.info? 26).map (·.size) = some 4) := ⟨by kernel_rfl⟩
  have HC1 := Kp.mk (may_any W1 _ t (HT.out.below HB1.out))
  rw [hmay] at HC1
  have gv1 : (t.version = 0) = False := eq_false hver.1
  have gv2 : ((t.version : Int) = 0) = False := eq_false (by omega)
  have gv3 : ((t.version : Int) == 0) = false := by simpa using hver.1
  have gv4 : ((3 : Int) < (t.version : Int)) = False := eq_false (by omega)
  have gv5 : (3 < t.version) = False := eq_false (by omega)
  have hoo : t.outs.length ≤ 1000 := by have := HM.out.o50; omega
  have HC2 : Kp (∀ wi, Below W.heap.size W wi → Calls Try.prog 23 #[.agg #[.int .u32 t.version, iv, ov, .int .u32 t.lock]] wi (NumP (weightOf t) wi)) := ⟨fun wi hb => weight_any wi _ t (HT.out.below hb)⟩
  have gw : ((80000 : Int) < (weightOf t : Int)) = False := eq_false (by omega)
  have gw2 : (80000 < weightOf t) = False := eq_false (by omega)
  have HC3 : Kp (∀ wi, Below W.heap.size W wi → Calls Try.prog 24 #[iv, .func (.func 25) #[] #[]] wi (BoolP false wi)) := ⟨fun wi hb => by have := conIn_any wi iv t.ins 25 nullB (ins_below hi hb) (fun W0 cs d h => null_any W0 cs d h) (fun W0 cs x hb0 h0 => h0.below hb0) (fun args w0 => rfl); rw [hnull] at this; exact this⟩
  have HC4 : Kp (∀ wi, Below W.heap.size W wi → Calls Try.prog 26 #[iv] wi (BoolP true wi)) := ⟨fun wi hb => by have := twice_any wi iv t.ins (ins_below hi hb); rw [htw] at this; exact this⟩
  generalize weightOf t = wt at *
  obtain ⟨Ai, ci, rfl, _⟩ := hi.slice
  obtain ⟨Ao, co, rfl, _⟩ := ho.slice
  generalize t.ins.length = NI at *
  generalize t.outs.length = NO at *
  clear hi ho hv4 hW1 hoo hmay hver hwt hnull htw HT
  go_enter Try.func15, Try.ntmps15
  go_wp2_with fail
  rw [HW1.out]
  go_wp2_with (first | (go_at_call 22; refine HC1.out.mono ?_; rintro e w2 ⟨rfl, hb2⟩; have HD2 := Kp.mk hb2; have HB2 := Kp.mk (HB1.out.trans (hb2.mono HB1.out.size)); obtain ⟨x2, a2, b2, c2⟩ := HBX.out _ HD2.out; have HX2 := Kp.mk x2; clear x2 hb2) | (refine wpList_load_row rfl 26 (.tmp 1) rfl W.heap.size rfl 26 _ (0, 0) _ HX2.out Try.underlying26 rfl HIT.out ?_) | (go_at_call 23; refine (HC2.out _ HB2.out).mono ?_; rintro e w3 ⟨rfl, hb3⟩; have HD3 := Kp.mk (HD2.out.trans (hb3.mono HD2.out.size)); have HB3 := Kp.mk (HB2.out.trans (hb3.mono HB2.out.size)); obtain ⟨x3, a3, b3, c3⟩ := HBX.out _ HD3.out; have HX3 := Kp.mk x3; clear x3 hb3) | (go_at_call 24; refine (HC3.out _ HB3.out).mono ?_; rintro e w4 ⟨rfl, hb4⟩; have HD4 := Kp.mk (HD3.out.trans (hb4.mono HD3.out.size)); have HB4 := Kp.mk (HB3.out.trans (hb4.mono HB3.out.size)); obtain ⟨x4, a4, b4, c4⟩ := HBX.out _ HD4.out; have HX4 := Kp.mk x4; clear x4 hb4) | (go_at_call 26; refine (HC4.out _ HB4.out).mono ?_; rintro e w5 ⟨rfl, hb5⟩; have HD5 := Kp.mk (HD4.out.trans (hb5.mono HD4.out.size)); have HB5 := Kp.mk (HB4.out.trans (hb5.mono HB4.out.size)); obtain ⟨x5, a5, b5, c5⟩ := HBX.out _ HD5.out; have HX5 := Kp.mk x5; clear x5 hb5))
  go_ret
  exact ⟨rfl, HB5.out⟩

set_option maxRecDepth 100000 in
set_option maxHeartbeats 4000000 in
theorem scheck_6 (W : World) (v : Value) (t : TxD) (h : TxR W v t) (hmay : mayB t = true) (hver : ¬ t.version = 0 ∧ t.version ≤ 3) (hwt : weightOf t ≤ 80000) (hnull : t.ins.any nullB = false) (htw : twiceB t.ins = false) (hk0 : 0 < countK t.outs 0) : Calls Try.prog 15 #[v] W (CodeP 6 W) := by
  have HT := Kp.mk h
  have HM := Kp.mk ((mayB_iff t).1 hmay)
  obtain ⟨iv, ov, rfl, hv4, _, hi, ho⟩ := h
  obtain ⟨W1, hW1⟩ : ∃ W1, W.alloc (.cells #[.int .u32 t.version, iv, ov, .int .u32 t.lock] 26) = W1 := ⟨_, rfl⟩
  have HB1 : Kp (Below W.heap.size W W1) := ⟨by rw [← hW1]; exact (Below.refl _ _).alloc (Nat.le_refl _) _⟩
  have HBX : Kp (∀ wr, Below W1.heap.size W1 wr → wr.heap[W.heap.size]? = some (.cells #[.int .u32 t.version, iv, ov, .int .u32 t.lock] 26 (0, 0)) ∧ wr.cell? ⟨W.heap.size, 0, none⟩ = some (.int .u32 t.version) ∧ wr.cell? ⟨W.heap.size, 1, none⟩ = some iv ∧ wr.cell? ⟨W.heap.size, 2, none⟩ = some ov) := ⟨fun wr hb => by
    have hb : Box wr W.heap.size 26 #[.int .u32 t.version, iv, ov, .int .u32 t.lock] := by
      have h0 : Box W1 W.heap.size 26 #[.int .u32 t.version, iv, ov, .int .u32 t.lock] := by rw [← hW1]; exact Box.fresh _ _ _
      exact h0.below hb
    exact ⟨hb, hb.cell 0, hb.cell 1, hb.cell 2⟩⟩
  have HW1 := Kp.mk hW1
  have HIT : Kp ((Try.prog.info? 26).map (·.size) = some 4) := ⟨by kernel_rfl⟩
  have HC1 := Kp.mk (may_any W1 _ t (HT.out.below HB1.out))
  rw [hmay] at HC1
  have gv1 : (t.version = 0) = False := eq_false hver.1
  have gv2 : ((t.version : Int) = 0) = False := eq_false (by omega)
  have gv3 : ((t.version : Int) == 0) = false := by simpa using hver.1
  have gv4 : ((3 : Int) < (t.version : Int)) = False := eq_false (by omega)
  have gv5 : (3 < t.version) = False := eq_false (by omega)
  have hoo : t.outs.length ≤ 1000 := by have := HM.out.o50; omega
  have HC2 : Kp (∀ wi, Below W.heap.size W wi → Calls Try.prog 23 #[.agg #[.int .u32 t.version, iv, ov, .int .u32 t.lock]] wi (NumP (weightOf t) wi)) := ⟨fun wi hb => weight_any wi _ t (HT.out.below hb)⟩
  have gw : ((80000 : Int) < (weightOf t : Int)) = False := eq_false (by omega)
  have gw2 : (80000 < weightOf t) = False := eq_false (by omega)
  have HC3 : Kp (∀ wi, Below W.heap.size W wi → Calls Try.prog 24 #[iv, .func (.func 25) #[] #[]] wi (BoolP false wi)) := ⟨fun wi hb => by have := conIn_any wi iv t.ins 25 nullB (ins_below hi hb) (fun W0 cs d h => null_any W0 cs d h) (fun W0 cs x hb0 h0 => h0.below hb0) (fun args w0 => rfl); rw [hnull] at this; exact this⟩
  have HC4 : Kp (∀ wi, Below W.heap.size W wi → Calls Try.prog 26 #[iv] wi (BoolP false wi)) := ⟨fun wi hb => by have := twice_any wi iv t.ins (ins_below hi hb); rw [htw] at this; exact this⟩
  have HC5 : Kp (∀ wi, Below W.heap.size W wi → Calls Try.prog 27 #[ov, .int .i64 0] wi (NumP (countK t.outs 0) wi)) := ⟨fun wi hb => scounted_any wi ov t.outs 0 (outs_below ho hb) hoo⟩
  have gk : (0 : Int) < (countK t.outs 0 : Int) := by omega
  have gk2 : (0 : Nat) < countK t.outs 0 := hk0
  generalize weightOf t = wt at *
  generalize countK t.outs 0 = n0 at *
  obtain ⟨Ai, ci, rfl, _⟩ := hi.slice
  obtain ⟨Ao, co, rfl, _⟩ := ho.slice
  generalize t.ins.length = NI at *
  generalize t.outs.length = NO at *
  clear hi ho hv4 hW1 hoo hmay hver hwt hnull htw hk0 HT
  go_enter Try.func15, Try.ntmps15
  go_wp2_with fail
  rw [HW1.out]
  go_wp2_with (first | (go_at_call 22; refine HC1.out.mono ?_; rintro e w2 ⟨rfl, hb2⟩; have HD2 := Kp.mk hb2; have HB2 := Kp.mk (HB1.out.trans (hb2.mono HB1.out.size)); obtain ⟨x2, a2, b2, c2⟩ := HBX.out _ HD2.out; have HX2 := Kp.mk x2; clear x2 hb2) | (refine wpList_load_row rfl 26 (.tmp 1) rfl W.heap.size rfl 26 _ (0, 0) _ HX2.out Try.underlying26 rfl HIT.out ?_) | (go_at_call 23; refine (HC2.out _ HB2.out).mono ?_; rintro e w3 ⟨rfl, hb3⟩; have HD3 := Kp.mk (HD2.out.trans (hb3.mono HD2.out.size)); have HB3 := Kp.mk (HB2.out.trans (hb3.mono HB2.out.size)); obtain ⟨x3, a3, b3, c3⟩ := HBX.out _ HD3.out; have HX3 := Kp.mk x3; clear x3 hb3) | (go_at_call 24; refine (HC3.out _ HB3.out).mono ?_; rintro e w4 ⟨rfl, hb4⟩; have HD4 := Kp.mk (HD3.out.trans (hb4.mono HD3.out.size)); have HB4 := Kp.mk (HB3.out.trans (hb4.mono HB3.out.size)); obtain ⟨x4, a4, b4, c4⟩ := HBX.out _ HD4.out; have HX4 := Kp.mk x4; clear x4 hb4) | (go_at_call 26; refine (HC4.out _ HB4.out).mono ?_; rintro e w5 ⟨rfl, hb5⟩; have HD5 := Kp.mk (HD4.out.trans (hb5.mono HD4.out.size)); have HB5 := Kp.mk (HB4.out.trans (hb5.mono HB4.out.size)); obtain ⟨x5, a5, b5, c5⟩ := HBX.out _ HD5.out; have HX5 := Kp.mk x5; clear x5 hb5) | (go_at_call 27; refine (HC5.out _ HB5.out).mono ?_; rintro e w6 ⟨rfl, hb6⟩; have HD6 := Kp.mk (HD5.out.trans (hb6.mono HD5.out.size)); have HB6 := Kp.mk (HB5.out.trans (hb6.mono HB5.out.size)); obtain ⟨x6, a6, b6, c6⟩ := HBX.out _ HD6.out; have HX6 := Kp.mk x6; clear x6 hb6))
  go_ret
  exact ⟨rfl, HB6.out⟩

set_option maxRecDepth 100000 in
set_option maxHeartbeats 4000000 in
theorem scheck_7 (W : World) (v : Value) (t : TxD) (h : TxR W v t) (hmay : mayB t = true) (hver : ¬ t.version = 0 ∧ t.version ≤ 3) (hwt : weightOf t ≤ 80000) (hnull : t.ins.any nullB = false) (htw : twiceB t.ins = false) (hk0 : countK t.outs 0 = 0) (hk5 : 1 < countK t.outs 5) : Calls Try.prog 15 #[v] W (CodeP 7 W) := by
  have HT := Kp.mk h
  have HM := Kp.mk ((mayB_iff t).1 hmay)
  obtain ⟨iv, ov, rfl, hv4, _, hi, ho⟩ := h
  obtain ⟨W1, hW1⟩ : ∃ W1, W.alloc (.cells #[.int .u32 t.version, iv, ov, .int .u32 t.lock] 26) = W1 := ⟨_, rfl⟩
  have HB1 : Kp (Below W.heap.size W W1) := ⟨by rw [← hW1]; exact (Below.refl _ _).alloc (Nat.le_refl _) _⟩
  have HBX : Kp (∀ wr, Below W1.heap.size W1 wr → wr.heap[W.heap.size]? = some (.cells #[.int .u32 t.version, iv, ov, .int .u32 t.lock] 26 (0, 0)) ∧ wr.cell? ⟨W.heap.size, 0, none⟩ = some (.int .u32 t.version) ∧ wr.cell? ⟨W.heap.size, 1, none⟩ = some iv ∧ wr.cell? ⟨W.heap.size, 2, none⟩ = some ov) := ⟨fun wr hb => by
    have hb : Box wr W.heap.size 26 #[.int .u32 t.version, iv, ov, .int .u32 t.lock] := by
      have h0 : Box W1 W.heap.size 26 #[.int .u32 t.version, iv, ov, .int .u32 t.lock] := by rw [← hW1]; exact Box.fresh _ _ _
      exact h0.below hb
    exact ⟨hb, hb.cell 0, hb.cell 1, hb.cell 2⟩⟩
  have HW1 := Kp.mk hW1
  have HIT : Kp ((Try.prog.info? 26).map (·.size) = some 4) := ⟨by kernel_rfl⟩
  have HC1 := Kp.mk (may_any W1 _ t (HT.out.below HB1.out))
  rw [hmay] at HC1
  have gv1 : (t.version = 0) = False := eq_false hver.1
  have gv2 : ((t.version : Int) = 0) = False := eq_false (by omega)
  have gv3 : ((t.version : Int) == 0) = false := by simpa using hver.1
  have gv4 : ((3 : Int) < (t.version : Int)) = False := eq_false (by omega)
  have gv5 : (3 < t.version) = False := eq_false (by omega)
  have hoo : t.outs.length ≤ 1000 := by have := HM.out.o50; omega
  have HC2 : Kp (∀ wi, Below W.heap.size W wi → Calls Try.prog 23 #[.agg #[.int .u32 t.version, iv, ov, .int .u32 t.lock]] wi (NumP (weightOf t) wi)) := ⟨fun wi hb => weight_any wi _ t (HT.out.below hb)⟩
  have gw : ((80000 : Int) < (weightOf t : Int)) = False := eq_false (by omega)
  have gw2 : (80000 < weightOf t) = False := eq_false (by omega)
  have HC3 : Kp (∀ wi, Below W.heap.size W wi → Calls Try.prog 24 #[iv, .func (.func 25) #[] #[]] wi (BoolP false wi)) := ⟨fun wi hb => by have := conIn_any wi iv t.ins 25 nullB (ins_below hi hb) (fun W0 cs d h => null_any W0 cs d h) (fun W0 cs x hb0 h0 => h0.below hb0) (fun args w0 => rfl); rw [hnull] at this; exact this⟩
  have HC4 : Kp (∀ wi, Below W.heap.size W wi → Calls Try.prog 26 #[iv] wi (BoolP false wi)) := ⟨fun wi hb => by have := twice_any wi iv t.ins (ins_below hi hb); rw [htw] at this; exact this⟩
  have HC5 : Kp (∀ wi, Below W.heap.size W wi → Calls Try.prog 27 #[ov, .int .i64 0] wi (NumP (countK t.outs 0) wi)) := ⟨fun wi hb => scounted_any wi ov t.outs 0 (outs_below ho hb) hoo⟩
  rw [hk0] at HC5
  have HC6 : Kp (∀ wi, Below W.heap.size W wi → Calls Try.prog 27 #[ov, .int .i64 5] wi (NumP (countK t.outs 5) wi)) := ⟨fun wi hb => scounted_any wi ov t.outs 5 (outs_below ho hb) hoo⟩
  have gl : (1 : Int) < (countK t.outs 5 : Int) := by omega
  have gl2 : (1 : Nat) < countK t.outs 5 := hk5
  generalize weightOf t = wt at *
  generalize countK t.outs 5 = n5 at *
  obtain ⟨Ai, ci, rfl, _⟩ := hi.slice
  obtain ⟨Ao, co, rfl, _⟩ := ho.slice
  generalize t.ins.length = NI at *
  generalize t.outs.length = NO at *
  clear hi ho hv4 hW1 hoo hmay hver hwt hnull htw hk0 hk5 HT
  go_enter Try.func15, Try.ntmps15
  go_wp2_with fail
  rw [HW1.out]
  go_wp2_with (first | (go_at_call 22; refine HC1.out.mono ?_; rintro e w2 ⟨rfl, hb2⟩; have HD2 := Kp.mk hb2; have HB2 := Kp.mk (HB1.out.trans (hb2.mono HB1.out.size)); obtain ⟨x2, a2, b2, c2⟩ := HBX.out _ HD2.out; have HX2 := Kp.mk x2; clear x2 hb2) | (refine wpList_load_row rfl 26 (.tmp 1) rfl W.heap.size rfl 26 _ (0, 0) _ HX2.out Try.underlying26 rfl HIT.out ?_) | (go_at_call 23; refine (HC2.out _ HB2.out).mono ?_; rintro e w3 ⟨rfl, hb3⟩; have HD3 := Kp.mk (HD2.out.trans (hb3.mono HD2.out.size)); have HB3 := Kp.mk (HB2.out.trans (hb3.mono HB2.out.size)); obtain ⟨x3, a3, b3, c3⟩ := HBX.out _ HD3.out; have HX3 := Kp.mk x3; clear x3 hb3) | (go_at_call 24; refine (HC3.out _ HB3.out).mono ?_; rintro e w4 ⟨rfl, hb4⟩; have HD4 := Kp.mk (HD3.out.trans (hb4.mono HD3.out.size)); have HB4 := Kp.mk (HB3.out.trans (hb4.mono HB3.out.size)); obtain ⟨x4, a4, b4, c4⟩ := HBX.out _ HD4.out; have HX4 := Kp.mk x4; clear x4 hb4) | (go_at_call 26; refine (HC4.out _ HB4.out).mono ?_; rintro e w5 ⟨rfl, hb5⟩; have HD5 := Kp.mk (HD4.out.trans (hb5.mono HD4.out.size)); have HB5 := Kp.mk (HB4.out.trans (hb5.mono HB4.out.size)); obtain ⟨x5, a5, b5, c5⟩ := HBX.out _ HD5.out; have HX5 := Kp.mk x5; clear x5 hb5) | (go_at_call 27; have HC5z := HC5; clear HC5; refine (HC5z.out _ HB5.out).mono ?_; rintro e w6 ⟨rfl, hb6⟩; have HD6 := Kp.mk (HD5.out.trans (hb6.mono HD5.out.size)); have HB6 := Kp.mk (HB5.out.trans (hb6.mono HB5.out.size)); obtain ⟨x6, a6, b6, c6⟩ := HBX.out _ HD6.out; have HX6 := Kp.mk x6; clear x6 hb6) | (go_at_call 27; refine (HC6.out _ HB6.out).mono ?_; rintro e w7 ⟨rfl, hb7⟩; have HD7 := Kp.mk (HD6.out.trans (hb7.mono HD6.out.size)); have HB7 := Kp.mk (HB6.out.trans (hb7.mono HB6.out.size)); obtain ⟨x7, a7, b7, c7⟩ := HBX.out _ HD7.out; have HX7 := Kp.mk x7; clear x7 hb7))
  go_ret
  exact ⟨rfl, HB7.out⟩

set_option maxRecDepth 100000 in
set_option maxHeartbeats 4000000 in
theorem scheck_8 (W : World) (v : Value) (t : TxD) (h : TxR W v t) (hmay : mayB t = true) (hver : ¬ t.version = 0 ∧ t.version ≤ 3) (hwt : weightOf t ≤ 80000) (hnull : t.ins.any nullB = false) (htw : twiceB t.ins = false) (hk0 : countK t.outs 0 = 0) (hk5 : countK t.outs 5 ≤ 1) (hsum : sumB t.outs = false) : Calls Try.prog 15 #[v] W (CodeP 8 W) := by
  have HT := Kp.mk h
  have HM := Kp.mk ((mayB_iff t).1 hmay)
  obtain ⟨iv, ov, rfl, hv4, _, hi, ho⟩ := h
  obtain ⟨W1, hW1⟩ : ∃ W1, W.alloc (.cells #[.int .u32 t.version, iv, ov, .int .u32 t.lock] 26) = W1 := ⟨_, rfl⟩
  have HB1 : Kp (Below W.heap.size W W1) := ⟨by rw [← hW1]; exact (Below.refl _ _).alloc (Nat.le_refl _) _⟩
  have HBX : Kp (∀ wr, Below W1.heap.size W1 wr → wr.heap[W.heap.size]? = some (.cells #[.int .u32 t.version, iv, ov, .int .u32 t.lock] 26 (0, 0)) ∧ wr.cell? ⟨W.heap.size, 0, none⟩ = some (.int .u32 t.version) ∧ wr.cell? ⟨W.heap.size, 1, none⟩ = some iv ∧ wr.cell? ⟨W.heap.size, 2, none⟩ = some ov) := ⟨fun wr hb => by
    have hb : Box wr W.heap.size 26 #[.int .u32 t.version, iv, ov, .int .u32 t.lock] := by
      have h0 : Box W1 W.heap.size 26 #[.int .u32 t.version, iv, ov, .int .u32 t.lock] := by rw [← hW1]; exact Box.fresh _ _ _
      exact h0.below hb
    exact ⟨hb, hb.cell 0, hb.cell 1, hb.cell 2⟩⟩
  have HW1 := Kp.mk hW1
  have HIT : Kp ((Try.prog.info? 26).map (·.size) = some 4) := ⟨by kernel_rfl⟩
  have HC1 := Kp.mk (may_any W1 _ t (HT.out.below HB1.out))
  rw [hmay] at HC1
  have gv1 : (t.version = 0) = False := eq_false hver.1
  have gv2 : ((t.version : Int) = 0) = False := eq_false (by omega)
  have gv3 : ((t.version : Int) == 0) = false := by simpa using hver.1
  have gv4 : ((3 : Int) < (t.version : Int)) = False := eq_false (by omega)
  have gv5 : (3 < t.version) = False := eq_false (by omega)
  have hoo : t.outs.length ≤ 1000 := by have := HM.out.o50; omega
  have HC2 : Kp (∀ wi, Below W.heap.size W wi → Calls Try.prog 23 #[.agg #[.int .u32 t.version, iv, ov, .int .u32 t.lock]] wi (NumP (weightOf t) wi)) := ⟨fun wi hb => weight_any wi _ t (HT.out.below hb)⟩
  have gw : ((80000 : Int) < (weightOf t : Int)) = False := eq_false (by omega)
  have gw2 : (80000 < weightOf t) = False := eq_false (by omega)
  have HC3 : Kp (∀ wi, Below W.heap.size W wi → Calls Try.prog 24 #[iv, .func (.func 25) #[] #[]] wi (BoolP false wi)) := ⟨fun wi hb => by have := conIn_any wi iv t.ins 25 nullB (ins_below hi hb) (fun W0 cs d h => null_any W0 cs d h) (fun W0 cs x hb0 h0 => h0.below hb0) (fun args w0 => rfl); rw [hnull] at this; exact this⟩
  have HC4 : Kp (∀ wi, Below W.heap.size W wi → Calls Try.prog 26 #[iv] wi (BoolP false wi)) := ⟨fun wi hb => by have := twice_any wi iv t.ins (ins_below hi hb); rw [htw] at this; exact this⟩
  have HC5 : Kp (∀ wi, Below W.heap.size W wi → Calls Try.prog 27 #[ov, .int .i64 0] wi (NumP (countK t.outs 0) wi)) := ⟨fun wi hb => scounted_any wi ov t.outs 0 (outs_below ho hb) hoo⟩
  rw [hk0] at HC5
  have HC6 : Kp (∀ wi, Below W.heap.size W wi → Calls Try.prog 27 #[ov, .int .i64 5] wi (NumP (countK t.outs 5) wi)) := ⟨fun wi hb => scounted_any wi ov t.outs 5 (outs_below ho hb) hoo⟩
  have gl : ((1 : Int) < (countK t.outs 5 : Int)) = False := eq_false (by omega)
  have gl2 : (1 < countK t.outs 5) = False := eq_false (by omega)
  have HC7 : Kp (∀ wi, Below W.heap.size W wi → Calls Try.prog 28 #[ov] wi (BoolP false wi)) := ⟨fun wi hb => by have := summed_any wi ov t.outs (outs_below ho hb) hoo; rw [hsum] at this; exact this⟩
  generalize weightOf t = wt at *
  generalize countK t.outs 5 = n5 at *
  obtain ⟨Ai, ci, rfl, _⟩ := hi.slice
  obtain ⟨Ao, co, rfl, _⟩ := ho.slice
  generalize t.ins.length = NI at *
  generalize t.outs.length = NO at *
  clear hi ho hv4 hW1 hoo hmay hver hwt hnull htw hk0 hk5 hsum HT
  go_enter Try.func15, Try.ntmps15
  go_wp2_with fail
  rw [HW1.out]
  go_wp2_with (first | (go_at_call 22; refine HC1.out.mono ?_; rintro e w2 ⟨rfl, hb2⟩; have HD2 := Kp.mk hb2; have HB2 := Kp.mk (HB1.out.trans (hb2.mono HB1.out.size)); obtain ⟨x2, a2, b2, c2⟩ := HBX.out _ HD2.out; have HX2 := Kp.mk x2; clear x2 hb2) | (refine wpList_load_row rfl 26 (.tmp 1) rfl W.heap.size rfl 26 _ (0, 0) _ HX2.out Try.underlying26 rfl HIT.out ?_) | (go_at_call 23; refine (HC2.out _ HB2.out).mono ?_; rintro e w3 ⟨rfl, hb3⟩; have HD3 := Kp.mk (HD2.out.trans (hb3.mono HD2.out.size)); have HB3 := Kp.mk (HB2.out.trans (hb3.mono HB2.out.size)); obtain ⟨x3, a3, b3, c3⟩ := HBX.out _ HD3.out; have HX3 := Kp.mk x3; clear x3 hb3) | (go_at_call 24; refine (HC3.out _ HB3.out).mono ?_; rintro e w4 ⟨rfl, hb4⟩; have HD4 := Kp.mk (HD3.out.trans (hb4.mono HD3.out.size)); have HB4 := Kp.mk (HB3.out.trans (hb4.mono HB3.out.size)); obtain ⟨x4, a4, b4, c4⟩ := HBX.out _ HD4.out; have HX4 := Kp.mk x4; clear x4 hb4) | (go_at_call 26; refine (HC4.out _ HB4.out).mono ?_; rintro e w5 ⟨rfl, hb5⟩; have HD5 := Kp.mk (HD4.out.trans (hb5.mono HD4.out.size)); have HB5 := Kp.mk (HB4.out.trans (hb5.mono HB4.out.size)); obtain ⟨x5, a5, b5, c5⟩ := HBX.out _ HD5.out; have HX5 := Kp.mk x5; clear x5 hb5) | (go_at_call 27; have HC5z := HC5; clear HC5; refine (HC5z.out _ HB5.out).mono ?_; rintro e w6 ⟨rfl, hb6⟩; have HD6 := Kp.mk (HD5.out.trans (hb6.mono HD5.out.size)); have HB6 := Kp.mk (HB5.out.trans (hb6.mono HB5.out.size)); obtain ⟨x6, a6, b6, c6⟩ := HBX.out _ HD6.out; have HX6 := Kp.mk x6; clear x6 hb6) | (go_at_call 27; refine (HC6.out _ HB6.out).mono ?_; rintro e w7 ⟨rfl, hb7⟩; have HD7 := Kp.mk (HD6.out.trans (hb7.mono HD6.out.size)); have HB7 := Kp.mk (HB6.out.trans (hb7.mono HB6.out.size)); obtain ⟨x7, a7, b7, c7⟩ := HBX.out _ HD7.out; have HX7 := Kp.mk x7; clear x7 hb7) | (go_at_call 28; refine (HC7.out _ HB7.out).mono ?_; rintro e w8 ⟨rfl, hb8⟩; have HD8 := Kp.mk (HD7.out.trans (hb8.mono HD7.out.size)); have HB8 := Kp.mk (HB7.out.trans (hb8.mono HB7.out.size)); obtain ⟨x8, a8, b8, c8⟩ := HBX.out _ HD8.out; have HX8 := Kp.mk x8; clear x8 hb8))
  go_ret
  exact ⟨rfl, HB8.out⟩

set_option maxRecDepth 100000 in
set_option maxHeartbeats 4000000 in
theorem scheck_9 (W : World) (v : Value) (t : TxD) (h : TxR W v t) (hmay : mayB t = true) (hver : ¬ t.version = 0 ∧ t.version ≤ 3) (hwt : weightOf t ≤ 80000) (hnull : t.ins.any nullB = false) (htw : twiceB t.ins = false) (hk0 : countK t.outs 0 = 0) (hk5 : countK t.outs 5 ≤ 1) (hsum : sumB t.outs = true) (hdust : 1 < (dustsOf t.outs).length) : Calls Try.prog 15 #[v] W (CodeP 9 W) := by
  have HT := Kp.mk h
  have HM := Kp.mk ((mayB_iff t).1 hmay)
  obtain ⟨iv, ov, rfl, hv4, _, hi, ho⟩ := h
  obtain ⟨W1, hW1⟩ : ∃ W1, W.alloc (.cells #[.int .u32 t.version, iv, ov, .int .u32 t.lock] 26) = W1 := ⟨_, rfl⟩
  have HB1 : Kp (Below W.heap.size W W1) := ⟨by rw [← hW1]; exact (Below.refl _ _).alloc (Nat.le_refl _) _⟩
  have HBX : Kp (∀ wr, Below W1.heap.size W1 wr → wr.heap[W.heap.size]? = some (.cells #[.int .u32 t.version, iv, ov, .int .u32 t.lock] 26 (0, 0)) ∧ wr.cell? ⟨W.heap.size, 0, none⟩ = some (.int .u32 t.version) ∧ wr.cell? ⟨W.heap.size, 1, none⟩ = some iv ∧ wr.cell? ⟨W.heap.size, 2, none⟩ = some ov) := ⟨fun wr hb => by
    have hb : Box wr W.heap.size 26 #[.int .u32 t.version, iv, ov, .int .u32 t.lock] := by
      have h0 : Box W1 W.heap.size 26 #[.int .u32 t.version, iv, ov, .int .u32 t.lock] := by rw [← hW1]; exact Box.fresh _ _ _
      exact h0.below hb
    exact ⟨hb, hb.cell 0, hb.cell 1, hb.cell 2⟩⟩
  have HW1 := Kp.mk hW1
  have HIT : Kp ((Try.prog.info? 26).map (·.size) = some 4) := ⟨by kernel_rfl⟩
  have HC1 := Kp.mk (may_any W1 _ t (HT.out.below HB1.out))
  rw [hmay] at HC1
  have gv1 : (t.version = 0) = False := eq_false hver.1
  have gv2 : ((t.version : Int) = 0) = False := eq_false (by omega)
  have gv3 : ((t.version : Int) == 0) = false := by simpa using hver.1
  have gv4 : ((3 : Int) < (t.version : Int)) = False := eq_false (by omega)
  have gv5 : (3 < t.version) = False := eq_false (by omega)
  have hoo : t.outs.length ≤ 1000 := by have := HM.out.o50; omega
  have HC2 : Kp (∀ wi, Below W.heap.size W wi → Calls Try.prog 23 #[.agg #[.int .u32 t.version, iv, ov, .int .u32 t.lock]] wi (NumP (weightOf t) wi)) := ⟨fun wi hb => weight_any wi _ t (HT.out.below hb)⟩
  have gw : ((80000 : Int) < (weightOf t : Int)) = False := eq_false (by omega)
  have gw2 : (80000 < weightOf t) = False := eq_false (by omega)
  have HC3 : Kp (∀ wi, Below W.heap.size W wi → Calls Try.prog 24 #[iv, .func (.func 25) #[] #[]] wi (BoolP false wi)) := ⟨fun wi hb => by have := conIn_any wi iv t.ins 25 nullB (ins_below hi hb) (fun W0 cs d h => null_any W0 cs d h) (fun W0 cs x hb0 h0 => h0.below hb0) (fun args w0 => rfl); rw [hnull] at this; exact this⟩
  have HC4 : Kp (∀ wi, Below W.heap.size W wi → Calls Try.prog 26 #[iv] wi (BoolP false wi)) := ⟨fun wi hb => by have := twice_any wi iv t.ins (ins_below hi hb); rw [htw] at this; exact this⟩
  have HC5 : Kp (∀ wi, Below W.heap.size W wi → Calls Try.prog 27 #[ov, .int .i64 0] wi (NumP (countK t.outs 0) wi)) := ⟨fun wi hb => scounted_any wi ov t.outs 0 (outs_below ho hb) hoo⟩
  rw [hk0] at HC5
  have HC6 : Kp (∀ wi, Below W.heap.size W wi → Calls Try.prog 27 #[ov, .int .i64 5] wi (NumP (countK t.outs 5) wi)) := ⟨fun wi hb => scounted_any wi ov t.outs 5 (outs_below ho hb) hoo⟩
  have gl : ((1 : Int) < (countK t.outs 5 : Int)) = False := eq_false (by omega)
  have gl2 : (1 < countK t.outs 5) = False := eq_false (by omega)
  have HC7 : Kp (∀ wi, Below W.heap.size W wi → Calls Try.prog 28 #[ov] wi (BoolP true wi)) := ⟨fun wi hb => by have := summed_any wi ov t.outs (outs_below ho hb) hoo; rw [hsum] at this; exact this⟩
  have HC8 : Kp (∀ wi, Below W.heap.size W wi → Calls Try.prog 29 #[.agg #[.int .u32 t.version, iv, ov, .int .u32 t.lock]] wi (IntsP (dustsOf t.outs) wi)) := ⟨fun wi hb => dusts_any wi _ _ _ ov t.outs (outs_below ho hb) hoo⟩
  have gd : (1 : Int) < ((dustsOf t.outs).length : Int) := by omega
  have gd2 : (1 : Nat) < (dustsOf t.outs).length := hdust
  generalize weightOf t = wt at *
  generalize countK t.outs 5 = n5 at *
  generalize dustsOf t.outs = ds at *
  obtain ⟨Ai, ci, rfl, _⟩ := hi.slice
  obtain ⟨Ao, co, rfl, _⟩ := ho.slice
  generalize t.ins.length = NI at *
  generalize t.outs.length = NO at *
  clear hi ho hv4 hW1 hoo hmay hver hwt hnull htw hk0 hk5 hsum hdust HT
  go_enter Try.func15, Try.ntmps15
  go_wp2_with fail
  rw [HW1.out]
  go_wp2_with (first | (go_at_call 22; refine HC1.out.mono ?_; rintro e w2 ⟨rfl, hb2⟩; have HD2 := Kp.mk hb2; have HB2 := Kp.mk (HB1.out.trans (hb2.mono HB1.out.size)); obtain ⟨x2, a2, b2, c2⟩ := HBX.out _ HD2.out; have HX2 := Kp.mk x2; clear x2 hb2) | (refine wpList_load_row rfl 26 (.tmp 1) rfl W.heap.size rfl 26 _ (0, 0) _ HX2.out Try.underlying26 rfl HIT.out ?_) | (go_at_call 23; refine (HC2.out _ HB2.out).mono ?_; rintro e w3 ⟨rfl, hb3⟩; have HD3 := Kp.mk (HD2.out.trans (hb3.mono HD2.out.size)); have HB3 := Kp.mk (HB2.out.trans (hb3.mono HB2.out.size)); obtain ⟨x3, a3, b3, c3⟩ := HBX.out _ HD3.out; have HX3 := Kp.mk x3; clear x3 hb3) | (go_at_call 24; refine (HC3.out _ HB3.out).mono ?_; rintro e w4 ⟨rfl, hb4⟩; have HD4 := Kp.mk (HD3.out.trans (hb4.mono HD3.out.size)); have HB4 := Kp.mk (HB3.out.trans (hb4.mono HB3.out.size)); obtain ⟨x4, a4, b4, c4⟩ := HBX.out _ HD4.out; have HX4 := Kp.mk x4; clear x4 hb4) | (go_at_call 26; refine (HC4.out _ HB4.out).mono ?_; rintro e w5 ⟨rfl, hb5⟩; have HD5 := Kp.mk (HD4.out.trans (hb5.mono HD4.out.size)); have HB5 := Kp.mk (HB4.out.trans (hb5.mono HB4.out.size)); obtain ⟨x5, a5, b5, c5⟩ := HBX.out _ HD5.out; have HX5 := Kp.mk x5; clear x5 hb5) | (go_at_call 27; have HC5z := HC5; clear HC5; refine (HC5z.out _ HB5.out).mono ?_; rintro e w6 ⟨rfl, hb6⟩; have HD6 := Kp.mk (HD5.out.trans (hb6.mono HD5.out.size)); have HB6 := Kp.mk (HB5.out.trans (hb6.mono HB5.out.size)); obtain ⟨x6, a6, b6, c6⟩ := HBX.out _ HD6.out; have HX6 := Kp.mk x6; clear x6 hb6) | (go_at_call 27; refine (HC6.out _ HB6.out).mono ?_; rintro e w7 ⟨rfl, hb7⟩; have HD7 := Kp.mk (HD6.out.trans (hb7.mono HD6.out.size)); have HB7 := Kp.mk (HB6.out.trans (hb7.mono HB6.out.size)); obtain ⟨x7, a7, b7, c7⟩ := HBX.out _ HD7.out; have HX7 := Kp.mk x7; clear x7 hb7) | (go_at_call 28; refine (HC7.out _ HB7.out).mono ?_; rintro e w8 ⟨rfl, hb8⟩; have HD8 := Kp.mk (HD7.out.trans (hb8.mono HD7.out.size)); have HB8 := Kp.mk (HB7.out.trans (hb8.mono HB7.out.size)); obtain ⟨x8, a8, b8, c8⟩ := HBX.out _ HD8.out; have HX8 := Kp.mk x8; clear x8 hb8) | (refine wpList_load_row rfl 26 (.tmp 1) rfl W.heap.size rfl 26 _ (0, 0) _ HX8.out Try.underlying26 rfl HIT.out ?_) | (go_at_call 29; refine (HC8.out _ HB8.out).mono ?_; rintro e w9 ⟨v9, rfl, ho9, hb9⟩; obtain ⟨A9, c9, rfl⟩ := ho9.slice; have HB9 := Kp.mk (HB8.out.trans (hb9.mono HB8.out.size)); clear ho9 hb9))
  go_ret
  exact ⟨rfl, HB9.out⟩

set_option maxRecDepth 100000 in
set_option maxHeartbeats 4000000 in
theorem scheck_0 (W : World) (v : Value) (t : TxD) (h : TxR W v t) (hmay : mayB t = true) (hver : ¬ t.version = 0 ∧ t.version ≤ 3) (hwt : weightOf t ≤ 80000) (hnull : t.ins.any nullB = false) (htw : twiceB t.ins = false) (hk0 : countK t.outs 0 = 0) (hk5 : countK t.outs 5 ≤ 1) (hsum : sumB t.outs = true) (hdust : (dustsOf t.outs).length ≤ 1) : Calls Try.prog 15 #[v] W (CodeP 0 W) := by
  have HT := Kp.mk h
  have HM := Kp.mk ((mayB_iff t).1 hmay)
  obtain ⟨iv, ov, rfl, hv4, _, hi, ho⟩ := h
  obtain ⟨W1, hW1⟩ : ∃ W1, W.alloc (.cells #[.int .u32 t.version, iv, ov, .int .u32 t.lock] 26) = W1 := ⟨_, rfl⟩
  have HB1 : Kp (Below W.heap.size W W1) := ⟨by rw [← hW1]; exact (Below.refl _ _).alloc (Nat.le_refl _) _⟩
  have HBX : Kp (∀ wr, Below W1.heap.size W1 wr → wr.heap[W.heap.size]? = some (.cells #[.int .u32 t.version, iv, ov, .int .u32 t.lock] 26 (0, 0)) ∧ wr.cell? ⟨W.heap.size, 0, none⟩ = some (.int .u32 t.version) ∧ wr.cell? ⟨W.heap.size, 1, none⟩ = some iv ∧ wr.cell? ⟨W.heap.size, 2, none⟩ = some ov) := ⟨fun wr hb => by
    have hb : Box wr W.heap.size 26 #[.int .u32 t.version, iv, ov, .int .u32 t.lock] := by
      have h0 : Box W1 W.heap.size 26 #[.int .u32 t.version, iv, ov, .int .u32 t.lock] := by rw [← hW1]; exact Box.fresh _ _ _
      exact h0.below hb
    exact ⟨hb, hb.cell 0, hb.cell 1, hb.cell 2⟩⟩
  have HW1 := Kp.mk hW1
  have HIT : Kp ((Try.prog.info? 26).map (·.size) = some 4) := ⟨by kernel_rfl⟩
  have HC1 := Kp.mk (may_any W1 _ t (HT.out.below HB1.out))
  rw [hmay] at HC1
  have gv1 : (t.version = 0) = False := eq_false hver.1
  have gv2 : ((t.version : Int) = 0) = False := eq_false (by omega)
  have gv3 : ((t.version : Int) == 0) = false := by simpa using hver.1
  have gv4 : ((3 : Int) < (t.version : Int)) = False := eq_false (by omega)
  have gv5 : (3 < t.version) = False := eq_false (by omega)
  have hoo : t.outs.length ≤ 1000 := by have := HM.out.o50; omega
  have HC2 : Kp (∀ wi, Below W.heap.size W wi → Calls Try.prog 23 #[.agg #[.int .u32 t.version, iv, ov, .int .u32 t.lock]] wi (NumP (weightOf t) wi)) := ⟨fun wi hb => weight_any wi _ t (HT.out.below hb)⟩
  have gw : ((80000 : Int) < (weightOf t : Int)) = False := eq_false (by omega)
  have gw2 : (80000 < weightOf t) = False := eq_false (by omega)
  have HC3 : Kp (∀ wi, Below W.heap.size W wi → Calls Try.prog 24 #[iv, .func (.func 25) #[] #[]] wi (BoolP false wi)) := ⟨fun wi hb => by have := conIn_any wi iv t.ins 25 nullB (ins_below hi hb) (fun W0 cs d h => null_any W0 cs d h) (fun W0 cs x hb0 h0 => h0.below hb0) (fun args w0 => rfl); rw [hnull] at this; exact this⟩
  have HC4 : Kp (∀ wi, Below W.heap.size W wi → Calls Try.prog 26 #[iv] wi (BoolP false wi)) := ⟨fun wi hb => by have := twice_any wi iv t.ins (ins_below hi hb); rw [htw] at this; exact this⟩
  have HC5 : Kp (∀ wi, Below W.heap.size W wi → Calls Try.prog 27 #[ov, .int .i64 0] wi (NumP (countK t.outs 0) wi)) := ⟨fun wi hb => scounted_any wi ov t.outs 0 (outs_below ho hb) hoo⟩
  rw [hk0] at HC5
  have HC6 : Kp (∀ wi, Below W.heap.size W wi → Calls Try.prog 27 #[ov, .int .i64 5] wi (NumP (countK t.outs 5) wi)) := ⟨fun wi hb => scounted_any wi ov t.outs 5 (outs_below ho hb) hoo⟩
  have gl : ((1 : Int) < (countK t.outs 5 : Int)) = False := eq_false (by omega)
  have gl2 : (1 < countK t.outs 5) = False := eq_false (by omega)
  have HC7 : Kp (∀ wi, Below W.heap.size W wi → Calls Try.prog 28 #[ov] wi (BoolP true wi)) := ⟨fun wi hb => by have := summed_any wi ov t.outs (outs_below ho hb) hoo; rw [hsum] at this; exact this⟩
  have HC8 : Kp (∀ wi, Below W.heap.size W wi → Calls Try.prog 29 #[.agg #[.int .u32 t.version, iv, ov, .int .u32 t.lock]] wi (IntsP (dustsOf t.outs) wi)) := ⟨fun wi hb => dusts_any wi _ _ _ ov t.outs (outs_below ho hb) hoo⟩
  have gd : ((1 : Int) < ((dustsOf t.outs).length : Int)) = False := eq_false (by omega)
  have gd2 : (1 < (dustsOf t.outs).length) = False := eq_false (by omega)
  generalize weightOf t = wt at *
  generalize countK t.outs 5 = n5 at *
  generalize dustsOf t.outs = ds at *
  obtain ⟨Ai, ci, rfl, _⟩ := hi.slice
  obtain ⟨Ao, co, rfl, _⟩ := ho.slice
  generalize t.ins.length = NI at *
  generalize t.outs.length = NO at *
  clear hi ho hv4 hW1 hoo hmay hver hwt hnull htw hk0 hk5 hsum hdust HT
  go_enter Try.func15, Try.ntmps15
  go_wp2_with fail
  rw [HW1.out]
  go_wp2_with (first | (go_at_call 22; refine HC1.out.mono ?_; rintro e w2 ⟨rfl, hb2⟩; have HD2 := Kp.mk hb2; have HB2 := Kp.mk (HB1.out.trans (hb2.mono HB1.out.size)); obtain ⟨x2, a2, b2, c2⟩ := HBX.out _ HD2.out; have HX2 := Kp.mk x2; clear x2 hb2) | (refine wpList_load_row rfl 26 (.tmp 1) rfl W.heap.size rfl 26 _ (0, 0) _ HX2.out Try.underlying26 rfl HIT.out ?_) | (go_at_call 23; refine (HC2.out _ HB2.out).mono ?_; rintro e w3 ⟨rfl, hb3⟩; have HD3 := Kp.mk (HD2.out.trans (hb3.mono HD2.out.size)); have HB3 := Kp.mk (HB2.out.trans (hb3.mono HB2.out.size)); obtain ⟨x3, a3, b3, c3⟩ := HBX.out _ HD3.out; have HX3 := Kp.mk x3; clear x3 hb3) | (go_at_call 24; refine (HC3.out _ HB3.out).mono ?_; rintro e w4 ⟨rfl, hb4⟩; have HD4 := Kp.mk (HD3.out.trans (hb4.mono HD3.out.size)); have HB4 := Kp.mk (HB3.out.trans (hb4.mono HB3.out.size)); obtain ⟨x4, a4, b4, c4⟩ := HBX.out _ HD4.out; have HX4 := Kp.mk x4; clear x4 hb4) | (go_at_call 26; refine (HC4.out _ HB4.out).mono ?_; rintro e w5 ⟨rfl, hb5⟩; have HD5 := Kp.mk (HD4.out.trans (hb5.mono HD4.out.size)); have HB5 := Kp.mk (HB4.out.trans (hb5.mono HB4.out.size)); obtain ⟨x5, a5, b5, c5⟩ := HBX.out _ HD5.out; have HX5 := Kp.mk x5; clear x5 hb5) | (go_at_call 27; have HC5z := HC5; clear HC5; refine (HC5z.out _ HB5.out).mono ?_; rintro e w6 ⟨rfl, hb6⟩; have HD6 := Kp.mk (HD5.out.trans (hb6.mono HD5.out.size)); have HB6 := Kp.mk (HB5.out.trans (hb6.mono HB5.out.size)); obtain ⟨x6, a6, b6, c6⟩ := HBX.out _ HD6.out; have HX6 := Kp.mk x6; clear x6 hb6) | (go_at_call 27; refine (HC6.out _ HB6.out).mono ?_; rintro e w7 ⟨rfl, hb7⟩; have HD7 := Kp.mk (HD6.out.trans (hb7.mono HD6.out.size)); have HB7 := Kp.mk (HB6.out.trans (hb7.mono HB6.out.size)); obtain ⟨x7, a7, b7, c7⟩ := HBX.out _ HD7.out; have HX7 := Kp.mk x7; clear x7 hb7) | (go_at_call 28; refine (HC7.out _ HB7.out).mono ?_; rintro e w8 ⟨rfl, hb8⟩; have HD8 := Kp.mk (HD7.out.trans (hb8.mono HD7.out.size)); have HB8 := Kp.mk (HB7.out.trans (hb8.mono HB7.out.size)); obtain ⟨x8, a8, b8, c8⟩ := HBX.out _ HD8.out; have HX8 := Kp.mk x8; clear x8 hb8) | (refine wpList_load_row rfl 26 (.tmp 1) rfl W.heap.size rfl 26 _ (0, 0) _ HX8.out Try.underlying26 rfl HIT.out ?_) | (go_at_call 29; refine (HC8.out _ HB8.out).mono ?_; rintro e w9 ⟨v9, rfl, ho9, hb9⟩; obtain ⟨A9, c9, rfl⟩ := ho9.slice; have HB9 := Kp.mk (HB8.out.trans (hb9.mono HB8.out.size)); clear ho9 hb9))
  go_ret
  exact ⟨rfl, HB9.out⟩

theorem scheck_any (W : World) (v : Value) (t : TxD) (h : TxR W v t) : Calls Try.prog 15 #[v] W (CodeP (checkV t) W) := by
  unfold checkV
  cases hmay : mayB t with
  | false => rw [if_pos rfl]; exact scheck_1 W v t h hmay
  | true =>
    rw [if_neg (by simp)]
    by_cases hv0 : t.version = 0
    · rw [if_pos (.inl hv0)]; exact scheck_2a W v t h hmay hv0
    by_cases hv3 : 3 < t.version
    · rw [if_pos (.inr hv3)]; exact scheck_2b W v t h hmay ⟨hv0, hv3⟩
    rw [if_neg (by omega)]
    have hver : ¬ t.version = 0 ∧ t.version ≤ 3 := ⟨hv0, by omega⟩
    by_cases hwt : 80000 < weightOf t
    · rw [if_pos hwt]; exact scheck_3 W v t h hmay hver hwt
    rw [if_neg hwt]
    have hwt : weightOf t ≤ 80000 := by omega
    cases hnull : t.ins.any nullB with
    | true => rw [if_pos rfl]; exact scheck_4 W v t h hmay hver hwt hnull
    | false =>
    rw [if_neg (by simp)]
    cases htw : twiceB t.ins with
    | true => rw [if_pos rfl]; exact scheck_5 W v t h hmay hver hwt hnull htw
    | false =>
    rw [if_neg (by simp)]
    by_cases hk0 : 0 < countK t.outs 0
    · rw [if_pos hk0]; exact scheck_6 W v t h hmay hver hwt hnull htw hk0
    rw [if_neg hk0]
    have hk0 : countK t.outs 0 = 0 := by omega
    by_cases hk5 : 1 < countK t.outs 5
    · rw [if_pos hk5]; exact scheck_7 W v t h hmay hver hwt hnull htw hk0 hk5
    rw [if_neg hk5]
    have hk5 : countK t.outs 5 ≤ 1 := by omega
    cases hsum : sumB t.outs with
    | false => rw [if_pos rfl]; exact scheck_8 W v t h hmay hver hwt hnull htw hk0 hk5 hsum
    | true =>
    rw [if_neg (by simp)]
    by_cases hd : 1 < (dustsOf t.outs).length
    · rw [if_pos hd]; exact scheck_9 W v t h hmay hver hwt hnull htw hk0 hk5 hsum hd
    rw [if_neg hd]
    exact scheck_0 W v t h hmay hver hwt hnull htw hk0 hk5 hsum (by omega)

/-- Just one input, which names nothing. -/
def coinB (t : TxD) : Bool := decide (t.ins.length = 1) && nullB (t.ins.getD 0 default)

set_option maxRecDepth 100000 in
set_option maxHeartbeats 4000000 in
theorem scoinbase_any (W : World) (v : Value) (t : TxD) (h : TxR W v t) : Calls Try.prog 20 #[v] W (BoolP (coinB t) W) := by
  obtain ⟨iv, ov, rfl, _, _, hi, ho⟩ := h
  obtain ⟨W1, hW1⟩ : ∃ W1, W.alloc (.cells #[.int .u32 t.version, iv, ov, .int .u32 t.lock] 26) = W1 := ⟨_, rfl⟩
  have HB1 : Kp (Below W.heap.size W W1) := ⟨by rw [← hW1]; exact (Below.refl _ _).alloc (Nat.le_refl _) _⟩
  have hcell : W1.cell? ⟨W.heap.size, 1, none⟩ = some iv := by
    have h0 : Box W1 W.heap.size 26 #[.int .u32 t.version, iv, ov, .int .u32 t.lock] := by rw [← hW1]; exact Box.fresh _ _ _
    exact h0.cell 1
  have HW1 := Kp.mk hW1
  have hi1 := ins_below hi HB1.out
  obtain ⟨Ai, ci, rfl, _⟩ := hi.slice
  obtain ⟨Ao, co, rfl, _⟩ := ho.slice
  by_cases hl : t.ins.length = 1
  · have hlt : 0 < t.ins.length := by omega
    obtain ⟨b, off, cs, rfl, hbl, hcl, hcs, hR⟩ := hi1.at hlt
    have hget : t.ins.getD 0 default = t.ins[0] := by rw [List.getD_eq_getElem?_getD, List.getElem?_eq_getElem hlt]; rfl
    have HE : Kp (coinB t = nullB t.ins[0]) := ⟨by unfold coinB; rw [hget, decide_eq_true hl]; rfl⟩
    rw [hl] at hcell ⊢
    rw [show off + 0 * 36 = off from by omega] at hcs
    have HCS := Kp.mk hcs
    have HC := Kp.mk (null_any W1 cs _ hR)
    have HI1 : Kp ((Try.prog.info? 32).map (·.size) = some cs.length) := ⟨by rw [hcl]; exact sizeIn⟩
    generalize t.outs.length = NO at *
    have HW2 : Kp (∀ K, W.alloc (.cells #[.int .u32 t.version, .slice (some ⟨b, off, none⟩) 1 ci, .slice Ao NO co, .int .u32 t.lock] 26) = K → K = W1) := ⟨fun K hK => by rw [← hK, ← HW1.out, hl]⟩
    generalize nullB (t.ins[0]'hlt) = bb at *
    clear hi ho hi1 hl hbl hcl hcs hR hget hW1 HW1
    go_enter Try.func20, Try.ntmps20
    go_upto_region 1 with fail
    rw [HW2.out _ rfl]
    go_wp2_with (first | (refine wpList_load_mid_g (by rfl) 32 (.tmp 10) rfl b off rfl cs _ HCS.out Try.underlying32 rfl HI1.out ?_) | (go_at_call 25; refine HC.out.mono ?_; rintro e w2 ⟨rfl, hb2⟩))
    go_ret
    exact ⟨by rw [HE.out]; rfl, HB1.out.trans (hb2.mono HB1.out.size)⟩
  · have HE : Kp (coinB t = false) := ⟨by unfold coinB; rw [decide_eq_false hl]; rfl⟩
    have g1 : (t.ins.length = 1) = False := eq_false hl
    have g2 : ((t.ins.length : Int) = 1) = False := eq_false (by omega)
    have g3 : ((t.ins.length : Int) == 1) = false := by simp; omega
    generalize t.ins.length = NI at *
    generalize t.outs.length = NO at *
    clear hi ho hi1 hl hW1
    go_enter Try.func20, Try.ntmps20
    go_upto_region 1 with fail
    rw [HW1.out]
    go_wp2
    go_ret
    exact ⟨by rw [HE.out]; rfl, HB1.out⟩
end Go.Proofs.Ytbnclajhgkjopaa
