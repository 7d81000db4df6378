/- Contracts of package txns: May, and whether there is a witness. -/
import Derived.Test.YtojeonepplfhlaaTxA
namespace Go.Proofs.Ytojeonepplfhlaa
open Go.RowKit

set_option maxRecDepth 100000 in
theorem enter_long (args : Array Value) (w : World) : (callFunc 48 args).run Try.prog w = .ok (.enter 48 args) w := by kernel_rfl
set_option maxRecDepth 100000 in
theorem enter_longIn (args : Array Value) (w : World) : (callFunc 25 args).run Try.prog w = .ok (.enter 25 args) w := by kernel_rfl
set_option maxRecDepth 100000 in
theorem enter_longOut (args : Array Value) (w : World) : (callFunc 27 args).run Try.prog w = .ok (.enter 27 args) w := by kernel_rfl
set_option maxRecDepth 100000 in
theorem enter_witOne (args : Array Value) (w : World) : (callFunc 56 args).run Try.prog w = .ok (.enter 56 args) w := by kernel_rfl

theorem asks_long : Asks RowR row1 48 longB := fun W cs x ⟨sv, e, h⟩ => by subst e; exact long_any W sv x h

def longInB (d : InD) : Bool := longB d.script || (decide (10 < d.wit.length) || d.wit.any longB)

theorem cell_new {w w1 : World} {C : Array Value} {t : Nat} (hb : Below (w.heap.size + 1) (w.alloc (.cells C t)) w1) (j : Nat) (u : Value) (h : C[j]? = some u) : w1.cell? ⟨w.heap.size, j, none⟩ = some u := by
  rw [hb.cell (p := ⟨w.heap.size, j, none⟩) (Nat.lt_succ_self _), (Box.fresh w t C).cell j, h]
theorem alloc_size (w : World) (o : Obj) : (w.alloc o).heap.size = w.heap.size + 1 := by simp

set_option maxRecDepth 100000 in
set_option maxHeartbeats 1000000 in
theorem longIn_any (W : World) (cs : List Value) (d : InD) (h : InR W cs d) : Calls Try.prog 25 #[.agg cs.toArray] W (BoolP (longInB d) W) := by
  obtain ⟨sv, wv, rfl, hf, hs, hw⟩ := h
  obtain ⟨C, hC⟩ : ∃ C, (inCells d sv wv).toArray = C := ⟨_, rfl⟩
  have c33 : C[33]? = some sv := by rw [← hC]; simpa using inCells_script hf sv wv
  have c35 : C[35]? = some wv := by rw [← hC]; simpa using inCells_wit hf sv wv
  rw [hC]
  clear hC hf
  obtain ⟨Aw, cw, rfl, _, hwl⟩ := hw.slice
  unfold maxLen at hwl
  have hb1 : Below W.heap.size W (W.alloc (.cells C 47)) := (Below.refl _ _).alloc (Nat.le_refl _) _
  have H1 := Kp.mk (long_any (W.alloc (.cells C 47)) sv d.script (hs.below hb1))
  have HB1 := Kp.mk hb1
  have HW := Kp.mk (rws_below hw hb1)
  clear hs hw hb1
  cases hq : longB d.script with
  | true =>
    rw [hq] at H1
    have HR : Kp (longInB d = true) := ⟨by simp [longInB, hq]⟩
    clear hq
    go_enter Try.func25, Try.ntmps25
    go_wp2_with (go_at_call 48; refine H1.out.mono ?_; rintro e w1 ⟨rfl, hb⟩)
    go_ret
    exact ⟨by rw [HR.out]; rfl, HB1.out.trans (hb.mono HB1.out.size)⟩
  | false =>
    rw [hq] at H1
    by_cases h10 : 10 < d.wit.length
    · have h10' : (10 : Int) < (d.wit.length : Int) := by omega
      have HR : Kp (longInB d = true) := ⟨by simp [longInB, h10]⟩
      clear hq h10
      go_enter Try.func25, Try.ntmps25
      go_wp2_with (go_at_call 48; refine H1.out.mono ?_; rintro e w1 ⟨rfl, hb⟩; rw [alloc_size] at hb; have hc35 := cell_new hb 35 _ c35)
      go_ret
      exact ⟨by rw [HR.out]; rfl, HB1.out.trans (hb.mono (Nat.le_succ _))⟩
    · have h10' : ((10 : Int) < (d.wit.length : Int)) = False := eq_false (by omega)
      have HR : Kp (longInB d = d.wit.any longB) := ⟨by simp [longInB, hq, h10]⟩
      clear hq h10
      have HCON : Kp (∀ w1, Below (W.heap.size + 1) (W.alloc (.cells C 47)) w1 → Calls Try.prog 49 #[.slice Aw d.wit.length cw, .func (.func 48) #[] #[]] w1 (BoolP (d.wit.any longB) w1)) := ⟨fun w1 hb =>
        conRow_any w1 _ d.wit 48 longB (rws_below HW.out (by rw [alloc_size]; exact hb)) asks_long (fun _ _ _ hb h => RowR.below h hb) enter_long⟩
      go_enter Try.func25, Try.ntmps25
      go_wp2_with (first | (go_at_call 48; refine H1.out.mono ?_; rintro e w1 ⟨rfl, hb⟩; rw [alloc_size] at hb; have hc35 := cell_new hb 35 _ c35) | (go_at_call 49; refine (HCON.out _ hb).mono ?_; rintro e w2 ⟨rfl, hb2⟩))
      go_ret
      have hb12 := HB1.out.trans (hb.mono (Nat.le_succ _))
      exact ⟨by rw [HR.out]; rfl, hb12.trans (hb2.mono hb12.size)⟩

set_option maxRecDepth 100000 in
set_option maxHeartbeats 1000000 in
theorem longOut_any (W : World) (cs : List Value) (d : OutD) (h : OutR W cs d) : Calls Try.prog 27 #[.agg cs.toArray] W (BoolP (longB d.script) W) := by
  obtain ⟨sv, rfl, _, hs⟩ := h
  have hb1 : Below W.heap.size W (W.alloc (.cells #[.int .u64 d.value, sv] 51)) := (Below.refl _ _).alloc (Nat.le_refl _) _
  have H1 := Kp.mk (long_any (W.alloc (.cells #[.int .u64 d.value, sv] 51)) sv d.script (hs.below hb1))
  have HB1 := Kp.mk hb1
  clear hs hb1
  go_enter Try.func27, Try.ntmps27
  go_wp2_with (go_at_call 48; refine H1.out.mono ?_; rintro e w1 ⟨rfl, hb⟩)
  go_ret
  exact ⟨rfl, HB1.out.trans (hb.mono HB1.out.size)⟩
def witB (d : InD) : Bool := decide (0 < d.wit.length)
set_option maxRecDepth 100000 in
set_option maxHeartbeats 1000000 in
theorem witOne_any (W : World) (cs : List Value) (d : InD) (h : InR W cs d) : Calls Try.prog 56 #[.agg cs.toArray] W (BoolP (witB d) W) := by
  obtain ⟨sv, wv, rfl, hf, hs, hw⟩ := h
  obtain ⟨C, hC⟩ : ∃ C, (inCells d sv wv).toArray = C := ⟨_, rfl⟩
  have c35 : C[35]? = some wv := by rw [← hC]; simpa using inCells_wit hf sv wv
  rw [hC]
  clear hC hf hs
  obtain ⟨Aw, cw, rfl, _, hwl⟩ := hw.slice
  unfold maxLen at hwl
  have HB1 : Kp (Below W.heap.size W (W.alloc (.cells C 47))) := ⟨(Below.refl _ _).alloc (Nat.le_refl _) _⟩
  clear hw
  go_enter Try.func56, Try.ntmps56
  go_wp2
  go_ret
  exact ⟨rfl, HB1.out⟩
theorem asks_longIn : Asks InR (fun cs => .agg cs.toArray) 25 longInB := fun W cs x h => longIn_any W cs x h
theorem asks_longOut : Asks OutR (fun cs => .agg cs.toArray) 27 (fun d : OutD => longB d.script) := fun W cs x h => longOut_any W cs x h
theorem asks_witOne : Asks InR (fun cs => .agg cs.toArray) 56 witB := fun W cs x h => witOne_any W cs x h

def witT (t : TxD) : Bool := t.ins.any witB
set_option maxRecDepth 100000 in
set_option maxHeartbeats 1000000 in
theorem witnessed_any (W : World) (v : Value) (t : TxD) (h : TxR W v t) : Calls Try.prog 29 #[v] W (BoolP (witT t) W) := by
  obtain ⟨iv, ov, rfl, _, _, hi, _⟩ := h
  have hb1 : Below W.heap.size W (W.alloc (.cells #[.int .u32 t.version, iv, ov, .int .u32 t.lock] 26)) := (Below.refl _ _).alloc (Nat.le_refl _) _
  have H1 := Kp.mk (conIn_any (W.alloc (.cells #[.int .u32 t.version, iv, ov, .int .u32 t.lock] 26)) iv t.ins 56 witB (ins_below hi hb1) asks_witOne (fun _ _ _ hb h => InR.below h hb) enter_witOne)
  have HB1 := Kp.mk hb1
  clear hi hb1
  go_enter Try.func29, Try.ntmps29
  go_wp2_with (go_at_call 24; refine H1.out.mono ?_; rintro e w1 ⟨rfl, hb⟩)
  go_ret
  exact ⟨rfl, HB1.out.trans (hb.mono HB1.out.size)⟩

def withinB (n : Nat) : Bool := decide (1 ≤ n ∧ n ≤ 50)
set_option maxRecDepth 100000 in
set_option maxHeartbeats 1000000 in
theorem within_any (W : World) (n : Nat) : Calls Try.prog 23 #[.int .i64 (n : Int)] W (BoolP (withinB n) W) := by
  by_cases h1 : 1 ≤ n
  · have h1' : (1 : Int) ≤ (n : Int) := by omega
    by_cases h2 : n ≤ 50
    · have h2' : (n : Int) ≤ 50 := by omega
      have HR : Kp (withinB n = true) := ⟨by simp [withinB, h1, h2]⟩
      clear h1 h2
      go_enter Try.func23, Try.ntmps23
      go_wp2
      go_ret
      exact ⟨by rw [HR.out]; rfl, Below.refl _ _⟩
    · have h2' : ((n : Int) ≤ 50) = False := eq_false (by omega)
      have HR : Kp (withinB n = false) := ⟨by simp [withinB, h2]⟩
      clear h1 h2
      go_enter Try.func23, Try.ntmps23
      go_wp2
      go_ret
      exact ⟨by rw [HR.out]; rfl, Below.refl _ _⟩
  · have h1' : ((1 : Int) ≤ (n : Int)) = False := eq_false (by omega)
    have HR : Kp (withinB n = false) := ⟨by simp [withinB, h1]⟩
    clear h1
    go_enter Try.func23, Try.ntmps23
    go_wp2
    go_ret
    exact ⟨by rw [HR.out]; rfl, Below.refl _ _⟩

def mayB (t : TxD) : Bool := withinB t.ins.length && (withinB t.outs.length && (!t.ins.any longInB && !t.outs.any (fun d => longB d.script)))
set_option maxRecDepth 100000 in
set_option maxHeartbeats 1000000 in
theorem may_any (W : World) (v : Value) (t : TxD) (h : TxR W v t) : Calls Try.prog 6 #[v] W (BoolP (mayB t) W) := by
  obtain ⟨iv, ov, rfl, _, _, hi, ho⟩ := h
  obtain ⟨Ai, ci, rfl, _, hil⟩ := hi.slice
  obtain ⟨Ao, co, rfl, _, hol⟩ := ho.slice
  unfold maxLen at hil hol
  have hb1 : Below W.heap.size W (W.alloc (.cells #[.int .u32 t.version, .slice Ai t.ins.length ci, .slice Ao t.outs.length co, .int .u32 t.lock] 26)) := (Below.refl _ _).alloc (Nat.le_refl _) _
  have HB1 := Kp.mk hb1
  have HI : Kp (∀ w1, Below (W.heap.size + 1) (W.alloc (.cells #[.int .u32 t.version, .slice Ai t.ins.length ci, .slice Ao t.outs.length co, .int .u32 t.lock] 26)) w1 → Calls Try.prog 24 #[.slice Ai t.ins.length ci, .func (.func 25) #[] #[]] w1 (BoolP (t.ins.any longInB) w1)) := ⟨fun w1 hb =>
    conIn_any w1 _ t.ins 25 longInB (ins_below (ins_below hi hb1) (by rw [alloc_size]; exact hb)) asks_longIn (fun _ _ _ hb h => InR.below h hb) enter_longIn⟩
  have HO : Kp (∀ w1, Below (W.heap.size + 1) (W.alloc (.cells #[.int .u32 t.version, .slice Ai t.ins.length ci, .slice Ao t.outs.length co, .int .u32 t.lock] 26)) w1 → Calls Try.prog 26 #[.slice Ao t.outs.length co, .func (.func 27) #[] #[]] w1 (BoolP (t.outs.any (fun d => longB d.script)) w1)) := ⟨fun w1 hb =>
    conOut_any w1 _ t.outs 27 (fun d => longB d.script) (outs_below (outs_below ho hb1) (by rw [alloc_size]; exact hb)) asks_longOut (fun _ _ _ hb h => OutR.below h hb) enter_longOut⟩
  have HW : Kp (∀ (w1 : World) (n : Nat), Calls Try.prog 23 #[.int .i64 (n : Int)] w1 (BoolP (withinB n) w1)) := ⟨within_any⟩
  have HD : Kp (mayB t = (withinB t.ins.length && (withinB t.outs.length && (!t.ins.any longInB && !t.outs.any (fun d => longB d.script))))) := ⟨rfl⟩
  clear hi ho hb1
  have HF : Kp (Below (W.heap.size + 1) (W.alloc (.cells #[.int .u32 t.version, .slice Ai t.ins.length ci, .slice Ao t.outs.length co, .int .u32 t.lock] 26)) (W.alloc (.cells #[.int .u32 t.version, .slice Ai t.ins.length ci, .slice Ao t.outs.length co, .int .u32 t.lock] 26))) := ⟨Below.refl _ _⟩
  cases h1 : withinB t.ins.length with
  | false =>
    have HW1 := Kp.mk (HW.out (W.alloc (.cells #[.int .u32 t.version, .slice Ai t.ins.length ci, .slice Ao t.outs.length co, .int .u32 t.lock] 26)) t.ins.length)
    rw [h1] at HD HW1
    clear h1
    go_enter Try.func6, Try.ntmps6
    go_wp2_with (go_at_call 23; refine HW1.out.mono ?_; rintro e w1 ⟨rfl, hb⟩)
    go_ret
    exact ⟨by rw [HD.out]; rfl, HB1.out.trans (hb.mono HB1.out.size)⟩
  | true =>
    have HW1 := Kp.mk (HW.out (W.alloc (.cells #[.int .u32 t.version, .slice Ai t.ins.length ci, .slice Ao t.outs.length co, .int .u32 t.lock] 26)) t.ins.length)
    rw [h1] at HD HW1
    clear h1
    cases h2 : withinB t.outs.length with
    | false =>
      have HW2 := Kp.mk (fun w1 => HW.out w1 t.outs.length)
      rw [h2] at HD HW2
      clear h2
      go_enter Try.func6, Try.ntmps6
      go_wp2_with fail
      refine HW1.out.mono ?_
      rintro e w1 ⟨rfl, hb⟩
      rw [alloc_size] at hb
      have hc2 := cell_new hb 2 _ rfl
      go_wp2_with fail
      refine (HW2.out _).mono ?_
      rintro e w2 ⟨rfl, hb2⟩
      have HB2 := Kp.mk (hb.trans (hb2.mono (Nat.le_trans (Nat.le_of_eq (alloc_size ..).symm) hb.size)))
      clear hb hb2 hc2
      go_wp2
      go_ret
      exact ⟨by rw [HD.out]; rfl, HB1.out.trans (HB2.out.mono (Nat.le_succ _))⟩
    | true =>
      have HW2 := Kp.mk (fun w1 => HW.out w1 t.outs.length)
      rw [h2] at HD HW2
      clear h2
      cases h3 : t.ins.any longInB with
      | true =>
        rw [h3] at HD HI
        clear h3
        go_enter Try.func6, Try.ntmps6
        go_wp2_with fail
        refine HW1.out.mono ?_
        rintro e w1 ⟨rfl, hb⟩
        rw [alloc_size] at hb
        have hc2 := cell_new hb 2 _ rfl
        go_wp2_with fail
        refine (HW2.out _).mono ?_
        rintro e w2 ⟨rfl, hb2⟩
        have hb22 := hb.trans (hb2.mono (Nat.le_trans (Nat.le_of_eq (alloc_size ..).symm) hb.size))
        have hc1 := cell_new hb22 1 _ rfl
        have HB2 := Kp.mk hb22
        clear hb hb2 hb22 hc2
        go_wp2_with fail
        refine (HI.out _ HB2.out).mono ?_
        rintro e w3 ⟨rfl, hb3⟩
        have HB3 := Kp.mk (HB2.out.trans (hb3.mono (Nat.le_trans (Nat.le_of_eq (alloc_size ..).symm) HB2.out.size)))
        clear hb3 hc1
        go_wp2
        go_ret
        exact ⟨by rw [HD.out]; rfl, HB1.out.trans (HB3.out.mono (Nat.le_succ _))⟩
      | false =>
        rw [h3] at HD HI
        clear h3
        go_enter Try.func6, Try.ntmps6
        go_wp2_with fail
        refine HW1.out.mono ?_
        rintro e w1 ⟨rfl, hb⟩
        rw [alloc_size] at hb
        have hc2 := cell_new hb 2 _ rfl
        go_wp2_with fail
        refine (HW2.out _).mono ?_
        rintro e w2 ⟨rfl, hb2⟩
        have hb22 := hb.trans (hb2.mono (Nat.le_trans (Nat.le_of_eq (alloc_size ..).symm) hb.size))
        have hc1 := cell_new hb22 1 _ rfl
        have HB2 := Kp.mk hb22
        clear hb hb2 hb22 hc2
        go_wp2_with fail
        refine (HI.out _ HB2.out).mono ?_
        rintro e w3 ⟨rfl, hb3⟩
        have hb33 := HB2.out.trans (hb3.mono (Nat.le_trans (Nat.le_of_eq (alloc_size ..).symm) HB2.out.size))
        have hc22 := cell_new hb33 2 _ rfl
        have HB3 := Kp.mk hb33
        clear hb3 hc1 hb33
        go_wp2_with fail
        refine (HO.out _ HB3.out).mono ?_
        rintro e w4 ⟨rfl, hb4⟩
        have HB4 := Kp.mk (HB3.out.trans (hb4.mono (Nat.le_trans (Nat.le_of_eq (alloc_size ..).symm) HB3.out.size)))
        clear hb4 hc22
        cases h4 : t.outs.any (fun d => longB d.script) with
        | false =>
          rw [h4] at HD
          clear h4
          go_wp2
          go_ret
          exact ⟨by rw [HD.out]; rfl, HB1.out.trans (HB4.out.mono (Nat.le_succ _))⟩
        | true =>
          rw [h4] at HD
          clear h4
          go_wp2
          go_ret
          exact ⟨by rw [HD.out]; rfl, HB1.out.trans (HB4.out.mono (Nat.le_succ _))⟩
end Go.Proofs.Ytojeonepplfhlaa
