/- Contracts of package txns: sameOut, Same. -/
import Derived.Test.YtojeonepplfhlaaTxD
namespace Go.Proofs.Ytojeonepplfhlaa
open Go.RowKit

def sameOutB (a b : OutD) : Bool := decide (a.value = b.value) && decide (a.script = b.script)
theorem sameOutB_dec (a b : OutD) : sameOutB a b = decide (a = b) := by
  unfold sameOutB
  cases a
  cases b
  rw [Bool.eq_iff_iff]
  simp
set_option maxRecDepth 100000 in
set_option maxHeartbeats 1000000 in
theorem sameOut_any (W : World) (cs1 : List Value) (d1 : OutD) (cs2 : List Value) (d2 : OutD) (h1 : OutR W cs1 d1) (h2 : OutR W cs2 d2) :
    Calls Try.prog 38 #[.agg cs1.toArray, .agg cs2.toArray] W (BoolP (sameOutB d1 d2) W) := by
  obtain ⟨sv1, rfl, _, hs1⟩ := h1
  obtain ⟨sv2, rfl, _, hs2⟩ := h2
  have hb0 : Below W.heap.size W ((W.alloc (.cells #[.int .u64 d1.value, sv1] 51)).alloc (.cells #[.int .u64 d2.value, sv2] 51)) := ((Below.refl _ _).alloc (Nat.le_refl _) _).alloc (by simp) _
  have HB := Kp.mk hb0
  have HBE := Kp.mk (bequal_any ((W.alloc (.cells #[.int .u64 d1.value, sv1] 51)).alloc (.cells #[.int .u64 d2.value, sv2] 51)) sv1 sv2 _ _ (hs1.below hb0) (hs2.below hb0))
  have HD : Kp (sameOutB d1 d2 = (decide (d1.value = d2.value) && decide (d1.script = d2.script))) := ⟨rfl⟩
  generalize sameOutB d1 d2 = R at *
  clear hs1 hs2 hb0
  by_cases q1 : d1.value = d2.value
  · have e1 : decide (d1.value = d2.value) = true := by simp [q1]
    rw [e1] at HD
    have f1 : ((d1.value : Int) == (d2.value : Int)) = true := by rw [q1]; simp
    have HD' : Kp (R = decide (d1.script = d2.script)) := ⟨by rw [HD.out]; simp⟩
    clear e1 q1
    go_enter Try.func38, Try.ntmps38
    go_wp2_with (go_at_call 58; refine HBE.out.mono ?_; rintro e w1 ⟨rfl, rfl⟩)
    go_ret
    exact ⟨by rw [HD'.out]; rfl, HB.out⟩
  · have e1 : decide (d1.value = d2.value) = false := by simp [q1]
    rw [e1] at HD
    have f1 : ((d1.value : Int) == (d2.value : Int)) = false := by rw [beq_eq_false_iff_ne]; omega
    have HD' : Kp (R = false) := ⟨by rw [HD.out]; simp⟩
    clear e1 q1
    go_enter Try.func38, Try.ntmps38
    go_wp2
    go_ret
    exact ⟨by rw [HD'.out]; rfl, HB.out⟩
theorem asks_sameIn : Asks2 InR (fun cs => .agg cs.toArray) 36 sameInB := fun W c1 x1 c2 x2 h1 h2 => sameIn_any W c1 x1 c2 x2 h1 h2
theorem asks_sameOut : Asks2 OutR (fun cs => .agg cs.toArray) 38 sameOutB := fun W c1 x1 c2 x2 h1 h2 => sameOut_any W c1 x1 c2 x2 h1 h2

def sameB (a b : TxD) : Bool := decide (a.version = b.version) && (decide (a.lock = b.lock) && (eqB sameInB a.ins b.ins && eqB sameOutB a.outs b.outs))
theorem sameB_dec (a b : TxD) : sameB a b = decide (a = b) := by
  unfold sameB
  rw [eqB_dec sameInB_dec, eqB_dec sameOutB_dec, Bool.eq_iff_iff]
  cases a
  cases b
  simp
  intro _
  constructor
  · rintro ⟨h3, h4, h5⟩; exact ⟨h4, h5, h3⟩
  · rintro ⟨h3, h4, h5⟩; exact ⟨h5, h3, h4⟩
set_option maxRecDepth 100000 in
set_option maxHeartbeats 2000000 in
theorem same_any (W : World) (v1 v2 : Value) (t1 t2 : TxD) (h1 : TxR W v1 t1) (h2 : TxR W v2 t2) : Calls Try.prog 12 #[v1, v2] W (BoolP (decide (t1 = t2)) W) := by
  rw [← sameB_dec]
  obtain ⟨i1, o1, rfl, _, _, hi1, ho1⟩ := h1
  obtain ⟨i2, o2, rfl, _, _, hi2, ho2⟩ := h2
  obtain ⟨W2, hW2⟩ : ∃ W2, (W.alloc (.cells #[.int .u32 t1.version, i1, o1, .int .u32 t1.lock] 26)).alloc (.cells #[.int .u32 t2.version, i2, o2, .int .u32 t2.lock] 26) = W2 := ⟨_, rfl⟩
  have hb0 : Below W.heap.size W ((W.alloc (.cells #[.int .u32 t1.version, i1, o1, .int .u32 t1.lock] 26)).alloc (.cells #[.int .u32 t2.version, i2, o2, .int .u32 t2.lock] 26)) := ((Below.refl _ _).alloc (Nat.le_refl _) _).alloc (by simp) _
  have hz : ((W.alloc (.cells #[.int .u32 t1.version, i1, o1, .int .u32 t1.lock] 26)).alloc (.cells #[.int .u32 t2.version, i2, o2, .int .u32 t2.lock] 26)).heap.size = W.heap.size + 2 := by simp
  have hx1 : ((W.alloc (.cells #[.int .u32 t1.version, i1, o1, .int .u32 t1.lock] 26)).alloc (.cells #[.int .u32 t2.version, i2, o2, .int .u32 t2.lock] 26)).cell? ⟨W.heap.size, 2, none⟩ = some o1 := (cell_of_row _ _ 2 _ _ _ (heap_alloc2_old W _ _)).trans rfl
  have hx2 : ((W.alloc (.cells #[.int .u32 t1.version, i1, o1, .int .u32 t1.lock] 26)).alloc (.cells #[.int .u32 t2.version, i2, o2, .int .u32 t2.lock] 26)).cell? ⟨W.heap.size + 1, 2, none⟩ = some o2 := (cell_of_row _ _ 2 _ _ _ (heap_alloc2_new W _ _)).trans rfl
  have hin := eqIn_any ((W.alloc (.cells #[.int .u32 t1.version, i1, o1, .int .u32 t1.lock] 26)).alloc (.cells #[.int .u32 t2.version, i2, o2, .int .u32 t2.lock] 26)) i1 i2 t1.ins t2.ins 36 sameInB (ins_below hi1 hb0) (ins_below hi2 hb0) asks_sameIn (fun _ _ _ hb h => InR.below h hb) (fun _ _ _ h => h.one) enter_sameIn
  have hout := fun (w1 : World) (hb : Below (W.heap.size + 2) ((W.alloc (.cells #[.int .u32 t1.version, i1, o1, .int .u32 t1.lock] 26)).alloc (.cells #[.int .u32 t2.version, i2, o2, .int .u32 t2.lock] 26)) w1) =>
    eqOut_any w1 o1 o2 t1.outs t2.outs 38 sameOutB (outs_below (outs_below ho1 hb0) (by rw [hz]; exact hb)) (outs_below (outs_below ho2 hb0) (by rw [hz]; exact hb)) asks_sameOut (fun _ _ _ hb h => OutR.below h hb) (fun _ _ _ h => h.one) enter_sameOut
  rw [hW2] at hb0 hz hx1 hx2 hin hout
  have HD : Kp (sameB t1 t2 = (decide (t1.version = t2.version) && (decide (t1.lock = t2.lock) && (eqB sameInB t1.ins t2.ins && eqB sameOutB t1.outs t2.outs)))) := ⟨rfl⟩
  generalize sameB t1 t2 = R at *
  generalize eqB sameOutB t1.outs t2.outs = RO at *
  have HB := Kp.mk hb0
  have HOUT := Kp.mk hout
  have HX := Kp.mk (And.intro hx1 hx2)
  have HZ := Kp.mk hz
  have HW2 := Kp.mk hW2
  clear hi1 hi2 ho1 ho2 hb0 hout hx1 hx2 hz hW2
  by_cases q1 : t1.version = t2.version
  · have e1 : decide (t1.version = t2.version) = true := by simp [q1]
    rw [e1] at HD
    have f1 : ((t1.version : Int) == (t2.version : Int)) = true := by rw [q1]; simp
    by_cases q2 : t1.lock = t2.lock
    · have e2 : decide (t1.lock = t2.lock) = true := by simp [q2]
      rw [e2] at HD
      have f2 : ((t1.lock : Int) == (t2.lock : Int)) = true := by rw [q2]; simp
      clear e1 e2 q1 q2
      cases q3 : eqB sameInB t1.ins t2.ins with
      | true =>
        rw [q3] at HD hin
        clear q3
        have HD' : Kp (R = RO) := ⟨by rw [HD.out]; simp⟩
        have HIN := Kp.mk hin
        clear hin
        go_enter Try.func12, Try.ntmps12
        go_wp2_with fail
        rw [HW2.out]
        refine HIN.out.mono ?_
        rintro e w1 ⟨rfl, hb⟩
        have hc1 := (hb.cell (p := ⟨W.heap.size, 2, none⟩) (by rw [HZ.out]; show W.heap.size < W.heap.size + 2; omega)).trans HX.out.1
        have hc2 := (hb.cell (p := ⟨W.heap.size + 1, 2, none⟩) (by rw [HZ.out]; show W.heap.size + 1 < W.heap.size + 2; omega)).trans HX.out.2
        have HC := Kp.mk (HOUT.out w1 (by rw [← HZ.out]; exact hb))
        have HB1 := Kp.mk (HB.out.trans (hb.mono HB.out.size))
        clear hb
        go_wp2_with (go_at_call 37; refine HC.out.mono ?_; rintro e w2 ⟨rfl, hb2⟩)
        go_ret
        exact ⟨by rw [HD'.out]; rfl, HB1.out.trans (hb2.mono HB1.out.size)⟩
      | false =>
        rw [q3] at HD hin
        clear q3
        have HD' : Kp (R = false) := ⟨by rw [HD.out]; simp⟩
        have HIN := Kp.mk hin
        clear hin
        go_enter Try.func12, Try.ntmps12
        go_wp2_with fail
        rw [HW2.out]
        refine HIN.out.mono ?_
        rintro e w1 ⟨rfl, hb⟩
        have HB1 := Kp.mk (HB.out.trans (hb.mono HB.out.size))
        clear hb
        go_wp2
        go_ret
        exact ⟨by rw [HD'.out]; rfl, HB1.out⟩
    · have e2 : decide (t1.lock = t2.lock) = false := by simp [q2]
      rw [e2] at HD
      have f2 : ((t1.lock : Int) == (t2.lock : Int)) = false := by rw [beq_eq_false_iff_ne]; omega
      have HD' : Kp (R = false) := ⟨by rw [HD.out]; simp⟩
      clear e1 e2 q1 q2 hin
      go_enter Try.func12, Try.ntmps12
      go_wp2
      go_ret
      exact ⟨by rw [HD'.out]; rfl, by rw [HW2.out]; exact HB.out⟩
  · have e1 : decide (t1.version = t2.version) = false := by simp [q1]
    rw [e1] at HD
    have f1 : ((t1.version : Int) == (t2.version : Int)) = false := by rw [beq_eq_false_iff_ne]; omega
    have HD' : Kp (R = false) := ⟨by rw [HD.out]; simp⟩
    clear e1 q1 hin
    go_enter Try.func12, Try.ntmps12
    go_wp2
    go_ret
    exact ⟨by rw [HD'.out]; rfl, by rw [HW2.out]; exact HB.out⟩
end Go.Proofs.Ytojeonepplfhlaa
