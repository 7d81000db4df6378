/- Layer 4: Weight and Size, the program's and the document's own. -/
import Derived.Test.YtpbhlnmhaociiaaBdA
import Derived.Test.YtpbhlnmhaociiaaRmM
import Derived.Deep.RegionHeld3
namespace Go.Proofs.Ytpbhlnmhaociiaa
open Go.RowKit

def weightOf (t : TxD) : Nat := 3 * (baseOf t).length + (bytesOf t).length
def sizeOf (t : TxD) : Nat := (weightOf t + 3) / 4
def NumP (n : Nat) (w : World) (e : Ending) (w' : World) : Prop := e = .returned (.int .i64 (n : Int)) ∧ Below w.heap.size w w'
theorem base_len {t : TxD} (hf : TxFit t) : (baseOf t).length ≤ 400000 := by
  unfold baseOf
  split
  · rename_i h
    exact encTx_len ((mayB_iff t).1 h) (fun d hd => (hf.ins d hd).plen) false
  · simp
set_option maxRecDepth 1000000 in
set_option maxHeartbeats 4000000 in
theorem weight_any (W : World) (v : Value) (t : TxD) (h : TxR W v t) : Calls Try.prog 28 #[v] W (NumP (weightOf t) W) := by
  have hf := h.fit
  have h1 := base_len hf
  have h2 := bytes_len hf
  have hT := h
  obtain ⟨iv, ov, rfl, _⟩ := h
  have hb1 : Below W.heap.size W (W.alloc (.cells #[.int .u32 t.version, iv, ov, .int .u32 t.lock] 26)) := (Below.refl _ _).alloc (Nat.le_refl _) _
  have HB1 := Kp.mk hb1
  have HT1 := Kp.mk (hT.below hb1)
  have HA : Kp (∀ w3, Below (W.heap.size + 1) (W.alloc (.cells #[.int .u32 t.version, iv, ov, .int .u32 t.lock] 26)) w3 → Calls Try.prog 11 #[.agg #[.int .u32 t.version, iv, ov, .int .u32 t.lock]] w3 (App w3.heap.size (baseOf t) w3)) := ⟨fun w3 hb => base_any w3 _ t (HT1.out.below (by rw [alloc_size]; exact hb))⟩
  have HY : Kp (∀ w3, Below (W.heap.size + 1) (W.alloc (.cells #[.int .u32 t.version, iv, ov, .int .u32 t.lock] 26)) w3 → Calls Try.prog 9 #[.agg #[.int .u32 t.version, iv, ov, .int .u32 t.lock]] w3 (App w3.heap.size (bytesOf t) w3)) := ⟨fun w3 hb => bytes_any w3 _ t (HT1.out.below (by rw [alloc_size]; exact hb))⟩
  have HC : Kp (∀ w3, Below (W.heap.size + 1) (W.alloc (.cells #[.int .u32 t.version, iv, ov, .int .u32 t.lock] 26)) w3 → w3.cell? ⟨W.heap.size, 0, none⟩ = some (.int .u32 t.version) ∧ w3.cell? ⟨W.heap.size, 1, none⟩ = some iv ∧ w3.cell? ⟨W.heap.size, 2, none⟩ = some ov ∧ w3.cell? ⟨W.heap.size, 3, none⟩ = some (.int .u32 t.lock)) := ⟨fun w3 hb => ⟨cell_new hb 0 _ rfl, cell_new hb 1 _ rfl, cell_new hb 2 _ rfl, cell_new hb 3 _ rfl⟩⟩
  have HW : Kp (weightOf t = 3 * (baseOf t).length + (bytesOf t).length) := ⟨rfl⟩
  have HBd : Kp (Below (W.heap.size + 1) (W.alloc (.cells #[.int .u32 t.version, iv, ov, .int .u32 t.lock] 26)) (W.alloc (.cells #[.int .u32 t.version, iv, ov, .int .u32 t.lock] 26)).drew) := ⟨(Below.refl _ _).drew⟩
  have hcd := HC.out _ HBd.out
  generalize weightOf t = wt at *
  generalize bytesOf t = lb at *
  generalize baseOf t = la at *
  clear hT hf hb1
  go_enter Try.func28, Try.ntmps28
  go_wp2_with fail
  go_region_held3 (fun w3 => w3.cell? ⟨W.heap.size, 0, none⟩ = some (.int .u32 t.version) ∧ w3.cell? ⟨W.heap.size, 1, none⟩ = some iv ∧ w3.cell? ⟨W.heap.size, 2, none⟩ = some ov ∧ w3.cell? ⟨W.heap.size, 3, none⟩ = some (.int .u32 t.lock)) (first | exact hcd | assumption) (first | (go_at_call 11; refine (HA.out _ HBd.out).mono ?_; rintro e w3 ⟨A3, rfl, ho3, hg3⟩; obtain ⟨a3, c3, rfl⟩ := ho3.slice; have hb33 := HBd.out.trans (hg3.low.mono (Nat.le_trans (Nat.le_of_eq (alloc_size ..).symm) HBd.out.size)); have hc3 := HC.out _ hb33) | (go_at_call 9; refine (HY.out w3 hb33).mono ?_; rintro e w4 ⟨A4, rfl, ho4, hg4⟩; obtain ⟨a4, c4, rfl⟩ := ho4.slice; have hb44 := hb33.trans (hg4.low.mono (Nat.le_trans (Nat.le_of_eq (alloc_size ..).symm) hb33.size)); have hc4 := HC.out w4 hb44))
  have e1 : IntKind.i64.wrap (3 * (la.length : Int)) = 3 * (la.length : Int) := by rw [IntKind.wrap_i64]; omega
  have e2 : IntKind.i64.wrap (3 * (la.length : Int) + (lb.length : Int)) = (wt : Int) := by have := HW.out; rw [IntKind.wrap_i64]; omega
  rw [e1, e2]
  go_wp2
  go_ret
  exact ⟨rfl, HB1.out.trans (hb44.mono (Nat.le_succ _))⟩
set_option maxRecDepth 1000000 in
set_option maxHeartbeats 4000000 in
theorem refWeight_any (W : World) (v : Value) (t : TxD) (h : TxR W v t) : Calls Try.prog 29 #[v] W (NumP (weightOf t) W) := by
  have hf := h.fit
  have h1 := base_len hf
  have h2 := bytes_len hf
  have hT := h
  obtain ⟨iv, ov, rfl, _⟩ := h
  have hb1 : Below W.heap.size W (W.alloc (.cells #[.int .u32 t.version, iv, ov, .int .u32 t.lock] 26)) := (Below.refl _ _).alloc (Nat.le_refl _) _
  have HB1 := Kp.mk hb1
  have HT1 := Kp.mk (hT.below hb1)
  have HA : Kp (∀ w3, Below (W.heap.size + 1) (W.alloc (.cells #[.int .u32 t.version, iv, ov, .int .u32 t.lock] 26)) w3 → Calls Try.prog 12 #[.agg #[.int .u32 t.version, iv, ov, .int .u32 t.lock]] w3 (NewBytes (baseOf t) w3)) := ⟨fun w3 hb => refBase_any w3 _ t (HT1.out.below (by rw [alloc_size]; exact hb))⟩
  have HY : Kp (∀ w3, Below (W.heap.size + 1) (W.alloc (.cells #[.int .u32 t.version, iv, ov, .int .u32 t.lock] 26)) w3 → Calls Try.prog 10 #[.agg #[.int .u32 t.version, iv, ov, .int .u32 t.lock]] w3 (NewBytes (bytesOf t) w3)) := ⟨fun w3 hb => refBytes_any w3 _ t (HT1.out.below (by rw [alloc_size]; exact hb))⟩
  have HC : Kp (∀ w3, Below (W.heap.size + 1) (W.alloc (.cells #[.int .u32 t.version, iv, ov, .int .u32 t.lock] 26)) w3 → w3.cell? ⟨W.heap.size, 0, none⟩ = some (.int .u32 t.version) ∧ w3.cell? ⟨W.heap.size, 1, none⟩ = some iv ∧ w3.cell? ⟨W.heap.size, 2, none⟩ = some ov ∧ w3.cell? ⟨W.heap.size, 3, none⟩ = some (.int .u32 t.lock)) := ⟨fun w3 hb => ⟨cell_new hb 0 _ rfl, cell_new hb 1 _ rfl, cell_new hb 2 _ rfl, cell_new hb 3 _ rfl⟩⟩
  have HW : Kp (weightOf t = 3 * (baseOf t).length + (bytesOf t).length) := ⟨rfl⟩
  have HBd : Kp (Below (W.heap.size + 1) (W.alloc (.cells #[.int .u32 t.version, iv, ov, .int .u32 t.lock] 26)) (W.alloc (.cells #[.int .u32 t.version, iv, ov, .int .u32 t.lock] 26)).drew) := ⟨(Below.refl _ _).drew⟩
  have hcd := HC.out _ HBd.out
  generalize weightOf t = wt at *
  generalize bytesOf t = lb at *
  generalize baseOf t = la at *
  clear hT hf hb1
  go_enter Try.func29, Try.ntmps29
  go_wp2_with fail
  go_region_held3 (fun w3 => w3.cell? ⟨W.heap.size, 0, none⟩ = some (.int .u32 t.version) ∧ w3.cell? ⟨W.heap.size, 1, none⟩ = some iv ∧ w3.cell? ⟨W.heap.size, 2, none⟩ = some ov ∧ w3.cell? ⟨W.heap.size, 3, none⟩ = some (.int .u32 t.lock)) (first | exact hcd | assumption) (first | (go_at_call 12; refine (HA.out _ HBd.out).mono ?_; rintro e w3 ⟨A3, rfl, ho3, hg3⟩; obtain ⟨a3, c3, rfl⟩ := ho3.slice; have hb33 := HBd.out.trans (hg3.mono (Nat.le_trans (Nat.le_of_eq (alloc_size ..).symm) HBd.out.size)); have hc3 := HC.out _ hb33) | (go_at_call 10; refine (HY.out w3 hb33).mono ?_; rintro e w4 ⟨A4, rfl, ho4, hg4⟩; obtain ⟨a4, c4, rfl⟩ := ho4.slice; have hb44 := hb33.trans (hg4.mono (Nat.le_trans (Nat.le_of_eq (alloc_size ..).symm) hb33.size)); have hc4 := HC.out w4 hb44))
  have e1 : IntKind.i64.wrap (3 * (la.length : Int)) = 3 * (la.length : Int) := by rw [IntKind.wrap_i64]; omega
  have e2 : IntKind.i64.wrap (3 * (la.length : Int) + (lb.length : Int)) = (wt : Int) := by have := HW.out; rw [IntKind.wrap_i64]; omega
  rw [e1, e2]
  go_wp2
  go_ret
  exact ⟨rfl, HB1.out.trans (hb44.mono (Nat.le_succ _))⟩
set_option maxRecDepth 1000000 in
set_option maxHeartbeats 4000000 in
theorem size_any (W : World) (v : Value) (t : TxD) (h : TxR W v t) : Calls Try.prog 30 #[v] W (NumP (sizeOf t) W) := by
  have hf := h.fit
  have h1 := base_len hf
  have h2 := bytes_len hf
  have hw : weightOf t = 3 * (baseOf t).length + (bytesOf t).length := rfl
  have hw2 : weightOf t ≤ 1600000 := by omega
  have hT := h
  obtain ⟨iv, ov, rfl, _⟩ := h
  have hb1 : Below W.heap.size W (W.alloc (.cells #[.int .u32 t.version, iv, ov, .int .u32 t.lock] 26)) := (Below.refl _ _).alloc (Nat.le_refl _) _
  have HB1 := Kp.mk hb1
  have HA := Kp.mk (weight_any _ _ t (hT.below hb1))
  have HS : Kp (sizeOf t = (weightOf t + 3) / 4) := ⟨rfl⟩
  generalize weightOf t = wt at *
  clear h1 h2 hw hT hf hb1
  have e1 : IntKind.i64.wrap ((wt : Int) + 4) = (wt : Int) + 4 := by rw [IntKind.wrap_i64]; omega
  have e2 : IntKind.i64.wrap ((wt : Int) + 4 - 1) = (wt : Int) + 3 := by rw [IntKind.wrap_i64]; omega
  go_enter Try.func30, Try.ntmps30
  go_wp2_with fail
  refine HA.out.mono ?_
  rintro e w3 ⟨rfl, hb3⟩
  go_wp2
  go_ret
  refine ⟨?_, HB1.out.trans (hb3.mono HB1.out.size)⟩
  rw [HS.out]
  rfl
set_option maxRecDepth 1000000 in
set_option maxHeartbeats 4000000 in
theorem refSize_any (W : World) (v : Value) (t : TxD) (h : TxR W v t) : Calls Try.prog 31 #[v] W (NumP (sizeOf t) W) := by
  have hf := h.fit
  have h1 := base_len hf
  have h2 := bytes_len hf
  have hw : weightOf t = 3 * (baseOf t).length + (bytesOf t).length := rfl
  have hw2 : weightOf t ≤ 1600000 := by omega
  have hT := h
  obtain ⟨iv, ov, rfl, _⟩ := h
  have hb1 : Below W.heap.size W (W.alloc (.cells #[.int .u32 t.version, iv, ov, .int .u32 t.lock] 26)) := (Below.refl _ _).alloc (Nat.le_refl _) _
  have HB1 := Kp.mk hb1
  have HA := Kp.mk (refWeight_any _ _ t (hT.below hb1))
  have HS : Kp (sizeOf t = (weightOf t + 3) / 4) := ⟨rfl⟩
  generalize weightOf t = wt at *
  clear h1 h2 hw hT hf hb1
  have e1 : IntKind.i64.wrap ((wt : Int) + 4) = (wt : Int) + 4 := by rw [IntKind.wrap_i64]; omega
  have e2 : IntKind.i64.wrap ((wt : Int) + 4 - 1) = (wt : Int) + 3 := by rw [IntKind.wrap_i64]; omega
  go_enter Try.func31, Try.ntmps31
  go_wp2_with fail
  refine HA.out.mono ?_
  rintro e w3 ⟨rfl, hb3⟩
  go_wp2
  go_ret
  refine ⟨?_, HB1.out.trans (hb3.mono HB1.out.size)⟩
  rw [HS.out]
  rfl
end Go.Proofs.Ytpbhlnmhaociiaa
