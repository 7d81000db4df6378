/- Contracts of package txns: Base, Bytes. -/
import Derived.Test.YtojeonepplfhlaaTxH
import Derived.Deep.RegionHeld3
namespace Go.Proofs.Ytojeonepplfhlaa
open Go.RowKit

def baseOf (t : TxD) : List Int := if mayB t then encTx t false else []
def bytesOf (t : TxD) : List Int := if mayB t then encTx t (witT t) else []
/-- New bytes are answered; what was there is as it was. -/
theorem app_low {l : List Int} {w w1 : World} (hb : Below w.heap.size w w1) {e : Ending} {w' : World} (h : App w1.heap.size l w1 e w') : App w.heap.size l w e w' := by
  obtain ⟨v, he, ho, hg⟩ := h
  exact ⟨v, he, ho.less hb.size, (Grew.of_below (Nat.le_refl _) hb).trans (hg.mono hb.size)⟩

set_option maxRecDepth 100000 in
set_option maxHeartbeats 2000000 in
theorem base_any (W : World) (v : Value) (t : TxD) (h : TxR W v t) : Calls Try.prog 10 #[v] W (App W.heap.size (baseOf t) W) := by
  have hT := h
  obtain ⟨iv, ov, rfl, _⟩ := h
  have hb1 : Below W.heap.size W (W.alloc (.cells #[.int .u32 t.version, iv, ov, .int .u32 t.lock] 26)) := (Below.refl _ _).alloc (Nat.le_refl _) _
  have hT1 := hT.below hb1
  have H1 := Kp.mk (may_any (W.alloc (.cells #[.int .u32 t.version, iv, ov, .int .u32 t.lock] 26)) _ t hT1)
  have HT1 := Kp.mk hT1
  have HB1 := Kp.mk hb1
  have HD : Kp (baseOf t = if mayB t then encTx t false else []) := ⟨rfl⟩
  have HM := Kp.mk (mayB_iff t)
  clear hT hT1 hb1
  cases hq : mayB t with
  | false =>
    rw [hq] at H1 HD
    clear hq HM
    go_enter Try.func10, Try.ntmps10
    go_wp2_with (go_at_call 6; refine H1.out.mono ?_; rintro e w1 ⟨rfl, hb⟩)
    go_ret
    have hbb := HB1.out.trans (hb.mono HB1.out.size)
    exact ⟨_, rfl, by rw [HD.out]; exact own_nil _ _ _, Grew.of_below (Nat.le_refl _) hbb⟩
  | true =>
    rw [hq] at H1 HD
    have HMF := Kp.mk (HM.out.1 hq)
    clear hq HM
    go_enter Try.func10, Try.ntmps10
    go_wp2_with fail
    refine H1.out.mono ?_
    rintro e w1 ⟨rfl, hb⟩
    have hc0 := cell_new (by rw [← alloc_size]; exact hb) 0 _ rfl
    have hc1 := cell_new (by rw [← alloc_size]; exact hb) 1 _ rfl
    have hc2 := cell_new (by rw [← alloc_size]; exact hb) 2 _ rfl
    have hc3 := cell_new (by rw [← alloc_size]; exact hb) 3 _ rfl
    have HBB := Kp.mk (HB1.out.trans (hb.mono HB1.out.size))
    have H2 := Kp.mk (encode_false w1 _ t (HT1.out.below hb) HMF.out)
    clear hb
    go_wp2_with fail
    refine H2.out.mono ?_
    rintro e w2 hApp
    obtain ⟨v2, rfl, ho2, hg2⟩ := app_low HBB.out hApp
    have HO2 := Kp.mk ho2
    have HG2 := Kp.mk hg2
    obtain ⟨A2, c2, rfl⟩ := ho2.slice
    clear ho2 hg2 hApp hc0 hc1 hc2 hc3
    go_wp2
    go_ret
    exact ⟨_, rfl, by rw [HD.out]; exact HO2.out, HG2.out⟩

set_option maxRecDepth 100000 in
set_option maxHeartbeats 2000000 in
theorem bytes_any (W : World) (v : Value) (t : TxD) (h : TxR W v t) : Calls Try.prog 8 #[v] W (App W.heap.size (bytesOf t) W) := by
  have hT := h
  obtain ⟨iv, ov, rfl, _⟩ := h
  have hb1 : Below W.heap.size W (W.alloc (.cells #[.int .u32 t.version, iv, ov, .int .u32 t.lock] 26)) := (Below.refl _ _).alloc (Nat.le_refl _) _
  have hT1 := hT.below hb1
  have H1 := Kp.mk (may_any (W.alloc (.cells #[.int .u32 t.version, iv, ov, .int .u32 t.lock] 26)) _ t hT1)
  have HT1 := Kp.mk hT1
  have HB1 := Kp.mk hb1
  have HD : Kp (bytesOf t = if mayB t then encTx t (witT t) else []) := ⟨rfl⟩
  have HM := Kp.mk (mayB_iff t)
  clear hT hT1 hb1
  cases hq : mayB t with
  | false =>
    rw [hq] at H1 HD
    clear hq HM
    go_enter Try.func8, Try.ntmps8
    go_wp2_with (go_at_call 6; refine H1.out.mono ?_; rintro e w1 ⟨rfl, hb⟩)
    go_ret
    have hbb := HB1.out.trans (hb.mono HB1.out.size)
    exact ⟨_, rfl, by rw [HD.out]; exact own_nil _ _ _, Grew.of_below (Nat.le_refl _) hbb⟩
  | true =>
    rw [hq] at H1 HD
    have HMF := Kp.mk (HM.out.1 hq)
    clear hq HM
    have HENC : Kp (∀ (w3 : World) (v3 : Value), TxR w3 v3 t → Calls Try.prog 28 #[v3, .bool (witT t)] w3 (App w3.heap.size (encTx t (witT t)) w3)) := ⟨fun w3 v3 hv3 => by
      cases witT t
      · exact encode_false w3 v3 t hv3 HMF.out
      · exact encode_true w3 v3 t hv3 HMF.out⟩
    have HWIT : Kp (∀ (w3 : World) (v3 : Value), TxR w3 v3 t → Calls Try.prog 29 #[v3] w3 (BoolP (witT t) w3)) := ⟨fun w3 v3 hv3 => witnessed_any w3 v3 t hv3⟩
    generalize witT t = wt at *
    go_enter Try.func8, Try.ntmps8
    go_wp2_with fail
    refine H1.out.mono ?_
    rintro e w1 ⟨rfl, hb⟩
    have HC : Kp (∀ w3, Below (W.heap.size + 1) (W.alloc (.cells #[.int .u32 t.version, iv, ov, .int .u32 t.lock] 26)) w3 → w3.cell? ⟨W.heap.size, 0, none⟩ = some (.int .u32 t.version) ∧ w3.cell? ⟨W.heap.size, 1, none⟩ = some iv ∧ w3.cell? ⟨W.heap.size, 2, none⟩ = some ov ∧ w3.cell? ⟨W.heap.size, 3, none⟩ = some (.int .u32 t.lock)) := ⟨fun w3 hb => ⟨cell_new hb 0 _ rfl, cell_new hb 1 _ rfl, cell_new hb 2 _ rfl, cell_new hb 3 _ rfl⟩⟩
    have HBA := Kp.mk hb
    have HBd : Kp (Below (W.heap.size + 1) (W.alloc (.cells #[.int .u32 t.version, iv, ov, .int .u32 t.lock] 26)) w1.drew) := ⟨by rw [← alloc_size]; exact hb.drew⟩
    have hcd := HC.out _ HBd.out
    clear hb
    go_wp2_with fail
    go_region_held3 (fun w3 => w3.cell? ⟨W.heap.size, 0, none⟩ = some (.int .u32 t.version) ∧ w3.cell? ⟨W.heap.size, 1, none⟩ = some iv ∧ w3.cell? ⟨W.heap.size, 2, none⟩ = some ov ∧ w3.cell? ⟨W.heap.size, 3, none⟩ = some (.int .u32 t.lock)) (first | exact hcd | assumption) (first | (go_at_call 29; refine (HWIT.out w1.drew _ (HT1.out.below HBA.out.drew)).mono ?_; rintro e w3 ⟨rfl, hb3⟩; have hb33 := HBd.out.trans (hb3.mono (Nat.le_trans (Nat.le_of_eq (alloc_size ..).symm) HBd.out.size)); have hc3 := HC.out _ hb33) | (go_at_call 28; refine (HENC.out w3 _ (HT1.out.below (by rw [alloc_size]; exact hb33))).mono ?_; rintro e w4 hApp; obtain ⟨v4, rfl, ho4, hg4⟩ := app_low (HB1.out.trans (hb33.mono (Nat.le_succ _))) hApp; have hc4 := HC.out w4 (by obtain ⟨_, _, _, hg⟩ := hApp; exact hb33.trans (hg.low.mono (Nat.le_trans (Nat.le_of_eq (alloc_size ..).symm) hb33.size)))))
    have HO2 := Kp.mk ho4
    have HG2 := Kp.mk hg4
    obtain ⟨A2, c2, rfl⟩ := ho4.slice
    clear ho4 hg4 hApp hc3 hc4 hcd hb3 hb33
    go_wp2
    go_ret
    exact ⟨_, rfl, by rw [HD.out]; exact HO2.out, HG2.out⟩
end Go.Proofs.Ytojeonepplfhlaa
