/- A transaction weighs as much as may be, and no more: for every three ints the law StatWeight returns true and leaves its arguments as they were. No further condition. -/
import Derived.Test.YtmhdlidplbfkkaaStL
import Derived.Test.YtmhdlidplbfkkaaStM
import Derived.Test.YtmhdlidplbfkkaaClose
import Derived.Deep.DeepCutAuto
import Derived.Deep.RegionHeld3
namespace Go.Proofs.Ytmhdlidplbfkkaa.lawSw
open Go.ChangeShapes Go.WideShapes Go.ChangeAt Go.RowKit

/-- How long the inputs of the variable in block g are. -/
def lenAt (w : World) (g : Nat) : Nat := match w.cell? ⟨g, 1, none⟩ with
  | some (.slice _ n _) => n
  | _ => 0
theorem lenAt_w {w : World} {B g L k n j : Nat} (h : TxV w B g (wT L k n j)) : lenAt w g = n + 1 := by
  obtain ⟨gi, ci, go, co, hx, _, _⟩ := TxV.w h
  unfold lenAt
  rw [hx.cell 1]
  rfl
set_option linter.unusedSimpArgs false in
set_option maxRecDepth 10000000 in
set_option maxHeartbeats 16000000 in
theorem walk (a b l : Int) (w : World) : Calls Try.prog 4 #[.int .i64 a, .int .i64 b, .int .i64 l] w (YesK w) := by
  have H1 := Kp.mk (lawGood_any w 1 2 (by omega) (by omega))
  have hA : bits BinOp.and IntKind.i64 a 255 = a % 256 := and_mask a 8 (by omega)
  have hB : bits BinOp.and IntKind.i64 b 31 = b % 32 := and_mask b 5 (by omega)
  have hL : bits BinOp.and IntKind.i64 l 255 = l % 256 := and_mask l 8 (by omega)
  obtain ⟨p, hp, hp1⟩ : ∃ p : Nat, a % 256 = (p : Int) ∧ p ≤ 255 := ⟨(a % 256).toNat, by omega, by omega⟩
  obtain ⟨s, hs, hs1⟩ : ∃ s : Nat, b % 32 = (s : Int) ∧ s ≤ 31 := ⟨(b % 32).toNat, by omega, by omega⟩
  obtain ⟨r, hr, hr1⟩ : ∃ r : Nat, l % 256 = (r : Int) ∧ r ≤ 255 := ⟨(l % 256).toNat, by omega, by omega⟩
  rw [hp] at hA
  rw [hs] at hB
  rw [hr] at hL
  obtain ⟨q, hq, hq1⟩ : ∃ q : Nat, p % 11 = q ∧ q ≤ 10 := ⟨p % 11, rfl, by omega⟩
  have hm1 : (p : Int) % 11 = (q : Int) := by omega
  have hm2 : Int.tmod (p : Int) 11 = (q : Int) := by rw [Int.tmod_eq_emod_of_nonneg (by omega)]; omega
  obtain ⟨L, hLL⟩ : ∃ L : Nat, r + 200 = L := ⟨_, rfl⟩
  have hL1 : L ≤ 455 := by omega
  have HLV := Kp.mk hL1
  have hrL : IntKind.i64.wrap ((r : Int) + 200) = (L : Int) := by rw [IntKind.wrap_i64]; omega
  have HQ1 := Kp.mk hq1
  have HS1 := Kp.mk hs1
  have hqb : (q : Int) ≤ 10 := by omega
  have hsb : (s : Int) ≤ 31 := by omega
  obtain ⟨g1, g2, g3, g4⟩ := good12
  have HG1 := Kp.mk (And.intro g1 (And.intro g2 (And.intro g3 g4)))
  clear hp hs hr hp1 hs1 hr1 hq hq1 hLL hL1 g1 g2 g3 g4
  obtain ⟨T, hT⟩ : ∃ T, goodOf 1 2 = T := ⟨_, rfl⟩
  have HT := Kp.mk hT
  rw [hT] at H1 HG1
  clear hT
  go_enter Try.func4, Try.ntmps4
  go_wp2_with fail
  refine H1.out.mono ?_
  rintro e w2 ⟨v2, rfl, hT2, hb2⟩
  obtain ⟨iv, ov, rfl, hv4, hk4, hi2, ho2⟩ := id hT2
  rw [HG1.out.1] at hi2
  obtain ⟨gi0, ci0, rfl, hci0, _⟩ := hi2.box (by simp)
  obtain ⟨go0, co0, rfl, _⟩ := ho2.box (by rw [HG1.out.2.1]; omega)
  rw [HG1.out.2.1] at ho2 ⊢
  rw [show [goodIn 2 0].length = 1 from rfl] at hi2 hci0 ⊢
  obtain ⟨i1, hia, hib, hic, hid⟩ := info_parts3 infoInZ
  have HI1 := Kp.mk (And.intro hia (And.intro hib (And.intro hic hid)))
  have HI1I := HI1
  have hc1 : (1 : Int) ≤ (ci0 : Int) := by omega
  have HIB := Kp.mk hi2
  have HOB := Kp.mk ho2
  have HB2 := Kp.mk hb2
  have HV4 := Kp.mk (And.intro hv4 hk4)
  clear hT2 hi2 ho2 hb2 hv4 hk4 hia hib hic hid
  go_upto_region 2 with fail
  obtain ⟨W3, hW3⟩ : ∃ W3, (w2.alloc (.cells #[.int .u32 T.version, .slice (some ⟨gi0, 0, none⟩) 1 ci0, .slice (some ⟨go0, 0, none⟩) 1 co0, .int .u32 T.lock] 26)).alloc (.cells #[] 32) = W3 := ⟨_, rfl⟩
  have hb23 : Below w2.heap.size w2 W3 := by rw [← hW3]; exact ((Below.refl _ _).alloc (Nat.le_refl _) _).alloc (by simp) _
  have hk23 : Keeps [5, 29, 32, 35] w2 W3 := Keeps.of_below _ hb23
  have hx3 : Box W3 w2.heap.size 26 #[.int .u32 T.version, .slice (some ⟨gi0, 0, none⟩) 1 ci0, .slice (some ⟨go0, 0, none⟩) 1 co0, .int .u32 T.lock] := by rw [← hW3]; exact box_past (Box.fresh _ _ _)
  have he3 : Box W3 (w2.heap.size + 1) 32 #[] := by rw [← hW3]; exact box_at _ _ _ _ (by simp)
  have hi3 := OwnMany.turn HIB.out hk23 (by decide) (Nat.le_refl _) (fun cs d h => InO.turn (w' := W3) h hk23 (by decide) (by decide) (Nat.le_refl _))
  have HO3 : Kp (OwnMany 2 35 (OutF W3 w.heap.size) W3 w.heap.size (.slice (some ⟨go0, 0, none⟩) 1 co0) T.outs) := ⟨OwnMany.turn HOB.out hk23 (by decide) (Nat.le_refl _) (fun cs d h => h.keeps hk23 (by decide))⟩
  have HSRC : Kp (Many 36 (fun W => InO W w.heap.size) W3 (.slice (some ⟨gi0, 0, none⟩) 1 ci0) [goodIn 2 0]) := ⟨OwnMany.many (RR := fun W => InO W w.heap.size) hi3 fun _ _ h => h⟩
  have HEM : Kp (OwnMany 36 32 (InO W3 w.heap.size) W3 w.heap.size (.slice (some ⟨w2.heap.size + 1, 0, none⟩) 0 0) []) := ⟨OwnMany.empty 36 _ he3 (by have := HB2.out.size; omega)⟩
  have HX3 := Kp.mk hx3
  have HB3 := Kp.mk (HB2.out.trans (hb23.mono HB2.out.size))
  have HW3 := Kp.mk hW3
  have HGG : Kp (w.heap.size ≤ w2.heap.size) := ⟨HB2.out.size⟩
  have HGR : Kp (∀ w6, W3.grownBy w6 (Value.slice (some ⟨w2.heap.size + 1, 0, none⟩) 0 0).ownBlock → Below w.heap.size w w6) := ⟨fun w6 hg => HEM.out.grows HB3.out hg (Nat.le_refl _)⟩
  have HTT : Kp (T.ins = [goodIn 2 0]) := ⟨HG1.out.1⟩
  have HD : Kp (∀ D, [goodIn 2 0] = [D] → True) := ⟨fun _ _ => trivial⟩
  clear hW3 hb23 hk23 hx3 he3 hi3
  go_cut [] (fun wx => Kp (TxV wx w.heap.size w2.heap.size T ∧ Below w.heap.size w wx))
  case first =>
    go_wp2_with (first | (at_builtin; rw [HW3.out]; refine wpList_append_rows (R := fun W => InO W w.heap.size) (RR := fun W => InO W w.heap.size) rfl (.tmp 13) (.tmp 16) 23 rfl w.heap.size i1 _ 96 Try.underlying23 HI1.out.1 HI1.out.2.1 HI1.out.2.2.1 HI1.out.2.2.2 (by rfl) (by decide) _ [] rfl HEM.out _ [goodIn 2 0] rfl HSRC.out (by simp) (fun cs d h => h) (fun cs d h => h.inR.one) (by simp) (by decide) HB3.out.size [5, 29, 35, 26] (by decide) (fun w' cs d hk h => h.turn hk (by decide) (by decide) (Nat.le_refl _)) ?_; intro v6 w6 hm6 hg6 hk6; rw [List.nil_append] at hm6; have HM6 := Kp.mk hm6; have HK6 := Kp.mk hk6; have HG6 := Kp.mk hg6; obtain ⟨A6, c6, rfl⟩ := hm6.slice; have hx6 := Keeps.box hk6 (by decide) HX3.out; have f1 := hx6.warm 1; have c16 := hx6.cell 1; have HX6 := Kp.mk hx6; clear hm6 hg6 hk6 hx6))
    have hk7 : Keeps [5, 29, 32, 35] w6 (w6.setCell ⟨w2.heap.size, 1, none⟩ (.slice A6 1 c6)) := Keeps.of_set HX6.out (by decide) 1 _
    have hk36 : Keeps [5, 29, 35] W3 (w6.setCell ⟨w2.heap.size, 1, none⟩ (.slice A6 1 c6)) := (HK6.out.sub (by decide)).trans (hk7.sub (by decide))
    have HE : Kp (TxV (w6.setCell ⟨w2.heap.size, 1, none⟩ (.slice A6 1 c6)) w.heap.size w2.heap.size T ∧ Below w.heap.size w (w6.setCell ⟨w2.heap.size, 1, none⟩ (.slice A6 1 c6))) := ⟨⟨_, _, HX6.out.set 1 _, HV4.out.1, HV4.out.2, by rw [HTT.out]; exact OwnMany.turn HM6.out hk7 (by decide) (Nat.le_refl _) (fun cs d h => InO.turn h hk7 (by decide) (by decide) (Nat.le_refl _)), OwnMany.turn HO3.out hk36 (by decide) (Nat.le_refl _) (fun cs d h => OutF.keeps h hk36 (by decide))⟩, (HGR.out w6 HG6.out).setCell HGG.out _⟩
    go_meet
    case rel => exact HE
  have HTV0 := hcut
  obtain ⟨W5, rfl⟩ : ∃ W : World, W = wc := ⟨_, rfl⟩
  clear hcut HO3 HSRC HEM HX3 HB3 HW3 HGR HIB HOB HD
  generalize w2.heap.size = g at *
  obtain ⟨gi1, ci1, go1, co1, hx1, _, _, hi1, ho1⟩ := HTV0.out.1.form (by rw [HTT.out]; simp) (by rw [HG1.out.2.1]; omega)
  rw [HTT.out] at hi1 hx1
  rw [HG1.out.2.1] at ho1 hx1
  rw [HG1.out.2.2.1, HG1.out.2.2.2, show [goodIn 2 0].length = 1 from rfl] at hx1
  rw [show [goodIn 2 0].length = 1 from rfl] at hi1
  obtain ⟨cs1, hcl1, hR1, hi1s⟩ := hi1.single
  obtain ⟨sv1, wv1, rfl, hf1, hS1, hY1, _⟩ := hR1
  obtain ⟨cq, hcq, hRq, hcell, hfz⟩ := OwnMany.cellN hi1 rfl (show 0 < [goodIn 2 0].length by decide) (show 35 < 36 by decide)
  have c35 : W5.cell? ⟨gi1, 35, none⟩ = some (cq[35]'(by omega)) := Eq.trans hcell (List.getElem?_eq_getElem (by omega))
  have f35 : W5.frozen? ⟨gi1, 35, none⟩ = false := hfz
  obtain ⟨hBi1, _, Ci1, hxi1⟩ := hi1.boxOf
  have hk6 : Keeps [5, 29, 35, 26] W5 (W5.setCell ⟨gi1, 35, none⟩ (.slice none 0 0)) := Keeps.of_set hxi1 (by decide) 35 _
  have hi6 := OwnMany.cellSetN (i := 0) (j := 35) (R' := InO (W5.setCell ⟨gi1, 35, none⟩ (.slice none 0 0)) w.heap.size) hi1s rfl (by decide) (by decide) (.slice none 0 0) (wIn L 0) (fun cs d h => by
    obtain ⟨rfl, rfl⟩ := h
    exact InO.turn (show InO W5 w.heap.size _ _ from ⟨sv1, wv1, rfl, hf1, hS1, hY1, by assumption⟩) hk6 (by decide) (by decide) (Nat.le_refl _)) (fun cs _ h => by
    obtain ⟨rfl, _⟩ := h
    exact ⟨sv1, .slice none 0 0, set_wit hf1.plen sv1 wv1 _ _, ⟨hf1.plen, hf1.pbys, hf1.vlt, hf1.slt⟩, hS1.keeps hk6 (by decide), hY1, OwnMany.nil _ _ _ _ _⟩)
  have HTV1 : Kp (TxV (W5.setCell ⟨gi1, 35, none⟩ (.slice none 0 0)) w.heap.size g (wT L 0 0 0) ∧ Below w.heap.size w (W5.setCell ⟨gi1, 35, none⟩ (.slice none 0 0))) := ⟨TxV.ofW (Keeps.box hk6 (by decide) hx1) hi6 (by rw [wOuts_zero, HT.out]; exact OwnMany.turn ho1 hk6 (by decide) (Nat.le_refl _) (fun cs d h => OutF.keeps h hk6 (by decide))), HTV0.out.2.setCell hBi1 _⟩
  have c1 := hx1.cell 1
  generalize cq[35]'(by omega) = z35 at c35
  clear hx1 hi1 ho1 hcl1 hi1s hS1 hY1 hcq hRq hcell hfz hBi1 hxi1 hk6 hi6 hf1
  go_wp2
  obtain ⟨W6, hW6⟩ : ∃ W6, W5.setCell ⟨gi1, 35, none⟩ (.slice none 0 0) = W6 := ⟨_, rfl⟩
  rw [hW6] at HTV1 ⊢
  clear hW6 c35 f35 c1
  go_loopw [8] (fun i wr => ∃ k : Nat, k ≤ q ∧ i = .int .i64 k ∧ Kp (TxV wr w.heap.size g (wT L k 0 0) ∧ Below w.heap.size w wr)) (fun i _ => q - (intOf i).toNat)
  case atStart => exact ⟨0, Nat.zero_le _, rfl, HTV1⟩
  case round =>
    obtain ⟨k, hk, rfl, HK⟩ := hrel
    by_cases hkq : k < q
    · obtain ⟨gi, ci, go, co, hx, hi, ho⟩ := TxV.w HK.out.1
      rw [wIns_zero] at hi
      rw [Nat.zero_add] at hx hi ho
      obtain ⟨cs, hcl, hR, his⟩ := hi.single
      obtain ⟨sv, wv, rfl, hf, hS, hY, hW⟩ := hR
      obtain ⟨hBi, hgi, Ci, hxi⟩ := hi.boxOf
      obtain ⟨cq, _, hcq, hcell, _⟩ := OwnMany.cellN his rfl (show 0 < [wIn L k].length from Nat.zero_lt_one) (show 35 < 36 by decide)
      obtain ⟨rfl, _⟩ := hcq
      have hwv : (inCells (wIn L k) sv wv)[35]? = some wv := inCells_wit hf sv wv
      have hc35 : wr.cell? ⟨gi, 35, none⟩ = some wv := Eq.trans hcell hwv
      have hC35 : Ci[35]? = some wv := (hxi.cell 35).symm.trans hc35
      obtain ⟨t3, hta, htb, htc, htd⟩ := info_parts3 infoRow
      have HI3 := Kp.mk (And.intro hta (And.intro htb (And.intro htc htd)))
      obtain ⟨WA, hWA⟩ : ∃ WA, (wr.alloc (.cells (byteVals (zeros L)).toArray 5)).drew = WA := ⟨_, rfl⟩
      obtain ⟨WB, hWB⟩ : ∃ WB, WA.alloc (.cells #[.slice (some ⟨wr.heap.size, 0, none⟩) L L] 29) = WB := ⟨_, rfl⟩
      have hbA : Below wr.heap.size wr WA := by rw [← hWA]; exact ((Below.refl _ _).alloc (Nat.le_refl _) _).drew
      have hbAB : Below WA.heap.size WA WB := by rw [← hWB]; exact (Below.refl _ _).alloc (Nat.le_refl _) _
      have hbB : Below wr.heap.size wr WB := hbA.trans (hbAB.mono hbA.size)
      have hkB : Keeps [5, 29, 32, 35, 26] wr WB := Keeps.of_below _ hbB
      have hwz : w.heap.size ≤ wr.heap.size := HK.out.2.size
      have hzA : Box WA wr.heap.size 5 (byteVals (zeros L)).toArray := by rw [← hWA]; exact Box.fresh wr _ _
      have hzB : Box WB wr.heap.size 5 (byteVals (zeros L)).toArray := hzA.below hbAB
      have HS0 : Kp (wr.drew.cell? ⟨g, 1, none⟩ = some (.slice (some ⟨gi, 0, none⟩) 1 ci)) := ⟨hx.cell 1⟩
      have HSA : Kp (WA.cell? ⟨g, 1, none⟩ = some (.slice (some ⟨gi, 0, none⟩) 1 ci)) := ⟨(hx.below hbA).cell 1⟩
      have HSB : Kp (WB.cell? ⟨g, 1, none⟩ = some (.slice (some ⟨gi, 0, none⟩) 1 ci)) := ⟨(hx.below hbB).cell 1⟩
      have c35 : Kp (wr.drew.cell? ⟨gi, 35, none⟩ = some wv) := ⟨hc35⟩
      have c35a : Kp (WA.cell? ⟨gi, 35, none⟩ = some wv) := ⟨((hxi.below hbA).cell 35).trans hC35⟩
      have c35b : Kp (WB.cell? ⟨gi, 35, none⟩ = some wv) := ⟨((hxi.below hbB).cell 35).trans hC35⟩
      have HMK : Kp (∀ W, (Instr.makeSlice 29 (.int .i64 (L : Int)) (.int .i64 (L : Int))).run Try.prog W = .ok (.slice (some ⟨W.heap.size, 0, none⟩) L L) (W.alloc (.cells (byteVals (zeros L)).toArray 5))) := ⟨fun W => make_zeros (by have := HLV.out; omega) W⟩
      have HW : Kp (OwnMany 1 29 (RowO WB w.heap.size) WB w.heap.size wv (List.replicate k (zeros L))) := ⟨rows_turn hW hkB (by decide) (by decide) (Nat.le_refl _)⟩
      have HBB : Kp (Box WB WA.heap.size 29 #[.slice (some ⟨wr.heap.size, 0, none⟩) L L]) := ⟨by rw [← hWB]; exact Box.fresh _ _ _⟩
      have HRO : Kp (RowO WB w.heap.size [.slice (some ⟨wr.heap.size, 0, none⟩) L L] (zeros L)) := ⟨⟨_, rfl, own_made hzB hwz (by have := HLV.out; omega), zeros_bys _⟩⟩
      have HBS : Kp (w.heap.size ≤ WB.heap.size) := ⟨Nat.le_trans hwz hbB.size⟩
      have HXB : Kp (Box WB g 26 #[.int .u32 3, .slice (some ⟨gi, 0, none⟩) 1 ci, .slice (some ⟨go, 0, none⟩) 1 co, .int .u32 0] ∧ Box WB gi 32 Ci) := ⟨hx.below hbB, hxi.below hbB⟩
      have HC35 := Kp.mk hC35
      have HGI : Kp (g ≠ gi) := ⟨fun e => by
        subst e
        have h1 : wr.heap[g]? = _ := hx
        have h2 : wr.heap[g]? = _ := hxi
        rw [h1] at h2
        simp at h2⟩
      have HKQ : Kp (k < q ∧ q ≤ 10) := ⟨hkq, HQ1.out⟩
      have HWA := Kp.mk hWA
      have HWB := Kp.mk hWB
      have hsB : OwnMany 36 32 (fun c x => c = inCells (wIn L k) sv wv ∧ x = wIn L k) WB w.heap.size (.slice (some ⟨gi, 0, none⟩) 1 ci) [wIn L k] := OwnMany.turn his hkB (by decide) (Nat.le_refl _) (fun cs d h => h)
      have hSB := hS.keeps (w' := WB) hkB (by decide)
      have hoB := OwnMany.turn ho hkB (by decide) (Nat.le_refl _) (fun cs d h => OutF.keeps (w' := WB) h hkB (by decide))
      have hbWB : Below w.heap.size w WB := HK.out.2.trans (hbB.mono HK.out.2.size)
      have HEND : Kp (∀ w6 A6 c6, OwnMany 1 29 (RowO w6 w.heap.size) w6 w.heap.size (.slice A6 (k + 1) c6) (List.replicate (k + 1) (zeros L)) → Keeps [5, 32, 35, 26] WB w6 → WB.grownBy w6 wv.ownBlock → TxV (w6.setCell ⟨gi, 35, none⟩ (.slice A6 (k + 1) c6)) w.heap.size g (wT L (k + 1) 0 0) ∧ Below w.heap.size w (w6.setCell ⟨gi, 35, none⟩ (.slice A6 (k + 1) c6))) := ⟨fun w6 A6 c6 hm hk6 hg6 => by
        have hxi6 := Keeps.box hk6 (by decide) HXB.out.2
        have hk7 : Keeps [5, 29, 35, 26] w6 (w6.setCell ⟨gi, 35, none⟩ (.slice A6 (k + 1) c6)) := Keeps.of_set hxi6 (by decide) 35 _
        have hk67 : Keeps [5, 35, 26] WB (w6.setCell ⟨gi, 35, none⟩ (.slice A6 (k + 1) c6)) := (hk6.sub (by decide)).trans (hk7.sub (by decide))
        have hs6 : OwnMany 36 32 (fun c x => c = inCells (wIn L k) sv wv ∧ x = wIn L k) w6 w.heap.size (.slice (some ⟨gi, 0, none⟩) 1 ci) [wIn L k] := OwnMany.turn hsB hk6 (by decide) (Nat.le_refl _) (fun cs d h => h)
        have hi7 := OwnMany.cellSetN (i := 0) (j := 35) (R' := fun c x => (c = (inCells (wIn L k) sv wv) ∧ x = wIn L k) ∨ InO (w6.setCell ⟨gi, 35, none⟩ (.slice A6 (k + 1) c6)) w.heap.size c x) hs6 rfl Nat.zero_lt_one (by decide) (.slice A6 (k + 1) c6) (wIn L (k + 1)) (fun cs d h => .inl h) (fun cs _ h => by
          obtain ⟨rfl, _⟩ := h
          exact .inr ⟨sv, .slice A6 (k + 1) c6, set_wit hf.plen sv wv _ _, ⟨hf.plen, hf.pbys, hf.vlt, hf.slt⟩, hSB.keeps hk67 (by decide), hY, rows_turn hm hk7 (by decide) (by decide) (Nat.le_refl _)⟩)
        have hi8 : OwnMany 36 32 (InO (w6.setCell ⟨gi, 35, none⟩ (.slice A6 (k + 1) c6)) w.heap.size) (w6.setCell ⟨gi, 35, none⟩ (.slice A6 (k + 1) c6)) w.heap.size (.slice (some ⟨gi, 0, none⟩) 1 ci) [wIn L (k + 1)] := by
          obtain ⟨cz, _, hz, hzs⟩ := OwnMany.single (show OwnMany 36 32 _ _ _ _ [wIn L (k + 1)] from hi7)
          refine OwnMany.turn hzs (Keeps.of_below [32] (Below.refl _ _)) (by decide) (Nat.le_refl _) fun cs d h => ?_
          obtain ⟨rfl, rfl⟩ := h
          rcases hz with ⟨_, hz⟩ | hz
          · exfalso
            have := congrArg (fun d : InD => d.wit.length) hz
            simp [wIn] at this
          · exact hz
        exact ⟨TxV.ofW (Keeps.box hk67 (by decide) HXB.out.1) hi8 (OwnMany.turn hoB hk67 (by decide) (Nat.le_refl _) (fun cs d h => OutF.keeps h hk67 (by decide))), (OwnMany.grows HW.out hbWB hg6 (Nat.le_refl _)).setCell hBi _⟩⟩
      have hcz1 := hx.cell 1
      have hcS : wr.drew.cell? ⟨g, 1, none⟩ = some (.slice (some ⟨gi, 0, none⟩) 1 ci) := hcz1
      have hkb : (k : Int) < (q : Int) := by omega
      clear hx hi ho hcl his hf hS hY hW hBi hgi hxi hcell hwv hc35 hC35 hta htb htc htd hWA hWB hbA hbAB hbB hkB hwz hzA hzB hsB hSB hoB hbWB hkq HK
      go_wp2_with fail
      refine wp_region_noPanic ?_
      refine wp_region_held_drew (S := fun W => W.cell? ⟨g, 1, none⟩ = some (.slice (some ⟨gi, 0, none⟩) 1 ci)) (by kernel_rfl) ?_ (fun hHeld => ?_)
      · exact hcS
      refine wpAnyH_take (i := 0) (oi := ⟨some 30, _, _, _, _, _⟩) (v := ?_) rfl (by kernel_rfl) (by kernel_rfl) (by kernel_rfl) (fun _ _ _ h => h) (Or.inl ⟨by rfl, ?_⟩) hHeld ?_
      rotate_left
      · (intro wx hSw; (try dsimp only at hSw); go_simp; try with_reducible rfl)
      try simp only [Act.put, List.setIfInBounds_toArray, List.set_cons_zero, List.set_cons_succ]
      refine wpAnyH_take (i := 1) (oi := ⟨some 31, _, _, _, _, _⟩) (v := ?_) rfl (by kernel_rfl) (by kernel_rfl) (by kernel_rfl) (fun _ _ _ h => h) (Or.inl ⟨by rfl, ?_⟩) hHeld ?_
      rotate_left
      · (intro wx hSw; (try dsimp only at hSw); go_simp; try with_reducible rfl)
      try simp only [Act.put, List.setIfInBounds_toArray, List.set_cons_zero, List.set_cons_succ]
      refine wpAnyH_take (i := 2) (oi := ⟨some 32, _, _, _, _, _⟩) (v := ?_) rfl (by kernel_rfl) (by kernel_rfl) (by kernel_rfl) (fun _ _ _ h => h) (Or.inl ⟨by rfl, ?_⟩) hHeld ?_
      rotate_left
      · (intro wx hSw; (try dsimp only at hSw); go_simp; try with_reducible rfl)
      try simp only [Act.put, List.setIfInBounds_toArray, List.set_cons_zero, List.set_cons_succ]
      refine wpAnyH_take (i := 3) (oi := ⟨some 33, _, _, _, _, _⟩) (v := ?_) rfl (by kernel_rfl) (by kernel_rfl) (by kernel_rfl) (fun _ _ _ h => h) (Or.inl ⟨by rfl, ?_⟩) hHeld ?_
      rotate_left
      · (intro wx hSw; (try dsimp only at hSw); go_simp; try with_reducible rfl)
      try simp only [Act.put, List.setIfInBounds_toArray, List.set_cons_zero, List.set_cons_succ]
      refine wpAnyH_take (i := 4) (oi := ⟨some 34, _, _, _, _, _⟩) (v := ?_) rfl (by kernel_rfl) (by kernel_rfl) (by kernel_rfl) (fun _ _ _ h => h) (Or.inl ⟨by rfl, ?_⟩) hHeld ?_
      rotate_left
      · (intro wx hSw; (try dsimp only at hSw); go_simp; try with_reducible rfl)
      try simp only [Act.put, List.setIfInBounds_toArray, List.set_cons_zero, List.set_cons_succ]
      refine wpAnyH_take (i := 5) (oi := ⟨some 35, _, _, _, _, _⟩) (v := ?_) rfl (by kernel_rfl) (by kernel_rfl) (by kernel_rfl) (fun _ _ _ h => h) (Or.inl ⟨by rfl, ?_⟩) hHeld ?_
      rotate_left
      · (intro wx hSw; (try dsimp only at hSw); go_simp; try with_reducible rfl)
      try simp only [Act.put, List.setIfInBounds_toArray, List.set_cons_zero, List.set_cons_succ]
      refine wpAnyH_take (i := 7) (oi := ⟨some 37, _, _, _, _, _⟩) (v := ?_) rfl (by kernel_rfl) (by kernel_rfl) (by kernel_rfl) (fun _ _ _ h => h) (Or.inl ⟨by rfl, ?_⟩) hHeld ?_
      rotate_left
      · (intro wx hSw; (try dsimp only at hSw); go_simp; try with_reducible rfl)
      try simp only [Act.put, List.setIfInBounds_toArray, List.set_cons_zero, List.set_cons_succ]
      refine wpAnyH_take (i := 8) (oi := ⟨some 38, _, _, _, _, _⟩) (v := ?_) rfl (by kernel_rfl) (by kernel_rfl) (by kernel_rfl) (fun _ _ _ h => h) (Or.inl ⟨by rfl, ?_⟩) hHeld ?_
      rotate_left
      · (intro wx hSw; (try dsimp only at hSw); go_simp; try with_reducible rfl)
      try simp only [Act.put, List.setIfInBounds_toArray, List.set_cons_zero, List.set_cons_succ]
      refine wpAnyH_take (i := 9) (oi := ⟨some 39, _, _, _, _, _⟩) (v := ?_) rfl (by kernel_rfl) (by kernel_rfl) (by kernel_rfl) (fun _ _ _ h => h) (Or.inl ⟨by rfl, ?_⟩) hHeld ?_
      rotate_left
      · (intro wx hSw; (try dsimp only at hSw); go_simp; try with_reducible rfl)
      try simp only [Act.put, List.setIfInBounds_toArray, List.set_cons_zero, List.set_cons_succ]
      refine wpAnyH_ready (rs := [6, 10]) (by kernel_rfl) (by simp) (AllReadyH.cons (o := ⟨some 36, _, _, _, _, _⟩) rfl (fun K hK => ?_) (AllReadyH.cons (o := ⟨some 40, _, _, _, _, _⟩) rfl (fun K hK => ?_) AllReadyH.nil))
      · have c35z := c35.out
        go_simp
        refine hK.out _ _ ?_ (fun hHeld => ?_)
        · exact HS0.out
        clear hK K
        try simp only [Act.put, List.setIfInBounds_toArray, List.set_cons_zero, List.set_cons_succ]
        refine wpAnyH_ready (rs := [10]) (by kernel_rfl) (by simp) (AllReadyH.cons (o := ⟨some 40, _, _, _, _, _⟩) rfl (fun K hK => ?_) AllReadyH.nil)
        have hmk := HMK.out wr.drew
        go_simp
        rw [HWA.out]
        refine hK.out _ _ ?_ (fun hHeld => ?_)
        · exact HSA.out
        clear hK K
        try simp only [Act.put, List.setIfInBounds_toArray, List.set_cons_zero, List.set_cons_succ]
        refine wpAnyH_ready (rs := [11]) (by kernel_rfl) (by simp) (AllReadyH.cons (o := ⟨some 41, _, _, _, _, _⟩) rfl (fun K hK => ?_) AllReadyH.nil)
        go_simp
        rw [HWB.out]
        refine hK.out _ _ ?_ (fun hHeld => ?_)
        · exact HSB.out
        clear hK K
        try simp only [Act.put, List.setIfInBounds_toArray, List.set_cons_zero, List.set_cons_succ]
        refine wpAnyH_ready (rs := [12]) (by kernel_rfl) (by simp) (AllReadyH.cons (o := ⟨some 42, _, _, _, _, _⟩) rfl (fun K hK => ?_) AllReadyH.nil)
        refine wp_append_many (R := fun W => RowO W w.heap.size) (.tmp 36) (.tmp 41) 30 rfl w.heap.size t3 _ 24 Try.underlying30 HI3.out.1 HI3.out.2.1 HI3.out.2.2.1 HI3.out.2.2.2 (by rfl) (by decide) _ (List.replicate k (zeros L)) rfl HW.out WA.heap.size 1 [.slice (some ⟨wr.heap.size, 0, none⟩) L L] (zeros L) rfl HBB.out rfl HRO.out (fun u hu => by rw [List.mem_singleton.1 hu]; rfl) (by rw [List.length_replicate]; have := HKQ.out; omega) (by decide) HBS.out [5, 32, 35, 26] (by decide) (fun W cs d hk h => h.turn hk (by decide) (Nat.le_refl _)) ?_
        intro v6 w6 hm6 hg6 hk6
        rw [← List.replicate_succ'] at hm6
        have HM6 := Kp.mk hm6
        have HK6 := Kp.mk hk6
        have HG6 := Kp.mk hg6
        obtain ⟨A6, c6, he6⟩ := hm6.slice
        rw [List.length_replicate] at he6
        subst he6
        have hx6 := Keeps.box hk6 (by decide) HXB.out.1
        have hxi6 := Keeps.box hk6 (by decide) HXB.out.2
        have s6 := hx6.cell 1
        have c356 := hxi6.cell 35
        have f356 := hxi6.warm 35
        have HX6 := Kp.mk (And.intro hx6 hxi6)
        rw [HC35.out] at c356
        clear hm6 hg6 hk6 hx6 hxi6
        refine hK.out _ _ ?_ (fun hHeld => ?_)
        · exact s6
        clear hK K
        try simp only [Act.put, List.setIfInBounds_toArray, List.set_cons_zero, List.set_cons_succ]
        refine wpAnyH_take (i := 13) (oi := ⟨some 43, _, _, _, _, _⟩) (v := ?_) rfl (by kernel_rfl) (by kernel_rfl) (by kernel_rfl) (fun _ _ _ h => h) (Or.inl ⟨by rfl, ?_⟩) hHeld ?_
        rotate_left
        · (intro wx hSw; (try dsimp only at hSw); go_simp; try with_reducible rfl)
        try simp only [Act.put, List.setIfInBounds_toArray, List.set_cons_zero, List.set_cons_succ]
        refine wpAnyH_take (i := 14) (oi := ⟨some 44, _, _, _, _, _⟩) (v := ?_) rfl (by kernel_rfl) (by kernel_rfl) (by kernel_rfl) (fun _ _ _ h => h) (Or.inl ⟨by rfl, ?_⟩) hHeld ?_
        rotate_left
        · (intro wx hSw; (try dsimp only at hSw); go_simp; try with_reducible rfl)
        try simp only [Act.put, List.setIfInBounds_toArray, List.set_cons_zero, List.set_cons_succ]
        refine wpAnyH_ready (rs := [15]) (by kernel_rfl) (by simp) (AllReadyH.cons (o := ⟨none, _, _, _, _, _⟩) rfl (fun K hK => ?_) AllReadyH.nil)
        go_simp
        refine hK.out _ _ ?_ (fun hHeld => ?_)
        · exact (HX6.out.1.keep ((Only.refl gi w6).set 35 _) HGI.out).cell 1
        clear hK K
        try simp only [Act.put, List.setIfInBounds_toArray, List.set_cons_zero, List.set_cons_succ]
        refine wpAnyH_done (by kernel_rfl) ?_ _
        refine NoPanic.normal ?_
        go_wp2
        have HE := HEND.out w6 A6 c6 HM6.out HK6.out HG6.out
        exact ⟨⟨k + 1, by have := HKQ.out; omega, by go_num, ⟨HE⟩⟩, by simp [intOf]; have := HKQ.out; omega⟩
      · have hmk := HMK.out wr.drew
        go_simp
        rw [HWA.out]
        refine hK.out _ _ ?_ (fun hHeld => ?_)
        · exact HSA.out
        clear hK K
        try simp only [Act.put, List.setIfInBounds_toArray, List.set_cons_zero, List.set_cons_succ]
        refine wpAnyH_ready (rs := [6, 11]) (by kernel_rfl) (by simp) (AllReadyH.cons (o := ⟨some 36, _, _, _, _, _⟩) rfl (fun K hK => ?_) (AllReadyH.cons (o := ⟨some 41, _, _, _, _, _⟩) rfl (fun K hK => ?_) AllReadyH.nil))
        · have c35z := c35a.out
          go_simp
          refine hK.out _ _ ?_ (fun hHeld => ?_)
          · exact HSA.out
          clear hK K
          try simp only [Act.put, List.setIfInBounds_toArray, List.set_cons_zero, List.set_cons_succ]
          refine wpAnyH_ready (rs := [11]) (by kernel_rfl) (by simp) (AllReadyH.cons (o := ⟨some 41, _, _, _, _, _⟩) rfl (fun K hK => ?_) AllReadyH.nil)
          go_simp
          rw [HWB.out]
          refine hK.out _ _ ?_ (fun hHeld => ?_)
          · exact HSB.out
          clear hK K
          try simp only [Act.put, List.setIfInBounds_toArray, List.set_cons_zero, List.set_cons_succ]
          refine wpAnyH_ready (rs := [12]) (by kernel_rfl) (by simp) (AllReadyH.cons (o := ⟨some 42, _, _, _, _, _⟩) rfl (fun K hK => ?_) AllReadyH.nil)
          refine wp_append_many (R := fun W => RowO W w.heap.size) (.tmp 36) (.tmp 41) 30 rfl w.heap.size t3 _ 24 Try.underlying30 HI3.out.1 HI3.out.2.1 HI3.out.2.2.1 HI3.out.2.2.2 (by rfl) (by decide) _ (List.replicate k (zeros L)) rfl HW.out WA.heap.size 1 [.slice (some ⟨wr.heap.size, 0, none⟩) L L] (zeros L) rfl HBB.out rfl HRO.out (fun u hu => by rw [List.mem_singleton.1 hu]; rfl) (by rw [List.length_replicate]; have := HKQ.out; omega) (by decide) HBS.out [5, 32, 35, 26] (by decide) (fun W cs d hk h => h.turn hk (by decide) (Nat.le_refl _)) ?_
          intro v6 w6 hm6 hg6 hk6
          rw [← List.replicate_succ'] at hm6
          have HM6 := Kp.mk hm6
          have HK6 := Kp.mk hk6
          have HG6 := Kp.mk hg6
          obtain ⟨A6, c6, he6⟩ := hm6.slice
          rw [List.length_replicate] at he6
          subst he6
          have hx6 := Keeps.box hk6 (by decide) HXB.out.1
          have hxi6 := Keeps.box hk6 (by decide) HXB.out.2
          have s6 := hx6.cell 1
          have c356 := hxi6.cell 35
          have f356 := hxi6.warm 35
          have HX6 := Kp.mk (And.intro hx6 hxi6)
          rw [HC35.out] at c356
          clear hm6 hg6 hk6 hx6 hxi6
          refine hK.out _ _ ?_ (fun hHeld => ?_)
          · exact s6
          clear hK K
          try simp only [Act.put, List.setIfInBounds_toArray, List.set_cons_zero, List.set_cons_succ]
          refine wpAnyH_take (i := 13) (oi := ⟨some 43, _, _, _, _, _⟩) (v := ?_) rfl (by kernel_rfl) (by kernel_rfl) (by kernel_rfl) (fun _ _ _ h => h) (Or.inl ⟨by rfl, ?_⟩) hHeld ?_
          rotate_left
          · (intro wx hSw; (try dsimp only at hSw); go_simp; try with_reducible rfl)
          try simp only [Act.put, List.setIfInBounds_toArray, List.set_cons_zero, List.set_cons_succ]
          refine wpAnyH_take (i := 14) (oi := ⟨some 44, _, _, _, _, _⟩) (v := ?_) rfl (by kernel_rfl) (by kernel_rfl) (by kernel_rfl) (fun _ _ _ h => h) (Or.inl ⟨by rfl, ?_⟩) hHeld ?_
          rotate_left
          · (intro wx hSw; (try dsimp only at hSw); go_simp; try with_reducible rfl)
          try simp only [Act.put, List.setIfInBounds_toArray, List.set_cons_zero, List.set_cons_succ]
          refine wpAnyH_ready (rs := [15]) (by kernel_rfl) (by simp) (AllReadyH.cons (o := ⟨none, _, _, _, _, _⟩) rfl (fun K hK => ?_) AllReadyH.nil)
          go_simp
          refine hK.out _ _ ?_ (fun hHeld => ?_)
          · exact (HX6.out.1.keep ((Only.refl gi w6).set 35 _) HGI.out).cell 1
          clear hK K
          try simp only [Act.put, List.setIfInBounds_toArray, List.set_cons_zero, List.set_cons_succ]
          refine wpAnyH_done (by kernel_rfl) ?_ _
          refine NoPanic.normal ?_
          go_wp2
          have HE := HEND.out w6 A6 c6 HM6.out HK6.out HG6.out
          exact ⟨⟨k + 1, by have := HKQ.out; omega, by go_num, ⟨HE⟩⟩, by simp [intOf]; have := HKQ.out; omega⟩
        · go_simp
          rw [HWB.out]
          refine hK.out _ _ ?_ (fun hHeld => ?_)
          · exact HSB.out
          clear hK K
          try simp only [Act.put, List.setIfInBounds_toArray, List.set_cons_zero, List.set_cons_succ]
          refine wpAnyH_ready (rs := [6]) (by kernel_rfl) (by simp) (AllReadyH.cons (o := ⟨some 36, _, _, _, _, _⟩) rfl (fun K hK => ?_) AllReadyH.nil)
          have c35z := c35b.out
          go_simp
          refine hK.out _ _ ?_ (fun hHeld => ?_)
          · exact HSB.out
          clear hK K
          try simp only [Act.put, List.setIfInBounds_toArray, List.set_cons_zero, List.set_cons_succ]
          refine wpAnyH_ready (rs := [12]) (by kernel_rfl) (by simp) (AllReadyH.cons (o := ⟨some 42, _, _, _, _, _⟩) rfl (fun K hK => ?_) AllReadyH.nil)
          refine wp_append_many (R := fun W => RowO W w.heap.size) (.tmp 36) (.tmp 41) 30 rfl w.heap.size t3 _ 24 Try.underlying30 HI3.out.1 HI3.out.2.1 HI3.out.2.2.1 HI3.out.2.2.2 (by rfl) (by decide) _ (List.replicate k (zeros L)) rfl HW.out WA.heap.size 1 [.slice (some ⟨wr.heap.size, 0, none⟩) L L] (zeros L) rfl HBB.out rfl HRO.out (fun u hu => by rw [List.mem_singleton.1 hu]; rfl) (by rw [List.length_replicate]; have := HKQ.out; omega) (by decide) HBS.out [5, 32, 35, 26] (by decide) (fun W cs d hk h => h.turn hk (by decide) (Nat.le_refl _)) ?_
          intro v6 w6 hm6 hg6 hk6
          rw [← List.replicate_succ'] at hm6
          have HM6 := Kp.mk hm6
          have HK6 := Kp.mk hk6
          have HG6 := Kp.mk hg6
          obtain ⟨A6, c6, he6⟩ := hm6.slice
          rw [List.length_replicate] at he6
          subst he6
          have hx6 := Keeps.box hk6 (by decide) HXB.out.1
          have hxi6 := Keeps.box hk6 (by decide) HXB.out.2
          have s6 := hx6.cell 1
          have c356 := hxi6.cell 35
          have f356 := hxi6.warm 35
          have HX6 := Kp.mk (And.intro hx6 hxi6)
          rw [HC35.out] at c356
          clear hm6 hg6 hk6 hx6 hxi6
          refine hK.out _ _ ?_ (fun hHeld => ?_)
          · exact s6
          clear hK K
          try simp only [Act.put, List.setIfInBounds_toArray, List.set_cons_zero, List.set_cons_succ]
          refine wpAnyH_take (i := 13) (oi := ⟨some 43, _, _, _, _, _⟩) (v := ?_) rfl (by kernel_rfl) (by kernel_rfl) (by kernel_rfl) (fun _ _ _ h => h) (Or.inl ⟨by rfl, ?_⟩) hHeld ?_
          rotate_left
          · (intro wx hSw; (try dsimp only at hSw); go_simp; try with_reducible rfl)
          try simp only [Act.put, List.setIfInBounds_toArray, List.set_cons_zero, List.set_cons_succ]
          refine wpAnyH_take (i := 14) (oi := ⟨some 44, _, _, _, _, _⟩) (v := ?_) rfl (by kernel_rfl) (by kernel_rfl) (by kernel_rfl) (fun _ _ _ h => h) (Or.inl ⟨by rfl, ?_⟩) hHeld ?_
          rotate_left
          · (intro wx hSw; (try dsimp only at hSw); go_simp; try with_reducible rfl)
          try simp only [Act.put, List.setIfInBounds_toArray, List.set_cons_zero, List.set_cons_succ]
          refine wpAnyH_ready (rs := [15]) (by kernel_rfl) (by simp) (AllReadyH.cons (o := ⟨none, _, _, _, _, _⟩) rfl (fun K hK => ?_) AllReadyH.nil)
          go_simp
          refine hK.out _ _ ?_ (fun hHeld => ?_)
          · exact (HX6.out.1.keep ((Only.refl gi w6).set 35 _) HGI.out).cell 1
          clear hK K
          try simp only [Act.put, List.setIfInBounds_toArray, List.set_cons_zero, List.set_cons_succ]
          refine wpAnyH_done (by kernel_rfl) ?_ _
          refine NoPanic.normal ?_
          go_wp2
          have HE := HEND.out w6 A6 c6 HM6.out HK6.out HG6.out
          exact ⟨⟨k + 1, by have := HKQ.out; omega, by go_num, ⟨HE⟩⟩, by simp [intOf]; have := HKQ.out; omega⟩
    · obtain rfl : k = q := by omega
      have HTV := Kp.mk HK.out
      clear HK hkq
      go_wp2
      obtain ⟨wo, rfl⟩ : ∃ wo : World, wo = wr := ⟨_, rfl⟩
      go_loopw [9] (fun _ wr => ∃ n : Nat, n ≤ 49 ∧ Kp (TxV wr w.heap.size g (wT L k n 0) ∧ Below w.heap.size w wr ∧ lenAt wr g = n + 1)) (fun _ wr => 50 - lenAt wr g)
      case atStart => exact ⟨0, Nat.zero_le _, ⟨HTV.out.1, HTV.out.2, lenAt_w HTV.out.1⟩⟩
      case round =>
        obtain ⟨n, hn, HN⟩ := hrel
        obtain ⟨gi, ci, go, co, hx, hi, ho⟩ := TxV.w HN.out.1
        have c1 := hx.cell 1
        by_cases hn49 : n < 49
        · have hn1 : ((n : Int) + 1 < 50) = True := eq_true (by omega)
          obtain ⟨cs, hcl, hR, hrg⟩ := hi.rangeN (i := 0) (by rw [wIns_len]; omega)
          rw [Nat.zero_mul] at hrg
          have HRG := Kp.mk hrg
          have HI1 : Kp ((Try.prog.info? 32).map (·.size) = some cs.length) := ⟨by rw [hcl]; exact sizeIn⟩
          have HI2 : Kp ((Try.prog.info? 32).map (·.size) = some cs.toArray.size ∧ cs.toArray.size = 36) := ⟨by rw [List.size_toArray, hcl]; exact ⟨sizeIn, rfl⟩⟩
          have HALL : Kp (cs.toArray.all (·.oneCell') = true) := ⟨all_oneCell_toArray hR.inR.one⟩
          have hw1 : IntKind.i64.wrap ((n : Int) + 1 + 100) = (n : Int) + 101 := by rw [IntKind.wrap_i64]; omega
          have hw2 : IntKind.u32.wrap ((n : Int) + 101) = (n : Int) + 101 := by rw [IntKind.wrap_u32]; omega
          have hpos : (n + 1 > 0) = True := eq_true (by omega)
          have hcS : ∀ o, (wr.alloc o).cell? ⟨g, 1, none⟩ = some (.slice (some ⟨gi, 0, none⟩) (n + 1) ci) := fun o => (box_past hx).cell 1
          go_upto_region 11 with (first | (refine wpList_load_mid rfl 32 (.tmp 51) rfl gi 0 rfl cs _ HRG.out Try.underlying32 rfl HI1.out ?_) | (refine wpList_store_fresh rfl 32 (.tmp 9) (.tmp 52) rfl _ cs.toArray wr.heap.size rfl rfl rfl HI2.out.1 (by rw [HI2.out.2]; rfl) HALL.out ?_))
          obtain ⟨sv, wv, hcs, hf, hS, hY, hWt⟩ := hR
          have hd : (wIns L k n)[0]'(by rw [wIns_len]; omega) = wIn L k := rfl
          rw [hd] at hcs hf hS hY hWt
          have hcs' : cs.set 32 (.int .u32 ((n : Int) + 101)) = inCells { wIn L k with vout := 101 + n } sv wv := by
            rw [hcs, show ((n : Int) + 101) = ((101 + n : Nat) : Int) by omega]
            exact set_vout hf.plen sv wv _
          obtain ⟨C, hC⟩ : ∃ C, cs.set 32 (.int .u32 ((n : Int) + 101)) = C := ⟨_, rfl⟩
          rw [hC] at hcs' ⊢
          have hCl : C.length = 36 := by rw [← hC, List.length_set, hcl]
          obtain ⟨W1, hW1⟩ : ∃ W1, wr.alloc (.cells C.toArray 32) = W1 := ⟨_, rfl⟩
          obtain ⟨W2, hW2⟩ : ∃ W2, W1.alloc (.cells C.toArray 32) = W2 := ⟨_, rfl⟩
          have hb1 : Below wr.heap.size wr W1 := by rw [← hW1]; exact (Below.refl _ _).alloc (Nat.le_refl _) _
          have hb12 : Below W1.heap.size W1 W2 := by rw [← hW2]; exact (Below.refl _ _).alloc (Nat.le_refl _) _
          have hb2 : Below wr.heap.size wr W2 := hb1.trans (hb12.mono hb1.size)
          have hk2 : Keeps [5, 29, 32, 35, 26] wr W2 := Keeps.of_below _ hb2
          have HROW : Kp (W1.heap[wr.heap.size]? = some (.cells C.toArray 32 (0, 0))) := ⟨by rw [← hW1]; exact heap_alloc_new wr _⟩
          have HIC : Kp ((Try.prog.info? 32).map (·.size) = some C.toArray.size) := ⟨by rw [List.size_toArray, hCl]; exact sizeIn⟩
          have HBX : Kp (Box W2 W1.heap.size 32 C.toArray) := ⟨by rw [← hW2]; exact Box.fresh _ _ _⟩
          have HOW : Kp (OwnMany 36 32 (InO W2 w.heap.size) W2 w.heap.size (.slice (some ⟨gi, 0, none⟩) (n + 1) ci) (wIns L k n)) := ⟨OwnMany.turn hi hk2 (by decide) (Nat.le_refl _) (fun cs d h => h.turn hk2 (by decide) (by decide) (Nat.le_refl _))⟩
          have HOO : Kp (OwnMany 2 35 (OutF W2 w.heap.size) W2 w.heap.size (.slice (some ⟨go, 0, none⟩) (0 + 1) co) (wOuts 0)) := ⟨OwnMany.turn ho hk2 (by decide) (Nat.le_refl _) (fun cs d h => h.keeps hk2 (by decide))⟩
          have HIN : Kp (InO W2 w.heap.size C { wIn L k with vout := 101 + n }) := ⟨InO.turn (w := wr) ⟨sv, wv, hcs', ⟨hf.plen, hf.pbys, by show 101 + n < 4294967296; omega, hf.slt⟩, hS, hY, hWt⟩ hk2 (by decide) (by decide) (Nat.le_refl _)⟩
          have HONE : Kp (∀ u ∈ C, u.oneCell' = true) := ⟨HIN.out.inR.one⟩
          have HX2 : Kp (Box W2 g 26 #[.int .u32 3, .slice (some ⟨gi, 0, none⟩) (n + 1) ci, .slice (some ⟨go, 0, none⟩) (0 + 1) co, .int .u32 0]) := ⟨Keeps.box hk2 (by decide) hx⟩
          have HB2' : Kp (Below w.heap.size w W2) := ⟨HN.out.2.1.trans (hb2.mono HN.out.2.1.size)⟩
          have HCL := Kp.mk hCl
          have HNL : Kp ((wIns L k n).length ≤ 1000) := ⟨by rw [wIns_len]; omega⟩
          have HN49 := Kp.mk hn49
          have HW2 := Kp.mk hW2
          have HSU : Kp (wIns L k n ++ [{ wIn L k with vout := 101 + n }] = wIns L k (n + 1)) := ⟨(wIns_succ L k n).symm⟩
          have HLA : Kp (lenAt wr g = n + 1) := ⟨HN.out.2.2⟩
          have cW1 : W1.cell? ⟨g, 1, none⟩ = some (.slice (some ⟨gi, 0, none⟩) (n + 1) ci) := (hx.below hb1).cell 1
          have HGR : Kp (∀ w6, W2.grownBy w6 (Value.slice (some ⟨gi, 0, none⟩) (n + 1) ci).ownBlock → Below w.heap.size w w6) := ⟨fun w6 hg => HOW.out.grows HB2'.out hg (Nat.le_refl _)⟩
          rw [hW1]
          clear hcs hf hS hY hWt hcs' hC hCl hW1 hW2 hb1 hb12 hb2 hk2 hx hi ho hcl hrg hcS hn49 HN c1 hd HRG HI1 HI2 HALL hw1 hw2
          go_wp2_with (first | (refine wpList_load_row rfl 32 (.tmp 9) rfl wr.heap.size rfl 32 C.toArray (0, 0) _ HROW.out Try.underlying32 rfl HIC.out ?_) | (refine wpList_buildIn rfl (.tmp 61) rfl C HCL.out rfl ?_; rw [HW2.out]) | (at_builtin; refine wpList_append_many (R := fun W => InO W w.heap.size) rfl (.tmp 60) (.tmp 62) 23 rfl w.heap.size i1 _ 96 Try.underlying23 HI1I.out.1 HI1I.out.2.1 HI1I.out.2.2.1 HI1I.out.2.2.2 (by rfl) (by decide) _ (wIns L k n) rfl HOW.out W1.heap.size 1 C { wIn L k with vout := 101 + n } rfl HBX.out HCL.out HIN.out HONE.out HNL.out (by decide) HB2'.out.size [5, 29, 35, 26] (by decide) (fun w' cs d hk h => h.turn hk (by decide) (by decide) (Nat.le_refl _)) ?_; intro v6 w6 hm6 hg6 hk6; rw [HSU.out] at hm6; have HM6 := Kp.mk hm6; have HK6 := Kp.mk hk6; have HG6 := Kp.mk hg6; obtain ⟨A6, c6, he6⟩ := hm6.slice; rw [wIns_len] at he6; subst he6; have hx6 := Keeps.box hk6 (by decide) HX2.out; have f16 := hx6.warm 1; have c16 := hx6.cell 1; have HX6 := Kp.mk hx6; clear hm6 hg6 hk6 hx6))
          have hk7 : Keeps [5, 29, 32, 35] w6 (w6.setCell ⟨g, 1, none⟩ (.slice A6 (n + 1 + 1) c6)) := Keeps.of_set HX6.out (by decide) 1 _
          have hk27 : Keeps [5, 29, 35] W2 (w6.setCell ⟨g, 1, none⟩ (.slice A6 (n + 1 + 1) c6)) := (HK6.out.sub (by decide)).trans (hk7.sub (by decide))
          have hTV7 : TxV (w6.setCell ⟨g, 1, none⟩ (.slice A6 (n + 1 + 1) c6)) w.heap.size g (wT L k (n + 1) 0) := TxV.ofW (HX6.out.set 1 _) (OwnMany.turn HM6.out hk7 (by decide) (Nat.le_refl _) (fun cs d h => InO.turn h hk7 (by decide) (by decide) (Nat.le_refl _))) (OwnMany.turn HOO.out hk27 (by decide) (Nat.le_refl _) (fun cs d h => OutF.keeps h hk27 (by decide)))
          have hla := lenAt_w hTV7
          have HR7 : Kp (∃ n', n' ≤ 49 ∧ Kp (TxV (w6.setCell ⟨g, 1, none⟩ (.slice A6 (n + 1 + 1) c6)) w.heap.size g (wT L k n' 0) ∧ Below w.heap.size w (w6.setCell ⟨g, 1, none⟩ (.slice A6 (n + 1 + 1) c6)) ∧ lenAt (w6.setCell ⟨g, 1, none⟩ (.slice A6 (n + 1 + 1) c6)) g = n' + 1)) := ⟨n + 1, by have := HN49.out; omega, ⟨hTV7, (HGR.out w6 HG6.out).setCell HGG.out _, hla⟩⟩
          have HM7 : Kp (50 - lenAt (w6.setCell ⟨g, 1, none⟩ (.slice A6 (n + 1 + 1) c6)) g < 50 - lenAt wr g) := ⟨by rw [hla, HLA.out]; have := HN49.out; omega⟩
          clear hk7 hk27 hTV7 hla
          exact ⟨HR7.out, HM7.out⟩
        · obtain rfl : n = 49 := by omega
          have HTV2 : Kp (TxV wr w.heap.size g (wT L k 49 0) ∧ Below w.heap.size w wr) := ⟨HN.out.1, HN.out.2.1⟩
          have hlt50 : ((50 : Int) < 50) = False := eq_false (by omega)
          clear hx hi ho hn49 HN
          go_wp2
          obtain ⟨wq, rfl⟩ : ∃ wq : World, wq = wr := ⟨_, rfl⟩
          clear c1
          go_loopw [10] (fun i wr => ∃ j : Nat, j ≤ s ∧ i = .int .i64 j ∧ Kp (TxV wr w.heap.size g (wT L k 49 j) ∧ Below w.heap.size w wr)) (fun i _ => s - (intOf i).toNat)
          case atStart => exact ⟨0, Nat.zero_le _, rfl, HTV2⟩
          case round =>
            obtain ⟨j, hj, rfl, HJ⟩ := hrel
            by_cases hjs : j < s
            · obtain ⟨gi, ci, go, co, hx, hi, ho⟩ := TxV.w HJ.out.1
              obtain ⟨i2, hia2, hib2, hic2, hid2⟩ := info_parts3 infoOutZ
              have HI2 := Kp.mk (And.intro hia2 (And.intro hib2 (And.intro hic2 hid2)))
              have c2 : wr.drew.cell? ⟨g, 2, none⟩ = some (.slice (some ⟨go, 0, none⟩) (j + 1) co) := hx.cell 2
              have HSC := Kp.mk (script_any wr.drew 1 (by omega))
              have HX := Kp.mk hx
              have HI := Kp.mk hi
              have HO := Kp.mk ho
              have HBJ := Kp.mk HJ.out.2
              have HJS : Kp (j < s ∧ s ≤ 31) := ⟨hjs, HS1.out⟩
              have HNL : Kp ((wOuts j).length ≤ 1000) := ⟨by rw [wOuts_len]; have := HS1.out; omega⟩
              have HSU : Kp (wOuts j ++ [wOut] = wOuts (j + 1)) := ⟨(wOuts_succ j).symm⟩
              have hjb : (j : Int) < (s : Int) := by omega
              clear hx hi ho hia2 hib2 hic2 hid2 hjs HJ
              go_wp2_with fail
              refine wp_region_noPanic ?_
              refine wp_region_held_drew (S := fun _ => True) (by kernel_rfl) ?_ (fun hHeld => ?_)
              · trivial
              refine wpAnyH_take (i := 0) (oi := ⟨some 71, _, _, _, _, _⟩) (v := ?_) rfl (by kernel_rfl) (by kernel_rfl) (by kernel_rfl) (fun _ _ _ h => h) (Or.inl ⟨by rfl, ?_⟩) hHeld ?_
              rotate_left
              · (intro wx hSw; (try dsimp only at hSw); go_simp; try with_reducible rfl)
              try simp only [Act.put, List.setIfInBounds_toArray, List.set_cons_zero, List.set_cons_succ]
              refine wpAnyH_ready (rs := [1, 2]) (by kernel_rfl) (by simp) (AllReadyH.cons (o := ⟨some 72, _, _, _, _, _⟩) rfl (fun K hK => ?_) (AllReadyH.cons (o := ⟨some 73, _, _, _, _, _⟩) rfl (fun K hK => ?_) AllReadyH.nil))
              · go_simp
                refine hK.out _ _ ?_ (fun hHeld => ?_)
                · trivial
                clear hK K
                try simp only [Act.put, List.setIfInBounds_toArray, List.set_cons_zero, List.set_cons_succ]
                refine wpAnyH_ready (rs := [2]) (by kernel_rfl) (by simp) (AllReadyH.cons (o := ⟨some 73, _, _, _, _, _⟩) rfl (fun K hK => ?_) AllReadyH.nil)
                go_simp
                go_at_call 14
                refine HSC.out.mono ?_
                rintro e w5 ⟨v5, rfl, hv5, hb5⟩
                have hbr : Below wr.heap.size wr w5 := ((Below.refl _ _).drew).trans hb5
                have hs5 : RbF w5 w.heap.size v5 (scriptOf 1) := hv5.less HBJ.out.size
                obtain ⟨SL, hSL⟩ : ∃ S, scriptOf 1 = S := ⟨_, rfl⟩
                rw [hSL] at hs5
                obtain ⟨A5, c5, rfl⟩ := hs5.slice5
                obtain ⟨W6, hW6⟩ : ∃ W6, w5.alloc (.cells #[.int .u64 9000, .slice A5 SL.length c5] 35) = W6 := ⟨_, rfl⟩
                have hb56 : Below w5.heap.size w5 W6 := by rw [← hW6]; exact (Below.refl _ _).alloc (Nat.le_refl _) _
                have hb6 : Below wr.heap.size wr W6 := hbr.trans (hb56.mono hbr.size)
                have hk6 : Keeps [5, 29, 32, 35, 26] wr W6 := Keeps.of_below _ hb6
                have hk56 : Keeps [5, 29, 32, 35, 26] w5 W6 := Keeps.of_below _ hb56
                have HW6 := Kp.mk hW6
                have c25 : w5.cell? ⟨g, 2, none⟩ = some (.slice (some ⟨go, 0, none⟩) (j + 1) co) := (HX.out.below hbr).cell 2
                have c26 : W6.cell? ⟨g, 2, none⟩ = some (.slice (some ⟨go, 0, none⟩) (j + 1) co) := (HX.out.below hb6).cell 2
                have HBX : Kp (Box W6 w5.heap.size 35 #[.int .u64 9000, .slice A5 SL.length c5]) := ⟨by rw [← hW6]; exact Box.fresh _ _ _⟩
                have HOW : Kp (OwnMany 2 35 (OutF W6 w.heap.size) W6 w.heap.size (.slice (some ⟨go, 0, none⟩) (j + 1) co) (wOuts j)) := ⟨OwnMany.turn HO.out hk6 (by decide) (Nat.le_refl _) (fun cs d h => h.keeps hk6 (by decide))⟩
                have HIW : Kp (OwnMany 36 32 (InO W6 w.heap.size) W6 w.heap.size (.slice (some ⟨gi, 0, none⟩) (49 + 1) ci) (wIns L k 49)) := ⟨OwnMany.turn HI.out hk6 (by decide) (Nat.le_refl _) (fun cs d h => h.turn hk6 (by decide) (by decide) (Nat.le_refl _))⟩
                have HIN : Kp (OutF W6 w.heap.size [.int .u64 9000, .slice A5 SL.length c5] wOut) := ⟨⟨_, rfl, by decide, by rw [show wOut.script = SL from hSL]; exact hs5.keeps hk56 (by decide)⟩⟩
                have HXW := Kp.mk (HX.out.below hb6)
                have HBW : Kp (Below w.heap.size w W6) := ⟨HBJ.out.trans (hb6.mono HBJ.out.size)⟩
                have HGR : Kp (∀ w6, W6.grownBy w6 (Value.slice (some ⟨go, 0, none⟩) (j + 1) co).ownBlock → Below w.heap.size w w6) := ⟨fun w6 hg => HOW.out.grows HBW.out hg (Nat.le_refl _)⟩
                clear hv5 hb5 hbr hs5 hSL hW6 hb56 hb6 hk6 hk56
                refine hK.out _ _ ?_ (fun hHeld => ?_)
                · trivial
                clear hK K
                try simp only [Act.put, List.setIfInBounds_toArray, List.set_cons_zero, List.set_cons_succ]
                refine wpAnyH_take (i := 3) (oi := ⟨some 74, _, _, _, _, _⟩) (v := ?_) rfl (by kernel_rfl) (by kernel_rfl) (by kernel_rfl) (fun _ _ _ h => h) (Or.inl ⟨by rfl, ?_⟩) hHeld ?_
                rotate_left
                · (intro wx hSw; (try dsimp only at hSw); go_simp; try with_reducible rfl)
                try simp only [Act.put, List.setIfInBounds_toArray, List.set_cons_zero, List.set_cons_succ]
                refine wpAnyH_ready (rs := [4]) (by kernel_rfl) (by simp) (AllReadyH.cons (o := ⟨some 75, _, _, _, _, _⟩) rfl (fun K hK => ?_) AllReadyH.nil)
                go_simp
                rw [HW6.out]
                refine hK.out _ _ ?_ (fun hHeld => ?_)
                · trivial
                clear hK K
                try simp only [Act.put, List.setIfInBounds_toArray, List.set_cons_zero, List.set_cons_succ]
                refine wpAnyH_ready (rs := [5]) (by kernel_rfl) (by simp) (AllReadyH.cons (o := ⟨some 76, _, _, _, _, _⟩) rfl (fun K hK => ?_) AllReadyH.nil)
                refine wp_append_many (R := fun W => OutF W w.heap.size) (.tmp 72) (.tmp 75) 24 rfl w.heap.size i2 _ 32 Try.underlying24 HI2.out.1 HI2.out.2.1 HI2.out.2.2.1 HI2.out.2.2.2 (by rfl) (by decide) _ (wOuts j) rfl HOW.out w5.heap.size 1 [.int .u64 9000, .slice A5 SL.length c5] wOut rfl HBX.out rfl HIN.out (outF_one HIN.out) HNL.out (by decide) HBW.out.size [5, 29, 32, 26] (by decide) (fun w' cs d hk h => h.keeps hk (by decide)) ?_
                intro v8 w8 hm8 hg8 hk8
                rw [HSU.out] at hm8
                have HM8 := Kp.mk hm8
                have HK8 := Kp.mk hk8
                have HG8 := Kp.mk hg8
                obtain ⟨A8, c8, he8⟩ := hm8.slice
                rw [wOuts_len] at he8
                subst he8
                have hx8 := Keeps.box hk8 (by decide) HXW.out
                have f28 := hx8.warm 2
                have c28 := hx8.cell 2
                have HX8 := Kp.mk hx8
                clear hm8 hg8 hk8 hx8
                refine hK.out _ _ ?_ (fun hHeld => ?_)
                · trivial
                clear hK K
                try simp only [Act.put, List.setIfInBounds_toArray, List.set_cons_zero, List.set_cons_succ]
                refine wpAnyH_take (i := 6) (oi := ⟨some 77, _, _, _, _, _⟩) (v := ?_) rfl (by kernel_rfl) (by kernel_rfl) (by kernel_rfl) (fun _ _ _ h => h) (Or.inl ⟨by rfl, ?_⟩) hHeld ?_
                rotate_left
                · (intro wx hSw; (try dsimp only at hSw); go_simp; try with_reducible rfl)
                try simp only [Act.put, List.setIfInBounds_toArray, List.set_cons_zero, List.set_cons_succ]
                refine wpAnyH_ready (rs := [7]) (by kernel_rfl) (by simp) (AllReadyH.cons (o := ⟨none, _, _, _, _, _⟩) rfl (fun K hK => ?_) AllReadyH.nil)
                go_simp
                refine hK.out _ _ ?_ (fun hHeld => ?_)
                · trivial
                clear hK K
                try simp only [Act.put, List.setIfInBounds_toArray, List.set_cons_zero, List.set_cons_succ]
                refine wpAnyH_done (by kernel_rfl) ?_ _
                refine NoPanic.normal ?_
                go_wp2
                have hk9 : Keeps [5, 29, 32, 35] w8 (w8.setCell ⟨g, 2, none⟩ (.slice A8 (j + 1 + 1) c8)) := Keeps.of_set HX8.out (by decide) 2 _
                have hk69 : Keeps [5, 29, 32] W6 (w8.setCell ⟨g, 2, none⟩ (.slice A8 (j + 1 + 1) c8)) := (HK8.out.sub (by decide)).trans (hk9.sub (by decide))
                exact ⟨⟨j + 1, by have := HJS.out; omega, by go_num, ⟨TxV.ofW (HX8.out.set 2 _) (OwnMany.turn HIW.out hk69 (by decide) (Nat.le_refl _) (fun cs d h => InO.turn h hk69 (by decide) (by decide) (Nat.le_refl _))) (OwnMany.turn HM8.out hk9 (by decide) (Nat.le_refl _) (fun cs d h => OutF.keeps h hk9 (by decide))), (HGR.out w8 HG8.out).setCell HGG.out _⟩⟩, by simp [intOf]; have := HJS.out; omega⟩
              · go_simp
                go_at_call 14
                refine HSC.out.mono ?_
                rintro e w5 ⟨v5, rfl, hv5, hb5⟩
                have hbr : Below wr.heap.size wr w5 := ((Below.refl _ _).drew).trans hb5
                have hs5 : RbF w5 w.heap.size v5 (scriptOf 1) := hv5.less HBJ.out.size
                obtain ⟨SL, hSL⟩ : ∃ S, scriptOf 1 = S := ⟨_, rfl⟩
                rw [hSL] at hs5
                obtain ⟨A5, c5, rfl⟩ := hs5.slice5
                obtain ⟨W6, hW6⟩ : ∃ W6, w5.alloc (.cells #[.int .u64 9000, .slice A5 SL.length c5] 35) = W6 := ⟨_, rfl⟩
                have hb56 : Below w5.heap.size w5 W6 := by rw [← hW6]; exact (Below.refl _ _).alloc (Nat.le_refl _) _
                have hb6 : Below wr.heap.size wr W6 := hbr.trans (hb56.mono hbr.size)
                have hk6 : Keeps [5, 29, 32, 35, 26] wr W6 := Keeps.of_below _ hb6
                have hk56 : Keeps [5, 29, 32, 35, 26] w5 W6 := Keeps.of_below _ hb56
                have HW6 := Kp.mk hW6
                have c25 : w5.cell? ⟨g, 2, none⟩ = some (.slice (some ⟨go, 0, none⟩) (j + 1) co) := (HX.out.below hbr).cell 2
                have c26 : W6.cell? ⟨g, 2, none⟩ = some (.slice (some ⟨go, 0, none⟩) (j + 1) co) := (HX.out.below hb6).cell 2
                have HBX : Kp (Box W6 w5.heap.size 35 #[.int .u64 9000, .slice A5 SL.length c5]) := ⟨by rw [← hW6]; exact Box.fresh _ _ _⟩
                have HOW : Kp (OwnMany 2 35 (OutF W6 w.heap.size) W6 w.heap.size (.slice (some ⟨go, 0, none⟩) (j + 1) co) (wOuts j)) := ⟨OwnMany.turn HO.out hk6 (by decide) (Nat.le_refl _) (fun cs d h => h.keeps hk6 (by decide))⟩
                have HIW : Kp (OwnMany 36 32 (InO W6 w.heap.size) W6 w.heap.size (.slice (some ⟨gi, 0, none⟩) (49 + 1) ci) (wIns L k 49)) := ⟨OwnMany.turn HI.out hk6 (by decide) (Nat.le_refl _) (fun cs d h => h.turn hk6 (by decide) (by decide) (Nat.le_refl _))⟩
                have HIN : Kp (OutF W6 w.heap.size [.int .u64 9000, .slice A5 SL.length c5] wOut) := ⟨⟨_, rfl, by decide, by rw [show wOut.script = SL from hSL]; exact hs5.keeps hk56 (by decide)⟩⟩
                have HXW := Kp.mk (HX.out.below hb6)
                have HBW : Kp (Below w.heap.size w W6) := ⟨HBJ.out.trans (hb6.mono HBJ.out.size)⟩
                have HGR : Kp (∀ w6, W6.grownBy w6 (Value.slice (some ⟨go, 0, none⟩) (j + 1) co).ownBlock → Below w.heap.size w w6) := ⟨fun w6 hg => HOW.out.grows HBW.out hg (Nat.le_refl _)⟩
                clear hv5 hb5 hbr hs5 hSL hW6 hb56 hb6 hk6 hk56
                refine hK.out _ _ ?_ (fun hHeld => ?_)
                · trivial
                clear hK K
                try simp only [Act.put, List.setIfInBounds_toArray, List.set_cons_zero, List.set_cons_succ]
                refine wpAnyH_take (i := 3) (oi := ⟨some 74, _, _, _, _, _⟩) (v := ?_) rfl (by kernel_rfl) (by kernel_rfl) (by kernel_rfl) (fun _ _ _ h => h) (Or.inl ⟨by rfl, ?_⟩) hHeld ?_
                rotate_left
                · (intro wx hSw; (try dsimp only at hSw); go_simp; try with_reducible rfl)
                try simp only [Act.put, List.setIfInBounds_toArray, List.set_cons_zero, List.set_cons_succ]
                refine wpAnyH_ready (rs := [1, 4]) (by kernel_rfl) (by simp) (AllReadyH.cons (o := ⟨some 72, _, _, _, _, _⟩) rfl (fun K hK => ?_) (AllReadyH.cons (o := ⟨some 75, _, _, _, _, _⟩) rfl (fun K hK => ?_) AllReadyH.nil))
                · go_simp
                  refine hK.out _ _ ?_ (fun hHeld => ?_)
                  · trivial
                  clear hK K
                  try simp only [Act.put, List.setIfInBounds_toArray, List.set_cons_zero, List.set_cons_succ]
                  refine wpAnyH_ready (rs := [4]) (by kernel_rfl) (by simp) (AllReadyH.cons (o := ⟨some 75, _, _, _, _, _⟩) rfl (fun K hK => ?_) AllReadyH.nil)
                  go_simp
                  rw [HW6.out]
                  refine hK.out _ _ ?_ (fun hHeld => ?_)
                  · trivial
                  clear hK K
                  try simp only [Act.put, List.setIfInBounds_toArray, List.set_cons_zero, List.set_cons_succ]
                  refine wpAnyH_ready (rs := [5]) (by kernel_rfl) (by simp) (AllReadyH.cons (o := ⟨some 76, _, _, _, _, _⟩) rfl (fun K hK => ?_) AllReadyH.nil)
                  refine wp_append_many (R := fun W => OutF W w.heap.size) (.tmp 72) (.tmp 75) 24 rfl w.heap.size i2 _ 32 Try.underlying24 HI2.out.1 HI2.out.2.1 HI2.out.2.2.1 HI2.out.2.2.2 (by rfl) (by decide) _ (wOuts j) rfl HOW.out w5.heap.size 1 [.int .u64 9000, .slice A5 SL.length c5] wOut rfl HBX.out rfl HIN.out (outF_one HIN.out) HNL.out (by decide) HBW.out.size [5, 29, 32, 26] (by decide) (fun w' cs d hk h => h.keeps hk (by decide)) ?_
                  intro v8 w8 hm8 hg8 hk8
                  rw [HSU.out] at hm8
                  have HM8 := Kp.mk hm8
                  have HK8 := Kp.mk hk8
                  have HG8 := Kp.mk hg8
                  obtain ⟨A8, c8, he8⟩ := hm8.slice
                  rw [wOuts_len] at he8
                  subst he8
                  have hx8 := Keeps.box hk8 (by decide) HXW.out
                  have f28 := hx8.warm 2
                  have c28 := hx8.cell 2
                  have HX8 := Kp.mk hx8
                  clear hm8 hg8 hk8 hx8
                  refine hK.out _ _ ?_ (fun hHeld => ?_)
                  · trivial
                  clear hK K
                  try simp only [Act.put, List.setIfInBounds_toArray, List.set_cons_zero, List.set_cons_succ]
                  refine wpAnyH_take (i := 6) (oi := ⟨some 77, _, _, _, _, _⟩) (v := ?_) rfl (by kernel_rfl) (by kernel_rfl) (by kernel_rfl) (fun _ _ _ h => h) (Or.inl ⟨by rfl, ?_⟩) hHeld ?_
                  rotate_left
                  · (intro wx hSw; (try dsimp only at hSw); go_simp; try with_reducible rfl)
                  try simp only [Act.put, List.setIfInBounds_toArray, List.set_cons_zero, List.set_cons_succ]
                  refine wpAnyH_ready (rs := [7]) (by kernel_rfl) (by simp) (AllReadyH.cons (o := ⟨none, _, _, _, _, _⟩) rfl (fun K hK => ?_) AllReadyH.nil)
                  go_simp
                  refine hK.out _ _ ?_ (fun hHeld => ?_)
                  · trivial
                  clear hK K
                  try simp only [Act.put, List.setIfInBounds_toArray, List.set_cons_zero, List.set_cons_succ]
                  refine wpAnyH_done (by kernel_rfl) ?_ _
                  refine NoPanic.normal ?_
                  go_wp2
                  have hk9 : Keeps [5, 29, 32, 35] w8 (w8.setCell ⟨g, 2, none⟩ (.slice A8 (j + 1 + 1) c8)) := Keeps.of_set HX8.out (by decide) 2 _
                  have hk69 : Keeps [5, 29, 32] W6 (w8.setCell ⟨g, 2, none⟩ (.slice A8 (j + 1 + 1) c8)) := (HK8.out.sub (by decide)).trans (hk9.sub (by decide))
                  exact ⟨⟨j + 1, by have := HJS.out; omega, by go_num, ⟨TxV.ofW (HX8.out.set 2 _) (OwnMany.turn HIW.out hk69 (by decide) (Nat.le_refl _) (fun cs d h => InO.turn h hk69 (by decide) (by decide) (Nat.le_refl _))) (OwnMany.turn HM8.out hk9 (by decide) (Nat.le_refl _) (fun cs d h => OutF.keeps h hk9 (by decide))), (HGR.out w8 HG8.out).setCell HGG.out _⟩⟩, by simp [intOf]; have := HJS.out; omega⟩
                · go_simp
                  rw [HW6.out]
                  refine hK.out _ _ ?_ (fun hHeld => ?_)
                  · trivial
                  clear hK K
                  try simp only [Act.put, List.setIfInBounds_toArray, List.set_cons_zero, List.set_cons_succ]
                  refine wpAnyH_ready (rs := [1]) (by kernel_rfl) (by simp) (AllReadyH.cons (o := ⟨some 72, _, _, _, _, _⟩) rfl (fun K hK => ?_) AllReadyH.nil)
                  go_simp
                  refine hK.out _ _ ?_ (fun hHeld => ?_)
                  · trivial
                  clear hK K
                  try simp only [Act.put, List.setIfInBounds_toArray, List.set_cons_zero, List.set_cons_succ]
                  refine wpAnyH_ready (rs := [5]) (by kernel_rfl) (by simp) (AllReadyH.cons (o := ⟨some 76, _, _, _, _, _⟩) rfl (fun K hK => ?_) AllReadyH.nil)
                  refine wp_append_many (R := fun W => OutF W w.heap.size) (.tmp 72) (.tmp 75) 24 rfl w.heap.size i2 _ 32 Try.underlying24 HI2.out.1 HI2.out.2.1 HI2.out.2.2.1 HI2.out.2.2.2 (by rfl) (by decide) _ (wOuts j) rfl HOW.out w5.heap.size 1 [.int .u64 9000, .slice A5 SL.length c5] wOut rfl HBX.out rfl HIN.out (outF_one HIN.out) HNL.out (by decide) HBW.out.size [5, 29, 32, 26] (by decide) (fun w' cs d hk h => h.keeps hk (by decide)) ?_
                  intro v8 w8 hm8 hg8 hk8
                  rw [HSU.out] at hm8
                  have HM8 := Kp.mk hm8
                  have HK8 := Kp.mk hk8
                  have HG8 := Kp.mk hg8
                  obtain ⟨A8, c8, he8⟩ := hm8.slice
                  rw [wOuts_len] at he8
                  subst he8
                  have hx8 := Keeps.box hk8 (by decide) HXW.out
                  have f28 := hx8.warm 2
                  have c28 := hx8.cell 2
                  have HX8 := Kp.mk hx8
                  clear hm8 hg8 hk8 hx8
                  refine hK.out _ _ ?_ (fun hHeld => ?_)
                  · trivial
                  clear hK K
                  try simp only [Act.put, List.setIfInBounds_toArray, List.set_cons_zero, List.set_cons_succ]
                  refine wpAnyH_take (i := 6) (oi := ⟨some 77, _, _, _, _, _⟩) (v := ?_) rfl (by kernel_rfl) (by kernel_rfl) (by kernel_rfl) (fun _ _ _ h => h) (Or.inl ⟨by rfl, ?_⟩) hHeld ?_
                  rotate_left
                  · (intro wx hSw; (try dsimp only at hSw); go_simp; try with_reducible rfl)
                  try simp only [Act.put, List.setIfInBounds_toArray, List.set_cons_zero, List.set_cons_succ]
                  refine wpAnyH_ready (rs := [7]) (by kernel_rfl) (by simp) (AllReadyH.cons (o := ⟨none, _, _, _, _, _⟩) rfl (fun K hK => ?_) AllReadyH.nil)
                  go_simp
                  refine hK.out _ _ ?_ (fun hHeld => ?_)
                  · trivial
                  clear hK K
                  try simp only [Act.put, List.setIfInBounds_toArray, List.set_cons_zero, List.set_cons_succ]
                  refine wpAnyH_done (by kernel_rfl) ?_ _
                  refine NoPanic.normal ?_
                  go_wp2
                  have hk9 : Keeps [5, 29, 32, 35] w8 (w8.setCell ⟨g, 2, none⟩ (.slice A8 (j + 1 + 1) c8)) := Keeps.of_set HX8.out (by decide) 2 _
                  have hk69 : Keeps [5, 29, 32] W6 (w8.setCell ⟨g, 2, none⟩ (.slice A8 (j + 1 + 1) c8)) := (HK8.out.sub (by decide)).trans (hk9.sub (by decide))
                  exact ⟨⟨j + 1, by have := HJS.out; omega, by go_num, ⟨TxV.ofW (HX8.out.set 2 _) (OwnMany.turn HIW.out hk69 (by decide) (Nat.le_refl _) (fun cs d h => InO.turn h hk69 (by decide) (by decide) (Nat.le_refl _))) (OwnMany.turn HM8.out hk9 (by decide) (Nat.le_refl _) (fun cs d h => OutF.keeps h hk9 (by decide))), (HGR.out w8 HG8.out).setCell HGG.out _⟩⟩, by simp [intOf]; have := HJS.out; omega⟩
            · obtain rfl : j = s := by omega
              have HCW := Kp.mk (code_weight (L := L) (k := k) (n := 49) (j := j) (by have := HLV.out; omega) HQ1.out (Nat.le_refl _) HS1.out)
              obtain ⟨a0, a1, a2, a3, hx9, hr9⟩ := TxV.txR HJ.out.1
              have HX9 := Kp.mk hx9
              have HR9 := Kp.mk hr9
              have HBJ := Kp.mk HJ.out.2
              have HIT : Kp ((Try.prog.info? 26).map (·.size) = some 4) := ⟨by kernel_rfl⟩
              have HWT := Kp.mk (refWeight_any wr _ _ hr9)
              generalize wT L k 49 j = X at *
              clear hx9 hr9 hjs HJ
              go_wp2_with (first | (refine wpList_load_row rfl 26 (.tmp 7) rfl g rfl 26 _ (0, 0) _ HX9.out Try.underlying26 rfl HIT.out ?_))
              refine HWT.out.mono ?_
              rintro e w7 ⟨rfl, hb7⟩
              have HX7 : Kp (w7.heap[g]? = some (.cells #[a0, a1, a2, a3] 26 (0, 0))) := ⟨HX9.out.below hb7⟩
              have HK7 := Kp.mk (scheck_any w7 _ X (HR9.out.below hb7))
              have HB7 := Kp.mk (HBJ.out.trans (hb7.mono HBJ.out.size))
              clear hb7
              by_cases hw : 80000 < weightOf X
              · rw [HCW.out, if_pos hw] at HK7
                have hw1 : (80000 : Int) < (weightOf X : Int) := by omega
                generalize weightOf X = wx at *
                go_wp2_with (first | (refine wpList_load_row rfl 26 (.tmp 7) rfl g rfl 26 _ (0, 0) _ HX7.out Try.underlying26 rfl HIT.out ?_))
                refine HK7.out.mono ?_
                rintro e w11 ⟨rfl, hb11⟩
                have HB11 := Kp.mk (HB7.out.trans (hb11.mono HB7.out.size))
                clear hb11
                go_wp2_with fail
                refine (awake8_any _).mono ?_
                rintro e w12 ⟨rfl, hb12⟩
                go_wp2
                go_ret
                exact ⟨rfl, HB11.out.trans (hb12.mono HB11.out.size)⟩
              · rw [HCW.out, if_neg hw] at HK7
                have hw1 : ((80000 : Int) < (weightOf X : Int)) = False := eq_false (by omega)
                have hw2 : (80000 < weightOf X) = False := eq_false hw
                generalize weightOf X = wx at *
                go_wp2_with (first | (refine wpList_load_row rfl 26 (.tmp 7) rfl g rfl 26 _ (0, 0) _ HX7.out Try.underlying26 rfl HIT.out ?_))
                refine HK7.out.mono ?_
                rintro e w11 ⟨rfl, hb11⟩
                have HB11 := Kp.mk (HB7.out.trans (hb11.mono HB7.out.size))
                clear hb11
                go_wp2_with fail
                refine (awake8_any _).mono ?_
                rintro e w12 ⟨rfl, hb12⟩
                go_wp2
                go_ret
                exact ⟨rfl, HB11.out.trans (hb12.mono HB11.out.size)⟩

set_option maxRecDepth 100000 in
theorem lifted (os : Os) (started : os.Started) (H : Type) (enc : TypeId × Value → H) :
    ReturnsInHanded {} Try.checked os 4 .any (Rows.statWeightSpec.pre6 enc Try.prog Try.f4 Rows.statWeightRow.domain false) (Rows.statWeightSpec.post enc Try.prog Try.f4 false true false false) := by
  refine returnsInHanded_of_change (C := Try.checked) ownKnobNone started (by kernel_rfl) Try.func4
    (ChangeSpec.witness6 (enc := enc) (C := Try.checked) false ⟨#[], #[.int .i64 0, .int .i64 0, .int .i64 0], []⟩ 8 (by kernel_rfl) (by kernel_rfl) (by kernel_rfl) (by kernel_rfl)) ?_
  intro W base args ds gs before hval0 hW _ _
  have hval : ∀ (j : Nat) t v, Try.f4.params[j]? = some t → args[j]? = some v → Value.okWide Try.prog W .any base t v := hval0
  have hW' := hW
  obtain ⟨p, q, hA0, hV, rfl, _, _⟩ := hW
  have hA : DataW.TrodAll enc Try.prog W 0 (fun _ => true) true Try.f4.params.toList args.toList ds p := hA0
  rw [Try.params4] at hA hval
  obtain ⟨v0, vs0, d0, ds0, p0, q0, hargs, rfl, rfl, h0, r0⟩ := trodAll_cons hA
  obtain ⟨v1, vs1, d1, ds1, p1, q1, rfl, rfl, rfl, h1, r1⟩ := trodAll_cons r0
  obtain ⟨v2, vs2, d2, ds2, p2, q2, rfl, rfl, rfl, h2, r2⟩ := trodAll_cons r1
  obtain ⟨rfl, rfl, rfl⟩ := trodAll_nil r2
  obtain rfl : args = #[v0, v1, v2] := by cases args; simp_all
  obtain ⟨rfl, rfl⟩ := trodVars_none hV
  obtain ⟨a0, rfl, rfl, rfl, w0⟩ := open_int Try.underlying3 (hval 0 3 v0 rfl rfl) h0
  have b0 := bd_i64 w0
  obtain ⟨a1, rfl, rfl, rfl, w1⟩ := open_int Try.underlying3 (hval 1 3 v1 rfl rfl) h1
  have b1 := bd_i64 w1
  obtain ⟨a2, rfl, rfl, rfl, w2⟩ := open_int Try.underlying3 (hval 2 3 v2 rfl rfl) h2
  have b2 := bd_i64 w2
  clear hA0 hval0
  refine (walk a0 a1 a2 W).mono fun e W' ⟨he, hb⟩ => ?_
  subst he
  exact ⟨_, rfl, law_post hW' rfl rfl (by kernel_rfl) rfl hb⟩

set_option maxRecDepth 100000 in
theorem over : Rows.statWeightRow.holds Try.pinned (OpenSpec.ofChange Rows.statWeightSpec) :=
  OpenClaim.holds_of_wide 4 Try.f4 rfl rfl rfl rfl rfl rfl rfl ⟨rfl, rfl, rfl, rfl, rfl⟩ rfl rfl rfl rfl rfl (by kernel_rfl) Try.func4 (by kernel_rfl)
    (of_decide_eq_true (by kernel_rfl)) (by unfold Func.isWrapper; first | (rw [if_pos (by decide +kernel)]; kernel_rfl) | (rw [if_neg (by decide +kernel)]; exact ⟨rfl, rfl⟩))
    (fun os started H enc _ => lifted os started H enc)

/-- The statement. -/
theorem proved : Rows.StatWeightSaid :=
  over
end Go.Proofs.Ytmhdlidplbfkkaa.lawSw
