/- What is read of bytes is one's own, and so are the bytes that are told: turned, neither turns the other: for every two ints, the law TxnsOwn returns true and leaves its arguments as they were. No further condition. -/
import Derived.Test.YthkjhfdafjlllaaAwC
import Derived.Test.YthkjhfdafjlllaaSmB
import Derived.Test.YthkjhfdafjlllaaOwA
import Derived.Test.YthkjhfdafjlllaaClose
namespace Go.Proofs.Ythkjhfdafjlllaa.lawOwn
open Go.ChangeShapes Go.WideShapes Go.ChangeAt Go.RowKit

set_option linter.unusedSimpArgs false in
set_option maxRecDepth 1000000 in
set_option maxHeartbeats 8000000 in
theorem walk (n m : Int) (hn : -9223372036854775808 ≤ n ∧ n ≤ 9223372036854775807) (hm : -9223372036854775808 ≤ m ∧ m ≤ 9223372036854775807) (w : World) : Calls Try.prog 4 #[.int .i64 n, .int .i64 m] w (YesPost w) := by
  have HTX : Kp (∀ W : World, Calls Try.prog 15 #[.int .i64 n, .int .i64 m] W (TxP (txOf n m) W)) := ⟨fun W => lawTx_any W n m hn hm⟩
  have HBO : Kp (∀ (W : World) (v : Value), TxR W v (txOf n m) → Calls Try.prog 10 #[v] W (App W.heap.size (bytesOf (txOf n m)) W)) := ⟨fun W v h => bytes_any W v _ h⟩
  have HPA : Kp (∀ (W : World) (v : Value), Rb W v (bytesOf (txOf n m)) → Calls Try.prog 11 #[v] W (ParP (txOf n m, true) W)) := ⟨fun W v h => by
    rw [← txOf_parse n m]
    exact parse_any W v _ h (by have := txOf_len n m; omega)⟩
  have HLEN := Kp.mk (txOf_len n m)
  have HPOS := Kp.mk (txOf_pos n m)
  have HBY := Kp.mk (bytesOf_bys (txOf_bys n m))
  have HI0 : Kp (0 < (txOf n m).ins.length ∧ (txOf n m).ins.length ≤ 4) := ⟨by have := txOf_lens n m; omega, by have := txOf_lens n m; omega⟩
  have HI5 := Kp.mk (txOf_may n m).isc
  have HAW : Kp (∀ W : World, Calls Try.prog 14 #[] W (YesPost W)) := ⟨awake3_any⟩
  generalize txOf n m = T at *
  generalize bytesOf T = L at *
  clear hn hm
  go_enter Try.func4, Try.ntmps4
  go_wp2_with fail
  refine (HTX.out w).mono ?_
  rintro e w1 ⟨v1, rfl, hT1, hb1⟩
  obtain ⟨iv, ov, rfl, _, _, hi1, ho1⟩ := id hT1
  obtain ⟨Ai, ci, rfl⟩ := hi1.slice
  obtain ⟨Ao, co, rfl⟩ := ho1.slice
  have hR1 := hT1.txR
  have hba : Below w1.heap.size w1 (w1.alloc (.cells #[.int .u32 T.version, .slice Ai T.ins.length ci, .slice Ao T.outs.length co, .int .u32 T.lock] 26)) := (Below.refl _ _).alloc (Nat.le_refl _) _
  have HR2 := Kp.mk (hR1.below hba)
  have HB2 : Kp (Below w.heap.size w (w1.alloc (.cells #[.int .u32 T.version, .slice Ai T.ins.length ci, .slice Ao T.outs.length co, .int .u32 T.lock] 26))) := ⟨hb1.trans (hba.mono hb1.size)⟩
  have HC : Kp (∀ W, Below (w1.heap.size + 1) (w1.alloc (.cells #[.int .u32 T.version, .slice Ai T.ins.length ci, .slice Ao T.outs.length co, .int .u32 T.lock] 26)) W → W.cell? ⟨w1.heap.size, 0, none⟩ = some (.int .u32 T.version) ∧ W.cell? ⟨w1.heap.size, 1, none⟩ = some (.slice Ai T.ins.length ci) ∧ W.cell? ⟨w1.heap.size, 2, none⟩ = some (.slice Ao T.outs.length co) ∧ W.cell? ⟨w1.heap.size, 3, none⟩ = some (.int .u32 T.lock)) := ⟨fun W hb => ⟨cell_new hb 0 _ rfl, cell_new hb 1 _ rfl, cell_new hb 2 _ rfl, cell_new hb 3 _ rfl⟩⟩
  have HKR : Kp (∀ W, Below (w1.heap.size + 1) (w1.alloc (.cells #[.int .u32 T.version, .slice Ai T.ins.length ci, .slice Ao T.outs.length co, .int .u32 T.lock] 26)) W → TxR W (.agg #[.int .u32 T.version, .slice Ai T.ins.length ci, .slice Ao T.outs.length co, .int .u32 T.lock]) T) := ⟨fun W hb => HR2.out.below (by rw [alloc_size]; exact hb)⟩
  have HBY2 := Kp.mk (HBO.out _ _ HR2.out)
  clear hT1 hb1 hi1 ho1 hR1 hba
  go_wp2_with fail
  refine HBY2.out.mono ?_
  rintro e w3 ⟨v3, rfl, ho3, hg3⟩
  have HB3 : Kp (Below (w1.heap.size + 1) (w1.alloc (.cells #[.int .u32 T.version, .slice Ai T.ins.length ci, .slice Ao T.outs.length co, .int .u32 T.lock] 26)) w3) := ⟨by rw [← alloc_size]; exact hg3.low⟩
  obtain ⟨g, c3, rfl, hgb, hgl, hLc, hB⟩ := ho3.boxB (by have := HPOS.out; omega)
  have hcv3 := run_str ho3.any
  obtain ⟨S, hS⟩ : ∃ S, strOfNums L = S := ⟨_, rfl⟩
  rw [hS] at hcv3
  have HS := Kp.mk hS
  have HPA3 := Kp.mk (HPA.out w3 _ (ho3.rb HBY.out))
  have HG : Kp (w1.heap.size + 1 ≤ g ∧ g < w3.heap.size) := ⟨by rw [alloc_size] at hgb; exact hgb, hgl⟩
  have HBB := Kp.mk hB
  clear ho3 hg3 hgb hgl hB hS HBY2 HR2
  go_wp2_with fail
  refine HPA3.out.mono ?_
  rintro e w4 ⟨v4, rfl, hb4, hT4⟩
  obtain ⟨iv4, ov4, rfl, _, _, hi4, hv4⟩ := id hT4
  obtain ⟨gi, ci4, C4, rfl, hic4, hgi3, hgi4, hins⟩ := hi4.insB HI0.out.1 HI5.out
  obtain ⟨Ao4, co4, rfl⟩ := hv4.slice
  have HX4 : Kp (Box (w4.alloc (.cells #[.int .u32 T.version, .slice (some ⟨gi, 0, none⟩) T.ins.length ci4, .slice Ao4 T.outs.length co4, .int .u32 T.lock] 26)) w4.heap.size 26 #[.int .u32 T.version, .slice (some ⟨gi, 0, none⟩) T.ins.length ci4, .slice Ao4 T.outs.length co4, .int .u32 T.lock]) := ⟨Box.fresh _ _ _⟩
  have hba4 : Below w4.heap.size w4 (w4.alloc (.cells #[.int .u32 T.version, .slice (some ⟨gi, 0, none⟩) T.ins.length ci4, .slice Ao4 T.outs.length co4, .int .u32 T.lock] 26)) := (Below.refl _ _).alloc (Nat.le_refl _) _
  have HIB : Kp (InsB (w4.alloc (.cells #[.int .u32 T.version, .slice (some ⟨gi, 0, none⟩) T.ins.length ci4, .slice Ao4 T.outs.length co4, .int .u32 T.lock] 26)) w3.heap.size gi T.ins.length C4) := ⟨by
    refine ⟨hins.1.below hba4, fun i hi => ?_⟩
    obtain ⟨v, hv, A, n, c, rfl, hc, h5, h0⟩ := hins.2 i hi
    refine ⟨_, hv, A, n, c, rfl, hc, h5, fun hp => ?_⟩
    obtain ⟨q, rfl, hq, cur, hx, hk⟩ := h0 hp
    exact ⟨q, rfl, hq, cur, hx.below hba4, hk⟩⟩
  have HTO4 := Kp.mk (hT4.high (High.below hba4))
  have HBB4 : Kp (BoxB (w4.alloc (.cells #[.int .u32 T.version, .slice (some ⟨gi, 0, none⟩) T.ins.length ci4, .slice Ao4 T.outs.length co4, .int .u32 T.lock] 26)) g L.length) := ⟨by
    obtain ⟨cur, hx, hk⟩ := HBB.out
    exact ⟨cur, (hx.below hb4).below hba4, hk⟩⟩
  have HB4 : Kp (Below w3.heap.size w3 (w4.alloc (.cells #[.int .u32 T.version, .slice (some ⟨gi, 0, none⟩) T.ins.length ci4, .slice Ao4 T.outs.length co4, .int .u32 T.lock] 26))) := ⟨hb4.trans (hba4.mono hb4.size)⟩
  have HGI : Kp (w3.heap.size ≤ gi ∧ gi < w4.heap.size ∧ w3.heap.size ≤ w4.heap.size) := ⟨hgi3, hgi4, hb4.size⟩
  have HL4 : Kp (∀ W : World, Only g (w4.alloc (.cells #[.int .u32 T.version, .slice (some ⟨gi, 0, none⟩) T.ins.length ci4, .slice Ao4 T.outs.length co4, .int .u32 T.lock] 26)) W → TxO W w3.heap.size (.agg #[.int .u32 T.version, .slice (some ⟨gi, 0, none⟩) T.ins.length ci4, .slice Ao4 T.outs.length co4, .int .u32 T.lock]) T ∧ Box W w4.heap.size 26 #[.int .u32 T.version, .slice (some ⟨gi, 0, none⟩) T.ins.length ci4, .slice Ao4 T.outs.length co4, .int .u32 T.lock] ∧ InsB W w3.heap.size gi T.ins.length C4 ∧ Below (w1.heap.size + 1) (w1.alloc (.cells #[.int .u32 T.version, .slice Ai T.ins.length ci, .slice Ao T.outs.length co, .int .u32 T.lock] 26)) W) := ⟨fun W hW => by
    have hh : High w3.heap.size (w4.alloc (.cells #[.int .u32 T.version, .slice (some ⟨gi, 0, none⟩) T.ins.length ci4, .slice Ao4 T.outs.length co4, .int .u32 T.lock] 26)) W := High.only hW HG.out.2
    refine ⟨HTO4.out.high hh, HX4.out.keep hW (by have := HG.out; have := HGI.out; omega), ?_, ?_⟩
    · refine ⟨(hh.2 gi HGI.out.1 (by rw [alloc_size]; have := HGI.out; omega)).trans HIB.out.1, fun i hi => ?_⟩
      obtain ⟨v, hv, A, n, c, rfl, hc, h5, h0⟩ := HIB.out.2 i hi
      refine ⟨_, hv, A, n, c, rfl, hc, h5, fun hp => ?_⟩
      obtain ⟨q, rfl, hq, cur, hx, hk⟩ := h0 hp
      exact ⟨q, rfl, hq, cur, (hh.2 q hq hx.lt).trans hx, hk⟩
    · have h13 := HB3.out
      have hz := h13.size
      rw [alloc_size] at hz
      exact h13.trans ((HB4.out.mono hz).trans ((Only.below (w0 := w1.alloc (.cells #[.int .u32 T.version, .slice Ai T.ins.length ci, .slice Ao T.outs.length co, .int .u32 T.lock] 26)) (Below.refl _ _) (Only.refl _ _) (by rw [alloc_size]; exact HG.out.1)).mono (by rw [alloc_size]; exact Nat.le_refl _) |> fun _ => ⟨hW.os, hW.tape, hW.output, hW.size, fun k hk => hW.block k (by rw [alloc_size]; have := HGI.out; omega) (by simp; have := HG.out; omega)⟩))⟩
  clear hins hi4 hv4 hT4 hb4 hba4 hgi3 hgi4 HIB HTO4 HBB HX4 HPA3
  obtain ⟨W4, hW4⟩ : ∃ W4, w4.alloc (.cells #[.int .u32 T.version, .slice (some ⟨gi, 0, none⟩) T.ins.length ci4, .slice Ao4 T.outs.length co4, .int .u32 T.lock] 26) = W4 := ⟨_, rfl⟩
  rw [hW4] at HL4 HBB4 HB4
  have HW4 := Kp.mk hW4
  have hlen4 : L.length ≤ 400000 := HLEN.out
  go_wp2_with fail
  try rw [hW4]
  clear hW4
  go_loopw [10, 28] (fun _ i wr => ∃ k : Nat, k ≤ L.length ∧ i = .int .i64 k ∧ Kp (Only g W4 wr ∧ BoxB wr g L.length)) (fun _ i _ => L.length - (intOf i).toNat)
  case atStart => exact ⟨0, Nat.zero_le _, rfl, ⟨Only.refl _ _, HBB4.out⟩⟩
  case round =>
    obtain ⟨k, hk, rfl, ⟨ho, hb⟩⟩ := hrel
    by_cases hkl : k < L.length
    · obtain ⟨x, hx, hf⟩ := hb.at hkl
      have hkl' : (k : Int) < (L.length : Int) := by omega
      have HK : Kp (k < L.length) := ⟨hkl⟩
      have HEND : Kp (∀ y : Int, Only g W4 (wr.setCell ⟨g, k, none⟩ (.int .u8 y)) ∧ BoxB (wr.setCell ⟨g, k, none⟩ (.int .u8 y)) g L.length) := ⟨fun y => ⟨ho.set k _, hb.poke hb k y⟩⟩
      clear ho hb hk hkl
      go_wp2
      exact ⟨⟨k + 1, by have := HK.out; omega, by go_num, ⟨HEND.out _⟩⟩, by simp [intOf]; have := HK.out; omega⟩
    · obtain rfl : k = L.length := by omega
      obtain ⟨hTO, hX8, hIB, hBL⟩ := HL4.out wr ho
      obtain ⟨c0, c1, c2, c3'⟩ := HC.out wr hBL
      have d0 := hX8.cell 0
      have d1 := hX8.cell 1
      have d2 := hX8.cell 2
      have d3 := hX8.cell 3
      have HSM := Kp.mk (refSame_any wr _ _ T T hTO.txR (HKR.out wr hBL))
      have hd : decide (T = T) = true := by simp
      rw [hd] at HSM
      have HIB := Kp.mk hIB
      have HX8 := Kp.mk hX8
      have HBL := Kp.mk hBL
      clear hTO hX8 hIB hBL ho hb hk hkl hd HL4 HBB4
      go_wp2_with fail
      refine HSM.out.mono ?_
      rintro e w6 ⟨rfl, hb6⟩
      have hins6 : InsB w6 w3.heap.size gi T.ins.length C4 := ⟨HIB.out.1.below hb6, fun i hi => by
        obtain ⟨v, hv, A, n, c, rfl, hc, h5, h0⟩ := HIB.out.2 i hi
        refine ⟨_, hv, A, n, c, rfl, hc, h5, fun hp => ?_⟩
        obtain ⟨q, rfl, hq, cur, hx, hk⟩ := h0 hp
        exact ⟨q, rfl, hq, cur, hx.below hb6, hk⟩⟩
      have h16 : w1.heap.size + 1 ≤ wr.heap.size := by have := HBL.out.size; rw [alloc_size] at this; exact this
      have HI6 : Kp (InsB w6 w3.heap.size gi T.ins.length C4 ∧ Box w6 w4.heap.size 26 #[.int .u32 T.version, .slice (some ⟨gi, 0, none⟩) T.ins.length ci4, .slice Ao4 T.outs.length co4, .int .u32 T.lock] ∧ Below (w1.heap.size + 1) (w1.alloc (.cells #[.int .u32 T.version, .slice Ai T.ins.length ci, .slice Ao T.outs.length co, .int .u32 T.lock] 26)) w6) := ⟨hins6, HX8.out.below hb6, HBL.out.trans (hb6.mono h16)⟩
      have e1 := HI6.out.2.1.cell 1
      have hni : T.ins.length ≤ 4 := HI0.out.2
      clear hins6 h16 hb6 HSM c0 c1 c2 c3' d0 d1 d2 d3
      go_wp2
      go_loopw [49] (fun i wr => ∃ j : Nat, j ≤ T.ins.length ∧ i = .int .i64 j ∧ Kp (InsB wr w3.heap.size gi T.ins.length C4 ∧ Box wr w4.heap.size 26 #[.int .u32 T.version, .slice (some ⟨gi, 0, none⟩) T.ins.length ci4, .slice Ao4 T.outs.length co4, .int .u32 T.lock] ∧ Below (w1.heap.size + 1) (w1.alloc (.cells #[.int .u32 T.version, .slice Ai T.ins.length ci, .slice Ao T.outs.length co, .int .u32 T.lock] 26)) wr)) (fun i _ => T.ins.length - (intOf i).toNat)
      case atStart => exact ⟨0, Nat.zero_le _, rfl, HI6⟩
      case round =>
        obtain ⟨j, hj, rfl, ⟨hins, hx8, hbl⟩⟩ := hrel
        clear e1
        have e1 := hx8.cell 1
        by_cases hjl : j < T.ins.length
        · obtain ⟨v, hv, A, q, c, rfl, hc, h5, _⟩ := hins.2 j hjl
          have e2 : wr.cell? ⟨gi, j * 36 + 33, none⟩ = some (.slice A q c) := (hins.1.cell _).trans hv
          have hjl' : (j : Int) < (T.ins.length : Int) := by omega
          have HJ : Kp (j < T.ins.length) := ⟨hjl⟩
          have HV := Kp.mk hv
          have HI := Kp.mk (And.intro hins (And.intro hx8 hbl))
          clear hins hx8 hbl hjl hj hv
          go_wp2
          go_loopw [59] (fun i wr => ∃ k : Nat, k ≤ q ∧ i = .int .i64 k ∧ Kp (InsB wr w3.heap.size gi T.ins.length C4 ∧ Box wr w4.heap.size 26 #[.int .u32 T.version, .slice (some ⟨gi, 0, none⟩) T.ins.length ci4, .slice Ao4 T.outs.length co4, .int .u32 T.lock] ∧ Below (w1.heap.size + 1) (w1.alloc (.cells #[.int .u32 T.version, .slice Ai T.ins.length ci, .slice Ao T.outs.length co, .int .u32 T.lock] 26)) wr)) (fun i _ => q - (intOf i).toNat)
          case atStart => exact ⟨0, Nat.zero_le _, rfl, HI⟩
          case round =>
            obtain ⟨k, hk, rfl, ⟨hins, hx8, hbl⟩⟩ := hrel
            clear e1 e2
            have e1 := hx8.cell 1
            have e2 : wr.cell? ⟨gi, j * 36 + 33, none⟩ = some (.slice A q c) := (hins.1.cell _).trans HV.out
            by_cases hkl : k < q
            · obtain ⟨v2, hv2, A2, q2, c2, hv3, _, _, h0⟩ := hins.2 j HJ.out
              rw [HV.out] at hv2
              injection hv2 with hv2
              rw [← hv2] at hv3
              injection hv3 with hA hq hc2
              subst hA
              subst hq
              obtain ⟨gs, rfl, hgs, hbs⟩ := h0 (by omega)
              obtain ⟨x, hx, hf⟩ := hbs.at hkl
              have hkl' : (k : Int) < (q : Int) := by omega
              have HK : Kp (k < q) := ⟨hkl⟩
              have HEND : Kp (∀ y : Int, InsB (wr.setCell ⟨gs, k, none⟩ (.int .u8 y)) w3.heap.size gi T.ins.length C4 ∧ Box (wr.setCell ⟨gs, k, none⟩ (.int .u8 y)) w4.heap.size 26 #[.int .u32 T.version, .slice (some ⟨gi, 0, none⟩) T.ins.length ci4, .slice Ao4 T.outs.length co4, .int .u32 T.lock] ∧ Below (w1.heap.size + 1) (w1.alloc (.cells #[.int .u32 T.version, .slice Ai T.ins.length ci, .slice Ao T.outs.length co, .int .u32 T.lock] 26)) (wr.setCell ⟨gs, k, none⟩ (.int .u8 y))) := ⟨fun y => ⟨hins.poke hbs k y, hx8.poke (by decide) hbs k _, hbl.setCell (by show w1.heap.size + 1 ≤ gs; have := HG.out; omega) _⟩⟩
              clear hins hx8 hbl hbs hkl hk hgs hv2 hc2 h0
              go_wp2
              exact ⟨⟨k + 1, by have := HK.out; omega, by go_num, ⟨HEND.out _⟩⟩, by simp [intOf]; have := HK.out; omega⟩
            · obtain rfl : k = q := by omega
              have HEND := Kp.mk (And.intro hins (And.intro hx8 hbl))
              clear hins hx8 hbl hkl hk
              go_wp2
              exact ⟨⟨j + 1, by have := HJ.out; omega, by go_num, HEND⟩, by simp [intOf]; have := HJ.out; omega⟩
        · obtain rfl : j = T.ins.length := by omega
          obtain ⟨c0, c1, c2, c3'⟩ := HC.out wr hbl
          have HB7 := Kp.mk hbl
          have HBO7 := Kp.mk (HBO.out wr _ (HKR.out wr hbl))
          clear hins hx8 hbl hj hjl HI6 e1
          go_wp2_with fail
          refine HBO7.out.mono ?_
          rintro e w8 ⟨v8, rfl, ho8, hg8⟩
          have hcv8 := run_str ho8.any
          rw [HS.out] at hcv8
          obtain ⟨A8, c8, rfl⟩ := ho8.slice
          have HB8 := Kp.mk hg8.low
          clear ho8 hg8 c0 c1 c2 c3'
          go_wp2_with fail
          refine (HTX.out w8).mono ?_
          rintro e w9 ⟨v9, rfl, hT9, hb9⟩
          have HB9 := Kp.mk hb9
          have HBO9 := Kp.mk (HBO.out w9 _ hT9.txR)
          obtain ⟨iv9, ov9, rfl, _, _, hi9, ho9⟩ := id hT9
          clear hT9 hb9 hi9 ho9
          go_wp2_with fail
          refine HBO9.out.mono ?_
          rintro e w10 ⟨v10, rfl, ho10, hg10⟩
          have hcv10 := run_str ho10.any
          rw [HS.out] at hcv10
          obtain ⟨A10, c10, rfl⟩ := ho10.slice
          have HB10 := Kp.mk hg10.low
          clear ho10 hg10
          go_wp2_with fail
          refine (HAW.out w10).mono ?_
          rintro e w11 ⟨rfl, hb11⟩
          go_wp2_with fail
          go_ret
          have z2 : w.heap.size ≤ w1.heap.size + 1 := by have := HB2.out.size; rw [alloc_size] at this; exact this
          have z7 : w.heap.size ≤ wr.heap.size := by have := HB7.out.size; rw [alloc_size] at this; omega
          have z8 := Nat.le_trans z7 HB8.out.size
          have z9 := Nat.le_trans z8 HB9.out.size
          have z10 := Nat.le_trans z9 HB10.out.size
          exact ⟨rfl, ((((HB2.out.trans (HB7.out.mono z2)).trans (HB8.out.mono z7)).trans (HB9.out.mono z8)).trans (HB10.out.mono z9)).trans (hb11.mono z10)⟩

set_option maxRecDepth 100000 in
theorem lifted (os : Os) (started : os.Started) (H : Type) (enc : TypeId × Value → H) :
    ReturnsInHanded {} Try.checked os 4 .any (Rows.txnsOwnSpec.pre6 enc Try.prog Try.f4 Rows.txnsOwnRow.domain false) (Rows.txnsOwnSpec.post enc Try.prog Try.f4 false true false false) := by
  refine returnsInHanded_of_change (C := Try.checked) ownKnobNone started (by kernel_rfl) Try.func4
    (ChangeSpec.witness6 (enc := enc) (C := Try.checked) false ⟨#[], #[.int .i64 0, .int .i64 0], []⟩ 8 (by kernel_rfl) (by kernel_rfl) (by kernel_rfl) (by kernel_rfl)) ?_
  intro W base args ds gs before hval0 hW _ _
  have hval : ∀ (j : Nat) t v, Try.f4.params[j]? = some t → args[j]? = some v → Value.okWide Try.prog W .any base t v := hval0
  have hW' := hW
  obtain ⟨p, q, hA0, hV, rfl, _, _⟩ := hW
  have hA : DataW.TrodAll enc Try.prog W 0 (fun _ => true) true Try.f4.params.toList args.toList ds p := hA0
  rw [Try.params4] at hA hval
  obtain ⟨v0, vs0, d0, ds0, p0, q0, hargs, rfl, rfl, h0, r0⟩ := trodAll_cons hA
  obtain ⟨v1, vs1, d1, ds1, p1, q1, rfl, rfl, rfl, h1, r1⟩ := trodAll_cons r0
  obtain ⟨rfl, rfl, rfl⟩ := trodAll_nil r1
  obtain rfl : args = #[v0, v1] := by cases args; simp_all
  obtain ⟨rfl, rfl⟩ := trodVars_none hV
  obtain ⟨a0, rfl, rfl, rfl, w0⟩ := open_int Try.underlying3 (hval 0 3 v0 rfl rfl) h0
  have b0 := bd_i64 w0
  obtain ⟨a1, rfl, rfl, rfl, w1⟩ := open_int Try.underlying3 (hval 1 3 v1 rfl rfl) h1
  have b1 := bd_i64 w1
  clear hA0 hval0
  refine (walk a0 a1 b0 b1 W).mono fun e W' ⟨he, hb⟩ => ?_
  subst he
  exact ⟨_, rfl, law_post hW' rfl rfl (by kernel_rfl) rfl hb⟩

set_option maxRecDepth 100000 in
theorem over : Rows.txnsOwnRow.holds Try.pinned (OpenSpec.ofChange Rows.txnsOwnSpec) :=
  OpenClaim.holds_of_wide 4 Try.f4 rfl rfl rfl rfl rfl rfl rfl ⟨rfl, rfl, rfl, rfl, rfl⟩ rfl rfl rfl rfl rfl (by kernel_rfl) Try.func4 (by kernel_rfl)
    (of_decide_eq_true (by kernel_rfl)) (by unfold Func.isWrapper; first | (rw [if_pos (by decide +kernel)]; kernel_rfl) | (rw [if_neg (by decide +kernel)]; exact ⟨rfl, rfl⟩))
    (fun os started H enc _ => lifted os started H enc)

/-- The statement. -/
theorem proved : Rows.TxnsOwnSaid :=
  over
end Go.Proofs.Ythkjhfdafjlllaa.lawOwn
