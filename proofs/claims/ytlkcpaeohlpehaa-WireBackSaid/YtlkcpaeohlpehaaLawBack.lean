/- Numbers that are written one behind the other are read as they were, and cut anywhere the last can't be: for every number of 32 bits, of 64 bits, and every two ints, the law WireBack returns true and leaves its arguments as they were. No further condition. -/
import Derived.Test.YtlkcpaeohlpehaaClose
import Derived.Test.YtlkcpaeohlpehaaWireE
import Derived.Test.YtlkcpaeohlpehaaWireF
import Derived.Deep.DeepCutAuto
namespace Go.Proofs.Ytlkcpaeohlpehaa.lawBack
open Go.ChangeShapes Go.WideShapes Go.ChangeAt Go.RowKit

theorem mask8 (n : Int) : ∃ m : Nat, bits BinOp.and IntKind.i64 n 255 = (m : Int) ∧ m < 256 := by
  have h := and_mask n 8 (by omega)
  refine ⟨(n % 256).toNat, ?_, by omega⟩
  rw [show ((2 ^ 8 - 1 : Nat) : Int) = 255 by decide, show ((2 ^ 8 : Nat) : Int) = 256 by decide] at h
  rw [h]
  omega

set_option maxRecDepth 100000 in
set_option maxHeartbeats 1000000 in
theorem walk (a u : Nat) (n cut : Int) (ha : a < 4294967296) (hu : u < 18446744073709551616) (w : World) :
    Calls Try.prog 3 #[.int .u32 (a : Int), .int .u64 (u : Int), .int .i64 n, .int .i64 cut] w (YesPost w) := by
  have HU := Lib.hid hu
  clear hu
  go_enter Try.func3, Try.ntmps3
  go_upto_region 1 with fail
  go_cut [2] (fun v wx => v = .int .i64 (clamp n : Int) ∧ wx = w)
  case first =>
    by_cases h0 : n < 0
    · have hc := clamp_low n h0
      have HC := Lib.hid hc
      clear hc
      go_wp2
      go_meet
      exact ⟨by rw [HC.out]; rfl, rfl⟩
    · by_cases h1 : (4294967295 : Int) < n
      · have hc : clamp n = 4294967295 := by unfold clamp; omega
        have HC := Lib.hid hc
        clear hc
        go_wp2
        go_meet
        exact ⟨by rw [HC.out]; rfl, rfl⟩
      · have hc : (clamp n : Int) = n := by unfold clamp; omega
        have HC := Lib.hid hc
        clear hc
        go_wp2
        go_meet
        exact ⟨by rw [HC.out], rfl⟩
  case rest =>
    obtain ⟨rfl, hw⟩ := hcut
    subst hw
    have hm : clamp n ≤ 4294967295 := by unfold clamp; omega
    have hcl : clamp ((clamp n : Nat) : Int) = clamp n := clamp_in _ (by omega)
    generalize clamp n = m at *
    have HM := Lib.hid hm
    have HCL := Lib.hid hcl
    clear hm hcl
    go_wp2_with fail
    refine (small_any _ 0 (.slice none 0 0) [] a (Sl.nil _ _) (by simp) ha).mono ?_
    rintro e w1 ⟨v1, rfl, ho1, hb1⟩
    rw [List.nil_append] at ho1
    have Ho1 := Lib.hid ho1
    have Hb1 := Lib.hid hb1
    clear ho1 hb1
    go_wp2_with fail
    refine (big_any w1 _ v1 _ u Ho1.out.any (by rw [leb_len]; omega)).mono ?_
    rintro e w2 ⟨v2, rfl, ho2, hb2⟩
    have Ho2 := Lib.hid ho2
    have Hb2 := Lib.hid (Hb1.out.trans (hb2.mono Hb1.out.size))
    clear ho2 hb2
    go_wp2_with fail
    refine (count_any w2 _ v2 _ m Ho2.out.any (by rw [List.length_append, leb_len, leb_len]; omega) (by have := HM.out; omega)).mono ?_
    rintro e w3 ⟨v3, rfl, ho3, hb3⟩
    rw [HCL.out, List.append_assoc] at ho3
    have Hb3 := Lib.hid (Hb2.out.trans (hb3.mono Hb2.out.size))
    have hlen : (leb a 4 ++ (leb u 8 ++ cnt m)).length = 12 + (cnt m).length := by rw [List.length_append, List.length_append, leb_len, leb_len]; omega
    have hc1 := cnt_pos m
    have hc2 := cnt_max m
    have hy : Bys (leb a 4 ++ (leb u 8 ++ cnt m)) := (leb_bys a 4).app ((leb_bys u 8).app (cnt_bys m))
    have T1 := Lib.hid (three_back a u m ha HU.out HM.out)
    have T2 := Lib.hid (fun k => three_cut a u m k)
    generalize leb a 4 ++ (leb u 8 ++ cnt m) = L at *
    obtain ⟨N, hN⟩ : ∃ N, L.length = N := ⟨_, rfl⟩
    have hN1 : 13 ≤ N := by omega
    have hN2 : N ≤ 17 := by omega
    obtain ⟨A3, c3, hv3⟩ := ho3.slice
    rw [hN] at hv3
    subst hv3
    have Ho3 := Lib.hid ho3
    have HY := Lib.hid hy
    have HN := Lib.hid hN
    obtain ⟨q, hq, hq8⟩ := mask8 cut
    have hNz : ((N : Int) == 0) = false := by simp; omega
    clear ho3 hb3 hlen hc1 hc2 hy hN ha
    go_wp2
    go_loopw [11, 12, 13, 14, 15, 37] (fun _ _ _ _ _ i wr => ∃ j : Nat, j ≤ 2 ∧ i = .int .i64 j ∧ Below (w3.heap.size + 1) (w3.alloc (.cells #[.int .i64 (N : Int), .int .i64 ((q : Int) % (N : Int))] 3)) wr) (fun _ _ _ _ _ i _ => 2 - (intOf i).toNat)
    case atStart => exact ⟨0, by omega, rfl, Below.refl _ _⟩
    case round =>
      obtain ⟨j, hj, rfl, hb⟩ := hrel
      have hbig : w3.heap.size + 1 ≤ wr.heap.size := by simpa using hb.size
      have HBW := Lib.hid (show Below w3.heap.size w3 wr from ((Below.refl _ _).alloc (Nat.le_refl _) _).trans (hb.mono (Nat.le_succ _)))
      by_cases hlt : j < 2
      · obtain ⟨k, hk, hcell⟩ : ∃ k : Nat, k ≤ N ∧ wr.cell? ⟨w3.heap.size, j, none⟩ = some (.int .i64 (k : Int)) := by
          have hz : wr.cell? ⟨w3.heap.size, j, none⟩ = #[Value.int .i64 (N : Int), Value.int .i64 ((q : Int) % (N : Int))][j]? := (hb.cell (p := ⟨w3.heap.size, j, none⟩) (Nat.lt_succ_self _)).trans ((Box.fresh w3 3 _).cell j)
          rcases (show j = 0 ∨ j = 1 by omega) with rfl | rfl
          · exact ⟨N, Nat.le_refl _, hz⟩
          · exact ⟨q % N, by have := Nat.mod_lt q (show 0 < N by omega); omega, by rw [hz, Int.natCast_emod]; rfl⟩
        have hl3 := Ho3.out.below (HBW.out)
        have hs : Sl wr wr.heap.size (.slice A3 k c3) (L.take k) := sl_take (by have := hl3.any; exact HN.out.symm ▸ this) k (by have := HN.out; omega)
        have hkc : (k : Int) ≤ (c3 : Int) := by
          obtain ⟨_, _, e, hcc, _⟩ := hl3.any
          injection e with _ _ e3
          have := HN.out
          omega
        have HS := Lib.hid hs
        have HTY := Lib.hid (HY.out.take k)
        have HLT := Lib.hid (show (L.take k).length ≤ 140737488355328 by have := HN.out; rw [List.length_take]; omega)
        obtain ⟨s1, e1⟩ : ∃ s, num (L.take k) false 4 = s := ⟨_, rfl⟩
        obtain ⟨s2, e2⟩ : ∃ s, num s1.2.1 s1.2.2 8 = s := ⟨_, rfl⟩
        obtain ⟨s3, e3⟩ : ∃ s, count s2.2.1 s2.2.2 4294967295 = s := ⟨_, rfl⟩
        have HT := Lib.hid (show three (L.take k) 4294967295 = (s1.1, s2.1, s3) by unfold three; rw [e1, e2, e3])
        obtain ⟨x, l1, d1⟩ := s1
        obtain ⟨y, l2, d2⟩ := s2
        obtain ⟨z, l3, d3⟩ := s3
        have E1 := Lib.hid e1
        have E2 := Lib.hid e2
        have E3 := Lib.hid e3
        clear e1 e2 e3 hs hl3
        have hjj : j < 2 := hlt
        by_cases hkN : k = N
        · subst k
          have ht := HT.out
          rw [List.take_of_length_le (by have := HN.out; omega), T1.out] at ht
          dsimp only at ht
          obtain ⟨h1, ht⟩ := Prod.mk.inj ht
          obtain ⟨h2, ht⟩ := Prod.mk.inj ht
          obtain ⟨h3, ht⟩ := Prod.mk.inj ht
          obtain ⟨h4, h5⟩ := Prod.mk.inj ht
          subst x
          subst y
          subst z
          subst l3
          subst d3
          clear ht
          go_wp2_with fail
          refine (read_any wr _ _ _ HS.out HTY.out HLT.out).mono ?_
          rintro e w5 ⟨g, rfl, hg5, hr5, hb5⟩
          have hc5 := rsmall_any g w5 _ _ hr5
          rw [E1.out] at hc5
          have HC5 := Lib.hid hc5
          have HB5 := Lib.hid hb5
          have HG5 := Lib.hid hg5
          clear hg5 hr5 hb5 hc5
          go_wp2_with fail
          refine HC5.out.mono ?_
          rintro e w6 ⟨ho6, rfl, hr6⟩
          have hc6 := rbig_any g w6 _ _ hr6
          rw [E2.out] at hc6
          have HC6 := Lib.hid hc6
          have HO6 := Lib.hid ho6
          clear ho6 hr6 hc6
          go_wp2_with fail
          refine HC6.out.mono ?_
          rintro e w7 ⟨ho7, rfl, hr7⟩
          have hc7 := rcount_any g w7 _ _ 4294967295 hr7 (by omega)
          rw [E3.out] at hc7
          have HC7 := Lib.hid hc7
          have HO7 := Lib.hid (HO6.out.trans ho7)
          clear ho7 hr7 hc7
          go_wp2_with fail
          refine HC7.out.mono ?_
          rintro e w8 ⟨ho8, rfl, hr8⟩
          have HR8 := Lib.hid hr8
          have HB8 := Lib.hid (show Below (w3.heap.size + 1) (w3.alloc (.cells #[.int .i64 (N : Int), .int .i64 ((q : Int) % (N : Int))] 3)) w8 from hb.trans ((Only.below HB5.out (HO7.out.trans ho8) HG5.out).mono hbig))
          clear ho8 hr8
          have HE := Lib.hid (end_good g w8 _ HR8.out)
          go_wp2_with fail
          refine HE.out.mono ?_
          rintro e w' ⟨rfl, rfl⟩
          go_wp2
          refine ⟨⟨j + 1, by omega, by go_num, HB8.out⟩, by simp [intOf]; omega⟩
        · obtain ⟨x', y', ht⟩ := T2.out k (by have := HN.out; omega)
          rw [HT.out] at ht
          dsimp only at ht
          obtain ⟨_, ht⟩ := Prod.mk.inj ht
          obtain ⟨_, ht⟩ := Prod.mk.inj ht
          obtain ⟨h3, ht⟩ := Prod.mk.inj ht
          obtain ⟨h4, h5⟩ := Prod.mk.inj ht
          subst z
          subst l3
          subst d3
          clear ht
          have hkN2 : (k : Int) < (N : Int) := by omega
          have hkN3 : ((k : Int) == (N : Int)) = false := by simp; omega
          go_wp2_with fail
          refine (read_any wr _ _ _ HS.out HTY.out HLT.out).mono ?_
          rintro e w5 ⟨g, rfl, hg5, hr5, hb5⟩
          have hc5 := rsmall_any g w5 _ _ hr5
          rw [E1.out] at hc5
          have HC5 := Lib.hid hc5
          have HB5 := Lib.hid hb5
          have HG5 := Lib.hid hg5
          clear hg5 hr5 hb5 hc5
          go_wp2_with fail
          refine HC5.out.mono ?_
          rintro e w6 ⟨ho6, rfl, hr6⟩
          have hc6 := rbig_any g w6 _ _ hr6
          rw [E2.out] at hc6
          have HC6 := Lib.hid hc6
          have HO6 := Lib.hid ho6
          clear ho6 hr6 hc6
          go_wp2_with fail
          refine HC6.out.mono ?_
          rintro e w7 ⟨ho7, rfl, hr7⟩
          have hc7 := rcount_any g w7 _ _ 4294967295 hr7 (by omega)
          rw [E3.out] at hc7
          have HC7 := Lib.hid hc7
          have HO7 := Lib.hid (HO6.out.trans ho7)
          clear ho7 hr7 hc7
          go_wp2_with fail
          refine HC7.out.mono ?_
          rintro e w8 ⟨ho8, rfl, hr8⟩
          have HR8 := Lib.hid hr8
          have HB8 := Lib.hid (show Below (w3.heap.size + 1) (w3.alloc (.cells #[.int .i64 (N : Int), .int .i64 ((q : Int) % (N : Int))] 3)) w8 from hb.trans ((Only.below HB5.out (HO7.out.trans ho8) HG5.out).mono hbig))
          clear ho8 hr8
          have HK := Lib.hid (ok_any g w8 _ _ HR8.out)
          have HE := Lib.hid (end_bad g w8 _ HR8.out)
          go_wp2_with fail
          refine HK.out.mono ?_
          rintro e w' ⟨rfl, rfl⟩
          go_wp2_with fail
          refine HE.out.mono ?_
          rintro e w' ⟨rfl, rfl⟩
          go_wp2
          refine ⟨⟨j + 1, by omega, by go_num, HB8.out⟩, by simp [intOf]; omega⟩
      · obtain rfl : j = 2 := by omega
        go_wp2_with fail
        refine (awake2_any wr).mono ?_
        rintro e w9 ⟨rfl, hb9⟩
        have HB9 := Lib.hid ((Hb3.out.trans (HBW.out.mono Hb3.out.size)).trans (hb9.mono (Nat.le_trans Hb3.out.size HBW.out.size)))
        clear hb9
        go_wp2
        go_ret
        exact ⟨rfl, HB9.out⟩

set_option maxRecDepth 100000 in
theorem lifted (os : Os) (started : os.Started) (H : Type) (enc : TypeId × Value → H) :
    ReturnsInHanded {} Try.checked os 3 .any (Rows.wireBackSpec.pre6 enc Try.prog Try.f3 Rows.wireBackRow.domain false) (Rows.wireBackSpec.post enc Try.prog Try.f3 false true false false) := by
  refine returnsInHanded_of_change (C := Try.checked) ownKnobNone started (by kernel_rfl) Try.func3
    (ChangeSpec.witness6 (enc := enc) (C := Try.checked) false ⟨#[], #[.int .u32 0, .int .u64 0, .int .i64 0, .int .i64 0], []⟩ 8 (by kernel_rfl) (by kernel_rfl) (by kernel_rfl) (by kernel_rfl)) ?_
  intro W base args ds gs before hval0 hW _ _
  have hval : ∀ (j : Nat) t v, Try.f3.params[j]? = some t → args[j]? = some v → Value.okWide Try.prog W .any base t v := hval0
  have hW' := hW
  obtain ⟨p, q, hA0, hV, rfl, _, _⟩ := hW
  have hA : DataW.TrodAll enc Try.prog W 0 (fun _ => true) true Try.f3.params.toList args.toList ds p := hA0
  rw [Try.params3] at hA hval
  obtain ⟨v0, vs0, d0, ds0, p0, q0, hargs, rfl, rfl, h0, r0⟩ := trodAll_cons hA
  obtain ⟨v1, vs1, d1, ds1, p1, q1, rfl, rfl, rfl, h1, r1⟩ := trodAll_cons r0
  obtain ⟨v2, vs2, d2, ds2, p2, q2, rfl, rfl, rfl, h2, r2⟩ := trodAll_cons r1
  obtain ⟨v3, vs3, d3, ds3, p3, q3, rfl, rfl, rfl, h3, r3⟩ := trodAll_cons r2
  obtain ⟨rfl, rfl, rfl⟩ := trodAll_nil r3
  obtain rfl : args = #[v0, v1, v2, v3] := by cases args; simp_all
  obtain ⟨rfl, rfl⟩ := trodVars_none hV
  obtain ⟨a0, rfl, rfl, rfl, w0⟩ := open_int Try.underlying22 (hval 0 22 v0 rfl rfl) h0
  have b0 := bd_u32 w0
  obtain ⟨n0, rfl⟩ := Int.eq_ofNat_of_zero_le b0.1
  obtain ⟨a1, rfl, rfl, rfl, w1⟩ := open_int Try.underlying23 (hval 1 23 v1 rfl rfl) h1
  have b1 := bd_u64 w1
  obtain ⟨n1, rfl⟩ := Int.eq_ofNat_of_zero_le b1.1
  obtain ⟨a2, rfl, rfl, rfl, w2⟩ := open_int Try.underlying3 (hval 2 3 v2 rfl rfl) h2
  have b2 := bd_i64 w2
  obtain ⟨a3, rfl, rfl, rfl, w3⟩ := open_int Try.underlying3 (hval 3 3 v3 rfl rfl) h3
  have b3 := bd_i64 w3
  clear hA0 hval0
  refine (walk n0 n1 a2 a3 (by omega) (by omega) W).mono fun e W' ⟨he, hb⟩ => ?_
  subst he
  exact ⟨_, rfl, law_post hW' rfl rfl (by kernel_rfl) rfl hb⟩

theorem over : Rows.wireBackRow.holds Try.pinned (OpenSpec.ofChange Rows.wireBackSpec) :=
  OpenClaim.holds_of_wide 3 Try.f3 rfl rfl rfl rfl rfl rfl rfl ⟨rfl, rfl, rfl, rfl, rfl⟩ rfl rfl rfl rfl rfl (by kernel_rfl) Try.func3 (by kernel_rfl)
    (of_decide_eq_true (by kernel_rfl)) (by unfold Func.isWrapper; first | (rw [if_pos (by decide +kernel)]; kernel_rfl) | (rw [if_neg (by decide +kernel)]; exact ⟨rfl, rfl⟩))
    (fun os started H enc _ => lifted os started H enc)

/-- The statement. -/
theorem proved : Rows.WireBackSaid :=
  over
end Go.Proofs.Ytlkcpaeohlpehaa.lawBack
