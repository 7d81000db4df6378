/- WirePlays, walked: nums has cells, acts has. -/
import Derived.Test.YtccbpejjhcbboaaPlaysA
namespace Go.Proofs.Ytccbpejjhcbboaa.lawPlays
open Go.ChangeShapes Go.WideShapes Go.ChangeAt Go.RowKit

set_option linter.unusedSimpArgs false in
set_option maxRecDepth 10000000 in
set_option maxHeartbeats 8000000 in
theorem walk_ff (rv : Value) (lr : List Int) (u : Nat) (at_ : Int) (by_ : Int) (w : World) (hrs : Sl w w.heap.size rv lr) (hry : Bys lr) (hrl : lr.length ≤ 200) (hu : u < 18446744073709551616) (hby : 0 ≤ by_ ∧ by_ ≤ 255)
    (bn on cn : Nat) (zn : List Int) (hnb : bn < w.heap.size) (hnc : ∀ i, i < zn.length → w.cell? ⟨bn, on + i, none⟩ = some (.int .i64 (zn.getD i 0))) (_hnw : zn.length ≤ 9223372036854775807) (hnz : ∀ x ∈ zn, -9223372036854775808 ≤ x ∧ x ≤ 9223372036854775807)
    (ba oa ca : Nat) (za : List Int) (hab : ba < w.heap.size) (hac : ∀ i, i < za.length → w.cell? ⟨ba, oa + i, none⟩ = some (.int .i64 (za.getD i 0))) (_haw : za.length ≤ 9223372036854775807) (haz : ∀ x ∈ za, -9223372036854775808 ≤ x ∧ x ≤ 9223372036854775807) :
    Calls Try.prog 8 #[rv, .slice (some ⟨bn, on, none⟩) zn.length cn, .int .u64 (u : Int), .slice (some ⟨ba, oa, none⟩) za.length ca, .int .i64 at_, .int .u8 by_] w (YesPost w) := by
  obtain ⟨Ar, cr, rfl, _⟩ := id hrs
  have HRS : Kept (Sl w w.heap.size (.slice Ar lr.length cr) lr ∧ Bys lr) := ⟨hrs, hry⟩
  have HU : Kept (u < 18446744073709551616) := ⟨hu⟩
  have HBY : Kept (0 ≤ by_ ∧ by_ ≤ 255) := ⟨hby⟩
  have HNB : Kept (bn < w.heap.size) := ⟨hnb⟩
  have HNC : Kept (∀ i, i < zn.length → w.cell? ⟨bn, on + i, none⟩ = some (.int .i64 (zn.getD i 0))) := ⟨hnc⟩
  have HNZ : Kept (∀ i, -9223372036854775808 ≤ zn.getD i 0 ∧ zn.getD i 0 ≤ 9223372036854775807) := ⟨fun i => by
    rw [List.getD_eq_getElem?_getD]
    cases hi : zn[i]? with
    | none => simp
    | some x => simpa using hnz x (List.mem_of_getElem? hi)⟩
  clear hnb hnc hnz
  have HAB : Kept (ba < w.heap.size) := ⟨hab⟩
  have HAC : Kept (∀ i, i < za.length → w.cell? ⟨ba, oa + i, none⟩ = some (.int .i64 (za.getD i 0))) := ⟨hac⟩
  have HAZ : Kept (∀ i, -9223372036854775808 ≤ za.getD i 0 ∧ za.getD i 0 ≤ 9223372036854775807) := ⟨fun i => by
    rw [List.getD_eq_getElem?_getD]
    cases hi : za[i]? with
    | none => simp
    | some x => simpa using haz x (List.mem_of_getElem? hi)⟩
  clear hab hac haz
  have hrl2 : (lr.length : Int) ≤ 200 := by omega
  clear hrs hry hu hby
  go_enter Try.func8, Try.ntmps8
  go_upto_block 0 with fail
  go_cut [13, 14, 15] (fun b v _ wx => ∃ L, Own wx w.heap.size 5 b L ∧ Own wx w.heap.size 5 v L ∧ Bys L ∧ L.length ≤ 96 ∧ Below w.heap.size w wx)
  case first =>
    go_wp2_with fail
    go_loopw [13, 14, 15] (fun b v i wr => ∃ (j : Nat) (L : List Int), i = .int .i64 j ∧ j ≤ 12 ∧ Own wr w.heap.size 5 b L ∧ Own wr w.heap.size 5 v L ∧ Bys L ∧ L.length ≤ 8 * j ∧ Below w.heap.size w wr) (fun _ _ i _ => 12 - (intOf i).toNat)
    case atStart => exact ⟨0, [], rfl, by omega, own_nil _ _ _, own_nil _ _ _, Bys.nil, by simp, Below.refl _ _⟩
    case round =>
      obtain ⟨j, L, rfl, hj, hb, hv, hy, hl, hbel⟩ := hrel
      have HL : Kept (Bys L ∧ L.length ≤ 8 * j) := ⟨hy, hl⟩
      have HBEL : Kept (Below w.heap.size w wr) := ⟨hbel⟩
      by_cases h12 : j < 12
      · by_cases hjn : j < zn.length
        · have hz := HNZ.out j
          have hcn : wr.cell? ⟨bn, on + j, none⟩ = some (.int .i64 (zn.getD j 0)) := (hbel.cell (p := ⟨bn, on + j, none⟩) HNB.out).trans (HNC.out j hjn)
          obtain ⟨z, hzz⟩ : ∃ z, zn.getD j 0 = z := ⟨_, rfl⟩
          rw [hzz] at hz hcn
          obtain ⟨m, hm, hm4⟩ := maskK (j : Int) 2 (by omega) 3 (by decide)
          obtain ⟨x, hx, hx32⟩ : ∃ x : Nat, IntKind.u32.wrap z = (x : Int) ∧ x < 4294967296 := ⟨(z % 4294967296).toNat, by simp [IntKind.wrap, IntKind.bits, IntKind.signed]; omega, by omega⟩
          have hL120 : L.length ≤ 96 := by omega
          have HX : Kept (x < 4294967296) := ⟨hx32⟩
          obtain ⟨Ab, cb, rfl⟩ := hb.slice
          obtain ⟨Av, cv, rfl⟩ := hv.slice
          have HB : Kept (Own wr w.heap.size 5 (.slice Ab L.length cb) L) := ⟨hb⟩
          have HV : Kept (Own wr w.heap.size 5 (.slice Av L.length cv) L) := ⟨hv⟩
          have HBD : Kept (∀ W, Below wr.heap.size wr W → Below w.heap.size w W) := ⟨fun W h => HBEL.out.trans (h.mono HBEL.out.size)⟩
          have HCN : Kept (∀ W, Below wr.heap.size wr W → W.cell? ⟨bn, on + j, none⟩ = some (.int .i64 z)) := ⟨fun W h => (h.cell (p := ⟨bn, on + j, none⟩) (Nat.lt_of_lt_of_le HNB.out HBEL.out.size)).trans hcn⟩
          have HZ : Kept (-9223372036854775808 ≤ z ∧ z ≤ 9223372036854775807) := ⟨hz⟩
          have hjn2 : (j : Int) < (zn.length : Int) := by omega
          have hj12 : (j : Int) < 12 := by omega
          clear hb hv hx32 hz hzz hbel hy hl
          rcases (show m = 0 ∨ m = 1 ∨ 2 ≤ m by omega) with rfl | rfl | hm2
          · have hcd := HCN.out wr.drew (Below.refl _ _).drew
            have H1 : Kept (Calls Try.prog 28 #[.slice Ab L.length cb, .int .u32 (x : Int)] wr.drew (NewBytes (L ++ leb x 4) wr.drew)) := ⟨small_any wr.drew _ _ L x (HB.out.below (Below.refl _ _).drew).any (by omega) HX.out⟩
            have H2 : Kept (∀ W, Below wr.heap.size wr W → Calls Try.prog 29 #[.slice Av L.length cv, .int .u32 (x : Int)] W (NewBytes (L ++ leb x 4) W)) := ⟨fun W h => refsmall_any W _ _ L x (HV.out.below h).any (by omega) HX.out⟩
            go_wp2_with fail
            go_region_held3 (fun W => W.cell? ⟨bn, on + j, none⟩ = some (.int .i64 z)) (first | exact hcd | assumption) (first | (go_at_call 28; refine H1.out.mono ?_; rintro e w5 ⟨v5, rfl, ho5, hb5⟩; have hb55 := (Below.refl wr.heap.size wr).drew.trans hb5; have hc5 := HCN.out w5 hb55) | (go_at_call 29; refine (H2.out _ hb55).mono ?_; rintro e w6 ⟨v6, rfl, ho6, hb6⟩; have hb66 := hb55.trans (hb6.mono hb55.size); have hc6 := HCN.out w6 hb66))
            have HO5 : Kept (Own w6 w.heap.size 5 v5 (L ++ leb x 4)) := ⟨(ho5.below hb6).less HBEL.out.size⟩
            have HO6 : Kept (Own w6 w.heap.size 5 v6 (L ++ leb x 4)) := ⟨ho6.less (HBD.out _ hb55).size⟩
            have HB6 : Kept (Below w.heap.size w w6) := ⟨HBD.out _ hb66⟩
            clear ho5 hb5 hb55 hc5 ho6 hb6 hb66 hc6 hcd hcn
            go_wp2
            exact ⟨⟨j + 1, L ++ leb x 4, by go_num, by omega, HO5.out, HO6.out, HL.out.1.app (leb_bys x 4), by rw [List.length_append, leb_len]; have := HL.out.2; omega, HB6.out⟩, by simp [intOf]; omega⟩
          · have H1 : Kept (Calls Try.prog 30 #[.slice Ab L.length cb, .int .u64 (u : Int)] wr (NewBytes (L ++ leb u 8) wr)) := ⟨big_any wr _ _ L u HB.out.any (by omega)⟩
            have H2 : Kept (∀ W, Below wr.heap.size wr W → Calls Try.prog 31 #[.slice Av L.length cv, .int .u64 (u : Int)] W (NewBytes (L ++ leb u 8) W)) := ⟨fun W h => refbig_any W _ _ L u (HV.out.below h).any (by omega) HU.out⟩
            clear hcn
            go_wp2_with fail
            refine H1.out.mono ?_
            rintro e w5 ⟨v5, rfl, ho5, hb5⟩
            go_wp2_with fail
            refine (H2.out _ hb5).mono ?_
            rintro e w6 ⟨v6, rfl, ho6, hb6⟩
            have hb66 := hb5.trans (hb6.mono hb5.size)
            have HO5 : Kept (Own w6 w.heap.size 5 v5 (L ++ leb u 8)) := ⟨(ho5.below hb6).less HBEL.out.size⟩
            have HO6 : Kept (Own w6 w.heap.size 5 v6 (L ++ leb u 8)) := ⟨ho6.less (HBD.out _ hb5).size⟩
            have HB6 : Kept (Below w.heap.size w w6) := ⟨HBD.out _ hb66⟩
            clear ho5 hb5 ho6 hb6 hb66
            go_wp2
            exact ⟨⟨j + 1, L ++ leb u 8, by go_num, by omega, HO5.out, HO6.out, HL.out.1.app (leb_bys u 8), by rw [List.length_append, leb_len]; have := HL.out.2; omega, HB6.out⟩, by simp [intOf]; omega⟩
          · have hm0 : ((m : Int) == 0) = false := by simp; omega
            have hm1 : ((m : Int) == 1) = false := by simp; omega
            have hcd := HCN.out wr.drew (Below.refl _ _).drew
            have H1 : Kept (Calls Try.prog 32 #[.slice Ab L.length cb, .int .i64 z] wr.drew (NewBytes (L ++ cnt (clamp z)) wr.drew)) := ⟨count_any wr.drew _ _ L z (HB.out.below (Below.refl _ _).drew).any (by omega) HZ.out⟩
            have H2 : Kept (∀ W, Below wr.heap.size wr W → Calls Try.prog 33 #[.slice Av L.length cv, .int .i64 z] W (NewBytes (L ++ cnt (clamp z)) W)) := ⟨fun W h => refcount_any W _ _ L z (HV.out.below h).any (by omega)⟩
            have HCL : Kept ((cnt (clamp z)).length ≤ 5 ∧ Bys (cnt (clamp z))) := ⟨cnt_max _, cnt_bys _⟩
            generalize cnt (clamp z) = X at *
            go_wp2_with fail
            go_region_held3 (fun W => W.cell? ⟨bn, on + j, none⟩ = some (.int .i64 z)) (first | exact hcd | assumption) (first | (go_at_call 32; refine H1.out.mono ?_; rintro e w5 ⟨v5, rfl, ho5, hb5⟩; have hb55 := (Below.refl wr.heap.size wr).drew.trans hb5; have hc5 := HCN.out w5 hb55) | (go_at_call 33; refine (H2.out _ hb55).mono ?_; rintro e w6 ⟨v6, rfl, ho6, hb6⟩; have hb66 := hb55.trans (hb6.mono hb55.size); have hc6 := HCN.out w6 hb66))
            have HO5 : Kept (Own w6 w.heap.size 5 v5 (L ++ X)) := ⟨(ho5.below hb6).less HBEL.out.size⟩
            have HO6 : Kept (Own w6 w.heap.size 5 v6 (L ++ X)) := ⟨ho6.less (HBD.out _ hb55).size⟩
            have HB6 : Kept (Below w.heap.size w w6) := ⟨HBD.out _ hb66⟩
            clear ho5 hb5 hb55 hc5 ho6 hb6 hb66 hc6 hcd hcn
            go_wp2
            exact ⟨⟨j + 1, L ++ X, by go_num, by omega, HO5.out, HO6.out, HL.out.1.app HCL.out.2, by rw [List.length_append]; have := HL.out.2; have := HCL.out.1; omega, HB6.out⟩, by simp [intOf]; omega⟩
        · have hjn2 : ((j : Int) < (zn.length : Int)) = False := eq_false (by omega)
          have HOUT : Kept (∃ L, Own wr w.heap.size 5 _ L ∧ Own wr w.heap.size 5 _ L ∧ Bys L ∧ L.length ≤ 96 ∧ Below w.heap.size w wr) := ⟨L, hb, hv, hy, by omega, hbel⟩
          clear hb hv hy hl hbel
          go_wp2
          go_meet
          exact HOUT.out
      · have hj2 : ((j : Int) < 12) = False := eq_false (by omega)
        have HOUT : Kept (∃ L, Own wr w.heap.size 5 _ L ∧ Own wr w.heap.size 5 _ L ∧ Bys L ∧ L.length ≤ 96 ∧ Below w.heap.size w wr) := ⟨L, hb, hv, hy, by omega, hbel⟩
        clear hb hv hy hl hbel
        go_wp2
        all_goals (go_meet; exact HOUT.out)
  case rest =>
    obtain ⟨L, hb, hv, hy, hl, hbel⟩ := hcut
    obtain ⟨w1, rfl⟩ : ∃ w1 : World, w1 = wc := ⟨_, rfl⟩
    obtain ⟨Ab, cb, rfl⟩ := hb.slice
    obtain ⟨Av, cv, rfl⟩ := hv.slice
    obtain ⟨i0, hi, hz0, hz1, hz2⟩ := info_parts infoByte
    have hcb := run_str hb.any
    have hcv := run_str hv.any
    obtain ⟨S, hS⟩ : ∃ S, strOfNums L = S := ⟨_, rfl⟩
    rw [hS] at hcb hcv
    have HB : Kept (Own w1 w.heap.size 5 (.slice Ab L.length cb) L ∧ Bys L ∧ L.length ≤ 96) := ⟨hb, hy, hl⟩
    have HBEL : Kept (Below w.heap.size w w1) := ⟨hbel⟩
    clear hb hv hy hl hbel hS
    go_wp2_with (at_builtin; refine wpList_append_bytes rfl (.tmp 80) (.tmp 81) 28 rfl w1.heap.size 5 i0 Try.underlying28 hi hz0 hz1 hz2 _ [] rfl (own_empty w1 _) w1.heap.size _ L rfl ?c1 ?c2 ?c3 ?_)
    case c1 => exact HB.out.1.any.below ((Below.refl _ _).alloc (Nat.le_refl _) _)
    case c2 => have := HB.out.2.2; simp; omega
    case c3 => simp
    intro v2 w2 ho2 hg2
    obtain ⟨A2, c2, rfl⟩ := ho2.slice
    have hb2 : Below w1.heap.size w1 w2 := ((Below.refl w1.heap.size w1).alloc (Nat.le_refl _) (.cells #[] 5)).grown hg2 (by simp) (by simp [Value.ownBlock])
    have HO2 : Kept (Own w2 w1.heap.size 5 (.slice A2 L.length c2) L) := ⟨ho2⟩
    have HB2 : Kept (Below w1.heap.size w1 w2) := ⟨hb2⟩
    clear ho2 hg2 hb2 hcb hcv
    go_upto_if 85 with (fail)
    go_cut [] (fun wx => ∃ L2, Own wx w1.heap.size 5 (.slice A2 L.length c2) L2 ∧ Bys L2 ∧ L2.length = L.length ∧ Below w1.heap.size w1 wx)
    case first =>
      by_cases h0 : 0 < L.length
      · obtain ⟨q, hq, hq16⟩ := maskK at_ 16 (by omega) 65535 (by decide)
        have hLz : ((L.length : Int) == 0) = false := by rw [beq_eq_false_iff_ne]; omega
        have hL96 : L.length ≤ 96 := HB.out.2.2
        obtain ⟨r, hr⟩ : ∃ r, q % L.length = r := ⟨_, rfl⟩
        have hqm : r < L.length := by rw [← hr]; exact Nat.mod_lt _ h0
        have hqi : (r : Int) < (L.length : Int) := by omega
        rcases HO2.out.form with ⟨_, hx⟩ | ⟨gc, cap, cur, hx, _⟩
        · rw [hx] at h0
          simp at h0
        · injection hx with h1 h2 h3
          clear h2 h3
          subst h1
          obtain ⟨⟨z, hz⟩, hf, hgc, _⟩ := own_set_same HO2.out r hqm
          have hqq : (q : Int) % (L.length : Int) = (r : Int) := by rw [← hr, Int.natCast_emod]
          have HP : Kept (∃ L2, Own (w2.setCell ⟨gc, r, none⟩ (.int .u8 by_)) w1.heap.size 5 (.slice (some ⟨gc, 0, none⟩) L.length c2) L2 ∧ Bys L2 ∧ L2.length = L.length ∧ Below w1.heap.size w1 (w2.setCell ⟨gc, r, none⟩ (.int .u8 by_))) :=
            ⟨_, own_set HO2.out r by_, bys_set HB.out.2.1 _ _ HBY.out, List.length_set .., HB2.out.setCell hgc _⟩
          clear hr hqm
          go_wp2
          go_meet
          exact HP.out
      · have h00 : ((0 : Int) < (L.length : Int)) = False := eq_false (by omega)
        have HP : Kept (∃ L2, Own w2 w1.heap.size 5 (.slice A2 L.length c2) L2 ∧ Bys L2 ∧ L2.length = L.length ∧ Below w1.heap.size w1 w2) := ⟨L, HO2.out, HB.out.2.1, rfl, HB2.out⟩
        go_wp2
        go_meet
        exact HP.out
    case rest =>
      obtain ⟨L2, hc2, hy2, hl2, hbel2⟩ := hcut
      obtain ⟨w3, rfl⟩ : ∃ w3 : World, w3 = wc := ⟨_, rfl⟩
      have HC2 : Kept (Own w3 w1.heap.size 5 (.slice A2 L.length c2) L2 ∧ Bys L2 ∧ L2.length = L.length) := ⟨hc2, hy2, hl2⟩
      have HB3 : Kept (Below w1.heap.size w1 w3) := ⟨hbel2⟩
      have HSB : Kept (∀ W, Below w3.heap.size w3 W → Sl W W.heap.size (.slice Ab L.length cb) L) := ⟨fun W h => ((HB.out.1.below HB3.out).below h).any⟩
      have HSR : Kept (∀ W, Below w3.heap.size w3 W → Sl W W.heap.size (.slice Ar lr.length cr) lr) := ⟨fun W h => (((HRS.out.1.below HBEL.out).below HB3.out).below h).free _ (Nat.le_refl _)⟩
      have hl96 : (L.length : Int) ≤ 96 := by have := HB.out.2.2; omega
      obtain ⟨k2, hk2⟩ : ∃ k2, L.length / 2 = k2 := ⟨_, rfl⟩
      have hkc : (k2 : Int) ≤ (cb : Int) := by
        obtain ⟨_, _, e, hcc, _⟩ := HB.out.1.any
        injection e with _ _ e3
        omega
      have hd1 : (L.length : Int).tdiv 2 = (k2 : Int) := by rw [← hk2]; rfl
      have hd2 : (L.length : Int) / 2 = (k2 : Int) := by omega
      have hk96 : (k2 : Int) ≤ 96 := by omega
      have hkw : IntKind.i64.wrap (k2 : Int) = (k2 : Int) := by rw [IntKind.wrap_i64]; omega
      have HK2 : Kept (k2 ≤ L.length) := ⟨by omega⟩
      clear hk2
      clear hc2 hy2 hl2 hbel2
      go_wp2_with fail
      go_region_held3 (fun _ => True) (trivial) (first | (refine step_append_bytes rfl (.tmp 102) (.tmp 103) 28 rfl w3.heap.size 5 i0 Try.underlying28 hi hz0 hz1 hz2 (.slice (some ⟨w3.heap.size, 0, none⟩) 0 0) [] rfl (own_empty w3.drew _) _ _ L rfl (HSB.out _ ((Below.refl w3.heap.size w3).drew.alloc (Nat.le_refl _) _)) (by have := HB.out.2.2; simp; omega) (by simp) ?_; intro v6 w6 ho6 hg6; have hb6 : Below w3.heap.size w3 w6 := ((Below.refl w3.heap.size w3).drew.alloc (Nat.le_refl _) (.cells #[] 5)).grown hg6 (by simp) (by simp [Value.ownBlock])) | (refine step_append_bytes rfl (.tmp 104) (.tmp 105) 28 rfl w3.heap.size 5 i0 Try.underlying28 hi hz0 hz1 hz2 _ ([] ++ L) rfl ho6 _ _ lr rfl (HSR.out _ hb6) (by have := HB.out.2.2; simp; omega) hb6.size ?_; intro v7 w7 ho7 hg7; have hb7 := hb6.grown hg7 hb6.size (fun q hq => (Own.lt ho6 q hq).1); obtain ⟨A7, c7, rfl⟩ := ho7.slice))
      have HROWS : Kept (∀ j, j < 5 → ∃ Ax cx lx, #[Value.slice Ar lr.length cr, Value.slice Ab L.length cb, Value.slice A2 L.length c2, Value.slice Ab k2 cb, Value.slice A7 (L.length + lr.length) c7][j]? = some (.slice Ax (List.length lx) cx) ∧ Sl w7 w7.heap.size (.slice Ax (List.length lx) cx) lx ∧ Bys lx ∧ lx.length ≤ 400) := ⟨fun j hj => by
        have hL := HB.out.2.2
        have hsb := HSB.out w7 hb7
        rcases (show j = 0 ∨ j = 1 ∨ j = 2 ∨ j = 3 ∨ j = 4 by omega) with rfl | rfl | rfl | rfl | rfl
        · exact ⟨Ar, cr, lr, rfl, HSR.out w7 hb7, HRS.out.2, by omega⟩
        · exact ⟨Ab, cb, L, rfl, hsb, HB.out.2.1, by omega⟩
        · have hc := (HC2.out.1.below hb7).any
          refine ⟨A2, c2, L2, by rw [HC2.out.2.2]; rfl, by rw [HC2.out.2.2]; exact hc, HC2.out.2.1, by rw [HC2.out.2.2]; omega⟩
        · have hk := HK2.out
          refine ⟨Ab, cb, L.take k2, by rw [List.length_take, Nat.min_eq_left hk]; rfl, ?_, HB.out.2.1.take k2, by rw [List.length_take]; omega⟩
          rw [List.length_take, Nat.min_eq_left hk]
          exact sl_take hsb k2 hk
        · have h7 := ho7.any
          refine ⟨A7, c7, L ++ lr, by rw [List.length_append]; rfl, ?_, HB.out.2.1.app HRS.out.2, by rw [List.length_append]; omega⟩
          simpa using h7⟩
      have HB7 : Kept (Below w.heap.size w w7) := ⟨(HBEL.out.trans (HB3.out.mono HBEL.out.size)).trans (hb7.mono (Nat.le_trans HBEL.out.size HB3.out.size))⟩
      clear ho6 hg6 hb6 ho7 hg7 hb7 hkc hd1 hd2 hk96 hkw hl96
      go_wp2
      go_loopw [18, 19, 20, 21, 22, 109] (fun _ _ _ _ _ i wr => ∃ j : Nat, j ≤ 5 ∧ i = .int .i64 j ∧ Below (w7.heap.size + 1) (w7.alloc (.cells #[Value.slice Ar lr.length cr, Value.slice Ab L.length cb, Value.slice A2 L.length c2, Value.slice Ab k2 cb, Value.slice A7 (L.length + lr.length) c7] 28)) wr) (fun _ _ _ _ _ i _ => 5 - (intOf i).toNat)
      case atStart => exact ⟨0, by omega, rfl, Below.refl _ _⟩
      case round =>
        obtain ⟨j, hj, rfl, hbr⟩ := hrel
        have hbig : w7.heap.size + 1 ≤ wr.heap.size := by simpa using hbr.size
        have HB7R : Kept (Below w7.heap.size w7 wr) := ⟨((Below.refl _ _).alloc (Nat.le_refl _) _).trans (hbr.mono (Nat.le_succ _))⟩
        have HBR : Kept (Below (w7.heap.size + 1) (w7.alloc (.cells #[Value.slice Ar lr.length cr, Value.slice Ab L.length cb, Value.slice A2 L.length c2, Value.slice Ab k2 cb, Value.slice A7 (L.length + lr.length) c7] 28)) wr) := ⟨hbr⟩
        by_cases hlt : j < 5
        · obtain ⟨Ax, cx, lx, hrow, hsx, hyx, hlx⟩ := HROWS.out j hlt
          have hcell : wr.cell? ⟨w7.heap.size, j, none⟩ = some (.slice Ax lx.length cx) := ((hbr.cell (p := ⟨w7.heap.size, j, none⟩) (Nat.lt_succ_self _)).trans ((Box.fresh w7 28 _).cell j)).trans hrow
          have HSX : Kept (Sl wr wr.heap.size (.slice Ax lx.length cx) lx ∧ Bys lx ∧ lx.length ≤ 400) := ⟨(hsx.below HB7R.out).free _ (Nat.le_refl _), hyx, hlx⟩
          clear hrow hsx hyx hlx hbr
          go_wp2_with fail
          refine (read_any wr _ _ lx HSX.out.1 HSX.out.2.1 (by have := HSX.out.2.2; omega)).mono ?_
          rintro e w9 ⟨g, rfl, hg9, hr9, hb9⟩
          have hs9 : Sd (w9.alloc (.cells #[.slice Ax lx.length cx, .bool false] 49)) w9.heap.size lx false :=
            ⟨_, lx, Box.fresh _ _ _, (((HSX.out.1.below hb9).free w9.heap.size (Nat.le_refl _))).below ((Below.refl _ _).alloc (Nat.le_refl _) _), HSX.out.2.1, by have := HSX.out.2.2; omega, fun _ => rfl, fun h => by cases h⟩
          have HRD : Kept (Rd (w9.alloc (.cells #[.slice Ax lx.length cx, .bool false] 49)) g lx false) := ⟨hr9.below ((Below.refl _ _).alloc (Nat.le_refl _) _)⟩
          have HSD : Kept (Sd (w9.alloc (.cells #[.slice Ax lx.length cx, .bool false] 49)) w9.heap.size lx false) := ⟨hs9⟩
          have HG9 : Kept (wr.heap.size ≤ g ∧ Below wr.heap.size wr w9) := ⟨hg9, hb9⟩
          clear hg9 hr9 hb9 hs9 hcell
          obtain ⟨wo, rfl⟩ : ∃ wo : World, wo = wr := ⟨_, rfl⟩
          go_wp2
          go_loopw [21, 22] (fun i _ wi => ∃ (k : Nat) (l : List Int) (bad : Bool), i = .int .i64 k ∧ k ≤ 20 ∧ Two wi g w9.heap.size l bad ∧ l.length ≤ 400 ∧ Below wo.heap.size wo wi) (fun i _ _ => 20 - (intOf i).toNat)
          case atStart => exact ⟨0, lx, false, rfl, by omega, ⟨HRD.out, HSD.out⟩, HSX.out.2.2, HG9.out.2.alloc HG9.out.2.size _⟩
          case round =>
            obtain ⟨wi_, rfl⟩ : ∃ wi_ : World, wi_ = wr := ⟨_, rfl⟩
            obtain ⟨k, l, bad, rfl, hk, ⟨hrd, hsd⟩, hl4, hbi⟩ := hrel
            have HOUT : Kept (Below (w7.heap.size + 1) (w7.alloc (.cells #[Value.slice Ar lr.length cr, Value.slice Ab L.length cb, Value.slice A2 L.length c2, Value.slice Ab k2 cb, Value.slice A7 (L.length + lr.length) c7] 28)) _) := ⟨HBR.out.trans (hbi.mono hbig)⟩
            by_cases h20 : k < 20
            · by_cases hkn : k < za.length
              · have HBI : Kept (Below w.heap.size w wi_) := ⟨(HB7.out.trans (HB7R.out.mono HB7.out.size)).trans (hbi.mono (Nat.le_trans HB7.out.size HB7R.out.size))⟩
                have hz := HAZ.out k
                have hcz := (HBI.out.cell (p := ⟨ba, oa + k, none⟩) HAB.out).trans (HAC.out k hkn)
                obtain ⟨z, hzz⟩ : ∃ z, za.getD k 0 = z := ⟨_, rfl⟩
                rw [hzz] at hz hcz
                obtain ⟨m, hm, hm4⟩ := maskK z 2 (by omega) 3 (by decide)
                have HZ : Kept (-9223372036854775808 ≤ z ∧ z ≤ 9223372036854775807) := ⟨hz⟩
                have hkn2 : (k : Int) < (za.length : Int) := by omega
                have h202 : (k : Int) < 20 := by omega
                have HR : Kept (Rd wi_ g l bad) := ⟨hrd⟩
                have HS : Kept (Sd wi_ w9.heap.size l bad) := ⟨hsd⟩
                have HBW : Kept (Below wo.heap.size wo wi_) := ⟨hbi⟩
                clear hz hzz hrd hsd hbi HOUT
                have HGW : Kept (wo.heap.size ≤ g ∧ wo.heap.size ≤ w9.heap.size) := ⟨HG9.out.1, HG9.out.2.size⟩
                have hwz : IntKind.i64.wrap (z / 4) = z / 4 := by have := HZ.out; rw [IntKind.wrap_i64]; omega
                go_upto_block 7 with fail
                go_cut [22] (fun _ wx => ∃ l' bad', Rd wx g l' bad' ∧ Sd wx w9.heap.size l' bad' ∧ l'.length ≤ 400 ∧ Below wo.heap.size wo wx)
                case first =>
                  rcases (show m = 0 ∨ m = 1 ∨ m = 2 ∨ m = 3 by omega) with rfl | rfl | rfl | rfl
                  · go_wp2_with fail
                    refine (rsmall_any g _ l bad HR.out).mono ?_
                    rintro e wa ⟨ho, rfl, hr⟩
                    have hs := both_sd HR.out HS.out ho
                    have HO1 : Kept (Only g wi_ wa) := ⟨ho⟩
                    have HR1 : Kept (Rd wa g (num l bad 4).2.1 (num l bad 4).2.2) := ⟨hr⟩
                    have HS1 : Kept (Sd wa w9.heap.size l bad) := ⟨hs⟩
                    clear ho hr hs
                    go_wp2_with fail
                    refine (qsmall_any w9.heap.size _ l bad HS1.out).mono ?_
                    rintro e wb ⟨ho, rfl, hs⟩
                    have hr := both_rd HR1.out HS1.out ho
                    have HO2 : Kept (Only w9.heap.size wa wb) := ⟨ho⟩
                    have HEND : Kept (∃ l' bad', Rd wb g l' bad' ∧ Sd wb w9.heap.size l' bad' ∧ l'.length ≤ 400 ∧ Below wo.heap.size wo wb) := ⟨_, _, hr, hs, Nat.le_trans (num_len _ _ _) hl4, Only.below (Only.below HBW.out HO1.out HGW.out.1) HO2.out HGW.out.2⟩
                    clear ho hr hs
                    go_wp2
                    go_meet
                    exact HEND.out
                  · go_wp2_with fail
                    refine (rbig_any g _ l bad HR.out).mono ?_
                    rintro e wa ⟨ho, rfl, hr⟩
                    have hs := both_sd HR.out HS.out ho
                    have HO1 : Kept (Only g wi_ wa) := ⟨ho⟩
                    have HR1 : Kept (Rd wa g (num l bad 8).2.1 (num l bad 8).2.2) := ⟨hr⟩
                    have HS1 : Kept (Sd wa w9.heap.size l bad) := ⟨hs⟩
                    clear ho hr hs
                    go_wp2_with fail
                    refine (qbig_any w9.heap.size _ l bad HS1.out).mono ?_
                    rintro e wb ⟨ho, rfl, hs⟩
                    have hr := both_rd HR1.out HS1.out ho
                    have HO2 : Kept (Only w9.heap.size wa wb) := ⟨ho⟩
                    have HEND : Kept (∃ l' bad', Rd wb g l' bad' ∧ Sd wb w9.heap.size l' bad' ∧ l'.length ≤ 400 ∧ Below wo.heap.size wo wb) := ⟨_, _, hr, hs, Nat.le_trans (num_len _ _ _) hl4, Only.below (Only.below HBW.out HO1.out HGW.out.1) HO2.out HGW.out.2⟩
                    clear ho hr hs
                    go_wp2
                    go_meet
                    exact HEND.out
                  · go_wp2_with fail
                    refine (rcount_any g _ l bad (z / 4) HR.out (by have := HZ.out; omega)).mono ?_
                    rintro e wa ⟨ho, rfl, hr⟩
                    have hs := both_sd HR.out HS.out ho
                    have HO1 : Kept (Only g wi_ wa) := ⟨ho⟩
                    have HR1 : Kept (Rd wa g (count l bad (z / 4)).2.1 (count l bad (z / 4)).2.2) := ⟨hr⟩
                    have HS1 : Kept (Sd wa w9.heap.size l bad) := ⟨hs⟩
                    clear ho hr hs
                    go_wp2_with fail
                    refine (qcount_any w9.heap.size _ l bad (z / 4) HS1.out (by have := HZ.out; omega)).mono ?_
                    rintro e wb ⟨ho, rfl, hs⟩
                    have hr := both_rd HR1.out HS1.out ho
                    have HO2 : Kept (Only w9.heap.size wa wb) := ⟨ho⟩
                    have HEND : Kept (∃ l' bad', Rd wb g l' bad' ∧ Sd wb w9.heap.size l' bad' ∧ l'.length ≤ 400 ∧ Below wo.heap.size wo wb) := ⟨_, _, hr, hs, Nat.le_trans (count_len _ _ _) hl4, Only.below (Only.below HBW.out HO1.out HGW.out.1) HO2.out HGW.out.2⟩
                    clear ho hr hs
                    go_wp2
                    go_meet
                    exact HEND.out
                  · by_cases h64 : 64 < z / 4
                    · obtain ⟨y, hy, hy6⟩ := maskK (z / 4) 6 (by omega) 63 (by decide)
                      obtain ⟨sx, hsx⟩ : ∃ s, strOfNums (tk l ((y : Int))) = s := ⟨_, rfl⟩
                      have HRD : Kept (Rd wi_.drew g l bad ∧ Sd wi_.drew w9.heap.size l bad) := ⟨HR.out.below (Below.refl _ _).drew, HS.out.below (Below.refl _ _).drew⟩
                      have H3 : Kept (Calls Try.prog 40 #[.pointer (some ⟨g, 0, none⟩), .int .i64 ((y : Int))] wi_.drew (Took g l bad ((y : Int)) Rd wi_.drew)) := ⟨rtake_any g _ l bad _ HRD.out.1 hl4⟩
                      have HLT : Kept (w9.heap.size < wi_.drew.heap.size) := ⟨by obtain ⟨_, _, hbx, _⟩ := HRD.out.2; exact hbx.lt⟩
                      have HSX : Kept (strOfNums (tk l ((y : Int))) = sx) := ⟨hsx⟩
                      clear hsx
                      go_wp2_with fail
                      refine wp_region_noPanic ?_
                      refine wp_region_held_drew (S := (fun _ => True)) (by kernel_rfl) ?_ (fun hHeld => ?_)
                      · trivial
                      refine wpAnyH_take (i := 0) (oi := ⟨some 144, _, _, _, _, _⟩) (v := ?_) rfl (by kernel_rfl) (by kernel_rfl) (by kernel_rfl) (fun _ _ _ h => h) (Or.inl ⟨by rfl, ?_⟩) hHeld ?_
                      rotate_left
                      · (intro wx hSw; (try dsimp only at hSw); go_simp; try with_reducible rfl)
                      try simp only [Act.put, List.setIfInBounds_toArray, List.set_cons_zero, List.set_cons_succ]
                      refine wpAnyH_take (i := 1) (oi := ⟨some 145, _, _, _, _, _⟩) (v := ?_) rfl (by kernel_rfl) (by kernel_rfl) (by kernel_rfl) (fun _ _ _ h => h) (Or.inl ⟨by rfl, ?_⟩) hHeld ?_
                      rotate_left
                      · (intro wx hSw; (try dsimp only at hSw); go_simp; try with_reducible rfl)
                      try simp only [Act.put, List.setIfInBounds_toArray, List.set_cons_zero, List.set_cons_succ]
                      refine wpAnyH_take (i := 4) (oi := ⟨some 148, _, _, _, _, _⟩) (v := ?_) rfl (by kernel_rfl) (by kernel_rfl) (by kernel_rfl) (fun _ _ _ h => h) (Or.inl ⟨by rfl, ?_⟩) hHeld ?_
                      rotate_left
                      · (intro wx hSw; (try dsimp only at hSw); go_simp; try with_reducible rfl)
                      try simp only [Act.put, List.setIfInBounds_toArray, List.set_cons_zero, List.set_cons_succ]
                      refine wpAnyH_take (i := 5) (oi := ⟨some 149, _, _, _, _, _⟩) (v := ?_) rfl (by kernel_rfl) (by kernel_rfl) (by kernel_rfl) (fun _ _ _ h => h) (Or.inl ⟨by rfl, ?_⟩) hHeld ?_
                      rotate_left
                      · (intro wx hSw; (try dsimp only at hSw); go_simp; try with_reducible rfl)
                      try simp only [Act.put, List.setIfInBounds_toArray, List.set_cons_zero, List.set_cons_succ]
                      refine wpAnyH_ready (rs := [2]) (by kernel_rfl) (by simp) (AllReadyH.cons (o := ⟨some 146, _, _, _, _, _⟩) rfl (fun K hK => ?_) AllReadyH.nil)
                      go_simp
                      refine H3.out.mono ?_
                      rintro e wa ⟨v5, rfl, ho5, hv5, hr5⟩
                      obtain ⟨A5, c5, rfl⟩ := hv5.slice
                      have hc5 := run_str hv5.any
                      rw [HSX.out] at hc5
                      have hs5 := both_sd HRD.out.1 HRD.out.2 ho5
                      have HV5 : Kept (Own wa wi_.drew.heap.size 5 (.slice A5 (tk l ((y : Int))).length c5) (tk l ((y : Int))) ∧ Only g wi_.drew wa ∧ Rd wa g (dr l ((y : Int))) (bd l bad ((y : Int))) ∧ Sd wa w9.heap.size l bad) := ⟨hv5, ho5, hr5, hs5⟩
                      have H6 : Kept (Calls Try.prog 41 #[.pointer (some ⟨w9.heap.size, 0, none⟩), .int .i64 ((y : Int))] wa (Took w9.heap.size l bad ((y : Int)) Sd wa)) := ⟨qtake_any _ _ l bad _ hs5⟩
                      clear hv5 ho5 hr5 hs5
                      refine hK.out _ _ ?_ (fun hHeld => ?_)
                      · trivial
                      clear hK K
                      try simp only [Act.put, List.setIfInBounds_toArray, List.set_cons_zero, List.set_cons_succ]
                      refine heldMore (S2 := fun W => (convert 28 9 (.slice A5 (tk l ((y : Int))).length c5)).run Try.prog W = .ok (.string sx) W) (fun _ _ => True.intro) _ _ _ _ ?_
                      replace hHeld : (fun W => (convert 28 9 (.slice A5 (tk l ((y : Int))).length c5)).run Try.prog W = .ok (.string sx) W) _ := hc5
                      refine wpAnyH_take (i := 3) (oi := ⟨some 147, _, _, _, _, _⟩) (v := ?_) rfl (by kernel_rfl) (by kernel_rfl) (by kernel_rfl) (fun _ _ _ h => h) (Or.inl ⟨by rfl, ?_⟩) hHeld ?_
                      rotate_left
                      · (intro wx hSw; (try dsimp only at hSw); go_simp; try with_reducible rfl)
                      try simp only [Act.put, List.setIfInBounds_toArray, List.set_cons_zero, List.set_cons_succ]
                      refine wpAnyH_ready (rs := [6]) (by kernel_rfl) (by simp) (AllReadyH.cons (o := ⟨some 150, _, _, _, _, _⟩) rfl (fun K hK => ?_) AllReadyH.nil)
                      go_simp
                      refine H6.out.mono ?_
                      rintro e wb ⟨v6, rfl, ho6, hv6, hs6⟩
                      obtain ⟨A6, c6, rfl⟩ := hv6.slice
                      have hc6 := run_str hv6.any
                      rw [HSX.out] at hc6
                      have hc55 := run_str ((HV5.out.1.sl w9.heap.size (.inl HLT.out)).only ho6)
                      rw [HSX.out] at hc55
                      have HE : Kept (∃ l' bad', Rd wb g l' bad' ∧ Sd wb w9.heap.size l' bad' ∧ l'.length ≤ 400 ∧ Below wo.heap.size wo wb) := ⟨dr l ((y : Int)), bd l bad ((y : Int)), both_rd HV5.out.2.2.1 HV5.out.2.2.2 ho6, hs6, Nat.le_trans (dr_len _ _) hl4, Only.below (Only.below HBW.out.drew HV5.out.2.1 HGW.out.1) ho6 HGW.out.2⟩
                      clear hv6 ho6 hs6
                      refine hK.out _ _ ?_ (fun hHeld => ?_)
                      · exact hc55
                      clear hK K
                      try simp only [Act.put, List.setIfInBounds_toArray, List.set_cons_zero, List.set_cons_succ]
                      refine heldMore (S2 := fun W => ((convert 28 9 (.slice A5 (tk l ((y : Int))).length c5)).run Try.prog W = .ok (.string sx) W) ∧ (convert 28 9 (.slice A6 (tk l ((y : Int))).length c6)).run Try.prog W = .ok (.string sx) W) (fun _ h => h.1) _ _ _ _ ?_
                      replace hHeld : (fun W => ((convert 28 9 (.slice A5 (tk l ((y : Int))).length c5)).run Try.prog W = .ok (.string sx) W) ∧ (convert 28 9 (.slice A6 (tk l ((y : Int))).length c6)).run Try.prog W = .ok (.string sx) W) _ := ⟨hc55, hc6⟩
                      refine wpAnyH_take (i := 7) (oi := ⟨some 151, _, _, _, _, _⟩) (v := ?_) rfl (by kernel_rfl) (by kernel_rfl) (by kernel_rfl) (fun _ _ _ h => h) (Or.inl ⟨by rfl, ?_⟩) hHeld ?_
                      rotate_left
                      · (intro wx hSw; (try dsimp only at hSw); go_simp; try with_reducible rfl)
                      try simp only [Act.put, List.setIfInBounds_toArray, List.set_cons_zero, List.set_cons_succ]
                      refine wpAnyH_take (i := 8) (oi := ⟨some 152, _, _, _, _, _⟩) (v := ?_) rfl (by kernel_rfl) (by kernel_rfl) (by kernel_rfl) (fun _ _ _ h => h) (Or.inl ⟨by rfl, ?_⟩) hHeld ?_
                      rotate_left
                      · (intro wx hSw; (try dsimp only at hSw); go_simp; try with_reducible rfl)
                      try simp only [Act.put, List.setIfInBounds_toArray, List.set_cons_zero, List.set_cons_succ]
                      refine wpAnyH_done (by kernel_rfl) ?_ _
                      refine NoPanic.normal ?_
                      go_wp2
                      go_meet
                      exact HE.out
                    · obtain ⟨sx, hsx⟩ : ∃ s, strOfNums (tk l (z / 4)) = s := ⟨_, rfl⟩
                      have HRD : Kept (Rd wi_.drew g l bad ∧ Sd wi_.drew w9.heap.size l bad) := ⟨HR.out.below (Below.refl _ _).drew, HS.out.below (Below.refl _ _).drew⟩
                      have H3 : Kept (Calls Try.prog 40 #[.pointer (some ⟨g, 0, none⟩), .int .i64 (z / 4)] wi_.drew (Took g l bad (z / 4) Rd wi_.drew)) := ⟨rtake_any g _ l bad _ HRD.out.1 hl4⟩
                      have HLT : Kept (w9.heap.size < wi_.drew.heap.size) := ⟨by obtain ⟨_, _, hbx, _⟩ := HRD.out.2; exact hbx.lt⟩
                      have HSX : Kept (strOfNums (tk l (z / 4)) = sx) := ⟨hsx⟩
                      clear hsx
                      go_wp2_with fail
                      refine wp_region_noPanic ?_
                      refine wp_region_held_drew (S := (fun _ => True)) (by kernel_rfl) ?_ (fun hHeld => ?_)
                      · trivial
                      refine wpAnyH_take (i := 0) (oi := ⟨some 144, _, _, _, _, _⟩) (v := ?_) rfl (by kernel_rfl) (by kernel_rfl) (by kernel_rfl) (fun _ _ _ h => h) (Or.inl ⟨by rfl, ?_⟩) hHeld ?_
                      rotate_left
                      · (intro wx hSw; (try dsimp only at hSw); go_simp; try with_reducible rfl)
                      try simp only [Act.put, List.setIfInBounds_toArray, List.set_cons_zero, List.set_cons_succ]
                      refine wpAnyH_take (i := 1) (oi := ⟨some 145, _, _, _, _, _⟩) (v := ?_) rfl (by kernel_rfl) (by kernel_rfl) (by kernel_rfl) (fun _ _ _ h => h) (Or.inl ⟨by rfl, ?_⟩) hHeld ?_
                      rotate_left
                      · (intro wx hSw; (try dsimp only at hSw); go_simp; try with_reducible rfl)
                      try simp only [Act.put, List.setIfInBounds_toArray, List.set_cons_zero, List.set_cons_succ]
                      refine wpAnyH_take (i := 4) (oi := ⟨some 148, _, _, _, _, _⟩) (v := ?_) rfl (by kernel_rfl) (by kernel_rfl) (by kernel_rfl) (fun _ _ _ h => h) (Or.inl ⟨by rfl, ?_⟩) hHeld ?_
                      rotate_left
                      · (intro wx hSw; (try dsimp only at hSw); go_simp; try with_reducible rfl)
                      try simp only [Act.put, List.setIfInBounds_toArray, List.set_cons_zero, List.set_cons_succ]
                      refine wpAnyH_take (i := 5) (oi := ⟨some 149, _, _, _, _, _⟩) (v := ?_) rfl (by kernel_rfl) (by kernel_rfl) (by kernel_rfl) (fun _ _ _ h => h) (Or.inl ⟨by rfl, ?_⟩) hHeld ?_
                      rotate_left
                      · (intro wx hSw; (try dsimp only at hSw); go_simp; try with_reducible rfl)
                      try simp only [Act.put, List.setIfInBounds_toArray, List.set_cons_zero, List.set_cons_succ]
                      refine wpAnyH_ready (rs := [2]) (by kernel_rfl) (by simp) (AllReadyH.cons (o := ⟨some 146, _, _, _, _, _⟩) rfl (fun K hK => ?_) AllReadyH.nil)
                      go_simp
                      refine H3.out.mono ?_
                      rintro e wa ⟨v5, rfl, ho5, hv5, hr5⟩
                      obtain ⟨A5, c5, rfl⟩ := hv5.slice
                      have hc5 := run_str hv5.any
                      rw [HSX.out] at hc5
                      have hs5 := both_sd HRD.out.1 HRD.out.2 ho5
                      have HV5 : Kept (Own wa wi_.drew.heap.size 5 (.slice A5 (tk l (z / 4)).length c5) (tk l (z / 4)) ∧ Only g wi_.drew wa ∧ Rd wa g (dr l (z / 4)) (bd l bad (z / 4)) ∧ Sd wa w9.heap.size l bad) := ⟨hv5, ho5, hr5, hs5⟩
                      have H6 : Kept (Calls Try.prog 41 #[.pointer (some ⟨w9.heap.size, 0, none⟩), .int .i64 (z / 4)] wa (Took w9.heap.size l bad (z / 4) Sd wa)) := ⟨qtake_any _ _ l bad _ hs5⟩
                      clear hv5 ho5 hr5 hs5
                      refine hK.out _ _ ?_ (fun hHeld => ?_)
                      · trivial
                      clear hK K
                      try simp only [Act.put, List.setIfInBounds_toArray, List.set_cons_zero, List.set_cons_succ]
                      refine heldMore (S2 := fun W => (convert 28 9 (.slice A5 (tk l (z / 4)).length c5)).run Try.prog W = .ok (.string sx) W) (fun _ _ => True.intro) _ _ _ _ ?_
                      replace hHeld : (fun W => (convert 28 9 (.slice A5 (tk l (z / 4)).length c5)).run Try.prog W = .ok (.string sx) W) _ := hc5
                      refine wpAnyH_take (i := 3) (oi := ⟨some 147, _, _, _, _, _⟩) (v := ?_) rfl (by kernel_rfl) (by kernel_rfl) (by kernel_rfl) (fun _ _ _ h => h) (Or.inl ⟨by rfl, ?_⟩) hHeld ?_
                      rotate_left
                      · (intro wx hSw; (try dsimp only at hSw); go_simp; try with_reducible rfl)
                      try simp only [Act.put, List.setIfInBounds_toArray, List.set_cons_zero, List.set_cons_succ]
                      refine wpAnyH_ready (rs := [6]) (by kernel_rfl) (by simp) (AllReadyH.cons (o := ⟨some 150, _, _, _, _, _⟩) rfl (fun K hK => ?_) AllReadyH.nil)
                      go_simp
                      refine H6.out.mono ?_
                      rintro e wb ⟨v6, rfl, ho6, hv6, hs6⟩
                      obtain ⟨A6, c6, rfl⟩ := hv6.slice
                      have hc6 := run_str hv6.any
                      rw [HSX.out] at hc6
                      have hc55 := run_str ((HV5.out.1.sl w9.heap.size (.inl HLT.out)).only ho6)
                      rw [HSX.out] at hc55
                      have HE : Kept (∃ l' bad', Rd wb g l' bad' ∧ Sd wb w9.heap.size l' bad' ∧ l'.length ≤ 400 ∧ Below wo.heap.size wo wb) := ⟨dr l (z / 4), bd l bad (z / 4), both_rd HV5.out.2.2.1 HV5.out.2.2.2 ho6, hs6, Nat.le_trans (dr_len _ _) hl4, Only.below (Only.below HBW.out.drew HV5.out.2.1 HGW.out.1) ho6 HGW.out.2⟩
                      clear hv6 ho6 hs6
                      refine hK.out _ _ ?_ (fun hHeld => ?_)
                      · exact hc55
                      clear hK K
                      try simp only [Act.put, List.setIfInBounds_toArray, List.set_cons_zero, List.set_cons_succ]
                      refine heldMore (S2 := fun W => ((convert 28 9 (.slice A5 (tk l (z / 4)).length c5)).run Try.prog W = .ok (.string sx) W) ∧ (convert 28 9 (.slice A6 (tk l (z / 4)).length c6)).run Try.prog W = .ok (.string sx) W) (fun _ h => h.1) _ _ _ _ ?_
                      replace hHeld : (fun W => ((convert 28 9 (.slice A5 (tk l (z / 4)).length c5)).run Try.prog W = .ok (.string sx) W) ∧ (convert 28 9 (.slice A6 (tk l (z / 4)).length c6)).run Try.prog W = .ok (.string sx) W) _ := ⟨hc55, hc6⟩
                      refine wpAnyH_take (i := 7) (oi := ⟨some 151, _, _, _, _, _⟩) (v := ?_) rfl (by kernel_rfl) (by kernel_rfl) (by kernel_rfl) (fun _ _ _ h => h) (Or.inl ⟨by rfl, ?_⟩) hHeld ?_
                      rotate_left
                      · (intro wx hSw; (try dsimp only at hSw); go_simp; try with_reducible rfl)
                      try simp only [Act.put, List.setIfInBounds_toArray, List.set_cons_zero, List.set_cons_succ]
                      refine wpAnyH_take (i := 8) (oi := ⟨some 152, _, _, _, _, _⟩) (v := ?_) rfl (by kernel_rfl) (by kernel_rfl) (by kernel_rfl) (fun _ _ _ h => h) (Or.inl ⟨by rfl, ?_⟩) hHeld ?_
                      rotate_left
                      · (intro wx hSw; (try dsimp only at hSw); go_simp; try with_reducible rfl)
                      try simp only [Act.put, List.setIfInBounds_toArray, List.set_cons_zero, List.set_cons_succ]
                      refine wpAnyH_done (by kernel_rfl) ?_ _
                      refine NoPanic.normal ?_
                      go_wp2
                      go_meet
                      exact HE.out
                case rest =>
                  obtain ⟨l3, bad3, hr3, hs3, hl3, hb3⟩ := hcut
                  obtain ⟨w4, rfl⟩ : ∃ w4 : World, w4 = wc := ⟨_, rfl⟩
                  obtain ⟨hfl, _⟩ := hs3.flag
                  have HR3 : Kept (Rd w4 g l3 bad3) := ⟨hr3⟩
                  have HS3 : Kept (Sd w4 w9.heap.size l3 bad3) := ⟨hs3⟩
                  have HB3 : Kept (Below wo.heap.size wo w4 ∧ l3.length ≤ 400) := ⟨hb3, hl3⟩
                  clear hr3 hs3 hb3 hl3
                  obtain ⟨em, hem⟩ : ∃ em : Bool, em = (!bad3 && l3.isEmpty) := ⟨_, rfl⟩
                  have HQ : Kept (∀ W, Below w4.heap.size w4 W → Calls Try.prog 24 #[.pointer (some ⟨g, 0, none⟩)] W (fun e w' => e = .returned (.bool !bad3) ∧ W = w') ∧ Calls Try.prog 25 #[.pointer (some ⟨g, 0, none⟩)] W (fun e w' => e = .returned (.bool em) ∧ W = w') ∧ Calls Try.prog 26 #[.pointer (some ⟨w9.heap.size, 0, none⟩)] W (fun e w' => e = .returned (.bool em) ∧ W = w')) := ⟨fun W h => by
                    refine ⟨ok_any g W l3 bad3 (HR3.out.below h), ?_, ?_⟩
                    · rw [hem]
                      cases bad3
                      · exact end_good g W l3 (HR3.out.below h)
                      · exact end_bad g W l3 (HR3.out.below h)
                    · rw [hem]; exact qend_any _ W l3 bad3 (HS3.out.below h)⟩
                  clear hem
                  have HFIN : Kept (∀ W, Below w4.heap.size w4 W → Two W g w9.heap.size l3 bad3 ∧ l3.length ≤ 400 ∧ Below wo.heap.size wo W) := ⟨fun W h => ⟨⟨HR3.out.below h, HS3.out.below h⟩, HB3.out.2, HB3.out.1.trans (h.mono HB3.out.1.size)⟩⟩
                  cases bad3 <;> cases em
                  · go_wp2
                    go_region_held3 (fun W => W.cell? ⟨w9.heap.size, 1, none⟩ = some (.bool false)) (first | exact hfl | rfl | assumption) (first | (go_at_call 24; refine (HQ.out _ (Below.refl _ _).drew).1.mono ?_; rintro e w5 ⟨rfl, rfl⟩) | (go_at_call 25; refine (HQ.out _ (Below.refl _ _).drew).2.1.mono ?_; rintro e w5 ⟨rfl, rfl⟩) | (go_at_call 26; refine (HQ.out _ (Below.refl _ _).drew).2.2.mono ?_; rintro e w5 ⟨rfl, rfl⟩))
                    go_wp2
                    refine ⟨⟨k + 1, l3, _, by go_num, by omega, HFIN.out _ (by first | exact Below.refl _ _ | exact (Below.refl _ _).drew)⟩, by simp [intOf]; omega⟩
                  · go_wp2
                    go_region_held3 (fun W => W.cell? ⟨w9.heap.size, 1, none⟩ = some (.bool false)) (first | exact hfl | rfl | assumption) (first | (go_at_call 24; refine (HQ.out _ (Below.refl _ _).drew).1.mono ?_; rintro e w5 ⟨rfl, rfl⟩) | (go_at_call 25; refine (HQ.out _ (Below.refl _ _).drew).2.1.mono ?_; rintro e w5 ⟨rfl, rfl⟩) | (go_at_call 26; refine (HQ.out _ (Below.refl _ _).drew).2.2.mono ?_; rintro e w5 ⟨rfl, rfl⟩))
                    go_wp2
                    refine ⟨⟨k + 1, l3, _, by go_num, by omega, HFIN.out _ (by first | exact Below.refl _ _ | exact (Below.refl _ _).drew)⟩, by simp [intOf]; omega⟩
                  · go_wp2
                    go_region_held3 (fun W => W.cell? ⟨w9.heap.size, 1, none⟩ = some (.bool true)) (first | exact hfl | rfl | assumption) (first | (go_at_call 24; refine (HQ.out _ (Below.refl _ _).drew).1.mono ?_; rintro e w5 ⟨rfl, rfl⟩) | (go_at_call 25; refine (HQ.out _ (Below.refl _ _).drew).2.1.mono ?_; rintro e w5 ⟨rfl, rfl⟩) | (go_at_call 26; refine (HQ.out _ (Below.refl _ _).drew).2.2.mono ?_; rintro e w5 ⟨rfl, rfl⟩))
                    go_wp2
                    refine ⟨⟨k + 1, l3, _, by go_num, by omega, HFIN.out _ (by first | exact Below.refl _ _ | exact (Below.refl _ _).drew)⟩, by simp [intOf]; omega⟩
                  · go_wp2
                    go_region_held3 (fun W => W.cell? ⟨w9.heap.size, 1, none⟩ = some (.bool true)) (first | exact hfl | rfl | assumption) (first | (go_at_call 24; refine (HQ.out _ (Below.refl _ _).drew).1.mono ?_; rintro e w5 ⟨rfl, rfl⟩) | (go_at_call 25; refine (HQ.out _ (Below.refl _ _).drew).2.1.mono ?_; rintro e w5 ⟨rfl, rfl⟩) | (go_at_call 26; refine (HQ.out _ (Below.refl _ _).drew).2.2.mono ?_; rintro e w5 ⟨rfl, rfl⟩))
                    go_wp2
                    refine ⟨⟨k + 1, l3, _, by go_num, by omega, HFIN.out _ (by first | exact Below.refl _ _ | exact (Below.refl _ _).drew)⟩, by simp [intOf]; omega⟩
              · have hkn2 : ((k : Int) < (za.length : Int)) = False := eq_false (by omega)
                clear hbi hrd hsd
                go_wp2
                exact ⟨⟨j + 1, by omega, by go_num, HOUT.out⟩, by simp [intOf]; omega⟩
            · have h202 : ((k : Int) < 20) = False := eq_false (by omega)
              clear hbi hrd hsd
              go_wp2
              all_goals exact ⟨⟨j + 1, by omega, by go_num, HOUT.out⟩, by simp [intOf]; omega⟩
        · obtain rfl : j = 5 := by omega
          go_wp2_with fail
          refine (awake2_any wr).mono ?_
          rintro e wz ⟨rfl, hbz⟩
          have HBZ : Kept (Below w.heap.size w wz) := ⟨(HB7.out.trans (HB7R.out.mono HB7.out.size)).trans (hbz.mono (Nat.le_trans HB7.out.size HB7R.out.size))⟩
          clear hbz hbr
          go_wp2
          go_ret
          exact ⟨rfl, HBZ.out⟩
end Go.Proofs.Ytccbpejjhcbboaa.lawPlays
