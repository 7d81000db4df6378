/- WirePlays, walked: nums may have no cells, acts may have none. -/
import Derived.Test.YtccbpejjhcbboaaPlaysA
namespace Go.Proofs.Ytccbpejjhcbboaa.lawPlays
open Go.ChangeShapes Go.WideShapes Go.ChangeAt Go.RowKit

set_option linter.unusedSimpArgs false in
set_option maxRecDepth 10000000 in
set_option maxHeartbeats 8000000 in
theorem walk_ee (rv : Value) (lr : List Int) (u : Nat) (at_ : Int) (by_ : Int) (w : World) (hrs : Sl w w.heap.size rv lr) (hry : Bys lr) (hrl : lr.length ≤ 200) (hu : u < 18446744073709551616) (hby : 0 ≤ by_ ∧ by_ ≤ 255)
    (An : Option Addr) (cn : Nat)
    (Aa : Option Addr) (ca : Nat) :
    Calls Try.prog 8 #[rv, .slice An 0 cn, .int .u64 (u : Int), .slice Aa 0 ca, .int .i64 at_, .int .u8 by_] w (YesPost w) := by
  obtain ⟨Ar, cr, rfl, _⟩ := id hrs
  have HRS : Kept (Sl w w.heap.size (.slice Ar lr.length cr) lr ∧ Bys lr) := ⟨hrs, hry⟩
  have HU : Kept (u < 18446744073709551616) := ⟨hu⟩
  have HBY : Kept (0 ≤ by_ ∧ by_ ≤ 255) := ⟨hby⟩
  have hrl2 : (lr.length : Int) ≤ 200 := by omega
  clear hrs hry hu hby
  go_enter Try.func8, Try.ntmps8
  go_upto_block 0 with fail
  go_cut [13, 14, 15] (fun b v _ wx => ∃ L, Own wx w.heap.size 5 b L ∧ Own wx w.heap.size 5 v L ∧ Bys L ∧ L.length ≤ 96 ∧ Below w.heap.size w wx)
  case first =>
    go_wp2_with fail
    go_loopw [13, 14, 15] (fun b v i wr => ∃ (j : Nat) (L : List Int), i = .int .i64 j ∧ j ≤ 12 ∧ Own wr w.heap.size 5 b L ∧ Own wr w.heap.size 5 v L ∧ Bys L ∧ L.length ≤ 8 * j ∧ Below w.heap.size w wr) (fun _ _ i _ => 12 - (intOf i).toNat)
    case atStart => exact ⟨0, [], rfl, by omega, own_nil _ _ _, own_nil _ _ _, Bys.nil, by simp, Below.refl _ _⟩
    case round =>
      obtain ⟨j, L, rfl, hj, hb, hv, hy, hl, hbel⟩ := hrel
      have HL : Kept (Bys L ∧ L.length ≤ 8 * j) := ⟨hy, hl⟩
      have HBEL : Kept (Below w.heap.size w wr) := ⟨hbel⟩
      have HOUT : Kept (∃ L, Own wr w.heap.size 5 _ L ∧ Own wr w.heap.size 5 _ L ∧ Bys L ∧ L.length ≤ 96 ∧ Below w.heap.size w wr) := ⟨L, hb, hv, hy, by omega, hbel⟩
      clear hb hv hy hl hbel
      go_wp2
      go_meet
      exact HOUT.out
  case rest =>
    obtain ⟨L, hb, hv, hy, hl, hbel⟩ := hcut
    obtain ⟨w1, rfl⟩ : ∃ w1 : World, w1 = wc := ⟨_, rfl⟩
    obtain ⟨Ab, cb, rfl⟩ := hb.slice
    obtain ⟨Av, cv, rfl⟩ := hv.slice
    obtain ⟨i0, hi, hz0, hz1, hz2⟩ := info_parts infoByte
    have hcb := run_str hb.any
    have hcv := run_str hv.any
    obtain ⟨S, hS⟩ : ∃ S, strOfNums L = S := ⟨_, rfl⟩
    rw [hS] at hcb hcv
    have HB : Kept (Own w1 w.heap.size 5 (.slice Ab L.length cb) L ∧ Bys L ∧ L.length ≤ 96) := ⟨hb, hy, hl⟩
    have HBEL : Kept (Below w.heap.size w w1) := ⟨hbel⟩
    clear hb hv hy hl hbel hS
    go_wp2_with (at_builtin; refine wpList_append_bytes rfl (.tmp 80) (.tmp 81) 28 rfl w1.heap.size 5 i0 Try.underlying28 hi hz0 hz1 hz2 _ [] rfl (own_empty w1 _) w1.heap.size _ L rfl ?c1 ?c2 ?c3 ?_)
    case c1 => exact HB.out.1.any.below ((Below.refl _ _).alloc (Nat.le_refl _) _)
    case c2 => have := HB.out.2.2; simp; omega
    case c3 => simp
    intro v2 w2 ho2 hg2
    obtain ⟨A2, c2, rfl⟩ := ho2.slice
    have hb2 : Below w1.heap.size w1 w2 := ((Below.refl w1.heap.size w1).alloc (Nat.le_refl _) (.cells #[] 5)).grown hg2 (by simp) (by simp [Value.ownBlock])
    have HO2 : Kept (Own w2 w1.heap.size 5 (.slice A2 L.length c2) L) := ⟨ho2⟩
    have HB2 : Kept (Below w1.heap.size w1 w2) := ⟨hb2⟩
    clear ho2 hg2 hb2 hcb hcv
    go_upto_if 85 with (fail)
    go_cut [] (fun wx => ∃ L2, Own wx w1.heap.size 5 (.slice A2 L.length c2) L2 ∧ Bys L2 ∧ L2.length = L.length ∧ Below w1.heap.size w1 wx)
    case first =>
      by_cases h0 : 0 < L.length
      · obtain ⟨q, hq, hq16⟩ := maskK at_ 16 (by omega) 65535 (by decide)
        have hLz : ((L.length : Int) == 0) = false := by rw [beq_eq_false_iff_ne]; omega
        have hL96 : L.length ≤ 96 := HB.out.2.2
        obtain ⟨r, hr⟩ : ∃ r, q % L.length = r := ⟨_, rfl⟩
        have hqm : r < L.length := by rw [← hr]; exact Nat.mod_lt _ h0
        have hqi : (r : Int) < (L.length : Int) := by omega
        rcases HO2.out.form with ⟨_, hx⟩ | ⟨gc, cap, cur, hx, _⟩
        · rw [hx] at h0
          simp at h0
        · injection hx with h1 h2 h3
          clear h2 h3
          subst h1
          obtain ⟨⟨z, hz⟩, hf, hgc, _⟩ := own_set_same HO2.out r hqm
          have hqq : (q : Int) % (L.length : Int) = (r : Int) := by rw [← hr, Int.natCast_emod]
          have HP : Kept (∃ L2, Own (w2.setCell ⟨gc, r, none⟩ (.int .u8 by_)) w1.heap.size 5 (.slice (some ⟨gc, 0, none⟩) L.length c2) L2 ∧ Bys L2 ∧ L2.length = L.length ∧ Below w1.heap.size w1 (w2.setCell ⟨gc, r, none⟩ (.int .u8 by_))) :=
            ⟨_, own_set HO2.out r by_, bys_set HB.out.2.1 _ _ HBY.out, List.length_set .., HB2.out.setCell hgc _⟩
          clear hr hqm
          go_wp2
          go_meet
          exact HP.out
      · have h00 : ((0 : Int) < (L.length : Int)) = False := eq_false (by omega)
        have HP : Kept (∃ L2, Own w2 w1.heap.size 5 (.slice A2 L.length c2) L2 ∧ Bys L2 ∧ L2.length = L.length ∧ Below w1.heap.size w1 w2) := ⟨L, HO2.out, HB.out.2.1, rfl, HB2.out⟩
        go_wp2
        go_meet
        exact HP.out
    case rest =>
      obtain ⟨L2, hc2, hy2, hl2, hbel2⟩ := hcut
      obtain ⟨w3, rfl⟩ : ∃ w3 : World, w3 = wc := ⟨_, rfl⟩
      have HC2 : Kept (Own w3 w1.heap.size 5 (.slice A2 L.length c2) L2 ∧ Bys L2 ∧ L2.length = L.length) := ⟨hc2, hy2, hl2⟩
      have HB3 : Kept (Below w1.heap.size w1 w3) := ⟨hbel2⟩
      have HSB : Kept (∀ W, Below w3.heap.size w3 W → Sl W W.heap.size (.slice Ab L.length cb) L) := ⟨fun W h => ((HB.out.1.below HB3.out).below h).any⟩
      have HSR : Kept (∀ W, Below w3.heap.size w3 W → Sl W W.heap.size (.slice Ar lr.length cr) lr) := ⟨fun W h => (((HRS.out.1.below HBEL.out).below HB3.out).below h).free _ (Nat.le_refl _)⟩
      have hl96 : (L.length : Int) ≤ 96 := by have := HB.out.2.2; omega
      obtain ⟨k2, hk2⟩ : ∃ k2, L.length / 2 = k2 := ⟨_, rfl⟩
      have hkc : (k2 : Int) ≤ (cb : Int) := by
        obtain ⟨_, _, e, hcc, _⟩ := HB.out.1.any
        injection e with _ _ e3
        omega
      have hd1 : (L.length : Int).tdiv 2 = (k2 : Int) := by rw [← hk2]; rfl
      have hd2 : (L.length : Int) / 2 = (k2 : Int) := by omega
      have hk96 : (k2 : Int) ≤ 96 := by omega
      have hkw : IntKind.i64.wrap (k2 : Int) = (k2 : Int) := by rw [IntKind.wrap_i64]; omega
      have HK2 : Kept (k2 ≤ L.length) := ⟨by omega⟩
      clear hk2
      clear hc2 hy2 hl2 hbel2
      go_wp2_with fail
      go_region_held3 (fun _ => True) (trivial) (first | (refine step_append_bytes rfl (.tmp 102) (.tmp 103) 28 rfl w3.heap.size 5 i0 Try.underlying28 hi hz0 hz1 hz2 (.slice (some ⟨w3.heap.size, 0, none⟩) 0 0) [] rfl (own_empty w3.drew _) _ _ L rfl (HSB.out _ ((Below.refl w3.heap.size w3).drew.alloc (Nat.le_refl _) _)) (by have := HB.out.2.2; simp; omega) (by simp) ?_; intro v6 w6 ho6 hg6; have hb6 : Below w3.heap.size w3 w6 := ((Below.refl w3.heap.size w3).drew.alloc (Nat.le_refl _) (.cells #[] 5)).grown hg6 (by simp) (by simp [Value.ownBlock])) | (refine step_append_bytes rfl (.tmp 104) (.tmp 105) 28 rfl w3.heap.size 5 i0 Try.underlying28 hi hz0 hz1 hz2 _ ([] ++ L) rfl ho6 _ _ lr rfl (HSR.out _ hb6) (by have := HB.out.2.2; simp; omega) hb6.size ?_; intro v7 w7 ho7 hg7; have hb7 := hb6.grown hg7 hb6.size (fun q hq => (Own.lt ho6 q hq).1); obtain ⟨A7, c7, rfl⟩ := ho7.slice))
      have HROWS : Kept (∀ j, j < 5 → ∃ Ax cx lx, #[Value.slice Ar lr.length cr, Value.slice Ab L.length cb, Value.slice A2 L.length c2, Value.slice Ab k2 cb, Value.slice A7 (L.length + lr.length) c7][j]? = some (.slice Ax (List.length lx) cx) ∧ Sl w7 w7.heap.size (.slice Ax (List.length lx) cx) lx ∧ Bys lx ∧ lx.length ≤ 400) := ⟨fun j hj => by
        have hL := HB.out.2.2
        have hsb := HSB.out w7 hb7
        rcases (show j = 0 ∨ j = 1 ∨ j = 2 ∨ j = 3 ∨ j = 4 by omega) with rfl | rfl | rfl | rfl | rfl
        · exact ⟨Ar, cr, lr, rfl, HSR.out w7 hb7, HRS.out.2, by omega⟩
        · exact ⟨Ab, cb, L, rfl, hsb, HB.out.2.1, by omega⟩
        · have hc := (HC2.out.1.below hb7).any
          refine ⟨A2, c2, L2, by rw [HC2.out.2.2]; rfl, by rw [HC2.out.2.2]; exact hc, HC2.out.2.1, by rw [HC2.out.2.2]; omega⟩
        · have hk := HK2.out
          refine ⟨Ab, cb, L.take k2, by rw [List.length_take, Nat.min_eq_left hk]; rfl, ?_, HB.out.2.1.take k2, by rw [List.length_take]; omega⟩
          rw [List.length_take, Nat.min_eq_left hk]
          exact sl_take hsb k2 hk
        · have h7 := ho7.any
          refine ⟨A7, c7, L ++ lr, by rw [List.length_append]; rfl, ?_, HB.out.2.1.app HRS.out.2, by rw [List.length_append]; omega⟩
          simpa using h7⟩
      have HB7 : Kept (Below w.heap.size w w7) := ⟨(HBEL.out.trans (HB3.out.mono HBEL.out.size)).trans (hb7.mono (Nat.le_trans HBEL.out.size HB3.out.size))⟩
      clear ho6 hg6 hb6 ho7 hg7 hb7 hkc hd1 hd2 hk96 hkw hl96
      go_wp2
      go_loopw [18, 19, 20, 21, 22, 109] (fun _ _ _ _ _ i wr => ∃ j : Nat, j ≤ 5 ∧ i = .int .i64 j ∧ Below (w7.heap.size + 1) (w7.alloc (.cells #[Value.slice Ar lr.length cr, Value.slice Ab L.length cb, Value.slice A2 L.length c2, Value.slice Ab k2 cb, Value.slice A7 (L.length + lr.length) c7] 28)) wr) (fun _ _ _ _ _ i _ => 5 - (intOf i).toNat)
      case atStart => exact ⟨0, by omega, rfl, Below.refl _ _⟩
      case round =>
        obtain ⟨j, hj, rfl, hbr⟩ := hrel
        have hbig : w7.heap.size + 1 ≤ wr.heap.size := by simpa using hbr.size
        have HB7R : Kept (Below w7.heap.size w7 wr) := ⟨((Below.refl _ _).alloc (Nat.le_refl _) _).trans (hbr.mono (Nat.le_succ _))⟩
        have HBR : Kept (Below (w7.heap.size + 1) (w7.alloc (.cells #[Value.slice Ar lr.length cr, Value.slice Ab L.length cb, Value.slice A2 L.length c2, Value.slice Ab k2 cb, Value.slice A7 (L.length + lr.length) c7] 28)) wr) := ⟨hbr⟩
        by_cases hlt : j < 5
        · obtain ⟨Ax, cx, lx, hrow, hsx, hyx, hlx⟩ := HROWS.out j hlt
          have hcell : wr.cell? ⟨w7.heap.size, j, none⟩ = some (.slice Ax lx.length cx) := ((hbr.cell (p := ⟨w7.heap.size, j, none⟩) (Nat.lt_succ_self _)).trans ((Box.fresh w7 28 _).cell j)).trans hrow
          have HSX : Kept (Sl wr wr.heap.size (.slice Ax lx.length cx) lx ∧ Bys lx ∧ lx.length ≤ 400) := ⟨(hsx.below HB7R.out).free _ (Nat.le_refl _), hyx, hlx⟩
          clear hrow hsx hyx hlx hbr
          go_wp2_with fail
          refine (read_any wr _ _ lx HSX.out.1 HSX.out.2.1 (by have := HSX.out.2.2; omega)).mono ?_
          rintro e w9 ⟨g, rfl, hg9, hr9, hb9⟩
          have hs9 : Sd (w9.alloc (.cells #[.slice Ax lx.length cx, .bool false] 49)) w9.heap.size lx false :=
            ⟨_, lx, Box.fresh _ _ _, (((HSX.out.1.below hb9).free w9.heap.size (Nat.le_refl _))).below ((Below.refl _ _).alloc (Nat.le_refl _) _), HSX.out.2.1, by have := HSX.out.2.2; omega, fun _ => rfl, fun h => by cases h⟩
          have HRD : Kept (Rd (w9.alloc (.cells #[.slice Ax lx.length cx, .bool false] 49)) g lx false) := ⟨hr9.below ((Below.refl _ _).alloc (Nat.le_refl _) _)⟩
          have HSD : Kept (Sd (w9.alloc (.cells #[.slice Ax lx.length cx, .bool false] 49)) w9.heap.size lx false) := ⟨hs9⟩
          have HG9 : Kept (wr.heap.size ≤ g ∧ Below wr.heap.size wr w9) := ⟨hg9, hb9⟩
          clear hg9 hr9 hb9 hs9 hcell
          obtain ⟨wo, rfl⟩ : ∃ wo : World, wo = wr := ⟨_, rfl⟩
          go_wp2
          go_loopw [21, 22] (fun i _ wi => ∃ (k : Nat) (l : List Int) (bad : Bool), i = .int .i64 k ∧ k ≤ 20 ∧ Two wi g w9.heap.size l bad ∧ l.length ≤ 400 ∧ Below wo.heap.size wo wi) (fun i _ _ => 20 - (intOf i).toNat)
          case atStart => exact ⟨0, lx, false, rfl, by omega, ⟨HRD.out, HSD.out⟩, HSX.out.2.2, HG9.out.2.alloc HG9.out.2.size _⟩
          case round =>
            obtain ⟨wi_, rfl⟩ : ∃ wi_ : World, wi_ = wr := ⟨_, rfl⟩
            obtain ⟨k, l, bad, rfl, hk, ⟨hrd, hsd⟩, hl4, hbi⟩ := hrel
            have HOUT : Kept (Below (w7.heap.size + 1) (w7.alloc (.cells #[Value.slice Ar lr.length cr, Value.slice Ab L.length cb, Value.slice A2 L.length c2, Value.slice Ab k2 cb, Value.slice A7 (L.length + lr.length) c7] 28)) _) := ⟨HBR.out.trans (hbi.mono hbig)⟩
            by_cases h20 : k < 20
            · have hkn2 : ((k : Int) < (0 : Int)) = False := eq_false (by omega)
              clear hbi hrd hsd
              go_wp2
              exact ⟨⟨j + 1, by omega, by go_num, HOUT.out⟩, by simp [intOf]; omega⟩
            · have h202 : ((k : Int) < 20) = False := eq_false (by omega)
              clear hbi hrd hsd
              go_wp2
              all_goals exact ⟨⟨j + 1, by omega, by go_num, HOUT.out⟩, by simp [intOf]; omega⟩
        · obtain rfl : j = 5 := by omega
          go_wp2_with fail
          refine (awake2_any wr).mono ?_
          rintro e wz ⟨rfl, hbz⟩
          have HBZ : Kept (Below w.heap.size w wz) := ⟨(HB7.out.trans (HB7R.out.mono HB7.out.size)).trans (hbz.mono (Nat.le_trans HB7.out.size HB7R.out.size))⟩
          clear hbz hbr
          go_wp2
          go_ret
          exact ⟨rfl, HBZ.out⟩
end Go.Proofs.Ytccbpejjhcbboaa.lawPlays
