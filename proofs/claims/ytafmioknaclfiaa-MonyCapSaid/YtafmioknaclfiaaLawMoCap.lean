/- As much as the cap is an amount and a sum, and one more is not, wherever it comes from: for every slice of numbers the law MonyCap returns true and leaves it as it was. No further condition. -/
import Derived.Test.YtafmioknaclfiaaMoA
import Derived.Test.YtafmioknaclfiaaArgK
import Derived.Deep.DeepCutAuto
namespace Go.Proofs.Ytafmioknaclfiaa.lawMoCap
open Go.ChangeShapes Go.WideShapes Go.ChangeAt Go.RowKit

set_option maxRecDepth 100000 in
theorem infoU64 : (Try.prog.info? 23).map (fun i => (i.zero, i.size, i.bytes)) = some (some (.int .u64 0), 1, 8) := by kernel_rfl

set_option maxRecDepth 100000 in
set_option maxHeartbeats 4000000 in
theorem walk (v : Value) (l : List Int) (w : World) (hs : SlK .u64 w v l) (hu : U64s l) (hm : l.length ≤ maxLen) :
    Calls Try.prog 3 #[v] w (YesK w) := by
  unfold maxLen at hm
  obtain ⟨i0, hi, hz0, hz1, hz2⟩ := info_parts infoU64
  have HI := Lib.hid (And.intro hi (And.intro hz0 (And.intro hz1 hz2)))
  have HU := Lib.hid hu
  have HS := Lib.hid hs
  obtain ⟨A, c, rfl, hc, hA, hr⟩ := hs
  clear hi hz0 hz1 hz2 hu hA hr
  go_enter Try.func3, Try.ntmps3
  go_wp2
  go_loopw [4, 5, 6] (fun r x i wr => ∃ (k : Nat) (t : List Int) (xv : Value), k ≤ 20 ∧ i = .int .i64 k ∧ x = xv ∧ r = .int .u64 (2100000000000000 - tot t) ∧ Hid (k ≤ l.length ∧ t.length = k ∧ U64s t ∧ tot t ≤ 2100000000000000 ∧ OwnK .u64 wr w.heap.size 23 xv t ∧ Below w.heap.size w wr)) (fun _ _ i _ => 20 - (intOf i).toNat)
  case atStart => exact ⟨0, [], _, by omega, rfl, rfl, rfl, Lib.hid ⟨by omega, rfl, (fun x hx => by cases hx), by simp [tot], OwnK.none .u64 w _ _, Below.refl _ _⟩⟩
  case round =>
    obtain ⟨k, t, xv, hk, rfl, rfl, rfl, H⟩ := hrel
    by_cases hlt : k < l.length ∧ k < 20
    · obtain ⟨hlt, hk20⟩ := hlt
      obtain ⟨_, hlen, ht, hcap, hown, hbel⟩ := H.out
      obtain ⟨A', c', e, _, _, hr⟩ := HS.out.below hbel
      injection e with e1 e2 e3
      subst e1
      subst e3
      obtain ⟨b, off, rfl, hb, hrun⟩ := hr (by intro h; rw [h] at hlt; simp at hlt)
      have hcell := hrun k hlt
      obtain ⟨x, hx⟩ : ∃ x, l.getD k 0 = x := ⟨_, rfl⟩
      obtain ⟨r, hr⟩ : ∃ r, 2100000000000000 - tot t = r := ⟨_, rfl⟩
      have hxb := HU.out.at k
      have htn := tot_nn ht
      rw [hx] at hcell hxb
      rw [hr]
      have hw1 : IntKind.u64.wrap (r + 1) = r + 1 := by rw [IntKind.wrap_u64]; omega
      have hz1 : (r + 1 == 0) = false := by simp; omega
      have hz2 : (r + 1 = 0) = False := by simp; omega
      obtain ⟨y, hy⟩ : ∃ y, x.tmod (r + 1) = y := ⟨_, rfl⟩
      have hyb : 0 ≤ y ∧ y ≤ r := by
        rw [← hy, Int.tmod_eq_emod_of_nonneg hxb.1]
        have h1 := Int.emod_nonneg x (show r + 1 ≠ 0 by omega)
        have h2 := Int.emod_lt_of_pos x (show 0 < r + 1 by omega)
        omega
      have hw2 : IntKind.u64.wrap (r - y) = r - y := by rw [IntKind.wrap_u64]; omega
      have HY := Lib.hid hyb
      have HR := Lib.hid hr
      have HOWN := Lib.hid hown
      have HB := Lib.hid hbel
      have HLT := Lib.hid (And.intro hlen (And.intro ht hcap))
      obtain ⟨A5, c5, hv5⟩ := hown.slice
      rw [hv5]
      have HV5 := Lib.hid hv5
      clear hrun hb hlen ht hcap hown hbel hr hxb htn hyb hx hv5
      have hk20' : (k : Int) < 20 := by omega
      go_wp2_with ((at_builtin; refine wpList_append_nums .u64 8 (by omega) rfl (.tmp 32) (.tmp 34) 22 rfl w.heap.size 23 i0 Try.underlying22 HI.out.1 HI.out.2.1 HI.out.2.2.1 HI.out.2.2.2 _ t HV5.out.symm (HOWN.out.below ((Below.refl _ _).alloc (Nat.le_refl _) _)) _ [y] rfl (SlK.fresh .u64 wr 23 [y]) (by have := HLT.out.1; simp; omega) (Nat.le_trans HB.out.size (by simp)) ?_; intro v' w1 ho1 hg1; have HO1 := Lib.hid ho1; have HG1 := Lib.hid ((HOWN.out.below ((Below.refl _ _).alloc (Nat.le_refl _) (.cells #[.int .u64 y] 23))).grows (HB.out.alloc HB.out.size _) hg1 (Nat.le_refl _)); clear ho1 hg1))
      go_round
      case rel =>
        refine ⟨k + 1, t ++ [y], _, by omega, by go_num, rfl, ?_, Lib.hid ⟨by omega, by simp [HLT.out.1], ?_, ?_, HO1.out, HG1.out⟩⟩
        · rw [tot_app]; have := HR.out; simp [tot]; omega
        · intro z hz
          rcases List.mem_append.1 hz with hz | hz
          · exact HLT.out.2.1 z hz
          · simp at hz; have := HY.out; have := HR.out; have := tot_nn HLT.out.2.1; omega
        · rw [tot_app]; have := HR.out; have := HY.out; simp [tot]; omega
      case measure => simp [intOf]; omega
    · obtain ⟨_, hlen, ht, hcap, hown, hbel⟩ := H.out
      obtain ⟨r, hr⟩ : ∃ r, 2100000000000000 - tot t = r := ⟨_, rfl⟩
      rw [hr]
      have htn := tot_nn ht
      have HR := Lib.hid hr
      have HRB := Lib.hid (show 0 ≤ r ∧ r ≤ 2100000000000000 by omega)
      have HOWN := Lib.hid hown
      have HB := Lib.hid hbel
      have HLT := Lib.hid (And.intro hlen (And.intro ht hcap))
      obtain ⟨A5, c5, hv5⟩ := hown.slice
      rw [hv5]
      have HV5 := Lib.hid hv5
      have HT0 : Hid (U64s (t ++ [r]) ∧ tot (t ++ [r]) = 2100000000000000 ∧ U64s (t ++ [r] ++ [1]) ∧ tot (t ++ [r] ++ [1]) = 2100000000000001) := by
        have h1 : U64s (t ++ [r]) := by
          intro z hz
          rcases List.mem_append.1 hz with hz | hz
          · exact ht z hz
          · simp at hz; omega
        refine Lib.hid ⟨h1, by rw [tot_app]; simp [tot]; omega, ?_, by rw [tot_app, tot_app]; simp [tot]; omega⟩
        intro z hz
        rcases List.mem_append.1 hz with hz | hz
        · exact h1 z hz
        · simp at hz; omega
      obtain ⟨t1, ht1⟩ : ∃ t1, t ++ [r] = t1 := ⟨_, rfl⟩
      obtain ⟨t2, ht2⟩ : ∃ t2, t1 ++ [1] = t2 := ⟨_, rfl⟩
      have hl1 : t1.length ≤ 21 := by rw [← ht1]; simp; omega
      have hl2 : t2.length ≤ 22 := by rw [← ht2]; simp; omega
      have HT := HT0.out
      rw [ht1, ht2] at HT
      have HS1 : Hid (∀ v W, SlK .u64 W v t1 → Calls Try.prog 7 #[v] W fun e w' => e = .returned (.tuple #[.int .u64 2100000000000000, .bool true]) ∧ W = w') := by
        refine Lib.hid fun v W h => ?_
        have := sum_any v t1 W h HT.1 (by simp [maxLen]; omega)
        rw [sumV_yes (by rw [HT.2.1]; exact Int.le_refl _), HT.2.1] at this
        exact this
      have HS2 : Hid (∀ v W, SlK .u64 W v t2 → Calls Try.prog 7 #[v] W fun e w' => e = .returned (.tuple #[.int .u64 0, .bool false]) ∧ W = w') := by
        refine Lib.hid fun v W h => ?_
        have := sum_any v t2 W h HT.2.2.1 (by simp [maxLen]; omega)
        rw [sumV_no (by rw [HT.2.2.2]; decide)] at this
        exact this
      have HL1 := Lib.hid hl1
      have HL2 := Lib.hid hl2
      have HE1 := Lib.hid ht1
      have HE2 := Lib.hid ht2
      clear hl1 hl2 ht1 ht2 HT HT0
      have HD := Lib.hid (fun W => less_yes 2100000000000000 r W HRB.out.2 HRB.out.1 (by omega))
      have HM : Hid (k < l.length → ¬ (k : Int) < 20) := Lib.hid (by omega)
      obtain ⟨d, hd⟩ : ∃ d, 2100000000000000 - r = d := ⟨_, rfl⟩
      rw [hd] at HD
      have hwd : IntKind.u64.wrap d = d := by have := HRB.out; rw [IntKind.wrap_u64]; omega
      clear hlen ht hcap hown hbel hr htn hv5 hlt
      have HLK : Hid (t.length + 1 ≤ 1000) := Lib.hid (by have := HLT.out.1; omega)
      by_cases hk1 : k < l.length
      all_goals
        try have h20 := HM.out hk1
        clear HM
        go_wp2_with ((at_builtin; refine wpList_append_nums .u64 8 (by omega) rfl (.tmp 39) (.tmp 41) 22 rfl w.heap.size 23 i0 Try.underlying22 HI.out.1 HI.out.2.1 HI.out.2.2.1 HI.out.2.2.2 _ t HV5.out.symm (HOWN.out.below ((Below.refl _ _).alloc (Nat.le_refl _) _)) _ [r] rfl (SlK.fresh .u64 wr 23 [r]) (by have := HLT.out.1; simp; omega) (Nat.le_trans HB.out.size (by simp)) ?_; intro v6 w6 ho6 hg6; have HG6 := Lib.hid ((HOWN.out.below ((Below.refl _ _).alloc (Nat.le_refl _) (.cells #[.int .u64 r] 23))).grows (HB.out.alloc HB.out.size _) hg6 (Nat.le_refl _)); rw [HE1.out] at ho6; obtain ⟨A6, c6, rfl⟩ := ho6.slice; have HO6 := Lib.hid ho6; clear ho6 hg6))
        refine (HS1.out _ _ HO6.out.sl).mono ?_
        rintro e w' ⟨rfl, rfl⟩
        go_wp2_with ((at_builtin; refine wpList_append_nums .u64 8 (by omega) rfl (.tmp 49) (.tmp 50) 22 rfl w.heap.size 23 i0 Try.underlying22 HI.out.1 HI.out.2.1 HI.out.2.2.1 HI.out.2.2.2 _ t1 rfl (HO6.out.below ((Below.refl _ _).alloc (Nat.le_refl _) _)) _ [1] rfl (SlK.fresh .u64 w6 23 [1]) (by have := HL1.out; simp; omega) (Nat.le_trans HG6.out.size (by simp)) ?_; intro v7 w7 ho7 hg7; have HG7 := Lib.hid ((HO6.out.below ((Below.refl _ _).alloc (Nat.le_refl _) (.cells #[.int .u64 1] 23))).grows (HG6.out.alloc HG6.out.size _) hg7 (Nat.le_refl _)); rw [HE2.out] at ho7; obtain ⟨A7, c7, rfl⟩ := ho7.slice; have HO7 := Lib.hid ho7; clear ho7 hg7))
        refine (HS2.out _ _ HO7.out.sl).mono ?_
        rintro e w' ⟨rfl, rfl⟩
        go_wp2_with fail
        refine (HD.out _).mono ?_
        rintro e w' ⟨rfl, rfl⟩
        go_wp2_with fail
        refine (ok_yes 2100000000000000 _ (by omega)).mono ?_
        rintro e w' ⟨rfl, rfl⟩
        go_wp2_with fail
        refine (ok_no 2100000000000001 _ (by omega)).mono ?_
        rintro e w' ⟨rfl, rfl⟩
        go_wp2_with fail
        refine (ok_no 18446744073709551615 _ (by omega)).mono ?_
        rintro e w' ⟨rfl, rfl⟩
        go_wp2_with fail
        refine (awake5_any _).mono ?_
        rintro e w8 ⟨rfl, hb8⟩
        go_wp2
        go_ret
        exact ⟨rfl, HG7.out.trans (hb8.mono HG7.out.size)⟩

theorem u64s_of {l : List Int} (h : ∀ x ∈ l, (Lit.int .u64 x).wf = true) : U64s l := fun x hx => bd_u64 (h x hx)

set_option maxRecDepth 100000 in
theorem lifted (os : Os) (started : os.Started) (H : Type) (enc : TypeId × Value → H) :
    ReturnsInHanded {} Try.checked os 3 .any (Rows.monyCapSpec.pre6 enc Try.prog Try.f3 Rows.monyCapRow.domain false) (Rows.monyCapSpec.post enc Try.prog Try.f3 false true false false) := by
  refine returnsInHanded_of_change (C := Try.checked) ownKnobNone started (by kernel_rfl) Try.func3
    (ChangeSpec.witness6 (enc := enc) (C := Try.checked) false ⟨#[], #[.slice none 0 0], []⟩ 8 (by kernel_rfl) (by kernel_rfl) (by kernel_rfl) (by kernel_rfl)) ?_
  intro W base args ds gs before hval0 hW _ _
  have hval : ∀ (j : Nat) t v, Try.f3.params[j]? = some t → args[j]? = some v → Value.okWide Try.prog W .any base t v := hval0
  have hW' := hW
  obtain ⟨p, q, hA0, hV, rfl, _, _⟩ := hW
  have hA : DataW.TrodAll enc Try.prog W 0 (fun _ => true) true Try.f3.params.toList args.toList ds p := hA0
  rw [Try.params3] at hA hval
  obtain ⟨v0, vs0, d0, ds0, p0, q0, hargs, rfl, rfl, h0, r0⟩ := trodAll_cons hA
  obtain ⟨rfl, rfl, rfl⟩ := trodAll_nil r0
  obtain rfl : args = #[v0] := by cases args; simp_all
  obtain ⟨rfl, rfl⟩ := trodVars_none hV
  obtain ⟨l0, s0, y0, z0⟩ := ks_arg Try.underlying22 Try.underlying23 (by kernel_rfl) (hval 0 22 v0 rfl rfl) h0
  clear hA0 hval0
  refine (walk v0 l0 W s0 (u64s_of y0) z0).mono fun e W' ⟨he, hb⟩ => ?_
  subst he
  exact ⟨_, rfl, law_post hW' rfl rfl (by kernel_rfl) rfl hb⟩

set_option maxRecDepth 100000 in
theorem over : Rows.monyCapRow.holds Try.pinned (OpenSpec.ofChange Rows.monyCapSpec) :=
  OpenClaim.holds_of_wide 3 Try.f3 rfl rfl rfl rfl rfl rfl rfl ⟨rfl, rfl, rfl, rfl, rfl⟩ rfl rfl rfl rfl rfl (by kernel_rfl) Try.func3 (by kernel_rfl)
    (of_decide_eq_true (by kernel_rfl)) (by unfold Func.isWrapper; first | (rw [if_pos (by decide +kernel)]; kernel_rfl) | (rw [if_neg (by decide +kernel)]; exact ⟨rfl, rfl⟩))
    (fun os started H enc _ => lifted os started H enc)

/-- The statement. -/
theorem proved : Rows.MonyCapSaid :=
  over
end Go.Proofs.Ytafmioknaclfiaa.lawMoCap
