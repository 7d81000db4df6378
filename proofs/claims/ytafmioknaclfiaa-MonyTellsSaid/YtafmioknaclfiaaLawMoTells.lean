/- Any amounts come to the sum that the document says, or to none, and one less another one likewise: for every slice of numbers, every two numbers and either flag the law MonyTells returns true and leaves them as they were. No further condition. -/
import Derived.Test.YtafmioknaclfiaaMoA
import Derived.Test.YtafmioknaclfiaaArgK
import Derived.Test.YtafmioknaclfiaaNumK
import Derived.Deep.DeepCutAuto
import Derived.RegionTactic
import Derived.ChangeAlike
namespace Go.Proofs.Ytafmioknaclfiaa.lawMoTells
open Go.ChangeShapes Go.WideShapes Go.ChangeAt Go.RowKit

set_option maxRecDepth 100000 in
theorem infoU64 : (Try.prog.info? 23).map (fun i => (i.zero, i.size, i.bytes)) = some (some (.int .u64 0), 1, 8) := by kernel_rfl

set_option maxRecDepth 100000 in
set_option maxHeartbeats 1000000 in
theorem walk_long (v : Value) (l : List Int) (a b : Int) (near : Bool) (w : World) (hs : SlK .u64 w v l) (hm : l.length ≤ maxLen) (hl : 60 < l.length) :
    Calls Try.prog 5 #[v, .int .u64 a, .int .u64 b, .bool near] w (YesK w) := by
  unfold maxLen at hm
  obtain ⟨A, c, rfl, _⟩ := hs
  go_enter Try.func5, Try.ntmps5
  go_wp2_with fail
  refine (awake5_any w).mono ?_
  rintro e w1 ⟨rfl, hb⟩
  go_wp2
  go_ret
  exact ⟨rfl, hb⟩

theorem sumV_form (l : List Int) : ∃ p o, sumV l = .tuple #[.int .u64 p, .bool o] := by
  unfold sumV
  split
  · exact ⟨_, _, rfl⟩
  · exact ⟨_, _, rfl⟩

set_option maxRecDepth 100000 in
set_option maxHeartbeats 4000000 in
theorem walk_near (v : Value) (l : List Int) (a b : Int) (w : World) (hs : SlK .u64 w v l) (hu : U64s l) (hl : l.length ≤ 60) (ha : 0 ≤ a ∧ a ≤ 18446744073709551615) (hb : 0 ≤ b ∧ b ≤ 18446744073709551615) :
    Calls Try.prog 5 #[v, .int .u64 a, .int .u64 b, .bool true] w (YesK w) := by
  obtain ⟨i0, hi, hz0, hz1, hz2⟩ := info_parts infoU64
  have HI := Lib.hid (And.intro hi (And.intro hz0 (And.intro hz1 hz2)))
  have HU := Lib.hid hu
  have HS := Lib.hid hs
  have HA := Lib.hid ha
  have HBB := Lib.hid hb
  have hl2 : (l.length : Int) ≤ 60 := by omega
  obtain ⟨A, c, rfl, hc, hA, hr⟩ := hs
  clear hi hz0 hz1 hz2 hu hA hr ha hb
  go_enter Try.func5, Try.ntmps5
  go_wp2_with ((at_builtin; refine wpList_append_nums .u64 8 (by omega) rfl (.tmp 21) (.tmp 22) 22 rfl w.heap.size 23 i0 Try.underlying22 HI.out.1 HI.out.2.1 HI.out.2.2.1 HI.out.2.2.2 _ [] rfl (OwnK.fresh .u64 w 23 [] (by simp)) _ l rfl (HS.out.below ((Below.refl _ _).alloc (Nat.le_refl _) _)) (by simp; omega) (by simp) ?_; intro v1 w1 ho1 hg1; have HG1 := Lib.hid ((OwnK.fresh .u64 w 23 [] (by simp)).grows ((Below.refl _ _).alloc (Nat.le_refl _) _) hg1 (Nat.le_refl _)); rw [List.nil_append] at ho1; obtain ⟨A1, c1, rfl⟩ := ho1.slice; have HO1 := Lib.hid ho1; clear ho1 hg1))
  go_loopw [10, 27] (fun _ i wr => ∃ (k : Nat) (t : List Int), k ≤ l.length ∧ i = .int .i64 k ∧ Hid (t.length = l.length ∧ U64s t ∧ OwnK .u64 wr w.heap.size 23 (.slice A1 l.length c1) t ∧ Below w.heap.size w wr)) (fun _ i _ => l.length - (intOf i).toNat)
  case atStart => exact ⟨0, l, by omega, rfl, Lib.hid ⟨rfl, HU.out, HO1.out, HG1.out⟩⟩
  case round =>
    obtain ⟨k, t, hk, rfl, H⟩ := hrel
    by_cases hlt : k < l.length
    · obtain ⟨htl, ht, hown, hbel⟩ := H.out
      obtain ⟨A', c', e, _, _, hr⟩ := HS.out.below hbel
      injection e with e1 e2 e3
      subst e1
      subst e3
      obtain ⟨b0, off, rfl, hb, hrun⟩ := hr (by intro h; rw [h] at hlt; simp at hlt)
      have hcell := hrun k hlt
      obtain ⟨x, hx⟩ : ∃ x, l.getD k 0 = x := ⟨_, rfl⟩
      have hxb := HU.out.at k
      rw [hx] at hcell hxb
      rcases hown.form with ⟨h1, h2⟩ | ⟨g, cap, cur, h1, hbg, hbox, _⟩
      · rw [h2] at htl; simp at htl; omega
      injection h1 with h1 _ h3
      subst h1
      subst h3
      have hat := hown.at k (by omega)
      have hwm := (hown.warm k).1
      obtain ⟨z, hz⟩ : ∃ z, t.getD k 0 = z := ⟨_, rfl⟩
      rw [hz] at hat
      obtain ⟨n, hn⟩ : ∃ n, l.length = n := ⟨_, rfl⟩
      obtain ⟨q, hq⟩ : ∃ q, (2100000000000000 : Int).tdiv (n : Int) = q := ⟨_, rfl⟩
      have hqb : 35000000000000 ≤ q ∧ q ≤ 2100000000000000 := by
        rw [← hq, Int.tdiv_eq_ediv_of_nonneg (by omega)]
        constructor
        · exact (Int.le_ediv_iff_mul_le (by omega)).2 (by omega)
        · exact Int.ediv_le_self _ (by omega)
      obtain ⟨m, hm, hm3⟩ := kmask_u64 x 2 (by omega) 3 (by decide)
      have hw1 : IntKind.u64.wrap (n : Int) = n := by rw [IntKind.wrap_u64]; omega
      have hw2 : IntKind.u64.wrap q = q := by rw [IntKind.wrap_u64]; omega
      have hw3 : IntKind.u64.wrap (q + m) = q + m := by rw [IntKind.wrap_u64]; omega
      have hw4 : IntKind.u64.wrap (q + m - 1) = q + m - 1 := by rw [IntKind.wrap_u64]; omega
      have hn0 : ((n : Int) = 0) = False := by simp; omega
      have hkn : (k : Int) < (n : Int) := by omega
      have hk0 : (0 : Int) ≤ (k : Int) := by omega
      have HQB := Lib.hid hqb
      have HM3 := Lib.hid hm3
      have HX := Lib.hid hx
      have HZ := Lib.hid hz
      have HXB := Lib.hid hxb
      have HOWN := Lib.hid hown
      have HB := Lib.hid hbel
      have HT := Lib.hid (And.intro htl ht)
      have HBG := Lib.hid hbg
      have HN := Lib.hid hn
      simp only [hn]
      clear hqb hm3 hx hz hxb hown hbel htl ht hbg hbox hrun hb hr hn
      go_wp2_with fail
      go_region
      go_wp2
      go_roundw
      case rel =>
        have hbs : Below w.heap.size w (wr.setCell ⟨g, k, none⟩ (.int .u64 (q + m - 1))) := HB.out.setCell HBG.out _
        refine ⟨k + 1, t.set k (q + m - 1), by have := HN.out; omega, by go_num, Lib.hid ⟨by rw [List.length_set, HT.out.1]; exact HN.out, ?_, ?_, hbs.drew⟩⟩
        · intro y hy
          rcases List.mem_or_eq_of_mem_set hy with hy | rfl
          · exact HT.out.2 y hy
          · have := HQB.out; have := HM3.out; omega
        · exact (HN.out ▸ HOWN.out.set k (q + m - 1)).below (Below.refl _ _).drew
      case measure => simp [intOf]; omega
    · obtain ⟨htl, ht, hown, hbel⟩ := H.out
      have HOWN := Lib.hid hown
      have HB := Lib.hid hbel
      have HT := Lib.hid (And.intro htl ht)
      clear htl ht hown hbel
      have hum : t.length ≤ maxLen := by simp [maxLen]; have := HT.out.1; omega
      obtain ⟨p, o, hpo⟩ := sumV_form t
      have HSUM := Lib.hid (sum_any (.slice A1 l.length c1) t wr HOWN.out.sl HT.out.2 hum)
      have HTOT := Lib.hid (total_any (.slice A1 l.length c1) t wr HOWN.out.sl HT.out.2 hum)
      rw [hpo] at HSUM HTOT
      have HOK : Hid (∀ w, Calls Try.prog 9 #[.int .u64 a] w fun e w' => e = .returned (.bool (decide (a ≤ 2100000000000000))) ∧ w = w') := by
        refine Lib.hid fun w => ?_
        by_cases h : a ≤ 2100000000000000
        · rw [decide_eq_true h]; exact ok_yes a w h
        · rw [decide_eq_false h]; exact ok_no a w (by omega)
      clear hum hpo
      by_cases hab : b ≤ a
      · have HL := Lib.hid (fun w => less_yes a b w hab HBB.out.1 HA.out.2)
        obtain ⟨d, hd⟩ : ∃ d, a - b = d := ⟨_, rfl⟩
        have hwd : IntKind.u64.wrap d = d := by have := HA.out; have := HBB.out; rw [IntKind.wrap_u64]; omega
        have hba : (b ≤ a) = True := by simp [hab]
        rw [hd] at HL
        clear hab
        go_wp2_with fail
        refine HSUM.out.mono ?_
        rintro e w' ⟨rfl, rfl⟩
        go_wp2_with fail
        refine HTOT.out.mono ?_
        rintro e w' ⟨rfl, rfl⟩
        go_wp2_with fail
        refine (HL.out _).mono ?_
        rintro e w' ⟨rfl, rfl⟩
        go_wp2_with fail
        refine (HOK.out _).mono ?_
        rintro e w' ⟨rfl, rfl⟩
        go_wp2_with fail
        refine (awake5_any _).mono ?_
        rintro e w8 ⟨rfl, hb8⟩
        go_wp2
        go_ret
        exact ⟨rfl, HB.out.trans (hb8.mono HB.out.size)⟩
      · have HL := Lib.hid (fun w => less_no a b w (by omega))
        have hba : (b ≤ a) = False := by simp; omega
        clear hab
        go_wp2_with fail
        refine HSUM.out.mono ?_
        rintro e w' ⟨rfl, rfl⟩
        go_wp2_with fail
        refine HTOT.out.mono ?_
        rintro e w' ⟨rfl, rfl⟩
        go_wp2_with fail
        refine (HL.out _).mono ?_
        rintro e w' ⟨rfl, rfl⟩
        go_wp2_with fail
        refine (HOK.out _).mono ?_
        rintro e w' ⟨rfl, rfl⟩
        go_wp2_with fail
        refine (awake5_any _).mono ?_
        rintro e w8 ⟨rfl, hb8⟩
        go_wp2
        go_ret
        exact ⟨rfl, HB.out.trans (hb8.mono HB.out.size)⟩

set_option maxRecDepth 100000 in
set_option maxHeartbeats 4000000 in
theorem walk_far (v : Value) (l : List Int) (a b : Int) (w : World) (hs : SlK .u64 w v l) (hu : U64s l) (hl : l.length ≤ 60) (ha : 0 ≤ a ∧ a ≤ 18446744073709551615) (hb : 0 ≤ b ∧ b ≤ 18446744073709551615) :
    Calls Try.prog 5 #[v, .int .u64 a, .int .u64 b, .bool false] w (YesK w) := by
  obtain ⟨i0, hi, hz0, hz1, hz2⟩ := info_parts infoU64
  have HI := Lib.hid (And.intro hi (And.intro hz0 (And.intro hz1 hz2)))
  have HU := Lib.hid hu
  have HS := Lib.hid hs
  have HA := Lib.hid ha
  have HBB := Lib.hid hb
  have hl2 : (l.length : Int) ≤ 60 := by omega
  obtain ⟨A, c, rfl, hc, hA, hr⟩ := hs
  clear hi hz0 hz1 hz2 hu hA hr ha hb
  go_enter Try.func5, Try.ntmps5
  go_wp2_with ((at_builtin; refine wpList_append_nums .u64 8 (by omega) rfl (.tmp 21) (.tmp 22) 22 rfl w.heap.size 23 i0 Try.underlying22 HI.out.1 HI.out.2.1 HI.out.2.2.1 HI.out.2.2.2 _ [] rfl (OwnK.fresh .u64 w 23 [] (by simp)) _ l rfl (HS.out.below ((Below.refl _ _).alloc (Nat.le_refl _) _)) (by simp; omega) (by simp) ?_; intro v1 w1 ho1 hg1; have HG1 := Lib.hid ((OwnK.fresh .u64 w 23 [] (by simp)).grows ((Below.refl _ _).alloc (Nat.le_refl _) _) hg1 (Nat.le_refl _)); rw [List.nil_append] at ho1; obtain ⟨A1, c1, rfl⟩ := ho1.slice; have HO1 := Lib.hid ho1; clear ho1 hg1))
  obtain ⟨t, rfl⟩ : ∃ t, t = l := ⟨_, rfl⟩
  have HOWN := HO1
  have HB := HG1
  have HT := Lib.hid (And.intro (rfl : t.length = t.length) HU.out)
  clear HO1 HG1
  have hum : t.length ≤ maxLen := by simp [maxLen]; have := HT.out.1; omega
  obtain ⟨p, o, hpo⟩ := sumV_form t
  have HSUM := Lib.hid (sum_any (.slice A1 t.length c1) t w1 HOWN.out.sl HT.out.2 hum)
  have HTOT := Lib.hid (total_any (.slice A1 t.length c1) t w1 HOWN.out.sl HT.out.2 hum)
  rw [hpo] at HSUM HTOT
  have HOK : Hid (∀ w, Calls Try.prog 9 #[.int .u64 a] w fun e w' => e = .returned (.bool (decide (a ≤ 2100000000000000))) ∧ w = w') := by
    refine Lib.hid fun w => ?_
    by_cases h : a ≤ 2100000000000000
    · rw [decide_eq_true h]; exact ok_yes a w h
    · rw [decide_eq_false h]; exact ok_no a w (by omega)
  clear hum hpo
  by_cases hab : b ≤ a
  · have HL := Lib.hid (fun w => less_yes a b w hab HBB.out.1 HA.out.2)
    obtain ⟨d, hd⟩ : ∃ d, a - b = d := ⟨_, rfl⟩
    have hwd : IntKind.u64.wrap d = d := by have := HA.out; have := HBB.out; rw [IntKind.wrap_u64]; omega
    have hba : (b ≤ a) = True := by simp [hab]
    rw [hd] at HL
    clear hab
    go_wp2_with fail
    refine HSUM.out.mono ?_
    rintro e w' ⟨rfl, rfl⟩
    go_wp2_with fail
    refine HTOT.out.mono ?_
    rintro e w' ⟨rfl, rfl⟩
    go_wp2_with fail
    refine (HL.out _).mono ?_
    rintro e w' ⟨rfl, rfl⟩
    go_wp2_with fail
    refine (HOK.out _).mono ?_
    rintro e w' ⟨rfl, rfl⟩
    go_wp2_with fail
    refine (awake5_any _).mono ?_
    rintro e w8 ⟨rfl, hb8⟩
    go_wp2
    go_ret
    exact ⟨rfl, HB.out.trans (hb8.mono HB.out.size)⟩
  · have HL := Lib.hid (fun w => less_no a b w (by omega))
    have hba : (b ≤ a) = False := by simp; omega
    clear hab
    go_wp2_with fail
    refine HSUM.out.mono ?_
    rintro e w' ⟨rfl, rfl⟩
    go_wp2_with fail
    refine HTOT.out.mono ?_
    rintro e w' ⟨rfl, rfl⟩
    go_wp2_with fail
    refine (HL.out _).mono ?_
    rintro e w' ⟨rfl, rfl⟩
    go_wp2_with fail
    refine (HOK.out _).mono ?_
    rintro e w' ⟨rfl, rfl⟩
    go_wp2_with fail
    refine (awake5_any _).mono ?_
    rintro e w8 ⟨rfl, hb8⟩
    go_wp2
    go_ret
    exact ⟨rfl, HB.out.trans (hb8.mono HB.out.size)⟩

theorem u64s_of {l : List Int} (h : ∀ x ∈ l, (Lit.int .u64 x).wf = true) : U64s l := fun x hx => bd_u64 (h x hx)
theorem walk (v : Value) (l : List Int) (a b : Int) (near : Bool) (w : World) (hs : SlK .u64 w v l) (hu : U64s l) (hm : l.length ≤ maxLen) (ha : 0 ≤ a ∧ a ≤ 18446744073709551615) (hb : 0 ≤ b ∧ b ≤ 18446744073709551615) :
    Calls Try.prog 5 #[v, .int .u64 a, .int .u64 b, .bool near] w (YesK w) := by
  by_cases h : l.length ≤ 60
  · cases near
    · exact walk_far v l a b w hs hu h ha hb
    · exact walk_near v l a b w hs hu h ha hb
  · exact walk_long v l a b near w hs hm (by omega)

set_option maxRecDepth 100000 in
theorem lifted (os : Os) (started : os.Started) (H : Type) (enc : TypeId × Value → H) :
    ReturnsInHanded {} Try.checked os 5 .any (Rows.monyTellsSpec.pre6 enc Try.prog Try.f5 Rows.monyTellsRow.domain false) (Rows.monyTellsSpec.post enc Try.prog Try.f5 false true false false) := by
  refine returnsInHanded_of_change (C := Try.checked) ownKnobNone started (by kernel_rfl) Try.func5
    (ChangeSpec.witness6 (enc := enc) (C := Try.checked) false ⟨#[], #[.slice none 0 0, .int .u64 0, .int .u64 0, .bool false], []⟩ 8 (by kernel_rfl) (by kernel_rfl) (by kernel_rfl) (by kernel_rfl)) ?_
  intro W base args ds gs before hval0 hW _ _
  have hval : ∀ (j : Nat) t v, Try.f5.params[j]? = some t → args[j]? = some v → Value.okWide Try.prog W .any base t v := hval0
  have hW' := hW
  obtain ⟨p, q, hA0, hV, rfl, _, _⟩ := hW
  have hA : DataW.TrodAll enc Try.prog W 0 (fun _ => true) true Try.f5.params.toList args.toList ds p := hA0
  rw [Try.params5] at hA hval
  obtain ⟨v0, vs0, d0, ds0, p0, q0, hargs, rfl, rfl, h0, r0⟩ := trodAll_cons hA
  obtain ⟨v1, vs1, d1, ds1, p1, q1, rfl, rfl, rfl, h1, r1⟩ := trodAll_cons r0
  obtain ⟨v2, vs2, d2, ds2, p2, q2, rfl, rfl, rfl, h2, r2⟩ := trodAll_cons r1
  obtain ⟨v3, vs3, d3, ds3, p3, q3, rfl, rfl, rfl, h3, r3⟩ := trodAll_cons r2
  obtain ⟨rfl, rfl, rfl⟩ := trodAll_nil r3
  obtain rfl : args = #[v0, v1, v2, v3] := by cases args; simp_all
  obtain ⟨rfl, rfl⟩ := trodVars_none hV
  obtain ⟨l0, s0, y0, z0⟩ := ks_arg Try.underlying22 Try.underlying23 (by kernel_rfl) (hval 0 22 v0 rfl rfl) h0
  obtain ⟨a1, rfl, rfl, rfl, w1⟩ := open_int Try.underlying23 (hval 1 23 v1 rfl rfl) h1
  have b1 := bd_u64 w1
  obtain ⟨a2, rfl, rfl, rfl, w2⟩ := open_int Try.underlying23 (hval 2 23 v2 rfl rfl) h2
  have b2 := bd_u64 w2
  obtain ⟨a3, rfl, rfl, rfl⟩ := open_bool Try.underlying4 (hval 3 4 v3 rfl rfl) h3
  clear hA0 hval0
  refine (walk v0 l0 a1 a2 a3 W s0 (u64s_of y0) z0 b1 b2).mono fun e W' ⟨he, hb⟩ => ?_
  subst he
  exact ⟨_, rfl, law_post hW' rfl rfl (by kernel_rfl) rfl hb⟩

set_option maxRecDepth 100000 in
theorem over : Rows.monyTellsRow.holds Try.pinned (OpenSpec.ofChange Rows.monyTellsSpec) :=
  OpenClaim.holds_of_wide 5 Try.f5 rfl rfl rfl rfl rfl rfl rfl ⟨rfl, rfl, rfl, rfl, rfl⟩ rfl rfl rfl rfl rfl (by kernel_rfl) Try.func5 (by kernel_rfl)
    (of_decide_eq_true (by kernel_rfl)) (by unfold Func.isWrapper; first | (rw [if_pos (by decide +kernel)]; kernel_rfl) | (rw [if_neg (by decide +kernel)]; exact ⟨rfl, rfl⟩))
    (fun os started H enc _ => lifted os started H enc)

/-- The statement. -/
theorem proved : Rows.MonyTellsSaid :=
  over
end Go.Proofs.Ytafmioknaclfiaa.lawMoTells
