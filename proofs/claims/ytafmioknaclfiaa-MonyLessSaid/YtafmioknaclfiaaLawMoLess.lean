/- What one amount less another one is, and that other one, come to the one again, and nothing is less than nothing: for every two numbers the law MonyLess returns true. No further condition. -/
import Derived.Test.YtafmioknaclfiaaMoA
import Derived.Test.YtafmioknaclfiaaArgK
namespace Go.Proofs.Ytafmioknaclfiaa.lawMoLess
open Go.ChangeShapes Go.WideShapes Go.ChangeAt Go.RowKit

set_option maxRecDepth 100000 in
set_option maxHeartbeats 2000000 in
theorem walk (a b : Int) (w : World) (ha : 0 ≤ a ∧ a ≤ 18446744073709551615) (hb : 0 ≤ b ∧ b ≤ 18446744073709551615) :
    Calls Try.prog 4 #[.int .u64 a, .int .u64 b] w (YesK w) := by
  have HZ := Lib.hid (fun w => less_yes a a w (by omega) (by omega) (by omega))
  have h0 : a - a = 0 := by omega
  rw [h0] at HZ
  have HOK : Hid (∀ w, Calls Try.prog 9 #[.int .u64 a] w fun e w' => e = .returned (.bool (decide (a ≤ 2100000000000000))) ∧ w = w') := by
    refine Lib.hid fun w => ?_
    by_cases h : a ≤ 2100000000000000
    · rw [decide_eq_true h]; exact ok_yes a w h
    · rw [decide_eq_false h]; exact ok_no a w (by omega)
  have HAB : Hid ((a = b) ∨ (a < b) ∨ (b < a)) := Lib.hid (by omega)
  have HA := Lib.hid ha
  have HB := Lib.hid hb
  clear h0 ha hb
  rcases HAB.out with h | h | h
  · have HL1 := Lib.hid (fun w => less_yes a b w (by omega) HB.out.1 HA.out.2)
    have HL2 := Lib.hid (fun w => less_yes b a w (by omega) HA.out.1 HB.out.2)
    subst h
    rw [show a - a = 0 by omega] at HL1 HL2
    have hw : IntKind.u64.wrap a = a := by have := HA.out; rw [IntKind.wrap_u64]; omega
    clear HAB
    go_enter Try.func4, Try.ntmps4
    go_wp2_with fail
    refine (HL1.out _).mono ?_
    rintro e w' ⟨rfl, rfl⟩
    go_wp2_with fail
    refine (HL2.out _).mono ?_
    rintro e w' ⟨rfl, rfl⟩
    go_wp2_with fail
    refine (HZ.out _).mono ?_
    rintro e w' ⟨rfl, rfl⟩
    go_wp2_with fail
    refine (HOK.out _).mono ?_
    rintro e w' ⟨rfl, rfl⟩
    go_wp2_with fail
    refine (awake5_any _).mono ?_
    rintro e w1 ⟨rfl, hb1⟩
    go_wp2
    go_ret
    exact ⟨rfl, hb1⟩
  · have HL1 := Lib.hid (fun w => less_no a b w h)
    have HL2 := Lib.hid (fun w => less_yes b a w (by omega) HA.out.1 HB.out.2)
    have hw : IntKind.u64.wrap b = b := by have := HB.out; rw [IntKind.wrap_u64]; omega
    have hw2 : b - a + a = b := by omega
    clear HAB h
    go_enter Try.func4, Try.ntmps4
    go_wp2_with fail
    refine (HL1.out _).mono ?_
    rintro e w' ⟨rfl, rfl⟩
    go_wp2_with fail
    refine (HL2.out _).mono ?_
    rintro e w' ⟨rfl, rfl⟩
    go_wp2_with fail
    refine (HZ.out _).mono ?_
    rintro e w' ⟨rfl, rfl⟩
    go_wp2_with fail
    refine (HOK.out _).mono ?_
    rintro e w' ⟨rfl, rfl⟩
    go_wp2_with fail
    refine (awake5_any _).mono ?_
    rintro e w1 ⟨rfl, hb1⟩
    go_wp2
    go_ret
    exact ⟨rfl, hb1⟩
  · have HL1 := Lib.hid (fun w => less_yes a b w (by omega) HB.out.1 HA.out.2)
    have HL2 := Lib.hid (fun w => less_no b a w h)
    have hw : IntKind.u64.wrap a = a := by have := HA.out; rw [IntKind.wrap_u64]; omega
    have hw2 : a - b + b = a := by omega
    clear HAB h
    go_enter Try.func4, Try.ntmps4
    go_wp2_with fail
    refine (HL1.out _).mono ?_
    rintro e w' ⟨rfl, rfl⟩
    go_wp2_with fail
    refine (HL2.out _).mono ?_
    rintro e w' ⟨rfl, rfl⟩
    go_wp2_with fail
    refine (HZ.out _).mono ?_
    rintro e w' ⟨rfl, rfl⟩
    go_wp2_with fail
    refine (HOK.out _).mono ?_
    rintro e w' ⟨rfl, rfl⟩
    go_wp2_with fail
    refine (awake5_any _).mono ?_
    rintro e w1 ⟨rfl, hb1⟩
    go_wp2
    go_ret
    exact ⟨rfl, hb1⟩

set_option maxRecDepth 100000 in
theorem lifted (os : Os) (started : os.Started) (H : Type) (enc : TypeId × Value → H) :
    ReturnsInHanded {} Try.checked os 4 .any (Rows.monyLessSpec.pre6 enc Try.prog Try.f4 Rows.monyLessRow.domain false) (Rows.monyLessSpec.post enc Try.prog Try.f4 false true false false) := by
  refine returnsInHanded_of_change (C := Try.checked) ownKnobNone started (by kernel_rfl) Try.func4
    (ChangeSpec.witness6 (enc := enc) (C := Try.checked) false ⟨#[], #[.int .u64 0, .int .u64 0], []⟩ 8 (by kernel_rfl) (by kernel_rfl) (by kernel_rfl) (by kernel_rfl)) ?_
  intro W base args ds gs before hval0 hW _ _
  have hval : ∀ (j : Nat) t v, Try.f4.params[j]? = some t → args[j]? = some v → Value.okWide Try.prog W .any base t v := hval0
  have hW' := hW
  obtain ⟨p, q, hA0, hV, rfl, _, _⟩ := hW
  have hA : DataW.TrodAll enc Try.prog W 0 (fun _ => true) true Try.f4.params.toList args.toList ds p := hA0
  rw [Try.params4] at hA hval
  obtain ⟨v0, vs0, d0, ds0, p0, q0, hargs, rfl, rfl, h0, r0⟩ := trodAll_cons hA
  obtain ⟨v1, vs1, d1, ds1, p1, q1, rfl, rfl, rfl, h1, r1⟩ := trodAll_cons r0
  obtain ⟨rfl, rfl, rfl⟩ := trodAll_nil r1
  obtain rfl : args = #[v0, v1] := by cases args; simp_all
  obtain ⟨rfl, rfl⟩ := trodVars_none hV
  obtain ⟨a0, rfl, rfl, rfl, w0⟩ := open_int Try.underlying23 (hval 0 23 v0 rfl rfl) h0
  obtain ⟨a1, rfl, rfl, rfl, w1⟩ := open_int Try.underlying23 (hval 1 23 v1 rfl rfl) h1
  clear hA0 hval0
  refine (walk a0 a1 W (bd_u64 w0) (bd_u64 w1)).mono fun e W' ⟨he, hb⟩ => ?_
  subst he
  exact ⟨_, rfl, law_post hW' rfl rfl (by kernel_rfl) rfl hb⟩

set_option maxRecDepth 100000 in
theorem over : Rows.monyLessRow.holds Try.pinned (OpenSpec.ofChange Rows.monyLessSpec) :=
  OpenClaim.holds_of_wide 4 Try.f4 rfl rfl rfl rfl rfl rfl rfl ⟨rfl, rfl, rfl, rfl, rfl⟩ rfl rfl rfl rfl rfl (by kernel_rfl) Try.func4 (by kernel_rfl)
    (of_decide_eq_true (by kernel_rfl)) (by unfold Func.isWrapper; first | (rw [if_pos (by decide +kernel)]; kernel_rfl) | (rw [if_neg (by decide +kernel)]; exact ⟨rfl, rfl⟩))
    (fun os started H enc _ => lifted os started H enc)

/-- The statement. -/
theorem proved : Rows.MonyLessSaid :=
  over
end Go.Proofs.Ytafmioknaclfiaa.lawMoLess
