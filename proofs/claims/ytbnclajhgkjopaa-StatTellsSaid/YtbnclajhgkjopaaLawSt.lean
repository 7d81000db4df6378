/- Any transaction is taken, or refused with the first code that the document says: for every transaction and every three ints the law StatTells returns true and leaves its arguments as they were. No further condition. -/
import Derived.Test.YtbnclajhgkjopaaLawSta
import Derived.Test.YtbnclajhgkjopaaLawStb
import Derived.Test.YtbnclajhgkjopaaLawStc
import Derived.Test.YtbnclajhgkjopaaLawStd
import Derived.Test.YtbnclajhgkjopaaLawSte
import Derived.Test.YtbnclajhgkjopaaLawStf
import Derived.Test.YtbnclajhgkjopaaLawStg
import Derived.Test.YtbnclajhgkjopaaRawT
import Derived.Test.YtbnclajhgkjopaaClose
namespace Go.Proofs.Ytbnclajhgkjopaa.lawSt
open Go.ChangeShapes Go.WideShapes Go.ChangeAt Go.RowKit

set_option maxRecDepth 1000000 in
set_option maxHeartbeats 4000000 in
theorem walk_long (v : Value) (t : TxD) (n m k : Int) (w : World) (h : TxR w v t) (hl : 60 < t.ins.length ∨ 60 < t.outs.length) : Calls Try.prog 5 #[v, .int .i64 n, .int .i64 m, .int .i64 k] w (YesK w) := by
  obtain ⟨iv, ov, rfl, _, _, hi, ho⟩ := h
  obtain ⟨Ai, ci, rfl, _⟩ := hi.slice
  obtain ⟨Ao, co, rfl, _⟩ := ho.slice
  obtain ⟨NI, hNI⟩ : ∃ N, t.ins.length = N := ⟨_, rfl⟩
  obtain ⟨NO, hNO⟩ : ∃ N, t.outs.length = N := ⟨_, rfl⟩
  rw [hNI] at hl ⊢
  rw [hNO] at hl ⊢
  have hb : Below w.heap.size w (w.alloc (.cells #[.int .u32 t.version, .slice Ai NI ci, .slice Ao NO co, .int .u32 t.lock] 26)) := (Below.refl _ _).alloc (Nat.le_refl _) _
  have HB := Kp.mk hb
  clear hb hi ho hNI hNO
  by_cases h1 : 60 < NI
  · have g1 : decide (60 < (NI : Int)) = true := by simp; omega
    clear hl h1
    go_enter Try.func5, Try.ntmps5
    go_wp2_with fail
    refine (awake8_any _).mono ?_
    rintro e w1 ⟨rfl, hb1⟩
    go_wp2
    go_ret
    exact ⟨rfl, HB.out.trans (hb1.mono HB.out.size)⟩
  · have g1 : decide (60 < (NI : Int)) = false := by simp; omega
    have g2 : decide (60 < (NO : Int)) = true := by simp; omega
    clear hl h1
    go_enter Try.func5, Try.ntmps5
    go_wp2_with fail
    refine (awake8_any _).mono ?_
    rintro e w1 ⟨rfl, hb1⟩
    go_wp2
    go_ret
    exact ⟨rfl, HB.out.trans (hb1.mono HB.out.size)⟩

theorem walk (v : Value) (t : TxD) (n m k : Int) (w : World) (h : TxR w v t) (hn : -9223372036854775808 ≤ n ∧ n ≤ 9223372036854775807) (hm : -9223372036854775808 ≤ m ∧ m ≤ 9223372036854775807) :
    Calls Try.prog 5 #[v, .int .i64 n, .int .i64 m, .int .i64 k] w (YesK w) := by
  by_cases h1 : t.ins.length ≤ 60 ∧ t.outs.length ≤ 60
  · obtain ⟨h1, h2⟩ := h1
    by_cases c1 : k % 16 ≤ 2
    · exact walk_a v t n m k w h hn hm h1 h2 c1
    by_cases c2 : k % 16 ≤ 5
    · exact walk_b v t n m k w h hn hm h1 h2 ⟨by omega, c2⟩
    by_cases c3 : k % 16 ≤ 7
    · exact walk_c v t n m k w h hn hm h1 h2 ⟨by omega, c3⟩
    by_cases c4 : k % 16 = 8
    · exact walk_d v t n m k w h hn hm h1 h2 c4
    by_cases c5 : k % 16 = 9
    · exact walk_e v t n m k w h hn hm h1 h2 c5
    by_cases c6 : k % 16 = 11
    · exact walk_g v t n m k w h hn hm h1 h2 c6
    exact walk_f v t n m k w h hn hm h1 h2 ⟨by omega, c6⟩
  · exact walk_long v t n m k w h (by omega)

set_option maxRecDepth 100000 in
theorem lifted (os : Os) (started : os.Started) (H : Type) (enc : TypeId × Value → H) :
    ReturnsInHanded {} Try.checked os 5 .any (Rows.statTellsSpec.pre6 enc Try.prog Try.f5 Rows.statTellsRow.domain false) (Rows.statTellsSpec.post enc Try.prog Try.f5 false true false false) := by
  refine returnsInHanded_of_change (C := Try.checked) ownKnobNone started (by kernel_rfl) Try.func5
    (ChangeSpec.witness6 (enc := enc) (C := Try.checked) false ⟨#[], #[.agg #[.int .u32 0, .slice none 0 0, .slice none 0 0, .int .u32 0], .int .i64 0, .int .i64 0, .int .i64 0], []⟩ 8 (by kernel_rfl) (by kernel_rfl) (by kernel_rfl) (by kernel_rfl)) ?_
  intro W base args ds gs before hval0 hW _ _
  have hval : ∀ (j : Nat) t v, Try.f5.params[j]? = some t → args[j]? = some v → Value.okWide Try.prog W .any base t v := hval0
  have hW' := hW
  obtain ⟨p, q, hA0, hV, rfl, _, _⟩ := hW
  have hA : DataW.TrodAll enc Try.prog W 0 (fun _ => true) true Try.f5.params.toList args.toList ds p := hA0
  rw [Try.params5] at hA hval
  obtain ⟨v0, vs0, d0, ds0, p0, q0, hargs, rfl, rfl, h0, r0⟩ := trodAll_cons hA
  obtain ⟨v1, vs1, d1, ds1, p1, q1, rfl, rfl, rfl, h1, r1⟩ := trodAll_cons r0
  obtain ⟨v2, vs2, d2, ds2, p2, q2, rfl, rfl, rfl, h2, r2⟩ := trodAll_cons r1
  obtain ⟨v3, vs3, d3, ds3, p3, q3, rfl, rfl, rfl, h3, r3⟩ := trodAll_cons r2
  obtain ⟨rfl, rfl, rfl⟩ := trodAll_nil r3
  obtain rfl : args = #[v0, v1, v2, v3] := by cases args; simp_all
  obtain ⟨rfl, rfl⟩ := trodVars_none hV
  obtain ⟨t0, s0⟩ := tx_arg (hval 0 26 v0 rfl rfl) h0
  obtain ⟨a1, rfl, rfl, rfl, w1⟩ := open_int Try.underlying3 (hval 1 3 v1 rfl rfl) h1
  have b1 := bd_i64 w1
  obtain ⟨a2, rfl, rfl, rfl, w2⟩ := open_int Try.underlying3 (hval 2 3 v2 rfl rfl) h2
  have b2 := bd_i64 w2
  obtain ⟨a3, rfl, rfl, rfl, w3⟩ := open_int Try.underlying3 (hval 3 3 v3 rfl rfl) h3
  have b3 := bd_i64 w3
  clear hA0 hval0
  refine (walk v0 t0 a1 a2 a3 W s0 b1 b2).mono fun e W' ⟨he, hb⟩ => ?_
  subst he
  exact ⟨_, rfl, law_post hW' rfl rfl (by kernel_rfl) rfl hb⟩

set_option maxRecDepth 100000 in
theorem over : Rows.statTellsRow.holds Try.pinned (OpenSpec.ofChange Rows.statTellsSpec) :=
  OpenClaim.holds_of_wide 5 Try.f5 rfl rfl rfl rfl rfl rfl rfl ⟨rfl, rfl, rfl, rfl, rfl⟩ rfl rfl rfl rfl rfl (by kernel_rfl) Try.func5 (by kernel_rfl)
    (of_decide_eq_true (by kernel_rfl)) (by unfold Func.isWrapper; first | (rw [if_pos (by decide +kernel)]; kernel_rfl) | (rw [if_neg (by decide +kernel)]; exact ⟨rfl, rfl⟩))
    (fun os started H enc _ => lifted os started H enc)

/-- The statement. -/
theorem proved : Rows.StatTellsSaid :=
  over
end Go.Proofs.Ytbnclajhgkjopaa.lawSt
