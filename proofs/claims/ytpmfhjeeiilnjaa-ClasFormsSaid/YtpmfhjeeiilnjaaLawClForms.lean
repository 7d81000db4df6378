/- Kinds of scripts are what they should be, row by row: for every int the law ClasForms returns true and leaves its argument as it was. No further condition. -/
import Derived.Test.YtpmfhjeeiilnjaaClG
import Derived.Test.YtpmfhjeeiilnjaaClose
import Derived.Deep.DeepCutAuto
import Derived.Deep.RegionHeld3
namespace Go.Proofs.Ytpmfhjeeiilnjaa.lawClForms
open Go.ChangeShapes Go.WideShapes Go.ChangeAt Go.RowKit

theorem mask8 (n : Int) : ∃ m : Nat, bits BinOp.and IntKind.i64 n 255 = (m : Int) ∧ m < 256 := by
  have h := and_mask n 8 (by omega)
  refine ⟨(n % 256).toNat, ?_, by omega⟩
  rw [show ((2 ^ 8 - 1 : Nat) : Int) = 255 by decide, show ((2 ^ 8 : Nat) : Int) = 256 by decide] at h
  rw [h]
  omega
def GoodC (s : ByteArray) (n : Int) (k : Int) : Prop := s.size ≤ 100 ∧ ∃ m : Nat, n = (s.size : Int) + m ∧ m ≤ 100 ∧ kindOf (nums s ++ zeros m) = k
theorem good_0 : GoodC ⟨#[]⟩ 0 0 := ⟨by decide, 0, by decide, by omega, by decide +kernel⟩
theorem good_1 : GoodC ⟨#[81, 2, 78, 115]⟩ 4 1 := ⟨by decide, 0, by decide, by omega, by decide +kernel⟩
theorem good_2 : GoodC ⟨#[81, 2, 78, 115]⟩ 5 0 := ⟨by decide, 1, by decide, by omega, by decide +kernel⟩
theorem good_3 : GoodC ⟨#[81, 2, 78]⟩ 3 0 := ⟨by decide, 0, by decide, by omega, by decide +kernel⟩
theorem good_4 : GoodC ⟨#[0, 20]⟩ 22 2 := ⟨by decide, 20, by decide, by omega, by decide +kernel⟩
theorem good_5 : GoodC ⟨#[0, 20]⟩ 21 0 := ⟨by decide, 19, by decide, by omega, by decide +kernel⟩
theorem good_6 : GoodC ⟨#[0, 20]⟩ 34 0 := ⟨by decide, 32, by decide, by omega, by decide +kernel⟩
theorem good_7 : GoodC ⟨#[0, 32]⟩ 34 3 := ⟨by decide, 32, by decide, by omega, by decide +kernel⟩
theorem good_8 : GoodC ⟨#[0, 32]⟩ 33 0 := ⟨by decide, 31, by decide, by omega, by decide +kernel⟩
theorem good_9 : GoodC ⟨#[81, 32]⟩ 34 4 := ⟨by decide, 32, by decide, by omega, by decide +kernel⟩
theorem good_10 : GoodC ⟨#[82, 32]⟩ 34 0 := ⟨by decide, 32, by decide, by omega, by decide +kernel⟩
theorem good_11 : GoodC ⟨#[81, 32]⟩ 35 0 := ⟨by decide, 33, by decide, by omega, by decide +kernel⟩
theorem good_12 : GoodC ⟨#[106]⟩ 1 5 := ⟨by decide, 0, by decide, by omega, by decide +kernel⟩
theorem good_13 : GoodC ⟨#[106]⟩ 83 5 := ⟨by decide, 82, by decide, by omega, by decide +kernel⟩
theorem good_14 : GoodC ⟨#[106]⟩ 84 0 := ⟨by decide, 83, by decide, by omega, by decide +kernel⟩
theorem good_15 : GoodC ⟨#[107]⟩ 20 0 := ⟨by decide, 19, by decide, by omega, by decide +kernel⟩
/-- The row that is looked at lies in a block of its own. -/
def Row (w wx : World) (v : Value) : Prop := ∃ (g : Nat) (s : ByteArray) (n k : Int), v = .pointer (some ⟨g, 0, none⟩) ∧ Box wx g 46 #[.string s, .int .i64 n, .int .i64 k] ∧ GoodC s n k ∧ w.heap.size ≤ g ∧ Below w.heap.size w wx
set_option maxRecDepth 100000 in
theorem row_mk (w wy : World) (g : Nat) (hg : wy.heap.size = g) (hb : Below w.heap.size w wy) (s : ByteArray) (n k : Int) (h : GoodC s n k) :
    Row w (wy.alloc (.cells #[.string s, .int .i64 n, .int .i64 k] 46)) (.pointer (some ⟨g, 0, none⟩)) := by
  subst hg
  exact ⟨wy.heap.size, s, n, k, rfl, Box.fresh _ _ _, h, hb.size, hb.alloc hb.size _⟩

set_option linter.unusedSimpArgs false in
set_option maxRecDepth 10000000 in
set_option maxHeartbeats 4000000 in
theorem walk (which : Int) (w : World) : Calls Try.prog 6 #[.int .i64 which] w (YesK w) := by
  go_enter Try.func6, Try.ntmps6
  go_upto_region 2 with fail
  go_cut [4] (fun v wx => Row w wx v)
  case first =>
    obtain ⟨q, hq, hq8⟩ := mask8 which
    rcases (show (q : Int) % 16 = 0 ∨ (q : Int) % 16 = 1 ∨ (q : Int) % 16 = 2 ∨ (q : Int) % 16 = 3 ∨ (q : Int) % 16 = 4 ∨ (q : Int) % 16 = 5 ∨ (q : Int) % 16 = 6 ∨ (q : Int) % 16 = 7 ∨ (q : Int) % 16 = 8 ∨ (q : Int) % 16 = 9 ∨ (q : Int) % 16 = 10 ∨ (q : Int) % 16 = 11 ∨ (q : Int) % 16 = 12 ∨ (q : Int) % 16 = 13 ∨ (q : Int) % 16 = 14 ∨ (q : Int) % 16 = 15 by omega) with h | h | h | h | h | h | h | h | h | h | h | h | h | h | h | h
    · go_wp2
      go_meet
      exact row_mk w _ _ (by simp) ((Below.refl _ _).alloc (Nat.le_refl _) _) _ _ _ good_0
    · go_wp2
      go_meet
      exact row_mk w _ _ (by simp) ((Below.refl _ _).alloc (Nat.le_refl _) _) _ _ _ good_1
    · go_wp2
      go_meet
      exact row_mk w _ _ (by simp) ((Below.refl _ _).alloc (Nat.le_refl _) _) _ _ _ good_2
    · go_wp2
      go_meet
      exact row_mk w _ _ (by simp) ((Below.refl _ _).alloc (Nat.le_refl _) _) _ _ _ good_3
    · go_wp2
      go_meet
      exact row_mk w _ _ (by simp) ((Below.refl _ _).alloc (Nat.le_refl _) _) _ _ _ good_4
    · go_wp2
      go_meet
      exact row_mk w _ _ (by simp) ((Below.refl _ _).alloc (Nat.le_refl _) _) _ _ _ good_5
    · go_wp2
      go_meet
      exact row_mk w _ _ (by simp) ((Below.refl _ _).alloc (Nat.le_refl _) _) _ _ _ good_6
    · go_wp2
      go_meet
      exact row_mk w _ _ (by simp) ((Below.refl _ _).alloc (Nat.le_refl _) _) _ _ _ good_7
    · go_wp2
      go_meet
      exact row_mk w _ _ (by simp) ((Below.refl _ _).alloc (Nat.le_refl _) _) _ _ _ good_8
    · go_wp2
      go_meet
      exact row_mk w _ _ (by simp) ((Below.refl _ _).alloc (Nat.le_refl _) _) _ _ _ good_9
    · go_wp2
      go_meet
      exact row_mk w _ _ (by simp) ((Below.refl _ _).alloc (Nat.le_refl _) _) _ _ _ good_10
    · go_wp2
      go_meet
      exact row_mk w _ _ (by simp) ((Below.refl _ _).alloc (Nat.le_refl _) _) _ _ _ good_11
    · go_wp2
      go_meet
      exact row_mk w _ _ (by simp) ((Below.refl _ _).alloc (Nat.le_refl _) _) _ _ _ good_12
    · go_wp2
      go_meet
      exact row_mk w _ _ (by simp) ((Below.refl _ _).alloc (Nat.le_refl _) _) _ _ _ good_13
    · go_wp2
      go_meet
      exact row_mk w _ _ (by simp) ((Below.refl _ _).alloc (Nat.le_refl _) _) _ _ _ good_14
    · go_wp2
      go_meet
      exact row_mk w _ _ (by simp) ((Below.refl _ _).alloc (Nat.le_refl _) _) _ _ _ good_15
  case rest =>
    obtain ⟨g, s, n, k, rfl, hx, ⟨hsz, m, rfl, hm, hk⟩, hg, hb⟩ := hcut
    obtain ⟨v1, w1, hr, hrb, hbe⟩ := run_str_zeros wc s m 30 (by omega) (by omega)
    obtain ⟨A1, c1', rfl, _⟩ := hrb.1
    obtain ⟨N1, hN1⟩ : ∃ N, (nums s ++ zeros m).length = N := ⟨_, rfl⟩
    rw [hN1] at hr hrb
    have hconv := fun W : World => Lib.run_convert_string_bytes (P := Try.prog) W 9 30 5 s Try.underlying9 Try.underlying30 Try.underlying5
    have hx1 := hx.below (str_below wc 5 s)
    have hx2 := hx.below hbe
    have d0 : wc.cell? ⟨g, 0, none⟩ = some (.string s) := hx.cell 0
    have e0 : (Lib.bytesWorld wc 5 s).cell? ⟨g, 0, none⟩ = some (.string s) := hx1.cell 0
    obtain ⟨n, hn⟩ : ∃ n : Int, (s.size : Int) + (m : Int) = n := ⟨_, rfl⟩
    have e1 : (Lib.bytesWorld wc 5 s).cell? ⟨g, 1, none⟩ = some (.int .i64 n) := by rw [← hn]; exact hx1.cell 1
    have hw : IntKind.i64.wrap (n - (s.size : Int)) = (m : Int) := by rw [IntKind.wrap_i64]; omega
    have HX := Kp.mk hx2
    have HR := Kp.mk hr
    have HBd : Kp (Below w1.heap.size w1 w1.drew) := ⟨(Below.refl _ _).drew⟩
    have HK : Kp (∀ W, Below w1.heap.size w1 W → Calls Try.prog 8 #[.slice A1 N1 c1'] W fun e w' => e = .returned (.int .i64 k) ∧ W = w') := ⟨fun W hb => by rw [← hk]; exact kind_any W _ _ (hrb.below hb)⟩
    have HA : Kp (∀ W, Calls Try.prog 10 #[] W (YesK W)) := ⟨awake6_any⟩
    have HB : Kp (Below w.heap.size w w1) := ⟨hb.trans (hbe.mono hb.size)⟩
    have hcd : w1.drew.cell? ⟨g, 2, none⟩ = some (.int .i64 k) := hx2.cell 2
    clear hx hsz hm hk hg hb hr hrb hbe hN1 hx1 hx2 hn
    go_wp2_with (at_builtin; refine Lib.wpList_append_run _ rfl (.tmp 33) (.tmp 39) _ _ rfl _ _ rfl rfl _ _ HR.out ?_)
    go_region_held3 (fun w3 => w3.cell? ⟨g, 2, none⟩ = some (.int .i64 k)) (first | exact hcd | assumption) (first | (go_at_call 8; refine (HK.out _ HBd.out).mono ?_; rintro e w3 ⟨rfl, rfl⟩) | (go_at_call 10; refine (HA.out _).mono ?_; rintro e w4 ⟨rfl, hb4⟩; have hc4 := (HX.out.below (HBd.out.trans hb4)).cell 2))
    go_wp2
    go_ret
    exact ⟨rfl, HB.out.trans ((HBd.out.trans hb4).mono HB.out.size)⟩

set_option maxRecDepth 100000 in
theorem lifted (os : Os) (started : os.Started) (H : Type) (enc : TypeId × Value → H) :
    ReturnsInHanded {} Try.checked os 6 .any (Rows.clasFormsSpec.pre6 enc Try.prog Try.f6 Rows.clasFormsRow.domain false) (Rows.clasFormsSpec.post enc Try.prog Try.f6 false true false false) := by
  refine returnsInHanded_of_change (C := Try.checked) ownKnobNone started (by kernel_rfl) Try.func6
    (ChangeSpec.witness6 (enc := enc) (C := Try.checked) false ⟨#[], #[.int .i64 0], []⟩ 8 (by kernel_rfl) (by kernel_rfl) (by kernel_rfl) (by kernel_rfl)) ?_
  intro W base args ds gs before hval0 hW _ _
  have hval : ∀ (j : Nat) t v, Try.f6.params[j]? = some t → args[j]? = some v → Value.okWide Try.prog W .any base t v := hval0
  have hW' := hW
  obtain ⟨p, q, hA0, hV, rfl, _, _⟩ := hW
  have hA : DataW.TrodAll enc Try.prog W 0 (fun _ => true) true Try.f6.params.toList args.toList ds p := hA0
  rw [Try.params6] at hA hval
  obtain ⟨v0, vs0, d0, ds0, p0, q0, hargs, rfl, rfl, h0, r0⟩ := trodAll_cons hA
  obtain ⟨rfl, rfl, rfl⟩ := trodAll_nil r0
  obtain rfl : args = #[v0] := by cases args; simp_all
  obtain ⟨rfl, rfl⟩ := trodVars_none hV
  obtain ⟨a0, rfl, rfl, rfl, w0⟩ := open_int Try.underlying3 (hval 0 3 v0 rfl rfl) h0
  have b0 := bd_i64 w0
  clear hA0 hval0
  refine (walk a0 W).mono fun e W' ⟨he, hb⟩ => ?_
  subst he
  exact ⟨_, rfl, law_post hW' rfl rfl (by kernel_rfl) rfl hb⟩

set_option maxRecDepth 100000 in
theorem over : Rows.clasFormsRow.holds Try.pinned (OpenSpec.ofChange Rows.clasFormsSpec) :=
  OpenClaim.holds_of_wide 6 Try.f6 rfl rfl rfl rfl rfl rfl rfl ⟨rfl, rfl, rfl, rfl, rfl⟩ rfl rfl rfl rfl rfl (by kernel_rfl) Try.func6 (by kernel_rfl)
    (of_decide_eq_true (by kernel_rfl)) (by unfold Func.isWrapper; first | (rw [if_pos (by decide +kernel)]; kernel_rfl) | (rw [if_neg (by decide +kernel)]; exact ⟨rfl, rfl⟩))
    (fun os started H enc _ => lifted os started H enc)

/-- The statement. -/
theorem proved : Rows.ClasFormsSaid :=
  over
end Go.Proofs.Ytpmfhjeeiilnjaa.lawClForms
