/- Numbers and counts are written, and any bytes read as such, as the document says, and from the first that can't be on nothing is: for every slice of bytes, every two slices of ints, and every three numbers the law WirePlays returns true and leaves its arguments as they were. No further condition. -/
import Derived.Test.YtccbpejjhcbboaaPlaysFF
import Derived.Test.YtccbpejjhcbboaaPlaysFE
import Derived.Test.YtccbpejjhcbboaaPlaysEF
import Derived.Test.YtccbpejjhcbboaaPlaysEE
namespace Go.Proofs.Ytccbpejjhcbboaa.lawPlays
open Go.ChangeShapes Go.WideShapes Go.ChangeAt Go.RowKit

set_option maxRecDepth 100000 in
set_option maxHeartbeats 1000000 in
theorem walk_long (v v1 v3 : Value) (l : List Int) (u : Nat) (a b : Int) (w : World) (hs : Sl w w.heap.size v l) (hl : 200 < l.length) (hm : l.length ≤ maxLen) :
    Calls Try.prog 8 #[v, v1, .int .u64 (u : Int), v3, .int .i64 a, .int .u8 b] w (YesPost w) := by
  unfold maxLen at hm
  obtain ⟨A, c, rfl, _⟩ := hs
  go_enter Try.func8, Try.ntmps8
  go_wp2_with fail
  refine (awake2_any w).mono ?_
  rintro e w1 ⟨rfl, hb⟩
  go_wp2
  go_ret
  exact ⟨rfl, hb⟩

theorem ints_arg {H : Type} {enc : TypeId × Value → H} {W : World} {base : Nat} {v : Value} {d : DataW H} {p : List MemPlace}
    (hok : Value.okWide Try.prog W .any base 54 v) (h : DataW.Trod enc Try.prog W 0 (fun _ => true) true 54 v d p) :
    ∃ (l : List Int), (∃ (A : Option Addr) (c : Nat), v = .slice A l.length c ∧ (l ≠ [] → ∃ b off, A = some ⟨b, off, none⟩ ∧ b < W.heap.size ∧ ∀ i, i < l.length → W.cell? ⟨b, off + i, none⟩ = some (.int .i64 (l.getD i 0)))) ∧
      (∀ x ∈ l, -9223372036854775808 ≤ x ∧ x ≤ 9223372036854775807) ∧ l.length ≤ maxLen := by
  obtain ⟨l, A, c, rfl, _, _, h3, h4, h5⟩ := nums_arg Try.underlying54 Try.underlying3 (by kernel_rfl) hok h
  exact ⟨l, ⟨A, c, rfl, h5⟩, fun x hx => bd_i64 (h4 x hx), h3⟩

theorem walk (v0 : Value) (l0 : List Int) (v1 : Value) (l1 : List Int) (u : Nat) (v3 : Value) (l3 : List Int) (a : Int) (b : Nat) (w : World)
    (s0 : Sl w w.heap.size v0 l0) (y0 : Bys l0) (z0 : l0.length ≤ maxLen)
    (s1 : ∃ (A : Option Addr) (c : Nat), v1 = .slice A l1.length c ∧ (l1 ≠ [] → ∃ b off, A = some ⟨b, off, none⟩ ∧ b < w.heap.size ∧ ∀ i, i < l1.length → w.cell? ⟨b, off + i, none⟩ = some (.int .i64 (l1.getD i 0)))) (y1 : ∀ x ∈ l1, -9223372036854775808 ≤ x ∧ x ≤ 9223372036854775807) (z1 : l1.length ≤ maxLen)
    (b2 : 0 ≤ (u : Int) ∧ (u : Int) ≤ 18446744073709551615)
    (s3 : ∃ (A : Option Addr) (c : Nat), v3 = .slice A l3.length c ∧ (l3 ≠ [] → ∃ b off, A = some ⟨b, off, none⟩ ∧ b < w.heap.size ∧ ∀ i, i < l3.length → w.cell? ⟨b, off + i, none⟩ = some (.int .i64 (l3.getD i 0)))) (y3 : ∀ x ∈ l3, -9223372036854775808 ≤ x ∧ x ≤ 9223372036854775807) (z3 : l3.length ≤ maxLen)
    (b5 : 0 ≤ (b : Int) ∧ (b : Int) ≤ 255) :
    Calls Try.prog 8 #[v0, v1, .int .u64 (u : Int), v3, .int .i64 a, .int .u8 (b : Int)] w (YesPost w) := by
  unfold maxLen at z1 z3
  by_cases hl : 200 < l0.length
  · exact walk_long v0 v1 v3 l0 u a b w s0 hl z0
  obtain ⟨A1, c1, rfl, h1⟩ := s1
  obtain ⟨A3, c3, rfl, h3⟩ := s3
  by_cases e1 : l1 = []
  · subst e1
    by_cases e3 : l3 = []
    · subst e3
      exact walk_ee v0 l0 u a b w s0 y0 (by omega) (by omega) b5 A1 c1 A3 c3
    · obtain ⟨ba, oa, rfl, hb3, hc3⟩ := h3 e3
      exact walk_ef v0 l0 u a b w s0 y0 (by omega) (by omega) b5 A1 c1 ba oa c3 l3 hb3 hc3 (by omega) y3
  · obtain ⟨bn, on, rfl, hb1, hc1⟩ := h1 e1
    by_cases e3 : l3 = []
    · subst e3
      exact walk_fe v0 l0 u a b w s0 y0 (by omega) (by omega) b5 bn on c1 l1 hb1 hc1 (by omega) y1 A3 c3
    · obtain ⟨ba, oa, rfl, hb3, hc3⟩ := h3 e3
      exact walk_ff v0 l0 u a b w s0 y0 (by omega) (by omega) b5 bn on c1 l1 hb1 hc1 (by omega) y1 ba oa c3 l3 hb3 hc3 (by omega) y3

set_option maxRecDepth 100000 in
theorem lifted (os : Os) (started : os.Started) (H : Type) (enc : TypeId × Value → H) :
    ReturnsInHanded {} Try.checked os 8 .any (Rows.wirePlaysSpec.pre6 enc Try.prog Try.f8 Rows.wirePlaysRow.domain false) (Rows.wirePlaysSpec.post enc Try.prog Try.f8 false true false false) := by
  refine returnsInHanded_of_change (C := Try.checked) ownKnobNone started (by kernel_rfl) Try.func8
    (ChangeSpec.witness6 (enc := enc) (C := Try.checked) false ⟨#[], #[.slice none 0 0, .slice none 0 0, .int .u64 0, .slice none 0 0, .int .i64 0, .int .u8 0], []⟩ 8 (by kernel_rfl) (by kernel_rfl) (by kernel_rfl) (by kernel_rfl)) ?_
  intro W base args ds gs before hval0 hW _ _
  have hval : ∀ (j : Nat) t v, Try.f8.params[j]? = some t → args[j]? = some v → Value.okWide Try.prog W .any base t v := hval0
  have hW' := hW
  obtain ⟨p, q, hA0, hV, rfl, _, _⟩ := hW
  have hA : DataW.TrodAll enc Try.prog W 0 (fun _ => true) true Try.f8.params.toList args.toList ds p := hA0
  rw [Try.params8] at hA hval
  obtain ⟨v0, vs0, d0, ds0, p0, q0, hargs, rfl, rfl, h0, r0⟩ := trodAll_cons hA
  obtain ⟨v1, vs1, d1, ds1, p1, q1, rfl, rfl, rfl, h1, r1⟩ := trodAll_cons r0
  obtain ⟨v2, vs2, d2, ds2, p2, q2, rfl, rfl, rfl, h2, r2⟩ := trodAll_cons r1
  obtain ⟨v3, vs3, d3, ds3, p3, q3, rfl, rfl, rfl, h3, r3⟩ := trodAll_cons r2
  obtain ⟨v4, vs4, d4, ds4, p4, q4, rfl, rfl, rfl, h4, r4⟩ := trodAll_cons r3
  obtain ⟨v5, vs5, d5, ds5, p5, q5, rfl, rfl, rfl, h5, r5⟩ := trodAll_cons r4
  obtain ⟨rfl, rfl, rfl⟩ := trodAll_nil r5
  obtain rfl : args = #[v0, v1, v2, v3, v4, v5] := by cases args; simp_all
  obtain ⟨rfl, rfl⟩ := trodVars_none hV
  obtain ⟨l0, s0, y0, z0⟩ := bytes_arg (hval 0 28 v0 rfl rfl) h0
  obtain ⟨l1, s1, y1, z1⟩ := ints_arg (hval 1 54 v1 rfl rfl) h1
  obtain ⟨a2, rfl, rfl, rfl, w2⟩ := open_int Try.underlying32 (hval 2 32 v2 rfl rfl) h2
  have b2 := bd_u64 w2
  obtain ⟨n2, rfl⟩ := Int.eq_ofNat_of_zero_le b2.1
  obtain ⟨l3, s3, y3, z3⟩ := ints_arg (hval 3 54 v3 rfl rfl) h3
  obtain ⟨a4, rfl, rfl, rfl, w4⟩ := open_int Try.underlying3 (hval 4 3 v4 rfl rfl) h4
  have b4 := bd_i64 w4
  obtain ⟨a5, rfl, rfl, rfl, w5⟩ := open_int Try.underlying5 (hval 5 5 v5 rfl rfl) h5
  have b5 := bd_u8 w5
  obtain ⟨n5, rfl⟩ := Int.eq_ofNat_of_zero_le b5.1
  clear hA0 hval0
  refine (walk v0 l0 v1 l1 n2 v3 l3 a4 n5 W s0 y0 z0 s1 y1 z1 b2 s3 y3 z3 b5).mono fun e W' ⟨he, hb⟩ => ?_
  subst he
  exact ⟨_, rfl, law_post hW' rfl rfl (by kernel_rfl) rfl hb⟩

theorem over : Rows.wirePlaysRow.holds Try.pinned (OpenSpec.ofChange Rows.wirePlaysSpec) :=
  OpenClaim.holds_of_wide 8 Try.f8 rfl rfl rfl rfl rfl rfl rfl ⟨rfl, rfl, rfl, rfl, rfl⟩ rfl rfl rfl rfl rfl (by kernel_rfl) Try.func8 (by kernel_rfl)
    (of_decide_eq_true (by kernel_rfl)) (by unfold Func.isWrapper; first | (rw [if_pos (by decide +kernel)]; kernel_rfl) | (rw [if_neg (by decide +kernel)]; exact ⟨rfl, rfl⟩))
    (fun os started H enc _ => lifted os started H enc)

/-- The statement. -/
theorem proved : Rows.WirePlaysSaid :=
  over
end Go.Proofs.Ytccbpejjhcbboaa.lawPlays
