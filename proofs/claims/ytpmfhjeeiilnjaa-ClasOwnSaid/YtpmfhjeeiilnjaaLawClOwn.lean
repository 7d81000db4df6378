/- Kinds hang on scripts alone, and dust on kind and value alone: for every int and every slice of bytes the law ClasOwn returns true and leaves its arguments as they were. No further condition. -/
import Derived.Test.YtpmfhjeeiilnjaaClF
import Derived.Test.YtpmfhjeeiilnjaaArgs
import Derived.Deep.DeepCutAuto
import Derived.Deep.RegionHeld3
namespace Go.Proofs.Ytpmfhjeeiilnjaa.lawClOwn
open Go.ChangeShapes Go.WideShapes Go.ChangeAt Go.RowKit

/-- What grows by a row of the call's own leaves all that was there ahead of the call. -/
theorem ownsRow_grows {w0 w w' : World} {B e k n : Nat} {v : Value} {xs : List Value} (ho : w.ownsRow B e k v n xs) (hb : Below w0.heap.size w0 w) (hg : w.grownBy w' v.ownBlock) (h0 : w0.heap.size ≤ B) : Below w0.heap.size w0 w' := by
  refine ⟨hg.os.trans hb.os, hg.tape.trans hb.tape, hg.output.trans hb.output, Nat.le_trans hb.size hg.size, fun j hj => (hg.block j (Nat.lt_of_lt_of_le hj hb.size) ?_).trans (hb.block j hj)⟩
  have h2 := ho.2
  rcases h2 with ⟨rfl, _⟩ | ⟨g, cap, cur, rfl, hbg, _⟩
  · simp [Value.ownBlock]
  · simp [Value.ownBlock]; omega
theorem outs_made (w : World) (sv : Value) (L : List Int) (q : Nat) (h : Rb w sv L) (hq : q < 18446744073709551616) :
    OutsR (w.alloc (.cells #[.int .u64 q, sv, .int .u64 0, sv] 33)) (.slice (some ⟨w.heap.size, 0, none⟩) 2 2) [⟨q, L⟩, ⟨0, L⟩] := by
  have hb := h.below ((Below.refl w.heap.size w).alloc (Nat.le_refl _) (.cells #[.int .u64 q, sv, .int .u64 0, sv] 33))
  have hx := Box.fresh w 33 #[.int .u64 q, sv, .int .u64 0, sv]
  refine ⟨_, _, rfl, Nat.le_refl _, by unfold maxLen; omega, (fun h => by cases h), fun _ => ⟨w.heap.size, 0, rfl, hx.lt, fun i d hd => ?_⟩⟩
  match i, hd with
  | 0, hd =>
    obtain rfl := Option.some.inj hd
    refine ⟨[.int .u64 q, sv], rfl, ?_, sv, rfl, hq, hb⟩
    intro j u hu
    match j, hu with
    | 0, hu => rw [← hu]; exact hx.cell 0
    | 1, hu => rw [← hu]; exact hx.cell 1
    | j + 2, hu => simp at hu
  | 1, hd =>
    obtain rfl := Option.some.inj hd
    refine ⟨[.int .u64 0, sv], rfl, ?_, sv, rfl, (by show 0 < 18446744073709551616; omega), hb⟩
    intro j u hu
    match j, hu with
    | 0, hu => rw [← hu]; exact hx.cell 2
    | 1, hu => rw [← hu]; exact hx.cell 3
    | j + 2, hu => simp at hu
  | i + 2, hd => simp at hd
theorem dust_least (L : List Int) : dustB (leastOf (kindOf L)) L = false := by unfold dustB; simp
theorem dust_under (L : List Int) (_h : 0 < leastOf (kindOf L)) : dustB ((leastOf (kindOf L) : Int) - 1) L = true := by unfold dustB; simp; omega
theorem dust_zero (L : List Int) (h : leastOf (kindOf L) = 0) : dustB 0 L = false := by unfold dustB; simp [h]
theorem dusts_two (L : List Int) (q : Nat) (hq : q = leastOf (kindOf L)) : dustsOf [⟨q, L⟩, ⟨0, L⟩] = if 0 < q then [1] else [] := by
  subst hq
  have h0 : dustAt [⟨leastOf (kindOf L), L⟩, ⟨0, L⟩] 0 = false := by simp [dustAt, dust_least]
  by_cases h : 0 < leastOf (kindOf L)
  · have h1 : dustAt [⟨leastOf (kindOf L), L⟩, ⟨0, L⟩] 1 = true := by simp [dustAt, dustB]; omega
    simp only [dustsOf, List.length_cons, List.length_nil, dustsTo, h0, h1, if_pos h]
    rfl
  · have h1 : dustAt [⟨leastOf (kindOf L), L⟩, ⟨0, L⟩] 1 = false := by simp [dustAt, dustB]; omega
    simp only [dustsOf, List.length_cons, List.length_nil, dustsTo, h0, h1, if_neg h]
    rfl
theorem leastOf_le (k : Int) : leastOf k ≤ 330 := by
  unfold leastOf
  repeat' split
  all_goals omega

set_option maxRecDepth 100000 in
set_option maxHeartbeats 1000000 in
theorem walk_long (n : Int) (v : Value) (l : List Int) (w : World) (hs : Sl w w.heap.size v l) (hl : 100 < l.length) : Calls Try.prog 4 #[.int .i64 n, v] w (YesK w) := by
  obtain ⟨A, c, rfl, _⟩ := hs
  go_enter Try.func4, Try.ntmps4
  go_wp2_with fail
  refine (awake6_any w).mono ?_
  rintro e w1 ⟨rfl, hb⟩
  go_wp2
  go_ret
  exact ⟨rfl, hb⟩

set_option maxRecDepth 100000 in
set_option maxHeartbeats 4000000 in
theorem walk_short (n : Int) (v : Value) (l : List Int) (w : World) (hn : -9223372036854775808 ≤ n ∧ n ≤ 9223372036854775807) (hs : Sl w w.heap.size v l) (hy : Bys l) (hl : l.length ≤ 100) : Calls Try.prog 4 #[.int .i64 n, v] w (YesK w) := by
  obtain ⟨i0, hi, hz0, hz1, hz2⟩ := info_parts infoByte
  have HI := Kp.mk (And.intro hi (And.intro hz0 (And.intro hz1 hz2)))
  clear hi hz0 hz1 hz2
  have HS := Kp.mk hs
  have HSC := Kp.mk (fun W => script_any W n hn)
  obtain ⟨A, c, rfl, _⟩ := hs
  obtain ⟨N, hN⟩ : ∃ N, l.length = N := ⟨_, rfl⟩
  rw [hN] at hl HS ⊢
  have HY := Kp.mk hy
  have HN := Kp.mk hN
  have HL1 := Kp.mk (scriptOf_len n)
  have HY1 := Kp.mk (scriptOf_bys n)
  generalize scriptOf n = L1 at *
  obtain ⟨W1, hW1⟩ : ∃ W1, w.alloc (.cells #[] 5) = W1 := ⟨_, rfl⟩
  have HB1 : Kp (Below w.heap.size w W1) := ⟨by rw [← hW1]; exact (Below.refl _ _).alloc (Nat.le_refl _) _⟩
  have HO1 : Kp (Own W1 w.heap.size 5 (.slice (some ⟨w.heap.size, 0, none⟩) 0 0) []) := ⟨by rw [← hW1]; exact own_empty w 5⟩
  have HW1 := Kp.mk hW1
  clear hN hn hy hW1
  go_enter Try.func4, Try.ntmps4
  go_wp2_with fail
  rw [HW1.out]
  refine (HSC.out _).mono ?_
  rintro e w2 ⟨v2, rfl, hf2, hb2⟩
  have HR2 := Kp.mk hf2.rbT.1
  have HB2 := Kp.mk hb2
  clear hf2 hb2
  have HN2 := Kp.mk (Nat.le_trans HB1.out.size HB2.out.size)
  have HSW : Kp (∀ w3, Below w.heap.size w w3 → Sl w3 w3.heap.size (.slice A N c) l) := ⟨fun w3 hb => (HS.out.below hb).free _ (Nat.le_refl _)⟩
  go_wp2_with (first
    | (at_builtin; have z := HR2.out; refine wpList_append_bytes rfl (.tmp 13) (.tmp 15) 30 rfl w.heap.size 5 i0 Try.underlying30 HI.out.1 HI.out.2.1 HI.out.2.2.1 HI.out.2.2.2 _ [] rfl (HO1.out.below HB2.out) _ _ L1 rfl z.1 (by have := HL1.out; simp; omega) HN2.out ?_; intro v3 w3 ho3 hg3; have HB3 := Kp.mk (ownsRow_grows (HO1.out.below HB2.out) (HB1.out.trans (HB2.out.mono HB1.out.size)) hg3 (Nat.le_refl _)); have HO3 := Kp.mk ho3; clear ho3 hg3 HR2 z)
    | (at_builtin; have z := HO3.out; refine wpList_append_bytes rfl (.tmp 16) (.tmp 17) 30 rfl w.heap.size 5 i0 Try.underlying30 HI.out.1 HI.out.2.1 HI.out.2.2.1 HI.out.2.2.2 _ ([] ++ L1) rfl z _ _ l rfl (HSW.out _ HB3.out) (by have := HL1.out; have := HN.out; simp; omega) HB3.out.size ?_; intro v4 w4 ho4 hg4; have HB4 := Kp.mk (ownsRow_grows z HB3.out hg4 (Nat.le_refl _)); have HO4 := Kp.mk ho4; clear ho4 hg4 z HO3))
  have hL : ([] ++ L1 ++ l : List Int) = L1 ++ l := by simp
  have hrb := (hL ▸ HO4.out).rb (Bys.app HY1.out HY.out)
  obtain ⟨A4, c4, e4⟩ := HO4.out.slice
  obtain ⟨M, hM⟩ : ∃ M, ([] ++ L1 ++ l : List Int).length = M := ⟨_, rfl⟩
  rw [hM] at e4
  subst e4
  generalize L1 ++ l = L at *
  have hq330 := leastOf_le (kindOf L)
  have HK := Kp.mk (kind_any w4 _ L hrb)
  have HDU : Kp (∀ (x : Int) W, Below w4.heap.size w4 W → Calls Try.prog 12 #[.agg #[.int .u64 x, .slice A4 M c4]] W (BoolP (dustB x L) W)) := ⟨fun x W hb => dust_any W x _ L (hrb.below hb)⟩
  have HLE := Kp.mk (fun W => least_any W (kindOf L))
  have HOUT : Kp (∀ W, Below w4.heap.size w4 W → OutsR (W.alloc (.cells #[.int .u64 (leastOf (kindOf L)), .slice A4 M c4, .int .u64 0, .slice A4 M c4] 33)) (.slice (some ⟨W.heap.size, 0, none⟩) 2 2) [⟨leastOf (kindOf L), L⟩, ⟨0, L⟩]) := ⟨fun W hb => outs_made W _ L _ (hrb.below hb) (by omega)⟩
  have HDS := Kp.mk (dusts_two L _ rfl)
  have hd0 := dust_least L
  have hd1 := dust_under L
  have hd2 := dust_zero L
  have HIT : Kp ((Try.prog.info? 27).map (·.size) = some 4) := ⟨by kernel_rfl⟩
  have HB := Kp.mk HB4.out
  clear hrb HO4 hL hM HB4 HSW HN2 HS HI HSC HY HN HL1 HY1 HB1 HO1 HW1 HB2 HB3 hl
  generalize leastOf (kindOf L) = q at *
  generalize kindOf L = kd at *
  have HAW : Kp (∀ W, Calls Try.prog 10 #[] W (YesK W)) := ⟨awake6_any⟩
  rcases Nat.eq_zero_or_pos q with hq | hq
  · subst hq
    have HD0 : Kp (∀ W, Below w4.heap.size w4 W → Calls Try.prog 12 #[.agg #[.int .u64 0, .slice A4 M c4]] W (BoolP false W)) := ⟨fun W hb => by have := HDU.out 0 W hb; rw [hd2 rfl] at this; exact this⟩
    rw [if_neg (by omega)] at HDS
    rw [show ((0 : Nat) : Int) = 0 from rfl] at HLE HOUT
    clear hd0 hd1 hd2 HDU hq330
    go_wp2_with fail
    refine HK.out.mono ?_
    rintro e w' ⟨rfl, rfl⟩
    go_wp2_with fail
    refine (HLE.out _).mono ?_
    rintro e w' ⟨rfl, rfl⟩
    go_wp2_with fail
    refine (HD0.out _ (Below.refl _ _)).mono ?_
    rintro e w5 ⟨rfl, hb5⟩
    have HB5 := Kp.mk hb5
    clear hb5
    go_wp2_with fail
    refine (HD0.out _ HB5.out).mono ?_
    rintro e w6 ⟨rfl, hb6⟩
    have HB6 := Kp.mk (HB5.out.trans (hb6.mono HB5.out.size))
    clear hb6
    have HO6 := Kp.mk (HOUT.out _ HB6.out)
    have HA6 := Kp.mk ((Below.refl w6.heap.size w6).alloc (Nat.le_refl _) (.cells #[.int .u64 0, .slice A4 M c4, .int .u64 0, .slice A4 M c4] 33))
    go_wp2_with (first
      | (refine wpList_store_fresh rfl 27 (.tmp 7) (.tmp 53) rfl _ #[.int .u32 0, .slice none 0 0, .slice (some ⟨w6.heap.size, 0, none⟩) 2 2, .int .u32 0] (w6.heap.size + 1) (by simp) rfl rfl HIT.out rfl rfl ?_)
      | (go_at_call 9; refine (dusts_any _ (.int .u32 0) (.slice none 0 0) (.int .u32 0) _ _ (outs_below HO6.out ((Below.refl _ _).alloc (Nat.le_refl _) _)) (by simp)).mono ?_; rintro e w7 ⟨v7, rfl, ho7, hb7⟩; rw [HDS.out] at ho7; have HB7 := Kp.mk ((HA6.out.alloc HA6.out.size _).trans (hb7.mono (by simp; omega))); clear hb7; obtain ⟨A7, c7, rfl⟩ := ho7.slice; clear ho7)
      | (go_at_call 10; refine (HAW.out _).mono ?_; rintro e w8 ⟨rfl, hb8⟩; have HB8 := Kp.mk hb8; clear hb8))

    go_ret
    exact ⟨rfl, HB.out.trans ((HB6.out.trans ((HB7.out.trans (HB8.out.mono HB7.out.size)).mono HB6.out.size)).mono HB.out.size)⟩
  · have HD0 : Kp (∀ W, Below w4.heap.size w4 W → Calls Try.prog 12 #[.agg #[.int .u64 q, .slice A4 M c4]] W (BoolP false W)) := ⟨fun W hb => by have := HDU.out q W hb; rw [hd0] at this; exact this⟩
    have HD1 : Kp (∀ W, Below w4.heap.size w4 W → Calls Try.prog 12 #[.agg #[.int .u64 ((q : Int) - 1), .slice A4 M c4]] W (BoolP true W)) := ⟨fun W hb => by have := HDU.out ((q : Int) - 1) W hb; rw [hd1 hq] at this; exact this⟩
    have hw : IntKind.u64.wrap ((q : Int) - 1) = (q : Int) - 1 := by rw [IntKind.wrap_u64]; omega
    have hg0 : decide (0 < (q : Int)) = true := by simp; omega
    have he0 : ((q : Int) == 0) = false := by simp; omega
    have hg1 : decide (0 < q) = true := by simp; omega
    have hg2 : (0 < q) = True := by simp; omega
    have he1 : (q == 0) = false := by simp; omega
    have he2 : (q = 0) = False := by simp; omega
    rw [if_pos hq] at HDS
    clear hd0 hd1 hd2 HDU hq330 hq
    go_wp2_with fail
    refine HK.out.mono ?_
    rintro e w' ⟨rfl, rfl⟩
    go_wp2_with fail
    refine (HLE.out _).mono ?_
    rintro e w' ⟨rfl, rfl⟩
    go_wp2_with fail
    refine (HD0.out _ (Below.refl _ _)).mono ?_
    rintro e w5 ⟨rfl, hb5⟩
    have HB5 := Kp.mk hb5
    clear hb5
    go_wp2_with fail
    refine (HD1.out _ HB5.out).mono ?_
    rintro e w6 ⟨rfl, hb6⟩
    have HB6 := Kp.mk (HB5.out.trans (hb6.mono HB5.out.size))
    clear hb6
    have HO6 := Kp.mk (HOUT.out _ HB6.out)
    have HA6 := Kp.mk ((Below.refl w6.heap.size w6).alloc (Nat.le_refl _) (.cells #[.int .u64 q, .slice A4 M c4, .int .u64 0, .slice A4 M c4] 33))
    go_wp2_with (first
      | (refine wpList_store_fresh rfl 27 (.tmp 7) (.tmp 53) rfl _ #[.int .u32 0, .slice none 0 0, .slice (some ⟨w6.heap.size, 0, none⟩) 2 2, .int .u32 0] (w6.heap.size + 1) (by simp) rfl rfl HIT.out rfl rfl ?_)
      | (go_at_call 9; refine (dusts_any _ (.int .u32 0) (.slice none 0 0) (.int .u32 0) _ _ (outs_below HO6.out ((Below.refl _ _).alloc (Nat.le_refl _) _)) (by simp)).mono ?_; rintro e w7 ⟨v7, rfl, ho7, hb7⟩; rw [HDS.out] at ho7; have HB7 := Kp.mk ((HA6.out.alloc HA6.out.size _).trans (hb7.mono (by simp; omega))); clear hb7; rcases ho7.form with ⟨_, e7⟩ | ⟨g7, c7, _, rfl, _⟩ <;> (first | (exact absurd e7 (by simp)) | skip); have hc7 := ho7.at 0 (by simp); clear ho7)
      | (go_at_call 10; refine (HAW.out _).mono ?_; rintro e w8 ⟨rfl, hb8⟩; have HB8 := Kp.mk hb8; clear hb8))

    go_ret
    exact ⟨rfl, HB.out.trans ((HB6.out.trans ((HB7.out.trans (HB8.out.mono HB7.out.size)).mono HB6.out.size)).mono HB.out.size)⟩

theorem walk (n : Int) (v : Value) (l : List Int) (w : World) (hn : -9223372036854775808 ≤ n ∧ n ≤ 9223372036854775807) (hs : Sl w w.heap.size v l) (hy : Bys l) : Calls Try.prog 4 #[.int .i64 n, v] w (YesK w) := by
  by_cases h : l.length ≤ 100
  · exact walk_short n v l w hn hs hy h
  · exact walk_long n v l w hs (by omega)

set_option maxRecDepth 100000 in
theorem lifted (os : Os) (started : os.Started) (H : Type) (enc : TypeId × Value → H) :
    ReturnsInHanded {} Try.checked os 4 .any (Rows.clasOwnSpec.pre6 enc Try.prog Try.f4 Rows.clasOwnRow.domain false) (Rows.clasOwnSpec.post enc Try.prog Try.f4 false true false false) := by
  refine returnsInHanded_of_change (C := Try.checked) ownKnobNone started (by kernel_rfl) Try.func4
    (ChangeSpec.witness6 (enc := enc) (C := Try.checked) false ⟨#[], #[.int .i64 0, .slice none 0 0], []⟩ 8 (by kernel_rfl) (by kernel_rfl) (by kernel_rfl) (by kernel_rfl)) ?_
  intro W base args ds gs before hval0 hW _ _
  have hval : ∀ (j : Nat) t v, Try.f4.params[j]? = some t → args[j]? = some v → Value.okWide Try.prog W .any base t v := hval0
  have hW' := hW
  obtain ⟨p, q, hA0, hV, rfl, _, _⟩ := hW
  have hA : DataW.TrodAll enc Try.prog W 0 (fun _ => true) true Try.f4.params.toList args.toList ds p := hA0
  rw [Try.params4] at hA hval
  obtain ⟨v0, vs0, d0, ds0, p0, q0, hargs, rfl, rfl, h0, r0⟩ := trodAll_cons hA
  obtain ⟨v1, vs1, d1, ds1, p1, q1, rfl, rfl, rfl, h1, r1⟩ := trodAll_cons r0
  obtain ⟨rfl, rfl, rfl⟩ := trodAll_nil r1
  obtain rfl : args = #[v0, v1] := by cases args; simp_all
  obtain ⟨rfl, rfl⟩ := trodVars_none hV
  obtain ⟨a0, rfl, rfl, rfl, w0⟩ := open_int Try.underlying3 (hval 0 3 v0 rfl rfl) h0
  have b0 := bd_i64 w0
  obtain ⟨l1, s1, y1, z1⟩ := bytes_arg (hval 1 30 v1 rfl rfl) h1
  clear hA0 hval0
  refine (walk a0 v1 l1 W b0 s1 y1).mono fun e W' ⟨he, hb⟩ => ?_
  subst he
  exact ⟨_, rfl, law_post hW' rfl rfl (by kernel_rfl) rfl hb⟩

set_option maxRecDepth 100000 in
theorem over : Rows.clasOwnRow.holds Try.pinned (OpenSpec.ofChange Rows.clasOwnSpec) :=
  OpenClaim.holds_of_wide 4 Try.f4 rfl rfl rfl rfl rfl rfl rfl ⟨rfl, rfl, rfl, rfl, rfl⟩ rfl rfl rfl rfl rfl (by kernel_rfl) Try.func4 (by kernel_rfl)
    (of_decide_eq_true (by kernel_rfl)) (by unfold Func.isWrapper; first | (rw [if_pos (by decide +kernel)]; kernel_rfl) | (rw [if_neg (by decide +kernel)]; exact ⟨rfl, rfl⟩))
    (fun os started H enc _ => lifted os started H enc)

/-- The statement. -/
theorem proved : Rows.ClasOwnSaid :=
  over
end Go.Proofs.Ytpmfhjeeiilnjaa.lawClOwn
