/- Contracts of package txns: what is appended to a row of the call's own. -/
import Derived.Test.YtojeonepplfhlaaTxE
import Derived.Test.YtojeonepplfhlaaWireF
namespace Go.Proofs.Ytojeonepplfhlaa
open Go.RowKit

/-- Blocks below B are as they were, and so is each block whose cells are no bytes. -/
structure Grew (B : Nat) (w w' : World) : Prop where
  low : Below B w w'
  box : ∀ (g t : Nat) (cs : Array Value), Box w g t cs → t ≠ 5 → Box w' g t cs
theorem Grew.refl (B : Nat) (w : World) : Grew B w w := ⟨Below.refl _ _, fun _ _ _ h _ => h⟩
theorem Grew.trans {B : Nat} {w w1 w2 : World} (h : Grew B w w1) (k : Grew B w1 w2) : Grew B w w2 := ⟨h.low.trans k.low, fun g t cs hb hne => k.box g t cs (h.box g t cs hb hne) hne⟩
theorem Grew.of_below {B : Nat} {w w' : World} (hB : B ≤ w.heap.size) (h : Below w.heap.size w w') : Grew B w w' := ⟨h.mono hB, fun _ _ _ hb _ => hb.below h⟩
theorem Grew.mono {B B' : Nat} {w w' : World} (h : Grew B w w') (hB : B' ≤ B) : Grew B' w w' := ⟨h.low.mono hB, h.box⟩
set_option maxRecDepth 100000 in
theorem Grew.of_grown {w w' : World} {B : Nat} {v : Value} {l : List Int} (ho : Own w B 5 v l) (hB : B ≤ w.heap.size) (hg : w.grownBy w' v.ownBlock) : Grew B w w' := by
  refine ⟨(Below.refl _ _).grown hg hB (fun k hk => (Own.lt ho k hk).1), fun g t cs hb hne => ?_⟩
  refine (hg.block g hb.lt ?_).trans hb
  intro hrow
  rcases ho.form with ⟨rfl, _⟩ | ⟨g', cap, cur, rfl, _, hx, _⟩
  · cases hrow
  · simp only [Value.ownBlock, Option.some.injEq] at hrow
    subst hrow
    have hx' : w.heap[g]? = some (.cells cur 5 (0, 0)) := hx
    have hb' : w.heap[g]? = some (.cells cs t (0, 0)) := hb
    rw [hx'] at hb'
    injection hb' with hb'
    injection hb' with _ h2
    exact hne h2.symm
/-- What is answered is a row of the call's own, that reads as l'. -/
def App (B : Nat) (l' : List Int) (w : World) (e : Ending) (w' : World) : Prop := ∃ v', e = .returned v' ∧ Own w' B 5 v' l' ∧ Grew B w w'

set_option maxRecDepth 100000 in
set_option maxHeartbeats 1000000 in
theorem addSmall_any (w : World) (B : Nat) (v : Value) (l : List Int) (n : Nat) (hB : B ≤ w.heap.size) (ho : Own w B 5 v l) (hn : n < 4294967296) (hl : l.length ≤ 1000000000000) :
    Calls Try.prog 51 #[v, .int .u32 (n : Int)] w (App B (l ++ leb n 4) w) := by
  obtain ⟨i0, hi, hz0, hz1, hz2⟩ := info_parts infoByte
  have H := Kp.mk (small_any w 0 (.slice none 0 0) [] n (Sl.nil _ _) (by simp) hn)
  have HO := Kp.mk ho
  obtain ⟨A, c, rfl⟩ := ho.slice
  clear ho hn
  go_enter Try.func51, Try.ntmps51
  go_wp2_with fail
  refine H.out.mono ?_
  rintro e w1 ⟨v1, rfl, h1, hb1⟩
  have HN := Kp.mk h1
  have HB := Kp.mk hb1
  obtain ⟨A1, c1, rfl⟩ := h1.slice
  clear h1 hb1
  go_wp2_with (at_builtin; refine wpList_append_bytes rfl (.tmp 5) (.tmp 7) 27 rfl B 5 i0 Try.underlying27 hi hz0 hz1 hz2 _ l rfl (HO.out.below HB.out) w1.heap.size _ _ rfl HN.out.any ?c1 ?c2 ?_)
  case c1 => simp [leb_len]; omega
  case c2 => exact Nat.le_trans hB HB.out.size
  intro v' w' ho2 hg2
  have HO2 := Kp.mk ho2
  have HG2 := Kp.mk ((Grew.of_below hB HB.out).trans (Grew.of_grown (HO.out.below HB.out) (Nat.le_trans hB HB.out.size) hg2))
  obtain ⟨A2, c2, rfl⟩ := ho2.slice
  clear ho2 hg2
  go_wp2
  go_ret
  exact ⟨_, rfl, by simpa using HO2.out, HG2.out⟩
set_option maxRecDepth 100000 in
set_option maxHeartbeats 1000000 in
theorem addBig_any (w : World) (B : Nat) (v : Value) (l : List Int) (n : Nat) (hB : B ≤ w.heap.size) (ho : Own w B 5 v l) (hl : l.length ≤ 1000000000000) :
    Calls Try.prog 71 #[v, .int .u64 (n : Int)] w (App B (l ++ leb n 8) w) := by
  obtain ⟨i0, hi, hz0, hz1, hz2⟩ := info_parts infoByte
  have H := Kp.mk (big_any w 0 (.slice none 0 0) [] n (Sl.nil _ _) (by simp))
  have HO := Kp.mk ho
  obtain ⟨A, c, rfl⟩ := ho.slice
  clear ho
  go_enter Try.func71, Try.ntmps71
  go_wp2_with fail
  refine H.out.mono ?_
  rintro e w1 ⟨v1, rfl, h1, hb1⟩
  have HN := Kp.mk h1
  have HB := Kp.mk hb1
  obtain ⟨A1, c1, rfl⟩ := h1.slice
  clear h1 hb1
  go_wp2_with (at_builtin; refine wpList_append_bytes rfl (.tmp 5) (.tmp 7) 27 rfl B 5 i0 Try.underlying27 hi hz0 hz1 hz2 _ l rfl (HO.out.below HB.out) w1.heap.size _ _ rfl HN.out.any ?c1 ?c2 ?_)
  case c1 => simp [leb_len]; omega
  case c2 => exact Nat.le_trans hB HB.out.size
  intro v' w' ho2 hg2
  have HO2 := Kp.mk ho2
  have HG2 := Kp.mk ((Grew.of_below hB HB.out).trans (Grew.of_grown (HO.out.below HB.out) (Nat.le_trans hB HB.out.size) hg2))
  obtain ⟨A2, c2, rfl⟩ := ho2.slice
  clear ho2 hg2
  go_wp2
  go_ret
  exact ⟨_, rfl, by simpa using HO2.out, HG2.out⟩
set_option maxRecDepth 100000 in
set_option maxHeartbeats 1000000 in
theorem addCount_any (w : World) (B : Nat) (v : Value) (l : List Int) (n : Nat) (hB : B ≤ w.heap.size) (ho : Own w B 5 v l) (hn : n ≤ 4294967295) (hl : l.length ≤ 1000000000000) :
    Calls Try.prog 52 #[v, .int .i64 (n : Int)] w (App B (l ++ cnt n) w) := by
  obtain ⟨i0, hi, hz0, hz1, hz2⟩ := info_parts infoByte
  have h0 := count_any w 0 (.slice none 0 0) [] (n : Int) (Sl.nil _ _) (by simp) (by omega)
  rw [clamp_in n (by omega)] at h0
  have H := Kp.mk h0
  have HO := Kp.mk ho
  have HM := Kp.mk (cnt_max n)
  obtain ⟨A, c, rfl⟩ := ho.slice
  clear ho hn h0
  generalize cnt n = X at *
  go_enter Try.func52, Try.ntmps52
  go_wp2_with fail
  refine H.out.mono ?_
  rintro e w1 ⟨v1, rfl, h1, hb1⟩
  have HN := Kp.mk h1
  have HB := Kp.mk hb1
  obtain ⟨A1, c1, rfl⟩ := h1.slice
  clear h1 hb1
  go_wp2_with (at_builtin; refine wpList_append_bytes rfl (.tmp 5) (.tmp 7) 27 rfl B 5 i0 Try.underlying27 hi hz0 hz1 hz2 _ l rfl (HO.out.below HB.out) w1.heap.size _ _ rfl HN.out.any ?c1 ?c2 ?_)
  case c1 => have := HM.out; simp; omega
  case c2 => exact Nat.le_trans hB HB.out.size
  intro v' w' ho2 hg2
  have HO2 := Kp.mk ho2
  have HG2 := Kp.mk ((Grew.of_below hB HB.out).trans (Grew.of_grown (HO.out.below HB.out) (Nat.le_trans hB HB.out.size) hg2))
  obtain ⟨A2, c2, rfl⟩ := ho2.slice
  clear ho2 hg2
  go_wp2
  go_ret
  exact ⟨_, rfl, by simpa using HO2.out, HG2.out⟩
def encText (x : List Int) : List Int := cnt x.length ++ x
theorem encText_len (x : List Int) : (encText x).length ≤ 5 + x.length := by have := cnt_max x.length; simp [encText]; omega
set_option maxRecDepth 100000 in
set_option maxHeartbeats 1000000 in
theorem addText_any (w0 w : World) (B : Nat) (v : Value) (l : List Int) (tv : Value) (x : List Int) (h0 : w0.heap.size ≤ B) (hB : B ≤ w.heap.size) (hw : Below w0.heap.size w0 w) (ho : Own w B 5 v l) (ht : Rb w0 tv x)
    (hx : x.length ≤ 4294967295) (hl : l.length ≤ 900000000000) : Calls Try.prog 70 #[v, tv] w (App B (l ++ encText x) w) := by
  obtain ⟨i0, hi, hz0, hz1, hz2⟩ := info_parts infoByte
  have h := addCount_any w B v l x.length hB ho hx (by omega)
  obtain ⟨A, c, rfl⟩ := ho.slice
  have HT := Kp.mk ht
  obtain ⟨⟨At, ct, rfl, hct, _⟩, _, hm⟩ := ht
  unfold maxLen at hm
  obtain ⟨L1, hL1⟩ : ∃ L1, l ++ cnt x.length = L1 := ⟨_, rfl⟩
  have HC : Kp (L1.length ≤ l.length + 5) := ⟨by have := cnt_max x.length; rw [← hL1]; simp; omega⟩
  have HE : Kp (l ++ encText x = L1 ++ x) := ⟨by rw [← hL1]; simp [encText]⟩
  have HW := Kp.mk hw
  rw [hL1] at h
  have H := Kp.mk h
  clear ho hw h hL1
  go_enter Try.func70, Try.ntmps70
  go_wp2_with fail
  refine H.out.mono ?_
  rintro e w1 ⟨v1, rfl, h1, hg1⟩
  have HN := Kp.mk h1
  have HG := Kp.mk hg1
  obtain ⟨A1, c1, rfl⟩ := h1.slice
  clear h1 hg1
  go_wp2_with (at_builtin; refine wpList_append_bytes rfl (.tmp 8) (.tmp 9) 27 rfl B 5 i0 Try.underlying27 hi hz0 hz1 hz2 _ _ rfl HN.out w1.heap.size _ x rfl (HT.out.below (HW.out.trans (HG.out.low.mono h0))).1 ?c1 ?c2 ?_)
  case c1 => have := HC.out; omega
  case c2 => exact Nat.le_trans hB HG.out.low.size
  intro v' w' ho2 hg2
  have HO2 := Kp.mk ho2
  have HG2 := Kp.mk (HG.out.trans (Grew.of_grown HN.out (Nat.le_trans hB HG.out.low.size) hg2))
  obtain ⟨A2, c2, rfl⟩ := ho2.slice
  clear ho2 hg2
  go_wp2
  go_ret
  exact ⟨_, rfl, by rw [HE.out]; simpa using HO2.out, HG2.out⟩
end Go.Proofs.Ytojeonepplfhlaa
