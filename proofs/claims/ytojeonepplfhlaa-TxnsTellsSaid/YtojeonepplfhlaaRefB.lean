/- Contracts of the document's own Reader: Take, number, Small, Big. -/
import Derived.Test.YtojeonepplfhlaaRefA
namespace Go.Proofs.Ytojeonepplfhlaa
open Go.RowKit

/-- The document's Reader in block g: what is left, and whether it is bad (then nothing is left). -/
def Sd (w : World) (g : Nat) (l : List Int) (bad : Bool) : Prop :=
  ∃ sv l0, Box w g 40 #[sv, .bool bad] ∧ Sl w g sv l0 ∧ Bys l0 ∧ l0.length ≤ 140737488354000 ∧ (bad = false → l0 = l) ∧ (bad = true → l = [])
theorem Sd.flag {w : World} {g : Nat} {l : List Int} {bad : Bool} (h : Sd w g l bad) : w.cell? ⟨g, 1, none⟩ = some (.bool bad) ∧ w.frozen? ⟨g, 1, none⟩ = false := by
  obtain ⟨_, _, hb, _⟩ := h
  exact ⟨hb.cell 1, hb.warm 1⟩
theorem Sd.fail {w : World} {g : Nat} {l : List Int} {bad : Bool} (h : Sd w g l bad) :
    Sd (w.setCell ⟨g, 1, none⟩ (.bool true)) g [] true ∧ Only g w (w.setCell ⟨g, 1, none⟩ (.bool true)) := by
  obtain ⟨sv, l0, hb, hs, hy, hm, _, _⟩ := h
  have ho : Only g w (w.setCell ⟨g, 1, none⟩ (.bool true)) := (Only.refl g w).set 1 _
  exact ⟨⟨sv, l0, hb.set 1 _, hs.only ho, hy, hm, (fun h => by cases h), fun _ => rfl⟩, ho⟩
theorem Sd.below {w w' : World} {g : Nat} {l : List Int} {bad : Bool} (h : Sd w g l bad) (hb : Below w.heap.size w w') : Sd w' g l bad := by
  obtain ⟨sv, l0, hx, hs, r⟩ := h
  exact ⟨sv, l0, hx.below hb, hs.below hb, r⟩
theorem Sd.bys {w : World} {g : Nat} {l : List Int} {bad : Bool} (h : Sd w g l bad) : Bys l := by
  obtain ⟨sv, l0, _, _, hy, _, h1, h2⟩ := h
  cases bad with
  | true => rw [h2 rfl]; exact Bys.nil
  | false => rw [← h1 rfl]; exact hy
theorem Sd.lt {w : World} {g : Nat} {l : List Int} {bad : Bool} (h : Sd w g l bad) : g < w.heap.size := by
  obtain ⟨_, _, hb, _⟩ := h
  exact hb.lt

def TakeS (g : Nat) (l : List Int) (bad : Bool) (n : Int) (w : World) (e : Ending) (w' : World) : Prop :=
  ∃ v, e = .returned v ∧ Only g w w' ∧
    ((bad = false ∧ 0 ≤ n ∧ n ≤ l.length ∧ Own w' w.heap.size 5 v (l.take n.toNat) ∧ Sd w' g (l.drop n.toNat) false) ∨ ((bad = true ∨ n < 0 ∨ l.length < n) ∧ Own w' w.heap.size 5 v [] ∧ Sd w' g [] true))

set_option maxRecDepth 100000 in
set_option maxHeartbeats 1000000 in
theorem qtake_bad (g : Nat) (w : World) (l : List Int) (n : Int) (h : Sd w g l true) :
    Calls Try.prog 44 #[.pointer (some ⟨g, 0, none⟩), .int .i64 n] w (TakeS g l true n w) := by
  obtain ⟨c1, f1⟩ := h.flag
  obtain ⟨hs, ho⟩ := h.fail
  have H : Kept (TakeS g l true n w (.returned (.slice none 0 0)) (w.setCell ⟨g, 1, none⟩ (.bool true))) := ⟨⟨_, rfl, ho, .inr ⟨.inl rfl, own_nil _ _ _, hs⟩⟩⟩
  clear hs ho h
  go_enter Try.func44, Try.ntmps44
  go_wp2
  go_ret
  exact H.out
set_option maxRecDepth 100000 in
set_option maxHeartbeats 1000000 in
theorem qtake_no (g : Nat) (w : World) (l : List Int) (n : Int) (h : Sd w g l false) (hn : n < 0 ∨ l.length < n) :
    Calls Try.prog 44 #[.pointer (some ⟨g, 0, none⟩), .int .i64 n] w (TakeS g l false n w) := by
  obtain ⟨c1, f1⟩ := h.flag
  obtain ⟨hs, ho⟩ := h.fail
  obtain ⟨sv, l0, hb, ⟨A, c, rfl, _⟩, _, _, h1, _⟩ := h
  obtain rfl := h1 rfl
  have c0 : w.cell? ⟨g, 0, none⟩ = some (.slice A l0.length c) := hb.cell 0
  have H : Kept (TakeS g l0 false n w (.returned (.slice none 0 0)) (w.setCell ⟨g, 1, none⟩ (.bool true))) := ⟨⟨_, rfl, ho, .inr ⟨.inr hn, own_nil _ _ _, hs⟩⟩⟩
  clear hs ho hb h1
  rcases hn with hn | hn
  · go_enter Try.func44, Try.ntmps44
    go_wp2
    go_ret
    exact H.out
  · by_cases h0 : n < 0
    · omega
    go_enter Try.func44, Try.ntmps44
    go_wp2
    go_ret
    exact H.out
set_option maxRecDepth 100000 in
set_option maxHeartbeats 1000000 in
theorem qtake_yes (g : Nat) (w : World) (l : List Int) (n : Nat) (h : Sd w g l false) (hn : n ≤ l.length) :
    Calls Try.prog 44 #[.pointer (some ⟨g, 0, none⟩), .int .i64 (n : Int)] w (TakeS g l false n w) := by
  obtain ⟨i0, hi, hz0, hz1, hz2⟩ := info_parts infoByte
  obtain ⟨c1, f1⟩ := h.flag
  obtain ⟨sv, l0, hb, hs, hy, hm, h1, _⟩ := h
  obtain rfl := h1 rfl
  obtain ⟨A, c, rfl, hc, _⟩ := id hs
  have c0 : w.cell? ⟨g, 0, none⟩ = some (.slice A l0.length c) := hb.cell 0
  have hnc : (n : Int) ≤ (c : Int) := by omega
  have hnl : (n : Int) ≤ (l0.length : Int) := by omega
  have hng : ((n : Int) < 0) = False := by simp
  have HS : Kept (Sl w g (.slice A l0.length c) l0) := ⟨hs⟩
  have HB : Kept (Box w g 40 #[.slice A l0.length c, .bool false]) := ⟨hb⟩
  have HY : Kept (Bys l0 ∧ l0.length ≤ 140737488354000) := ⟨hy, hm⟩
  have hgl := hb.lt
  clear hs hb hy hm h1
  go_enter Try.func44, Try.ntmps44
  go_wp2_with (at_builtin; refine wpList_append_bytes rfl (.tmp 26) (.tmp 32) 27 rfl w.heap.size 5 i0 Try.underlying27 hi hz0 hz1 hz2 _ [] rfl (own_empty w _) g _ (l0.take n) rfl ?d1 ?d2 ?d3 ?_)
  case d1 => exact (sl_take HS.out n hn).below ((Below.refl _ _).alloc (Nat.le_refl _) _)
  case d2 => have := HY.out.2; simp; omega
  case d3 => simp
  intro v' w1 ho hg
  have hb1 : Below w.heap.size w w1 := ((Below.refl w.heap.size w).alloc (Nat.le_refl _) (.cells #[] 5)).grown hg (by simp) (by simp [Value.ownBlock])
  have hx1 := HB.out.below hb1
  have d0 : w1.cell? ⟨g, 0, none⟩ = some (.slice A l0.length c) := hx1.cell 0
  have e0 := hx1.warm 0
  have HO : Kept (Own w1 w.heap.size 5 v' (l0.take n)) := ⟨ho⟩
  have HB1 : Kept (Below w.heap.size w w1) := ⟨hb1⟩
  have HX1 : Kept (Box w1 g 40 #[.slice A l0.length c, .bool false]) := ⟨hx1⟩
  have HP : ∀ D : Value, Sl w1 g D (l0.drop n) → TakeS g l0 false n w (.returned v') (w1.setCell ⟨g, 0, none⟩ D) := by
    intro D hD
    have ho1 : Only g w1 (w1.setCell ⟨g, 0, none⟩ D) := (Only.refl g w1).set 0 _
    refine ⟨v', rfl, (Only.of_below HB1.out).trans ho1, .inl ⟨rfl, by omega, hnl, ?_, ?_⟩⟩
    · rw [Int.toNat_natCast]
      refine HO.out.keep ho1 ?_
      cases hv : v'.ownBlock with
      | none => exact .inl rfl
      | some k =>
        have := (HO.out.lt k hv).1
        exact .inr (by simp; omega)
    · rw [Int.toNat_natCast]
      exact ⟨D, l0.drop n, HX1.out.set 0 _, hD.only ho1, HY.out.1.drop n, by rw [List.length_drop]; have := HY.out.2; omega, (fun _ => rfl), (fun h => by cases h)⟩
  have HPP : Kept (∀ D : Value, Sl w1 g D (l0.drop n) → TakeS g l0 false n w (.returned v') (w1.setCell ⟨g, 0, none⟩ D)) := ⟨HP⟩
  have HD : Kept (Sl w1 g (.slice (if c = n then A else A.map (·.add n)) (l0.length - n) (c - n)) (l0.drop n)) := ⟨(sl_drop HS.out n hn).below HB1.out⟩
  clear ho hg hb1 hx1 HP c0 c1 f1
  by_cases hcn : c = n
  · have hD := HD.out
    rw [if_pos hcn, show l0.length - n = 0 from by omega, show c - n = 0 from by omega] at hD
    have HF : Kept (TakeS g l0 false n w (.returned v') (w1.setCell ⟨g, 0, none⟩ (.slice A 0 0))) := ⟨HPP.out _ hD⟩
    clear hD
    subst hcn
    go_wp2
    go_ret
    exact HF.out
  · have hD := HD.out
    rw [if_neg hcn] at hD
    have HF : Kept (TakeS g l0 false n w (.returned v') (w1.setCell ⟨g, 0, none⟩ (.slice (A.map (·.add n)) (l0.length - n) (c - n)))) := ⟨HPP.out _ hD⟩
    clear hD
    go_wp2
    go_ret
    exact HF.out
end Go.Proofs.Ytojeonepplfhlaa
