/- Contracts of the document's own Reader: Take, number, Small, Big. -/
import Derived.Test.YtojeonepplfhlaaRefA
namespace Go.Proofs.Ytojeonepplfhlaa
open Go.RowKit

/-- The slice v reads as the bytes l; they lie in a block ahead of block g. -/
def Su (w : World) (g : Nat) (v : Value) (l : List Int) : Prop :=
  ∃ A c, v = .slice A l.length c ∧ l.length ≤ c ∧ (A = none → c = 0) ∧ (l ≠ [] → ∃ b off, A = some ⟨b, off, none⟩ ∧ b < g ∧ b < w.heap.size ∧ Run w b off l)
theorem Su.sl {w : World} {g : Nat} {v : Value} {l : List Int} (h : Su w g v l) : Sl w g v l := by
  obtain ⟨A, c, rfl, hc, hn, hr⟩ := h
  exact ⟨A, c, rfl, hc, hn, fun hl => by obtain ⟨b, off, rfl, hb, hlt, hrun⟩ := hr hl; exact ⟨b, off, rfl, Nat.ne_of_lt hb, hlt, hrun⟩⟩
theorem Su.keep {w w' : World} {g : Nat} {v : Value} {l : List Int} (h : Su w g v l) (hk : ∀ b, b < w.heap.size → b < g → w'.heap[b]? = w.heap[b]?) (hz : w.heap.size ≤ w'.heap.size) : Su w' g v l := by
  obtain ⟨A, c, rfl, hc, hn, hr⟩ := h
  refine ⟨A, c, rfl, hc, hn, fun hl => ?_⟩
  obtain ⟨b, off, rfl, hb, hlt, hrun⟩ := hr hl
  exact ⟨b, off, rfl, hb, by omega, fun i hi => (World.cell?_of_block (hk b hlt hb)).trans (hrun i hi)⟩
theorem Su.only {w w' : World} {g : Nat} {v : Value} {l : List Int} (h : Su w g v l) (hk : Only g w w') : Su w' g v l := h.keep (fun b hb hlt => hk.block b hb (by have := Nat.ne_of_lt hlt; simpa using this)) hk.size
theorem Su.below {w w' : World} {g : Nat} {v : Value} {l : List Int} (h : Su w g v l) (hk : Below w.heap.size w w') : Su w' g v l := h.keep (fun b hb _ => hk.block b hb) hk.size
theorem su_take {w : World} {g : Nat} {A : Option Addr} {c : Nat} {l : List Int} (h : Su w g (.slice A l.length c) l) (n : Nat) (hn : n ≤ l.length) : Sl w g (.slice A n c) (l.take n) := sl_take h.sl n hn
theorem su_drop {w : World} {g : Nat} {A : Option Addr} {c : Nat} {l : List Int} (h : Su w g (.slice A l.length c) l) (n : Nat) (hn : n ≤ l.length) :
    Su w g (.slice (if c = n then A else A.map (·.add n)) (l.length - n) (c - n)) (l.drop n) := by
  obtain ⟨A', c', e, hc, hnn, hr⟩ := h
  injection e with e1 e2 e3
  subst e1; subst e3
  refine ⟨_, _, by rw [List.length_drop], by rw [List.length_drop]; omega, fun he => ?_, fun hl => ?_⟩
  · split at he
    · omega
    · cases A with
      | none => have := hnn rfl; omega
      | some ad => cases he
  have hlt' : n < l.length := by
    rcases Nat.lt_or_ge n l.length with h1 | h1
    · exact h1
    · exact absurd (List.drop_eq_nil_of_le h1) hl
  obtain ⟨b, off, rfl, hb, hlt, hrun⟩ := hr (fun h0 => by subst h0; exact hl (by simp))
  refine ⟨b, off + n, ?_, hb, hlt, hrun.drop n⟩
  rw [if_neg (by omega)]
  by_cases h0 : n = 0
  · subst h0; simp [Addr.add]
  · simp [Addr.add, h0]
/-- The document's Reader in block g: what is left, and whether it is bad (then nothing is left). -/
def Sg (w : World) (g : Nat) (l : List Int) (bad : Bool) : Prop :=
  ∃ sv l0, Box w g 40 #[sv, .bool bad] ∧ Su w g sv l0 ∧ Bys l0 ∧ l0.length ≤ 140737488354000 ∧ (bad = false → l0 = l) ∧ (bad = true → l = [])
theorem Sg.flag {w : World} {g : Nat} {l : List Int} {bad : Bool} (h : Sg w g l bad) : w.cell? ⟨g, 1, none⟩ = some (.bool bad) ∧ w.frozen? ⟨g, 1, none⟩ = false := by
  obtain ⟨_, _, hb, _⟩ := h
  exact ⟨hb.cell 1, hb.warm 1⟩
theorem Sg.fail {w : World} {g : Nat} {l : List Int} {bad : Bool} (h : Sg w g l bad) :
    Sg (w.setCell ⟨g, 1, none⟩ (.bool true)) g [] true ∧ Only g w (w.setCell ⟨g, 1, none⟩ (.bool true)) := by
  obtain ⟨sv, l0, hb, hs, hy, hm, _, _⟩ := h
  have ho : Only g w (w.setCell ⟨g, 1, none⟩ (.bool true)) := (Only.refl g w).set 1 _
  exact ⟨⟨sv, l0, hb.set 1 _, hs.only ho, hy, hm, (fun h => by cases h), fun _ => rfl⟩, ho⟩
theorem Sg.below {w w' : World} {g : Nat} {l : List Int} {bad : Bool} (h : Sg w g l bad) (hb : Below w.heap.size w w') : Sg w' g l bad := by
  obtain ⟨sv, l0, hx, hs, r⟩ := h
  exact ⟨sv, l0, hx.below hb, hs.below hb, r⟩
theorem Sg.bys {w : World} {g : Nat} {l : List Int} {bad : Bool} (h : Sg w g l bad) : Bys l := by
  obtain ⟨sv, l0, _, _, hy, _, h1, h2⟩ := h
  cases bad with
  | true => rw [h2 rfl]; exact Bys.nil
  | false => rw [← h1 rfl]; exact hy
theorem Sg.lt {w : World} {g : Nat} {l : List Int} {bad : Bool} (h : Sg w g l bad) : g < w.heap.size := by
  obtain ⟨_, _, hb, _⟩ := h
  exact hb.lt

def TakeG (g : Nat) (l : List Int) (bad : Bool) (n : Int) (w : World) (e : Ending) (w' : World) : Prop :=
  ∃ v, e = .returned v ∧ Only g w w' ∧
    ((bad = false ∧ 0 ≤ n ∧ n ≤ l.length ∧ Own w' w.heap.size 5 v (l.take n.toNat) ∧ Sg w' g (l.drop n.toNat) false) ∨ ((bad = true ∨ n < 0 ∨ l.length < n) ∧ Own w' w.heap.size 5 v [] ∧ Sg w' g [] true))

set_option maxRecDepth 100000 in
set_option maxHeartbeats 1000000 in
theorem gtake_bad (g : Nat) (w : World) (l : List Int) (n : Int) (h : Sg w g l true) :
    Calls Try.prog 44 #[.pointer (some ⟨g, 0, none⟩), .int .i64 n] w (TakeG g l true n w) := by
  obtain ⟨c1, f1⟩ := h.flag
  obtain ⟨hs, ho⟩ := h.fail
  have H : Kept (TakeG g l true n w (.returned (.slice none 0 0)) (w.setCell ⟨g, 1, none⟩ (.bool true))) := ⟨⟨_, rfl, ho, .inr ⟨.inl rfl, own_nil _ _ _, hs⟩⟩⟩
  clear hs ho h
  go_enter Try.func44, Try.ntmps44
  go_wp2
  go_ret
  exact H.out
set_option maxRecDepth 100000 in
set_option maxHeartbeats 1000000 in
theorem gtake_no (g : Nat) (w : World) (l : List Int) (n : Int) (h : Sg w g l false) (hn : n < 0 ∨ l.length < n) :
    Calls Try.prog 44 #[.pointer (some ⟨g, 0, none⟩), .int .i64 n] w (TakeG g l false n w) := by
  obtain ⟨c1, f1⟩ := h.flag
  obtain ⟨hs, ho⟩ := h.fail
  obtain ⟨sv, l0, hb, ⟨A, c, rfl, _⟩, _, _, h1, _⟩ := h
  obtain rfl := h1 rfl
  have c0 : w.cell? ⟨g, 0, none⟩ = some (.slice A l0.length c) := hb.cell 0
  have H : Kept (TakeG g l0 false n w (.returned (.slice none 0 0)) (w.setCell ⟨g, 1, none⟩ (.bool true))) := ⟨⟨_, rfl, ho, .inr ⟨.inr hn, own_nil _ _ _, hs⟩⟩⟩
  clear hs ho hb h1
  rcases hn with hn | hn
  · go_enter Try.func44, Try.ntmps44
    go_wp2
    go_ret
    exact H.out
  · by_cases h0 : n < 0
    · omega
    go_enter Try.func44, Try.ntmps44
    go_wp2
    go_ret
    exact H.out
set_option maxRecDepth 100000 in
set_option maxHeartbeats 1000000 in
theorem gtake_yes (g : Nat) (w : World) (l : List Int) (n : Nat) (h : Sg w g l false) (hn : n ≤ l.length) :
    Calls Try.prog 44 #[.pointer (some ⟨g, 0, none⟩), .int .i64 (n : Int)] w (TakeG g l false n w) := by
  obtain ⟨i0, hi, hz0, hz1, hz2⟩ := info_parts infoByte
  obtain ⟨c1, f1⟩ := h.flag
  obtain ⟨sv, l0, hb, hs, hy, hm, h1, _⟩ := h
  obtain rfl := h1 rfl
  obtain ⟨A, c, rfl, hc, _⟩ := id hs
  have c0 : w.cell? ⟨g, 0, none⟩ = some (.slice A l0.length c) := hb.cell 0
  have hnc : (n : Int) ≤ (c : Int) := by omega
  have hnl : (n : Int) ≤ (l0.length : Int) := by omega
  have hng : ((n : Int) < 0) = False := by simp
  have HS : Kept (Su w g (.slice A l0.length c) l0) := ⟨hs⟩
  have HB : Kept (Box w g 40 #[.slice A l0.length c, .bool false]) := ⟨hb⟩
  have HY : Kept (Bys l0 ∧ l0.length ≤ 140737488354000) := ⟨hy, hm⟩
  have hgl := hb.lt
  clear hs hb hy hm h1
  go_enter Try.func44, Try.ntmps44
  go_wp2_with (at_builtin; refine wpList_append_bytes rfl (.tmp 26) (.tmp 32) 27 rfl w.heap.size 5 i0 Try.underlying27 hi hz0 hz1 hz2 _ [] rfl (own_empty w _) g _ (l0.take n) rfl ?d1 ?d2 ?d3 ?_)
  case d1 => exact (su_take HS.out n hn).below ((Below.refl _ _).alloc (Nat.le_refl _) _)
  case d2 => have := HY.out.2; simp; omega
  case d3 => simp
  intro v' w1 ho hg
  have hb1 : Below w.heap.size w w1 := ((Below.refl w.heap.size w).alloc (Nat.le_refl _) (.cells #[] 5)).grown hg (by simp) (by simp [Value.ownBlock])
  have hx1 := HB.out.below hb1
  have d0 : w1.cell? ⟨g, 0, none⟩ = some (.slice A l0.length c) := hx1.cell 0
  have e0 := hx1.warm 0
  have HO : Kept (Own w1 w.heap.size 5 v' (l0.take n)) := ⟨ho⟩
  have HB1 : Kept (Below w.heap.size w w1) := ⟨hb1⟩
  have HX1 : Kept (Box w1 g 40 #[.slice A l0.length c, .bool false]) := ⟨hx1⟩
  have HP : ∀ D : Value, Su w1 g D (l0.drop n) → TakeG g l0 false n w (.returned v') (w1.setCell ⟨g, 0, none⟩ D) := by
    intro D hD
    have ho1 : Only g w1 (w1.setCell ⟨g, 0, none⟩ D) := (Only.refl g w1).set 0 _
    refine ⟨v', rfl, (Only.of_below HB1.out).trans ho1, .inl ⟨rfl, by omega, hnl, ?_, ?_⟩⟩
    · rw [Int.toNat_natCast]
      refine HO.out.keep ho1 ?_
      cases hv : v'.ownBlock with
      | none => exact .inl rfl
      | some k =>
        have := (HO.out.lt k hv).1
        exact .inr (by simp; omega)
    · rw [Int.toNat_natCast]
      exact ⟨D, l0.drop n, HX1.out.set 0 _, hD.only ho1, HY.out.1.drop n, by rw [List.length_drop]; have := HY.out.2; omega, (fun _ => rfl), (fun h => by cases h)⟩
  have HPP : Kept (∀ D : Value, Su w1 g D (l0.drop n) → TakeG g l0 false n w (.returned v') (w1.setCell ⟨g, 0, none⟩ D)) := ⟨HP⟩
  have HD : Kept (Su w1 g (.slice (if c = n then A else A.map (·.add n)) (l0.length - n) (c - n)) (l0.drop n)) := ⟨(su_drop HS.out n hn).below HB1.out⟩
  clear ho hg hb1 hx1 HP c0 c1 f1
  by_cases hcn : c = n
  · have hD := HD.out
    rw [if_pos hcn, show l0.length - n = 0 from by omega, show c - n = 0 from by omega] at hD
    have HF : Kept (TakeG g l0 false n w (.returned v') (w1.setCell ⟨g, 0, none⟩ (.slice A 0 0))) := ⟨HPP.out _ hD⟩
    clear hD
    subst hcn
    go_wp2
    go_ret
    exact HF.out
  · have hD := HD.out
    rw [if_neg hcn] at hD
    have HF : Kept (TakeG g l0 false n w (.returned v') (w1.setCell ⟨g, 0, none⟩ (.slice (A.map (·.add n)) (l0.length - n) (c - n)))) := ⟨HPP.out _ hD⟩
    clear hD
    go_wp2
    go_ret
    exact HF.out
end Go.Proofs.Ytojeonepplfhlaa
