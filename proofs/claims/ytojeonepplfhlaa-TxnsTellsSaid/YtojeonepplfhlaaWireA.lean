/- Contracts of package wire's Reader, its small calls: fail, Ok, End, next. -/
import Derived.Test.YtojeonepplfhlaaRows
import Derived.Test.YtojeonepplfhlaaMem
import Derived.WalkKit
import Derived.WalkSpells
import Derived.WalkLawsBesides
import Derived.Lib.Hide
import Derived.Outline
namespace Go.Proofs.Ytojeonepplfhlaa
open Go.RowKit

/-- The slice v reads as the bytes l; it lies in a block of bytes, which is not g. -/
def SlT (w : World) (g : Nat) (v : Value) (l : List Int) : Prop :=
  ∃ A c, v = .slice A l.length c ∧ l.length ≤ c ∧ (A = none → c = 0) ∧ (l ≠ [] → ∃ b off, A = some ⟨b, off, none⟩ ∧ (b ≠ g ∧ ∃ cur, Box w b 5 cur) ∧ b < w.heap.size ∧ Run w b off l)
theorem SlT.sl {w : World} {g : Nat} {v : Value} {l : List Int} (h : SlT w g v l) : Sl w g v l := by
  obtain ⟨A, c, rfl, hc, hn, hr⟩ := h
  refine ⟨A, c, rfl, hc, hn, fun hl => ?_⟩
  obtain ⟨b, off, rfl, ⟨hb, _⟩, hlt, hrun⟩ := hr hl
  exact ⟨b, off, rfl, hb, hlt, hrun⟩
theorem SlT.nil (w : World) (g : Nat) : SlT w g (.slice none 0 0) [] := ⟨none, 0, rfl, Nat.le_refl _, fun _ => rfl, fun h => absurd rfl h⟩
set_option maxRecDepth 100000 in
theorem SlT.keep {w w' : World} {g : Nat} {v : Value} {l : List Int} (h : SlT w g v l) (hk : ∀ b cur, b ≠ g → Box w b 5 cur → w'.heap[b]? = w.heap[b]?) (hz : w.heap.size ≤ w'.heap.size) : SlT w' g v l := by
  obtain ⟨A, c, rfl, hc, hn, hr⟩ := h
  refine ⟨A, c, rfl, hc, hn, fun hl => ?_⟩
  obtain ⟨b, off, rfl, ⟨hb, cur, hx⟩, hlt, hrun⟩ := hr hl
  have e := hk b cur hb hx
  exact ⟨b, off, rfl, ⟨hb, cur, e.trans hx⟩, Nat.lt_of_lt_of_le hlt hz, fun i hi => (World.cell?_of_block e).trans (hrun i hi)⟩
theorem SlT.only {w w' : World} {g : Nat} {v : Value} {l : List Int} (h : SlT w g v l) (hk : Only g w w') : SlT w' g v l := h.keep (fun b _ hb hx => hk.block b hx.lt (by simpa using hb)) hk.size
theorem SlT.below {w w' : World} {g : Nat} {v : Value} {l : List Int} (h : SlT w g v l) (hk : Below w.heap.size w w') : SlT w' g v l := h.keep (fun b _ _ hx => hk.block b hx.lt) hk.size
set_option maxRecDepth 100000 in
theorem SlT.apart {w w' : World} {g g' t : Nat} {v : Value} {l : List Int} {cs : Array Value} (h : SlT w g v l) (hk : Only g' w w') (hb : Box w g' t cs) (ht : t ≠ 5) : SlT w' g v l :=
  h.keep (fun b cur _ hx => hk.block b hx.lt (by
    intro e
    injection e with e
    subst e
    have h1 : w.heap[b]? = some (.cells cur 5 (0, 0)) := hx
    have h2 : w.heap[b]? = some (.cells cs t (0, 0)) := hb
    rw [h1] at h2
    injection h2 with h2
    injection h2 with _ h3
    exact ht h3.symm)) hk.size
set_option maxRecDepth 100000 in
theorem SlT.of_own {w : World} {B g : Nat} {v : Value} {l : List Int} (h : Own w B 5 v l) (hg : w.heap.size ≤ g) : SlT w g v l := by
  obtain ⟨A, c, hv, hc, hn, hr⟩ := h.sl g (.inr hg)
  refine ⟨A, c, hv, hc, hn, fun hl => ?_⟩
  obtain ⟨b, off, hA, hb, hlt, hrun⟩ := hr hl
  refine ⟨b, off, hA, ⟨hb, ?_⟩, hlt, hrun⟩
  rcases h.form with ⟨hv2, h0⟩ | ⟨g', cap, cur, hv2, _, hx, _⟩
  · exact absurd h0 hl
  · rw [hv2] at hv
    injection hv with h1 _ _
    rw [hA] at h1
    injection h1 with h1
    injection h1 with h2 _ _
    exact ⟨cur, h2 ▸ hx⟩
/-- A Reader in block g: what is left of its bytes, and whether it is broken. -/
def Rd (w : World) (g : Nat) (l : List Int) (bad : Bool) : Prop := ∃ sv, Box w g 69 #[sv, .bool bad] ∧ SlT w g sv l ∧ Bys l ∧ l.length ≤ maxLen
def FailPost (g : Nat) (w : World) (e : Ending) (w' : World) : Prop := e = .returned (.tuple #[]) ∧ Rd w' g [] true ∧ Only g w w'

set_option maxRecDepth 100000 in
set_option maxHeartbeats 400000 in
theorem fail_any (g : Nat) (w : World) (sv bv : Value) (hb : Box w g 69 #[sv, bv]) :
    Calls Try.prog 73 #[.pointer (some ⟨g, 0, none⟩)] w (FailPost g w) := by
  have c0 : w.cell? ⟨g, 0, none⟩ = some sv := hb.cell 0
  have c1 : w.cell? ⟨g, 1, none⟩ = some bv := hb.cell 1
  have f0 := hb.warm 0
  have f1 := hb.warm 1
  have H : FailPost g w (.returned (.tuple #[])) ((w.setCell ⟨g, 0, none⟩ (.slice none 0 0)).setCell ⟨g, 1, none⟩ (.bool true)) :=
    ⟨rfl, ⟨.slice none 0 0, (hb.set 0 _).set 1 _, SlT.nil _ _, Bys.nil, Nat.zero_le _⟩, ((Only.refl g w).set 0 _).set 1 _⟩
  have HH := Lib.hid H
  clear H hb
  go_enter Try.func73, Try.ntmps73
  go_wp2
  go_end0
  exact HH.out

set_option maxRecDepth 100000 in
set_option maxHeartbeats 400000 in
theorem ok_any (g : Nat) (w : World) (l : List Int) (bad : Bool) (h : Rd w g l bad) :
    Calls Try.prog 19 #[.pointer (some ⟨g, 0, none⟩)] w fun e w' => e = .returned (.bool !bad) ∧ w = w' := by
  obtain ⟨sv, hb, _⟩ := h
  have c1 : w.cell? ⟨g, 1, none⟩ = some (.bool bad) := hb.cell 1
  clear hb
  go_enter Try.func19, Try.ntmps19
  go_wp2
  go_ret
  exact ⟨rfl, rfl⟩

set_option maxRecDepth 100000 in
set_option maxHeartbeats 400000 in
theorem end_bad (g : Nat) (w : World) (l : List Int) (h : Rd w g l true) :
    Calls Try.prog 20 #[.pointer (some ⟨g, 0, none⟩)] w fun e w' => e = .returned (.bool false) ∧ w = w' := by
  obtain ⟨sv, hb, ⟨A, c, rfl, _⟩, _⟩ := h
  have c0 : w.cell? ⟨g, 0, none⟩ = some (.slice A l.length c) := hb.cell 0
  have c1 : w.cell? ⟨g, 1, none⟩ = some (.bool true) := hb.cell 1
  clear hb
  go_enter Try.func20, Try.ntmps20
  go_wp2
  go_ret
  exact ⟨rfl, rfl⟩
set_option maxRecDepth 100000 in
set_option maxHeartbeats 400000 in
theorem end_good (g : Nat) (w : World) (l : List Int) (h : Rd w g l false) :
    Calls Try.prog 20 #[.pointer (some ⟨g, 0, none⟩)] w fun e w' => e = .returned (.bool l.isEmpty) ∧ w = w' := by
  obtain ⟨sv, hb, ⟨A, c, rfl, _⟩, _⟩ := h
  have c0 : w.cell? ⟨g, 0, none⟩ = some (.slice A l.length c) := hb.cell 0
  have c1 : w.cell? ⟨g, 1, none⟩ = some (.bool false) := hb.cell 1
  clear hb
  have he : l.isEmpty = ((l.length : Int) == 0) := by cases l <;> simp; omega
  have He := Lib.hid he
  clear he
  go_enter Try.func20, Try.ntmps20
  go_wp2
  go_ret
  rw [He.out]
  exact ⟨by simp, rfl⟩

/-- What 'next' leaves: so many bytes are taken, if they are there; else it is broken. -/
def NextPost (g : Nat) (l : List Int) (bad : Bool) (n : Int) (w : World) (e : Ending) (w' : World) : Prop :=
  ∃ pv, e = .returned pv ∧ Only g w w' ∧
    ((0 ≤ n ∧ n ≤ l.length ∧ Sl w' g pv (l.take n.toNat) ∧ Rd w' g (l.drop n.toNat) bad) ∨ ((n < 0 ∨ l.length < n) ∧ pv = .slice none 0 0 ∧ Rd w' g [] true))

theorem sl_take {w : World} {g : Nat} {A : Option Addr} {c : Nat} {l : List Int} (h : Sl w g (.slice A l.length c) l) (n : Nat) (hn : n ≤ l.length) : Sl w g (.slice A n c) (l.take n) := by
  obtain ⟨A', c', e, hc, hnn, hr⟩ := h
  injection e with e1 e2 e3
  subst e1; subst e3
  refine ⟨A, c, by rw [List.length_take, Nat.min_eq_left hn], by rw [List.length_take]; omega, hnn, fun hl => ?_⟩
  obtain ⟨b, off, rfl, hb, hlt, hrun⟩ := hr (fun h0 => by subst h0; exact hl (by simp))
  exact ⟨b, off, rfl, hb, hlt, hrun.take n⟩
theorem sl_drop {w : World} {g : Nat} {A : Option Addr} {c : Nat} {l : List Int} (h : Sl w g (.slice A l.length c) l) (n : Nat) (hn : n ≤ l.length) :
    Sl w g (.slice (if c = n then A else A.map (·.add n)) (l.length - n) (c - n)) (l.drop n) := by
  obtain ⟨A', c', e, hc, hnn, hr⟩ := h
  injection e with e1 e2 e3
  subst e1; subst e3
  refine ⟨_, _, by rw [List.length_drop], by rw [List.length_drop]; omega, fun he => ?_, fun hl => ?_⟩
  · split at he
    · omega
    · cases A with
      | none => have := hnn rfl; omega
      | some ad => cases he
  have hlt' : n < l.length := by
    rcases Nat.lt_or_ge n l.length with h1 | h1
    · exact h1
    · exact absurd (List.drop_eq_nil_of_le h1) hl
  obtain ⟨b, off, rfl, hb, hlt, hrun⟩ := hr (fun h0 => by subst h0; exact hl (by simp))
  refine ⟨b, off + n, ?_, hb, hlt, hrun.drop n⟩
  rw [if_neg (by omega)]
  by_cases h0 : n = 0
  · subst h0; simp [Addr.add]
  · simp [Addr.add, h0]

theorem slT_drop {w : World} {g : Nat} {A : Option Addr} {c : Nat} {l : List Int} (h : SlT w g (.slice A l.length c) l) (n : Nat) (hn : n ≤ l.length) :
    SlT w g (.slice (if c = n then A else A.map (·.add n)) (l.length - n) (c - n)) (l.drop n) := by
  obtain ⟨A', c', e, hc, hnn, hr⟩ := h
  injection e with e1 e2 e3
  subst e1; subst e3
  refine ⟨_, _, by rw [List.length_drop], by rw [List.length_drop]; omega, fun he => ?_, fun hl => ?_⟩
  · split at he
    · omega
    · cases A with
      | none => have := hnn rfl; omega
      | some ad => cases he
  have hlt' : n < l.length := by
    rcases Nat.lt_or_ge n l.length with h1 | h1
    · exact h1
    · exact absurd (List.drop_eq_nil_of_le h1) hl
  obtain ⟨b, off, rfl, hb, hlt, hrun⟩ := hr (fun h0 => by subst h0; exact hl (by simp))
  refine ⟨b, off + n, ?_, hb, hlt, hrun.drop n⟩
  rw [if_neg (by omega)]
  by_cases h0 : n = 0
  · subst h0; simp [Addr.add]
  · simp [Addr.add, h0]

set_option maxRecDepth 100000 in
set_option maxHeartbeats 400000 in
theorem next_no (g : Nat) (w : World) (l : List Int) (bad : Bool) (n : Int) (h : Rd w g l bad) (hn : n < 0 ∨ l.length < n) :
    Calls Try.prog 65 #[.pointer (some ⟨g, 0, none⟩), .int .i64 n] w (NextPost g l bad n w) := by
  obtain ⟨sv, hb, ⟨A, c, rfl, _⟩, _⟩ := h
  have c0 : w.cell? ⟨g, 0, none⟩ = some (.slice A l.length c) := hb.cell 0
  have Hb := Lib.hid hb
  clear hb
  rcases hn with hn | hn
  · go_enter Try.func65, Try.ntmps65
    go_wp2_with (go_at_call 73; refine (fail_any g w _ _ Hb.out).mono ?_; rintro e w' ⟨rfl, hr, ho⟩)
    go_ret
    exact ⟨_, rfl, ho, .inr ⟨.inl hn, rfl, hr⟩⟩
  · by_cases h0 : n < 0
    · omega
    go_enter Try.func65, Try.ntmps65
    go_wp2_with (go_at_call 73; refine (fail_any g w _ _ Hb.out).mono ?_; rintro e w' ⟨rfl, hr, ho⟩)
    go_ret
    exact ⟨_, rfl, ho, .inr ⟨.inr hn, rfl, hr⟩⟩
set_option maxRecDepth 100000 in
set_option maxHeartbeats 400000 in
theorem next_yes (g : Nat) (w : World) (l : List Int) (bad : Bool) (n : Nat) (h : Rd w g l bad) (hn : n ≤ l.length) :
    Calls Try.prog 65 #[.pointer (some ⟨g, 0, none⟩), .int .i64 (n : Int)] w (NextPost g l bad n w) := by
  obtain ⟨sv, hb, hs, hy, hm⟩ := h
  obtain ⟨A, c, rfl, hc, _⟩ := id hs
  have c0 : w.cell? ⟨g, 0, none⟩ = some (.slice A l.length c) := hb.cell 0
  have f0 := hb.warm 0
  have H : NextPost g l bad n w (.returned (.slice A n c)) (w.setCell ⟨g, 0, none⟩ (.slice (if c = n then A else A.map (·.add n)) (l.length - n) (c - n))) := by
    have ho : Only g w (w.setCell ⟨g, 0, none⟩ (.slice (if c = n then A else A.map (·.add n)) (l.length - n) (c - n))) := (Only.refl g w).set 0 _
    refine ⟨_, rfl, ho, .inl ⟨by omega, by omega, ?_, ?_⟩⟩
    · rw [Int.toNat_natCast]; exact (sl_take hs.sl n hn).only ho
    · rw [Int.toNat_natCast]
      exact ⟨_, hb.set 0 _, (slT_drop hs n hn).only ho, hy.drop n, by rw [List.length_drop]; omega⟩
  clear hs hy hm
  by_cases hcn : c = n
  · subst hcn
    rw [if_pos rfl, show l.length - c = 0 from by omega, show c - c = 0 from by omega] at H
    have HH := Lib.hid H
    have hnl : (c : Int) ≤ (l.length : Int) := by omega
    clear H hb
    go_enter Try.func65, Try.ntmps65
    go_wp2
    go_ret
    exact HH.out
  · rw [if_neg hcn] at H
    have HH := Lib.hid H
    have hnc : (n : Int) ≤ (c : Int) := by omega
    have hnl : (n : Int) ≤ (l.length : Int) := by omega
    clear H hb
    go_enter Try.func65, Try.ntmps65
    go_wp2
    go_ret
    exact HH.out
end Go.Proofs.Ytojeonepplfhlaa
