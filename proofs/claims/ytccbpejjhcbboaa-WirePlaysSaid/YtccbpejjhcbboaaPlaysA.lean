/- What the walk of WirePlays leans on. -/
import Derived.Test.YtccbpejjhcbboaaArgs
import Derived.Test.YtccbpejjhcbboaaRefD
import Derived.Deep.DeepCutAuto
import Derived.Deep.CutBlock
import Derived.Deep.RegionHeld3
namespace Go.Proofs.Ytccbpejjhcbboaa.lawPlays
open Go.ChangeShapes Go.WideShapes Go.ChangeAt Go.RowKit

theorem maskK (n : Int) (k : Nat) (hk : k ≤ 62) (M : Int) (hM : M = ((2 ^ k - 1 : Nat) : Int)) : ∃ m : Nat, bits BinOp.and IntKind.i64 n M = (m : Int) ∧ m < 2 ^ k := by
  subst hM
  have h := and_mask n k hk
  have h0 : 0 < (2 : Nat) ^ k := Nat.pow_pos (by omega)
  have h3 := Int.emod_nonneg n (show ((2 ^ k : Nat) : Int) ≠ 0 by omega)
  have h4 := Int.emod_lt_of_pos n (show (0 : Int) < ((2 ^ k : Nat) : Int) by omega)
  exact ⟨(n % ((2 ^ k : Nat) : Int)).toNat, by rw [h]; omega, by omega⟩
theorem heldMore {P : Program} {md : Region.Mode} {ops : Array Oper} {Q : Exit → Act → World → Prop} {S S2 : World → Prop} (hS : ∀ w, S2 w → S w) :
    ∀ (fuel : Nat) (listed : Array Bool) (a : Act) (w : World), wpAnyH P md ops Q S2 fuel listed a w → wpAnyH P md ops Q S fuel listed a w
  | 0, _, _, _, h => h
  | fuel + 1, _, _, _, h => ⟨h.1, fun i hi => wpOp_mono (fun _ _ h' => ⟨hS _ h'.1, heldMore hS fuel _ _ _ h'.2⟩) (h.2 i hi)⟩

/-- A slice of bytes does not lie in a block of a slice and a bool. -/
theorem sl_apart {w : World} {g h t : Nat} {v A c n : _} {bb : Bool} {l : List Int} (hs : Sl w g v l) (hb : Box w h t #[.slice A n c, .bool bb]) : Sl w h v l := by
  obtain ⟨A', c', rfl, hc, hn, hr⟩ := hs
  refine ⟨A', c', rfl, hc, hn, fun hl => ?_⟩
  obtain ⟨b, off, rfl, _, hlt, hrun⟩ := hr hl
  refine ⟨b, off, rfl, ?_, hlt, hrun⟩
  rintro rfl
  have h0 := hrun 0 (List.length_pos_iff.2 hl)
  rw [hb.cell, Nat.add_zero] at h0
  match off, h0 with
  | 0, h0 => simp at h0
  | 1, h0 => simp at h0
  | _ + 2, h0 => simp at h0
theorem bys_set {l : List Int} (h : Bys l) (q : Nat) (y : Int) (hy : 0 ≤ y ∧ y ≤ 255) : Bys (l.set q y) := by
  intro x hx
  rcases List.mem_or_eq_of_mem_set hx with h1 | h1
  · exact h x h1
  · rw [h1]; exact hy
theorem both_rd {w w' : World} {g h : Nat} {l k : List Int} {bad bad2 : Bool} (hr : Rd w g l bad) (hs : Sd w h k bad2) (ho : Only h w w') : Rd w' g l bad := by
  obtain ⟨sv, hb, hsl, hy, hm⟩ := hr
  obtain ⟨sv2, l0, hb2, ⟨A, c, rfl, _⟩, _⟩ := hs
  have hne : g ≠ h := by
    rintro rfl
    have h1 : w.heap[g]? = some (.cells #[sv, .bool bad] 79 (0, 0)) := hb
    have h2 : w.heap[g]? = some (.cells #[.slice A l0.length c, .bool bad2] 49 (0, 0)) := hb2
    rw [h1] at h2
    injection h2 with h2
    injection h2 with _ h3
    exact absurd h3 (by decide)
  have hsl2 := sl_apart hsl hb2
  exact ⟨sv, hb.keep ho hne, by
    obtain ⟨A', c', e, hc, hn, hr'⟩ := hsl2.only ho
    obtain ⟨A'', c'', e2, _, _, hr''⟩ := hsl
    subst e
    injection e2 with e3 _ _
    refine ⟨A', c', rfl, hc, hn, fun hl => ?_⟩
    obtain ⟨b, off, h1, _, h2, h3⟩ := hr' hl
    obtain ⟨b', off', h4, h5, _, _⟩ := hr'' hl
    rw [← e3, h1] at h4
    injection h4 with h4
    injection h4 with h6 _
    exact ⟨b, off, h1, by rw [h6]; exact h5, h2, h3⟩, hy, hm⟩
theorem both_sd {w w' : World} {g h : Nat} {l k : List Int} {bad bad2 : Bool} (hr : Rd w g l bad) (hs : Sd w h k bad2) (ho : Only g w w') : Sd w' h k bad2 := by
  obtain ⟨sv, hb, ⟨A, c, rfl, _⟩, _⟩ := hr
  obtain ⟨sv2, l0, hb2, hsl, hy, hm, h1, h2⟩ := hs
  have hne : h ≠ g := by
    rintro rfl
    have h3 : w.heap[h]? = some (.cells #[.slice A l.length c, .bool bad] 79 (0, 0)) := hb
    have h4 : w.heap[h]? = some (.cells #[sv2, .bool bad2] 49 (0, 0)) := hb2
    rw [h3] at h4
    injection h4 with h4
    injection h4 with _ h5
    exact absurd h5 (by decide)
  have hsl2 := sl_apart hsl hb
  exact ⟨sv2, l0, hb2.keep ho hne, by
    obtain ⟨A', c', e, hc, hn, hr'⟩ := hsl2.only ho
    obtain ⟨A'', c'', e2, _, _, hr''⟩ := hsl
    subst e
    injection e2 with e3 _ _
    refine ⟨A', c', rfl, hc, hn, fun hl => ?_⟩
    obtain ⟨b, off, h1, _, h2, h3⟩ := hr' hl
    obtain ⟨b', off', h4, h5, _, _⟩ := hr'' hl
    rw [← e3, h1] at h4
    injection h4 with h4
    injection h4 with h6 _
    exact ⟨b, off, h1, by rw [h6]; exact h5, h2, h3⟩, hy, hm, h1, h2⟩
theorem num_len (l : List Int) (bad : Bool) (n : Nat) : (num l bad n).2.1.length ≤ l.length := by
  unfold num
  split
  · simp only [List.length_drop]; omega
  · simp
theorem countEnd_len (n least : Nat) (l : List Int) (bad : Bool) (most : Int) : (countEnd n least l bad most).2.1.length ≤ l.length := by
  unfold countEnd
  split
  · simp
  · split <;> simp
theorem count_len (l : List Int) (bad : Bool) (most : Int) : (count l bad most).2.1.length ≤ l.length := by
  have h1 := num_len l bad 1
  unfold count
  split
  · exact Nat.le_trans (countEnd_len _ _ _ _ _) (Nat.le_trans (num_len _ _ _) h1)
  · split
    · exact Nat.le_trans (countEnd_len _ _ _ _ _) (Nat.le_trans (num_len _ _ _) h1)
    · split
      · simp
      · exact Nat.le_trans (countEnd_len _ _ _ _ _) h1
def tk (l : List Int) (n : Int) : List Int := if 0 ≤ n ∧ n ≤ l.length then l.take n.toNat else []
def dr (l : List Int) (n : Int) : List Int := if 0 ≤ n ∧ n ≤ l.length then l.drop n.toNat else []
def bd (l : List Int) (bad : Bool) (n : Int) : Bool := if 0 ≤ n ∧ n ≤ l.length then bad else true
theorem dr_len (l : List Int) (n : Int) : (dr l n).length ≤ l.length := by
  unfold dr
  split
  · rw [List.length_drop]; omega
  · simp
def Took (g : Nat) (l : List Int) (bad : Bool) (n : Int) (R : World → Nat → List Int → Bool → Prop) (w : World) (e : Ending) (w' : World) : Prop :=
  ∃ v, e = .returned v ∧ Only g w w' ∧ Own w' w.heap.size 5 v (tk l n) ∧ R w' g (dr l n) (bd l bad n)
theorem rtake_any (g : Nat) (w : World) (l : List Int) (bad : Bool) (n : Int) (h : Rd w g l bad) (h4 : l.length ≤ 400) :
    Calls Try.prog 40 #[.pointer (some ⟨g, 0, none⟩), .int .i64 n] w (Took g l bad n Rd w) := by
  by_cases hn : 0 ≤ n ∧ n ≤ l.length
  · obtain ⟨m, rfl⟩ := Int.eq_ofNat_of_zero_le hn.1
    refine (take_yes g w l bad m h (by omega) (by omega)).mono fun e w' ⟨v, w1, he, ho, hb, hor⟩ => ?_
    rcases hor with ⟨_, _, hw, hr⟩ | ⟨hno, _, _⟩
    · refine ⟨v, he, ho.trans (Only.of_below hb), ?_, ?_⟩
      · rw [tk, if_pos hn]; exact hw.less ho.size
      · rw [dr, bd, if_pos hn, if_pos hn]; exact hr.below hb
    · omega
  · refine (take_no g w l bad n h (by omega)).mono fun e w' ⟨v, w1, he, ho, hb, hor⟩ => ?_
    rcases hor with ⟨h0, h1, _, _⟩ | ⟨_, hw, hr⟩
    · exact absurd ⟨h0, h1⟩ hn
    · refine ⟨v, he, ho.trans (Only.of_below hb), ?_, ?_⟩
      · rw [tk, if_neg hn]; exact hw.less ho.size
      · rw [dr, bd, if_neg hn, if_neg hn]; exact hr.below hb
theorem qtake_any (g : Nat) (w : World) (l : List Int) (bad : Bool) (n : Int) (h : Sd w g l bad) :
    Calls Try.prog 41 #[.pointer (some ⟨g, 0, none⟩), .int .i64 n] w (Took g l bad n Sd w) := by
  cases bad with
  | true =>
    have hl : l = [] := by
      obtain ⟨_, _, _, _, _, _, _, h2⟩ := h
      exact h2 rfl
    subst hl
    refine (qtake_bad g w [] n h).mono fun e w' ⟨v, he, ho, hor⟩ => ?_
    rcases hor with ⟨hf, _⟩ | ⟨_, hw, hs⟩
    · cases hf
    · refine ⟨v, he, ho, ?_, ?_⟩
      · rw [show tk [] n = [] by unfold tk; split <;> simp]; exact hw
      · rw [show dr [] n = [] by unfold dr; split <;> simp, show bd [] true n = true by unfold bd; split <;> rfl]; exact hs
  | false =>
    by_cases hn : 0 ≤ n ∧ n ≤ l.length
    · obtain ⟨m, rfl⟩ := Int.eq_ofNat_of_zero_le hn.1
      refine (qtake_yes g w l m h (by omega)).mono fun e w' ⟨v, he, ho, hor⟩ => ?_
      rcases hor with ⟨_, _, _, hw, hs⟩ | ⟨hno, _, _⟩
      · refine ⟨v, he, ho, ?_, ?_⟩
        · rw [tk, if_pos hn]; exact hw
        · rw [dr, bd, if_pos hn, if_pos hn]; exact hs
      · rcases hno with h1 | h1 | h1 <;> first | cases h1 | omega
    · refine (qtake_no g w l n h (by omega)).mono fun e w' ⟨v, he, ho, hor⟩ => ?_
      rcases hor with ⟨_, h0, h1, _, _⟩ | ⟨_, hw, hs⟩
      · exact absurd ⟨h0, h1⟩ hn
      · refine ⟨v, he, ho, ?_, ?_⟩
        · rw [tk, if_neg hn]; exact hw
        · rw [dr, bd, if_neg hn, if_neg hn]; exact hs
/-- Both Readers, in one state. -/
def Two (w : World) (g h : Nat) (l : List Int) (bad : Bool) : Prop := Rd w g l bad ∧ Sd w h l bad
end Go.Proofs.Ytccbpejjhcbboaa.lawPlays
