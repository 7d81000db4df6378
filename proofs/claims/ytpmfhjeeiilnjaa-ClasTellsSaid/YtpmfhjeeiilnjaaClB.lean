/- Contracts of package clas, and of the document's own answers to it: Kind, Least, Dust, Dusts. -/
import Derived.Test.YtpmfhjeeiilnjaaClA
namespace Go.Proofs.Ytpmfhjeeiilnjaa
open Go.RowKit

/-- The script is first, the number n, and as many bytes. -/
def countedB (l : List Int) (f : Int) (n : Nat) : Bool := decide (l.length = 2 + n) && decide (l.getD 0 0 = f) && decide (l.getD 1 0 = (n : Int))
def carriesB (l : List Int) : Bool := decide (1 ≤ l.length) && decide (l.length ≤ 83) && decide (l.getD 0 0 = 106)
/-- The kind of a script. -/
def kindOf (l : List Int) : Nat :=
  if l = [81, 2, 78, 115] then 1 else if countedB l 0 20 then 2 else if countedB l 0 32 then 3 else if countedB l 81 32 then 4 else if carriesB l then 5 else 0
def leastOf (k : Int) : Nat := if k = 1 then 240 else if k = 2 then 294 else if k = 3 ∨ k = 4 then 330 else 0
theorem kindOf_le (l : List Int) : kindOf l ≤ 5 := by
  unfold kindOf
  repeat' split
  all_goals omega

set_option maxRecDepth 100000 in
theorem counted_any (w : World) (v : Value) (l : List Int) (h : Rb w v l) (f : Int) (n : Nat) (hn : 0 < n ∧ n ≤ 100) :
    Calls Try.prog 18 #[v, .int .u8 f, .int .i64 (n : Int)] w fun e w' => e = .returned (.bool (countedB l f n)) ∧ w = w' := by
  obtain ⟨⟨A, c, rfl, hc, hnn, hr⟩, hy, hm⟩ := h
  have hw : IntKind.i64.wrap (2 + (n : Int)) = 2 + n := by rw [IntKind.wrap_i64]; omega
  obtain ⟨N, hN⟩ : ∃ N, l.length = N := ⟨_, rfl⟩
  by_cases h1 : N = 2 + n
  · have hne : l ≠ [] := by intro h; rw [h] at hN; simp at hN; omega
    obtain ⟨b, off, rfl, hb, hlt, hrun⟩ := hr hne
    have c0 := hrun 0 (by omega)
    have c1 := hrun 1 (by omega)
    have g1 : ((N : Int) == 2 + (n : Int)) = true := by simp; omega
    have gl : 0 < N := by omega
    have gl2 : 1 < N := by omega
    obtain ⟨x0, hx0⟩ : ∃ x, l.getD 0 0 = x := ⟨_, rfl⟩
    obtain ⟨x1, hx1⟩ : ∃ x, l.getD 1 0 = x := ⟨_, rfl⟩
    have hy1 := hy.at 1
    rw [hx0, Nat.add_zero] at c0
    rw [hx1] at c1 hy1
    have hw1 : IntKind.i64.wrap x1 = x1 := by rw [IntKind.wrap_i64]; omega
    rw [hN]
    have HR : Kp (countedB l f n = (decide (x0 = f) && decide (x1 = (n : Int)))) := ⟨by simp only [countedB, hN, h1, hx0, hx1]; simp⟩
    clear hrun hr hy hm hne hx0 hx1 hN hn hy1 h1 hb hlt hnn
    by_cases h2 : x0 = f
    · have g2 : (x0 == f) = true := by simp [h2]
      have HE : Kp (countedB l f n = decide (x1 = (n : Int))) := ⟨by rw [HR.out, h2]; simp⟩
      clear h2
      go_enter Try.func18, Try.ntmps18
      go_wp2
      go_ret
      exact ⟨by rw [HE.out]; simp [BEq.beq], rfl⟩
    · have g2 : (x0 == f) = false := by simp [h2]
      have HE : Kp (countedB l f n = false) := ⟨by rw [HR.out]; simp [h2]⟩
      clear h2
      go_enter Try.func18, Try.ntmps18
      go_wp2
      go_ret
      exact ⟨by rw [HE.out]; rfl, rfl⟩
  · have g1 : ((N : Int) == 2 + (n : Int)) = false := by simp; omega
    have HR : Kp (countedB l f n = false) := ⟨by simp only [countedB, hN, h1]; simp⟩
    rw [hN]
    clear hr hy hm hN hn h1 hnn
    go_enter Try.func18, Try.ntmps18
    go_wp2
    go_ret
    exact ⟨by rw [HR.out]; rfl, rfl⟩

set_option maxRecDepth 100000 in
theorem carries_any (w : World) (v : Value) (l : List Int) (h : Rb w v l) :
    Calls Try.prog 19 #[v] w fun e w' => e = .returned (.bool (carriesB l)) ∧ w = w' := by
  obtain ⟨⟨A, c, rfl, hc, hnn, hr⟩, hy, hm⟩ := h
  obtain ⟨N, hN⟩ : ∃ N, l.length = N := ⟨_, rfl⟩
  by_cases h1 : 1 ≤ N
  · have hne : l ≠ [] := by intro h; rw [h] at hN; simp at hN; omega
    obtain ⟨b, off, rfl, hb, hlt, hrun⟩ := hr hne
    have c0 := hrun 0 (by omega)
    have g1 : decide ((1 : Int) ≤ (N : Int)) = true := by simp; omega
    have gl : 0 < N := by omega
    obtain ⟨x0, hx0⟩ : ∃ x, l.getD 0 0 = x := ⟨_, rfl⟩
    rw [hx0, Nat.add_zero] at c0
    rw [hN]
    by_cases h2 : N ≤ 83
    · have g2 : decide ((N : Int) ≤ 83) = true := by simp; omega
      have HR : Kp (carriesB l = decide (x0 = 106)) := ⟨by simp only [carriesB, hN, hx0]; simp [h1, h2]⟩
      clear hrun hr hy hm hne hx0 hN h1 hb hlt hnn h2
      go_enter Try.func19, Try.ntmps19
      go_wp2
      go_ret
      exact ⟨by rw [HR.out]; simp [BEq.beq], rfl⟩
    · have g2 : decide ((N : Int) ≤ 83) = false := by simp; omega
      have HR : Kp (carriesB l = false) := ⟨by simp only [carriesB, hN, hx0]; simp; omega⟩
      clear hrun hr hy hm hne hx0 hN h1 hb hlt hnn h2
      go_enter Try.func19, Try.ntmps19
      go_wp2
      go_ret
      exact ⟨by rw [HR.out]; rfl, rfl⟩
  · have g1 : decide ((1 : Int) ≤ (N : Int)) = false := by simp; omega
    have HR : Kp (carriesB l = false) := ⟨by simp only [carriesB, hN]; simp; omega⟩
    rw [hN]
    clear hr hy hm hN h1 hnn
    go_enter Try.func19, Try.ntmps19
    go_wp2
    go_ret
    exact ⟨by rw [HR.out]; rfl, rfl⟩

theorem anchorStr : strOfNums [81, 2, 78, 115] = ⟨#[81, 2, 78, 115]⟩ := by decide
theorem anchorBys : Bys [81, 2, 78, 115] := by unfold Bys; decide
set_option maxRecDepth 100000 in
set_option maxHeartbeats 1000000 in
theorem kind_any (w : World) (v : Value) (l : List Int) (h : Rb w v l) :
    Calls Try.prog 8 #[v] w fun e w' => e = .returned (.int .i64 (kindOf l)) ∧ w = w' := by
  have H1 := Kp.mk (counted_any w v l h 0 20 (by omega))
  have H2 := Kp.mk (counted_any w v l h 0 32 (by omega))
  have H3 := Kp.mk (counted_any w v l h 81 32 (by omega))
  have H4 := Kp.mk (carries_any w v l h)
  rw [show ((20 : Nat) : Int) = 20 from rfl] at H1
  rw [show ((32 : Nat) : Int) = 32 from rfl] at H2 H3
  have hs := run_str h.1
  obtain ⟨A, c, rfl, _⟩ := h.1
  obtain ⟨S, hS⟩ : ∃ S, strOfNums l = S := ⟨_, rfl⟩
  have hk : Kp (kindOf l = if l = [81, 2, 78, 115] then 1 else if countedB l 0 20 then 2 else if countedB l 0 32 then 3 else if countedB l 81 32 then 4 else if carriesB l then 5 else 0) := ⟨rfl⟩
  obtain ⟨N, hN⟩ : ∃ N, l.length = N := ⟨_, rfl⟩
  rw [hS] at hs
  rw [hN] at hs H1 H2 H3 H4 ⊢
  obtain ⟨b1, e1⟩ : ∃ b, countedB l 0 20 = b := ⟨_, rfl⟩
  obtain ⟨b2, e2⟩ : ∃ b, countedB l 0 32 = b := ⟨_, rfl⟩
  obtain ⟨b3, e3⟩ : ∃ b, countedB l 81 32 = b := ⟨_, rfl⟩
  obtain ⟨b4, e4⟩ : ∃ b, carriesB l = b := ⟨_, rfl⟩
  rw [e1] at H1 hk
  rw [e2] at H2 hk
  rw [e3] at H3 hk
  rw [e4] at H4 hk
  by_cases ha : l = [81, 2, 78, 115]
  · have g1 : S = (⟨#[81, 2, 78, 115]⟩ : ByteArray) := by rw [← hS, ha, anchorStr]
    subst g1
    have HE : Kp (kindOf l = 1) := ⟨by rw [hk.out, if_pos ha]⟩
    clear ha e1 e2 e3 e4 hN hk h
    go_enter Try.func8, Try.ntmps8
    go_wp2
    go_ret
    exact ⟨by rw [HE.out]; rfl, rfl⟩
  · have g1 : (S.toList == [81, 2, 78, 115]) = false := by
      have := str_eqB h.2.1 anchorBys
      rw [hS, anchorStr, ByteArray.toList_eq ⟨#[81, 2, 78, 115]⟩] at this
      exact this.trans (decide_eq_false ha)
    rw [if_neg ha] at hk
    clear ha hS e1 e2 e3 e4 hN h
    cases b1
    · cases b2
      · cases b3
        · cases b4
          · have HE : Kp (kindOf l = 0) := ⟨by rw [hk.out]; simp⟩
            clear hk
            go_enter Try.func8, Try.ntmps8
            go_wp2_with fail
            refine H1.out.mono ?_
            rintro e w' ⟨rfl, rfl⟩
            go_wp2_with fail
            refine H2.out.mono ?_
            rintro e w' ⟨rfl, rfl⟩
            go_wp2_with fail
            refine H3.out.mono ?_
            rintro e w' ⟨rfl, rfl⟩
            go_wp2_with fail
            refine H4.out.mono ?_
            rintro e w' ⟨rfl, rfl⟩
            go_wp2
            go_ret
            exact ⟨by rw [HE.out]; rfl, rfl⟩
          · have HE : Kp (kindOf l = 5) := ⟨by rw [hk.out]; simp⟩
            clear hk
            go_enter Try.func8, Try.ntmps8
            go_wp2_with fail
            refine H1.out.mono ?_
            rintro e w' ⟨rfl, rfl⟩
            go_wp2_with fail
            refine H2.out.mono ?_
            rintro e w' ⟨rfl, rfl⟩
            go_wp2_with fail
            refine H3.out.mono ?_
            rintro e w' ⟨rfl, rfl⟩
            go_wp2_with fail
            refine H4.out.mono ?_
            rintro e w' ⟨rfl, rfl⟩
            go_wp2
            go_ret
            exact ⟨by rw [HE.out]; rfl, rfl⟩
        · have HE : Kp (kindOf l = 4) := ⟨by rw [hk.out]; simp⟩
          clear hk
          go_enter Try.func8, Try.ntmps8
          go_wp2_with fail
          refine H1.out.mono ?_
          rintro e w' ⟨rfl, rfl⟩
          go_wp2_with fail
          refine H2.out.mono ?_
          rintro e w' ⟨rfl, rfl⟩
          go_wp2_with fail
          refine H3.out.mono ?_
          rintro e w' ⟨rfl, rfl⟩
          go_wp2
          go_ret
          exact ⟨by rw [HE.out]; rfl, rfl⟩
      · have HE : Kp (kindOf l = 3) := ⟨by rw [hk.out]; simp⟩
        clear hk
        go_enter Try.func8, Try.ntmps8
        go_wp2_with fail
        refine H1.out.mono ?_
        rintro e w' ⟨rfl, rfl⟩
        go_wp2_with fail
        refine H2.out.mono ?_
        rintro e w' ⟨rfl, rfl⟩
        go_wp2
        go_ret
        exact ⟨by rw [HE.out]; rfl, rfl⟩
    · have HE : Kp (kindOf l = 2) := ⟨by rw [hk.out]; simp⟩
      clear hk
      go_enter Try.func8, Try.ntmps8
      go_wp2_with fail
      refine H1.out.mono ?_
      rintro e w' ⟨rfl, rfl⟩
      go_wp2
      go_ret
      exact ⟨by rw [HE.out]; rfl, rfl⟩

set_option maxRecDepth 100000 in
theorem least_any (w : World) (k : Int) : Calls Try.prog 11 #[.int .i64 k] w fun e w' => e = .returned (.int .u64 (leastOf k)) ∧ w = w' := by
  by_cases h1 : k = 1
  · subst h1
    go_enter Try.func11, Try.ntmps11
    go_wp2
    go_ret
    exact ⟨rfl, rfl⟩
  · by_cases h2 : k = 2
    · subst h2
      go_enter Try.func11, Try.ntmps11
      go_wp2
      go_ret
      exact ⟨rfl, rfl⟩
    · by_cases h3 : k = 3
      · subst h3
        go_enter Try.func11, Try.ntmps11
        go_wp2
        go_ret
        exact ⟨rfl, rfl⟩
      · by_cases h4 : k = 4
        · subst h4
          go_enter Try.func11, Try.ntmps11
          go_wp2
          go_ret
          exact ⟨rfl, rfl⟩
        · have HE : Kp (leastOf k = 0) := ⟨by unfold leastOf; simp [h1, h2, h3, h4]⟩
          have g1 : (k == 1) = false := by simp [h1]
          have g2 : (k == 2) = false := by simp [h2]
          have g3 : (k == 3) = false := by simp [h3]
          have g4 : (k == 4) = false := by simp [h4]
          clear h1 h2 h3 h4
          go_enter Try.func11, Try.ntmps11
          go_wp2
          go_ret
          exact ⟨by rw [HE.out]; rfl, rfl⟩
end Go.Proofs.Ytpmfhjeeiilnjaa
