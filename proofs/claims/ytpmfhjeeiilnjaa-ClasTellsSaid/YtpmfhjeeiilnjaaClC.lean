/- The document's own Kind and Least. -/
import Derived.Test.YtpmfhjeeiilnjaaClB
namespace Go.Proofs.Ytpmfhjeeiilnjaa
open Go.RowKit

set_option maxRecDepth 100000 in
set_option maxHeartbeats 2000000 in
theorem refkind_any (w : World) (v : Value) (l : List Int) (h : Rb w v l) :
    Calls Try.prog 14 #[v] w fun e w' => e = .returned (.int .i64 (kindOf l)) ∧ w = w' := by
  have hs := run_str h.1
  obtain ⟨⟨A, c, rfl, hc, hnn, hr⟩, hy, hm⟩ := h
  obtain ⟨S, hS⟩ : ∃ S, strOfNums l = S := ⟨_, rfl⟩
  obtain ⟨N, hN⟩ : ∃ N, l.length = N := ⟨_, rfl⟩
  obtain ⟨x0, hx0⟩ : ∃ x, l.getD 0 0 = x := ⟨_, rfl⟩
  obtain ⟨x1, hx1⟩ : ∃ x, l.getD 1 0 = x := ⟨_, rfl⟩
  have hk : kindOf l = if l = [81, 2, 78, 115] then 1 else if N = 22 ∧ x0 = 0 ∧ x1 = 20 then 2 else if N = 34 ∧ x0 = 0 ∧ x1 = 32 then 3 else if N = 34 ∧ x0 = 81 ∧ x1 = 32 then 4 else if 1 ≤ N ∧ N ≤ 83 ∧ x0 = 106 then 5 else 0 := by
    unfold kindOf countedB carriesB
    rw [hN, hx0, hx1]
    simp [and_assoc]
  rw [hS] at hs
  rw [hN] at hs ⊢
  by_cases ha : l = [81, 2, 78, 115]
  · have g1 : S = (⟨#[81, 2, 78, 115]⟩ : ByteArray) := by rw [← hS, ha, anchorStr]
    subst g1
    have HE : Kp (kindOf l = 1) := ⟨by rw [hk, if_pos ha]⟩
    clear ha hk hN hx0 hx1 hr hnn hy hm hS
    go_enter Try.func14, Try.ntmps14
    go_wp2
    go_ret
    exact ⟨by rw [HE.out]; rfl, rfl⟩
  have g1 : (S.toList == [81, 2, 78, 115]) = false := by
    have := str_eqB hy anchorBys
    rw [hS, anchorStr, ByteArray.toList_eq ⟨#[81, 2, 78, 115]⟩] at this
    exact this.trans (decide_eq_false ha)
  rw [if_neg ha] at hk
  by_cases h0 : N = 0
  · subst h0
    have HE : Kp (kindOf l = 0) := ⟨by rw [hk]; simp⟩
    clear ha hk hN hx0 hx1 hr hnn hy hm hS
    go_enter Try.func14, Try.ntmps14
    go_wp2
    go_ret
    exact ⟨by rw [HE.out]; rfl, rfl⟩
  have hne : l ≠ [] := by intro h; rw [h] at hN; simp at hN; omega
  obtain ⟨b, off, rfl, hb, hlt, hrun⟩ := hr hne
  have c0 := hrun 0 (by omega)
  have c1 : 1 < N → w.cell? ⟨b, off + 1, none⟩ = some (.int .u8 x1) := fun h => by rw [← hx1]; exact hrun 1 (by omega)
  rw [hx0, Nat.add_zero] at c0
  have gl : 0 < N := by omega
  have gp : decide ((1 : Int) ≤ (N : Int)) = true := by simp; omega
  have gp2 : decide ((N : Int) ≥ 1) = true := by simp; omega
  clear ha hN hx0 hx1 hr hnn hy hm hS hrun hne hb hlt h0
  by_cases n22 : N = 22
  · subst n22
    replace c1 := c1 (by omega)
    by_cases e0 : x0 = 0
    · subst e0
      by_cases e20 : x1 = 20
      · subst e20
        have HE : Kp (kindOf l = 2) := ⟨by rw [hk]; simp⟩
        clear hk 
        go_enter Try.func14, Try.ntmps14
        go_wp2
        go_ret
        exact ⟨by rw [HE.out]; rfl, rfl⟩
      · have ge20 : (x1 == 20) = false := by simp [e20]
        have HE : Kp (kindOf l = 0) := ⟨by rw [hk]; simp [e20]⟩
        clear hk e20
        go_enter Try.func14, Try.ntmps14
        go_wp2
        go_ret
        exact ⟨by rw [HE.out]; rfl, rfl⟩
    · have ge0 : (x0 == 0) = false := by simp [e0]
      by_cases e106 : x0 = 106
      · subst e106
        have HE : Kp (kindOf l = 5) := ⟨by rw [hk]; simp [e0]⟩
        clear hk e0
        go_enter Try.func14, Try.ntmps14
        go_wp2
        go_ret
        exact ⟨by rw [HE.out]; rfl, rfl⟩
      · have ge106 : (x0 == 106) = false := by simp [e106]
        have HE : Kp (kindOf l = 0) := ⟨by rw [hk]; simp [e0, e106]⟩
        clear hk e0 e106
        go_enter Try.func14, Try.ntmps14
        go_wp2
        go_ret
        exact ⟨by rw [HE.out]; rfl, rfl⟩
  · by_cases n34 : N = 34
    · subst n34
      replace c1 := c1 (by omega)
      by_cases e0 : x0 = 0
      · subst e0
        by_cases e32 : x1 = 32
        · subst e32
          have HE : Kp (kindOf l = 3) := ⟨by rw [hk]; simp⟩
          clear hk n22
          go_enter Try.func14, Try.ntmps14
          go_wp2
          go_ret
          exact ⟨by rw [HE.out]; rfl, rfl⟩
        · have ge32 : (x1 == 32) = false := by simp [e32]
          have HE : Kp (kindOf l = 0) := ⟨by rw [hk]; simp [e32]⟩
          clear hk n22 e32
          go_enter Try.func14, Try.ntmps14
          go_wp2
          go_ret
          exact ⟨by rw [HE.out]; rfl, rfl⟩
      · have ge0 : (x0 == 0) = false := by simp [e0]
        by_cases e81 : x0 = 81
        · subst e81
          by_cases e32 : x1 = 32
          · subst e32
            have HE : Kp (kindOf l = 4) := ⟨by rw [hk]; simp [e0]⟩
            clear hk n22 e0
            go_enter Try.func14, Try.ntmps14
            go_wp2
            go_ret
            exact ⟨by rw [HE.out]; rfl, rfl⟩
          · have ge32 : (x1 == 32) = false := by simp [e32]
            have HE : Kp (kindOf l = 0) := ⟨by rw [hk]; simp [e0, e32]⟩
            clear hk n22 e0 e32
            go_enter Try.func14, Try.ntmps14
            go_wp2
            go_ret
            exact ⟨by rw [HE.out]; rfl, rfl⟩
        · have ge81 : (x0 == 81) = false := by simp [e81]
          by_cases e106 : x0 = 106
          · subst e106
            have HE : Kp (kindOf l = 5) := ⟨by rw [hk]; simp [e0, e81]⟩
            clear hk n22 e0 e81
            go_enter Try.func14, Try.ntmps14
            go_wp2
            go_ret
            exact ⟨by rw [HE.out]; rfl, rfl⟩
          · have ge106 : (x0 == 106) = false := by simp [e106]
            have HE : Kp (kindOf l = 0) := ⟨by rw [hk]; simp [e0, e81, e106]⟩
            clear hk n22 e0 e81 e106
            go_enter Try.func14, Try.ntmps14
            go_wp2
            go_ret
            exact ⟨by rw [HE.out]; rfl, rfl⟩
    · skip
      clear c1
      have k22 : ((N : Int) == 22) = false := by simp; omega
      have k34 : ((N : Int) == 34) = false := by simp; omega
      by_cases h83 : N ≤ 83
      · have k83 : decide ((N : Int) ≤ 83) = true := by simp; omega
        by_cases e106 : x0 = 106
        · subst e106
          have HE : Kp (kindOf l = 5) := ⟨by rw [hk]; simp [n22, n34, h83, Nat.succ_le_of_lt gl]⟩
          clear hk n22 n34 h83
          go_enter Try.func14, Try.ntmps14
          go_wp2
          go_ret
          exact ⟨by rw [HE.out]; rfl, rfl⟩
        · have ge106 : (x0 == 106) = false := by simp [e106]
          have HE : Kp (kindOf l = 0) := ⟨by rw [hk]; simp [n22, n34, h83, Nat.succ_le_of_lt gl, e106]⟩
          clear hk n22 n34 h83 e106
          go_enter Try.func14, Try.ntmps14
          go_wp2
          go_ret
          exact ⟨by rw [HE.out]; rfl, rfl⟩
      · have k83 : decide ((N : Int) ≤ 83) = false := by simp; omega
        have HE : Kp (kindOf l = 0) := ⟨by rw [hk]; simp [n22, n34, h83]⟩
        clear hk n22 n34 h83
        go_enter Try.func14, Try.ntmps14
        go_wp2
        go_ret
        exact ⟨by rw [HE.out]; rfl, rfl⟩

set_option maxRecDepth 100000 in
theorem refleast_any (w : World) (k : Int) : Calls Try.prog 17 #[.int .i64 k] w fun e w' => e = .returned (.int .u64 (leastOf k)) ∧ w = w' := by
  by_cases h1 : k = 1
  · subst h1
    go_enter Try.func17, Try.ntmps17
    go_wp2
    go_ret
    exact ⟨rfl, rfl⟩
  · by_cases h2 : k = 2
    · subst h2
      go_enter Try.func17, Try.ntmps17
      go_wp2
      go_ret
      exact ⟨rfl, rfl⟩
    · by_cases h3 : k = 3
      · subst h3
        go_enter Try.func17, Try.ntmps17
        go_wp2
        go_ret
        exact ⟨rfl, rfl⟩
      · by_cases h4 : k = 4
        · subst h4
          go_enter Try.func17, Try.ntmps17
          go_wp2
          go_ret
          exact ⟨rfl, rfl⟩
        · have HE : Kp (leastOf k = 0) := ⟨by unfold leastOf; simp [h1, h2, h3, h4]⟩
          have g1 : (k == 1) = false := by simp [h1]
          have g2 : (k == 2) = false := by simp [h2]
          have g3 : (k == 3) = false := by simp [h3]
          have g4 : (k == 4) = false := by simp [h4]
          clear h1 h2 h3 h4
          go_enter Try.func17, Try.ntmps17
          go_wp2
          go_ret
          exact ⟨by rw [HE.out]; rfl, rfl⟩
end Go.Proofs.Ytpmfhjeeiilnjaa
