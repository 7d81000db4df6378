/- The document's own SameRows, and Same: rows, and transactions, are the same. -/
import Derived.Test.YtojeonepplfhlaaTxE
import Derived.BigQuiet
namespace Go.Proofs.Ytojeonepplfhlaa
open Go.RowKit

theorem Below.drewN_self (w : World) (n : Nat) : Below w.heap.size w (w.drewN n) := ⟨rfl, rfl, rfl, Nat.le_refl _, fun _ _ => rfl⟩

set_option maxRecDepth 100000 in
set_option maxHeartbeats 1000000 in
theorem rsrows_len (w : World) (A1 A2 : Option Addr) (n1 c1 n2 c2 : Nat) (_h1 : n1 ≤ maxLen) (_h2 : n2 ≤ maxLen) (hne : n1 ≠ n2) : Calls Try.prog 39 #[.slice A1 n1 c1, .slice A2 n2 c2] w (BoolP false w) := by
  unfold maxLen at _h1 _h2
  have hn : ((n1 : Int) == (n2 : Int)) = false := by rw [beq_eq_false_iff_ne]; omega
  have hn2 : (n1 == n2) = false := by rw [beq_eq_false_iff_ne]; omega
  clear hne
  go_enter Try.func39, Try.ntmps39
  go_wp2
  go_ret
  exact ⟨rfl, Below.refl _ _⟩
set_option maxRecDepth 100000 in
set_option maxHeartbeats 1000000 in
theorem rsrows_nil (w : World) (A1 A2 : Option Addr) (c1 c2 : Nat) : Calls Try.prog 39 #[.slice A1 0 c1, .slice A2 0 c2] w (BoolP true w) := by
  go_enter Try.func39, Try.ntmps39
  go_wp2
  refine wp_loop_rounds 1 ?_
  rw [rounds_succ]
  go_wp2
  go_ret
  exact ⟨rfl, Below.refl _ _⟩
set_option maxRecDepth 100000 in
set_option maxHeartbeats 4000000 in
theorem rsrows_any (w : World) (v1 v2 : Value) (l1 l2 : List (List Int)) (h1 : Rws w v1 l1) (h2 : Rws w v2 l2) :
    Calls Try.prog 39 #[v1, v2] w (BoolP (eqB beqB l1 l2) w) := by
  obtain ⟨A1, c1, rfl, hlc1, hlm1⟩ := h1.slice
  obtain ⟨A2, c2, rfl, hlc2, hlm2⟩ := h2.slice
  by_cases hlen : l1.length ≠ l2.length
  · rw [eqB_len hlen]
    exact rsrows_len w A1 A2 _ c1 _ c2 hlm1 hlm2 hlen
  have hlen' : l2.length = l1.length := by omega
  by_cases hne : l1 = []
  · subst hne
    have hl2 : l2 = [] := List.eq_nil_of_length_eq_zero hlen'
    subst hl2
    exact rsrows_nil w A1 A2 c1 c2
  have hne2 : l2 ≠ [] := fun e => hne (List.eq_nil_of_length_eq_zero (by rw [← hlen', e]; rfl))
  unfold maxLen at hlm1 hlm2
  obtain ⟨b1, o1, rfl, hlt1, hat1⟩ := h1.all hne
  obtain ⟨b2, o2, rfl, hlt2, hat2⟩ := h2.all hne2
  have HAT1 : Kp (∀ (i : Nat) (hi : i < l1.length), ∃ cs, cs.length = 1 ∧ w.rangeAt b1 (o1 + i * 1) cs ∧ RowR w cs l1[i]) := ⟨hat1⟩
  have HAT2 : Kp (∀ (i : Nat) (hi : i < l2.length), ∃ cs, cs.length = 1 ∧ w.rangeAt b2 (o2 + i * 1) cs ∧ RowR w cs l2[i]) := ⟨hat2⟩
  have HB1 : Kp (b1 < w.heap.size) := ⟨hlt1⟩
  have HB2 : Kp (b2 < w.heap.size) := ⟨hlt2⟩
  have HLEN : Kp (l2.length = l1.length) := ⟨hlen'⟩
  clear hat1 hat2 hlt1 hlt2 h1 h2 hne hne2 hlen
  rw [hlen'] at hlc2 ⊢
  clear hlen' hlm2
  go_enter Try.func39, Try.ntmps39
  go_wp2
  go_loopw [5] (fun i wr => ∃ j : Nat, j ≤ l1.length ∧ i = .int .i64 j ∧ Kp (Below w.heap.size w wr) ∧ Kp (∀ (q : Nat) (h1 : q < l1.length) (h2 : q < l2.length), q < j → beqB l1[q] l2[q] = true)) (fun i _ => l1.length - (intOf i).toNat)
  case atStart => exact ⟨0, Nat.zero_le _, rfl, ⟨Below.refl _ _⟩, ⟨fun _ _ _ h => absurd h (Nat.not_lt_zero _)⟩⟩
  case round =>
    obtain ⟨j, hj, rfl, BW, NO⟩ := hrel
    by_cases hjl : j < l1.length
    · have hjl2 : j < l2.length := by rw [HLEN.out]; exact hjl
      obtain ⟨cs1, hk1, hcs1, hR1⟩ := HAT1.out j hjl
      obtain ⟨cs2, hk2, hcs2, hR2⟩ := HAT2.out j hjl2
      obtain ⟨s1, rfl, hr1⟩ := hR1
      obtain ⟨s2, rfl, hr2⟩ := hR2
      have hc1 : wr.cell? ⟨b1, o1 + j, none⟩ = some s1 := load_row (rangeAt_block hcs1 (BW.out.block b1 HB1.out)) hk1
      have hc2 : wr.cell? ⟨b2, o2 + j, none⟩ = some s2 := load_row (rangeAt_block hcs2 (BW.out.block b2 HB2.out)) hk2
      have hv1 : ∀ W, Below wr.heap.size wr W → (convert 27 9 s1).run Try.prog W = .ok (.string (strOfNums l1[j])) W := fun W hb => run_str ((hr1.below BW.out).below hb).1
      have hv2 : ∀ W, Below wr.heap.size wr W → (convert 27 9 s2).run Try.prog W = .ok (.string (strOfNums l2[j])) W := fun W hb => run_str ((hr2.below BW.out).below hb).1
      have hq0 := str_eqB hr1.2.1 hr2.2.1
      have HSZ : Kp (Below w.heap.size w wr) := BW
      have hjl' : (j : Int) < (l1.length : Int) := by omega
      have HJ : Kp (j < l1.length) := ⟨hjl⟩
      have HNO : Kp (decide (l1[j] = l2[j]) = true → ∀ (q : Nat) (h1 : q < l1.length) (h2 : q < l2.length), q < j + 1 → beqB l1[q] l2[q] = true) := ⟨fun hq q h1 h2 h3 => by
        rcases Nat.lt_or_ge q j with h4 | h4
        · exact NO.out q h1 h2 h4
        · obtain rfl : q = j := by omega
          exact hq⟩
      have HNN : Kp (decide (l1[j] = l2[j]) = false → eqB beqB l1 l2 = false) := ⟨fun hq => eqB_no hjl hjl2 hq⟩
      obtain ⟨S1, hS1⟩ : ∃ S, strOfNums l1[j] = S := ⟨_, rfl⟩
      obtain ⟨S2, hS2⟩ : ∃ S, strOfNums l2[j] = S := ⟨_, rfl⟩
      rw [hS1, hS2] at hq0
      rw [hS1] at hv1
      rw [hS2] at hv2
      obtain ⟨D, hD⟩ : ∃ D, decide (l1[j] = l2[j]) = D := ⟨_, rfl⟩
      rw [hD] at hq0 HNO HNN
      clear hcs1 hcs2 hk1 hk2 hr1 hr2 hD hS1 hS2 hjl hjl2
      have hcv1 := fun n => hv1 (wr.drewN n) (Below.drewN_self wr n)
      have hcv2 := fun n => hv2 (wr.drewN n) (Below.drewN_self wr n)
      cases D with
      | true =>
        have HQ := Kp.mk (HNO.out rfl)
        clear HNO HNN
        go_wp2_with fail
        go_quiet (fail)
        go_wp2
        exact ⟨⟨j + 1, by have := HJ.out; omega, by go_num, ⟨HSZ.out.trans ((Below.drewN_self _ _).mono HSZ.out.size)⟩, HQ⟩, by simp [intOf]; have := HJ.out; omega⟩
      | false =>
        have HQ := Kp.mk (HNN.out rfl)
        clear HNO HNN
        go_wp2_with fail
        go_quiet (fail)
        go_wp2
        go_ret
        exact ⟨by rw [HQ.out]; rfl, HSZ.out.trans ((Below.drewN_self _ _).mono HSZ.out.size)⟩
    · obtain rfl : j = l1.length := by omega
      have HQ : Kp (eqB beqB l1 l2 = true) := ⟨eqB_yes HLEN.out.symm fun i h1 h2 => NO.out i h1 h2 h1⟩
      clear hjl
      go_wp2
      go_ret
      exact ⟨by rw [HQ.out]; rfl, BW.out⟩
end Go.Proofs.Ytojeonepplfhlaa
