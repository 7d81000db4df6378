/- Contracts of package mony: Ok, Less, Sum; and the document's own Total. -/
import Derived.Test.YtbnclajhgkjopaaRows
import Derived.Test.YtbnclajhgkjopaaGk
import Derived.WalkKit
import Derived.WalkSpells
import Derived.WalkLawsBesides
import Derived.Lib.Hide
import Derived.Outline
namespace Go.Proofs.Ytbnclajhgkjopaa
open Go.RowKit

def YesK (w : World) (e : Ending) (w' : World) : Prop := e = .returned (.bool true) ∧ Below w.heap.size w w'
/-- Numbers of 64 bits without a sign. -/
def U64s (l : List Int) : Prop := ∀ x ∈ l, 0 ≤ x ∧ x ≤ 18446744073709551615
theorem U64s.at {l : List Int} (h : U64s l) (i : Nat) : 0 ≤ l.getD i 0 ∧ l.getD i 0 ≤ 18446744073709551615 := by
  rw [List.getD_eq_getElem?_getD]
  cases hi : l[i]? with
  | none => simp
  | some x => simpa using h x (List.mem_of_getElem? hi)
theorem U64s.take {l : List Int} (h : U64s l) (n : Nat) : U64s (l.take n) := fun x hx => h x (List.mem_of_mem_take hx)
theorem U64s.drop {l : List Int} (h : U64s l) (n : Nat) : U64s (l.drop n) := fun x hx => h x (List.mem_of_mem_drop hx)
/-- The sum of all of them. -/
def tot : List Int → Int
  | [] => 0
  | x :: l => x + tot l
theorem tot_app : ∀ (a b : List Int), tot (a ++ b) = tot a + tot b
  | [], b => by simp [tot]
  | x :: a, b => by simp only [List.cons_append, tot, tot_app a b]; omega
theorem tot_nn : ∀ {l : List Int}, U64s l → 0 ≤ tot l
  | [], _ => by simp [tot]
  | x :: l, h => by
    have := tot_nn (l := l) (fun y hy => h y (List.mem_cons_of_mem _ hy))
    have := h x (List.mem_cons_self ..)
    simp only [tot]; omega
theorem tot_take (l : List Int) (k : Nat) (hk : k < l.length) : tot (l.take (k + 1)) = tot (l.take k) + l.getD k 0 := by
  rw [List.take_succ_eq_append_getElem hk, tot_app]
  simp [tot, List.getD_eq_getElem?_getD, List.getElem?_eq_getElem hk]
theorem tot_part (l : List Int) (k : Nat) : tot l = tot (l.take k) + tot (l.drop k) := by rw [← tot_app, List.take_append_drop]
theorem tot_rev : ∀ (l : List Int), tot l.reverse = tot l
  | [] => rfl
  | x :: l => by rw [List.reverse_cons, tot_app, tot_rev l]; simp [tot]; omega

theorem ok_yes (v : Int) (w : World) (h : v ≤ 2100000000000000) : Calls Try.prog 62 #[.int .u64 v] w fun e w' => e = .returned (.bool true) ∧ w = w' := by
  have h1 : (v ≤ 2100000000000000) = True := by simp [h]
  clear h
  go_enter Try.func62, Try.ntmps62
  go_wp2
  go_ret
  exact ⟨rfl, rfl⟩
theorem ok_no (v : Int) (w : World) (h : 2100000000000000 < v) : Calls Try.prog 62 #[.int .u64 v] w fun e w' => e = .returned (.bool false) ∧ w = w' := by
  have h1 : (v ≤ 2100000000000000) = False := by simp; omega
  clear h
  go_enter Try.func62, Try.ntmps62
  go_wp2
  go_ret
  exact ⟨rfl, rfl⟩
/-- What Sum answers, and the document's own Total. -/
def sumV (l : List Int) : Value := if tot l ≤ 2100000000000000 then .tuple #[.int .u64 (tot l), .bool true] else .tuple #[.int .u64 0, .bool false]
theorem sumV_yes {l : List Int} (h : tot l ≤ 2100000000000000) : sumV l = .tuple #[.int .u64 (tot l), .bool true] := by unfold sumV; rw [if_pos h]
theorem sumV_no {l : List Int} (h : 2100000000000000 < tot l) : sumV l = .tuple #[.int .u64 0, .bool false] := by unfold sumV; rw [if_neg (by omega)]
theorem tot_up {l : List Int} (h : U64s l) (k : Nat) : tot (l.take k) ≤ tot l := by
  have := tot_nn (h.drop k)
  have := tot_part l k
  omega

set_option maxRecDepth 100000 in
set_option maxHeartbeats 1000000 in
theorem sum_any (v : Value) (l : List Int) (w : World) (hs : SlK .u64 w v l) (hu : U64s l) (hm : l.length ≤ maxLen) :
    Calls Try.prog 47 #[v] w fun e w' => e = .returned (sumV l) ∧ w = w' := by
  unfold maxLen at hm
  have HU := Lib.hid hu
  have HT := Lib.hid (tot_up hu)
  obtain ⟨A, c, rfl, hc, hA, hr⟩ := hs
  have HR := Lib.hid hr
  have HA := Lib.hid hA
  clear hu hr hA
  go_enter Try.func47, Try.ntmps47
  go_wp2
  go_loop [4, 9] (fun s i => ∃ k : Nat, k ≤ l.length ∧ i = .int .i64 k ∧ s = .int .u64 (tot (l.take k)) ∧ tot (l.take k) ≤ 2100000000000000) (fun _ i => l.length - (intOf i).toNat)
  case atStart => exact ⟨0, Nat.zero_le _, rfl, rfl, by simp [tot]⟩
  case round =>
    obtain ⟨k, hk, rfl, rfl, hs⟩ := hrel
    have HS := Lib.hid hs
    clear hs
    by_cases hlt : k < l.length
    · obtain ⟨b, off, rfl, hb, hrun⟩ := HR.out (by intro h; rw [h] at hlt; simp at hlt)
      have hcell := hrun k hlt
      have hb := HU.out.at k
      have hs0 := tot_nn (HU.out.take k)
      have hstep := tot_take l k hlt
      have hup := HT.out (k + 1)
      have hs1 := HS.out
      obtain ⟨x, hx⟩ : ∃ x, l.getD k 0 = x := ⟨_, rfl⟩
      obtain ⟨s, hS⟩ : ∃ s, tot (l.take k) = s := ⟨_, rfl⟩
      rw [hx] at hcell hb hstep
      rw [hS] at hs0 hstep hs1
      have HX := Lib.hid hx
      have HSS := Lib.hid hS
      have HST := Lib.hid hstep
      have HUP := Lib.hid hup
      have HB := Lib.hid hb
      have HS1 := Lib.hid hs1
      have HS0 := Lib.hid hs0
      rw [hS]
      clear hx hS hstep hrun hup HR hb hs1 hs0 HT
      by_cases h1 : x ≤ 2100000000000000
      · have hw : IntKind.u64.wrap (s + x) = s + x := by
          have := HB.out; have := HS1.out; have := HS0.out
          rw [IntKind.wrap_u64]; omega
        have HW := Lib.hid hw
        clear hw
        by_cases h2 : s + x ≤ 2100000000000000
        · have HO1 := Lib.hid (fun w => ok_yes x w h1)
          have HO2 := Lib.hid (fun w => ok_yes (s + x) w h2)
          have H2 := Lib.hid h2
          clear h1 h2
          go_wp2_with fail
          refine (HO1.out _).mono ?_
          rintro e w' ⟨rfl, rfl⟩
          go_wp2_with fail
          rw [HW.out]
          refine (HO2.out _).mono ?_
          rintro e w' ⟨rfl, rfl⟩
          go_wp2
          go_round
          case rel => exact ⟨k + 1, by omega, by go_num, by rw [HST.out, HW.out], by rw [HST.out]; exact H2.out⟩
          case measure => simp [intOf]; omega
        · have HO1 := Lib.hid (fun w => ok_yes x w h1)
          have HO2 := Lib.hid (fun w => ok_no (s + x) w (by omega))
          have HF := Lib.hid (show 2100000000000000 < tot l by have := HUP.out; have := HST.out; omega)
          clear h1 h2
          go_wp2_with fail
          refine (HO1.out _).mono ?_
          rintro e w' ⟨rfl, rfl⟩
          go_wp2_with fail
          rw [HW.out]
          refine (HO2.out _).mono ?_
          rintro e w' ⟨rfl, rfl⟩
          go_wp2
          go_ret2
          exact ⟨(by rw [sumV_no HF.out]; rfl), rfl⟩
      · have HO1 := Lib.hid (fun w => ok_no x w (by omega))
        have HF := Lib.hid (show 2100000000000000 < tot l by have := HUP.out; have := HST.out; have := HS0.out; omega)
        clear h1
        go_wp2_with fail
        refine (HO1.out _).mono ?_
        rintro e w' ⟨rfl, rfl⟩
        go_wp2
        go_ret2
        exact ⟨(by rw [sumV_no HF.out]; rfl), rfl⟩
    · obtain rfl : k = l.length := by omega
      have HE := Lib.hid (show l.take l.length = l from List.take_length)
      have HS2 := Lib.hid (show tot l ≤ 2100000000000000 by have := HS.out; rw [HE.out] at this; exact this)
      go_wp2
      go_ret2
      exact ⟨(by rw [sumV_yes HS2.out]; rfl), rfl⟩

set_option maxRecDepth 100000 in
set_option maxHeartbeats 1000000 in
theorem total_any (v : Value) (l : List Int) (w : World) (hs : SlK .u64 w v l) (hu : U64s l) (hm : l.length ≤ maxLen) :
    Calls Try.prog 35 #[v] w fun e w' => e = .returned (sumV l) ∧ w = w' := by
  unfold maxLen at hm
  have HU := Lib.hid hu
  have HT := Lib.hid (tot_up hu)
  obtain ⟨A, c, rfl, hc, hA, hr⟩ := hs
  have HR := Lib.hid hr
  have HA := Lib.hid hA
  clear hu hr hA
  go_enter Try.func35, Try.ntmps35
  go_wp2
  go_loop [4, 5] (fun s i => ∃ k : Nat, k ≤ l.length ∧ i = .int .i64 k ∧ s = .int .u64 (tot (l.take k)) ∧ tot (l.take k) ≤ 2100000000000000) (fun _ i => l.length - (intOf i).toNat)
  case atStart => exact ⟨0, Nat.zero_le _, rfl, rfl, by simp [tot]⟩
  case round =>
    obtain ⟨k, hk, rfl, rfl, hs⟩ := hrel
    have HS := Lib.hid hs
    clear hs
    by_cases hlt : k < l.length
    · obtain ⟨b, off, rfl, hb, hrun⟩ := HR.out (by intro h; rw [h] at hlt; simp at hlt)
      have hcell := hrun k hlt
      have hb := HU.out.at k
      have hs0 := tot_nn (HU.out.take k)
      have hstep := tot_take l k hlt
      have hup := HT.out (k + 1)
      have hs1 := HS.out
      obtain ⟨x, hx⟩ : ∃ x, l.getD k 0 = x := ⟨_, rfl⟩
      obtain ⟨s, hS⟩ : ∃ s, tot (l.take k) = s := ⟨_, rfl⟩
      rw [hx] at hcell hb hstep
      rw [hS] at hs0 hstep hs1
      have HX := Lib.hid hx
      have HSS := Lib.hid hS
      have HST := Lib.hid hstep
      have HUP := Lib.hid hup
      have HB := Lib.hid hb
      have HS1 := Lib.hid hs1
      have HS0 := Lib.hid hs0
      rw [hS]
      clear hx hS hstep hrun hup HR hb hs1 hs0 HT
      by_cases h1 : x ≤ 2100000000000000
      · have hw : IntKind.u64.wrap (s + x) = s + x := by
          have := HB.out; have := HS1.out; have := HS0.out
          rw [IntKind.wrap_u64]; omega
        have HW := Lib.hid hw
        have hg1 : (2100000000000000 < x) = False := by simp; omega
        by_cases h2 : s + x ≤ 2100000000000000
        · have H2 := Lib.hid h2
          have hg2 : (2100000000000000 < s + x) = False := by simp; omega
          clear h1 h2
          go_wp2
          go_round
          case rel => exact ⟨k + 1, by omega, by go_num, by rw [HST.out], by rw [HST.out]; exact H2.out⟩
          case measure => simp [intOf]; omega
        · have hg2 : (2100000000000000 < s + x) = True := by simp; omega
          have HF := Lib.hid (show 2100000000000000 < tot l by have := HUP.out; have := HST.out; omega)
          clear h1 h2
          go_wp2
          go_ret2
          exact ⟨(by rw [sumV_no HF.out]; rfl), rfl⟩
      · have HF := Lib.hid (show 2100000000000000 < tot l by have := HUP.out; have := HST.out; have := HS0.out; omega)
        have hg1 : (2100000000000000 < x) = True := by simp; omega
        clear h1
        go_wp2
        go_ret2
        exact ⟨(by rw [sumV_no HF.out]; rfl), rfl⟩
    · obtain rfl : k = l.length := by omega
      have HE := Lib.hid (show l.take l.length = l from List.take_length)
      have HS2 := Lib.hid (show tot l ≤ 2100000000000000 by have := HS.out; rw [HE.out] at this; exact this)
      go_wp2
      go_ret2
      exact ⟨(by rw [sumV_yes HS2.out]; rfl), rfl⟩

end Go.Proofs.Ytbnclajhgkjopaa
