/- The contract of the document's own Reader's Count. -/
import Derived.Test.YtojeonepplfhlaaRefC
namespace Go.Proofs.Ytojeonepplfhlaa
open Go.RowKit

theorem bad_end (n least : Nat) (l : List Int) (most : Int) (h : l = []) : countEnd n least l true most = (0, [], true) := by
  subst h
  unfold countEnd
  split <;> rfl
set_option maxRecDepth 100000 in
set_option maxHeartbeats 1000000 in
theorem qcount_plain (g : Nat) (w : World) (l : List Int) (bad : Bool) (most : Int) (h : Sd w g l bad) (hm : most ≤ 9223372036854775807) (hc : (num l bad 1).1 < 253) :
    Calls Try.prog 45 #[.pointer (some ⟨g, 0, none⟩), .int .i64 most] w (NumS g (count l bad most) (.int .i64 ((count l bad most).1 : Int)) w) := by
  have H : Kept (Sd w g l bad) := ⟨h⟩
  clear h
  have hcount : count l bad most = countEnd (num l bad 1).1 0 (num l bad 1).2.1 (num l bad 1).2.2 most := by
    unfold count
    rw [if_neg (by omega), if_neg (by omega), if_neg (by omega)]
  rw [hcount]
  clear hcount
  have hN := qnumber_any g w l bad 1 H.out (by omega) (by omega)
  generalize num l bad 1 = s at *
  obtain ⟨n, l1, bad1⟩ := s
  have HN := Lib.hid hN
  clear hN
  simp only at hc HN ⊢
  have e1 : ((n : Int) == 253) = false := by simp; omega
  have e2 : ((n : Int) == 254) = false := by simp; omega
  have e3 : ((n : Int) == 255) = false := by simp; omega
  go_enter Try.func45, Try.ntmps45
  go_wp2_with fail
  refine HN.out.mono ?_
  rintro e w1 ⟨ho, rfl, hr⟩
  have Ho : Kept (Only g w w1) := ⟨ho⟩
  have HS1 : Kept (Sd w1 g l1 bad1) := ⟨hr⟩
  clear ho hr
  obtain ⟨c1, f1⟩ := HS1.out.flag
  have HF : Kept (Sd (w1.setCell ⟨g, 1, none⟩ (.bool true)) g [] true ∧ Only g w1 (w1.setCell ⟨g, 1, none⟩ (.bool true))) := ⟨HS1.out.fail⟩
  cases bad1 with
  | true =>
    have HE : Kept (countEnd n 0 l1 true most = (0, [], true)) := ⟨bad_end n 0 l1 most (by obtain ⟨_, _, _, _, _, _, _, h2⟩ := HS1.out; exact h2 rfl)⟩
    go_wp2
    go_ret
    rw [HE.out]
    exact ⟨(Ho.out).trans HF.out.2, rfl, HF.out.1⟩
  | false =>
    by_cases hm0 : most < 0
    · have HE : Kept (countEnd n 0 l1 false most = (0, [], true)) := ⟨countEnd_no n 0 l1 false most (by omega)⟩
      go_wp2
      go_ret
      rw [HE.out]
      exact ⟨(Ho.out).trans HF.out.2, rfl, HF.out.1⟩
    have hm1 : 0 ≤ most := by omega
    have hw1 : IntKind.u64.wrap most = most := by rw [IntKind.wrap_u64]; omega
    by_cases hm2 : most < (n : Int)
    · have HE : Kept (countEnd n 0 l1 false most = (0, [], true)) := ⟨countEnd_no n 0 l1 false most (by omega)⟩
      go_wp2
      go_ret
      rw [HE.out]
      exact ⟨(Ho.out).trans HF.out.2, rfl, HF.out.1⟩
    · have hm3 : (n : Int) ≤ most := by omega
      have HE : Kept (countEnd n 0 l1 false most = (n, l1, false)) := ⟨countEnd_ok n 0 l1 false most (by omega)⟩
      have HW2 : Kept (IntKind.i64.wrap (n : Int) = (n : Int)) := ⟨by rw [IntKind.wrap_i64]; omega⟩
      go_wp2
      go_ret
      rw [HE.out]
      exact ⟨Ho.out, congrArg (fun z => Ending.returned (.int .i64 z)) (by first | rfl | exact HW2.out), HS1.out⟩

set_option maxRecDepth 100000 in
set_option maxHeartbeats 1000000 in
theorem qcount_253 (g : Nat) (w : World) (l : List Int) (bad : Bool) (most : Int) (h : Sd w g l bad) (hm : most ≤ 9223372036854775807) (hc : (num l bad 1).1 = 253) :
    Calls Try.prog 45 #[.pointer (some ⟨g, 0, none⟩), .int .i64 most] w (NumS g (count l bad most) (.int .i64 ((count l bad most).1 : Int)) w) := by
  have H : Kept (Sd w g l bad) := ⟨h⟩
  clear h
  have hcount : count l bad most = countEnd (num (num l bad 1).2.1 (num l bad 1).2.2 2).1 253 (num (num l bad 1).2.1 (num l bad 1).2.2 2).2.1 (num (num l bad 1).2.1 (num l bad 1).2.2 2).2.2 most := by
    unfold count
    rw [if_pos hc]
  rw [hcount]
  clear hcount
  have hN := qnumber_any g w l bad 1 H.out (by omega) (by omega)
  generalize num l bad 1 = s at *
  obtain ⟨n0, l0, bad0⟩ := s
  have HN := Lib.hid hN
  clear hN
  simp only at hc HN ⊢
  subst hc
  go_enter Try.func45, Try.ntmps45
  go_wp2_with fail
  refine HN.out.mono ?_
  rintro e w0 ⟨ho0, rfl, hr0⟩
  have Ho0 : Kept (Only g w w0) := ⟨ho0⟩
  have Hr0 : Kept (Sd w0 g l0 bad0) := ⟨hr0⟩
  clear ho0 hr0
  go_wp2_with fail
  have hN := qnumber_any g w0 l0 bad0 2 Hr0.out (by omega) (by omega)
  have hlt := num_lt l0 Hr0.out.bys bad0 2
  rw [show (256 : Nat) ^ 2 = 65536 by decide] at hlt
  generalize num l0 bad0 2 = s at *
  obtain ⟨n, l1, bad1⟩ := s
  simp only at hN hlt ⊢
  refine hN.mono ?_
  clear hN
  rintro e w1 ⟨ho, rfl, hr⟩
  have Ho : Kept (Only g w0 w1) := ⟨ho⟩
  have HS1 : Kept (Sd w1 g l1 bad1) := ⟨hr⟩
  clear ho hr
  obtain ⟨c1, f1⟩ := HS1.out.flag
  have HF : Kept (Sd (w1.setCell ⟨g, 1, none⟩ (.bool true)) g [] true ∧ Only g w1 (w1.setCell ⟨g, 1, none⟩ (.bool true))) := ⟨HS1.out.fail⟩
  cases bad1 with
  | true =>
    have HE : Kept (countEnd n 253 l1 true most = (0, [], true)) := ⟨bad_end n 253 l1 most (by obtain ⟨_, _, _, _, _, _, _, h2⟩ := HS1.out; exact h2 rfl)⟩
    go_wp2
    go_ret
    rw [HE.out]
    exact ⟨(Ho0.out.trans Ho.out).trans HF.out.2, rfl, HF.out.1⟩
  | false =>
    by_cases hlo : (n : Int) < 253
    · have HE : Kept (countEnd n 253 l1 false most = (0, [], true)) := ⟨countEnd_no n 253 l1 false most (by omega)⟩
      go_wp2
      go_ret
      rw [HE.out]
      exact ⟨(Ho0.out.trans Ho.out).trans HF.out.2, rfl, HF.out.1⟩
    have hlo' : ((n : Int) < 253) = False := eq_false hlo
    by_cases hm0 : most < 0
    · have HE : Kept (countEnd n 253 l1 false most = (0, [], true)) := ⟨countEnd_no n 253 l1 false most (by omega)⟩
      go_wp2
      go_ret
      rw [HE.out]
      exact ⟨(Ho0.out.trans Ho.out).trans HF.out.2, rfl, HF.out.1⟩
    have hm1 : 0 ≤ most := by omega
    have hw1 : IntKind.u64.wrap most = most := by rw [IntKind.wrap_u64]; omega
    by_cases hm2 : most < (n : Int)
    · have HE : Kept (countEnd n 253 l1 false most = (0, [], true)) := ⟨countEnd_no n 253 l1 false most (by omega)⟩
      go_wp2
      go_ret
      rw [HE.out]
      exact ⟨(Ho0.out.trans Ho.out).trans HF.out.2, rfl, HF.out.1⟩
    · have hm3 : (n : Int) ≤ most := by omega
      have HE : Kept (countEnd n 253 l1 false most = (n, l1, false)) := ⟨countEnd_ok n 253 l1 false most (by omega)⟩
      have HW2 : Kept (IntKind.i64.wrap (n : Int) = (n : Int)) := ⟨by rw [IntKind.wrap_i64]; omega⟩
      go_wp2
      go_ret
      rw [HE.out]
      exact ⟨Ho0.out.trans Ho.out, congrArg (fun z => Ending.returned (.int .i64 z)) (by first | rfl | exact HW2.out), HS1.out⟩

set_option maxRecDepth 100000 in
set_option maxHeartbeats 1000000 in
theorem qcount_254 (g : Nat) (w : World) (l : List Int) (bad : Bool) (most : Int) (h : Sd w g l bad) (hm : most ≤ 9223372036854775807) (hc : (num l bad 1).1 = 254) :
    Calls Try.prog 45 #[.pointer (some ⟨g, 0, none⟩), .int .i64 most] w (NumS g (count l bad most) (.int .i64 ((count l bad most).1 : Int)) w) := by
  have H : Kept (Sd w g l bad) := ⟨h⟩
  clear h
  have hcount : count l bad most = countEnd (num (num l bad 1).2.1 (num l bad 1).2.2 4).1 65536 (num (num l bad 1).2.1 (num l bad 1).2.2 4).2.1 (num (num l bad 1).2.1 (num l bad 1).2.2 4).2.2 most := by
    unfold count
    rw [if_neg (by omega), if_pos hc]
  rw [hcount]
  clear hcount
  have hN := qnumber_any g w l bad 1 H.out (by omega) (by omega)
  generalize num l bad 1 = s at *
  obtain ⟨n0, l0, bad0⟩ := s
  have HN := Lib.hid hN
  clear hN
  simp only at hc HN ⊢
  subst hc
  go_enter Try.func45, Try.ntmps45
  go_wp2_with fail
  refine HN.out.mono ?_
  rintro e w0 ⟨ho0, rfl, hr0⟩
  have Ho0 : Kept (Only g w w0) := ⟨ho0⟩
  have Hr0 : Kept (Sd w0 g l0 bad0) := ⟨hr0⟩
  clear ho0 hr0
  go_wp2_with fail
  have hN := qnumber_any g w0 l0 bad0 4 Hr0.out (by omega) (by omega)
  have hlt := num_lt l0 Hr0.out.bys bad0 4
  rw [show (256 : Nat) ^ 4 = 4294967296 by decide] at hlt
  generalize num l0 bad0 4 = s at *
  obtain ⟨n, l1, bad1⟩ := s
  simp only at hN hlt ⊢
  refine hN.mono ?_
  clear hN
  rintro e w1 ⟨ho, rfl, hr⟩
  have Ho : Kept (Only g w0 w1) := ⟨ho⟩
  have HS1 : Kept (Sd w1 g l1 bad1) := ⟨hr⟩
  clear ho hr
  obtain ⟨c1, f1⟩ := HS1.out.flag
  have HF : Kept (Sd (w1.setCell ⟨g, 1, none⟩ (.bool true)) g [] true ∧ Only g w1 (w1.setCell ⟨g, 1, none⟩ (.bool true))) := ⟨HS1.out.fail⟩
  cases bad1 with
  | true =>
    have HE : Kept (countEnd n 65536 l1 true most = (0, [], true)) := ⟨bad_end n 65536 l1 most (by obtain ⟨_, _, _, _, _, _, _, h2⟩ := HS1.out; exact h2 rfl)⟩
    go_wp2
    go_ret
    rw [HE.out]
    exact ⟨(Ho0.out.trans Ho.out).trans HF.out.2, rfl, HF.out.1⟩
  | false =>
    by_cases hlo : (n : Int) < 65536
    · have HE : Kept (countEnd n 65536 l1 false most = (0, [], true)) := ⟨countEnd_no n 65536 l1 false most (by omega)⟩
      go_wp2
      go_ret
      rw [HE.out]
      exact ⟨(Ho0.out.trans Ho.out).trans HF.out.2, rfl, HF.out.1⟩
    have hlo' : ((n : Int) < 65536) = False := eq_false hlo
    by_cases hm0 : most < 0
    · have HE : Kept (countEnd n 65536 l1 false most = (0, [], true)) := ⟨countEnd_no n 65536 l1 false most (by omega)⟩
      go_wp2
      go_ret
      rw [HE.out]
      exact ⟨(Ho0.out.trans Ho.out).trans HF.out.2, rfl, HF.out.1⟩
    have hm1 : 0 ≤ most := by omega
    have hw1 : IntKind.u64.wrap most = most := by rw [IntKind.wrap_u64]; omega
    by_cases hm2 : most < (n : Int)
    · have HE : Kept (countEnd n 65536 l1 false most = (0, [], true)) := ⟨countEnd_no n 65536 l1 false most (by omega)⟩
      go_wp2
      go_ret
      rw [HE.out]
      exact ⟨(Ho0.out.trans Ho.out).trans HF.out.2, rfl, HF.out.1⟩
    · have hm3 : (n : Int) ≤ most := by omega
      have HE : Kept (countEnd n 65536 l1 false most = (n, l1, false)) := ⟨countEnd_ok n 65536 l1 false most (by omega)⟩
      have HW2 : Kept (IntKind.i64.wrap (n : Int) = (n : Int)) := ⟨by rw [IntKind.wrap_i64]; omega⟩
      go_wp2
      go_ret
      rw [HE.out]
      exact ⟨Ho0.out.trans Ho.out, congrArg (fun z => Ending.returned (.int .i64 z)) (by first | rfl | exact HW2.out), HS1.out⟩

set_option maxRecDepth 100000 in
set_option maxHeartbeats 1000000 in
theorem qcount_255 (g : Nat) (w : World) (l : List Int) (bad : Bool) (most : Int) (h : Sd w g l bad) (_hm : most ≤ 9223372036854775807) (hc : (num l bad 1).1 = 255) :
    Calls Try.prog 45 #[.pointer (some ⟨g, 0, none⟩), .int .i64 most] w (NumS g (count l bad most) (.int .i64 ((count l bad most).1 : Int)) w) := by
  have H : Kept (Sd w g l bad) := ⟨h⟩
  clear h
  have hcount : count l bad most = (0, [], true) := by
    unfold count
    rw [if_neg (by omega), if_neg (by omega), if_pos hc]
  rw [hcount]
  clear hcount
  have hN := qnumber_any g w l bad 1 H.out (by omega) (by omega)
  generalize num l bad 1 = s at *
  obtain ⟨n0, l0, bad0⟩ := s
  have HN := Lib.hid hN
  clear hN
  simp only at hc HN ⊢
  subst hc
  go_enter Try.func45, Try.ntmps45
  go_wp2_with fail
  refine HN.out.mono ?_
  rintro e w0 ⟨ho0, rfl, hr0⟩
  obtain ⟨c1, f1⟩ := hr0.flag
  have HF1 := hr0.fail
  have HF2 := HF1.1.fail
  obtain ⟨d1, g1⟩ := HF1.1.flag
  have HF : Kept (Sd ((w0.setCell ⟨g, 1, none⟩ (.bool true)).setCell ⟨g, 1, none⟩ (.bool true)) g [] true ∧ Only g w ((w0.setCell ⟨g, 1, none⟩ (.bool true)).setCell ⟨g, 1, none⟩ (.bool true))) := ⟨HF2.1, (ho0.trans HF1.2).trans HF2.2⟩
  clear ho0 hr0 HF1 HF2
  go_wp2
  go_ret
  exact ⟨HF.out.2, rfl, HF.out.1⟩

set_option maxRecDepth 100000 in
theorem qcount_any (g : Nat) (w : World) (l : List Int) (bad : Bool) (most : Int) (h : Sd w g l bad) (hm : most ≤ 9223372036854775807) :
    Calls Try.prog 45 #[.pointer (some ⟨g, 0, none⟩), .int .i64 most] w (NumS g (count l bad most) (.int .i64 ((count l bad most).1 : Int)) w) := by
  have hl := num_lt l h.bys bad 1
  by_cases h1 : (num l bad 1).1 = 253
  · exact qcount_253 g w l bad most h hm h1
  by_cases h2 : (num l bad 1).1 = 254
  · exact qcount_254 g w l bad most h hm h2
  by_cases h3 : (num l bad 1).1 = 255
  · exact qcount_255 g w l bad most h hm h3
  exact qcount_plain g w l bad most h hm (by omega)
end Go.Proofs.Ytojeonepplfhlaa
