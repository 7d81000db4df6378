/- Contracts of package wire: the Reader's Small, Big, Count. -/
import Derived.Test.YtojeonepplfhlaaWireB
namespace Go.Proofs.Ytojeonepplfhlaa
open Go.RowKit

/-- So many bytes of a Reader as a number, and what is left. -/
def num (l : List Int) (bad : Bool) (n : Nat) : Nat × List Int × Bool := if n ≤ l.length then (le (l.take n), l.drop n, bad) else (0, [], true)
def NumIs (g : Nat) (r : Nat × List Int × Bool) (v : Value) (w : World) (e : Ending) (w' : World) : Prop := Only g w w' ∧ e = .returned v ∧ Rd w' g r.2.1 r.2.2
theorem num_lt (l : List Int) (hy : Bys l) (bad : Bool) (n : Nat) : (num l bad n).1 < 256 ^ n := by
  unfold num
  split
  · have h := le_lt (hy.take n)
    rw [List.length_take, Nat.min_eq_left (by assumption)] at h
    exact h
  · exact Nat.pow_pos (by omega)
set_option maxRecDepth 100000 in
theorem number_any (g : Nat) (w : World) (l : List Int) (bad : Bool) (n : Nat) (h : Rd w g l bad) (h8 : n ≤ 8) (hn0 : 0 < n) :
    Calls Try.prog 72 #[.pointer (some ⟨g, 0, none⟩), .int .i64 (n : Int)] w (NumIs g (num l bad n) (.int .u64 ((num l bad n).1 : Int)) w) := by
  by_cases hn : n ≤ l.length
  · refine (number_yes g w l bad n h hn h8 hn0).mono fun e w' ⟨ho, hor⟩ => ?_
    rcases hor with ⟨_, he, hr⟩ | ⟨hlt, _, _⟩
    · unfold NumIs num
      rw [if_pos hn]
      exact ⟨ho, he, hr⟩
    · omega
  · refine (number_no g w l bad n h (by omega)).mono fun e w' ⟨ho, hor⟩ => ?_
    rcases hor with ⟨hle, _, _⟩ | ⟨_, he, hr⟩
    · omega
    · unfold NumIs num
      rw [if_neg hn]
      exact ⟨ho, he, hr⟩

theorem wrap_u32_of {n : Nat} (h : n < 256 ^ 4) : IntKind.u32.wrap (n : Int) = n := by
  have : (256 : Nat) ^ 4 = 4294967296 := by decide
  simp [IntKind.wrap, IntKind.bits, IntKind.signed]
  omega
theorem Rd.bys {w : World} {g : Nat} {l : List Int} {bad : Bool} (h : Rd w g l bad) : Bys l := by
  obtain ⟨_, _, _, hy, _⟩ := h
  exact hy
theorem Rd.flag {w : World} {g : Nat} {l : List Int} {bad : Bool} (h : Rd w g l bad) : w.cell? ⟨g, 1, none⟩ = some (.bool bad) := by
  obtain ⟨_, hb, _⟩ := h
  exact hb.cell 1
set_option maxRecDepth 100000 in
theorem Rd.flag' {w : World} {g : Nat} {l : List Int} {bad : Bool} (h : Rd w g l bad) : ∃ sv, Box w g 69 #[sv, .bool bad] := by
  obtain ⟨sv, hb, _⟩ := h
  exact ⟨sv, hb⟩
set_option maxRecDepth 100000 in
set_option maxHeartbeats 400000 in
theorem rsmall_any (g : Nat) (w : World) (l : List Int) (bad : Bool) (h : Rd w g l bad) :
    Calls Try.prog 60 #[.pointer (some ⟨g, 0, none⟩)] w (NumIs g (num l bad 4) (.int .u32 ((num l bad 4).1 : Int)) w) := by
  have H := Lib.hid h
  clear h
  have hl := num_lt l H.out.bys bad 4
  have hw := Lib.hid (wrap_u32_of hl)
  clear hl
  go_enter Try.func60, Try.ntmps60
  go_wp2_with fail
  refine (number_any g w l bad 4 H.out (by omega) (by omega)).mono ?_
  rintro e w1 ⟨ho, rfl, hr⟩
  have Ho := Lib.hid ho
  have Hr := Lib.hid hr
  clear ho hr
  generalize num l bad 4 = s at *
  go_wp2
  go_ret
  exact ⟨Ho.out, congrArg (fun z => Ending.returned (.int .u32 z)) hw.out, Hr.out⟩
set_option maxRecDepth 100000 in
set_option maxHeartbeats 400000 in
theorem rbig_any (g : Nat) (w : World) (l : List Int) (bad : Bool) (h : Rd w g l bad) :
    Calls Try.prog 75 #[.pointer (some ⟨g, 0, none⟩)] w (NumIs g (num l bad 8) (.int .u64 ((num l bad 8).1 : Int)) w) := by
  have H := Lib.hid h
  clear h
  go_enter Try.func75, Try.ntmps75
  go_wp2_with fail
  refine (number_any g w l bad 8 H.out (by omega) (by omega)).mono ?_
  rintro e w1 ⟨ho, rfl, hr⟩
  have Ho := Lib.hid ho
  have Hr := Lib.hid hr
  clear ho hr
  generalize num l bad 8 = s at *
  go_wp2
  go_ret
  exact ⟨Ho.out, rfl, Hr.out⟩

def countEnd (n least : Nat) (l : List Int) (bad : Bool) (most : Int) : Nat × List Int × Bool :=
  if n < least ∨ most < 0 ∨ most < n then (0, [], true) else if bad = true then (0, l, bad) else (n, l, bad)
theorem countEnd_no (n least : Nat) (l : List Int) (bad : Bool) (most : Int) (h : n < least ∨ most < 0 ∨ most < n) : countEnd n least l bad most = (0, [], true) := if_pos h
theorem countEnd_ok (n least : Nat) (l : List Int) (bad : Bool) (most : Int) (h : ¬ (n < least ∨ most < 0 ∨ most < n)) : countEnd n least l bad most = if bad = true then (0, l, bad) else (n, l, bad) := if_neg h
def count (l : List Int) (bad : Bool) (most : Int) : Nat × List Int × Bool :=
  if (num l bad 1).1 = 253 then countEnd (num (num l bad 1).2.1 (num l bad 1).2.2 2).1 253 (num (num l bad 1).2.1 (num l bad 1).2.2 2).2.1 (num (num l bad 1).2.1 (num l bad 1).2.2 2).2.2 most
  else if (num l bad 1).1 = 254 then countEnd (num (num l bad 1).2.1 (num l bad 1).2.2 4).1 65536 (num (num l bad 1).2.1 (num l bad 1).2.2 4).2.1 (num (num l bad 1).2.1 (num l bad 1).2.2 4).2.2 most
  else if (num l bad 1).1 = 255 then (0, [], true)
  else countEnd (num l bad 1).1 0 (num l bad 1).2.1 (num l bad 1).2.2 most

set_option maxRecDepth 100000 in
set_option maxHeartbeats 1000000 in
theorem rcount_plain (g : Nat) (w : World) (l : List Int) (bad : Bool) (most : Int) (h : Rd w g l bad) (hm : most ≤ 9223372036854775807) (hc : (num l bad 1).1 < 253) :
    Calls Try.prog 61 #[.pointer (some ⟨g, 0, none⟩), .int .i64 most] w (NumIs g (count l bad most) (.int .i64 ((count l bad most).1 : Int)) w) := by
  have H := Lib.hid h
  clear h
  have hcount : count l bad most = countEnd (num l bad 1).1 0 (num l bad 1).2.1 (num l bad 1).2.2 most := by
    unfold count
    rw [if_neg (by omega), if_neg (by omega), if_neg (by omega)]
  rw [hcount]
  clear hcount
  have hN := number_any g w l bad 1 H.out (by omega) (by omega)
  generalize num l bad 1 = s at *
  obtain ⟨n, l1, bad1⟩ := s
  have HN := Lib.hid hN
  clear hN
  simp only at hc HN ⊢
  have e1 : ((n : Int) == 253) = false := by simp; omega
  have e2 : ((n : Int) == 254) = false := by simp; omega
  have e3 : ((n : Int) == 255) = false := by simp; omega
  go_enter Try.func61, Try.ntmps61
  go_wp2_with fail
  refine HN.out.mono ?_
  rintro e w1 ⟨ho, rfl, hr⟩
  have Ho := Lib.hid ho
  have Hr := Lib.hid hr
  clear ho hr
  by_cases hm0 : most < 0
  · have HE := Lib.hid (countEnd_no n 0 l1 bad1 most (by omega))
    go_wp2_with fail
    obtain ⟨svx, hbx⟩ := Hr.out.flag'
    refine (fail_any g w1 _ _ hbx).mono ?_
    clear hbx
    rintro e wf ⟨rfl, hrf, hof⟩
    have cf := hrf.flag
    have Hrf := Lib.hid hrf
    have Hof := Lib.hid hof
    clear hrf hof
    go_wp2
    go_ret
    rw [HE.out]
    exact ⟨(Ho.out).trans Hof.out, rfl, Hrf.out⟩
  have hm1 : 0 ≤ most := by omega
  have hw1 : IntKind.u64.wrap most = most := by rw [IntKind.wrap_u64]; omega
  by_cases hm2 : most < (n : Int)
  · have HE := Lib.hid (countEnd_no n 0 l1 bad1 most (by omega))
    go_wp2_with fail
    obtain ⟨svx, hbx⟩ := Hr.out.flag'
    refine (fail_any g w1 _ _ hbx).mono ?_
    clear hbx
    rintro e wf ⟨rfl, hrf, hof⟩
    have cf := hrf.flag
    have Hrf := Lib.hid hrf
    have Hof := Lib.hid hof
    clear hrf hof
    go_wp2
    go_ret
    rw [HE.out]
    exact ⟨(Ho.out).trans Hof.out, rfl, Hrf.out⟩
  have hm3 : (n : Int) ≤ most := by omega
  · have HE := Lib.hid (countEnd_ok n 0 l1 bad1 most (by omega))
    have cf := Hr.out.flag
    have hw2 : IntKind.i64.wrap (n : Int) = n := by rw [IntKind.wrap_i64]; omega
    have HW2 := Lib.hid hw2
    clear hw2
    cases bad1 with
    | true =>
      go_wp2
      go_ret
      rw [HE.out]
      exact ⟨Ho.out, rfl, Hr.out⟩
    | false =>
      go_wp2
      go_ret
      rw [HE.out]
      exact ⟨Ho.out, congrArg (fun z => Ending.returned (.int .i64 z)) (by first | rfl | exact HW2.out), Hr.out⟩

set_option maxRecDepth 100000 in
set_option maxHeartbeats 1000000 in
theorem rcount_253 (g : Nat) (w : World) (l : List Int) (bad : Bool) (most : Int) (h : Rd w g l bad) (hm : most ≤ 9223372036854775807) (hc : (num l bad 1).1 = 253) :
    Calls Try.prog 61 #[.pointer (some ⟨g, 0, none⟩), .int .i64 most] w (NumIs g (count l bad most) (.int .i64 ((count l bad most).1 : Int)) w) := by
  have H := Lib.hid h
  clear h
  have hcount : count l bad most = countEnd (num (num l bad 1).2.1 (num l bad 1).2.2 2).1 253 (num (num l bad 1).2.1 (num l bad 1).2.2 2).2.1 (num (num l bad 1).2.1 (num l bad 1).2.2 2).2.2 most := by
    unfold count
    rw [if_pos hc]
  rw [hcount]
  clear hcount
  have hN := number_any g w l bad 1 H.out (by omega) (by omega)
  generalize num l bad 1 = s at *
  obtain ⟨n0, l0, bad0⟩ := s
  have HN := Lib.hid hN
  clear hN
  simp only at hc HN ⊢
  subst hc
  go_enter Try.func61, Try.ntmps61
  go_wp2_with fail
  refine HN.out.mono ?_
  rintro e w0 ⟨ho0, rfl, hr0⟩
  have Ho0 := Lib.hid ho0
  have Hr0 := Lib.hid hr0
  clear ho0 hr0
  go_wp2_with fail
  have hN := number_any g w0 l0 bad0 2 Hr0.out (by omega) (by omega)
  have hlt := num_lt l0 Hr0.out.bys bad0 2
  rw [show (256 : Nat) ^ 2 = 65536 by decide] at hlt
  generalize num l0 bad0 2 = s at *
  obtain ⟨n, l1, bad1⟩ := s
  simp only at hN hlt ⊢
  refine hN.mono ?_
  clear hN
  rintro e w1 ⟨ho, rfl, hr⟩
  have Ho := Lib.hid ho
  have Hr := Lib.hid hr
  clear ho hr
  by_cases hlo : (n : Int) < 253
  · have HE := Lib.hid (countEnd_no n 253 l1 bad1 most (by omega))
    go_wp2_with fail
    obtain ⟨svx, hbx⟩ := Hr.out.flag'
    refine (fail_any g w1 _ _ hbx).mono ?_
    clear hbx
    rintro e wf ⟨rfl, hrf, hof⟩
    have cf := hrf.flag
    have Hrf := Lib.hid hrf
    have Hof := Lib.hid hof
    clear hrf hof
    go_wp2
    go_ret
    rw [HE.out]
    exact ⟨(Ho0.out.trans Ho.out).trans Hof.out, rfl, Hrf.out⟩
  have hlo' : decide ((n : Int) < 253) = false := decide_eq_false hlo
  by_cases hm0 : most < 0
  · have HE := Lib.hid (countEnd_no n 253 l1 bad1 most (by omega))
    go_wp2_with fail
    obtain ⟨svx, hbx⟩ := Hr.out.flag'
    refine (fail_any g w1 _ _ hbx).mono ?_
    clear hbx
    rintro e wf ⟨rfl, hrf, hof⟩
    have cf := hrf.flag
    have Hrf := Lib.hid hrf
    have Hof := Lib.hid hof
    clear hrf hof
    go_wp2
    go_ret
    rw [HE.out]
    exact ⟨(Ho0.out.trans Ho.out).trans Hof.out, rfl, Hrf.out⟩
  have hm1 : 0 ≤ most := by omega
  have hw1 : IntKind.u64.wrap most = most := by rw [IntKind.wrap_u64]; omega
  by_cases hm2 : most < (n : Int)
  · have HE := Lib.hid (countEnd_no n 253 l1 bad1 most (by omega))
    go_wp2_with fail
    obtain ⟨svx, hbx⟩ := Hr.out.flag'
    refine (fail_any g w1 _ _ hbx).mono ?_
    clear hbx
    rintro e wf ⟨rfl, hrf, hof⟩
    have cf := hrf.flag
    have Hrf := Lib.hid hrf
    have Hof := Lib.hid hof
    clear hrf hof
    go_wp2
    go_ret
    rw [HE.out]
    exact ⟨(Ho0.out.trans Ho.out).trans Hof.out, rfl, Hrf.out⟩
  have hm3 : (n : Int) ≤ most := by omega
  · have HE := Lib.hid (countEnd_ok n 253 l1 bad1 most (by omega))
    have cf := Hr.out.flag
    have hw2 : IntKind.i64.wrap (n : Int) = n := by rw [IntKind.wrap_i64]; omega
    have HW2 := Lib.hid hw2
    clear hw2
    cases bad1 with
    | true =>
      go_wp2
      go_ret
      rw [HE.out]
      exact ⟨Ho0.out.trans Ho.out, rfl, Hr.out⟩
    | false =>
      go_wp2
      go_ret
      rw [HE.out]
      exact ⟨Ho0.out.trans Ho.out, congrArg (fun z => Ending.returned (.int .i64 z)) (by first | rfl | exact HW2.out), Hr.out⟩

set_option maxRecDepth 100000 in
set_option maxHeartbeats 1000000 in
theorem rcount_254 (g : Nat) (w : World) (l : List Int) (bad : Bool) (most : Int) (h : Rd w g l bad) (hm : most ≤ 9223372036854775807) (hc : (num l bad 1).1 = 254) :
    Calls Try.prog 61 #[.pointer (some ⟨g, 0, none⟩), .int .i64 most] w (NumIs g (count l bad most) (.int .i64 ((count l bad most).1 : Int)) w) := by
  have H := Lib.hid h
  clear h
  have hcount : count l bad most = countEnd (num (num l bad 1).2.1 (num l bad 1).2.2 4).1 65536 (num (num l bad 1).2.1 (num l bad 1).2.2 4).2.1 (num (num l bad 1).2.1 (num l bad 1).2.2 4).2.2 most := by
    unfold count
    rw [if_neg (by omega), if_pos hc]
  rw [hcount]
  clear hcount
  have hN := number_any g w l bad 1 H.out (by omega) (by omega)
  generalize num l bad 1 = s at *
  obtain ⟨n0, l0, bad0⟩ := s
  have HN := Lib.hid hN
  clear hN
  simp only at hc HN ⊢
  subst hc
  go_enter Try.func61, Try.ntmps61
  go_wp2_with fail
  refine HN.out.mono ?_
  rintro e w0 ⟨ho0, rfl, hr0⟩
  have Ho0 := Lib.hid ho0
  have Hr0 := Lib.hid hr0
  clear ho0 hr0
  go_wp2_with fail
  have hN := number_any g w0 l0 bad0 4 Hr0.out (by omega) (by omega)
  have hlt := num_lt l0 Hr0.out.bys bad0 4
  rw [show (256 : Nat) ^ 4 = 4294967296 by decide] at hlt
  generalize num l0 bad0 4 = s at *
  obtain ⟨n, l1, bad1⟩ := s
  simp only at hN hlt ⊢
  refine hN.mono ?_
  clear hN
  rintro e w1 ⟨ho, rfl, hr⟩
  have Ho := Lib.hid ho
  have Hr := Lib.hid hr
  clear ho hr
  by_cases hlo : (n : Int) < 65536
  · have HE := Lib.hid (countEnd_no n 65536 l1 bad1 most (by omega))
    go_wp2_with fail
    obtain ⟨svx, hbx⟩ := Hr.out.flag'
    refine (fail_any g w1 _ _ hbx).mono ?_
    clear hbx
    rintro e wf ⟨rfl, hrf, hof⟩
    have cf := hrf.flag
    have Hrf := Lib.hid hrf
    have Hof := Lib.hid hof
    clear hrf hof
    go_wp2
    go_ret
    rw [HE.out]
    exact ⟨(Ho0.out.trans Ho.out).trans Hof.out, rfl, Hrf.out⟩
  have hlo' : ((n : Int) < 65536) = False := eq_false hlo
  by_cases hm0 : most < 0
  · have HE := Lib.hid (countEnd_no n 65536 l1 bad1 most (by omega))
    go_wp2_with fail
    obtain ⟨svx, hbx⟩ := Hr.out.flag'
    refine (fail_any g w1 _ _ hbx).mono ?_
    clear hbx
    rintro e wf ⟨rfl, hrf, hof⟩
    have cf := hrf.flag
    have Hrf := Lib.hid hrf
    have Hof := Lib.hid hof
    clear hrf hof
    go_wp2
    go_ret
    rw [HE.out]
    exact ⟨(Ho0.out.trans Ho.out).trans Hof.out, rfl, Hrf.out⟩
  have hm1 : 0 ≤ most := by omega
  have hw1 : IntKind.u64.wrap most = most := by rw [IntKind.wrap_u64]; omega
  by_cases hm2 : most < (n : Int)
  · have HE := Lib.hid (countEnd_no n 65536 l1 bad1 most (by omega))
    go_wp2_with fail
    obtain ⟨svx, hbx⟩ := Hr.out.flag'
    refine (fail_any g w1 _ _ hbx).mono ?_
    clear hbx
    rintro e wf ⟨rfl, hrf, hof⟩
    have cf := hrf.flag
    have Hrf := Lib.hid hrf
    have Hof := Lib.hid hof
    clear hrf hof
    go_wp2
    go_ret
    rw [HE.out]
    exact ⟨(Ho0.out.trans Ho.out).trans Hof.out, rfl, Hrf.out⟩
  have hm3 : (n : Int) ≤ most := by omega
  · have HE := Lib.hid (countEnd_ok n 65536 l1 bad1 most (by omega))
    have cf := Hr.out.flag
    have hw2 : IntKind.i64.wrap (n : Int) = n := by rw [IntKind.wrap_i64]; omega
    have HW2 := Lib.hid hw2
    clear hw2
    cases bad1 with
    | true =>
      go_wp2
      go_ret
      rw [HE.out]
      exact ⟨Ho0.out.trans Ho.out, rfl, Hr.out⟩
    | false =>
      go_wp2
      go_ret
      rw [HE.out]
      exact ⟨Ho0.out.trans Ho.out, congrArg (fun z => Ending.returned (.int .i64 z)) (by first | rfl | exact HW2.out), Hr.out⟩

set_option maxRecDepth 100000 in
set_option maxHeartbeats 1000000 in
theorem rcount_255 (g : Nat) (w : World) (l : List Int) (bad : Bool) (most : Int) (h : Rd w g l bad) (hm : most ≤ 9223372036854775807) (hc : (num l bad 1).1 = 255) :
    Calls Try.prog 61 #[.pointer (some ⟨g, 0, none⟩), .int .i64 most] w (NumIs g (count l bad most) (.int .i64 ((count l bad most).1 : Int)) w) := by
  have H := Lib.hid h
  clear h
  have hcount : count l bad most = (0, [], true) := by
    unfold count
    rw [if_neg (by omega), if_neg (by omega), if_pos hc]
  rw [hcount]
  clear hcount
  have hN := number_any g w l bad 1 H.out (by omega) (by omega)
  generalize num l bad 1 = s at *
  obtain ⟨n0, l0, bad0⟩ := s
  have HN := Lib.hid hN
  clear hN
  simp only at hc HN ⊢
  subst hc
  go_enter Try.func61, Try.ntmps61
  go_wp2_with fail
  refine HN.out.mono ?_
  rintro e w0 ⟨ho0, rfl, hr0⟩
  have Ho0 := Lib.hid ho0
  obtain ⟨sv0, hb0⟩ := hr0.flag'
  have Hb0 := Lib.hid hb0
  clear ho0 hr0 hb0
  go_wp2_with fail
  refine (fail_any g w0 _ _ Hb0.out).mono ?_
  rintro e w1 ⟨rfl, hr1, ho1⟩
  have c1 := hr1.flag
  have Ho1 := Lib.hid (Ho0.out.trans ho1)
  have Hr1 := Lib.hid hr1
  clear hr1 ho1
  by_cases hm0 : most < 0
  · go_wp2_with fail
    obtain ⟨svx, hbx⟩ := Hr1.out.flag'
    refine (fail_any g w1 _ _ hbx).mono ?_
    clear hbx
    rintro e wf ⟨rfl, hrf, hof⟩
    have cf := hrf.flag
    have Hrf := Lib.hid hrf
    have Hof := Lib.hid hof
    clear hrf hof
    go_wp2
    go_ret
    exact ⟨Ho1.out.trans Hof.out, rfl, Hrf.out⟩
  have hm1 : 0 ≤ most := by omega
  have hw1 : IntKind.u64.wrap most = most := by rw [IntKind.wrap_u64]; omega
  by_cases hm2 : most < (255 : Int)
  · go_wp2_with fail
    obtain ⟨svx, hbx⟩ := Hr1.out.flag'
    refine (fail_any g w1 _ _ hbx).mono ?_
    clear hbx
    rintro e wf ⟨rfl, hrf, hof⟩
    have cf := hrf.flag
    have Hrf := Lib.hid hrf
    have Hof := Lib.hid hof
    clear hrf hof
    go_wp2
    go_ret
    exact ⟨Ho1.out.trans Hof.out, rfl, Hrf.out⟩
  · have hm3 : (255 : Int) ≤ most := by omega
    go_wp2
    go_ret
    exact ⟨Ho1.out, rfl, Hr1.out⟩

set_option maxRecDepth 100000 in
theorem rcount_any (g : Nat) (w : World) (l : List Int) (bad : Bool) (most : Int) (h : Rd w g l bad) (hm : most ≤ 9223372036854775807) :
    Calls Try.prog 61 #[.pointer (some ⟨g, 0, none⟩), .int .i64 most] w (NumIs g (count l bad most) (.int .i64 ((count l bad most).1 : Int)) w) := by
  have hl := num_lt l h.bys bad 1
  by_cases h1 : (num l bad 1).1 = 253
  · exact rcount_253 g w l bad most h hm h1
  by_cases h2 : (num l bad 1).1 = 254
  · exact rcount_254 g w l bad most h hm h2
  by_cases h3 : (num l bad 1).1 = 255
  · exact rcount_255 g w l bad most h hm h3
  exact rcount_plain g w l bad most h hm (by omega)
end Go.Proofs.Ytojeonepplfhlaa
