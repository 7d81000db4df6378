/- Contracts of the document's own Reader: number, Small, Big, End, Count. -/
import Derived.Test.YtojeonepplfhlaaRefB
namespace Go.Proofs.Ytojeonepplfhlaa
open Go.RowKit

def NumS (g : Nat) (r : Nat × List Int × Bool) (v : Value) (w : World) (e : Ending) (w' : World) : Prop := Only g w w' ∧ e = .returned v ∧ Sd w' g r.2.1 r.2.2
/-- One byte more, laid below those that are there. -/
theorem le_back (m : List Int) (hm : Bys m) (h8 : m.length ≤ 8) (k : Nat) (hk : k < m.length) (x : Int) (hx : x = m.getD k 0) :
    bits .or .u64 (IntKind.u64.wrap ((le (m.drop (k + 1)) : Int) * 256)) (IntKind.u64.wrap x) = (le (m.drop k) : Int) := by
  have hb := hm.at k
  rw [← hx] at hb
  obtain ⟨y, rfl⟩ := Int.eq_ofNat_of_zero_le hb.1
  have hl := le_lt (hm.drop (k + 1))
  rw [List.length_drop] at hl
  have hp : 256 ^ (m.length - (k + 1)) ≤ 256 ^ 7 := Nat.pow_le_pow_right (by omega) (by omega)
  rw [show (256 : Nat) ^ 7 = 72057594037927936 by decide] at hp
  have h1 : IntKind.u64.wrap ((le (m.drop (k + 1)) : Int) * 256) = ((256 * le (m.drop (k + 1)) : Nat) : Int) := by rw [IntKind.wrap_u64]; omega
  have h2 : IntKind.u64.wrap (y : Int) = (y : Int) := by rw [IntKind.wrap_u64]; omega
  rw [h1, h2, u64_or_nat _ _ (by omega) (by omega)]
  have h4 := Nat.two_pow_add_eq_or_of_lt (i := 8) (b := y) (by omega) (le (m.drop (k + 1)))
  rw [show (2 : Nat) ^ 8 = 256 from rfl] at h4
  rw [← h4]
  have h5 : m.drop k = m.getD k 0 :: m.drop (k + 1) := by
    rw [List.drop_eq_getElem_cons hk, List.getD_eq_getElem?_getD, List.getElem?_eq_getElem hk]
    rfl
  rw [h5, ← hx]
  simp only [le, Int.toNat_natCast]
  congr 1
  omega

set_option maxRecDepth 100000 in
set_option maxHeartbeats 1000000 in
theorem qnumber_yes (g : Nat) (w : World) (l : List Int) (n : Nat) (h : Sd w g l false) (hn : n ≤ l.length) (h8 : n ≤ 8) (hn0 : 0 < n) :
    Calls Try.prog 66 #[.pointer (some ⟨g, 0, none⟩), .int .i64 (n : Int)] w (NumS g (num l false n) (.int .u64 ((num l false n).1 : Int)) w) := by
  have H : Kept (Sd w g l false) := ⟨h⟩
  have HN : Kept (num l false n = (le (l.take n), l.drop n, false)) := ⟨if_pos hn⟩
  have HY : Kept (Bys (l.take n)) := ⟨h.bys.take n⟩
  have hlen : (l.take n).length = n := by rw [List.length_take]; omega
  have HL : Kept ((l.take n).length = n) := ⟨hlen⟩
  clear h hlen
  go_enter Try.func66, Try.ntmps66
  go_wp2_with fail
  refine (qtake_yes g w l n H.out hn).mono ?_
  rintro e w1 ⟨pv, rfl, ho, hor⟩
  rcases hor with ⟨_, _, _, hw, hs⟩ | ⟨hno, _, _⟩
  case inr => rcases hno with h | h | h <;> first | cases h | omega
  rw [Int.toNat_natCast] at hw hs
  rcases hw.form with ⟨_, h0⟩ | ⟨gx, cap, cur, rfl, _, hbx, _, _, _, htk⟩
  case inl =>
    have := HL.out
    rw [h0] at this
    simp at this
    omega
  rw [HL.out]
  have hcell : ∀ i, i < n → w1.cell? ⟨gx, i, none⟩ = some (.int .u8 ((l.take n).getD i 0)) := fun i hi => by
    have hu := congrArg (fun z : List Value => z[i]?) htk
    rw [HL.out] at hu
    simp only [List.getElem?_take, if_pos hi] at hu
    rw [Array.getElem?_toList] at hu
    rw [hbx.cell, hu]
    simp [byteVals, hi, List.getElem?_eq_getElem (show i < l.length by omega)]
  have HC : Kept (∀ i, i < n → w1.cell? ⟨gx, i, none⟩ = some (.int .u8 ((l.take n).getD i 0))) := ⟨hcell⟩
  have HO : Kept (Only g w w1) := ⟨ho⟩
  have HS : Kept (Sd w1 g (l.drop n) false) := ⟨hs⟩
  have hn8 : (n : Int) ≤ 8 := by omega
  have hn1 : (0 : Int) < (n : Int) := by omega
  clear hcell ho hs hw hbx htk
  go_wp2
  go_loop [6, 7] (fun u i => ∃ k : Nat, k ≤ n ∧ i = .int .i64 ((k : Int) - 1) ∧ u = .int .u64 (le ((l.take n).drop k) : Int)) (fun _ i => (intOf i + 1).toNat)
  case atStart => exact ⟨n, Nat.le_refl _, rfl, by rw [List.drop_of_length_le (by rw [HL.out]; exact Nat.le_refl _)]; rfl⟩
  case round =>
    obtain ⟨k, hk, rfl, rfl⟩ := hrel
    rcases Nat.eq_zero_or_pos k with h0 | h0
    · subst h0
      go_wp2
      go_ret
      exact ⟨HO.out, by rw [HN.out]; rfl, by rw [HN.out]; exact HS.out⟩
    · obtain ⟨j, rfl⟩ : ∃ j, k = j + 1 := ⟨k - 1, by omega⟩
      have hc := HC.out j (by omega)
      have hj : (((j + 1 : Nat) : Int) - 1) = (j : Int) := by omega
      rw [hj]
      clear hj
      go_wp2
      refine ⟨⟨j, by omega, rfl, ?_⟩, by simp [intOf]⟩
      congr 1
      exact le_back (l.take n) HY.out (by rw [HL.out]; exact h8) j (by rw [HL.out]; omega) _ (by simp [List.getD_eq_getElem?_getD])
set_option maxRecDepth 100000 in
set_option maxHeartbeats 1000000 in
theorem qnumber_no (g : Nat) (w : World) (l : List Int) (bad : Bool) (n : Nat) (h : Sd w g l bad) (hn : l.length < n) :
    Calls Try.prog 66 #[.pointer (some ⟨g, 0, none⟩), .int .i64 (n : Int)] w (NumS g (0, [], true) (.int .u64 0) w) := by
  have hT : Calls Try.prog 44 #[.pointer (some ⟨g, 0, none⟩), .int .i64 (n : Int)] w (TakeS g l bad n w) := by
    cases bad with
    | true => exact qtake_bad g w l n h
    | false => exact qtake_no g w l n h (.inr (by omega))
  have HT : Kept (Calls Try.prog 44 #[.pointer (some ⟨g, 0, none⟩), .int .i64 (n : Int)] w (TakeS g l bad n w)) := ⟨hT⟩
  clear h hT
  go_enter Try.func66, Try.ntmps66
  go_wp2_with fail
  refine HT.out.mono ?_
  rintro e w1 ⟨pv, rfl, ho, hor⟩
  rcases hor with ⟨_, _, hle, _, _⟩ | ⟨_, hw, hs⟩
  case inl => omega
  obtain ⟨A, c, hpv⟩ := hw.slice
  rw [show ([] : List Int).length = 0 from rfl] at hpv
  subst hpv
  have HO : Kept (Only g w w1) := ⟨ho⟩
  have HS : Kept (Sd w1 g [] true) := ⟨hs⟩
  clear ho hs hw
  go_wp2
  go_loop [6, 7] (fun u i => i = .int .i64 (-1) ∧ u = .int .u64 0) (fun _ _ => 0)
  case atStart => exact ⟨rfl, rfl⟩
  case round =>
    obtain ⟨rfl, rfl⟩ := hrel
    go_wp2
    go_ret
    exact ⟨HO.out, rfl, HS.out⟩
set_option maxRecDepth 100000 in
theorem qnumber_any (g : Nat) (w : World) (l : List Int) (bad : Bool) (n : Nat) (h : Sd w g l bad) (h8 : n ≤ 8) (hn0 : 0 < n) :
    Calls Try.prog 66 #[.pointer (some ⟨g, 0, none⟩), .int .i64 (n : Int)] w (NumS g (num l bad n) (.int .u64 ((num l bad n).1 : Int)) w) := by
  by_cases hn : n ≤ l.length
  · cases bad with
    | false => exact qnumber_yes g w l n h hn h8 hn0
    | true =>
      obtain ⟨_, _, _, _, _, _, _, h2⟩ := h
      rw [h2 rfl] at hn
      simp at hn
      omega
  · rw [num_short l bad n (by omega)]
    exact qnumber_no g w l bad n h (by omega)
set_option maxRecDepth 100000 in
set_option maxHeartbeats 400000 in
theorem qsmall_any (g : Nat) (w : World) (l : List Int) (bad : Bool) (h : Sd w g l bad) :
    Calls Try.prog 43 #[.pointer (some ⟨g, 0, none⟩)] w (NumS g (num l bad 4) (.int .u32 ((num l bad 4).1 : Int)) w) := by
  have H : Kept (Sd w g l bad) := ⟨h⟩
  have hw : Kept (IntKind.u32.wrap ((num l bad 4).1 : Int) = ((num l bad 4).1 : Int)) := ⟨wrap_u32_of (num_lt l h.bys bad 4)⟩
  clear h
  go_enter Try.func43, Try.ntmps43
  go_wp2_with fail
  refine (qnumber_any g w l bad 4 H.out (by omega) (by omega)).mono ?_
  rintro e w1 ⟨ho, rfl, hr⟩
  have Ho : Kept (Only g w w1) := ⟨ho⟩
  have Hr : Kept (Sd w1 g (num l bad 4).2.1 (num l bad 4).2.2) := ⟨hr⟩
  clear ho hr
  generalize num l bad 4 = s at *
  go_wp2
  go_ret
  exact ⟨Ho.out, congrArg (fun z => Ending.returned (.int .u32 z)) hw.out, Hr.out⟩
set_option maxRecDepth 100000 in
set_option maxHeartbeats 400000 in
theorem qbig_any (g : Nat) (w : World) (l : List Int) (bad : Bool) (h : Sd w g l bad) :
    Calls Try.prog 46 #[.pointer (some ⟨g, 0, none⟩)] w (NumS g (num l bad 8) (.int .u64 ((num l bad 8).1 : Int)) w) := by
  have H : Kept (Sd w g l bad) := ⟨h⟩
  clear h
  go_enter Try.func46, Try.ntmps46
  go_wp2_with fail
  refine (qnumber_any g w l bad 8 H.out (by omega) (by omega)).mono ?_
  rintro e w1 ⟨ho, rfl, hr⟩
  have Ho : Kept (Only g w w1) := ⟨ho⟩
  have Hr : Kept (Sd w1 g (num l bad 8).2.1 (num l bad 8).2.2) := ⟨hr⟩
  clear ho hr
  generalize num l bad 8 = s at *
  go_wp2
  go_ret
  exact ⟨Ho.out, rfl, Hr.out⟩
set_option maxRecDepth 100000 in
set_option maxHeartbeats 400000 in
theorem qend_any (g : Nat) (w : World) (l : List Int) (bad : Bool) (h : Sd w g l bad) :
    Calls Try.prog 21 #[.pointer (some ⟨g, 0, none⟩)] w fun e w' => e = .returned (.bool (!bad && l.isEmpty)) ∧ w = w' := by
  obtain ⟨c1, _⟩ := h.flag
  obtain ⟨sv, l0, hb, ⟨A, c, rfl, _⟩, _, _, h1, _⟩ := h
  have c0 : w.cell? ⟨g, 0, none⟩ = some (.slice A l0.length c) := hb.cell 0
  cases bad with
  | true =>
    clear hb h1
    go_enter Try.func21, Try.ntmps21
    go_wp2
    go_ret
    exact ⟨rfl, rfl⟩
  | false =>
    obtain rfl := h1 rfl
    clear hb h1
    have he : Kept (l0.isEmpty = ((l0.length : Int) == 0)) := ⟨by cases l0 <;> simp; omega⟩
    go_enter Try.func21, Try.ntmps21
    go_wp2
    go_ret
    rw [he.out]
    exact ⟨by simp, rfl⟩
end Go.Proofs.Ytojeonepplfhlaa
