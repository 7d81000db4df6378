/- Contracts of package txns: nextText, nextWitness. -/
import Derived.Test.YtojeonepplfhlaaTxJ
namespace Go.Proofs.Ytojeonepplfhlaa
open Go.RowKit

/-- What is read: a value, what is left, and whether the Reader is broken. -/
abbrev Rest (α : Type) := α × List Int × Bool
def took (l : List Int) (bad : Bool) (n : Nat) : Rest (List Int) := if n ≤ l.length then (l.take n, l.drop n, bad) else ([], [], true)
def pText (l : List Int) (bad : Bool) : Rest (List Int) := took (count l bad 500).2.1 (count l bad 500).2.2 (count l bad 500).1
/-- So many, one behind the other. -/
def pMany {α : Type} (f : List Int → Bool → Rest α) : Nat → List Int → Bool → Rest (List α)
  | 0, l, bad => ([], l, bad)
  | n + 1, l, bad => ((f l bad).1 :: (pMany f n (f l bad).2.1 (f l bad).2.2).1, (pMany f n (f l bad).2.1 (f l bad).2.2).2)
/-- After j of n: what was read, and the rest. -/
theorem pMany_step {α : Type} {f : List Int → Bool → Rest α} {n : Nat} {l0 l : List Int} {b0 b : Bool} {xs : List α} {j : Nat} (hj : j < n)
    (h : pMany f n l0 b0 = (xs ++ (pMany f (n - j) l b).1, (pMany f (n - j) l b).2)) : pMany f n l0 b0 = ((xs ++ [(f l b).1]) ++ (pMany f (n - (j + 1)) (f l b).2.1 (f l b).2.2).1, (pMany f (n - (j + 1)) (f l b).2.1 (f l b).2.2).2) := by
  obtain ⟨m, hm⟩ : ∃ m, n - j = m + 1 := ⟨n - j - 1, by omega⟩
  have hm2 : n - (j + 1) = m := by omega
  rw [hm2, h, hm]
  simp [pMany]
theorem pMany_end {α : Type} {f : List Int → Bool → Rest α} {n : Nat} {l0 l : List Int} {b0 b : Bool} {xs : List α} (h : pMany f n l0 b0 = (xs ++ (pMany f (n - n) l b).1, (pMany f (n - n) l b).2)) : pMany f n l0 b0 = (xs, l, b) := by
  rw [h, Nat.sub_self]
  simp [pMany]
theorem num_len (l : List Int) (bad : Bool) (n : Nat) : (num l bad n).2.1.length ≤ l.length := by
  unfold num
  split
  · simp only [List.length_drop]; omega
  · simp
theorem countEnd_len (n least : Nat) (l : List Int) (bad : Bool) (most : Int) : (countEnd n least l bad most).2.1.length ≤ l.length := by
  unfold countEnd
  split
  · simp
  · split <;> simp
theorem count_len (l : List Int) (bad : Bool) (most : Int) : (count l bad most).2.1.length ≤ l.length := by
  have h1 := num_len l bad 1
  unfold count
  split
  · exact Nat.le_trans (countEnd_len _ _ _ _ _) (Nat.le_trans (num_len _ _ _) h1)
  · split
    · exact Nat.le_trans (countEnd_len _ _ _ _ _) (Nat.le_trans (num_len _ _ _) h1)
    · split
      · simp
      · exact Nat.le_trans (countEnd_len _ _ _ _ _) h1
theorem countEnd_most (n least : Nat) (l : List Int) (bad : Bool) (most : Int) (hm : 0 ≤ most) : ((countEnd n least l bad most).1 : Int) ≤ most := by
  unfold countEnd
  split
  · simpa using hm
  · split
    · simpa using hm
    · simp only; omega
theorem count_most (l : List Int) (bad : Bool) (most : Int) (hm : 0 ≤ most) : ((count l bad most).1 : Int) ≤ most := by
  unfold count
  split
  · exact countEnd_most _ _ _ _ _ hm
  · split
    · exact countEnd_most _ _ _ _ _ hm
    · split
      · simpa using hm
      · exact countEnd_most _ _ _ _ _ hm
theorem Only.grown {g e B k n : Nat} {w0 w w' : World} {v : Value} {xs : List Value} (h : Only g w0 w) (ho : w.ownsRow B e k v n xs) (hB : w0.heap.size ≤ B) (hg : w.grownBy w' v.ownBlock) : Only g w0 w' := by
  refine ⟨hg.os.trans h.os, hg.tape.trans h.tape, hg.output.trans h.output, Nat.le_trans h.size hg.size, fun b hb hne => (hg.block b (Nat.lt_of_lt_of_le hb h.size) ?_).trans (h.block b hb hne)⟩
  intro e1
  rcases ho.2 with ⟨rfl, _⟩ | ⟨g', cap, cur, rfl, hB', _⟩
  · cases e1
  · simp only [Value.ownBlock, Option.some.injEq] at e1
    omega
theorem Only.alloc {g : Nat} {w0 w : World} (h : Only g w0 w) (o : Obj) : Only g w0 (w.alloc o) := h.trans (Only.of_below ((Below.refl _ _).alloc (Nat.le_refl _) _))
theorem Only.setNew {g b : Nat} {w0 w : World} (h : Only g w0 w) (hb : w0.heap.size ≤ b) (i : Nat) (u : Value) : Only g w0 (w.setCell ⟨b, i, none⟩ u) :=
  ⟨h.os, h.tape, h.output, by rw [setCell_size]; exact h.size, fun q hq hne => (Below.heap_setCell w _ u q (by simp; omega)).trans (h.block q hq hne)⟩
theorem took_len (l : List Int) (bad : Bool) (n : Nat) : (took l bad n).2.1.length ≤ l.length := by
  unfold took
  split
  · simp only [List.length_drop]; omega
  · simp
theorem took_size (l : List Int) (bad : Bool) (n : Nat) : (took l bad n).1.length = n ∨ (took l bad n).1 = [] := by
  unfold took
  split
  · left; simp only [List.length_take]; omega
  · right; rfl
theorem took_bys {l : List Int} (h : Bys l) (bad : Bool) (n : Nat) : Bys (took l bad n).1 := by
  unfold took
  split
  · exact h.take n
  · exact Bys.nil
theorem pText_len (l : List Int) (bad : Bool) : (pText l bad).2.1.length ≤ l.length := Nat.le_trans (took_len _ _ _) (count_len _ _ _)

/-- What a piece's reading leaves. -/
def Piece (g : Nat) (x : Rest (List Int)) (w : World) (e : Ending) (w' : World) : Prop := ∃ v, e = .returned v ∧ Only g w w' ∧ Own w' w.heap.size 5 v x.1 ∧ Bys x.1 ∧ Rd w' g x.2.1 x.2.2
set_option maxRecDepth 100000 in
theorem take_any (g : Nat) (w : World) (l : List Int) (bad : Bool) (n : Nat) (h : Rd w g l bad) (hl : l.length ≤ 140737488355328) :
    Calls Try.prog 42 #[.pointer (some ⟨g, 0, none⟩), .int .i64 (n : Int)] w (Piece g (took l bad n) w) := by
  have hy := took_bys h.bys bad n
  by_cases hn : n ≤ l.length
  · refine (take_yes g w l bad n h hn hl).mono fun e w' ⟨v, w1, he, ho, hb, hor⟩ => ?_
    rcases hor with ⟨_, _, hw, hr⟩ | ⟨hno, _, _⟩
    · refine ⟨v, he, ho.trans (Only.of_below hb), ?_, hy, ?_⟩
      · rw [took, if_pos hn]; exact hw.less ho.size
      · rw [took, if_pos hn]; exact hr.below hb
    · omega
  · refine (take_no g w l bad n h (by omega)).mono fun e w' ⟨v, w1, he, ho, hb, hor⟩ => ?_
    rcases hor with ⟨h0, h1, _, _⟩ | ⟨_, hw, hr⟩
    · omega
    · refine ⟨v, he, ho.trans (Only.of_below hb), ?_, hy, ?_⟩
      · rw [took, if_neg hn]; exact hw.less ho.size
      · rw [took, if_neg hn]; exact hr.below hb

set_option maxRecDepth 100000 in
theorem Rd.keeps {ts : List Nat} {w w' : World} {g : Nat} {l : List Int} {bad : Bool} (h : Rd w g l bad) (hk : Keeps ts w w') (h1 : 5 ∈ ts) (h2 : 69 ∈ ts) : Rd w' g l bad := by
  obtain ⟨sv, hb, hs, hy, hm⟩ := h
  exact ⟨sv, hk.2 _ _ _ h2 hb, hs.keep (fun b cur _ hx => (hk.2 b _ cur h1 hx).trans hx.symm) hk.1, hy, hm⟩
set_option maxRecDepth 100000 in
theorem Rd.box {w : World} {g : Nat} {l : List Int} {bad : Bool} (h : Rd w g l bad) : ∃ cs, Box w g 69 cs := by
  obtain ⟨sv, hb, _⟩ := h
  exact ⟨_, hb⟩

set_option maxRecDepth 100000 in
set_option maxHeartbeats 1000000 in
theorem nextText_any (g : Nat) (w : World) (l : List Int) (bad : Bool) (h : Rd w g l bad) (hl : l.length ≤ 140737488355328) :
    Calls Try.prog 74 #[.pointer (some ⟨g, 0, none⟩)] w (Piece g (pText l bad) w) := by
  have H := Kp.mk (rcount_any g w l bad 500 h (by omega))
  have HL := Kp.mk (count_len l bad 500)
  have HE : Kp (pText l bad = took (count l bad 500).2.1 (count l bad 500).2.2 (count l bad 500).1) := ⟨rfl⟩
  clear h
  go_enter Try.func74, Try.ntmps74
  go_wp2_with fail
  refine H.out.mono ?_
  rintro e w1 ⟨ho, rfl, hr⟩
  have HT := Kp.mk (take_any g w1 _ _ (count l bad 500).1 hr (by have := HL.out; omega))
  rw [← HE.out] at HT
  have HO := Kp.mk ho
  generalize (count l bad 500).1 = n at *
  clear ho hr
  go_wp2_with fail
  refine HT.out.mono ?_
  rintro e w2 ⟨v, rfl, ho2, hv, hy, hr2⟩
  have HV := Kp.mk hv
  have HO2 := Kp.mk ho2
  have HR2 := Kp.mk (And.intro hy hr2)
  obtain ⟨A, c, rfl⟩ := hv.slice
  clear hv ho2 hr2 hy
  go_wp2
  go_ret
  exact ⟨_, rfl, HO.out.trans HO2.out, HV.out.less HO.out.size, HR2.out.1, HR2.out.2⟩

def pWit (l : List Int) (bad : Bool) : Rest (List (List Int)) := pMany pText (count l bad 10).1 (count l bad 10).2.1 (count l bad 10).2.2
/-- What a row of pieces' reading leaves. -/
def Pieces (g : Nat) (x : Rest (List (List Int))) (w : World) (e : Ending) (w' : World) : Prop := ∃ v, e = .returned v ∧ Only g w w' ∧ OwnRows w' w.heap.size v x.1 ∧ Rd w' g x.2.1 x.2.2
set_option maxRecDepth 100000 in
theorem infoRow : (Try.prog.info? 27).map (fun i => (i.zero, i.size, i.bytes)) = some (some (.slice none 0 0), 1, 24) := by kernel_rfl
set_option maxRecDepth 100000 in
theorem info_parts3 {t : Nat} {z : Option Value} {n m : Nat} (h : (Try.prog.info? t).map (fun i => (i.zero, i.size, i.bytes)) = some (z, n, m)) : ∃ i, Try.prog.info? t = some i ∧ i.zero = z ∧ i.size = n ∧ i.bytes = m := by
  cases hi : Try.prog.info? t with
  | none => rw [hi] at h; cases h
  | some i =>
    rw [hi] at h
    simp only [Option.map_some, Option.some.injEq, Prod.mk.injEq] at h
    exact ⟨i, rfl, h.1, h.2.1, h.2.2⟩
set_option maxRecDepth 100000 in
set_option maxHeartbeats 2000000 in
theorem nextWitness_any (g : Nat) (w : World) (l : List Int) (bad : Bool) (h : Rd w g l bad) (hl : l.length ≤ 140737488355328) :
    Calls Try.prog 64 #[.pointer (some ⟨g, 0, none⟩)] w (Pieces g (pWit l bad) w) := by
  obtain ⟨i0, hi, hz0, hz1, hz2⟩ := info_parts3 infoRow
  have H := Kp.mk (rcount_any g w l bad 10 h (by omega))
  have HL := Kp.mk (count_len l bad 10)
  have HN := Kp.mk (count_most l bad 10 (by omega))
  have HE : Kp (pWit l bad = pMany pText (count l bad 10).1 (count l bad 10).2.1 (count l bad 10).2.2) := ⟨rfl⟩
  clear h
  go_enter Try.func64, Try.ntmps64
  go_wp2_with fail
  refine H.out.mono ?_
  rintro e w1 ⟨ho, rfl, hr⟩
  have HO := Kp.mk ho
  have HR := Kp.mk hr
  generalize (count l bad 10).1 = n at *
  generalize (count l bad 10).2.1 = l1 at *
  generalize (count l bad 10).2.2 = b1 at *
  have hn10 := HN.out
  clear ho hr
  go_wp2
  go_loopw [3, 6] (fun r i wr => ∃ (j : Nat) (rows : List (List Int)) (lj : List Int) (bj : Bool), j ≤ n ∧ i = .int .i64 j ∧ Kp (rows.length = j ∧ pMany pText n l1 b1 = (rows ++ (pMany pText (n - j) lj bj).1, (pMany pText (n - j) lj bj).2) ∧ OwnRows wr w.heap.size r rows ∧ Only g w wr ∧ Rd wr g lj bj ∧ lj.length ≤ l.length)) (fun _ i _ => n - (intOf i).toNat)
  case atStart => exact ⟨0, [], l1, b1, Nat.zero_le _, rfl, ⟨rfl, by simp, OwnMany.nil _ _ _ _ _, HO.out, HR.out, HL.out⟩⟩
  case round =>
    obtain ⟨j, rows, lj, bj, hj, rfl, ⟨hrl, hp, hrows, ho, hrd, hlj⟩⟩ := hrel
    by_cases hjn : j < n
    · have HT := Kp.mk (nextText_any g wr lj bj hrd (by omega))
      have HP := Kp.mk (pMany_step hjn hp)
      have HROWS := Kp.mk hrows
      have HONLY := Kp.mk ho
      have HRD := Kp.mk hrd
      have HJ : Kp (j < n ∧ rows.length = j ∧ (pText lj bj).2.1.length ≤ l.length) := ⟨hjn, hrl, Nat.le_trans (pText_len _ _) hlj⟩
      have hjn' : (j : Int) < (n : Int) := by omega
      obtain ⟨Ar, cr, rfl⟩ := hrows.slice
      clear hp hrows ho hrd hlj hjn hrl
      generalize pText lj bj = X at *
      go_wp2_with fail
      refine HT.out.mono ?_
      rintro e w2 ⟨v2, rfl, ho2, hv2, hy2, hr2⟩
      obtain ⟨cs0, hbx⟩ := HRD.out.box
      have hk2 : Keeps [5, 27] wr w2 := Keeps.of_only ho2 hbx (by decide)
      have hk3 : Keeps [5, 27] w2 (w2.alloc (.cells #[v2] 27)) := Keeps.of_below _ ((Below.refl _ _).alloc (Nat.le_refl _) _)
      have HR3 := Kp.mk (rows_turn HROWS.out (hk2.trans hk3) (by decide) (by decide) (Nat.le_refl _))
      have HV : Kp (RowO (w2.alloc (.cells #[v2] 27)) w.heap.size [v2] X.1) := ⟨v2, rfl, (hv2.keeps hk3 (by decide)).less HONLY.out.size, hy2⟩
      have HO2 := Kp.mk (HONLY.out.trans ho2)
      have HRD2 := Kp.mk hr2
      have HB3 : Kp (w.heap.size ≤ (w2.alloc (.cells #[v2] 27)).heap.size) := ⟨Nat.le_trans HO2.out.size (by simp)⟩
      have HONE : Kp (v2.oneCell' = true) := ⟨(hv2.rb hy2).one⟩
      have hv2s := hv2.slice
      obtain ⟨A2, c2, rfl⟩ := hv2s
      clear hk2 hk3 hv2 hy2 hr2 ho2
      go_wp2_with (at_builtin; refine wpList_append_many (R := fun W => RowO W w.heap.size) rfl (.tmp 8) (.tmp 11) 33 rfl w.heap.size i0 _ 24 Try.underlying33 hi hz0 hz1 hz2 rfl (by decide) _ rows rfl HR3.out w2.heap.size 1 _ X.1 rfl (Box.fresh w2 _ _) rfl HV.out ?c1 ?c2 (by decide) HB3.out [5, 69] (by decide) ?c3 ?_)
      case c1 => intro u hu; rw [List.mem_singleton.1 hu]; rfl
      case c2 => have := HJ.out; omega
      case c3 => exact fun w' cs d hk h => RowO.turn h hk (by decide) (Nat.le_refl _)
      intro v3 w3 hm3 hg3 hk3
      have hj1 : rows.length = j := HJ.out.2.1
      obtain ⟨R2, hR2⟩ : ∃ R2, rows ++ [X.1] = R2 := ⟨_, rfl⟩
      rw [hR2] at hm3
      have HM3 := Kp.mk hm3
      have HG3 : Kp (Only g w w3) := ⟨by obtain ⟨css, hrow, _⟩ := HR3.out; exact (HO2.out.alloc _).grown hrow (Nat.le_refl _) hg3⟩
      have HR4 : Kp (Rd w3 g X.2.1 X.2.2) := ⟨(HRD2.out.below ((Below.refl _ _).alloc (Nat.le_refl _) _)).keeps hk3 (by decide) (by decide)⟩
      have HRL : Kp (R2.length = j + 1) := ⟨by rw [← hR2]; simp [hj1]⟩
      have HP2 : Kp (pMany pText n l1 b1 = (R2 ++ (pMany pText (n - (j + 1)) X.2.1 X.2.2).1, (pMany pText (n - (j + 1)) X.2.1 X.2.2).2)) := ⟨by rw [← hR2]; exact HP.out⟩
      clear hm3 hg3 hk3 hR2 hj1
      go_wp2
      exact ⟨⟨j + 1, R2, _, _, by have := HJ.out; omega, by go_num, ⟨HRL.out, HP2.out, HM3.out, HG3.out, HR4.out, HJ.out.2.2⟩⟩, by simp [intOf]; have := HJ.out; omega⟩
    · obtain rfl : j = n := by omega
      have HP := Kp.mk (HE.out.trans (pMany_end hp))
      have HROWS := Kp.mk hrows
      have HONLY := Kp.mk (And.intro ho hrd)
      obtain ⟨Ar, cr, rfl⟩ := hrows.slice
      clear hp hrows ho hrd hlj hjn hrl
      go_wp2
      go_ret
      exact ⟨_, rfl, HONLY.out.1, by rw [HP.out]; exact HROWS.out, by rw [HP.out]; exact HONLY.out.2⟩
set_option maxRecDepth 100000 in
theorem infoIn : (Try.prog.info? 47).map (fun i => (i.zero.map (·.cells.size), i.size, i.bytes)) = some (some 36, 36, 96) := by kernel_rfl
end Go.Proofs.Ytojeonepplfhlaa
