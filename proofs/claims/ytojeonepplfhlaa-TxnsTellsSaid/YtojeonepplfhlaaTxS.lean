/- What is read as a transaction has just the bytes that such a one is told in. No program. -/
import Derived.Test.YtojeonepplfhlaaBkA
namespace Go.Proofs.Ytojeonepplfhlaa
open Go.RowKit

theorem leb_le : ∀ {x : List Int}, Bys x → leb (le x) x.length = x
  | [], _ => rfl
  | a :: x, h => by
    have ha := h a (List.mem_cons_self ..)
    have hx := leb_le (x := x) fun y hy => h y (List.mem_cons_of_mem _ hy)
    have h1 := leb_cons (le x) a.toNat (by omega) x.length
    rw [List.length_cons, le, show a.toNat + 256 * le x = 256 * le x + a.toNat by omega, h1, hx, show ((a.toNat : Nat) : Int) = a by omega]
/-- The bytes l are those of x, told by enc, and the rest. -/
def Was {α : Type} (enc : α → List Int) (l : List Int) (bad : Bool) (r : Rest α) : Prop := r.2.2 = false → bad = false ∧ l = enc r.1 ++ r.2.1
theorem num_was (l : List Int) (hy : Bys l) (bad : Bool) (n : Nat) : Was (fun v => leb v n) l bad (num l bad n) := by
  intro h
  unfold num at h ⊢
  split at h
  · rename_i hn
    rw [if_pos hn]
    refine ⟨h, ?_⟩
    have h1 := leb_le (hy.take n)
    rw [List.length_take, Nat.min_eq_left hn] at h1
    simp only
    rw [h1, List.take_append_drop]
  · cases h
theorem num_bad (k : List Int) (n : Nat) : (num k true n).2.2 = true := by
  unfold num
  split <;> rfl
theorem num_ok {k : List Int} {b : Bool} {n : Nat} (h : (num k b n).2.2 = false) : b = false := by
  cases b with
  | false => rfl
  | true => rw [num_bad] at h; cases h
theorem Was.rest {α : Type} {enc : α → List Int} {l : List Int} {bad : Bool} {r : Rest α} (h : Was enc l bad r) (hy : Bys l) (hb : r.2.2 = false) : Bys r.2.1 := by
  have h1 := (h hb).2
  intro x hx
  exact hy x (by rw [h1]; exact List.mem_append_right _ hx)
theorem countEnd_was {n least : Nat} {r : List Int} {bad : Bool} {most : Int} (h : (countEnd n least r bad most).2.2 = false) : bad = false ∧ countEnd n least r bad most = (n, r, false) ∧ least ≤ n ∧ (n : Int) ≤ most := by
  unfold countEnd at h ⊢
  split at h
  · cases h
  · rename_i hc
    rw [if_neg hc]
    split at h
    · rename_i hb
      rw [hb] at h
      cases h
    · rename_i hb
      have hb' : bad = false := by simpa using hb
      subst hb'
      exact ⟨rfl, rfl, by omega, by omega⟩
theorem count_was (l : List Int) (hy : Bys l) (bad : Bool) (most : Int) : Was cnt l bad (count l bad most) ∧ ((count l bad most).2.2 = false → ((count l bad most).1 : Int) ≤ most) := by
  have key : (count l bad most).2.2 = false → (bad = false ∧ l = cnt (count l bad most).1 ++ (count l bad most).2.1) ∧ ((count l bad most).1 : Int) ≤ most := by
    intro h
    have n1 := num_was l hy bad 1
    unfold count at h ⊢
    split at h
    · rename_i hc
      rw [if_pos hc]
      obtain ⟨hb, he, h1, h2⟩ := countEnd_was h
      have hb1 : (num l bad 1).2.2 = false := num_ok hb
      have hy1 := n1.rest hy hb1
      have n2 := num_was _ hy1 (num l bad 1).2.2 2 hb
      obtain ⟨h3, h4'⟩ := n1 hb1
      have h4 : l = leb (num l bad 1).1 1 ++ (num l bad 1).2.1 := h4'
      rw [he]
      refine ⟨⟨h3, ?_⟩, h2⟩
      have hlt := num_lt _ hy1 (num l bad 1).2.2 2
      have hcn : cnt (num (num l bad 1).2.1 (num l bad 1).2.2 2).1 = 253 :: leb (num (num l bad 1).2.1 (num l bad 1).2.2 2).1 2 := by
        unfold cnt
        rw [if_neg (by omega), if_pos (by omega)]
      rw [hcn]
      have h5 : leb (num l bad 1).1 1 = [253] := by rw [hc]; rfl
      have h6 : l = [253] ++ (num l bad 1).2.1 := by
        have := h4
        rw [h5] at this
        exact this
      exact h6.trans (congrArg (fun z => (253 : Int) :: z) n2.2)
    · rename_i hc
      rw [if_neg hc]
      split at h
      · rename_i hd
        rw [if_pos hd]
        obtain ⟨hb, he, h1, h2⟩ := countEnd_was h
        have hb1 : (num l bad 1).2.2 = false := num_ok hb
        have hy1 := n1.rest hy hb1
        have n2 := num_was _ hy1 (num l bad 1).2.2 4 hb
        obtain ⟨h3, h4'⟩ := n1 hb1
        have h4 : l = leb (num l bad 1).1 1 ++ (num l bad 1).2.1 := h4'
        rw [he]
        refine ⟨⟨h3, ?_⟩, h2⟩
        have hcn : cnt (num (num l bad 1).2.1 (num l bad 1).2.2 4).1 = 254 :: leb (num (num l bad 1).2.1 (num l bad 1).2.2 4).1 4 := by
          unfold cnt
          rw [if_neg (by omega), if_neg (by omega)]
        rw [hcn]
        have h5 : leb (num l bad 1).1 1 = [254] := by rw [hd]; rfl
        have h6 : l = [254] ++ (num l bad 1).2.1 := by
          have := h4
          rw [h5] at this
          exact this
        exact h6.trans (congrArg (fun z => (254 : Int) :: z) n2.2)
      · rename_i hd
        rw [if_neg hd]
        split at h
        · cases h
        · rename_i hf
          rw [if_neg hf]
          obtain ⟨hb, he, h1, h2⟩ := countEnd_was h
          obtain ⟨h3, h4'⟩ := n1 hb
          have h4 : l = leb (num l bad 1).1 1 ++ (num l bad 1).2.1 := h4'
          rw [he]
          have hlt := num_lt l hy bad 1
          have hcn : cnt (num l bad 1).1 = leb (num l bad 1).1 1 := by
            unfold cnt
            rw [if_pos (by omega)]
          refine ⟨⟨h3, ?_⟩, h2⟩
          rw [hcn]
          exact h4
  exact ⟨fun h => (key h).1, fun h => (key h).2⟩
theorem took_was (l : List Int) (bad : Bool) (n : Nat) : Was id l bad (took l bad n) ∧ ((took l bad n).2.2 = false → (took l bad n).1.length = n) := by
  unfold took
  split
  · rename_i hn
    exact ⟨fun h => ⟨h, (List.take_append_drop n l).symm⟩, fun _ => by rw [List.length_take]; omega⟩
  · exact ⟨(fun h => by cases h), fun h => by cases h⟩
theorem pText_was (l : List Int) (hy : Bys l) (bad : Bool) : Was encText l bad (pText l bad) ∧ ((pText l bad).2.2 = false → (pText l bad).1.length ≤ 500 ∧ Bys (pText l bad).1) := by
  have key : (pText l bad).2.2 = false → (bad = false ∧ l = encText (pText l bad).1 ++ (pText l bad).2.1) ∧ (pText l bad).1.length ≤ 500 ∧ Bys (pText l bad).1 := by
    intro h
    obtain ⟨c1, c2⟩ := count_was l hy bad 500
    obtain ⟨t1, t2⟩ := took_was (count l bad 500).2.1 (count l bad 500).2.2 (count l bad 500).1
    obtain ⟨h1, h2⟩ := t1 h
    obtain ⟨h3, h4⟩ := c1 h1
    have h5 := c2 h1
    have h6 := t2 h
    have hy1 := c1.rest hy h1
    unfold pText
    refine ⟨⟨h3, ?_⟩, by omega, fun x hx => hy1 x (by rw [h2]; exact List.mem_append_left _ hx)⟩
    unfold encText
    rw [h6, List.append_assoc]
    exact h4.trans (by rw [show (took (count l bad 500).2.1 (count l bad 500).2.2 (count l bad 500).1).1 ++ (took (count l bad 500).2.1 (count l bad 500).2.2 (count l bad 500).1).2.1 = (count l bad 500).2.1 from h2.symm])
  exact ⟨fun h => (key h).1, fun h => (key h).2⟩
theorem pMany_ok {α : Type} {f : List Int → Bool → Rest α} (hb : ∀ l b, (f l b).2.2 = false → b = false) : ∀ (n : Nat) (l : List Int) (b : Bool), (pMany f n l b).2.2 = false → b = false
  | 0, _, _, h => h
  | n + 1, l, b, h => hb l b (pMany_ok hb n _ _ h)
theorem pMany_was {α : Type} {f : List Int → Bool → Rest α} {enc : α → List Int} {Q : α → Prop} (hb : ∀ l b, (f l b).2.2 = false → b = false) (hf : ∀ l bad, Bys l → Was enc l bad (f l bad) ∧ ((f l bad).2.2 = false → Q (f l bad).1)) :
    ∀ (n : Nat) (l : List Int) (bad : Bool), Bys l → Was (flat enc) l bad (pMany f n l bad) ∧ ((pMany f n l bad).2.2 = false → (pMany f n l bad).1.length = n ∧ ∀ x ∈ (pMany f n l bad).1, Q x)
  | 0, l, bad, _ => ⟨fun h => ⟨h, by simp [pMany, flat]⟩, fun _ => ⟨rfl, fun x hx => by cases hx⟩⟩
  | n + 1, l, bad, hy => by
    obtain ⟨f1, f2⟩ := hf l bad hy
    have key : (pMany f (n + 1) l bad).2.2 = false → (bad = false ∧ l = flat enc (pMany f (n + 1) l bad).1 ++ (pMany f (n + 1) l bad).2.1) ∧ (pMany f (n + 1) l bad).1.length = n + 1 ∧ ∀ x ∈ (pMany f (n + 1) l bad).1, Q x := by
      intro h
      have h : (pMany f n (f l bad).2.1 (f l bad).2.2).2.2 = false := h
      have hb1 : (f l bad).2.2 = false := pMany_ok hb n _ _ h
      obtain ⟨h1, h2⟩ := f1 hb1
      obtain ⟨g1, g2⟩ := pMany_was hb hf n (f l bad).2.1 (f l bad).2.2 (f1.rest hy hb1)
      obtain ⟨h3, h4⟩ := g1 h
      obtain ⟨h5, h6⟩ := g2 h
      simp only [pMany]
      refine ⟨⟨h1, ?_⟩, by simp [h5], fun x hx => ?_⟩
      · have h7 : flat enc ((f l bad).1 :: (pMany f n (f l bad).2.1 (f l bad).2.2).1) = enc (f l bad).1 ++ flat enc (pMany f n (f l bad).2.1 (f l bad).2.2).1 := rfl
        rw [h7, List.append_assoc, ← h4]
        exact h2
      · rcases List.mem_cons.1 hx with rfl | hx
        · exact f2 hb1
        · exact h6 x hx
    exact ⟨fun h => (key h).1, fun h => (key h).2⟩
theorem countEnd_ok2 {n least : Nat} {r : List Int} {bad : Bool} {most : Int} (h : (countEnd n least r bad most).2.2 = false) : bad = false := (countEnd_was h).1
theorem count_ok {l : List Int} {b : Bool} {most : Int} (h : (count l b most).2.2 = false) : b = false := by
  unfold count at h
  split at h
  · exact num_ok (num_ok (countEnd_ok2 h))
  · split at h
    · exact num_ok (num_ok (countEnd_ok2 h))
    · split at h
      · cases h
      · exact num_ok (countEnd_ok2 h)
theorem took_ok {l : List Int} {b : Bool} {n : Nat} (h : (took l b n).2.2 = false) : b = false := by
  unfold took at h
  split at h
  · exact h
  · cases h
theorem pText_ok (l : List Int) (b : Bool) (h : (pText l b).2.2 = false) : b = false := count_ok (took_ok h)
theorem pWit_ok (l : List Int) (b : Bool) (h : (pWit l b).2.2 = false) : b = false := count_ok (pMany_ok pText_ok _ _ _ h)
theorem pOut_ok (l : List Int) (b : Bool) (h : (pOut l b).2.2 = false) : b = false := num_ok (pText_ok _ _ h)
theorem pIn_ok (l : List Int) (b : Bool) (h : (pIn l b).2.2 = false) : b = false := took_ok (num_ok (pText_ok _ _ (num_ok h)))
theorem pWit_was (l : List Int) (hy : Bys l) (bad : Bool) : Was encWit l bad (pWit l bad) ∧ ((pWit l bad).2.2 = false → (pWit l bad).1.length ≤ 10 ∧ ∀ x ∈ (pWit l bad).1, x.length ≤ 500 ∧ Bys x) := by
  have key : (pWit l bad).2.2 = false → (bad = false ∧ l = encWit (pWit l bad).1 ++ (pWit l bad).2.1) ∧ (pWit l bad).1.length ≤ 10 ∧ ∀ x ∈ (pWit l bad).1, x.length ≤ 500 ∧ Bys x := by
    intro h
    obtain ⟨c1, c2⟩ := count_was l hy bad 10
    have hb : (count l bad 10).2.2 = false := pMany_ok pText_ok _ _ _ h
    obtain ⟨h1, h2⟩ := c1 hb
    obtain ⟨m1, m2⟩ := pMany_was (Q := fun x => x.length ≤ 500 ∧ Bys x) pText_ok (fun l b hy => pText_was l hy b) (count l bad 10).1 (count l bad 10).2.1 (count l bad 10).2.2 (c1.rest hy hb)
    obtain ⟨_, h3⟩ := m1 h
    obtain ⟨h4, h5⟩ := m2 h
    have h6 := c2 hb
    unfold pWit
    refine ⟨⟨h1, ?_⟩, by omega, h5⟩
    unfold encWit
    rw [encRows_flat, h4, List.append_assoc, ← h3]
    exact h2
  exact ⟨fun h => (key h).1, fun h => (key h).2⟩
theorem pOut_was (l : List Int) (hy : Bys l) (bad : Bool) : Was encOut l bad (pOut l bad) ∧ ((pOut l bad).2.2 = false → (pOut l bad).1.value < 18446744073709551616 ∧ (pOut l bad).1.script.length ≤ 500 ∧ Bys (pOut l bad).1.script) := by
  have h8 : (256 : Nat) ^ 8 = 18446744073709551616 := by decide
  have key : (pOut l bad).2.2 = false → (bad = false ∧ l = encOut (pOut l bad).1 ++ (pOut l bad).2.1) ∧ (pOut l bad).1.value < 18446744073709551616 ∧ (pOut l bad).1.script.length ≤ 500 ∧ Bys (pOut l bad).1.script := by
    intro h
    have n1 := num_was l hy bad 8
    have hb : (num l bad 8).2.2 = false := pText_ok _ _ h
    obtain ⟨h1, h2⟩ := n1 hb
    obtain ⟨t1, t2⟩ := pText_was (num l bad 8).2.1 (n1.rest hy hb) (num l bad 8).2.2
    obtain ⟨_, h3⟩ := t1 h
    have h4 := t2 h
    have h5 := num_lt l hy bad 8
    rw [h8] at h5
    unfold pOut
    refine ⟨⟨h1, ?_⟩, h5, h4⟩
    show l = (leb (num l bad 8).1 8 ++ encText _) ++ _
    rw [List.append_assoc, ← h3]
    exact h2
  exact ⟨fun h => (key h).1, fun h => (key h).2⟩
theorem pIn_was (l : List Int) (hy : Bys l) (bad : Bool) : Was encIn l bad (pIn l bad) ∧ ((pIn l bad).2.2 = false → (pIn l bad).1.Fit ∧ (pIn l bad).1.script.length ≤ 500 ∧ Bys (pIn l bad).1.script ∧ (pIn l bad).1.wit = []) := by
  have h4 : (256 : Nat) ^ 4 = 4294967296 := by decide
  have key : (pIn l bad).2.2 = false → (bad = false ∧ l = encIn (pIn l bad).1 ++ (pIn l bad).2.1) ∧ (pIn l bad).1.Fit ∧ (pIn l bad).1.script.length ≤ 500 ∧ Bys (pIn l bad).1.script ∧ (pIn l bad).1.wit = [] := by
    intro h
    unfold pIn at h ⊢
    simp only at h ⊢
    obtain ⟨a1, a2⟩ := took_was l bad 32
    generalize took l bad 32 = a at *
    have hv := num_ok (pText_ok _ _ (num_ok h))
    obtain ⟨b1, e1⟩ := a1 hv
    have y1 := a1.rest hy hv
    have l1 := a2 hv
    have q1 := num_was a.2.1 y1 a.2.2 4
    have q1l := num_lt a.2.1 y1 a.2.2 4
    generalize num a.2.1 a.2.2 4 = b at *
    have hs := pText_ok _ _ (num_ok h)
    obtain ⟨_, e2⟩ := q1 hs
    have y2 := q1.rest y1 hs
    obtain ⟨s1, s2⟩ := pText_was b.2.1 y2 b.2.2
    generalize pText b.2.1 b.2.2 = c at *
    have hq := num_ok h
    obtain ⟨_, e3⟩ := s1 hq
    obtain ⟨s3, s4⟩ := s2 hq
    have y3 := s1.rest y2 hq
    have q2 := num_was c.2.1 y3 c.2.2 4
    have q2l := num_lt c.2.1 y3 c.2.2 4
    generalize num c.2.1 c.2.2 4 = d at *
    obtain ⟨_, e4⟩ := q2 h
    rw [h4] at q1l q2l
    have hp : prevOf a.1 = a.1 := if_pos l1
    have ya : Bys a.1 := fun x hx => hy x (by rw [e1]; exact List.mem_append_left _ hx)
    refine ⟨⟨b1, ?_⟩, ⟨by rw [hp]; exact l1, by rw [hp]; exact ya, q1l, q2l⟩, s3, s4, trivial⟩
    show l = (prevOf a.1 ++ (leb b.1 4 ++ (encText c.1 ++ leb d.1 4))) ++ d.2.1
    simp only [List.append_assoc]
    rw [hp, ← e4, ← e3]
    exact e1.trans (congrArg (a.1 ++ ·) e2)
  exact ⟨fun h => (key h).1, fun h => (key h).2⟩
theorem flat_setWits : ∀ (ds : List InD) (xs : List (List (List Int))), flat encIn (setWits ds xs) = flat encIn ds
  | [], _ => by simp [setWits]
  | _ :: _, [] => by simp [setWits]
  | d :: ds, x :: xs => by
    have h := flat_setWits ds xs
    simp only [setWits]
    show encIn _ ++ flat encIn (setWits ds xs) = encIn d ++ flat encIn ds
    rw [h]
    rfl
theorem flatW_setWits : ∀ (ds : List InD) (xs : List (List (List Int))), xs.length = ds.length → flat encWits (setWits ds xs) = flat encWit xs
  | [], [], _ => rfl
  | [], x :: xs, h => by simp at h
  | _ :: _, [], h => by simp at h
  | d :: ds, x :: xs, h => by
    have h := flatW_setWits ds xs (by simpa using h)
    simp only [setWits]
    show encWit x ++ flat encWits (setWits ds xs) = encWit x ++ flat encWit xs
    rw [h]
theorem setWits_all {P : InD → Prop} {Q : List (List Int) → Prop} (hPQ : ∀ d x, P d → Q x → P { d with wit := x }) : ∀ (ds : List InD) (xs : List (List (List Int))), (∀ d ∈ ds, P d) → (∀ x ∈ xs, Q x) → ∀ d ∈ setWits ds xs, P d
  | [], _, _, _ => by intro d hd; simp [setWits] at hd
  | d :: ds, [], h, _ => by simpa [setWits] using h
  | d :: ds, x :: xs, h, h2 => by
    intro y hy
    simp only [setWits] at hy
    rcases List.mem_cons.1 hy with rfl | hy
    · exact hPQ _ _ (h d (List.mem_cons_self ..)) (h2 x (List.mem_cons_self ..))
    · exact setWits_all hPQ ds xs (fun z hz => h z (List.mem_cons_of_mem _ hz)) (fun z hz => h2 z (List.mem_cons_of_mem _ hz)) y hy
/-- What is read of an input, an output. -/
def InG (d : InD) : Prop := d.Fit ∧ d.script.length ≤ 500 ∧ Bys d.script ∧ ∀ x ∈ d.wit, x.length ≤ 500 ∧ Bys x
def OutG (d : OutD) : Prop := d.value < 18446744073709551616 ∧ d.script.length ≤ 500 ∧ Bys d.script
theorem pBody_was (ver : Nat) (whole : Bool) (c : Rest Nat) (hy : Bys c.2.1) (h : (pBody ver whole c).1.2 = true) :
    c.2.2 = false ∧ (pBody ver whole c).2.2 = false ∧ (pBody ver whole c).1.1.ins.length = c.1 ∧ (pBody ver whole c).1.1.version = ver ∧ mayB (pBody ver whole c).1.1 = true ∧ witT (pBody ver whole c).1.1 = whole
    ∧ (pBody ver whole c).1.1.lock < 4294967296 ∧ (∀ d ∈ (pBody ver whole c).1.1.ins, InG d) ∧ (∀ d ∈ (pBody ver whole c).1.1.outs, OutG d)
    ∧ c.2.1 = flat encIn (pBody ver whole c).1.1.ins ++ (cnt (pBody ver whole c).1.1.outs.length ++ (flat encOut (pBody ver whole c).1.1.outs ++ ((if whole then flat encWits (pBody ver whole c).1.1.ins else []) ++ (leb (pBody ver whole c).1.1.lock 4 ++ (pBody ver whole c).2.1)))) := by
  have h4 : (256 : Nat) ^ 4 = 4294967296 := by decide
  unfold pBody at h ⊢
  simp only at h ⊢
  obtain ⟨i1, i2⟩ := pMany_was (Q := fun d => d.Fit ∧ d.script.length ≤ 500 ∧ Bys d.script ∧ d.wit = []) pIn_ok (fun l b hy => pIn_was l hy b) c.1 c.2.1 c.2.2 hy
  generalize pMany pIn c.1 c.2.1 c.2.2 = is at *
  have okB : ∀ (l : List Int) (b : Bool), (num l b 4).2.2 = false → b = false := fun l b h => num_ok h
  cases whole with
  | true =>
    simp only [if_true] at h ⊢
    rw [Bool.and_eq_true, Bool.and_eq_true, Bool.not_eq_true'] at h
    obtain ⟨hn, hm, hw⟩ := h
    have hws := okB _ _ hn
    have hos := pMany_ok pWit_ok _ _ _ hws
    have hoc := pMany_ok pOut_ok _ _ _ hos
    have his := count_ok hoc
    obtain ⟨b0, e0⟩ := i1 his
    obtain ⟨n0, q0⟩ := i2 his
    have y0 := i1.rest hy his
    obtain ⟨c1, c2⟩ := count_was is.2.1 y0 is.2.2 50
    generalize count is.2.1 is.2.2 50 = oc at *
    obtain ⟨_, e1⟩ := c1 hoc
    have y1 := c1.rest y0 hoc
    obtain ⟨o1, o2⟩ := pMany_was (Q := OutG) pOut_ok (fun l b hy => pOut_was l hy b) oc.1 oc.2.1 oc.2.2 y1
    generalize pMany pOut oc.1 oc.2.1 oc.2.2 = os at *
    obtain ⟨_, e2⟩ := o1 hos
    obtain ⟨n2, q2⟩ := o2 hos
    have y2 := o1.rest y1 hos
    obtain ⟨w1, w2⟩ := pMany_was (Q := fun ll => ll.length ≤ 10 ∧ ∀ x ∈ ll, x.length ≤ 500 ∧ Bys x) pWit_ok (fun l b hy => pWit_was l hy b) is.1.length os.2.1 os.2.2 y2
    generalize pMany pWit is.1.length os.2.1 os.2.2 = ws at *
    obtain ⟨_, e3⟩ := w1 hws
    obtain ⟨n3, q3⟩ := w2 hws
    have y3 := w1.rest y2 hws
    have k1 := num_was ws.2.1 y3 ws.2.2 4
    have k2 := num_lt ws.2.1 y3 ws.2.2 4
    generalize num ws.2.1 ws.2.2 4 = k at *
    obtain ⟨_, e4⟩ := k1 hn
    rw [h4] at k2
    refine ⟨b0, hn, by rw [setWits_len]; exact n0, trivial, hm, by simpa using hw, k2, ?_, q2, ?_⟩
    · exact setWits_all (P := InG) (Q := fun ll => ll.length ≤ 10 ∧ ∀ x ∈ ll, x.length ≤ 500 ∧ Bys x) (fun d x hd hx => ⟨⟨hd.1.plen, hd.1.pbys, hd.1.vlt, hd.1.slt⟩, hd.2.1, hd.2.2.1, hx.2⟩) _ _
        (fun d hd => by
          obtain ⟨g1, g2, g3, g4⟩ := q0 d hd
          exact ⟨g1, g2, g3, by rw [g4]; intro x hx; cases hx⟩) q3
    · rw [flat_setWits, flatW_setWits _ _ n3, n2, ← e4, ← e3, ← e2, ← e1]
      exact e0
  | false =>
    simp only [Bool.false_eq_true, if_false, List.nil_append] at h ⊢
    rw [Bool.and_eq_true, Bool.and_eq_true, Bool.not_eq_true'] at h
    obtain ⟨hn, hm, hw⟩ := h
    have hos := okB _ _ hn
    have hoc := pMany_ok pOut_ok _ _ _ hos
    have his := count_ok hoc
    obtain ⟨b0, e0⟩ := i1 his
    obtain ⟨n0, q0⟩ := i2 his
    have y0 := i1.rest hy his
    obtain ⟨c1, c2⟩ := count_was is.2.1 y0 is.2.2 50
    generalize count is.2.1 is.2.2 50 = oc at *
    obtain ⟨_, e1⟩ := c1 hoc
    have y1 := c1.rest y0 hoc
    obtain ⟨o1, o2⟩ := pMany_was (Q := OutG) pOut_ok (fun l b hy => pOut_was l hy b) oc.1 oc.2.1 oc.2.2 y1
    generalize pMany pOut oc.1 oc.2.1 oc.2.2 = os at *
    obtain ⟨_, e2⟩ := o1 hos
    obtain ⟨n2, q2⟩ := o2 hos
    have y2 := o1.rest y1 hos
    have k1 := num_was os.2.1 y2 os.2.2 4
    have k2 := num_lt os.2.1 y2 os.2.2 4
    generalize num os.2.1 os.2.2 4 = k at *
    obtain ⟨_, e4⟩ := k1 hn
    rw [h4] at k2
    refine ⟨b0, hn, n0, trivial, hm, by simpa using hw, k2, ?_, q2, ?_⟩
    · intro d hd
      obtain ⟨g1, g2, g3, g4⟩ := q0 d hd
      exact ⟨g1, g2, g3, by rw [g4]; intro x hx; cases hx⟩
    · rw [n2, ← e4, ← e2, ← e1]
      exact e0
/-- What was read as a transaction is such a one, and its bytes stood there. -/
structure GoodT (t : TxD) : Prop where
  may : MayF t
  fit : TxFit t
  ins : ∀ d ∈ t.ins, InG d
  outs : ∀ d ∈ t.outs, OutG d
theorem pTx_was (l : List Int) (hy : Bys l) (bad : Bool) (h : (pTx l bad).1.2 = true) :
    bad = false ∧ (pTx l bad).2.2 = false ∧ GoodT (pTx l bad).1.1 ∧ l = encTx (pTx l bad).1.1 (witT (pTx l bad).1.1) ++ (pTx l bad).2.1 := by
  have h4 : (256 : Nat) ^ 4 = 4294967296 := by decide
  unfold pTx at h ⊢
  simp only at h ⊢
  have v1 := num_was l hy bad 4
  have v2 := num_lt l hy bad 4
  rw [h4] at v2
  generalize num l bad 4 = v at *
  have key : ∀ (wh : Bool) (c : Rest Nat), Bys c.2.1 → (pBody v.1 wh c).1.2 = true → GoodT (pBody v.1 wh c).1.1 := by
    intro wh c hc hb
    obtain ⟨_, _, _, e1, hm, _, hl, hi, ho, _⟩ := pBody_was v.1 wh c hc hb
    exact ⟨(mayB_iff _).1 hm, ⟨by rw [e1]; exact v2, hl, fun d hd => (hi d hd).1, fun d hd => (ho d hd).1⟩, hi, ho⟩
  by_cases hz : (count v.2.1 v.2.2 50).1 = 0
  · rw [if_pos hz] at h ⊢
    by_cases ho : (count (count v.2.1 v.2.2 50).2.1 (count v.2.1 v.2.2 50).2.2 1).1 = 1
    · rw [if_pos ho] at h ⊢
      have okc : (count (count (count v.2.1 v.2.2 50).2.1 (count v.2.1 v.2.2 50).2.2 1).2.1 (count (count v.2.1 v.2.2 50).2.1 (count v.2.1 v.2.2 50).2.2 1).2.2 50).2.2 = false := by
        have hh := h
        unfold pBody at hh
        simp only [if_true] at hh
        rw [Bool.and_eq_true, Bool.and_eq_true, Bool.not_eq_true'] at hh
        exact pMany_ok pIn_ok _ _ _ (count_ok (pMany_ok pOut_ok _ _ _ (pMany_ok pWit_ok _ _ _ (num_ok hh.1))))
      have okm := count_ok okc
      have okz := count_ok okm
      have okv := count_ok okz
      obtain ⟨b0, e0⟩ := v1 okv
      have y0 := v1.rest hy okv
      obtain ⟨c1, _⟩ := count_was v.2.1 y0 v.2.2 50
      generalize count v.2.1 v.2.2 50 = c at *
      obtain ⟨_, e1⟩ := c1 okz
      have y1 := c1.rest y0 okz
      obtain ⟨m1, _⟩ := count_was c.2.1 y1 c.2.2 1
      generalize count c.2.1 c.2.2 1 = m at *
      obtain ⟨_, e2⟩ := m1 okm
      have y2 := m1.rest y1 okm
      obtain ⟨k1, _⟩ := count_was m.2.1 y2 m.2.2 50
      generalize count m.2.1 m.2.2 50 = k at *
      obtain ⟨_, e3⟩ := k1 okc
      have y3 := k1.rest y2 okc
      have hg := key true k y3 h
      obtain ⟨_, r1, r2, r3, r4, r5, r6, r7, r8, r9⟩ := pBody_was v.1 true k y3 h
      generalize pBody v.1 true k = X at *
      refine ⟨b0, r1, hg, ?_⟩
      rw [r5]
      unfold encTx
      rw [hz] at e1
      rw [ho] at e2
      rw [r3, r2]
      have e4 : l = leb v.1 4 ++ v.2.1 := e0
      rw [e4, e1, e2, e3, r9]
      simp [show cnt 0 = [0] by decide, show cnt 1 = [1] by decide]
    · rw [if_neg ho] at h
      cases h
  · rw [if_neg hz] at h ⊢
    have okc : (count v.2.1 v.2.2 50).2.2 = false := by
      have hh := h
      unfold pBody at hh
      simp only [Bool.false_eq_true, if_false] at hh
      rw [Bool.and_eq_true, Bool.and_eq_true, Bool.not_eq_true'] at hh
      exact pMany_ok pIn_ok _ _ _ (count_ok (pMany_ok pOut_ok _ _ _ (num_ok hh.1)))
    have okv := count_ok okc
    obtain ⟨b0, e0⟩ := v1 okv
    have y0 := v1.rest hy okv
    obtain ⟨c1, _⟩ := count_was v.2.1 y0 v.2.2 50
    generalize count v.2.1 v.2.2 50 = c at *
    obtain ⟨_, e1⟩ := c1 okc
    have y1 := c1.rest y0 okc
    have hg := key false c y1 h
    obtain ⟨_, r1, r2, r3, r4, r5, r6, r7, r8, r9⟩ := pBody_was v.1 false c y1 h
    generalize pBody v.1 false c = X at *
    refine ⟨b0, r1, hg, ?_⟩
    rw [r5]
    unfold encTx
    rw [r3, r2]
    have e4 : l = leb v.1 4 ++ v.2.1 := e0
    rw [e4, e1, r9]
    simp
/-- Just those bytes are read as a transaction in which one stands told. -/
theorem pTx_iff (l : List Int) (hy : Bys l) (t : TxD) (r : List Int) : pTx l false = ((t, true), r, false) ↔ GoodT t ∧ l = bytesOf t ++ r := by
  constructor
  · intro h
    have h1 := pTx_was l hy false (by rw [h])
    rw [h] at h1
    obtain ⟨_, _, hg, e⟩ := h1
    refine ⟨hg, ?_⟩
    unfold bytesOf
    rw [if_pos ((mayB_iff t).2 hg.may)]
    exact e
  · rintro ⟨hg, rfl⟩
    unfold bytesOf
    rw [if_pos ((mayB_iff t).2 hg.may)]
    exact pTx_back t r hg.may hg.fit
end Go.Proofs.Ytojeonepplfhlaa
