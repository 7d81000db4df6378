/- The order of points: by name, then by place; it is total. No function. -/
import Derived.Test.YtdemamipllfonaaCoD
import Derived.Shelf.SlSortCmp.WholeK
namespace Go.Proofs.Ytdemamipllfonaa
open Go.RowKit Go.Sort

theorem cb_lt : ∀ (a b : List UInt8), Lib.compareBytes a b < 0 ↔ a < b
  | [], [] => by simp [Lib.compareBytes]
  | [], _ :: _ => by simp [Lib.compareBytes]
  | _ :: _, [] => by simp [Lib.compareBytes]
  | x :: a, y :: b => by
    rw [Lib.compareBytes, List.cons_lt_cons_iff]
    by_cases h1 : x < y
    · simp [h1]
    · by_cases h2 : y < x
      · rw [if_neg h1, if_pos h2]
        have hne : x ≠ y := fun e => by subst e; exact h1 h2
        simp [h1, hne]
      · rw [if_neg h1, if_neg h2, cb_lt a b]
        have he : x = y := by
          apply UInt8.toNat_inj.1
          rw [UInt8.lt_iff_toNat_lt] at h1 h2
          omega
        simp [he]
theorem bytes_inj9 : ∀ {a b : List Int}, Bys a → Bys b → Lib.bytesOf a = Lib.bytesOf b → a = b
  | [], [], _, _, _ => rfl
  | [], _ :: _, _, _, h => by simp [Lib.bytesOf] at h
  | _ :: _, [], _, _, h => by simp [Lib.bytesOf] at h
  | x :: a, y :: b, ha, hb, h => by
    unfold Lib.bytesOf at h
    simp only [List.map_cons, List.cons.injEq] at h
    have h1 := bytes_inj9 (fun z hz => ha z (List.mem_cons_of_mem _ hz)) (fun z hz => hb z (List.mem_cons_of_mem _ hz)) h.2
    have hx := ha x (by simp)
    have hy := hb y (by simp)
    have h2 := congrArg UInt8.toNat h.1
    simp at h2
    have : x = y := by omega
    rw [this, h1]

/-- One point is less. -/
def LtK (p q : PtF) : Prop := Lib.bytesOf p.1.id < Lib.bytesOf q.1.id ∨ (p.1.id = q.1.id ∧ p.1.vout < q.1.vout)
theorem LtK.irrefl (p : PtF) : ¬ LtK p p := fun h => by
  rcases h with h | ⟨_, h⟩
  · exact List.lt_irrefl _ h
  · omega
theorem LtK.trans {p q r : PtF} (h : LtK p q) (k : LtK q r) : LtK p r := by
  unfold LtK at *
  rcases h with h | ⟨e, h⟩
  · rcases k with k | ⟨f, k⟩
    · exact .inl (List.lt_trans h k)
    · rw [← f]; exact .inl h
  · rw [e]
    rcases k with k | ⟨f, k⟩
    · exact .inl k
    · exact .inr ⟨f, by omega⟩
theorem LtK.tri (p q : PtF) : LtK p q ∨ p = q ∨ LtK q p := by
  by_cases h1 : Lib.bytesOf p.1.id < Lib.bytesOf q.1.id
  · exact .inl (.inl h1)
  · by_cases h2 : Lib.bytesOf q.1.id < Lib.bytesOf p.1.id
    · exact .inr (.inr (.inl h2))
    · have e : p.1.id = q.1.id := bytes_inj9 p.2.2.1 q.2.2.1 (List.le_antisymm h2 h1)
      rcases Nat.lt_trichotomy p.1.vout q.1.vout with h | h | h
      · exact .inl (.inr ⟨e, h⟩)
      · refine .inr (.inl (Subtype.ext ?_))
        cases hp : p.1; cases hq : q.1
        rw [hp, hq] at e h
        simp only at e h
        rw [e, h]
      · exact .inr (.inr (.inr ⟨e.symm, h⟩))
def ordF (p q : PtF) : Int := ordB p.1 q.1
theorem ordF_lt (p q : PtF) : ordF p q < 0 ↔ LtK p q := by
  unfold ordF ordB LtK cmpB
  by_cases h1 : Lib.compareBytes (Lib.bytesOf p.1.id) (Lib.bytesOf q.1.id) < 0
  · rw [if_pos h1]
    simp [(cb_lt _ _).1 h1]
  · rw [if_neg h1]
    have n1 : ¬ Lib.bytesOf p.1.id < Lib.bytesOf q.1.id := fun h => h1 ((cb_lt _ _).2 h)
    by_cases h2 : Lib.compareBytes (Lib.bytesOf q.1.id) (Lib.bytesOf p.1.id) < 0
    · rw [if_pos h2]
      have n2 := (cb_lt _ _).1 h2
      have n3 : p.1.id ≠ q.1.id := fun e => by rw [e] at n2; exact List.lt_irrefl _ n2
      simp [n1, n3]
    · rw [if_neg h2]
      have n2 : ¬ Lib.bytesOf q.1.id < Lib.bytesOf p.1.id := fun h => h2 ((cb_lt _ _).2 h)
      have e : p.1.id = q.1.id := bytes_inj9 p.2.2.1 q.2.2.1 (List.le_antisymm n2 n1)
      unfold ordN
      simp only [e, true_and]
      split
      · simp; omega
      · split <;> simp <;> omega
theorem ltOf_iff (p q : PtF) : ltOf ordF p q = true ↔ LtK p q := by
  unfold ltOf
  rw [decide_eq_true_eq, ordF_lt]
theorem ltOf_false {p q : PtF} : ltOf ordF p q = false ↔ ¬ LtK p q := by rw [← ltOf_iff]; simp
theorem ord_swo : SWO (ltOf ordF) where
  irrefl p := ltOf_false.2 (LtK.irrefl p)
  trans p q r h k := (ltOf_iff _ _).2 (((ltOf_iff _ _).1 h).trans ((ltOf_iff _ _).1 k))
  ntrans p q r h k := ltOf_false.2 fun hpr => by
    rcases LtK.tri p q with h1 | h1 | h1
    · exact ltOf_false.1 h h1
    · subst h1; exact ltOf_false.1 k hpr
    · exact ltOf_false.1 k (h1.trans hpr)
theorem ord_total (p q : PtF) (h : ltOf ordF p q = false) (k : ltOf ordF q p = false) : p = q := by
  rcases LtK.tri p q with h1 | h1 | h1
  · exact absurd h1 (ltOf_false.1 h)
  · exact h1
  · exact absurd h1 (ltOf_false.1 k)
/-- The points of a list in their order. -/
def sortP (l : List PtF) : List PtF := l.mergeSort fun x y => !(ltOf ordF) y x
theorem sortP_perm (l : List PtF) : (sortP l).Perm l := List.mergeSort_perm _ _
theorem sortP_rises (l : List PtF) (hn : l.Nodup) : (sortP l).Pairwise LtK := by
  have hs : (sortP l).Pairwise (fun x y => (!(ltOf ordF) y x) = true) := by
    refine List.pairwise_mergeSort (le := fun x y => !(ltOf ordF) y x) (fun a b c h k => ?_) (fun a b => ?_) l
    · simp only [Bool.not_eq_true'] at *
      exact ord_swo.ntrans _ _ _ k h
    · cases h : ltOf ordF b a with
      | false => rfl
      | true =>
        have : ltOf ordF a b = false := ltOf_false.2 fun h2 => LtK.irrefl _ (h2.trans ((ltOf_iff _ _).1 h))
        simp [this]
  have hn2 : (sortP l).Nodup := (sortP_perm l).nodup_iff.2 hn
  refine (hs.and hn2).imp fun {x y} h => ?_
  rcases LtK.tri x y with h1 | h1 | h1
  · exact h1
  · exact absurd h1 h.2
  · have := (ltOf_iff _ _).2 h1
    rw [this] at h
    exact absurd h.1 (by simp)
theorem sortP_eq {l l' : List PtF} (h : l.Perm l') (hn : l.Nodup) : sortP l = sortP l' := by
  refine List.Perm.eq_of_pairwise (le := LtK) (fun a b _ _ h1 h2 => absurd (h1.trans h2) (LtK.irrefl _)) (sortP_rises l hn) (sortP_rises l' (h.nodup_iff.1 hn)) (((sortP_perm l).trans h).trans (sortP_perm l').symm)
end Go.Proofs.Ytdemamipllfonaa
