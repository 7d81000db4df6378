/- Package coin: a row of points sorted; Points. -/
import Derived.Test.YtdemamipllfonaaCoE
import Derived.Test.YtdemamipllfonaaCoG
import Derived.Test.YtdemamipllfonaaLayS
import Derived.Shelf.SlSortCmp.WholeK
namespace Go.Proofs.Ytdemamipllfonaa
open Go.RowKit Go.Maps Go.Sort Go.Shelf

theorem flat_at : ∀ (l : List PtF) (j : Nat), j < l.length * 33 → (l.flatMap encP)[j]? = some ((encP l.toArray[j / 33]!)[j % 33]!)
  | [], j, h => by simp at h
  | x :: l, j, h => by
    rw [List.flatMap_cons]
    by_cases h1 : j < 33
    · rw [List.getElem?_append_left (by rw [encP_len]; exact h1), Nat.div_eq_of_lt h1, Nat.mod_eq_of_lt h1]
      have : j < (encP x).length := by rw [encP_len]; exact h1
      simp [List.getElem?_eq_getElem this, List.getElem!_eq_getElem?_getD]
    · rw [List.getElem?_append_right (by rw [encP_len]; omega), encP_len, flat_at l (j - 33) (by simp only [List.length_cons] at h; omega)]
      obtain ⟨q, rfl⟩ : ∃ q, j = q + 33 := ⟨j - 33, by omega⟩
      rw [Nat.add_sub_cancel, Nat.add_div_right _ (by omega), Nat.add_mod_right]
      congr 2
      simp
theorem flatP_len (l : List PtF) : (l.flatMap encP).length = l.length * 33 := by
  induction l with
  | nil => rfl
  | cons x l ih => rw [List.flatMap_cons, List.length_append, ih, encP_len, List.length_cons]; omega
theorem flatK_list (l : List PtF) : (flatK encP 33 l.toArray).toList = l.flatMap encP := by
  have hs : (flatK encP 33 l.toArray).size = l.length * 33 := by rw [size_flatK]; simp
  apply List.ext_getElem?
  intro j
  by_cases h : j < l.length * 33
  · have h2 : j < (flatK encP 33 l.toArray).size := by omega
    have h3 := get_flatK encP 33 l.toArray j (by simpa using h)
    rw [getElem!_pos (flatK encP 33 l.toArray) j h2] at h3
    rw [flat_at l j h, Array.getElem?_toList, Array.getElem?_eq_getElem h2, h3]
  · have e1 : (flatK encP 33 l.toArray).toList[j]? = none := List.getElem?_eq_none (by rw [Array.length_toList]; omega)
    have e2 : (l.flatMap encP)[j]? = none := List.getElem?_eq_none (by rw [flatP_len]; omega)
    rw [e1, e2]
/-- The row as the sort asks it. -/
theorem own_holds {w : World} {B g n cap : Nat} {l : List PtF} (h : w.ownsRow B 41 33 (.slice (some ⟨g, 0, none⟩) n cap) n (l.flatMap encP)) (hn : l.length = n) : HoldsK encP 33 w g 0 l.toArray ∧ g < w.heap.size := by
  obtain ⟨hl, ⟨h0, _⟩ | ⟨g2, cap2, cur, he, hB, hg, h1, h2, h3, h4⟩⟩ := h
  · cases h0
  · injection he with e1 e2 e3
    injection e1 with e1
    injection e1 with e1
    subst e1
    refine ⟨fun j hj => ?_, heap_lt hg⟩
    rw [size_flatK] at hj
    have hj' : j < l.length * 33 := by simpa using hj
    refine ⟨?_, by rw [Nat.zero_add]; exact Box.warm (show Box w g 41 cur from hg) j⟩
    rw [Nat.zero_add, (show Box w g 41 cur from hg).cell j]
    have e4 : cur[j]? = (l.flatMap encP)[j]? := by rw [← h4, List.getElem?_take_of_lt (by omega), Array.getElem?_toList]
    rw [e4, flat_at l j hj']
    simp [get_flatK encP 33 l.toArray j hj]

theorem sortWorld_at {w : World} {g n : Nat} {F : Array PtF} {os : Array Obj} {cur : Array Value} (hg : Box w g 41 cur) :
    Box (sortWorldK encP 33 w g 0 n F os) g 41 (putCells id 0 (flatK encP 33 F) cur) ∧ w.grownBy (sortWorldK encP 33 w g 0 n F os) (some g) := by
  have hl := hg.lt
  have hs : (putRowK encP 33 (Sort.ahead w n) g 0 F).heap.size = w.heap.size := by unfold putRowK; rw [size_putRow]; rfl
  have hk : ∀ k, k < w.heap.size → (sortWorldK encP 33 w g 0 n F os).heap[k]? = (putRowK encP 33 (Sort.ahead w n) g 0 F).heap[k]? := fun k hk => by
    show ((putRowK encP 33 (Sort.ahead w n) g 0 F).heap ++ os)[k]? = _
    rw [Array.getElem?_append_left (by rw [hs]; exact hk)]
  refine ⟨?_, rfl, rfl, rfl, ?_, fun k hk' hne => ?_⟩
  · show (sortWorldK encP 33 w g 0 n F os).heap[g]? = _
    rw [hk g hl]
    show (w.heap.modify g _)[g]? = _
    rw [Array.getElem?_modify, if_pos rfl, show w.heap[g]? = _ from hg]
    rfl
  · show _ ≤ ((putRowK encP 33 (Sort.ahead w n) g 0 F).heap ++ os).size
    rw [Array.size_append, hs]
    omega
  · rw [hk k hk']
    show (w.heap.modify g _)[k]? = _
    rw [Array.getElem?_modify, if_neg (fun e => hne (by rw [e]))]
theorem putCells_take {D cur : Array Value} (h : D.size ≤ cur.size) : (putCells id 0 D cur).toList.take D.size = D.toList := by
  apply List.ext_getElem?
  intro j
  by_cases hj : j < D.size
  · rw [List.getElem?_take_of_lt hj, Array.getElem?_toList, Array.getElem?_toList]
    unfold putCells
    rw [Array.getElem?_mapIdx, Array.getElem?_eq_getElem (show j < cur.size by omega), Array.getElem?_eq_getElem hj]
    simp [hj]
  · rw [List.getElem?_take_eq_none (by omega), List.getElem?_eq_none (by rw [Array.length_toList]; omega)]
/-- The sorted row is the call's own. -/
theorem own_sorted {w : World} {B g n cap m : Nat} {l l' : List PtF} {os : Array Obj} (h : w.ownsRow B 41 33 (.slice (some ⟨g, 0, none⟩) n cap) n (l.flatMap encP)) (hl : l'.length = n) :
    (sortWorldK encP 33 w g 0 m l'.toArray os).ownsRow B 41 33 (.slice (some ⟨g, 0, none⟩) n cap) n (l'.flatMap encP) ∧ w.grownBy (sortWorldK encP 33 w g 0 m l'.toArray os) (some g) := by
  obtain ⟨hlen, ⟨h0, _⟩ | ⟨g2, cap2, cur, he, hB, hg, h1, h2, h3, h4⟩⟩ := h
  · cases h0
  · injection he with e1 e2 e3
    injection e1 with e1
    injection e1 with e1
    subst e1
    subst e3
    obtain ⟨hb, hgr⟩ := sortWorld_at (n := m) (F := l'.toArray) (os := os) (show Box w g 41 cur from hg)
    have hsz : (flatK encP 33 l'.toArray).size = n * 33 := by rw [size_flatK]; simp [hl]
    refine ⟨⟨by rw [flatP_len, hl], .inr ⟨g, cap, _, rfl, hB, hb, h1, h2, ?_, ?_⟩⟩, hgr⟩
    · rw [← h3]; simp [putCells]
    · rw [← hsz, putCells_take (by rw [hsz, h3]; exact Nat.mul_le_mul_right _ h1), flatK_list]
theorem cmp_lays (g : Nat) (size : Nat) (w : World) : CmpLays Try.prog 19 #[] encP 33 ordF g 0 size w := fun m os dk hs x y => by
  have := order_any (sortWorldK encP 33 w g 0 m dk os) x.1 y.1 x.2 y.2
  exact this
set_option maxRecDepth 100000 in
theorem enter_order (args : Array Value) (w : World) : (callFunc 19 args).run Try.prog w = .ok (.enter 19 args) w := by kernel_rfl

set_option maxRecDepth 100000 in
theorem sort_some (w : World) (B g cap : Nat) (l : List PtF) (hp : PtsO w B (.slice (some ⟨g, 0, none⟩) l.length cap) l) (hlen : l.length ≤ 1000000) :
    Calls Try.prog 27 #[.slice (some ⟨g, 0, none⟩) l.length cap, .func (.func 19) #[] #[]] w fun e w' => e = .returned (.tuple #[]) ∧ PtsO w' B (.slice (some ⟨g, 0, none⟩) l.length cap) (sortP l) ∧ w.grownBy w' (some g) := by
  obtain ⟨hH, hlt⟩ := own_holds hp rfl
  have hcon := AnyQ.slices_SortFunc (P := Try.prog) sortLays 33 Try.isAgg41 Try.sizeOf41 encP encP_len encP_one ordF ord_swo 19 #[] g 0 cap l.toArray w enter_order (cmp_lays g _ w) hH hlt (by simp; omega)
  refine Calls.mono (show Calls Try.prog 27 #[.slice (some ⟨g, 0, none⟩) l.toArray.size cap, .func (.func 19) #[] #[]] w _ from hcon) ?_
  rintro e w' ⟨he, d', n, os, hpm, hs, rfl⟩
  have hu := sorted_unique_holds ord_swo ord_total l.toArray d' hpm hs
  have hd : d' = (sortP l).toArray := by rw [← Array.toArray_toList (xs := d'), hu]; rfl
  subst hd
  have hll : (sortP l).length = l.length := (sortP_perm l).length_eq
  have := own_sorted (m := n) (os := os) hp hll
  refine ⟨he, ?_, this.2⟩
  unfold PtsO
  rw [hll]
  exact this.1
end Go.Proofs.Ytdemamipllfonaa
