/- Witnesses taken away, one input behind the other. No program. -/
import Derived.Test.YtojeonepplfhlaaBkB
namespace Go.Proofs.Ytojeonepplfhlaa
open Go.RowKit

/-- The inputs when the first j have lost their witnesses. -/
def insJ (l : List InD) (j : Nat) : List InD := (l.take j).map strip ++ l.drop j
theorem insJ_len (l : List InD) (j : Nat) : (insJ l j).length = l.length := by
  unfold insJ
  simp
  omega
theorem insJ_at {l : List InD} {j : Nat} (h : j < l.length) (h' : j < (insJ l j).length) : (insJ l j)[j] = l[j] := by
  have h1 : (insJ l j)[j]? = l[j]? := by
    unfold insJ
    rw [List.getElem?_append_right (by simp; omega)]
    simp [Nat.min_eq_left (Nat.le_of_lt h)]
  rw [List.getElem?_eq_getElem h', List.getElem?_eq_getElem h] at h1
  exact Option.some.inj h1
theorem insJ_next {l : List InD} {j : Nat} (h : j < l.length) : (insJ l j).set j (strip l[j]) = insJ l (j + 1) := by
  unfold insJ
  have hm : ((l.take j).map strip).length = j := by simp; omega
  rw [List.set_append, if_neg (by omega), hm, Nat.sub_self, List.take_succ_eq_append_getElem h, List.map_append, List.drop_eq_getElem_cons h, List.set_cons_zero]
  simp only [List.map_cons, List.map_nil, List.append_assoc, List.singleton_append]
theorem insJ_end (l : List InD) : insJ l l.length = l.map strip := by
  unfold insJ
  simp
theorem any_next {l : List InD} {j : Nat} (h : j < l.length) : (l.take (j + 1)).any witB = ((l.take j).any witB || witB l[j]) := by
  rw [List.take_succ_eq_append_getElem h]
  simp only [List.any_append, List.any_cons, List.any_nil, Bool.or_false]
set_option maxRecDepth 100000 in
/-- One input loses its witnesses in memory. -/
theorem ins_strip {w : World} {B gi c j : Nat} {ds : List InD} (h : OwnMany 36 47 (InO w B) w B (.slice (some ⟨gi, 0, none⟩) ds.length c) ds) (hj : j < ds.length) {C : Array Value} (hx : Box w gi 47 C) :
    OwnMany 36 47 (InO (w.setCell ⟨gi, j * 36 + 35, none⟩ (.slice none 0 0)) B) (w.setCell ⟨gi, j * 36 + 35, none⟩ (.slice none 0 0)) B (.slice (some ⟨gi, 0, none⟩) ds.length c) (ds.set j (strip ds[j])) := by
  have hk : Keeps [5, 27] w (w.setCell ⟨gi, j * 36 + 35, none⟩ (.slice none 0 0)) := Keeps.of_set hx (by decide) _ _
  refine OwnMany.cellSet h hj (by omega) _ _ (fun cs d h => InO.turn h hk (by decide) (by decide) (Nat.le_refl _)) fun cs _ h => ?_
  obtain ⟨sv, wv, rfl, hf, h1, h2, h3⟩ := InO.turn (B' := B) h hk (by decide) (by decide) (Nat.le_refl _)
  refine ⟨sv, .slice none 0 0, ?_, ⟨hf.plen, hf.pbys, hf.vlt, hf.slt⟩, h1, h2, OwnMany.nil _ _ _ _ _⟩
  unfold inCells strip
  have hl : (byteVals ds[j].prev).length = 32 := by simp [byteVals, hf.plen]
  rw [List.set_append, if_neg (by omega), hl]
  rfl
end Go.Proofs.Ytojeonepplfhlaa
