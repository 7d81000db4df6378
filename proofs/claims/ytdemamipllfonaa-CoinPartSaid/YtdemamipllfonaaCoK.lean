/- Package coin: made: the points of a transaction's outputs, in their order. -/
import Derived.Test.YtdemamipllfonaaCoF
import Derived.Test.YtdemamipllfonaaStE
import Derived.Deep.DeepCutAuto
namespace Go.Proofs.Ytdemamipllfonaa
open Go.RowKit Go.Maps Go.Sort

set_option maxRecDepth 100000 in
theorem built9_32 (a0 a1 a2 a3 a4 a5 a6 a7 a8 a9 a10 a11 a12 a13 a14 a15 a16 a17 a18 a19 a20 a21 a22 a23 a24 a25 a26 a27 a28 a29 a30 a31 : Int) (u : Nat) : Try.prog.built 41 [(0, .agg (byteVals [a0, a1, a2, a3, a4, a5, a6, a7, a8, a9, a10, a11, a12, a13, a14, a15, a16, a17, a18, a19, a20, a21, a22, a23, a24, a25, a26, a27, a28, a29, a30, a31]).toArray), (1, .int .u32 u)] = some (ptC [a0, a1, a2, a3, a4, a5, a6, a7, a8, a9, a10, a11, a12, a13, a14, a15, a16, a17, a18, a19, a20, a21, a22, a23, a24, a25, a26, a27, a28, a29, a30, a31] u).toArray := by kernel_rfl
theorem built9 (p : List Int) (u : Nat) (hl : p.length = 32) : Try.prog.built 41 [(0, .agg (byteVals p).toArray), (1, .int .u32 u)] = some (ptC p u).toArray := by
  match p, hl with
  | [a0, a1, a2, a3, a4, a5, a6, a7, a8, a9, a10, a11, a12, a13, a14, a15, a16, a17, a18, a19, a20, a21, a22, a23, a24, a25, a26, a27, a28, a29, a30, a31], _ => exact built9_32 a0 a1 a2 a3 a4 a5 a6 a7 a8 a9 a10 a11 a12 a13 a14 a15 a16 a17 a18 a19 a20 a21 a22 a23 a24 a25 a26 a27 a28 a29 a30 a31 u
theorem wpList_built {P : Program} {ops : Array Oper} {rest : List Oper} {o : Oper} {a : Act} {w : World} {Q : Exit → Act → World → Prop} (hg : o.guard = none) (t : TypeId) (parts : Array (Nat × Operand)) (ho : o.op = .build t parts) (A : Array Value)
    (hf : P.built t (parts.toList.map fun x => (x.1, a.eval x.2)) = some A) (h : wpList P ops Q rest (a.put o.dst (.agg A)) w) : wpList P ops Q (o :: rest) a w := by
  have e : (parts.map fun (x : Nat × Operand) => match x with | (i, y) => (i, a.eval y)).toList = parts.toList.map fun x => (x.1, a.eval x.2) := by simp
  refine wpList_build hg t parts ho (by rw [e, hf]; rfl) ?_
  rw [e, hf]
  exact h

/-- A row of points, as elements. -/
def PtE (cs : List Value) (p : PtF) : Prop := cs = encP p
theorem pts_many {w : World} {B : Nat} {v : Value} {l : List PtF} (h : PtsO w B v l) : OwnMany 33 41 PtE w B v l := by
  refine ⟨l.map encP, ?_, by simp, fun i cs d hc hd => ?_⟩
  · have : (l.map encP).flatten = l.flatMap encP := by rw [List.flatMap_def]
    rw [this]; exact h
  · rw [List.getElem?_map, hd] at hc
    have := Option.some.inj hc
    subst this
    exact ⟨encP_len d, rfl⟩
theorem many_pts {w : World} {B : Nat} {v : Value} {l : List PtF} (h : OwnMany 33 41 PtE w B v l) : PtsO w B v l := by
  obtain ⟨css, ho, hl, hr⟩ := h
  have e : css = l.map encP := by
    apply List.ext_getElem?
    intro i
    by_cases hi : i < l.length
    · have h1 : css[i]? = some (css[i]'(by omega)) := List.getElem?_eq_getElem (by omega)
      have h2 := (hr i _ _ h1 (List.getElem?_eq_getElem hi)).2
      rw [h1, List.getElem?_map, List.getElem?_eq_getElem hi]
      exact congrArg some h2
    · rw [List.getElem?_eq_none (by omega), List.getElem?_eq_none (by simp; omega)]
  subst e
  rw [← List.flatMap_def] at ho
  exact ho
def mkP (id : List Int) (h : id.length = 32 ∧ Bys id) (i : Nat) : PtF := ⟨⟨id, i % 4294967296⟩, h.1, h.2, by show i % 4294967296 < 4294967296; omega⟩
def madeP (id : List Int) (h : id.length = 32 ∧ Bys id) (n : Nat) : List PtF := (List.range n).map (mkP id h)
theorem mkP_enc {id : List Int} (h : id.length = 32 ∧ Bys id) {i : Nat} (hi : i < 4294967296) : encP (mkP id h i) = ptC id i := by
  unfold mkP encP
  show ptC id (i % 4294967296) = _
  rw [Nat.mod_eq_of_lt hi]
/-- The first k made, the others not yet. -/
def madeTo (id : List Int) (h : id.length = 32 ∧ Bys id) (n k : Nat) : List PtF := (List.range n).map fun i => if i < k then mkP id h i else default
theorem madeTo_len (id : List Int) (h : id.length = 32 ∧ Bys id) (n k : Nat) : (madeTo id h n k).length = n := by simp [madeTo]
theorem madeTo_zero (id : List Int) (h : id.length = 32 ∧ Bys id) (n : Nat) : madeTo id h n 0 = List.replicate n default := by
  unfold madeTo
  apply List.ext_getElem?
  intro i
  by_cases h2 : i < n <;> simp [h2]
theorem madeTo_all (id : List Int) (h : id.length = 32 ∧ Bys id) (n : Nat) : madeTo id h n n = madeP id h n := by
  unfold madeTo madeP
  apply List.map_congr_left
  intro i hi
  rw [if_pos (List.mem_range.1 hi)]
theorem madeTo_succ (id : List Int) (h : id.length = 32 ∧ Bys id) (n k : Nat) : (madeTo id h n k).set k (mkP id h k) = madeTo id h n (k + 1) := by
  unfold madeTo
  apply List.ext_getElem?
  intro i
  rw [List.getElem?_set]
  by_cases h3 : k = i
  · subst h3
    simp only [List.length_map, List.length_range]
    by_cases h2 : k < n
    · rw [if_pos h2]; simp [h2]
    · rw [if_neg h2]; simp [h2]
  · rw [if_neg h3]
    by_cases h2 : i < n
    · simp only [List.getElem?_map, List.getElem?_range h2, Option.map_some]
      have : (i < k + 1) ↔ (i < k) := by omega
      simp only [this]
    · simp [h2]
set_option maxRecDepth 100000 in
theorem make_pts {n : Nat} (hn : n ≤ 1000000) (W : World) : ∃ C, (Instr.makeSlice 33 (.int .i64 (n : Int)) (.int .i64 (n : Int))).run Try.prog W = .ok (.slice (some ⟨W.heap.size, 0, none⟩) n n) (W.alloc (.cells C 41)) ∧ PtsO (W.alloc (.cells C 41)) W.heap.size (.slice (some ⟨W.heap.size, 0, none⟩) n n) (List.replicate n default) := by
  obtain ⟨i0, hi, hz0, hz1, hz2⟩ := info_parts infoPt9
  have hr := run_make (P := Try.prog) W 33 41 i0 _ Try.underlying33 hi hz0 .i64 .i64 (n : Int) (n : Int) (by omega) (by omega) (by rw [hz2]; omega) (by omega)
  rw [hz1, show (n : Int).toNat = n from by omega] at hr
  refine ⟨_, hr, ?_⟩
  have hC : madeCells (Value.agg (ptC (zeros 32) 0).toArray).cells (n * 33) = ((List.replicate n (default : PtF)).flatMap encP).toArray := by
    have hl : ((List.replicate n (default : PtF)).flatMap encP).length = n * 33 := by rw [flatP_len, List.length_replicate]
    have hd : (Value.agg (ptC (zeros 32) 0).toArray).cells = (encP (default : PtF)).toArray := rfl
    have h33 : (encP (default : PtF)).toArray.size = 33 := by rw [List.size_toArray, encP_len]
    rw [hd]
    generalize hE : encP (default : PtF) = E at *
    apply Array.ext_getElem?
    intro j
    unfold madeCells
    by_cases hj : j < n * 33
    · have h1 := flat_at (List.replicate n (default : PtF)) j (by rw [List.length_replicate]; exact hj)
      have h2 : j / 33 < n := by omega
      have h3 : (List.replicate n (default : PtF)).toArray[j / 33]! = default := by rw [getElem!_pos _ _ (by simpa using h2)]; simp
      rw [h3, hE] at h1
      have e2 : (((List.replicate n (default : PtF)).flatMap encP).toArray)[j]? = some (E[j % 33]!) := by rw [← h1]; simp
      have e1 : ((Array.range (n * 33)).map (E.toArray[· % E.toArray.size]!))[j]? = some (E.toArray[j % E.toArray.size]!) := by
        rw [Array.getElem?_map, Array.getElem?_eq_getElem (by rw [Array.size_range]; exact hj)]
        simp
      rw [e1, e2, h33]
      simp
    · rw [Array.getElem?_eq_none (by rw [Array.size_map, Array.size_range]; omega), Array.getElem?_eq_none (by rw [List.size_toArray, hl]; omega)]
  rw [hC]
  refine ⟨by rw [flatP_len], .inr ⟨W.heap.size, n, _, by rw [List.length_replicate], Nat.le_refl _, Box.fresh _ _ _, by rw [List.length_replicate]; exact Nat.le_refl _, by unfold maxLen; omega, by rw [List.size_toArray, flatP_len, List.length_replicate], ?_⟩⟩
  rw [List.take_of_length_le (by rw [flatP_len]; exact Nat.le_refl _)]
end Go.Proofs.Ytdemamipllfonaa
