/- append of a made row of zeros onto '[]byte(s)'. -/
import Derived.Test.YtpmfhjeeiilnjaaClF
import Derived.Lib.AppendZerosOnto
import Derived.Laws.IdiomCopy
namespace Go.Proofs.Ytpmfhjeeiilnjaa
open Go.RowKit

/-- A cell that is stored as it is leaves the world. -/
theorem setCell_same {w : World} {b i : Nat} {v : Value} (h : w.cell? ⟨b, i, none⟩ = some v) : w.setCell ⟨b, i, none⟩ v = w := by
  have hh : ∀ o : Obj, w.heap[b]? = some o → (match o with
      | .cells c elem frozen => Obj.cells (if (⟨b, i, none⟩ : Addr).spot.isSome then c else c.setIfInBounds i v) elem frozen
      | o => o) = o := by
    intro o ho
    unfold World.cell? at h
    rw [ho] at h
    cases o with
    | cells c e f =>
      simp at h
      obtain ⟨hi, hv⟩ := Array.getElem?_eq_some_iff.1 h
      simp
      apply Array.ext_getElem?
      intro j
      rw [Array.getElem?_setIfInBounds]
      by_cases hj : i = j
      · subst hj
        rw [if_pos rfl, if_pos hi, h]
      · rw [if_neg hj]
    | _ => rfl
  unfold World.setCell
  cases w
  simp only [World.mk.injEq, and_true]
  apply Array.ext_getElem?
  intro j
  rw [Array.getElem?_modify]
  by_cases hj : b = j
  · subst hj
    simp only at *
    cases ho : (_ : Array Obj)[b]? with
    | none => rfl
    | some o =>
      simp only [Option.map_some]
      exact congrArg some (hh o ho)
  · simp [hj]
theorem setCells_same {b : Nat} : ∀ (vs : List Value) (o : Nat) (w : World), (∀ j v, vs[j]? = some v → w.cell? ⟨b, o + j, none⟩ = some v) → w.setCells b o vs = w
  | [], _, _, _ => rfl
  | v :: r, o, w, h => by
    have h0 := h 0 v rfl
    rw [Nat.add_zero] at h0
    unfold World.setCells
    rw [setCell_same h0]
    exact setCells_same r (o + 1) w fun j u hu => by
      have := h (j + 1) u (by simpa using hu)
      rwa [show o + 1 + j = o + (j + 1) by omega]

theorem str_cells (w : World) (s : ByteArray) (n : Nat) (hn : s.size + n ≤ grownCap w s.size 0 5) (i : Nat) (hi : i < s.size + n) :
    (Lib.bytesWorld w 5 s).cell? ⟨w.heap.size, i, none⟩ = some (.int .u8 ((nums s ++ zeros n).getD i 0)) := by
  by_cases hs : i < s.size
  · rw [Lib.bytesWorld_cell w 5 s i hs]
    have hl : i < s.data.toList.length := hs
    have h2 : i < (nums s).length := by rw [nums_len]; exact hs
    rw [List.getD_eq_getElem?_getD, List.getD_eq_getElem?_getD, List.getElem?_append_left h2]
    simp [nums, List.getElem?_eq_getElem hl]
  · have hz : i - s.size < n := by omega
    rw [List.getD_eq_getElem?_getD, List.getElem?_append_right (by rw [nums_len]; omega), nums_len]
    have e1 : (zeros n)[i - s.size]? = some 0 := by simp [zeros, hz]
    rw [e1]
    have hsz : s.data.size = s.size := rfl
    simp only [World.cell?, Lib.bytesWorld_at_new, Lib.bytesCells]
    rw [Array.getElem?_append_right (by simp [hsz]; omega)]
    simp [hsz]
    rw [Array.getElem?_replicate, if_pos (by omega)]
set_option maxRecDepth 100000 in
/-- 'append([]byte(s), make([]byte, n)...)'. -/
theorem run_str_zeros (w : World) (s : ByteArray) (n : Nat) (ty : TypeId) (hs : s.size ≤ 1000) (hn : n ≤ 1000) :
    ∃ v' w', (Builtin.append_ #[30, 3] ty #[.slice (some ⟨w.heap.size, 0, none⟩) s.size (grownCap w s.size 0 5), .int .i64 (n : Int)]).run Try.prog (Lib.bytesWorld w 5 s) = .ok v' w' ∧
      Rb w' v' (nums s ++ zeros n) ∧ Below w.heap.size w w' := by
  obtain ⟨i0, hi, hz0, hz1, hz2⟩ := info_parts infoByte
  have hbel := str_below w 5 s
  have hlen : (nums s ++ zeros n).length = s.size + n := by rw [List.length_append, nums_len]; simp [zeros]
  have hbys : Bys (nums s ++ zeros n) := Bys.app (nums_bys s) (zeros_bys n)
  have hmx : (nums s ++ zeros n).length ≤ maxLen := by rw [hlen]; unfold maxLen; omega
  have hge := grownCap_ge w s.size 0 5
  have h1 : IntKind.i64.wrap (n : Int) = n := by rw [IntKind.wrap_i64]; omega
  have h2 : ¬ ((n : Int) < 0) := by omega
  have h4 : ¬ (281474976710656 < (n : Int)) := by omega
  by_cases hroom : s.size + n ≤ grownCap w s.size 0 5
  · have hcell := str_cells w s n hroom
    refine ⟨.slice (some ⟨w.heap.size, 0, none⟩) (s.size + n) (grownCap w s.size 0 5), Lib.bytesWorld w 5 s, ?_, ⟨⟨_, _, by rw [hlen], by rw [hlen]; exact hroom, (fun h => by cases h), fun _ => ⟨w.heap.size, 0, rfl, ?_, ?_, ?_⟩⟩, hbys, hmx⟩, hbel⟩
    · have hadd : (⟨w.heap.size, 0, none⟩ : Addr).add s.size = ⟨w.heap.size, s.size, none⟩ := by unfold Addr.add; split <;> simp_all
      have hst : (storeCells ⟨w.heap.size, s.size, none⟩ (byteVals (zeros n))).run Try.prog (Lib.bytesWorld w 5 s) = .ok () (Lib.bytesWorld w 5 s) := by
        have := run_storeCells_cells (P := Try.prog) w.heap.size s.size (byteVals (zeros n)) 0 (Lib.bytesWorld w 5 s) (fun j hj => by
            rw [show s.size + 0 + j = s.size + j by omega, hcell (s.size + j) (by simp [byteVals, zeros] at hj; omega)]; rfl)
          (fun j hj => by
            simp [byteVals, zeros] at hj
            simp only [World.frozen?, Lib.bytesWorld_at_new]
            have hsz : (Lib.bytesCells w 5 s).size = grownCap w s.size 0 5 := by
              have hsz : s.data.size = s.size := rfl
              simp [Lib.bytesCells, hsz]; omega
            rw [hsz]
            simp
            omega)
          (byteVals_one _)
        rw [this, setCells_same]
        intro j v hj
        obtain ⟨hj2, rfl⟩ := byteVals_at _ _ _ hj
        rw [show s.size + 0 + j = s.size + j by omega, hcell (s.size + j) (by simp [zeros] at hj2; omega)]
        congr 2
        rw [List.getD_eq_getElem?_getD, List.getElem?_append_right (by rw [nums_len]; omega), nums_len, List.getD_eq_getElem?_getD]
        congr 2
        omega
      by_cases h0 : n = 0
      · subst h0
        simp [Builtin.append_, run_underlying Try.underlying30, run_underlying Try.underlying3, sizeOf, typeInfo, hi, hz2, asInt, asIntOf, storeCells, IntKind.wrap_i64, hge]
      · simp [Builtin.append_, run_underlying Try.underlying30, run_underlying Try.underlying3, sizeOf, typeInfo, zeroValue, hi, hz0, hz1, hz2, asInt, asIntOf, h1, h2, h4, h0, hroom, zeroCells_u8, hadd, hst]
    · rw [Lib.bytesWorld_size]; omega
    · rw [Lib.bytesWorld_size]; omega
    · intro i hi'
      rw [hlen] at hi'
      rw [Nat.zero_add]
      exact hcell i hi'
  · have hz : 0 < n := by omega
    have hg : grownCap w s.size 0 5 < s.size + n := by omega
    have hcell := str_cells w s 0 (by omega)
    have hcap := grownCap_le_maxLen (Lib.bytesWorld w 5 s) (s.size + n) (grownCap w s.size 0 5) 5 (by unfold maxLen; omega)
    have hfo := run_firstCells_some (P := Try.prog) (Lib.bytesWorld w 5 s).drew 1 s.size ⟨w.heap.size, 0, none⟩ s.size (grownCap w s.size 0 5) (byteVals (nums s)) (by simp [byteVals, nums_len]) (fun j u hj => by
      have e1 : (⟨w.heap.size, 0, none⟩ : Addr).add j = ⟨w.heap.size, j, none⟩ := by unfold Addr.add; split <;> simp_all
      obtain ⟨hj2, rfl⟩ := byteVals_at _ _ _ hj
      rw [nums_len] at hj2
      have := hcell j (by omega)
      rw [show zeros 0 = [] from rfl, List.append_nil] at this
      rw [e1]
      exact this)
    have hr := Lib.run_append_grow_zeros (P := Try.prog) (Lib.bytesWorld w 5 s) 30 3 ty 5 i0 (.int .u8 0) .i64 .i64 Try.underlying30 Try.underlying3 hi hz0 (some ⟨w.heap.size, 0, none⟩) s.size (grownCap w s.size 0 5) (byteVals (nums s)) (by rw [hz1]; exact hfo) n hz (by rw [hz1]; omega) hg (by omega) (by rw [hz2]; omega) (by
      rw [hz2]
      have : Builtin.nextslicecap (s.size + n) (grownCap w s.size 0 5) ≤ 2 * (s.size + n) := nextslicecap_le hg
      omega)
    refine ⟨_, _, hr, ⟨⟨_, _, by rw [hlen], ?_, (fun h => by cases h), fun _ => ⟨(Lib.bytesWorld w 5 s).heap.size, 0, rfl, ?_, ?_, ?_⟩⟩, hbys, hmx⟩, (hbel.drew).alloc (by have := hbel.size; simpa using this) _⟩
    · rw [hlen]; exact grownCap_ge _ _ _ _
    · simp
    · simp
    · intro i hi'
      rw [hlen] at hi'
      have hb := heap_alloc_new (Lib.bytesWorld w 5 s).drew (.cells ((byteVals (nums s)).toArray ++ Builtin.zeroCells (Value.int .u8 0).cells n ++ Builtin.zeroCells (Value.int .u8 0).cells (grownCap (Lib.bytesWorld w 5 s) (s.size + n) (grownCap w s.size 0 5) 5 - (s.size + n))) 5)
      rw [Nat.zero_add]
      refine (cell_of_row _ (Lib.bytesWorld w 5 s).drew.heap.size i _ _ _ hb).trans ?_
      rw [zeroCells_u8, zeroCells_u8]
      have hlb : (byteVals (nums s ++ zeros n)).length = s.size + n := by simp [byteVals, nums_len, zeros]
      have hcat : ((byteVals (nums s)).toArray ++ (byteVals (zeros n)).toArray ++ (byteVals (zeros (grownCap (Lib.bytesWorld w 5 s) (s.size + n) (grownCap w s.size 0 5) 5 - (s.size + n)))).toArray) = (byteVals (nums s ++ zeros n)).toArray ++ (byteVals (zeros (grownCap (Lib.bytesWorld w 5 s) (s.size + n) (grownCap w s.size 0 5) 5 - (s.size + n)))).toArray := by simp [byteVals]
      rw [hcat, Array.getElem?_append_left (by simpa [hlb] using hi')]
      simp only [List.getElem?_toArray, byteVals, List.getElem?_map, List.getD_eq_getElem?_getD]
      rw [List.getElem?_eq_getElem (by rw [hlen]; exact hi')]
      rfl
end Go.Proofs.Ytpmfhjeeiilnjaa
