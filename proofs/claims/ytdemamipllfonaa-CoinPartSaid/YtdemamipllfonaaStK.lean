/- Points as keys of a map: what they read as, when two are the same; how many are among a list's. -/
import Derived.Test.YtdemamipllfonaaGb
import Derived.Maps.Own
import Derived.Maps.OwnSet
import Derived.Maps.Views
import Derived.DeepKeys4
import Derived.Tactics
namespace Go.Proofs.Ytdemamipllfonaa
open Go.RowKit

/-- The cells of a point. -/
def ptC (p : List Int) (u : Nat) : List Value := byteVals p ++ [.int .u32 u]
def ptCells (d : InD) : List Value := ptC d.prev d.vout
def ptLits (p : List Int) (u : Nat) : List Lit := p.map (Lit.int .u8) ++ [.int .u32 u]
theorem lit_u8 {x : Int} (h : 0 ≤ x ∧ x ≤ 255) : (Lit.int .u8 x).wf = true := by
  simp [Lit.wf, IntKind.min, IntKind.max, IntKind.bits, IntKind.signed]; omega
theorem lit_u32 {x : Nat} (h : x < 4294967296) : (Lit.int .u32 x).wf = true := by
  simp [Lit.wf, IntKind.min, IntKind.max, IntKind.bits, IntKind.signed]; omega
set_option maxRecDepth 100000 in
theorem lits_u8 (D : Nat) {x : Int} (h : 0 ≤ x ∧ x ≤ 255) : Try.prog.keyLits (D + 1) 5 [.int .u8 x] = some [.int .u8 x] := by
  unfold Program.keyLits
  rw [Try.underlying5]
  simp [lit_u8 h]
set_option maxRecDepth 100000 in
theorem lits_u32 (D : Nat) {x : Nat} (h : x < 4294967296) : Try.prog.keyLits (D + 1) 26 [.int .u32 x] = some [.int .u32 x] := by
  unfold Program.keyLits
  rw [Try.underlying26]
  simp [lit_u32 h]
theorem mapM_rows {α : Type} (f : Nat → Option (List α)) (l : List α) : ∀ (is : List Nat), (∀ i ∈ is, ∃ x, l[i]? = some x ∧ f i = some [x]) → is.mapM f = some (is.map fun i => l[i]?.toList)
  | [], _ => rfl
  | i :: is, h => by
    obtain ⟨x, hx, hf⟩ := h i (by simp)
    rw [List.mapM_cons, hf, mapM_rows f l is fun j hj => h j (List.mem_cons_of_mem _ hj)]
    simp [hx]
theorem range_all {α : Type} (l : List α) : ((List.range l.length).map fun i => l[i]?.toList).flatten = l := by
  induction l with
  | nil => rfl
  | cons x l ih =>
    rw [List.length_cons, List.range_succ_eq_map, List.map_cons, List.map_map, List.flatten_cons]
    simp only [List.getElem?_cons_zero, Option.toList_some, List.singleton_append, List.cons.injEq, true_and]
    exact ih
set_option maxRecDepth 100000 in
theorem lits_arr (D : Nat) {p : List Int} (hb : Bys p) (hl : p.length = 32) : Try.prog.keyLits (D + 2) 39 (byteVals p) = some (p.map (Lit.int .u8)) := by
  unfold Program.keyLits
  rw [Try.underlying39]
  have h1 : Try.prog.cellsOf 39 = 32 := by kernel_rfl
  have h2 : Try.prog.cellsOf 5 = 1 := by kernel_rfl
  have h3 : (byteVals p).length = 32 := by simp [byteVals, hl]
  simp only [h1, h2, h3, if_true, Nat.mul_one]
  have h4 := mapM_rows (fun i => Try.prog.keyLits (D + 1) 5 (((byteVals p).drop i).take 1)) (p.map (Lit.int .u8)) (List.range 32) fun i hi => by
    have hi' : i < p.length := by rw [hl]; exact List.mem_range.1 hi
    refine ⟨.int .u8 p[i], by simp [hi'], ?_⟩
    have e : ((byteVals p).drop i).take 1 = [.int .u8 p[i]] := by
      rw [List.drop_eq_getElem_cons (by simpa [byteVals] using hi')]
      simp [byteVals]
    show Try.prog.keyLits (D + 1) 5 (((byteVals p).drop i).take 1) = _
    rw [e]
    exact lits_u8 D (hb _ (List.getElem_mem hi'))
  rw [h4]
  have h5 := range_all (p.map (Lit.int .u8))
  rw [List.length_map, hl] at h5
  simp only [Option.map_some, h5]
theorem ptC_len {p : List Int} (hl : p.length = 32) (u : Nat) : (ptC p u).length = 33 := by simp [ptC, byteVals, hl]
theorem ptC_arr {p : List Int} (hl : p.length = 32) (u : Nat) : ((ptC p u).drop 0).take 32 = byteVals p := by
  have : (byteVals p).length = 32 := by simp [byteVals, hl]
  rw [List.drop_zero, ptC, List.take_append_of_le_length (by omega), List.take_of_length_le (by omega)]
theorem ptC_num {p : List Int} (hl : p.length = 32) (u : Nat) : ((ptC p u).drop 32).take 1 = [.int .u32 u] := by
  have : (byteVals p).length = 32 := by simp [byteVals, hl]
  rw [ptC, List.drop_append_of_le_length (by omega), List.drop_of_length_le (by omega)]
  rfl
set_option maxRecDepth 100000 in
theorem lits_pt (D : Nat) {p : List Int} {u : Nat} (hb : Bys p) (hl : p.length = 32) (hu : u < 4294967296) : Try.prog.keyLits (D + 3) 41 (ptC p u) = some (ptLits p u) := by
  have h1 : Try.prog.cellsOf 39 = 32 := by kernel_rfl
  have h2 : Try.prog.cellsOf 26 = 1 := by kernel_rfl
  have h3 : Try.prog.cellsOf 41 = 33 := by kernel_rfl
  unfold Program.keyLits
  rw [Try.underlying41]
  simp only [h3, ptC_len hl, true_and, List.mapM_cons, List.mapM_nil, h1, h2, ptC_arr hl, ptC_num hl, lits_arr (D + 0) hb hl, lits_u32 (D + 1) hu]
  rw [if_pos (by kernel_rfl)]
  simp [ptLits]
set_option maxRecDepth 100000 in
theorem pt_key : Try.prog.keyType 41 = true := by kernel_rfl
set_option maxRecDepth 100000 in
theorem pt_formed {p : List Int} (hl : p.length = 32) (u : Nat) : (Value.agg (ptC p u).toArray).formed Try.prog 41 = true := by
  have h3 : Try.prog.cellsOf 41 = 33 := by kernel_rfl
  simp [Value.formed, Try.underlying41, h3, ptC_len hl]
/-- What a point reads as, as a key. -/
def ptKey (p : List Int) (u : Nat) : Lit := .string (keyBytes (ptLits p u))
set_option maxRecDepth 100000 in
theorem pt_keyOf {p : List Int} {u : Nat} (hb : Bys p) (hl : p.length = 32) (hu : u < 4294967296) : keyOf Try.prog 41 (.agg (ptC p u).toArray) = some (ptKey p u) := by
  have ht : Try.prog.types.size + 1 = (Try.prog.types.size - 2) + 3 := by
    have : decide (2 ≤ Try.prog.types.size) = true := by kernel_rfl
    have := of_decide_eq_true this
    omega
  unfold keyOf
  rw [Try.underlying41]
  simp only [pt_key, pt_formed hl, Bool.and_self, if_true, Value.cells, List.toList_toArray]
  rw [ht, lits_pt _ hb hl hu]
  rfl
set_option maxRecDepth 100000 in
theorem ptLaw : Maps.Keyed Try.prog 41 := Maps.Keyed.of_law (deep_law_laid (by kernel_rfl) (m := 4) (by omega) (of_decide_eq_true (by kernel_rfl)) (by kernel_rfl) (by rw [Try.underlying41]))
theorem byteVals_inj {p q : List Int} (h : byteVals p = byteVals q) : p = q := by
  unfold byteVals at h
  induction p generalizing q with
  | nil => cases q with
    | nil => rfl
    | cons y q => simp at h
  | cons x p ih => cases q with
    | nil => simp at h
    | cons y q =>
      simp only [List.map_cons, List.cons.injEq, Value.int.injEq, true_and] at h
      rw [h.1, ih h.2]
theorem ptC_inj {p q : List Int} {u v : Nat} (h1 : p.length = 32) (h2 : q.length = 32) (h : ptC p u = ptC q v) : p = q ∧ u = v := by
  unfold ptC at h
  have h3 := List.append_inj h (by simp [byteVals, h1, h2])
  refine ⟨byteVals_inj h3.1, ?_⟩
  have h4 := h3.2
  simp only [List.cons.injEq, Value.int.injEq, true_and, and_true] at h4
  omega
theorem ptKey_inj {p q : List Int} {u v : Nat} (hb1 : Bys p) (h1 : p.length = 32) (hu : u < 4294967296) (hb2 : Bys q) (h2 : q.length = 32) (hv : v < 4294967296) (h : ptKey p u = ptKey q v) : p = q ∧ u = v := by
  have k1 := pt_keyOf hb1 h1 hu
  have k2 := pt_keyOf hb2 h2 hv
  rw [h] at k1
  have := ptLaw.inj k1 k2
  simp only [Value.agg.injEq] at this
  exact ptC_inj h1 h2 (by simpa using congrArg Array.toList this)
set_option maxRecDepth 100000 in
/-- Two points are the same just if their parts are. -/
theorem eql_pt {p q : List Int} {u v : Nat} (hb1 : Bys p) (h1 : p.length = 32) (hu : u < 4294967296) (hb2 : Bys q) (h2 : q.length = 32) (hv : v < 4294967296) (w : World) :
    (Op.equalIn 10000 41 (.agg (ptC p u).toArray) (.agg (ptC q v).toArray)).run Try.prog w = .ok (decide (p = q ∧ u = v)) w := by
  have hk : Try.prog.keyTypeAt 4 41 = true := by kernel_rfl
  obtain ⟨r, hr, hiff⟩ := run_equalIn_deep (P := Try.prog) 9996 4 41 hk w 3 3 (.agg (ptC p u).toArray) (.agg (ptC q v).toArray) (ptLits p u) (ptLits q v) (pt_formed h1 u) (pt_formed h2 v)
    (by simpa [Value.cells] using lits_pt 0 hb1 h1 hu) (by simpa [Value.cells] using lits_pt 0 hb2 h2 hv)
  rw [hr]
  congr 1
  rw [Bool.eq_iff_iff, hiff, decide_eq_true_eq]
  constructor
  · intro h
    refine ptKey_inj hb1 h1 hu hb2 h2 hv ?_
    unfold ptKey
    rw [h]
  · rintro ⟨rfl, rfl⟩
    rfl

/-- Two inputs spend the same output. -/
def ptEq (a b : InD) : Bool := decide (a.prev = b.prev ∧ a.vout = b.vout)
def dupIn (l : List InD) (i : Nat) : Nat → Bool
  | 0 => false
  | k + 1 => dupIn l i k || ptEq (l.getD i default) (l.getD k default)
def dupTo (l : List InD) : Nat → Bool
  | 0 => false
  | i + 1 => dupTo l i || dupIn l i i
/-- Two of them spend the same output. -/
def twiceB (l : List InD) : Bool := dupTo l l.length
def inKey (d : InD) : Lit := ptKey d.prev d.vout
def keysTo (l : List InD) (k : Nat) : List Lit := (l.take k).map inKey
theorem inKey_lit (d : InD) : WideAt.IsKeyLit (inKey d) := trivial
theorem keysTo_lit (l : List InD) (k : Nat) : ∀ x ∈ keysTo l k, WideAt.IsKeyLit x := by
  intro x hx
  obtain ⟨d, _, rfl⟩ := List.mem_map.1 hx
  exact inKey_lit d
theorem keysTo_succ (l : List InD) (k : Nat) (h : k < l.length) : keysTo l (k + 1) = keysTo l k ++ [inKey l[k]] := by
  unfold keysTo
  rw [List.take_succ_eq_append_getElem h, List.map_append]
  rfl
theorem inKey_inj {a b : InD} (ha : a.Fit) (hb : b.Fit) : inKey a = inKey b ↔ ptEq a b = true := by
  unfold inKey ptEq
  rw [decide_eq_true_eq]
  constructor
  · exact ptKey_inj ha.pbys ha.plen ha.vlt hb.pbys hb.plen hb.vlt
  · rintro ⟨h1, h2⟩
    rw [h1, h2]
theorem dupIn_iff (l : List InD) (i : Nat) : ∀ k, dupIn l i k = true ↔ ∃ j, j < k ∧ ptEq (l.getD i default) (l.getD j default) = true
  | 0 => by simp [dupIn]
  | k + 1 => by
    simp only [dupIn, Bool.or_eq_true, dupIn_iff l i k]
    constructor
    · rintro (⟨j, h1, h2⟩ | h)
      · exact ⟨j, by omega, h2⟩
      · exact ⟨k, by omega, h⟩
    · rintro ⟨j, h1, h2⟩
      rcases Nat.lt_or_ge j k with h3 | h3
      · exact .inl ⟨j, h3, h2⟩
      · obtain rfl : j = k := by omega
        exact .inr h2
theorem addKey_mem (L : List Lit) (x : Lit) (hx : WideAt.IsKeyLit x) (y : Lit) : y ∈ Maps.addKey L x ↔ y ∈ L ∨ y = x := by
  unfold Maps.addKey
  split
  · rename_i h
    obtain ⟨z, hz, he⟩ := List.any_eq_true.1 h
    rw [WideAt.sameKey_iff hx] at he
    subst he
    constructor
    · exact .inl
    · rintro (h | rfl)
      · exact h
      · exact hz
  · simp
theorem addKey_len (L : List Lit) (x : Lit) (hx : WideAt.IsKeyLit x) : (x ∈ L → (Maps.addKey L x).length = L.length) ∧ (x ∉ L → (Maps.addKey L x).length = L.length + 1) := by
  unfold Maps.addKey
  split
  · rename_i h
    obtain ⟨z, hz, he⟩ := List.any_eq_true.1 h
    rw [WideAt.sameKey_iff hx] at he
    subst he
    exact ⟨fun _ => rfl, fun h => absurd hz h⟩
  · rename_i h
    refine ⟨fun hm => absurd (show (L.any fun y => y.sameKey x) = true from List.any_eq_true.2 ⟨x, hm, WideAt.sameKey_self hx⟩) h, fun _ => by simp⟩
theorem keys_count (l : List InD) (hf : ∀ d ∈ l, d.Fit) : ∀ k, k ≤ l.length → (∀ y, y ∈ (keysTo l k).foldl Maps.addKey [] ↔ y ∈ keysTo l k) ∧ (dupTo l k = false → ((keysTo l k).foldl Maps.addKey []).length = k) ∧ (dupTo l k = true → ((keysTo l k).foldl Maps.addKey []).length < k) ∧ ((keysTo l k).foldl Maps.addKey []).length ≤ k
  | 0, _ => by simp [keysTo, dupTo]
  | k + 1, hk => by
    obtain ⟨h1, h2, h3, h4⟩ := keys_count l hf k (by omega)
    have hlt : k < l.length := by omega
    rw [keysTo_succ l k hlt, List.foldl_append, List.foldl_cons, List.foldl_nil]
    have hL := addKey_len ((keysTo l k).foldl Maps.addKey []) (inKey l[k]) (inKey_lit _)
    have hd : (inKey l[k] ∈ (keysTo l k).foldl Maps.addKey []) ↔ dupIn l k k = true := by
      rw [h1, dupIn_iff]
      unfold keysTo
      rw [List.mem_map]
      have hget : ∀ j (hj : j < l.length), l.getD j default = l[j] := fun j hj => by rw [List.getD_eq_getElem?_getD, List.getElem?_eq_getElem hj]; rfl
      constructor
      · rintro ⟨d, hd, he⟩
        obtain ⟨j, hj, rfl⟩ := List.mem_iff_getElem.1 hd
        rw [List.length_take] at hj
        have hjl : j < l.length := by omega
        rw [List.getElem_take] at he
        refine ⟨j, by omega, ?_⟩
        rw [hget k hlt, hget j hjl]
        exact (inKey_inj (hf _ (List.getElem_mem _)) (hf _ (List.getElem_mem _))).1 he.symm
      · rintro ⟨j, hj, he⟩
        have hjl : j < l.length := by omega
        rw [hget k hlt, hget j hjl] at he
        refine ⟨l[j], ?_, ((inKey_inj (hf _ (List.getElem_mem _)) (hf _ (List.getElem_mem _))).2 he).symm⟩
        rw [List.mem_iff_getElem]
        exact ⟨j, by rw [List.length_take]; omega, by rw [List.getElem_take]⟩
    refine ⟨fun y => ?_, fun hn => ?_, fun hy => ?_, ?_⟩
    · rw [addKey_mem _ _ (inKey_lit _), h1]
      simp
    · simp only [dupTo, Bool.or_eq_false_iff] at hn
      have hni : inKey l[k] ∉ (keysTo l k).foldl Maps.addKey [] := fun h => by rw [hd] at h; rw [hn.2] at h; cases h
      rw [hL.2 hni, h2 hn.1]
    · simp only [dupTo, Bool.or_eq_true] at hy
      rcases hy with hy | hy
      · have := h3 hy
        by_cases hm : inKey l[k] ∈ (keysTo l k).foldl Maps.addKey []
        · rw [hL.1 hm]; omega
        · rw [hL.2 hm]; omega
      · rw [hL.1 (hd.2 hy)]; omega
    · by_cases hm : inKey l[k] ∈ (keysTo l k).foldl Maps.addKey []
      · rw [hL.1 hm]; omega
      · rw [hL.2 hm]; omega
/-- The set of the first k points. -/
def ptSet (l : List InD) (k : Nat) : DataW Unit := Maps.setOf (.agg []) (keysTo l k)
theorem ptSet_zero (l : List InD) : ptSet l 0 = .map [] := rfl
theorem ptSet_succ (l : List InD) (k : Nat) (h : k < l.length) : ptSet l (k + 1) = (ptSet l k).put (inKey l[k]) (.agg []) := by
  unfold ptSet
  rw [keysTo_succ l k h, Maps.setOf_snoc]
theorem ptSet_size (l : List InD) (hf : ∀ d ∈ l, d.Fit) : (twiceB l = false → Maps.size (ptSet l l.length) = l.length) ∧ (twiceB l = true → Maps.size (ptSet l l.length) < l.length) := by
  have h := keys_count l hf l.length (Nat.le_refl _)
  unfold ptSet twiceB
  rw [Maps.size_setOf _ _ (keysTo_lit l _)]
  exact ⟨h.2.1, h.2.2.1⟩
end Go.Proofs.Ytdemamipllfonaa
