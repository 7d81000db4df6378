/- Slices of numbers of one kind: what they read as, what keeps them, a slice of the call's own, append. No program. -/
import Derived.Test.YtompcibcgfjpfaaMem
namespace Go.Proofs.Ytompcibcgfjpfaa
open Go.RowKit

/-- The cells from place 'off' of block b on are the numbers l. -/
def RunK (κ : IntKind) (w : World) (b off : Nat) (l : List Int) : Prop := ∀ i, i < l.length → w.cell? ⟨b, off + i, none⟩ = some (.int κ (l.getD i 0))
/-- The slice v reads as the numbers l. -/
def SlK (κ : IntKind) (w : World) (v : Value) (l : List Int) : Prop :=
  ∃ A c, v = .slice A l.length c ∧ l.length ≤ c ∧ (A = none → c = 0) ∧ (l ≠ [] → ∃ b off, A = some ⟨b, off, none⟩ ∧ b < w.heap.size ∧ RunK κ w b off l)

section
variable {κ : IntKind} {w w' : World} {v : Value} {l : List Int}
theorem SlK.nil (κ : IntKind) (w : World) : SlK κ w (.slice none 0 0) [] := ⟨none, 0, rfl, Nat.le_refl _, fun _ => rfl, fun h => absurd rfl h⟩
theorem SlK.below (h : SlK κ w v l) (hk : Below w.heap.size w w') : SlK κ w' v l := by
  obtain ⟨A, c, rfl, hc, hn, hr⟩ := h
  refine ⟨A, c, rfl, hc, hn, fun hl => ?_⟩
  obtain ⟨b, off, rfl, hlt, hrun⟩ := hr hl
  exact ⟨b, off, rfl, by have := hk.size; omega, fun i hi => (World.cell?_of_block (hk.block b hlt)).trans (hrun i hi)⟩
theorem RunK.take {b off : Nat} (h : RunK κ w b off l) (n : Nat) : RunK κ w b off (l.take n) := fun i hi => by
  have hi' : i < n ∧ i < l.length := by rw [List.length_take] at hi; omega
  rw [h i hi'.2]
  simp [List.getD_eq_getElem?_getD, hi'.1]
theorem RunK.drop {b off : Nat} (h : RunK κ w b off l) (n : Nat) : RunK κ w b (off + n) (l.drop n) := fun i hi => by
  have hi' : n + i < l.length := by simp [List.length_drop] at hi; omega
  rw [show off + n + i = off + (n + i) from by omega, h (n + i) hi']
  simp [List.getD_eq_getElem?_getD, List.getElem?_drop]
/-- A block of just these cells, all of it as a slice. -/
theorem SlK.fresh (κ : IntKind) (w : World) (t : Nat) (l : List Int) : SlK κ (w.alloc (.cells (l.map (Value.int κ)).toArray t)) (.slice (some ⟨w.heap.size, 0, none⟩) l.length l.length) l := by
  refine ⟨_, _, rfl, Nat.le_refl _, (fun h => by cases h), fun _ => ⟨w.heap.size, 0, rfl, by simp, fun i hi => ?_⟩⟩
  rw [(Box.fresh w t _).cell, Nat.zero_add]
  simp [List.getD_eq_getElem?_getD, hi]
end

/-- The numbers as cells. -/
def kVals (κ : IntKind) (l : List Int) : List Value := l.map (Value.int κ)
theorem kVals_at (κ : IntKind) (l : List Int) (j : Nat) (u : Value) (h : (kVals κ l)[j]? = some u) : j < l.length ∧ u = .int κ (l.getD j 0) := by
  unfold kVals at h
  rw [List.getElem?_map] at h
  cases hj : l[j]? with
  | none => rw [hj] at h; cases h
  | some x =>
    rw [hj] at h
    refine ⟨(List.getElem?_eq_some_iff.1 hj).1, ?_⟩
    rw [List.getD_eq_getElem?_getD, hj]
    simpa using h.symm
theorem kVals_one (κ : IntKind) (l : List Int) : ∀ u ∈ kVals κ l, u.oneCell' = true := by
  intro u hu
  unfold kVals at hu
  obtain ⟨x, _, rfl⟩ := List.mem_map.1 hu
  rfl

/-- v is a slice of the call's own, made from block 'base' on, that reads as the numbers l. e: the type of one. -/
def OwnK (κ : IntKind) (w : World) (base e : Nat) (v : Value) (l : List Int) : Prop := w.ownsRow base e 1 v l.length (kVals κ l)
section
variable {κ : IntKind} {w w' : World} {base e : Nat} {v : Value} {l : List Int}
theorem OwnK.none (κ : IntKind) (w : World) (base e : Nat) : OwnK κ w base e (.slice .none 0 0) [] := ⟨rfl, .inl ⟨rfl, rfl⟩⟩
theorem OwnK.form (h : OwnK κ w base e v l) :
    (v = .slice .none 0 0 ∧ l = []) ∨ ∃ g cap cur, v = .slice (some ⟨g, 0, .none⟩) l.length cap ∧ base ≤ g ∧ Box w g e cur ∧ l.length ≤ cap ∧ cap ≤ maxLen ∧ cur.size = cap ∧ cur.toList.take l.length = kVals κ l := by
  rcases h.2 with ⟨h1, h2⟩ | ⟨g, cap, cur, h1, h2, h3, h4, h5, h6, h7⟩
  · exact .inl ⟨h1, List.eq_nil_of_length_eq_zero h2⟩
  · exact .inr ⟨g, cap, cur, h1, h2, h3, h4, h5, by simpa using h6, by simpa using h7⟩
theorem OwnK.slice (h : OwnK κ w base e v l) : ∃ A c, v = .slice A l.length c := by
  rcases h.form with ⟨rfl, rfl⟩ | ⟨g, cap, _, rfl, _⟩
  · exact ⟨_, _, rfl⟩
  · exact ⟨_, _, rfl⟩
theorem OwnK.at {g n cap : Nat} (h : OwnK κ w base e (.slice (some ⟨g, 0, .none⟩) n cap) l) (i : Nat) (hi : i < l.length) : w.cell? ⟨g, i, .none⟩ = some (.int κ (l.getD i 0)) := by
  rcases h.form with ⟨h1, _⟩ | ⟨g', cap', cur, h1, hb, hx, hc, hm, hz, ht⟩
  · cases h1
  · injection h1 with h2 h3 h4
    injection h2 with h2
    injection h2 with h2 _
    subst h2
    rw [hx.cell]
    have hu : (kVals κ l)[i]? = some (.int κ (l.getD i 0)) := by
      unfold kVals
      rw [List.getElem?_map, List.getElem?_eq_getElem hi, List.getD_eq_getElem?_getD, List.getElem?_eq_getElem hi]
      rfl
    rw [← ht, List.getElem?_take, if_pos hi] at hu
    simpa using hu
theorem OwnK.sl (h : OwnK κ w base e v l) : SlK κ w v l := by
  rcases h.form with ⟨rfl, rfl⟩ | ⟨g', cap, cur, rfl, hb, hx, hc, hm, hz, ht⟩
  · exact SlK.nil κ w
  · refine ⟨_, cap, rfl, hc, (fun h => by cases h), fun _ => ⟨g', 0, rfl, hx.lt, fun i hi => ?_⟩⟩
    rw [Nat.zero_add]
    exact h.at i hi
theorem OwnK.keep (h : OwnK κ w base e v l) {row : Option Nat} (hg : w.grownBy w' row) (hne : v.ownBlock = .none ∨ v.ownBlock ≠ row) : OwnK κ w' base e v l := World.ownsRow.kept h hg hne
theorem OwnK.below (h : OwnK κ w base e v l) (hb : Below w.heap.size w w') : OwnK κ w' base e v l :=
  h.keep (row := .none) ⟨hb.os, hb.tape, hb.output, hb.size, fun k hk _ => hb.block k hk⟩ (by cases hv : v.ownBlock <;> simp)
theorem OwnK.less {base' : Nat} (h : OwnK κ w base e v l) (hb : base' ≤ base) : OwnK κ w base' e v l := by
  refine ⟨h.1, ?_⟩
  rcases h.2 with h2 | ⟨g, cap, cur, hv, hg, r⟩
  · exact .inl h2
  · exact .inr ⟨g, cap, cur, hv, by omega, r⟩
theorem OwnK.fresh (κ : IntKind) (w : World) (e : Nat) (l : List Int) (hl : l.length ≤ maxLen) : OwnK κ (w.alloc (.cells (l.map (Value.int κ)).toArray e)) w.heap.size e (.slice (some ⟨w.heap.size, 0, .none⟩) l.length l.length) l := by
  refine ⟨by simp [kVals], .inr ⟨_, _, _, rfl, Nat.le_refl _, Box.fresh w e _, Nat.le_refl _, hl, by simp, ?_⟩⟩
  simp [kVals, List.take_of_length_le]
/-- What grows by a slice of the call's own leaves all that was there ahead of the call. -/
theorem OwnK.grows {w0 : World} (h : OwnK κ w base e v l) (hb : Below w0.heap.size w0 w) (hg : w.grownBy w' v.ownBlock) (h0 : w0.heap.size ≤ base) : Below w0.heap.size w0 w' := by
  refine ⟨hg.os.trans hb.os, hg.tape.trans hb.tape, hg.output.trans hb.output, Nat.le_trans hb.size hg.size, fun k hk => (hg.block k (Nat.lt_of_lt_of_le hk hb.size) ?_).trans (hb.block k hk)⟩
  rcases h.form with ⟨rfl, _⟩ | ⟨g, cap, cur, rfl, hbg, _⟩
  · simp [Value.ownBlock]
  · simp [Value.ownBlock]; omega
/-- A number stored into a slice of the call's own. -/
theorem OwnK.set {g n cap : Nat} (h : OwnK κ w base e (.slice (some ⟨g, 0, .none⟩) n cap) l) (q : Nat) (y : Int) :
    OwnK κ (w.setCell ⟨g, q, .none⟩ (.int κ y)) base e (.slice (some ⟨g, 0, .none⟩) n cap) (l.set q y) := by
  rcases h.form with ⟨h1, _⟩ | ⟨g', cap', cur, h1, hb, hx, hc, hm, hz, ht⟩
  · cases h1
  · injection h1 with h2 h3 h4
    injection h2 with h2
    injection h2 with h2 _
    subst h2
    subst h3
    subst h4
    refine ⟨by simp [kVals], .inr ⟨g, cap, _, by rw [List.length_set], hb, hx.set q (.int κ y), by rw [List.length_set]; exact hc, hm, by simpa using hz, ?_⟩⟩
    rw [List.length_set, Nat.mul_one, Array.toList_setIfInBounds, List.take_set, ht]
    simp [kVals, List.map_set]
theorem OwnK.warm {g n cap : Nat} (h : OwnK κ w base e (.slice (some ⟨g, 0, .none⟩) n cap) l) (q : Nat) : w.frozen? ⟨g, q, .none⟩ = false ∧ base ≤ g ∧ n = l.length := by
  rcases h.form with ⟨h1, _⟩ | ⟨g', cap', cur, h1, hb, hx, hc, hm, hz, ht⟩
  · cases h1
  · injection h1 with h2 h3 h4
    injection h2 with h2
    injection h2 with h2 _
    subst h2
    exact ⟨hx.warm q, hb, h3⟩
end

/-- append(v, x...) onto a slice of the call's own, the source any slice of such numbers. -/
theorem wpList_append_nums {P : Program} {w : World} {ops : Array Oper} {rest : List Oper} {o : Oper} {a : Act} {Q : Exit → Act → World → Prop} (κ : IntKind) (nb : Nat) (hnb : 1 ≤ nb) (hgd : o.guard = none) (s x : Operand) (t : TypeId)
    (ho : o.op = .call { callee := .builtin .append, args := #[s, x], argTypes := #[t, t] })
    (base e : TypeId) (i : TypeInfo) (ht : P.underlying t = some (.slice e)) (hi : P.info? e = some i) (hz : i.zero = some (.int κ 0)) (hsize : i.size = 1) (hby : i.bytes = nb)
    (v : Value) (l : List Int) (hs : a.eval s = v) (hown : OwnK κ w base e v l)
    (u : Value) (k : List Int) (hx : a.eval x = u) (hsl : SlK κ w u k) (h47 : (l.length + k.length) * nb ≤ 140737488355328) (hbase : base ≤ w.heap.size)
    (h : ∀ v' w', OwnK κ w' base e v' (l ++ k) → w.grownBy w' v.ownBlock → wpList P ops Q rest (a.put o.dst v') w') : wpList P ops Q (o :: rest) a w := by
  obtain ⟨A, c, rfl, hc, hn, hr⟩ := hsl
  have hm : l.length + k.length ≤ 140737488355328 := Nat.le_trans (Nat.le_mul_of_pos_right _ hnb) h47
  cases A with
  | none =>
    have hk : k = [] := by
      rcases List.eq_nil_or_concat k with h0 | ⟨_, _, h0⟩
      · exact h0
      · obtain ⟨_, _, he, _⟩ := hr (by rw [h0]; simp)
        cases he
    subst hk
    have hc0 := hn rfl
    subst hc0
    refine wpList_append_own_none hgd s x t ho base e i 1 ht hi v l.length (kVals κ l) hs hown hx (h v w (by simpa using hown) (World.grownBy.refl w _))
  | some ad =>
    have hnews : ∀ j u, (kVals κ k)[j]? = some u → w.cell? (ad.add j) = some u := by
      intro j u hu
      obtain ⟨hj, rfl⟩ := kVals_at κ k j u hu
      obtain ⟨b, off, he, _, hrun⟩ := hr (by rintro rfl; simp at hj)
      injection he with he
      subst he
      rw [← hrun j hj]
      by_cases h0 : j = 0 <;> simp [Addr.add, h0]
    refine wpList_append_own w hgd s x t ho base e i (.int κ 0) 1 nb ht hi hz hsize hby rfl (by decide) v l.length (kVals κ l) hs hown ad k.length c (kVals κ k) hx (by simp [kVals]) hnews (kVals_one κ k)
      (by unfold maxLen; omega) h47 hbase ?_
    intro v' w' h1 h2 _
    exact h v' w' (by simpa [OwnK, kVals] using h1) h2
end Go.Proofs.Ytompcibcgfjpfaa
