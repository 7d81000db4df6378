/- Plain words for memory: a block that is known whole, a slice that reads as a list of bytes, and what keeps them. No program. -/
import Derived.Below
import Derived.Laws.OwnMore
import Derived.Deep.AppendLies
import Derived.Deep.Draws
import Derived.Laws.Rows
import Derived.OwnWalk
import Derived.Maps.AppendAt
import Derived.Laws.AppendOwnNone
import Derived.Tactics
namespace Go.Proofs.Ytompcibcgfjpfaa
open Go.RowKit

/-- Block g is just these cells of type t, and none of them is frozen. -/
def Box (w : World) (g : Nat) (t : TypeId) (cs : Array Value) : Prop := w.heap[g]? = some (.cells cs t (0, 0))
/-- Block k of w' is as it was in w, for each old block but g. -/
def Only (g : Nat) (w w' : World) : Prop := w.grownBy w' (some g)

theorem heap_setCell_self {w : World} {g t : Nat} {cs : Array Value} (h : w.heap[g]? = some (.cells cs t (0, 0))) (i : Nat) (u : Value) :
    (w.setCell ⟨g, i, none⟩ u).heap[g]? = some (.cells (cs.setIfInBounds i u) t (0, 0)) := by
  simp [World.setCell, Array.getElem?_modify, h]
theorem setCell_size (w : World) (p : Addr) (u : Value) : (w.setCell p u).heap.size = w.heap.size := by simp [World.setCell]

section
variable {w w' w2 : World} {g t : Nat} {cs : Array Value}
theorem Box.lt (h : Box w g t cs) : g < w.heap.size := by
  have h' : w.heap[g]? = some (.cells cs t (0, 0)) := h
  rcases Nat.lt_or_ge g w.heap.size with hl | hl
  · exact hl
  · rw [Array.getElem?_eq_none hl] at h'; cases h'
theorem Box.cell (h : Box w g t cs) (i : Nat) : w.cell? ⟨g, i, none⟩ = cs[i]? := cell_of_row w g i cs t (0, 0) h
theorem Box.warm (h : Box w g t cs) (i : Nat) : w.frozen? ⟨g, i, none⟩ = false := by
  have h' : w.heap[g]? = some (.cells cs t (0, 0)) := h
  simp [World.frozen?, h']
theorem Box.fresh (w : World) (t : Nat) (cs : Array Value) : Box (w.alloc (.cells cs t)) w.heap.size t cs := heap_alloc_new w _
theorem Box.keep (h : Box w g t cs) {g' : Nat} (hk : Only g' w w') (hne : g ≠ g') : Box w' g t cs := (hk.block g h.lt (by simpa using hne)).trans h
theorem Box.below (h : Box w g t cs) (hk : Below w.heap.size w w') : Box w' g t cs := (hk.block g h.lt).trans h
theorem Box.set (h : Box w g t cs) (i : Nat) (u : Value) : Box (w.setCell ⟨g, i, none⟩ u) g t (cs.setIfInBounds i u) := heap_setCell_self h i u

theorem Only.refl (g : Nat) (w : World) : Only g w w := World.grownBy.refl w _
theorem Only.trans (h : Only g w w') (k : Only g w' w2) : Only g w w2 := World.grownBy.trans h k
theorem Only.of_below (h : Below w.heap.size w w') : Only g w w' := ⟨h.os, h.tape, h.output, h.size, fun k hk _ => h.block k hk⟩
theorem Only.set (h : Only g w w') (i : Nat) (u : Value) : Only g w (w'.setCell ⟨g, i, none⟩ u) :=
  ⟨h.os, h.tape, h.output, by rw [setCell_size]; exact h.size, fun k hk hne => (Below.heap_setCell w' _ u k (by simpa using hne)).trans (h.block k hk hne)⟩
theorem Only.drawn (h : Only g w w') (n : Nat) : Only g w (w'.drewN n) := ⟨h.os, h.tape, h.output, h.size, h.block⟩
theorem Only.big (h : Only g w w') : w.heap.size ≤ w'.heap.size := h.size
/-- What turns a block that is new alone leaves all that was there. -/
theorem Only.below {w0 : World} (hb : Below w0.heap.size w0 w) (h : Only g w w') (hg : w0.heap.size ≤ g) : Below w0.heap.size w0 w' :=
  ⟨h.os.trans hb.os, h.tape.trans hb.tape, h.output.trans hb.output, Nat.le_trans hb.size h.size, fun k hk => (h.block k (Nat.lt_of_lt_of_le hk hb.size) (by simp; omega)).trans (hb.block k hk)⟩
end

/-- Numbers that are bytes. -/
def Bys (l : List Int) : Prop := ∀ x ∈ l, 0 ≤ x ∧ x ≤ 255
theorem Bys.take {l : List Int} (h : Bys l) (n : Nat) : Bys (l.take n) := fun x hx => h x (List.mem_of_mem_take hx)
theorem Bys.drop {l : List Int} (h : Bys l) (n : Nat) : Bys (l.drop n) := fun x hx => h x (List.mem_of_mem_drop hx)
theorem Bys.nil : Bys [] := fun x hx => by cases hx
theorem Bys.app {l k : List Int} (h : Bys l) (h' : Bys k) : Bys (l ++ k) := fun x hx => by
  rcases List.mem_append.1 hx with hx | hx
  · exact h x hx
  · exact h' x hx
theorem Bys.at {l : List Int} (h : Bys l) (i : Nat) : 0 ≤ l.getD i 0 ∧ l.getD i 0 ≤ 255 := by
  rw [List.getD_eq_getElem?_getD]
  cases hi : l[i]? with
  | none => simp
  | some x => simpa using h x (List.mem_of_getElem? hi)

/-- The cells from place 'off' of block b on are the bytes l. -/
def Run (w : World) (b off : Nat) (l : List Int) : Prop := ∀ i, i < l.length → w.cell? ⟨b, off + i, none⟩ = some (.int .u8 (l.getD i 0))
/-- The slice v reads as the bytes l; it does not lie in block g. -/
def Sl (w : World) (g : Nat) (v : Value) (l : List Int) : Prop :=
  ∃ A c, v = .slice A l.length c ∧ l.length ≤ c ∧ (A = none → c = 0) ∧ (l ≠ [] → ∃ b off, A = some ⟨b, off, none⟩ ∧ b ≠ g ∧ b < w.heap.size ∧ Run w b off l)

section
variable {w w' : World} {g : Nat} {v : Value} {l : List Int}
theorem Sl.nil (w : World) (g : Nat) : Sl w g (.slice none 0 0) [] := ⟨none, 0, rfl, Nat.le_refl _, fun _ => rfl, fun h => absurd rfl h⟩
theorem Sl.keep (h : Sl w g v l) (hk : ∀ b, b < w.heap.size → b ≠ g → w'.heap[b]? = w.heap[b]?) (hz : w.heap.size ≤ w'.heap.size) : Sl w' g v l := by
  obtain ⟨A, c, rfl, hc, hn, hr⟩ := h
  refine ⟨A, c, rfl, hc, hn, fun hl => ?_⟩
  obtain ⟨b, off, rfl, hb, hlt, hrun⟩ := hr hl
  exact ⟨b, off, rfl, hb, by omega, fun i hi => (World.cell?_of_block (hk b hlt hb)).trans (hrun i hi)⟩
theorem Sl.only (h : Sl w g v l) (hk : Only g w w') : Sl w' g v l := h.keep (fun b hb hne => hk.block b hb (by simpa using hne)) hk.size
theorem Sl.below (h : Sl w g v l) (hk : Below w.heap.size w w') : Sl w' g v l := h.keep (fun b hb _ => hk.block b hb) hk.size
/-- Nothing lies in a block that is not there yet. -/
theorem Sl.free (h : Sl w g v l) (g' : Nat) (hg : w.heap.size ≤ g') : Sl w g' v l := by
  obtain ⟨A, c, rfl, hc, hn, hr⟩ := h
  refine ⟨A, c, rfl, hc, hn, fun hl => ?_⟩
  obtain ⟨b, off, rfl, _, hlt, hrun⟩ := hr hl
  exact ⟨b, off, rfl, by omega, hlt, hrun⟩
theorem Run.take {b off : Nat} (h : Run w b off l) (n : Nat) : Run w b off (l.take n) := fun i hi => by
  have hi' : i < n ∧ i < l.length := by rw [List.length_take] at hi; omega
  rw [h i hi'.2]
  simp [List.getD_eq_getElem?_getD, hi'.1]
theorem Run.drop {b off : Nat} (h : Run w b off l) (n : Nat) : Run w b (off + n) (l.drop n) := fun i hi => by
  have hi' : n + i < l.length := by simp [List.length_drop] at hi; omega
  rw [show off + n + i = off + (n + i) from by omega, h (n + i) hi']
  simp [List.getD_eq_getElem?_getD, List.getElem?_drop]
end

/-- The numbers as the cells of bytes. -/
def byteVals (l : List Int) : List Value := l.map (Value.int .u8)
theorem byteVals_at (l : List Int) (j : Nat) (u : Value) (h : (byteVals l)[j]? = some u) : j < l.length ∧ u = .int .u8 (l.getD j 0) := by
  unfold byteVals at h
  rw [List.getElem?_map] at h
  cases hj : l[j]? with
  | none => rw [hj] at h; cases h
  | some x =>
    rw [hj] at h
    refine ⟨(List.getElem?_eq_some_iff.1 hj).1, ?_⟩
    rw [List.getD_eq_getElem?_getD, hj]
    simpa using h.symm
theorem byteVals_one (l : List Int) : ∀ u ∈ byteVals l, u.oneCell' = true := by
  intro u hu
  unfold byteVals at hu
  obtain ⟨x, _, rfl⟩ := List.mem_map.1 hu
  rfl

/-- v is a slice of the call's own, made from block 'base' on, that reads as the bytes l. e: the type of a byte. -/
def Own (w : World) (base e : Nat) (v : Value) (l : List Int) : Prop := w.ownsRow base e 1 v l.length (byteVals l)
theorem Own.form {w : World} {base e : Nat} {v : Value} {l : List Int} (h : Own w base e v l) :
    (v = .slice none 0 0 ∧ l = []) ∨ ∃ g cap cur, v = .slice (some ⟨g, 0, none⟩) l.length cap ∧ base ≤ g ∧ Box w g e cur ∧ l.length ≤ cap ∧ cap ≤ maxLen ∧ cur.size = cap ∧ cur.toList.take l.length = byteVals l := by
  rcases h.2 with ⟨h1, h2⟩ | ⟨g, cap, cur, h1, h2, h3, h4, h5, h6, h7⟩
  · exact .inl ⟨h1, List.eq_nil_of_length_eq_zero h2⟩
  · exact .inr ⟨g, cap, cur, h1, h2, h3, h4, h5, by simpa using h6, by simpa using h7⟩
theorem Own.slice {w : World} {base e : Nat} {v : Value} {l : List Int} (h : Own w base e v l) : ∃ A c, v = .slice A l.length c := by
  rcases h.form with ⟨rfl, rfl⟩ | ⟨g, cap, _, rfl, _⟩
  · exact ⟨_, _, rfl⟩
  · exact ⟨_, _, rfl⟩
theorem Own.sl {w : World} {base e : Nat} {v : Value} {l : List Int} (h : Own w base e v l) (g : Nat) (hg : g < base ∨ w.heap.size ≤ g) : Sl w g v l := by
  rcases h.form with ⟨rfl, rfl⟩ | ⟨g', cap, cur, rfl, hb, hx, hc, hm, hz, ht⟩
  · exact Sl.nil w g
  · refine ⟨_, cap, rfl, hc, (fun h => by cases h), fun _ => ⟨g', 0, rfl, ?_, hx.lt, fun i hi => ?_⟩⟩
    · have := hx.lt; omega
    · rw [hx.cell, Nat.zero_add]
      have hu : (byteVals l)[i]? = some (.int .u8 (l.getD i 0)) := by
        unfold byteVals
        rw [List.getElem?_map, List.getElem?_eq_getElem hi, List.getD_eq_getElem?_getD, List.getElem?_eq_getElem hi]
        rfl
      rw [← ht, List.getElem?_take, if_pos hi] at hu
      simpa using hu
theorem Own.keep {w w' : World} {base e : Nat} {v : Value} {l : List Int} (h : Own w base e v l) {row : Option Nat} (hg : w.grownBy w' row) (hne : v.ownBlock = none ∨ v.ownBlock ≠ row) : Own w' base e v l := World.ownsRow.kept h hg hne
theorem Own.below {w w' : World} {base e : Nat} {v : Value} {l : List Int} (h : Own w base e v l) (hb : Below w.heap.size w w') : Own w' base e v l :=
  h.keep (row := none) ⟨hb.os, hb.tape, hb.output, hb.size, fun k hk _ => hb.block k hk⟩ (by cases hv : v.ownBlock <;> simp)
theorem Own.less {w : World} {base base' e : Nat} {v : Value} {l : List Int} (h : Own w base e v l) (hb : base' ≤ base) : Own w base' e v l := by
  refine ⟨h.1, ?_⟩
  rcases h.2 with h2 | ⟨g, cap, cur, hv, hg, r⟩
  · exact .inl h2
  · exact .inr ⟨g, cap, cur, hv, by omega, r⟩

/-- append(v, x...) onto a slice of the call's own, the source any slice of bytes. -/
theorem wpList_append_bytes {P : Program} {w : World} {ops : Array Oper} {rest : List Oper} {o : Oper} {a : Act} {Q : Exit → Act → World → Prop} (hgd : o.guard = none) (s x : Operand) (t : TypeId)
    (ho : o.op = .call { callee := .builtin .append, args := #[s, x], argTypes := #[t, t] })
    (base e : TypeId) (i : TypeInfo) (ht : P.underlying t = some (.slice e)) (hi : P.info? e = some i) (hz : i.zero = some (.int .u8 0)) (hsize : i.size = 1) (hby : i.bytes = 1)
    (v : Value) (l : List Int) (hs : a.eval s = v) (hown : Own w base e v l)
    (g : Nat) (u : Value) (k : List Int) (hx : a.eval x = u) (hsl : Sl w g u k) (h47 : l.length + k.length ≤ 140737488355328) (hbase : base ≤ w.heap.size)
    (h : ∀ v' w', Own w' base e v' (l ++ k) → w.grownBy w' v.ownBlock → wpList P ops Q rest (a.put o.dst v') w') : wpList P ops Q (o :: rest) a w := by
  obtain ⟨A, c, rfl, hc, hn, hr⟩ := hsl
  have hcat : ∀ W, W.ownsRow base e 1 v (l.length + k.length) (byteVals l ++ byteVals k) = Own W base e v (l ++ k) := fun W => by simp [Own, byteVals]
  cases A with
  | none =>
    have hk : k = [] := by
      rcases List.eq_nil_or_concat k with h0 | ⟨_, _, h0⟩
      · exact h0
      · obtain ⟨_, _, he, _⟩ := hr (by rw [h0]; simp)
        cases he
    subst hk
    have hc0 := hn rfl
    subst hc0
    refine wpList_append_own_none hgd s x t ho base e i 1 ht hi v l.length (byteVals l) hs hown hx (h v w (by simpa using hown) (World.grownBy.refl w _))
  | some ad =>
    have hnews : ∀ j u, (byteVals k)[j]? = some u → w.cell? (ad.add j) = some u := by
      intro j u hu
      obtain ⟨hj, rfl⟩ := byteVals_at k j u hu
      obtain ⟨b, off, he, _, _, hrun⟩ := hr (by rintro rfl; simp at hj)
      injection he with he
      subst he
      rw [← hrun j hj]
      by_cases h0 : j = 0 <;> simp [Addr.add, h0]
    refine wpList_append_own w hgd s x t ho base e i (.int .u8 0) 1 1 ht hi hz hsize hby rfl (by decide) v l.length (byteVals l) hs hown ad k.length c (byteVals k) hx (by simp [byteVals]) hnews (byteVals_one k)
      (by unfold maxLen; omega) (by omega) hbase ?_
    intro v' w' h1 h2 _
    exact h v' w' (by simpa [Own, byteVals] using h1) h2

/-- The same, as one step of a region that draws its order. -/
theorem step_append_bytes {P : Program} {w : World} {ops : Array Oper} {o : Oper} {a : Act} {K : Act → World → Prop} {Q : Exit → Act → World → Prop} {E : Prop} (hgd : o.guard = none) (s x : Operand) (t : TypeId)
    (ho : o.op = .call { callee := .builtin .append, args := #[s, x], argTypes := #[t, t] })
    (base e : TypeId) (i : TypeInfo) (ht : P.underlying t = some (.slice e)) (hi : P.info? e = some i) (hz : i.zero = some (.int .u8 0)) (hsize : i.size = 1) (hby : i.bytes = 1)
    (v : Value) (l : List Int) (hs : a.eval s = v) (hown : Own w base e v l)
    (g : Nat) (u : Value) (k : List Int) (hx : a.eval x = u) (hsl : Sl w g u k) (h47 : l.length + k.length ≤ 140737488355328) (hbase : base ≤ w.heap.size)
    (h : ∀ v' w', Own w' base e v' (l ++ k) → w.grownBy w' v.ownBlock → K (a.put o.dst v') w') :
    if Region.wanted o (yielded ops a.tmps) = true then Oper.wp P o a w K Q else E := by
  have hwd : Region.wanted o (yielded ops a.tmps) = true := by simp [Region.wanted, hgd]
  rw [if_pos hwd]
  obtain ⟨A, c, rfl, hc, hn, hr⟩ := hsl
  cases A with
  | none =>
    have hk : k = [] := by
      by_cases h0 : k = []
      · exact h0
      · obtain ⟨_, _, he, _⟩ := hr h0
        cases he
    subst hk
    have hc0 := hn rfl
    subst hc0
    have hrun := run_append_owned_none (P := P) (w := w) base t o.type e i 1 ht hi v l.length (byteVals l) hown
    unfold Oper.wp
    simp only [execOp, ho, resolve, invoke, builtin, Sem.run_bind, Sem.run_pure, Result.andThen_ok, List.map_toArray, List.map_cons, List.map_nil, hs, hx]
    rw [show Value.slice none ([] : List Int).length 0 = Value.slice none 0 0 from rfl, hrun]
    exact h v w (by simpa using hown) (World.grownBy.refl w _)
  | some ad =>
    have hnews : ∀ j u, (byteVals k)[j]? = some u → w.cell? (ad.add j) = some u := by
      intro j u hu
      obtain ⟨hj, rfl⟩ := byteVals_at k j u hu
      obtain ⟨b, off, he, _, _, hrun⟩ := hr (by rintro rfl; simp at hj)
      injection he with he
      subst he
      rw [← hrun j hj]
      by_cases h0 : j = 0 <;> simp [Addr.add, h0]
    refine wp_append_own w s x t ho base e i (.int .u8 0) 1 1 ht hi hz hsize hby rfl (by decide) v l.length (byteVals l) hs hown ad k.length c (byteVals k) hx (by simp [byteVals]) hnews (byteVals_one k)
      (by unfold maxLen; omega) (by omega) hbase ?_
    intro v' w' h1 h2 _
    exact h v' w' (by simpa [Own, byteVals] using h1) h2

/-- A byte stored into a slice of the call's own. -/
theorem own_set {w : World} {base e g n cap : Nat} {l : List Int} (h : Own w base e (.slice (some ⟨g, 0, none⟩) n cap) l) (q : Nat) (y : Int) :
    Own (w.setCell ⟨g, q, none⟩ (.int .u8 y)) base e (.slice (some ⟨g, 0, none⟩) n cap) (l.set q y) := by
  rcases h.form with ⟨h1, _⟩ | ⟨g', cap', cur, h1, hb, hx, hc, hm, hz, ht⟩
  · cases h1
  · injection h1 with h2 h3 h4
    injection h2 with h2
    injection h2 with h2 _
    subst h2
    subst h3
    subst h4
    refine ⟨by simp [byteVals], .inr ⟨g, cap, _, by rw [List.length_set], hb, hx.set q (.int .u8 y), by rw [List.length_set]; exact hc, hm, by simpa using hz, ?_⟩⟩
    rw [List.length_set, Nat.mul_one, Array.toList_setIfInBounds, List.take_set, ht]
    simp [byteVals, List.map_set]
theorem own_set_same {w : World} {base e g n cap : Nat} {l : List Int} (h : Own w base e (.slice (some ⟨g, 0, none⟩) n cap) l) (q : Nat) (hq : q < l.length) : (∃ z, w.cell? ⟨g, q, none⟩ = some (.int .u8 z)) ∧ w.frozen? ⟨g, q, none⟩ = false ∧ base ≤ g ∧ n = l.length := by
  rcases h.form with ⟨h1, _⟩ | ⟨g', cap', cur, h1, hb, hx, hc, hm, hz, ht⟩
  · cases h1
  · injection h1 with h2 h3 h4
    injection h2 with h2
    injection h2 with h2 _
    subst h2
    have hu := congrArg (fun z : List Value => z[q]?) ht
    simp only [List.getElem?_take, if_pos hq] at hu
    rw [Array.getElem?_toList] at hu
    refine ⟨⟨l[q], ?_⟩, hx.warm q, hb, h3⟩
    rw [hx.cell, hu]
    simp [byteVals, List.getElem?_eq_getElem hq]
end Go.Proofs.Ytompcibcgfjpfaa
