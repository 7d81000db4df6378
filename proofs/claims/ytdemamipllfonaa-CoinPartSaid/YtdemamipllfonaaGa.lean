/- Plain words for memory: a block that is known whole, a slice that reads as a list of bytes, and what keeps them. No program. Transactions in memory: slices whose elements have several cells, rows of bytes, inputs, outputs; what keeps them. No program. Contracts of package wire's Reader, its small calls: fail, Ok, End, next. Plain numbers: the number of some bytes, the lowest first. No program. Contracts of package wire: bytes.Clone, Take, Read. Contracts of package txns: what asks a transaction's lengths. Contracts of package txns: May, and whether there is a witness. -/
import Derived.Below
import Derived.Laws.OwnMore
import Derived.Deep.AppendLies
import Derived.Deep.Draws
import Derived.Laws.Rows
import Derived.OwnWalk
import Derived.Maps.AppendAt
import Derived.Laws.AppendOwnNone
import Derived.Tactics
import Derived.Deep.MidRow
import Derived.Test.YtdemamipllfonaaRows
import Derived.WalkKit
import Derived.WalkSpells
import Derived.WalkLawsBesides
import Derived.Lib.Hide
import Derived.Outline
import Derived.Laws.BitsAllLaws
import Derived.Laws.Bits64
import Derived.Shelf.Abstract
namespace Go.Proofs.Ytdemamipllfonaa

section
open Go.RowKit

/-- Block g is just these cells of type t, and none of them is frozen. -/
def Box (w : World) (g : Nat) (t : TypeId) (cs : Array Value) : Prop := w.heap[g]? = some (.cells cs t (0, 0))
/-- Block k of w' is as it was in w, for each old block but g. -/
def Only (g : Nat) (w w' : World) : Prop := w.grownBy w' (some g)

theorem heap_setCell_self {w : World} {g t : Nat} {cs : Array Value} (h : w.heap[g]? = some (.cells cs t (0, 0))) (i : Nat) (u : Value) :
    (w.setCell ⟨g, i, none⟩ u).heap[g]? = some (.cells (cs.setIfInBounds i u) t (0, 0)) := by
  simp [World.setCell, Array.getElem?_modify, h]
theorem setCell_size (w : World) (p : Addr) (u : Value) : (w.setCell p u).heap.size = w.heap.size := by simp [World.setCell]

section
variable {w w' w2 : World} {g t : Nat} {cs : Array Value}
theorem Box.lt (h : Box w g t cs) : g < w.heap.size := by
  have h' : w.heap[g]? = some (.cells cs t (0, 0)) := h
  rcases Nat.lt_or_ge g w.heap.size with hl | hl
  · exact hl
  · rw [Array.getElem?_eq_none hl] at h'; cases h'
theorem Box.cell (h : Box w g t cs) (i : Nat) : w.cell? ⟨g, i, none⟩ = cs[i]? := cell_of_row w g i cs t (0, 0) h
theorem Box.warm (h : Box w g t cs) (i : Nat) : w.frozen? ⟨g, i, none⟩ = false := by
  have h' : w.heap[g]? = some (.cells cs t (0, 0)) := h
  simp [World.frozen?, h']
theorem Box.fresh (w : World) (t : Nat) (cs : Array Value) : Box (w.alloc (.cells cs t)) w.heap.size t cs := heap_alloc_new w _
theorem Box.keep (h : Box w g t cs) {g' : Nat} (hk : Only g' w w') (hne : g ≠ g') : Box w' g t cs := (hk.block g h.lt (by simpa using hne)).trans h
theorem Box.below (h : Box w g t cs) (hk : Below w.heap.size w w') : Box w' g t cs := (hk.block g h.lt).trans h
theorem Box.set (h : Box w g t cs) (i : Nat) (u : Value) : Box (w.setCell ⟨g, i, none⟩ u) g t (cs.setIfInBounds i u) := heap_setCell_self h i u

theorem Only.refl (g : Nat) (w : World) : Only g w w := World.grownBy.refl w _
theorem Only.trans (h : Only g w w') (k : Only g w' w2) : Only g w w2 := World.grownBy.trans h k
theorem Only.of_below (h : Below w.heap.size w w') : Only g w w' := ⟨h.os, h.tape, h.output, h.size, fun k hk _ => h.block k hk⟩
theorem Only.set (h : Only g w w') (i : Nat) (u : Value) : Only g w (w'.setCell ⟨g, i, none⟩ u) :=
  ⟨h.os, h.tape, h.output, by rw [setCell_size]; exact h.size, fun k hk hne => (Below.heap_setCell w' _ u k (by simpa using hne)).trans (h.block k hk hne)⟩
theorem Only.drawn (h : Only g w w') (n : Nat) : Only g w (w'.drewN n) := ⟨h.os, h.tape, h.output, h.size, h.block⟩
theorem Only.big (h : Only g w w') : w.heap.size ≤ w'.heap.size := h.size
/-- What turns a block that is new alone leaves all that was there. -/
theorem Only.below {w0 : World} (hb : Below w0.heap.size w0 w) (h : Only g w w') (hg : w0.heap.size ≤ g) : Below w0.heap.size w0 w' :=
  ⟨h.os.trans hb.os, h.tape.trans hb.tape, h.output.trans hb.output, Nat.le_trans hb.size h.size, fun k hk => (h.block k (Nat.lt_of_lt_of_le hk hb.size) (by simp; omega)).trans (hb.block k hk)⟩
end

/-- Numbers that are bytes. -/
def Bys (l : List Int) : Prop := ∀ x ∈ l, 0 ≤ x ∧ x ≤ 255
theorem Bys.take {l : List Int} (h : Bys l) (n : Nat) : Bys (l.take n) := fun x hx => h x (List.mem_of_mem_take hx)
theorem Bys.drop {l : List Int} (h : Bys l) (n : Nat) : Bys (l.drop n) := fun x hx => h x (List.mem_of_mem_drop hx)
theorem Bys.nil : Bys [] := fun x hx => by cases hx
theorem Bys.app {l k : List Int} (h : Bys l) (h' : Bys k) : Bys (l ++ k) := fun x hx => by
  rcases List.mem_append.1 hx with hx | hx
  · exact h x hx
  · exact h' x hx
theorem Bys.at {l : List Int} (h : Bys l) (i : Nat) : 0 ≤ l.getD i 0 ∧ l.getD i 0 ≤ 255 := by
  rw [List.getD_eq_getElem?_getD]
  cases hi : l[i]? with
  | none => simp
  | some x => simpa using h x (List.mem_of_getElem? hi)

/-- The cells from place 'off' of block b on are the bytes l. -/
def Run (w : World) (b off : Nat) (l : List Int) : Prop := ∀ i, i < l.length → w.cell? ⟨b, off + i, none⟩ = some (.int .u8 (l.getD i 0))
/-- The slice v reads as the bytes l; it does not lie in block g. -/
def Sl (w : World) (g : Nat) (v : Value) (l : List Int) : Prop :=
  ∃ A c, v = .slice A l.length c ∧ l.length ≤ c ∧ (A = none → c = 0) ∧ (l ≠ [] → ∃ b off, A = some ⟨b, off, none⟩ ∧ b ≠ g ∧ b < w.heap.size ∧ Run w b off l)

section
variable {w w' : World} {g : Nat} {v : Value} {l : List Int}
theorem Sl.nil (w : World) (g : Nat) : Sl w g (.slice none 0 0) [] := ⟨none, 0, rfl, Nat.le_refl _, fun _ => rfl, fun h => absurd rfl h⟩
theorem Sl.keep (h : Sl w g v l) (hk : ∀ b, b < w.heap.size → b ≠ g → w'.heap[b]? = w.heap[b]?) (hz : w.heap.size ≤ w'.heap.size) : Sl w' g v l := by
  obtain ⟨A, c, rfl, hc, hn, hr⟩ := h
  refine ⟨A, c, rfl, hc, hn, fun hl => ?_⟩
  obtain ⟨b, off, rfl, hb, hlt, hrun⟩ := hr hl
  exact ⟨b, off, rfl, hb, by omega, fun i hi => (World.cell?_of_block (hk b hlt hb)).trans (hrun i hi)⟩
theorem Sl.only (h : Sl w g v l) (hk : Only g w w') : Sl w' g v l := h.keep (fun b hb hne => hk.block b hb (by simpa using hne)) hk.size
theorem Sl.below (h : Sl w g v l) (hk : Below w.heap.size w w') : Sl w' g v l := h.keep (fun b hb _ => hk.block b hb) hk.size
/-- Nothing lies in a block that is not there yet. -/
theorem Sl.free (h : Sl w g v l) (g' : Nat) (hg : w.heap.size ≤ g') : Sl w g' v l := by
  obtain ⟨A, c, rfl, hc, hn, hr⟩ := h
  refine ⟨A, c, rfl, hc, hn, fun hl => ?_⟩
  obtain ⟨b, off, rfl, _, hlt, hrun⟩ := hr hl
  exact ⟨b, off, rfl, by omega, hlt, hrun⟩
theorem Run.take {b off : Nat} (h : Run w b off l) (n : Nat) : Run w b off (l.take n) := fun i hi => by
  have hi' : i < n ∧ i < l.length := by rw [List.length_take] at hi; omega
  rw [h i hi'.2]
  simp [List.getD_eq_getElem?_getD, hi'.1]
theorem Run.drop {b off : Nat} (h : Run w b off l) (n : Nat) : Run w b (off + n) (l.drop n) := fun i hi => by
  have hi' : n + i < l.length := by simp [List.length_drop] at hi; omega
  rw [show off + n + i = off + (n + i) from by omega, h (n + i) hi']
  simp [List.getD_eq_getElem?_getD, List.getElem?_drop]
end

/-- The numbers as the cells of bytes. -/
def byteVals (l : List Int) : List Value := l.map (Value.int .u8)
theorem byteVals_at (l : List Int) (j : Nat) (u : Value) (h : (byteVals l)[j]? = some u) : j < l.length ∧ u = .int .u8 (l.getD j 0) := by
  unfold byteVals at h
  rw [List.getElem?_map] at h
  cases hj : l[j]? with
  | none => rw [hj] at h; cases h
  | some x =>
    rw [hj] at h
    refine ⟨(List.getElem?_eq_some_iff.1 hj).1, ?_⟩
    rw [List.getD_eq_getElem?_getD, hj]
    simpa using h.symm
theorem byteVals_one (l : List Int) : ∀ u ∈ byteVals l, u.oneCell' = true := by
  intro u hu
  unfold byteVals at hu
  obtain ⟨x, _, rfl⟩ := List.mem_map.1 hu
  rfl

/-- v is a slice of the call's own, made from block 'base' on, that reads as the bytes l. e: the type of a byte. -/
def Own (w : World) (base e : Nat) (v : Value) (l : List Int) : Prop := w.ownsRow base e 1 v l.length (byteVals l)
theorem Own.form {w : World} {base e : Nat} {v : Value} {l : List Int} (h : Own w base e v l) :
    (v = .slice none 0 0 ∧ l = []) ∨ ∃ g cap cur, v = .slice (some ⟨g, 0, none⟩) l.length cap ∧ base ≤ g ∧ Box w g e cur ∧ l.length ≤ cap ∧ cap ≤ maxLen ∧ cur.size = cap ∧ cur.toList.take l.length = byteVals l := by
  rcases h.2 with ⟨h1, h2⟩ | ⟨g, cap, cur, h1, h2, h3, h4, h5, h6, h7⟩
  · exact .inl ⟨h1, List.eq_nil_of_length_eq_zero h2⟩
  · exact .inr ⟨g, cap, cur, h1, h2, h3, h4, h5, by simpa using h6, by simpa using h7⟩
theorem Own.slice {w : World} {base e : Nat} {v : Value} {l : List Int} (h : Own w base e v l) : ∃ A c, v = .slice A l.length c := by
  rcases h.form with ⟨rfl, rfl⟩ | ⟨g, cap, _, rfl, _⟩
  · exact ⟨_, _, rfl⟩
  · exact ⟨_, _, rfl⟩
theorem Own.sl {w : World} {base e : Nat} {v : Value} {l : List Int} (h : Own w base e v l) (g : Nat) (hg : g < base ∨ w.heap.size ≤ g) : Sl w g v l := by
  rcases h.form with ⟨rfl, rfl⟩ | ⟨g', cap, cur, rfl, hb, hx, hc, hm, hz, ht⟩
  · exact Sl.nil w g
  · refine ⟨_, cap, rfl, hc, (fun h => by cases h), fun _ => ⟨g', 0, rfl, ?_, hx.lt, fun i hi => ?_⟩⟩
    · have := hx.lt; omega
    · rw [hx.cell, Nat.zero_add]
      have hu : (byteVals l)[i]? = some (.int .u8 (l.getD i 0)) := by
        unfold byteVals
        rw [List.getElem?_map, List.getElem?_eq_getElem hi, List.getD_eq_getElem?_getD, List.getElem?_eq_getElem hi]
        rfl
      rw [← ht, List.getElem?_take, if_pos hi] at hu
      simpa using hu
theorem Own.keep {w w' : World} {base e : Nat} {v : Value} {l : List Int} (h : Own w base e v l) {row : Option Nat} (hg : w.grownBy w' row) (hne : v.ownBlock = none ∨ v.ownBlock ≠ row) : Own w' base e v l := World.ownsRow.kept h hg hne
theorem Own.below {w w' : World} {base e : Nat} {v : Value} {l : List Int} (h : Own w base e v l) (hb : Below w.heap.size w w') : Own w' base e v l :=
  h.keep (row := none) ⟨hb.os, hb.tape, hb.output, hb.size, fun k hk _ => hb.block k hk⟩ (by cases hv : v.ownBlock <;> simp)
theorem Own.less {w : World} {base base' e : Nat} {v : Value} {l : List Int} (h : Own w base e v l) (hb : base' ≤ base) : Own w base' e v l := by
  refine ⟨h.1, ?_⟩
  rcases h.2 with h2 | ⟨g, cap, cur, hv, hg, r⟩
  · exact .inl h2
  · exact .inr ⟨g, cap, cur, hv, by omega, r⟩

/-- append(v, x...) onto a slice of the call's own, the source any slice of bytes. -/
theorem wpList_append_bytes {P : Program} {w : World} {ops : Array Oper} {rest : List Oper} {o : Oper} {a : Act} {Q : Exit → Act → World → Prop} (hgd : o.guard = none) (s x : Operand) (t : TypeId)
    (ho : o.op = .call { callee := .builtin .append, args := #[s, x], argTypes := #[t, t] })
    (base e : TypeId) (i : TypeInfo) (ht : P.underlying t = some (.slice e)) (hi : P.info? e = some i) (hz : i.zero = some (.int .u8 0)) (hsize : i.size = 1) (hby : i.bytes = 1)
    (v : Value) (l : List Int) (hs : a.eval s = v) (hown : Own w base e v l)
    (g : Nat) (u : Value) (k : List Int) (hx : a.eval x = u) (hsl : Sl w g u k) (h47 : l.length + k.length ≤ 140737488355328) (hbase : base ≤ w.heap.size)
    (h : ∀ v' w', Own w' base e v' (l ++ k) → w.grownBy w' v.ownBlock → wpList P ops Q rest (a.put o.dst v') w') : wpList P ops Q (o :: rest) a w := by
  obtain ⟨A, c, rfl, hc, hn, hr⟩ := hsl
  have hcat : ∀ W, W.ownsRow base e 1 v (l.length + k.length) (byteVals l ++ byteVals k) = Own W base e v (l ++ k) := fun W => by simp [Own, byteVals]
  cases A with
  | none =>
    have hk : k = [] := by
      rcases List.eq_nil_or_concat k with h0 | ⟨_, _, h0⟩
      · exact h0
      · obtain ⟨_, _, he, _⟩ := hr (by rw [h0]; simp)
        cases he
    subst hk
    have hc0 := hn rfl
    subst hc0
    refine wpList_append_own_none hgd s x t ho base e i 1 ht hi v l.length (byteVals l) hs hown hx (h v w (by simpa using hown) (World.grownBy.refl w _))
  | some ad =>
    have hnews : ∀ j u, (byteVals k)[j]? = some u → w.cell? (ad.add j) = some u := by
      intro j u hu
      obtain ⟨hj, rfl⟩ := byteVals_at k j u hu
      obtain ⟨b, off, he, _, _, hrun⟩ := hr (by rintro rfl; simp at hj)
      injection he with he
      subst he
      rw [← hrun j hj]
      by_cases h0 : j = 0 <;> simp [Addr.add, h0]
    refine wpList_append_own w hgd s x t ho base e i (.int .u8 0) 1 1 ht hi hz hsize hby rfl (by decide) v l.length (byteVals l) hs hown ad k.length c (byteVals k) hx (by simp [byteVals]) hnews (byteVals_one k)
      (by unfold maxLen; omega) (by omega) hbase ?_
    intro v' w' h1 h2 _
    exact h v' w' (by simpa [Own, byteVals] using h1) h2

/-- The same, as one step of a region that draws its order. -/
theorem step_append_bytes {P : Program} {w : World} {ops : Array Oper} {o : Oper} {a : Act} {K : Act → World → Prop} {Q : Exit → Act → World → Prop} {E : Prop} (hgd : o.guard = none) (s x : Operand) (t : TypeId)
    (ho : o.op = .call { callee := .builtin .append, args := #[s, x], argTypes := #[t, t] })
    (base e : TypeId) (i : TypeInfo) (ht : P.underlying t = some (.slice e)) (hi : P.info? e = some i) (hz : i.zero = some (.int .u8 0)) (hsize : i.size = 1) (hby : i.bytes = 1)
    (v : Value) (l : List Int) (hs : a.eval s = v) (hown : Own w base e v l)
    (g : Nat) (u : Value) (k : List Int) (hx : a.eval x = u) (hsl : Sl w g u k) (h47 : l.length + k.length ≤ 140737488355328) (hbase : base ≤ w.heap.size)
    (h : ∀ v' w', Own w' base e v' (l ++ k) → w.grownBy w' v.ownBlock → K (a.put o.dst v') w') :
    if Region.wanted o (yielded ops a.tmps) = true then Oper.wp P o a w K Q else E := by
  have hwd : Region.wanted o (yielded ops a.tmps) = true := by simp [Region.wanted, hgd]
  rw [if_pos hwd]
  obtain ⟨A, c, rfl, hc, hn, hr⟩ := hsl
  cases A with
  | none =>
    have hk : k = [] := by
      by_cases h0 : k = []
      · exact h0
      · obtain ⟨_, _, he, _⟩ := hr h0
        cases he
    subst hk
    have hc0 := hn rfl
    subst hc0
    have hrun := run_append_owned_none (P := P) (w := w) base t o.type e i 1 ht hi v l.length (byteVals l) hown
    unfold Oper.wp
    simp only [execOp, ho, resolve, invoke, builtin, Sem.run_bind, Sem.run_pure, Result.andThen_ok, List.map_toArray, List.map_cons, List.map_nil, hs, hx]
    rw [show Value.slice none ([] : List Int).length 0 = Value.slice none 0 0 from rfl, hrun]
    exact h v w (by simpa using hown) (World.grownBy.refl w _)
  | some ad =>
    have hnews : ∀ j u, (byteVals k)[j]? = some u → w.cell? (ad.add j) = some u := by
      intro j u hu
      obtain ⟨hj, rfl⟩ := byteVals_at k j u hu
      obtain ⟨b, off, he, _, _, hrun⟩ := hr (by rintro rfl; simp at hj)
      injection he with he
      subst he
      rw [← hrun j hj]
      by_cases h0 : j = 0 <;> simp [Addr.add, h0]
    refine wp_append_own w s x t ho base e i (.int .u8 0) 1 1 ht hi hz hsize hby rfl (by decide) v l.length (byteVals l) hs hown ad k.length c (byteVals k) hx (by simp [byteVals]) hnews (byteVals_one k)
      (by unfold maxLen; omega) (by omega) hbase ?_
    intro v' w' h1 h2 _
    exact h v' w' (by simpa [Own, byteVals] using h1) h2

/-- A byte stored into a slice of the call's own. -/
theorem own_set {w : World} {base e g n cap : Nat} {l : List Int} (h : Own w base e (.slice (some ⟨g, 0, none⟩) n cap) l) (q : Nat) (y : Int) :
    Own (w.setCell ⟨g, q, none⟩ (.int .u8 y)) base e (.slice (some ⟨g, 0, none⟩) n cap) (l.set q y) := by
  rcases h.form with ⟨h1, _⟩ | ⟨g', cap', cur, h1, hb, hx, hc, hm, hz, ht⟩
  · cases h1
  · injection h1 with h2 h3 h4
    injection h2 with h2
    injection h2 with h2 _
    subst h2
    subst h3
    subst h4
    refine ⟨by simp [byteVals], .inr ⟨g, cap, _, by rw [List.length_set], hb, hx.set q (.int .u8 y), by rw [List.length_set]; exact hc, hm, by simpa using hz, ?_⟩⟩
    rw [List.length_set, Nat.mul_one, Array.toList_setIfInBounds, List.take_set, ht]
    simp [byteVals, List.map_set]
theorem own_set_same {w : World} {base e g n cap : Nat} {l : List Int} (h : Own w base e (.slice (some ⟨g, 0, none⟩) n cap) l) (q : Nat) (hq : q < l.length) : (∃ z, w.cell? ⟨g, q, none⟩ = some (.int .u8 z)) ∧ w.frozen? ⟨g, q, none⟩ = false ∧ base ≤ g ∧ n = l.length := by
  rcases h.form with ⟨h1, _⟩ | ⟨g', cap', cur, h1, hb, hx, hc, hm, hz, ht⟩
  · cases h1
  · injection h1 with h2 h3 h4
    injection h2 with h2
    injection h2 with h2 _
    subst h2
    have hu := congrArg (fun z : List Value => z[q]?) ht
    simp only [List.getElem?_take, if_pos hq] at hu
    rw [Array.getElem?_toList] at hu
    refine ⟨⟨l[q], ?_⟩, hx.warm q, hb, h3⟩
    rw [hx.cell, hu]
    simp [byteVals, List.getElem?_eq_getElem hq]
end

section
open Go.RowKit

/-- A fact kept from the walk. -/
structure Kp (p : Prop) : Prop where
  out : p

/-- The slice v has the elements l, of k cells each; R reads the cells of one. -/
def Many {α : Type} (k : Nat) (R : World → List Value → α → Prop) (w : World) (v : Value) (l : List α) : Prop :=
  ∃ A c, v = .slice A l.length c ∧ l.length ≤ c ∧ c ≤ maxLen ∧ (A = none → c = 0) ∧
    (l ≠ [] → ∃ b off, A = some ⟨b, off, none⟩ ∧ b < w.heap.size ∧ ∀ i x, l[i]? = some x → ∃ cs, cs.length = k ∧ w.rangeAt b (off + i * k) cs ∧ R w cs x)

theorem rangeAt_block {w w' : World} {b o : Nat} {cs : List Value} (h : w.rangeAt b o cs) (hb : w'.heap[b]? = w.heap[b]?) : w'.rangeAt b o cs :=
  fun j v hj => (World.cell?_of_block hb).trans (h j v hj)

section
variable {α : Type} {k : Nat} {R : World → List Value → α → Prop} {w w' : World} {v : Value} {l : List α}
theorem Many.nil (k : Nat) (R : World → List Value → α → Prop) (w : World) : Many k R w (.slice none 0 0) [] := ⟨none, 0, rfl, Nat.le_refl _, Nat.zero_le _, fun _ => rfl, fun h => absurd rfl h⟩
theorem Many.below (h : Many k R w v l) (hb : Below w.heap.size w w') (hR : ∀ cs x, R w cs x → R w' cs x) : Many k R w' v l := by
  obtain ⟨A, c, rfl, hc, hm, hn, hr⟩ := h
  refine ⟨A, c, rfl, hc, hm, hn, fun hl => ?_⟩
  obtain ⟨b, off, rfl, hlt, hi⟩ := hr hl
  refine ⟨b, off, rfl, Nat.lt_of_lt_of_le hlt hb.size, fun i x hx => ?_⟩
  obtain ⟨cs, hk, hcs, hrr⟩ := hi i x hx
  exact ⟨cs, hk, rangeAt_block hcs (hb.block b hlt), hR cs x hrr⟩
theorem Many.slice (h : Many k R w v l) : ∃ A c, v = .slice A l.length c ∧ l.length ≤ c ∧ l.length ≤ maxLen := by
  obtain ⟨A, c, rfl, hc, hm, _⟩ := h
  exact ⟨A, c, rfl, hc, Nat.le_trans hc hm⟩
/-- One element. -/
theorem Many.at {A : Option Addr} {n c : Nat} (h : Many k R w (.slice A n c) l) {i : Nat} (hi : i < l.length) :
    ∃ b off cs, A = some ⟨b, off, none⟩ ∧ b < w.heap.size ∧ cs.length = k ∧ w.rangeAt b (off + i * k) cs ∧ R w cs l[i] := by
  obtain ⟨A', c', e, _, _, _, hr⟩ := h
  injection e with e1 e2 e3
  subst e1
  obtain ⟨b, off, hA, hlt, hx⟩ := hr (by rintro rfl; simp at hi)
  obtain ⟨cs, h1, h2, h3⟩ := hx i l[i] (List.getElem?_eq_getElem hi)
  exact ⟨b, off, cs, hA, hlt, h1, h2, h3⟩
/-- All of them lie in one block. -/
theorem Many.all {A : Option Addr} {n c : Nat} (h : Many k R w (.slice A n c) l) (hne : l ≠ []) :
    ∃ b off, A = some ⟨b, off, none⟩ ∧ b < w.heap.size ∧ ∀ (i : Nat) (hi : i < l.length), ∃ cs, cs.length = k ∧ w.rangeAt b (off + i * k) cs ∧ R w cs l[i] := by
  obtain ⟨A', c', e, _, _, _, hr⟩ := h
  injection e with e1 e2 e3
  subst e1
  obtain ⟨b, off, hA, hlt, hx⟩ := hr hne
  exact ⟨b, off, hA, hlt, fun i hi => hx i l[i] (List.getElem?_eq_getElem hi)⟩
end

/-- The slice v reads as the bytes l. -/
def Rb (w : World) (v : Value) (l : List Int) : Prop := Sl w w.heap.size v l ∧ Bys l ∧ l.length ≤ maxLen
theorem Rb.below {w w' : World} {v : Value} {l : List Int} (h : Rb w v l) (hb : Below w.heap.size w w') : Rb w' v l := ⟨(h.1.below hb).free _ (Nat.le_refl _), h.2⟩
theorem Rb.nil (w : World) : Rb w (.slice none 0 0) [] := ⟨Sl.nil _ _, Bys.nil, Nat.zero_le _⟩
/-- The cells of one row of bytes. -/
def RowR (w : World) (cs : List Value) (l : List Int) : Prop := ∃ sv, cs = [sv] ∧ Rb w sv l
abbrev Rws (w : World) (v : Value) (ll : List (List Int)) : Prop := Many 1 RowR w v ll
theorem RowR.below {w w' : World} {cs : List Value} {l : List Int} (h : RowR w cs l) (hb : Below w.heap.size w w') : RowR w' cs l := by
  obtain ⟨sv, rfl, h⟩ := h
  exact ⟨sv, rfl, h.below hb⟩
theorem rws_below {w w' : World} {v : Value} {ll : List (List Int)} (h : Rws w v ll) (hb : Below w.heap.size w w') : Rws w' v ll := Many.below h hb fun _ _ h => h.below hb

/-- An input. -/
structure InD where
  prev : List Int
  vout : Nat
  script : List Int
  seq : Nat
  wit : List (List Int)
deriving DecidableEq, Inhabited
/-- An output. -/
structure OutD where
  value : Nat
  script : List Int
deriving DecidableEq, Inhabited
/-- A transaction. -/
structure TxD where
  version : Nat
  ins : List InD
  outs : List OutD
  lock : Nat
deriving DecidableEq, Inhabited

def inCells (d : InD) (sv wv : Value) : List Value := byteVals d.prev ++ [.int .u32 d.vout, sv, .int .u32 d.seq, wv]
/-- The numbers of an input are such. -/
structure InD.Fit (d : InD) : Prop where
  plen : d.prev.length = 32
  pbys : Bys d.prev
  vlt : d.vout < 4294967296
  slt : d.seq < 4294967296
def InR (w : World) (cs : List Value) (d : InD) : Prop := ∃ sv wv, cs = inCells d sv wv ∧ d.Fit ∧ Rb w sv d.script ∧ Rws w wv d.wit
abbrev InsR (w : World) (v : Value) (l : List InD) : Prop := Many 36 InR w v l
def OutR (w : World) (cs : List Value) (d : OutD) : Prop := ∃ sv, cs = [.int .u64 d.value, sv] ∧ d.value < 18446744073709551616 ∧ Rb w sv d.script
abbrev OutsR (w : World) (v : Value) (l : List OutD) : Prop := Many 2 OutR w v l
def TxR (w : World) (v : Value) (t : TxD) : Prop := ∃ iv ov, v = .agg #[.int .u32 t.version, iv, ov, .int .u32 t.lock] ∧ t.version < 4294967296 ∧ t.lock < 4294967296 ∧ InsR w iv t.ins ∧ OutsR w ov t.outs

section
variable {w w' : World} {cs : List Value} {v : Value}
theorem InR.below {d : InD} (h : InR w cs d) (hb : Below w.heap.size w w') : InR w' cs d := by
  obtain ⟨sv, wv, rfl, hf, h1, h2⟩ := h
  exact ⟨sv, wv, rfl, hf, h1.below hb, rws_below h2 hb⟩
theorem ins_below {l : List InD} (h : InsR w v l) (hb : Below w.heap.size w w') : InsR w' v l := Many.below h hb fun _ _ h => h.below hb
theorem OutR.below {d : OutD} (h : OutR w cs d) (hb : Below w.heap.size w w') : OutR w' cs d := by
  obtain ⟨sv, rfl, h1, h2⟩ := h
  exact ⟨sv, rfl, h1, h2.below hb⟩
theorem outs_below {l : List OutD} (h : OutsR w v l) (hb : Below w.heap.size w w') : OutsR w' v l := Many.below h hb fun _ _ h => h.below hb
theorem TxR.below {t : TxD} (h : TxR w v t) (hb : Below w.heap.size w w') : TxR w' v t := by
  obtain ⟨iv, ov, rfl, h1, h2, h3, h4⟩ := h
  exact ⟨iv, ov, rfl, h1, h2, ins_below h3 hb, outs_below h4 hb⟩
theorem inCells_len {d : InD} (h : d.Fit) (sv wv : Value) : (inCells d sv wv).length = 36 := by simp [inCells, byteVals, h.plen]
theorem inCells_vout {d : InD} (h : d.Fit) (sv wv : Value) : (inCells d sv wv)[32]? = some (.int .u32 d.vout) := by
  unfold inCells
  rw [List.getElem?_append_right (by simp [byteVals, h.plen])]
  simp [byteVals, h.plen]
theorem inCells_script {d : InD} (h : d.Fit) (sv wv : Value) : (inCells d sv wv)[33]? = some sv := by
  unfold inCells
  rw [List.getElem?_append_right (by simp [byteVals, h.plen])]
  simp [byteVals, h.plen]
theorem inCells_seq {d : InD} (h : d.Fit) (sv wv : Value) : (inCells d sv wv)[34]? = some (.int .u32 d.seq) := by
  unfold inCells
  rw [List.getElem?_append_right (by simp [byteVals, h.plen])]
  simp [byteVals, h.plen]
theorem inCells_wit {d : InD} (h : d.Fit) (sv wv : Value) : (inCells d sv wv)[35]? = some wv := by
  unfold inCells
  rw [List.getElem?_append_right (by simp [byteVals, h.plen])]
  simp [byteVals, h.plen]
theorem inCells_prev {d : InD} (h : d.Fit) (sv wv : Value) {j : Nat} (hj : j < 32) : (inCells d sv wv)[j]? = some (.int .u8 (d.prev.getD j 0)) := by
  unfold inCells
  rw [List.getElem?_append_left (by simp [byteVals, h.plen]; omega)]
  have : j < d.prev.length := by rw [h.plen]; exact hj
  simp [byteVals, List.getElem?_map, List.getElem?_eq_getElem this, List.getD_eq_getElem?_getD]
theorem Rb.one {l : List Int} (h : Rb w v l) : v.oneCell' = true := by
  obtain ⟨⟨A, c, rfl, _⟩, _⟩ := h
  rfl
theorem RowR.one {l : List Int} (h : RowR w cs l) : ∀ u ∈ cs, u.oneCell' = true := by
  obtain ⟨sv, rfl, h⟩ := h
  intro u hu
  rw [List.mem_singleton.1 hu]
  exact h.one
theorem InR.one {d : InD} (h : InR w cs d) : ∀ u ∈ cs, u.oneCell' = true := by
  obtain ⟨sv, wv, rfl, _, h1, h2⟩ := h
  obtain ⟨A, c, rfl, _⟩ := h2.slice
  intro u hu
  rcases List.mem_append.1 hu with hu | hu
  · exact byteVals_one _ u hu
  · simp only [List.mem_cons, List.not_mem_nil, or_false] at hu
    rcases hu with rfl | rfl | rfl | rfl
    · rfl
    · exact h1.one
    · rfl
    · rfl
theorem OutR.one {d : OutD} (h : OutR w cs d) : ∀ u ∈ cs, u.oneCell' = true := by
  obtain ⟨sv, rfl, _, h1⟩ := h
  intro u hu
  simp only [List.mem_cons, List.not_mem_nil, or_false] at hu
  rcases hu with rfl | rfl
  · rfl
  · exact h1.one
end

/-- A whole value into the block that was made last. -/
theorem wpList_store_fresh {P : Program} {ops : Array Oper} {rest : List Oper} {o : Oper} {a : Act} {w : World} {Q : Exit → Act → World → Prop} (hgd : o.guard = none) (ty : TypeId) (x y : Operand) (ho : o.op = .store ty x y)
    (old cells : Array Value) (g : Nat) (hg : g = w.heap.size) (hx : a.eval x = .pointer (some ⟨g, 0, none⟩)) (hy : a.eval y = .agg cells) (hi : (P.info? ty).map (·.size) = some cells.size)
    (hold : old.size = cells.size) (h1 : cells.all (·.oneCell') = true)
    (h : wpList P ops Q rest (a.put o.dst undef) (w.alloc (.cells cells ty))) : wpList P ops Q (o :: rest) a (w.alloc (.cells old ty)) :=
  wpList_store_row hgd ty x y ho w.heap.size cells (by rw [hx, hg]) hy ty old (heap_alloc_new w _) hi hold h1 (by
    have e : (w.alloc (.cells old ty)).setRow w.heap.size cells = w.alloc (.cells cells ty) := by
      simp only [World.setRow, World.alloc]
      congr 1
      apply Array.ext_getElem?
      intro i
      rw [Array.getElem?_modify]
      by_cases h : w.heap.size = i
      · subst h
        simp
      · have h' : ¬ i = w.heap.size := fun e => h e.symm
        simp [h, h', Array.getElem?_push]
    rw [e]
    exact h)
end

section
open Go.RowKit

/-- The slice v reads as the bytes l; it lies in a block of bytes, which is not g. -/
def SlT (w : World) (g : Nat) (v : Value) (l : List Int) : Prop :=
  ∃ A c, v = .slice A l.length c ∧ l.length ≤ c ∧ (A = none → c = 0) ∧ (l ≠ [] → ∃ b off, A = some ⟨b, off, none⟩ ∧ (b ≠ g ∧ ∃ cur, Box w b 5 cur) ∧ b < w.heap.size ∧ Run w b off l)
theorem SlT.sl {w : World} {g : Nat} {v : Value} {l : List Int} (h : SlT w g v l) : Sl w g v l := by
  obtain ⟨A, c, rfl, hc, hn, hr⟩ := h
  refine ⟨A, c, rfl, hc, hn, fun hl => ?_⟩
  obtain ⟨b, off, rfl, ⟨hb, _⟩, hlt, hrun⟩ := hr hl
  exact ⟨b, off, rfl, hb, hlt, hrun⟩
theorem SlT.nil (w : World) (g : Nat) : SlT w g (.slice none 0 0) [] := ⟨none, 0, rfl, Nat.le_refl _, fun _ => rfl, fun h => absurd rfl h⟩
set_option maxRecDepth 100000 in
theorem SlT.keep {w w' : World} {g : Nat} {v : Value} {l : List Int} (h : SlT w g v l) (hk : ∀ b cur, b ≠ g → Box w b 5 cur → w'.heap[b]? = w.heap[b]?) (hz : w.heap.size ≤ w'.heap.size) : SlT w' g v l := by
  obtain ⟨A, c, rfl, hc, hn, hr⟩ := h
  refine ⟨A, c, rfl, hc, hn, fun hl => ?_⟩
  obtain ⟨b, off, rfl, ⟨hb, cur, hx⟩, hlt, hrun⟩ := hr hl
  have e := hk b cur hb hx
  exact ⟨b, off, rfl, ⟨hb, cur, e.trans hx⟩, Nat.lt_of_lt_of_le hlt hz, fun i hi => (World.cell?_of_block e).trans (hrun i hi)⟩
theorem SlT.only {w w' : World} {g : Nat} {v : Value} {l : List Int} (h : SlT w g v l) (hk : Only g w w') : SlT w' g v l := h.keep (fun b _ hb hx => hk.block b hx.lt (by simpa using hb)) hk.size
theorem SlT.below {w w' : World} {g : Nat} {v : Value} {l : List Int} (h : SlT w g v l) (hk : Below w.heap.size w w') : SlT w' g v l := h.keep (fun b _ _ hx => hk.block b hx.lt) hk.size
set_option maxRecDepth 100000 in
theorem SlT.apart {w w' : World} {g g' t : Nat} {v : Value} {l : List Int} {cs : Array Value} (h : SlT w g v l) (hk : Only g' w w') (hb : Box w g' t cs) (ht : t ≠ 5) : SlT w' g v l :=
  h.keep (fun b cur _ hx => hk.block b hx.lt (by
    intro e
    injection e with e
    subst e
    have h1 : w.heap[b]? = some (.cells cur 5 (0, 0)) := hx
    have h2 : w.heap[b]? = some (.cells cs t (0, 0)) := hb
    rw [h1] at h2
    injection h2 with h2
    injection h2 with _ h3
    exact ht h3.symm)) hk.size
set_option maxRecDepth 100000 in
theorem SlT.of_own {w : World} {B g : Nat} {v : Value} {l : List Int} (h : Own w B 5 v l) (hg : w.heap.size ≤ g) : SlT w g v l := by
  obtain ⟨A, c, hv, hc, hn, hr⟩ := h.sl g (.inr hg)
  refine ⟨A, c, hv, hc, hn, fun hl => ?_⟩
  obtain ⟨b, off, hA, hb, hlt, hrun⟩ := hr hl
  refine ⟨b, off, hA, ⟨hb, ?_⟩, hlt, hrun⟩
  rcases h.form with ⟨hv2, h0⟩ | ⟨g', cap, cur, hv2, _, hx, _⟩
  · exact absurd h0 hl
  · rw [hv2] at hv
    injection hv with h1 _ _
    rw [hA] at h1
    injection h1 with h1
    injection h1 with h2 _ _
    exact ⟨cur, h2 ▸ hx⟩
theorem sl_take {w : World} {g : Nat} {A : Option Addr} {c : Nat} {l : List Int} (h : Sl w g (.slice A l.length c) l) (n : Nat) (hn : n ≤ l.length) : Sl w g (.slice A n c) (l.take n) := by
  obtain ⟨A', c', e, hc, hnn, hr⟩ := h
  injection e with e1 e2 e3
  subst e1; subst e3
  refine ⟨A, c, by rw [List.length_take, Nat.min_eq_left hn], by rw [List.length_take]; omega, hnn, fun hl => ?_⟩
  obtain ⟨b, off, rfl, hb, hlt, hrun⟩ := hr (fun h0 => by subst h0; exact hl (by simp))
  exact ⟨b, off, rfl, hb, hlt, hrun.take n⟩
theorem sl_drop {w : World} {g : Nat} {A : Option Addr} {c : Nat} {l : List Int} (h : Sl w g (.slice A l.length c) l) (n : Nat) (hn : n ≤ l.length) :
    Sl w g (.slice (if c = n then A else A.map (·.add n)) (l.length - n) (c - n)) (l.drop n) := by
  obtain ⟨A', c', e, hc, hnn, hr⟩ := h
  injection e with e1 e2 e3
  subst e1; subst e3
  refine ⟨_, _, by rw [List.length_drop], by rw [List.length_drop]; omega, fun he => ?_, fun hl => ?_⟩
  · split at he
    · omega
    · cases A with
      | none => have := hnn rfl; omega
      | some ad => cases he
  have hlt' : n < l.length := by
    rcases Nat.lt_or_ge n l.length with h1 | h1
    · exact h1
    · exact absurd (List.drop_eq_nil_of_le h1) hl
  obtain ⟨b, off, rfl, hb, hlt, hrun⟩ := hr (fun h0 => by subst h0; exact hl (by simp))
  refine ⟨b, off + n, ?_, hb, hlt, hrun.drop n⟩
  rw [if_neg (by omega)]
  by_cases h0 : n = 0
  · subst h0; simp [Addr.add]
  · simp [Addr.add, h0]

theorem slT_drop {w : World} {g : Nat} {A : Option Addr} {c : Nat} {l : List Int} (h : SlT w g (.slice A l.length c) l) (n : Nat) (hn : n ≤ l.length) :
    SlT w g (.slice (if c = n then A else A.map (·.add n)) (l.length - n) (c - n)) (l.drop n) := by
  obtain ⟨A', c', e, hc, hnn, hr⟩ := h
  injection e with e1 e2 e3
  subst e1; subst e3
  refine ⟨_, _, by rw [List.length_drop], by rw [List.length_drop]; omega, fun he => ?_, fun hl => ?_⟩
  · split at he
    · omega
    · cases A with
      | none => have := hnn rfl; omega
      | some ad => cases he
  have hlt' : n < l.length := by
    rcases Nat.lt_or_ge n l.length with h1 | h1
    · exact h1
    · exact absurd (List.drop_eq_nil_of_le h1) hl
  obtain ⟨b, off, rfl, hb, hlt, hrun⟩ := hr (fun h0 => by subst h0; exact hl (by simp))
  refine ⟨b, off + n, ?_, hb, hlt, hrun.drop n⟩
  rw [if_neg (by omega)]
  by_cases h0 : n = 0
  · subst h0; simp [Addr.add]
  · simp [Addr.add, h0]
end

section
def le : List Int → Nat
  | [] => 0
  | x :: l => x.toNat + 256 * le l
theorem le_lt : ∀ {l : List Int}, Bys l → le l < 256 ^ l.length
  | [], _ => by simp [le]
  | x :: l, h => by
    have h1 := le_lt (l := l) (fun y hy => h y (List.mem_cons_of_mem _ hy))
    have h2 := h x (List.mem_cons_self ..)
    simp only [le, List.length_cons, Nat.pow_succ]
    omega
theorem le_app : ∀ (a b : List Int), le (a ++ b) = le a + 256 ^ a.length * le b
  | [], b => by simp [le]
  | x :: a, b => by
    simp only [List.cons_append, le, le_app a b, List.length_cons, Nat.pow_succ]
    rw [Nat.mul_add, Nat.mul_comm (256 ^ a.length) 256, Nat.mul_assoc]
    omega
theorem le_take (m : List Int) (k : Nat) (hk : k < m.length) : le (m.take (k + 1)) = le (m.take k) + 256 ^ k * (m.getD k 0).toNat := by
  rw [List.take_succ_eq_append_getElem hk, le_app]
  have : (m.take k).length = k := by rw [List.length_take]; omega
  rw [this]
  simp [le, List.getD_eq_getElem?_getD, List.getElem?_eq_getElem hk]
theorem pow256 (k : Nat) : 256 ^ k = 2 ^ (8 * k) := by rw [show (256 : Nat) = 2 ^ 8 from rfl, ← Nat.pow_mul]
theorem pow_le_8 {k : Nat} (h : k ≤ 8) : 256 ^ k ≤ 18446744073709551616 := by
  rw [show (18446744073709551616 : Nat) = 256 ^ 8 from rfl]
  exact Nat.pow_le_pow_right (by omega) h

/-- One byte more, laid above those that are there. -/
theorem le_or (m : List Int) (hm : Bys m) (k : Nat) (hk : k < m.length) (h8 : k < 8) (x : Int) (hx : x = m.getD k 0) :
    bits .or .u64 (le (m.take k) : Int) (IntKind.u64.wrap (IntKind.u64.wrap x * 2 ^ (8 * k))) = (le (m.take (k + 1)) : Int) := by
  have hb := hm.at k
  rw [← hx] at hb
  obtain ⟨y, rfl⟩ := Int.eq_ofNat_of_zero_le hb.1
  have hy : y ≤ 255 := by omega
  have h1 : IntKind.u64.wrap (y : Int) = y := by rw [IntKind.wrap_u64]; omega
  have hl := le_lt (hm.take k)
  have hlen : (m.take k).length = k := by rw [List.length_take]; omega
  rw [hlen] at hl
  have hp := pow_le_8 (show k + 1 ≤ 8 by omega)
  rw [Nat.pow_succ] at hp
  have hmul : 256 ^ k * y < 18446744073709551616 := Nat.lt_of_lt_of_le (Nat.mul_lt_mul_of_pos_left (show y < 256 by omega) (Nat.pow_pos (by omega))) hp
  have h2 : (y : Int) * 2 ^ (8 * k) = ((256 ^ k * y : Nat) : Int) := by
    rw [pow256, Int.natCast_mul, Int.natCast_pow, Int.mul_comm]
    rfl
  have hl2 : le (m.take k) < 18446744073709551616 := by
    have := pow_le_8 (show k ≤ 8 by omega)
    omega
  have h3 : IntKind.u64.wrap ((256 ^ k * y : Nat) : Int) = ((256 ^ k * y : Nat) : Int) := by rw [IntKind.wrap_u64]; omega
  rw [h1, h2, h3, u64_or_nat _ _ hl2 hmul, le_take m k hk, ← hx]
  congr 1
  rw [Int.toNat_natCast]
  have h4 := Nat.two_pow_add_eq_or_of_lt (i := 8 * k) (b := le (m.take k)) (by rw [← pow256]; exact hl) y
  rw [Nat.or_comm, pow256, ← h4]
  omega
end

section
open Go.RowKit

set_option maxRecDepth 100000 in
theorem infoByte : (Try.prog.info? 5).map (fun i => (i.zero, i.size, i.bytes)) = some (some (.int .u8 0), 1, 1) := by kernel_rfl

def NewBytes (l : List Int) (w : World) (e : Ending) (w' : World) : Prop := ∃ v, e = .returned v ∧ Own w' w.heap.size 5 v l ∧ Below w.heap.size w w'

theorem own_empty (w : World) (e : Nat) : Own (w.alloc (.cells #[] e)) w.heap.size e (.slice (some ⟨w.heap.size, 0, none⟩) 0 0) [] :=
  World.ownsRow_made w #[] 0 (Nat.le_refl _) (Nat.zero_le _) rfl
theorem own_nil (w : World) (b e : Nat) : Own w b e (.slice none 0 0) [] := World.ownsRow_nil w b e 1
end

section
open Go.RowKit

/-- A bool is answered; what was there is as it was. -/
def BoolP (b : Bool) (w : World) (e : Ending) (w' : World) : Prop := e = .returned (.bool b) ∧ Below w.heap.size w w'
def longB (l : List Int) : Bool := decide (500 < l.length)

set_option maxRecDepth 100000 in
set_option maxHeartbeats 400000 in
theorem long_any (w : World) (v : Value) (l : List Int) (h : Rb w v l) : Calls Try.prog 88 #[v] w (BoolP (longB l) w) := by
  obtain ⟨⟨A, c, rfl, _⟩, _, hm⟩ := h
  unfold maxLen at hm
  by_cases hl : 500 < l.length
  · have hl' : (500 : Int) < (l.length : Int) := by omega
    have H : Kp (longB l = true) := ⟨decide_eq_true hl⟩
    clear hl
    go_enter Try.func88, Try.ntmps88
    go_wp2
    go_ret
    exact ⟨by rw [H.out]; rfl, Below.refl _ _⟩
  · have hl' : ((500 : Int) < (l.length : Int)) = False := eq_false (by omega)
    have H : Kp (longB l = false) := ⟨decide_eq_false hl⟩
    clear hl
    go_enter Try.func88, Try.ntmps88
    go_wp2
    go_ret
    exact ⟨by rw [H.out]; rfl, Below.refl _ _⟩

/-- What a test of one element answers, at every later world. -/
def Asks {α : Type} (R : World → List Value → α → Prop) (enc : List Value → Value) (f : Nat) (p : α → Bool) : Prop :=
  ∀ (W : World) (cs : List Value) (x : α), R W cs x → Calls Try.prog f #[enc cs] W (BoolP (p x) W)
def row1 (cs : List Value) : Value := cs.getD 0 undef
def IdxP (b : Bool) (w : World) (e : Ending) (w' : World) : Prop := (∃ j : Int, e = .returned (.int .i64 j) ∧ (b = true → 0 ≤ j) ∧ (b = false → j = -1)) ∧ Below w.heap.size w w'

theorem any_miss {α : Type} {p : α → Bool} {l : List α} (h : ∀ (j : Nat) (hj : j < l.length), p l[j] = false) : l.any p = false := by
  rw [List.any_eq_false]
  intro x hx
  obtain ⟨j, hj, rfl⟩ := List.mem_iff_getElem.1 hx
  simp [h j hj]
theorem any_hit {α : Type} {p : α → Bool} {l : List α} {j : Nat} (hj : j < l.length) (h : p l[j] = true) : l.any p = true :=
  List.any_eq_true.2 ⟨_, List.getElem_mem hj, h⟩
set_option maxRecDepth 100000 in
theorem sizeIn : (Try.prog.info? 58).map (·.size) = some 36 := by kernel_rfl
set_option maxRecDepth 100000 in
theorem sizeOut : (Try.prog.info? 61).map (·.size) = some 2 := by kernel_rfl
theorem load_row {w : World} {b off j : Nat} {cs : List Value} (h : w.rangeAt b (off + j * 1) cs) (hl : cs.length = 1) : w.cell? ⟨b, off + j, none⟩ = some (row1 cs) := by
  rw [Nat.mul_one] at h
  match cs, hl with
  | [u], _ => exact h 0 u rfl
/-- GENERATED -/
theorem gen_here : True := trivial

set_option maxRecDepth 100000 in
set_option maxHeartbeats 1000000 in
theorem idxIn_nil (w : World) (A : Option Addr) (c : Nat) (f : Nat) : Calls Try.prog 87 #[.slice A 0 c, .func (.func f) #[] #[]] w (IdxP false w) := by
  go_enter Try.func87, Try.ntmps87
  go_wp2
  refine wp_loop_rounds 1 ?_
  rw [rounds_succ]
  go_wp2
  go_ret
  exact ⟨⟨-1, rfl, (fun h => by cases h), fun _ => rfl⟩, Below.refl _ _⟩
set_option maxRecDepth 100000 in
set_option maxHeartbeats 2000000 in
theorem idxIn_any (w : World) (v : Value) (l : List (InD)) (f : Nat) (p : InD → Bool) (h : Many 36 InR w v l) (hf : Asks InR (fun cs => .agg cs.toArray) f p) (hst : ∀ (W : World) cs x, Below w.heap.size w W → InR w cs x → InR W cs x)
    (eg : ∀ args w, (callFunc f args).run Try.prog w = .ok (.enter f args) w) :
    Calls Try.prog 87 #[v, .func (.func f) #[] #[]] w (IdxP (l.any p) w) := by
  by_cases hne : l = []
  · subst hne
    obtain ⟨A, c, rfl, _⟩ := h
    exact idxIn_nil w A c f
  obtain ⟨A, c, rfl, hlc, hlm⟩ := h.slice
  unfold maxLen at hlm
  obtain ⟨b, off, rfl, hlt, hat⟩ := h.all hne
  have HAT : Kp (∀ (i : Nat) (hi : i < l.length), ∃ cs, cs.length = 36 ∧ w.rangeAt b (off + i * 36) cs ∧ InR w cs l[i]) := ⟨hat⟩
  have HB : Kp (b < w.heap.size) := ⟨hlt⟩
  have HST : Kp (∀ (W : World) cs x, Below w.heap.size w W → InR w cs x → InR W cs x) := ⟨hst⟩
  have HF : Kp (Asks InR (fun cs => .agg cs.toArray) f p) := ⟨hf⟩
  clear hat hlt h hne hst hf
  go_enter Try.func87, Try.ntmps87
  go_wp2
  go_loopw [5, 8] (fun _ i wr => ∃ j : Nat, j ≤ l.length ∧ i = .int .i64 j ∧ Kp (Below w.heap.size w wr) ∧ Kp (∀ (q : Nat) (hq : q < l.length), q < j → p l[q] = false)) (fun _ i _ => l.length - (intOf i).toNat)
  case atStart => exact ⟨0, Nat.zero_le _, rfl, ⟨Below.refl _ _⟩, ⟨fun _ _ h => absurd h (Nat.not_lt_zero _)⟩⟩
  case round =>
    obtain ⟨j, hj, rfl, BW, NO⟩ := hrel
    by_cases hjl : j < l.length
    · obtain ⟨cs, hk, hcs, hR⟩ := HAT.out j hjl
      have HCS := Kp.mk (rangeAt_block hcs (BW.out.block b HB.out)); have HSZ : Kp ((Try.prog.info? 58).map (·.size) = some cs.length) := ⟨by rw [hk]; exact sizeIn⟩
      have hcall := HF.out wr cs l[j] (HST.out wr cs _ BW.out hR)
      have hjl' : (j : Int) < (l.length : Int) := by omega
      have HJ : Kp (j < l.length) := ⟨hjl⟩
      clear hcs hR hk
      cases hq : p l[j] with
      | true =>
        rw [hq] at hcall
        have HQ : Kp (l.any p = true) := ⟨any_hit hjl hq⟩
        have HC := Kp.mk hcall
        clear hq hcall hjl
        go_wp2_with (first | (refine wpList_load_mid rfl 58 (.tmp 14) rfl b (off + j * 36) rfl cs _ HCS.out Try.underlying58 rfl HSZ.out ?_) | (go_at_fn f; refine HC.out.mono ?_; rintro e w' ⟨rfl, hb'⟩))
        go_ret
        exact ⟨⟨j, rfl, fun _ => by omega, fun h => by rw [HQ.out] at h; cases h⟩, BW.out.trans (hb'.mono BW.out.size)⟩
      | false =>
        rw [hq] at hcall
        have HQ : Kp (∀ (q : Nat) (hq : q < l.length), q < j + 1 → p l[q] = false) := ⟨fun q h1 h2 => by
          rcases Nat.lt_or_ge q j with h3 | h3
          · exact NO.out q h1 h3
          · obtain rfl : q = j := by omega
            exact hq⟩
        have HC := Kp.mk hcall
        clear hq hcall hjl
        go_wp2_with (first | (refine wpList_load_mid rfl 58 (.tmp 14) rfl b (off + j * 36) rfl cs _ HCS.out Try.underlying58 rfl HSZ.out ?_) | (go_at_fn f; refine HC.out.mono ?_; rintro e w' ⟨rfl, hb'⟩))
        exact ⟨⟨j + 1, by have := HJ.out; omega, by go_num, ⟨BW.out.trans (hb'.mono BW.out.size)⟩, HQ⟩, by simp [intOf]; have := HJ.out; omega⟩
    · obtain rfl : j = l.length := by omega
      have HQ : Kp (l.any p = false) := ⟨any_miss fun q hq => NO.out q hq hq⟩
      clear hjl
      go_wp2
      go_ret
      exact ⟨⟨-1, rfl, (fun h => by rw [HQ.out] at h; cases h), fun _ => rfl⟩, BW.out⟩
set_option maxRecDepth 100000 in
set_option maxHeartbeats 1000000 in
theorem conIn_any (w : World) (v : Value) (l : List (InD)) (f : Nat) (p : InD → Bool) (h : Many 36 InR w v l) (hf : Asks InR (fun cs => .agg cs.toArray) f p) (hst : ∀ (W : World) cs x, Below w.heap.size w W → InR w cs x → InR W cs x)
    (eg : ∀ args w, (callFunc f args).run Try.prog w = .ok (.enter f args) w) :
    Calls Try.prog 75 #[v, .func (.func f) #[] #[]] w (BoolP (l.any p) w) := by
  have H := Kp.mk (idxIn_any w v l f p h hf hst eg)
  clear h hf hst eg
  go_enter Try.func75, Try.ntmps75
  go_wp2_with fail
  refine H.out.mono ?_
  rintro e w' ⟨⟨j, rfl, h1, h2⟩, hb⟩
  have HB := Kp.mk hb
  clear hb
  cases hq : l.any p with
  | true =>
    rw [hq] at h1
    have hj := h1 rfl
    have hj' : (j ≥ 0) = True := eq_true hj
    have HQ := Kp.mk hq
    clear h1 h2 hq
    go_wp2
    go_ret
    exact ⟨by rw [HQ.out]; rfl, HB.out⟩
  | false =>
    rw [hq] at h2
    have hj := h2 rfl
    subst hj
    have HQ := Kp.mk hq
    clear h1 h2 hq
    go_wp2
    go_ret
    exact ⟨by rw [HQ.out]; rfl, HB.out⟩

set_option maxRecDepth 100000 in
set_option maxHeartbeats 1000000 in
theorem idxOut_nil (w : World) (A : Option Addr) (c : Nat) (f : Nat) : Calls Try.prog 90 #[.slice A 0 c, .func (.func f) #[] #[]] w (IdxP false w) := by
  go_enter Try.func90, Try.ntmps90
  go_wp2
  refine wp_loop_rounds 1 ?_
  rw [rounds_succ]
  go_wp2
  go_ret
  exact ⟨⟨-1, rfl, (fun h => by cases h), fun _ => rfl⟩, Below.refl _ _⟩
set_option maxRecDepth 100000 in
set_option maxHeartbeats 2000000 in
theorem idxOut_any (w : World) (v : Value) (l : List (OutD)) (f : Nat) (p : OutD → Bool) (h : Many 2 OutR w v l) (hf : Asks OutR (fun cs => .agg cs.toArray) f p) (hst : ∀ (W : World) cs x, Below w.heap.size w W → OutR w cs x → OutR W cs x)
    (eg : ∀ args w, (callFunc f args).run Try.prog w = .ok (.enter f args) w) :
    Calls Try.prog 90 #[v, .func (.func f) #[] #[]] w (IdxP (l.any p) w) := by
  by_cases hne : l = []
  · subst hne
    obtain ⟨A, c, rfl, _⟩ := h
    exact idxOut_nil w A c f
  obtain ⟨A, c, rfl, hlc, hlm⟩ := h.slice
  unfold maxLen at hlm
  obtain ⟨b, off, rfl, hlt, hat⟩ := h.all hne
  have HAT : Kp (∀ (i : Nat) (hi : i < l.length), ∃ cs, cs.length = 2 ∧ w.rangeAt b (off + i * 2) cs ∧ OutR w cs l[i]) := ⟨hat⟩
  have HB : Kp (b < w.heap.size) := ⟨hlt⟩
  have HST : Kp (∀ (W : World) cs x, Below w.heap.size w W → OutR w cs x → OutR W cs x) := ⟨hst⟩
  have HF : Kp (Asks OutR (fun cs => .agg cs.toArray) f p) := ⟨hf⟩
  clear hat hlt h hne hst hf
  go_enter Try.func90, Try.ntmps90
  go_wp2
  go_loopw [5, 8] (fun _ i wr => ∃ j : Nat, j ≤ l.length ∧ i = .int .i64 j ∧ Kp (Below w.heap.size w wr) ∧ Kp (∀ (q : Nat) (hq : q < l.length), q < j → p l[q] = false)) (fun _ i _ => l.length - (intOf i).toNat)
  case atStart => exact ⟨0, Nat.zero_le _, rfl, ⟨Below.refl _ _⟩, ⟨fun _ _ h => absurd h (Nat.not_lt_zero _)⟩⟩
  case round =>
    obtain ⟨j, hj, rfl, BW, NO⟩ := hrel
    by_cases hjl : j < l.length
    · obtain ⟨cs, hk, hcs, hR⟩ := HAT.out j hjl
      have HCS := Kp.mk (rangeAt_block hcs (BW.out.block b HB.out)); have HSZ : Kp ((Try.prog.info? 61).map (·.size) = some cs.length) := ⟨by rw [hk]; exact sizeOut⟩
      have hcall := HF.out wr cs l[j] (HST.out wr cs _ BW.out hR)
      have hjl' : (j : Int) < (l.length : Int) := by omega
      have HJ : Kp (j < l.length) := ⟨hjl⟩
      clear hcs hR hk
      cases hq : p l[j] with
      | true =>
        rw [hq] at hcall
        have HQ : Kp (l.any p = true) := ⟨any_hit hjl hq⟩
        have HC := Kp.mk hcall
        clear hq hcall hjl
        go_wp2_with (first | (refine wpList_load_mid rfl 61 (.tmp 14) rfl b (off + j * 2) rfl cs _ HCS.out Try.underlying61 rfl HSZ.out ?_) | (go_at_fn f; refine HC.out.mono ?_; rintro e w' ⟨rfl, hb'⟩))
        go_ret
        exact ⟨⟨j, rfl, fun _ => by omega, fun h => by rw [HQ.out] at h; cases h⟩, BW.out.trans (hb'.mono BW.out.size)⟩
      | false =>
        rw [hq] at hcall
        have HQ : Kp (∀ (q : Nat) (hq : q < l.length), q < j + 1 → p l[q] = false) := ⟨fun q h1 h2 => by
          rcases Nat.lt_or_ge q j with h3 | h3
          · exact NO.out q h1 h3
          · obtain rfl : q = j := by omega
            exact hq⟩
        have HC := Kp.mk hcall
        clear hq hcall hjl
        go_wp2_with (first | (refine wpList_load_mid rfl 61 (.tmp 14) rfl b (off + j * 2) rfl cs _ HCS.out Try.underlying61 rfl HSZ.out ?_) | (go_at_fn f; refine HC.out.mono ?_; rintro e w' ⟨rfl, hb'⟩))
        exact ⟨⟨j + 1, by have := HJ.out; omega, by go_num, ⟨BW.out.trans (hb'.mono BW.out.size)⟩, HQ⟩, by simp [intOf]; have := HJ.out; omega⟩
    · obtain rfl : j = l.length := by omega
      have HQ : Kp (l.any p = false) := ⟨any_miss fun q hq => NO.out q hq hq⟩
      clear hjl
      go_wp2
      go_ret
      exact ⟨⟨-1, rfl, (fun h => by rw [HQ.out] at h; cases h), fun _ => rfl⟩, BW.out⟩
set_option maxRecDepth 100000 in
set_option maxHeartbeats 1000000 in
theorem conOut_any (w : World) (v : Value) (l : List (OutD)) (f : Nat) (p : OutD → Bool) (h : Many 2 OutR w v l) (hf : Asks OutR (fun cs => .agg cs.toArray) f p) (hst : ∀ (W : World) cs x, Below w.heap.size w W → OutR w cs x → OutR W cs x)
    (eg : ∀ args w, (callFunc f args).run Try.prog w = .ok (.enter f args) w) :
    Calls Try.prog 77 #[v, .func (.func f) #[] #[]] w (BoolP (l.any p) w) := by
  have H := Kp.mk (idxOut_any w v l f p h hf hst eg)
  clear h hf hst eg
  go_enter Try.func77, Try.ntmps77
  go_wp2_with fail
  refine H.out.mono ?_
  rintro e w' ⟨⟨j, rfl, h1, h2⟩, hb⟩
  have HB := Kp.mk hb
  clear hb
  cases hq : l.any p with
  | true =>
    rw [hq] at h1
    have hj := h1 rfl
    have hj' : (j ≥ 0) = True := eq_true hj
    have HQ := Kp.mk hq
    clear h1 h2 hq
    go_wp2
    go_ret
    exact ⟨by rw [HQ.out]; rfl, HB.out⟩
  | false =>
    rw [hq] at h2
    have hj := h2 rfl
    subst hj
    have HQ := Kp.mk hq
    clear h1 h2 hq
    go_wp2
    go_ret
    exact ⟨by rw [HQ.out]; rfl, HB.out⟩

set_option maxRecDepth 100000 in
set_option maxHeartbeats 1000000 in
theorem idxRow_nil (w : World) (A : Option Addr) (c : Nat) (f : Nat) : Calls Try.prog 97 #[.slice A 0 c, .func (.func f) #[] #[]] w (IdxP false w) := by
  go_enter Try.func97, Try.ntmps97
  go_wp2
  refine wp_loop_rounds 1 ?_
  rw [rounds_succ]
  go_wp2
  go_ret
  exact ⟨⟨-1, rfl, (fun h => by cases h), fun _ => rfl⟩, Below.refl _ _⟩
set_option maxRecDepth 100000 in
set_option maxHeartbeats 2000000 in
theorem idxRow_any (w : World) (v : Value) (l : List (List Int)) (f : Nat) (p : List Int → Bool) (h : Many 1 RowR w v l) (hf : Asks RowR (row1) f p) (hst : ∀ (W : World) cs x, Below w.heap.size w W → RowR w cs x → RowR W cs x)
    (eg : ∀ args w, (callFunc f args).run Try.prog w = .ok (.enter f args) w) :
    Calls Try.prog 97 #[v, .func (.func f) #[] #[]] w (IdxP (l.any p) w) := by
  by_cases hne : l = []
  · subst hne
    obtain ⟨A, c, rfl, _⟩ := h
    exact idxRow_nil w A c f
  obtain ⟨A, c, rfl, hlc, hlm⟩ := h.slice
  unfold maxLen at hlm
  obtain ⟨b, off, rfl, hlt, hat⟩ := h.all hne
  have HAT : Kp (∀ (i : Nat) (hi : i < l.length), ∃ cs, cs.length = 1 ∧ w.rangeAt b (off + i * 1) cs ∧ RowR w cs l[i]) := ⟨hat⟩
  have HB : Kp (b < w.heap.size) := ⟨hlt⟩
  have HST : Kp (∀ (W : World) cs x, Below w.heap.size w W → RowR w cs x → RowR W cs x) := ⟨hst⟩
  have HF : Kp (Asks RowR (row1) f p) := ⟨hf⟩
  clear hat hlt h hne hst hf
  go_enter Try.func97, Try.ntmps97
  go_wp2
  go_loopw [5, 8] (fun _ i wr => ∃ j : Nat, j ≤ l.length ∧ i = .int .i64 j ∧ Kp (Below w.heap.size w wr) ∧ Kp (∀ (q : Nat) (hq : q < l.length), q < j → p l[q] = false)) (fun _ i _ => l.length - (intOf i).toNat)
  case atStart => exact ⟨0, Nat.zero_le _, rfl, ⟨Below.refl _ _⟩, ⟨fun _ _ h => absurd h (Nat.not_lt_zero _)⟩⟩
  case round =>
    obtain ⟨j, hj, rfl, BW, NO⟩ := hrel
    by_cases hjl : j < l.length
    · obtain ⟨cs, hk, hcs, hR⟩ := HAT.out j hjl
      have hload := load_row (rangeAt_block hcs (BW.out.block b HB.out)) hk
      have hcall := HF.out wr cs l[j] (HST.out wr cs _ BW.out hR)
      have hjl' : (j : Int) < (l.length : Int) := by omega
      have HJ : Kp (j < l.length) := ⟨hjl⟩
      clear hcs hR hk
      cases hq : p l[j] with
      | true =>
        rw [hq] at hcall
        have HQ : Kp (l.any p = true) := ⟨any_hit hjl hq⟩
        have HC := Kp.mk hcall
        clear hq hcall hjl
        go_wp2_with (first | (go_at_fn f; refine HC.out.mono ?_; rintro e w' ⟨rfl, hb'⟩))
        go_ret
        exact ⟨⟨j, rfl, fun _ => by omega, fun h => by rw [HQ.out] at h; cases h⟩, BW.out.trans (hb'.mono BW.out.size)⟩
      | false =>
        rw [hq] at hcall
        have HQ : Kp (∀ (q : Nat) (hq : q < l.length), q < j + 1 → p l[q] = false) := ⟨fun q h1 h2 => by
          rcases Nat.lt_or_ge q j with h3 | h3
          · exact NO.out q h1 h3
          · obtain rfl : q = j := by omega
            exact hq⟩
        have HC := Kp.mk hcall
        clear hq hcall hjl
        go_wp2_with (first | (go_at_fn f; refine HC.out.mono ?_; rintro e w' ⟨rfl, hb'⟩))
        exact ⟨⟨j + 1, by have := HJ.out; omega, by go_num, ⟨BW.out.trans (hb'.mono BW.out.size)⟩, HQ⟩, by simp [intOf]; have := HJ.out; omega⟩
    · obtain rfl : j = l.length := by omega
      have HQ : Kp (l.any p = false) := ⟨any_miss fun q hq => NO.out q hq hq⟩
      clear hjl
      go_wp2
      go_ret
      exact ⟨⟨-1, rfl, (fun h => by rw [HQ.out] at h; cases h), fun _ => rfl⟩, BW.out⟩
set_option maxRecDepth 100000 in
set_option maxHeartbeats 1000000 in
theorem conRow_any (w : World) (v : Value) (l : List (List Int)) (f : Nat) (p : List Int → Bool) (h : Many 1 RowR w v l) (hf : Asks RowR (row1) f p) (hst : ∀ (W : World) cs x, Below w.heap.size w W → RowR w cs x → RowR W cs x)
    (eg : ∀ args w, (callFunc f args).run Try.prog w = .ok (.enter f args) w) :
    Calls Try.prog 89 #[v, .func (.func f) #[] #[]] w (BoolP (l.any p) w) := by
  have H := Kp.mk (idxRow_any w v l f p h hf hst eg)
  clear h hf hst eg
  go_enter Try.func89, Try.ntmps89
  go_wp2_with fail
  refine H.out.mono ?_
  rintro e w' ⟨⟨j, rfl, h1, h2⟩, hb⟩
  have HB := Kp.mk hb
  clear hb
  cases hq : l.any p with
  | true =>
    rw [hq] at h1
    have hj := h1 rfl
    have hj' : (j ≥ 0) = True := eq_true hj
    have HQ := Kp.mk hq
    clear h1 h2 hq
    go_wp2
    go_ret
    exact ⟨by rw [HQ.out]; rfl, HB.out⟩
  | false =>
    rw [hq] at h2
    have hj := h2 rfl
    subst hj
    have HQ := Kp.mk hq
    clear h1 h2 hq
    go_wp2
    go_ret
    exact ⟨by rw [HQ.out]; rfl, HB.out⟩
end

section
open Go.RowKit

set_option maxRecDepth 100000 in
theorem enter_long (args : Array Value) (w : World) : (callFunc 88 args).run Try.prog w = .ok (.enter 88 args) w := by kernel_rfl
set_option maxRecDepth 100000 in
theorem enter_longIn (args : Array Value) (w : World) : (callFunc 76 args).run Try.prog w = .ok (.enter 76 args) w := by kernel_rfl
set_option maxRecDepth 100000 in
theorem enter_longOut (args : Array Value) (w : World) : (callFunc 78 args).run Try.prog w = .ok (.enter 78 args) w := by kernel_rfl
theorem asks_long : Asks RowR row1 88 longB := fun W cs x ⟨sv, e, h⟩ => by subst e; exact long_any W sv x h

def longInB (d : InD) : Bool := longB d.script || (decide (10 < d.wit.length) || d.wit.any longB)

theorem cell_new {w w1 : World} {C : Array Value} {t : Nat} (hb : Below (w.heap.size + 1) (w.alloc (.cells C t)) w1) (j : Nat) (u : Value) (h : C[j]? = some u) : w1.cell? ⟨w.heap.size, j, none⟩ = some u := by
  rw [hb.cell (p := ⟨w.heap.size, j, none⟩) (Nat.lt_succ_self _), (Box.fresh w t C).cell j, h]
theorem alloc_size (w : World) (o : Obj) : (w.alloc o).heap.size = w.heap.size + 1 := by simp

set_option maxRecDepth 100000 in
set_option maxHeartbeats 1000000 in
theorem longIn_any (W : World) (cs : List Value) (d : InD) (h : InR W cs d) : Calls Try.prog 76 #[.agg cs.toArray] W (BoolP (longInB d) W) := by
  obtain ⟨sv, wv, rfl, hf, hs, hw⟩ := h
  obtain ⟨C, hC⟩ : ∃ C, (inCells d sv wv).toArray = C := ⟨_, rfl⟩
  have c33 : C[33]? = some sv := by rw [← hC]; simpa using inCells_script hf sv wv
  have c35 : C[35]? = some wv := by rw [← hC]; simpa using inCells_wit hf sv wv
  rw [hC]
  clear hC hf
  obtain ⟨Aw, cw, rfl, _, hwl⟩ := hw.slice
  unfold maxLen at hwl
  have hb1 : Below W.heap.size W (W.alloc (.cells C 58)) := (Below.refl _ _).alloc (Nat.le_refl _) _
  have H1 := Kp.mk (long_any (W.alloc (.cells C 58)) sv d.script (hs.below hb1))
  have HB1 := Kp.mk hb1
  have HW := Kp.mk (rws_below hw hb1)
  clear hs hw hb1
  cases hq : longB d.script with
  | true =>
    rw [hq] at H1
    have HR : Kp (longInB d = true) := ⟨by simp [longInB, hq]⟩
    clear hq
    go_enter Try.func76, Try.ntmps76
    go_wp2_with (go_at_call 88; refine H1.out.mono ?_; rintro e w1 ⟨rfl, hb⟩)
    go_ret
    exact ⟨by rw [HR.out]; rfl, HB1.out.trans (hb.mono HB1.out.size)⟩
  | false =>
    rw [hq] at H1
    by_cases h10 : 10 < d.wit.length
    · have h10' : (10 : Int) < (d.wit.length : Int) := by omega
      have HR : Kp (longInB d = true) := ⟨by simp [longInB, h10]⟩
      clear hq h10
      go_enter Try.func76, Try.ntmps76
      go_wp2_with (go_at_call 88; refine H1.out.mono ?_; rintro e w1 ⟨rfl, hb⟩; rw [alloc_size] at hb; have hc35 := cell_new hb 35 _ c35)
      go_ret
      exact ⟨by rw [HR.out]; rfl, HB1.out.trans (hb.mono (Nat.le_succ _))⟩
    · have h10' : ((10 : Int) < (d.wit.length : Int)) = False := eq_false (by omega)
      have HR : Kp (longInB d = d.wit.any longB) := ⟨by simp [longInB, hq, h10]⟩
      clear hq h10
      have HCON : Kp (∀ w1, Below (W.heap.size + 1) (W.alloc (.cells C 58)) w1 → Calls Try.prog 89 #[.slice Aw d.wit.length cw, .func (.func 88) #[] #[]] w1 (BoolP (d.wit.any longB) w1)) := ⟨fun w1 hb =>
        conRow_any w1 _ d.wit 88 longB (rws_below HW.out (by rw [alloc_size]; exact hb)) asks_long (fun _ _ _ hb h => RowR.below h hb) enter_long⟩
      go_enter Try.func76, Try.ntmps76
      go_wp2_with (first | (go_at_call 88; refine H1.out.mono ?_; rintro e w1 ⟨rfl, hb⟩; rw [alloc_size] at hb; have hc35 := cell_new hb 35 _ c35) | (go_at_call 89; refine (HCON.out _ hb).mono ?_; rintro e w2 ⟨rfl, hb2⟩))
      go_ret
      have hb12 := HB1.out.trans (hb.mono (Nat.le_succ _))
      exact ⟨by rw [HR.out]; rfl, hb12.trans (hb2.mono hb12.size)⟩

set_option maxRecDepth 100000 in
set_option maxHeartbeats 1000000 in
theorem longOut_any (W : World) (cs : List Value) (d : OutD) (h : OutR W cs d) : Calls Try.prog 78 #[.agg cs.toArray] W (BoolP (longB d.script) W) := by
  obtain ⟨sv, rfl, _, hs⟩ := h
  have hb1 : Below W.heap.size W (W.alloc (.cells #[.int .u64 d.value, sv] 61)) := (Below.refl _ _).alloc (Nat.le_refl _) _
  have H1 := Kp.mk (long_any (W.alloc (.cells #[.int .u64 d.value, sv] 61)) sv d.script (hs.below hb1))
  have HB1 := Kp.mk hb1
  clear hs hb1
  go_enter Try.func78, Try.ntmps78
  go_wp2_with (go_at_call 88; refine H1.out.mono ?_; rintro e w1 ⟨rfl, hb⟩)
  go_ret
  exact ⟨rfl, HB1.out.trans (hb.mono HB1.out.size)⟩
def witB (d : InD) : Bool := decide (0 < d.wit.length)
theorem asks_longIn : Asks InR (fun cs => .agg cs.toArray) 76 longInB := fun W cs x h => longIn_any W cs x h
theorem asks_longOut : Asks OutR (fun cs => .agg cs.toArray) 78 (fun d : OutD => longB d.script) := fun W cs x h => longOut_any W cs x h
def witT (t : TxD) : Bool := t.ins.any witB
def withinB (n : Nat) : Bool := decide (1 ≤ n ∧ n ≤ 50)
set_option maxRecDepth 100000 in
set_option maxHeartbeats 1000000 in
theorem within_any (W : World) (n : Nat) : Calls Try.prog 74 #[.int .i64 (n : Int)] W (BoolP (withinB n) W) := by
  by_cases h1 : 1 ≤ n
  · have h1' : (1 : Int) ≤ (n : Int) := by omega
    by_cases h2 : n ≤ 50
    · have h2' : (n : Int) ≤ 50 := by omega
      have HR : Kp (withinB n = true) := ⟨by simp [withinB, h1, h2]⟩
      clear h1 h2
      go_enter Try.func74, Try.ntmps74
      go_wp2
      go_ret
      exact ⟨by rw [HR.out]; rfl, Below.refl _ _⟩
    · have h2' : ((n : Int) ≤ 50) = False := eq_false (by omega)
      have HR : Kp (withinB n = false) := ⟨by simp [withinB, h2]⟩
      clear h1 h2
      go_enter Try.func74, Try.ntmps74
      go_wp2
      go_ret
      exact ⟨by rw [HR.out]; rfl, Below.refl _ _⟩
  · have h1' : ((1 : Int) ≤ (n : Int)) = False := eq_false (by omega)
    have HR : Kp (withinB n = false) := ⟨by simp [withinB, h1]⟩
    clear h1
    go_enter Try.func74, Try.ntmps74
    go_wp2
    go_ret
    exact ⟨by rw [HR.out]; rfl, Below.refl _ _⟩

def mayB (t : TxD) : Bool := withinB t.ins.length && (withinB t.outs.length && (!t.ins.any longInB && !t.outs.any (fun d => longB d.script)))
set_option maxRecDepth 100000 in
set_option maxHeartbeats 1000000 in
theorem may_any (W : World) (v : Value) (t : TxD) (h : TxR W v t) : Calls Try.prog 58 #[v] W (BoolP (mayB t) W) := by
  obtain ⟨iv, ov, rfl, _, _, hi, ho⟩ := h
  obtain ⟨Ai, ci, rfl, _, hil⟩ := hi.slice
  obtain ⟨Ao, co, rfl, _, hol⟩ := ho.slice
  unfold maxLen at hil hol
  have hb1 : Below W.heap.size W (W.alloc (.cells #[.int .u32 t.version, .slice Ai t.ins.length ci, .slice Ao t.outs.length co, .int .u32 t.lock] 30)) := (Below.refl _ _).alloc (Nat.le_refl _) _
  have HB1 := Kp.mk hb1
  have HI : Kp (∀ w1, Below (W.heap.size + 1) (W.alloc (.cells #[.int .u32 t.version, .slice Ai t.ins.length ci, .slice Ao t.outs.length co, .int .u32 t.lock] 30)) w1 → Calls Try.prog 75 #[.slice Ai t.ins.length ci, .func (.func 76) #[] #[]] w1 (BoolP (t.ins.any longInB) w1)) := ⟨fun w1 hb =>
    conIn_any w1 _ t.ins 76 longInB (ins_below (ins_below hi hb1) (by rw [alloc_size]; exact hb)) asks_longIn (fun _ _ _ hb h => InR.below h hb) enter_longIn⟩
  have HO : Kp (∀ w1, Below (W.heap.size + 1) (W.alloc (.cells #[.int .u32 t.version, .slice Ai t.ins.length ci, .slice Ao t.outs.length co, .int .u32 t.lock] 30)) w1 → Calls Try.prog 77 #[.slice Ao t.outs.length co, .func (.func 78) #[] #[]] w1 (BoolP (t.outs.any (fun d => longB d.script)) w1)) := ⟨fun w1 hb =>
    conOut_any w1 _ t.outs 78 (fun d => longB d.script) (outs_below (outs_below ho hb1) (by rw [alloc_size]; exact hb)) asks_longOut (fun _ _ _ hb h => OutR.below h hb) enter_longOut⟩
  have HW : Kp (∀ (w1 : World) (n : Nat), Calls Try.prog 74 #[.int .i64 (n : Int)] w1 (BoolP (withinB n) w1)) := ⟨within_any⟩
  have HD : Kp (mayB t = (withinB t.ins.length && (withinB t.outs.length && (!t.ins.any longInB && !t.outs.any (fun d => longB d.script))))) := ⟨rfl⟩
  clear hi ho hb1
  have HF : Kp (Below (W.heap.size + 1) (W.alloc (.cells #[.int .u32 t.version, .slice Ai t.ins.length ci, .slice Ao t.outs.length co, .int .u32 t.lock] 30)) (W.alloc (.cells #[.int .u32 t.version, .slice Ai t.ins.length ci, .slice Ao t.outs.length co, .int .u32 t.lock] 30))) := ⟨Below.refl _ _⟩
  cases h1 : withinB t.ins.length with
  | false =>
    have HW1 := Kp.mk (HW.out (W.alloc (.cells #[.int .u32 t.version, .slice Ai t.ins.length ci, .slice Ao t.outs.length co, .int .u32 t.lock] 30)) t.ins.length)
    rw [h1] at HD HW1
    clear h1
    go_enter Try.func58, Try.ntmps58
    go_wp2_with (go_at_call 74; refine HW1.out.mono ?_; rintro e w1 ⟨rfl, hb⟩)
    go_ret
    exact ⟨by rw [HD.out]; rfl, HB1.out.trans (hb.mono HB1.out.size)⟩
  | true =>
    have HW1 := Kp.mk (HW.out (W.alloc (.cells #[.int .u32 t.version, .slice Ai t.ins.length ci, .slice Ao t.outs.length co, .int .u32 t.lock] 30)) t.ins.length)
    rw [h1] at HD HW1
    clear h1
    cases h2 : withinB t.outs.length with
    | false =>
      have HW2 := Kp.mk (fun w1 => HW.out w1 t.outs.length)
      rw [h2] at HD HW2
      clear h2
      go_enter Try.func58, Try.ntmps58
      go_wp2_with fail
      refine HW1.out.mono ?_
      rintro e w1 ⟨rfl, hb⟩
      rw [alloc_size] at hb
      have hc2 := cell_new hb 2 _ rfl
      go_wp2_with fail
      refine (HW2.out _).mono ?_
      rintro e w2 ⟨rfl, hb2⟩
      have HB2 := Kp.mk (hb.trans (hb2.mono (Nat.le_trans (Nat.le_of_eq (alloc_size ..).symm) hb.size)))
      clear hb hb2 hc2
      go_wp2
      go_ret
      exact ⟨by rw [HD.out]; rfl, HB1.out.trans (HB2.out.mono (Nat.le_succ _))⟩
    | true =>
      have HW2 := Kp.mk (fun w1 => HW.out w1 t.outs.length)
      rw [h2] at HD HW2
      clear h2
      cases h3 : t.ins.any longInB with
      | true =>
        rw [h3] at HD HI
        clear h3
        go_enter Try.func58, Try.ntmps58
        go_wp2_with fail
        refine HW1.out.mono ?_
        rintro e w1 ⟨rfl, hb⟩
        rw [alloc_size] at hb
        have hc2 := cell_new hb 2 _ rfl
        go_wp2_with fail
        refine (HW2.out _).mono ?_
        rintro e w2 ⟨rfl, hb2⟩
        have hb22 := hb.trans (hb2.mono (Nat.le_trans (Nat.le_of_eq (alloc_size ..).symm) hb.size))
        have hc1 := cell_new hb22 1 _ rfl
        have HB2 := Kp.mk hb22
        clear hb hb2 hb22 hc2
        go_wp2_with fail
        refine (HI.out _ HB2.out).mono ?_
        rintro e w3 ⟨rfl, hb3⟩
        have HB3 := Kp.mk (HB2.out.trans (hb3.mono (Nat.le_trans (Nat.le_of_eq (alloc_size ..).symm) HB2.out.size)))
        clear hb3 hc1
        go_wp2
        go_ret
        exact ⟨by rw [HD.out]; rfl, HB1.out.trans (HB3.out.mono (Nat.le_succ _))⟩
      | false =>
        rw [h3] at HD HI
        clear h3
        go_enter Try.func58, Try.ntmps58
        go_wp2_with fail
        refine HW1.out.mono ?_
        rintro e w1 ⟨rfl, hb⟩
        rw [alloc_size] at hb
        have hc2 := cell_new hb 2 _ rfl
        go_wp2_with fail
        refine (HW2.out _).mono ?_
        rintro e w2 ⟨rfl, hb2⟩
        have hb22 := hb.trans (hb2.mono (Nat.le_trans (Nat.le_of_eq (alloc_size ..).symm) hb.size))
        have hc1 := cell_new hb22 1 _ rfl
        have HB2 := Kp.mk hb22
        clear hb hb2 hb22 hc2
        go_wp2_with fail
        refine (HI.out _ HB2.out).mono ?_
        rintro e w3 ⟨rfl, hb3⟩
        have hb33 := HB2.out.trans (hb3.mono (Nat.le_trans (Nat.le_of_eq (alloc_size ..).symm) HB2.out.size))
        have hc22 := cell_new hb33 2 _ rfl
        have HB3 := Kp.mk hb33
        clear hb3 hc1 hb33
        go_wp2_with fail
        refine (HO.out _ HB3.out).mono ?_
        rintro e w4 ⟨rfl, hb4⟩
        have HB4 := Kp.mk (HB3.out.trans (hb4.mono (Nat.le_trans (Nat.le_of_eq (alloc_size ..).symm) HB3.out.size)))
        clear hb4 hc22
        cases h4 : t.outs.any (fun d => longB d.script) with
        | false =>
          rw [h4] at HD
          clear h4
          go_wp2
          go_ret
          exact ⟨by rw [HD.out]; rfl, HB1.out.trans (HB4.out.mono (Nat.le_succ _))⟩
        | true =>
          rw [h4] at HD
          clear h4
          go_wp2
          go_ret
          exact ⟨by rw [HD.out]; rfl, HB1.out.trans (HB4.out.mono (Nat.le_succ _))⟩
end

end Go.Proofs.Ytdemamipllfonaa
