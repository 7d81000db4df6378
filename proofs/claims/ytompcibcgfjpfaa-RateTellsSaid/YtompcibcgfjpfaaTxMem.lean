/- Transactions in memory: slices whose elements have several cells, rows of bytes, inputs, outputs; what keeps them. No program. -/
import Derived.Test.YtompcibcgfjpfaaMem
import Derived.Deep.MidRow
namespace Go.Proofs.Ytompcibcgfjpfaa
open Go.RowKit

/-- A fact kept from the walk. -/
structure Kp (p : Prop) : Prop where
  out : p

/-- The slice v has the elements l, of k cells each; R reads the cells of one. -/
def Many {α : Type} (k : Nat) (R : World → List Value → α → Prop) (w : World) (v : Value) (l : List α) : Prop :=
  ∃ A c, v = .slice A l.length c ∧ l.length ≤ c ∧ c ≤ maxLen ∧ (A = none → c = 0) ∧
    (l ≠ [] → ∃ b off, A = some ⟨b, off, none⟩ ∧ b < w.heap.size ∧ ∀ i x, l[i]? = some x → ∃ cs, cs.length = k ∧ w.rangeAt b (off + i * k) cs ∧ R w cs x)

theorem rangeAt_block {w w' : World} {b o : Nat} {cs : List Value} (h : w.rangeAt b o cs) (hb : w'.heap[b]? = w.heap[b]?) : w'.rangeAt b o cs :=
  fun j v hj => (World.cell?_of_block hb).trans (h j v hj)

section
variable {α : Type} {k : Nat} {R : World → List Value → α → Prop} {w w' : World} {v : Value} {l : List α}
theorem Many.nil (k : Nat) (R : World → List Value → α → Prop) (w : World) : Many k R w (.slice none 0 0) [] := ⟨none, 0, rfl, Nat.le_refl _, Nat.zero_le _, fun _ => rfl, fun h => absurd rfl h⟩
theorem Many.below (h : Many k R w v l) (hb : Below w.heap.size w w') (hR : ∀ cs x, R w cs x → R w' cs x) : Many k R w' v l := by
  obtain ⟨A, c, rfl, hc, hm, hn, hr⟩ := h
  refine ⟨A, c, rfl, hc, hm, hn, fun hl => ?_⟩
  obtain ⟨b, off, rfl, hlt, hi⟩ := hr hl
  refine ⟨b, off, rfl, Nat.lt_of_lt_of_le hlt hb.size, fun i x hx => ?_⟩
  obtain ⟨cs, hk, hcs, hrr⟩ := hi i x hx
  exact ⟨cs, hk, rangeAt_block hcs (hb.block b hlt), hR cs x hrr⟩
theorem Many.slice (h : Many k R w v l) : ∃ A c, v = .slice A l.length c ∧ l.length ≤ c ∧ l.length ≤ maxLen := by
  obtain ⟨A, c, rfl, hc, hm, _⟩ := h
  exact ⟨A, c, rfl, hc, Nat.le_trans hc hm⟩
/-- One element. -/
theorem Many.at {A : Option Addr} {n c : Nat} (h : Many k R w (.slice A n c) l) {i : Nat} (hi : i < l.length) :
    ∃ b off cs, A = some ⟨b, off, none⟩ ∧ b < w.heap.size ∧ cs.length = k ∧ w.rangeAt b (off + i * k) cs ∧ R w cs l[i] := by
  obtain ⟨A', c', e, _, _, _, hr⟩ := h
  injection e with e1 e2 e3
  subst e1
  obtain ⟨b, off, hA, hlt, hx⟩ := hr (by rintro rfl; simp at hi)
  obtain ⟨cs, h1, h2, h3⟩ := hx i l[i] (List.getElem?_eq_getElem hi)
  exact ⟨b, off, cs, hA, hlt, h1, h2, h3⟩
/-- All of them lie in one block. -/
theorem Many.all {A : Option Addr} {n c : Nat} (h : Many k R w (.slice A n c) l) (hne : l ≠ []) :
    ∃ b off, A = some ⟨b, off, none⟩ ∧ b < w.heap.size ∧ ∀ (i : Nat) (hi : i < l.length), ∃ cs, cs.length = k ∧ w.rangeAt b (off + i * k) cs ∧ R w cs l[i] := by
  obtain ⟨A', c', e, _, _, _, hr⟩ := h
  injection e with e1 e2 e3
  subst e1
  obtain ⟨b, off, hA, hlt, hx⟩ := hr hne
  exact ⟨b, off, hA, hlt, fun i hi => hx i l[i] (List.getElem?_eq_getElem hi)⟩
end

/-- The slice v reads as the bytes l. -/
def Rb (w : World) (v : Value) (l : List Int) : Prop := Sl w w.heap.size v l ∧ Bys l ∧ l.length ≤ maxLen
theorem Rb.below {w w' : World} {v : Value} {l : List Int} (h : Rb w v l) (hb : Below w.heap.size w w') : Rb w' v l := ⟨(h.1.below hb).free _ (Nat.le_refl _), h.2⟩
theorem Rb.nil (w : World) : Rb w (.slice none 0 0) [] := ⟨Sl.nil _ _, Bys.nil, Nat.zero_le _⟩
/-- The cells of one row of bytes. -/
def RowR (w : World) (cs : List Value) (l : List Int) : Prop := ∃ sv, cs = [sv] ∧ Rb w sv l
abbrev Rws (w : World) (v : Value) (ll : List (List Int)) : Prop := Many 1 RowR w v ll
theorem RowR.below {w w' : World} {cs : List Value} {l : List Int} (h : RowR w cs l) (hb : Below w.heap.size w w') : RowR w' cs l := by
  obtain ⟨sv, rfl, h⟩ := h
  exact ⟨sv, rfl, h.below hb⟩
theorem rws_below {w w' : World} {v : Value} {ll : List (List Int)} (h : Rws w v ll) (hb : Below w.heap.size w w') : Rws w' v ll := Many.below h hb fun _ _ h => h.below hb

/-- An input. -/
structure InD where
  prev : List Int
  vout : Nat
  script : List Int
  seq : Nat
  wit : List (List Int)
deriving DecidableEq, Inhabited
/-- An output. -/
structure OutD where
  value : Nat
  script : List Int
deriving DecidableEq, Inhabited
/-- A transaction. -/
structure TxD where
  version : Nat
  ins : List InD
  outs : List OutD
  lock : Nat
deriving DecidableEq, Inhabited

def inCells (d : InD) (sv wv : Value) : List Value := byteVals d.prev ++ [.int .u32 d.vout, sv, .int .u32 d.seq, wv]
/-- The numbers of an input are such. -/
structure InD.Fit (d : InD) : Prop where
  plen : d.prev.length = 32
  pbys : Bys d.prev
  vlt : d.vout < 4294967296
  slt : d.seq < 4294967296
def InR (w : World) (cs : List Value) (d : InD) : Prop := ∃ sv wv, cs = inCells d sv wv ∧ d.Fit ∧ Rb w sv d.script ∧ Rws w wv d.wit
abbrev InsR (w : World) (v : Value) (l : List InD) : Prop := Many 36 InR w v l
def OutR (w : World) (cs : List Value) (d : OutD) : Prop := ∃ sv, cs = [.int .u64 d.value, sv] ∧ d.value < 18446744073709551616 ∧ Rb w sv d.script
abbrev OutsR (w : World) (v : Value) (l : List OutD) : Prop := Many 2 OutR w v l
def TxR (w : World) (v : Value) (t : TxD) : Prop := ∃ iv ov, v = .agg #[.int .u32 t.version, iv, ov, .int .u32 t.lock] ∧ t.version < 4294967296 ∧ t.lock < 4294967296 ∧ InsR w iv t.ins ∧ OutsR w ov t.outs

section
variable {w w' : World} {cs : List Value} {v : Value}
theorem InR.below {d : InD} (h : InR w cs d) (hb : Below w.heap.size w w') : InR w' cs d := by
  obtain ⟨sv, wv, rfl, hf, h1, h2⟩ := h
  exact ⟨sv, wv, rfl, hf, h1.below hb, rws_below h2 hb⟩
theorem ins_below {l : List InD} (h : InsR w v l) (hb : Below w.heap.size w w') : InsR w' v l := Many.below h hb fun _ _ h => h.below hb
theorem OutR.below {d : OutD} (h : OutR w cs d) (hb : Below w.heap.size w w') : OutR w' cs d := by
  obtain ⟨sv, rfl, h1, h2⟩ := h
  exact ⟨sv, rfl, h1, h2.below hb⟩
theorem outs_below {l : List OutD} (h : OutsR w v l) (hb : Below w.heap.size w w') : OutsR w' v l := Many.below h hb fun _ _ h => h.below hb
theorem TxR.below {t : TxD} (h : TxR w v t) (hb : Below w.heap.size w w') : TxR w' v t := by
  obtain ⟨iv, ov, rfl, h1, h2, h3, h4⟩ := h
  exact ⟨iv, ov, rfl, h1, h2, ins_below h3 hb, outs_below h4 hb⟩
theorem inCells_len {d : InD} (h : d.Fit) (sv wv : Value) : (inCells d sv wv).length = 36 := by simp [inCells, byteVals, h.plen]
theorem inCells_vout {d : InD} (h : d.Fit) (sv wv : Value) : (inCells d sv wv)[32]? = some (.int .u32 d.vout) := by
  unfold inCells
  rw [List.getElem?_append_right (by simp [byteVals, h.plen])]
  simp [byteVals, h.plen]
theorem inCells_script {d : InD} (h : d.Fit) (sv wv : Value) : (inCells d sv wv)[33]? = some sv := by
  unfold inCells
  rw [List.getElem?_append_right (by simp [byteVals, h.plen])]
  simp [byteVals, h.plen]
theorem inCells_seq {d : InD} (h : d.Fit) (sv wv : Value) : (inCells d sv wv)[34]? = some (.int .u32 d.seq) := by
  unfold inCells
  rw [List.getElem?_append_right (by simp [byteVals, h.plen])]
  simp [byteVals, h.plen]
theorem inCells_wit {d : InD} (h : d.Fit) (sv wv : Value) : (inCells d sv wv)[35]? = some wv := by
  unfold inCells
  rw [List.getElem?_append_right (by simp [byteVals, h.plen])]
  simp [byteVals, h.plen]
theorem inCells_prev {d : InD} (h : d.Fit) (sv wv : Value) {j : Nat} (hj : j < 32) : (inCells d sv wv)[j]? = some (.int .u8 (d.prev.getD j 0)) := by
  unfold inCells
  rw [List.getElem?_append_left (by simp [byteVals, h.plen]; omega)]
  have : j < d.prev.length := by rw [h.plen]; exact hj
  simp [byteVals, List.getElem?_map, List.getElem?_eq_getElem this, List.getD_eq_getElem?_getD]
theorem Rb.one {l : List Int} (h : Rb w v l) : v.oneCell' = true := by
  obtain ⟨⟨A, c, rfl, _⟩, _⟩ := h
  rfl
theorem RowR.one {l : List Int} (h : RowR w cs l) : ∀ u ∈ cs, u.oneCell' = true := by
  obtain ⟨sv, rfl, h⟩ := h
  intro u hu
  rw [List.mem_singleton.1 hu]
  exact h.one
theorem InR.one {d : InD} (h : InR w cs d) : ∀ u ∈ cs, u.oneCell' = true := by
  obtain ⟨sv, wv, rfl, _, h1, h2⟩ := h
  obtain ⟨A, c, rfl, _⟩ := h2.slice
  intro u hu
  rcases List.mem_append.1 hu with hu | hu
  · exact byteVals_one _ u hu
  · simp only [List.mem_cons, List.not_mem_nil, or_false] at hu
    rcases hu with rfl | rfl | rfl | rfl
    · rfl
    · exact h1.one
    · rfl
    · rfl
theorem OutR.one {d : OutD} (h : OutR w cs d) : ∀ u ∈ cs, u.oneCell' = true := by
  obtain ⟨sv, rfl, _, h1⟩ := h
  intro u hu
  simp only [List.mem_cons, List.not_mem_nil, or_false] at hu
  rcases hu with rfl | rfl
  · rfl
  · exact h1.one
end

/-- A whole value into the block that was made last. -/
theorem wpList_store_fresh {P : Program} {ops : Array Oper} {rest : List Oper} {o : Oper} {a : Act} {w : World} {Q : Exit → Act → World → Prop} (hgd : o.guard = none) (ty : TypeId) (x y : Operand) (ho : o.op = .store ty x y)
    (old cells : Array Value) (g : Nat) (hg : g = w.heap.size) (hx : a.eval x = .pointer (some ⟨g, 0, none⟩)) (hy : a.eval y = .agg cells) (hi : (P.info? ty).map (·.size) = some cells.size)
    (hold : old.size = cells.size) (h1 : cells.all (·.oneCell') = true)
    (h : wpList P ops Q rest (a.put o.dst undef) (w.alloc (.cells cells ty))) : wpList P ops Q (o :: rest) a (w.alloc (.cells old ty)) :=
  wpList_store_row hgd ty x y ho w.heap.size cells (by rw [hx, hg]) hy ty old (heap_alloc_new w _) hi hold h1 (by
    have e : (w.alloc (.cells old ty)).setRow w.heap.size cells = w.alloc (.cells cells ty) := by
      simp only [World.setRow, World.alloc]
      congr 1
      apply Array.ext_getElem?
      intro i
      rw [Array.getElem?_modify]
      by_cases h : w.heap.size = i
      · subst h
        simp
      · have h' : ¬ i = w.heap.size := fun e => h e.symm
        simp [h, h', Array.getElem?_push]
    rw [e]
    exact h)
end Go.Proofs.Ytompcibcgfjpfaa
