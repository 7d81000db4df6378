/- What stays of rows that lie high, or whose bytes are turned. No program. -/
import Derived.Test.YtojeonepplfhlaaTxQ
namespace Go.Proofs.Ytojeonepplfhlaa
open Go.RowKit

theorem txOf_pos (n m : Int) : 4 ≤ (bytesOf (txOf n m)).length := by
  unfold bytesOf
  rw [if_pos ((mayB_iff _).2 (txOf_may n m))]
  unfold encTx
  simp only [List.length_append, leb_len]
  omega

/-- Blocks from B on are as they were. -/
def High (B : Nat) (w w' : World) : Prop := w.heap.size ≤ w'.heap.size ∧ ∀ b, B ≤ b → b < w.heap.size → w'.heap[b]? = w.heap[b]?
theorem High.only {B g : Nat} {w w' : World} (h : Only g w w') (hg : g < B) : High B w w' := ⟨h.size, fun b hb hl => h.block b hl (by simp; omega)⟩
theorem High.below {B : Nat} {w w' : World} (h : Below w.heap.size w w') : High B w w' := ⟨h.size, fun b _ hl => h.block b hl⟩
theorem High.trans {B : Nat} {w w' w2 : World} (h : High B w w') (k : High B w' w2) : High B w w2 := ⟨Nat.le_trans h.1 k.1, fun b hb hl => (k.2 b hb (Nat.lt_of_lt_of_le hl h.1)).trans (h.2 b hb hl)⟩
theorem ownsRow_high {w w' : World} {B e k n : Nat} {v : Value} {xs : List Value} (ho : w.ownsRow B e k v n xs) (hk : High B w w') : w'.ownsRow B e k v n xs := by
  refine ⟨ho.1, ?_⟩
  rcases ho.2 with h | ⟨g, cap, cur, hv, hB, hx, h⟩
  · exact .inl h
  · exact .inr ⟨g, cap, cur, hv, hB, (hk.2 g hB (heap_lt hx)).trans hx, h⟩
section
set_option maxRecDepth 100000
variable {w w' : World} {B : Nat}
theorem OwnMany.high {α : Type} {k e : Nat} {R R' : List Value → α → Prop} {v : Value} {ds : List α} (h : OwnMany k e R w B v ds) (hk : High B w w') (hR : ∀ cs d, R cs d → R' cs d) : OwnMany k e R' w' B v ds := by
  obtain ⟨css, ho, hl, hr⟩ := h
  exact ⟨css, ownsRow_high ho hk, hl, fun i cs d h1 h2 => ⟨(hr i cs d h1 h2).1, hR cs d (hr i cs d h1 h2).2⟩⟩
theorem Own.high {e : Nat} {v : Value} {l : List Int} (h : Own w B e v l) (hk : High B w w') : Own w' B e v l := ownsRow_high h hk
theorem rows_high {v : Value} {ll : List (List Int)} (h : OwnRows w B v ll) (hk : High B w w') : OwnRows w' B v ll := OwnMany.high h hk fun _ _ ⟨sv, hc, h1, h2⟩ => ⟨sv, hc, h1.high hk, h2⟩
theorem InO.high {cs : List Value} {d : InD} (h : InO w B cs d) (hk : High B w w') : InO w' B cs d := by
  obtain ⟨sv, wv, rfl, hf, h1, h2, h3⟩ := h
  exact ⟨sv, wv, rfl, hf, h1.high hk, h2, rows_high h3 hk⟩
theorem OutO.high {cs : List Value} {d : OutD} (h : OutO w B cs d) (hk : High B w w') : OutO w' B cs d := by
  obtain ⟨sv, rfl, hf, h1, h2⟩ := h
  exact ⟨sv, rfl, hf, h1.high hk, h2⟩
theorem TxO.high {v : Value} {t : TxD} (h : TxO w B v t) (hk : High B w w') : TxO w' B v t := by
  obtain ⟨iv, ov, rfl, h1, h2, h3, h4⟩ := h
  exact ⟨iv, ov, rfl, h1, h2, OwnMany.high h3 hk fun _ _ h => h.high hk, OwnMany.high h4 hk fun _ _ h => h.high hk⟩

/-- A block of bytes, its first n cells bytes, whichever. -/
def BoxB (w : World) (g n : Nat) : Prop := ∃ cur, Box w g 5 cur ∧ ∀ k, k < n → ∃ x : Int, cur[k]? = some (.int .u8 x)
theorem BoxB.at {g n : Nat} (h : BoxB w g n) {k : Nat} (hk : k < n) : ∃ x : Int, w.cell? ⟨g, k, none⟩ = some (.int .u8 x) ∧ w.frozen? ⟨g, k, none⟩ = false := by
  obtain ⟨cur, hb, hx⟩ := h
  obtain ⟨x, hx⟩ := hx k hk
  exact ⟨x, (hb.cell k).trans hx, hb.warm k⟩
theorem BoxB.poke {g n : Nat} (h : BoxB w g n) {g' n' : Nat} (h' : BoxB w g' n') (k : Nat) (y : Int) : BoxB (w.setCell ⟨g', k, none⟩ (.int .u8 y)) g n := by
  obtain ⟨cur, hb, hx⟩ := h
  by_cases he : g = g'
  · subst he
    refine ⟨_, hb.set k _, fun j hj => ?_⟩
    obtain ⟨x, hx⟩ := hx j hj
    rw [Array.getElem?_setIfInBounds]
    by_cases hkj : k = j
    · subst hkj
      have hl : k < cur.size := (Array.getElem?_eq_some_iff.1 hx).1
      rw [if_pos rfl, if_pos hl]
      exact ⟨y, rfl⟩
    · rw [if_neg hkj]
      exact ⟨x, hx⟩
  · exact ⟨cur, (Below.heap_setCell w _ _ g he).trans hb, hx⟩
theorem Box.poke {g t : Nat} {cs : Array Value} (h : Box w g t cs) (ht : t ≠ 5) {g' n' : Nat} (h' : BoxB w g' n') (k : Nat) (y : Value) : Box (w.setCell ⟨g', k, none⟩ y) g t cs := by
  obtain ⟨cur, hb, _⟩ := h'
  have he : g ≠ g' := fun e => by
    subst e
    have h1 : w.heap[g]? = some (.cells cs t (0, 0)) := h
    have h2 : w.heap[g]? = some (.cells cur 5 (0, 0)) := hb
    rw [h1] at h2
    injection h2 with h3
    injection h3 with _ h4
    exact ht h4
  exact (Below.heap_setCell w _ _ g he).trans h
theorem Own.boxB {v : Value} {l : List Int} (h : Own w B 5 v l) (hl : 0 < l.length) : ∃ g c, v = .slice (some ⟨g, 0, none⟩) l.length c ∧ B ≤ g ∧ g < w.heap.size ∧ l.length ≤ c ∧ BoxB w g l.length := by
  rcases h.form with ⟨_, rfl⟩ | ⟨g, cap, cur, rfl, hb, hx, hc, hm, hs, ht⟩
  · simp at hl
  · refine ⟨g, cap, rfl, hb, hx.lt, hc, cur, hx, fun k hk => ⟨l.getD k 0, ?_⟩⟩
    have hu : (byteVals l)[k]? = some (.int .u8 (l.getD k 0)) := by
      unfold byteVals
      rw [List.getElem?_map, List.getElem?_eq_getElem hk, List.getD_eq_getElem?_getD, List.getElem?_eq_getElem hk]
      rfl
    rw [← ht, List.getElem?_take, if_pos hk] at hu
    simpa using hu
/-- The slice v is a row of bytes, whichever, in a block from B on. -/
def ScrB (w : World) (B : Nat) (v : Value) : Prop := ∃ A n c, v = .slice A n c ∧ n ≤ c ∧ n ≤ 500 ∧ (0 < n → ∃ g, A = some ⟨g, 0, none⟩ ∧ B ≤ g ∧ BoxB w g n)
theorem ScrB.poke {v : Value} (h : ScrB w B v) {g' n' : Nat} (h' : BoxB w g' n') (k : Nat) (y : Int) : ScrB (w.setCell ⟨g', k, none⟩ (.int .u8 y)) B v := by
  obtain ⟨A, n, c, rfl, hc, h5, hn⟩ := h
  refine ⟨A, n, c, rfl, hc, h5, fun h0 => ?_⟩
  obtain ⟨g, rfl, hg, hb⟩ := hn h0
  exact ⟨g, rfl, hg, hb.poke h' k y⟩
theorem Own.scrB {v : Value} {l : List Int} (h : Own w B 5 v l) (h5 : l.length ≤ 500) : ScrB w B v := by
  rcases Nat.eq_zero_or_pos l.length with h0 | h0
  · have : l = [] := List.eq_nil_of_length_eq_zero h0
    subst this
    rcases h.form with ⟨rfl, _⟩ | ⟨g, cap, cur, rfl, _⟩
    · exact ⟨_, _, _, rfl, Nat.zero_le _, Nat.zero_le _, fun h => absurd h (Nat.lt_irrefl 0)⟩
    · exact ⟨_, _, _, rfl, Nat.zero_le _, Nat.zero_le _, fun h => absurd h (Nat.lt_irrefl 0)⟩
  · obtain ⟨g, c, rfl, hg, _, hc, hb⟩ := h.boxB h0
    exact ⟨_, _, _, rfl, hc, h5, fun _ => ⟨g, rfl, hg, hb⟩⟩
/-- The rows of bytes that the cells C of a block of inputs hold. -/
def InsB (w : World) (B gi ni : Nat) (C : Array Value) : Prop := Box w gi 47 C ∧ ∀ i, i < ni → ∃ v, C[i * 36 + 33]? = some v ∧ ScrB w B v
theorem InsB.poke {gi ni : Nat} {C : Array Value} (h : InsB w B gi ni C) {g' n' : Nat} (h' : BoxB w g' n') (k : Nat) (y : Int) : InsB (w.setCell ⟨g', k, none⟩ (.int .u8 y)) B gi ni C :=
  ⟨Box.poke h.1 (by decide) h' k _, fun i hi => by
    obtain ⟨v, hv, hs⟩ := h.2 i hi
    exact ⟨v, hv, hs.poke h' k y⟩⟩
theorem OwnMany.insB {v : Value} {ds : List InD} (h : OwnMany 36 47 (InO w B) w B v ds) (hl : 0 < ds.length) (h5 : ∀ d ∈ ds, d.script.length ≤ 500) :
    ∃ gi c C, v = .slice (some ⟨gi, 0, none⟩) ds.length c ∧ ds.length ≤ c ∧ B ≤ gi ∧ gi < w.heap.size ∧ InsB w B gi ds.length C := by
  obtain ⟨css, ho, hcl, hlen, hr⟩ := h.lens
  rcases ho.2 with ⟨_, hn⟩ | ⟨g, cap, cur, rfl, hB, hx, hc, hm, hs, ht⟩
  · omega
  · refine ⟨g, cap, cur, rfl, hc, hB, Box.lt hx, hx, fun i hi => ?_⟩
    have hcs : css[i]? = some (css[i]'(by omega)) := List.getElem?_eq_getElem (by omega)
    obtain ⟨sv, wv, he, hf, h1, h2, h3⟩ := hr i _ ds[i] hcs (List.getElem?_eq_getElem hi)
    have h33 := flatten_at css i 33 _ hlen hcs (by omega)
    rw [he, inCells_script hf, ← ht, List.getElem?_take, if_pos (by omega)] at h33
    exact ⟨sv, by simpa using h33, h1.scrB (h5 _ (List.getElem_mem hi))⟩
end
end Go.Proofs.Ytojeonepplfhlaa
