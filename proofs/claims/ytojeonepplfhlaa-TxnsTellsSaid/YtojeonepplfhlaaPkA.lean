/- What stays when one cell of another row is turned: rows of bytes keep their lengths. No program. -/
import Derived.Test.YtojeonepplfhlaaBkC
namespace Go.Proofs.Ytojeonepplfhlaa
open Go.RowKit

/-- Each cell of a block of type e is as it was, or is u. -/
def Pk (e : Nat) (u : Value) (w w' : World) : Prop := w.heap.size ≤ w'.heap.size ∧ ∀ (b : Nat) (cs : Array Value) (fr : Nat × Nat), w.heap[b]? = some (.cells cs e fr) → ∃ cs', w'.heap[b]? = some (.cells cs' e fr) ∧ ∀ (i : Nat) (x : Value), cs[i]? = some x → cs'[i]? = some x ∨ cs'[i]? = some u
theorem Pk.of_keeps {ts : List Nat} {e : Nat} (u : Value) {w w' : World} (h : Keeps ts w w') (he : e ∈ ts) : Pk e u w w' := ⟨h.1, fun b cs _ hb => ⟨cs, h.2 b e cs he hb, fun _ _ hx => .inl hx⟩⟩
theorem Pk.trans {e : Nat} {u : Value} {w w' w2 : World} (h : Pk e u w w') (k : Pk e u w' w2) : Pk e u w w2 := ⟨Nat.le_trans h.1 k.1, fun b cs fr hb => by
  obtain ⟨c1, h1, h2⟩ := h.2 b cs fr hb
  obtain ⟨c2, h3, h4⟩ := k.2 b c1 fr h1
  refine ⟨c2, h3, fun i x hx => ?_⟩
  rcases h2 i x hx with h5 | h5
  · exact h4 i x h5
  · rcases h4 i u h5 with h6 | h6 <;> exact .inr h6⟩
section
set_option maxRecDepth 100000
variable {w w' : World} {B : Nat}
theorem RbT.pk {y : Int} (hy : 0 ≤ y ∧ y ≤ 255) (hp : Pk 5 (.int .u8 y) w w') {v : Value} {l : List Int} (h : RbT w v l) : ∃ l', l'.length = l.length ∧ RbT w' v l' := by
  obtain ⟨⟨⟨A, c, rfl, hc, hn, hr⟩, hb, hm⟩, ht⟩ := h
  by_cases h0 : l = []
  · subst h0
    exact ⟨[], rfl, ⟨⟨A, c, rfl, hc, hn, fun h => absurd rfl h⟩, Bys.nil, hm⟩, fun h => absurd rfl h⟩
  · obtain ⟨b, off, n, c', cs, fr, he, hbk⟩ := ht h0
    injection he with e1 e2 e3
    subst e1
    obtain ⟨b', off', e4, hbg, hlt, hrun⟩ := hr h0
    injection e4 with e4
    injection e4 with e4 e5
    subst e4
    subst e5
    obtain ⟨cs', hbk', hx⟩ := hp.2 b cs fr hbk
    have fx : ∀ i : Nat, ∃ x : Int, i < l.length → (0 ≤ x ∧ x ≤ 255) ∧ w'.cell? ⟨b, off + i, none⟩ = some (.int .u8 x) := fun i => by
      by_cases hi : i < l.length
      · have h1 := hrun i hi
        rw [cell_of_row _ _ _ _ _ _ hbk] at h1
        rcases hx _ _ h1 with h2 | h2
        · exact ⟨_, fun _ => ⟨hb.at i, by rw [cell_of_row _ _ _ _ _ _ hbk']; exact h2⟩⟩
        · exact ⟨y, fun _ => ⟨hy, by rw [cell_of_row _ _ _ _ _ _ hbk']; exact h2⟩⟩
      · exact ⟨0, fun h => absurd h hi⟩
    obtain ⟨f, hf⟩ := Classical.axiomOfChoice fx
    refine ⟨(List.range l.length).map f, by simp, ⟨⟨some ⟨b, off, none⟩, c, by simp, by simpa using hc, hn, fun _ => ⟨b, off, rfl, ?_, Nat.lt_of_lt_of_le hlt hp.1, fun i hi => ?_⟩⟩, fun x hx => ?_, by simpa using hm⟩, fun _ => ⟨b, off, _, _, cs', fr, rfl, hbk'⟩⟩
    · have := Nat.lt_of_lt_of_le hlt hp.1
      omega
    · have hi' : i < l.length := by simpa using hi
      rw [(hf i hi').2]
      simp [List.getD_eq_getElem?_getD, hi']
    · obtain ⟨i, hi, rfl⟩ := List.mem_map.1 hx
      exact (hf i (List.mem_range.1 hi)).1
/-- Of a row of which each element may be read otherwise. -/
theorem OwnMany.other {α : Type} {k e : Nat} {R R' : List Value → α → Prop} {S : α → α → Prop} {ts : List Nat} {v : Value} {ds : List α} (h : OwnMany k e R w B v ds) (hk : Keeps ts w w') (he : e ∈ ts)
    (hR : ∀ cs d, R cs d → ∃ d', R' cs d' ∧ S d d') : ∃ ds', ds'.length = ds.length ∧ OwnMany k e R' w' B v ds' ∧ ∀ d' ∈ ds', ∃ d ∈ ds, S d d' := by
  obtain ⟨css, ho, hcl, hlen, hr⟩ := h.lens
  have ho' := ownsRow_keeps ho hk he
  clear hk he
  suffices H : ∀ (css : List (List Value)) (ds : List α), css.length = ds.length → (∀ (i : Nat) (cs : List Value) (d : α), css[i]? = some cs → ds[i]? = some d → R cs d) → ∃ ds' : List α, ds'.length = ds.length ∧ (∀ (i : Nat) (cs : List Value) (d : α), css[i]? = some cs → ds'[i]? = some d → R' cs d) ∧ ∀ d' ∈ ds', ∃ d ∈ ds, S d d' by
    obtain ⟨ds', h1, h2, h3⟩ := H css ds hcl hr
    exact ⟨ds', h1, ⟨css, by rw [h1]; exact ho', by omega, fun i cs d e1 e2 => ⟨hlen cs (List.mem_of_getElem? e1), h2 i cs d e1 e2⟩⟩, h3⟩
  intro css
  induction css with
  | nil =>
    intro ds hl _
    obtain rfl : ds = [] := List.eq_nil_of_length_eq_zero (by simpa using hl.symm)
    exact ⟨[], rfl, fun i cs d h => by simp at h, fun d' h => by cases h⟩
  | cons c r ih =>
    intro ds hl hr
    match ds, hl with
    | d :: ds, hl =>
      obtain ⟨ds', h1, h2, h3⟩ := ih ds (by simpa using hl) fun i cs d e1 e2 => hr (i + 1) cs d (by simpa using e1) (by simpa using e2)
      obtain ⟨d', e1, e2⟩ := hR c d (hr 0 c d (by simp) (by simp))
      refine ⟨d' :: ds', by simp [h1], fun i cs x q1 q2 => ?_, fun x hx => ?_⟩
      · cases i with
        | zero =>
          simp at q1 q2
          subst q1
          subst q2
          exact e1
        | succ i => exact h2 i cs x (by simpa using q1) (by simpa using q2)
      · rcases List.mem_cons.1 hx with rfl | hx
        · exact ⟨d, by simp, e2⟩
        · obtain ⟨y, hy, hs⟩ := h3 x hx
          exact ⟨y, by simp [hy], hs⟩
/-- Rows of which one cell may have been turned. -/
theorem OwnRows.pk {u : Value} {d0 : List Int} {R : List Value → List Int → Prop} (hp : Pk 27 u w w') (hR : ∀ cs x, R cs x → RowR w' cs x) (hu : RowR w' [u] d0) {v : Value} {ll : List (List Int)} (h : OwnMany 1 27 R w B v ll) :
    ∃ ll', ll'.length = ll.length ∧ Rws w' v ll' ∧ ∀ x ∈ ll', x ∈ ll ∨ x = d0 := by
  obtain ⟨css, ho, hcl, hlen, hr⟩ := h.lens
  rcases ho.2 with ⟨rfl, hn⟩ | ⟨g, cap, cur, rfl, hB, hx, hc, hm, hs, ht⟩
  · obtain rfl : ll = [] := List.eq_nil_of_length_eq_zero hn
    exact ⟨[], rfl, Many.nil _ _ _, fun x h => by cases h⟩
  · obtain ⟨cs', hbk', hcs'⟩ := hp.2 g cur (0, 0) hx
    have fx : ∀ i : Nat, ∃ x : List Int, i < ll.length → (x ∈ ll ∨ x = d0) ∧ ∃ cs, cs.length = 1 ∧ w'.rangeAt g (0 + i * 1) cs ∧ RowR w' cs x := fun i => by
      by_cases hl : i < ll.length
      · have hci : css[i]? = some (css[i]'(by omega)) := List.getElem?_eq_getElem (by omega)
        have hk := hlen _ (List.getElem_mem (show i < css.length by omega))
        have hrr := hr i _ ll[i] hci (List.getElem?_eq_getElem hl)
        have h1 := flatten_at css i 0 _ hlen hci (by omega)
        rw [← ht, List.getElem?_take, if_pos (by omega)] at h1
        generalize css[i] = cs at hk hrr h1
        match cs, hk with
        | [z], _ =>
          have h2 : cur[i * 1 + 0]? = some z := by simpa using h1
          rcases hcs' _ _ h2 with h3 | h3
          · exact ⟨ll[i], fun _ => ⟨.inl (List.getElem_mem hl), [z], rfl, fun j q hq => by
              match j, hq with
              | 0, hq => cases hq; rw [cell_of_row _ _ _ _ _ _ hbk', Nat.zero_add]; exact h3, hR _ _ hrr⟩⟩
          · exact ⟨d0, fun _ => ⟨.inr rfl, [u], rfl, fun j q hq => by
              match j, hq with
              | 0, hq => cases hq; rw [cell_of_row _ _ _ _ _ _ hbk', Nat.zero_add]; exact h3, hu⟩⟩
      · exact ⟨[], fun h => absurd h hl⟩
    obtain ⟨f, hf⟩ := Classical.axiomOfChoice fx
    refine ⟨(List.range ll.length).map f, by simp, ⟨some ⟨g, 0, none⟩, cap, by simp, by simpa using hc, hm, (fun h => by cases h), fun _ => ⟨g, 0, rfl, Nat.lt_of_lt_of_le (Box.lt hx) hp.1, fun i x hx => ?_⟩⟩, fun x hx => ?_⟩
    · have hi' : i < ll.length := by
        have := (List.getElem?_eq_some_iff.1 hx).1
        simpa using this
      have he : f i = x := by simpa [hi'] using hx
      rw [← he]
      exact (hf i hi').2
    · obtain ⟨i, hi, rfl⟩ := List.mem_map.1 hx
      exact (hf i (List.mem_range.1 hi)).1
/-- An input that reads in w' as one with as long a script, and as many witnesses, none of them long. -/
def LikeIn (d d' : InD) : Prop := d'.script.length = d.script.length ∧ d'.wit.length = d.wit.length ∧ ∀ x ∈ d'.wit, x.length ≤ 1 ∨ ∃ x0 ∈ d.wit, x.length = x0.length
theorem InO.pk8 {y : Int} (hy : 0 ≤ y ∧ y ≤ 255) (hp : Pk 5 (.int .u8 y) w w') (hk : Keeps [27] w w') {cs : List Value} {d : InD} (h : InO w B cs d) : ∃ d', InR w' cs d' ∧ LikeIn d d' := by
  obtain ⟨sv, wv, rfl, hf, hs, hb, hw⟩ := h
  obtain ⟨l', hl, hs'⟩ := (hs.rbT hb).pk hy hp
  obtain ⟨ll', hll, hw', hx⟩ := OwnMany.other (R' := RowR w') (S := fun x x' => x'.length = x.length) hw hk (by decide) fun cs x ⟨sv, hc, h1, h2⟩ => by
    obtain ⟨x', h3, h4⟩ := (h1.rbT h2).pk hy hp
    exact ⟨x', ⟨sv, hc, h4.1⟩, h3⟩
  refine ⟨⟨d.prev, d.vout, l', d.seq, ll'⟩, ⟨sv, wv, rfl, ⟨hf.plen, hf.pbys, hf.vlt, hf.slt⟩, hs'.1, OwnMany.many hw' fun _ _ h => h⟩, hl, hll, fun x hx' => ?_⟩
  obtain ⟨x0, h2, h3⟩ := hx x hx'
  exact .inr ⟨x0, h2, h3⟩
theorem InO.pkR {u : Value} (hp : Pk 27 u w w') (hk : Keeps [5] w w') (hu : RowR w' [u] [1]) {cs : List Value} {d : InD} (h : InO w B cs d) : ∃ d', InR w' cs d' ∧ LikeIn d d' := by
  obtain ⟨sv, wv, rfl, hf, hs, hb, hw⟩ := h
  have hR : ∀ cs x, RowO w B cs x → RowR w' cs x := fun cs x ⟨sv, hc, h1, h2⟩ => ⟨sv, hc, (h1.keeps hk (by decide)).rb h2⟩
  obtain ⟨ll', hll, hw', hx⟩ := OwnRows.pk hp hR hu hw
  refine ⟨⟨d.prev, d.vout, d.script, d.seq, ll'⟩, ⟨sv, wv, rfl, ⟨hf.plen, hf.pbys, hf.vlt, hf.slt⟩, (hs.keeps hk (by decide)).rb hb, hw'⟩, rfl, hll, fun x hx' => ?_⟩
  rcases hx x hx' with h | rfl
  · exact .inr ⟨x, h, rfl⟩
  · exact .inl (by simp)
end
end Go.Proofs.Ytojeonepplfhlaa
