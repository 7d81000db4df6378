/- Slices of bytes, and of ints, that come in as arguments. -/
import Derived.Test.YtpmfhjeeiilnjaaClose
import Derived.Test.YtpmfhjeeiilnjaaMem
namespace Go.Proofs.Ytpmfhjeeiilnjaa
open Go.ChangeShapes Go.WideShapes Go.ChangeAt Go.RowKit

set_option maxRecDepth 100000 in
theorem nums_arg {H : Type} {enc : TypeId × Value → H} {W : World} {base : Nat} {t e : Nat} {k : IntKind} {v : Value} {d : DataW H} {p : List MemPlace}
    (ht : Try.prog.underlying t = some (.slice e)) (he : Try.prog.underlying e = some (.int k)) (hc : Try.prog.cellsOf e = 1)
    (hok : Value.okWide Try.prog W .any base t v) (h : DataW.Trod enc Try.prog W 0 (fun _ => true) true t v d p) :
    ∃ (l : List Int) (A : Option Addr) (c : Nat), v = .slice A l.length c ∧ l.length ≤ c ∧ (A = none → c = 0) ∧ l.length ≤ maxLen ∧ (∀ x ∈ l, (Lit.int k x).wf = true) ∧
      (l ≠ [] → ∃ b off, A = some ⟨b, off, none⟩ ∧ b < W.heap.size ∧ ∀ i, i < l.length → W.cell? ⟨b, off + i, none⟩ = some (.int k (l.getD i 0))) := by
  obtain ⟨a0, len, cap, rfl⟩ := okWide_slice ht hok
  obtain ⟨fuel, hf⟩ := h
  rcases open_ints ht he hc hf with ⟨hcs, _⟩ | ⟨a, len', cap', zs, hcs, _, hl, hm, hz, _, hcell, hwf⟩
  · simp only [Value.cells] at hcs
    injection hcs with hcs
    injection hcs with h1 h2 h3
    subst h1; subst h2; subst h3
    exact ⟨[], none, 0, rfl, Nat.le_refl _, fun _ => rfl, Nat.zero_le _, (fun x hx => by cases hx), fun h => absurd rfl h⟩
  · simp only [Value.cells] at hcs
    injection hcs with hcs
    injection hcs with h1 h2 h3
    subst h1; subst h2; subst h3
    simp only [if_true] at hz
    have hlen : (zs.take len).length = len := by rw [List.length_take]; omega
    refine ⟨zs.take len, some a, cap, by rw [hlen], by omega, (fun h => by cases h), by omega, fun x hx => hwf x (List.mem_of_mem_take hx), fun hne => ?_⟩
    have hpos : 0 < zs.length := by
      rcases Nat.eq_zero_or_pos zs.length with h0 | h0
      · exact absurd (List.eq_nil_of_length_eq_zero (by rw [hlen]; omega)) hne
      · exact h0
    obtain ⟨b, off, rfl, hc'⟩ := ints_at hcell hpos
    refine ⟨b, off, rfl, World.block_lt_of_cell? W ⟨b, off + 0, none⟩ (hc' 0 hpos), fun i hi => ?_⟩
    rw [hlen] at hi
    rw [hc' i (by omega)]
    simp [List.getD_eq_getElem?_getD, hi]

set_option maxRecDepth 100000 in
theorem bytes_arg {H : Type} {enc : TypeId × Value → H} {W : World} {base : Nat} {v : Value} {d : DataW H} {p : List MemPlace}
    (hok : Value.okWide Try.prog W .any base 30 v) (h : DataW.Trod enc Try.prog W 0 (fun _ => true) true 30 v d p) :
    ∃ l, Sl W W.heap.size v l ∧ Bys l ∧ l.length ≤ maxLen := by
  obtain ⟨l, A, c, rfl, h1, h2, h3, h4, h5⟩ := nums_arg Try.underlying30 Try.underlying5 (by kernel_rfl) hok h
  refine ⟨l, ⟨A, c, rfl, h1, h2, fun hl => ?_⟩, fun x hx => bd_u8 (h4 x hx), h3⟩
  obtain ⟨b, off, e, hb, hc⟩ := h5 hl
  exact ⟨b, off, e, by omega, hb, hc⟩
end Go.Proofs.Ytpmfhjeeiilnjaa
