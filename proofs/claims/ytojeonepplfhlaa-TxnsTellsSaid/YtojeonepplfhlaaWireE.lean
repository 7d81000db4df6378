/- 'string(b)' of a slice of bytes; what a law's end asks. -/
import Derived.Test.YtojeonepplfhlaaWireD
import Derived.Laws.BytesArg
namespace Go.Proofs.Ytojeonepplfhlaa
open Go.RowKit

set_option maxRecDepth 100000 in
/-- 'string(b)' of a slice of bytes. -/
theorem run_str {w : World} {g : Nat} {v : Value} {l : List Int} (h : Sl w g v l) :
    (convert 27 9 v).run Try.prog w = .ok (.string (strOfNums l)) w := by
  obtain ⟨A, c, rfl, hc, hn, hr⟩ := h
  cases A with
  | none =>
    have hl : l = [] := by
      by_cases h0 : l = []
      · exact h0
      · obtain ⟨_, _, he, _⟩ := hr h0
        cases he
    subst hl
    exact run_convert_bytes_nil w 27 5 Try.underlying27 Try.underlying5 _ _ 9 Try.underlying9
  | some ad =>
    by_cases h0 : l = []
    · subst h0
      rw [run_convert_bytes_string w 27 9 5 _ _ c Try.underlying27 Try.underlying5 Try.underlying9]
      have hl : (loadCells ad (List.length ([] : List Int))).run Try.prog w = .ok (([] : List Int).map (Value.int .u8)).toArray w :=
        run_loadCells_list (P := Try.prog) w ad [] (fun j v hj => by simp at hj)
      rw [run_bytesToString w ad _ c [] hl]
      rfl
    · obtain ⟨b, off, e, _, _, hrun⟩ := hr h0
      injection e with e
      subst e
      exact run_convert_bytes_arg w 27 5 Try.underlying27 Try.underlying5 b off l.length c l rfl hrun 9 Try.underlying9

theorem Own.any {w : World} {base e : Nat} {v : Value} {l : List Int} (h : Own w base e v l) : Sl w w.heap.size v l := h.sl _ (.inr (Nat.le_refl _))

def YesPost (w : World) (e : Ending) (w' : World) : Prop := e = .returned (.bool true) ∧ Below w.heap.size w w'

end Go.Proofs.Ytojeonepplfhlaa
