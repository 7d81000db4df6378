/- 'awake' of layer 2: what the document fixes. -/
import Derived.Test.YtccbpejjhcbboaaWireD
import Derived.Laws.BytesArg
namespace Go.Proofs.Ytccbpejjhcbboaa
open Go.RowKit

/-- 'string(b)' of a slice of bytes. -/
theorem run_str {w : World} {g : Nat} {v : Value} {l : List Int} (h : Sl w g v l) :
    (convert 28 9 v).run Try.prog w = .ok (.string (strOfNums l)) w := by
  obtain ⟨A, c, rfl, hc, hn, hr⟩ := h
  cases A with
  | none =>
    have hl : l = [] := by
      by_cases h0 : l = []
      · exact h0
      · obtain ⟨_, _, he, _⟩ := hr h0
        cases he
    subst hl
    exact run_convert_bytes_nil w 28 5 Try.underlying28 Try.underlying5 _ _ 9 Try.underlying9
  | some ad =>
    by_cases h0 : l = []
    · subst h0
      rw [run_convert_bytes_string w 28 9 5 _ _ c Try.underlying28 Try.underlying5 Try.underlying9]
      have hl : (loadCells ad (List.length ([] : List Int))).run Try.prog w = .ok (([] : List Int).map (Value.int .u8)).toArray w :=
        run_loadCells_list (P := Try.prog) w ad [] (fun j v hj => by simp at hj)
      rw [run_bytesToString w ad _ c [] hl]
      rfl
    · obtain ⟨b, off, e, _, _, hrun⟩ := hr h0
      injection e with e
      subst e
      exact run_convert_bytes_arg w 28 5 Try.underlying28 Try.underlying5 b off l.length c l rfl hrun 9 Try.underlying9

theorem Own.any {w : World} {base e : Nat} {v : Value} {l : List Int} (h : Own w base e v l) : Sl w w.heap.size v l := h.sl _ (.inr (Nat.le_refl _))

def YesPost (w : World) (e : Ending) (w' : World) : Prop := e = .returned (.bool true) ∧ Below w.heap.size w w'

set_option maxRecDepth 100000 in
set_option maxHeartbeats 1000000 in
theorem awake2_any (w : World) : Calls Try.prog 27 #[] w (YesPost w) := by
  go_enter Try.func27, Try.ntmps27
  go_wp2_with fail
  refine (small_any w 0 (.slice none 0 0) [] 16909060 (Sl.nil _ _) (by simp) (by omega)).mono ?_
  rintro e w1 ⟨v1, rfl, ho1, hb1⟩
  rw [show ([] : List Int) ++ leb 16909060 4 = [4, 3, 2, 1] by decide] at ho1
  have Ho1 := Lib.hid ho1
  have Hb1 := Lib.hid hb1
  clear ho1 hb1
  go_wp2_with fail
  refine (count_any w1 _ v1 _ 253 Ho1.out.any (by simp) (by omega)).mono ?_
  rintro e w2 ⟨v2, rfl, ho2, hb2⟩
  rw [show [4, 3, 2, 1] ++ cnt (clamp 253) = [4, 3, 2, 1, 253, 253, 0] by decide] at ho2
  have Ho2 := Lib.hid ho2
  have Hb2 := Lib.hid (Hb1.out.trans (hb2.mono Hb1.out.size))
  clear ho2 hb2
  go_wp2_with fail
  refine (read_any w2 _ v2 _ Ho2.out.any (by unfold Bys; decide) (by simp)).mono ?_
  rintro e w3 ⟨g, rfl, hg3, hr3, hb3⟩
  have Hs3 := Lib.hid ((Ho2.out.sl g (.inr hg3)).below hb3)
  have Hb3 := Lib.hid (Hb2.out.trans (hb3.mono Hb2.out.size))
  have Hg := Lib.hid (Nat.le_trans Hb2.out.size hg3)
  have hc4 := rsmall_any g w3 _ _ hr3
  rw [show num [4, 3, 2, 1, 253, 253, 0] false 4 = (16909060, [253, 253, 0], false) by decide] at hc4
  have Hc4 := Lib.hid hc4
  clear hr3 hb3 hg3 hc4
  go_wp2_with fail
  refine Hc4.out.mono ?_
  rintro e w4 ⟨ho4, rfl, hr4⟩
  have hc5 := rcount_any g w4 _ _ 253 hr4 (by omega)
  rw [show count [253, 253, 0] false 253 = (253, [], false) by decide] at hc5
  have Hc5 := Lib.hid hc5
  have Ho4 := Lib.hid ho4
  clear ho4 hr4 hc5
  go_wp2_with fail
  refine Hc5.out.mono ?_
  rintro e w5 ⟨ho5, rfl, hr5⟩
  have Hc6 := Lib.hid (end_good g w5 _ hr5)
  have hc7 := rbig_any g w5 _ _ hr5
  rw [show num [] false 8 = (0, [], true) by decide] at hc7
  have Hc7 := Lib.hid hc7
  have Ho5 := Lib.hid (Ho4.out.trans ho5)
  clear ho5 hr5 hc7
  go_wp2_with fail
  refine Hc6.out.mono ?_
  rintro e w' ⟨rfl, rfl⟩
  go_wp2_with fail
  refine Hc7.out.mono ?_
  rintro e w6 ⟨ho6, rfl, hr6⟩
  have Hc8 := Lib.hid (ok_any g w6 _ _ hr6)
  have ho6' := Ho5.out.trans ho6
  have hconv := run_str (Hs3.out.only ho6')
  rw [show strOfNums [4, 3, 2, 1, 253, 253, 0] = ⟨#[4, 3, 2, 1, 253, 253, 0]⟩ by decide] at hconv
  have Hb6 := Lib.hid (Only.below Hb3.out ho6' Hg.out)
  clear ho6 hr6 ho6'
  go_wp2_with fail
  refine Hc8.out.mono ?_
  rintro e w' ⟨rfl, rfl⟩
  go_wp2_with fail
  refine (big_any w6 0 (.slice none 0 0) [] 1 (Sl.nil _ _) (by simp)).mono ?_
  rintro e w7 ⟨v7, rfl, ho7, hb7⟩
  rw [show ([] : List Int) ++ leb 1 8 = [1, 0, 0, 0, 0, 0, 0, 0] by decide] at ho7
  have hconv7 := run_str ho7.any
  rw [show strOfNums [1, 0, 0, 0, 0, 0, 0, 0] = ⟨#[1, 0, 0, 0, 0, 0, 0, 0]⟩ by decide] at hconv7
  have Hb7 := Lib.hid (Hb6.out.trans (hb7.mono Hb6.out.size))
  clear ho7 hb7
  go_wp2
  go_ret
  exact ⟨rfl, Hb7.out⟩
end Go.Proofs.Ytccbpejjhcbboaa
