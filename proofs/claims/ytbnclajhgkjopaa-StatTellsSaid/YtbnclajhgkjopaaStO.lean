/- For the way of StatTells that appends to each Witness: a row, maybe empty, appended; the states of its region. No function. -/
import Derived.Test.YtbnclajhgkjopaaStN
import Derived.Deep.Upon
namespace Go.Proofs.Ytbnclajhgkjopaa
open Go.RowKit

/-- A row, maybe empty, appended to a row of the call's own. -/
theorem wp_append_any {P : Program} {w : World} {o : Oper} {a : Act} {K : Act → World → Prop} {Q : Exit → Act → World → Prop} {α : Type} {k e : Nat} {R RR : World → List Value → α → Prop} (s x : Operand) (t : TypeId)
    (ho : o.op = .call { callee := .builtin .append, args := #[s, x], argTypes := #[t, t] })
    (B : Nat) (i : TypeInfo) (z : Value) (bytes : Nat) (ht : P.underlying t = some (.slice e)) (hi : P.info? e = some i) (hz : i.zero = some z) (hsize : i.size = k) (hby : i.bytes = bytes) (hzs : z.cells.size = k) (hk0 : 0 < k)
    (b : Option Addr) (n c : Nat) (hnc : n ≤ c) (ds : List α) (hs : a.eval s = .slice b n c) (hown : OwnMany k e (R w) w B (.slice b n c) ds)
    (u : Value) (xs : List α) (hx : a.eval x = u) (hsrc : Many k RR w u xs) (hRR : ∀ cs d, RR w cs d → R w cs d) (h1 : ∀ cs d, RR w cs d → ∀ y ∈ cs, y.oneCell' = true)
    (hn : ds.length + xs.length ≤ 1000) (hb100 : bytes ≤ 1000) (hB : B ≤ w.heap.size) (ts : List Nat) (he : e ∉ ts) (hst : ∀ w' cs d, Keeps ts w w' → R w cs d → R w' cs d)
    (h : ∀ v' w', OwnMany k e (R w') w' B v' (ds ++ xs) → w.grownBy w' (Value.slice b n c).ownBlock → Keeps ts w w' → K (a.put o.dst v') w') : o.wp P a w K Q := by
  by_cases hne : xs = []
  · subst hne
    obtain ⟨A, c', rfl, hc, hm⟩ := hsrc.slice
    have hr : (Builtin.append_ #[t, t] o.type #[.slice b n c, .slice A 0 c']).run P w = .ok (.slice b n c) w := by
      refine run_append_nothing w t t o.type e i ht hi b n c hnc _ ⟨.inl ⟨e, ht⟩, fun w' => by simp [Builtin.lenOf], ?_, ?_, by simp, by simp⟩ <;> cases A <;> first | rfl | (simp [Builtin.firstCells, loadCells]; done) | (simp [Builtin.firstCells]; rfl)
    unfold Oper.wp execOp
    simp only [ho, resolve, invoke, builtin, Sem.run_bind, Sem.run_pure, Result.andThen_ok, List.map_toArray, List.map_cons, List.map_nil, hs, hx, List.length_nil, hr]
    exact h _ w (by rw [List.append_nil]; exact hown) (World.grownBy.refl w _) (Keeps.of_below ts (Below.refl _ _))
  · exact wp_append_rows s x t ho B i z bytes ht hi hz hsize hby hzs hk0 _ ds hs hown u xs hx hsrc hne hRR h1 hn hb100 hB ts he hst h

set_option maxRecDepth 100000 in
theorem op_noRows {Q : Exit → Act → World → Prop} {K : Act → World → Prop} {a : Act} {w : World} {d : Nat} {ty : TypeId} {ps : String} {af : Array Edge}
    (h : K (a.put (some d) (.slice (some ⟨w.heap.size, 0, none⟩) 0 0)) (w.alloc (.cells #[] 29))) : Oper.wp Try.prog { dst := some d, op := .buildSlice 30 0 #[], type := ty, pos := ps, after := af, guard := none } a w K Q := by
  go_simp
  exact h
set_option maxRecDepth 100000 in
theorem op_getRows {Q : Exit → Act → World → Prop} {K : Act → World → Prop} {a : Act} {w : World} {d : Nat} {ty : TypeId} {ps : String} {af : Array Edge} (x b o : Nat) (A : Option Addr) (n c : Nat) (hx : a.tmps.getD x undef = .pointer (some ⟨b, o, none⟩)) (hc : w.cell? ⟨b, o, none⟩ = some (.slice A n c))
    (h : K (a.put (some d) (.slice A n c)) w) : Oper.wp Try.prog { dst := some d, op := .load 30 (.tmp x), type := ty, pos := ps, after := af, guard := none } a w K Q := by
  go_simp
  exact h
set_option maxRecDepth 100000 in
theorem op_make500 {Q : Exit → Act → World → Prop} {K : Act → World → Prop} {a : Act} {w : World} {d : Nat} {ty : TypeId} {ps : String} {af : Array Edge}
    (h : K (a.put (some d) (.slice (some ⟨w.heap.size, 0, none⟩) 500 500)) (w.alloc (.cells (byteVals (zeros 500)).toArray 5))) : Oper.wp Try.prog { dst := some d, op := .makeSlice 29 (.const (.int .i64 500)) (.const (.int .i64 500)), type := ty, pos := ps, after := af, guard := none } a w K Q := by
  have hmk : (Instr.makeSlice 29 (.int .i64 500) (.int .i64 500)).run Try.prog w = .ok (.slice (some ⟨w.heap.size, 0, none⟩) 500 500) (w.alloc (.cells (byteVals (zeros 500)).toArray 5)) := make_zeros (n := 500) (by omega) w
  go_simp
  exact h
set_option maxRecDepth 100000 in
theorem op_oneRow {Q : Exit → Act → World → Prop} {K : Act → World → Prop} {a : Act} {w : World} {d : Nat} {ty : TypeId} {ps : String} {af : Array Edge} (x g : Nat) (hx : a.tmps.getD x undef = .slice (some ⟨g, 0, none⟩) 500 500)
    (h : K (a.put (some d) (.slice (some ⟨w.heap.size, 0, none⟩) 1 1)) (w.alloc (.cells #[.slice (some ⟨g, 0, none⟩) 500 500] 29))) : Oper.wp Try.prog { dst := some d, op := .buildSlice 30 1 #[(0, .tmp x)], type := ty, pos := ps, after := af, guard := none } a w K Q := by
  have hx' : a.tmps[x]?.getD undef = .slice (some ⟨g, 0, none⟩) 500 500 := by rw [← hx]; simp
  go_simp
  exact h

/-- What has come up: the empty row, the old one, its copy; the zeros, the row of them. -/
abbrev CwS := Bool × Bool × Bool × Bool × Bool
structure CwSt (B : Nat) (W0 : World) (wv : Value) (wit : List (List Int)) (s : CwS) (u1 u2 u3 u4 u5 : Value) (w : World) : Prop where
  hb : Below W0.heap.size W0 w
  h1 : s.1 = true → s.2.2.1 = false → ∃ g, u1 = .slice (some ⟨g, 0, none⟩) 0 0 ∧ Box w g 29 #[] ∧ W0.heap.size ≤ g
  h2 : s.2.1 = true → u2 = wv
  h3 : s.2.2.1 = true → OwnMany 1 29 (RowO w B) w W0.heap.size u3 wit
  h4 : s.2.2.2.1 = true → ∃ g, u4 = .slice (some ⟨g, 0, none⟩) 500 500 ∧ Box w g 5 (byteVals (zeros 500)).toArray ∧ W0.heap.size ≤ g
  h5 : s.2.2.2.2 = true → ∃ g, u5 = .slice (some ⟨g, 0, none⟩) 1 1 ∧ Box w g 29 #[u4] ∧ W0.heap.size ≤ g
def cwV (s : CwS) : Prop := (s.2.2.1 = true → s.1 = true ∧ s.2.1 = true) ∧ (s.2.2.2.2 = true → s.2.2.2.1 = true)
def cwRank (s : CwS) : Nat := b1 s.1 + b1 s.2.1 + b1 s.2.2.1 + b1 s.2.2.2.1 + b1 s.2.2.2.2
def cwLst (s : CwS) : Array Bool := #[true, true, true, s.1, true, true, true, true, true, s.2.1, s.2.2.1, s.2.2.2.1, s.2.2.2.2, false, false, false, false]
def cwCond (s : CwS) : Nat → Bool
  | 3 => !s.1
  | 9 => !s.2.1
  | 10 => s.1 && s.2.1 && !s.2.2.1
  | 11 => !s.2.2.2.1
  | 12 => s.2.2.2.1 && !s.2.2.2.2
  | 13 => s.2.2.1 && s.2.2.2.2
  | _ => false
def cwRd (s : CwS) : List Nat := [3, 9, 10, 11, 12, 13].filter (cwCond s)
theorem cw_ne : ∀ s, cwV s → cwRank s ≠ 0 → cwRd s ≠ [] := by
  rintro ⟨a, b, c, d, e⟩ ⟨h1, h2⟩ hr
  cases a <;> cases b <;> cases c <;> cases d <;> cases e <;> first | (exfalso; simp at h1 h2; done) | (exfalso; exact hr rfl) | (show (_ : List Nat) ≠ []; decide)
set_option maxRecDepth 100000 in
/-- More memory made. -/
theorem CwSt.mono {B : Nat} {W0 w w' : World} {wv : Value} {wit : List (List Int)} {s : CwS} {u1 u2 u3 u4 u5 : Value} (h : CwSt B W0 wv wit s u1 u2 u3 u4 u5 w) (hb : Below w.heap.size w w') : CwSt B W0 wv wit s u1 u2 u3 u4 u5 w' := by
  have hk : Keeps [5, 29, 32, 35] w w' := Keeps.of_below _ hb
  refine ⟨h.hb.trans (hb.mono h.hb.size), fun a b => ?_, h.h2, fun a => ?_, fun a => ?_, fun a => ?_⟩
  · obtain ⟨g, q1, q2, q3⟩ := h.h1 a b
    exact ⟨g, q1, q2.below hb, q3⟩
  · exact OwnMany.turn (h.h3 a) hk (by decide) (Nat.le_refl _) fun cs d h => h.turn hk (by decide) (Nat.le_refl _)
  · obtain ⟨g, q1, q2, q3⟩ := h.h4 a
    exact ⟨g, q1, q2.below hb, q3⟩
  · obtain ⟨g, q1, q2, q3⟩ := h.h5 a
    exact ⟨g, q1, q2.below hb, q3⟩

/-- The five slots of the region written. -/
def put5 (a : Act) (u1 u2 u3 u4 u5 : Value) : Act := { a with tmps := ((((a.tmps.setIfInBounds 163 u1).setIfInBounds 169 u2).setIfInBounds 170 u3).setIfInBounds 171 u4).setIfInBounds 172 u5 }
theorem set_comm' (t : Array Value) (i j : Nat) (x y : Value) (h : i ≠ j) : (t.setIfInBounds i x).setIfInBounds j y = (t.setIfInBounds j y).setIfInBounds i x := Array.setIfInBounds_comm x y h
section
variable (a : Act) (u1 u2 u3 u4 u5 v : Value)
theorem put5_1 : (put5 a u1 u2 u3 u4 u5).put (some 163) v = put5 a v u2 u3 u4 u5 := by
  unfold put5 Act.put
  dsimp only
  rw [set_comm' _ 172 163 _ _ (by decide), set_comm' _ 171 163 _ _ (by decide), set_comm' _ 170 163 _ _ (by decide), set_comm' _ 169 163 _ _ (by decide), Array.setIfInBounds_setIfInBounds]
theorem put5_2 : (put5 a u1 u2 u3 u4 u5).put (some 169) v = put5 a u1 v u3 u4 u5 := by
  unfold put5 Act.put
  dsimp only
  rw [set_comm' _ 172 169 _ _ (by decide), set_comm' _ 171 169 _ _ (by decide), set_comm' _ 170 169 _ _ (by decide), Array.setIfInBounds_setIfInBounds]
theorem put5_3 : (put5 a u1 u2 u3 u4 u5).put (some 170) v = put5 a u1 u2 v u4 u5 := by
  unfold put5 Act.put
  dsimp only
  rw [set_comm' _ 172 170 _ _ (by decide), set_comm' _ 171 170 _ _ (by decide), Array.setIfInBounds_setIfInBounds]
theorem put5_4 : (put5 a u1 u2 u3 u4 u5).put (some 171) v = put5 a u1 u2 u3 v u5 := by
  unfold put5 Act.put
  dsimp only
  rw [set_comm' _ 172 171 _ _ (by decide), Array.setIfInBounds_setIfInBounds]
theorem put5_5 : (put5 a u1 u2 u3 u4 u5).put (some 172) v = put5 a u1 u2 u3 u4 v := by
  unfold put5 Act.put
  dsimp only
  rw [Array.setIfInBounds_setIfInBounds]
theorem put5_get (h : a.tmps.size = 232) : (put5 a u1 u2 u3 u4 u5).tmps.getD 163 undef = u1 ∧ (put5 a u1 u2 u3 u4 u5).tmps.getD 169 undef = u2 ∧ (put5 a u1 u2 u3 u4 u5).tmps.getD 170 undef = u3 ∧ (put5 a u1 u2 u3 u4 u5).tmps.getD 171 undef = u4 ∧ (put5 a u1 u2 u3 u4 u5).tmps.getD 172 undef = u5 ∧ (put5 a u1 u2 u3 u4 u5).tmps.getD 168 undef = a.tmps.getD 168 undef := by
  simp [put5, h]
end
theorem put5_self (a : Act) (h : a.tmps.size = 232) : put5 a (a.tmps.getD 163 undef) (a.tmps.getD 169 undef) (a.tmps.getD 170 undef) (a.tmps.getD 171 undef) (a.tmps.getD 172 undef) = a := by
  obtain ⟨t, d⟩ := a
  simp only at h
  simp only [put5]
  congr 1
  apply Array.ext_getElem?
  intro i
  simp only [Array.getElem?_setIfInBounds, Array.size_setIfInBounds]
  repeat' split
  all_goals first | rfl | (subst_vars; simp [h]; done) | (rename_i q _ _; subst q; simp [h]; done) | (exfalso; omega) | (simp_all; done)

end Go.Proofs.Ytbnclajhgkjopaa
