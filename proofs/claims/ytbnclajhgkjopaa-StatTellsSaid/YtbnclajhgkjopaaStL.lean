/- A region that copies both rows of a transaction, its order drawn: by states. -/
import Derived.Test.YtbnclajhgkjopaaStJ
namespace Go.Proofs.Ytbnclajhgkjopaa
open Go.RowKit

/-- A region whose order is drawn, by states, as far as a state from which it is known. -/
theorem wpAnyH_upto {P : Program} {md : Region.Mode} {ops : Array Oper} {Q : Exit → Act → World → Prop} {S : World → Prop} {σ : Type} (lst : σ → Array Bool) (rank : σ → Nat) (rd : σ → List Nat) (V : σ → Prop) (I : σ → Act → World → Prop) (r : Nat)
    (hrd : ∀ s, V s → Region.ready md ops (lst s) = rd s) (h0 : ∀ s, V s → rank s ≠ 0 → rd s ≠ [])
    (hstep : ∀ s a w, V s → I s a w → rank s ≠ 0 → ∀ i ∈ rd s, wpOp P ops Q i (fun a' w' => S w' ∧ ∃ s', V s' ∧ lst s' = (lst s).setIfInBounds i true ∧ rank s' + 1 = rank s ∧ I s' a' w') a w)
    (hend : ∀ s a w, V s → I s a w → rank s = 0 → wpAnyH P md ops Q S r (lst s) a w) :
    ∀ k s a w, V s → rank s = k → I s a w → wpAnyH P md ops Q S (k + r) (lst s) a w
  | 0, s, a, w, hV, hr, hI => by rw [Nat.zero_add]; exact hend s a w hV hI hr
  | k + 1, s, a, w, hV, hr, hI => by
    rw [show k + 1 + r = (k + r) + 1 by omega]
    refine ⟨fun h => absurd ((hrd s hV).symm.trans h) (h0 s hV (by omega)), fun i hi => wpOp_mono (fun a' w' h => ?_) (hstep s a w hV hI (by omega) i (by rw [← hrd s hV]; exact hi))⟩
    obtain ⟨hS, s', hV', hl, hk, hI'⟩ := h
    refine ⟨hS, ?_⟩
    rw [← hl]
    exact wpAnyH_upto lst rank rd V I r hrd h0 hstep hend k s' a' w' hV' (by omega) hI'
/-- One operation without a guard. -/
theorem wpOp_one {P : Program} {ops : Array Oper} {Q : Exit → Act → World → Prop} {K : Act → World → Prop} {a : Act} {w : World} {i : Nat} {o : Oper} (ho : ops[i]? = some o) (hg : o.guard = none) (h : Oper.wp P o a w K Q) : wpOp P ops Q i K a w := by
  refine wpOp_step ho fun K' hK => ?_
  have hw : Region.wanted o (yielded ops a.tmps) = true := by simp [Region.wanted, hg]
  rw [if_pos hw]
  exact Oper.wp_mono hK h
set_option maxRecDepth 100000 in
theorem op_noIns {Q : Exit → Act → World → Prop} {K : Act → World → Prop} {a : Act} {w : World} {d : Nat} {ty : TypeId} {ps : String} {af : Array Edge}
    (h : K (a.put (some d) (.slice (some ⟨w.heap.size, 0, none⟩) 0 0)) (w.alloc (.cells #[] 32))) : Oper.wp Try.prog { dst := some d, op := .buildSlice 23 0 #[], type := ty, pos := ps, after := af, guard := none } a w K Q := by
  go_simp
  exact h
set_option maxRecDepth 100000 in
theorem op_noOuts {Q : Exit → Act → World → Prop} {K : Act → World → Prop} {a : Act} {w : World} {d : Nat} {ty : TypeId} {ps : String} {af : Array Edge}
    (h : K (a.put (some d) (.slice (some ⟨w.heap.size, 0, none⟩) 0 0)) (w.alloc (.cells #[] 35))) : Oper.wp Try.prog { dst := some d, op := .buildSlice 24 0 #[], type := ty, pos := ps, after := af, guard := none } a w K Q := by
  go_simp
  exact h
set_option maxRecDepth 100000 in
theorem op_getIns {Q : Exit → Act → World → Prop} {K : Act → World → Prop} {a : Act} {w : World} {d : Nat} {ty : TypeId} {ps : String} {af : Array Edge} (x b o : Nat) (A : Option Addr) (n c : Nat) (hx : a.tmps.getD x undef = .pointer (some ⟨b, o, none⟩)) (hc : w.cell? ⟨b, o, none⟩ = some (.slice A n c))
    (h : K (a.put (some d) (.slice A n c)) w) : Oper.wp Try.prog { dst := some d, op := .load 23 (.tmp x), type := ty, pos := ps, after := af, guard := none } a w K Q := by
  go_simp
  exact h
set_option maxRecDepth 100000 in
theorem op_getOuts {Q : Exit → Act → World → Prop} {K : Act → World → Prop} {a : Act} {w : World} {d : Nat} {ty : TypeId} {ps : String} {af : Array Edge} (x b o : Nat) (A : Option Addr) (n c : Nat) (hx : a.tmps.getD x undef = .pointer (some ⟨b, o, none⟩)) (hc : w.cell? ⟨b, o, none⟩ = some (.slice A n c))
    (h : K (a.put (some d) (.slice A n c)) w) : Oper.wp Try.prog { dst := some d, op := .load 24 (.tmp x), type := ty, pos := ps, after := af, guard := none } a w K Q := by
  go_simp
  exact h

set_option maxRecDepth 100000 in
theorem op_field1 {Q : Exit → Act → World → Prop} {K : Act → World → Prop} {a : Act} {w : World} {d : Nat} {ty : TypeId} {ps : String} {af : Array Edge} (x b : Nat) (hx : a.tmps.getD x undef = .pointer (some ⟨b, 0, none⟩))
    (h : K (a.put (some d) (.pointer (some ⟨b, 1, none⟩))) w) : Oper.wp Try.prog { dst := some d, op := .fieldAddr 26 (.tmp x) 1, type := ty, pos := ps, after := af, guard := none } a w K Q := by
  go_simp
  exact h

/-- What has come up: the empty row of inputs, the old one, the copy; the same of outputs. -/
abbrev CpS := Bool × Bool × Bool × Bool × Bool × Bool × Bool
structure CpSt (B : Nat) (W0 : World) (T : TxD) (iv ov pv : Value) (s : CpS) (u19 u21 u22 u23 u25 u26 u27 : Value) (w : World) : Prop where
  hb : Below W0.heap.size W0 w
  h19 : s.1 = true → s.2.2.1 = false → ∃ g, u19 = .slice (some ⟨g, 0, none⟩) 0 0 ∧ Box w g 32 #[] ∧ W0.heap.size ≤ g
  h21 : s.2.1 = true → u21 = iv
  h22 : s.2.2.1 = true → OwnMany 36 32 (InO w B) w W0.heap.size u22 T.ins
  h23 : s.2.2.2.1 = true → s.2.2.2.2.2.1 = false → ∃ g, u23 = .slice (some ⟨g, 0, none⟩) 0 0 ∧ Box w g 35 #[] ∧ W0.heap.size ≤ g
  h25 : s.2.2.2.2.1 = true → u25 = ov
  h26 : s.2.2.2.2.2.1 = true → OwnMany 2 35 (OutF w B) w W0.heap.size u26 T.outs
  h27 : s.2.2.2.2.2.2 = true → u27 = pv
def cpV (s : CpS) : Prop := (s.2.2.1 = true → s.1 = true ∧ s.2.1 = true) ∧ (s.2.2.2.2.2.1 = true → s.2.2.2.1 = true ∧ s.2.2.2.2.1 = true ∧ s.2.2.1 = true) ∧ (s.2.2.2.2.2.2 = true → s.1 = true ∧ s.2.1 = true ∧ s.2.2.1 = true ∧ s.2.2.2.2.1 = true)
def b1 (b : Bool) : Nat := if b then 0 else 1
def cpRank (s : CpS) : Nat := b1 s.1 + b1 s.2.1 + b1 s.2.2.1 + b1 s.2.2.2.1 + b1 s.2.2.2.2.1 + b1 s.2.2.2.2.2.1 + b1 s.2.2.2.2.2.2
def cpLst (s : CpS) : Array Bool := #[s.1, true, s.2.1, s.2.2.1, s.2.2.2.1, true, s.2.2.2.2.1, s.2.2.2.2.2.1, s.2.2.2.2.2.2, false, false, false]
def cpCond (s : CpS) : Nat → Bool
  | 0 => !s.1
  | 2 => !s.2.1
  | 3 => s.1 && s.2.1 && !s.2.2.1
  | 4 => !s.2.2.2.1
  | 6 => !s.2.2.2.2.1
  | 7 => s.2.2.2.1 && s.2.2.2.2.1 && s.2.2.1 && !s.2.2.2.2.2.1
  | 8 => s.1 && s.2.1 && s.2.2.1 && s.2.2.2.2.1 && !s.2.2.2.2.2.2
  | 9 => s.2.2.2.2.2.1 && s.2.2.2.2.2.2
  | _ => false
def cpRd (s : CpS) : List Nat := [0, 2, 3, 4, 6, 7, 8, 9].filter (cpCond s)
theorem cp_ne : ∀ s, cpV s → cpRank s ≠ 0 → cpRd s ≠ [] := by
  rintro ⟨a, b, c, d, e, f, h⟩ ⟨h1, h2, h3⟩ hr
  cases a <;> cases b <;> cases c <;> cases d <;> cases e <;> cases f <;> cases h <;> first | (exfalso; simp at h1 h2 h3; done) | (exfalso; exact hr rfl) | (show (_ : List Nat) ≠ []; decide)
section
variable {B : Nat} {W0 w w' : World} {T : TxD} {iv ov pv : Value} {s : CpS} {u19 u21 u22 u23 u25 u26 u27 : Value}
set_option maxRecDepth 100000 in
/-- More memory made. -/
theorem CpSt.mono (h : CpSt B W0 T iv ov pv s u19 u21 u22 u23 u25 u26 u27 w) (hb : Below w.heap.size w w') : CpSt B W0 T iv ov pv s u19 u21 u22 u23 u25 u26 u27 w' := by
  have hk : Keeps [5, 29, 32, 35] w w' := Keeps.of_below _ hb
  refine ⟨h.hb.trans (hb.mono h.hb.size), fun a b => ?_, h.h21, fun a => ?_, fun a b => ?_, h.h25, fun a => ?_, h.h27⟩
  · obtain ⟨g, h1, h2, h3⟩ := h.h19 a b
    exact ⟨g, h1, h2.below hb, h3⟩
  · exact OwnMany.turn (h.h22 a) hk (by decide) (Nat.le_refl _) fun cs d h => h.turn hk (by decide) (by decide) (Nat.le_refl _)
  · obtain ⟨g, h1, h2, h3⟩ := h.h23 a b
    exact ⟨g, h1, h2.below hb, h3⟩
  · exact OwnMany.turn (h.h26 a) hk (by decide) (Nat.le_refl _) fun cs d h => h.keeps hk (by decide)
end
end Go.Proofs.Ytbnclajhgkjopaa
