/- A transaction in a variable of the call's own whose rows are its own and whose elements' parts are another's; the states of a copy of both rows. No function. -/
import Derived.Test.YtbnclajhgkjopaaStL
import Derived.Test.YtbnclajhgkjopaaStM
namespace Go.Proofs.Ytbnclajhgkjopaa
open Go.RowKit

/-- The variable in block g holds the transaction t; its rows lie from B1 on, the parts of their elements from B on. -/
def TxX (w : World) (B B1 g : Nat) (t : TxD) : Prop := ∃ iv ov, Box w g 26 #[.int .u32 t.version, iv, ov, .int .u32 t.lock] ∧ t.version < 4294967296 ∧ t.lock < 4294967296 ∧ OwnMany 36 32 (InO w B) w B1 iv t.ins ∧ OwnMany 2 35 (OutF w B) w B1 ov t.outs
theorem TxX.form {w : World} {B B1 g : Nat} {t : TxD} (h : TxX w B B1 g t) (hi1 : 0 < t.ins.length) (ho1 : 0 < t.outs.length) : ∃ gi ci go co, Box w g 26 #[.int .u32 t.version, .slice (some ⟨gi, 0, none⟩) t.ins.length ci, .slice (some ⟨go, 0, none⟩) t.outs.length co, .int .u32 t.lock] ∧ t.version < 4294967296 ∧ t.lock < 4294967296 ∧ OwnMany 36 32 (InO w B) w B1 (.slice (some ⟨gi, 0, none⟩) t.ins.length ci) t.ins ∧ OwnMany 2 35 (OutF w B) w B1 (.slice (some ⟨go, 0, none⟩) t.outs.length co) t.outs := by
  obtain ⟨iv, ov, hx, hv, hk, hi, ho⟩ := h
  obtain ⟨gi, ci, rfl, _⟩ := hi.box hi1
  obtain ⟨go, co, rfl, _⟩ := ho.box ho1
  exact ⟨gi, ci, go, co, hx, hv, hk, hi, ho⟩
theorem TxX.txR {w : World} {B B1 g : Nat} {t : TxD} (h : TxX w B B1 g t) : ∃ a b c d X, Box w g 26 #[a, b, c, d] ∧ TxR w (.agg #[a, b, c, d]) X := by
  obtain ⟨iv, ov, hx, hv, hk, hi, ho⟩ := h
  exact ⟨_, _, _, _, t, hx, iv, ov, rfl, hv, hk, OwnMany.many hi fun _ _ h => h.inR, OwnMany.many ho fun _ _ h => h.outR⟩

def cqV (s : CpS) : Prop := (s.2.2.1 = true → s.1 = true ∧ s.2.1 = true) ∧ (s.2.2.2.2.2.1 = true → s.2.2.2.1 = true ∧ s.2.2.2.2.1 = true ∧ s.2.2.1 = true) ∧ (s.2.2.2.2.2.2 = true → s.1 = true ∧ s.2.1 = true ∧ s.2.2.1 = true)
def cqCond (s : CpS) : Nat → Bool
  | 0 => !s.1
  | 2 => !s.2.1
  | 3 => s.1 && s.2.1 && !s.2.2.1
  | 4 => !s.2.2.2.1
  | 6 => !s.2.2.2.2.1
  | 7 => s.2.2.2.1 && s.2.2.2.2.1 && s.2.2.1 && !s.2.2.2.2.2.1
  | 8 => s.1 && s.2.1 && s.2.2.1 && !s.2.2.2.2.2.2
  | 9 => s.2.2.2.2.2.1 && s.2.2.2.2.2.2
  | _ => false
def cqRd (s : CpS) : List Nat := [0, 2, 3, 4, 6, 7, 8, 9].filter (cqCond s)
theorem cq_ne : ∀ s, cqV s → cpRank s ≠ 0 → cqRd s ≠ [] := by
  rintro ⟨a, b, c, d, e, f, h⟩ ⟨h1, h2, h3⟩ hr
  cases a <;> cases b <;> cases c <;> cases d <;> cases e <;> cases f <;> cases h <;> first | (exfalso; simp at h1 h2 h3; done) | (exfalso; exact hr rfl) | (show (_ : List Nat) ≠ []; decide)

/-- A transaction, as the cells of one element. -/
def TxE (w : World) (cs : List Value) (t : TxD) : Prop := TxR w (.agg cs.toArray) t
theorem TxE.below {w w' : World} {cs : List Value} {t : TxD} (h : TxE w cs t) (hb : Below w.heap.size w w') : TxE w' cs t := TxR.below h hb
theorem four_txs (w : World) (a0 a1 a2 a3 b0 b1 b2 b3 c0 c1 c2 c3 d0 d1 d2 d3 : Value) (t u x y : TxD) (ht : TxR w (.agg #[a0, a1, a2, a3]) t) (hu : TxR w (.agg #[b0, b1, b2, b3]) u) (hx : TxR w (.agg #[c0, c1, c2, c3]) x) (hy : TxR w (.agg #[d0, d1, d2, d3]) y) :
    Many 4 TxE (w.alloc (.cells #[a0, a1, a2, a3, b0, b1, b2, b3, c0, c1, c2, c3, d0, d1, d2, d3] 26)) (.slice (some ⟨w.heap.size, 0, none⟩) 4 4) [t, u, x, y] := by
  have hb : Below w.heap.size w (w.alloc (.cells #[a0, a1, a2, a3, b0, b1, b2, b3, c0, c1, c2, c3, d0, d1, d2, d3] 26)) := (Below.refl _ _).alloc (Nat.le_refl _) _
  have hx0 := Box.fresh w 26 #[a0, a1, a2, a3, b0, b1, b2, b3, c0, c1, c2, c3, d0, d1, d2, d3]
  refine ⟨_, _, rfl, Nat.le_refl _, by unfold maxLen; omega, (fun h => by cases h), fun _ => ⟨w.heap.size, 0, rfl, hx0.lt, fun i d hd => ?_⟩⟩
  match i, hd with
  | 0, hd =>
    obtain rfl := Option.some.inj hd
    refine ⟨[a0, a1, a2, a3], rfl, ?_, ht.below hb⟩
    intro j x hj
    match j, hj with
    | 0, hj => rw [← hj]; exact hx0.cell 0
    | 1, hj => rw [← hj]; exact hx0.cell 1
    | 2, hj => rw [← hj]; exact hx0.cell 2
    | 3, hj => rw [← hj]; exact hx0.cell 3
    | j + 4, hj => simp at hj
  | 1, hd =>
    obtain rfl := Option.some.inj hd
    refine ⟨[b0, b1, b2, b3], rfl, ?_, hu.below hb⟩
    intro j x hj
    match j, hj with
    | 0, hj => rw [← hj]; exact hx0.cell 4
    | 1, hj => rw [← hj]; exact hx0.cell 5
    | 2, hj => rw [← hj]; exact hx0.cell 6
    | 3, hj => rw [← hj]; exact hx0.cell 7
    | j + 4, hj => simp at hj
  | 2, hd =>
    obtain rfl := Option.some.inj hd
    refine ⟨[c0, c1, c2, c3], rfl, ?_, hx.below hb⟩
    intro j x hj
    match j, hj with
    | 0, hj => rw [← hj]; exact hx0.cell 8
    | 1, hj => rw [← hj]; exact hx0.cell 9
    | 2, hj => rw [← hj]; exact hx0.cell 10
    | 3, hj => rw [← hj]; exact hx0.cell 11
    | j + 4, hj => simp at hj
  | 3, hd =>
    obtain rfl := Option.some.inj hd
    refine ⟨[d0, d1, d2, d3], rfl, ?_, hy.below hb⟩
    intro j x hj
    match j, hj with
    | 0, hj => rw [← hj]; exact hx0.cell 12
    | 1, hj => rw [← hj]; exact hx0.cell 13
    | 2, hj => rw [← hj]; exact hx0.cell 14
    | 3, hj => rw [← hj]; exact hx0.cell 15
    | j + 4, hj => simp at hj
  | i + 4, hd => simp at hd

section
set_option maxRecDepth 100000
variable {w : World} {B B1 g vv lv : Nat} {iv ov v' : Value} {ins : List InD} {outs : List OutD}
/-- A part of the variable stored. -/
theorem fin_ver {u : Nat} (hv : u < 4294967296) (hk : lv < 4294967296) (hx : Box w g 26 #[.int .u32 vv, iv, ov, .int .u32 lv]) (hi : OwnMany 36 32 (InO w B) w B1 iv ins) (ho : OwnMany 2 35 (OutF w B) w B1 ov outs) : TxX (w.setCell ⟨g, 0, none⟩ (.int .u32 u)) B B1 g ⟨u, ins, outs, lv⟩ := by
  have hkp : Keeps [5, 29, 32, 35] w (w.setCell ⟨g, 0, none⟩ (.int .u32 u)) := Keeps.of_set hx (by decide) 0 _
  exact ⟨iv, ov, hx.set 0 _, hv, hk, OwnMany.turn hi hkp (by decide) (Nat.le_refl _) (fun cs d h => h.turn hkp (by decide) (by decide) (Nat.le_refl _)), OwnMany.turn ho hkp (by decide) (Nat.le_refl _) (fun cs d h => h.keeps hkp (by decide))⟩
theorem fin_ins (hv : vv < 4294967296) (hk : lv < 4294967296) (hx : Box w g 26 #[.int .u32 vv, iv, ov, .int .u32 lv]) (hi : OwnMany 36 32 (InO w B) w B1 v' ins) (ho : OwnMany 2 35 (OutF w B) w B1 ov outs) : TxX (w.setCell ⟨g, 1, none⟩ v') B B1 g ⟨vv, ins, outs, lv⟩ := by
  have hkp : Keeps [5, 29, 32, 35] w (w.setCell ⟨g, 1, none⟩ v') := Keeps.of_set hx (by decide) 1 _
  exact ⟨v', ov, hx.set 1 _, hv, hk, OwnMany.turn hi hkp (by decide) (Nat.le_refl _) (fun cs d h => h.turn hkp (by decide) (by decide) (Nat.le_refl _)), OwnMany.turn ho hkp (by decide) (Nat.le_refl _) (fun cs d h => h.keeps hkp (by decide))⟩
theorem fin_outs (hv : vv < 4294967296) (hk : lv < 4294967296) (hx : Box w g 26 #[.int .u32 vv, iv, ov, .int .u32 lv]) (hi : OwnMany 36 32 (InO w B) w B1 iv ins) (ho : OwnMany 2 35 (OutF w B) w B1 v' outs) : TxX (w.setCell ⟨g, 2, none⟩ v') B B1 g ⟨vv, ins, outs, lv⟩ := by
  have hkp : Keeps [5, 29, 32, 35] w (w.setCell ⟨g, 2, none⟩ v') := Keeps.of_set hx (by decide) 2 _
  exact ⟨iv, v', hx.set 2 _, hv, hk, OwnMany.turn hi hkp (by decide) (Nat.le_refl _) (fun cs d h => h.turn hkp (by decide) (by decide) (Nat.le_refl _)), OwnMany.turn ho hkp (by decide) (Nat.le_refl _) (fun cs d h => h.keeps hkp (by decide))⟩
end

section
set_option maxRecDepth 100000
variable {w : World} {B B1 g xo co vv lv : Nat} {iv : Value} {ins : List InD} {outs : List OutD}
/-- The value of the first output stored. -/
theorem fin_val (hv : vv < 4294967296) (hk : lv < 4294967296) (hx : Box w g 26 #[.int .u32 vv, iv, .slice (some ⟨xo, 0, none⟩) outs.length co, .int .u32 lv]) (hi : OwnMany 36 32 (InO w B) w B1 iv ins) (ho : OwnMany 2 35 (OutF w B) w B1 (.slice (some ⟨xo, 0, none⟩) outs.length co) outs)
    (h0 : 0 < outs.length) (u : Nat) (hu : u < 18446744073709551616) : ∃ X, TxX (w.setCell ⟨xo, 0, none⟩ (.int .u64 u)) B B1 g X := by
  obtain ⟨hBo, _, Co, hxo⟩ := ho.boxOf
  have hkp : Keeps [5, 29, 32, 26] w (w.setCell ⟨xo, 0, none⟩ (.int .u64 u)) := Keeps.of_set hxo (by decide) _ _
  have ho' := OwnMany.cellSet (j := 0) (R' := OutF (w.setCell ⟨xo, 0, none⟩ (.int .u64 u)) B) ho h0 (by decide) (.int .u64 u) { outs[0] with value := u } (fun cs d h => h.keeps hkp (by decide)) (fun cs hk2 h => by
    obtain ⟨sv, rfl, h1, h2⟩ := h
    exact ⟨sv, rfl, hu, h2.keeps hkp (by decide)⟩)
  exact ⟨⟨vv, ins, _, lv⟩, iv, _, Keeps.box hkp (by decide) hx, hv, hk, OwnMany.turn hi hkp (by decide) (Nat.le_refl _) (fun cs d h => h.turn hkp (by decide) (by decide) (Nat.le_refl _)), ho'⟩
/-- The script of the first output stored. -/
theorem fin_scr (hv : vv < 4294967296) (hk : lv < 4294967296) (hx : Box w g 26 #[.int .u32 vv, iv, .slice (some ⟨xo, 0, none⟩) outs.length co, .int .u32 lv]) (hi : OwnMany 36 32 (InO w B) w B1 iv ins) (ho : OwnMany 2 35 (OutF w B) w B1 (.slice (some ⟨xo, 0, none⟩) outs.length co) outs)
    (h0 : 0 < outs.length) {sv : Value} {l : List Int} (hs : RbF w B sv l) : ∃ X, TxX (w.setCell ⟨xo, 1, none⟩ sv) B B1 g X := by
  obtain ⟨hBo, _, Co, hxo⟩ := ho.boxOf
  have hkp : Keeps [5, 29, 32, 26] w (w.setCell ⟨xo, 1, none⟩ sv) := Keeps.of_set hxo (by decide) _ _
  have ho' := OwnMany.cellSet (j := 1) (R' := OutF (w.setCell ⟨xo, 1, none⟩ sv) B) ho h0 (by decide) sv { outs[0] with script := l } (fun cs d h => h.keeps hkp (by decide)) (fun cs hk2 h => by
    obtain ⟨sv', rfl, h1, h2⟩ := h
    exact ⟨sv, rfl, h1, hs.keeps hkp (by decide)⟩)
  exact ⟨⟨vv, ins, _, lv⟩, iv, _, Keeps.box hkp (by decide) hx, hv, hk, OwnMany.turn hi hkp (by decide) (Nat.le_refl _) (fun cs d h => h.turn hkp (by decide) (by decide) (Nat.le_refl _)), (by rw [Nat.zero_mul, Nat.zero_add] at ho'; exact ho')⟩
/-- More memory made. -/
theorem TxX.below {w' : World} {t : TxD} (h : TxX w B B1 g t) (hb : Below w.heap.size w w') : TxX w' B B1 g t := by
  have hk : Keeps [5, 29, 32, 35, 26] w w' := Keeps.of_below _ hb
  obtain ⟨iv, ov, hx, hv, hl, hi, ho⟩ := h
  exact ⟨iv, ov, hx.below hb, hv, hl, OwnMany.turn hi hk (by decide) (Nat.le_refl _) (fun cs d h => h.turn hk (by decide) (by decide) (Nat.le_refl _)), OwnMany.turn ho hk (by decide) (Nat.le_refl _) (fun cs d h => h.keeps hk (by decide))⟩
theorem own_two (hb : Box w g 5 #[.int .u8 1, .int .u8 2]) (hB : B ≤ g) : RbF w B (.slice (some ⟨g, 0, none⟩) 2 2) [1, 2] :=
  ⟨fun x hx => by simp at hx; omega, .inl ⟨rfl, .inr ⟨g, 2, _, rfl, hB, hb, Nat.le_refl _, by unfold maxLen; omega, rfl, rfl⟩⟩⟩
end
theorem wrap64 (x : Int) : ∃ V : Nat, IntKind.u64.wrap x = (V : Int) ∧ V < 18446744073709551616 := by
  have h : IntKind.u64.wrap x = x % 18446744073709551616 := by simp [IntKind.wrap, IntKind.bits, IntKind.signed]
  exact ⟨(x % 18446744073709551616).toNat, by rw [h]; omega, by omega⟩
section
set_option maxRecDepth 100000
variable {w w6 : World} {B B1 g vv lv : Nat} {iv ov v6 : Value} {ins : List InD} {outs : List OutD}
/-- A row that grew is stored. -/
theorem end_ins (hv : vv < 4294967296) (hk : lv < 4294967296) (hx : Box w g 26 #[.int .u32 vv, iv, ov, .int .u32 lv]) (ho : OwnMany 2 35 (OutF w B) w B1 ov outs) (hm : OwnMany 36 32 (InO w6 B) w6 B1 v6 ins) (hk6 : Keeps [5, 29, 35, 26] w w6) : TxX (w6.setCell ⟨g, 1, none⟩ v6) B B1 g ⟨vv, ins, outs, lv⟩ :=
  fin_ins hv hk (Keeps.box hk6 (by decide) hx) hm (OwnMany.turn ho hk6 (by decide) (Nat.le_refl _) fun cs d h => h.keeps hk6 (by decide))
theorem end_outs (hv : vv < 4294967296) (hk : lv < 4294967296) (hx : Box w g 26 #[.int .u32 vv, iv, ov, .int .u32 lv]) (hi : OwnMany 36 32 (InO w B) w B1 iv ins) (hm : OwnMany 2 35 (OutF w6 B) w6 B1 v6 outs) (hk6 : Keeps [5, 29, 32, 26] w w6) : TxX (w6.setCell ⟨g, 2, none⟩ v6) B B1 g ⟨vv, ins, outs, lv⟩ :=
  fin_outs hv hk (Keeps.box hk6 (by decide) hx) (OwnMany.turn hi hk6 (by decide) (Nat.le_refl _) fun cs d h => h.turn hk6 (by decide) (by decide) (Nat.le_refl _)) hm
end
def twoOut : OutD := ⟨0, [106, 1]⟩
set_option maxRecDepth 100000 in
theorem own_pair {w : World} {B g : Nat} (hb : Box w g 5 #[.int .u8 106, .int .u8 1]) (hB : B ≤ g) : RbF w B (.slice (some ⟨g, 0, none⟩) 2 2) [106, 1] :=
  ⟨fun x hx => by simp at hx; omega, .inl ⟨rfl, .inr ⟨g, 2, _, rfl, hB, hb, Nat.le_refl _, by unfold maxLen; omega, rfl, rfl⟩⟩⟩
def sevenIn (j S : Nat) : InD := ⟨(zeros 32).set 5 7, j, zeros S, 0, []⟩
def zeroIn (j S : Nat) : InD := ⟨zeros 32, j, zeros S, 0, []⟩
set_option maxRecDepth 100000 in
theorem built_in (j S b : Nat) : Try.prog.built 32 [(1, .int .u32 j), (2, .slice (some ⟨b, 0, none⟩) S S)] = some (inCells (zeroIn j S) (.slice (some ⟨b, 0, none⟩) S S) (.slice none 0 0)).toArray := by kernel_rfl
theorem seven_set (j S : Nat) (sv : Value) : (inCells (zeroIn j S) sv (.slice none 0 0)).set 5 (.int .u8 7) = inCells (sevenIn j S) sv (.slice none 0 0) := rfl
theorem seven_fit {j S : Nat} (hj : j < 4294967296) : (sevenIn j S).Fit := ⟨by simp [sevenIn, zeros], fun x hx => by
  rcases List.mem_or_eq_of_mem_set hx with h | h
  · exact zeros_bys 32 x h
  · omega, hj, by show (0 : Nat) < 4294967296; omega⟩
end Go.Proofs.Ytbnclajhgkjopaa
