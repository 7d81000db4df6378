/- For the way of StatTells that appends to each Witness: the operations of its region in any order. No function. -/
import Derived.Test.YtbnclajhgkjopaaStO
namespace Go.Proofs.Ytbnclajhgkjopaa
open Go.RowKit

theorem rowO_one {w : World} {B : Nat} {cs : List Value} {l : List Int} (h : RowO w B cs l) : ∀ y ∈ cs, y.oneCell' = true := by
  obtain ⟨sv, rfl, h1, h2⟩ := h
  intro y hy
  rw [List.mem_singleton.1 hy]
  obtain ⟨A, c, rfl⟩ := h1.slice
  rfl

def CwI (B : Nat) (W0 : World) (wv : Value) (wit : List (List Int)) (a : Act) (s : CwS) (act : Act) (w : World) : Prop := ∃ u1 u2 u3 u4 u5, act = put5 a u1 u2 u3 u4 u5 ∧ CwSt B W0 wv wit s u1 u2 u3 u4 u5 w
/-- What stands behind one of them: the state has it. -/
def CwK (S : World → Prop) (B : Nat) (W0 : World) (wv : Value) (wit : List (List Int)) (a : Act) (i : Nat) (s : CwS) : Act → World → Prop := fun a' w' =>
  S w' ∧ ∃ s', cwV s' ∧ cwLst s' = (cwLst s).setIfInBounds i true ∧ cwRank s' + 1 = cwRank s ∧ CwI B W0 wv wit a s' a' w'
theorem CwK.mk {S : World → Prop} {B : Nat} {W0 : World} {wv : Value} {wit : List (List Int)} {a : Act} {i : Nat} {s : CwS} {w' : World} (hS : S w') (s' : CwS) (hV : cwV s') (hl : cwLst s' = (cwLst s).setIfInBounds i true) (hr : cwRank s' + 1 = cwRank s) (u1 u2 u3 u4 u5 : Value) (h : CwSt B W0 wv wit s' u1 u2 u3 u4 u5 w') :
    CwK S B W0 wv wit a i s (put5 a u1 u2 u3 u4 u5) w' := ⟨hS, s', hV, hl, hr, u1, u2, u3, u4, u5, rfl, h⟩
theorem act_tmp (a : Act) (i : Nat) : a.eval (.tmp i) = a.tmps.getD i undef := rfl
theorem cwOne {P : Program} {ops : Array Oper} {Q : Exit → Act → World → Prop} {K : Act → World → Prop} {a : Act} {w : World} {i : Nat} {o : Oper} (ho : ops[i]? = some o) (hg : o.guard = none) (h : Kp (Oper.wp P o a w K Q)) : Kp (wpOp P ops Q i K a w) := ⟨wpOp_one ho hg h.out⟩
section
variable {Q : Exit → Act → World → Prop} {S : World → Prop} {a : Act} {B : Nat} {W0 w : World} {Aw : Option Addr} {wl cw : Nat} {wit : List (List Int)} {u1 u2 u3 u4 u5 : Value} {x1 x2 x3 x4 x5 : Bool} {ty : TypeId} {ps : String} {af : Array Edge}
set_option maxRecDepth 100000 in
theorem cw3 (hS : ∀ w, Below W0.heap.size W0 w → S w) (hv1 : x3 = true → false = true ∧ x2 = true) (hv2 : x5 = true → x4 = true) (hs : CwSt B W0 (.slice Aw wl cw) wit (false, x2, x3, x4, x5) u1 u2 u3 u4 u5 w) :
    Kp (Oper.wp Try.prog { dst := some 163, op := .buildSlice 30 0 #[], type := ty, pos := ps, after := af, guard := none } (put5 a u1 u2 u3 u4 u5) w (CwK S B W0 (.slice Aw wl cw) wit a 3 (false, x2, x3, x4, x5)) Q) := by
  refine ⟨?_⟩
  refine op_noRows ?_
  rw [put5_1]
  have ms := hs.mono ((Below.refl w.heap.size w).alloc (Nat.le_refl _) (.cells #[] 29))
  exact CwK.mk (hS _ ms.hb) (true, x2, x3, x4, x5) ⟨fun h => ⟨rfl, (hv1 h).2⟩, hv2⟩ rfl (by simp only [cwRank, b1, if_true, Bool.false_eq_true, if_false]; omega) _ _ _ _ _ ⟨ms.hb, fun _ _ => ⟨w.heap.size, rfl, Box.fresh _ _ _, hs.hb.size⟩, ms.h2, ms.h3, ms.h4, ms.h5⟩
set_option maxRecDepth 100000 in
theorem cw9 (hsz : a.tmps.size = 232) (xi o : Nat) (h168 : a.tmps.getD 168 undef = .pointer (some ⟨xi, o, none⟩)) (hwv : ∀ w, Below W0.heap.size W0 w → w.cell? ⟨xi, o, none⟩ = some (.slice Aw wl cw)) (hS : ∀ w, Below W0.heap.size W0 w → S w) (hv1 : x3 = true → x1 = true ∧ false = true) (hv2 : x5 = true → x4 = true) (hs : CwSt B W0 (.slice Aw wl cw) wit (x1, false, x3, x4, x5) u1 u2 u3 u4 u5 w) :
    Kp (Oper.wp Try.prog { dst := some 169, op := .load 30 (.tmp 168), type := ty, pos := ps, after := af, guard := none } (put5 a u1 u2 u3 u4 u5) w (CwK S B W0 (.slice Aw wl cw) wit a 9 (x1, false, x3, x4, x5)) Q) := by
  refine ⟨?_⟩
  have g6 := (put5_get a u1 u2 u3 u4 u5 hsz).2.2.2.2.2
  rw [h168] at g6
  have e := put5_2 a u1 u2 u3 u4 u5 (.slice Aw wl cw)
  generalize hA : put5 a u1 u2 u3 u4 u5 = A at g6 e ⊢
  refine op_getRows 168 xi o Aw wl cw g6 (hwv w hs.hb) ?_
  rw [e]
  exact CwK.mk (hS _ hs.hb) (x1, true, x3, x4, x5) ⟨fun h => ⟨(hv1 h).1, rfl⟩, hv2⟩ rfl (by simp only [cwRank, b1, if_true, Bool.false_eq_true, if_false]; omega) _ _ _ _ _ ⟨hs.hb, hs.h1, fun _ => rfl, hs.h3, hs.h4, hs.h5⟩
set_option maxRecDepth 100000 in
theorem cw10 (hsz : a.tmps.size = 232) (hwit : OwnRows W0 B (.slice Aw wl cw) wit) (hlen : wit.length ≤ 500) (hS : ∀ w, Below W0.heap.size W0 w → S w) (hv2 : x5 = true → x4 = true) (hs : CwSt B W0 (.slice Aw wl cw) wit (true, true, false, x4, x5) u1 u2 u3 u4 u5 w) :
    Kp (Oper.wp Try.prog { dst := some 170, op := .call { callee := .builtin .append, args := #[.tmp 163, .tmp 169], argTypes := #[30, 30] }, type := ty, pos := ps, after := af, guard := none } (put5 a u1 u2 u3 u4 u5) w (CwK S B W0 (.slice Aw wl cw) wit a 10 (true, true, false, x4, x5)) Q) := by
  refine ⟨?_⟩
  obtain ⟨g1, g2, _, _, _, _⟩ := put5_get a u1 u2 u3 u4 u5 hsz
  obtain ⟨gq, rfl, hq, hqg⟩ := hs.h1 rfl rfl
  obtain rfl := hs.h2 rfl
  obtain ⟨tr, hta, htb, htc, htd⟩ := info_parts3 infoRow
  have hkW : Keeps [5, 29] W0 w := Keeps.of_below _ hs.hb
  have hsrc : Many 1 (fun W => RowO W B) w (.slice Aw wl cw) wit := OwnMany.many (RR := fun W => RowO W B) (rows_turn hwit hkW (by decide) (by decide) (Nat.le_refl _)) (fun cs d h => h)
  rw [← act_tmp] at g1 g2
  have hem : OwnMany 1 29 (RowO w B) w W0.heap.size (.slice (some ⟨gq, 0, none⟩) 0 0) [] := OwnMany.empty 1 _ hq hqg
  generalize hA : put5 a (.slice (some ⟨gq, 0, none⟩) 0 0) (.slice Aw wl cw) u3 u4 u5 = A at g1 g2 ⊢
  refine wp_append_any (R := fun W => RowO W B) (RR := fun W => RowO W B) (.tmp 163) (.tmp 169) 30 rfl W0.heap.size tr _ 24 Try.underlying30 hta htb htc htd (by rfl) (by decide) (some ⟨gq, 0, none⟩) 0 0 (Nat.le_refl _) [] g1 hem _ wit g2 hsrc (fun cs d h => h) (fun cs d h => rowO_one h) (by simp; omega) (by decide) hs.hb.size [5, 32, 35, 26] (by decide) (fun w' cs d hk h => h.turn hk (by decide) (Nat.le_refl _)) ?_
  intro v6 w6 hm6 hg6 hk6
  rw [List.nil_append] at hm6
  rw [← hA, put5_3]
  have hb6 : Below W0.heap.size W0 w6 := OwnMany.grows hem hs.hb hg6 (Nat.le_refl _)
  refine CwK.mk (hS _ hb6) (true, true, true, x4, x5) ⟨fun _ => ⟨rfl, rfl⟩, hv2⟩ rfl (by simp only [cwRank, b1, if_true, Bool.false_eq_true, if_false]; omega) _ _ _ _ _ ⟨hb6, by simp, fun _ => rfl, fun _ => hm6, fun e => ?_, fun e => ?_⟩
  · obtain ⟨gz, q1, q2, q3⟩ := hs.h4 e
    exact ⟨gz, q1, Keeps.box hk6 (by decide) q2, q3⟩
  · obtain ⟨gr, q1, q2, q3⟩ := hs.h5 e
    have hne : gq ≠ gr := fun e => by
      subst e
      have e1 : w.heap[gq]? = _ := hq
      have e2 : w.heap[gq]? = _ := q2
      rw [e1] at e2
      simp at e2
    exact ⟨gr, q1, (hg6.block gr q2.lt (by simp [Value.ownBlock]; exact fun e => hne e.symm)).trans q2, q3⟩
set_option maxRecDepth 100000 in
theorem cw11 (hS : ∀ w, Below W0.heap.size W0 w → S w) (hv1 : x3 = true → x1 = true ∧ x2 = true) (hv2 : x5 = true → false = true) (hs : CwSt B W0 (.slice Aw wl cw) wit (x1, x2, x3, false, x5) u1 u2 u3 u4 u5 w) :
    Kp (Oper.wp Try.prog { dst := some 171, op := .makeSlice 29 (.const (.int .i64 500)) (.const (.int .i64 500)), type := ty, pos := ps, after := af, guard := none } (put5 a u1 u2 u3 u4 u5) w (CwK S B W0 (.slice Aw wl cw) wit a 11 (x1, x2, x3, false, x5)) Q) := by
  refine ⟨?_⟩
  refine op_make500 ?_
  rw [put5_4]
  have ms := hs.mono ((Below.refl w.heap.size w).alloc (Nat.le_refl _) (.cells (byteVals (zeros 500)).toArray 5))
  obtain rfl : x5 = false := by cases x5 with
    | false => rfl
    | true => exact absurd (hv2 rfl) (by simp)
  exact CwK.mk (hS _ ms.hb) (x1, x2, x3, true, false) ⟨hv1, by simp⟩ rfl (by simp only [cwRank, b1, if_true, Bool.false_eq_true, if_false]) _ _ _ _ _ ⟨ms.hb, ms.h1, ms.h2, ms.h3, fun _ => ⟨w.heap.size, rfl, Box.fresh _ _ _, hs.hb.size⟩, by simp⟩
set_option maxRecDepth 100000 in
theorem cw12 (hsz : a.tmps.size = 232) (hS : ∀ w, Below W0.heap.size W0 w → S w) (hv1 : x3 = true → x1 = true ∧ x2 = true) (hs : CwSt B W0 (.slice Aw wl cw) wit (x1, x2, x3, true, false) u1 u2 u3 u4 u5 w) :
    Kp (Oper.wp Try.prog { dst := some 172, op := .buildSlice 30 1 #[(0, .tmp 171)], type := ty, pos := ps, after := af, guard := none } (put5 a u1 u2 u3 u4 u5) w (CwK S B W0 (.slice Aw wl cw) wit a 12 (x1, x2, x3, true, false)) Q) := by
  refine ⟨?_⟩
  obtain ⟨_, _, _, g4, _, _⟩ := put5_get a u1 u2 u3 u4 u5 hsz
  obtain ⟨gz, rfl, hz, hzg⟩ := hs.h4 rfl
  refine op_oneRow 171 gz g4 ?_
  rw [put5_5]
  have ms := hs.mono ((Below.refl w.heap.size w).alloc (Nat.le_refl _) (.cells #[.slice (some ⟨gz, 0, none⟩) 500 500] 29))
  exact CwK.mk (hS _ ms.hb) (x1, x2, x3, true, true) ⟨hv1, fun _ => rfl⟩ rfl (by simp only [cwRank, b1, if_true, Bool.false_eq_true, if_false]) _ _ _ _ _ ⟨ms.hb, ms.h1, ms.h2, ms.h3, ms.h4, fun _ => ⟨w.heap.size, rfl, Box.fresh _ _ _, hs.hb.size⟩⟩
end
set_option maxHeartbeats 4000000 in
set_option maxRecDepth 100000 in
/-- The operations 3, 9, 10, 11, 12 in any order. -/
theorem cw_upto {md : Region.Mode} {ops : Array Oper} {Q : Exit → Act → World → Prop} {S : World → Prop} (r : Nat) (a : Act) (hsz : a.tmps.size = 232) (B : Nat) (W0 : World) (Aw : Option Addr) (wl cw : Nat) (wit : List (List Int)) (xi o : Nat)
    {t3 t9 t10 t11 t12 : TypeId} {p3 p9 p10 p11 p12 : String} {f3 f9 f10 f11 f12 : Array Edge}
    (h3 : ops[3]? = some ⟨some 163, .buildSlice 30 0 #[], t3, p3, f3, none⟩) (h9 : ops[9]? = some ⟨some 169, .load 30 (.tmp 168), t9, p9, f9, none⟩)
    (h10 : ops[10]? = some ⟨some 170, .call { callee := .builtin .append, args := #[.tmp 163, .tmp 169], argTypes := #[30, 30] }, t10, p10, f10, none⟩)
    (h11 : ops[11]? = some ⟨some 171, .makeSlice 29 (.const (.int .i64 500)) (.const (.int .i64 500)), t11, p11, f11, none⟩) (h12 : ops[12]? = some ⟨some 172, .buildSlice 30 1 #[(0, .tmp 171)], t12, p12, f12, none⟩)
    (hrd : ∀ s, cwV s → Region.ready md ops (cwLst s) = cwRd s) (hS : ∀ w, Below W0.heap.size W0 w → S w) (h168 : a.tmps.getD 168 undef = .pointer (some ⟨xi, o, none⟩))
    (hwv : ∀ w, Below W0.heap.size W0 w → w.cell? ⟨xi, o, none⟩ = some (.slice Aw wl cw)) (hwit : OwnRows W0 B (.slice Aw wl cw) wit) (hlen : wit.length ≤ 500)
    (hend : ∀ u1 u2 u3 u4 u5 w, CwSt B W0 (.slice Aw wl cw) wit (true, true, true, true, true) u1 u2 u3 u4 u5 w → wpAnyH Try.prog md ops Q S r (cwLst (true, true, true, true, true)) (put5 a u1 u2 u3 u4 u5) w) :
    wpAnyH Try.prog md ops Q S (5 + r) (cwLst (false, false, false, false, false)) a W0 := by
  refine wpAnyH_upto cwLst cwRank cwRd cwV (CwI B W0 (.slice Aw wl cw) wit a) r hrd (fun s hV h => cw_ne s hV h) ?_ ?_ 5 (false, false, false, false, false) _ _ ⟨by simp, by simp⟩ (by decide) ⟨_, _, _, _, _, (put5_self a hsz).symm, ⟨Below.refl _ _, by simp, by simp, by simp, by simp, by simp⟩⟩
  · rintro ⟨b1', b2', b3', b4', b5'⟩ act w hV ⟨u1, u2, u3, u4, u5, rfl, hs⟩ hr i hi
    obtain ⟨h9', hc⟩ := List.mem_filter.1 hi
    simp only [List.mem_cons, List.not_mem_nil, or_false] at h9'
    obtain ⟨hv1, hv2⟩ := hV
    dsimp only at hv1 hv2
    rcases h9' with rfl | rfl | rfl | rfl | rfl | rfl
    · obtain rfl : b1' = false := by simpa [cwCond] using hc
      have q := cw3 (Q := Q) (a := a) (ty := t3) (ps := p3) (af := f3) hS hv1 hv2 hs
      have q2 := cwOne h3 rfl q
      exact q2.out
    · obtain rfl : b2' = false := by simpa [cwCond] using hc
      have q := cw9 (Q := Q) (a := a) (ty := t9) (ps := p9) (af := f9) hsz xi o h168 hwv hS hv1 hv2 hs
      have q2 := cwOne h9 rfl q
      exact q2.out
    · obtain ⟨⟨rfl, rfl⟩, rfl⟩ : (b1' = true ∧ b2' = true) ∧ b3' = false := by simpa [cwCond] using hc
      have q := cw10 (Q := Q) (a := a) (ty := t10) (ps := p10) (af := f10) hsz hwit hlen hS hv2 hs
      have q2 := cwOne h10 rfl q
      exact q2.out
    · obtain rfl : b4' = false := by simpa [cwCond] using hc
      have q := cw11 (Q := Q) (a := a) (ty := t11) (ps := p11) (af := f11) hS hv1 hv2 hs
      have q2 := cwOne h11 rfl q
      exact q2.out
    · obtain ⟨rfl, rfl⟩ : b4' = true ∧ b5' = false := by simpa [cwCond] using hc
      have q := cw12 (Q := Q) (a := a) (ty := t12) (ps := p12) (af := f12) hsz hS hv1 hs
      have q2 := cwOne h12 rfl q
      exact q2.out
    · obtain ⟨rfl, rfl⟩ : b3' = true ∧ b5' = true := by simpa [cwCond] using hc
      obtain ⟨rfl, rfl⟩ := hv1 rfl
      obtain rfl := hv2 rfl
      exact absurd rfl hr
  · rintro ⟨b1', b2', b3', b4', b5'⟩ act w hV ⟨u1, u2, u3, u4, u5, rfl, hs⟩ hr
    obtain ⟨rfl, rfl, rfl, rfl, rfl⟩ : b1' = true ∧ b2' = true ∧ b3' = true ∧ b4' = true ∧ b5' = true := by
      cases b1' <;> cases b2' <;> cases b3' <;> cases b4' <;> cases b5' <;> simp [cwRank, b1] at hr ⊢
    exact hend _ _ _ _ _ _ hs

set_option maxRecDepth 100000 in
/-- One Witness of a transaction of the call's own stored. -/
theorem nine_end {w6 : World} {B B1 g xi xci xo xco NT j : Nat} {X : TxD} {d : InD} {L : List (List Int)} {v6 : Value} (hx : Box w6 g 26 #[.int .u32 X.version, .slice (some ⟨xi, 0, none⟩) NT xci, .slice (some ⟨xo, 0, none⟩) X.outs.length xco, .int .u32 X.lock])
    (hv : X.version < 4294967296) (hk : X.lock < 4294967296) (hi : OwnMany 36 32 (InO w6 B) w6 B1 (.slice (some ⟨xi, 0, none⟩) NT xci) X.ins) (ho : OwnMany 2 35 (OutF w6 B) w6 B1 (.slice (some ⟨xo, 0, none⟩) X.outs.length xco) X.outs)
    (hn : X.ins.length = NT) (hj : X.ins[j]? = some d) (hm : OwnRows w6 B v6 L) :
    TxX (w6.setCell ⟨xi, j * 36 + 35, none⟩ v6) B B1 g { X with ins := X.ins.set j { d with wit := L } } ∧ (w6.setCell ⟨xi, j * 36 + 35, none⟩ v6).cell? ⟨g, 1, none⟩ = some (.slice (some ⟨xi, 0, none⟩) NT xci) := by
  have hjl : j < X.ins.length := by
    rcases Nat.lt_or_ge j X.ins.length with h | h
    · exact h
    · rw [List.getElem?_eq_none h] at hj
      cases hj
  have hd : X.ins[j] = d := Option.some.inj ((List.getElem?_eq_getElem hjl).symm.trans hj)
  obtain ⟨_, _, Ci, hxi⟩ := hi.boxOf
  have hk7 : Keeps [5, 29, 35, 26] w6 (w6.setCell ⟨xi, j * 36 + 35, none⟩ v6) := Keeps.of_set hxi (by decide) _ _
  have hx7 := Keeps.box hk7 (by decide) hx
  refine ⟨⟨_, _, hx7, hv, hk, ?_, OwnMany.turn ho hk7 (by decide) (Nat.le_refl _) (fun cs d h => h.keeps hk7 (by decide))⟩, hx7.cell 1⟩
  exact OwnMany.cellSetN (j := 35) (R' := InO (w6.setCell ⟨xi, j * 36 + 35, none⟩ v6) B) hi hn hjl (by decide) v6 { d with wit := L } (fun cs d h => h.turn hk7 (by decide) (by decide) (Nat.le_refl _)) (fun cs _ h => by
    rw [hd] at h
    obtain ⟨sv, wv, rfl, hf, hS, hY, hW⟩ := h.turn hk7 (by decide) (by decide) (Nat.le_refl _)
    exact ⟨sv, v6, set_wit hf.plen sv wv _ _, ⟨hf.plen, hf.pbys, hf.vlt, hf.slt⟩, hS, hY, rows_turn hm hk7 (by decide) (by decide) (Nat.le_refl _)⟩)
/-- The count goes on. -/
theorem nine_step {q Q : Nat} (h : q < Q) (h15 : Q ≤ 15) {p : Nat → Prop} (hp : p (q + 1)) :
    (∃ q1, q1 ≤ Q ∧ Value.int IntKind.i64 (RowKit.wrap64 ((q : Int) + 1)) = Value.int IntKind.i64 ((q1 : Nat) : Int) ∧ p q1) ∧ Q - (intOf (Value.int IntKind.i64 (RowKit.wrap64 ((q : Int) + 1)))).toNat < Q - (intOf (Value.int IntKind.i64 ((q : Nat) : Int))).toNat := by
  have e : RowKit.wrap64 ((q : Int) + 1) = ((q + 1 : Nat) : Int) := by unfold RowKit.wrap64; omega
  rw [e]
  exact ⟨⟨q + 1, by omega, rfl, hp⟩, by simp [intOf]; omega⟩
end Go.Proofs.Ytbnclajhgkjopaa
