/- Slices of numbers of one kind: what they read as, what keeps them, a slice of the call's own, append. No program. Where packages wire and txns are there: what ClA, ClS and ClT hold elsewhere stands in these texts. Contracts of package clas, and of the document's own answers to it: Kind, Least, Dust, Dusts. The document's own Kind and Least. Dust and Dusts, of the program and of the document. Dusts, of the program and of the document. -/
import Derived.Test.YtbnclajhgkjopaaGa
import Derived.Test.YtbnclajhgkjopaaGe
import Derived.WalkKit
import Derived.WalkSpells
import Derived.WalkLawsBesides
import Derived.Lib.Hide
import Derived.Lib.ConvBytes
import Derived.Laws.BytesArg
import Derived.Laws.BitsAllLaws
import Derived.Laws.Bits64
import Derived.Shelf.Abstract
import Derived.BigQuiet
namespace Go.Proofs.Ytbnclajhgkjopaa

section
open Go.RowKit

/-- The cells from place 'off' of block b on are the numbers l. -/
def RunK (κ : IntKind) (w : World) (b off : Nat) (l : List Int) : Prop := ∀ i, i < l.length → w.cell? ⟨b, off + i, none⟩ = some (.int κ (l.getD i 0))
/-- The slice v reads as the numbers l. -/
def SlK (κ : IntKind) (w : World) (v : Value) (l : List Int) : Prop :=
  ∃ A c, v = .slice A l.length c ∧ l.length ≤ c ∧ (A = none → c = 0) ∧ (l ≠ [] → ∃ b off, A = some ⟨b, off, none⟩ ∧ b < w.heap.size ∧ RunK κ w b off l)

section
variable {κ : IntKind} {w w' : World} {v : Value} {l : List Int}
theorem SlK.nil (κ : IntKind) (w : World) : SlK κ w (.slice none 0 0) [] := ⟨none, 0, rfl, Nat.le_refl _, fun _ => rfl, fun h => absurd rfl h⟩
theorem SlK.below (h : SlK κ w v l) (hk : Below w.heap.size w w') : SlK κ w' v l := by
  obtain ⟨A, c, rfl, hc, hn, hr⟩ := h
  refine ⟨A, c, rfl, hc, hn, fun hl => ?_⟩
  obtain ⟨b, off, rfl, hlt, hrun⟩ := hr hl
  exact ⟨b, off, rfl, by have := hk.size; omega, fun i hi => (World.cell?_of_block (hk.block b hlt)).trans (hrun i hi)⟩
theorem RunK.take {b off : Nat} (h : RunK κ w b off l) (n : Nat) : RunK κ w b off (l.take n) := fun i hi => by
  have hi' : i < n ∧ i < l.length := by rw [List.length_take] at hi; omega
  rw [h i hi'.2]
  simp [List.getD_eq_getElem?_getD, hi'.1]
theorem RunK.drop {b off : Nat} (h : RunK κ w b off l) (n : Nat) : RunK κ w b (off + n) (l.drop n) := fun i hi => by
  have hi' : n + i < l.length := by simp [List.length_drop] at hi; omega
  rw [show off + n + i = off + (n + i) from by omega, h (n + i) hi']
  simp [List.getD_eq_getElem?_getD, List.getElem?_drop]
/-- A block of just these cells, all of it as a slice. -/
theorem SlK.fresh (κ : IntKind) (w : World) (t : Nat) (l : List Int) : SlK κ (w.alloc (.cells (l.map (Value.int κ)).toArray t)) (.slice (some ⟨w.heap.size, 0, none⟩) l.length l.length) l := by
  refine ⟨_, _, rfl, Nat.le_refl _, (fun h => by cases h), fun _ => ⟨w.heap.size, 0, rfl, by simp, fun i hi => ?_⟩⟩
  rw [(Box.fresh w t _).cell, Nat.zero_add]
  simp [List.getD_eq_getElem?_getD, hi]
end

/-- The numbers as cells. -/
def kVals (κ : IntKind) (l : List Int) : List Value := l.map (Value.int κ)
theorem kVals_at (κ : IntKind) (l : List Int) (j : Nat) (u : Value) (h : (kVals κ l)[j]? = some u) : j < l.length ∧ u = .int κ (l.getD j 0) := by
  unfold kVals at h
  rw [List.getElem?_map] at h
  cases hj : l[j]? with
  | none => rw [hj] at h; cases h
  | some x =>
    rw [hj] at h
    refine ⟨(List.getElem?_eq_some_iff.1 hj).1, ?_⟩
    rw [List.getD_eq_getElem?_getD, hj]
    simpa using h.symm
theorem kVals_one (κ : IntKind) (l : List Int) : ∀ u ∈ kVals κ l, u.oneCell' = true := by
  intro u hu
  unfold kVals at hu
  obtain ⟨x, _, rfl⟩ := List.mem_map.1 hu
  rfl

/-- v is a slice of the call's own, made from block 'base' on, that reads as the numbers l. e: the type of one. -/
def OwnK (κ : IntKind) (w : World) (base e : Nat) (v : Value) (l : List Int) : Prop := w.ownsRow base e 1 v l.length (kVals κ l)
section
variable {κ : IntKind} {w w' : World} {base e : Nat} {v : Value} {l : List Int}
theorem OwnK.none (κ : IntKind) (w : World) (base e : Nat) : OwnK κ w base e (.slice .none 0 0) [] := ⟨rfl, .inl ⟨rfl, rfl⟩⟩
theorem OwnK.form (h : OwnK κ w base e v l) :
    (v = .slice .none 0 0 ∧ l = []) ∨ ∃ g cap cur, v = .slice (some ⟨g, 0, .none⟩) l.length cap ∧ base ≤ g ∧ Box w g e cur ∧ l.length ≤ cap ∧ cap ≤ maxLen ∧ cur.size = cap ∧ cur.toList.take l.length = kVals κ l := by
  rcases h.2 with ⟨h1, h2⟩ | ⟨g, cap, cur, h1, h2, h3, h4, h5, h6, h7⟩
  · exact .inl ⟨h1, List.eq_nil_of_length_eq_zero h2⟩
  · exact .inr ⟨g, cap, cur, h1, h2, h3, h4, h5, by simpa using h6, by simpa using h7⟩
theorem OwnK.slice (h : OwnK κ w base e v l) : ∃ A c, v = .slice A l.length c := by
  rcases h.form with ⟨rfl, rfl⟩ | ⟨g, cap, _, rfl, _⟩
  · exact ⟨_, _, rfl⟩
  · exact ⟨_, _, rfl⟩
theorem OwnK.at {g n cap : Nat} (h : OwnK κ w base e (.slice (some ⟨g, 0, .none⟩) n cap) l) (i : Nat) (hi : i < l.length) : w.cell? ⟨g, i, .none⟩ = some (.int κ (l.getD i 0)) := by
  rcases h.form with ⟨h1, _⟩ | ⟨g', cap', cur, h1, hb, hx, hc, hm, hz, ht⟩
  · cases h1
  · injection h1 with h2 h3 h4
    injection h2 with h2
    injection h2 with h2 _
    subst h2
    rw [hx.cell]
    have hu : (kVals κ l)[i]? = some (.int κ (l.getD i 0)) := by
      unfold kVals
      rw [List.getElem?_map, List.getElem?_eq_getElem hi, List.getD_eq_getElem?_getD, List.getElem?_eq_getElem hi]
      rfl
    rw [← ht, List.getElem?_take, if_pos hi] at hu
    simpa using hu
theorem OwnK.sl (h : OwnK κ w base e v l) : SlK κ w v l := by
  rcases h.form with ⟨rfl, rfl⟩ | ⟨g', cap, cur, rfl, hb, hx, hc, hm, hz, ht⟩
  · exact SlK.nil κ w
  · refine ⟨_, cap, rfl, hc, (fun h => by cases h), fun _ => ⟨g', 0, rfl, hx.lt, fun i hi => ?_⟩⟩
    rw [Nat.zero_add]
    exact h.at i hi
theorem OwnK.keep (h : OwnK κ w base e v l) {row : Option Nat} (hg : w.grownBy w' row) (hne : v.ownBlock = .none ∨ v.ownBlock ≠ row) : OwnK κ w' base e v l := World.ownsRow.kept h hg hne
theorem OwnK.below (h : OwnK κ w base e v l) (hb : Below w.heap.size w w') : OwnK κ w' base e v l :=
  h.keep (row := .none) ⟨hb.os, hb.tape, hb.output, hb.size, fun k hk _ => hb.block k hk⟩ (by cases hv : v.ownBlock <;> simp)
theorem OwnK.less {base' : Nat} (h : OwnK κ w base e v l) (hb : base' ≤ base) : OwnK κ w base' e v l := by
  refine ⟨h.1, ?_⟩
  rcases h.2 with h2 | ⟨g, cap, cur, hv, hg, r⟩
  · exact .inl h2
  · exact .inr ⟨g, cap, cur, hv, by omega, r⟩
theorem OwnK.fresh (κ : IntKind) (w : World) (e : Nat) (l : List Int) (hl : l.length ≤ maxLen) : OwnK κ (w.alloc (.cells (l.map (Value.int κ)).toArray e)) w.heap.size e (.slice (some ⟨w.heap.size, 0, .none⟩) l.length l.length) l := by
  refine ⟨by simp [kVals], .inr ⟨_, _, _, rfl, Nat.le_refl _, Box.fresh w e _, Nat.le_refl _, hl, by simp, ?_⟩⟩
  simp [kVals, List.take_of_length_le]
/-- What grows by a slice of the call's own leaves all that was there ahead of the call. -/
theorem OwnK.grows {w0 : World} (h : OwnK κ w base e v l) (hb : Below w0.heap.size w0 w) (hg : w.grownBy w' v.ownBlock) (h0 : w0.heap.size ≤ base) : Below w0.heap.size w0 w' := by
  refine ⟨hg.os.trans hb.os, hg.tape.trans hb.tape, hg.output.trans hb.output, Nat.le_trans hb.size hg.size, fun k hk => (hg.block k (Nat.lt_of_lt_of_le hk hb.size) ?_).trans (hb.block k hk)⟩
  rcases h.form with ⟨rfl, _⟩ | ⟨g, cap, cur, rfl, hbg, _⟩
  · simp [Value.ownBlock]
  · simp [Value.ownBlock]; omega
/-- A number stored into a slice of the call's own. -/
theorem OwnK.set {g n cap : Nat} (h : OwnK κ w base e (.slice (some ⟨g, 0, .none⟩) n cap) l) (q : Nat) (y : Int) :
    OwnK κ (w.setCell ⟨g, q, .none⟩ (.int κ y)) base e (.slice (some ⟨g, 0, .none⟩) n cap) (l.set q y) := by
  rcases h.form with ⟨h1, _⟩ | ⟨g', cap', cur, h1, hb, hx, hc, hm, hz, ht⟩
  · cases h1
  · injection h1 with h2 h3 h4
    injection h2 with h2
    injection h2 with h2 _
    subst h2
    subst h3
    subst h4
    refine ⟨by simp [kVals], .inr ⟨g, cap, _, by rw [List.length_set], hb, hx.set q (.int κ y), by rw [List.length_set]; exact hc, hm, by simpa using hz, ?_⟩⟩
    rw [List.length_set, Nat.mul_one, Array.toList_setIfInBounds, List.take_set, ht]
    simp [kVals, List.map_set]
theorem OwnK.warm {g n cap : Nat} (h : OwnK κ w base e (.slice (some ⟨g, 0, .none⟩) n cap) l) (q : Nat) : w.frozen? ⟨g, q, .none⟩ = false ∧ base ≤ g ∧ n = l.length := by
  rcases h.form with ⟨h1, _⟩ | ⟨g', cap', cur, h1, hb, hx, hc, hm, hz, ht⟩
  · cases h1
  · injection h1 with h2 h3 h4
    injection h2 with h2
    injection h2 with h2 _
    subst h2
    exact ⟨hx.warm q, hb, h3⟩
end

/-- append(v, x...) onto a slice of the call's own, the source any slice of such numbers. -/
theorem wpList_append_nums {P : Program} {w : World} {ops : Array Oper} {rest : List Oper} {o : Oper} {a : Act} {Q : Exit → Act → World → Prop} (κ : IntKind) (nb : Nat) (hnb : 1 ≤ nb) (hgd : o.guard = none) (s x : Operand) (t : TypeId)
    (ho : o.op = .call { callee := .builtin .append, args := #[s, x], argTypes := #[t, t] })
    (base e : TypeId) (i : TypeInfo) (ht : P.underlying t = some (.slice e)) (hi : P.info? e = some i) (hz : i.zero = some (.int κ 0)) (hsize : i.size = 1) (hby : i.bytes = nb)
    (v : Value) (l : List Int) (hs : a.eval s = v) (hown : OwnK κ w base e v l)
    (u : Value) (k : List Int) (hx : a.eval x = u) (hsl : SlK κ w u k) (h47 : (l.length + k.length) * nb ≤ 140737488355328) (hbase : base ≤ w.heap.size)
    (h : ∀ v' w', OwnK κ w' base e v' (l ++ k) → w.grownBy w' v.ownBlock → wpList P ops Q rest (a.put o.dst v') w') : wpList P ops Q (o :: rest) a w := by
  obtain ⟨A, c, rfl, hc, hn, hr⟩ := hsl
  have hm : l.length + k.length ≤ 140737488355328 := Nat.le_trans (Nat.le_mul_of_pos_right _ hnb) h47
  cases A with
  | none =>
    have hk : k = [] := by
      rcases List.eq_nil_or_concat k with h0 | ⟨_, _, h0⟩
      · exact h0
      · obtain ⟨_, _, he, _⟩ := hr (by rw [h0]; simp)
        cases he
    subst hk
    have hc0 := hn rfl
    subst hc0
    refine wpList_append_own_none hgd s x t ho base e i 1 ht hi v l.length (kVals κ l) hs hown hx (h v w (by simpa using hown) (World.grownBy.refl w _))
  | some ad =>
    have hnews : ∀ j u, (kVals κ k)[j]? = some u → w.cell? (ad.add j) = some u := by
      intro j u hu
      obtain ⟨hj, rfl⟩ := kVals_at κ k j u hu
      obtain ⟨b, off, he, _, hrun⟩ := hr (by rintro rfl; simp at hj)
      injection he with he
      subst he
      rw [← hrun j hj]
      by_cases h0 : j = 0 <;> simp [Addr.add, h0]
    refine wpList_append_own w hgd s x t ho base e i (.int κ 0) 1 nb ht hi hz hsize hby rfl (by decide) v l.length (kVals κ l) hs hown ad k.length c (kVals κ k) hx (by simp [kVals]) hnews (kVals_one κ k)
      (by unfold maxLen; omega) h47 hbase ?_
    intro v' w' h1 h2 _
    exact h v' w' (by simpa [OwnK, kVals] using h1) h2
end

section

end

section
open Go.RowKit

/-- The script is first, the number n, and as many bytes. -/
def countedB (l : List Int) (f : Int) (n : Nat) : Bool := decide (l.length = 2 + n) && decide (l.getD 0 0 = f) && decide (l.getD 1 0 = (n : Int))
def carriesB (l : List Int) : Bool := decide (1 ≤ l.length) && decide (l.length ≤ 83) && decide (l.getD 0 0 = 106)
/-- The kind of a script. -/
def kindOf (l : List Int) : Nat :=
  if l = [81, 2, 78, 115] then 1 else if countedB l 0 20 then 2 else if countedB l 0 32 then 3 else if countedB l 81 32 then 4 else if carriesB l then 5 else 0
def leastOf (k : Int) : Nat := if k = 1 then 240 else if k = 2 then 294 else if k = 3 ∨ k = 4 then 330 else 0
theorem kindOf_le (l : List Int) : kindOf l ≤ 5 := by
  unfold kindOf
  repeat' split
  all_goals omega

set_option maxRecDepth 100000 in
theorem counted_any (w : World) (v : Value) (l : List Int) (h : Rb w v l) (f : Int) (n : Nat) (hn : 0 < n ∧ n ≤ 100) :
    Calls Try.prog 60 #[v, .int .u8 f, .int .i64 (n : Int)] w fun e w' => e = .returned (.bool (countedB l f n)) ∧ w = w' := by
  obtain ⟨⟨A, c, rfl, hc, hnn, hr⟩, hy, hm⟩ := h
  have hw : IntKind.i64.wrap (2 + (n : Int)) = 2 + n := by rw [IntKind.wrap_i64]; omega
  obtain ⟨N, hN⟩ : ∃ N, l.length = N := ⟨_, rfl⟩
  by_cases h1 : N = 2 + n
  · have hne : l ≠ [] := by intro h; rw [h] at hN; simp at hN; omega
    obtain ⟨b, off, rfl, hb, hlt, hrun⟩ := hr hne
    have c0 := hrun 0 (by omega)
    have c1 := hrun 1 (by omega)
    have g1 : ((N : Int) == 2 + (n : Int)) = true := by simp; omega
    have gl : 0 < N := by omega
    have gl2 : 1 < N := by omega
    obtain ⟨x0, hx0⟩ : ∃ x, l.getD 0 0 = x := ⟨_, rfl⟩
    obtain ⟨x1, hx1⟩ : ∃ x, l.getD 1 0 = x := ⟨_, rfl⟩
    have hy1 := hy.at 1
    rw [hx0, Nat.add_zero] at c0
    rw [hx1] at c1 hy1
    have hw1 : IntKind.i64.wrap x1 = x1 := by rw [IntKind.wrap_i64]; omega
    rw [hN]
    have HR : Kp (countedB l f n = (decide (x0 = f) && decide (x1 = (n : Int)))) := ⟨by simp only [countedB, hN, h1, hx0, hx1]; simp⟩
    clear hrun hr hy hm hne hx0 hx1 hN hn hy1 h1 hb hlt hnn
    by_cases h2 : x0 = f
    · have g2 : (x0 == f) = true := by simp [h2]
      have HE : Kp (countedB l f n = decide (x1 = (n : Int))) := ⟨by rw [HR.out, h2]; simp⟩
      clear h2
      go_enter Try.func60, Try.ntmps60
      go_wp2
      go_ret
      exact ⟨by rw [HE.out]; simp [BEq.beq], rfl⟩
    · have g2 : (x0 == f) = false := by simp [h2]
      have HE : Kp (countedB l f n = false) := ⟨by rw [HR.out]; simp [h2]⟩
      clear h2
      go_enter Try.func60, Try.ntmps60
      go_wp2
      go_ret
      exact ⟨by rw [HE.out]; rfl, rfl⟩
  · have g1 : ((N : Int) == 2 + (n : Int)) = false := by simp; omega
    have HR : Kp (countedB l f n = false) := ⟨by simp only [countedB, hN, h1]; simp⟩
    rw [hN]
    clear hr hy hm hN hn h1 hnn
    go_enter Try.func60, Try.ntmps60
    go_wp2
    go_ret
    exact ⟨by rw [HR.out]; rfl, rfl⟩

set_option maxRecDepth 100000 in
theorem carries_any (w : World) (v : Value) (l : List Int) (h : Rb w v l) :
    Calls Try.prog 61 #[v] w fun e w' => e = .returned (.bool (carriesB l)) ∧ w = w' := by
  obtain ⟨⟨A, c, rfl, hc, hnn, hr⟩, hy, hm⟩ := h
  obtain ⟨N, hN⟩ : ∃ N, l.length = N := ⟨_, rfl⟩
  by_cases h1 : 1 ≤ N
  · have hne : l ≠ [] := by intro h; rw [h] at hN; simp at hN; omega
    obtain ⟨b, off, rfl, hb, hlt, hrun⟩ := hr hne
    have c0 := hrun 0 (by omega)
    have g1 : decide ((1 : Int) ≤ (N : Int)) = true := by simp; omega
    have gl : 0 < N := by omega
    obtain ⟨x0, hx0⟩ : ∃ x, l.getD 0 0 = x := ⟨_, rfl⟩
    rw [hx0, Nat.add_zero] at c0
    rw [hN]
    by_cases h2 : N ≤ 83
    · have g2 : decide ((N : Int) ≤ 83) = true := by simp; omega
      have HR : Kp (carriesB l = decide (x0 = 106)) := ⟨by simp only [carriesB, hN, hx0]; simp [h1, h2]⟩
      clear hrun hr hy hm hne hx0 hN h1 hb hlt hnn h2
      go_enter Try.func61, Try.ntmps61
      go_wp2
      go_ret
      exact ⟨by rw [HR.out]; simp [BEq.beq], rfl⟩
    · have g2 : decide ((N : Int) ≤ 83) = false := by simp; omega
      have HR : Kp (carriesB l = false) := ⟨by simp only [carriesB, hN, hx0]; simp; omega⟩
      clear hrun hr hy hm hne hx0 hN h1 hb hlt hnn h2
      go_enter Try.func61, Try.ntmps61
      go_wp2
      go_ret
      exact ⟨by rw [HR.out]; rfl, rfl⟩
  · have g1 : decide ((1 : Int) ≤ (N : Int)) = false := by simp; omega
    have HR : Kp (carriesB l = false) := ⟨by simp only [carriesB, hN]; simp; omega⟩
    rw [hN]
    clear hr hy hm hN h1 hnn
    go_enter Try.func61, Try.ntmps61
    go_wp2
    go_ret
    exact ⟨by rw [HR.out]; rfl, rfl⟩

theorem anchorStr : strOfNums [81, 2, 78, 115] = ⟨#[81, 2, 78, 115]⟩ := by decide
theorem anchorBys : Bys [81, 2, 78, 115] := by unfold Bys; decide
set_option maxRecDepth 100000 in
set_option maxHeartbeats 1000000 in
theorem kind_any (w : World) (v : Value) (l : List Int) (h : Rb w v l) :
    Calls Try.prog 46 #[v] w fun e w' => e = .returned (.int .i64 (kindOf l)) ∧ w = w' := by
  have H1 := Kp.mk (counted_any w v l h 0 20 (by omega))
  have H2 := Kp.mk (counted_any w v l h 0 32 (by omega))
  have H3 := Kp.mk (counted_any w v l h 81 32 (by omega))
  have H4 := Kp.mk (carries_any w v l h)
  rw [show ((20 : Nat) : Int) = 20 from rfl] at H1
  rw [show ((32 : Nat) : Int) = 32 from rfl] at H2 H3
  have hs := run_str h.1
  obtain ⟨A, c, rfl, _⟩ := h.1
  obtain ⟨S, hS⟩ : ∃ S, strOfNums l = S := ⟨_, rfl⟩
  have hk : Kp (kindOf l = if l = [81, 2, 78, 115] then 1 else if countedB l 0 20 then 2 else if countedB l 0 32 then 3 else if countedB l 81 32 then 4 else if carriesB l then 5 else 0) := ⟨rfl⟩
  obtain ⟨N, hN⟩ : ∃ N, l.length = N := ⟨_, rfl⟩
  rw [hS] at hs
  rw [hN] at hs H1 H2 H3 H4 ⊢
  obtain ⟨b1, e1⟩ : ∃ b, countedB l 0 20 = b := ⟨_, rfl⟩
  obtain ⟨b2, e2⟩ : ∃ b, countedB l 0 32 = b := ⟨_, rfl⟩
  obtain ⟨b3, e3⟩ : ∃ b, countedB l 81 32 = b := ⟨_, rfl⟩
  obtain ⟨b4, e4⟩ : ∃ b, carriesB l = b := ⟨_, rfl⟩
  rw [e1] at H1 hk
  rw [e2] at H2 hk
  rw [e3] at H3 hk
  rw [e4] at H4 hk
  by_cases ha : l = [81, 2, 78, 115]
  · have g1 : S = (⟨#[81, 2, 78, 115]⟩ : ByteArray) := by rw [← hS, ha, anchorStr]
    subst g1
    have HE : Kp (kindOf l = 1) := ⟨by rw [hk.out, if_pos ha]⟩
    clear ha e1 e2 e3 e4 hN hk h
    go_enter Try.func46, Try.ntmps46
    go_wp2
    go_ret
    exact ⟨by rw [HE.out]; rfl, rfl⟩
  · have g1 : (S.toList == [81, 2, 78, 115]) = false := by
      have := str_eqB h.2.1 anchorBys
      rw [hS, anchorStr, ByteArray.toList_eq ⟨#[81, 2, 78, 115]⟩] at this
      exact this.trans (decide_eq_false ha)
    rw [if_neg ha] at hk
    clear ha hS e1 e2 e3 e4 hN h
    cases b1
    · cases b2
      · cases b3
        · cases b4
          · have HE : Kp (kindOf l = 0) := ⟨by rw [hk.out]; simp⟩
            clear hk
            go_enter Try.func46, Try.ntmps46
            go_wp2_with fail
            refine H1.out.mono ?_
            rintro e w' ⟨rfl, rfl⟩
            go_wp2_with fail
            refine H2.out.mono ?_
            rintro e w' ⟨rfl, rfl⟩
            go_wp2_with fail
            refine H3.out.mono ?_
            rintro e w' ⟨rfl, rfl⟩
            go_wp2_with fail
            refine H4.out.mono ?_
            rintro e w' ⟨rfl, rfl⟩
            go_wp2
            go_ret
            exact ⟨by rw [HE.out]; rfl, rfl⟩
          · have HE : Kp (kindOf l = 5) := ⟨by rw [hk.out]; simp⟩
            clear hk
            go_enter Try.func46, Try.ntmps46
            go_wp2_with fail
            refine H1.out.mono ?_
            rintro e w' ⟨rfl, rfl⟩
            go_wp2_with fail
            refine H2.out.mono ?_
            rintro e w' ⟨rfl, rfl⟩
            go_wp2_with fail
            refine H3.out.mono ?_
            rintro e w' ⟨rfl, rfl⟩
            go_wp2_with fail
            refine H4.out.mono ?_
            rintro e w' ⟨rfl, rfl⟩
            go_wp2
            go_ret
            exact ⟨by rw [HE.out]; rfl, rfl⟩
        · have HE : Kp (kindOf l = 4) := ⟨by rw [hk.out]; simp⟩
          clear hk
          go_enter Try.func46, Try.ntmps46
          go_wp2_with fail
          refine H1.out.mono ?_
          rintro e w' ⟨rfl, rfl⟩
          go_wp2_with fail
          refine H2.out.mono ?_
          rintro e w' ⟨rfl, rfl⟩
          go_wp2_with fail
          refine H3.out.mono ?_
          rintro e w' ⟨rfl, rfl⟩
          go_wp2
          go_ret
          exact ⟨by rw [HE.out]; rfl, rfl⟩
      · have HE : Kp (kindOf l = 3) := ⟨by rw [hk.out]; simp⟩
        clear hk
        go_enter Try.func46, Try.ntmps46
        go_wp2_with fail
        refine H1.out.mono ?_
        rintro e w' ⟨rfl, rfl⟩
        go_wp2_with fail
        refine H2.out.mono ?_
        rintro e w' ⟨rfl, rfl⟩
        go_wp2
        go_ret
        exact ⟨by rw [HE.out]; rfl, rfl⟩
    · have HE : Kp (kindOf l = 2) := ⟨by rw [hk.out]; simp⟩
      clear hk
      go_enter Try.func46, Try.ntmps46
      go_wp2_with fail
      refine H1.out.mono ?_
      rintro e w' ⟨rfl, rfl⟩
      go_wp2
      go_ret
      exact ⟨by rw [HE.out]; rfl, rfl⟩

set_option maxRecDepth 100000 in
theorem least_any (w : World) (k : Int) : Calls Try.prog 63 #[.int .i64 k] w fun e w' => e = .returned (.int .u64 (leastOf k)) ∧ w = w' := by
  by_cases h1 : k = 1
  · subst h1
    go_enter Try.func63, Try.ntmps63
    go_wp2
    go_ret
    exact ⟨rfl, rfl⟩
  · by_cases h2 : k = 2
    · subst h2
      go_enter Try.func63, Try.ntmps63
      go_wp2
      go_ret
      exact ⟨rfl, rfl⟩
    · by_cases h3 : k = 3
      · subst h3
        go_enter Try.func63, Try.ntmps63
        go_wp2
        go_ret
        exact ⟨rfl, rfl⟩
      · by_cases h4 : k = 4
        · subst h4
          go_enter Try.func63, Try.ntmps63
          go_wp2
          go_ret
          exact ⟨rfl, rfl⟩
        · have HE : Kp (leastOf k = 0) := ⟨by unfold leastOf; simp [h1, h2, h3, h4]⟩
          have g1 : (k == 1) = false := by simp [h1]
          have g2 : (k == 2) = false := by simp [h2]
          have g3 : (k == 3) = false := by simp [h3]
          have g4 : (k == 4) = false := by simp [h4]
          clear h1 h2 h3 h4
          go_enter Try.func63, Try.ntmps63
          go_wp2
          go_ret
          exact ⟨by rw [HE.out]; rfl, rfl⟩
end

section
open Go.RowKit

set_option maxRecDepth 100000 in
set_option maxHeartbeats 2000000 in
theorem refkind_any (w : World) (v : Value) (l : List Int) (h : Rb w v l) :
    Calls Try.prog 34 #[v] w fun e w' => e = .returned (.int .i64 (kindOf l)) ∧ w = w' := by
  have hs := run_str h.1
  obtain ⟨⟨A, c, rfl, hc, hnn, hr⟩, hy, hm⟩ := h
  obtain ⟨S, hS⟩ : ∃ S, strOfNums l = S := ⟨_, rfl⟩
  obtain ⟨N, hN⟩ : ∃ N, l.length = N := ⟨_, rfl⟩
  obtain ⟨x0, hx0⟩ : ∃ x, l.getD 0 0 = x := ⟨_, rfl⟩
  obtain ⟨x1, hx1⟩ : ∃ x, l.getD 1 0 = x := ⟨_, rfl⟩
  have hk : kindOf l = if l = [81, 2, 78, 115] then 1 else if N = 22 ∧ x0 = 0 ∧ x1 = 20 then 2 else if N = 34 ∧ x0 = 0 ∧ x1 = 32 then 3 else if N = 34 ∧ x0 = 81 ∧ x1 = 32 then 4 else if 1 ≤ N ∧ N ≤ 83 ∧ x0 = 106 then 5 else 0 := by
    unfold kindOf countedB carriesB
    rw [hN, hx0, hx1]
    simp [and_assoc]
  rw [hS] at hs
  rw [hN] at hs ⊢
  by_cases ha : l = [81, 2, 78, 115]
  · have g1 : S = (⟨#[81, 2, 78, 115]⟩ : ByteArray) := by rw [← hS, ha, anchorStr]
    subst g1
    have HE : Kp (kindOf l = 1) := ⟨by rw [hk, if_pos ha]⟩
    clear ha hk hN hx0 hx1 hr hnn hy hm hS
    go_enter Try.func34, Try.ntmps34
    go_wp2
    go_ret
    exact ⟨by rw [HE.out]; rfl, rfl⟩
  have g1 : (S.toList == [81, 2, 78, 115]) = false := by
    have := str_eqB hy anchorBys
    rw [hS, anchorStr, ByteArray.toList_eq ⟨#[81, 2, 78, 115]⟩] at this
    exact this.trans (decide_eq_false ha)
  rw [if_neg ha] at hk
  by_cases h0 : N = 0
  · subst h0
    have HE : Kp (kindOf l = 0) := ⟨by rw [hk]; simp⟩
    clear ha hk hN hx0 hx1 hr hnn hy hm hS
    go_enter Try.func34, Try.ntmps34
    go_wp2
    go_ret
    exact ⟨by rw [HE.out]; rfl, rfl⟩
  have hne : l ≠ [] := by intro h; rw [h] at hN; simp at hN; omega
  obtain ⟨b, off, rfl, hb, hlt, hrun⟩ := hr hne
  have c0 := hrun 0 (by omega)
  have c1 : 1 < N → w.cell? ⟨b, off + 1, none⟩ = some (.int .u8 x1) := fun h => by rw [← hx1]; exact hrun 1 (by omega)
  rw [hx0, Nat.add_zero] at c0
  have gl : 0 < N := by omega
  have gp : decide ((1 : Int) ≤ (N : Int)) = true := by simp; omega
  have gp2 : decide ((N : Int) ≥ 1) = true := by simp; omega
  clear ha hN hx0 hx1 hr hnn hy hm hS hrun hne hb hlt h0
  by_cases n22 : N = 22
  · subst n22
    replace c1 := c1 (by omega)
    by_cases e0 : x0 = 0
    · subst e0
      by_cases e20 : x1 = 20
      · subst e20
        have HE : Kp (kindOf l = 2) := ⟨by rw [hk]; simp⟩
        clear hk 
        go_enter Try.func34, Try.ntmps34
        go_wp2
        go_ret
        exact ⟨by rw [HE.out]; rfl, rfl⟩
      · have ge20 : (x1 == 20) = false := by simp [e20]
        have HE : Kp (kindOf l = 0) := ⟨by rw [hk]; simp [e20]⟩
        clear hk e20
        go_enter Try.func34, Try.ntmps34
        go_wp2
        go_ret
        exact ⟨by rw [HE.out]; rfl, rfl⟩
    · have ge0 : (x0 == 0) = false := by simp [e0]
      by_cases e106 : x0 = 106
      · subst e106
        have HE : Kp (kindOf l = 5) := ⟨by rw [hk]; simp [e0]⟩
        clear hk e0
        go_enter Try.func34, Try.ntmps34
        go_wp2
        go_ret
        exact ⟨by rw [HE.out]; rfl, rfl⟩
      · have ge106 : (x0 == 106) = false := by simp [e106]
        have HE : Kp (kindOf l = 0) := ⟨by rw [hk]; simp [e0, e106]⟩
        clear hk e0 e106
        go_enter Try.func34, Try.ntmps34
        go_wp2
        go_ret
        exact ⟨by rw [HE.out]; rfl, rfl⟩
  · by_cases n34 : N = 34
    · subst n34
      replace c1 := c1 (by omega)
      by_cases e0 : x0 = 0
      · subst e0
        by_cases e32 : x1 = 32
        · subst e32
          have HE : Kp (kindOf l = 3) := ⟨by rw [hk]; simp⟩
          clear hk n22
          go_enter Try.func34, Try.ntmps34
          go_wp2
          go_ret
          exact ⟨by rw [HE.out]; rfl, rfl⟩
        · have ge32 : (x1 == 32) = false := by simp [e32]
          have HE : Kp (kindOf l = 0) := ⟨by rw [hk]; simp [e32]⟩
          clear hk n22 e32
          go_enter Try.func34, Try.ntmps34
          go_wp2
          go_ret
          exact ⟨by rw [HE.out]; rfl, rfl⟩
      · have ge0 : (x0 == 0) = false := by simp [e0]
        by_cases e81 : x0 = 81
        · subst e81
          by_cases e32 : x1 = 32
          · subst e32
            have HE : Kp (kindOf l = 4) := ⟨by rw [hk]; simp [e0]⟩
            clear hk n22 e0
            go_enter Try.func34, Try.ntmps34
            go_wp2
            go_ret
            exact ⟨by rw [HE.out]; rfl, rfl⟩
          · have ge32 : (x1 == 32) = false := by simp [e32]
            have HE : Kp (kindOf l = 0) := ⟨by rw [hk]; simp [e0, e32]⟩
            clear hk n22 e0 e32
            go_enter Try.func34, Try.ntmps34
            go_wp2
            go_ret
            exact ⟨by rw [HE.out]; rfl, rfl⟩
        · have ge81 : (x0 == 81) = false := by simp [e81]
          by_cases e106 : x0 = 106
          · subst e106
            have HE : Kp (kindOf l = 5) := ⟨by rw [hk]; simp [e0, e81]⟩
            clear hk n22 e0 e81
            go_enter Try.func34, Try.ntmps34
            go_wp2
            go_ret
            exact ⟨by rw [HE.out]; rfl, rfl⟩
          · have ge106 : (x0 == 106) = false := by simp [e106]
            have HE : Kp (kindOf l = 0) := ⟨by rw [hk]; simp [e0, e81, e106]⟩
            clear hk n22 e0 e81 e106
            go_enter Try.func34, Try.ntmps34
            go_wp2
            go_ret
            exact ⟨by rw [HE.out]; rfl, rfl⟩
    · skip
      clear c1
      have k22 : ((N : Int) == 22) = false := by simp; omega
      have k34 : ((N : Int) == 34) = false := by simp; omega
      by_cases h83 : N ≤ 83
      · have k83 : decide ((N : Int) ≤ 83) = true := by simp; omega
        by_cases e106 : x0 = 106
        · subst e106
          have HE : Kp (kindOf l = 5) := ⟨by rw [hk]; simp [n22, n34, h83, Nat.succ_le_of_lt gl]⟩
          clear hk n22 n34 h83
          go_enter Try.func34, Try.ntmps34
          go_wp2
          go_ret
          exact ⟨by rw [HE.out]; rfl, rfl⟩
        · have ge106 : (x0 == 106) = false := by simp [e106]
          have HE : Kp (kindOf l = 0) := ⟨by rw [hk]; simp [n22, n34, h83, Nat.succ_le_of_lt gl, e106]⟩
          clear hk n22 n34 h83 e106
          go_enter Try.func34, Try.ntmps34
          go_wp2
          go_ret
          exact ⟨by rw [HE.out]; rfl, rfl⟩
      · have k83 : decide ((N : Int) ≤ 83) = false := by simp; omega
        have HE : Kp (kindOf l = 0) := ⟨by rw [hk]; simp [n22, n34, h83]⟩
        clear hk n22 n34 h83
        go_enter Try.func34, Try.ntmps34
        go_wp2
        go_ret
        exact ⟨by rw [HE.out]; rfl, rfl⟩

set_option maxRecDepth 100000 in
theorem refleast_any (w : World) (k : Int) : Calls Try.prog 65 #[.int .i64 k] w fun e w' => e = .returned (.int .u64 (leastOf k)) ∧ w = w' := by
  by_cases h1 : k = 1
  · subst h1
    go_enter Try.func65, Try.ntmps65
    go_wp2
    go_ret
    exact ⟨rfl, rfl⟩
  · by_cases h2 : k = 2
    · subst h2
      go_enter Try.func65, Try.ntmps65
      go_wp2
      go_ret
      exact ⟨rfl, rfl⟩
    · by_cases h3 : k = 3
      · subst h3
        go_enter Try.func65, Try.ntmps65
        go_wp2
        go_ret
        exact ⟨rfl, rfl⟩
      · by_cases h4 : k = 4
        · subst h4
          go_enter Try.func65, Try.ntmps65
          go_wp2
          go_ret
          exact ⟨rfl, rfl⟩
        · have HE : Kp (leastOf k = 0) := ⟨by unfold leastOf; simp [h1, h2, h3, h4]⟩
          have g1 : (k == 1) = false := by simp [h1]
          have g2 : (k == 2) = false := by simp [h2]
          have g3 : (k == 3) = false := by simp [h3]
          have g4 : (k == 4) = false := by simp [h4]
          clear h1 h2 h3 h4
          go_enter Try.func65, Try.ntmps65
          go_wp2
          go_ret
          exact ⟨by rw [HE.out]; rfl, rfl⟩
end

section
open Go.RowKit

theorem below_drewN {B : Nat} {a w : World} (h : Below B a w) (n : Nat) : Below B a (w.drewN n) := ⟨h.os, h.tape, h.output, h.size, h.block⟩
/-- Is an output of such a value and script dust? -/
def dustB (x : Int) (l : List Int) : Bool := decide (x < (leastOf (kindOf l) : Int))

set_option maxRecDepth 100000 in
set_option maxHeartbeats 1000000 in
theorem dust_any (W : World) (x : Int) (sv : Value) (l : List Int) (h : Rb W sv l) : Calls Try.prog 48 #[.agg #[.int .u64 x, sv]] W (BoolP (dustB x l) W) := by
  have hb1 : Below W.heap.size W (W.alloc (.cells #[.int .u64 x, sv] 35)) := (Below.refl _ _).alloc (Nat.le_refl _) _
  have HB1 := Kp.mk hb1
  have T1 : Kp (∀ w3, Below W.heap.size W w3 → Calls Try.prog 46 #[sv] w3 fun e w' => e = .returned (.int .i64 (kindOf l)) ∧ w' = w3) := ⟨fun w3 hb => (kind_any w3 sv l (h.below hb)).mono fun e w' hh => ⟨hh.1, hh.2.symm⟩⟩
  have T2 : Kp (∀ w3, Calls Try.prog 63 #[.int .i64 (kindOf l)] w3 fun e w' => e = .returned (.int .u64 (leastOf (kindOf l))) ∧ w' = w3) := ⟨fun w3 => (least_any w3 (kindOf l)).mono fun e w' hh => ⟨hh.1, hh.2.symm⟩⟩
  have HE : Kp (dustB x l = decide (x < (leastOf (kindOf l) : Int))) := ⟨rfl⟩
  generalize leastOf (kindOf l) = q at *
  generalize kindOf l = k at *
  clear hb1 h
  go_enter Try.func48, Try.ntmps48
  go_wp2_with fail
  go_quiet ((first | (go_at_call 46; with_reducible exact Calls.quiet_of_same (T1.out _ (below_drewN HB1.out _))) | (go_at_call 63; with_reducible exact Calls.quiet_of_same (T2.out _))))
  go_wp2
  go_ret
  exact ⟨by rw [HE.out]; rfl, below_drewN HB1.out _⟩
set_option maxRecDepth 100000 in
set_option maxHeartbeats 1000000 in
theorem refdust_any (W : World) (x : Int) (sv : Value) (l : List Int) (h : Rb W sv l) : Calls Try.prog 54 #[.agg #[.int .u64 x, sv]] W (BoolP (dustB x l) W) := by
  have hb1 : Below W.heap.size W (W.alloc (.cells #[.int .u64 x, sv] 35)) := (Below.refl _ _).alloc (Nat.le_refl _) _
  have HB1 := Kp.mk hb1
  have T1 : Kp (∀ w3, Below W.heap.size W w3 → Calls Try.prog 34 #[sv] w3 fun e w' => e = .returned (.int .i64 (kindOf l)) ∧ w' = w3) := ⟨fun w3 hb => (refkind_any w3 sv l (h.below hb)).mono fun e w' hh => ⟨hh.1, hh.2.symm⟩⟩
  have T2 : Kp (∀ w3, Calls Try.prog 65 #[.int .i64 (kindOf l)] w3 fun e w' => e = .returned (.int .u64 (leastOf (kindOf l))) ∧ w' = w3) := ⟨fun w3 => (refleast_any w3 (kindOf l)).mono fun e w' hh => ⟨hh.1, hh.2.symm⟩⟩
  have HE : Kp (dustB x l = decide (x < (leastOf (kindOf l) : Int))) := ⟨rfl⟩
  generalize leastOf (kindOf l) = q at *
  generalize kindOf l = k at *
  clear hb1 h
  go_enter Try.func54, Try.ntmps54
  go_wp2_with fail
  go_quiet ((first | (go_at_call 34; with_reducible exact Calls.quiet_of_same (T1.out _ (below_drewN HB1.out _))) | (go_at_call 65; with_reducible exact Calls.quiet_of_same (T2.out _))))
  go_wp2
  go_ret
  exact ⟨by rw [HE.out]; rfl, below_drewN HB1.out _⟩
end

section
open Go.RowKit

def dustAt (outs : List OutD) (i : Nat) : Bool := match outs[i]? with
  | some d => dustB d.value d.script
  | none => false
/-- Where the dust of the first n outputs stands. -/
def dustsTo (outs : List OutD) : Nat → List Int
  | 0 => []
  | n + 1 => dustsTo outs n ++ (if dustAt outs n then [(n : Int)] else [])
def dustsOf (outs : List OutD) : List Int := dustsTo outs outs.length
theorem dustsTo_len (outs : List OutD) : ∀ n, (dustsTo outs n).length ≤ n
  | 0 => by simp [dustsTo]
  | n + 1 => by
    have := dustsTo_len outs n
    simp only [dustsTo, List.length_append]
    split <;> simp <;> omega
theorem dustAt_get {outs : List OutD} {i : Nat} (hi : i < outs.length) : dustAt outs i = dustB (outs[i]).value (outs[i]).script := by
  unfold dustAt
  rw [List.getElem?_eq_getElem hi]
def IntsP (l : List Int) (w : World) (e : Ending) (w' : World) : Prop := ∃ v, e = .returned v ∧ OwnK .i64 w' w.heap.size 3 v l ∧ Below w.heap.size w w'

set_option maxRecDepth 100000 in
theorem infoInt : (Try.prog.info? 3).map (fun i => (i.zero, i.size, i.bytes)) = some (some (.int .i64 0), 1, 8) := by kernel_rfl
set_option maxRecDepth 100000 in
set_option maxHeartbeats 4000000 in
theorem dusts_any (W : World) (a0 a1 a3 ov : Value) (outs : List OutD) (h : OutsR W ov outs) (hl : outs.length ≤ 1000) : Calls Try.prog 29 #[.agg #[a0, a1, ov, a3]] W (IntsP (dustsOf outs) W) := by
  obtain ⟨i0, hi, hz0, hz1, hz2⟩ := info_parts infoInt
  have HI := Kp.mk (And.intro hi (And.intro hz0 (And.intro hz1 hz2)))
  clear hi hz0 hz1 hz2
  have HO := Kp.mk h
  obtain ⟨A, c, rfl, hlc, hlm⟩ := h.slice
  obtain ⟨N, hN⟩ : ∃ N, outs.length = N := ⟨_, rfl⟩
  have HN := Kp.mk hN
  rw [hN] at hl ⊢
  have hb1 : Below W.heap.size W (W.alloc (.cells #[a0, a1, .slice A N c, a3] 26)) := (Below.refl _ _).alloc (Nat.le_refl _) _
  have HB1 := Kp.mk hb1
  clear h hlc hlm hb1 hN
  go_enter Try.func29, Try.ntmps29
  go_wp2
  go_loopw [3, 9] (fun v i wr => ∃ k : Nat, k ≤ N ∧ i = .int .i64 k ∧ Kp (OwnK .i64 wr W.heap.size 3 v (dustsTo outs k) ∧ Below W.heap.size W wr)) (fun _ i _ => N - (intOf i).toNat)
  case atStart => exact ⟨0, Nat.zero_le _, rfl, ⟨OwnK.none .i64 _ _ _, HB1.out⟩⟩
  case round =>
    obtain ⟨k, hk, rfl, H⟩ := hrel
    by_cases hlt : k < N
    · obtain ⟨hown, hbel⟩ := H.out
      have HLT := Kp.mk (show k < outs.length by have := HN.out; omega)
      have hO := outs_below HO.out hbel
      have hnn := HN.out
      rw [hnn] at hO
      obtain ⟨b, off, cs, rfl, hbl, hcl, hcs, sv, rfl, hv, hrb⟩ := hO.at HLT.out
      have HCS := Kp.mk hcs
      have HSV := Kp.mk hrb.one
      have HAT := Kp.mk (dustAt_get HLT.out)
      have HALL : ∀ q : Nat, Kp (Array.all #[Value.int .u64 q, sv] (·.oneCell') = true) := fun q => ⟨by simp only [List.all_toArray, List.all_cons, List.all_nil, HSV.out, Bool.and_true]; rfl⟩
      generalize outs[k] = d at *
      obtain ⟨x, hx⟩ : ∃ x, d.value = x := ⟨_, rfl⟩
      rw [hx] at HCS HAT
      have HALL := HALL x
      have HD : Kp (∀ W', Below wr.heap.size wr W' → Calls Try.prog 48 #[.agg #[.int .u64 x, sv]] W' (BoolP (dustAt outs k) W')) := ⟨fun W' hb => by rw [HAT.out]; exact dust_any W' x sv _ (hrb.below hb)⟩
      have HOWN := Kp.mk hown
      have HB := Kp.mk hbel
      have HK := Kp.mk hlt
      have HIO : Kp ((Try.prog.info? 35).map (·.size) = some 2) := ⟨sizeOut⟩
      have HL := Kp.mk hl
      have HB2 : Kp (Below wr.heap.size wr (wr.alloc (.cells #[.int .u64 x, sv] 35))) := ⟨(Below.refl _ _).alloc (Nat.le_refl _) _⟩
      have HST : Kp (dustsTo outs (k + 1) = dustsTo outs k ++ (if dustAt outs k then [(k : Int)] else [])) := ⟨rfl⟩
      have hkn : (k : Int) < (N : Int) := by omega
      clear hO hbl hcl hcs hv hrb hx hown hbel hnn HAT
      cases hd : dustAt outs k with
      | true =>
        rw [hd] at HD HST
        have HT : Kp (dustsTo outs (k + 1) = dustsTo outs k ++ [(k : Int)]) := ⟨by rw [HST.out]; rfl⟩
        clear hd HST
        have HLEN := Kp.mk (dustsTo_len outs k)
        have HB4 : Kp (∀ w2 c t, Below wr.heap.size wr w2 → Below W.heap.size W (w2.alloc (.cells c t))) := ⟨fun w2 c t h => (HB.out.trans (h.mono HB.out.size)).alloc (HB.out.trans (h.mono HB.out.size)).size _⟩
        go_wp2_with (first | (refine wpList_load_mid rfl 35 (.tmp 12) rfl b (off + k * 2) rfl [.int .u64 x, sv] _ HCS.out Try.underlying35 rfl HIO.out ?_) | (refine wpList_store_fresh rfl 35 (.tmp 5) (.tmp 13) rfl _ #[.int .u64 x, sv] wr.heap.size rfl rfl rfl HIO.out rfl HALL.out ?_) | (go_at_call 48; refine (HD.out _ HB2.out).mono ?_; rintro e w2 ⟨rfl, hb2⟩; have HB3 := Kp.mk (HB2.out.trans (hb2.mono HB2.out.size)); clear HB2 hb2) | (at_builtin; refine wpList_append_nums .i64 8 (by omega) rfl (.tmp 16) (.tmp 18) 49 rfl W.heap.size 3 i0 Try.underlying49 HI.out.1 HI.out.2.1 HI.out.2.2.1 HI.out.2.2.2 _ (dustsTo outs k) rfl (HOWN.out.below (HB3.out.alloc HB3.out.size _)) _ [(k : Int)] rfl (SlK.fresh .i64 w2 3 [(k : Int)]) (by have := HLEN.out; have := HK.out; have := HL.out; simp only [List.length_singleton]; omega) (HB4.out _ _ _ HB3.out).size ?_; intro v1 w1 ho1 hg1; have HG1 := Kp.mk ((HOWN.out.below (HB3.out.alloc HB3.out.size _)).grows (HB4.out _ _ _ HB3.out) hg1 (Nat.le_refl _)); have HO1 := Kp.mk ho1; clear ho1 hg1))
        go_roundw
        case rel => exact ⟨k + 1, by have := HK.out; omega, by go_num, ⟨by rw [HT.out]; exact HO1.out, HG1.out⟩⟩
        case measure => simp [intOf]; have := HK.out; omega
      | false =>
        rw [hd] at HD HST
        have HT : Kp (dustsTo outs (k + 1) = dustsTo outs k) := ⟨by rw [HST.out]; simp⟩
        clear hd HST
        go_wp2_with (first | (refine wpList_load_mid rfl 35 (.tmp 12) rfl b (off + k * 2) rfl [.int .u64 x, sv] _ HCS.out Try.underlying35 rfl HIO.out ?_) | (refine wpList_store_fresh rfl 35 (.tmp 5) (.tmp 13) rfl _ #[.int .u64 x, sv] wr.heap.size rfl rfl rfl HIO.out rfl HALL.out ?_) | (go_at_call 48; refine (HD.out _ HB2.out).mono ?_; rintro e w2 ⟨rfl, hb2⟩; have HB3 := Kp.mk (HB2.out.trans (hb2.mono HB2.out.size)); clear HB2 hb2))
        go_roundw
        case rel => exact ⟨k + 1, by have := HK.out; omega, by go_num, ⟨by rw [HT.out]; exact HOWN.out.below HB3.out, HB.out.trans (HB3.out.mono HB.out.size)⟩⟩
        case measure => simp [intOf]; have := HK.out; omega
    · obtain ⟨hown, hbel⟩ := H.out
      obtain rfl : k = N := by omega
      have HD : Kp (dustsOf outs = dustsTo outs k) := ⟨by rw [← HN.out]; rfl⟩
      have HOWN := Kp.mk hown
      have HB := Kp.mk hbel
      clear hown hbel
      go_wp2
      go_ret
      exact ⟨_, rfl, by rw [HD.out]; exact HOWN.out, HB.out⟩

theorem alloc_size1 (w : World) (o : Obj) : (w.alloc o).heap.size = w.heap.size + 1 := by simp
/-- A cell of a block that was made last, behind a call that leaves it. -/
theorem cell_made {W w : World} {cs : Array Value} {t : Nat} (h : Below (W.alloc (.cells cs t)).heap.size (W.alloc (.cells cs t)) w) (i : Nat) (u : Value) (hu : cs[i]? = some u) : w.cell? ⟨W.heap.size, i, none⟩ = some u := by
  rw [((Box.fresh W t cs).below h).cell i, hu]

set_option maxRecDepth 100000 in
set_option maxHeartbeats 4000000 in
theorem refdusts_any (W : World) (a0 a1 a3 ov : Value) (outs : List OutD) (h : OutsR W ov outs) (hl : outs.length ≤ 1000) : Calls Try.prog 37 #[.agg #[a0, a1, ov, a3]] W (IntsP (dustsOf outs) W) := by
  obtain ⟨i0, hi, hz0, hz1, hz2⟩ := info_parts infoInt
  have HI := Kp.mk (And.intro hi (And.intro hz0 (And.intro hz1 hz2)))
  clear hi hz0 hz1 hz2
  have HO := Kp.mk h
  obtain ⟨A, c, rfl, hlc, hlm⟩ := h.slice
  obtain ⟨N, hN⟩ : ∃ N, outs.length = N := ⟨_, rfl⟩
  have HN := Kp.mk hN
  rw [hN] at hl ⊢
  obtain ⟨W1, hW1⟩ : ∃ W1, W.alloc (.cells #[a0, a1, .slice A N c, a3] 26) = W1 := ⟨_, rfl⟩
  have HB1 : Kp (Below W.heap.size W W1) := ⟨by rw [← hW1]; exact (Below.refl _ _).alloc (Nat.le_refl _) _⟩
  have HSZ : Kp (W.heap.size + 1 ≤ W1.heap.size) := ⟨by rw [← hW1, alloc_size1]; exact Nat.le_refl _⟩
  have HSZ2 : Kp (W1.heap.size ≤ W.heap.size + 1) := ⟨by rw [← hW1, alloc_size1]; exact Nat.le_refl _⟩
  have HCL : Kp (∀ wr, Below W1.heap.size W1 wr → wr.cell? ⟨W.heap.size, 2, none⟩ = some (.slice A N c)) := ⟨fun wr hb => by subst hW1; exact cell_made hb 2 _ rfl⟩
  have HW1 := Kp.mk hW1
  clear h hlc hlm hN hW1
  go_enter Try.func37, Try.ntmps37
  go_wp2
  rw [HW1.out]
  go_loopw [3, 4] (fun v i wr => ∃ k : Nat, k ≤ N ∧ i = .int .i64 k ∧ Kp (OwnK .i64 wr (W.heap.size + 1) 3 v (dustsTo outs k) ∧ Below W1.heap.size W1 wr)) (fun _ i _ => N - (intOf i).toNat)
  case atStart => exact ⟨0, Nat.zero_le _, rfl, ⟨OwnK.none .i64 _ _ _, Below.refl _ _⟩⟩
  case round =>
    obtain ⟨k, hk, rfl, H⟩ := hrel
    have hcell := HCL.out wr H.out.2
    by_cases hlt : k < N
    · obtain ⟨hown, hbel⟩ := H.out
      have HLT := Kp.mk (show k < outs.length by have := HN.out; omega)
      have hO := outs_below HO.out (HB1.out.trans (hbel.mono HB1.out.size))
      have hnn := HN.out
      rw [hnn] at hO
      obtain ⟨b, off, cs, rfl, hbl, hcl, hcs, sv, rfl, hv, hrb⟩ := hO.at HLT.out
      have HCS := Kp.mk hcs
      have HAT := Kp.mk (dustAt_get HLT.out)
      generalize outs[k] = d at *
      obtain ⟨x, hx⟩ : ∃ x, d.value = x := ⟨_, rfl⟩
      rw [hx] at HCS HAT
      have HD : Kp (∀ W', Below wr.heap.size wr W' → Calls Try.prog 54 #[.agg #[.int .u64 x, sv]] W' (BoolP (dustAt outs k) W')) := ⟨fun W' hb => by rw [HAT.out]; exact refdust_any W' x sv _ (hrb.below hb)⟩
      have HOWN := Kp.mk hown
      have HB := Kp.mk hbel
      have HK := Kp.mk hlt
      have HIO : Kp ((Try.prog.info? 35).map (·.size) = some 2) := ⟨sizeOut⟩
      have HL := Kp.mk hl
      have HST : Kp (dustsTo outs (k + 1) = dustsTo outs k ++ (if dustAt outs k then [(k : Int)] else [])) := ⟨rfl⟩
      have hkn : (k : Int) < (N : Int) := by omega
      have HLEN := Kp.mk (dustsTo_len outs k)
      have HB4 : Kp (∀ w2 c t, Below wr.heap.size wr w2 → Below W1.heap.size W1 (w2.alloc (.cells c t))) := ⟨fun w2 c t h => (HB.out.trans (h.mono HB.out.size)).alloc (HB.out.trans (h.mono HB.out.size)).size _⟩
      clear hO hbl hcl hcs hv hrb hx hown hbel hnn HAT
      cases hd : dustAt outs k with
      | true =>
        rw [hd] at HD HST
        have HT : Kp (dustsTo outs (k + 1) = dustsTo outs k ++ [(k : Int)]) := ⟨by rw [HST.out]; rfl⟩
        clear hd HST
        go_wp2_with (first | (refine wpList_load_mid rfl 35 (.tmp 15) rfl b (off + k * 2) rfl [.int .u64 x, sv] _ HCS.out Try.underlying35 rfl HIO.out ?_) | (go_at_call 54; refine (HD.out _ (Below.refl _ _)).mono ?_; rintro e w2 ⟨rfl, hb2⟩; have HB3 := Kp.mk hb2; clear hb2) | (at_builtin; refine wpList_append_nums .i64 8 (by omega) rfl (.tmp 18) (.tmp 20) 49 rfl (W.heap.size + 1) 3 i0 Try.underlying49 HI.out.1 HI.out.2.1 HI.out.2.2.1 HI.out.2.2.2 _ (dustsTo outs k) rfl (HOWN.out.below (HB3.out.alloc HB3.out.size _)) _ [(k : Int)] rfl (SlK.fresh .i64 w2 3 [(k : Int)]) (by have := HLEN.out; have := HK.out; have := HL.out; simp only [List.length_singleton]; omega) (Nat.le_trans HSZ.out (HB4.out _ _ _ HB3.out).size) ?_; intro v1 w1 ho1 hg1; have HG1 := Kp.mk ((HOWN.out.below (HB3.out.alloc HB3.out.size _)).grows (HB4.out _ _ _ HB3.out) hg1 HSZ2.out); have HO1 := Kp.mk ho1; clear ho1 hg1))
        go_roundw
        case rel => exact ⟨k + 1, by have := HK.out; omega, by go_num, ⟨by rw [HT.out]; exact HO1.out, HG1.out⟩⟩
        case measure => simp [intOf]; have := HK.out; omega
      | false =>
        rw [hd] at HD HST
        have HT : Kp (dustsTo outs (k + 1) = dustsTo outs k) := ⟨by rw [HST.out]; simp⟩
        clear hd HST
        go_wp2_with (first | (refine wpList_load_mid rfl 35 (.tmp 15) rfl b (off + k * 2) rfl [.int .u64 x, sv] _ HCS.out Try.underlying35 rfl HIO.out ?_) | (go_at_call 54; refine (HD.out _ (Below.refl _ _)).mono ?_; rintro e w2 ⟨rfl, hb2⟩; have HB3 := Kp.mk hb2; clear hb2))
        go_roundw
        case rel => exact ⟨k + 1, by have := HK.out; omega, by go_num, ⟨by rw [HT.out]; exact HOWN.out.below HB3.out, HB.out.trans (HB3.out.mono HB.out.size)⟩⟩
        case measure => simp [intOf]; have := HK.out; omega
    · obtain ⟨hown, hbel⟩ := H.out
      obtain rfl : k = N := by omega
      have HD : Kp (dustsOf outs = dustsTo outs k) := ⟨by rw [← HN.out]; rfl⟩
      have HOWN := Kp.mk hown
      have HB := Kp.mk hbel
      clear hown hbel
      go_wp2
      go_ret
      exact ⟨_, rfl, by rw [HD.out]; exact HOWN.out.less (Nat.le_succ _), HB1.out.trans (HB.out.mono HB1.out.size)⟩
end

end Go.Proofs.Ytbnclajhgkjopaa
