/- The rows of scripts of the law ClasTells: a region whose order is drawn, by states. -/
import Derived.Test.YtpmfhjeeiilnjaaClF
import Derived.Test.YtpmfhjeeiilnjaaClT
import Derived.Maps.AppendAt
import Derived.Deep.RegionHeld3
namespace Go.Proofs.Ytpmfhjeeiilnjaa
open Go.RowKit

/-- A region whose order is drawn, by states: each operation that may come up leads to a state of less rank. -/
theorem wpAnyH_states {P : Program} {md : Region.Mode} {ops : Array Oper} {Q : Exit → Act → World → Prop} {S : World → Prop} {σ : Type} (lst : σ → Array Bool) (rank : σ → Nat) (rd : σ → List Nat) (V : σ → Prop) (I : σ → Act → World → Prop)
    (hrd : ∀ s, V s → Region.ready md ops (lst s) = rd s) (h0 : ∀ s, V s → rank s = 0 → rd s = [])
    (hstep : ∀ s a w, V s → I s a w → ∀ i ∈ rd s, wpOp P ops Q i (fun a' w' => S w' ∧ ∃ s', V s' ∧ lst s' = (lst s).setIfInBounds i true ∧ rank s' < rank s ∧ I s' a' w') a w)
    (hdone : ∀ s a w, V s → I s a w → rd s = [] → Q .normal a w) :
    ∀ fuel s a w, V s → rank s ≤ fuel → I s a w → wpAnyH P md ops Q S fuel (lst s) a w
  | 0, s, a, w, hV, hr, hI => ⟨by rw [hrd s hV]; exact h0 s hV (by omega), hdone s a w hV hI (h0 s hV (by omega))⟩
  | fuel + 1, s, a, w, hV, hr, hI => ⟨fun h => hdone s a w hV hI (by rw [← hrd s hV]; exact h), fun i hi => wpOp_mono (fun a' w' h => by
      obtain ⟨hS, s', hV', hl, hk, hI'⟩ := h
      refine ⟨hS, ?_⟩
      rw [← hl]
      exact wpAnyH_states lst rank rd V I hrd h0 hstep hdone fuel s' a' w' hV' (by omega) hI') (hstep s a w hV hI i (by rw [← hrd s hV]; exact hi))⟩
/-- One operation without a guard. -/
theorem wpOp_one {P : Program} {ops : Array Oper} {Q : Exit → Act → World → Prop} {K : Act → World → Prop} {a : Act} {w : World} {i : Nat} {o : Oper} (ho : ops[i]? = some o) (hg : o.guard = none) (h : Oper.wp P o a w K Q) : wpOp P ops Q i K a w := by
  refine wpOp_step ho fun K' hK => ?_
  have hw : Region.wanted o (yielded ops a.tmps) = true := by simp [Region.wanted, hg]
  rw [if_pos hw]
  exact Oper.wp_mono hK h

theorem madeCells_bytes (n : Nat) : madeCells #[.int .u8 0] n = (List.replicate n (Value.int .u8 0)).toArray := by
  apply Array.ext
  · simp [size_madeCells]
  · intro i h1 h2
    simp [madeCells, Nat.mod_one]
set_option maxRecDepth 100000 in
theorem make_zeros {n : Nat} (hn : n ≤ 2000) (W : World) : (Instr.makeSlice 30 (.int .i64 (n : Int)) (.int .i64 (n : Int))).run Try.prog W = .ok (.slice (some ⟨W.heap.size, 0, none⟩) n n) (W.alloc (.cells (byteVals (zeros n)).toArray 5)) := by
  obtain ⟨i0, hi, hz0, hz1, hz2⟩ := info_parts infoByte
  have hr := run_make (P := Try.prog) W 30 5 i0 _ Try.underlying30 hi hz0 .i64 .i64 (n : Int) (n : Int) (by omega) (by omega) (by rw [hz2]; omega) (by omega)
  rw [hz1, show (n : Int).toNat = n from by omega, Nat.mul_one] at hr
  rw [hr]
  have : byteVals (zeros n) = List.replicate n (Value.int .u8 0) := by unfold byteVals zeros; rw [List.map_replicate]
  rw [this, ← madeCells_bytes]
  rfl
set_option maxRecDepth 100000 in
theorem op_script {Q : Exit → Act → World → Prop} {K : Act → World → Prop} {a : Act} {w : World} (n : Int) (hn : -9223372036854775808 ≤ n ∧ n ≤ 9223372036854775807) {d : Nat} {ty : TypeId} {ps : String} {af : Array Edge} (x : Nat)
    (hx : a.tmps.getD x undef = .int .i64 n)
    (h : ∀ v w', RbF w' w.heap.size v (scriptOf n) → Below w.heap.size w w' → K (a.put (some d) v) w') : Oper.wp Try.prog { dst := some d, op := .call { callee := .value (.func 7), args := #[.tmp x], argTypes := #[3] }, type := ty, pos := ps, after := af, guard := none } a w K Q := by
  have hc := Kp.mk (script_any w n hn)
  go_simp
  refine hc.out.mono ?_
  rintro e w' ⟨v, rfl, hf, hb⟩
  exact h v w' hf hb
set_option maxRecDepth 100000 in
theorem op_empty {Q : Exit → Act → World → Prop} {K : Act → World → Prop} {a : Act} {w : World} {d : Nat} {ty : TypeId} {ps : String} {af : Array Edge}
    (h : K (a.put (some d) (.slice (some ⟨w.heap.size, 0, none⟩) 0 0)) (w.alloc (.cells #[] 5))) : Oper.wp Try.prog { dst := some d, op := .buildSlice 30 0 #[], type := ty, pos := ps, after := af, guard := none } a w K Q := by
  go_simp
  exact h
set_option maxRecDepth 100000 in
theorem op_single {Q : Exit → Act → World → Prop} {K : Act → World → Prop} {a : Act} {w : World} {d : Nat} {ty : TypeId} {ps : String} {af : Array Edge}
    (h : K (a.put (some d) (.slice (some ⟨w.heap.size, 0, none⟩) 1 1)) (w.alloc (.cells #[.int .u8 106] 5))) : Oper.wp Try.prog { dst := some d, op := .buildSlice 30 1 #[(0, .const (.int .u8 106))], type := ty, pos := ps, after := af, guard := none } a w K Q := by
  go_simp
  exact h
set_option maxRecDepth 100000 in
theorem op_made {Q : Exit → Act → World → Prop} {K : Act → World → Prop} {a : Act} {w : World} {d : Nat} {ty : TypeId} {ps : String} {af : Array Edge} (x k : Nat) (hx : a.tmps.getD x undef = .int .i64 (k : Int)) (hk : k ≤ 2000)
    (h : K (a.put (some d) (.slice (some ⟨w.heap.size, 0, none⟩) k k)) (w.alloc (.cells (byteVals (zeros k)).toArray 5))) : Oper.wp Try.prog { dst := some d, op := .makeSlice 30 (.tmp x) (.tmp x), type := ty, pos := ps, after := af, guard := none } a w K Q := by
  have hm := make_zeros hk w
  go_simp
  exact h
set_option maxRecDepth 100000 in
theorem op_rows {Q : Exit → Act → World → Prop} {K : Act → World → Prop} {a : Act} {w : World} {d : Nat} {ty : TypeId} {ps : String} {af : Array Edge} (x0 x1 x2 x3 x4 : Nat) (A0 A1 A2 A3 A4 : Option Addr) (n0 n1 n2 n3 n4 c0 c1 c2 c3 c4 : Nat)
    (h0 : a.tmps[x0]?.getD undef = .slice A0 n0 c0) (h1 : a.tmps[x1]?.getD undef = .slice A1 n1 c1) (h2 : a.tmps[x2]?.getD undef = .slice A2 n2 c2) (h3 : a.tmps[x3]?.getD undef = .slice A3 n3 c3) (h4 : a.tmps[x4]?.getD undef = .slice A4 n4 c4)
    (h : K (a.put (some d) (.slice (some ⟨w.heap.size, 0, none⟩) 5 5)) (w.alloc (.cells #[.slice A0 n0 c0, .slice A1 n1 c1, .slice A2 n2 c2, .slice A3 n3 c3, .slice A4 n4 c4] 30))) : Oper.wp Try.prog { dst := some d, op := .buildSlice 42 5 #[(0, .tmp x0), (1, .tmp x1), (2, .tmp x2), (3, .tmp x3), (4, .tmp x4)], type := ty, pos := ps, after := af, guard := none } a w K Q := by
  go_simp
  exact h
set_option maxRecDepth 100000 in
theorem op_len {Q : Exit → Act → World → Prop} {K : Act → World → Prop} {a : Act} {w : World} {d : Nat} {ty : TypeId} {ps : String} {af : Array Edge} (x : Nat) (A : Option Addr) (n c : Nat) (hx : a.tmps.getD x undef = .slice A n c)
    (h : K (a.put (some d) (.int .i64 (n : Int))) w) : Oper.wp Try.prog { dst := some d, op := .call { callee := .builtin .len, args := #[.tmp x], argTypes := #[42] }, type := ty, pos := ps, after := af, guard := none } a w K Q := by
  go_simp
  exact h

/-- append onto a row of the call's own; where the new row lies. -/
theorem op_append {Q : Exit → Act → World → Prop} {K : Act → World → Prop} {a : Act} {w : World} {d : Nat} {ty : TypeId} {ps : String} {af : Array Edge} (x y : Nat) (B : Nat) (v u : Value) (l k : List Int)
    (hx : a.tmps.getD x undef = v) (hy : a.tmps.getD y undef = u) (hown : Own w B 5 v l) (hsl : Rb w u k) (h47 : l.length + k.length ≤ 140737488355328) (hB : B ≤ w.heap.size)
    (h : ∀ v' w', Own w' B 5 v' (l ++ k) → w.grownBy w' v.ownBlock → (v'.ownBlock = v.ownBlock ∨ v'.ownBlock = some w.heap.size) → K (a.put (some d) v') w') :
    Oper.wp Try.prog { dst := some d, op := .call { callee := .builtin .append, args := #[.tmp x, .tmp y], argTypes := #[30, 30] }, type := ty, pos := ps, after := af, guard := none } a w K Q := by
  obtain ⟨i0, hi, hz0, hz1, hz2⟩ := info_parts infoByte
  obtain ⟨⟨A, c, rfl, hc, hn, hr⟩, hy2, hm⟩ := hsl
  cases A with
  | none =>
    have hk : k = [] := by
      by_cases h0 : k = []
      · exact h0
      · obtain ⟨_, _, he, _⟩ := hr h0
        cases he
    subst hk
    have hc0 := hn rfl
    subst hc0
    have hrn := run_append_owned_none (P := Try.prog) (w := w) B 30 ty 5 i0 1 Try.underlying30 hi v l.length (byteVals l) hown
    have hx' : a.eval (.tmp x) = v := hx
    have hy' : a.eval (.tmp y) = .slice none 0 0 := hy
    unfold Oper.wp execOp
    simp only [resolve, invoke, builtin, Sem.run_bind, Sem.run_pure, Result.andThen_ok, List.map_toArray, List.map_cons, List.map_nil, hx', hy', hrn]
    exact h v w (by simpa using hown) (World.grownBy.refl w _) (.inl rfl)
  | some ad =>
    have hnews : ∀ j u, (byteVals k)[j]? = some u → w.cell? (ad.add j) = some u := by
      intro j u hu
      obtain ⟨hj, rfl⟩ := byteVals_at k j u hu
      obtain ⟨b, off, he, _, _, hrun⟩ := hr (by rintro rfl; simp at hj)
      injection he with he
      subst he
      rw [← hrun j hj]
      by_cases h0 : j = 0 <;> simp [Addr.add, h0]
    obtain ⟨v', w', hrn, h2, h3, _, h5⟩ := run_append_own_at (P := Try.prog) w B 30 ty 5 i0 (.int .u8 0) 1 1 Try.underlying30 hi hz0 hz1 hz2 rfl (by decide) v l.length (byteVals l) hown ad k.length c (byteVals k) (by simp [byteVals]) hnews (byteVals_one k) (by unfold maxLen; omega) (by omega) hB
    have hx' : a.eval (.tmp x) = v := hx
    have hy' : a.eval (.tmp y) = .slice (some ad) k.length c := hy
    unfold Oper.wp execOp
    simp only [resolve, invoke, builtin, Sem.run_bind, Sem.run_pure, Result.andThen_ok, List.map_toArray, List.map_cons, List.map_nil, hx', hy', hrn]
    exact h v' w' (by simpa [Own, byteVals] using h2) h3 h5

/-- What grows by a row of the call's own leaves all that was there ahead of the call. -/
theorem ownsRow_grows {w0 w w' : World} {B e k n : Nat} {v : Value} {xs : List Value} (ho : w.ownsRow B e k v n xs) (hb : Below w0.heap.size w0 w) (hg : w.grownBy w' v.ownBlock) (h0 : w0.heap.size ≤ B) : Below w0.heap.size w0 w' := by
  refine ⟨hg.os.trans hb.os, hg.tape.trans hb.tape, hg.output.trans hb.output, Nat.le_trans hb.size hg.size, fun j hj => (hg.block j (Nat.lt_of_lt_of_le hj hb.size) ?_).trans (hb.block j hj)⟩
  have h2 := ho.2
  rcases h2 with ⟨rfl, _⟩ | ⟨g, cap, cur, rfl, hbg, _⟩
  · simp [Value.ownBlock]
  · simp [Value.ownBlock]; omega
/-- The row v' lies apart from the block of the row v. -/
def Off (w : World) (v v' : Value) (l : List Int) : Prop := ∀ g, v.ownBlock = some g → Sl w g v' l
theorem Off.below {w w' : World} {v v' : Value} {l : List Int} (h : Off w v v' l) (hb : Below w.heap.size w w') : Off w' v v' l := fun g hg => (h g hg).below hb
theorem sl_any {w w' : World} {g : Nat} {v : Value} {l : List Int} (h : Sl w g v l) (hk : Only g w w') (g' : Nat) (hg : g' = g ∨ w.heap.size ≤ g') : Sl w' g' v l := by
  obtain ⟨A, c, rfl, hc, hn, hr⟩ := h
  refine ⟨A, c, rfl, hc, hn, fun hl => ?_⟩
  obtain ⟨b, off, rfl, hb, hlt, hrun⟩ := hr hl
  exact ⟨b, off, rfl, by rcases hg with rfl | hg; exact hb; omega, Nat.lt_of_lt_of_le hlt hk.size, fun i hi => (World.cell?_of_block (hk.block b hlt (by simpa using hb))).trans (hrun i hi)⟩
/-- A block without cells holds no row. -/
theorem sl_empty {w : World} {g t : Nat} {v : Value} {l : List Int} (h : Rb w v l) (hx : Box w g t #[]) : Sl w g v l := by
  obtain ⟨⟨A, c, rfl, hc, hn, hr⟩, _⟩ := h
  refine ⟨A, c, rfl, hc, hn, fun hl => ?_⟩
  obtain ⟨b, off, rfl, hb, hlt, hrun⟩ := hr hl
  refine ⟨b, off, rfl, fun e => ?_, hlt, hrun⟩
  subst e
  have h0 := hrun 0 (List.length_pos_iff.2 hl)
  rw [hx.cell] at h0
  simp at h0
theorem Rb.of_sl {w : World} {g : Nat} {v : Value} {l : List Int} (h : Sl w g v l) (hy : Bys l) (hm : l.length ≤ maxLen) : Rb w v l := by
  obtain ⟨A, c, rfl, hc, hn, hr⟩ := h
  refine ⟨⟨A, c, rfl, hc, hn, fun hl => ?_⟩, hy, hm⟩
  obtain ⟨b, off, rfl, hb, hlt, hrun⟩ := hr hl
  exact ⟨b, off, rfl, Nat.ne_of_lt hlt, hlt, hrun⟩
theorem rb_grown {w w' : World} {v u : Value} {l : List Int} (h : Rb w u l) (ho : Off w v u l) (hg : w.grownBy w' v.ownBlock) : Rb w' u l := by
  cases hv : v.ownBlock with
  | none =>
    rw [hv] at hg
    exact h.below ⟨hg.os, hg.tape, hg.output, hg.size, fun k hk => hg.block k hk (by simp)⟩
  | some g =>
    rw [hv] at hg
    exact Rb.of_sl (sl_any (ho g hv) hg g (.inl rfl)) h.2.1 h.2.2
set_option maxRecDepth 100000 in
theorem rows_five (w : World) (A0 A1 A2 A3 A4 : Option Addr) (n0 n1 n2 n3 n4 c0 c1 c2 c3 c4 : Nat) (l0 l1 l2 l3 l4 : List Int) (h0 : Rb w (.slice A0 n0 c0) l0) (h1 : Rb w (.slice A1 n1 c1) l1) (h2 : Rb w (.slice A2 n2 c2) l2) (h3 : Rb w (.slice A3 n3 c3) l3) (h4 : Rb w (.slice A4 n4 c4) l4) :
    Rws (w.alloc (.cells #[.slice A0 n0 c0, .slice A1 n1 c1, .slice A2 n2 c2, .slice A3 n3 c3, .slice A4 n4 c4] 30)) (.slice (some ⟨w.heap.size, 0, none⟩) 5 5) [l0, l1, l2, l3, l4] := by
  have hb : Below w.heap.size w (w.alloc (.cells #[.slice A0 n0 c0, .slice A1 n1 c1, .slice A2 n2 c2, .slice A3 n3 c3, .slice A4 n4 c4] 30)) := (Below.refl _ _).alloc (Nat.le_refl _) _
  have hx := Box.fresh w 30 #[.slice A0 n0 c0, .slice A1 n1 c1, .slice A2 n2 c2, .slice A3 n3 c3, .slice A4 n4 c4]
  have one : ∀ (i : Nat) (u : Value), (#[.slice A0 n0 c0, .slice A1 n1 c1, .slice A2 n2 c2, .slice A3 n3 c3, .slice A4 n4 c4] : Array Value)[i]? = some u → (w.alloc (.cells #[.slice A0 n0 c0, .slice A1 n1 c1, .slice A2 n2 c2, .slice A3 n3 c3, .slice A4 n4 c4] 30)).rangeAt w.heap.size (0 + i * 1) [u] := fun i u hu => by
    intro j z hj
    match j, hj with
    | 0, hj => rw [← hj, hx.cell]; simpa using hu
    | j + 1, hj => simp at hj
  refine ⟨_, _, rfl, Nat.le_refl _, by unfold maxLen; omega, (fun h => by cases h), fun _ => ⟨w.heap.size, 0, rfl, hx.lt, fun i d hd => ?_⟩⟩
  match i, hd with
  | 0, hd => obtain rfl := Option.some.inj hd; exact ⟨[_], rfl, one 0 _ rfl, _, rfl, h0.below hb⟩
  | 1, hd => obtain rfl := Option.some.inj hd; exact ⟨[_], rfl, one 1 _ rfl, _, rfl, h1.below hb⟩
  | 2, hd => obtain rfl := Option.some.inj hd; exact ⟨[_], rfl, one 2 _ rfl, _, rfl, h2.below hb⟩
  | 3, hd => obtain rfl := Option.some.inj hd; exact ⟨[_], rfl, one 3 _ rfl, _, rfl, h3.below hb⟩
  | 4, hd => obtain rfl := Option.some.inj hd; exact ⟨[_], rfl, one 4 _ rfl, _, rfl, h4.below hb⟩
  | i + 5, hd => simp at hd

/-- What is known when c of the chain, and of the three others those that are marked, have come up. -/
structure RowsSt (w0 : World) (L raw : List Int) (k : Nat) (s : Nat × Bool × Bool × Bool) (u30 u31 u33 u34 u36 u37 u40 u41 u42 : Value) (w : World) : Prop where
  hb : Below w0.heap.size w0 w
  h30 : 1 ≤ s.1 → Rb w u30 L
  h33 : s.1 = 2 → Rb w u33 L
  h31 : s.2.1 = true → s.1 ≤ 2 → ∃ g, u31 = .slice (some ⟨g, 0, none⟩) 0 0 ∧ Box w g 5 #[] ∧ w0.heap.size ≤ g
  h34 : s.1 = 3 → Own w w0.heap.size 5 u34 L ∧ Off w u34 u30 L ∧ (s.2.2.1 = true → Off w u34 u37 [106]) ∧ (s.2.2.2 = true → Off w u34 u40 (zeros k))
  h36 : 4 ≤ s.1 → Rb w u36 (L ++ raw)
  h37 : s.2.2.1 = true → Rb w u37 [106]
  h40 : s.2.2.2 = true → Rb w u40 (zeros k)
  h41 : 5 ≤ s.1 → ∃ g, u41 = .slice (some ⟨g, 0, none⟩) 5 5 ∧ Rws w u41 [raw, L, L ++ raw, [106], zeros k]
  h42 : 6 ≤ s.1 → u42 = .int .i64 5
def RowsV (s : Nat × Bool × Bool × Bool) : Prop := s.1 ≤ 6 ∧ (3 ≤ s.1 → s.2.1 = true) ∧ (5 ≤ s.1 → s.2.2.1 = true ∧ s.2.2.2 = true)
def rowsLst (s : Nat × Bool × Bool × Bool) : Array Bool := #[true, true, decide (1 ≤ s.1), s.2.1, true, decide (2 ≤ s.1), decide (3 ≤ s.1), true, decide (4 ≤ s.1), s.2.2.1, true, true, s.2.2.2, decide (5 ≤ s.1), decide (6 ≤ s.1), true]
def rowsRank (s : Nat × Bool × Bool × Bool) : Nat := (6 - s.1) + (if s.2.1 then 0 else 1) + (if s.2.2.1 then 0 else 1) + (if s.2.2.2 then 0 else 1)
def rowsCond (s : Nat × Bool × Bool × Bool) : Nat → Bool
  | 2 => decide (s.1 = 0)
  | 3 => !s.2.1
  | 5 => decide (s.1 = 1)
  | 6 => decide (s.1 = 2) && s.2.1
  | 8 => decide (s.1 = 3)
  | 9 => !s.2.2.1
  | 12 => !s.2.2.2
  | 13 => decide (s.1 = 4) && s.2.2.1 && s.2.2.2
  | 14 => decide (s.1 = 5)
  | _ => false
def rowsRd (s : Nat × Bool × Bool × Bool) : List Nat := [2, 3, 5, 6, 8, 9, 12, 13, 14].filter (rowsCond s)
theorem RowsSt.mono {w0 : World} {L raw : List Int} {k : Nat} {s : Nat × Bool × Bool × Bool} {u30 u31 u33 u34 u36 u37 u40 u41 u42 : Value} {w w' : World} (h : RowsSt w0 L raw k s u30 u31 u33 u34 u36 u37 u40 u41 u42 w) (hb : Below w.heap.size w w') :
    RowsSt w0 L raw k s u30 u31 u33 u34 u36 u37 u40 u41 u42 w' where
  hb := h.hb.trans (hb.mono h.hb.size)
  h30 := fun e => (h.h30 e).below hb
  h33 := fun e => (h.h33 e).below hb
  h31 := fun e1 e2 => by obtain ⟨g, h1, h2, h3⟩ := h.h31 e1 e2; exact ⟨g, h1, h2.below hb, h3⟩
  h34 := fun e => by obtain ⟨h1, h2, h3, h4⟩ := h.h34 e; exact ⟨h1.below hb, h2.below hb, fun e => (h3 e).below hb, fun e => (h4 e).below hb⟩
  h36 := fun e => (h.h36 e).below hb
  h37 := fun e => (h.h37 e).below hb
  h40 := fun e => (h.h40 e).below hb
  h41 := fun e => by obtain ⟨g, h1, h2⟩ := h.h41 e; exact ⟨g, h1, rws_below h2 hb⟩
  h42 := h.h42
theorem rows_done {s : Nat × Bool × Bool × Bool} (hV : RowsV s) (h : rowsRd s = []) : 6 ≤ s.1 := by
  obtain ⟨c, b, x, y⟩ := s
  obtain ⟨h1, h2, h3⟩ := hV
  have : c = 0 ∨ c = 1 ∨ c = 2 ∨ c = 3 ∨ c = 4 ∨ c = 5 ∨ c = 6 := by simp only at h1; omega
  rcases this with rfl | rfl | rfl | rfl | rfl | rfl | rfl <;> cases b <;> cases x <;> cases y <;> simp_all [rowsRd, rowsCond]
theorem rows_rank0 {s : Nat × Bool × Bool × Bool} (hV : RowsV s) (h : rowsRank s = 0) : rowsRd s = [] := by
  obtain ⟨c, b, x, y⟩ := s
  obtain ⟨h1, h2, h3⟩ := hV
  have : c = 0 ∨ c = 1 ∨ c = 2 ∨ c = 3 ∨ c = 4 ∨ c = 5 ∨ c = 6 := by simp only at h1; omega
  rcases this with rfl | rfl | rfl | rfl | rfl | rfl | rfl <;> cases b <;> cases x <;> cases y <;> simp_all [rowsRd, rowsCond, rowsRank]
end Go.Proofs.Ytpmfhjeeiilnjaa
