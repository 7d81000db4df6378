/- Transactions read one behind the other; without their witnesses they have the bytes of their base. No program. append onto an empty row without room: a new block. Witnesses taken away, one input behind the other. No program. What stays when one cell of another row is turned: rows of bytes keep their lengths. No program. append of one element onto a row of the call's own: what else stays. -/
import Derived.Test.YtdemamipllfonaaGe
import Derived.Deep.AppendSrc
namespace Go.Proofs.Ytdemamipllfonaa

section
open Go.RowKit

theorem bytesOf_enc {t : TxD} (h : MayF t) : bytesOf t = encTx t (witT t) := if_pos ((mayB_iff t).2 h)
theorem baseOf_enc {t : TxD} (h : MayF t) : baseOf t = encTx t false := if_pos ((mayB_iff t).2 h)
theorem pRead_back (t : TxD) (rest : List Int) (hm : MayF t) (hf : TxFit t) : pRead (bytesOf t ++ rest) false = ((t, true), rest, false) := by
  unfold pRead
  rw [bytesOf_enc hm, pTx_back t rest hm hf]
  rfl
/-- Without its witnesses. -/
def stripT (t : TxD) : TxD := { t with ins := t.ins.map strip }
theorem stripT_may {t : TxD} (h : MayF t) : MayF (stripT t) := by
  refine ⟨by simpa [stripT] using h.i1, by simpa [stripT] using h.i50, h.o1, h.o50, fun d hd => ?_, fun d hd => ?_, fun d hd x hx => ?_, h.osc⟩
  all_goals
    obtain ⟨d', hd', rfl⟩ := List.mem_map.1 hd
  · exact h.isc d' hd'
  · exact Nat.zero_le _
  · cases hx
theorem stripT_wit (t : TxD) : witT (stripT t) = false := by
  unfold witT stripT
  simp only [List.any_map, List.any_eq_false]
  intro d _
  simp [strip, witB]
theorem stripT_bytes {t : TxD} (h : MayF t) : bytesOf (stripT t) = baseOf t := by
  rw [bytesOf_enc (stripT_may h), stripT_wit, baseOf_enc h]
  unfold encTx
  have h1 : flat encIn (stripT t).ins = flat encIn t.ins := by
    unfold flat stripT
    simp only [List.map_map]
    rfl
  rw [h1]
  simp [stripT]
/-- With witnesses the bytes are others than those of the base. -/
theorem bytes_base {t : TxD} (h : MayF t) : decide (bytesOf t = baseOf t) = !witT t := by
  rw [bytesOf_enc h, baseOf_enc h]
  cases hw : witT t with
  | false => simp
  | true =>
    have hne : ¬ encTx t true = encTx t false := fun e => by
      have := congrArg List.length e
      unfold encTx at this
      simp at this
      omega
    simp [hne]
theorem bytes_same {a b : TxD} (ha : MayF a) (hb : MayF b) (fa : TxFit a) (fb : TxFit b) : decide (bytesOf a = bytesOf b) = decide (a = b) := by
  rw [Bool.eq_iff_iff]
  simp only [decide_eq_true_eq]
  exact ⟨bytesOf_inj a b ha hb fa fb, fun e => by rw [e]⟩

theorem flatten_set2 {k : Nat} : ∀ (css : List (List Value)) (i j : Nat) (u : Value), (∀ c ∈ css, c.length = k) → j < k → i < css.length → css.flatten.set (i * k + j) u = (css.set i ((css.getD i []).set j u)).flatten
  | [], i, j, u, _, _, h => by simp at h
  | c :: r, 0, j, u, hk, hj, _ => by
    have hc : c.length = k := hk c (by simp)
    simp only [List.flatten_cons, Nat.zero_mul, Nat.zero_add, List.set_cons_zero, List.getD_cons_zero]
    rw [List.set_append, if_pos (by omega)]
  | c :: r, i + 1, j, u, hk, hj, hi => by
    have hc : c.length = k := hk c (by simp)
    simp only [List.length_cons] at hi
    simp only [List.flatten_cons, List.set_cons_succ, List.getD_cons_succ]
    rw [List.set_append, if_neg (by rw [hc, Nat.succ_mul]; omega), hc, show (i + 1) * k + j - k = i * k + j by rw [Nat.succ_mul]; omega,
      flatten_set2 r i j u (fun c hc => hk c (List.mem_cons_of_mem _ hc)) hj (by omega)]
section
set_option maxRecDepth 100000
variable {w : World} {B : Nat}
/-- One cell of one element turned. -/
theorem OwnMany.cellSet {α : Type} {k e gi c i j : Nat} {R R' : List Value → α → Prop} {ds : List α} (h : OwnMany k e R w B (.slice (some ⟨gi, 0, none⟩) ds.length c) ds) (hi : i < ds.length) (hj : j < k) (u : Value) (d' : α)
    (hR : ∀ cs d, R cs d → R' cs d) (hd : ∀ cs, cs.length = k → R cs ds[i] → R' (cs.set j u) d') :
    OwnMany k e R' (w.setCell ⟨gi, i * k + j, none⟩ u) B (.slice (some ⟨gi, 0, none⟩) ds.length c) (ds.set i d') := by
  obtain ⟨css, ho, hcl, hlen, hr⟩ := h.lens
  have hci : i < css.length := by omega
  have hb : i * k + j < ds.length * k := Nat.lt_of_lt_of_le (Nat.add_lt_add_left hj _) (by rw [← Nat.succ_mul]; exact Nat.mul_le_mul_right k hi)
  refine ⟨css.set i ((css.getD i []).set j u), ?_, by simp [hcl], fun q cs d h1 h2 => ?_⟩
  · rw [← flatten_set2 css i j u hlen hj hci, List.length_set]
    rcases ho.2 with ⟨h0, hn⟩ | ⟨g, cap, cur, hv, hB, hx, hc, hm, hs, ht⟩
    · cases h0
    · injection hv with hv1 hv2 hv3
      injection hv1 with hv1
      injection hv1 with hv1
      subst hv1
      subst hv3
      refine ⟨by rw [List.length_set]; exact ho.1, .inr ⟨gi, c, _, rfl, hB, Box.set hx _ _, hc, hm, by rw [Array.size_setIfInBounds]; exact hs, ?_⟩⟩
      rw [Array.toList_setIfInBounds, List.take_set, ht]
  · rw [List.getElem?_set] at h1 h2
    by_cases hq : i = q
    · subst hq
      rw [if_pos rfl, if_pos hci] at h1
      rw [if_pos rfl, if_pos hi] at h2
      injection h1 with h1
      injection h2 with h2
      subst h1
      subst h2
      have hcs : css[i]? = some css[i] := List.getElem?_eq_getElem hci
      have hg : css.getD i [] = css[i] := by rw [List.getD_eq_getElem?_getD, hcs]; rfl
      rw [hg]
      exact ⟨by rw [List.length_set]; exact hlen _ (List.getElem_mem hci), hd _ (hlen _ (List.getElem_mem hci)) (hr i _ _ hcs (List.getElem?_eq_getElem hi))⟩
    · rw [if_neg hq] at h1 h2
      exact ⟨hlen _ (List.mem_of_getElem? h1), hR _ _ (hr q cs d h1 h2)⟩
/-- A row with elements lies in a block of its own. -/
theorem OwnMany.box {α : Type} {k e : Nat} {R : List Value → α → Prop} {v : Value} {ds : List α} (h : OwnMany k e R w B v ds) (hl : 0 < ds.length) :
    ∃ gi c, v = .slice (some ⟨gi, 0, none⟩) ds.length c ∧ ds.length ≤ c ∧ B ≤ gi ∧ gi < w.heap.size ∧ ∃ C, Box w gi e C := by
  obtain ⟨css, ho, hcl, hlen, hr⟩ := h.lens
  rcases ho.2 with ⟨_, hn⟩ | ⟨g, cap, cur, rfl, hB, hx, hc, hm, hs, ht⟩
  · omega
  · exact ⟨g, cap, rfl, hc, hB, Box.lt hx, cur, hx⟩
/-- One cell of one element. -/
theorem OwnMany.cell {α : Type} {k e gi c i j : Nat} {R : List Value → α → Prop} {ds : List α} (h : OwnMany k e R w B (.slice (some ⟨gi, 0, none⟩) ds.length c) ds) (hi : i < ds.length) (hj : j < k) :
    ∃ cs, cs.length = k ∧ R cs ds[i] ∧ w.cell? ⟨gi, i * k + j, none⟩ = cs[j]? ∧ w.frozen? ⟨gi, i * k + j, none⟩ = false := by
  obtain ⟨css, ho, hcl, hlen, hr⟩ := h.lens
  have hci : i < css.length := by omega
  have hcs : css[i]? = some css[i] := List.getElem?_eq_getElem hci
  have hb : i * k + j < ds.length * k := Nat.lt_of_lt_of_le (Nat.add_lt_add_left hj _) (by rw [← Nat.succ_mul]; exact Nat.mul_le_mul_right k hi)
  rcases ho.2 with ⟨h0, hn⟩ | ⟨g, cap, cur, hv, hB, hx, hc, hm, hs, ht⟩
  · cases h0
  · injection hv with hv1 hv2 hv3
    injection hv1 with hv1
    injection hv1 with hv1
    subst hv1
    refine ⟨css[i], hlen _ (List.getElem_mem hci), hr i _ _ hcs (List.getElem?_eq_getElem hi), ?_, Box.warm hx _⟩
    have h1 := flatten_at css i j _ hlen hcs hj
    rw [← ht, List.getElem?_take, if_pos hb] at h1
    rw [Box.cell hx, ← h1]
    simp
end
end

section
open Go.RowKit

set_option maxRecDepth 100000 in
theorem run_append_fresh {w : World} {ty : TypeId} {q : Nat} {u : Value} {k : List Int} {g : Nat} (hsl : Sl w g u k) (hk : 0 < k.length) (h47 : k.length ≤ 1000000) :
    ∃ v' w', (Builtin.append_ #[55, 55] ty #[.slice (some ⟨q, 0, none⟩) 0 0, u]).run Try.prog w = .ok v' w' ∧ Own w' w.heap.size 5 v' k ∧ Below w.heap.size w w' := by
  obtain ⟨i0, hi, hz0, hz1, hz2⟩ := info_parts infoByte
  obtain ⟨A, c, rfl, hc, hn, hr⟩ := hsl
  obtain ⟨b, off, rfl, hb, hlt, hrun⟩ := hr (fun e => by rw [e] at hk; exact absurd hk (Nat.lt_irrefl 0))
  have hge := grownCap_ge w (0 + k.length) 0 5
  have hcm : grownCap w (0 + k.length) 0 5 ≤ maxLen := grownCap_le_maxLen w (0 + k.length) 0 5 (by unfold maxLen; omega)
  have hsrc : Src Try.prog i0.size 55 (.slice (some ⟨b, off, none⟩) k.length c) k.length (byteVals k) w := by
    refine Src.ofSlice w Try.underlying55 ⟨b, off, none⟩ k.length c (byteVals k) (by rw [hz1]; simp [byteVals]) (fun j v hj => ?_) (byteVals_one k)
    obtain ⟨hjl, rfl⟩ := byteVals_at k j v hj
    have : (⟨b, off, none⟩ : Addr).add j = ⟨b, off + j, none⟩ := by unfold Addr.add; split <;> simp_all
    rw [this]
    exact hrun j hjl
  have hrn := run_append_grow_src (P := Try.prog) w 55 55 ty 5 i0 _ Try.underlying55 hi hz0 (some ⟨q, 0, none⟩) 0 0 [] (run_firstCells_some (P := Try.prog) w.drew i0.size 0 ⟨q, 0, none⟩ 0 0 [] (by simp) (fun j u hj => by simp at hj)) _ k.length (byteVals k) hsrc (by omega) (by omega) (by
    rw [hz2]
    have : ¬ (281474976710656 < Builtin.nextslicecap (0 + k.length) 0) := by
      unfold Builtin.nextslicecap
      split
      · omega
      · split <;> omega
    omega)
  refine ⟨_, _, hrn, ?_, (Below.refl _ _).drew.alloc (Nat.le_refl _) _⟩
  rw [zeroCells_u8, List.nil_append, Nat.zero_add]
  rw [Nat.zero_add] at hge hcm
  refine ⟨by simp [byteVals], .inr ⟨w.heap.size, _, _, rfl, Nat.le_refl _, heap_alloc_new w.drew _, hge, hcm, ?_, ?_⟩⟩
  · simp [byteVals, zeros]
    omega
  · simp [byteVals, zeros]
set_option maxRecDepth 100000 in
theorem step_append_fresh {w : World} {ops : Array Oper} {o : Oper} {a : Act} {K : Act → World → Prop} {Q : Exit → Act → World → Prop} {E : Prop} (hgd : o.guard = none) (s x : Operand)
    (ho : o.op = .call { callee := .builtin .append, args := #[s, x], argTypes := #[55, 55] })
    (q : Nat) (hs : a.eval s = .slice (some ⟨q, 0, none⟩) 0 0) (g : Nat) (u : Value) (k : List Int) (hx : a.eval x = u) (hsl : Sl w g u k) (hk : 0 < k.length) (h47 : k.length ≤ 1000000)
    (h : ∀ v' w', Own w' w.heap.size 5 v' k → Below w.heap.size w w' → K (a.put o.dst v') w') :
    if Region.wanted o (yielded ops a.tmps) = true then Oper.wp Try.prog o a w K Q else E := by
  have hwd : Region.wanted o (yielded ops a.tmps) = true := by simp [Region.wanted, hgd]
  rw [if_pos hwd]
  obtain ⟨v', w', hrn, h2, h3⟩ := run_append_fresh (ty := o.type) (q := q) hsl hk h47
  unfold Oper.wp execOp
  simp only [ho, resolve, invoke, builtin, Sem.run_bind, Sem.run_pure, Result.andThen_ok, List.map_toArray, List.map_cons, List.map_nil, hs, hx, hrn]
  exact h v' w' h2 h3
set_option maxRecDepth 100000 in
theorem wp_append_fresh {w : World} {o : Oper} {a : Act} {K : Act → World → Prop} {Q : Exit → Act → World → Prop} (s x : Operand)
    (ho : o.op = .call { callee := .builtin .append, args := #[s, x], argTypes := #[55, 55] })
    (q : Nat) (hs : a.eval s = .slice (some ⟨q, 0, none⟩) 0 0) (g : Nat) (u : Value) (k : List Int) (hx : a.eval x = u) (hsl : Sl w g u k) (hk : 0 < k.length) (h47 : k.length ≤ 1000000)
    (h : ∀ v' w', Own w' w.heap.size 5 v' k → Below w.heap.size w w' → K (a.put o.dst v') w') : Oper.wp Try.prog o a w K Q := by
  obtain ⟨v', w', hrn, h2, h3⟩ := run_append_fresh (ty := o.type) (q := q) hsl hk h47
  unfold Oper.wp execOp
  simp only [ho, resolve, invoke, builtin, Sem.run_bind, Sem.run_pure, Result.andThen_ok, List.map_toArray, List.map_cons, List.map_nil, hs, hx, hrn]
  exact h v' w' h2 h3
set_option maxRecDepth 100000 in
theorem wp_append_bytes {P : Program} {w : World} {o : Oper} {a : Act} {K : Act → World → Prop} {Q : Exit → Act → World → Prop} (hgd : o.guard = none) (s x : Operand) (t : TypeId)
    (ho : o.op = .call { callee := .builtin .append, args := #[s, x], argTypes := #[t, t] })
    (base e : TypeId) (i : TypeInfo) (ht : P.underlying t = some (.slice e)) (hi : P.info? e = some i) (hz : i.zero = some (.int .u8 0)) (hsize : i.size = 1) (hby : i.bytes = 1)
    (v : Value) (l : List Int) (hs : a.eval s = v) (hown : Own w base e v l)
    (g : Nat) (u : Value) (k : List Int) (hx : a.eval x = u) (hsl : Sl w g u k) (h47 : l.length + k.length ≤ 140737488355328) (hbase : base ≤ w.heap.size)
    (h : ∀ v' w', Own w' base e v' (l ++ k) → w.grownBy w' v.ownBlock → K (a.put o.dst v') w') : Oper.wp P o a w K Q := by
  have h1 := step_append_bytes (Q := Q) (ops := #[]) (E := True) hgd s x t ho base e i ht hi hz hsize hby v l hs hown g u k hx hsl h47 hbase h
  have hwd : Region.wanted o (yielded #[] a.tmps) = true := by simp [Region.wanted, hgd]
  rw [if_pos hwd] at h1
  exact h1
end

section
open Go.RowKit

/-- The inputs when the first j have lost their witnesses. -/
def insJ (l : List InD) (j : Nat) : List InD := (l.take j).map strip ++ l.drop j
theorem insJ_len (l : List InD) (j : Nat) : (insJ l j).length = l.length := by
  unfold insJ
  simp
  omega
theorem insJ_at {l : List InD} {j : Nat} (h : j < l.length) (h' : j < (insJ l j).length) : (insJ l j)[j] = l[j] := by
  have h1 : (insJ l j)[j]? = l[j]? := by
    unfold insJ
    rw [List.getElem?_append_right (by simp; omega)]
    simp [Nat.min_eq_left (Nat.le_of_lt h)]
  rw [List.getElem?_eq_getElem h', List.getElem?_eq_getElem h] at h1
  exact Option.some.inj h1
theorem insJ_next {l : List InD} {j : Nat} (h : j < l.length) : (insJ l j).set j (strip l[j]) = insJ l (j + 1) := by
  unfold insJ
  have hm : ((l.take j).map strip).length = j := by simp; omega
  rw [List.set_append, if_neg (by omega), hm, Nat.sub_self, List.take_succ_eq_append_getElem h, List.map_append, List.drop_eq_getElem_cons h, List.set_cons_zero]
  simp only [List.map_cons, List.map_nil, List.append_assoc, List.singleton_append]
theorem insJ_end (l : List InD) : insJ l l.length = l.map strip := by
  unfold insJ
  simp
theorem any_next {l : List InD} {j : Nat} (h : j < l.length) : (l.take (j + 1)).any witB = ((l.take j).any witB || witB l[j]) := by
  rw [List.take_succ_eq_append_getElem h]
  simp only [List.any_append, List.any_cons, List.any_nil, Bool.or_false]
set_option maxRecDepth 100000 in
/-- One input loses its witnesses in memory. -/
theorem ins_strip {w : World} {B gi c j : Nat} {ds : List InD} (h : OwnMany 36 58 (InO w B) w B (.slice (some ⟨gi, 0, none⟩) ds.length c) ds) (hj : j < ds.length) {C : Array Value} (hx : Box w gi 58 C) :
    OwnMany 36 58 (InO (w.setCell ⟨gi, j * 36 + 35, none⟩ (.slice none 0 0)) B) (w.setCell ⟨gi, j * 36 + 35, none⟩ (.slice none 0 0)) B (.slice (some ⟨gi, 0, none⟩) ds.length c) (ds.set j (strip ds[j])) := by
  have hk : Keeps [5, 55] w (w.setCell ⟨gi, j * 36 + 35, none⟩ (.slice none 0 0)) := Keeps.of_set hx (by decide) _ _
  refine OwnMany.cellSet h hj (by omega) _ _ (fun cs d h => InO.turn h hk (by decide) (by decide) (Nat.le_refl _)) fun cs _ h => ?_
  obtain ⟨sv, wv, rfl, hf, h1, h2, h3⟩ := InO.turn (B' := B) h hk (by decide) (by decide) (Nat.le_refl _)
  refine ⟨sv, .slice none 0 0, ?_, ⟨hf.plen, hf.pbys, hf.vlt, hf.slt⟩, h1, h2, OwnMany.nil _ _ _ _ _⟩
  unfold inCells strip
  have hl : (byteVals ds[j].prev).length = 32 := by simp [byteVals, hf.plen]
  rw [List.set_append, if_neg (by omega), hl]
  rfl
end

section
open Go.RowKit

/-- Each cell of a block of type e is as it was, or is u. -/
def Pk (e : Nat) (u : Value) (w w' : World) : Prop := w.heap.size ≤ w'.heap.size ∧ ∀ (b : Nat) (cs : Array Value) (fr : Nat × Nat), w.heap[b]? = some (.cells cs e fr) → ∃ cs', w'.heap[b]? = some (.cells cs' e fr) ∧ ∀ (i : Nat) (x : Value), cs[i]? = some x → cs'[i]? = some x ∨ cs'[i]? = some u
theorem Pk.of_keeps {ts : List Nat} {e : Nat} (u : Value) {w w' : World} (h : Keeps ts w w') (he : e ∈ ts) : Pk e u w w' := ⟨h.1, fun b cs _ hb => ⟨cs, h.2 b e cs he hb, fun _ _ hx => .inl hx⟩⟩
theorem Pk.trans {e : Nat} {u : Value} {w w' w2 : World} (h : Pk e u w w') (k : Pk e u w' w2) : Pk e u w w2 := ⟨Nat.le_trans h.1 k.1, fun b cs fr hb => by
  obtain ⟨c1, h1, h2⟩ := h.2 b cs fr hb
  obtain ⟨c2, h3, h4⟩ := k.2 b c1 fr h1
  refine ⟨c2, h3, fun i x hx => ?_⟩
  rcases h2 i x hx with h5 | h5
  · exact h4 i x h5
  · rcases h4 i u h5 with h6 | h6 <;> exact .inr h6⟩
section
set_option maxRecDepth 100000
variable {w w' : World} {B : Nat}
theorem RbT.pk {y : Int} (hy : 0 ≤ y ∧ y ≤ 255) (hp : Pk 5 (.int .u8 y) w w') {v : Value} {l : List Int} (h : RbT w v l) : ∃ l', l'.length = l.length ∧ RbT w' v l' := by
  obtain ⟨⟨⟨A, c, rfl, hc, hn, hr⟩, hb, hm⟩, ht⟩ := h
  by_cases h0 : l = []
  · subst h0
    exact ⟨[], rfl, ⟨⟨A, c, rfl, hc, hn, fun h => absurd rfl h⟩, Bys.nil, hm⟩, fun h => absurd rfl h⟩
  · obtain ⟨b, off, n, c', cs, fr, he, hbk⟩ := ht h0
    injection he with e1 e2 e3
    subst e1
    obtain ⟨b', off', e4, hbg, hlt, hrun⟩ := hr h0
    injection e4 with e4
    injection e4 with e4 e5
    subst e4
    subst e5
    obtain ⟨cs', hbk', hx⟩ := hp.2 b cs fr hbk
    have fx : ∀ i : Nat, ∃ x : Int, i < l.length → (0 ≤ x ∧ x ≤ 255) ∧ w'.cell? ⟨b, off + i, none⟩ = some (.int .u8 x) := fun i => by
      by_cases hi : i < l.length
      · have h1 := hrun i hi
        rw [cell_of_row _ _ _ _ _ _ hbk] at h1
        rcases hx _ _ h1 with h2 | h2
        · exact ⟨_, fun _ => ⟨hb.at i, by rw [cell_of_row _ _ _ _ _ _ hbk']; exact h2⟩⟩
        · exact ⟨y, fun _ => ⟨hy, by rw [cell_of_row _ _ _ _ _ _ hbk']; exact h2⟩⟩
      · exact ⟨0, fun h => absurd h hi⟩
    obtain ⟨f, hf⟩ := Classical.axiomOfChoice fx
    refine ⟨(List.range l.length).map f, by simp, ⟨⟨some ⟨b, off, none⟩, c, by simp, by simpa using hc, hn, fun _ => ⟨b, off, rfl, ?_, Nat.lt_of_lt_of_le hlt hp.1, fun i hi => ?_⟩⟩, fun x hx => ?_, by simpa using hm⟩, fun _ => ⟨b, off, _, _, cs', fr, rfl, hbk'⟩⟩
    · have := Nat.lt_of_lt_of_le hlt hp.1
      omega
    · have hi' : i < l.length := by simpa using hi
      rw [(hf i hi').2]
      simp [List.getD_eq_getElem?_getD, hi']
    · obtain ⟨i, hi, rfl⟩ := List.mem_map.1 hx
      exact (hf i (List.mem_range.1 hi)).1
/-- Of a row of which each element may be read otherwise. -/
theorem OwnMany.other {α : Type} {k e : Nat} {R R' : List Value → α → Prop} {S : α → α → Prop} {ts : List Nat} {v : Value} {ds : List α} (h : OwnMany k e R w B v ds) (hk : Keeps ts w w') (he : e ∈ ts)
    (hR : ∀ cs d, R cs d → ∃ d', R' cs d' ∧ S d d') : ∃ ds', ds'.length = ds.length ∧ OwnMany k e R' w' B v ds' ∧ ∀ d' ∈ ds', ∃ d ∈ ds, S d d' := by
  obtain ⟨css, ho, hcl, hlen, hr⟩ := h.lens
  have ho' := ownsRow_keeps ho hk he
  clear hk he
  suffices H : ∀ (css : List (List Value)) (ds : List α), css.length = ds.length → (∀ (i : Nat) (cs : List Value) (d : α), css[i]? = some cs → ds[i]? = some d → R cs d) → ∃ ds' : List α, ds'.length = ds.length ∧ (∀ (i : Nat) (cs : List Value) (d : α), css[i]? = some cs → ds'[i]? = some d → R' cs d) ∧ ∀ d' ∈ ds', ∃ d ∈ ds, S d d' by
    obtain ⟨ds', h1, h2, h3⟩ := H css ds hcl hr
    exact ⟨ds', h1, ⟨css, by rw [h1]; exact ho', by omega, fun i cs d e1 e2 => ⟨hlen cs (List.mem_of_getElem? e1), h2 i cs d e1 e2⟩⟩, h3⟩
  intro css
  induction css with
  | nil =>
    intro ds hl _
    obtain rfl : ds = [] := List.eq_nil_of_length_eq_zero (by simpa using hl.symm)
    exact ⟨[], rfl, fun i cs d h => by simp at h, fun d' h => by cases h⟩
  | cons c r ih =>
    intro ds hl hr
    match ds, hl with
    | d :: ds, hl =>
      obtain ⟨ds', h1, h2, h3⟩ := ih ds (by simpa using hl) fun i cs d e1 e2 => hr (i + 1) cs d (by simpa using e1) (by simpa using e2)
      obtain ⟨d', e1, e2⟩ := hR c d (hr 0 c d (by simp) (by simp))
      refine ⟨d' :: ds', by simp [h1], fun i cs x q1 q2 => ?_, fun x hx => ?_⟩
      · cases i with
        | zero =>
          simp at q1 q2
          subst q1
          subst q2
          exact e1
        | succ i => exact h2 i cs x (by simpa using q1) (by simpa using q2)
      · rcases List.mem_cons.1 hx with rfl | hx
        · exact ⟨d, by simp, e2⟩
        · obtain ⟨y, hy, hs⟩ := h3 x hx
          exact ⟨y, by simp [hy], hs⟩
/-- Rows of which one cell may have been turned. -/
theorem OwnRows.pk {u : Value} {d0 : List Int} {R : List Value → List Int → Prop} (hp : Pk 55 u w w') (hR : ∀ cs x, R cs x → RowR w' cs x) (hu : RowR w' [u] d0) {v : Value} {ll : List (List Int)} (h : OwnMany 1 55 R w B v ll) :
    ∃ ll', ll'.length = ll.length ∧ Rws w' v ll' ∧ ∀ x ∈ ll', x ∈ ll ∨ x = d0 := by
  obtain ⟨css, ho, hcl, hlen, hr⟩ := h.lens
  rcases ho.2 with ⟨rfl, hn⟩ | ⟨g, cap, cur, rfl, hB, hx, hc, hm, hs, ht⟩
  · obtain rfl : ll = [] := List.eq_nil_of_length_eq_zero hn
    exact ⟨[], rfl, Many.nil _ _ _, fun x h => by cases h⟩
  · obtain ⟨cs', hbk', hcs'⟩ := hp.2 g cur (0, 0) hx
    have fx : ∀ i : Nat, ∃ x : List Int, i < ll.length → (x ∈ ll ∨ x = d0) ∧ ∃ cs, cs.length = 1 ∧ w'.rangeAt g (0 + i * 1) cs ∧ RowR w' cs x := fun i => by
      by_cases hl : i < ll.length
      · have hci : css[i]? = some (css[i]'(by omega)) := List.getElem?_eq_getElem (by omega)
        have hk := hlen _ (List.getElem_mem (show i < css.length by omega))
        have hrr := hr i _ ll[i] hci (List.getElem?_eq_getElem hl)
        have h1 := flatten_at css i 0 _ hlen hci (by omega)
        rw [← ht, List.getElem?_take, if_pos (by omega)] at h1
        generalize css[i] = cs at hk hrr h1
        match cs, hk with
        | [z], _ =>
          have h2 : cur[i * 1 + 0]? = some z := by simpa using h1
          rcases hcs' _ _ h2 with h3 | h3
          · exact ⟨ll[i], fun _ => ⟨.inl (List.getElem_mem hl), [z], rfl, fun j q hq => by
              match j, hq with
              | 0, hq => cases hq; rw [cell_of_row _ _ _ _ _ _ hbk', Nat.zero_add]; exact h3, hR _ _ hrr⟩⟩
          · exact ⟨d0, fun _ => ⟨.inr rfl, [u], rfl, fun j q hq => by
              match j, hq with
              | 0, hq => cases hq; rw [cell_of_row _ _ _ _ _ _ hbk', Nat.zero_add]; exact h3, hu⟩⟩
      · exact ⟨[], fun h => absurd h hl⟩
    obtain ⟨f, hf⟩ := Classical.axiomOfChoice fx
    refine ⟨(List.range ll.length).map f, by simp, ⟨some ⟨g, 0, none⟩, cap, by simp, by simpa using hc, hm, (fun h => by cases h), fun _ => ⟨g, 0, rfl, Nat.lt_of_lt_of_le (Box.lt hx) hp.1, fun i x hx => ?_⟩⟩, fun x hx => ?_⟩
    · have hi' : i < ll.length := by
        have := (List.getElem?_eq_some_iff.1 hx).1
        simpa using this
      have he : f i = x := by simpa [hi'] using hx
      rw [← he]
      exact (hf i hi').2
    · obtain ⟨i, hi, rfl⟩ := List.mem_map.1 hx
      exact (hf i (List.mem_range.1 hi)).1
/-- An input that reads in w' as one with as long a script, and as many witnesses, none of them long. -/
def LikeIn (d d' : InD) : Prop := d'.script.length = d.script.length ∧ d'.wit.length = d.wit.length ∧ ∀ x ∈ d'.wit, x.length ≤ 1 ∨ ∃ x0 ∈ d.wit, x.length = x0.length
theorem InO.pk8 {y : Int} (hy : 0 ≤ y ∧ y ≤ 255) (hp : Pk 5 (.int .u8 y) w w') (hk : Keeps [55] w w') {cs : List Value} {d : InD} (h : InO w B cs d) : ∃ d', InR w' cs d' ∧ LikeIn d d' := by
  obtain ⟨sv, wv, rfl, hf, hs, hb, hw⟩ := h
  obtain ⟨l', hl, hs'⟩ := (hs.rbT hb).pk hy hp
  obtain ⟨ll', hll, hw', hx⟩ := OwnMany.other (R' := RowR w') (S := fun x x' => x'.length = x.length) hw hk (by decide) fun cs x ⟨sv, hc, h1, h2⟩ => by
    obtain ⟨x', h3, h4⟩ := (h1.rbT h2).pk hy hp
    exact ⟨x', ⟨sv, hc, h4.1⟩, h3⟩
  refine ⟨⟨d.prev, d.vout, l', d.seq, ll'⟩, ⟨sv, wv, rfl, ⟨hf.plen, hf.pbys, hf.vlt, hf.slt⟩, hs'.1, OwnMany.many hw' fun _ _ h => h⟩, hl, hll, fun x hx' => ?_⟩
  obtain ⟨x0, h2, h3⟩ := hx x hx'
  exact .inr ⟨x0, h2, h3⟩
theorem InO.pkR {u : Value} (hp : Pk 55 u w w') (hk : Keeps [5] w w') (hu : RowR w' [u] [1]) {cs : List Value} {d : InD} (h : InO w B cs d) : ∃ d', InR w' cs d' ∧ LikeIn d d' := by
  obtain ⟨sv, wv, rfl, hf, hs, hb, hw⟩ := h
  have hR : ∀ cs x, RowO w B cs x → RowR w' cs x := fun cs x ⟨sv, hc, h1, h2⟩ => ⟨sv, hc, (h1.keeps hk (by decide)).rb h2⟩
  obtain ⟨ll', hll, hw', hx⟩ := OwnRows.pk hp hR hu hw
  refine ⟨⟨d.prev, d.vout, d.script, d.seq, ll'⟩, ⟨sv, wv, rfl, ⟨hf.plen, hf.pbys, hf.vlt, hf.slt⟩, (hs.keeps hk (by decide)).rb hb, hw'⟩, rfl, hll, fun x hx' => ?_⟩
  rcases hx x hx' with h | rfl
  · exact .inr ⟨x, h, rfl⟩
  · exact .inl (by simp)
end
end

section
open Go.RowKit

theorem Pk.of_setRow {e : Nat} {u : Value} {w : World} {g : Nat} {cur cs : Array Value} (h : Box w g e cur) (hc : ∀ (i : Nat) (x : Value), cur[i]? = some x → cs[i]? = some x ∨ cs[i]? = some u) : Pk e u w (w.setRow g cs) := by
  refine ⟨by simp [World.setRow], fun b c0 fr hb => ?_⟩
  by_cases hp : b = g
  · subst hp
    have h2 : w.heap[b]? = some (.cells cur e (0, 0)) := h
    rw [h2] at hb
    injection hb with hb
    injection hb with h3 _ h4
    subst h3
    subst h4
    exact ⟨cs, setRow_box h cs, hc⟩
  · exact ⟨c0, (setRow_other w g b cs hp).trans hb, fun _ _ hx => .inl hx⟩
theorem drew_cell (w : World) (p : Addr) : w.drew.cell? p = w.cell? p := rfl

set_option maxRecDepth 100000 in
/-- No room: a new block. -/
theorem run_append_grow1 {w : World} {t e ty : TypeId} {i : TypeInfo} {z : Value} (ht : Try.prog.underlying t = some (.slice e)) (hi : Try.prog.info? e = some i) (hz : i.zero = some z) (hs : i.size = 1) (hby : i.bytes ≤ 1000) (hzs : z.cells.size = 1)
    {base : Option Addr} {n cap : Nat} {xs : List Value} (hx : xs.length = n) (hold : (Builtin.firstCells i.size n (.slice base n cap)).run Try.prog w.drew = .ok xs.toArray w.drew) (hn : n ≤ 200) (hfull : cap < n + 1)
    {u : Value} (hu : u.oneCell' = true) {gs c : Nat} (hsrc : w.cell? ⟨gs, 0, none⟩ = some u) :
    ∃ v' w', (Builtin.append_ #[t, t] ty #[.slice base n cap, .slice (some ⟨gs, 0, none⟩) 1 c]).run Try.prog w = .ok v' w' ∧ w'.ownsRow w.heap.size e 1 v' (n + 1) (xs ++ [u]) ∧ Below w.heap.size w w' := by
  have hcell : ∀ (j : Nat) (v : Value), [u][j]? = some v → w.cell? ((⟨gs, 0, none⟩ : Addr).add j) = some v := fun j v hj => by
    match j, hj with
    | 0, hj => cases hj; exact hsrc
  have hS : Src Try.prog i.size t (.slice (some ⟨gs, 0, none⟩) 1 c) 1 [u] w := Src.ofSlice w ht ⟨gs, 0, none⟩ 1 c [u] (by rw [hs]; rfl) hcell (fun x hx => by rw [List.mem_singleton.1 hx]; exact hu)
  have hge := grownCap_ge w (n + 1) cap e
  have hcm : grownCap w (n + 1) cap e ≤ maxLen := grownCap_le_maxLen w (n + 1) cap e (by unfold maxLen; omega)
  have hns : Builtin.nextslicecap (n + 1) cap ≤ 3000 := by
    unfold Builtin.nextslicecap
    split
    · omega
    · rw [if_pos (by omega)]; omega
  have hr := run_append_grow_src (P := Try.prog) w t t ty e i z ht hi hz base n cap xs hold _ 1 [u] hS (by omega) (by omega) (Nat.le_trans (Nat.mul_le_mul hns hby) (by decide))
  refine ⟨_, _, hr, ⟨by simp [hx], .inr ⟨w.heap.size, _, _, rfl, Nat.le_refl _, heap_alloc_new w.drew _, hge, hcm, ?_, ?_⟩⟩, (Below.refl _ _).drew.alloc (Nat.le_refl _) _⟩
  · simp [size_zeroCells, hzs, hx]
    omega
  · rw [Nat.mul_one, Array.toList_append, List.take_append_of_le_length (by simp [hx])]
    rw [List.take_of_length_le (by simp [hx])]
set_option maxRecDepth 100000 in
/-- One element more: what else is turned is one cell, in a block of the row's type. -/
theorem run_append_one {w : World} {t e ty : TypeId} {i : TypeInfo} {z : Value} (ht : Try.prog.underlying t = some (.slice e)) (hi : Try.prog.info? e = some i) (hz : i.zero = some z) (hs : i.size = 1) (hby : i.bytes ≤ 1000) (hzs : z.cells.size = 1)
    {B n : Nat} {v : Value} {xs : List Value} (ho : w.ownsRow B e 1 v n xs) (hn : n ≤ 200) {u : Value} (hu : u.oneCell' = true) {gs c : Nat} (hsrc : w.cell? ⟨gs, 0, none⟩ = some u) (hB : B ≤ w.heap.size) {ts : List Nat} (he : e ∉ ts) :
    ∃ v' w', (Builtin.append_ #[t, t] ty #[v, .slice (some ⟨gs, 0, none⟩) 1 c]).run Try.prog w = .ok v' w' ∧ w'.ownsRow B e 1 v' (n + 1) (xs ++ [u]) ∧ Below B w w' ∧ Keeps ts w w' ∧ Pk e u w w' := by
  have hxl : xs.length = n := by simpa using ho.1
  rcases ho.2 with ⟨rfl, h0⟩ | ⟨g, cap, cur, rfl, hBg, hg, hnc, hcm, hcs, ht'⟩
  · subst h0
    have hx0 : xs = [] := List.eq_nil_of_length_eq_zero hxl
    subst hx0
    obtain ⟨v', w', h1, h2, h3⟩ := run_append_grow1 (ty := ty) ht hi hz hs hby hzs (base := none) (cap := 0) (xs := []) rfl (run_firstCells_none (P := Try.prog) w.drew i.size 0 0 0) (Nat.zero_le _) (by omega) hu (c := c) hsrc
    exact ⟨v', w', h1, ownsRow_less h2 hB, h3.mono hB, Keeps.of_below _ h3, Pk.of_keeps (ts := [e]) _ (Keeps.of_below _ h3) (by simp)⟩
  · by_cases hroom : n + 1 ≤ cap
    · have hr := run_append_room (P := Try.prog) w t ty e i ht hi g n cap cur hg ⟨gs, 0, none⟩ 1 c [u] (by rw [hs]; rfl) (fun j v hj => by
        match j, hj with
        | 0, hj => cases hj; exact hsrc) (fun x hx => by rw [List.mem_singleton.1 hx]; exact hu) hroom (by rw [hs]; simp at hcs ⊢; omega)
      rw [hs, Nat.mul_one] at hr
      simp only [List.length_singleton] at hr
      have htk : cur.toList.take n = xs := by simpa using ht'
      rw [htk] at hr
      refine ⟨_, _, hr, ⟨by simp [hxl], .inr ⟨g, cap, _, rfl, hBg, setRow_box hg _, hroom, hcm, ?_, ?_⟩⟩, Below.setRow_self hBg _, Keeps.of_setRow hg he _, Pk.of_setRow hg fun j x hx => ?_⟩
      · have := hcs
        simp at this ⊢
        omega
      · rw [Nat.mul_one]
        exact List.take_left' (by simp [hxl])
      · have hj : j < cur.size := (Array.getElem?_eq_some_iff.1 hx).1
        have hx' : cur.toList[j]? = some x := by simpa using hx
        rw [List.getElem?_toArray]
        rcases Nat.lt_trichotomy j n with h | h | h
        · refine .inl ?_
          rw [List.append_assoc, List.getElem?_append_left (by omega), ← htk, List.getElem?_take, if_pos h]
          exact hx'
        · refine .inr ?_
          subst h
          rw [List.append_assoc, List.getElem?_append_right (by omega), hxl, Nat.sub_self]
          rfl
        · refine .inl ?_
          rw [List.getElem?_append_right (by simp [hxl]; omega), List.getElem?_drop]
          simp only [List.length_append, List.length_singleton, hxl]
          rw [show n + 1 + (j - (n + 1)) = j by omega]
          exact hx'
    · have hold : (Builtin.firstCells i.size n (.slice (some ⟨g, 0, none⟩) n cap)).run Try.prog w.drew = .ok xs.toArray w.drew := run_firstCells_some (P := Try.prog) w.drew i.size n ⟨g, 0, none⟩ n cap xs (by rw [hs]; omega) fun j x hj => by
        have hjn : j < n := by rw [← hxl]; exact (List.getElem?_eq_some_iff.1 hj).1
        have : (⟨g, 0, none⟩ : Addr).add j = ⟨g, j, none⟩ := by unfold Addr.add; split <;> simp_all
        rw [this, drew_cell, Box.cell hg]
        rw [← show cur.toList.take n = xs by simpa using ht', List.getElem?_take, if_pos hjn] at hj
        simpa using hj
      obtain ⟨v', w', h1, h2, h3⟩ := run_append_grow1 (ty := ty) ht hi hz hs hby hzs (base := some ⟨g, 0, none⟩) (cap := cap) hxl hold hn (by omega) hu (c := c) hsrc
      exact ⟨v', w', h1, ownsRow_less h2 hB, h3.mono hB, Keeps.of_below _ h3, Pk.of_keeps (ts := [e]) _ (Keeps.of_below _ h3) (by simp)⟩
set_option maxRecDepth 100000 in
/-- One byte more onto a script. -/
theorem run_append_byte {w : World} {ty : TypeId} {B : Nat} {v : Value} {l : List Int} {y : Int} (h : RbF w B v l) (hn : l.length ≤ 200) {gs c : Nat} (hsrc : w.cell? ⟨gs, 0, none⟩ = some (.int .u8 y)) (hB : B ≤ w.heap.size) :
    ∃ v' w', (Builtin.append_ #[55, 55] ty #[v, .slice (some ⟨gs, 0, none⟩) 1 c]).run Try.prog w = .ok v' w' ∧ Own w' B 5 v' (l ++ [y]) ∧ Below B w w' ∧ Keeps [55, 58, 61, 30] w w' ∧ Pk 5 (.int .u8 y) w w' := by
  obtain ⟨i0, hi, hz0, hz1, hz2⟩ := info_parts infoByte
  have hbv : byteVals (l ++ [y]) = byteVals l ++ [Value.int .u8 y] := by simp [byteVals]
  obtain ⟨hy, h | ⟨h, hne, A, rfl⟩⟩ := h
  · obtain ⟨v', w', h1, h2, h3⟩ := run_append_one (ty := ty) (ts := [55, 58, 61, 30]) Try.underlying55 hi hz0 hz1 (by rw [hz2]; omega) rfl h hn rfl (c := c) hsrc hB (by decide)
    refine ⟨v', w', h1, ?_, h3⟩
    unfold Own
    rw [hbv, List.length_append]
    exact h2
  · obtain ⟨⟨⟨A', c', e, hc, hnn, hr⟩, _⟩, _⟩ := h
    injection e with e1 _ e3
    subst e1
    obtain ⟨b, off, rfl, _, hlt, hrun⟩ := hr hne
    have hold : (Builtin.firstCells i0.size l.length (.slice (some ⟨b, off, none⟩) l.length l.length)).run Try.prog w.drew = .ok (byteVals l).toArray w.drew := run_firstCells_some (P := Try.prog) w.drew i0.size l.length ⟨b, off, none⟩ l.length l.length (byteVals l) (by rw [hz1]; simp [byteVals]) fun j x hj => by
      obtain ⟨hjl, rfl⟩ := byteVals_at l j x hj
      have : (⟨b, off, none⟩ : Addr).add j = ⟨b, off + j, none⟩ := by unfold Addr.add; split <;> simp_all
      rw [this, drew_cell]
      exact hrun j hjl
    obtain ⟨v', w', h1, h2, h3⟩ := run_append_grow1 (ty := ty) (u := .int .u8 y) Try.underlying55 hi hz0 hz1 (by rw [hz2]; omega) rfl (base := some ⟨b, off, none⟩) (cap := l.length) (by simp [byteVals]) hold hn (by omega) rfl (c := c) hsrc
    refine ⟨v', w', h1, ?_, h3.mono hB, Keeps.of_below _ h3, Pk.of_keeps (ts := [5]) _ (Keeps.of_below _ h3) (by simp)⟩
    unfold Own
    rw [hbv, List.length_append]
    exact ownsRow_less h2 hB
end

end Go.Proofs.Ytdemamipllfonaa
