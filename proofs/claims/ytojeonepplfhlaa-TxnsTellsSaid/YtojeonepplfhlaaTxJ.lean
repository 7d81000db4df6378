/- Rows of the call's own, by the types of their blocks; what is read one behind the other; nextText, nextWitness. -/
import Derived.Test.YtojeonepplfhlaaTxI
namespace Go.Proofs.Ytojeonepplfhlaa
open Go.RowKit

theorem heap_lt {w : World} {b : Nat} {o : Obj} (h : w.heap[b]? = some o) : b < w.heap.size := (Array.getElem?_eq_some_iff.1 h).1
/-- Each block whose cells are of one of these types is as it was. -/
def Keeps (ts : List Nat) (w w' : World) : Prop := w.heap.size ≤ w'.heap.size ∧ ∀ (b t : Nat) (cs : Array Value), t ∈ ts → ∀ {fr : Nat × Nat}, w.heap[b]? = some (.cells cs t fr) → w'.heap[b]? = some (.cells cs t fr)
theorem Keeps.refl (ts : List Nat) (w : World) : Keeps ts w w := ⟨Nat.le_refl _, fun _ _ _ _ _ h => h⟩
theorem Keeps.trans {ts : List Nat} {w w1 w2 : World} (h : Keeps ts w w1) (k : Keeps ts w1 w2) : Keeps ts w w2 := ⟨Nat.le_trans h.1 k.1, fun b t cs ht _ hb => k.2 b t cs ht (h.2 b t cs ht hb)⟩
theorem Keeps.of_below (ts : List Nat) {w w' : World} (h : Below w.heap.size w w') : Keeps ts w w' := ⟨h.size, fun b _ _ _ _ hb => (h.block b (heap_lt hb)).trans hb⟩
theorem Keeps.of_grown {ts : List Nat} {w w' : World} {row : Option Nat} (hg : w.grownBy w' row) {e : Nat} {cur : Array Value} (hrow : ∀ b, row = some b → Box w b e cur) (he : e ∉ ts) : Keeps ts w w' := by
  refine ⟨hg.size, fun b t cs ht fr hb => (hg.block b (heap_lt hb) ?_).trans hb⟩
  intro e1
  have h1 := hrow b e1.symm
  have h2 : w.heap[b]? = some (.cells cur e (0, 0)) := h1
  rw [h2] at hb
  injection hb with h3
  injection h3 with _ h4
  exact he (h4 ▸ ht)
theorem Keeps.of_own {ts : List Nat} {w w' : World} {B e k n : Nat} {v : Value} {xs : List Value} (hg : w.grownBy w' v.ownBlock) (ho : w.ownsRow B e k v n xs) (he : e ∉ ts) : Keeps ts w w' := by
  rcases ho.2 with ⟨rfl, _⟩ | ⟨g, cap, cur, rfl, _, hx, _⟩
  · exact Keeps.of_grown hg (e := e) (cur := #[]) (fun b h => by cases h) he
  · refine Keeps.of_grown hg (e := e) (cur := cur) (fun b h => ?_) he
    simp only [Value.ownBlock, Option.some.injEq] at h
    subst h
    exact hx
theorem Keeps.of_only {ts : List Nat} {w w' : World} {g e : Nat} {cur : Array Value} (hg : Only g w w') (hb : Box w g e cur) (he : e ∉ ts) : Keeps ts w w' :=
  Keeps.of_grown hg (e := e) (cur := cur) (fun b h => by injection h with h; subst h; exact hb) he
theorem Keeps.of_set {ts : List Nat} {w : World} {b e : Nat} {cur : Array Value} (hb : Box w b e cur) (he : e ∉ ts) (i : Nat) (u : Value) : Keeps ts w (w.setCell ⟨b, i, none⟩ u) :=
  Keeps.of_only ((Only.refl b w).set i u) hb he
theorem ownsRow_keeps {ts : List Nat} {w w' : World} {B e k n : Nat} {v : Value} {xs : List Value} (ho : w.ownsRow B e k v n xs) (hk : Keeps ts w w') (he : e ∈ ts) : w'.ownsRow B e k v n xs := by
  refine ⟨ho.1, ?_⟩
  rcases ho.2 with h | ⟨g, cap, cur, hv, hb, hx, hr⟩
  · exact .inl h
  · exact .inr ⟨g, cap, cur, hv, hb, hk.2 g e cur he hx, hr⟩
theorem ownsRow_less {w : World} {B B' e k n : Nat} {v : Value} {xs : List Value} (ho : w.ownsRow B e k v n xs) (h : B' ≤ B) : w.ownsRow B' e k v n xs := by
  refine ⟨ho.1, ?_⟩
  rcases ho.2 with h2 | ⟨g, cap, cur, hv, hb, r⟩
  · exact .inl h2
  · exact .inr ⟨g, cap, cur, hv, by omega, r⟩
theorem ownsRow_slice {w : World} {B e k n : Nat} {v : Value} {xs : List Value} (ho : w.ownsRow B e k v n xs) : ∃ A c, v = .slice A n c := by
  rcases ho.2 with ⟨h, hn⟩ | ⟨g, cap, cur, hv, _⟩
  · exact ⟨none, 0, by rw [h, hn]⟩
  · exact ⟨_, cap, hv⟩
set_option maxRecDepth 100000 in
theorem Own.keeps {ts : List Nat} {w w' : World} {B : Nat} {v : Value} {l : List Int} (h : Own w B 5 v l) (hk : Keeps ts w w') (hu : 5 ∈ ts) : Own w' B 5 v l := ownsRow_keeps h hk hu
set_option maxRecDepth 100000 in
theorem Own.rb {w : World} {B : Nat} {v : Value} {l : List Int} (h : Own w B 5 v l) (hy : Bys l) : Rb w v l := by
  refine ⟨h.any, hy, ?_⟩
  rcases h.form with ⟨_, rfl⟩ | ⟨g, cap, cur, _, _, _, h1, h2, _⟩
  · exact Nat.zero_le _
  · exact Nat.le_trans h1 h2

/-- A row of the call's own whose elements have k cells each. -/
def OwnMany {α : Type} (k e : Nat) (R : List Value → α → Prop) (w : World) (B : Nat) (v : Value) (ds : List α) : Prop :=
  ∃ css : List (List Value), w.ownsRow B e k v ds.length css.flatten ∧ css.length = ds.length ∧ (∀ (i : Nat) (cs : List Value) (d : α), css[i]? = some cs → ds[i]? = some d → cs.length = k ∧ R cs d)
theorem flatten_at {k : Nat} : ∀ (css : List (List Value)) (i j : Nat) (cs : List Value), (∀ c ∈ css, c.length = k) → css[i]? = some cs → j < k → css.flatten[i * k + j]? = cs[j]?
  | [], i, j, cs, _, h, _ => by simp at h
  | c :: r, 0, j, cs, hk, h, hj => by
    have hc : c.length = k := hk c (by simp)
    simp only [List.getElem?_cons_zero, Option.some.injEq] at h
    subst h
    rw [List.flatten_cons, Nat.zero_mul, Nat.zero_add, List.getElem?_append_left (by omega)]
  | c :: r, i + 1, j, cs, hk, h, hj => by
    have hc : c.length = k := hk c (by simp)
    rw [List.getElem?_cons_succ] at h
    rw [List.flatten_cons, Nat.succ_mul, List.getElem?_append_right (by omega), hc]
    have : i * k + k + j - k = i * k + j := by omega
    rw [this]
    exact flatten_at r i j cs (fun c hc => hk c (List.mem_cons_of_mem _ hc)) h hj
section
variable {α : Type} {k e : Nat} {R : List Value → α → Prop} {w : World} {B : Nat} {v : Value} {ds : List α}
theorem OwnMany.lens (h : OwnMany k e R w B v ds) : ∃ css : List (List Value), w.ownsRow B e k v ds.length css.flatten ∧ css.length = ds.length ∧ (∀ c ∈ css, c.length = k) ∧ (∀ (i : Nat) (cs : List Value) (d : α), css[i]? = some cs → ds[i]? = some d → R cs d) := by
  obtain ⟨css, ho, hl, hR⟩ := h
  refine ⟨css, ho, hl, fun c hc => ?_, fun i cs d h1 h2 => (hR i cs d h1 h2).2⟩
  obtain ⟨i, hi, rfl⟩ := List.mem_iff_getElem.1 hc
  exact (hR i _ (ds[i]'(by omega)) (List.getElem?_eq_getElem hi) (List.getElem?_eq_getElem (by omega))).1
theorem OwnMany.nil (k e : Nat) (R : List Value → α → Prop) (w : World) (B : Nat) : OwnMany k e R w B (.slice none 0 0) [] := ⟨[], World.ownsRow_nil w B e k, rfl, fun i cs d h => by simp at h⟩
theorem OwnMany.slice (h : OwnMany k e R w B v ds) : ∃ A c, v = .slice A ds.length c := by
  obtain ⟨css, ho, _⟩ := h
  exact ownsRow_slice ho
theorem OwnMany.turn {w' : World} {R' : List Value → α → Prop} {B' : Nat} (h : OwnMany k e R w B v ds) {ts : List Nat} (hk : Keeps ts w w') (he : e ∈ ts) (hB : B' ≤ B) (hR : ∀ cs d, R cs d → R' cs d) : OwnMany k e R' w' B' v ds := by
  obtain ⟨css, ho, hl, hr⟩ := h
  exact ⟨css, ownsRow_less (ownsRow_keeps ho hk he) hB, hl, fun i cs d h1 h2 => ⟨(hr i cs d h1 h2).1, hR cs d (hr i cs d h1 h2).2⟩⟩
theorem OwnMany.many {RR : World → List Value → α → Prop} (h : OwnMany k e R w B v ds) (hR : ∀ cs d, R cs d → RR w cs d) : Many k RR w v ds := by
  obtain ⟨css, ho, hl, hlen, hr⟩ := h.lens
  rcases ho.2 with ⟨rfl, hn⟩ | ⟨g, cap, cur, rfl, hB, hx, hc, hm, hs, ht⟩
  · obtain rfl : ds = [] := List.eq_nil_of_length_eq_zero hn
    exact Many.nil _ _ _
  · refine ⟨_, cap, rfl, hc, hm, (fun h => by cases h), fun _ => ⟨g, 0, rfl, Box.lt hx, fun i x hi => ?_⟩⟩
    have hil : i < ds.length := (List.getElem?_eq_some_iff.1 hi).1
    have hcs : css[i]? = some (css[i]'(by omega)) := List.getElem?_eq_getElem (by omega)
    have hk := hlen _ (List.getElem_mem (show i < css.length by omega))
    refine ⟨_, hk, fun j u hj => ?_, hR _ _ (hr i _ x hcs hi)⟩
    have hjk : j < k := by rw [← hk]; exact (List.getElem?_eq_some_iff.1 hj).1
    have h1 := flatten_at css i j _ hlen hcs hjk
    rw [hj, ← ht, List.getElem?_take] at h1
    have hlt : i * k + j < ds.length * k := Nat.lt_of_lt_of_le (Nat.add_lt_add_left hjk _) (by rw [← Nat.succ_mul]; exact Nat.mul_le_mul_right k hil)
    rw [if_pos hlt] at h1
    rw [Box.cell hx, Nat.zero_add]
    simpa using h1
theorem OwnMany.snoc {v' : Value} {w' : World} {cs : List Value} {d : α} {css : List (List Value)} (hl : css.length = ds.length) (hr : ∀ (i : Nat) (cs : List Value) (d : α), css[i]? = some cs → ds[i]? = some d → cs.length = k ∧ R cs d) (ho : w'.ownsRow B e k v' (ds.length + 1) (css.flatten ++ cs)) (hk : cs.length = k) (hR : R cs d) : OwnMany k e R w' B v' (ds ++ [d]) := by
  refine ⟨css ++ [cs], by simpa using ho, by simp [hl], fun i c x h1 h2 => ?_⟩
  by_cases hi : i < css.length
  · rw [List.getElem?_append_left hi] at h1
    rw [List.getElem?_append_left (by omega)] at h2
    exact hr i c x h1 h2
  · rw [List.getElem?_append_right (by omega)] at h1
    rw [List.getElem?_append_right (by omega)] at h2
    have h3 : i - css.length = 0 := by
      have := (List.getElem?_eq_some_iff.1 h1).1
      simp at this
      omega
    rw [h3] at h1
    rw [← hl, h3] at h2
    simp at h1 h2
    subst h1
    subst h2
    exact ⟨hk, hR⟩
end
def RowO (w : World) (B : Nat) (cs : List Value) (l : List Int) : Prop := ∃ sv, cs = [sv] ∧ Own w B 5 sv l ∧ Bys l
abbrev OwnRows (w : World) (B : Nat) (v : Value) (ll : List (List Int)) : Prop := OwnMany 1 27 (RowO w B) w B v ll
set_option maxRecDepth 100000 in
theorem RowO.turn {ts : List Nat} {w w' : World} {B B' : Nat} {cs : List Value} {l : List Int} (h : RowO w B cs l) (hk : Keeps ts w w') (hu : 5 ∈ ts) (hB : B' ≤ B) : RowO w' B' cs l := by
  obtain ⟨sv, rfl, h1, h2⟩ := h
  exact ⟨sv, rfl, (h1.keeps hk hu).less hB, h2⟩
set_option maxRecDepth 100000 in
theorem rows_turn {ts : List Nat} {w w' : World} {B B' : Nat} {v : Value} {ll : List (List Int)} (h : OwnRows w B v ll) (hk : Keeps ts w w') (hu : 5 ∈ ts) (hb : 27 ∈ ts) (hB : B' ≤ B) : OwnRows w' B' v ll := OwnMany.turn h hk hb hB fun _ _ h => h.turn hk hu hB
theorem rows_rws {w : World} {B : Nat} {v : Value} {ll : List (List Int)} (h : OwnRows w B v ll) : Rws w v ll := OwnMany.many h fun _ _ ⟨sv, hc, h1, h2⟩ => ⟨sv, hc, h1.rb h2⟩
def InO (w : World) (B : Nat) (cs : List Value) (d : InD) : Prop := ∃ sv wv, cs = inCells d sv wv ∧ d.Fit ∧ Own w B 5 sv d.script ∧ Bys d.script ∧ OwnRows w B wv d.wit
set_option maxRecDepth 100000 in
theorem InO.turn {ts : List Nat} {w w' : World} {B B' : Nat} {cs : List Value} {d : InD} (h : InO w B cs d) (hk : Keeps ts w w') (hu : 5 ∈ ts) (hb : 27 ∈ ts) (hB : B' ≤ B) : InO w' B' cs d := by
  obtain ⟨sv, wv, rfl, hf, h1, h2, h3⟩ := h
  exact ⟨sv, wv, rfl, hf, (h1.keeps hk hu).less hB, h2, rows_turn h3 hk hu hb hB⟩
theorem InO.inR {w : World} {B : Nat} {cs : List Value} {d : InD} (h : InO w B cs d) : InR w cs d := by
  obtain ⟨sv, wv, rfl, hf, h1, h2, h3⟩ := h
  exact ⟨sv, wv, rfl, hf, h1.rb h2, rows_rws h3⟩
def OutO (w : World) (B : Nat) (cs : List Value) (d : OutD) : Prop := ∃ sv, cs = [.int .u64 d.value, sv] ∧ d.value < 18446744073709551616 ∧ Own w B 5 sv d.script ∧ Bys d.script
set_option maxRecDepth 100000 in
theorem OutO.turn {ts : List Nat} {w w' : World} {B B' : Nat} {cs : List Value} {d : OutD} (h : OutO w B cs d) (hk : Keeps ts w w') (hu : 5 ∈ ts) (hB : B' ≤ B) : OutO w' B' cs d := by
  obtain ⟨sv, rfl, hf, h1, h2⟩ := h
  exact ⟨sv, rfl, hf, (h1.keeps hk hu).less hB, h2⟩
theorem OutO.outR {w : World} {B : Nat} {cs : List Value} {d : OutD} (h : OutO w B cs d) : OutR w cs d := by
  obtain ⟨sv, rfl, hf, h1, h2⟩ := h
  exact ⟨sv, rfl, hf, h1.rb h2⟩

/-- One element more, out of a block that was made for it. -/
theorem wp_append_many {P : Program} {w : World} {o : Oper} {a : Act} {K : Act → World → Prop} {Q : Exit → Act → World → Prop} {α : Type} {k e : Nat} {R : World → List Value → α → Prop} (s x : Operand) (t : TypeId)
    (ho : o.op = .call { callee := .builtin .append, args := #[s, x], argTypes := #[t, t] })
    (B : Nat) (i : TypeInfo) (z : Value) (bytes : Nat) (ht : P.underlying t = some (.slice e)) (hi : P.info? e = some i) (hz : i.zero = some z) (hsize : i.size = k) (hby : i.bytes = bytes) (hzs : z.cells.size = k) (hk0 : 0 < k)
    (v : Value) (ds : List α) (hs : a.eval s = v) (hown : OwnMany k e (R w) w B v ds)
    (gn c : Nat) (cs : List Value) (d : α) (hx : a.eval x = .slice (some ⟨gn, 0, none⟩) 1 c) (hbox : Box w gn e cs.toArray) (hl : cs.length = k) (hR : R w cs d) (h1 : ∀ u ∈ cs, u.oneCell' = true)
    (hn : ds.length ≤ 1000) (hb100 : bytes ≤ 1000) (hB : B ≤ w.heap.size) (ts : List Nat) (he : e ∉ ts) (hst : ∀ w' cs d, Keeps ts w w' → R w cs d → R w' cs d)
    (h : ∀ v' w', OwnMany k e (R w') w' B v' (ds ++ [d]) → w.grownBy w' v.ownBlock → Keeps ts w w' → K (a.put o.dst v') w') : o.wp P a w K Q := by
  obtain ⟨css, hrow, hcl, hlen, hr⟩ := hown.lens
  have hbytes : (ds.length + 1) * bytes ≤ 140737488355328 := Nat.le_trans (Nat.mul_le_mul (show ds.length + 1 ≤ 1001 by omega) hb100) (by decide)
  refine wp_append_own w s x t ho B e i z k bytes ht hi hz hsize hby hzs hk0 v ds.length css.flatten hs hrow ⟨gn, 0, none⟩ 1 c cs hx (by omega) (fun j u hj => ?_) h1 (by unfold maxLen; omega) hbytes hB (fun v' w' h2 h3 _ => ?_)
  · have : (⟨gn, 0, none⟩ : Addr).add j = ⟨gn, j, none⟩ := by unfold Addr.add; split <;> simp_all
    rw [this, hbox.cell]
    simpa using hj
  · have hkp : Keeps ts w w' := Keeps.of_own h3 hrow he
    exact h v' w' (OwnMany.snoc hcl (fun j cs' d' e1 e2 => ⟨hlen _ (List.mem_of_getElem? e1), hst _ _ _ hkp (hr j cs' d' e1 e2)⟩) h2 hl (hst _ _ _ hkp hR)) h3 hkp
theorem wpList_append_many {P : Program} {w : World} {ops : Array Oper} {rest : List Oper} {o : Oper} {a : Act} {Q : Exit → Act → World → Prop} (hgd : o.guard = none) {α : Type} {k e : Nat} {R : World → List Value → α → Prop} (s x : Operand) (t : TypeId)
    (ho : o.op = .call { callee := .builtin .append, args := #[s, x], argTypes := #[t, t] })
    (B : Nat) (i : TypeInfo) (z : Value) (bytes : Nat) (ht : P.underlying t = some (.slice e)) (hi : P.info? e = some i) (hz : i.zero = some z) (hsize : i.size = k) (hby : i.bytes = bytes) (hzs : z.cells.size = k) (hk0 : 0 < k)
    (v : Value) (ds : List α) (hs : a.eval s = v) (hown : OwnMany k e (R w) w B v ds)
    (gn c : Nat) (cs : List Value) (d : α) (hx : a.eval x = .slice (some ⟨gn, 0, none⟩) 1 c) (hbox : Box w gn e cs.toArray) (hl : cs.length = k) (hR : R w cs d) (h1 : ∀ u ∈ cs, u.oneCell' = true)
    (hn : ds.length ≤ 1000) (hb100 : bytes ≤ 1000) (hB : B ≤ w.heap.size) (ts : List Nat) (he : e ∉ ts) (hst : ∀ w' cs d, Keeps ts w w' → R w cs d → R w' cs d)
    (h : ∀ v' w', OwnMany k e (R w') w' B v' (ds ++ [d]) → w.grownBy w' v.ownBlock → Keeps ts w w' → wpList P ops Q rest (a.put o.dst v') w') : wpList P ops Q (o :: rest) a w :=
  wpList_plain hgd fun _ hK => wp_append_many s x t ho B i z bytes ht hi hz hsize hby hzs hk0 v ds hs hown gn c cs d hx hbox hl hR h1 hn hb100 hB ts he hst fun v' w' h2 h3 h4 => hK _ _ (h v' w' h2 h3 h4)
theorem step_append_many {P : Program} {w : World} {ops : Array Oper} {o : Oper} {a : Act} {K : Act → World → Prop} {Q : Exit → Act → World → Prop} {E : Prop} (hgd : o.guard = none) {α : Type} {k e : Nat} {R : World → List Value → α → Prop} (s x : Operand) (t : TypeId)
    (ho : o.op = .call { callee := .builtin .append, args := #[s, x], argTypes := #[t, t] })
    (B : Nat) (i : TypeInfo) (z : Value) (bytes : Nat) (ht : P.underlying t = some (.slice e)) (hi : P.info? e = some i) (hz : i.zero = some z) (hsize : i.size = k) (hby : i.bytes = bytes) (hzs : z.cells.size = k) (hk0 : 0 < k)
    (v : Value) (ds : List α) (hs : a.eval s = v) (hown : OwnMany k e (R w) w B v ds)
    (gn c : Nat) (cs : List Value) (d : α) (hx : a.eval x = .slice (some ⟨gn, 0, none⟩) 1 c) (hbox : Box w gn e cs.toArray) (hl : cs.length = k) (hR : R w cs d) (h1 : ∀ u ∈ cs, u.oneCell' = true)
    (hn : ds.length ≤ 1000) (hb100 : bytes ≤ 1000) (hB : B ≤ w.heap.size) (ts : List Nat) (he : e ∉ ts) (hst : ∀ w' cs d, Keeps ts w w' → R w cs d → R w' cs d)
    (h : ∀ v' w', OwnMany k e (R w') w' B v' (ds ++ [d]) → w.grownBy w' v.ownBlock → Keeps ts w w' → K (a.put o.dst v') w') :
    if Region.wanted o (yielded ops a.tmps) = true then Oper.wp P o a w K Q else E := by
  have hwd : Region.wanted o (yielded ops a.tmps) = true := by simp [Region.wanted, hgd]
  rw [if_pos hwd]
  exact wp_append_many s x t ho B i z bytes ht hi hz hsize hby hzs hk0 v ds hs hown gn c cs d hx hbox hl hR h1 hn hb100 hB ts he hst h
end Go.Proofs.Ytojeonepplfhlaa
