/- Rows of the call's own: cells of an element stored, rows appended, an empty row. No function. -/
import Derived.Test.YtdemamipllfonaaGf
import Derived.Deep.MidRow
namespace Go.Proofs.Ytdemamipllfonaa
open Go.RowKit

section
set_option maxRecDepth 100000
variable {w w' : World} {B : Nat} {α : Type} {k e : Nat} {R : List Value → α → Prop} {v : Value} {ds : List α}
/-- The elements by their cells. -/
theorem OwnMany.raw (h : OwnMany k e R w B v ds) : ∃ css : List (List Value), OwnMany k e (fun cs d => cs = d) w B v css ∧ css.length = ds.length ∧ ∀ (i : Nat) cs d, css[i]? = some cs → ds[i]? = some d → cs.length = k ∧ R cs d := by
  obtain ⟨css, ho, hl, hr⟩ := h
  refine ⟨css, ⟨css, by rw [hl]; exact ho, rfl, fun i cs d h1 h2 => ?_⟩, hl, hr⟩
  rw [h1] at h2
  refine ⟨?_, Option.some.inj h2⟩
  have hi : i < ds.length := by rw [← hl]; exact (List.getElem?_eq_some_iff.1 h1).1
  exact (hr i cs _ h1 (List.getElem?_eq_getElem hi)).1
theorem OwnMany.ofRaw {css : List (List Value)} (h : OwnMany k e (fun cs d => cs = d) w B v css) (hl : css.length = ds.length) (hr : ∀ (i : Nat) cs d, css[i]? = some cs → ds[i]? = some d → R cs d) : OwnMany k e R w B v ds := by
  obtain ⟨css', ho, hl', hr'⟩ := h
  have e1 : css' = css := by
    apply List.ext_getElem hl'
    intro i h1 h2
    exact (hr' i _ _ (List.getElem?_eq_getElem h1) (List.getElem?_eq_getElem h2)).2
  subst e1
  exact ⟨css', by rw [← hl]; exact ho, hl, fun i cs d h1 h2 => ⟨(hr' i cs cs h1 h1).1, hr i cs d h1 h2⟩⟩
/-- Cells written over others, from place j on. -/
def over (cs : List Value) (j : Nat) : List Value → List Value
  | [] => cs
  | u :: us => over (cs.set j u) (j + 1) us
theorem over_len (us : List Value) : ∀ (cs : List Value) (j : Nat), (over cs j us).length = cs.length
  := by
  induction us with
  | nil => intro cs j; rfl
  | cons u us ih => intro cs j; rw [over, ih, List.length_set]
theorem over_two {cs : List Value} (h : cs.length = 2) (a b : Value) : over cs 0 [a, b] = [a, b] := by
  match cs, h with
  | [x, y], _ => rfl
theorem OwnMany.rawSet {gi c i : Nat} : ∀ (us : List Value) (j : Nat) (w : World) (css : List (List Value)), OwnMany k e (fun cs d => cs = d) w B (.slice (some ⟨gi, 0, none⟩) css.length c) css → i < css.length → j + us.length ≤ k →
    OwnMany k e (fun cs d => cs = d) (w.setCells gi (i * k + j) us) B (.slice (some ⟨gi, 0, none⟩) css.length c) (css.set i (over (css.getD i []) j us))
  | [], j, w, css, h, hi, _ => by
    have : css.set i (css.getD i []) = css := by
      apply List.ext_getElem?
      intro q
      rw [List.getElem?_set]
      split
      · rename_i e1; subst e1; rw [List.getD_eq_getElem?_getD, List.getElem?_eq_getElem hi]; rfl
      · rfl
    simp only [over, this]
    exact h
  | u :: us, j, w, css, h, hi, hj => by
    simp only [List.length_cons] at hj
    have h1 := OwnMany.cellSet (j := j) h hi (by omega) u ((css.getD i []).set j u) (fun cs d he => he) (fun cs hk he => by
      rw [he, List.getD_eq_getElem?_getD, List.getElem?_eq_getElem hi]; rfl)
    have h2 := OwnMany.rawSet us (j + 1) _ (css.set i ((css.getD i []).set j u)) (by rw [List.length_set]; exact h1) (by rw [List.length_set]; exact hi) (by omega)
    rw [List.length_set] at h2
    have e1 : (css.set i ((css.getD i []).set j u)).getD i [] = (css.getD i []).set j u := by
      rw [List.getD_eq_getElem?_getD, List.getElem?_set, if_pos rfl, if_pos hi]
      rfl
    rw [e1, List.set_set] at h2
    exact h2
/-- Some cells of one element stored. -/
theorem OwnMany.cellsSet {R' : List Value → α → Prop} {gi c i j : Nat} (h : OwnMany k e R w B (.slice (some ⟨gi, 0, none⟩) ds.length c) ds) (hi : i < ds.length) (us : List Value) (hj : j + us.length ≤ k) (d' : α)
    (hR : ∀ cs d, R cs d → R' cs d) (hd : ∀ cs, cs.length = k → R cs ds[i] → R' (over cs j us) d') :
    OwnMany k e R' (w.setCells gi (i * k + j) us) B (.slice (some ⟨gi, 0, none⟩) ds.length c) (ds.set i d') := by
  obtain ⟨css, ho, hl, hr⟩ := h.raw
  rw [← hl] at ho
  have h1 := OwnMany.rawSet (i := i) us j w css ho (by omega) hj
  rw [hl] at h1
  refine OwnMany.ofRaw h1 (by simp [hl]) fun q cs d h2 h3 => ?_
  rw [List.getElem?_set] at h2 h3
  split at h2
  · rename_i e1
    subst e1
    rw [if_pos (show i < css.length by omega)] at h2
    rw [if_pos rfl, if_pos hi] at h3
    have e2 := Option.some.inj h2
    have e3 := Option.some.inj h3
    subst e2
    subst e3
    have hci : css[i]? = some (css[i]'(by omega)) := List.getElem?_eq_getElem (by omega)
    have hg : css.getD i [] = css[i]'(by omega) := by rw [List.getD_eq_getElem?_getD, hci]; rfl
    rw [hg]
    have := hr i _ _ hci (List.getElem?_eq_getElem hi)
    exact hd _ this.1 this.2
  · rename_i e1
    rw [if_neg e1] at h3
    exact hR _ _ (hr q cs d h2 h3).2
/-- The cells of an element may be stored into. -/
theorem OwnMany.there {gi c i j m : Nat} (h : OwnMany k e R w B (.slice (some ⟨gi, 0, none⟩) ds.length c) ds) (hi : i < ds.length) (hj : j + m ≤ k) : w.there gi (i * k + j) m := by
  intro q hq
  obtain ⟨cs, hk, _, hc, hf⟩ := OwnMany.cell h hi (show j + q < k by omega)
  rw [show i * k + j + q = i * k + (j + q) by omega, hc, hf]
  exact ⟨by rw [List.getElem?_eq_getElem (by omega)]; rfl, rfl⟩
/-- What grows by a row of the call's own leaves all that was there ahead of the call. -/
theorem OwnMany.grows {w0 : World} (h : OwnMany k e R w B v ds) (hb : Below w0.heap.size w0 w) (hg : w.grownBy w' v.ownBlock) (h0 : w0.heap.size ≤ B) : Below w0.heap.size w0 w' := by
  obtain ⟨css, ho, _⟩ := h
  refine ⟨hg.os.trans hb.os, hg.tape.trans hb.tape, hg.output.trans hb.output, Nat.le_trans hb.size hg.size, fun j hj => (hg.block j (Nat.lt_of_lt_of_le hj hb.size) ?_).trans (hb.block j hj)⟩
  rcases ho.2 with ⟨rfl, _⟩ | ⟨g, cap, cur, rfl, hbg, _⟩
  · simp [Value.ownBlock]
  · simp [Value.ownBlock]; omega
theorem OwnMany.cellSetN {R' : List Value → α → Prop} {gi c i j n : Nat} (h : OwnMany k e R w B (.slice (some ⟨gi, 0, none⟩) n c) ds) (hn : ds.length = n) (hi : i < ds.length) (hj : j < k) (u : Value) (d' : α)
    (hR : ∀ cs d, R cs d → R' cs d) (hd : ∀ cs, cs.length = k → R cs ds[i] → R' (cs.set j u) d') :
    OwnMany k e R' (w.setCell ⟨gi, i * k + j, none⟩ u) B (.slice (some ⟨gi, 0, none⟩) n c) (ds.set i d') := by
  subst hn
  exact OwnMany.cellSet h hi hj u d' hR hd
theorem OwnMany.cellsSetN {R' : List Value → α → Prop} {gi c i j n : Nat} (h : OwnMany k e R w B (.slice (some ⟨gi, 0, none⟩) n c) ds) (hn : ds.length = n) (hi : i < ds.length) (us : List Value) (hj : j + us.length ≤ k) (d' : α)
    (hR : ∀ cs d, R cs d → R' cs d) (hd : ∀ cs, cs.length = k → R cs ds[i] → R' (over cs j us) d') :
    OwnMany k e R' (w.setCells gi (i * k + j) us) B (.slice (some ⟨gi, 0, none⟩) n c) (ds.set i d') := by
  subst hn
  exact OwnMany.cellsSet h hi us hj d' hR hd
theorem OwnMany.thereN {gi c i j m n : Nat} (h : OwnMany k e R w B (.slice (some ⟨gi, 0, none⟩) n c) ds) (hn : ds.length = n) (hi : i < ds.length) (hj : j + m ≤ k) : w.there gi (i * k + j) m := by
  subst hn
  exact OwnMany.there h hi hj
theorem OwnMany.cellN {gi c i j n : Nat} (h : OwnMany k e R w B (.slice (some ⟨gi, 0, none⟩) n c) ds) (hn : ds.length = n) (hi : i < ds.length) (hj : j < k) :
    ∃ cs, cs.length = k ∧ R cs ds[i] ∧ w.cell? ⟨gi, i * k + j, none⟩ = cs[j]? ∧ w.frozen? ⟨gi, i * k + j, none⟩ = false := by
  subst hn
  exact OwnMany.cell h hi hj
/-- The row's block. -/
theorem OwnMany.boxOf {gi c n : Nat} (h : OwnMany k e R w B (.slice (some ⟨gi, 0, none⟩) n c) ds) : B ≤ gi ∧ gi < w.heap.size ∧ ∃ C, Box w gi e C := by
  obtain ⟨css, ho, _⟩ := h
  rcases ho.2 with ⟨h0, _⟩ | ⟨g, cap, cur, hv, hB, hx, _⟩
  · cases h0
  · injection hv with h1 h2 h3
    injection h1 with h1
    injection h1 with h1
    subst h1
    exact ⟨hB, Box.lt hx, cur, hx⟩
theorem setCells_size (b : Nat) : ∀ (us : List Value) (o : Nat) (w : World), (w.setCells b o us).heap.size = w.heap.size
  | [], _, _ => rfl
  | u :: us, o, w => by rw [World.setCells, setCells_size b us, setCell_size]
theorem Only.setCells {g : Nat} {w0 : World} : ∀ (us : List Value) (o : Nat) {w : World}, Only g w0 w → Only g w0 (w.setCells g o us)
  | [], _, _, h => h
  | u :: us, o, _, h => Only.setCells us (o + 1) (h.set o u)
theorem box_setCells {g t : Nat} : ∀ (us : List Value) (o : Nat) {w : World} {C : Array Value}, Box w g t C → ∃ C', Box (w.setCells g o us) g t C' ∧ C'.size = C.size
  | [], _, _, C, h => ⟨C, h, rfl⟩
  | u :: us, o, _, C, h => by
    obtain ⟨C', h1, h2⟩ := box_setCells us (o + 1) (h.set o u)
    exact ⟨C', h1, by rw [h2]; simp⟩
theorem Keeps.setCells {ts : List Nat} {g t : Nat} {C : Array Value} (hb : Box w g t C) (he : t ∉ ts) (o : Nat) (us : List Value) : Keeps ts w (w.setCells g o us) :=
  Keeps.of_only (Only.setCells us o (Only.refl g w)) hb he
/-- A row that was made with nothing in it. -/
theorem OwnMany.empty (k : Nat) (R : List Value → α → Prop) {g : Nat} (h : Box w g e #[]) (hB : B ≤ g) : OwnMany k e R w B (.slice (some ⟨g, 0, none⟩) 0 0) [] :=
  ⟨[], ⟨by simp, .inr ⟨g, 0, #[], rfl, hB, h, Nat.le_refl _, by unfold maxLen; omega, by simp, by simp⟩⟩, rfl, fun i cs d h1 => by simp at h1⟩
/-- A row that was made with these elements. -/
theorem OwnMany.made {g : Nat} (css : List (List Value)) (h : Box w g e css.flatten.toArray) (hB : B ≤ g) (hl : css.length = ds.length) (hm : ds.length ≤ maxLen) (hr : ∀ (i : Nat) cs d, css[i]? = some cs → ds[i]? = some d → cs.length = k ∧ R cs d) :
    OwnMany k e R w B (.slice (some ⟨g, 0, none⟩) ds.length ds.length) ds := by
  have hk : ∀ cs ∈ css, cs.length = k := fun cs hc => by
    obtain ⟨i, hi, rfl⟩ := List.mem_iff_getElem.1 hc
    exact (hr i _ (ds[i]'(by omega)) (List.getElem?_eq_getElem hi) (List.getElem?_eq_getElem (by omega))).1
  have hf : css.flatten.length = ds.length * k := by
    rw [← hl]
    clear hr h hl
    induction css with
    | nil => simp
    | cons c r ih =>
      rw [List.flatten_cons, List.length_append, ih fun cs hc => hk cs (List.mem_cons_of_mem _ hc), hk c (by simp), List.length_cons, Nat.succ_mul]
      omega
  exact ⟨css, ⟨hf, .inr ⟨g, ds.length, _, rfl, hB, h, Nat.le_refl _, hm, by rw [List.size_toArray, hf], by rw [List.take_of_length_le (by rw [List.toList_toArray, hf]; exact Nat.le_refl _)]⟩⟩, hl, hr⟩
theorem flatten_len {k : Nat} : ∀ (css : List (List Value)), (∀ c ∈ css, c.length = k) → css.flatten.length = css.length * k
  | [], _ => by simp
  | c :: r, h => by
    rw [List.flatten_cons, List.length_append, flatten_len r fun x hx => h x (List.mem_cons_of_mem _ hx), h c (by simp), List.length_cons, Nat.succ_mul]
    omega
/-- append(v, x...), the source any row of such elements that is not empty. -/
theorem wp_append_rows {P : Program} {w : World} {o : Oper} {a : Act} {K : Act → World → Prop} {Q : Exit → Act → World → Prop} {α : Type} {k e : Nat} {R RR : World → List Value → α → Prop} (s x : Operand) (t : TypeId)
    (ho : o.op = .call { callee := .builtin .append, args := #[s, x], argTypes := #[t, t] })
    (B : Nat) (i : TypeInfo) (z : Value) (bytes : Nat) (ht : P.underlying t = some (.slice e)) (hi : P.info? e = some i) (hz : i.zero = some z) (hsize : i.size = k) (hby : i.bytes = bytes) (hzs : z.cells.size = k) (hk0 : 0 < k)
    (v : Value) (ds : List α) (hs : a.eval s = v) (hown : OwnMany k e (R w) w B v ds)
    (u : Value) (xs : List α) (hx : a.eval x = u) (hsrc : Many k RR w u xs) (hne : xs ≠ []) (hRR : ∀ cs d, RR w cs d → R w cs d) (h1 : ∀ cs d, RR w cs d → ∀ y ∈ cs, y.oneCell' = true)
    (hn : ds.length + xs.length ≤ 1000) (hb100 : bytes ≤ 1000) (hB : B ≤ w.heap.size) (ts : List Nat) (he : e ∉ ts) (hst : ∀ w' cs d, Keeps ts w w' → R w cs d → R w' cs d)
    (h : ∀ v' w', OwnMany k e (R w') w' B v' (ds ++ xs) → w.grownBy w' v.ownBlock → Keeps ts w w' → K (a.put o.dst v') w') : o.wp P a w K Q := by
  obtain ⟨css, hrow, hcl, hlen, hr⟩ := hown.lens
  obtain ⟨A, c, rfl, hxc, hxm, hA, hxr⟩ := hsrc
  obtain ⟨b, off, rfl, hb, hat⟩ := hxr hne
  have hex : ∀ n, n ≤ xs.length → ∃ cs2 : List (List Value), cs2.length = n ∧ ∀ (j : Nat) cs d, cs2[j]? = some cs → xs[j]? = some d → cs.length = k ∧ w.rangeAt b (off + j * k) cs ∧ RR w cs d := by
    intro n
    induction n with
    | zero => intro _; exact ⟨[], rfl, fun j cs d h1 => by simp at h1⟩
    | succ n ih =>
      intro hn
      obtain ⟨cs2, h2, h3⟩ := ih (by omega)
      obtain ⟨cs, hk, hc, hrr⟩ := hat n xs[n] (List.getElem?_eq_getElem (by omega))
      refine ⟨cs2 ++ [cs], by simp [h2], fun j cs' d h4 h5 => ?_⟩
      by_cases hj : j < cs2.length
      · rw [List.getElem?_append_left hj] at h4
        exact h3 j cs' d h4 h5
      · rw [List.getElem?_append_right (by omega)] at h4
        have hj0 : j - cs2.length = 0 := by
          have := (List.getElem?_eq_some_iff.1 h4).1
          simp at this
          omega
        rw [hj0] at h4
        simp only [List.getElem?_cons_zero, Option.some.injEq] at h4
        subst h4
        obtain rfl : j = n := by omega
        rw [List.getElem?_eq_getElem (by omega)] at h5
        have e5 := Option.some.inj h5
        subst e5
        exact ⟨hk, hc, hrr⟩
  obtain ⟨cs2, hl2, hr2⟩ := hex xs.length (Nat.le_refl _)
  have hk2 : ∀ c ∈ cs2, c.length = k := fun c hc => by
    obtain ⟨j, hj, rfl⟩ := List.mem_iff_getElem.1 hc
    exact (hr2 j _ (xs[j]'(by omega)) (List.getElem?_eq_getElem hj) (List.getElem?_eq_getElem (by omega))).1
  have hf2 := flatten_len cs2 hk2
  have hbytes : (ds.length + xs.length) * bytes ≤ 140737488355328 := Nat.le_trans (Nat.mul_le_mul hn hb100) (by decide)
  refine wp_append_own w s x t ho B e i z k bytes ht hi hz hsize hby hzs hk0 v ds.length css.flatten hs hrow ⟨b, off, none⟩ xs.length c cs2.flatten hx (by rw [hf2, hl2]) (fun j y hj => ?_) ?_ (by unfold maxLen; omega) hbytes hB (fun v' w' h2 h3 _ => ?_)
  · have hjl : j < xs.length * k := by rw [← hl2, ← hf2]; exact (List.getElem?_eq_some_iff.1 hj).1
    have hq : j / k < xs.length := Nat.div_lt_of_lt_mul (by rw [Nat.mul_comm]; exact hjl)
    have hm : j % k < k := Nat.mod_lt _ hk0
    have e1 : j = j / k * k + j % k := by have := Nat.div_add_mod j k; rw [Nat.mul_comm] at this; omega
    have hc2 : cs2[j / k]? = some (cs2[j / k]'(by omega)) := List.getElem?_eq_getElem (by omega)
    have h4 := flatten_at cs2 (j / k) (j % k) _ hk2 hc2 hm
    rw [← e1, hj] at h4
    have h5 := (hr2 _ _ _ hc2 (List.getElem?_eq_getElem hq)).2.1 (j % k) y h4.symm
    have e2 : (⟨b, off, none⟩ : Addr).add j = ⟨b, off + j, none⟩ := Addr.add_mid b off j
    rw [e2, show off + j = off + j / k * k + j % k by omega]
    exact h5
  · intro y hy
    obtain ⟨cs, hcs, hyc⟩ := List.mem_flatten.1 hy
    obtain ⟨j, hj, rfl⟩ := List.mem_iff_getElem.1 hcs
    exact h1 _ _ (hr2 j _ (xs[j]'(by omega)) (List.getElem?_eq_getElem hj) (List.getElem?_eq_getElem (by omega))).2.2 y hyc
  · have hkp : Keeps ts w w' := Keeps.of_own h3 hrow he
    refine h v' w' ⟨css ++ cs2, by rw [List.length_append, List.flatten_append]; exact h2, by simp [hcl, hl2], fun j cs d h4 h5 => ?_⟩ h3 hkp
    by_cases hj : j < css.length
    · rw [List.getElem?_append_left hj] at h4
      rw [List.getElem?_append_left (by omega)] at h5
      exact ⟨hlen _ (List.mem_of_getElem? h4), hst _ _ _ hkp (hr j cs d h4 h5)⟩
    · rw [List.getElem?_append_right (by omega)] at h4
      rw [List.getElem?_append_right (by omega), ← hcl] at h5
      have := hr2 _ _ _ h4 h5
      exact ⟨this.1, hst _ _ _ hkp (hRR _ _ this.2.2)⟩
theorem step_append_rows {P : Program} {w : World} {ops : Array Oper} {o : Oper} {a : Act} {K : Act → World → Prop} {Q : Exit → Act → World → Prop} {E : Prop} (hgd : o.guard = none) {α : Type} {k e : Nat} {R RR : World → List Value → α → Prop} (s x : Operand) (t : TypeId)
    (ho : o.op = .call { callee := .builtin .append, args := #[s, x], argTypes := #[t, t] })
    (B : Nat) (i : TypeInfo) (z : Value) (bytes : Nat) (ht : P.underlying t = some (.slice e)) (hi : P.info? e = some i) (hz : i.zero = some z) (hsize : i.size = k) (hby : i.bytes = bytes) (hzs : z.cells.size = k) (hk0 : 0 < k)
    (v : Value) (ds : List α) (hs : a.eval s = v) (hown : OwnMany k e (R w) w B v ds)
    (u : Value) (xs : List α) (hx : a.eval x = u) (hsrc : Many k RR w u xs) (hne : xs ≠ []) (hRR : ∀ cs d, RR w cs d → R w cs d) (h1 : ∀ cs d, RR w cs d → ∀ y ∈ cs, y.oneCell' = true)
    (hn : ds.length + xs.length ≤ 1000) (hb100 : bytes ≤ 1000) (hB : B ≤ w.heap.size) (ts : List Nat) (he : e ∉ ts) (hst : ∀ w' cs d, Keeps ts w w' → R w cs d → R w' cs d)
    (h : ∀ v' w', OwnMany k e (R w') w' B v' (ds ++ xs) → w.grownBy w' v.ownBlock → Keeps ts w w' → K (a.put o.dst v') w') : if Region.wanted o (yielded ops a.tmps) = true then Oper.wp P o a w K Q else E := by
  have hwd : Region.wanted o (yielded ops a.tmps) = true := by simp [Region.wanted, hgd]
  rw [if_pos hwd]
  exact wp_append_rows s x t ho B i z bytes ht hi hz hsize hby hzs hk0 v ds hs hown u xs hx hsrc hne hRR h1 hn hb100 hB ts he hst h
theorem wpList_append_rows {P : Program} {w : World} {ops : Array Oper} {rest : List Oper} {o : Oper} {a : Act} {Q : Exit → Act → World → Prop} (hgd : o.guard = none) {α : Type} {k e : Nat} {R RR : World → List Value → α → Prop} (s x : Operand) (t : TypeId)
    (ho : o.op = .call { callee := .builtin .append, args := #[s, x], argTypes := #[t, t] })
    (B : Nat) (i : TypeInfo) (z : Value) (bytes : Nat) (ht : P.underlying t = some (.slice e)) (hi : P.info? e = some i) (hz : i.zero = some z) (hsize : i.size = k) (hby : i.bytes = bytes) (hzs : z.cells.size = k) (hk0 : 0 < k)
    (v : Value) (ds : List α) (hs : a.eval s = v) (hown : OwnMany k e (R w) w B v ds)
    (u : Value) (xs : List α) (hx : a.eval x = u) (hsrc : Many k RR w u xs) (hne : xs ≠ []) (hRR : ∀ cs d, RR w cs d → R w cs d) (h1 : ∀ cs d, RR w cs d → ∀ y ∈ cs, y.oneCell' = true)
    (hn : ds.length + xs.length ≤ 1000) (hb100 : bytes ≤ 1000) (hB : B ≤ w.heap.size) (ts : List Nat) (he : e ∉ ts) (hst : ∀ w' cs d, Keeps ts w w' → R w cs d → R w' cs d)
    (h : ∀ v' w', OwnMany k e (R w') w' B v' (ds ++ xs) → w.grownBy w' v.ownBlock → Keeps ts w w' → wpList P ops Q rest (a.put o.dst v') w') : wpList P ops Q (o :: rest) a w :=
  wpList_plain hgd fun _ hK => wp_append_rows s x t ho B i z bytes ht hi hz hsize hby hzs hk0 v ds hs hown u xs hx hsrc hne hRR h1 hn hb100 hB ts he hst fun v' w' h2 h3 h4 => hK _ _ (h v' w' h2 h3 h4)
end
end Go.Proofs.Ytdemamipllfonaa
