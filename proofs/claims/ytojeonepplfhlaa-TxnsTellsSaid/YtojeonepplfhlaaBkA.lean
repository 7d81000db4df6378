/- Transactions read one behind the other; without their witnesses they have the bytes of their base. No program. -/
import Derived.Test.YtojeonepplfhlaaOwA
namespace Go.Proofs.Ytojeonepplfhlaa
open Go.RowKit

theorem bytesOf_enc {t : TxD} (h : MayF t) : bytesOf t = encTx t (witT t) := if_pos ((mayB_iff t).2 h)
theorem baseOf_enc {t : TxD} (h : MayF t) : baseOf t = encTx t false := if_pos ((mayB_iff t).2 h)
theorem pRead_back (t : TxD) (rest : List Int) (hm : MayF t) (hf : TxFit t) : pRead (bytesOf t ++ rest) false = ((t, true), rest, false) := by
  unfold pRead
  rw [bytesOf_enc hm, pTx_back t rest hm hf]
  rfl
/-- Without its witnesses. -/
def stripT (t : TxD) : TxD := { t with ins := t.ins.map strip }
theorem stripT_may {t : TxD} (h : MayF t) : MayF (stripT t) := by
  refine ⟨by simpa [stripT] using h.i1, by simpa [stripT] using h.i50, h.o1, h.o50, fun d hd => ?_, fun d hd => ?_, fun d hd x hx => ?_, h.osc⟩
  all_goals
    obtain ⟨d', hd', rfl⟩ := List.mem_map.1 hd
  · exact h.isc d' hd'
  · exact Nat.zero_le _
  · cases hx
theorem stripT_wit (t : TxD) : witT (stripT t) = false := by
  unfold witT stripT
  simp only [List.any_map, List.any_eq_false]
  intro d _
  simp [strip, witB]
theorem stripT_bytes {t : TxD} (h : MayF t) : bytesOf (stripT t) = baseOf t := by
  rw [bytesOf_enc (stripT_may h), stripT_wit, baseOf_enc h]
  unfold encTx
  have h1 : flat encIn (stripT t).ins = flat encIn t.ins := by
    unfold flat stripT
    simp only [List.map_map]
    rfl
  rw [h1]
  simp [stripT]
/-- With witnesses the bytes are others than those of the base. -/
theorem bytes_base {t : TxD} (h : MayF t) : decide (bytesOf t = baseOf t) = !witT t := by
  rw [bytesOf_enc h, baseOf_enc h]
  cases hw : witT t with
  | false => simp
  | true =>
    have hne : ¬ encTx t true = encTx t false := fun e => by
      have := congrArg List.length e
      unfold encTx at this
      simp at this
      omega
    simp [hne]
theorem bytes_same {a b : TxD} (ha : MayF a) (hb : MayF b) (fa : TxFit a) (fb : TxFit b) : decide (bytesOf a = bytesOf b) = decide (a = b) := by
  rw [Bool.eq_iff_iff]
  simp only [decide_eq_true_eq]
  exact ⟨bytesOf_inj a b ha hb fa fb, fun e => by rw [e]⟩

theorem flatten_set2 {k : Nat} : ∀ (css : List (List Value)) (i j : Nat) (u : Value), (∀ c ∈ css, c.length = k) → j < k → i < css.length → css.flatten.set (i * k + j) u = (css.set i ((css.getD i []).set j u)).flatten
  | [], i, j, u, _, _, h => by simp at h
  | c :: r, 0, j, u, hk, hj, _ => by
    have hc : c.length = k := hk c (by simp)
    simp only [List.flatten_cons, Nat.zero_mul, Nat.zero_add, List.set_cons_zero, List.getD_cons_zero]
    rw [List.set_append, if_pos (by omega)]
  | c :: r, i + 1, j, u, hk, hj, hi => by
    have hc : c.length = k := hk c (by simp)
    simp only [List.length_cons] at hi
    simp only [List.flatten_cons, List.set_cons_succ, List.getD_cons_succ]
    rw [List.set_append, if_neg (by rw [hc, Nat.succ_mul]; omega), hc, show (i + 1) * k + j - k = i * k + j by rw [Nat.succ_mul]; omega,
      flatten_set2 r i j u (fun c hc => hk c (List.mem_cons_of_mem _ hc)) hj (by omega)]
section
set_option maxRecDepth 100000
variable {w : World} {B : Nat}
/-- One cell of one element turned. -/
theorem OwnMany.cellSet {α : Type} {k e gi c i j : Nat} {R R' : List Value → α → Prop} {ds : List α} (h : OwnMany k e R w B (.slice (some ⟨gi, 0, none⟩) ds.length c) ds) (hi : i < ds.length) (hj : j < k) (u : Value) (d' : α)
    (hR : ∀ cs d, R cs d → R' cs d) (hd : ∀ cs, cs.length = k → R cs ds[i] → R' (cs.set j u) d') :
    OwnMany k e R' (w.setCell ⟨gi, i * k + j, none⟩ u) B (.slice (some ⟨gi, 0, none⟩) ds.length c) (ds.set i d') := by
  obtain ⟨css, ho, hcl, hlen, hr⟩ := h.lens
  have hci : i < css.length := by omega
  have hb : i * k + j < ds.length * k := Nat.lt_of_lt_of_le (Nat.add_lt_add_left hj _) (by rw [← Nat.succ_mul]; exact Nat.mul_le_mul_right k hi)
  refine ⟨css.set i ((css.getD i []).set j u), ?_, by simp [hcl], fun q cs d h1 h2 => ?_⟩
  · rw [← flatten_set2 css i j u hlen hj hci, List.length_set]
    rcases ho.2 with ⟨h0, hn⟩ | ⟨g, cap, cur, hv, hB, hx, hc, hm, hs, ht⟩
    · cases h0
    · injection hv with hv1 hv2 hv3
      injection hv1 with hv1
      injection hv1 with hv1
      subst hv1
      subst hv3
      refine ⟨by rw [List.length_set]; exact ho.1, .inr ⟨gi, c, _, rfl, hB, Box.set hx _ _, hc, hm, by rw [Array.size_setIfInBounds]; exact hs, ?_⟩⟩
      rw [Array.toList_setIfInBounds, List.take_set, ht]
  · rw [List.getElem?_set] at h1 h2
    by_cases hq : i = q
    · subst hq
      rw [if_pos rfl, if_pos hci] at h1
      rw [if_pos rfl, if_pos hi] at h2
      injection h1 with h1
      injection h2 with h2
      subst h1
      subst h2
      have hcs : css[i]? = some css[i] := List.getElem?_eq_getElem hci
      have hg : css.getD i [] = css[i] := by rw [List.getD_eq_getElem?_getD, hcs]; rfl
      rw [hg]
      exact ⟨by rw [List.length_set]; exact hlen _ (List.getElem_mem hci), hd _ (hlen _ (List.getElem_mem hci)) (hr i _ _ hcs (List.getElem?_eq_getElem hi))⟩
    · rw [if_neg hq] at h1 h2
      exact ⟨hlen _ (List.mem_of_getElem? h1), hR _ _ (hr q cs d h1 h2)⟩
/-- A row with elements lies in a block of its own. -/
theorem OwnMany.box {α : Type} {k e : Nat} {R : List Value → α → Prop} {v : Value} {ds : List α} (h : OwnMany k e R w B v ds) (hl : 0 < ds.length) :
    ∃ gi c, v = .slice (some ⟨gi, 0, none⟩) ds.length c ∧ ds.length ≤ c ∧ B ≤ gi ∧ gi < w.heap.size ∧ ∃ C, Box w gi e C := by
  obtain ⟨css, ho, hcl, hlen, hr⟩ := h.lens
  rcases ho.2 with ⟨_, hn⟩ | ⟨g, cap, cur, rfl, hB, hx, hc, hm, hs, ht⟩
  · omega
  · exact ⟨g, cap, rfl, hc, hB, Box.lt hx, cur, hx⟩
/-- One cell of one element. -/
theorem OwnMany.cell {α : Type} {k e gi c i j : Nat} {R : List Value → α → Prop} {ds : List α} (h : OwnMany k e R w B (.slice (some ⟨gi, 0, none⟩) ds.length c) ds) (hi : i < ds.length) (hj : j < k) :
    ∃ cs, cs.length = k ∧ R cs ds[i] ∧ w.cell? ⟨gi, i * k + j, none⟩ = cs[j]? ∧ w.frozen? ⟨gi, i * k + j, none⟩ = false := by
  obtain ⟨css, ho, hcl, hlen, hr⟩ := h.lens
  have hci : i < css.length := by omega
  have hcs : css[i]? = some css[i] := List.getElem?_eq_getElem hci
  have hb : i * k + j < ds.length * k := Nat.lt_of_lt_of_le (Nat.add_lt_add_left hj _) (by rw [← Nat.succ_mul]; exact Nat.mul_le_mul_right k hi)
  rcases ho.2 with ⟨h0, hn⟩ | ⟨g, cap, cur, hv, hB, hx, hc, hm, hs, ht⟩
  · cases h0
  · injection hv with hv1 hv2 hv3
    injection hv1 with hv1
    injection hv1 with hv1
    subst hv1
    refine ⟨css[i], hlen _ (List.getElem_mem hci), hr i _ _ hcs (List.getElem?_eq_getElem hi), ?_, Box.warm hx _⟩
    have h1 := flatten_at css i j _ hlen hcs hj
    rw [← ht, List.getElem?_take, if_pos hb] at h1
    rw [Box.cell hx, ← h1]
    simp
end
end Go.Proofs.Ytojeonepplfhlaa
