/- The transactions of StatWeight, and single elements of rows. No function. -/
import Derived.Test.YtbnclajhgkjopaaStJ
namespace Go.Proofs.Ytbnclajhgkjopaa
open Go.RowKit

section
set_option maxRecDepth 100000
variable {w w' : World} {B : Nat} {α : Type} {k e : Nat} {R : List Value → α → Prop} {v : Value} {ds : List α}
/-- A row of one element, by its cells. -/
theorem OwnMany.single {d : α} (h : OwnMany k e R w B v [d]) : ∃ cs, cs.length = k ∧ R cs d ∧ OwnMany k e (fun c x => c = cs ∧ x = d) w B v [d] := by
  obtain ⟨css, ho, hl, hlen, hr⟩ := h.lens
  match css, hl with
  | [cs], _ =>
    have hk := hlen cs (by simp)
    refine ⟨cs, hk, hr 0 cs d rfl rfl, [cs], ho, rfl, fun i c x h1 h2 => ?_⟩
    match i, h1, h2 with
    | 0, h1, h2 =>
      obtain rfl := Option.some.inj h1
      obtain rfl := Option.some.inj h2
      exact ⟨hk, rfl, rfl⟩
    | i + 1, h1, _ => simp at h1
/-- The cells of one element. -/
theorem OwnMany.rangeN {gi c n i : Nat} (h : OwnMany k e R w B (.slice (some ⟨gi, 0, none⟩) n c) ds) (hi : i < ds.length) : ∃ cs, cs.length = k ∧ R cs ds[i] ∧ w.rangeAt gi (i * k) cs := by
  obtain ⟨css, ho, hl, hlen, hr⟩ := h.lens
  have hc0 : css[i]? = some (css[i]'(by omega)) := List.getElem?_eq_getElem (by omega)
  have hk0 := hlen _ (List.getElem_mem (show i < css.length by omega))
  refine ⟨_, hk0, hr i _ _ hc0 (List.getElem?_eq_getElem hi), fun j u hj => ?_⟩
  have hjk : j < k := by rw [← hk0]; exact (List.getElem?_eq_some_iff.1 hj).1
  rcases ho.2 with ⟨h0, _⟩ | ⟨gg, cap, cur, hv0, hB, hx0, hc, hm, hs, ht⟩
  · cases h0
  · injection hv0 with e1 e2 e3
    injection e1 with e1
    injection e1 with e1
    subst e1
    have h1 := flatten_at css i j _ hlen hc0 hjk
    have hlt : i * k + j < ds.length * k := Nat.lt_of_lt_of_le (Nat.add_lt_add_left hjk _) (by rw [← Nat.succ_mul]; exact Nat.mul_le_mul_right k hi)
    rw [hj, ← ht, List.getElem?_take, if_pos hlt] at h1
    rw [Box.cell hx0]
    simpa using h1
end

def wIn (L k : Nat) : InD := { goodIn 2 0 with wit := List.replicate k (zeros L) }
def wIns (L k n : Nat) : List InD := wIn L k :: (List.range n).map fun j => { wIn L k with vout := 101 + j }
def wOut : OutD := ⟨9000, scriptOf 1⟩
def wOuts (j : Nat) : List OutD := (goodOf 1 2).outs ++ List.replicate j wOut
def wT (L k n j : Nat) : TxD := { goodOf 1 2 with ins := wIns L k n, outs := wOuts j }
theorem good12 : (goodOf 1 2).ins = [goodIn 2 0] ∧ (goodOf 1 2).outs.length = 1 ∧ (goodOf 1 2).version = 3 ∧ (goodOf 1 2).lock = 0 := by
  refine ⟨rfl, rfl, rfl, rfl⟩
theorem wIns_len (L k n : Nat) : (wIns L k n).length = n + 1 := by simp [wIns]
theorem wOuts_len (j : Nat) : (wOuts j).length = j + 1 := by simp [wOuts, good12.2.1]; omega
theorem wIns_succ (L k n : Nat) : wIns L k (n + 1) = wIns L k n ++ [{ wIn L k with vout := 101 + n }] := by simp [wIns, List.range_succ]
theorem wOuts_succ (j : Nat) : wOuts (j + 1) = wOuts j ++ [wOut] := by simp [wOuts, List.replicate_succ']
theorem wIns_mem {L k n : Nat} {d : InD} (h : d ∈ wIns L k n) : d.prev = (goodIn 2 0).prev ∧ d.script = (goodIn 2 0).script ∧ d.wit = List.replicate k (zeros L) := by
  rcases List.mem_cons.1 h with rfl | h
  · exact ⟨rfl, rfl, rfl⟩
  · obtain ⟨j, _, rfl⟩ := List.mem_map.1 h
    exact ⟨rfl, rfl, rfl⟩
theorem wIns_vout {L k n : Nat} {i : Nat} (h : i < n + 1) : ((wIns L k n).getD i default).vout = if i = 0 then (goodIn 2 0).vout else 100 + i := by
  rw [getD_at (by rw [wIns_len]; exact h)]
  cases i with
  | zero => rfl
  | succ i => simp [wIns]; omega
theorem in2_vout : (goodIn 2 0).vout = 0 := by decide +kernel
theorem wIns_null (L k n : Nat) : (wIns L k n).any nullB = false := by
  rw [List.any_eq_false]
  intro d hd
  have h := (wIns_mem hd).1
  unfold nullB
  rw [decide_eq_true_eq]
  rintro ⟨h1, _⟩
  have h2 := goodIn_31 2 0
  rw [← h, h1] at h2
  simp [zeros, List.getD_eq_getElem?_getD] at h2
theorem wIns_twice (L k n : Nat) : twiceB (wIns L k n) = false := by
  refine dup_none _ fun i j hj hi => ?_
  rw [wIns_len] at hi
  unfold ptEq
  rw [decide_eq_false_iff_not]
  rintro ⟨_, h⟩
  rw [wIns_vout hi, wIns_vout (by omega), in2_vout] at h
  split at h <;> split at h <;> omega
theorem wOuts_nice (j : Nat) : NiceOuts (wOuts j) := by
  intro o ho
  rcases List.mem_append.1 ho with h | h
  · exact (good_outs 1 2).2 o h
  · obtain rfl := (List.mem_replicate.1 h).2
    exact ⟨by decide +kernel, by decide +kernel, by decide +kernel, by decide⟩
theorem wT_may {L k n j : Nat} (hL : L ≤ 500) (hk : k ≤ 10) (hn : n ≤ 49) (hj : j ≤ 31) : MayF (wT L k n j) := by
  have hok := (goodIn_ok 2 0)
  refine ⟨by show 1 ≤ (wIns L k n).length; rw [wIns_len]; omega, by show (wIns L k n).length ≤ 50; rw [wIns_len]; omega, by show 1 ≤ (wOuts j).length; rw [wOuts_len]; omega, by show (wOuts j).length ≤ 50; rw [wOuts_len]; omega, fun d hd => ?_, fun d hd => ?_, fun d hd x hx => ?_, fun d hd => ?_⟩
  · rw [(wIns_mem hd).2.1]
    have := hok.2.1
    omega
  · rw [(wIns_mem hd).2.2, List.length_replicate]
    exact hk
  · rw [(wIns_mem hd).2.2] at hx
    rw [(List.mem_replicate.1 hx).2]
    simpa [zeros] using hL
  · rcases List.mem_append.1 hd with h | h
    · have := (good_outs 1 2).1 d h
      omega
    · rw [(List.mem_replicate.1 h).2]
      decide +kernel
theorem code_weight {L k n j : Nat} (hL : L ≤ 500) (hk : k ≤ 10) (hn : n ≤ 49) (hj : j ≤ 31) : checkV (wT L k n j) = if 80000 < weightOf (wT L k n j) then 3 else 0 := by
  have hm := wT_may hL hk hn hj
  have hv := good12.2.2.1
  by_cases hw : 80000 < weightOf (wT L k n j)
  · rw [if_pos hw]
    unfold checkV
    rw [(mayB_iff _).2 hm, if_neg (by simp), if_neg, if_pos hw]
    show ¬ ((goodOf 1 2).version = 0 ∨ 3 < (goodOf 1 2).version)
    omega
  · rw [if_neg hw, checkV_eq hm ⟨by show ¬ (goodOf 1 2).version = 0; omega, by show (goodOf 1 2).version ≤ 3; omega⟩ (by omega)]
    have h1 := wIns_null L k n
    have h2 := wIns_twice L k n
    have h3 := wOuts_nice j
    rw [show (wT L k n j).ins = wIns L k n from rfl, show (wT L k n j).outs = wOuts j from rfl, h1, h2, h3.kind.1, h3.kind.2, h3.sum (by rw [wOuts_len]; omega), h3.dusts]
    simp
theorem set_wit {d : InD} (h : d.prev.length = 32) (sv wv u : Value) (ll : List (List Int)) : (inCells d sv wv).set 35 u = inCells { d with wit := ll } sv u := by
  unfold inCells
  rw [List.set_append, if_neg (by simp [byteVals, h])]
  simp [byteVals, h]
set_option maxRecDepth 100000 in
theorem TxV.w {w : World} {B g L k n j : Nat} (h : TxV w B g (wT L k n j)) : ∃ gi ci go co, Box w g 26 #[.int .u32 3, .slice (some ⟨gi, 0, none⟩) (n + 1) ci, .slice (some ⟨go, 0, none⟩) (j + 1) co, .int .u32 0] ∧
    OwnMany 36 32 (InO w B) w B (.slice (some ⟨gi, 0, none⟩) (n + 1) ci) (wIns L k n) ∧ OwnMany 2 35 (OutF w B) w B (.slice (some ⟨go, 0, none⟩) (j + 1) co) (wOuts j) := by
  obtain ⟨gi, ci, go, co, hx, _, _, hi, ho⟩ := h.form (by show 0 < (wIns L k n).length; rw [wIns_len]; omega) (by show 0 < (wOuts j).length; rw [wOuts_len]; omega)
  have e1 : (wT L k n j).ins = wIns L k n := rfl
  have e2 : (wT L k n j).outs = wOuts j := rfl
  have e3 : (wT L k n j).version = 3 := good12.2.2.1
  have e4 : (wT L k n j).lock = 0 := good12.2.2.2
  rw [e1, e2, e3, e4, wIns_len, wOuts_len] at hx
  rw [e1, wIns_len] at hi
  rw [e2, wOuts_len] at ho
  exact ⟨gi, ci, go, co, hx, hi, ho⟩
set_option maxRecDepth 100000 in
theorem TxV.ofW {w : World} {B g L k n j : Nat} {iv ov : Value} (hx : Box w g 26 #[.int .u32 3, iv, ov, .int .u32 0]) (hi : OwnMany 36 32 (InO w B) w B iv (wIns L k n)) (ho : OwnMany 2 35 (OutF w B) w B ov (wOuts j)) : TxV w B g (wT L k n j) := by
  have e3 : (wT L k n j).version = 3 := good12.2.2.1
  have e4 : (wT L k n j).lock = 0 := good12.2.2.2
  refine ⟨iv, ov, ?_, by rw [e3]; omega, by rw [e4]; omega, hi, ho⟩
  rw [e3, e4]
  exact hx
theorem wOuts_zero : wOuts 0 = (goodOf 1 2).outs := List.append_nil _
theorem wIns_zero (L k : Nat) : wIns L k 0 = [wIn L k] := rfl
set_option maxRecDepth 100000 in
theorem wpList_buildIn {ops : Array Oper} {rest : List Oper} {o : Oper} {a : Act} {w : World} {Q : Exit → Act → World → Prop} (hgd : o.guard = none) (x : Operand) (ho : o.op = .buildSlice 23 1 #[(0, x)]) (cs : List Value) (hl : cs.length = 36) (hx : a.eval x = .agg cs.toArray)
    (h : wpList Try.prog ops Q rest (a.put o.dst (.slice (some ⟨w.heap.size, 0, none⟩) 1 1)) (w.alloc (.cells cs.toArray 32))) : wpList Try.prog ops Q (o :: rest) a w :=
  wpList_plain hgd fun _ hK => wp_buildIn x ho cs hl hx (hK _ _ h)
end Go.Proofs.Ytbnclajhgkjopaa
