/- Plain: what was told is read back. -/
import Derived.Test.YtojeonepplfhlaaTxN
namespace Go.Proofs.Ytojeonepplfhlaa
open Go.RowKit

theorem pText_back (x : List Int) (rest : List Int) (h : x.length ≤ 500) : pText (encText x ++ rest) false = (x, rest, false) := by
  unfold pText encText
  rw [List.append_assoc, count_back x.length (x ++ rest) 500 (by omega) (by omega)]
  simp only
  unfold took
  rw [if_pos (by simp), List.take_left, List.drop_left]
theorem pMany_back {α β : Type} (f : List Int → Bool → Rest β) (enc : α → List Int) (s : α → β) : ∀ (xs : List α) (rest : List Int), (∀ x ∈ xs, ∀ r, f (enc x ++ r) false = (s x, r, false)) → pMany f xs.length (flat enc xs ++ rest) false = (xs.map s, rest, false)
  | [], rest, _ => by simp [pMany, flat]
  | x :: xs, rest, h => by
    have e : flat enc (x :: xs) ++ rest = enc x ++ (flat enc xs ++ rest) := by simp [flat]
    rw [e, List.length_cons]
    unfold pMany
    rw [h x (by simp) _]
    simp only
    rw [pMany_back f enc s xs rest fun y hy => h y (List.mem_cons_of_mem _ hy)]
    rfl
theorem encRows_flat (ll : List (List Int)) : encRows ll = flat encText ll := rfl
theorem pWit_back (ll : List (List Int)) (rest : List Int) (h1 : ll.length ≤ 10) (h2 : ∀ x ∈ ll, x.length ≤ 500) : pWit (encWit ll ++ rest) false = (ll, rest, false) := by
  unfold pWit encWit
  rw [List.append_assoc, count_back ll.length (encRows ll ++ rest) 10 (by omega) (by omega)]
  simp only
  rw [encRows_flat, pMany_back pText encText id ll rest fun x hx r => pText_back x r (h2 x hx), List.map_id]
def strip (d : InD) : InD := { d with wit := [] }
theorem pIn_back (d : InD) (rest : List Int) (hf : d.Fit) (h : d.script.length ≤ 500) : pIn (encIn d ++ rest) false = (strip d, rest, false) := by
  have h4 : (256 : Nat) ^ 4 = 4294967296 := by decide
  have e : encIn d ++ rest = d.prev ++ (leb d.vout 4 ++ (encText d.script ++ (leb d.seq 4 ++ rest))) := by simp [encIn]
  unfold pIn
  rw [e]
  have ht : took (d.prev ++ (leb d.vout 4 ++ (encText d.script ++ (leb d.seq 4 ++ rest)))) false 32 = (d.prev, leb d.vout 4 ++ (encText d.script ++ (leb d.seq 4 ++ rest)), false) := by
    unfold took
    rw [if_pos (by simp [hf.plen]), ← hf.plen, List.take_left, List.drop_left]
  rw [ht]
  simp only
  rw [num_app _ _ false 4 (leb_len _ _)]
  simp only
  rw [pText_back d.script _ h]
  simp only
  rw [num_app _ _ false 4 (leb_len _ _), le_leb_of d.vout 4 (by rw [h4]; exact hf.vlt), le_leb_of d.seq 4 (by rw [h4]; exact hf.slt)]
  simp only [prevOf, if_pos hf.plen, strip]
theorem pOut_back (d : OutD) (rest : List Int) (hv : d.value < 18446744073709551616) (h : d.script.length ≤ 500) : pOut (encOut d ++ rest) false = (d, rest, false) := by
  have h8 : (256 : Nat) ^ 8 = 18446744073709551616 := by decide
  have e : encOut d ++ rest = leb d.value 8 ++ (encText d.script ++ rest) := by simp [encOut]
  unfold pOut
  rw [e, num_app _ _ false 8 (leb_len _ _)]
  simp only
  rw [pText_back d.script _ h, le_leb_of d.value 8 (by rw [h8]; exact hv)]
theorem setWits_back : ∀ ds : List InD, setWits (ds.map strip) (ds.map (·.wit)) = ds
  | [] => rfl
  | d :: ds => by
    simp only [List.map_cons, setWits, setWits_back ds]
    rfl
theorem strip_id {ds : List InD} (h : ds.any witB = false) : ds.map strip = ds := by
  rw [List.any_eq_false] at h
  conv => rhs; rw [← List.map_id ds]
  apply List.map_congr_left
  intro d hd
  have h1 := h d hd
  unfold witB at h1
  have h2 : d.wit = [] := by
    cases hw : d.wit with
    | nil => rfl
    | cons a b => rw [hw] at h1; simp at h1
  cases d
  simp only at h2
  subst h2
  rfl
/-- The numbers of a transaction are such. -/
structure TxFit (t : TxD) : Prop where
  vlt : t.version < 4294967296
  klt : t.lock < 4294967296
  ins : ∀ d ∈ t.ins, d.Fit
  outs : ∀ d ∈ t.outs, d.value < 18446744073709551616
theorem pBody_back (t : TxD) (rest : List Int) (hm : MayF t) (hf : TxFit t) (wh : Bool) (hw : wh = witT t) :
    pBody t.version wh (t.ins.length, flat encIn t.ins ++ (cnt t.outs.length ++ (flat encOut t.outs ++ ((if wh then flat encWits t.ins else []) ++ (leb t.lock 4 ++ rest)))), false) = ((t, true), rest, false) := by
  have h4 : (256 : Nat) ^ 4 = 4294967296 := by decide
  unfold pBody
  simp only
  rw [pMany_back pIn encIn strip t.ins _ fun d hd r => pIn_back d r (hf.ins d hd) (hm.isc d hd)]
  simp only
  rw [count_back t.outs.length _ 50 (by have := hm.o50; omega) (by have := hm.o50; omega)]
  simp only
  rw [pMany_back pOut encOut id t.outs _ fun d hd r => pOut_back d r (hf.outs d hd) (hm.osc d hd), List.map_id]
  simp only
  have hmay : mayB t = true := (mayB_iff t).2 hm
  cases wh with
  | true =>
    simp only [if_true]
    rw [List.length_map, pMany_back pWit encWits (fun d => d.wit) t.ins _ fun d hd r => pWit_back d.wit r (hm.iwl d hd) (hm.iwx d hd)]
    simp only
    rw [num_app _ _ false 4 (leb_len _ _), le_leb_of t.lock 4 (by rw [h4]; exact hf.klt), setWits_back]
    simp only
    rw [show (⟨t.version, t.ins, t.outs, t.lock⟩ : TxD) = t from rfl, hmay, ← hw]
    rfl
  | false =>
    simp only [Bool.false_eq_true, if_false, List.nil_append]
    rw [num_app _ _ false 4 (leb_len _ _), le_leb_of t.lock 4 (by rw [h4]; exact hf.klt), strip_id (ds := t.ins) hw.symm]
    simp only
    rw [show (⟨t.version, t.ins, t.outs, t.lock⟩ : TxD) = t from rfl, hmay, ← hw]
    rfl
theorem pTx_back (t : TxD) (rest : List Int) (hm : MayF t) (hf : TxFit t) : pTx (encTx t (witT t) ++ rest) false = ((t, true), rest, false) := by
  have h4 : (256 : Nat) ^ 4 = 4294967296 := by decide
  have hb := pBody_back t rest hm hf (witT t) rfl
  unfold pTx encTx
  generalize witT t = wh at *
  cases wh with
  | false =>
    have e : leb t.version 4 ++ ((if false = true then [0, 1] else []) ++ (cnt t.ins.length ++ (flat encIn t.ins ++ (cnt t.outs.length ++ (flat encOut t.outs ++ ((if false = true then flat encWits t.ins else []) ++ leb t.lock 4)))))) ++ rest
        = leb t.version 4 ++ (cnt t.ins.length ++ (flat encIn t.ins ++ (cnt t.outs.length ++ (flat encOut t.outs ++ (([] : List Int) ++ (leb t.lock 4 ++ rest)))))) := by simp
    rw [e, num_app _ _ false 4 (leb_len _ _)]
    simp only
    rw [count_back t.ins.length _ 50 (by have := hm.i50; omega) (by have := hm.i50; omega)]
    simp only
    rw [if_neg (by have := hm.i1; omega), le_leb_of t.version 4 (by rw [h4]; exact hf.vlt)]
    exact hb
  | true =>
    have e : leb t.version 4 ++ ((if true = true then [0, 1] else []) ++ (cnt t.ins.length ++ (flat encIn t.ins ++ (cnt t.outs.length ++ (flat encOut t.outs ++ ((if true = true then flat encWits t.ins else []) ++ leb t.lock 4)))))) ++ rest
        = leb t.version 4 ++ (cnt 0 ++ (cnt 1 ++ (cnt t.ins.length ++ (flat encIn t.ins ++ (cnt t.outs.length ++ (flat encOut t.outs ++ (flat encWits t.ins ++ (leb t.lock 4 ++ rest)))))))) := by
      simp [show cnt 0 = [0] by decide, show cnt 1 = [1] by decide]
    rw [e, num_app _ _ false 4 (leb_len _ _)]
    simp only
    rw [count_back 0 _ 50 (by omega) (by omega)]
    simp only [if_true]
    rw [count_back 1 _ 1 (by omega) (by omega)]
    simp only [if_true]
    rw [count_back t.ins.length _ 50 (by have := hm.i50; omega) (by have := hm.i50; omega), le_leb_of t.version 4 (by rw [h4]; exact hf.vlt)]
    exact hb
theorem pParse_back (t : TxD) (hm : MayF t) (hf : TxFit t) : pParse (bytesOf t) = (t, true) := by
  have h := pTx_back t [] hm hf
  rw [List.append_nil] at h
  unfold pParse pRead bytesOf
  rw [if_pos ((mayB_iff t).2 hm), h]
  rfl
/-- Different transactions have different bytes. -/
theorem bytesOf_inj (a b : TxD) (ha : MayF a) (hb : MayF b) (fa : TxFit a) (fb : TxFit b) (h : bytesOf a = bytesOf b) : a = b := by
  have h1 := pParse_back a ha fa
  rw [h, pParse_back b hb fb] at h1
  injection h1 with h2 _
  exact h2.symm
end Go.Proofs.Ytojeonepplfhlaa
