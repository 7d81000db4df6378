/- What Check answers of transactions that are known in part: kinds, sums and dust over a list's elements; weights of small ones; Good is taken. No function. -/
import Derived.Test.YtbnclajhgkjopaaStF
import Derived.Test.YtbnclajhgkjopaaStB
import Derived.Test.YtbnclajhgkjopaaGe
import Derived.Test.YtbnclajhgkjopaaGg
namespace Go.Proofs.Ytbnclajhgkjopaa
open Go.RowKit

/-! over lists -/
theorem cntTo_take (outs : List OutD) (q : Int) : ∀ n, n ≤ outs.length → cntTo outs q n = (outs.take n).countP (fun o => decide ((kindOf o.script : Int) = q))
  | 0, _ => by simp [cntTo]
  | n + 1, h => by
    have hg : outs.getD n default = outs[n]'(by omega) := by rw [List.getD_eq_getElem?_getD, List.getElem?_eq_getElem (show n < outs.length by omega)]; rfl
    rw [cntTo, cntTo_take outs q n (by omega), List.take_succ_eq_append_getElem (by omega), List.countP_append, hg]
    congr 1
    by_cases hk : (kindOf (outs[n]'(by omega)).script : Int) = q <;> simp [hk]
theorem countK_is (outs : List OutD) (q : Int) : countK outs q = outs.countP (fun o => decide ((kindOf o.script : Int) = q)) := by
  rw [countK, cntTo_take outs q _ (Nat.le_refl _), List.take_length]
theorem valsTo_take (outs : List OutD) : ∀ n, n ≤ outs.length → valsTo outs n = (outs.take n).map fun o => (o.value : Int)
  | 0, _ => by simp [valsTo]
  | n + 1, h => by
    have hg : outs.getD n default = outs[n]'(by omega) := by rw [List.getD_eq_getElem?_getD, List.getElem?_eq_getElem (show n < outs.length by omega)]; rfl
    rw [valsTo, valsTo_take outs n (by omega), List.take_succ_eq_append_getElem (by omega), List.map_append, hg]
    rfl
theorem valsOf_is (outs : List OutD) : valsOf outs = outs.map fun o => (o.value : Int) := by
  rw [valsOf, valsTo_take outs _ (Nat.le_refl _), List.take_length]
theorem dustsTo_take (outs : List OutD) : ∀ n, n ≤ outs.length → (dustsTo outs n).length = (outs.take n).countP (fun o => dustB o.value o.script)
  | 0, _ => by simp [dustsTo]
  | n + 1, h => by
    rw [dustsTo, List.length_append, dustsTo_take outs n (by omega), List.take_succ_eq_append_getElem (by omega), List.countP_append, dustAt_get (by omega)]
    congr 1
    cases hk : dustB (outs[n]'(by omega)).value (outs[n]'(by omega)).script <;> simp [hk]
theorem dusts_is (outs : List OutD) : (dustsOf outs).length = outs.countP (fun o => dustB o.value o.script) := by
  rw [dustsOf, dustsTo_take outs _ (Nat.le_refl _), List.take_length]
theorem tot_le (l : List Int) (m : Int) (h : ∀ x ∈ l, x ≤ m) : tot l ≤ m * l.length := by
  induction l with
  | nil => simp [tot]
  | cons x l ih =>
    have h1 := h x (by simp)
    have h2 := ih fun y hy => h y (List.mem_cons_of_mem _ hy)
    simp only [tot, List.length_cons, Int.natCast_add, Int.natCast_one, Int.mul_add, Int.mul_one]
    omega
theorem dup_none (l : List InD) (h : ∀ i k, k < i → i < l.length → ptEq (l.getD i default) (l.getD k default) = false) : twiceB l = false := by
  have h1 : ∀ i, i < l.length → ∀ k, k ≤ i → dupIn l i k = false := by
    intro i hi k
    induction k with
    | zero => intro _; rfl
    | succ k ih => intro hk; rw [dupIn, ih (by omega), h i k (by omega) hi]; rfl
  have h2 : ∀ n, n ≤ l.length → dupTo l n = false := by
    intro n
    induction n with
    | zero => intro _; rfl
    | succ n ih => intro hn; rw [dupTo, ih (by omega), h1 n (by omega) n (Nat.le_refl _)]; rfl
  exact h2 _ (Nat.le_refl _)
theorem dup_some (l : List InD) (i k : Nat) (hk : k < i) (hi : i < l.length) (h : ptEq (l.getD i default) (l.getD k default) = true) : twiceB l = true := by
  have h1 : dupIn l i i = true := (dupIn_iff l i i).2 ⟨k, hk, h⟩
  have h2 : ∀ n, i < n → dupTo l n = true := by
    intro n
    induction n with
    | zero => intro h; omega
    | succ n ih =>
      intro hn
      rw [dupTo]
      by_cases e : i = n
      · subst e; rw [h1, Bool.or_true]
      · rw [ih (by omega), Bool.true_or]
  exact h2 _ hi

/-! weights -/
/-- Small inputs and outputs. -/
structure Little (t : TxD) (a b : Nat) : Prop where
  i1 : 1 ≤ t.ins.length
  ia : t.ins.length ≤ a
  o1 : 1 ≤ t.outs.length
  ob : t.outs.length ≤ b
  prev : ∀ d ∈ t.ins, d.prev.length = 32
  isc : ∀ d ∈ t.ins, d.script.length ≤ 1
  wit : ∀ d ∈ t.ins, d.wit.length ≤ 2 ∧ ∀ x ∈ d.wit, x.length ≤ 1
  osc : ∀ d ∈ t.outs, d.script.length ≤ 64
theorem Little.may {t : TxD} {a b : Nat} (h : Little t a b) (ha : a ≤ 50) (hb : b ≤ 50) : MayF t :=
  ⟨h.i1, by have := h.ia; omega, h.o1, by have := h.ob; omega, fun d hd => by have := h.isc d hd; omega, fun d hd => by have := (h.wit d hd).1; omega, fun d hd x hx => by have := (h.wit d hd).2 x hx; omega, fun d hd => by have := h.osc d hd; omega⟩
theorem Little.enc {t : TxD} {a b : Nat} (h : Little t a b) (wh : Bool) : (encTx t wh).length ≤ 20 + 63 * a + 77 * b := by
  have h1 := flat_len encIn 46 t.ins fun d hd => by
    have := encText_len d.script
    have := h.isc d hd
    have := h.prev d hd
    simp only [encIn, List.length_append, leb_len]
    omega
  have h2 := flat_len encOut 77 t.outs fun d hd => by
    have := encText_len d.script
    have := h.osc d hd
    simp only [encOut, List.length_append, leb_len]
    omega
  have h3 := flat_len encWits 17 t.ins fun d hd => by
    have hw := h.wit d hd
    have h4 := flat_len encText 6 d.wit fun x hx => by
      have := encText_len x
      have := hw.2 x hx
      omega
    have := cnt_max d.wit.length
    unfold encWits encWit
    rw [encRows_flat, List.length_append]
    omega
  have h5 := cnt_max t.ins.length
  have h6 := cnt_max t.outs.length
  have h7 := h.ia
  have h8 := h.ob
  unfold encTx
  simp only [List.length_append, leb_len]
  have h9 : (if wh = true then [0, 1] else ([] : List Int)).length ≤ 2 := by split <;> simp
  have h10 : (if wh = true then flat encWits t.ins else ([] : List Int)).length ≤ 17 * t.ins.length := by
    split
    · exact h3
    · simp
  omega
theorem Little.weight {t : TxD} {a b : Nat} (h : Little t a b) (ha : a ≤ 50) (hb : b ≤ 50) : weightOf t ≤ 4 * (20 + 63 * a + 77 * b) := by
  have hm := h.may ha hb
  have h1 := h.enc false
  have h2 := h.enc (witT t)
  unfold weightOf
  rw [bytesOf_enc hm, baseOf_enc hm]
  omega

def InsOk (l : List InD) : Prop := ∀ d ∈ l, d.prev.length = 32 ∧ d.script.length ≤ 1 ∧ d.wit.length ≤ 2 ∧ ∀ x ∈ d.wit, x.length ≤ 1
def OutsOk (l : List OutD) : Prop := ∀ d ∈ l, d.script.length ≤ 64
theorem InsOk.set {l : List InD} (h : InsOk l) (i : Nat) {d : InD} (hd : d.prev.length = 32 ∧ d.script.length ≤ 1 ∧ d.wit.length ≤ 2 ∧ ∀ x ∈ d.wit, x.length ≤ 1) : InsOk (l.set i d) := fun x hx => by
  rcases List.mem_or_eq_of_mem_set hx with hx | rfl
  · exact h x hx
  · exact hd
theorem InsOk.app {l k : List InD} (h : InsOk l) (h' : InsOk k) : InsOk (l ++ k) := fun x hx => by
  rcases List.mem_append.1 hx with hx | hx
  · exact h x hx
  · exact h' x hx
theorem OutsOk.set {l : List OutD} (h : OutsOk l) (i : Nat) {d : OutD} (hd : d.script.length ≤ 64) : OutsOk (l.set i d) := fun x hx => by
  rcases List.mem_or_eq_of_mem_set hx with hx | rfl
  · exact h x hx
  · exact hd
theorem OutsOk.app {l k : List OutD} (h : OutsOk l) (h' : OutsOk k) : OutsOk (l ++ k) := fun x hx => by
  rcases List.mem_append.1 hx with hx | hx
  · exact h x hx
  · exact h' x hx
theorem little_of {t : TxD} {a b : Nat} (h1 : InsOk t.ins) (h2 : OutsOk t.outs) (i1 : 1 ≤ t.ins.length) (ia : t.ins.length ≤ a) (o1 : 1 ≤ t.outs.length) (ob : t.outs.length ≤ b) : Little t a b :=
  ⟨i1, ia, o1, ob, fun d hd => (h1 d hd).1, fun d hd => (h1 d hd).2.1, fun d hd => (h1 d hd).2.2, h2⟩

/-! Good -/
theorem goodIn_prev (m : Int) (j : Nat) : (goodIn m j).prev = (goodM m / 2 ^ (3 * j) % 256) :: (zeros 30 ++ [(j : Int) + 1]) := by
  unfold goodIn turnIn inOf zeros
  simp only [List.set_cons_succ]
  rw [List.set_append, if_neg (by simp)]
  simp
theorem goodIn_31 (m : Int) (j : Nat) : (goodIn m j).prev.getD 31 0 = (j : Int) + 1 := by
  rw [goodIn_prev]
  simp [zeros, List.getD_eq_getElem?_getD]
theorem goodIn_ok (m : Int) (j : Nat) : (goodIn m j).prev.length = 32 ∧ (goodIn m j).script.length ≤ 1 ∧ (goodIn m j).wit.length ≤ 2 ∧ ∀ x ∈ (goodIn m j).wit, x.length ≤ 1 := by
  refine ⟨by rw [goodIn_prev]; simp [zeros], (inOf_script (goodM m) j).1, (inOf_wit (goodM m) j).1, fun x hx => ((inOf_wit (goodM m) j).2 x hx).1⟩
/-- Inputs whose names end with their places. -/
def NiceIns (l : List InD) : Prop := ∀ i, i < l.length → (l.getD i default).prev.getD 31 0 = (i : Int) + 1
/-- Outputs of a kind that is no data, no dust, of small values. -/
def NiceOuts (l : List OutD) : Prop := ∀ o ∈ l, kindOf o.script ≠ 0 ∧ kindOf o.script ≠ 5 ∧ dustB o.value o.script = false ∧ o.value ≤ 10000
theorem NiceIns.null {l : List InD} (h : NiceIns l) : l.any nullB = false := by
  rw [List.any_eq_false]
  intro d hd
  obtain ⟨i, hi, rfl⟩ := List.mem_iff_getElem.1 hd
  have := h i hi
  rw [show l.getD i default = l[i] by rw [List.getD_eq_getElem?_getD, List.getElem?_eq_getElem hi]; rfl] at this
  unfold nullB
  rw [decide_eq_true_eq]
  rintro ⟨h1, _⟩
  rw [h1] at this
  simp [zeros, List.getD_eq_getElem?_getD] at this
  omega
theorem NiceIns.twice {l : List InD} (h : NiceIns l) : twiceB l = false := by
  refine dup_none l fun i k hk hi => ?_
  have h1 := h i hi
  have h2 := h k (by omega)
  unfold ptEq
  rw [decide_eq_false_iff_not]
  rintro ⟨h3, _⟩
  rw [h3, h2] at h1
  omega
theorem NiceOuts.kind {l : List OutD} (h : NiceOuts l) : countK l 0 = 0 ∧ countK l 5 = 0 := by
  rw [countK_is, countK_is, List.countP_eq_zero, List.countP_eq_zero]
  refine ⟨fun o ho => ?_, fun o ho => ?_⟩ <;> rw [decide_eq_true_eq] <;> have := h o ho <;> omega
theorem NiceOuts.dusts {l : List OutD} (h : NiceOuts l) : (dustsOf l).length = 0 := by
  rw [dusts_is, List.countP_eq_zero]
  intro o ho
  rw [(h o ho).2.2.1]
  simp
theorem NiceOuts.sum {l : List OutD} (h : NiceOuts l) (hl : l.length ≤ 1000) : sumB l = true := by
  have := tot_le (l.map fun o => (o.value : Int)) 10000 fun x hx => by
    obtain ⟨o, ho, rfl⟩ := List.mem_map.1 hx
    have := (h o ho).2.2.2
    omega
  unfold sumB
  rw [valsOf_is, decide_eq_true_eq]
  rw [List.length_map] at this
  omega
theorem goodOf_lens (n m : Int) : 1 ≤ (goodOf n m).ins.length ∧ (goodOf n m).ins.length ≤ 4 ∧ 1 ≤ (goodOf n m).outs.length ∧ (goodOf n m).outs.length ≤ 4 := by
  simp only [goodOf, List.length_map, List.length_range, goodNI, goodNO]
  omega
theorem good_ins (n m : Int) : InsOk (goodOf n m).ins ∧ NiceIns (goodOf n m).ins := by
  constructor
  · intro d hd
    obtain ⟨j, _, rfl⟩ := List.mem_map.1 hd
    exact goodIn_ok m j
  · intro i hi
    have e : (goodOf n m).ins.getD i default = goodIn m i := by
      rw [List.getD_eq_getElem?_getD, List.getElem?_eq_getElem hi]
      simp [goodOf]
    rw [e, goodIn_31]
theorem kind_two (x : Int) (hx : x = 0 ∨ x = 1) : (kindOf (scriptOf (1 + 3 * x)) = 2 ∨ kindOf (scriptOf (1 + 3 * x)) = 4) ∧ (scriptOf (1 + 3 * x)).length ≤ 34 := by
  rcases hx with rfl | rfl <;> exact ⟨by decide +kernel, by decide +kernel⟩
theorem good_outs (n m : Int) : OutsOk (goodOf n m).outs ∧ NiceOuts (goodOf n m).outs := by
  have key : ∀ d ∈ (goodOf n m).outs, d.script.length ≤ 64 ∧ kindOf d.script ≠ 0 ∧ kindOf d.script ≠ 5 ∧ dustB d.value d.script = false ∧ d.value ≤ 10000 := by
    intro d hd
    obtain ⟨j, hj, rfl⟩ := List.mem_map.1 hd
    have hj' : j < 4 := by have := List.mem_range.1 hj; unfold goodNO at this; omega
    have hk := kind_two (n / 2 ^ (4 + j) % 2) (by omega)
    have hs : (goodOut n j).script = scriptOf (1 + 3 * (n / 2 ^ (4 + j) % 2)) := rfl
    have hv : (goodOut n j).value = 5000 + j := rfl
    rw [hs, hv]
    generalize scriptOf (1 + 3 * (n / 2 ^ (4 + j) % 2)) = S at *
    refine ⟨by omega, by omega, by omega, ?_, by omega⟩
    unfold dustB
    rw [decide_eq_false_iff_not]
    rcases hk.1 with h | h <;> rw [h] <;> simp [leastOf] <;> omega
  exact ⟨fun d hd => (key d hd).1, fun d hd => (key d hd).2⟩
theorem good_little (n m : Int) : Little (goodOf n m) 4 4 := little_of (good_ins n m).1 (good_outs n m).1 (goodOf_lens n m).1 (goodOf_lens n m).2.1 (goodOf_lens n m).2.2.1 (goodOf_lens n m).2.2.2
theorem good_version (n m : Int) : ¬ (goodOf n m).version = 0 ∧ (goodOf n m).version ≤ 3 := by
  show ¬ (n % 2 + 2).toNat = 0 ∧ (n % 2 + 2).toNat ≤ 3
  omega
/-- Behind the first three questions. -/
theorem checkV_eq {t : TxD} (hm : MayF t) (hv : ¬ t.version = 0 ∧ t.version ≤ 3) (hw : weightOf t ≤ 80000) :
    checkV t = if t.ins.any nullB = true then 4 else if twiceB t.ins = true then 5 else if 0 < countK t.outs 0 then 6 else if 1 < countK t.outs 5 then 7 else if sumB t.outs = false then 8 else if 1 < (dustsOf t.outs).length then 9 else 0 := by
  unfold checkV
  rw [(mayB_iff t).2 hm, if_neg (by simp), if_neg (by omega), if_neg (by omega)]
theorem checkV_zero {t : TxD} (hm : MayF t) (hv : ¬ t.version = 0 ∧ t.version ≤ 3) (hw : weightOf t ≤ 80000) (h1 : NiceIns t.ins) (h2 : NiceOuts t.outs) : checkV t = 0 := by
  rw [checkV_eq hm hv hw, h1.null, h1.twice, h2.kind.1, h2.kind.2, h2.sum (by have := hm.o50; omega), h2.dusts]
  simp
theorem check_good (n m : Int) : checkV (goodOf n m) = 0 := by
  have h := good_little n m
  have hw := h.weight (by omega) (by omega)
  exact checkV_zero (h.may (by omega) (by omega)) (good_version n m) (by omega) (good_ins n m).2 (good_outs n m).2
end Go.Proofs.Ytbnclajhgkjopaa
