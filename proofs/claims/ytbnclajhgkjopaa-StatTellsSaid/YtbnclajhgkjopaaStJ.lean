/- The codes of the transactions of StatForms. No function. -/
import Derived.Test.YtbnclajhgkjopaaStI
namespace Go.Proofs.Ytbnclajhgkjopaa
open Go.RowKit

theorem vlen_vzero (T : TxD) : (vzero T).ins.length = T.ins.length ∧ (vzero T).outs.length = T.outs.length := ⟨rfl, rfl⟩
theorem vlen_vnull (T : TxD) : (vnull T).ins.length = T.ins.length ∧ (vnull T).outs.length = T.outs.length := ⟨List.length_set .., rfl⟩
theorem vlen_vtwice (T : TxD) : (vtwice T).ins.length = T.ins.length + 1 ∧ (vtwice T).outs.length = T.outs.length := ⟨by simp [vtwice], rfl⟩
theorem vlen_vkind (T : TxD) : (vkind T).ins.length = T.ins.length ∧ (vkind T).outs.length = T.outs.length := ⟨rfl, List.length_set ..⟩
theorem vlen_vdata (T : TxD) : (vdata T).ins.length = T.ins.length ∧ (vdata T).outs.length = T.outs.length + 2 := ⟨rfl, by simp [vdata]⟩
theorem vlen_vmoney (T : TxD) : (vmoney T).ins.length = T.ins.length ∧ (vmoney T).outs.length = T.outs.length := ⟨rfl, List.length_set ..⟩
theorem vlen_vdust (T : TxD) : (vdust T).ins.length = T.ins.length ∧ (vdust T).outs.length = T.outs.length + 2 := ⟨rfl, by simp [vdust]⟩
theorem countK_zero {l : List OutD} {q : Int} (h : ∀ o ∈ l, (kindOf o.script : Int) ≠ q) : countK l q = 0 := by
  rw [countK_is, List.countP_eq_zero]
  intro o ho
  rw [decide_eq_true_eq]
  exact h o ho
theorem countK_app (a b : List OutD) (q : Int) : countK (a ++ b) q = countK a q + countK b q := by
  rw [countK_is, countK_is, countK_is, List.countP_append]
theorem countK_scripts {a b : List OutD} (h : a.map (·.script) = b.map (·.script)) (q : Int) : countK a q = countK b q := by
  have e : ∀ l : List OutD, countK l q = (l.map (·.script)).countP (fun s => decide ((kindOf s : Int) = q)) := fun l => by
    rw [countK_is, List.countP_map]
    rfl
  rw [e, e, h]
theorem tot_ge {l : List Int} (h : ∀ x ∈ l, 0 ≤ x) {y : Int} (hy : y ∈ l) : y ≤ tot l := by
  induction l with
  | nil => cases hy
  | cons x l ih =>
    have h0 : 0 ≤ tot l := by
      clear ih hy
      induction l with
      | nil => simp [tot]
      | cons z l ih2 =>
        have := ih2 fun x hx => h x (by rcases List.mem_cons.1 hx with rfl | hx <;> simp_all)
        have := h z (by simp)
        simp only [tot]; omega
    rcases List.mem_cons.1 hy with rfl | hy
    · simp only [tot]; omega
    · have := ih (fun z hz => h z (List.mem_cons_of_mem _ hz)) hy
      have := h x (by simp)
      simp only [tot]; omega
theorem kind_data : kindOf dataOut.script = 5 := by decide +kernel
theorem kind_dust : kindOf dustOut.script = 1 := by decide +kernel
theorem dust_dust : dustB dustOut.value dustOut.script = true := by decide +kernel
theorem dust_len : dustOut.script.length ≤ 64 := by decide +kernel

section
variable {T : TxD} (hI : InsOk T.ins) (hO : OutsOk T.outs) (hNI : NiceIns T.ins) (hNO : NiceOuts T.outs) (hl : 1 ≤ T.ins.length ∧ T.ins.length ≤ 4 ∧ 1 ≤ T.outs.length ∧ T.outs.length ≤ 4) (hv : ¬ T.version = 0 ∧ T.version ≤ 3)
include hI hl
theorem in0_ok : (T.ins.getD 0 default).prev.length = 32 ∧ (T.ins.getD 0 default).script.length ≤ 1 ∧ (T.ins.getD 0 default).wit.length ≤ 2 ∧ ∀ x ∈ (T.ins.getD 0 default).wit, x.length ≤ 1 := by
  rw [getD_at (by omega)]
  exact hI _ (List.getElem_mem _)
theorem vnull_ok : InsOk (vnull T).ins := hI.set 0 ⟨by simp [zeros], (in0_ok hI hl).2.1, (in0_ok hI hl).2.2⟩
include hO
theorem code_zero_null : checkV (vnull (vzero T)) = 2 := by
  have hL : Little (vnull (vzero T)) 5 6 := little_of (vnull_ok (T := vzero T) hI hl) hO (by show 1 ≤ (T.ins.set 0 _).length; rw [List.length_set]; omega) (by show (T.ins.set 0 _).length ≤ 5; rw [List.length_set]; omega) (by show 1 ≤ T.outs.length; omega) (by show T.outs.length ≤ 6; omega)
  unfold checkV
  rw [(mayB_iff _).2 (hL.may (by omega) (by omega)), if_neg (by simp), if_pos (.inl rfl)]
theorem vdust_little : Little (vdust T) 5 6 := little_of hI ((show OutsOk [dustOut, dustOut] from fun d hd => by
    simp only [List.mem_cons, List.not_mem_nil, or_false, or_self] at hd
    subst hd
    exact dust_len).app hO) (by show 1 ≤ T.ins.length; omega) (by show T.ins.length ≤ 5; omega) (by simp [vdust]) (by simp [vdust]; omega)
theorem code_dust_zero : checkV (vzero (vdust T)) = 2 := by
  have hL := vdust_little hI hO hl
  have hL2 : Little (vzero (vdust T)) 5 6 := ⟨hL.i1, hL.ia, hL.o1, hL.ob, hL.prev, hL.isc, hL.wit, hL.osc⟩
  unfold checkV
  rw [(mayB_iff _).2 (hL2.may (by omega) (by omega)), if_neg (by simp), if_pos (.inl rfl)]
omit hI hO hl in
theorem code_empty : checkV (vzero (vempty T)) = 1 := by
  unfold checkV
  rw [if_pos]
  show mayB { T with version := 0, outs := [] } = false
  cases h : mayB { T with version := 0, outs := [] } with
  | false => rfl
  | true =>
    have := ((mayB_iff _).1 h).o1
    simp at this
include hv
theorem code_null : checkV (vtwice (vnull T)) = 4 := by
  have hn : (vnull T).ins.length = T.ins.length := List.length_set ..
  have hI2 : InsOk (vnull T).ins := vnull_ok hI hl
  have hg0 : (vnull T).ins.getD 0 default ∈ (vnull T).ins := by rw [getD_at (by omega)]; exact List.getElem_mem _
  have hL : Little (vtwice (vnull T)) 5 6 := little_of (hI2.app fun d hd => by rw [List.mem_singleton.1 hd]; exact hI2 _ hg0) hO (by simp [vtwice]) (by simp [vtwice]; omega) (by show 1 ≤ T.outs.length; omega) (by show T.outs.length ≤ 6; omega)
  have hw := hL.weight (by omega) (by omega)
  rw [checkV_eq (hL.may (by omega) (by omega)) hv (by omega), if_pos]
  show ((vnull T).ins ++ [(vnull T).ins.getD 0 default]).any nullB = true
  rw [List.any_eq_true]
  refine ⟨_, List.mem_append_left _ hg0, ?_⟩
  have e : (vnull T).ins.getD 0 default = { T.ins.getD 0 default with prev := zeros 32, vout := 4294967295 } := by
    unfold vnull
    rw [List.getD_eq_getElem?_getD, List.getElem?_set]
    simp [show 0 < T.ins.length by omega]
  rw [e]
  unfold nullB
  exact decide_eq_true ⟨rfl, rfl⟩
include hNI
omit hO hv in
theorem twice_facts : (vtwice T).ins.any nullB = false ∧ twiceB (vtwice T).ins = true ∧ InsOk (vtwice T).ins ∧ (vtwice T).ins.length = T.ins.length + 1 := by
  have hg0 : T.ins.getD 0 default ∈ T.ins := by rw [getD_at (by omega)]; exact List.getElem_mem _
  refine ⟨?_, ?_, hI.app fun d hd => by rw [List.mem_singleton.1 hd]; exact hI _ hg0, by simp [vtwice]⟩
  · show (T.ins ++ [T.ins.getD 0 default]).any nullB = false
    have := hNI.null
    rw [List.any_append, this, Bool.false_or]
    simp only [List.any_cons, List.any_nil, Bool.or_false]
    rw [List.any_eq_false] at this
    simpa using this _ hg0
  · refine dup_some _ T.ins.length 0 (by omega) (by simp [vtwice]) ?_
    have e1 : (vtwice T).ins.getD T.ins.length default = T.ins.getD 0 default := by
      simp [vtwice, List.getD_eq_getElem?_getD]
    have e2 : (vtwice T).ins.getD 0 default = T.ins.getD 0 default := by
      show (T.ins ++ [T.ins.getD 0 default]).getD 0 default = _
      rw [List.getD_eq_getElem?_getD, List.getElem?_append_left (by omega), List.getD_eq_getElem?_getD]
    rw [e1, e2]
    unfold ptEq
    exact decide_eq_true ⟨rfl, rfl⟩
theorem code_twice : checkV (vkind (vtwice T)) = 5 := by
  obtain ⟨h1, h2, h3, h4⟩ := twice_facts hI hNI hl
  have hL : Little (vkind (vtwice T)) 5 6 := little_of h3 (hO.set 0 (by simp)) (by show 1 ≤ (vtwice T).ins.length; omega) (by show (vtwice T).ins.length ≤ 5; omega) (by show 1 ≤ (T.outs.set 0 _).length; rw [List.length_set]; omega) (by show (T.outs.set 0 _).length ≤ 6; rw [List.length_set]; omega)
  have hw := hL.weight (by omega) (by omega)
  rw [checkV_eq (hL.may (by omega) (by omega)) hv (by omega), if_neg, if_pos]
  · exact h2
  · show ¬ (vtwice T).ins.any nullB = true
    rw [h1]
    simp
theorem code_kind : checkV (vdata (vkind T)) = 6 := by
  have hd : OutsOk [dataOut, dataOut] := fun d hd => by
    simp only [List.mem_cons, List.not_mem_nil, or_false, or_self] at hd
    subst hd
    decide
  have hL : Little (vdata (vkind T)) 5 6 := little_of hI ((hO.set 0 (by simp)).app hd) (by show 1 ≤ T.ins.length; omega) (by show T.ins.length ≤ 5; omega) (by simp [vdata]) (by simp [vdata, vkind]; omega)
  have hw := hL.weight (by omega) (by omega)
  rw [checkV_eq (hL.may (by omega) (by omega)) hv (by omega), if_neg, if_neg, if_pos]
  · show 0 < countK ((vkind T).outs ++ [dataOut, dataOut]) 0
    rw [countK_app]
    have : 0 < countK (vkind T).outs 0 := by
      rw [countK_is, List.countP_pos_iff]
      refine ⟨{ T.outs.getD 0 default with script := [] }, ?_, by show decide (((kindOf [] : Nat) : Int) = 0) = true; decide +kernel⟩
      show _ ∈ T.outs.set 0 _
      exact List.mem_set (by omega) _
    omega
  · rw [show (vdata (vkind T)).ins = T.ins from rfl, hNI.twice]; simp
  · rw [show (vdata (vkind T)).ins = T.ins from rfl, hNI.null]; simp
include hNO
theorem code_data : checkV (vmoney (vdata T)) = 7 := by
  have hd : OutsOk [dataOut, dataOut] := fun d hd => by
    simp only [List.mem_cons, List.not_mem_nil, or_false, or_self] at hd
    subst hd
    decide
  have hO2 : OutsOk (vdata T).outs := hO.app hd
  have hn : (vdata T).outs.length = T.outs.length + 2 := by simp [vdata]
  have hm : (vmoney (vdata T)).outs.length = T.outs.length + 2 := by simp [vmoney, hn]
  have hL : Little (vmoney (vdata T)) 5 6 := little_of hI (hO2.set _ (by
    show ((vdata T).outs.getD ((vdata T).outs.length - 1) default).script.length ≤ 64
    rw [getD_at (by omega)]
    exact hO2 _ (List.getElem_mem _))) (by show 1 ≤ T.ins.length; omega) (by show T.ins.length ≤ 5; omega) (by omega) (by omega)
  have hw := hL.weight (by omega) (by omega)
  have hs : (vmoney (vdata T)).outs.map (·.script) = (vdata T).outs.map (·.script) := by
    unfold vmoney
    rw [List.map_set, getD_at (by omega)]
    apply List.ext_getElem?
    intro q
    rw [List.getElem?_set]
    split
    · rename_i e; subst e
      simp [hn]
    · rfl
  have hc : ∀ q : Int, countK (vmoney (vdata T)).outs q = countK T.outs q + countK [dataOut, dataOut] q := fun q => by rw [countK_scripts hs, ← countK_app]; rfl
  rw [checkV_eq (hL.may (by omega) (by omega)) hv (by omega), if_neg, if_neg, if_neg, if_pos]
  · rw [hc]
    have : countK [dataOut, dataOut] 5 = 2 := by decide +kernel
    omega
  · rw [hc, hNO.kind.1]
    have : countK [dataOut, dataOut] 0 = 0 := by decide +kernel
    omega
  · rw [show (vmoney (vdata T)).ins = T.ins from rfl, hNI.twice]; simp
  · rw [show (vmoney (vdata T)).ins = T.ins from rfl, hNI.null]; simp
omit hv hI hNI hNO in
theorem vmoney_facts : OutsOk (vmoney T).outs ∧ (vmoney T).outs.length = T.outs.length ∧ (vmoney T).outs.map (·.script) = T.outs.map (·.script) := by
  have hm : (vmoney T).outs.length = T.outs.length := by simp [vmoney]
  refine ⟨hO.set _ (by
    show (T.outs.getD (T.outs.length - 1) default).script.length ≤ 64
    rw [getD_at (by omega)]
    exact hO _ (List.getElem_mem _)), hm, ?_⟩
  unfold vmoney
  rw [List.map_set, getD_at (by omega)]
  apply List.ext_getElem?
  intro q
  rw [List.getElem?_set]
  split
  · rename_i e; subst e
    simp [show T.outs.length - 1 < T.outs.length by omega]
  · rfl
theorem code_money : checkV (vdust (vmoney T)) = 8 := by
  obtain ⟨h1, h2, h3⟩ := vmoney_facts hO hl
  have hL : Little (vdust (vmoney T)) 5 6 := vdust_little (T := vmoney T) hI h1 (by rw [h2]; exact hl)
  have hw := hL.weight (by omega) (by omega)
  have hc : ∀ q : Int, countK (vdust (vmoney T)).outs q = countK [dustOut, dustOut] q + countK T.outs q := fun q => by
    rw [← countK_scripts h3, ← countK_app]; rfl
  rw [checkV_eq (hL.may (by omega) (by omega)) hv (by omega), if_neg, if_neg, if_neg, if_neg, if_pos]
  · unfold sumB
    rw [decide_eq_false_iff_not, valsOf_is]
    have hmem : (1152921504606846976 : Int) ∈ (vdust (vmoney T)).outs.map fun o => (o.value : Int) := by
      refine List.mem_map.2 ⟨{ T.outs.getD (T.outs.length - 1) default with value := 1152921504606846976 }, List.mem_append_right _ ?_, rfl⟩
      show _ ∈ T.outs.set (T.outs.length - 1) _
      exact List.mem_set (by omega) _
    have := tot_ge (fun x hx => by obtain ⟨o, _, rfl⟩ := List.mem_map.1 hx; omega) hmem
    omega
  · rw [hc, hNO.kind.2]
    have : countK [dustOut, dustOut] 5 = 0 := by decide +kernel
    omega
  · rw [hc, hNO.kind.1]
    have : countK [dustOut, dustOut] 0 = 0 := by decide +kernel
    omega
  · rw [show (vdust (vmoney T)).ins = T.ins from rfl, hNI.twice]; simp
  · rw [show (vdust (vmoney T)).ins = T.ins from rfl, hNI.null]; simp
theorem code_dust : checkV (vdust T) = 9 := by
  have hL : Little (vdust T) 5 6 := vdust_little hI hO hl
  have hw := hL.weight (by omega) (by omega)
  have hc : ∀ q : Int, countK (vdust T).outs q = countK [dustOut, dustOut] q + countK T.outs q := fun q => by rw [← countK_app]; rfl
  rw [checkV_eq (hL.may (by omega) (by omega)) hv (by omega), if_neg, if_neg, if_neg, if_neg, if_neg, if_pos]
  · rw [dusts_is]
    show 1 < ([dustOut, dustOut] ++ T.outs).countP _
    rw [List.countP_append]
    have : ([dustOut, dustOut] : List OutD).countP (fun o => dustB o.value o.script) = 2 := by decide +kernel
    omega
  · have := tot_le ((vdust T).outs.map fun o => (o.value : Int)) 10000 fun x hx => by
      obtain ⟨o, ho, rfl⟩ := List.mem_map.1 hx
      rcases List.mem_append.1 ho with h | h
      · simp only [List.mem_cons, List.not_mem_nil, or_false, or_self] at h
        subst h
        decide +kernel
      · have := (hNO o h).2.2.2
        omega
    rw [List.length_map] at this
    have hn : (vdust T).outs.length = T.outs.length + 2 := by simp [vdust]
    unfold sumB
    rw [valsOf_is, decide_eq_false_iff_not]
    omega
  · rw [hc, hNO.kind.2]
    have : countK [dustOut, dustOut] 5 = 0 := by decide +kernel
    omega
  · rw [hc, hNO.kind.1]
    have : countK [dustOut, dustOut] 0 = 0 := by decide +kernel
    omega
  · rw [show (vdust T).ins = T.ins from rfl, hNI.twice]; simp
  · rw [show (vdust T).ins = T.ins from rfl, hNI.null]; simp
end
end Go.Proofs.Ytbnclajhgkjopaa
