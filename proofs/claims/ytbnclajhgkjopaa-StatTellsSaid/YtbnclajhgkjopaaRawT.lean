/- Transactions that come in as arguments. -/
import Derived.Test.YtbnclajhgkjopaaClose
import Derived.Test.YtbnclajhgkjopaaGa
import Derived.Deep.Slices
namespace Go.Proofs.Ytbnclajhgkjopaa
open Go.ChangeShapes Go.WideShapes Go.ChangeAt Go.RowKit Go.Deep

section
variable {H : Type} {enc : TypeId × Value → H} {W : World}
/-- A list out of what stands at each place. -/
theorem list_of {α : Type} {P : Nat → α → Prop} : ∀ n, (∀ i, i < n → ∃ x, P i x) → ∃ l : List α, l.length = n ∧ ∀ i x, l[i]? = some x → P i x
  | 0, _ => ⟨[], rfl, fun i x h => by simp at h⟩
  | n + 1, h => by
    obtain ⟨l, hl, hP⟩ := list_of n (fun i hi => h i (by omega))
    obtain ⟨x, hx⟩ := h n (by omega)
    refine ⟨l ++ [x], by simp [hl], fun i y hy => ?_⟩
    by_cases hi : i < n
    · rw [List.getElem?_append_left (by omega)] at hy
      exact hP i y hy
    · rw [List.getElem?_append_right (by omega)] at hy
      have h0 : i - l.length = 0 := by
        have := (List.getElem?_eq_some_iff.1 hy).1
        simp at this
        omega
      rw [h0] at hy
      obtain rfl := Option.some.inj hy
      obtain rfl : i = n := by omega
      exact hx
theorem trod_num {n t : Nat} {k : IntKind} {cs : List Value} {x : DataW H × List MemPlace} (ht : Try.prog.underlying t = some (.int k)) (h : DataW.trod enc Try.prog W 0 (fun _ => true) true n t cs = some x) :
    ∃ z, cs = [.int k z] ∧ (Lit.int k z).wf = true := by
  cases n with
  | zero => simp [DataW.trod] at h
  | succ n =>
    unfold DataW.trod at h
    rw [ht] at h
    split at h <;> simp_all
set_option maxRecDepth 100000 in
theorem rb_of_trod {n : Nat} {v : Value} {x : DataW H × List MemPlace} (h : DataW.trod enc Try.prog W 0 (fun _ => true) true n 29 [v] = some x) : ∃ l, Rb W v l := by
  rcases open_ints Try.underlying29 Try.underlying5 (by kernel_rfl) h with ⟨hcs, _⟩ | ⟨a, len, cap, zs, hcs, _, hl, hm, hz, _, hcell, hwf⟩
  · injection hcs with hcs
    subst hcs
    exact ⟨[], Rb.nil W⟩
  · injection hcs with hcs
    subst hcs
    simp only [if_true] at hz
    have hlen : (zs.take len).length = len := by rw [List.length_take]; omega
    refine ⟨zs.take len, ⟨some a, cap, by rw [hlen], by omega, (fun h => by cases h), fun hne => ?_⟩, fun y hy => bd_u8 (hwf y (List.mem_of_mem_take hy)), by omega⟩
    have hpos : 0 < zs.length := by
      rcases Nat.eq_zero_or_pos zs.length with h0 | h0
      · exact absurd (List.eq_nil_of_length_eq_zero (by rw [hlen]; omega)) hne
      · exact h0
    obtain ⟨b, off, rfl, hc'⟩ := ints_at hcell hpos
    have hlt := World.block_lt_of_cell? W ⟨b, off + 0, none⟩ (hc' 0 hpos)
    refine ⟨b, off, rfl, Nat.ne_of_lt hlt, hlt, fun i hi => ?_⟩
    rw [hlen] at hi
    rw [hc' i (by omega)]
    simp [List.getD_eq_getElem?_getD, hi]
theorem many_of_trod {α : Type} {R : World → List Value → α → Prop} {n t e k : Nat} {v : Value} {x : DataW H × List MemPlace} (ht : Try.prog.underlying t = some (.slice e)) (hk : Try.prog.cellsOf e = k) (hk0 : 0 < k)
    (hR : ∀ n cs y, cs.length = k → DataW.trod enc Try.prog W 0 (fun _ => true) true n e cs = some y → ∃ d, R W cs d) (h : DataW.trod enc Try.prog W 0 (fun _ => true) true n t [v] = some x) : ∃ ds, Many k R W v ds := by
  rcases open_slice ht h with ⟨hcs, _⟩ | ⟨a, len, cap, m, n', D, Pl, hcs, _, hl, hm, hmm, _, hi⟩
  · injection hcs with hcs
    subst hcs
    exact ⟨[], Many.nil _ _ _⟩
  · injection hcs with hcs
    subst hcs
    simp only [if_true] at hmm
    rw [hk] at hi
    have hex : ∀ i, i < len → ∃ d : α, ∃ cs, cs.length = k ∧ (∀ j, j < k → W.cell? (a.add (i * k + j)) = cs[j]?) ∧ R W cs d := fun i hil => by
      obtain ⟨cs, hc, hy⟩ := hi i (by omega)
      obtain ⟨_, hcl, hat⟩ := World.cells?_some hc
      obtain ⟨d, hd⟩ := hR _ cs _ hcl hy
      exact ⟨d, cs, hcl, fun j hj => by rw [← add_add]; exact hat j hj, hd⟩
    obtain ⟨ds, hdl, hds⟩ := list_of len hex
    refine ⟨ds, some a, cap, by rw [hdl], by omega, hm, (fun h => by cases h), fun hne => ?_⟩
    have hpos : 0 < len := by
      rcases Nat.eq_zero_or_pos len with h0 | h0
      · exact absurd (List.eq_nil_of_length_eq_zero (by omega)) hne
      · exact h0
    obtain ⟨d0, cs0, hc0, hat0, _⟩ := hex 0 hpos
    obtain ⟨b, off, spot⟩ := a
    have h00 : W.cell? ((⟨b, off, spot⟩ : Addr).add (0 * k + 0)) = some (cs0[0]'(by omega)) := by rw [hat0 0 hk0]; exact List.getElem?_eq_getElem (by omega)
    have hspot : spot = none := by
      have := World.cell?_spot h00
      simpa [Addr.add] using this
    subst hspot
    refine ⟨b, off, rfl, ?_, fun i d hd => ?_⟩
    · have := World.block_lt_of_cell? W _ h00
      simpa [Addr.add] using this
    · obtain ⟨cs, hcl, hat, hr⟩ := hds i d hd
      refine ⟨cs, hcl, fun j u hj => ?_, hr⟩
      have hjk : j < k := by rw [← hcl]; exact (List.getElem?_eq_some_iff.1 hj).1
      have := hat j hjk
      rw [hj, add_plain, ← Nat.add_assoc] at this
      exact this
set_option maxRecDepth 100000 in
theorem row_of_trod (n : Nat) (cs : List Value) (y : DataW H × List MemPlace) (hl : cs.length = 1) (h : DataW.trod enc Try.prog W 0 (fun _ => true) true n 29 cs = some y) : ∃ d, RowR W cs d := by
  match cs, hl with
  | [sv], _ =>
    obtain ⟨l, hl⟩ := rb_of_trod h
    exact ⟨l, sv, rfl, hl⟩
set_option maxRecDepth 100000 in
theorem out_of_trod (n : Nat) (cs : List Value) (y : DataW H × List MemPlace) (hl : cs.length = 2) (h : DataW.trod enc Try.prog W 0 (fun _ => true) true n 35 cs = some y) : ∃ d, OutR W cs d := by
  match cs, hl with
  | [c0, c1], _ =>
    obtain ⟨xs, m, rfl, _, _, hxl, hf⟩ := DataW.trod_struct Try.underlying35 h
    have h0 : DataW.trod enc Try.prog W 0 (fun _ => true) true m 33 (([c0, c1].drop 0).take (Try.prog.cellsOf 33)) = xs[0]? := hf 0 _ rfl
    have h1 : DataW.trod enc Try.prog W 0 (fun _ => true) true m 29 (([c0, c1].drop 1).take (Try.prog.cellsOf 29)) = xs[1]? := hf 1 _ rfl
    rw [show Try.prog.cellsOf 33 = 1 by kernel_rfl] at h0
    rw [show Try.prog.cellsOf 29 = 1 by kernel_rfl] at h1
    match xs, hxl with
    | [y0, y1], _ =>
      obtain ⟨z, hz, hw⟩ := trod_num Try.underlying33 h0
      obtain ⟨l, hl⟩ := rb_of_trod h1
      injection hz with hz
      have hb := bd_u64 hw
      obtain ⟨q, rfl⟩ := Int.eq_ofNat_of_zero_le hb.1
      subst hz
      exact ⟨⟨q, l⟩, c1, rfl, by show q < 18446744073709551616; omega, hl⟩
set_option maxRecDepth 100000 in
theorem prev_of_trod (n : Nat) (cs : List Value) (y : DataW H × List MemPlace) (hl : cs.length = 32) (h : DataW.trod enc Try.prog W 0 (fun _ => true) true n 28 cs = some y) : ∃ p : List Int, cs = byteVals p ∧ p.length = 32 ∧ Bys p := by
  obtain ⟨xs, m, rfl, _, _, hxl, hf⟩ := DataW.trod_array Try.underlying28 h
  have hex : ∀ i, i < 32 → ∃ z : Int, cs[i]? = some (.int .u8 z) ∧ 0 ≤ z ∧ z ≤ 255 := fun i hi => by
    have h1 := hf i hi
    rw [show Try.prog.cellsOf 5 = 1 by kernel_rfl, Nat.mul_one, List.getElem?_eq_getElem (show i < xs.length by omega)] at h1
    obtain ⟨z, hz, hw⟩ := trod_num Try.underlying5 h1
    refine ⟨z, ?_, bd_u8 hw⟩
    rw [List.drop_eq_getElem_cons (by omega)] at hz
    injection hz with hz
    rw [List.getElem?_eq_getElem (by omega), hz]
  obtain ⟨p, hp, hP⟩ := list_of 32 hex
  refine ⟨p, ?_, hp, fun z hz => ?_⟩
  · apply List.ext_getElem?
    intro i
    by_cases hi : i < 32
    · have h1 := hP i (p[i]'(by omega)) (List.getElem?_eq_getElem (by omega))
      rw [h1.1]
      simp [byteVals, List.getElem?_eq_getElem (show i < p.length by omega)]
    · rw [List.getElem?_eq_none (by omega), List.getElem?_eq_none (by simp [byteVals]; omega)]
  · obtain ⟨i, hi, rfl⟩ := List.mem_iff_getElem.1 hz
    exact (hP i _ (List.getElem?_eq_getElem hi)).2
set_option maxRecDepth 100000 in
theorem in_of_trod (n : Nat) (cs : List Value) (y : DataW H × List MemPlace) (hl : cs.length = 36) (h : DataW.trod enc Try.prog W 0 (fun _ => true) true n 32 cs = some y) : ∃ d, InR W cs d := by
  obtain ⟨xs, m, rfl, _, _, hxl, hf⟩ := DataW.trod_struct Try.underlying32 h
  have h0 : DataW.trod enc Try.prog W 0 (fun _ => true) true m 28 ((cs.drop 0).take (Try.prog.cellsOf 28)) = xs[0]? := hf 0 _ rfl
  have h1 : DataW.trod enc Try.prog W 0 (fun _ => true) true m 22 ((cs.drop 32).take (Try.prog.cellsOf 22)) = xs[1]? := hf 1 _ rfl
  have h2 : DataW.trod enc Try.prog W 0 (fun _ => true) true m 29 ((cs.drop 33).take (Try.prog.cellsOf 29)) = xs[2]? := hf 2 _ rfl
  have h3 : DataW.trod enc Try.prog W 0 (fun _ => true) true m 22 ((cs.drop 34).take (Try.prog.cellsOf 22)) = xs[3]? := hf 3 _ rfl
  have h4 : DataW.trod enc Try.prog W 0 (fun _ => true) true m 30 ((cs.drop 35).take (Try.prog.cellsOf 30)) = xs[4]? := hf 4 _ rfl
  match xs, hxl with
  | [y0, y1, y2, y3, y4], _ =>
    have e0 : Try.prog.cellsOf 28 = 32 := by kernel_rfl
    have e1 : Try.prog.cellsOf 22 = 1 := by kernel_rfl
    have e2 : Try.prog.cellsOf 29 = 1 := by kernel_rfl
    have e3 : Try.prog.cellsOf 30 = 1 := by kernel_rfl
    simp only [e0, e1, e2, e3, List.drop_zero] at h0 h1 h2 h3 h4
    have one : ∀ i, (hi : i < 36) → (cs.drop i).take 1 = [cs[i]'(by omega)] := fun i hi => by
      rw [List.drop_eq_getElem_cons (by omega)]
      rfl
    rw [one 32 (by omega)] at h1
    rw [one 33 (by omega)] at h2
    rw [one 34 (by omega)] at h3
    rw [one 35 (by omega)] at h4
    obtain ⟨p, hp, hpl, hpb⟩ := prev_of_trod _ _ _ (by rw [List.length_take]; omega) h0
    obtain ⟨z1, hz1, hw1⟩ := trod_num Try.underlying22 h1
    obtain ⟨l, hl2⟩ := rb_of_trod h2
    obtain ⟨z3, hz3, hw3⟩ := trod_num Try.underlying22 h3
    obtain ⟨ll, hll⟩ := many_of_trod Try.underlying30 e2 (by omega) row_of_trod h4
    injection hz1 with hz1
    injection hz3 with hz3
    have hb1 := bd_u32 hw1
    have hb3 := bd_u32 hw3
    obtain ⟨q1, rfl⟩ := Int.eq_ofNat_of_zero_le hb1.1
    obtain ⟨q3, rfl⟩ := Int.eq_ofNat_of_zero_le hb3.1
    refine ⟨⟨p, q1, l, q3, ll⟩, _, _, ?_, ⟨hpl, hpb, by show q1 < 4294967296; omega, by show q3 < 4294967296; omega⟩, hl2, hll⟩
    have hcat : cs = cs.take 32 ++ [cs[32]'(by omega), cs[33]'(by omega), cs[34]'(by omega), cs[35]'(by omega)] := by
      conv => lhs; rw [← List.take_append_drop 32 cs]
      congr 1
      rw [List.drop_eq_getElem_cons (by omega), List.drop_eq_getElem_cons (by omega), List.drop_eq_getElem_cons (by omega), List.drop_eq_getElem_cons (by omega), List.drop_eq_nil_of_le (by omega)]
    conv => lhs; rw [hcat, hp, hz1, hz3]
    rfl
set_option maxRecDepth 100000 in
/-- A transaction that comes in. -/
theorem tx_arg {base : Nat} {v : Value} {d : DataW H} {p : List MemPlace} (hok : Value.okWide Try.prog W .any base 26 v) (h : DataW.Trod enc Try.prog W 0 (fun _ => true) true 26 v d p) : ∃ t, TxR W v t := by
  obtain ⟨cs, rfl, hsz⟩ := okWide_struct Try.underlying26 hok
  have hC : Try.prog.cellsOf 26 = 4 := by kernel_rfl
  obtain ⟨l⟩ := cs
  match l, hsz.trans hC with
  | [c0, c1, c2, c3], _ =>
    obtain ⟨fuel, hf0⟩ := h
    obtain ⟨xs, m, rfl, _, _, hxl, hf⟩ := DataW.trod_struct Try.underlying26 hf0
    have h0 : DataW.trod enc Try.prog W 0 (fun _ => true) true m 22 (([c0, c1, c2, c3].drop 0).take (Try.prog.cellsOf 22)) = xs[0]? := hf 0 _ rfl
    have h1 : DataW.trod enc Try.prog W 0 (fun _ => true) true m 23 (([c0, c1, c2, c3].drop 1).take (Try.prog.cellsOf 23)) = xs[1]? := hf 1 _ rfl
    have h2 : DataW.trod enc Try.prog W 0 (fun _ => true) true m 24 (([c0, c1, c2, c3].drop 2).take (Try.prog.cellsOf 24)) = xs[2]? := hf 2 _ rfl
    have h3 : DataW.trod enc Try.prog W 0 (fun _ => true) true m 22 (([c0, c1, c2, c3].drop 3).take (Try.prog.cellsOf 22)) = xs[3]? := hf 3 _ rfl
    match xs, hxl with
    | [y0, y1, y2, y3], _ =>
      rw [show Try.prog.cellsOf 22 = 1 by kernel_rfl] at h0 h3
      rw [show Try.prog.cellsOf 23 = 1 by kernel_rfl] at h1
      rw [show Try.prog.cellsOf 24 = 1 by kernel_rfl] at h2
      obtain ⟨z0, hz0, hw0⟩ := trod_num Try.underlying22 h0
      obtain ⟨z3, hz3, hw3⟩ := trod_num Try.underlying22 h3
      obtain ⟨is, his⟩ := many_of_trod Try.underlying23 (by kernel_rfl) (by omega) in_of_trod h1
      obtain ⟨os, hos⟩ := many_of_trod Try.underlying24 (by kernel_rfl) (by omega) out_of_trod h2
      injection hz0 with hz0
      injection hz3 with hz3
      have hb0 := bd_u32 hw0
      have hb3 := bd_u32 hw3
      obtain ⟨q0, rfl⟩ := Int.eq_ofNat_of_zero_le hb0.1
      obtain ⟨q3, rfl⟩ := Int.eq_ofNat_of_zero_le hb3.1
      subst hz0
      subst hz3
      exact ⟨⟨q0, is, os, q3⟩, _, _, rfl, by show q0 < 4294967296; omega, by show q3 < 4294967296; omega, his, hos⟩
end
end Go.Proofs.Ytbnclajhgkjopaa
