/- Rates that come in as arguments. -/
import Derived.Test.YtompcibcgfjpfaaClose
import Derived.Test.YtompcibcgfjpfaaRtG
import Derived.Deep.Slices
namespace Go.Proofs.Ytompcibcgfjpfaa
open Go.ChangeShapes Go.WideShapes Go.ChangeAt Go.RowKit Go.Deep

section
variable {H : Type} {enc : TypeId × Value → H} {W : World}
/-- A list out of what stands at each place. -/
theorem list_of {α : Type} {P : Nat → α → Prop} : ∀ n, (∀ i, i < n → ∃ x, P i x) → ∃ l : List α, l.length = n ∧ ∀ i x, l[i]? = some x → P i x
  | 0, _ => ⟨[], rfl, fun i x h => by simp at h⟩
  | n + 1, h => by
    obtain ⟨l, hl, hP⟩ := list_of n (fun i hi => h i (by omega))
    obtain ⟨x, hx⟩ := h n (by omega)
    refine ⟨l ++ [x], by simp [hl], fun i y hy => ?_⟩
    by_cases hi : i < n
    · rw [List.getElem?_append_left (by omega)] at hy
      exact hP i y hy
    · rw [List.getElem?_append_right (by omega)] at hy
      have h0 : i - l.length = 0 := by
        have := (List.getElem?_eq_some_iff.1 hy).1
        simp at this
        omega
      rw [h0] at hy
      obtain rfl := Option.some.inj hy
      obtain rfl : i = n := by omega
      exact hx
theorem trod_num {n t : Nat} {k : IntKind} {cs : List Value} {x : DataW H × List MemPlace} (ht : Try.prog.underlying t = some (.int k)) (h : DataW.trod enc Try.prog W 0 (fun _ => true) true n t cs = some x) :
    ∃ z, cs = [.int k z] ∧ (Lit.int k z).wf = true := by
  cases n with
  | zero => simp [DataW.trod] at h
  | succ n =>
    unfold DataW.trod at h
    rw [ht] at h
    split at h <;> simp_all
theorem many_of_trod {α : Type} {R : World → List Value → α → Prop} {n t e k : Nat} {v : Value} {x : DataW H × List MemPlace} (ht : Try.prog.underlying t = some (.slice e)) (hk : Try.prog.cellsOf e = k) (hk0 : 0 < k)
    (hR : ∀ n cs y, cs.length = k → DataW.trod enc Try.prog W 0 (fun _ => true) true n e cs = some y → ∃ d, R W cs d) (h : DataW.trod enc Try.prog W 0 (fun _ => true) true n t [v] = some x) : ∃ ds, Many k R W v ds := by
  rcases open_slice ht h with ⟨hcs, _⟩ | ⟨a, len, cap, m, n', D, Pl, hcs, _, hl, hm, hmm, _, hi⟩
  · injection hcs with hcs
    subst hcs
    exact ⟨[], Many.nil _ _ _⟩
  · injection hcs with hcs
    subst hcs
    simp only [if_true] at hmm
    rw [hk] at hi
    have hex : ∀ i, i < len → ∃ d : α, ∃ cs, cs.length = k ∧ (∀ j, j < k → W.cell? (a.add (i * k + j)) = cs[j]?) ∧ R W cs d := fun i hil => by
      obtain ⟨cs, hc, hy⟩ := hi i (by omega)
      obtain ⟨_, hcl, hat⟩ := World.cells?_some hc
      obtain ⟨d, hd⟩ := hR _ cs _ hcl hy
      exact ⟨d, cs, hcl, fun j hj => by rw [← add_add]; exact hat j hj, hd⟩
    obtain ⟨ds, hdl, hds⟩ := list_of len hex
    refine ⟨ds, some a, cap, by rw [hdl], by omega, hm, (fun h => by cases h), fun hne => ?_⟩
    have hpos : 0 < len := by
      rcases Nat.eq_zero_or_pos len with h0 | h0
      · exact absurd (List.eq_nil_of_length_eq_zero (by omega)) hne
      · exact h0
    obtain ⟨d0, cs0, hc0, hat0, _⟩ := hex 0 hpos
    obtain ⟨b, off, spot⟩ := a
    have h00 : W.cell? ((⟨b, off, spot⟩ : Addr).add (0 * k + 0)) = some (cs0[0]'(by omega)) := by rw [hat0 0 hk0]; exact List.getElem?_eq_getElem (by omega)
    have hspot : spot = none := by
      have := World.cell?_spot h00
      simpa [Addr.add] using this
    subst hspot
    refine ⟨b, off, rfl, ?_, fun i d hd => ?_⟩
    · have := World.block_lt_of_cell? W _ h00
      simpa [Addr.add] using this
    · obtain ⟨cs, hcl, hat, hr⟩ := hds i d hd
      refine ⟨cs, hcl, fun j u hj => ?_, hr⟩
      have hjk : j < k := by rw [← hcl]; exact (List.getElem?_eq_some_iff.1 hj).1
      have := hat j hjk
      rw [hj, add_plain, ← Nat.add_assoc] at this
      exact this
set_option maxRecDepth 100000 in
theorem rate_of_trod (n : Nat) (cs : List Value) (y : DataW H × List MemPlace) (hl : cs.length = 2) (h : DataW.trod enc Try.prog W 0 (fun _ => true) true n 24 cs = some y) : ∃ d, RateR W cs d := by
  match cs, hl with
  | [c0, c1], _ =>
    obtain ⟨xs, m, rfl, _, _, hxl, hf⟩ := DataW.trod_struct Try.underlying24 h
    have h0 : DataW.trod enc Try.prog W 0 (fun _ => true) true m 22 (([c0, c1].drop 0).take (Try.prog.cellsOf 22)) = xs[0]? := hf 0 _ rfl
    have h1 : DataW.trod enc Try.prog W 0 (fun _ => true) true m 3 (([c0, c1].drop 1).take (Try.prog.cellsOf 3)) = xs[1]? := hf 1 _ rfl
    rw [show Try.prog.cellsOf 22 = 1 by kernel_rfl] at h0
    rw [show Try.prog.cellsOf 3 = 1 by kernel_rfl] at h1
    match xs, hxl with
    | [y0, y1], _ =>
      obtain ⟨z, hz, hw⟩ := trod_num Try.underlying22 h0
      obtain ⟨z1, hz1, hw1⟩ := trod_num Try.underlying3 h1
      injection hz with hz
      injection hz1 with hz1
      have hb := bd_u64 hw
      have hb1 := bd_i64 hw1
      obtain ⟨q, rfl⟩ := Int.eq_ofNat_of_zero_le hb.1
      subst hz
      subst hz1
      exact ⟨⟨q, z1⟩, rfl, by show q < 18446744073709551616; omega, hb1⟩
set_option maxRecDepth 100000 in
/-- A rate that comes in. -/
theorem rate_arg {base : Nat} {v : Value} {d : DataW H} {p : List MemPlace} (hok : Value.okWide Try.prog W .any base 24 v) (h : DataW.Trod enc Try.prog W 0 (fun _ => true) true 24 v d p) : ∃ x : RateD, v = .agg #[.int .u64 (x.fee : Int), .int .i64 x.size] ∧ x.Fit := by
  obtain ⟨cs, rfl, hsz⟩ := okWide_struct Try.underlying24 hok
  have hC : Try.prog.cellsOf 24 = 2 := by kernel_rfl
  obtain ⟨l⟩ := cs
  match l, hsz.trans hC with
  | [c0, c1], _ =>
    obtain ⟨fuel, hf0⟩ := h
    obtain ⟨x, hx, hfit⟩ := rate_of_trod (W := W) _ _ _ rfl hf0
    refine ⟨x, ?_, hfit⟩
    injection hx with e1 e2
    injection e2 with e2
    rw [e1, e2]
set_option maxRecDepth 100000 in
/-- Rates that come in. -/
theorem rates_arg {base : Nat} {v : Value} {d : DataW H} {p : List MemPlace} (hok : Value.okWide Try.prog W .any base 36 v) (h : DataW.Trod enc Try.prog W 0 (fun _ => true) true 36 v d p) : ∃ l, RatesR W v l := by
  obtain ⟨A, n, c, rfl⟩ := okWide_slice Try.underlying36 hok
  obtain ⟨fuel, hf⟩ := h
  exact many_of_trod Try.underlying36 (by kernel_rfl) (by omega) (fun n cs y hl h => rate_of_trod n cs y hl h) hf
end
end Go.Proofs.Ytompcibcgfjpfaa
