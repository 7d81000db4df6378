/- What is known of the law's transactions, whatever the two numbers: they may be, their numbers fit, their bytes are bytes. No program. -/
import Derived.Test.YtojeonepplfhlaaScB
import Derived.Test.YtojeonepplfhlaaTxP
namespace Go.Proofs.Ytojeonepplfhlaa
open Go.RowKit

theorem cntBys (m : Nat) : Bys (cnt m) := by
  unfold cnt
  split
  · exact leb_bys _ _
  · split
    · intro x hx
      rcases List.mem_cons.1 hx with rfl | hx
      · omega
      · exact leb_bys _ _ x hx
    · intro x hx
      rcases List.mem_cons.1 hx with rfl | hx
      · omega
      · exact leb_bys _ _ x hx
theorem encText_bys {x : List Int} (h : Bys x) : Bys (encText x) := (cntBys _).app h
theorem flat_bys {α : Type} {f : α → List Int} {l : List α} (h : ∀ x ∈ l, Bys (f x)) : Bys (flat f l) := by
  intro y hy
  unfold flat at hy
  obtain ⟨r, hr, hyr⟩ := List.mem_flatten.1 hy
  obtain ⟨x, hx, rfl⟩ := List.mem_map.1 hr
  exact h x hx y hyr
/-- All that is written is bytes. -/
structure TxBys (t : TxD) : Prop where
  ins : ∀ d ∈ t.ins, Bys d.prev ∧ Bys d.script ∧ ∀ x ∈ d.wit, Bys x
  outs : ∀ d ∈ t.outs, Bys d.script
theorem encTx_bys {t : TxD} (h : TxBys t) (wh : Bool) : Bys (encTx t wh) := by
  have h1 : Bys (flat encIn t.ins) := flat_bys fun d hd => (h.ins d hd).1.app ((leb_bys _ _).app ((encText_bys (h.ins d hd).2.1).app (leb_bys _ _)))
  have h2 : Bys (flat encOut t.outs) := flat_bys fun d hd => (leb_bys _ _).app (encText_bys (h.outs d hd))
  have h3 : Bys (flat encWits t.ins) := flat_bys fun d hd => by
    unfold encWits encWit
    rw [encRows_flat]
    exact (cntBys _).app (flat_bys fun x hx => encText_bys ((h.ins d hd).2.2 x hx))
  unfold encTx
  refine (leb_bys _ _).app (Bys.app ?_ ((cntBys _).app (h1.app ((cntBys _).app (h2.app (Bys.app ?_ (leb_bys _ _)))))))
  · split
    · unfold Bys; decide
    · exact Bys.nil
  · split
    · exact h3
    · exact Bys.nil
theorem bytesOf_bys {t : TxD} (h : TxBys t) : Bys (bytesOf t) := by
  unfold bytesOf
  split
  · exact encTx_bys h _
  · exact Bys.nil
theorem baseOf_bys {t : TxD} (h : TxBys t) : Bys (baseOf t) := by
  unfold baseOf
  split
  · exact encTx_bys h _
  · exact Bys.nil
theorem encTx_len {t : TxD} (h : MayF t) (hp : ∀ d ∈ t.ins, d.prev.length = 32) (wh : Bool) : (encTx t wh).length ≤ 400000 := by
  have h1 := flat_len encIn 545 t.ins fun d hd => encIn_len d (hp d hd) (h.isc d hd)
  have h2 := flat_len encOut 513 t.outs fun d hd => encOut_len d (h.osc d hd)
  have h3 := flat_len encWits 5055 t.ins fun d hd => encWits_len d (h.iwl d hd) (h.iwx d hd)
  have h4 := h.i50
  have h5 := h.o50
  have h6 := cnt_max t.ins.length
  have h7 := cnt_max t.outs.length
  unfold encTx
  simp only [List.length_append, leb_len]
  have h8 : (if wh = true then [0, 1] else ([] : List Int)).length ≤ 2 := by split <;> simp
  have h9 : (if wh = true then flat encWits t.ins else ([] : List Int)).length ≤ 5055 * t.ins.length := by
    split
    · exact h3
    · simp
  omega
theorem bytesOf_len {t : TxD} (h : MayF t) (hp : ∀ d ∈ t.ins, d.prev.length = 32) : (bytesOf t).length ≤ 400000 := by
  unfold bytesOf
  split
  · exact encTx_len h hp _
  · simp

theorem inOf_fit (m : Int) (j : Nat) (hj : j ≤ 3) : (inOf m j).Fit := by
  refine ⟨?_, ?_, ?_, ?_⟩
  · simp [inOf, zeros]
  · intro x hx
    unfold inOf zeros at hx
    simp only [List.mem_cons, List.mem_append, List.not_mem_nil, or_false] at hx
    rcases hx with rfl | hx | rfl
    · omega
    · have := List.eq_of_mem_replicate hx
      omega
    · omega
  · show (m / 2 ^ (2 * j) % 4).toNat < 4294967296
    omega
  · show (4294967295 - m / 2 ^ (8 + j) % 4).toNat < 4294967296
    omega
theorem inOf_script (m : Int) (j : Nat) : (inOf m j).script.length ≤ 1 ∧ Bys (inOf m j).script := by
  unfold inOf
  simp only
  split
  · refine ⟨by simp, fun x hx => ?_⟩
    rw [List.mem_singleton.1 hx]
    omega
  · exact ⟨by simp, Bys.nil⟩
theorem inOf_wit (m : Int) (j : Nat) : (inOf m j).wit.length ≤ 2 ∧ ∀ x ∈ (inOf m j).wit, x.length ≤ 1 ∧ Bys x := by
  unfold inOf
  simp only
  split
  · refine ⟨by simp [List.length_take]; omega, fun x hx => ?_⟩
    have := List.mem_of_mem_take hx
    simp only [List.mem_cons, List.not_mem_nil, or_false] at this
    rcases this with rfl | rfl
    · refine ⟨by simp, fun x hx => ?_⟩
      rw [List.mem_singleton.1 hx]
      omega
    · exact ⟨by simp, Bys.nil⟩
  · exact ⟨by simp, fun x hx => by cases hx⟩
theorem mem_ins {n m : Int} {d : InD} (h : d ∈ (txOf n m).ins) : ∃ j, j ≤ 3 ∧ d = inOf m j := by
  obtain ⟨j, hj, rfl⟩ := List.mem_map.1 h
  rw [List.mem_range] at hj
  exact ⟨j, by omega, rfl⟩
theorem mem_outs {n m : Int} {d : OutD} (h : d ∈ (txOf n m).outs) : ∃ j, d = outOf n m j := by
  obtain ⟨j, hj, rfl⟩ := List.mem_map.1 h
  exact ⟨j, rfl⟩
theorem txOf_lens (n m : Int) : 1 ≤ (txOf n m).ins.length ∧ (txOf n m).ins.length ≤ 4 ∧ 1 ≤ (txOf n m).outs.length ∧ (txOf n m).outs.length ≤ 4 := by
  simp only [txOf, List.length_map, List.length_range]
  omega
theorem txOf_may (n m : Int) : MayF (txOf n m) := by
  obtain ⟨h1, h2, h3, h4⟩ := txOf_lens n m
  refine ⟨h1, by omega, h3, by omega, fun d hd => ?_, fun d hd => ?_, fun d hd x hx => ?_, fun d hd => ?_⟩
  · obtain ⟨j, _, rfl⟩ := mem_ins hd
    have := (inOf_script m j).1
    omega
  · obtain ⟨j, _, rfl⟩ := mem_ins hd
    have := (inOf_wit m j).1
    omega
  · obtain ⟨j, _, rfl⟩ := mem_ins hd
    have := ((inOf_wit m j).2 x hx).1
    omega
  · obtain ⟨j, rfl⟩ := mem_outs hd
    have := scriptOf_len (m / 2 ^ j)
    show (scriptOf (m / 2 ^ j)).length ≤ 500
    omega
theorem txOf_fit (n m : Int) : TxFit (txOf n m) := by
  refine ⟨?_, ?_, fun d hd => ?_, fun d hd => ?_⟩
  · show (n % 4 + 1).toNat < 4294967296
    omega
  · show (n / 4 % 2 * (n / 8 % 32)).toNat < 4294967296
    rcases (show n / 4 % 2 = 0 ∨ n / 4 % 2 = 1 by omega) with h | h <;> rw [h] <;> omega
  · obtain ⟨j, hj, rfl⟩ := mem_ins hd
    exact inOf_fit m j hj
  · obtain ⟨j, rfl⟩ := mem_outs hd
    show (n / 2 ^ (12 + j) % 4096).toNat < 18446744073709551616
    omega
theorem txOf_bys (n m : Int) : TxBys (txOf n m) := by
  refine ⟨fun d hd => ?_, fun d hd => ?_⟩
  · obtain ⟨j, hj, rfl⟩ := mem_ins hd
    exact ⟨(inOf_fit m j hj).pbys, (inOf_script m j).2, fun x hx => ((inOf_wit m j).2 x hx).2⟩
  · obtain ⟨j, rfl⟩ := mem_outs hd
    exact scriptOf_bys _
theorem txOf_len (n m : Int) : (bytesOf (txOf n m)).length ≤ 400000 := bytesOf_len (txOf_may n m) fun d hd => ((txOf_fit n m).ins d hd).plen
theorem txOf_parse (n m : Int) : pParse (bytesOf (txOf n m)) = (txOf n m, true) := pParse_back _ (txOf_may n m) (txOf_fit n m)
end Go.Proofs.Ytojeonepplfhlaa
