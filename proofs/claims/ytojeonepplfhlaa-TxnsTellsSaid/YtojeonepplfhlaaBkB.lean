/- append onto an empty row without room: a new block. -/
import Derived.Test.YtojeonepplfhlaaBkA
import Derived.Deep.AppendSrc
namespace Go.Proofs.Ytojeonepplfhlaa
open Go.RowKit

set_option maxRecDepth 100000 in
theorem run_append_fresh {w : World} {ty : TypeId} {q : Nat} {u : Value} {k : List Int} {g : Nat} (hsl : Sl w g u k) (hk : 0 < k.length) (h47 : k.length ≤ 1000000) :
    ∃ v' w', (Builtin.append_ #[27, 27] ty #[.slice (some ⟨q, 0, none⟩) 0 0, u]).run Try.prog w = .ok v' w' ∧ Own w' w.heap.size 5 v' k ∧ Below w.heap.size w w' := by
  obtain ⟨i0, hi, hz0, hz1, hz2⟩ := info_parts infoByte
  obtain ⟨A, c, rfl, hc, hn, hr⟩ := hsl
  obtain ⟨b, off, rfl, hb, hlt, hrun⟩ := hr (fun e => by rw [e] at hk; exact absurd hk (Nat.lt_irrefl 0))
  have hge := grownCap_ge w (0 + k.length) 0 5
  have hcm : grownCap w (0 + k.length) 0 5 ≤ maxLen := grownCap_le_maxLen w (0 + k.length) 0 5 (by unfold maxLen; omega)
  have hsrc : Src Try.prog i0.size 27 (.slice (some ⟨b, off, none⟩) k.length c) k.length (byteVals k) w := by
    refine Src.ofSlice w Try.underlying27 ⟨b, off, none⟩ k.length c (byteVals k) (by rw [hz1]; simp [byteVals]) (fun j v hj => ?_) (byteVals_one k)
    obtain ⟨hjl, rfl⟩ := byteVals_at k j v hj
    have : (⟨b, off, none⟩ : Addr).add j = ⟨b, off + j, none⟩ := by unfold Addr.add; split <;> simp_all
    rw [this]
    exact hrun j hjl
  have hrn := run_append_grow_src (P := Try.prog) w 27 27 ty 5 i0 _ Try.underlying27 hi hz0 (some ⟨q, 0, none⟩) 0 0 [] (run_firstCells_some (P := Try.prog) w.drew i0.size 0 ⟨q, 0, none⟩ 0 0 [] (by simp) (fun j u hj => by simp at hj)) _ k.length (byteVals k) hsrc (by omega) (by omega) (by
    rw [hz2]
    have : ¬ (281474976710656 < Builtin.nextslicecap (0 + k.length) 0) := by
      unfold Builtin.nextslicecap
      split
      · omega
      · split <;> omega
    omega)
  refine ⟨_, _, hrn, ?_, (Below.refl _ _).drew.alloc (Nat.le_refl _) _⟩
  rw [zeroCells_u8, List.nil_append, Nat.zero_add]
  rw [Nat.zero_add] at hge hcm
  refine ⟨by simp [byteVals], .inr ⟨w.heap.size, _, _, rfl, Nat.le_refl _, heap_alloc_new w.drew _, hge, hcm, ?_, ?_⟩⟩
  · simp [byteVals, zeros]
    omega
  · simp [byteVals, zeros]
set_option maxRecDepth 100000 in
theorem step_append_fresh {w : World} {ops : Array Oper} {o : Oper} {a : Act} {K : Act → World → Prop} {Q : Exit → Act → World → Prop} {E : Prop} (hgd : o.guard = none) (s x : Operand)
    (ho : o.op = .call { callee := .builtin .append, args := #[s, x], argTypes := #[27, 27] })
    (q : Nat) (hs : a.eval s = .slice (some ⟨q, 0, none⟩) 0 0) (g : Nat) (u : Value) (k : List Int) (hx : a.eval x = u) (hsl : Sl w g u k) (hk : 0 < k.length) (h47 : k.length ≤ 1000000)
    (h : ∀ v' w', Own w' w.heap.size 5 v' k → Below w.heap.size w w' → K (a.put o.dst v') w') :
    if Region.wanted o (yielded ops a.tmps) = true then Oper.wp Try.prog o a w K Q else E := by
  have hwd : Region.wanted o (yielded ops a.tmps) = true := by simp [Region.wanted, hgd]
  rw [if_pos hwd]
  obtain ⟨v', w', hrn, h2, h3⟩ := run_append_fresh (ty := o.type) (q := q) hsl hk h47
  unfold Oper.wp execOp
  simp only [ho, resolve, invoke, builtin, Sem.run_bind, Sem.run_pure, Result.andThen_ok, List.map_toArray, List.map_cons, List.map_nil, hs, hx, hrn]
  exact h v' w' h2 h3
set_option maxRecDepth 100000 in
theorem wp_append_fresh {w : World} {o : Oper} {a : Act} {K : Act → World → Prop} {Q : Exit → Act → World → Prop} (s x : Operand)
    (ho : o.op = .call { callee := .builtin .append, args := #[s, x], argTypes := #[27, 27] })
    (q : Nat) (hs : a.eval s = .slice (some ⟨q, 0, none⟩) 0 0) (g : Nat) (u : Value) (k : List Int) (hx : a.eval x = u) (hsl : Sl w g u k) (hk : 0 < k.length) (h47 : k.length ≤ 1000000)
    (h : ∀ v' w', Own w' w.heap.size 5 v' k → Below w.heap.size w w' → K (a.put o.dst v') w') : Oper.wp Try.prog o a w K Q := by
  obtain ⟨v', w', hrn, h2, h3⟩ := run_append_fresh (ty := o.type) (q := q) hsl hk h47
  unfold Oper.wp execOp
  simp only [ho, resolve, invoke, builtin, Sem.run_bind, Sem.run_pure, Result.andThen_ok, List.map_toArray, List.map_cons, List.map_nil, hs, hx, hrn]
  exact h v' w' h2 h3
set_option maxRecDepth 100000 in
theorem wp_append_bytes {P : Program} {w : World} {o : Oper} {a : Act} {K : Act → World → Prop} {Q : Exit → Act → World → Prop} (hgd : o.guard = none) (s x : Operand) (t : TypeId)
    (ho : o.op = .call { callee := .builtin .append, args := #[s, x], argTypes := #[t, t] })
    (base e : TypeId) (i : TypeInfo) (ht : P.underlying t = some (.slice e)) (hi : P.info? e = some i) (hz : i.zero = some (.int .u8 0)) (hsize : i.size = 1) (hby : i.bytes = 1)
    (v : Value) (l : List Int) (hs : a.eval s = v) (hown : Own w base e v l)
    (g : Nat) (u : Value) (k : List Int) (hx : a.eval x = u) (hsl : Sl w g u k) (h47 : l.length + k.length ≤ 140737488355328) (hbase : base ≤ w.heap.size)
    (h : ∀ v' w', Own w' base e v' (l ++ k) → w.grownBy w' v.ownBlock → K (a.put o.dst v') w') : Oper.wp P o a w K Q := by
  have h1 := step_append_bytes (Q := Q) (ops := #[]) (E := True) hgd s x t ho base e i ht hi hz hsize hby v l hs hown g u k hx hsl h47 hbase h
  have hwd : Region.wanted o (yielded #[] a.tmps) = true := by simp [Region.wanted, hgd]
  rw [if_pos hwd] at h1
  exact h1
end Go.Proofs.Ytojeonepplfhlaa
