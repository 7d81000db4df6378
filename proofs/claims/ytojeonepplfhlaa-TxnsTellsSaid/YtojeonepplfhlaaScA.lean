/- append of a made row of zeros onto a literal row; the law's Script. -/
import Derived.Test.YtojeonepplfhlaaTxJ
import Derived.Lib.AppendZeros
import Derived.Lib.SlBytesConst
namespace Go.Proofs.Ytojeonepplfhlaa
open Go.RowKit

def zeros (n : Nat) : List Int := List.replicate n 0
theorem zeros_bys (n : Nat) : Bys (zeros n) := fun x hx => by rw [List.eq_of_mem_replicate hx]; omega
theorem zeroCells_u8 (n : Nat) : Builtin.zeroCells (Value.int .u8 0).cells n = (byteVals (zeros n)).toArray := by
  apply Array.ext'
  simp [Builtin.zeroCells, Value.cells, byteVals, zeros]
  apply List.ext_getElem
  · simp
  · intro i h1 h2
    simp at h1
    simp [Nat.mod_one]

set_option maxRecDepth 100000 in
set_option maxRecDepth 100000 in
/-- 'append([]byte{..}, make([]byte, n)...)'. -/
theorem wpList_append_zeros {w : World} {ops : Array Oper} {rest : List Oper} {o : Oper} {a : Act} {Q : Exit → Act → World → Prop} (hgd : o.guard = none) (s x : Operand)
    (ho : o.op = .call { callee := .builtin .append, args := #[s, x], argTypes := #[27, 3] }) (m : Nat) (l : List Int) (hs : a.eval s = .slice (some ⟨w.heap.size, 0, none⟩) m m) (hl : l.length = m)
    (cells : Array Value) (hcells : cells = (byteVals l).toArray) (n : Nat) (hx : a.eval x = .int .i64 (n : Int)) (hm : m ≤ 100) (hn : n ≤ 100)
    (h : ∀ v' w', Own w' w.heap.size 5 v' (l ++ zeros n) → Below w.heap.size w w' → wpList Try.prog ops Q rest (a.put o.dst v') w') : wpList Try.prog ops Q (o :: rest) a (w.alloc (.cells cells 5)) := by
  obtain ⟨i0, hi, hz0, hz1, hz2⟩ := info_parts infoByte
  subst hcells
  have hb0 : Below w.heap.size w (w.alloc (.cells (byteVals l).toArray 5)) := (Below.refl _ _).alloc (Nat.le_refl _) _
  have hbox : Box (w.alloc (.cells (byteVals l).toArray 5)) w.heap.size 5 (byteVals l).toArray := Box.fresh w _ _
  have hbl : (byteVals l).length = m := by simp [byteVals, hl]
  by_cases h0 : n = 0
  · subst h0
    have hr : (Builtin.append_ #[27, 3] o.type #[.slice (some ⟨w.heap.size, 0, none⟩) m m, .int .i64 ((0 : Nat) : Int)]).run Try.prog (w.alloc (.cells (byteVals l).toArray 5)) = .ok (.slice (some ⟨w.heap.size, 0, none⟩) m m) (w.alloc (.cells (byteVals l).toArray 5)) := by
      simp [Builtin.append_, run_underlying Try.underlying27, run_underlying Try.underlying3, sizeOf, typeInfo, hi, hz2, asInt, asIntOf, storeCells, IntKind.wrap_i64]
    refine Lib.wpList_append_run _ hgd s x _ _ ho _ _ hs hx _ _ hr (h _ _ ?_ hb0)
    rw [show l ++ zeros 0 = l by simp [zeros]]
    refine ⟨by simp [byteVals], .inr ⟨w.heap.size, m, _, by rw [hl], Nat.le_refl _, hbox, by omega, by unfold maxLen; omega, by simp [hbl], ?_⟩⟩
    rw [List.take_of_length_le (by simp [byteVals])]
  · obtain ⟨W, hW⟩ : ∃ W, w.alloc (.cells (byteVals l).toArray 5) = W := ⟨_, rfl⟩
    rw [hW] at hb0 hbox ⊢
    have hge := grownCap_ge W (m + n) m 5
    have hcm : grownCap W (m + n) m 5 ≤ maxLen := grownCap_le_maxLen W (m + n) m 5 (by unfold maxLen; omega)
    have hfo := run_firstCells_some (P := Try.prog) W.drew 1 m ⟨w.heap.size, 0, none⟩ m m (byteVals l) (by rw [hbl]; omega) (fun j u hj => by
      have : (⟨w.heap.size, 0, none⟩ : Addr).add j = ⟨w.heap.size, j, none⟩ := by unfold Addr.add; split <;> simp_all
      rw [this]
      have := (hbox.below (Below.refl _ _).drew).cell j
      rw [this]
      simpa using hj)
    have hr : (Builtin.append_ #[27, 3] o.type #[.slice (some ⟨w.heap.size, 0, none⟩) m m, .int .i64 (n : Int)]).run Try.prog W =
        .ok (.slice (some ⟨W.heap.size, 0, none⟩) (m + n) (grownCap W (m + n) m 5)) (W.drew.alloc (.cells ((byteVals l).toArray ++ (byteVals (zeros n)).toArray ++ (byteVals (zeros (grownCap W (m + n) m 5 - (m + n)))).toArray) 5)) := by
      have h1 : IntKind.i64.wrap (n : Int) = n := by rw [IntKind.wrap_i64]; omega
      have h2 : ¬ ((n : Int) < 0) := by omega
      have h3 : ¬ (m + n ≤ m) := by omega
      have h4 : ¬ (281474976710656 < (n : Int)) := by omega
      have h5 : ¬ (9223372036854775807 < (m : Int) + (n : Int)) := by omega
      have h6 : ¬ (281474976710656 < Builtin.nextslicecap (m + n) m) := by
        unfold Builtin.nextslicecap
        split
        · omega
        · rw [if_pos (by omega)]; omega
      rw [← zeroCells_u8, ← zeroCells_u8]
      simp [Builtin.append_, run_underlying Try.underlying27, run_underlying Try.underlying3, sizeOf, typeInfo, zeroValue, hi, hz0, hz1, hz2, asInt, asIntOf, h1, h2, h3, h4, h5, h6, h0, Question.forced, hfo, newRow, grownCap]
    refine Lib.wpList_append_run _ hgd s x _ _ ho _ _ hs hx _ _ hr (h _ _ ?_ ((hb0.drew).alloc (by have := hb0.size; simpa using this) _))
    have hlen : (l ++ zeros n).length = m + n := by simp [zeros, hl]
    refine ⟨by simp [byteVals], .inr ⟨W.heap.size, _, _, by rw [hlen], hb0.size, heap_alloc_new W.drew _, by rw [hlen]; exact hge, hcm, ?_, ?_⟩⟩
    · simp [byteVals, zeros, hl]
      omega
    · rw [hlen, Nat.mul_one]
      simp only [Array.toList_append]
      rw [show (byteVals (l ++ zeros n)) = byteVals l ++ byteVals (zeros n) by simp [byteVals]]
      rw [List.take_append_of_le_length (by simp [byteVals, zeros, hl]), List.take_of_length_le (by simp [byteVals, zeros, hl])]

/-- The slice v reads as the bytes l; they lie in a block of bytes. -/
def RbT (w : World) (v : Value) (l : List Int) : Prop := Rb w v l ∧ (l ≠ [] → ∃ b off n c cs fr, v = .slice (some ⟨b, off, none⟩) n c ∧ w.heap[b]? = some (.cells cs 5 fr))
set_option maxRecDepth 100000 in
theorem RbT.keeps {ts : List Nat} {w w' : World} {v : Value} {l : List Int} (h : RbT w v l) (hk : Keeps ts w w') (hu : 5 ∈ ts) : RbT w' v l := by
  obtain ⟨⟨⟨A, c, rfl, hc, hn, hr⟩, hy, hm⟩, ht⟩ := h
  refine ⟨⟨⟨A, c, rfl, hc, hn, fun hl => ?_⟩, hy, hm⟩, fun hl => ?_⟩
  · obtain ⟨b, off, rfl, hb, hlt, hrun⟩ := hr hl
    obtain ⟨b', off', n', c', cs, fr, e, hx⟩ := ht hl
    injection e with e1 _ _
    injection e1 with e1
    injection e1 with e1 e2 _
    subst e1
    have hx' := hk.2 _ _ _ hu hx
    exact ⟨b, off, rfl, Nat.ne_of_lt (heap_lt hx'), heap_lt hx', fun i hi => (World.cell?_of_block (hx'.trans hx.symm)).trans (hrun i hi)⟩
  · obtain ⟨b', off', n', c', cs, fr, e, hx⟩ := ht hl
    exact ⟨b', off', n', c', cs, fr, e, hk.2 _ _ _ hu hx⟩
set_option maxRecDepth 100000 in
theorem Own.rbT {w : World} {B : Nat} {v : Value} {l : List Int} (h : Own w B 5 v l) (hy : Bys l) : RbT w v l := by
  refine ⟨h.rb hy, fun hl => ?_⟩
  rcases h.form with ⟨_, h0⟩ | ⟨g, cap, cur, rfl, _, hx, _⟩
  · exact absurd h0 hl
  · exact ⟨g, 0, _, _, cur, _, rfl, hx⟩
set_option maxRecDepth 100000 in
theorem rbT_frozen (w : World) (l : List Int) (hl : l.length ≤ 1000) (hy : Bys l) (cells : Array Value) (hc : cells = (byteVals l).toArray) (fr : Nat × Nat) : RbT (w.alloc (.cells cells 5 fr)) (.slice (some ⟨w.heap.size, 0, none⟩) l.length l.length) l := by
  subst hc
  have hg : (w.alloc (.cells (byteVals l).toArray 5 fr)).heap[w.heap.size]? = some (.cells (byteVals l).toArray 5 fr) := heap_alloc_new w _
  refine ⟨⟨⟨_, _, rfl, Nat.le_refl _, (fun h => by cases h), fun _ => ⟨w.heap.size, 0, rfl, by simp, by simp, fun i hi => ?_⟩⟩, hy, by unfold maxLen; omega⟩, fun _ => ⟨_, _, _, _, _, _, rfl, hg⟩⟩
  rw [cell_of_row _ _ _ _ _ _ hg, Nat.zero_add]
  simp [byteVals, List.getD_eq_getElem?_getD, hi]
/-- A row of bytes: the call's own, or full, in a block of bytes. -/
def RbF (w : World) (B : Nat) (v : Value) (l : List Int) : Prop := Bys l ∧ (Own w B 5 v l ∨ (RbT w v l ∧ l ≠ [] ∧ ∃ A, v = .slice A l.length l.length))
section
set_option maxRecDepth 100000
variable {w : World} {B : Nat} {v : Value} {l : List Int}
theorem RbF.rbT (h : RbF w B v l) : RbT w v l := by
  obtain ⟨hy, h | h⟩ := h
  · exact h.rbT hy
  · exact h.1
set_option maxRecDepth 100000 in
theorem RbF.keeps {ts : List Nat} {w' : World} (h : RbF w B v l) (hk : Keeps ts w w') (hu : 5 ∈ ts) : RbF w' B v l := by
  obtain ⟨hy, h | ⟨h, h2⟩⟩ := h
  · exact ⟨hy, .inl (h.keeps hk hu)⟩
  · exact ⟨hy, .inr ⟨h.keeps hk hu, h2⟩⟩
theorem RbF.less {B' : Nat} (h : RbF w B v l) (hB : B' ≤ B) : RbF w B' v l := by
  obtain ⟨hy, h | h⟩ := h
  · exact ⟨hy, .inl (h.less hB)⟩
  · exact ⟨hy, .inr h⟩
end
def ScrP (l : List Int) (w : World) (e : Ending) (w' : World) : Prop := ∃ v, e = .returned v ∧ RbF w' w.heap.size v l ∧ Below w.heap.size w w'
def scriptOf (n : Int) : List Int :=
  if n % 8 = 0 then [81, 2, 78, 115]
  else if n % 8 = 1 ∨ n % 8 = 2 then [0, 20] ++ zeros 20
  else if n % 8 = 3 then [0, 32] ++ zeros 32
  else if n % 8 = 4 ∨ n % 8 = 5 then [81, 32, n / 8 % 256] ++ zeros 31
  else if n % 8 = 6 then [106] ++ zeros (n / 8 % 32).toNat
  else [n / 8 % 256]
theorem scriptOf_len (n : Int) : (scriptOf n).length ≤ 34 := by
  unfold scriptOf zeros
  repeat' split
  all_goals simp
  omega
theorem scriptOf_bys (n : Int) : Bys (scriptOf n) := by
  unfold scriptOf
  repeat' split
  · unfold Bys; decide
  · exact Bys.app (by unfold Bys; decide) (zeros_bys _)
  · exact Bys.app (by unfold Bys; decide) (zeros_bys _)
  · refine Bys.app (fun x hx => ?_) (zeros_bys _)
    simp only [List.mem_cons, List.not_mem_nil, or_false] at hx
    rcases hx with rfl | rfl | rfl <;> omega
  · exact Bys.app (by unfold Bys; decide) (zeros_bys _)
  · intro x hx
    rw [List.mem_singleton.1 hx]
    omega
set_option maxRecDepth 100000 in
theorem own_lit (w : World) (l : List Int) (hl : l.length ≤ 1000) (cells : Array Value) (hc : cells = (byteVals l).toArray) : Own (w.alloc (.cells cells 5)) w.heap.size 5 (.slice (some ⟨w.heap.size, 0, none⟩) l.length l.length) l := by
  subst hc
  refine ⟨by simp [byteVals], .inr ⟨w.heap.size, l.length, _, rfl, Nat.le_refl _, Box.fresh w _ _, Nat.le_refl _, by unfold maxLen; omega, by simp [byteVals], ?_⟩⟩
  rw [List.take_of_length_le (by simp [byteVals])]

set_option maxRecDepth 100000 in
set_option maxHeartbeats 4000000 in
theorem script_any (w : World) (n : Int) (hn : -9223372036854775808 ≤ n ∧ n ≤ 9223372036854775807) : Calls Try.prog 22 #[.int .i64 n] w (ScrP (scriptOf n) w) := by
  have HY := Kp.mk (scriptOf_bys n)
  have hq : bits BinOp.and IntKind.i64 n 7 = n % 8 := and_mask n 3 (by omega)
  have hz : bits BinOp.and IntKind.i64 (n / 8) 31 = n / 8 % 32 := and_mask (n / 8) 5 (by omega)
  have hw3 : IntKind.i64.wrap (n / 8) = n / 8 := by rw [IntKind.wrap_i64]; omega
  have hx : IntKind.u8.wrap (n / 8) = n / 8 % 256 := by simp [IntKind.wrap, IntKind.bits, IntKind.signed]
  obtain ⟨q, hq2⟩ : ∃ q, n / 8 = q := ⟨_, rfl⟩
  obtain ⟨x, hx2⟩ : ∃ x, q % 256 = x := ⟨_, rfl⟩
  obtain ⟨z, hz2⟩ : ∃ z : Nat, q % 32 = (z : Int) := ⟨(q % 32).toNat, by omega⟩
  have hz31 : z ≤ 31 := by omega
  have hb0 : Below w.heap.size w w := Below.refl _ _
  have HS : Kp (scriptOf n = if n % 8 = 0 then [81, 2, 78, 115] else if n % 8 = 1 ∨ n % 8 = 2 then [0, 20] ++ zeros 20 else if n % 8 = 3 then [0, 32] ++ zeros 32 else if n % 8 = 4 ∨ n % 8 = 5 then [81, 32, x] ++ zeros 31 else if n % 8 = 6 then [106] ++ zeros z else [x]) := ⟨by
    unfold scriptOf
    rw [hq2, hx2, hz2]
    simp⟩
  rw [hq2] at hz hw3 hx
  rw [hx2] at hx
  rw [hz2] at hz
  have hm : n % 8 = 0 ∨ n % 8 = 1 ∨ n % 8 = 2 ∨ n % 8 = 3 ∨ n % 8 = 4 ∨ n % 8 = 5 ∨ n % 8 = 6 ∨ n % 8 = 7 := by omega
  rcases hm with h | h | h | h | h | h | h | h
  · rw [h] at hq HS
    have HE : Kp (scriptOf n = [81, 2, 78, 115]) := ⟨by rw [HS.out]; simp⟩
    clear h HS
    have kc := fun (w : World) (C : Array Value) (n c : Nat) => Lib.run_convert_bytes_const (P := Try.prog) w 27 5 C n c Try.underlying27 Try.underlying5
    go_enter Try.func22, Try.ntmps22
    go_wp2
    go_ret
    exact ⟨_, rfl, by have hy := HY.out; rw [HE.out] at hy ⊢; exact ⟨hy, .inr ⟨rbT_frozen w [81, 2, 78, 115] (by simp) hy _ rfl _, by simp, _, rfl⟩⟩, hb0.alloc (Nat.le_refl _) _⟩
  · rw [h] at hq HS
    have HE : Kp (scriptOf n = [0, 20] ++ zeros 20) := ⟨by rw [HS.out]; simp⟩
    clear h HS
    go_enter Try.func22, Try.ntmps22
    go_wp2_with (at_builtin; refine wpList_append_zeros rfl (.tmp 12) (.const (.int .i64 20)) rfl 2 [0, 20] rfl rfl _ rfl 20 rfl (by omega) (by omega) ?_)
    intro v1 w1 ho1 hb1
    have HO := Kp.mk ho1
    have HB := Kp.mk hb1
    obtain ⟨A, c, rfl⟩ := ho1.slice
    clear ho1 hb1
    go_wp2
    go_ret
    exact ⟨_, rfl, by have hy := HY.out; rw [HE.out] at hy ⊢; exact ⟨hy, .inl HO.out⟩, HB.out⟩
  · rw [h] at hq HS
    have HE : Kp (scriptOf n = [0, 20] ++ zeros 20) := ⟨by rw [HS.out]; simp⟩
    clear h HS
    go_enter Try.func22, Try.ntmps22
    go_wp2_with (at_builtin; refine wpList_append_zeros rfl (.tmp 12) (.const (.int .i64 20)) rfl 2 [0, 20] rfl rfl _ rfl 20 rfl (by omega) (by omega) ?_)
    intro v1 w1 ho1 hb1
    have HO := Kp.mk ho1
    have HB := Kp.mk hb1
    obtain ⟨A, c, rfl⟩ := ho1.slice
    clear ho1 hb1
    go_wp2
    go_ret
    exact ⟨_, rfl, by have hy := HY.out; rw [HE.out] at hy ⊢; exact ⟨hy, .inl HO.out⟩, HB.out⟩
  · rw [h] at hq HS
    have HE : Kp (scriptOf n = [0, 32] ++ zeros 32) := ⟨by rw [HS.out]; simp⟩
    clear h HS
    go_enter Try.func22, Try.ntmps22
    go_wp2_with (at_builtin; refine wpList_append_zeros rfl (.tmp 16) (.const (.int .i64 32)) rfl 2 [0, 32] rfl rfl _ rfl 32 rfl (by omega) (by omega) ?_)
    intro v1 w1 ho1 hb1
    have HO := Kp.mk ho1
    have HB := Kp.mk hb1
    obtain ⟨A, c, rfl⟩ := ho1.slice
    clear ho1 hb1
    go_wp2
    go_ret
    exact ⟨_, rfl, by have hy := HY.out; rw [HE.out] at hy ⊢; exact ⟨hy, .inl HO.out⟩, HB.out⟩
  · rw [h] at hq HS
    have HE : Kp (scriptOf n = [81, 32, x] ++ zeros 31) := ⟨by rw [HS.out]; simp⟩
    clear h HS
    go_enter Try.func22, Try.ntmps22
    go_wp2_with (at_builtin; refine wpList_append_zeros rfl (.tmp 24) (.const (.int .i64 31)) rfl 3 [81, 32, x] rfl rfl _ rfl 31 rfl (by omega) (by omega) ?_)
    intro v1 w1 ho1 hb1
    have HO := Kp.mk ho1
    have HB := Kp.mk hb1
    obtain ⟨A, c, rfl⟩ := ho1.slice
    clear ho1 hb1
    go_wp2
    go_ret
    exact ⟨_, rfl, by have hy := HY.out; rw [HE.out] at hy ⊢; exact ⟨hy, .inl HO.out⟩, HB.out⟩
  · rw [h] at hq HS
    have HE : Kp (scriptOf n = [81, 32, x] ++ zeros 31) := ⟨by rw [HS.out]; simp⟩
    clear h HS
    go_enter Try.func22, Try.ntmps22
    go_wp2_with (at_builtin; refine wpList_append_zeros rfl (.tmp 24) (.const (.int .i64 31)) rfl 3 [81, 32, x] rfl rfl _ rfl 31 rfl (by omega) (by omega) ?_)
    intro v1 w1 ho1 hb1
    have HO := Kp.mk ho1
    have HB := Kp.mk hb1
    obtain ⟨A, c, rfl⟩ := ho1.slice
    clear ho1 hb1
    go_wp2
    go_ret
    exact ⟨_, rfl, by have hy := HY.out; rw [HE.out] at hy ⊢; exact ⟨hy, .inl HO.out⟩, HB.out⟩
  · rw [h] at hq HS
    have HE : Kp (scriptOf n = [106] ++ zeros z) := ⟨by rw [HS.out]; simp⟩
    clear h HS
    go_enter Try.func22, Try.ntmps22
    go_wp2_with (at_builtin; refine wpList_append_zeros rfl (.tmp 28) (.tmp 31) rfl 1 [106] rfl rfl _ rfl z rfl (by omega) (by omega) ?_)
    intro v1 w1 ho1 hb1
    have HO := Kp.mk ho1
    have HB := Kp.mk hb1
    obtain ⟨A, c, rfl⟩ := ho1.slice
    clear ho1 hb1
    go_wp2
    go_ret
    exact ⟨_, rfl, by have hy := HY.out; rw [HE.out] at hy ⊢; exact ⟨hy, .inl HO.out⟩, HB.out⟩
  · rw [h] at hq HS
    have HE : Kp (scriptOf n = [x]) := ⟨by rw [HS.out]; simp⟩
    clear h HS
    go_enter Try.func22, Try.ntmps22
    go_wp2
    go_ret
    exact ⟨_, rfl, by have hy := HY.out; rw [HE.out] at hy ⊢; exact ⟨hy, .inl (own_lit w [x] (by simp) _ rfl)⟩, hb0.alloc (Nat.le_refl _) _⟩
end Go.Proofs.Ytojeonepplfhlaa
