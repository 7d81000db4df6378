/- append of one element onto a row of the call's own: what else stays. -/
import Derived.Test.YtojeonepplfhlaaPkA
import Derived.Deep.AppendSrc
namespace Go.Proofs.Ytojeonepplfhlaa
open Go.RowKit

theorem Pk.of_setRow {e : Nat} {u : Value} {w : World} {g : Nat} {cur cs : Array Value} (h : Box w g e cur) (hc : ∀ (i : Nat) (x : Value), cur[i]? = some x → cs[i]? = some x ∨ cs[i]? = some u) : Pk e u w (w.setRow g cs) := by
  refine ⟨by simp [World.setRow], fun b c0 fr hb => ?_⟩
  by_cases hp : b = g
  · subst hp
    have h2 : w.heap[b]? = some (.cells cur e (0, 0)) := h
    rw [h2] at hb
    injection hb with hb
    injection hb with h3 _ h4
    subst h3
    subst h4
    exact ⟨cs, setRow_box h cs, hc⟩
  · exact ⟨c0, (setRow_other w g b cs hp).trans hb, fun _ _ hx => .inl hx⟩
theorem drew_cell (w : World) (p : Addr) : w.drew.cell? p = w.cell? p := rfl

set_option maxRecDepth 100000 in
/-- No room: a new block. -/
theorem run_append_grow1 {w : World} {t e ty : TypeId} {i : TypeInfo} {z : Value} (ht : Try.prog.underlying t = some (.slice e)) (hi : Try.prog.info? e = some i) (hz : i.zero = some z) (hs : i.size = 1) (hby : i.bytes ≤ 1000) (hzs : z.cells.size = 1)
    {base : Option Addr} {n cap : Nat} {xs : List Value} (hx : xs.length = n) (hold : (Builtin.firstCells i.size n (.slice base n cap)).run Try.prog w.drew = .ok xs.toArray w.drew) (hn : n ≤ 200) (hfull : cap < n + 1)
    {u : Value} (hu : u.oneCell' = true) {gs c : Nat} (hsrc : w.cell? ⟨gs, 0, none⟩ = some u) :
    ∃ v' w', (Builtin.append_ #[t, t] ty #[.slice base n cap, .slice (some ⟨gs, 0, none⟩) 1 c]).run Try.prog w = .ok v' w' ∧ w'.ownsRow w.heap.size e 1 v' (n + 1) (xs ++ [u]) ∧ Below w.heap.size w w' := by
  have hcell : ∀ (j : Nat) (v : Value), [u][j]? = some v → w.cell? ((⟨gs, 0, none⟩ : Addr).add j) = some v := fun j v hj => by
    match j, hj with
    | 0, hj => cases hj; exact hsrc
  have hS : Src Try.prog i.size t (.slice (some ⟨gs, 0, none⟩) 1 c) 1 [u] w := Src.ofSlice w ht ⟨gs, 0, none⟩ 1 c [u] (by rw [hs]; rfl) hcell (fun x hx => by rw [List.mem_singleton.1 hx]; exact hu)
  have hge := grownCap_ge w (n + 1) cap e
  have hcm : grownCap w (n + 1) cap e ≤ maxLen := grownCap_le_maxLen w (n + 1) cap e (by unfold maxLen; omega)
  have hns : Builtin.nextslicecap (n + 1) cap ≤ 3000 := by
    unfold Builtin.nextslicecap
    split
    · omega
    · rw [if_pos (by omega)]; omega
  have hr := run_append_grow_src (P := Try.prog) w t t ty e i z ht hi hz base n cap xs hold _ 1 [u] hS (by omega) (by omega) (Nat.le_trans (Nat.mul_le_mul hns hby) (by decide))
  refine ⟨_, _, hr, ⟨by simp [hx], .inr ⟨w.heap.size, _, _, rfl, Nat.le_refl _, heap_alloc_new w.drew _, hge, hcm, ?_, ?_⟩⟩, (Below.refl _ _).drew.alloc (Nat.le_refl _) _⟩
  · simp [size_zeroCells, hzs, hx]
    omega
  · rw [Nat.mul_one, Array.toList_append, List.take_append_of_le_length (by simp [hx])]
    rw [List.take_of_length_le (by simp [hx])]
set_option maxRecDepth 100000 in
/-- One element more: what else is turned is one cell, in a block of the row's type. -/
theorem run_append_one {w : World} {t e ty : TypeId} {i : TypeInfo} {z : Value} (ht : Try.prog.underlying t = some (.slice e)) (hi : Try.prog.info? e = some i) (hz : i.zero = some z) (hs : i.size = 1) (hby : i.bytes ≤ 1000) (hzs : z.cells.size = 1)
    {B n : Nat} {v : Value} {xs : List Value} (ho : w.ownsRow B e 1 v n xs) (hn : n ≤ 200) {u : Value} (hu : u.oneCell' = true) {gs c : Nat} (hsrc : w.cell? ⟨gs, 0, none⟩ = some u) (hB : B ≤ w.heap.size) {ts : List Nat} (he : e ∉ ts) :
    ∃ v' w', (Builtin.append_ #[t, t] ty #[v, .slice (some ⟨gs, 0, none⟩) 1 c]).run Try.prog w = .ok v' w' ∧ w'.ownsRow B e 1 v' (n + 1) (xs ++ [u]) ∧ Below B w w' ∧ Keeps ts w w' ∧ Pk e u w w' := by
  have hxl : xs.length = n := by simpa using ho.1
  rcases ho.2 with ⟨rfl, h0⟩ | ⟨g, cap, cur, rfl, hBg, hg, hnc, hcm, hcs, ht'⟩
  · subst h0
    have hx0 : xs = [] := List.eq_nil_of_length_eq_zero hxl
    subst hx0
    obtain ⟨v', w', h1, h2, h3⟩ := run_append_grow1 (ty := ty) ht hi hz hs hby hzs (base := none) (cap := 0) (xs := []) rfl (run_firstCells_none (P := Try.prog) w.drew i.size 0 0 0) (Nat.zero_le _) (by omega) hu (c := c) hsrc
    exact ⟨v', w', h1, ownsRow_less h2 hB, h3.mono hB, Keeps.of_below _ h3, Pk.of_keeps (ts := [e]) _ (Keeps.of_below _ h3) (by simp)⟩
  · by_cases hroom : n + 1 ≤ cap
    · have hr := run_append_room (P := Try.prog) w t ty e i ht hi g n cap cur hg ⟨gs, 0, none⟩ 1 c [u] (by rw [hs]; rfl) (fun j v hj => by
        match j, hj with
        | 0, hj => cases hj; exact hsrc) (fun x hx => by rw [List.mem_singleton.1 hx]; exact hu) hroom (by rw [hs]; simp at hcs ⊢; omega)
      rw [hs, Nat.mul_one] at hr
      simp only [List.length_singleton] at hr
      have htk : cur.toList.take n = xs := by simpa using ht'
      rw [htk] at hr
      refine ⟨_, _, hr, ⟨by simp [hxl], .inr ⟨g, cap, _, rfl, hBg, setRow_box hg _, hroom, hcm, ?_, ?_⟩⟩, Below.setRow_self hBg _, Keeps.of_setRow hg he _, Pk.of_setRow hg fun j x hx => ?_⟩
      · have := hcs
        simp at this ⊢
        omega
      · rw [Nat.mul_one]
        exact List.take_left' (by simp [hxl])
      · have hj : j < cur.size := (Array.getElem?_eq_some_iff.1 hx).1
        have hx' : cur.toList[j]? = some x := by simpa using hx
        rw [List.getElem?_toArray]
        rcases Nat.lt_trichotomy j n with h | h | h
        · refine .inl ?_
          rw [List.append_assoc, List.getElem?_append_left (by omega), ← htk, List.getElem?_take, if_pos h]
          exact hx'
        · refine .inr ?_
          subst h
          rw [List.append_assoc, List.getElem?_append_right (by omega), hxl, Nat.sub_self]
          rfl
        · refine .inl ?_
          rw [List.getElem?_append_right (by simp [hxl]; omega), List.getElem?_drop]
          simp only [List.length_append, List.length_singleton, hxl]
          rw [show n + 1 + (j - (n + 1)) = j by omega]
          exact hx'
    · have hold : (Builtin.firstCells i.size n (.slice (some ⟨g, 0, none⟩) n cap)).run Try.prog w.drew = .ok xs.toArray w.drew := run_firstCells_some (P := Try.prog) w.drew i.size n ⟨g, 0, none⟩ n cap xs (by rw [hs]; omega) fun j x hj => by
        have hjn : j < n := by rw [← hxl]; exact (List.getElem?_eq_some_iff.1 hj).1
        have : (⟨g, 0, none⟩ : Addr).add j = ⟨g, j, none⟩ := by unfold Addr.add; split <;> simp_all
        rw [this, drew_cell, Box.cell hg]
        rw [← show cur.toList.take n = xs by simpa using ht', List.getElem?_take, if_pos hjn] at hj
        simpa using hj
      obtain ⟨v', w', h1, h2, h3⟩ := run_append_grow1 (ty := ty) ht hi hz hs hby hzs (base := some ⟨g, 0, none⟩) (cap := cap) hxl hold hn (by omega) hu (c := c) hsrc
      exact ⟨v', w', h1, ownsRow_less h2 hB, h3.mono hB, Keeps.of_below _ h3, Pk.of_keeps (ts := [e]) _ (Keeps.of_below _ h3) (by simp)⟩
set_option maxRecDepth 100000 in
/-- One byte more onto a script. -/
theorem run_append_byte {w : World} {ty : TypeId} {B : Nat} {v : Value} {l : List Int} {y : Int} (h : RbF w B v l) (hn : l.length ≤ 200) {gs c : Nat} (hsrc : w.cell? ⟨gs, 0, none⟩ = some (.int .u8 y)) (hB : B ≤ w.heap.size) :
    ∃ v' w', (Builtin.append_ #[27, 27] ty #[v, .slice (some ⟨gs, 0, none⟩) 1 c]).run Try.prog w = .ok v' w' ∧ Own w' B 5 v' (l ++ [y]) ∧ Below B w w' ∧ Keeps [27, 47, 51, 26] w w' ∧ Pk 5 (.int .u8 y) w w' := by
  obtain ⟨i0, hi, hz0, hz1, hz2⟩ := info_parts infoByte
  have hbv : byteVals (l ++ [y]) = byteVals l ++ [Value.int .u8 y] := by simp [byteVals]
  obtain ⟨hy, h | ⟨h, hne, A, rfl⟩⟩ := h
  · obtain ⟨v', w', h1, h2, h3⟩ := run_append_one (ty := ty) (ts := [27, 47, 51, 26]) Try.underlying27 hi hz0 hz1 (by rw [hz2]; omega) rfl h hn rfl (c := c) hsrc hB (by decide)
    refine ⟨v', w', h1, ?_, h3⟩
    unfold Own
    rw [hbv, List.length_append]
    exact h2
  · obtain ⟨⟨⟨A', c', e, hc, hnn, hr⟩, _⟩, _⟩ := h
    injection e with e1 _ e3
    subst e1
    obtain ⟨b, off, rfl, _, hlt, hrun⟩ := hr hne
    have hold : (Builtin.firstCells i0.size l.length (.slice (some ⟨b, off, none⟩) l.length l.length)).run Try.prog w.drew = .ok (byteVals l).toArray w.drew := run_firstCells_some (P := Try.prog) w.drew i0.size l.length ⟨b, off, none⟩ l.length l.length (byteVals l) (by rw [hz1]; simp [byteVals]) fun j x hj => by
      obtain ⟨hjl, rfl⟩ := byteVals_at l j x hj
      have : (⟨b, off, none⟩ : Addr).add j = ⟨b, off + j, none⟩ := by unfold Addr.add; split <;> simp_all
      rw [this, drew_cell]
      exact hrun j hjl
    obtain ⟨v', w', h1, h2, h3⟩ := run_append_grow1 (ty := ty) (u := .int .u8 y) Try.underlying27 hi hz0 hz1 (by rw [hz2]; omega) rfl (base := some ⟨b, off, none⟩) (cap := l.length) (by simp [byteVals]) hold hn (by omega) rfl (c := c) hsrc
    refine ⟨v', w', h1, ?_, h3.mono hB, Keeps.of_below _ h3, Pk.of_keeps (ts := [5]) _ (Keeps.of_below _ h3) (by simp)⟩
    unfold Own
    rw [hbv, List.length_append]
    exact ownsRow_less h2 hB
end Go.Proofs.Ytojeonepplfhlaa
