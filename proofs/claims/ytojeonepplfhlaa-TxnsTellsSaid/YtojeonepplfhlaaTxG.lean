/- Contracts of package txns: addIn, addOut, addWitness. -/
import Derived.Test.YtojeonepplfhlaaTxF
namespace Go.Proofs.Ytojeonepplfhlaa
open Go.RowKit

def encIn (d : InD) : List Int := d.prev ++ (leb d.vout 4 ++ (encText d.script ++ leb d.seq 4))
def encOut (d : OutD) : List Int := leb d.value 8 ++ encText d.script
def encRows (ll : List (List Int)) : List Int := (ll.map encText).flatten
def encWit (ll : List (List Int)) : List Int := cnt ll.length ++ encRows ll
theorem encRows_snoc (ll : List (List Int)) (k : Nat) (h : k < ll.length) : encRows (ll.take (k + 1)) = encRows (ll.take k) ++ encText ll[k] := by
  unfold encRows
  rw [List.take_succ_eq_append_getElem h, List.map_append, List.flatten_append]
  simp
theorem encRows_len (ll : List (List Int)) (h : ∀ x ∈ ll, x.length ≤ 500) : (encRows ll).length ≤ 505 * ll.length := by
  induction ll with
  | nil => simp [encRows]
  | cons x xs ih =>
    have h1 := ih fun y hy => h y (List.mem_cons_of_mem _ hy)
    have h2 := h x (by simp)
    have h3 := encText_len x
    have e : encRows (x :: xs) = encText x ++ encRows xs := rfl
    rw [e, List.length_append, List.length_cons]
    omega

theorem sl_prev {w : World} {d : InD} {sv wv : Value} {g t : Nat} (hf : d.Fit) (h : Box w g t (inCells d sv wv).toArray) : Sl w w.heap.size (.slice (some ⟨g, 0, none⟩) 32 32) d.prev := by
  refine ⟨some ⟨g, 0, none⟩, 32, by rw [hf.plen], by rw [hf.plen]; exact Nat.le_refl _, (fun h => by cases h), fun _ => ⟨g, 0, rfl, ?_, h.lt, fun i hi => ?_⟩⟩
  · have := h.lt; omega
  · rw [hf.plen] at hi
    rw [h.cell, Nat.zero_add, List.getElem?_toArray]
    exact inCells_prev hf sv wv hi

set_option maxRecDepth 100000 in
set_option maxHeartbeats 2000000 in
theorem addIn_any (w0 w : World) (B : Nat) (v : Value) (l : List Int) (cs : List Value) (d : InD) (h0 : w0.heap.size ≤ B) (hB : B ≤ w.heap.size) (hw : Below w0.heap.size w0 w) (ho : Own w B 5 v l) (hd : InR w0 cs d)
    (hx : d.script.length ≤ 500) (hl : l.length ≤ 1000000000) : Calls Try.prog 53 #[v, .agg cs.toArray] w (App B (l ++ encIn d) w) := by
  obtain ⟨i0, hi, hz0, hz1, hz2⟩ := info_parts infoByte
  obtain ⟨sv, wv, rfl, hf, hs, _⟩ := hd
  obtain ⟨A, c, rfl⟩ := ho.slice
  obtain ⟨C, hC⟩ : ∃ C, (inCells d sv wv).toArray = C := ⟨_, rfl⟩
  have hb1 : Below w.heap.size w (w.alloc (.cells C 47)) := (Below.refl _ _).alloc (Nat.le_refl _) _
  have hbox : Box (w.alloc (.cells C 47)) w.heap.size 47 C := Box.fresh w _ _
  have HSL : Kp (Sl (w.alloc (.cells C 47)) (w.alloc (.cells C 47)).heap.size (.slice (some ⟨w.heap.size, 0, none⟩) 32 32) d.prev) := ⟨by rw [← hC] at hbox ⊢; exact sl_prev hf hbox⟩
  have HCELL : Kp (∀ w', Grew B (w.alloc (.cells C 47)) w' → w'.cell? ⟨w.heap.size, 32, none⟩ = some (.int .u32 d.vout) ∧ w'.cell? ⟨w.heap.size, 33, none⟩ = some sv ∧ w'.cell? ⟨w.heap.size, 34, none⟩ = some (.int .u32 d.seq)) := ⟨fun w' hg => by
    have hb := hg.box _ _ _ hbox (by decide)
    refine ⟨?_, ?_, ?_⟩
    · rw [hb.cell, ← hC]; simpa using inCells_vout hf sv wv
    · rw [hb.cell, ← hC]; simpa using inCells_script hf sv wv
    · rw [hb.cell, ← hC]; simpa using inCells_seq hf sv wv⟩
  rw [hC]
  have HF := Kp.mk hf
  have HO := Kp.mk (ho.below hb1)
  have HB1 := Kp.mk hb1
  have HS := Kp.mk hs
  have HW := Kp.mk hw
  have HB : Kp (B ≤ (w.alloc (.cells C 47)).heap.size) := ⟨by rw [alloc_size]; omega⟩
  have HG0 : Kp (Grew B w (w.alloc (.cells C 47))) := ⟨Grew.of_below hB hb1⟩
  clear hC hb1 hbox hf ho hs hw hB
  go_enter Try.func53, Try.ntmps53
  go_wp2_with (at_builtin; refine wpList_append_bytes rfl (.tmp 5) (.tmp 7) 27 rfl B 5 i0 Try.underlying27 hi hz0 hz1 hz2 _ l rfl HO.out _ _ d.prev rfl HSL.out ?c1 HB.out ?_)
  case c1 => rw [HF.out.plen]; omega
  intro v1 w1 ho1 hg1
  obtain ⟨L1, hL1⟩ : ∃ L1, l ++ d.prev = L1 := ⟨_, rfl⟩
  have HL1 : Kp (L1.length = l.length + 32) := ⟨by rw [← hL1, List.length_append, HF.out.plen]⟩
  rw [hL1] at ho1
  have HG1 := Kp.mk (Grew.of_grown HO.out HB.out hg1)
  have HB2 := Kp.mk (Nat.le_trans HB.out HG1.out.low.size)
  have HO1 := Kp.mk ho1
  obtain ⟨c32, _, _⟩ := HCELL.out _ HG1.out
  obtain ⟨A1, c1, rfl⟩ := ho1.slice
  clear ho1 hg1
  go_wp2_with fail
  refine (addSmall_any w1 B _ L1 d.vout HB2.out HO1.out HF.out.vlt (by have := HL1.out; omega)).mono ?_
  rintro e w2 ⟨v2, rfl, ho2, hg2⟩
  obtain ⟨L2, hL2⟩ : ∃ L2, L1 ++ leb d.vout 4 = L2 := ⟨_, rfl⟩
  have HL2 : Kp (L2.length = l.length + 36) := ⟨by rw [← hL2, List.length_append, leb_len, HL1.out]⟩
  rw [hL2] at ho2
  have HG2 := Kp.mk (HG1.out.trans hg2)
  have HB3 := Kp.mk (Nat.le_trans HB2.out hg2.low.size)
  have HO2 := Kp.mk ho2
  obtain ⟨_, c33, _⟩ := HCELL.out _ HG2.out
  obtain ⟨A2, c2, rfl⟩ := ho2.slice
  clear ho2 hg2 c32
  go_wp2_with fail
  refine (addText_any w0 w2 B _ L2 sv d.script h0 HB3.out (HW.out.trans ((HG0.out.trans HG2.out).low.mono h0)) HO2.out HS.out (by omega) (by have := HL2.out; omega)).mono ?_
  rintro e w3 ⟨v3, rfl, ho3, hg3⟩
  obtain ⟨L3, hL3⟩ : ∃ L3, L2 ++ encText d.script = L3 := ⟨_, rfl⟩
  have HL3 : Kp (L3.length ≤ l.length + 541) := ⟨by have := encText_len d.script; have := HL2.out; rw [← hL3, List.length_append]; omega⟩
  rw [hL3] at ho3
  have HG3 := Kp.mk (HG2.out.trans hg3)
  have HB4 := Kp.mk (Nat.le_trans HB3.out hg3.low.size)
  have HO3 := Kp.mk ho3
  obtain ⟨_, _, c34⟩ := HCELL.out _ HG3.out
  obtain ⟨A3, c3, rfl⟩ := ho3.slice
  clear ho3 hg3 c33
  go_wp2_with fail
  refine (addSmall_any w3 B _ L3 d.seq HB4.out HO3.out HF.out.slt (by have := HL3.out; omega)).mono ?_
  rintro e w4 ⟨v4, rfl, ho4, hg4⟩
  have HG4 := Kp.mk (HG0.out.trans (HG3.out.trans hg4))
  have HO4 : Kp (Own w4 B 5 v4 (l ++ encIn d)) := ⟨by
    rw [show l ++ encIn d = L3 ++ leb d.seq 4 by rw [← hL3, ← hL2, ← hL1]; simp [encIn]]
    exact ho4⟩
  clear ho4 hg4 c34
  have H4 := HO4.out
  obtain ⟨A4, c4, rfl⟩ := H4.slice
  clear H4
  go_wp2
  go_ret
  exact ⟨_, rfl, by simpa using HO4.out, HG4.out⟩

set_option maxRecDepth 100000 in
set_option maxHeartbeats 2000000 in
theorem addOut_any (w0 w : World) (B : Nat) (v : Value) (l : List Int) (cs : List Value) (d : OutD) (h0 : w0.heap.size ≤ B) (hB : B ≤ w.heap.size) (hw : Below w0.heap.size w0 w) (ho : Own w B 5 v l) (hd : OutR w0 cs d)
    (hx : d.script.length ≤ 500) (hl : l.length ≤ 1000000000) : Calls Try.prog 54 #[v, .agg cs.toArray] w (App B (l ++ encOut d) w) := by
  obtain ⟨sv, rfl, _, hs⟩ := hd
  obtain ⟨A, c, rfl⟩ := ho.slice
  have hb1 : Below w.heap.size w (w.alloc (.cells #[.int .u64 d.value, sv] 51)) := (Below.refl _ _).alloc (Nat.le_refl _) _
  have hbox : Box (w.alloc (.cells #[.int .u64 d.value, sv] 51)) w.heap.size 51 #[.int .u64 d.value, sv] := Box.fresh w _ _
  have HCELL : Kp (∀ w', Grew B (w.alloc (.cells #[.int .u64 d.value, sv] 51)) w' → w'.cell? ⟨w.heap.size, 1, none⟩ = some sv) := ⟨fun w' hg => by
    have hb := hg.box _ _ _ hbox (by decide)
    rw [hb.cell]; rfl⟩
  have HO := Kp.mk (ho.below hb1)
  have HS := Kp.mk hs
  have HW := Kp.mk hw
  have HB : Kp (B ≤ (w.alloc (.cells #[.int .u64 d.value, sv] 51)).heap.size) := ⟨by rw [alloc_size]; omega⟩
  have HG0 : Kp (Grew B w (w.alloc (.cells #[.int .u64 d.value, sv] 51))) := ⟨Grew.of_below hB hb1⟩
  have H1 := Kp.mk (addBig_any (w.alloc (.cells #[.int .u64 d.value, sv] 51)) B _ l d.value HB.out HO.out (by omega))
  clear hb1 hbox ho hs hw hB
  go_enter Try.func54, Try.ntmps54
  go_wp2_with fail
  refine H1.out.mono ?_
  rintro e w2 ⟨v2, rfl, ho2, hg2⟩
  obtain ⟨L2, hL2⟩ : ∃ L2, l ++ leb d.value 8 = L2 := ⟨_, rfl⟩
  have HL2 : Kp (L2.length = l.length + 8) := ⟨by rw [← hL2, List.length_append, leb_len]⟩
  rw [hL2] at ho2
  have HG2 := Kp.mk hg2
  have HB3 := Kp.mk (Nat.le_trans HB.out hg2.low.size)
  have HO2 := Kp.mk ho2
  have c1 := HCELL.out _ HG2.out
  obtain ⟨A2, c2, rfl⟩ := ho2.slice
  clear ho2 hg2
  go_wp2_with fail
  refine (addText_any w0 w2 B _ L2 sv d.script h0 HB3.out (HW.out.trans ((HG0.out.trans HG2.out).low.mono h0)) HO2.out HS.out (by omega) (by have := HL2.out; omega)).mono ?_
  rintro e w3 ⟨v3, rfl, ho3, hg3⟩
  obtain ⟨L3, hL3⟩ : ∃ L3, L2 ++ encText d.script = L3 := ⟨_, rfl⟩
  rw [hL3] at ho3
  have HE : Kp (l ++ encOut d = L3) := ⟨by rw [← hL3, ← hL2]; simp [encOut]⟩
  have HG3 := Kp.mk (HG0.out.trans (HG2.out.trans hg3))
  have HO3 := Kp.mk ho3
  obtain ⟨A3, c3, rfl⟩ := ho3.slice
  clear ho3 hg3 c1
  go_wp2
  go_ret
  exact ⟨_, rfl, by rw [HE.out]; exact HO3.out, HG3.out⟩

set_option maxRecDepth 100000 in
set_option maxHeartbeats 2000000 in
theorem addWitness_any (w0 w : World) (B : Nat) (v : Value) (l : List Int) (wv : Value) (ll : List (List Int)) (h0 : w0.heap.size ≤ B) (hB : B ≤ w.heap.size) (hw : Below w0.heap.size w0 w) (ho : Own w B 5 v l) (hd : Rws w0 wv ll)
    (hn : ll.length ≤ 10) (hx : ∀ x ∈ ll, x.length ≤ 500) (hl : l.length ≤ 1000000000) : Calls Try.prog 55 #[v, wv] w (App B (l ++ encWit ll) w) := by
  obtain ⟨A, c, rfl⟩ := ho.slice
  obtain ⟨Aw, cw, rfl, hlw, _⟩ := hd.slice
  have H1 := Kp.mk (addCount_any w B _ l ll.length hB ho (by omega) (by omega))
  have hn' : (ll.length : Int) ≤ 10 := by omega
  have HW := Kp.mk hw
  have HX := Kp.mk hx
  by_cases hne : ll = []
  · subst hne
    have HE : Kp (l ++ cnt ([] : List (List Int)).length = l ++ encWit []) := ⟨by simp [encWit, encRows]⟩
    rw [HE.out] at H1
    clear ho hw hd hx hB
    go_enter Try.func55, Try.ntmps55
    go_wp2_with fail
    refine H1.out.mono ?_
    rintro e w1 ⟨v1, rfl, ho1, hg1⟩
    have HO1 := Kp.mk ho1
    have HG1 := Kp.mk hg1
    obtain ⟨A1, c1, rfl⟩ := ho1.slice
    clear ho1 hg1
    go_wp2
    refine wp_loop_rounds 1 ?_
    rw [rounds_succ]
    go_wp2
    go_ret
    exact ⟨_, rfl, by simpa using HO1.out, HG1.out⟩
  obtain ⟨b, off, rfl, hlt, hat⟩ := hd.all hne
  have HAT : Kp (∀ (i : Nat) (hi : i < ll.length), ∃ cs, cs.length = 1 ∧ w0.rangeAt b (off + i * 1) cs ∧ RowR w0 cs ll[i]) := ⟨hat⟩
  have HLT := Kp.mk hlt
  have HBw := Kp.mk hB
  clear ho hw hd hx hat hlt hne
  go_enter Try.func55, Try.ntmps55
  go_wp2_with fail
  refine H1.out.mono ?_
  rintro e w1 ⟨v1, rfl, ho1, hg1⟩
  have HO1 := Kp.mk ho1
  have HG1 := Kp.mk hg1
  obtain ⟨A1, c1, rfl⟩ := ho1.slice
  obtain ⟨L1, hL1⟩ : ∃ L1, l ++ cnt ll.length = L1 := ⟨_, rfl⟩
  have HL1 : Kp (l ++ cnt ll.length = L1) := ⟨hL1⟩
  have HL1l : Kp (L1.length ≤ l.length + 5) := ⟨by have := cnt_max ll.length; rw [← hL1]; simp; omega⟩
  rw [hL1] at HO1
  have hln : (l ++ cnt ll.length).length = L1.length := by rw [hL1]
  rw [List.length_append] at hln
  clear ho1 hg1 hL1
  go_wp2
  go_loopw [0, 6, 13] (fun r _ i wr => ∃ j : Nat, j ≤ ll.length ∧ i = .int .i64 j ∧ Kp (Own wr B 5 r (L1 ++ encRows (ll.take j)) ∧ Grew B w wr)) (fun _ _ i _ => ll.length - (intOf i).toNat)
  case atStart => exact ⟨0, Nat.zero_le _, rfl, ⟨by simpa [encRows, hln] using HO1.out, HG1.out⟩⟩
  case round =>
    obtain ⟨j, hj, rfl, ⟨ho, hg⟩⟩ := hrel
    by_cases hjl : j < ll.length
    · obtain ⟨cs, hk, hcs, sv, rfl, hR⟩ := HAT.out j hjl
      have hc1 := load_row (rangeAt_block hcs ((HW.out.trans (hg.low.mono h0)).block b HLT.out)) hk
      have hle : (encRows (ll.take j)).length ≤ 5050 := by
        have := encRows_len (ll.take j) fun x hx => HX.out x (List.mem_of_mem_take hx)
        rw [List.length_take] at this
        omega
      have hxl := HX.out ll[j] (List.getElem_mem hjl)
      obtain ⟨Lj, hLj⟩ : ∃ Lj, L1 ++ encRows (ll.take j) = Lj := ⟨_, rfl⟩
      have hS : Lj ++ encText ll[j] = L1 ++ encRows (ll.take (j + 1)) := by rw [encRows_snoc ll j hjl, ← hLj, List.append_assoc]
      have hLl : Lj.length ≤ 900000000000 := by have := HL1l.out; rw [← hLj, List.length_append]; omega
      rw [hLj] at ho
      have HT := Kp.mk (addText_any w0 wr B _ Lj sv ll[j] h0 (Nat.le_trans HBw.out hg.low.size) (HW.out.trans (hg.low.mono h0)) ho hR (by omega) hLl)
      rw [hS] at HT
      clear hS hLj hLl
      have HG := Kp.mk hg
      have HJ := Kp.mk hjl
      have hjl' : (j : Int) < (ll.length : Int) := by omega
      obtain ⟨Ar, cr, rfl⟩ := ho.slice
      clear ho hg hle hxl hcs hR hk hjl
      go_wp2_with (go_at_call 70; refine HT.out.mono ?_; rintro e w2 ⟨v2, rfl, ho2, hg2⟩)
      exact ⟨⟨j + 1, by have := HJ.out; omega, by go_num, ⟨ho2, HG.out.trans hg2⟩⟩, by simp [intOf]; have := HJ.out; omega⟩
    · obtain rfl : j = ll.length := by omega
      obtain ⟨Lj, hLj⟩ : ∃ Lj, L1 ++ encRows (ll.take ll.length) = Lj := ⟨_, rfl⟩
      have HE : Kp (l ++ encWit ll = Lj) := ⟨by rw [← hLj, ← HL1.out, List.take_length]; simp [encWit]⟩
      rw [hLj] at ho
      have HO := Kp.mk ho
      have HG := Kp.mk hg
      obtain ⟨Ar, cr, rfl⟩ := ho.slice
      clear ho hg hjl hLj
      go_wp2
      go_ret
      exact ⟨_, rfl, by rw [HE.out]; simpa using HO.out, HG.out⟩
end Go.Proofs.Ytojeonepplfhlaa
