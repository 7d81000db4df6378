/- Contracts of package txns: Same, and slices.EqualFunc. -/
import Derived.Test.YtojeonepplfhlaaTxB
import Derived.Test.YtojeonepplfhlaaWireE
import Derived.Test.YtojeonepplfhlaaWireG
import Derived.Shelf.Abstract
namespace Go.Proofs.Ytojeonepplfhlaa
open Go.RowKit

/-- Element by element. -/
def eqB {α : Type} (p : α → α → Bool) : List α → List α → Bool
  | [], [] => true
  | a :: x, b :: y => p a b && eqB p x y
  | _, _ => false
theorem eqB_len {α : Type} {p : α → α → Bool} : ∀ {x y : List α}, x.length ≠ y.length → eqB p x y = false
  | [], [], h => absurd rfl h
  | [], _ :: _, _ => rfl
  | _ :: _, [], _ => rfl
  | a :: x, b :: y, h => by
    have : x.length ≠ y.length := fun e => h (by simp [e])
    simp [eqB, eqB_len this]
theorem eqB_no {α : Type} {p : α → α → Bool} : ∀ {x y : List α} {i : Nat} (h1 : i < x.length) (h2 : i < y.length), p x[i] y[i] = false → eqB p x y = false
  | a :: x, b :: y, 0, _, _, h => by simp at h; simp [eqB, h]
  | a :: x, b :: y, i + 1, h1, h2, h => by
    simp at h1 h2 h
    simp [eqB, eqB_no h1 h2 h]
theorem eqB_yes {α : Type} {p : α → α → Bool} : ∀ {x y : List α}, x.length = y.length → (∀ (i : Nat) (h1 : i < x.length) (h2 : i < y.length), p x[i] y[i] = true) → eqB p x y = true
  | [], [], _, _ => rfl
  | [], _ :: _, h, _ => by simp at h
  | _ :: _, [], h, _ => by simp at h
  | a :: x, b :: y, h, hp => by
    have h0 := hp 0 (by simp) (by simp)
    simp at h0 h
    simp only [eqB, h0, Bool.true_and]
    exact eqB_yes h fun i h1 h2 => by
      have := hp (i + 1) (by simp; omega) (by simp; omega)
      rw [List.getElem_cons_succ, List.getElem_cons_succ] at this
      exact this

def Asks2 {α : Type} (R : World → List Value → α → Prop) (enc : List Value → Value) (f : Nat) (p : α → α → Bool) : Prop :=
  ∀ (W : World) (c1 : List Value) (x1 : α) (c2 : List Value) (x2 : α), R W c1 x1 → R W c2 x2 → Calls Try.prog f #[enc c1, enc c2] W (BoolP (p x1 x2) W)
/-- GENERATED -/
theorem gen_c_here : True := trivial

set_option maxRecDepth 100000 in
set_option maxHeartbeats 1000000 in
theorem eqRow_len (w : World) (A1 A2 : Option Addr) (n1 c1 n2 c2 : Nat) (_h1 : n1 ≤ maxLen) (_h2 : n2 ≤ maxLen) (hne : n1 ≠ n2) (f : Nat) : Calls Try.prog 59 #[.slice A1 n1 c1, .slice A2 n2 c2, .func (.func f) #[] #[]] w (BoolP false w) := by
  unfold maxLen at _h1 _h2
  have hn : ((n1 : Int) == (n2 : Int)) = false := by rw [beq_eq_false_iff_ne]; omega
  have hn2 : (n1 == n2) = false := by rw [beq_eq_false_iff_ne]; omega
  clear hne
  go_enter Try.func59, Try.ntmps59
  go_wp2
  go_ret
  exact ⟨rfl, Below.refl _ _⟩
set_option maxRecDepth 100000 in
set_option maxHeartbeats 1000000 in
theorem eqRow_nil (w : World) (A1 A2 : Option Addr) (c1 c2 : Nat) (f : Nat) : Calls Try.prog 59 #[.slice A1 0 c1, .slice A2 0 c2, .func (.func f) #[] #[]] w (BoolP true w) := by
  go_enter Try.func59, Try.ntmps59
  go_wp2
  refine wp_loop_rounds 1 ?_
  rw [rounds_succ]
  go_wp2
  go_ret
  exact ⟨rfl, Below.refl _ _⟩
set_option maxRecDepth 100000 in
set_option maxHeartbeats 4000000 in
theorem eqRow_any (w : World) (v1 v2 : Value) (l1 l2 : List (List Int)) (f : Nat) (p : List Int → List Int → Bool) (h1 : Many 1 RowR w v1 l1) (h2 : Many 1 RowR w v2 l2) (hf : Asks2 RowR (row1) f p)
    (hst : ∀ (W : World) cs x, Below w.heap.size w W → RowR w cs x → RowR W cs x) (hone : ∀ (W : World) cs x, RowR W cs x → ∀ u ∈ cs, u.oneCell' = true)
    (eg : ∀ args w, (callFunc f args).run Try.prog w = .ok (.enter f args) w) :
    Calls Try.prog 59 #[v1, v2, .func (.func f) #[] #[]] w (BoolP (eqB p l1 l2) w) := by
  obtain ⟨A1, c1, rfl, hlc1, hlm1⟩ := h1.slice
  obtain ⟨A2, c2, rfl, hlc2, hlm2⟩ := h2.slice
  by_cases hlen : l1.length ≠ l2.length
  · rw [eqB_len hlen]
    exact eqRow_len w A1 A2 _ c1 _ c2 hlm1 hlm2 hlen f
  have hlen' : l2.length = l1.length := by omega
  by_cases hne : l1 = []
  · subst hne
    have hl2 : l2 = [] := List.eq_nil_of_length_eq_zero hlen'
    subst hl2
    exact eqRow_nil w A1 A2 c1 c2 f
  have hne2 : l2 ≠ [] := fun e => hne (List.eq_nil_of_length_eq_zero (by rw [← hlen', e]; rfl))
  unfold maxLen at hlm1 hlm2
  obtain ⟨b1, o1, rfl, hlt1, hat1⟩ := h1.all hne
  obtain ⟨b2, o2, rfl, hlt2, hat2⟩ := h2.all hne2
  have HAT1 : Kp (∀ (i : Nat) (hi : i < l1.length), ∃ cs, cs.length = 1 ∧ w.rangeAt b1 (o1 + i * 1) cs ∧ RowR w cs l1[i]) := ⟨hat1⟩
  have HAT2 : Kp (∀ (i : Nat) (hi : i < l2.length), ∃ cs, cs.length = 1 ∧ w.rangeAt b2 (o2 + i * 1) cs ∧ RowR w cs l2[i]) := ⟨hat2⟩
  have HB1 : Kp (b1 < w.heap.size) := ⟨hlt1⟩
  have HB2 : Kp (b2 < w.heap.size) := ⟨hlt2⟩
  have HST : Kp (∀ (W : World) cs x, Below w.heap.size w W → RowR w cs x → RowR W cs x) := ⟨hst⟩
  have HONE : Kp (∀ (W : World) cs x, RowR W cs x → ∀ u ∈ cs, u.oneCell' = true) := ⟨hone⟩
  have HF : Kp (Asks2 RowR (row1) f p) := ⟨hf⟩
  have HLEN : Kp (l2.length = l1.length) := ⟨hlen'⟩
  clear hat1 hat2 hlt1 hlt2 h1 h2 hne hne2 hst hf hone hlen
  rw [hlen'] at hlc2 ⊢
  clear hlen' hlm2
  go_enter Try.func59, Try.ntmps59
  go_wp2
  go_loopw [7, 8, 9, 17] (fun _ _ _ i wr => ∃ j : Nat, j ≤ l1.length ∧ i = .int .i64 j ∧ Kp (Below w.heap.size w wr) ∧ Kp (∀ (q : Nat) (h1 : q < l1.length) (h2 : q < l2.length), q < j → p l1[q] l2[q] = true)) (fun _ _ _ i _ => l1.length - (intOf i).toNat)
  case atStart => exact ⟨0, Nat.zero_le _, rfl, ⟨Below.refl _ _⟩, ⟨fun _ _ _ h => absurd h (Nat.not_lt_zero _)⟩⟩
  case round =>
    obtain ⟨j, hj, rfl, BW, NO⟩ := hrel
    by_cases hjl : j < l1.length
    · have hjl2 : j < l2.length := by rw [HLEN.out]; exact hjl
      obtain ⟨cs1, hk1, hcs1, hR1⟩ := HAT1.out j hjl
      obtain ⟨cs2, hk2, hcs2, hR2⟩ := HAT2.out j hjl2
      have hc1 := load_row (rangeAt_block hcs1 (BW.out.block b1 HB1.out)) hk1
      have hc2 := load_row (rangeAt_block hcs2 (BW.out.block b2 HB2.out)) hk2
      have HCALL := Kp.mk (HF.out wr cs1 _ cs2 _ (HST.out wr cs1 _ BW.out hR1) (HST.out wr cs2 _ BW.out hR2))
      have HSZ : Kp (Below w.heap.size w wr) := BW
      have hjl' : (j : Int) < (l1.length : Int) := by omega
      have HJ : Kp (j < l1.length) := ⟨hjl⟩
      skip
      clear hcs1 hcs2 hR1 hR2 hk1 hk2
      cases hq : p l1[j] l2[j] with
      | false =>
        rw [hq] at HCALL
        have HQ : Kp (eqB p l1 l2 = false) := ⟨eqB_no hjl hjl2 hq⟩
        clear hq hjl hjl2
        go_wp2_with (first | (go_at_fn f; refine HCALL.out.mono ?_; rintro e w' ⟨rfl, hb'⟩))
        go_ret
        exact ⟨by rw [HQ.out]; rfl, HSZ.out.trans (hb'.mono HSZ.out.size)⟩
      | true =>
        rw [hq] at HCALL
        have HQ : Kp (∀ (q : Nat) (h1 : q < l1.length) (h2 : q < l2.length), q < j + 1 → p l1[q] l2[q] = true) := ⟨fun q h1 h2 h3 => by
          rcases Nat.lt_or_ge q j with h4 | h4
          · exact NO.out q h1 h2 h4
          · obtain rfl : q = j := by omega
            exact hq⟩
        clear hq hjl hjl2
        go_wp2_with (first | (go_at_fn f; refine HCALL.out.mono ?_; rintro e w' ⟨rfl, hb'⟩))
        exact ⟨⟨j + 1, by have := HJ.out; omega, by go_num, ⟨HSZ.out.trans (hb'.mono HSZ.out.size)⟩, HQ⟩, by simp [intOf]; have := HJ.out; omega⟩
    · obtain rfl : j = l1.length := by omega
      have HQ : Kp (eqB p l1 l2 = true) := ⟨eqB_yes HLEN.out.symm fun i h1 h2 => NO.out i h1 h2 h1⟩
      clear hjl
      go_wp2
      go_ret
      exact ⟨by rw [HQ.out]; rfl, BW.out⟩

set_option maxRecDepth 100000 in
set_option maxHeartbeats 1000000 in
theorem eqOut_len (w : World) (A1 A2 : Option Addr) (n1 c1 n2 c2 : Nat) (_h1 : n1 ≤ maxLen) (_h2 : n2 ≤ maxLen) (hne : n1 ≠ n2) (f : Nat) : Calls Try.prog 37 #[.slice A1 n1 c1, .slice A2 n2 c2, .func (.func f) #[] #[]] w (BoolP false w) := by
  unfold maxLen at _h1 _h2
  have hn : ((n1 : Int) == (n2 : Int)) = false := by rw [beq_eq_false_iff_ne]; omega
  have hn2 : (n1 == n2) = false := by rw [beq_eq_false_iff_ne]; omega
  clear hne
  go_enter Try.func37, Try.ntmps37
  go_wp2
  go_ret
  exact ⟨rfl, Below.refl _ _⟩
set_option maxRecDepth 100000 in
set_option maxHeartbeats 1000000 in
theorem eqOut_nil (w : World) (A1 A2 : Option Addr) (c1 c2 : Nat) (f : Nat) : Calls Try.prog 37 #[.slice A1 0 c1, .slice A2 0 c2, .func (.func f) #[] #[]] w (BoolP true w) := by
  go_enter Try.func37, Try.ntmps37
  go_wp2
  refine wp_loop_rounds 1 ?_
  rw [rounds_succ]
  go_wp2
  go_ret
  exact ⟨rfl, Below.refl _ _⟩
set_option maxRecDepth 100000 in
set_option maxHeartbeats 4000000 in
theorem eqOut_any (w : World) (v1 v2 : Value) (l1 l2 : List (OutD)) (f : Nat) (p : OutD → OutD → Bool) (h1 : Many 2 OutR w v1 l1) (h2 : Many 2 OutR w v2 l2) (hf : Asks2 OutR (fun cs => .agg cs.toArray) f p)
    (hst : ∀ (W : World) cs x, Below w.heap.size w W → OutR w cs x → OutR W cs x) (hone : ∀ (W : World) cs x, OutR W cs x → ∀ u ∈ cs, u.oneCell' = true)
    (eg : ∀ args w, (callFunc f args).run Try.prog w = .ok (.enter f args) w) :
    Calls Try.prog 37 #[v1, v2, .func (.func f) #[] #[]] w (BoolP (eqB p l1 l2) w) := by
  obtain ⟨A1, c1, rfl, hlc1, hlm1⟩ := h1.slice
  obtain ⟨A2, c2, rfl, hlc2, hlm2⟩ := h2.slice
  by_cases hlen : l1.length ≠ l2.length
  · rw [eqB_len hlen]
    exact eqOut_len w A1 A2 _ c1 _ c2 hlm1 hlm2 hlen f
  have hlen' : l2.length = l1.length := by omega
  by_cases hne : l1 = []
  · subst hne
    have hl2 : l2 = [] := List.eq_nil_of_length_eq_zero hlen'
    subst hl2
    exact eqOut_nil w A1 A2 c1 c2 f
  have hne2 : l2 ≠ [] := fun e => hne (List.eq_nil_of_length_eq_zero (by rw [← hlen', e]; rfl))
  unfold maxLen at hlm1 hlm2
  obtain ⟨b1, o1, rfl, hlt1, hat1⟩ := h1.all hne
  obtain ⟨b2, o2, rfl, hlt2, hat2⟩ := h2.all hne2
  have HAT1 : Kp (∀ (i : Nat) (hi : i < l1.length), ∃ cs, cs.length = 2 ∧ w.rangeAt b1 (o1 + i * 2) cs ∧ OutR w cs l1[i]) := ⟨hat1⟩
  have HAT2 : Kp (∀ (i : Nat) (hi : i < l2.length), ∃ cs, cs.length = 2 ∧ w.rangeAt b2 (o2 + i * 2) cs ∧ OutR w cs l2[i]) := ⟨hat2⟩
  have HB1 : Kp (b1 < w.heap.size) := ⟨hlt1⟩
  have HB2 : Kp (b2 < w.heap.size) := ⟨hlt2⟩
  have HST : Kp (∀ (W : World) cs x, Below w.heap.size w W → OutR w cs x → OutR W cs x) := ⟨hst⟩
  have HONE : Kp (∀ (W : World) cs x, OutR W cs x → ∀ u ∈ cs, u.oneCell' = true) := ⟨hone⟩
  have HF : Kp (Asks2 OutR (fun cs => .agg cs.toArray) f p) := ⟨hf⟩
  have HLEN : Kp (l2.length = l1.length) := ⟨hlen'⟩
  clear hat1 hat2 hlt1 hlt2 h1 h2 hne hne2 hst hf hone hlen
  rw [hlen'] at hlc2 ⊢
  clear hlen' hlm2
  go_enter Try.func37, Try.ntmps37
  go_wp2
  go_loopw [7, 8, 9, 17] (fun _ _ _ i wr => ∃ j : Nat, j ≤ l1.length ∧ i = .int .i64 j ∧ Kp (Below w.heap.size w wr) ∧ Kp (∀ (q : Nat) (h1 : q < l1.length) (h2 : q < l2.length), q < j → p l1[q] l2[q] = true)) (fun _ _ _ i _ => l1.length - (intOf i).toNat)
  case atStart => exact ⟨0, Nat.zero_le _, rfl, ⟨Below.refl _ _⟩, ⟨fun _ _ _ h => absurd h (Nat.not_lt_zero _)⟩⟩
  case round =>
    obtain ⟨j, hj, rfl, BW, NO⟩ := hrel
    by_cases hjl : j < l1.length
    · have hjl2 : j < l2.length := by rw [HLEN.out]; exact hjl
      obtain ⟨cs1, hk1, hcs1, hR1⟩ := HAT1.out j hjl
      obtain ⟨cs2, hk2, hcs2, hR2⟩ := HAT2.out j hjl2
      have HCS1 := Kp.mk (rangeAt_block hcs1 (BW.out.block b1 HB1.out))
      have hb1 : Below wr.heap.size wr (wr.alloc (.cells cs1.toArray 51)) := (Below.refl _ _).alloc (Nat.le_refl _) _
      have hb2 : Below wr.heap.size wr ((wr.alloc (.cells cs1.toArray 51)).alloc (.cells cs2.toArray 51)) := hb1.alloc (by simp) _
      have hw2 : Below w.heap.size w ((wr.alloc (.cells cs1.toArray 51)).alloc (.cells cs2.toArray 51)) := BW.out.trans (hb2.mono BW.out.size)
      have HCS2 := Kp.mk (rangeAt_block hcs2 ((BW.out.trans (hb1.mono BW.out.size)).block b2 HB2.out))
      have HK1 : Kp ((Try.prog.info? 51).map (·.size) = some cs1.length) := ⟨by rw [hk1]; exact sizeOut⟩
      have HK2 : Kp ((Try.prog.info? 51).map (·.size) = some cs2.length) := ⟨by rw [hk2]; exact sizeOut⟩
      have HO1 := Kp.mk (all_oneCell_toArray (HONE.out _ _ _ hR1))
      have HO2 := Kp.mk (all_oneCell_toArray (HONE.out _ _ _ hR2))
      have HG1 := Kp.mk (heap_alloc2_old wr (.cells cs1.toArray 51) (.cells cs2.toArray 51))
      have HG2 := Kp.mk (heap_alloc2_new wr (.cells cs1.toArray 51) (.cells cs2.toArray 51))
      have HL : Kp (cs1.length = 2 ∧ cs2.length = 2) := ⟨hk1, hk2⟩
      have HCALL := Kp.mk (HF.out ((wr.alloc (.cells cs1.toArray 51)).alloc (.cells cs2.toArray 51)) cs1 _ cs2 _ (HST.out _ cs1 _ hw2 hR1) (HST.out _ cs2 _ hw2 hR2))
      have HSZ : Kp (Below w.heap.size w ((wr.alloc (.cells cs1.toArray 51)).alloc (.cells cs2.toArray 51))) := ⟨hw2⟩
      have hjl' : (j : Int) < (l1.length : Int) := by omega
      have HJ : Kp (j < l1.length) := ⟨hjl⟩
      clear hb1 hb2 hw2
      clear hcs1 hcs2 hR1 hR2 hk1 hk2
      cases hq : p l1[j] l2[j] with
      | false =>
        rw [hq] at HCALL
        have HQ : Kp (eqB p l1 l2 = false) := ⟨eqB_no hjl hjl2 hq⟩
        clear hq hjl hjl2
        go_wp2_with (first | (refine wpList_load_mid rfl 51 (.tmp 20) rfl b1 (o1 + j * 2) rfl cs1 _ HCS1.out Try.underlying51 rfl HK1.out ?_) | (refine wpList_store_fresh rfl 51 (.tmp 8) (.tmp 21) rfl _ cs1.toArray wr.heap.size rfl rfl rfl (by simpa using HK1.out) (by simp [HL.out.1]) HO1.out ?_) | (refine wpList_load_mid rfl 51 (.tmp 24) rfl b2 (o2 + j * 2) rfl cs2 _ HCS2.out Try.underlying51 rfl HK2.out ?_) | (refine wpList_store_fresh rfl 51 (.tmp 9) (.tmp 25) rfl _ cs2.toArray (wr.heap.size + 1) (by simp) rfl rfl (by simpa using HK2.out) (by simp [HL.out.2]) HO2.out ?_) | (refine wpList_load_row rfl 51 (.tmp 8) rfl wr.heap.size rfl _ cs1.toArray _ _ HG1.out Try.underlying51 rfl (by simpa using HK1.out) ?_) | (refine wpList_load_row rfl 51 (.tmp 9) rfl (wr.heap.size + 1) rfl _ cs2.toArray _ _ HG2.out Try.underlying51 rfl (by simpa using HK2.out) ?_) | (go_at_fn f; refine HCALL.out.mono ?_; rintro e w' ⟨rfl, hb'⟩))
        go_ret
        exact ⟨by rw [HQ.out]; rfl, HSZ.out.trans (hb'.mono HSZ.out.size)⟩
      | true =>
        rw [hq] at HCALL
        have HQ : Kp (∀ (q : Nat) (h1 : q < l1.length) (h2 : q < l2.length), q < j + 1 → p l1[q] l2[q] = true) := ⟨fun q h1 h2 h3 => by
          rcases Nat.lt_or_ge q j with h4 | h4
          · exact NO.out q h1 h2 h4
          · obtain rfl : q = j := by omega
            exact hq⟩
        clear hq hjl hjl2
        go_wp2_with (first | (refine wpList_load_mid rfl 51 (.tmp 20) rfl b1 (o1 + j * 2) rfl cs1 _ HCS1.out Try.underlying51 rfl HK1.out ?_) | (refine wpList_store_fresh rfl 51 (.tmp 8) (.tmp 21) rfl _ cs1.toArray wr.heap.size rfl rfl rfl (by simpa using HK1.out) (by simp [HL.out.1]) HO1.out ?_) | (refine wpList_load_mid rfl 51 (.tmp 24) rfl b2 (o2 + j * 2) rfl cs2 _ HCS2.out Try.underlying51 rfl HK2.out ?_) | (refine wpList_store_fresh rfl 51 (.tmp 9) (.tmp 25) rfl _ cs2.toArray (wr.heap.size + 1) (by simp) rfl rfl (by simpa using HK2.out) (by simp [HL.out.2]) HO2.out ?_) | (refine wpList_load_row rfl 51 (.tmp 8) rfl wr.heap.size rfl _ cs1.toArray _ _ HG1.out Try.underlying51 rfl (by simpa using HK1.out) ?_) | (refine wpList_load_row rfl 51 (.tmp 9) rfl (wr.heap.size + 1) rfl _ cs2.toArray _ _ HG2.out Try.underlying51 rfl (by simpa using HK2.out) ?_) | (go_at_fn f; refine HCALL.out.mono ?_; rintro e w' ⟨rfl, hb'⟩))
        exact ⟨⟨j + 1, by have := HJ.out; omega, by go_num, ⟨HSZ.out.trans (hb'.mono HSZ.out.size)⟩, HQ⟩, by simp [intOf]; have := HJ.out; omega⟩
    · obtain rfl : j = l1.length := by omega
      have HQ : Kp (eqB p l1 l2 = true) := ⟨eqB_yes HLEN.out.symm fun i h1 h2 => NO.out i h1 h2 h1⟩
      clear hjl
      go_wp2
      go_ret
      exact ⟨by rw [HQ.out]; rfl, BW.out⟩

set_option maxRecDepth 100000 in
set_option maxHeartbeats 1000000 in
theorem eqIn_len (w : World) (A1 A2 : Option Addr) (n1 c1 n2 c2 : Nat) (_h1 : n1 ≤ maxLen) (_h2 : n2 ≤ maxLen) (hne : n1 ≠ n2) (f : Nat) : Calls Try.prog 35 #[.slice A1 n1 c1, .slice A2 n2 c2, .func (.func f) #[] #[]] w (BoolP false w) := by
  unfold maxLen at _h1 _h2
  have hn : ((n1 : Int) == (n2 : Int)) = false := by rw [beq_eq_false_iff_ne]; omega
  have hn2 : (n1 == n2) = false := by rw [beq_eq_false_iff_ne]; omega
  clear hne
  go_enter Try.func35, Try.ntmps35
  go_wp2
  go_ret
  exact ⟨rfl, Below.refl _ _⟩
set_option maxRecDepth 100000 in
set_option maxHeartbeats 1000000 in
theorem eqIn_nil (w : World) (A1 A2 : Option Addr) (c1 c2 : Nat) (f : Nat) : Calls Try.prog 35 #[.slice A1 0 c1, .slice A2 0 c2, .func (.func f) #[] #[]] w (BoolP true w) := by
  go_enter Try.func35, Try.ntmps35
  go_wp2
  refine wp_loop_rounds 1 ?_
  rw [rounds_succ]
  go_wp2
  go_ret
  exact ⟨rfl, Below.refl _ _⟩
set_option maxRecDepth 100000 in
set_option maxHeartbeats 4000000 in
theorem eqIn_any (w : World) (v1 v2 : Value) (l1 l2 : List (InD)) (f : Nat) (p : InD → InD → Bool) (h1 : Many 36 InR w v1 l1) (h2 : Many 36 InR w v2 l2) (hf : Asks2 InR (fun cs => .agg cs.toArray) f p)
    (hst : ∀ (W : World) cs x, Below w.heap.size w W → InR w cs x → InR W cs x) (hone : ∀ (W : World) cs x, InR W cs x → ∀ u ∈ cs, u.oneCell' = true)
    (eg : ∀ args w, (callFunc f args).run Try.prog w = .ok (.enter f args) w) :
    Calls Try.prog 35 #[v1, v2, .func (.func f) #[] #[]] w (BoolP (eqB p l1 l2) w) := by
  obtain ⟨A1, c1, rfl, hlc1, hlm1⟩ := h1.slice
  obtain ⟨A2, c2, rfl, hlc2, hlm2⟩ := h2.slice
  by_cases hlen : l1.length ≠ l2.length
  · rw [eqB_len hlen]
    exact eqIn_len w A1 A2 _ c1 _ c2 hlm1 hlm2 hlen f
  have hlen' : l2.length = l1.length := by omega
  by_cases hne : l1 = []
  · subst hne
    have hl2 : l2 = [] := List.eq_nil_of_length_eq_zero hlen'
    subst hl2
    exact eqIn_nil w A1 A2 c1 c2 f
  have hne2 : l2 ≠ [] := fun e => hne (List.eq_nil_of_length_eq_zero (by rw [← hlen', e]; rfl))
  unfold maxLen at hlm1 hlm2
  obtain ⟨b1, o1, rfl, hlt1, hat1⟩ := h1.all hne
  obtain ⟨b2, o2, rfl, hlt2, hat2⟩ := h2.all hne2
  have HAT1 : Kp (∀ (i : Nat) (hi : i < l1.length), ∃ cs, cs.length = 36 ∧ w.rangeAt b1 (o1 + i * 36) cs ∧ InR w cs l1[i]) := ⟨hat1⟩
  have HAT2 : Kp (∀ (i : Nat) (hi : i < l2.length), ∃ cs, cs.length = 36 ∧ w.rangeAt b2 (o2 + i * 36) cs ∧ InR w cs l2[i]) := ⟨hat2⟩
  have HB1 : Kp (b1 < w.heap.size) := ⟨hlt1⟩
  have HB2 : Kp (b2 < w.heap.size) := ⟨hlt2⟩
  have HST : Kp (∀ (W : World) cs x, Below w.heap.size w W → InR w cs x → InR W cs x) := ⟨hst⟩
  have HONE : Kp (∀ (W : World) cs x, InR W cs x → ∀ u ∈ cs, u.oneCell' = true) := ⟨hone⟩
  have HF : Kp (Asks2 InR (fun cs => .agg cs.toArray) f p) := ⟨hf⟩
  have HLEN : Kp (l2.length = l1.length) := ⟨hlen'⟩
  clear hat1 hat2 hlt1 hlt2 h1 h2 hne hne2 hst hf hone hlen
  rw [hlen'] at hlc2 ⊢
  clear hlen' hlm2
  go_enter Try.func35, Try.ntmps35
  go_wp2
  go_loopw [7, 8, 9, 17] (fun _ _ _ i wr => ∃ j : Nat, j ≤ l1.length ∧ i = .int .i64 j ∧ Kp (Below w.heap.size w wr) ∧ Kp (∀ (q : Nat) (h1 : q < l1.length) (h2 : q < l2.length), q < j → p l1[q] l2[q] = true)) (fun _ _ _ i _ => l1.length - (intOf i).toNat)
  case atStart => exact ⟨0, Nat.zero_le _, rfl, ⟨Below.refl _ _⟩, ⟨fun _ _ _ h => absurd h (Nat.not_lt_zero _)⟩⟩
  case round =>
    obtain ⟨j, hj, rfl, BW, NO⟩ := hrel
    by_cases hjl : j < l1.length
    · have hjl2 : j < l2.length := by rw [HLEN.out]; exact hjl
      obtain ⟨cs1, hk1, hcs1, hR1⟩ := HAT1.out j hjl
      obtain ⟨cs2, hk2, hcs2, hR2⟩ := HAT2.out j hjl2
      have HCS1 := Kp.mk (rangeAt_block hcs1 (BW.out.block b1 HB1.out))
      have hb1 : Below wr.heap.size wr (wr.alloc (.cells cs1.toArray 47)) := (Below.refl _ _).alloc (Nat.le_refl _) _
      have hb2 : Below wr.heap.size wr ((wr.alloc (.cells cs1.toArray 47)).alloc (.cells cs2.toArray 47)) := hb1.alloc (by simp) _
      have hw2 : Below w.heap.size w ((wr.alloc (.cells cs1.toArray 47)).alloc (.cells cs2.toArray 47)) := BW.out.trans (hb2.mono BW.out.size)
      have HCS2 := Kp.mk (rangeAt_block hcs2 ((BW.out.trans (hb1.mono BW.out.size)).block b2 HB2.out))
      have HK1 : Kp ((Try.prog.info? 47).map (·.size) = some cs1.length) := ⟨by rw [hk1]; exact sizeIn⟩
      have HK2 : Kp ((Try.prog.info? 47).map (·.size) = some cs2.length) := ⟨by rw [hk2]; exact sizeIn⟩
      have HO1 := Kp.mk (all_oneCell_toArray (HONE.out _ _ _ hR1))
      have HO2 := Kp.mk (all_oneCell_toArray (HONE.out _ _ _ hR2))
      have HG1 := Kp.mk (heap_alloc2_old wr (.cells cs1.toArray 47) (.cells cs2.toArray 47))
      have HG2 := Kp.mk (heap_alloc2_new wr (.cells cs1.toArray 47) (.cells cs2.toArray 47))
      have HL : Kp (cs1.length = 36 ∧ cs2.length = 36) := ⟨hk1, hk2⟩
      have HCALL := Kp.mk (HF.out ((wr.alloc (.cells cs1.toArray 47)).alloc (.cells cs2.toArray 47)) cs1 _ cs2 _ (HST.out _ cs1 _ hw2 hR1) (HST.out _ cs2 _ hw2 hR2))
      have HSZ : Kp (Below w.heap.size w ((wr.alloc (.cells cs1.toArray 47)).alloc (.cells cs2.toArray 47))) := ⟨hw2⟩
      have hjl' : (j : Int) < (l1.length : Int) := by omega
      have HJ : Kp (j < l1.length) := ⟨hjl⟩
      clear hb1 hb2 hw2
      clear hcs1 hcs2 hR1 hR2 hk1 hk2
      cases hq : p l1[j] l2[j] with
      | false =>
        rw [hq] at HCALL
        have HQ : Kp (eqB p l1 l2 = false) := ⟨eqB_no hjl hjl2 hq⟩
        clear hq hjl hjl2
        go_wp2_with (first | (refine wpList_load_mid rfl 47 (.tmp 20) rfl b1 (o1 + j * 36) rfl cs1 _ HCS1.out Try.underlying47 rfl HK1.out ?_) | (refine wpList_store_fresh rfl 47 (.tmp 8) (.tmp 21) rfl _ cs1.toArray wr.heap.size rfl rfl rfl (by simpa using HK1.out) (by simp [HL.out.1]) HO1.out ?_) | (refine wpList_load_mid rfl 47 (.tmp 24) rfl b2 (o2 + j * 36) rfl cs2 _ HCS2.out Try.underlying47 rfl HK2.out ?_) | (refine wpList_store_fresh rfl 47 (.tmp 9) (.tmp 25) rfl _ cs2.toArray (wr.heap.size + 1) (by simp) rfl rfl (by simpa using HK2.out) (by simp [HL.out.2]) HO2.out ?_) | (refine wpList_load_row rfl 47 (.tmp 8) rfl wr.heap.size rfl _ cs1.toArray _ _ HG1.out Try.underlying47 rfl (by simpa using HK1.out) ?_) | (refine wpList_load_row rfl 47 (.tmp 9) rfl (wr.heap.size + 1) rfl _ cs2.toArray _ _ HG2.out Try.underlying47 rfl (by simpa using HK2.out) ?_) | (go_at_fn f; refine HCALL.out.mono ?_; rintro e w' ⟨rfl, hb'⟩))
        go_ret
        exact ⟨by rw [HQ.out]; rfl, HSZ.out.trans (hb'.mono HSZ.out.size)⟩
      | true =>
        rw [hq] at HCALL
        have HQ : Kp (∀ (q : Nat) (h1 : q < l1.length) (h2 : q < l2.length), q < j + 1 → p l1[q] l2[q] = true) := ⟨fun q h1 h2 h3 => by
          rcases Nat.lt_or_ge q j with h4 | h4
          · exact NO.out q h1 h2 h4
          · obtain rfl : q = j := by omega
            exact hq⟩
        clear hq hjl hjl2
        go_wp2_with (first | (refine wpList_load_mid rfl 47 (.tmp 20) rfl b1 (o1 + j * 36) rfl cs1 _ HCS1.out Try.underlying47 rfl HK1.out ?_) | (refine wpList_store_fresh rfl 47 (.tmp 8) (.tmp 21) rfl _ cs1.toArray wr.heap.size rfl rfl rfl (by simpa using HK1.out) (by simp [HL.out.1]) HO1.out ?_) | (refine wpList_load_mid rfl 47 (.tmp 24) rfl b2 (o2 + j * 36) rfl cs2 _ HCS2.out Try.underlying47 rfl HK2.out ?_) | (refine wpList_store_fresh rfl 47 (.tmp 9) (.tmp 25) rfl _ cs2.toArray (wr.heap.size + 1) (by simp) rfl rfl (by simpa using HK2.out) (by simp [HL.out.2]) HO2.out ?_) | (refine wpList_load_row rfl 47 (.tmp 8) rfl wr.heap.size rfl _ cs1.toArray _ _ HG1.out Try.underlying47 rfl (by simpa using HK1.out) ?_) | (refine wpList_load_row rfl 47 (.tmp 9) rfl (wr.heap.size + 1) rfl _ cs2.toArray _ _ HG2.out Try.underlying47 rfl (by simpa using HK2.out) ?_) | (go_at_fn f; refine HCALL.out.mono ?_; rintro e w' ⟨rfl, hb'⟩))
        exact ⟨⟨j + 1, by have := HJ.out; omega, by go_num, ⟨HSZ.out.trans (hb'.mono HSZ.out.size)⟩, HQ⟩, by simp [intOf]; have := HJ.out; omega⟩
    · obtain rfl : j = l1.length := by omega
      have HQ : Kp (eqB p l1 l2 = true) := ⟨eqB_yes HLEN.out.symm fun i h1 h2 => NO.out i h1 h2 h1⟩
      clear hjl
      go_wp2
      go_ret
      exact ⟨by rw [HQ.out]; rfl, BW.out⟩
end Go.Proofs.Ytojeonepplfhlaa
