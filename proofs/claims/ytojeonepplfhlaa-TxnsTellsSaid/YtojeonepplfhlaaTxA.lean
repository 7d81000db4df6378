/- Contracts of package txns: what asks a transaction's lengths. -/
import Derived.Test.YtojeonepplfhlaaTxMem
import Derived.Test.YtojeonepplfhlaaWireB
import Derived.Shelf.Abstract
namespace Go.Proofs.Ytojeonepplfhlaa
open Go.RowKit

/-- A bool is answered; what was there is as it was. -/
def BoolP (b : Bool) (w : World) (e : Ending) (w' : World) : Prop := e = .returned (.bool b) ∧ Below w.heap.size w w'
def longB (l : List Int) : Bool := decide (500 < l.length)

set_option maxRecDepth 100000 in
set_option maxHeartbeats 400000 in
theorem long_any (w : World) (v : Value) (l : List Int) (h : Rb w v l) : Calls Try.prog 48 #[v] w (BoolP (longB l) w) := by
  obtain ⟨⟨A, c, rfl, _⟩, _, hm⟩ := h
  unfold maxLen at hm
  by_cases hl : 500 < l.length
  · have hl' : (500 : Int) < (l.length : Int) := by omega
    have H : Kp (longB l = true) := ⟨decide_eq_true hl⟩
    clear hl
    go_enter Try.func48, Try.ntmps48
    go_wp2
    go_ret
    exact ⟨by rw [H.out]; rfl, Below.refl _ _⟩
  · have hl' : ((500 : Int) < (l.length : Int)) = False := eq_false (by omega)
    have H : Kp (longB l = false) := ⟨decide_eq_false hl⟩
    clear hl
    go_enter Try.func48, Try.ntmps48
    go_wp2
    go_ret
    exact ⟨by rw [H.out]; rfl, Below.refl _ _⟩

/-- What a test of one element answers, at every later world. -/
def Asks {α : Type} (R : World → List Value → α → Prop) (enc : List Value → Value) (f : Nat) (p : α → Bool) : Prop :=
  ∀ (W : World) (cs : List Value) (x : α), R W cs x → Calls Try.prog f #[enc cs] W (BoolP (p x) W)
def row1 (cs : List Value) : Value := cs.getD 0 undef
def IdxP (b : Bool) (w : World) (e : Ending) (w' : World) : Prop := (∃ j : Int, e = .returned (.int .i64 j) ∧ (b = true → 0 ≤ j) ∧ (b = false → j = -1)) ∧ Below w.heap.size w w'

theorem any_miss {α : Type} {p : α → Bool} {l : List α} (h : ∀ (j : Nat) (hj : j < l.length), p l[j] = false) : l.any p = false := by
  rw [List.any_eq_false]
  intro x hx
  obtain ⟨j, hj, rfl⟩ := List.mem_iff_getElem.1 hx
  simp [h j hj]
theorem any_hit {α : Type} {p : α → Bool} {l : List α} {j : Nat} (hj : j < l.length) (h : p l[j] = true) : l.any p = true :=
  List.any_eq_true.2 ⟨_, List.getElem_mem hj, h⟩
set_option maxRecDepth 100000 in
theorem sizeIn : (Try.prog.info? 47).map (·.size) = some 36 := by kernel_rfl
set_option maxRecDepth 100000 in
theorem sizeOut : (Try.prog.info? 51).map (·.size) = some 2 := by kernel_rfl
theorem load_row {w : World} {b off j : Nat} {cs : List Value} (h : w.rangeAt b (off + j * 1) cs) (hl : cs.length = 1) : w.cell? ⟨b, off + j, none⟩ = some (row1 cs) := by
  rw [Nat.mul_one] at h
  match cs, hl with
  | [u], _ => exact h 0 u rfl
/-- GENERATED -/
theorem gen_here : True := trivial

set_option maxRecDepth 100000 in
set_option maxHeartbeats 1000000 in
theorem idxIn_nil (w : World) (A : Option Addr) (c : Nat) (f : Nat) : Calls Try.prog 47 #[.slice A 0 c, .func (.func f) #[] #[]] w (IdxP false w) := by
  go_enter Try.func47, Try.ntmps47
  go_wp2
  refine wp_loop_rounds 1 ?_
  rw [rounds_succ]
  go_wp2
  go_ret
  exact ⟨⟨-1, rfl, (fun h => by cases h), fun _ => rfl⟩, Below.refl _ _⟩
set_option maxRecDepth 100000 in
set_option maxHeartbeats 2000000 in
theorem idxIn_any (w : World) (v : Value) (l : List (InD)) (f : Nat) (p : InD → Bool) (h : Many 36 InR w v l) (hf : Asks InR (fun cs => .agg cs.toArray) f p) (hst : ∀ (W : World) cs x, Below w.heap.size w W → InR w cs x → InR W cs x)
    (eg : ∀ args w, (callFunc f args).run Try.prog w = .ok (.enter f args) w) :
    Calls Try.prog 47 #[v, .func (.func f) #[] #[]] w (IdxP (l.any p) w) := by
  by_cases hne : l = []
  · subst hne
    obtain ⟨A, c, rfl, _⟩ := h
    exact idxIn_nil w A c f
  obtain ⟨A, c, rfl, hlc, hlm⟩ := h.slice
  unfold maxLen at hlm
  obtain ⟨b, off, rfl, hlt, hat⟩ := h.all hne
  have HAT : Kp (∀ (i : Nat) (hi : i < l.length), ∃ cs, cs.length = 36 ∧ w.rangeAt b (off + i * 36) cs ∧ InR w cs l[i]) := ⟨hat⟩
  have HB : Kp (b < w.heap.size) := ⟨hlt⟩
  have HST : Kp (∀ (W : World) cs x, Below w.heap.size w W → InR w cs x → InR W cs x) := ⟨hst⟩
  have HF : Kp (Asks InR (fun cs => .agg cs.toArray) f p) := ⟨hf⟩
  clear hat hlt h hne hst hf
  go_enter Try.func47, Try.ntmps47
  go_wp2
  go_loopw [5, 8] (fun _ i wr => ∃ j : Nat, j ≤ l.length ∧ i = .int .i64 j ∧ Kp (Below w.heap.size w wr) ∧ Kp (∀ (q : Nat) (hq : q < l.length), q < j → p l[q] = false)) (fun _ i _ => l.length - (intOf i).toNat)
  case atStart => exact ⟨0, Nat.zero_le _, rfl, ⟨Below.refl _ _⟩, ⟨fun _ _ h => absurd h (Nat.not_lt_zero _)⟩⟩
  case round =>
    obtain ⟨j, hj, rfl, BW, NO⟩ := hrel
    by_cases hjl : j < l.length
    · obtain ⟨cs, hk, hcs, hR⟩ := HAT.out j hjl
      have HCS := Kp.mk (rangeAt_block hcs (BW.out.block b HB.out)); have HSZ : Kp ((Try.prog.info? 47).map (·.size) = some cs.length) := ⟨by rw [hk]; exact sizeIn⟩
      have hcall := HF.out wr cs l[j] (HST.out wr cs _ BW.out hR)
      have hjl' : (j : Int) < (l.length : Int) := by omega
      have HJ : Kp (j < l.length) := ⟨hjl⟩
      clear hcs hR hk
      cases hq : p l[j] with
      | true =>
        rw [hq] at hcall
        have HQ : Kp (l.any p = true) := ⟨any_hit hjl hq⟩
        have HC := Kp.mk hcall
        clear hq hcall hjl
        go_wp2_with (first | (refine wpList_load_mid rfl 47 (.tmp 14) rfl b (off + j * 36) rfl cs _ HCS.out Try.underlying47 rfl HSZ.out ?_) | (go_at_fn f; refine HC.out.mono ?_; rintro e w' ⟨rfl, hb'⟩))
        go_ret
        exact ⟨⟨j, rfl, fun _ => by omega, fun h => by rw [HQ.out] at h; cases h⟩, BW.out.trans (hb'.mono BW.out.size)⟩
      | false =>
        rw [hq] at hcall
        have HQ : Kp (∀ (q : Nat) (hq : q < l.length), q < j + 1 → p l[q] = false) := ⟨fun q h1 h2 => by
          rcases Nat.lt_or_ge q j with h3 | h3
          · exact NO.out q h1 h3
          · obtain rfl : q = j := by omega
            exact hq⟩
        have HC := Kp.mk hcall
        clear hq hcall hjl
        go_wp2_with (first | (refine wpList_load_mid rfl 47 (.tmp 14) rfl b (off + j * 36) rfl cs _ HCS.out Try.underlying47 rfl HSZ.out ?_) | (go_at_fn f; refine HC.out.mono ?_; rintro e w' ⟨rfl, hb'⟩))
        exact ⟨⟨j + 1, by have := HJ.out; omega, by go_num, ⟨BW.out.trans (hb'.mono BW.out.size)⟩, HQ⟩, by simp [intOf]; have := HJ.out; omega⟩
    · obtain rfl : j = l.length := by omega
      have HQ : Kp (l.any p = false) := ⟨any_miss fun q hq => NO.out q hq hq⟩
      clear hjl
      go_wp2
      go_ret
      exact ⟨⟨-1, rfl, (fun h => by rw [HQ.out] at h; cases h), fun _ => rfl⟩, BW.out⟩
set_option maxRecDepth 100000 in
set_option maxHeartbeats 1000000 in
theorem conIn_any (w : World) (v : Value) (l : List (InD)) (f : Nat) (p : InD → Bool) (h : Many 36 InR w v l) (hf : Asks InR (fun cs => .agg cs.toArray) f p) (hst : ∀ (W : World) cs x, Below w.heap.size w W → InR w cs x → InR W cs x)
    (eg : ∀ args w, (callFunc f args).run Try.prog w = .ok (.enter f args) w) :
    Calls Try.prog 24 #[v, .func (.func f) #[] #[]] w (BoolP (l.any p) w) := by
  have H := Kp.mk (idxIn_any w v l f p h hf hst eg)
  clear h hf hst eg
  go_enter Try.func24, Try.ntmps24
  go_wp2_with fail
  refine H.out.mono ?_
  rintro e w' ⟨⟨j, rfl, h1, h2⟩, hb⟩
  have HB := Kp.mk hb
  clear hb
  cases hq : l.any p with
  | true =>
    rw [hq] at h1
    have hj := h1 rfl
    have hj' : (j ≥ 0) = True := eq_true hj
    have HQ := Kp.mk hq
    clear h1 h2 hq
    go_wp2
    go_ret
    exact ⟨by rw [HQ.out]; rfl, HB.out⟩
  | false =>
    rw [hq] at h2
    have hj := h2 rfl
    subst hj
    have HQ := Kp.mk hq
    clear h1 h2 hq
    go_wp2
    go_ret
    exact ⟨by rw [HQ.out]; rfl, HB.out⟩

set_option maxRecDepth 100000 in
set_option maxHeartbeats 1000000 in
theorem idxOut_nil (w : World) (A : Option Addr) (c : Nat) (f : Nat) : Calls Try.prog 50 #[.slice A 0 c, .func (.func f) #[] #[]] w (IdxP false w) := by
  go_enter Try.func50, Try.ntmps50
  go_wp2
  refine wp_loop_rounds 1 ?_
  rw [rounds_succ]
  go_wp2
  go_ret
  exact ⟨⟨-1, rfl, (fun h => by cases h), fun _ => rfl⟩, Below.refl _ _⟩
set_option maxRecDepth 100000 in
set_option maxHeartbeats 2000000 in
theorem idxOut_any (w : World) (v : Value) (l : List (OutD)) (f : Nat) (p : OutD → Bool) (h : Many 2 OutR w v l) (hf : Asks OutR (fun cs => .agg cs.toArray) f p) (hst : ∀ (W : World) cs x, Below w.heap.size w W → OutR w cs x → OutR W cs x)
    (eg : ∀ args w, (callFunc f args).run Try.prog w = .ok (.enter f args) w) :
    Calls Try.prog 50 #[v, .func (.func f) #[] #[]] w (IdxP (l.any p) w) := by
  by_cases hne : l = []
  · subst hne
    obtain ⟨A, c, rfl, _⟩ := h
    exact idxOut_nil w A c f
  obtain ⟨A, c, rfl, hlc, hlm⟩ := h.slice
  unfold maxLen at hlm
  obtain ⟨b, off, rfl, hlt, hat⟩ := h.all hne
  have HAT : Kp (∀ (i : Nat) (hi : i < l.length), ∃ cs, cs.length = 2 ∧ w.rangeAt b (off + i * 2) cs ∧ OutR w cs l[i]) := ⟨hat⟩
  have HB : Kp (b < w.heap.size) := ⟨hlt⟩
  have HST : Kp (∀ (W : World) cs x, Below w.heap.size w W → OutR w cs x → OutR W cs x) := ⟨hst⟩
  have HF : Kp (Asks OutR (fun cs => .agg cs.toArray) f p) := ⟨hf⟩
  clear hat hlt h hne hst hf
  go_enter Try.func50, Try.ntmps50
  go_wp2
  go_loopw [5, 8] (fun _ i wr => ∃ j : Nat, j ≤ l.length ∧ i = .int .i64 j ∧ Kp (Below w.heap.size w wr) ∧ Kp (∀ (q : Nat) (hq : q < l.length), q < j → p l[q] = false)) (fun _ i _ => l.length - (intOf i).toNat)
  case atStart => exact ⟨0, Nat.zero_le _, rfl, ⟨Below.refl _ _⟩, ⟨fun _ _ h => absurd h (Nat.not_lt_zero _)⟩⟩
  case round =>
    obtain ⟨j, hj, rfl, BW, NO⟩ := hrel
    by_cases hjl : j < l.length
    · obtain ⟨cs, hk, hcs, hR⟩ := HAT.out j hjl
      have HCS := Kp.mk (rangeAt_block hcs (BW.out.block b HB.out)); have HSZ : Kp ((Try.prog.info? 51).map (·.size) = some cs.length) := ⟨by rw [hk]; exact sizeOut⟩
      have hcall := HF.out wr cs l[j] (HST.out wr cs _ BW.out hR)
      have hjl' : (j : Int) < (l.length : Int) := by omega
      have HJ : Kp (j < l.length) := ⟨hjl⟩
      clear hcs hR hk
      cases hq : p l[j] with
      | true =>
        rw [hq] at hcall
        have HQ : Kp (l.any p = true) := ⟨any_hit hjl hq⟩
        have HC := Kp.mk hcall
        clear hq hcall hjl
        go_wp2_with (first | (refine wpList_load_mid rfl 51 (.tmp 14) rfl b (off + j * 2) rfl cs _ HCS.out Try.underlying51 rfl HSZ.out ?_) | (go_at_fn f; refine HC.out.mono ?_; rintro e w' ⟨rfl, hb'⟩))
        go_ret
        exact ⟨⟨j, rfl, fun _ => by omega, fun h => by rw [HQ.out] at h; cases h⟩, BW.out.trans (hb'.mono BW.out.size)⟩
      | false =>
        rw [hq] at hcall
        have HQ : Kp (∀ (q : Nat) (hq : q < l.length), q < j + 1 → p l[q] = false) := ⟨fun q h1 h2 => by
          rcases Nat.lt_or_ge q j with h3 | h3
          · exact NO.out q h1 h3
          · obtain rfl : q = j := by omega
            exact hq⟩
        have HC := Kp.mk hcall
        clear hq hcall hjl
        go_wp2_with (first | (refine wpList_load_mid rfl 51 (.tmp 14) rfl b (off + j * 2) rfl cs _ HCS.out Try.underlying51 rfl HSZ.out ?_) | (go_at_fn f; refine HC.out.mono ?_; rintro e w' ⟨rfl, hb'⟩))
        exact ⟨⟨j + 1, by have := HJ.out; omega, by go_num, ⟨BW.out.trans (hb'.mono BW.out.size)⟩, HQ⟩, by simp [intOf]; have := HJ.out; omega⟩
    · obtain rfl : j = l.length := by omega
      have HQ : Kp (l.any p = false) := ⟨any_miss fun q hq => NO.out q hq hq⟩
      clear hjl
      go_wp2
      go_ret
      exact ⟨⟨-1, rfl, (fun h => by rw [HQ.out] at h; cases h), fun _ => rfl⟩, BW.out⟩
set_option maxRecDepth 100000 in
set_option maxHeartbeats 1000000 in
theorem conOut_any (w : World) (v : Value) (l : List (OutD)) (f : Nat) (p : OutD → Bool) (h : Many 2 OutR w v l) (hf : Asks OutR (fun cs => .agg cs.toArray) f p) (hst : ∀ (W : World) cs x, Below w.heap.size w W → OutR w cs x → OutR W cs x)
    (eg : ∀ args w, (callFunc f args).run Try.prog w = .ok (.enter f args) w) :
    Calls Try.prog 26 #[v, .func (.func f) #[] #[]] w (BoolP (l.any p) w) := by
  have H := Kp.mk (idxOut_any w v l f p h hf hst eg)
  clear h hf hst eg
  go_enter Try.func26, Try.ntmps26
  go_wp2_with fail
  refine H.out.mono ?_
  rintro e w' ⟨⟨j, rfl, h1, h2⟩, hb⟩
  have HB := Kp.mk hb
  clear hb
  cases hq : l.any p with
  | true =>
    rw [hq] at h1
    have hj := h1 rfl
    have hj' : (j ≥ 0) = True := eq_true hj
    have HQ := Kp.mk hq
    clear h1 h2 hq
    go_wp2
    go_ret
    exact ⟨by rw [HQ.out]; rfl, HB.out⟩
  | false =>
    rw [hq] at h2
    have hj := h2 rfl
    subst hj
    have HQ := Kp.mk hq
    clear h1 h2 hq
    go_wp2
    go_ret
    exact ⟨by rw [HQ.out]; rfl, HB.out⟩

set_option maxRecDepth 100000 in
set_option maxHeartbeats 1000000 in
theorem idxRow_nil (w : World) (A : Option Addr) (c : Nat) (f : Nat) : Calls Try.prog 67 #[.slice A 0 c, .func (.func f) #[] #[]] w (IdxP false w) := by
  go_enter Try.func67, Try.ntmps67
  go_wp2
  refine wp_loop_rounds 1 ?_
  rw [rounds_succ]
  go_wp2
  go_ret
  exact ⟨⟨-1, rfl, (fun h => by cases h), fun _ => rfl⟩, Below.refl _ _⟩
set_option maxRecDepth 100000 in
set_option maxHeartbeats 2000000 in
theorem idxRow_any (w : World) (v : Value) (l : List (List Int)) (f : Nat) (p : List Int → Bool) (h : Many 1 RowR w v l) (hf : Asks RowR (row1) f p) (hst : ∀ (W : World) cs x, Below w.heap.size w W → RowR w cs x → RowR W cs x)
    (eg : ∀ args w, (callFunc f args).run Try.prog w = .ok (.enter f args) w) :
    Calls Try.prog 67 #[v, .func (.func f) #[] #[]] w (IdxP (l.any p) w) := by
  by_cases hne : l = []
  · subst hne
    obtain ⟨A, c, rfl, _⟩ := h
    exact idxRow_nil w A c f
  obtain ⟨A, c, rfl, hlc, hlm⟩ := h.slice
  unfold maxLen at hlm
  obtain ⟨b, off, rfl, hlt, hat⟩ := h.all hne
  have HAT : Kp (∀ (i : Nat) (hi : i < l.length), ∃ cs, cs.length = 1 ∧ w.rangeAt b (off + i * 1) cs ∧ RowR w cs l[i]) := ⟨hat⟩
  have HB : Kp (b < w.heap.size) := ⟨hlt⟩
  have HST : Kp (∀ (W : World) cs x, Below w.heap.size w W → RowR w cs x → RowR W cs x) := ⟨hst⟩
  have HF : Kp (Asks RowR (row1) f p) := ⟨hf⟩
  clear hat hlt h hne hst hf
  go_enter Try.func67, Try.ntmps67
  go_wp2
  go_loopw [5, 8] (fun _ i wr => ∃ j : Nat, j ≤ l.length ∧ i = .int .i64 j ∧ Kp (Below w.heap.size w wr) ∧ Kp (∀ (q : Nat) (hq : q < l.length), q < j → p l[q] = false)) (fun _ i _ => l.length - (intOf i).toNat)
  case atStart => exact ⟨0, Nat.zero_le _, rfl, ⟨Below.refl _ _⟩, ⟨fun _ _ h => absurd h (Nat.not_lt_zero _)⟩⟩
  case round =>
    obtain ⟨j, hj, rfl, BW, NO⟩ := hrel
    by_cases hjl : j < l.length
    · obtain ⟨cs, hk, hcs, hR⟩ := HAT.out j hjl
      have hload := load_row (rangeAt_block hcs (BW.out.block b HB.out)) hk
      have hcall := HF.out wr cs l[j] (HST.out wr cs _ BW.out hR)
      have hjl' : (j : Int) < (l.length : Int) := by omega
      have HJ : Kp (j < l.length) := ⟨hjl⟩
      clear hcs hR hk
      cases hq : p l[j] with
      | true =>
        rw [hq] at hcall
        have HQ : Kp (l.any p = true) := ⟨any_hit hjl hq⟩
        have HC := Kp.mk hcall
        clear hq hcall hjl
        go_wp2_with (first | (go_at_fn f; refine HC.out.mono ?_; rintro e w' ⟨rfl, hb'⟩))
        go_ret
        exact ⟨⟨j, rfl, fun _ => by omega, fun h => by rw [HQ.out] at h; cases h⟩, BW.out.trans (hb'.mono BW.out.size)⟩
      | false =>
        rw [hq] at hcall
        have HQ : Kp (∀ (q : Nat) (hq : q < l.length), q < j + 1 → p l[q] = false) := ⟨fun q h1 h2 => by
          rcases Nat.lt_or_ge q j with h3 | h3
          · exact NO.out q h1 h3
          · obtain rfl : q = j := by omega
            exact hq⟩
        have HC := Kp.mk hcall
        clear hq hcall hjl
        go_wp2_with (first | (go_at_fn f; refine HC.out.mono ?_; rintro e w' ⟨rfl, hb'⟩))
        exact ⟨⟨j + 1, by have := HJ.out; omega, by go_num, ⟨BW.out.trans (hb'.mono BW.out.size)⟩, HQ⟩, by simp [intOf]; have := HJ.out; omega⟩
    · obtain rfl : j = l.length := by omega
      have HQ : Kp (l.any p = false) := ⟨any_miss fun q hq => NO.out q hq hq⟩
      clear hjl
      go_wp2
      go_ret
      exact ⟨⟨-1, rfl, (fun h => by rw [HQ.out] at h; cases h), fun _ => rfl⟩, BW.out⟩
set_option maxRecDepth 100000 in
set_option maxHeartbeats 1000000 in
theorem conRow_any (w : World) (v : Value) (l : List (List Int)) (f : Nat) (p : List Int → Bool) (h : Many 1 RowR w v l) (hf : Asks RowR (row1) f p) (hst : ∀ (W : World) cs x, Below w.heap.size w W → RowR w cs x → RowR W cs x)
    (eg : ∀ args w, (callFunc f args).run Try.prog w = .ok (.enter f args) w) :
    Calls Try.prog 49 #[v, .func (.func f) #[] #[]] w (BoolP (l.any p) w) := by
  have H := Kp.mk (idxRow_any w v l f p h hf hst eg)
  clear h hf hst eg
  go_enter Try.func49, Try.ntmps49
  go_wp2_with fail
  refine H.out.mono ?_
  rintro e w' ⟨⟨j, rfl, h1, h2⟩, hb⟩
  have HB := Kp.mk hb
  clear hb
  cases hq : l.any p with
  | true =>
    rw [hq] at h1
    have hj := h1 rfl
    have hj' : (j ≥ 0) = True := eq_true hj
    have HQ := Kp.mk hq
    clear h1 h2 hq
    go_wp2
    go_ret
    exact ⟨by rw [HQ.out]; rfl, HB.out⟩
  | false =>
    rw [hq] at h2
    have hj := h2 rfl
    subst hj
    have HQ := Kp.mk hq
    clear h1 h2 hq
    go_wp2
    go_ret
    exact ⟨by rw [HQ.out]; rfl, HB.out⟩
end Go.Proofs.Ytojeonepplfhlaa
