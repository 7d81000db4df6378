/- Transactions as great as may be, and one more: when they may be, and how they lie in memory. No program. -/
import Derived.Test.YtpbhlnmhaociiaaSmD
namespace Go.Proofs.Ytpbhlnmhaociiaa
open Go.RowKit

/-- The inputs: the last one with a script of s bytes, the first one with k witnesses of x bytes. -/
def inC (a s x k i : Nat) : InD := ⟨zeros 32, i, if i + 1 = a then zeros s else [], 0, if i = 0 then List.replicate k (zeros x) else []⟩
def outC (s i : Nat) : OutD := ⟨0, if i = 0 then zeros s else []⟩
def txB (a b s k x : Nat) : TxD := ⟨2, (List.range a).map (inC a s x k), (List.range b).map (outC s), 0⟩
/-- Whether it may be. -/
def goodB (a b s k x : Nat) : Bool := decide (1 ≤ a ∧ a ≤ 50 ∧ 1 ≤ b ∧ b ≤ 50 ∧ s ≤ 500 ∧ k ≤ 10 ∧ (x ≤ 500 ∨ k = 0))
theorem zeros_len (n : Nat) : (zeros n).length = n := by simp [zeros]
theorem may_txB (a b s k x : Nat) : mayB (txB a b s k x) = goodB a b s k x := by
  rw [Bool.eq_iff_iff, mayB_iff]
  unfold goodB
  rw [decide_eq_true_iff]
  constructor
  · intro h
    have h1 : 1 ≤ a := by simpa [txB] using h.i1
    have h2 : a ≤ 50 := by simpa [txB] using h.i50
    have h3 : 1 ≤ b := by simpa [txB] using h.o1
    have h4 : b ≤ 50 := by simpa [txB] using h.o50
    have h5 := h.isc (inC a s x k (a - 1)) (List.mem_map.2 ⟨a - 1, List.mem_range.2 (by omega), rfl⟩)
    unfold inC at h5
    simp only [if_pos (show a - 1 + 1 = a by omega), zeros_len] at h5
    have hm0 : inC a s x k 0 ∈ (txB a b s k x).ins := List.mem_map.2 ⟨0, List.mem_range.2 (by omega), rfl⟩
    have h6 := h.iwl _ hm0
    unfold inC at h6
    simp only [if_true, List.length_replicate] at h6
    refine ⟨h1, h2, h3, h4, h5, h6, ?_⟩
    rcases Nat.eq_zero_or_pos k with h7 | h7
    · exact .inr h7
    · have h8 := h.iwx _ hm0 (zeros x) (by unfold inC; simp only [if_true]; exact List.mem_replicate.2 ⟨by omega, rfl⟩)
      rw [zeros_len] at h8
      exact .inl h8
  · rintro ⟨h1, h2, h3, h4, h5, h6, h7⟩
    refine ⟨by simpa [txB] using h1, by simpa [txB] using h2, by simpa [txB] using h3, by simpa [txB] using h4, fun d hd => ?_, fun d hd => ?_, fun d hd y hy => ?_, fun d hd => ?_⟩
    · obtain ⟨i, _, rfl⟩ := List.mem_map.1 hd
      unfold inC
      simp only
      split
      · rw [zeros_len]; exact h5
      · simp
    · obtain ⟨i, _, rfl⟩ := List.mem_map.1 hd
      unfold inC
      simp only
      split
      · rw [List.length_replicate]; exact h6
      · simp
    · obtain ⟨i, _, rfl⟩ := List.mem_map.1 hd
      unfold inC at hy
      simp only at hy
      split at hy
      · obtain ⟨hk, rfl⟩ := List.mem_replicate.1 hy
        rw [zeros_len]
        omega
      · cases hy
    · obtain ⟨i, _, rfl⟩ := List.mem_map.1 hd
      unfold outC
      simp only
      split
      · rw [zeros_len]; exact h5
      · simp
/-- The bytes of what may not be. -/
theorem bytes_no {t : TxD} (h : mayB t = false) : bytesOf t = [] ∧ baseOf t = [] := by
  unfold bytesOf baseOf
  rw [h]
  exact ⟨rfl, rfl⟩
theorem enc_pos (t : TxD) (wh : Bool) : 0 < (encTx t wh).length := by
  unfold encTx
  simp only [List.length_append, leb_len]
  omega
theorem bytes_yes {t : TxD} (h : mayB t = true) : 0 < (bytesOf t).length ∧ 0 < (baseOf t).length := by
  unfold bytesOf baseOf
  rw [if_pos h, if_pos h]
  exact ⟨enc_pos _ _, enc_pos _ _⟩
theorem pParse_none : pParse [] = (noTx, false) := by decide +kernel
theorem parse_txB {t : TxD} (hf : TxFit t) : (pParse (bytesOf t)).2 = mayB t := by
  cases h : mayB t with
  | true => rw [pParse_back t ((mayB_iff t).1 h) hf]
  | false => rw [(bytes_no h).1, pParse_none]
theorem bytes_len {t : TxD} (hf : TxFit t) : (bytesOf t).length ≤ 400000 := by
  cases h : mayB t with
  | true => exact bytesOf_len ((mayB_iff t).1 h) fun d hd => (hf.ins d hd).plen
  | false => rw [(bytes_no h).1]; simp

def nilV : Value := .slice none 0 0
def inX (i : Nat) : InD := ⟨zeros 32, i, [], 0, []⟩
/-- The cells of input i: SV the script of the last one, V the witnesses of the first one. -/
def RI (a : Nat) (SV V : Value) (cs : List Value) (i : Nat) : Prop := cs = inCells (inX i) (if i + 1 = a then SV else .slice none 0 0) (if i = 0 then V else .slice none 0 0)
def RO (SV : Value) (cs : List Value) (i : Nat) : Prop := cs = [.int .u64 ((0 : Nat) : Int), if i = 0 then SV else .slice none 0 0]
section
set_option maxRecDepth 100000
variable {w : World} {B : Nat}
theorem OwnMany.mapped {α β : Type} {k e : Nat} {R : List Value → α → Prop} {R' : List Value → β → Prop} {v : Value} {ds : List α} (h : OwnMany k e R w B v ds) (f : α → β) (hR : ∀ cs d, d ∈ ds → R cs d → R' cs (f d)) : OwnMany k e R' w B v (ds.map f) := by
  obtain ⟨css, ho, hcl, hlen, hr⟩ := h.lens
  refine ⟨css, by rw [List.length_map]; exact ho, by simpa using hcl, fun i cs d h1 h2 => ?_⟩
  rw [List.getElem?_map] at h2
  cases hd : ds[i]? with
  | none => rw [hd] at h2; cases h2
  | some d0 =>
    rw [hd] at h2
    have := Option.some.inj h2
    rw [← this]
    exact ⟨hlen _ (List.mem_of_getElem? h1), hR _ _ (List.mem_of_getElem? hd) (hr i cs d0 h1 hd)⟩
/-- One cell of element i turned; the others are told by their numbers. -/
theorem OwnMany.cellAt {k e gi c i j n : Nat} {R R' : List Value → Nat → Prop} (h : OwnMany k e R w B (.slice (some ⟨gi, 0, none⟩) n c) (List.range n)) (hi : i < n) (hj : j < k) (u : Value)
    (hR : ∀ cs q, q ≠ i → R cs q → R' cs q) (hd : ∀ cs, R cs i → R' (cs.set j u) i) : OwnMany k e R' (w.setCell ⟨gi, i * k + j, none⟩ u) B (.slice (some ⟨gi, 0, none⟩) n c) (List.range n) := by
  have h' : OwnMany k e R w B (.slice (some ⟨gi, 0, none⟩) (List.range n).length c) (List.range n) := by rw [List.length_range]; exact h
  obtain ⟨css, ho, hcl, hlen, hr⟩ := h'.lens
  have hci : i < css.length := by rw [hcl, List.length_range]; exact hi
  have hl : (List.range n).length = n := List.length_range
  rw [hl] at ho hcl
  refine ⟨css.set i ((css.getD i []).set j u), ?_, by simp [hcl], fun q cs d h1 h2 => ?_⟩
  · rw [hl, ← flatten_set2 css i j u hlen hj hci]
    rcases ho.2 with ⟨h0, hn⟩ | ⟨g, cap, cur, hv, hB, hx, hc, hm, hs, ht⟩
    · cases h0
    · injection hv with hv1 hv2 hv3
      injection hv1 with hv1
      injection hv1 with hv1
      subst hv1
      subst hv3
      refine ⟨by rw [List.length_set]; exact ho.1, .inr ⟨gi, c, _, rfl, hB, Box.set hx _ _, hc, hm, by rw [Array.size_setIfInBounds]; exact hs, ?_⟩⟩
      rw [Array.toList_setIfInBounds, List.take_set, ht]
  · have hqd : d = q := by
      rw [List.getElem?_range (by have := (List.getElem?_eq_some_iff.1 h2).1; simpa using this)] at h2
      exact (Option.some.inj h2).symm
    subst hqd
    rw [List.getElem?_set] at h1
    by_cases hq : i = d
    · subst hq
      rw [if_pos rfl, if_pos hci] at h1
      have hcs : css[i]? = some css[i] := List.getElem?_eq_getElem hci
      have hg : css.getD i [] = css[i] := by rw [List.getD_eq_getElem?_getD, hcs]; rfl
      rw [hg] at h1
      have := Option.some.inj h1
      subst this
      exact ⟨by rw [List.length_set]; exact hlen _ (List.getElem_mem hci), hd _ (hr i _ _ hcs h2)⟩
    · rw [if_neg hq] at h1
      exact ⟨hlen _ (List.mem_of_getElem? h1), hR _ _ (fun e => hq e.symm) (hr d cs d h1 h2)⟩
theorem inX_fit {i : Nat} (h : i ≤ 63) : (inX i).Fit := ⟨zeros_len 32, zeros_bys 32, by show i < 4294967296; omega, by show (0 : Nat) < 4294967296; omega⟩
theorem inCells_set33 (i : Nat) (sv wv u : Value) : (inCells (inX i) sv wv).set 33 u = inCells (inX i) u wv := by
  unfold inCells
  have hl : (byteVals (inX i).prev).length = 32 := by unfold byteVals; rw [List.length_map]; exact zeros_len 32
  rw [List.set_append, if_neg (by omega), hl]
  rfl
theorem inCells_set35 (i : Nat) (sv wv u : Value) : (inCells (inX i) sv wv).set 35 u = inCells (inX i) sv u := by
  unfold inCells
  have hl : (byteVals (inX i).prev).length = 32 := by unfold byteVals; rw [List.length_map]; exact zeros_len 32
  rw [List.set_append, if_neg (by omega), hl]
  rfl
theorem ri_script {a gi c : Nat} {SV V : Value} (ha : 0 < a) (h : OwnMany 36 51 (RI a SV V) w B (.slice (some ⟨gi, 0, none⟩) a c) (List.range a)) (u : Value) :
    OwnMany 36 51 (RI a u V) (w.setCell ⟨gi, (a - 1) * 36 + 33, none⟩ u) B (.slice (some ⟨gi, 0, none⟩) a c) (List.range a) :=
  OwnMany.cellAt h (by omega) (by omega) u (fun cs q hq h => by unfold RI at h ⊢; rw [if_neg (show ¬ q + 1 = a by omega)] at h ⊢; exact h) (fun cs h => by
    unfold RI at h ⊢
    rw [h, inCells_set33, if_pos (show a - 1 + 1 = a by omega)])
theorem ri_wit {a gi c : Nat} {SV V : Value} (ha : 0 < a) (h : OwnMany 36 51 (RI a SV V) w B (.slice (some ⟨gi, 0, none⟩) a c) (List.range a)) (u : Value) :
    OwnMany 36 51 (RI a SV u) (w.setCell ⟨gi, 35, none⟩ u) B (.slice (some ⟨gi, 0, none⟩) a c) (List.range a) := by
  have := OwnMany.cellAt (i := 0) (j := 35) (R' := RI a SV u) h (by omega) (by omega) u (fun cs q hq h => by unfold RI at h ⊢; rw [if_neg hq] at h ⊢; exact h) (fun cs h => by
    unfold RI at h ⊢
    rw [h, inCells_set35, if_pos rfl])
  rw [Nat.zero_mul, Nat.zero_add] at this
  exact this
theorem ro_script {b go c : Nat} {SV : Value} (hb : 0 < b) (h : OwnMany 2 55 (RO SV) w B (.slice (some ⟨go, 0, none⟩) b c) (List.range b)) (u : Value) :
    OwnMany 2 55 (RO u) (w.setCell ⟨go, 1, none⟩ u) B (.slice (some ⟨go, 0, none⟩) b c) (List.range b) := by
  have := OwnMany.cellAt (i := 0) (j := 1) (R' := RO u) h (by omega) (by omega) u (fun cs q hq h => by unfold RO at h ⊢; rw [if_neg hq] at h ⊢; exact h) (fun cs h => by
    unfold RO at h ⊢
    rw [h, if_pos rfl]
    rfl)
  rw [Nat.zero_mul, Nat.zero_add] at this
  exact this
/-- How it all lies in memory at last. -/
theorem txB_r {iv ov SV V SVo : Value} {a b s k x : Nat} (hi : OwnMany 36 51 (RI a SV V) w B iv (List.range a)) (ho : OwnMany 2 55 (RO SVo) w B ov (List.range b)) (ha : a ≤ 63)
    (hs : 0 < a → Own w B 5 SV (zeros s)) (hv : 0 < a → OwnRows w B V (List.replicate k (zeros x))) (hso : 0 < b → Own w B 5 SVo (zeros s)) : TxR w (.agg #[.int .u32 2, iv, ov, .int .u32 0]) (txB a b s k x) := by
  refine ⟨iv, ov, rfl, by show (2 : Nat) < 4294967296; omega, by show (0 : Nat) < 4294967296; omega, OwnMany.many (R := InO w B) (OwnMany.mapped hi (inC a s x k) fun cs i hi h => ?_) fun _ _ h => h.inR, OwnMany.many (R := OutO w B) (OwnMany.mapped ho (outC s) fun cs i hi h => ?_) fun _ _ h => h.outR⟩
  · have hia := List.mem_range.1 hi
    have hf := inX_fit (i := i) (by omega)
    unfold RI at h
    refine ⟨_, _, h, ⟨hf.plen, hf.pbys, hf.vlt, hf.slt⟩, ?_, ?_, ?_⟩
    · unfold inC
      simp only
      split
      · exact hs (by omega)
      · exact own_nil _ _ _
    · unfold inC
      simp only
      split
      · exact zeros_bys _
      · exact Bys.nil
    · unfold inC
      simp only
      split
      · exact hv (by omega)
      · exact OwnMany.nil _ _ _ _ _
  · have hib := List.mem_range.1 hi
    unfold RO at h
    refine ⟨_, h, by show (0 : Nat) < 18446744073709551616; omega, ?_, ?_⟩
    · unfold outC
      simp only
      split
      · exact hso (by omega)
      · exact own_nil _ _ _
    · unfold outC
      simp only
      split
      · exact zeros_bys _
      · exact Bys.nil
theorem make_zeros {n : Nat} (hn : n ≤ 2000) (W : World) : (Instr.makeSlice 27 (.int .i64 (n : Int)) (.int .i64 (n : Int))).run Try.prog W = .ok (.slice (some ⟨W.heap.size, 0, none⟩) n n) (W.alloc (.cells (byteVals (zeros n)).toArray 5)) := by
  obtain ⟨i0, hi, hz0, hz1, hz2⟩ := info_parts infoByte
  have hr := run_make (P := Try.prog) W 27 5 i0 _ Try.underlying27 hi hz0 .i64 .i64 (n : Int) (n : Int) (by omega) (by omega) (by rw [hz2]; omega) (by omega)
  rw [hz1, show (n : Int).toNat = n from by omega, Nat.mul_one] at hr
  rw [hr]
  have : byteVals (zeros n) = List.replicate n (Value.int .u8 0) := by unfold byteVals zeros; rw [List.map_replicate]
  rw [this, ← madeCells_bytes]
  rfl
theorem own_made {n g : Nat} (hx : Box w g 5 (byteVals (zeros n)).toArray) (hB : B ≤ g) (hn : n ≤ 2000) : Own w B 5 (.slice (some ⟨g, 0, none⟩) n n) (zeros n) := by
  refine ⟨by simp [byteVals], .inr ⟨g, n, _, by rw [zeros_len], hB, hx, by rw [zeros_len]; exact Nat.le_refl _, by unfold maxLen; omega, by simp [byteVals, zeros], ?_⟩⟩
  rw [List.take_of_length_le (by simp [byteVals])]
end
end Go.Proofs.Ytpbhlnmhaociiaa
