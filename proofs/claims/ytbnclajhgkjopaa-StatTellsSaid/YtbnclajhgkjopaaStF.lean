/- The law's Good: a transaction of two numbers that is taken by itself. -/
import Derived.Test.YtbnclajhgkjopaaStE
import Derived.Test.YtbnclajhgkjopaaStA
import Derived.Deep.DeepCutAuto
import Derived.Deep.RegionHeld3
namespace Go.Proofs.Ytbnclajhgkjopaa
open Go.RowKit

theorem andNot_mask (n : Int) (k : Nat) (hk : k ≤ 62) (hn : -9223372036854775808 ≤ n ∧ n ≤ 9223372036854775807) (hge : -9223372036854775808 ≤ n - n % ((2 ^ k : Nat) : Int)) :
    bits .andNot .i64 n ((2 ^ k - 1 : Nat) : Int) = n - n % ((2 ^ k : Nat) : Int) := by
  have h0 := and_mask n k hk
  have h1 := Int.emod_nonneg n (show ((2 ^ k : Nat) : Int) ≠ 0 by have : 0 < 2 ^ k := Nat.pow_pos (by omega); omega)
  have h2 := Int.emod_lt_of_pos n (show (0 : Int) < ((2 ^ k : Nat) : Int) by have : 0 < 2 ^ k := Nat.pow_pos (by omega); omega)
  have h3 : (2 : Nat) ^ k ≤ 2 ^ 62 := Nat.pow_le_pow_right (by omega) hk
  generalize ((2 ^ k - 1 : Nat) : Int) = m at *
  generalize n % ((2 ^ k : Nat) : Int) = r at *
  have h : IntKind.i64.wrap ((BitVec.ofInt 64 n &&& BitVec.ofInt 64 m).toNat : Int) = r := h0
  show IntKind.i64.wrap ((BitVec.ofInt 64 n &&& ~~~BitVec.ofInt 64 m).toNat : Int) = n - r
  clear h0
  generalize hM : BitVec.ofInt 64 m = M at *
  have hN : ((BitVec.ofInt 64 n).toNat : Int) = n % 18446744073709551616 := by
    rw [BitVec.toNat_ofInt]
    omega
  generalize BitVec.ofInt 64 n = N at *
  have hs : (N &&& ~~~M) + (N &&& M) = N := by
    rw [BitVec.add_eq_or_of_and_eq_zero]
    · ext i
      simp
      cases N[i] <;> cases M[i] <;> rfl
    · ext i
      simp
      cases N[i] <;> cases M[i] <;> simp
  have hs2 := congrArg BitVec.toNat hs
  rw [BitVec.toNat_add] at hs2
  have hle2 : (N &&& ~~~M).toNat ≤ N.toNat := by rw [BitVec.toNat_and]; exact Nat.and_le_left
  have hle : (N &&& M).toNat ≤ N.toNat := by rw [BitVec.toNat_and]; exact Nat.and_le_left
  have b1 := (N &&& ~~~M).isLt
  have b2 := (N &&& M).isLt
  have b3 := N.isLt
  generalize (N &&& ~~~M).toNat = a at *
  generalize (N &&& M).toNat = b at *
  generalize N.toNat = c at *
  rw [IntKind.wrap_i64] at *
  omega
theorem or_one (n : Int) (hn : -9223372036854775808 ≤ n ∧ n ≤ 9223372036854775807) (h0 : n % 2 = 0) : bits .or .i64 n 1 = n + 1 := by
  show IntKind.i64.wrap ((BitVec.ofInt 64 n ||| BitVec.ofInt 64 1).toNat : Int) = n + 1
  have hN : ((BitVec.ofInt 64 n).toNat : Int) = n % 18446744073709551616 := by
    rw [BitVec.toNat_ofInt]
    omega
  have hb : BitVec.ofInt 64 1 = 1#64 := rfl
  rw [hb]
  generalize BitVec.ofInt 64 n = N at *
  have he : N.toNat % 2 = 0 := by omega
  have hor : (N ||| 1#64).toNat = N.toNat + 1 := by
    rw [BitVec.toNat_or]
    show N.toNat ||| 1 = N.toNat + 1
    have := Nat.two_pow_add_eq_or_of_lt (i := 1) (b := 1) (by omega) (N.toNat / 2)
    have e : 2 ^ 1 * (N.toNat / 2) = N.toNat := by omega
    rw [e] at this
    exact this.symm
  have b3 := N.isLt
  rw [hor, IntKind.wrap_i64]
  omega

/-- The first k by g, the others by f. -/
def mixL {α : Type} (f g : Nat → α) (N k : Nat) : List α := (List.range N).map fun j => if j < k then g j else f j
section
variable {α : Type} (f g : Nat → α)
theorem mixL_len (N k : Nat) : (mixL f g N k).length = N := by simp [mixL]
theorem mixL_zero (N : Nat) : mixL f g N 0 = (List.range N).map f := by simp [mixL]
theorem mixL_all (N : Nat) : mixL f g N N = (List.range N).map g := by
  unfold mixL
  apply List.map_congr_left
  intro j hj
  rw [if_pos (List.mem_range.1 hj)]
theorem mixL_at {N k : Nat} (h' : k < (mixL f g N k).length) : (mixL f g N k)[k] = f k := by simp [mixL]
theorem mixL_set {N k : Nat} (h : k < N) : (mixL f g N k).set k (g k) = mixL f g N (k + 1) := by
  apply List.ext_getElem?
  intro q
  rw [List.getElem?_set]
  unfold mixL
  simp only [List.length_map, List.length_range, List.getElem?_map]
  by_cases hq : k = q
  · subst hq
    rw [if_pos rfl, if_pos h]
    simp [h]
  · rw [if_neg hq]
    by_cases h2 : q < N
    · simp only [List.getElem?_eq_getElem (show q < (List.range N).length by simpa using h2), List.getElem_range, Option.map_some]
      by_cases h3 : q < k
      · rw [if_pos h3, if_pos (by omega)]
      · rw [if_neg h3, if_neg (by omega)]
    · simp [List.getElem?_eq_none (show (List.range N).length ≤ q by simpa using h2)]
end
def goodN (n : Int) : Int := n - n % 4 + 1
def goodM (m : Int) : Int := m - m % 64
def turnIn (d : InD) (j : Nat) : InD := { d with prev := d.prev.set 31 ((j : Int) + 1) }
def goodIn (m : Int) (j : Nat) : InD := turnIn (inOf (goodM m) j) j
def goodOut (n : Int) (j : Nat) : OutD := ⟨5000 + j, scriptOf (1 + 3 * (n / 2 ^ (4 + j) % 2))⟩
def goodNI (n : Int) : Nat := (goodN n / 256 % 4).toNat + 1
def goodNO (n : Int) : Nat := (goodN n / 1024 % 4).toNat + 1
def goodOf (n m : Int) : TxD := ⟨(n % 2 + 2).toNat, (List.range (goodNI n)).map (goodIn m), (List.range (goodNO n)).map (goodOut n), (goodN n / 4 % 2 * (goodN n / 8 % 32)).toNat⟩
theorem turnIn_cells {d : InD} (h : d.Fit) (sv wv : Value) (j : Nat) : (inCells d sv wv).set 31 (.int .u8 ((j : Int) + 1)) = inCells (turnIn d j) sv wv := by
  unfold inCells turnIn byteVals
  rw [List.set_append, if_pos (by rw [List.length_map, h.plen]; omega), List.map_set]
theorem turnIn_fit {d : InD} (h : d.Fit) {j : Nat} (hj : j ≤ 50) : (turnIn d j).Fit := by
  refine ⟨by simp [turnIn, h.plen], fun x hx => ?_, h.vlt, h.slt⟩
  rcases List.mem_or_eq_of_mem_set hx with hx | rfl
  · exact h.pbys x hx
  · omega
theorem turnIn_in {w : World} {B : Nat} {cs : List Value} {d : InD} (h : InO w B cs d) {j : Nat} (hj : j ≤ 50) : InO w B (cs.set 31 (.int .u8 ((j : Int) + 1))) (turnIn d j) := by
  obtain ⟨sv, wv, rfl, hf, h1, h2, h3⟩ := h
  exact ⟨sv, wv, turnIn_cells hf sv wv j, turnIn_fit hf hj, h1, h2, h3⟩

set_option linter.unusedSimpArgs false in
set_option maxRecDepth 1000000 in
set_option maxHeartbeats 8000000 in
theorem lawGood_any (w : World) (n m : Int) (hn : -9223372036854775808 ≤ n ∧ n ≤ 9223372036854775807) (hm : -9223372036854775808 ≤ m ∧ m ≤ 9223372036854775807) : Calls Try.prog 6 #[.int .i64 n, .int .i64 m] w (TxP (goodOf n m) w) := by
  have e1 : bits BinOp.andNot IntKind.i64 n 3 = n - n % 4 := andNot_mask n 2 (by omega) hn (by omega)
  have e2 : bits BinOp.or IntKind.i64 (n - n % 4) 1 = goodN n := or_one _ (by omega) (by omega)
  have e3 : bits BinOp.andNot IntKind.i64 m 63 = goodM m := andNot_mask m 6 (by omega) hm (by omega)
  have e4 : bits BinOp.and IntKind.i64 n 1 = n % 2 := and_mask n 1 (by omega)
  have HT := Kp.mk (fun W => lawTx_any W (goodN n) (goodM m) (by unfold goodN; omega) (by unfold goodM; omega))
  have HN := Kp.mk hn
  have HG : Kp (goodOf n m = ⟨(n % 2 + 2).toNat, (List.range (goodNI n)).map (fun j => turnIn (inOf (goodM m) j) j), (List.range (goodNO n)).map (goodOut n), (txOf (goodN n) (goodM m)).lock⟩ ∧ (txOf (goodN n) (goodM m)).ins = (List.range (goodNI n)).map (inOf (goodM m)) ∧ (txOf (goodN n) (goodM m)).outs = (List.range (goodNO n)).map (outOf (goodN n) (goodM m)) ∧ (txOf (goodN n) (goodM m)).ins.length = goodNI n ∧ (txOf (goodN n) (goodM m)).outs.length = goodNO n) := ⟨rfl, rfl, rfl, by simp [txOf, goodNI], by simp [txOf, goodNO]⟩
  generalize txOf (goodN n) (goodM m) = T at *
  obtain ⟨v, hv, hvl⟩ : ∃ v : Nat, n % 2 = (v : Int) ∧ v < 2 := ⟨(n % 2).toNat, by omega, by omega⟩
  rw [hv] at e4 HG
  generalize goodN n = N at *
  generalize goodM m = M at *
  have e5 : IntKind.i64.wrap ((v : Int) + 2) = (v : Int) + 2 := by rw [IntKind.wrap_i64]; omega
  have e6 : IntKind.u32.wrap ((v : Int) + 2) = (v : Int) + 2 := by rw [IntKind.wrap_u32]; omega
  have HV := Kp.mk hvl
  clear hv hn hm hvl
  go_enter Try.func6, Try.ntmps6
  go_wp2_with fail
  refine (HT.out _).mono ?_
  rintro e w2 ⟨v2, rfl, hT2, hb2⟩
  clear e1 e2 e3
  obtain ⟨iv, ov, rfl, hlt1, hlt2, hi2, ho2⟩ := id hT2
  obtain ⟨Ai, ci, rfl⟩ := hi2.slice
  obtain ⟨Ao, co, rfl⟩ := ho2.slice
  rw [HG.out.2.2.2.1, HG.out.2.2.2.2] at hT2 ⊢
  have hb0 : Below w.heap.size w (w.alloc (.cells zTx 26)) := (Below.refl _ _).alloc (Nat.le_refl _) _
  have HX0 : Kp (Box w2 w.heap.size 26 zTx) := ⟨(Box.fresh w 26 zTx).below hb2⟩
  have HB2 : Kp (Below w.heap.size w w2) := ⟨hb0.trans (hb2.mono hb0.size)⟩
  have HF2 : Kp (TxF w2 w.heap.size (.agg #[.int .u32 T.version, .slice Ai (goodNI n) ci, .slice Ao (goodNO n) co, .int .u32 T.lock]) T) := ⟨hT2.turn (ts := [5, 29, 32, 35]) (Keeps.of_below _ (Below.refl _ _)) (by decide) (by decide) (by decide) (by decide) hb0.size⟩
  have hNI : goodNI n ≤ 4 ∧ 1 ≤ goodNI n := by unfold goodNI; omega
  have hNO : goodNO n ≤ 4 ∧ 1 ≤ goodNO n := by unfold goodNO; omega
  generalize goodNI n = NI at *
  generalize goodNO n = NO at *
  have HNI := Kp.mk (And.intro hNI hNO)
  have hni : (NI : Int) ≤ 4 := by omega
  have hno : (NO : Int) ≤ 4 := by omega
  clear hi2 ho2 hT2 hb2 hb0 hNI hNO HT hlt1 hlt2
  obtain ⟨iv0, ov0, he0, hv0, hk0, hi0, ho0⟩ := HF2.out
  simp only [Value.agg.injEq] at he0
  have he1 := congrArg Array.toList he0
  simp only [List.cons.injEq, and_true] at he1
  obtain ⟨_, rfl, rfl, _⟩ := he1
  have hlen : T.ins.length = NI ∧ T.outs.length = NO := HG.out.2.2.2
  obtain ⟨gi, ci', hei, hic, hBi, hgi, Ci, hxi⟩ := hi0.box (by rw [hlen.1]; exact HNI.out.1.2)
  obtain ⟨go, co', heo, hoc, hBo, hgo, Co, hxo⟩ := ho0.box (by rw [hlen.2]; exact HNI.out.2.2)
  rw [hlen.1] at hei hic
  rw [hlen.2] at heo hoc
  have hei1 : Ai = some ⟨gi, 0, none⟩ := (Value.slice.injEq .. ▸ hei).1
  have heo1 : Ao = some ⟨go, 0, none⟩ := (Value.slice.injEq .. ▸ heo).1
  have hei2 : ci = ci' := (Value.slice.injEq .. ▸ hei).2.2
  have heo2 : co = co' := (Value.slice.injEq .. ▸ heo).2.2
  subst hei1
  subst heo1
  subst hei2
  subst heo2
  rw [show T.ins = mixL (inOf M) (fun j => turnIn (inOf M j) j) NI 0 by rw [mixL_zero]; exact HG.out.2.1] at hi0
  rw [show T.outs = mixL (outOf N M) (goodOut n) NO 0 by rw [mixL_zero]; exact HG.out.2.2.1] at ho0
  have HI0 := Kp.mk hi0
  have HO0 := Kp.mk ho0
  have HIC := Kp.mk (And.intro hic hoc)
  have HGG := Kp.mk (And.intro hgi hgo)
  have HK0 := Kp.mk hk0
  clear he0 hei heo hi0 ho0 hlen hBi hBo hgi hgo hxi hxo hv0 hk0 HF2
  go_wp2
  obtain ⟨W3, hW3⟩ : ∃ W3, w2.alloc (.cells #[.int .u32 ((v : Int) + 2), .slice (some ⟨gi, 0, none⟩) NI ci, .slice (some ⟨go, 0, none⟩) NO co, .int .u32 T.lock] 26) = W3 := ⟨_, rfl⟩
  have hk3 : Keeps [5, 29, 32, 35, 26] w2 W3 := by rw [← hW3]; exact Keeps.of_below _ ((Below.refl _ _).alloc (Nat.le_refl _) _)
  have HX5 : Kp (Box W3 w2.heap.size 26 #[.int .u32 ((v : Int) + 2), .slice (some ⟨gi, 0, none⟩) NI ci, .slice (some ⟨go, 0, none⟩) NO co, .int .u32 T.lock]) := ⟨by rw [← hW3]; exact Box.fresh _ _ _⟩
  have HX3 : Kp (Box W3 w.heap.size 26 zTx) := ⟨Keeps.box hk3 (by decide) HX0.out⟩
  have HB3 : Kp (Below w.heap.size w W3) := ⟨by rw [← hW3]; exact HB2.out.alloc HB2.out.size _⟩
  have HI3 : Kp (OwnMany 36 32 (InO W3 w.heap.size) W3 w.heap.size (.slice (some ⟨gi, 0, none⟩) NI ci) (mixL (inOf M) (fun j => turnIn (inOf M j) j) NI 0)) := ⟨OwnMany.turn HI0.out hk3 (by decide) (Nat.le_refl _) fun cs d h => h.turn hk3 (by decide) (by decide) (Nat.le_refl _)⟩
  have HO3 : Kp (OwnMany 2 35 (OutF W3 w.heap.size) W3 w.heap.size (.slice (some ⟨go, 0, none⟩) NO co) (mixL (outOf N M) (goodOut n) NO 0)) := ⟨OwnMany.turn HO0.out hk3 (by decide) (Nat.le_refl _) fun cs d h => h.keeps hk3 (by decide)⟩
  have HZ : Kp (w.heap.size < w2.heap.size ∧ gi < w2.heap.size ∧ go < w2.heap.size) := ⟨HX0.out.lt, HGG.out⟩
  rw [hW3]
  clear hk3 hW3
  generalize w2.heap.size = g5 at *
  go_loopw [22] (fun i wr => ∃ k : Nat, k ≤ NI ∧ i = .int .i64 k ∧ Kp (OwnMany 36 32 (InO wr w.heap.size) wr w.heap.size (.slice (some ⟨gi, 0, none⟩) NI ci) (mixL (inOf M) (fun j => turnIn (inOf M j) j) NI k) ∧ OwnMany 2 35 (OutF wr w.heap.size) wr w.heap.size (.slice (some ⟨go, 0, none⟩) NO co) (mixL (outOf N M) (goodOut n) NO 0) ∧ Box wr g5 26 #[.int .u32 ((v : Int) + 2), .slice (some ⟨gi, 0, none⟩) NI ci, .slice (some ⟨go, 0, none⟩) NO co, .int .u32 T.lock] ∧ Box wr w.heap.size 26 zTx ∧ Below w.heap.size w wr)) (fun i _ => NI - (intOf i).toNat)
  case atStart => exact ⟨0, Nat.zero_le _, rfl, ⟨HI3.out, HO3.out, HX5.out, HX3.out, HB3.out⟩⟩
  case round =>
    obtain ⟨k, hk, rfl, H⟩ := hrel
    obtain ⟨hi, ho, hx5, hx0, hbw⟩ := H.out
    have c1 := hx5.cell 1
    by_cases hlt : k < NI
    · have hkl : k < (mixL (inOf M) (fun j => turnIn (inOf M j) j) NI k).length := by rw [mixL_len]; exact hlt
      obtain ⟨cs, hcl, hR, hc, hf⟩ := OwnMany.cellN hi (mixL_len _ _ _ _) hkl (show 31 < 36 by decide)
      have hc' : wr.cell? ⟨gi, k * 36 + 31, none⟩ = some (cs[31]'(by omega)) := by rw [hc, List.getElem?_eq_getElem]
      obtain ⟨hBi, _, Ci2, hxi⟩ := hi.boxOf
      obtain ⟨W4, hW4⟩ : ∃ W4, wr.setCell ⟨gi, k * 36 + 31, none⟩ (.int .u8 ((k : Int) + 1)) = W4 := ⟨_, rfl⟩
      have hk4 : Keeps [5, 29, 35, 26] wr W4 := by rw [← hW4]; exact Keeps.of_set hxi (by decide) _ _
      have hi4 := OwnMany.cellSetN (j := 31) (R' := InO W4 w.heap.size) hi (mixL_len _ _ _ _) hkl (by decide) (.int .u8 ((k : Int) + 1)) (turnIn (inOf M k) k) (fun cs d h => h.turn hk4 (by decide) (by decide) (Nat.le_refl _)) (fun cs _ h => by
        rw [mixL_at] at h
        exact turnIn_in (h.turn hk4 (by decide) (by decide) (Nat.le_refl _)) (by have := HNI.out; omega))
      rw [hW4, mixL_set _ (fun j => turnIn (inOf M j) j) hlt] at hi4
      have HEND : Kp (wr.setCell ⟨gi, k * 36 + 31, none⟩ (.int .u8 ((k : Int) + 1)) = W4 ∧ OwnMany 36 32 (InO W4 w.heap.size) W4 w.heap.size (.slice (some ⟨gi, 0, none⟩) NI ci) (mixL (inOf M) (fun j => turnIn (inOf M j) j) NI (k + 1)) ∧ OwnMany 2 35 (OutF W4 w.heap.size) W4 w.heap.size (.slice (some ⟨go, 0, none⟩) NO co) (mixL (outOf N M) (goodOut n) NO 0) ∧ Box W4 g5 26 #[.int .u32 ((v : Int) + 2), .slice (some ⟨gi, 0, none⟩) NI ci, .slice (some ⟨go, 0, none⟩) NO co, .int .u32 T.lock] ∧ Box W4 w.heap.size 26 zTx ∧ Below w.heap.size w W4) := ⟨hW4, hi4, OwnMany.turn ho hk4 (by decide) (Nat.le_refl _) (fun cs d h => h.keeps hk4 (by decide)), Keeps.box hk4 (by decide) hx5, Keeps.box hk4 (by decide) hx0, by rw [← hW4]; exact hbw.setCell hBi _⟩
      have hkn : (k : Int) < (NI : Int) := by omega
      have HK := Kp.mk hlt
      have e8 : IntKind.u8.wrap ((k : Int) + 1) = (k : Int) + 1 := by simp [IntKind.wrap, IntKind.bits, IntKind.signed]; omega
      clear hi ho hx5 hx0 hbw hkl hR hc hxi hBi hk4 hi4 hW4 H
      go_wp2
      rw [HEND.out.1]
      exact ⟨⟨k + 1, by have := HK.out; omega, by go_num, ⟨HEND.out.2⟩⟩, by simp [intOf]; have := HK.out; omega⟩
    · obtain rfl : k = NI := by omega
      have HIN := Kp.mk hi
      have HBW := Kp.mk hbw
      have HON := Kp.mk ho
      have HXX := Kp.mk (And.intro hx5 hx0)
      have c2 := hx5.cell 2
      clear hi ho hx0 hbw H hlt c1 hx5
      go_wp2
      obtain ⟨W6, hW6⟩ : ∃ W6 : World, W6 = wr := ⟨_, rfl⟩
      obtain rfl := hW6
      clear c2
      go_loopw [38] (fun i wr => ∃ j : Nat, j ≤ NO ∧ i = .int .i64 j ∧ Kp (OwnMany 2 35 (OutF wr w.heap.size) wr w.heap.size (.slice (some ⟨go, 0, none⟩) NO co) (mixL (outOf N M) (goodOut n) NO j) ∧ OwnMany 36 32 (InO wr w.heap.size) wr w.heap.size (.slice (some ⟨gi, 0, none⟩) k ci) (mixL (inOf M) (fun j => turnIn (inOf M j) j) k k) ∧ Box wr g5 26 #[.int .u32 ((v : Int) + 2), .slice (some ⟨gi, 0, none⟩) k ci, .slice (some ⟨go, 0, none⟩) NO co, .int .u32 T.lock] ∧ Box wr w.heap.size 26 zTx ∧ Below w.heap.size w wr)) (fun i _ => NO - (intOf i).toNat)
      case atStart => exact ⟨0, Nat.zero_le _, rfl, ⟨HON.out, HIN.out, HXX.out.1, HXX.out.2, HBW.out⟩⟩
      case round =>
        obtain ⟨j, hj, rfl, H⟩ := hrel
        obtain ⟨ho, hi, hx5, hx0, hbw⟩ := H.out
        have c2 := hx5.cell 2
        by_cases hlt : j < NO
        · have hjn : (j : Int) < (NO : Int) := by omega
          have HJ := Kp.mk hlt
          obtain ⟨x, hx, hxl⟩ : ∃ x : Nat, n / 2 ^ (4 + j) % 2 = (x : Int) ∧ x < 2 := ⟨(n / 2 ^ (4 + j) % 2).toNat, by omega, by omega⟩
          have b1 : bits BinOp.and IntKind.i64 (n / 2 ^ (4 + j)) 1 = (x : Int) := by rw [← hx]; exact and_mask _ 1 (by omega)
          have HXX : Kp (goodOut n j = ⟨5000 + j, scriptOf (1 + 3 * (x : Int))⟩) := ⟨by unfold goodOut; rw [hx]⟩
          have HSC := Kp.mk (fun W => script_any W (1 + 3 * (x : Int)) (by omega))
          have HCB : Kp (∀ W, Below wr.drew.heap.size wr.drew W → W.cell? ⟨g5, 2, none⟩ = some (.slice (some ⟨go, 0, none⟩) NO co)) := ⟨fun W hW => by
            have hb : Box wr.drew g5 26 #[.int .u32 ((v : Int) + 2), .slice (some ⟨gi, 0, none⟩) k ci, .slice (some ⟨go, 0, none⟩) NO co, .int .u32 T.lock] := hx5
            exact (hb.below hW).cell 2⟩
          have hxb : (x : Int) ≤ 1 := by omega
          have h1 : IntKind.i64.wrap (4 + (j : Int)) = 4 + (j : Int) := by rw [IntKind.wrap_i64]; omega
          have h2 : IntKind.u64.wrap (4 + (j : Int)) = 4 + (j : Int) := by simp [IntKind.wrap, IntKind.bits, IntKind.signed]; omega
          have h3 : (4 + (j : Int)).toNat = 4 + j := by omega
          have h4 : min (4 + j) 64 = 4 + j := by omega
          have h5 : IntKind.u64.wrap (j : Int) = (j : Int) := by simp [IntKind.wrap, IntKind.bits, IntKind.signed]; omega
          have h6 : IntKind.u64.wrap (5000 + (j : Int)) = 5000 + (j : Int) := by simp [IntKind.wrap, IntKind.bits, IntKind.signed]; omega
          have h7 : IntKind.i64.wrap (3 * (x : Int)) = 3 * (x : Int) := by rw [IntKind.wrap_i64]; omega
          have h8 : IntKind.i64.wrap (1 + 3 * (x : Int)) = 1 + 3 * (x : Int) := by rw [IntKind.wrap_i64]; omega
          have HALL := Kp.mk (And.intro ho (And.intro hi (And.intro hx5 (And.intro hx0 hbw))))
          clear ho hi hx5 hx0 hbw H hx hxl hlt c2
          go_wp2_with fail
          refine wp_region_noPanic ?_
          refine wp_region_held_drew (S := (fun W => W.cell? ⟨g5, 2, none⟩ = some (.slice (some ⟨go, 0, none⟩) NO co))) (by kernel_rfl) ?_ (fun hHeld => ?_)
          · exact HCB.out _ (Below.refl _ _)
          refine wpAnyH_take (i := 0) (oi := ⟨some 41, _, _, _, _, _⟩) (v := ?_) rfl (by kernel_rfl) (by kernel_rfl) (by kernel_rfl) (fun _ _ _ h => h) (Or.inl ⟨by rfl, ?_⟩) hHeld ?_
          rotate_left
          · (intro wx hSw; (try dsimp only at hSw); go_simp; try with_reducible rfl)
          try simp only [Act.put, List.setIfInBounds_toArray, List.set_cons_zero, List.set_cons_succ]
          refine wpAnyH_take (i := 1) (oi := ⟨some 42, _, _, _, _, _⟩) (v := ?_) rfl (by kernel_rfl) (by kernel_rfl) (by kernel_rfl) (fun _ _ _ h => h) (Or.inl ⟨by rfl, ?_⟩) hHeld ?_
          rotate_left
          · (intro wx hSw; (try dsimp only at hSw); go_simp; try with_reducible rfl)
          try simp only [Act.put, List.setIfInBounds_toArray, List.set_cons_zero, List.set_cons_succ]
          refine wpAnyH_take (i := 2) (oi := ⟨some 43, _, _, _, _, _⟩) (v := ?_) rfl (by kernel_rfl) (by kernel_rfl) (by kernel_rfl) (fun _ _ _ h => h) (Or.inl ⟨by rfl, ?_⟩) hHeld ?_
          rotate_left
          · (intro wx hSw; (try dsimp only at hSw); go_simp; try with_reducible rfl)
          try simp only [Act.put, List.setIfInBounds_toArray, List.set_cons_zero, List.set_cons_succ]
          refine wpAnyH_take (i := 3) (oi := ⟨some 44, _, _, _, _, _⟩) (v := ?_) rfl (by kernel_rfl) (by kernel_rfl) (by kernel_rfl) (fun _ _ _ h => h) (Or.inl ⟨by rfl, ?_⟩) hHeld ?_
          rotate_left
          · (intro wx hSw; (try dsimp only at hSw); go_simp; try with_reducible rfl)
          try simp only [Act.put, List.setIfInBounds_toArray, List.set_cons_zero, List.set_cons_succ]
          refine wpAnyH_take (i := 4) (oi := ⟨some 45, _, _, _, _, _⟩) (v := ?_) rfl (by kernel_rfl) (by kernel_rfl) (by kernel_rfl) (fun _ _ _ h => h) (Or.inl ⟨by rfl, ?_⟩) hHeld ?_
          rotate_left
          · (intro wx hSw; (try dsimp only at hSw); go_simp; try with_reducible rfl)
          try simp only [Act.put, List.setIfInBounds_toArray, List.set_cons_zero, List.set_cons_succ]
          refine wpAnyH_take (i := 5) (oi := ⟨some 46, _, _, _, _, _⟩) (v := ?_) rfl (by kernel_rfl) (by kernel_rfl) (by kernel_rfl) (fun _ _ _ h => h) (Or.inl ⟨by rfl, ?_⟩) hHeld ?_
          rotate_left
          · (intro wx hSw; (try dsimp only at hSw); go_simp; try with_reducible rfl)
          try simp only [Act.put, List.setIfInBounds_toArray, List.set_cons_zero, List.set_cons_succ]
          refine wpAnyH_take (i := 6) (oi := ⟨some 47, _, _, _, _, _⟩) (v := ?_) rfl (by kernel_rfl) (by kernel_rfl) (by kernel_rfl) (fun _ _ _ h => h) (Or.inl ⟨by rfl, ?_⟩) hHeld ?_
          rotate_left
          · (intro wx hSw; (try dsimp only at hSw); go_simp; try with_reducible rfl)
          try simp only [Act.put, List.setIfInBounds_toArray, List.set_cons_zero, List.set_cons_succ]
          refine wpAnyH_take (i := 7) (oi := ⟨some 48, _, _, _, _, _⟩) (v := ?_) rfl (by kernel_rfl) (by kernel_rfl) (by kernel_rfl) (fun _ _ _ h => h) (Or.inl ⟨by rfl, ?_⟩) hHeld ?_
          rotate_left
          · (intro wx hSw; (try dsimp only at hSw); go_simp; try with_reducible rfl)
          try simp only [Act.put, List.setIfInBounds_toArray, List.set_cons_zero, List.set_cons_succ]
          refine wpAnyH_take (i := 8) (oi := ⟨some 49, _, _, _, _, _⟩) (v := ?_) rfl (by kernel_rfl) (by kernel_rfl) (by kernel_rfl) (fun _ _ _ h => h) (Or.inl ⟨by rfl, ?_⟩) hHeld ?_
          rotate_left
          · (intro wx hSw; (try dsimp only at hSw); go_simp; try with_reducible rfl)
          try simp only [Act.put, List.setIfInBounds_toArray, List.set_cons_zero, List.set_cons_succ]
          refine wpAnyH_take (i := 9) (oi := ⟨some 50, _, _, _, _, _⟩) (v := ?_) rfl (by kernel_rfl) (by kernel_rfl) (by kernel_rfl) (fun _ _ _ h => h) (Or.inl ⟨by rfl, ?_⟩) hHeld ?_
          rotate_left
          · (intro wx hSw; (try dsimp only at hSw); go_simp; try with_reducible rfl)
          try simp only [Act.put, List.setIfInBounds_toArray, List.set_cons_zero, List.set_cons_succ]
          refine wpAnyH_take (i := 10) (oi := ⟨some 51, _, _, _, _, _⟩) (v := ?_) rfl (by kernel_rfl) (by kernel_rfl) (by kernel_rfl) (fun _ _ _ h => h) (Or.inl ⟨by rfl, ?_⟩) hHeld ?_
          rotate_left
          · (intro wx hSw; (try dsimp only at hSw); go_simp; try with_reducible rfl)
          try simp only [Act.put, List.setIfInBounds_toArray, List.set_cons_zero, List.set_cons_succ]
          refine wpAnyH_take (i := 11) (oi := ⟨some 52, _, _, _, _, _⟩) (v := ?_) rfl (by kernel_rfl) (by kernel_rfl) (by kernel_rfl) (fun _ _ _ h => h) (Or.inl ⟨by rfl, ?_⟩) hHeld ?_
          rotate_left
          · (intro wx hSw; (try dsimp only at hSw); go_simp; try with_reducible rfl)
          try simp only [Act.put, List.setIfInBounds_toArray, List.set_cons_zero, List.set_cons_succ]
          refine wpAnyH_take (i := 12) (oi := ⟨some 53, _, _, _, _, _⟩) (v := ?_) rfl (by kernel_rfl) (by kernel_rfl) (by kernel_rfl) (fun _ _ _ h => h) (Or.inl ⟨by rfl, ?_⟩) hHeld ?_
          rotate_left
          · (intro wx hSw; (try dsimp only at hSw); go_simp; try with_reducible rfl)
          try simp only [Act.put, List.setIfInBounds_toArray, List.set_cons_zero, List.set_cons_succ]
          refine wpAnyH_take (i := 13) (oi := ⟨some 54, _, _, _, _, _⟩) (v := ?_) rfl (by kernel_rfl) (by kernel_rfl) (by kernel_rfl) (fun _ _ _ h => h) (Or.inl ⟨by rfl, ?_⟩) hHeld ?_
          rotate_left
          · (intro wx hSw; (try dsimp only at hSw); go_simp; try with_reducible rfl)
          try simp only [Act.put, List.setIfInBounds_toArray, List.set_cons_zero, List.set_cons_succ]
          refine wpAnyH_ready (rs := [14]) (by kernel_rfl) (by simp) (AllReadyH.cons (o := ⟨some 55, _, _, _, _, _⟩) rfl (fun K hK => ?_) AllReadyH.nil)
          go_simp
          go_at_call 14
          refine (HSC.out _).mono ?_
          rintro e w5 ⟨v5, rfl, hv5, hb5⟩
          have HB5 := Kp.mk hb5
          have hbr : Below wr.heap.size wr w5 := ((Below.refl _ _).drew).trans hb5
          have hk5 : Keeps [5, 29, 32, 35, 26] wr w5 := Keeps.of_below _ hbr
          have ho5 := OwnMany.turn HALL.out.1 hk5 (by decide) (Nat.le_refl _) (fun cs d h => OutF.keeps (w' := w5) h hk5 (by decide))
          have hi5 := OwnMany.turn HALL.out.2.1 hk5 (by decide) (Nat.le_refl _) (fun cs d h => InO.turn (w' := w5) h hk5 (by decide) (by decide) (Nat.le_refl _))
          have hv55 : RbF w5 w.heap.size v5 (scriptOf (1 + 3 * (x : Int))) := hv5.less HALL.out.2.2.2.2.size
          have hone5 := hv5.rbT.1.one
          obtain ⟨A5, c5, rfl⟩ := hv5.slice5
          have hkl : j < (mixL (outOf N M) (goodOut n) NO j).length := by rw [mixL_len]; exact HJ.out
          have HTH := Kp.mk (ho5.thereN (j := 0) (m := 2) (mixL_len _ _ _ _) hkl (by decide))
          obtain ⟨hBo, _, Co5, hxo⟩ := ho5.boxOf
          obtain ⟨W7, hW7⟩ : ∃ W7, w5.setCells go (j * 2) [.int .u64 (5000 + (j : Int)), .slice A5 (scriptOf (1 + 3 * (x : Int))).length c5] = W7 := ⟨_, rfl⟩
          have hk7 : Keeps [5, 29, 32, 26] w5 W7 := by rw [← hW7]; exact Keeps.setCells hxo (by decide) _ _
          have ho7 := OwnMany.cellsSetN (j := 0) (R' := OutF W7 w.heap.size) ho5 (mixL_len _ _ _ _) hkl [.int .u64 (5000 + (j : Int)), .slice A5 (scriptOf (1 + 3 * (x : Int))).length c5] (by simp) (goodOut n j) (fun cs d h => h.keeps hk7 (by decide)) (fun cs hk _ => by rw [over_two hk, HXX.out]; exact ⟨_, rfl, by show 5000 + j < 18446744073709551616; have := HNI.out; have := HJ.out; omega, hv55.keeps hk7 (by decide)⟩)
          rw [mixL_set _ (goodOut n) HJ.out] at ho7
          have HEND : Kp (w5.setCells go (j * 2) [.int .u64 (5000 + (j : Int)), .slice A5 (scriptOf (1 + 3 * (x : Int))).length c5] = W7 ∧ OwnMany 2 35 (OutF W7 w.heap.size) W7 w.heap.size (.slice (some ⟨go, 0, none⟩) NO co) (mixL (outOf N M) (goodOut n) NO (j + 1)) ∧ OwnMany 36 32 (InO W7 w.heap.size) W7 w.heap.size (.slice (some ⟨gi, 0, none⟩) k ci) (mixL (inOf M) (fun j => turnIn (inOf M j) j) k k) ∧ Box W7 g5 26 #[.int .u32 ((v : Int) + 2), .slice (some ⟨gi, 0, none⟩) k ci, .slice (some ⟨go, 0, none⟩) NO co, .int .u32 T.lock] ∧ Box W7 w.heap.size 26 zTx ∧ Below w.heap.size w W7) := ⟨hW7, by rw [← hW7] at ho7 ⊢; exact ho7, OwnMany.turn hi5 hk7 (by decide) (Nat.le_refl _) (fun cs d h => h.turn hk7 (by decide) (by decide) (Nat.le_refl _)), Keeps.box hk7 (by decide) (Keeps.box hk5 (by decide) HALL.out.2.2.1), Keeps.box hk7 (by decide) (Keeps.box hk5 (by decide) HALL.out.2.2.2.1), by rw [← hW7]; exact Only.below (HALL.out.2.2.2.2.trans (hbr.mono HALL.out.2.2.2.2.size)) (Only.setCells _ _ (Only.refl go w5)) hBo⟩
          have HONE : Kp (Array.all #[Value.int .u64 (5000 + (j : Int)), .slice A5 (scriptOf (1 + 3 * (x : Int))).length c5] (·.oneCell') = true) := ⟨by simp [Value.oneCell']⟩
          clear hv5 hbr hk5 ho5 hi5 hv55 hone5 hkl hxo hBo hk7 ho7 hW7 hb5
          refine hK.out _ _ ?_ (fun hHeld => ?_)
          · exact HCB.out _ HB5.out
          clear hK K
          try simp only [Act.put, List.setIfInBounds_toArray, List.set_cons_zero, List.set_cons_succ]
          refine wpAnyH_take (i := 15) (oi := ⟨some 56, _, _, _, _, _⟩) (v := ?_) rfl (by kernel_rfl) (by kernel_rfl) (by kernel_rfl) (fun _ _ _ h => h) (Or.inl ⟨by rfl, ?_⟩) hHeld ?_
          rotate_left
          · (intro wx hSw; (try dsimp only at hSw); go_simp; try with_reducible rfl)
          try simp only [Act.put, List.setIfInBounds_toArray, List.set_cons_zero, List.set_cons_succ]
          refine wpAnyH_take (i := 16) (oi := ⟨some 57, _, _, _, _, _⟩) (v := ?_) rfl (by kernel_rfl) (by kernel_rfl) (by kernel_rfl) (fun _ _ _ h => h) (Or.inl ⟨by rfl, ?_⟩) hHeld ?_
          rotate_left
          · (intro wx hSw; (try dsimp only at hSw); go_simp; try with_reducible rfl)
          try simp only [Act.put, List.setIfInBounds_toArray, List.set_cons_zero, List.set_cons_succ]
          refine wpAnyH_ready (rs := [17]) (by kernel_rfl) (by simp) (AllReadyH.cons (o := ⟨none, _, _, _, _, _⟩) rfl (fun K hK => ?_) AllReadyH.nil)
          refine wp_store_mid 35 (.tmp 57) (.tmp 56) rfl go (j * 2) #[.int .u64 (5000 + (j : Int)), .slice A5 (scriptOf (1 + 3 * (x : Int))).length c5] rfl rfl HTH.out sizeOut HONE.out ?_
          refine hK.out _ _ ?_ (fun hHeld => ?_)
          · show World.cell? (w5.setCells go (j * 2) [.int .u64 (5000 + (j : Int)), .slice A5 (scriptOf (1 + 3 * (x : Int))).length c5]) ⟨g5, 2, none⟩ = _; rw [HEND.out.1]; exact HEND.out.2.2.2.1.cell 2
          clear hK K
          try simp only [Act.put, List.setIfInBounds_toArray, List.set_cons_zero, List.set_cons_succ]
          refine wpAnyH_done (by kernel_rfl) ?_ _
          refine NoPanic.normal ?_
          go_wp2
          rw [HEND.out.1]
          exact ⟨⟨j + 1, by have := HJ.out; omega, by go_num, ⟨HEND.out.2⟩⟩, by simp [intOf]; have := HJ.out; omega⟩
        · obtain rfl : j = NO := by omega
          have HX2 : Kp (wr.heap[w.heap.size]? = some (.cells zTx 26 (0, 0))) := ⟨hx0⟩
          have HX5 : Kp (wr.heap[g5]? = some (.cells #[.int .u32 ((v : Int) + 2), .slice (some ⟨gi, 0, none⟩) k ci, .slice (some ⟨go, 0, none⟩) j co, .int .u32 T.lock] 26 (0, 0))) := ⟨hx5⟩
          have hk7 : Keeps [5, 29, 32, 35] wr (wr.setRow w.heap.size #[.int .u32 ((v : Int) + 2), .slice (some ⟨gi, 0, none⟩) k ci, .slice (some ⟨go, 0, none⟩) j co, .int .u32 T.lock]) := Keeps.of_setRow hx0 (by decide) _
          have HXR : Kp ((wr.setRow w.heap.size #[.int .u32 ((v : Int) + 2), .slice (some ⟨gi, 0, none⟩) k ci, .slice (some ⟨go, 0, none⟩) j co, .int .u32 T.lock]).heap[w.heap.size]? = some (.cells #[.int .u32 ((v : Int) + 2), .slice (some ⟨gi, 0, none⟩) k ci, .slice (some ⟨go, 0, none⟩) j co, .int .u32 T.lock] 26 (0, 0))) := ⟨setRow_box hx0 _⟩
          have HIT2 : Kp ((Try.prog.info? 26).map (·.size) = some 4) := ⟨by kernel_rfl⟩
          have HFIN : Kp (TxP (goodOf n m) w (.returned (.agg #[.int .u32 ((v : Int) + 2), .slice (some ⟨gi, 0, none⟩) k ci, .slice (some ⟨go, 0, none⟩) j co, .int .u32 T.lock])) (wr.setRow w.heap.size #[.int .u32 ((v : Int) + 2), .slice (some ⟨gi, 0, none⟩) k ci, .slice (some ⟨go, 0, none⟩) j co, .int .u32 T.lock])) := ⟨by
            rw [HG.out.1]
            rw [mixL_all] at ho hi
            refine ⟨_, rfl, ⟨.slice (some ⟨gi, 0, none⟩) k ci, .slice (some ⟨go, 0, none⟩) j co, ?_, ?_, HK0.out, ?_, ?_⟩, hbw.trans (Below.setRow_self (Nat.le_refl _) _)⟩
            · have e : (((v : Int) + 2).toNat : Int) = (v : Int) + 2 := by omega
              show Value.agg _ = Value.agg #[.int .u32 (((v : Int) + 2).toNat : Int), _, _, _]
              rw [e]
            · show ((v : Int) + 2).toNat < 4294967296
              have := HV.out
              omega
            · exact OwnMany.turn hi hk7 (by decide) (Nat.le_refl _) (fun cs d h => InO.turn h hk7 (by decide) (by decide) (Nat.le_refl _))
            · exact OwnMany.turn ho hk7 (by decide) (Nat.le_refl _) (fun cs d h => OutF.keeps h hk7 (by decide))⟩
          clear ho hi hx5 hx0 hbw H hlt c2 hk7
          go_wp2_with (first | (refine wpList_load_row rfl 26 (.tmp 5) rfl g5 rfl _ #[.int .u32 ((v : Int) + 2), .slice (some ⟨gi, 0, none⟩) k ci, .slice (some ⟨go, 0, none⟩) j co, .int .u32 T.lock] _ _ HX5.out Try.underlying26 rfl HIT2.out ?_) | (refine wpList_store_row rfl 26 (.tmp 4) (.tmp 59) rfl w.heap.size #[.int .u32 ((v : Int) + 2), .slice (some ⟨gi, 0, none⟩) k ci, .slice (some ⟨go, 0, none⟩) j co, .int .u32 T.lock] rfl rfl 26 zTx HX2.out HIT2.out rfl (by simp [Value.oneCell']) ?_))
          exact bodyPost_ret (results_cell_row (by rfl) _ _ w.heap.size 26 _ _ _ rfl HXR.out Try.underlying26 rfl HIT2.out) rfl HFIN.out
end Go.Proofs.Ytbnclajhgkjopaa
