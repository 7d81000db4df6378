/- The law's Tx. -/
import Derived.Test.YtojeonepplfhlaaScA
import Derived.Test.YtojeonepplfhlaaTxN
import Derived.Deep.DeepCutAuto
import Derived.Deep.CutBlock
namespace Go.Proofs.Ytojeonepplfhlaa
open Go.RowKit

/-- An output whose script lies in a block of bytes. -/
def OutF (w : World) (B : Nat) (cs : List Value) (d : OutD) : Prop := ∃ sv, cs = [.int .u64 d.value, sv] ∧ d.value < 18446744073709551616 ∧ RbF w B sv d.script
set_option maxRecDepth 100000 in
theorem OutF.keeps {ts : List Nat} {w w' : World} {B : Nat} {cs : List Value} {d : OutD} (h : OutF w B cs d) (hk : Keeps ts w w') (hu : 5 ∈ ts) : OutF w' B cs d := by
  obtain ⟨sv, rfl, h1, h2⟩ := h
  exact ⟨sv, rfl, h1, h2.keeps hk hu⟩
theorem OutF.less {w : World} {B B' : Nat} {cs : List Value} {d : OutD} (h : OutF w B cs d) (hB : B' ≤ B) : OutF w B' cs d := by
  obtain ⟨sv, rfl, h1, h2⟩ := h
  exact ⟨sv, rfl, h1, h2.less hB⟩
theorem OutF.outR {w : World} {B : Nat} {cs : List Value} {d : OutD} (h : OutF w B cs d) : OutR w cs d := by
  obtain ⟨sv, rfl, h1, h2⟩ := h
  exact ⟨sv, rfl, h1, h2.rbT.1⟩
/-- A transaction in memory of the call's own, its outputs' scripts in blocks of bytes. -/
def TxF (w : World) (B : Nat) (v : Value) (t : TxD) : Prop := ∃ iv ov, v = .agg #[.int .u32 t.version, iv, ov, .int .u32 t.lock] ∧ t.version < 4294967296 ∧ t.lock < 4294967296 ∧ OwnMany 36 47 (InO w B) w B iv t.ins ∧ OwnMany 2 51 (OutF w B) w B ov t.outs
theorem TxF.txR {w : World} {B : Nat} {v : Value} {t : TxD} (h : TxF w B v t) : TxR w v t := by
  obtain ⟨iv, ov, rfl, h1, h2, h3, h4⟩ := h
  exact ⟨iv, ov, rfl, h1, h2, OwnMany.many h3 fun _ _ h => h.inR, OwnMany.many h4 fun _ _ h => h.outR⟩
set_option maxRecDepth 100000 in
theorem TxF.turn {ts : List Nat} {w w' : World} {B B' : Nat} {v : Value} {t : TxD} (h : TxF w B v t) (hk : Keeps ts w w') (h8 : 5 ∈ ts) (hb : 27 ∈ ts) (hi : 47 ∈ ts) (ho : 51 ∈ ts) (hB : B' ≤ B) : TxF w' B' v t := by
  obtain ⟨iv, ov, rfl, h1, h2, h3, h4⟩ := h
  exact ⟨iv, ov, rfl, h1, h2, OwnMany.turn h3 hk hi hB fun _ _ h => h.turn hk h8 hb hB, OwnMany.turn h4 hk ho hB fun _ _ h => (h.keeps hk h8).less hB⟩

/-- The inputs, and the outputs, of the law's two numbers. -/
def inOf (m : Int) (j : Nat) : InD :=
  ⟨(m / 2 ^ (3 * j) % 256) :: (zeros 30 ++ [(j : Int)]), (m / 2 ^ (2 * j) % 4).toNat, if m / 2 ^ 18 % 4 = 0 then [m / 2 ^ 4 % 256] else [], (4294967295 - m / 2 ^ (8 + j) % 4).toNat,
    if m / 2 ^ (12 + j) % 4 = 0 then [[m % 256], []].take ((m / 2 ^ 16 % 2).toNat + 1) else []⟩
def outOf (n m : Int) (j : Nat) : OutD := ⟨(n / 2 ^ (12 + j) % 4096).toNat, scriptOf (m / 2 ^ j)⟩
def txOf (n m : Int) : TxD :=
  ⟨(n % 4 + 1).toNat, (List.range ((n / 256 % 4).toNat + 1)).map (inOf m), (List.range ((n / 1024 % 4).toNat + 1)).map (outOf n m), (n / 4 % 2 * (n / 8 % 32)).toNat⟩
def TxP (t : TxD) (w : World) (e : Ending) (w' : World) : Prop := ∃ v, e = .returned v ∧ TxF w' w.heap.size v t ∧ Below w.heap.size w w'
theorem inOf_is0 : True := trivial
theorem RbF.slice5 {w : World} {B : Nat} {v : Value} {l : List Int} (h : RbF w B v l) : ∃ A c, v = .slice A l.length c := by
  obtain ⟨⟨⟨A, c, rfl, _⟩, _⟩, _⟩ := h.rbT
  exact ⟨A, c, rfl⟩
theorem outF_one {w : World} {B : Nat} {cs : List Value} {d : OutD} (h : OutF w B cs d) : ∀ u ∈ cs, u.oneCell' = true := h.outR.one
theorem Int.ediv_le_self_of (m d : Int) (hm : -9223372036854775808 ≤ m ∧ m ≤ 9223372036854775807) (hd : 0 < d) : -9223372036854775808 ≤ m / d ∧ m / d ≤ 9223372036854775807 := by
  constructor
  · rw [Int.le_ediv_iff_mul_le hd]
    have : (9223372036854775808 : Int) ≤ 9223372036854775808 * d := by omega
    omega
  · rw [← Int.lt_add_one_iff, Int.ediv_lt_iff_lt_mul hd]
    have : (9223372036854775808 : Int) ≤ (9223372036854775807 + 1) * d := by omega
    omega
def l36 (v q : Nat) : Array Value := (inCells ⟨List.replicate 32 0, v, [], q, []⟩ (.slice none 0 0) (.slice none 0 0)).toArray
theorem cells_is (x3 j v2 s8 : Nat) (sv wv : Value) (sc : List Int) (wt : List (List Int)) :
    (((((l36 v2 s8).setIfInBounds 0 (Value.int IntKind.u8 (x3 : Int))).setIfInBounds 31 (Value.int IntKind.u8 (j : Int))).setIfInBounds 35 wv).setIfInBounds 33 sv) = (inCells ⟨(x3 : Int) :: (zeros 30 ++ [(j : Int)]), v2, sc, s8, wt⟩ sv wv).toArray := by rfl
theorem set_same {C : Array Value} {i : Nat} {v : Value} (h : C[i]? = some v) : C.setIfInBounds i v = C := by
  apply Array.ext_getElem?
  intro k
  rw [Array.getElem?_setIfInBounds]
  split
  · rename_i hk
    subst hk
    split
    · exact h.symm
    · rename_i hn
      rw [Array.getElem?_eq_none (by omega)] at h
      cases h
  · rfl
theorem box_at (W : World) (n : Nat) (t : Nat) (cs : Array Value) (h : n = W.heap.size) : Box (W.alloc (.cells cs t)) n t cs := by rw [h]; exact Box.fresh W t cs
theorem box_past {W : World} {b t : Nat} {cs : Array Value} {o : Obj} (h : Box W b t cs) : Box (W.alloc o) b t cs := h.below ((Below.refl _ _).alloc (Nat.le_refl _) _)
theorem bys_one {x : Nat} (h : x < 256) : Bys [(x : Int)] := fun y hy => by rw [List.mem_singleton.1 hy]; omega
set_option maxRecDepth 100000 in
theorem own_one {W : World} {B g : Nat} {x' : Nat} (hb : Box W g 5 #[.int .u8 (x' : Int)]) (hB : B ≤ g) (x : Nat) (hx : x = x' := by rfl) : Own W B 5 (.slice (some ⟨g, 0, none⟩) 1 1) [(x : Int)] := by
  subst hx
  exact ⟨rfl, .inr ⟨g, 1, _, rfl, hB, hb, Nat.le_refl _, by unfold maxLen; omega, rfl, rfl⟩⟩
set_option maxRecDepth 100000 in
theorem rows_lit {W : World} {B ga gb k xm : Nat} (ha : Box W ga 5 #[.int .u8 (xm : Int)]) (hb : Box W gb 27 #[.slice (some ⟨ga, 0, none⟩) 1 1, .slice none 0 0]) (hBa : B ≤ ga) (hBb : B ≤ gb) (hk : k ≤ 1) (hx : xm < 256) :
    OwnRows W B (.slice (some ⟨gb, 0, none⟩) (k + 1) 2) ([[(xm : Int)], []].take (k + 1)) := by
  have h1 : RowO W B [.slice (some ⟨ga, 0, none⟩) 1 1] [(xm : Int)] := ⟨_, rfl, own_one ha hBa xm, bys_one hx⟩
  have h2 : RowO W B [.slice none 0 0] [] := ⟨_, rfl, own_nil _ _ _, Bys.nil⟩
  rcases (show k = 0 ∨ k = 1 by omega) with rfl | rfl
  · refine ⟨[[.slice (some ⟨ga, 0, none⟩) 1 1]], ⟨rfl, .inr ⟨gb, 2, _, rfl, hBb, hb, by simp, by unfold maxLen; omega, rfl, rfl⟩⟩, rfl, fun i cs d e1 e2 => ?_⟩
    match i, e1, e2 with
    | 0, e1, e2 =>
      simp at e1 e2
      subst e1
      subst e2
      exact ⟨rfl, h1⟩
    | i + 1, e1, _ => simp at e1
  · refine ⟨[[.slice (some ⟨ga, 0, none⟩) 1 1], [.slice none 0 0]], ⟨rfl, .inr ⟨gb, 2, _, rfl, hBb, hb, by simp, by unfold maxLen; omega, rfl, rfl⟩⟩, rfl, fun i cs d e1 e2 => ?_⟩
    match i, e1, e2 with
    | 0, e1, e2 =>
      simp at e1 e2
      subst e1
      subst e2
      exact ⟨rfl, h1⟩
    | 1, e1, e2 =>
      simp at e1 e2
      subst e1
      subst e2
      exact ⟨rfl, h2⟩
    | i + 2, e1, _ => simp at e1
set_option maxRecDepth 100000 in
theorem inO_of {W : World} {B x3 v2 s8 : Nat} {ji : Int} {sc : List Int} {wt : List (List Int)} {sv wv : Value} (h3 : x3 < 256) (hj : 0 ≤ ji ∧ ji ≤ 255) (h2 : v2 < 4) (h8 : s8 < 4294967296) (hs : Own W B 5 sv sc) (hy : Bys sc) (hw : OwnRows W B wv wt) :
    InO W B (inCells ⟨(x3 : Int) :: (zeros 30 ++ [ji]), v2, sc, s8, wt⟩ sv wv) ⟨(x3 : Int) :: (zeros 30 ++ [ji]), v2, sc, s8, wt⟩ := by
  refine ⟨sv, wv, rfl, ⟨by simp [zeros], fun y hy => ?_, by show v2 < 4294967296; omega, h8⟩, hs, hy, hw⟩
  simp only [List.mem_cons, List.mem_append, List.not_mem_nil, or_false] at hy
  rcases hy with rfl | hy | rfl
  · omega
  · exact zeros_bys 30 y hy
  · exact hj
theorem inCells_one (d : InD) (sv wv : Value) (hs : sv.oneCell' = true) (hw : wv.oneCell' = true) : ∀ u ∈ inCells d sv wv, u.oneCell' = true := by
  intro u hu
  rcases List.mem_append.1 hu with hu | hu
  · exact byteVals_one _ u hu
  · simp only [List.mem_cons, List.not_mem_nil, or_false] at hu
    rcases hu with rfl | rfl | rfl | rfl
    · rfl
    · exact hs
    · rfl
    · exact hw

theorem inOf_is (m : Int) (j x3 v2 v8 s8 v12 k16 v18 xm x4 : Nat) (ji : Int) (h3 : m / 2 ^ (3 * j) % 256 = (x3 : Int)) (h2 : m / 2 ^ (2 * j) % 4 = (v2 : Int)) (h8 : m / 2 ^ (8 + j) % 4 = (v8 : Int)) (hs : (4294967295 : Int) - (v8 : Int) = (s8 : Int)) (h12 : m / 2 ^ (12 + j) % 4 = (v12 : Int))
    (h16 : m / 65536 % 2 = (k16 : Int)) (h18 : m / 262144 % 4 = (v18 : Int)) (hm : m % 256 = (xm : Int)) (h4 : m / 16 % 256 = (x4 : Int)) (hj : ji = (j : Int)) :
    inOf m j = ⟨(x3 : Int) :: (zeros 30 ++ [ji]), v2, if v18 = 0 then [(x4 : Int)] else [], s8, if v12 = 0 then [[(xm : Int)], []].take (k16 + 1) else []⟩ := by
  unfold inOf
  rw [h3, h2, h8, hs, h12, show (2 : Int) ^ 16 = 65536 from rfl, show (2 : Int) ^ 18 = 262144 from rfl, show (2 : Int) ^ 4 = 16 from rfl, h16, h18, hm, h4, hj]
  simp only [Int.toNat_natCast, Int.natCast_eq_zero]

set_option maxRecDepth 1000000 in
set_option maxHeartbeats 40000000 in
theorem lawTx_any (w : World) (n m : Int) (hn : -9223372036854775808 ≤ n ∧ n ≤ 9223372036854775807) (hm : -9223372036854775808 ≤ m ∧ m ≤ 9223372036854775807) : Calls Try.prog 5 #[.int .i64 n, .int .i64 m] w (TxP (txOf n m) w) := by
  obtain ⟨i1, hi1, hz1, hs1, hb1⟩ := info_parts3 infoInZ
  obtain ⟨i2, hi2, hz2, hs2, hb2⟩ := info_parts3 infoOutZ
  have n3 : bits BinOp.and IntKind.i64 n 3 = n % 4 := and_mask n 2 (by omega)
  have n41 : bits BinOp.and IntKind.i64 (n / 4) 1 = n / 4 % 2 := and_mask (n / 4) 1 (by omega)
  have n831 : bits BinOp.and IntKind.i64 (n / 8) 31 = n / 8 % 32 := and_mask (n / 8) 5 (by omega)
  have n256 : bits BinOp.and IntKind.i64 (n / 256) 3 = n / 256 % 4 := and_mask (n / 256) 2 (by omega)
  have n1024 : bits BinOp.and IntKind.i64 (n / 1024) 3 = n / 1024 % 4 := and_mask (n / 1024) 2 (by omega)
  have w4 : IntKind.i64.wrap (n / 4) = n / 4 := by rw [IntKind.wrap_i64]; omega
  have w8 : IntKind.i64.wrap (n / 8) = n / 8 := by rw [IntKind.wrap_i64]; omega
  have w256 : IntKind.i64.wrap (n / 256) = n / 256 := by rw [IntKind.wrap_i64]; omega
  have w1024 : IntKind.i64.wrap (n / 1024) = n / 1024 := by rw [IntKind.wrap_i64]; omega
  obtain ⟨a, ha⟩ : ∃ a : Nat, n % 4 = (a : Int) := ⟨(n % 4).toNat, by omega⟩
  obtain ⟨b, hb⟩ : ∃ b : Nat, n / 4 % 2 = (b : Int) := ⟨(n / 4 % 2).toNat, by omega⟩
  obtain ⟨c, hc⟩ : ∃ c : Nat, n / 8 % 32 = (c : Int) := ⟨(n / 8 % 32).toNat, by omega⟩
  obtain ⟨p, hp⟩ : ∃ p : Nat, n / 256 % 4 = (p : Int) := ⟨(n / 256 % 4).toNat, by omega⟩
  obtain ⟨q, hq⟩ : ∃ q : Nat, n / 1024 % 4 = (q : Int) := ⟨(n / 1024 % 4).toNat, by omega⟩
  have ha3 : a ≤ 3 := by omega
  have hp3 : p ≤ 3 := by omega
  have hq3 : q ≤ 3 := by omega
  obtain ⟨d, hd, hd31⟩ : ∃ d : Nat, (b : Int) * (c : Int) = (d : Int) ∧ d ≤ 31 := by
    rcases (show b = 0 ∨ b = 1 by omega) with rfl | rfl
    · exact ⟨0, by simp, by omega⟩
    · exact ⟨c, by simp, by omega⟩
  have HT : Kp (txOf n m = ⟨a + 1, (List.range (p + 1)).map (inOf m), (List.range (q + 1)).map (outOf n m), d⟩) := ⟨by
    unfold txOf
    rw [ha, hb, hc, hp, hq, hd]
    congr 1⟩
  rw [ha] at n3
  rw [hb] at n41
  rw [hc] at n831
  rw [hp] at n256
  rw [hq] at n1024
  have HZ : Kp (#[Value.int IntKind.u32 0, Value.slice none 0 0, Value.slice none 0 0, Value.int IntKind.u32 0] = zTx) := ⟨rfl⟩
  have HN := Kp.mk hn
  have HM := Kp.mk hm
  clear ha hb hc hp hq hn
  go_enter Try.func5, Try.ntmps5
  go_wp2_with fail
  rw [HZ.out]
  obtain ⟨W1, hW1⟩ : ∃ W1, (w.alloc (.cells zTx 26)).alloc (.cells #[.int .u32 ((a : Int) + 1), .slice none 0 0, .slice none 0 0, .int .u32 (d : Int)] 26) = W1 := ⟨_, rfl⟩
  have hx2 : Box W1 w.heap.size 26 zTx := by rw [← hW1]; exact heap_alloc2_old w _ _
  have hx5 : Box W1 (w.heap.size + 1) 26 #[.int .u32 ((a : Int) + 1), .slice none 0 0, .slice none 0 0, .int .u32 (d : Int)] := by rw [← hW1]; exact heap_alloc2_new w _ _
  have hbW : Below w.heap.size w W1 := by rw [← hW1]; exact ((Below.refl _ _).alloc (Nat.le_refl _) _).alloc (by simp) _
  have HX1 := Kp.mk (And.intro hx2 hx5)
  have HB1 := Kp.mk hbW
  clear hx2 hx5 hbW n3 n41 n831
  try rw [hW1]
  clear hW1
  go_loopw [6, 7] (fun i _ wr => ∃ (j : Nat) (is : List InD) (iv : Value), j ≤ p + 1 ∧ i = .int .i64 j ∧ Kp (is = (List.range j).map (inOf m) ∧ OwnMany 36 47 (InO wr w.heap.size) wr w.heap.size iv is ∧ Box wr w.heap.size 26 zTx ∧ Box wr (w.heap.size + 1) 26 #[.int .u32 ((a : Int) + 1), iv, .slice none 0 0, .int .u32 (d : Int)] ∧ Below w.heap.size w wr)) (fun i _ _ => p + 1 - (intOf i).toNat)
  case atStart => exact ⟨0, [], _, by omega, rfl, ⟨rfl, OwnMany.nil _ _ _ _ _, HX1.out.1, HX1.out.2, HB1.out⟩⟩
  case round =>
    obtain ⟨j, is, iv, hj, rfl, ⟨his, hown, hx2, hx5, hbw⟩⟩ := hrel
    by_cases hjp : j < p + 1
    · have HOWN := Kp.mk hown
      have HX := Kp.mk (And.intro hx2 hx5)
      have HBW := Kp.mk hbw
      have hjp' : (j : Int) < (p : Int) + 1 := by omega
      have HL : Kp (is.length = j) := ⟨by rw [his]; simp⟩
      have HIS := Kp.mk his
      have HJP : Kp (j < p + 1) := ⟨hjp⟩
      obtain ⟨Ai, ci, rfl⟩ := hown.slice
      have hc5 := hx5.cell 1
      have hz5 : w.heap.size + 1 < wr.heap.size := hx5.lt
      clear hown hx2 hx5 hbw his
      have hj3 : (j : Int) ≤ 3 := by omega
      have bnd : ∀ k, k ≤ 62 → IntKind.i64.wrap (m / 2 ^ k) = m / 2 ^ k := fun k _ => by
        rw [IntKind.wrap_i64]
        have hp : (0 : Int) < 2 ^ k := Int.pow_pos (by omega)
        have h1 := Int.ediv_le_self_of m (2 ^ k) HM.out hp
        omega
      obtain ⟨v2, hv2, hv2l⟩ : ∃ v2 : Nat, m / 2 ^ (2 * j) % 4 = (v2 : Int) ∧ v2 < 4 := ⟨(m / 2 ^ (2 * j) % 4).toNat, by omega, by omega⟩
      obtain ⟨v8, hv8⟩ : ∃ v8 : Nat, m / 2 ^ (8 + j) % 4 = (v8 : Int) := ⟨(m / 2 ^ (8 + j) % 4).toNat, by omega⟩
      obtain ⟨v12, hv12⟩ : ∃ v12 : Nat, m / 2 ^ (12 + j) % 4 = (v12 : Int) := ⟨(m / 2 ^ (12 + j) % 4).toNat, by omega⟩
      obtain ⟨x3, hx3, hx3l⟩ : ∃ x3 : Nat, m / 2 ^ (3 * j) % 256 = (x3 : Int) ∧ x3 < 256 := ⟨(m / 2 ^ (3 * j) % 256).toNat, by omega, by omega⟩
      have b2 : bits BinOp.and IntKind.i64 (m / 2 ^ (2 * j)) 3 = (v2 : Int) := by rw [← hv2]; exact and_mask _ 2 (by omega)
      have b8 : bits BinOp.and IntKind.i64 (m / 2 ^ (8 + j)) 3 = (v8 : Int) := by rw [← hv8]; exact and_mask _ 2 (by omega)
      have b12 : bits BinOp.and IntKind.i64 (m / 2 ^ (12 + j)) 3 = (v12 : Int) := by rw [← hv12]; exact and_mask _ 2 (by omega)
      obtain ⟨s8, hs8, hs8l⟩ : ∃ s8 : Nat, (4294967295 : Int) - (v8 : Int) = (s8 : Int) ∧ s8 < 4294967296 := ⟨4294967295 - v8, by omega, by omega⟩
      have HNUM : Kp (v2 < 4 ∧ s8 < 4294967296 ∧ x3 < 256) := ⟨hv2l, hs8l, hx3l⟩
      have HEQ : Kp (m / 2 ^ (3 * j) % 256 = (x3 : Int) ∧ m / 2 ^ (2 * j) % 4 = (v2 : Int) ∧ m / 2 ^ (8 + j) % 4 = (v8 : Int) ∧ (4294967295 : Int) - (v8 : Int) = (s8 : Int) ∧ m / 2 ^ (12 + j) % 4 = (v12 : Int)) := ⟨hx3, hv2, hv8, hs8, hv12⟩
      have hv2b : (v2 : Int) ≤ 3 := by omega
      have hs8b : (s8 : Int) ≤ 4294967295 := by omega
      have hL0 : (l36 v2 s8)[0]? = some (.int .u8 0) := rfl
      have hL31 : (l36 v2 s8)[31]? = some (.int .u8 0) := rfl
      have HI36 : Kp ((Try.prog.info? 47).map (·.size) = some (l36 v2 s8).size) := ⟨sizeIn⟩
      have HONE36 : Kp ((l36 v2 s8).all (·.oneCell') = true) := ⟨all_oneCell_toArray (inCells_one _ _ _ rfl rfl)⟩
      clear hv2 hv8 hv12 hv2l hs8l hx3l bnd
      go_upto_if 64 with (refine wpList_store_fresh rfl 47 (.tmp 7) (.tmp 45) rfl _ (l36 v2 s8) wr.heap.size rfl rfl rfl HI36.out rfl HONE36.out ?_)
      generalize hC1 : ((l36 v2 s8).setIfInBounds 0 (Value.int IntKind.u8 (x3 : Int))).setIfInBounds 31 (Value.int IntKind.u8 (j : Int)) = C1
      have hC33 : C1[33]? = some (.slice none 0 0) := by rw [← hC1]; rfl
      have hC35 : C1[35]? = some (.slice none 0 0) := by rw [← hC1]; rfl
      have HC1 := Kp.mk hC1
      clear hC1 hL0 hL31 b2 b8 hs8 hx3 hv2b hs8b
      have hbx : Below wr.heap.size wr (wr.alloc (.cells C1 47)) := (Below.refl _ _).alloc (Nat.le_refl _) _
      have HBX := Kp.mk hbx
      clear hbx
      go_cut [] (fun wx => ∃ (wv : Value) (wt : List (List Int)), Kp (wt = (if v12 = 0 then [[((m % 256).toNat : Int)], []].take ((m / 65536 % 2).toNat + 1) else []) ∧ OwnRows wx w.heap.size wv wt ∧ Box wx wr.heap.size 47 (C1.setIfInBounds 35 wv) ∧ Below wr.heap.size wr wx))
      case first =>
        by_cases h12 : v12 = 0
        · subst h12
          rw [show ((0 : Nat) : Int) = 0 from rfl] at b12
          obtain ⟨k16, hk16, hk16l⟩ : ∃ k : Nat, m / 65536 % 2 = (k : Int) ∧ k ≤ 1 := ⟨(m / 65536 % 2).toNat, by omega, by omega⟩
          obtain ⟨xm, hxm, hxml⟩ : ∃ x : Nat, m % 256 = (x : Int) ∧ x < 256 := ⟨(m % 256).toNat, by omega, by omega⟩
          have b16 : bits BinOp.and IntKind.i64 (m / 65536) 1 = (k16 : Int) := by rw [← hk16]; exact and_mask _ 1 (by omega)
          have w16 : IntKind.i64.wrap (m / 65536) = m / 65536 := by rw [IntKind.wrap_i64]; have := HM.out; omega
          have um : IntKind.u8.wrap m = (xm : Int) := by rw [← hxm]; simp [IntKind.wrap, IntKind.bits, IntKind.signed]
          have hPOST : Kp (OwnRows (((wr.alloc (.cells (C1.setIfInBounds 35 (.slice (some ⟨wr.heap.size + 1 + 1, 0, none⟩) (k16 + 1) 2)) 47)).alloc (.cells #[.int .u8 (xm : Int)] 5)).alloc (.cells #[.slice (some ⟨wr.heap.size + 1, 0, none⟩) 1 1, .slice none 0 0] 27)) w.heap.size (.slice (some ⟨wr.heap.size + 1 + 1, 0, none⟩) (k16 + 1) 2) ([[(xm : Int)], []].take (k16 + 1)) ∧ Box (((wr.alloc (.cells (C1.setIfInBounds 35 (.slice (some ⟨wr.heap.size + 1 + 1, 0, none⟩) (k16 + 1) 2)) 47)).alloc (.cells #[.int .u8 (xm : Int)] 5)).alloc (.cells #[.slice (some ⟨wr.heap.size + 1, 0, none⟩) 1 1, .slice none 0 0] 27)) wr.heap.size 47 (C1.setIfInBounds 35 (.slice (some ⟨wr.heap.size + 1 + 1, 0, none⟩) (k16 + 1) 2)) ∧ Below wr.heap.size wr (((wr.alloc (.cells (C1.setIfInBounds 35 (.slice (some ⟨wr.heap.size + 1 + 1, 0, none⟩) (k16 + 1) 2)) 47)).alloc (.cells #[.int .u8 (xm : Int)] 5)).alloc (.cells #[.slice (some ⟨wr.heap.size + 1, 0, none⟩) 1 1, .slice none 0 0] 27))) := by
            have hsz := HBW.out.size
            refine ⟨rows_lit (box_past (box_at _ _ _ _ (by simp only [alloc_size]))) (box_at _ _ _ _ (by simp only [alloc_size])) (by omega) (by omega) hk16l hxml, box_past (box_past (box_at _ _ _ _ rfl)), ((Below.refl _ _).alloc (Nat.le_refl _) _).alloc (by simp only [alloc_size]; omega) _ |>.alloc (by simp only [alloc_size]; omega) _⟩
          have HKX : Kp ((if 0 = 0 then [[((m % 256).toNat : Int)], []].take ((m / 65536 % 2).toNat + 1) else []) = [[(xm : Int)], []].take (k16 + 1)) := ⟨by rw [hxm, hk16]; simp⟩
          clear hk16 hxm
          go_wp2
          go_meet
          exact ⟨_, _, ⟨HKX.out.symm, hPOST.out.1, hPOST.out.2.1, hPOST.out.2.2⟩⟩
        · have e12 : ((v12 : Int) == 0) = false := by rw [beq_eq_false_iff_ne]; omega
          have hPOST : Kp (Box (wr.alloc (.cells C1 47)) wr.heap.size 47 (C1.setIfInBounds 35 (.slice none 0 0))) := ⟨by rw [set_same hC35]; exact Box.fresh _ _ _⟩
          have H12 := Kp.mk h12
          clear h12
          go_wp2
          go_meet
          exact ⟨_, _, ⟨(if_neg H12.out).symm, OwnMany.nil _ _ _ _ _, hPOST.out, HBX.out⟩⟩
      case rest =>
        obtain ⟨wv, wt, ⟨hwt, hrows, hbx2, hbl⟩⟩ := hcut
        obtain ⟨wy, rfl⟩ : ∃ wy : World, wy = wc := ⟨_, rfl⟩
        obtain ⟨Aw, cw, rfl⟩ := hrows.slice
        have HWT := Kp.mk (And.intro hwt hrows)
        have HBL := Kp.mk hbl
        obtain ⟨C2, hC2⟩ : ∃ C2, C1.setIfInBounds 35 (.slice Aw wt.length cw) = C2 := ⟨_, rfl⟩
        rw [hC2] at hbx2
        have hC233 : C2[33]? = some (.slice none 0 0) := by rw [← hC2, Array.getElem?_setIfInBounds_ne (by omega)]; exact hC33
        have HC2 := Kp.mk hC2
        have HBX2 := Kp.mk hbx2
        have HC233 := Kp.mk hC233
        obtain ⟨v18, hv18⟩ : ∃ v : Nat, m / 262144 % 4 = (v : Int) := ⟨(m / 262144 % 4).toNat, by omega⟩
        have b18 : bits BinOp.and IntKind.i64 (m / 262144) 3 = (v18 : Int) := by rw [← hv18]; exact and_mask _ 2 (by omega)
        have w18 : IntKind.i64.wrap (m / 262144) = m / 262144 := by rw [IntKind.wrap_i64]; have := HM.out; omega
        have HV18 := Kp.mk hv18
        clear hwt hrows hbx2 hbl hC2 hC233 hv18 hC33 hC35 b12
        go_upto_if 78 with (fail)
        go_cut [] (fun wx => ∃ (sv : Value) (sc : List Int), Kp (sc = (if v18 = 0 then [((m / 16 % 256).toNat : Int)] else []) ∧ Own wx w.heap.size 5 sv sc ∧ Box wx wr.heap.size 47 (C2.setIfInBounds 33 sv) ∧ OwnRows wx w.heap.size (.slice Aw wt.length cw) wt ∧ Below wr.heap.size wr wx))
        case first =>
          by_cases h18 : v18 = 0
          · subst h18
            rw [show ((0 : Nat) : Int) = 0 from rfl] at b18
            obtain ⟨x4, hx4, hx4l⟩ : ∃ x : Nat, m / 16 % 256 = (x : Int) ∧ x < 256 := ⟨(m / 16 % 256).toNat, by omega, by omega⟩
            have w4' : IntKind.i64.wrap (m / 16) = m / 16 := by rw [IntKind.wrap_i64]; have := HM.out; omega
            have u4 : IntKind.u8.wrap (m / 16) = (x4 : Int) := by rw [← hx4]; simp [IntKind.wrap, IntKind.bits, IntKind.signed]
            have hbxa : Box (wy.alloc (.cells #[.int .u8 (x4 : Int)] 5)) wr.heap.size 47 C2 := box_past HBX2.out
            have c33 := (hbxa.cell 33).trans HC233.out
            have f33 := hbxa.warm 33
            have hsz := HBW.out.size
            have hsy := HBL.out.size
            have hbelow : Below wr.heap.size wr (wy.alloc (.cells #[.int .u8 (x4 : Int)] 5)) := HBL.out.alloc hsy _
            have hkr : Keeps [5, 27] wy ((wy.alloc (.cells #[.int .u8 (x4 : Int)] 5)).setCell ⟨wr.heap.size, 33, none⟩ (.slice (some ⟨wy.heap.size, 0, none⟩) 1 1)) := (Keeps.of_below _ ((Below.refl _ _).alloc (Nat.le_refl _) _)).trans (Keeps.of_set hbxa (by decide) 33 _)
            have hku : Keeps [5] (wy.alloc (.cells #[.int .u8 (x4 : Int)] 5)) ((wy.alloc (.cells #[.int .u8 (x4 : Int)] 5)).setCell ⟨wr.heap.size, 33, none⟩ (.slice (some ⟨wy.heap.size, 0, none⟩) 1 1)) := Keeps.of_set hbxa (by decide) 33 _
            have hPOST : Kp (Own ((wy.alloc (.cells #[.int .u8 (x4 : Int)] 5)).setCell ⟨wr.heap.size, 33, none⟩ (.slice (some ⟨wy.heap.size, 0, none⟩) 1 1)) w.heap.size 5 (.slice (some ⟨wy.heap.size, 0, none⟩) 1 1) [(x4 : Int)] ∧ Box ((wy.alloc (.cells #[.int .u8 (x4 : Int)] 5)).setCell ⟨wr.heap.size, 33, none⟩ (.slice (some ⟨wy.heap.size, 0, none⟩) 1 1)) wr.heap.size 47 (C2.setIfInBounds 33 (.slice (some ⟨wy.heap.size, 0, none⟩) 1 1)) ∧ OwnRows ((wy.alloc (.cells #[.int .u8 (x4 : Int)] 5)).setCell ⟨wr.heap.size, 33, none⟩ (.slice (some ⟨wy.heap.size, 0, none⟩) 1 1)) w.heap.size (.slice Aw wt.length cw) wt ∧ Below wr.heap.size wr ((wy.alloc (.cells #[.int .u8 (x4 : Int)] 5)).setCell ⟨wr.heap.size, 33, none⟩ (.slice (some ⟨wy.heap.size, 0, none⟩) 1 1))) :=
              ⟨(own_one (box_at _ _ _ _ rfl) (by omega) x4).keeps hku (by decide), hbxa.set 33 _, rows_turn HWT.out.2 hkr (by decide) (by decide) (Nat.le_refl _), hbelow.setCell (Nat.le_refl _) _⟩
            have HKX : Kp ((if 0 = 0 then [((m / 16 % 256).toNat : Int)] else []) = [(x4 : Int)]) := ⟨by rw [hx4]; simp⟩
            clear hx4 hx4l hbxa hsz hsy hbelow hkr hku
            go_wp2
            go_meet
            exact ⟨_, _, ⟨HKX.out.symm, hPOST.out.1, hPOST.out.2.1, hPOST.out.2.2.1, hPOST.out.2.2.2⟩⟩
          · have e18 : ((v18 : Int) == 0) = false := by rw [beq_eq_false_iff_ne]; omega
            have hPOST : Kp (Box wy wr.heap.size 47 (C2.setIfInBounds 33 (.slice none 0 0))) := ⟨by rw [set_same HC233.out]; exact HBX2.out⟩
            have H18 := Kp.mk h18
            clear h18
            go_wp2
            go_meet
            exact ⟨_, _, ⟨(if_neg H18.out).symm, own_nil _ _ _, hPOST.out, HWT.out.2, HBL.out⟩⟩
        case rest =>
          obtain ⟨sv, sc, ⟨hsc, hown, hbx3, hrows3, hbl3⟩⟩ := hcut
          obtain ⟨wz, rfl⟩ : ∃ wz : World, wz = wc := ⟨_, rfl⟩
          have hC3 : C2.setIfInBounds 33 sv = (inCells ⟨(x3 : Int) :: (zeros 30 ++ [(j : Int)]), v2, sc, s8, wt⟩ sv (.slice Aw wt.length cw)).toArray := by
            rw [← HC2.out, ← HC1.out]
            exact cells_is x3 j v2 s8 sv (.slice Aw wt.length cw) sc wt
          rw [hC3] at hbx3
          have hysc : Bys sc := by
            rw [hsc]
            split
            · exact bys_one (by omega)
            · exact Bys.nil
          have hin : InO wz w.heap.size (inCells ⟨(x3 : Int) :: (zeros 30 ++ [(j : Int)]), v2, sc, s8, wt⟩ sv (.slice Aw wt.length cw)) ⟨(x3 : Int) :: (zeros 30 ++ [(j : Int)]), v2, sc, s8, wt⟩ :=
            inO_of HNUM.out.2.2 (by omega) HNUM.out.1 HNUM.out.2.1 hown hysc hrows3
          have hD : inOf m j = ⟨(x3 : Int) :: (zeros 30 ++ [(j : Int)]), v2, sc, s8, wt⟩ := by
            rw [hsc, HWT.out.1]
            refine inOf_is m j x3 v2 v8 s8 v12 (m / 65536 % 2).toNat v18 (m % 256).toNat (m / 16 % 256).toNat j HEQ.out.1 HEQ.out.2.1 HEQ.out.2.2.1 HEQ.out.2.2.2.1 HEQ.out.2.2.2.2 (by omega) HV18.out (by omega) (by omega) rfl
          rw [← hD] at hin hbx3
          obtain ⟨cs, hcs⟩ : ∃ cs, inCells (inOf m j) sv (.slice Aw wt.length cw) = cs := ⟨_, rfl⟩
          rw [hcs] at hin hbx3
          obtain ⟨D, hDD⟩ : ∃ D, inOf m j = D := ⟨_, rfl⟩
          rw [hDD] at hin
          have hcl := hin.len
          have hfold := fold_in cs hcl
          have hxz5 := HX.out.2.below hbl3
          have hcz := hxz5.cell 1
          have HBX3 : Kp (wz.heap[wr.heap.size]? = some (.cells cs.toArray 47 (0, 0))) := ⟨hbx3⟩
          have HI3 : Kp ((Try.prog.info? 47).map (·.size) = some cs.toArray.size) := ⟨by rw [List.size_toArray, hcl]; exact sizeIn⟩
          have HIN := Kp.mk hin
          have HDD := Kp.mk hDD
          have HB3 := Kp.mk hbl3
          have hkz : Keeps [5, 27, 47] wr (wz.alloc (.cells cs.toArray 47)) := (Keeps.of_below _ hbl3).trans (Keeps.of_below _ ((Below.refl _ _).alloc (Nat.le_refl _) _))
          have hka : Keeps [5, 27, 47] wz (wz.alloc (.cells cs.toArray 47)) := Keeps.of_below _ ((Below.refl _ _).alloc (Nat.le_refl _) _)
          have HOW := Kp.mk (OwnMany.turn HOWN.out hkz (by decide) (Nat.le_refl _) (fun cs d h => InO.turn h hkz (by decide) (by decide) (Nat.le_refl _)))
          have HINA := Kp.mk (hin.turn hka (by decide) (by decide) (Nat.le_refl _))
          have HONE := Kp.mk hin.inR.one
          have HX5A : Kp (Box (wz.alloc (.cells cs.toArray 47)) (w.heap.size + 1) 26 #[.int .u32 ((a : Int) + 1), .slice Ai is.length ci, .slice none 0 0, .int .u32 (d : Int)]) := ⟨box_past hxz5⟩
          have HX2A : Kp (Box (wz.alloc (.cells cs.toArray 47)) w.heap.size 26 zTx) := ⟨box_past (HX.out.1.below hbl3)⟩
          have HBA : Kp (Below w.heap.size w (wz.alloc (.cells cs.toArray 47))) := ⟨(HBW.out.trans (hbl3.mono HBW.out.size)).alloc (Nat.le_trans HBW.out.size hbl3.size) _⟩
          clear hsc hown hbx3 hrows3 hbl3 hC3 hysc hin hD hcs hDD hxz5 hkz hka b18 w18
          go_wp2_with (first | (refine wpList_load_row rfl 47 (.tmp 7) rfl wr.heap.size rfl _ cs.toArray _ _ HBX3.out Try.underlying47 rfl HI3.out ?_) | (at_builtin; refine wpList_append_many (R := fun W => InO W w.heap.size) rfl (.tmp 85) (.tmp 87) 23 rfl w.heap.size i1 _ 96 Try.underlying23 hi1 hz1 hs1 hb1 rfl (by decide) _ is rfl HOW.out wz.heap.size 1 cs D rfl (Box.fresh wz _ _) hcl HINA.out HONE.out ?e1 (by decide) ?f1 [5, 27, 26] (by decide) ?g1 ?_))
          case e1 => have := HL.out; have := HJP.out; omega
          case f1 => have := HBA.out.size; rw [alloc_size] at this; exact this
          case g1 => exact fun w' cs d hk h => InO.turn h hk (by decide) (by decide) (Nat.le_refl _)
          intro v6 w6 hm6 hg6 hk6
          obtain ⟨IS, hIS⟩ : ∃ IS, is ++ [D] = IS := ⟨_, rfl⟩
          rw [hIS] at hm6
          obtain ⟨A6, k6, rfl⟩ := hm6.slice
          have hx65 := Keeps.box hk6 (by decide) HX5A.out
          have hx62 := Keeps.box hk6 (by decide) HX2A.out
          have c6 := hx65.cell 1
          have f6 := hx65.warm 1
          have hk7 : Keeps [5, 27, 47] w6 (w6.setCell ⟨w.heap.size + 1, 1, none⟩ (.slice A6 IS.length k6)) := Keeps.of_set hx65 (by decide) 1 _
          have HEND : Kp (IS = (List.range (j + 1)).map (inOf m) ∧ OwnMany 36 47 (InO (w6.setCell ⟨w.heap.size + 1, 1, none⟩ (.slice A6 IS.length k6)) w.heap.size) (w6.setCell ⟨w.heap.size + 1, 1, none⟩ (.slice A6 IS.length k6)) w.heap.size (.slice A6 IS.length k6) IS ∧ Box (w6.setCell ⟨w.heap.size + 1, 1, none⟩ (.slice A6 IS.length k6)) w.heap.size 26 zTx ∧ Box (w6.setCell ⟨w.heap.size + 1, 1, none⟩ (.slice A6 IS.length k6)) (w.heap.size + 1) 26 #[.int .u32 ((a : Int) + 1), .slice A6 IS.length k6, .slice none 0 0, .int .u32 (d : Int)] ∧ Below w.heap.size w (w6.setCell ⟨w.heap.size + 1, 1, none⟩ (.slice A6 IS.length k6))) := by
            constructor
            refine ⟨by rw [← hIS, List.range_succ, List.map_append, ← HIS.out, ← HDD.out]; rfl, OwnMany.turn hm6 hk7 (by decide) (Nat.le_refl _) (fun cs d h => InO.turn h hk7 (by decide) (by decide) (Nat.le_refl _)), hx62.keep ((Only.refl (w.heap.size + 1) w6).set 1 _) (by omega), hx65.set 1 _, ?_⟩
            obtain ⟨css, hrow, _⟩ := HOW.out
            refine Below.setCell (HBA.out.trans ?_) (by show w.heap.size ≤ w.heap.size + 1; omega) _
            exact (Below.refl _ _).grown hg6 HBA.out.size (fun q hq => (World.ownsRow.lt hrow q hq).1)
          clear hk7 hm6 hg6 hk6 hx62 hx65 hIS hcl hfold hcz hc5
          go_wp2
          exact ⟨⟨j + 1, IS, _, by have := HJP.out; omega, by go_num, HEND⟩, by simp [intOf]; have := HJP.out; omega⟩
    · have hjeq : j = p + 1 := by omega
      have hjno : ((j : Int) < (p : Int) + 1) = False := eq_false (by omega)
      rw [hjeq] at his
      obtain ⟨wo, rfl⟩ : ∃ wo : World, wo = wr := ⟨_, rfl⟩
      have HIS := Kp.mk his
      have HOWN := Kp.mk hown
      have HX := Kp.mk (And.intro hx2 hx5)
      have HBW := Kp.mk hbw
      obtain ⟨Ai, ci, rfl⟩ := hown.slice
      clear his hown hx2 hx5 hbw hjp hjeq hj
      go_wp2
      go_loopw [8] (fun i wr => ∃ (j : Nat) (os : List OutD) (ov : Value), j ≤ q + 1 ∧ i = .int .i64 j ∧ Kp (os = (List.range j).map (outOf n m) ∧ OwnMany 2 51 (OutF wr w.heap.size) wr w.heap.size ov os ∧ OwnMany 36 47 (InO wr w.heap.size) wr w.heap.size (.slice Ai is.length ci) is ∧ Box wr w.heap.size 26 zTx ∧ Box wr (w.heap.size + 1) 26 #[.int .u32 ((a : Int) + 1), .slice Ai is.length ci, ov, .int .u32 (d : Int)] ∧ Below w.heap.size w wr)) (fun i _ => q + 1 - (intOf i).toNat)
      case atStart => exact ⟨0, [], _, by omega, rfl, ⟨rfl, OwnMany.nil _ _ _ _ _, HOWN.out, HX.out.1, HX.out.2, HBW.out⟩⟩
      case round =>
        obtain ⟨j, os, ov, hj, rfl, ⟨hos, hown2, hown, hx2, hx5, hbw⟩⟩ := hrel
        by_cases hjq : j < q + 1
        · have HOUTS := Kp.mk hown2
          have HINS := Kp.mk hown
          have HX2 := Kp.mk (And.intro hx2 hx5)
          have HB2 := Kp.mk hbw
          have HOS := Kp.mk hos
          have HJQ : Kp (j < q + 1 ∧ os.length = j) := ⟨hjq, by rw [hos]; simp⟩
          have hjq' : (j : Int) < (q : Int) + 1 := by omega
          have hj3 : (j : Int) ≤ 3 := by omega
          obtain ⟨Ao, co, rfl⟩ := hown2.slice
          have hbnd : ∀ (z : Int) (k : Nat), -9223372036854775808 ≤ z ∧ z ≤ 9223372036854775807 → -9223372036854775808 ≤ z / 2 ^ k ∧ z / 2 ^ k ≤ 9223372036854775807 := fun z k hz => Int.ediv_le_self_of z (2 ^ k) hz (Int.pow_pos (by omega))
          obtain ⟨x, hx, hxl⟩ : ∃ x : Nat, n / 2 ^ (12 + j) % 4096 = (x : Int) ∧ x < 4096 := ⟨(n / 2 ^ (12 + j) % 4096).toNat, by omega, by omega⟩
          have b12 : bits BinOp.and IntKind.i64 (n / 2 ^ (12 + j)) 4095 = (x : Int) := by rw [← hx]; exact and_mask _ 12 (by omega)
          have HXX : Kp (outOf n m j = ⟨x, scriptOf (m / 2 ^ j)⟩) := ⟨by unfold outOf; rw [hx]; rfl⟩
          have HT := Kp.mk (script_any wr.drew (m / 2 ^ j) (hbnd m j HM.out))
          have hbd : Below wr.heap.size wr wr.drew := (Below.refl _ _).drew
          have hcd := (hx5.below hbd).cell 2
          have HBD := Kp.mk hbd
          have hxb : (x : Int) ≤ 4095 := by omega
          clear hos hown2 hown hx2 hx5 hbw hjq hj hbnd hx hbd
          have h1 : IntKind.i64.wrap (12 + (j : Int)) = 12 + (j : Int) := by rw [IntKind.wrap_i64]; omega
          have h2 : IntKind.u64.wrap (12 + (j : Int)) = 12 + (j : Int) := by simp [IntKind.wrap, IntKind.bits, IntKind.signed]; omega
          have h3 : (12 + (j : Int)).toNat = 12 + j := by omega
          have h4 : min (12 + j) 64 = 12 + j := by omega
          have h5 : IntKind.u64.wrap (j : Int) = (j : Int) := by simp [IntKind.wrap, IntKind.bits, IntKind.signed]; omega
          have h6 : min j 64 = j := by omega
          have h8 : IntKind.u64.wrap (x : Int) = (x : Int) := by simp [IntKind.wrap, IntKind.bits, IntKind.signed]; omega
          go_wp2_with fail
          go_region_law (first | (go_simp; go_at_call 22; refine HT.out.mono ?_; rintro e w5 ⟨v5, rfl, hv5, hb5⟩; have hb55 := HBD.out.trans (hb5.mono HBD.out.size); have hx54 := HX2.out.2.below hb55; have hc5 := hx54.cell 2; have hin5 : OutF w5 w.heap.size [.int .u64 (x : Int), v5] ⟨x, scriptOf (m / 2 ^ j)⟩ := ⟨v5, rfl, by show x < 18446744073709551616; omega, hv5.less HB2.out.size⟩; have hone5 := hv5.rbT.1.one; obtain ⟨A5, c5, rfl⟩ := hv5.slice5; have hc55 := (box_past (o := .cells #[.int .u64 (x : Int), .slice A5 (scriptOf (m / 2 ^ j)).length c5] 51) hx54).cell 2; have hka : Keeps [5, 27, 47, 51] wr (w5.alloc (.cells #[.int .u64 (x : Int), .slice A5 (scriptOf (m / 2 ^ j)).length c5] 51)) := (Keeps.of_below _ hb55).trans (Keeps.of_below _ ((Below.refl _ _).alloc (Nat.le_refl _) _)); have hkb : Keeps [5, 27, 47, 51] w5 (w5.alloc (.cells #[.int .u64 (x : Int), .slice A5 (scriptOf (m / 2 ^ j)).length c5] 51)) := Keeps.of_below _ ((Below.refl _ _).alloc (Nat.le_refl _) _); have HOW := Kp.mk (OwnMany.turn HOUTS.out hka (by decide) (Nat.le_refl _) (fun cs d h => OutF.keeps h hka (by decide))); have HIN5 := Kp.mk (OwnMany.turn HINS.out hka (by decide) (Nat.le_refl _) (fun cs d h => InO.turn h hka (by decide) (by decide) (Nat.le_refl _))); have HIN := Kp.mk (hin5.keeps hkb (by decide)); have HX6 : Kp (Box (w5.alloc (.cells #[.int .u64 (x : Int), .slice A5 (scriptOf (m / 2 ^ j)).length c5] 51)) w.heap.size 26 zTx ∧ Box (w5.alloc (.cells #[.int .u64 (x : Int), .slice A5 (scriptOf (m / 2 ^ j)).length c5] 51)) (w.heap.size + 1) 26 #[.int .u32 ((a : Int) + 1), .slice Ai is.length ci, .slice Ao os.length co, .int .u32 (d : Int)]) := ⟨box_past (HX2.out.1.below hb55), box_past hx54⟩; have HB6 : Kp (Below w.heap.size w (w5.alloc (.cells #[.int .u64 (x : Int), .slice A5 (scriptOf (m / 2 ^ j)).length c5] 51))) := ⟨(HB2.out.trans (hb55.mono HB2.out.size)).alloc (Nat.le_trans HB2.out.size hb55.size) _⟩; clear hka hkb hb5 hv5 hin5 hone5 hx54 hb55) | (refine step_append_many (R := fun W => OutF W w.heap.size) rfl (.tmp 99) (.tmp 113) 24 rfl w.heap.size i2 _ 32 Try.underlying24 hi2 hz2 hs2 hb2 (by rfl) (by decide) _ os rfl HOW.out w5.heap.size 1 [.int .u64 (x : Int), .slice A5 (scriptOf (m / 2 ^ j)).length c5] ⟨x, scriptOf (m / 2 ^ j)⟩ rfl (Box.fresh w5 _ _) rfl HIN.out (outF_one HIN.out) (by have := HJQ.out; omega) (by decide) HB6.out.size [5, 27, 47, 26] (by decide) (fun w' cs d hk h => OutF.keeps h hk (by decide)) ?_; intro v6 w6 hm6 hg6 hk6; obtain ⟨IS, hIS⟩ : ∃ IS, os ++ [⟨x, scriptOf (m / 2 ^ j)⟩] = IS := ⟨_, rfl⟩; rw [hIS] at hm6; obtain ⟨A6, k6, rfl⟩ := hm6.slice; have hx62 := Keeps.box hk6 (by decide) HX6.out.1; have hx65 := Keeps.box hk6 (by decide) HX6.out.2; have c6 := hx65.cell 2; have f6 := hx65.warm 2))
          all_goals
            have hk7 : Keeps [5, 27, 47, 51] w6 (w6.setCell ⟨w.heap.size + 1, 2, none⟩ (.slice A6 IS.length k6)) := Keeps.of_set hx65 (by decide) 2 _
            have HEND : Kp (IS = (List.range (j + 1)).map (outOf n m) ∧ OwnMany 2 51 (OutF (w6.setCell ⟨w.heap.size + 1, 2, none⟩ (.slice A6 IS.length k6)) w.heap.size) (w6.setCell ⟨w.heap.size + 1, 2, none⟩ (.slice A6 IS.length k6)) w.heap.size (.slice A6 IS.length k6) IS ∧ OwnMany 36 47 (InO (w6.setCell ⟨w.heap.size + 1, 2, none⟩ (.slice A6 IS.length k6)) w.heap.size) (w6.setCell ⟨w.heap.size + 1, 2, none⟩ (.slice A6 IS.length k6)) w.heap.size (.slice Ai is.length ci) is ∧ Box (w6.setCell ⟨w.heap.size + 1, 2, none⟩ (.slice A6 IS.length k6)) w.heap.size 26 zTx ∧ Box (w6.setCell ⟨w.heap.size + 1, 2, none⟩ (.slice A6 IS.length k6)) (w.heap.size + 1) 26 #[.int .u32 ((a : Int) + 1), .slice Ai is.length ci, .slice A6 IS.length k6, .int .u32 (d : Int)] ∧ Below w.heap.size w (w6.setCell ⟨w.heap.size + 1, 2, none⟩ (.slice A6 IS.length k6))) := by
              constructor
              have hki : Keeps [5, 27, 47] (w5.alloc (.cells #[.int .u64 (x : Int), .slice A5 (scriptOf (m / 2 ^ j)).length c5] 51)) (w6.setCell ⟨w.heap.size + 1, 2, none⟩ (.slice A6 IS.length k6)) := Keeps.trans (hk6.sub (by decide)) (hk7.sub (by decide))
              refine ⟨by rw [← hIS, List.range_succ, List.map_append, ← HOS.out]; simp [HXX.out], OwnMany.turn hm6 hk7 (by decide) (Nat.le_refl _) (fun cs d h => OutF.keeps h hk7 (by decide)), OwnMany.turn HIN5.out hki (by decide) (Nat.le_refl _) (fun cs d h => InO.turn h hki (by decide) (by decide) (Nat.le_refl _)), hx62.keep ((Only.refl (w.heap.size + 1) w6).set 2 _) (by omega), hx65.set 2 _, ?_⟩
              obtain ⟨css, hrow, _⟩ := HOW.out
              refine Below.setCell (HB6.out.trans ?_) (by show w.heap.size ≤ w.heap.size + 1; omega) _
              exact (Below.refl _ _).grown hg6 HB6.out.size (fun q hq => (World.ownsRow.lt hrow q hq).1)
            clear hk7 hm6 hg6 hk6 hx62 hx65 c6 f6 hIS hcd h1 h2 h3 h4 h5 h6 h8
            go_wp2
            exact ⟨⟨j + 1, IS, _, by have := HJQ.out; omega, by go_num, HEND⟩, by simp [intOf]; have := HJQ.out; omega⟩
        · obtain rfl : j = q + 1 := by omega
          have hk7 : Keeps [5, 27, 47, 51] wr (wr.setRow w.heap.size #[.int .u32 ((a : Int) + 1), .slice Ai is.length ci, ov, .int .u32 (d : Int)]) := Keeps.of_setRow hx2 (by decide) _
          have HX2 : Kp (wr.heap[w.heap.size]? = some (.cells zTx 26 (0, 0))) := ⟨hx2⟩
          have HX5 : Kp (wr.heap[w.heap.size + 1]? = some (.cells #[.int .u32 ((a : Int) + 1), .slice Ai is.length ci, ov, .int .u32 (d : Int)] 26 (0, 0))) := ⟨hx5⟩
          have HXR : Kp ((wr.setRow w.heap.size #[.int .u32 ((a : Int) + 1), .slice Ai is.length ci, ov, .int .u32 (d : Int)]).heap[w.heap.size]? = some (.cells #[.int .u32 ((a : Int) + 1), .slice Ai is.length ci, ov, .int .u32 (d : Int)] 26 (0, 0))) := ⟨setRow_box hx2 _⟩
          have HIT2 : Kp ((Try.prog.info? 26).map (·.size) = some 4) := ⟨by kernel_rfl⟩
          have hone : ov.oneCell' = true := by obtain ⟨A, c, rfl⟩ := hown2.slice; rfl
          have HFIN : Kp (TxP (txOf n m) w (.returned (.agg #[.int .u32 ((a : Int) + 1), .slice Ai is.length ci, ov, .int .u32 (d : Int)])) (wr.setRow w.heap.size #[.int .u32 ((a : Int) + 1), .slice Ai is.length ci, ov, .int .u32 (d : Int)])) := ⟨by
            rw [HT.out]
            refine ⟨_, rfl, ⟨.slice Ai is.length ci, ov, rfl, by show a + 1 < 4294967296; omega, by show d < 4294967296; omega, ?_, ?_⟩, hbw.trans (Below.setRow_self (Nat.le_refl _) _)⟩
            · rw [← HIS.out]
              exact OwnMany.turn hown hk7 (by decide) (Nat.le_refl _) (fun cs d h => InO.turn h hk7 (by decide) (by decide) (Nat.le_refl _))
            · rw [← hos]
              exact OwnMany.turn hown2 hk7 (by decide) (Nat.le_refl _) (fun cs d h => OutF.keeps h hk7 (by decide))⟩
          obtain ⟨Ao, co, rfl⟩ := hown2.slice
          clear hos hown2 hown hx2 hx5 hbw hk7 hone
          go_wp2_with (first | (refine wpList_load_row rfl 26 (.tmp 5) rfl (w.heap.size + 1) rfl _ #[.int .u32 ((a : Int) + 1), .slice Ai is.length ci, .slice Ao os.length co, .int .u32 (d : Int)] _ _ HX5.out Try.underlying26 rfl HIT2.out ?_) | (refine wpList_store_row rfl 26 (.tmp 4) (.tmp 116) rfl w.heap.size #[.int .u32 ((a : Int) + 1), .slice Ai is.length ci, .slice Ao os.length co, .int .u32 (d : Int)] rfl rfl 26 zTx HX2.out HIT2.out rfl (by simp [Value.oneCell']) ?_))
          exact bodyPost_ret (results_cell_row (by rfl) _ _ w.heap.size 26 _ _ _ rfl HXR.out Try.underlying26 rfl HIT2.out) rfl HFIN.out
end Go.Proofs.Ytojeonepplfhlaa
