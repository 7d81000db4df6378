/- Contracts of package txns: nextText, nextWitness. Contracts of package txns: nextOut, nextIn. Contracts of package txns: decode. Contracts of package txns: decode, Read, Parse. The law's Tx. Plain: what was told is read back. What is known of the law's transactions, whatever the two numbers: they may be, their numbers fit, their bytes are bytes. No program. What stays of rows that lie high, or whose bytes are turned. No program. -/
import Derived.Test.YtdemamipllfonaaGd
import Derived.Deep.RegionHeld3
import Derived.Laws.CopyOwn
import Derived.Deep.RegionLaw
import Derived.Laws.ResultCell
import Derived.Deep.DeepCutAuto
import Derived.Deep.CutBlock
namespace Go.Proofs.Ytdemamipllfonaa

section
open Go.RowKit

/-- What is read: a value, what is left, and whether the Reader is broken. -/
abbrev Rest (α : Type) := α × List Int × Bool
def took (l : List Int) (bad : Bool) (n : Nat) : Rest (List Int) := if n ≤ l.length then (l.take n, l.drop n, bad) else ([], [], true)
def pText (l : List Int) (bad : Bool) : Rest (List Int) := took (count l bad 500).2.1 (count l bad 500).2.2 (count l bad 500).1
/-- So many, one behind the other. -/
def pMany {α : Type} (f : List Int → Bool → Rest α) : Nat → List Int → Bool → Rest (List α)
  | 0, l, bad => ([], l, bad)
  | n + 1, l, bad => ((f l bad).1 :: (pMany f n (f l bad).2.1 (f l bad).2.2).1, (pMany f n (f l bad).2.1 (f l bad).2.2).2)
/-- After j of n: what was read, and the rest. -/
theorem pMany_step {α : Type} {f : List Int → Bool → Rest α} {n : Nat} {l0 l : List Int} {b0 b : Bool} {xs : List α} {j : Nat} (hj : j < n)
    (h : pMany f n l0 b0 = (xs ++ (pMany f (n - j) l b).1, (pMany f (n - j) l b).2)) : pMany f n l0 b0 = ((xs ++ [(f l b).1]) ++ (pMany f (n - (j + 1)) (f l b).2.1 (f l b).2.2).1, (pMany f (n - (j + 1)) (f l b).2.1 (f l b).2.2).2) := by
  obtain ⟨m, hm⟩ : ∃ m, n - j = m + 1 := ⟨n - j - 1, by omega⟩
  have hm2 : n - (j + 1) = m := by omega
  rw [hm2, h, hm]
  simp [pMany]
theorem pMany_end {α : Type} {f : List Int → Bool → Rest α} {n : Nat} {l0 l : List Int} {b0 b : Bool} {xs : List α} (h : pMany f n l0 b0 = (xs ++ (pMany f (n - n) l b).1, (pMany f (n - n) l b).2)) : pMany f n l0 b0 = (xs, l, b) := by
  rw [h, Nat.sub_self]
  simp [pMany]
theorem num_len (l : List Int) (bad : Bool) (n : Nat) : (num l bad n).2.1.length ≤ l.length := by
  unfold num
  split
  · simp only [List.length_drop]; omega
  · simp
theorem countEnd_len (n least : Nat) (l : List Int) (bad : Bool) (most : Int) : (countEnd n least l bad most).2.1.length ≤ l.length := by
  unfold countEnd
  split
  · simp
  · split <;> simp
theorem count_len (l : List Int) (bad : Bool) (most : Int) : (count l bad most).2.1.length ≤ l.length := by
  have h1 := num_len l bad 1
  unfold count
  split
  · exact Nat.le_trans (countEnd_len _ _ _ _ _) (Nat.le_trans (num_len _ _ _) h1)
  · split
    · exact Nat.le_trans (countEnd_len _ _ _ _ _) (Nat.le_trans (num_len _ _ _) h1)
    · split
      · simp
      · exact Nat.le_trans (countEnd_len _ _ _ _ _) h1
theorem countEnd_most (n least : Nat) (l : List Int) (bad : Bool) (most : Int) (hm : 0 ≤ most) : ((countEnd n least l bad most).1 : Int) ≤ most := by
  unfold countEnd
  split
  · simpa using hm
  · split
    · simpa using hm
    · simp only; omega
theorem count_most (l : List Int) (bad : Bool) (most : Int) (hm : 0 ≤ most) : ((count l bad most).1 : Int) ≤ most := by
  unfold count
  split
  · exact countEnd_most _ _ _ _ _ hm
  · split
    · exact countEnd_most _ _ _ _ _ hm
    · split
      · simpa using hm
      · exact countEnd_most _ _ _ _ _ hm
theorem Only.grown {g e B k n : Nat} {w0 w w' : World} {v : Value} {xs : List Value} (h : Only g w0 w) (ho : w.ownsRow B e k v n xs) (hB : w0.heap.size ≤ B) (hg : w.grownBy w' v.ownBlock) : Only g w0 w' := by
  refine ⟨hg.os.trans h.os, hg.tape.trans h.tape, hg.output.trans h.output, Nat.le_trans h.size hg.size, fun b hb hne => (hg.block b (Nat.lt_of_lt_of_le hb h.size) ?_).trans (h.block b hb hne)⟩
  intro e1
  rcases ho.2 with ⟨rfl, _⟩ | ⟨g', cap, cur, rfl, hB', _⟩
  · cases e1
  · simp only [Value.ownBlock, Option.some.injEq] at e1
    omega
theorem Only.alloc {g : Nat} {w0 w : World} (h : Only g w0 w) (o : Obj) : Only g w0 (w.alloc o) := h.trans (Only.of_below ((Below.refl _ _).alloc (Nat.le_refl _) _))
theorem Only.setNew {g b : Nat} {w0 w : World} (h : Only g w0 w) (hb : w0.heap.size ≤ b) (i : Nat) (u : Value) : Only g w0 (w.setCell ⟨b, i, none⟩ u) :=
  ⟨h.os, h.tape, h.output, by rw [setCell_size]; exact h.size, fun q hq hne => (Below.heap_setCell w _ u q (by simp; omega)).trans (h.block q hq hne)⟩
theorem took_len (l : List Int) (bad : Bool) (n : Nat) : (took l bad n).2.1.length ≤ l.length := by
  unfold took
  split
  · simp only [List.length_drop]; omega
  · simp
theorem took_size (l : List Int) (bad : Bool) (n : Nat) : (took l bad n).1.length = n ∨ (took l bad n).1 = [] := by
  unfold took
  split
  · left; simp only [List.length_take]; omega
  · right; rfl
theorem took_bys {l : List Int} (h : Bys l) (bad : Bool) (n : Nat) : Bys (took l bad n).1 := by
  unfold took
  split
  · exact h.take n
  · exact Bys.nil
theorem pText_len (l : List Int) (bad : Bool) : (pText l bad).2.1.length ≤ l.length := Nat.le_trans (took_len _ _ _) (count_len _ _ _)

def pWit (l : List Int) (bad : Bool) : Rest (List (List Int)) := pMany pText (count l bad 10).1 (count l bad 10).2.1 (count l bad 10).2.2
set_option maxRecDepth 100000 in
theorem infoRow : (Try.prog.info? 55).map (fun i => (i.zero, i.size, i.bytes)) = some (some (.slice none 0 0), 1, 24) := by kernel_rfl
set_option maxRecDepth 100000 in
theorem info_parts3 {t : Nat} {z : Option Value} {n m : Nat} (h : (Try.prog.info? t).map (fun i => (i.zero, i.size, i.bytes)) = some (z, n, m)) : ∃ i, Try.prog.info? t = some i ∧ i.zero = z ∧ i.size = n ∧ i.bytes = m := by
  cases hi : Try.prog.info? t with
  | none => rw [hi] at h; cases h
  | some i =>
    rw [hi] at h
    simp only [Option.map_some, Option.some.injEq, Prod.mk.injEq] at h
    exact ⟨i, rfl, h.1, h.2.1, h.2.2⟩
set_option maxRecDepth 100000 in
theorem infoIn : (Try.prog.info? 58).map (fun i => (i.zero.map (·.cells.size), i.size, i.bytes)) = some (some 36, 36, 96) := by kernel_rfl
end

section
open Go.RowKit

theorem setRow_grown (w : World) (G : Nat) (cs : Array Value) : w.grownBy (w.setRow G cs) (some G) := ⟨rfl, rfl, rfl, by simp, fun k _ hne => setRow_other w G k cs (fun e => hne (by rw [e]))⟩
theorem setRow_box {w : World} {G t : Nat} {old : Array Value} (h : Box w G t old) (cs : Array Value) : Box (w.setRow G cs) G t cs := setRow_heap w G _ cs t _ h
theorem Only.setRow {g G : Nat} {w0 w : World} (h : Only g w0 w) (hG : w0.heap.size ≤ G) (cs : Array Value) : Only g w0 (w.setRow G cs) :=
  ⟨h.os, h.tape, h.output, by rw [size_setRow]; exact h.size, fun q hq hne => (setRow_other w G q cs (by omega)).trans (h.block q hq hne)⟩
theorem Keeps.of_setRow {ts : List Nat} {w : World} {G e : Nat} {cur : Array Value} (hb : Box w G e cur) (he : e ∉ ts) (cs : Array Value) : Keeps ts w (w.setRow G cs) :=
  Keeps.of_grown (setRow_grown w G cs) (e := e) (cur := cur) (fun b h => by injection h with h; subst h; exact hb) he
def pOut (l : List Int) (bad : Bool) : Rest OutD := (⟨(num l bad 8).1, (pText (num l bad 8).2.1 (num l bad 8).2.2).1⟩, (pText (num l bad 8).2.1 (num l bad 8).2.2).2)
/-- GENERATED -/
theorem gen_l_here : True := trivial
def zIn : Array Value := (inCells ⟨List.replicate 32 0, 0, [], 0, []⟩ (.slice none 0 0) (.slice none 0 0)).toArray
theorem zIn_is : #[Value.int IntKind.u8 0, Value.int IntKind.u8 0, Value.int IntKind.u8 0, Value.int IntKind.u8 0, Value.int IntKind.u8 0, Value.int IntKind.u8 0, Value.int IntKind.u8 0, Value.int IntKind.u8 0, Value.int IntKind.u8 0, Value.int IntKind.u8 0, Value.int IntKind.u8 0, Value.int IntKind.u8 0, Value.int IntKind.u8 0, Value.int IntKind.u8 0, Value.int IntKind.u8 0, Value.int IntKind.u8 0, Value.int IntKind.u8 0, Value.int IntKind.u8 0, Value.int IntKind.u8 0, Value.int IntKind.u8 0, Value.int IntKind.u8 0, Value.int IntKind.u8 0, Value.int IntKind.u8 0, Value.int IntKind.u8 0, Value.int IntKind.u8 0, Value.int IntKind.u8 0, Value.int IntKind.u8 0, Value.int IntKind.u8 0, Value.int IntKind.u8 0, Value.int IntKind.u8 0, Value.int IntKind.u8 0, Value.int IntKind.u8 0, Value.int IntKind.u32 0, Value.slice none 0 0, Value.int IntKind.u32 0, Value.slice none 0 0] = zIn := by rfl
/-- 'copy' into a whole row, as one step of a region that draws its order. -/
theorem step_copy_row {P : Program} {ops : Array Oper} {o : Oper} {a : Act} {w : World} {K : Act → World → Prop} {Q : Exit → Act → World → Prop} {E : Prop} (hgd : o.guard = none) (d s : Operand) (dT sT : TypeId)
    (ho : o.op = .call { callee := .builtin .copy, args := #[d, s], argTypes := #[dT, sT] }) (elem : TypeId) (hu : P.underlying dT = some (.slice elem)) (hsz : (P.info? elem).map (·.size) = some 1)
    (dp sp : Option Addr) (dLen dCap sLen sCap : Nat) (hd : a.eval d = .slice dp dLen dCap) (hs : a.eval s = .slice sp sLen sCap)
    (g off : Nat) (cur : List Value) (t : TypeId) (hg : w.heap[g]? = some (.cells cur.toArray t (0, 0))) (cs : List Value) (hn : cs.length = Nat.min sLen dLen)
    (hpos : 0 < cs.length → dp = some ⟨g, off, none⟩ ∧ ∃ ad, sp = some ad ∧ ∀ j v, cs[j]? = some v → w.cell? (ad.add j) = some v)
    (hfit : off + cs.length ≤ cur.length) (h1 : ∀ v ∈ cs, v.oneCell' = true)
    (h : K (a.put o.dst (goInt cs.length)) (w.setRow g (splice cur off cs).toArray)) :
    if Region.wanted o (yielded ops a.tmps) = true then Oper.wp P o a w K Q else E := by
  have hw : Region.wanted o (yielded ops a.tmps) = true := by simp [Region.wanted, hgd]
  rw [if_pos hw]
  by_cases h0 : cs.length = 0
  · obtain rfl : cs = [] := List.eq_nil_of_length_eq_zero h0
    have hrun := run_copy_none (P := P) w dT sT o.type elem dp sp dLen dCap sLen sCap hu hsz (by simpa using hn.symm)
    have e : w.setRow g (splice cur off []).toArray = w := by
      rw [show splice cur off ([] : List Value) = cur by simp [splice]]
      exact setRow_self w g _ t _ hg
    rw [e] at h
    unfold Oper.wp
    simp [execOp, ho, resolve, invoke, builtin, hd, hs, hrun, Result.andThen]
    exact h
  · obtain ⟨rfl, ad, rfl, hsrc⟩ := hpos (by omega)
    have hrun := run_copy_row (P := P) w dT sT o.type elem g off dLen dCap ad sLen sCap cur.toArray t cs hu hsz hg hn hsrc (by simpa using hfit) h1
    unfold Oper.wp
    simp [execOp, ho, resolve, invoke, builtin, hd, hs, hrun, Result.andThen]
    unfold splice at h
    exact h
set_option maxRecDepth 100000 in
theorem own_src {w : World} {B : Nat} {A : Option Addr} {n c : Nat} {l : List Int} (h : Own w B 5 (.slice A n c) l) (hp : 0 < (byteVals l).length) : ∃ ad, A = some ad ∧ ∀ j v, (byteVals l)[j]? = some v → w.cell? (ad.add j) = some v := by
  obtain ⟨A', c', e, _, _, hr⟩ := h.any
  injection e with e1 e2 e3
  subst e1
  obtain ⟨b, off, rfl, _, _, hrun⟩ := hr (by rintro rfl; simp [byteVals] at hp)
  refine ⟨_, rfl, fun j v hv => ?_⟩
  obtain ⟨hj, rfl⟩ := byteVals_at l j v hv
  rw [← hrun j hj]
  by_cases h0 : j = 0 <;> simp [Addr.add, h0]
def prevOf (l : List Int) : List Int := if l.length = 32 then l else List.replicate 32 0
theorem prevOf_len (l : List Int) : (prevOf l).length = 32 := by
  unfold prevOf
  split
  · assumption
  · simp
theorem prevOf_bys {l : List Int} (h : Bys l) : Bys (prevOf l) := by
  unfold prevOf
  split
  · exact h
  · intro x hx
    rw [List.eq_of_mem_replicate hx]
    omega
/-- The cells of an input that was read. -/
theorem in_cells (l : List Int) (hl : l.length = 32 ∨ l = []) (v q : Nat) (sv : Value) :
    ((((splice zIn.toList 0 (byteVals l)).toArray.setIfInBounds 32 (.int .u32 (v : Int))).setIfInBounds 33 sv).setIfInBounds 34 (.int .u32 (q : Int))) = (inCells ⟨prevOf l, v, [], q, []⟩ sv (.slice none 0 0)).toArray := by
  have h0 : splice zIn.toList 0 (byteVals l) = byteVals (prevOf l) ++ [.int .u32 0, .slice none 0 0, .int .u32 0, .slice none 0 0] := by
    rcases hl with h | h
    · have e : prevOf l = l := if_pos h
      rw [e]
      have hz : zIn.toList = byteVals (List.replicate 32 0) ++ [.int .u32 0, .slice none 0 0, .int .u32 0, .slice none 0 0] := rfl
      simp only [splice, hz, List.take_zero, List.nil_append, Nat.zero_add]
      rw [List.drop_append_of_le_length (by simp [byteVals, h]), List.drop_eq_nil_of_le (by simp [byteVals, h])]
      rfl
    · subst h
      rfl
  rw [h0]
  have hp : (byteVals (prevOf l)).length = 32 := by simp [byteVals, prevOf_len]
  simp only [List.setIfInBounds_toArray]
  rw [List.set_append_right _ _ (by omega), hp, List.set_append_right _ _ (by omega), hp, List.set_append_right _ _ (by omega), hp]
  rfl
def pIn (l : List Int) (bad : Bool) : Rest InD :=
  let t := took l bad 32
  let v := num t.2.1 t.2.2 4
  let s := pText v.2.1 v.2.2
  let q := num s.2.1 s.2.2 4
  (⟨prevOf t.1, v.1, s.1, q.1, []⟩, q.2)
end

section
open Go.RowKit

/-- A transaction in memory of the call's own. -/
def TxO (w : World) (B : Nat) (v : Value) (t : TxD) : Prop := ∃ iv ov, v = .agg #[.int .u32 t.version, iv, ov, .int .u32 t.lock] ∧ t.version < 4294967296 ∧ t.lock < 4294967296 ∧ OwnMany 36 58 (InO w B) w B iv t.ins ∧ OwnMany 2 61 (OutO w B) w B ov t.outs
theorem TxO.txR {w : World} {B : Nat} {v : Value} {t : TxD} (h : TxO w B v t) : TxR w v t := by
  obtain ⟨iv, ov, rfl, h1, h2, h3, h4⟩ := h
  exact ⟨iv, ov, rfl, h1, h2, OwnMany.many h3 fun _ _ h => h.inR, OwnMany.many h4 fun _ _ h => h.outR⟩
set_option maxRecDepth 100000 in
theorem TxO.turn {ts : List Nat} {w w' : World} {B B' : Nat} {v : Value} {t : TxD} (h : TxO w B v t) (hk : Keeps ts w w') (h8 : 5 ∈ ts) (hb : 55 ∈ ts) (hi : 58 ∈ ts) (ho : 61 ∈ ts) (hB : B' ≤ B) : TxO w' B' v t := by
  obtain ⟨iv, ov, rfl, h1, h2, h3, h4⟩ := h
  exact ⟨iv, ov, rfl, h1, h2, OwnMany.turn h3 hk hi hB fun _ _ h => h.turn hk h8 hb hB, OwnMany.turn h4 hk ho hB fun _ _ h => h.turn hk h8 hB⟩

def noTx : TxD := ⟨0, [], [], 0⟩
def setWits : List InD → List (List (List Int)) → List InD
  | d :: ds, x :: xs => { d with wit := x } :: setWits ds xs
  | ds, _ => ds
/-- What stands behind the number of inputs. -/
def pBody (ver : Nat) (whole : Bool) (c : Rest Nat) : Rest (TxD × Bool) :=
  let is := pMany pIn c.1 c.2.1 c.2.2
  let oc := count is.2.1 is.2.2 50
  let os := pMany pOut oc.1 oc.2.1 oc.2.2
  let ws := if whole then pMany pWit is.1.length os.2.1 os.2.2 else ([], os.2)
  let t : TxD := ⟨ver, if whole then setWits is.1 ws.1 else is.1, os.1, (num ws.2.1 ws.2.2 4).1⟩
  ((t, !(num ws.2.1 ws.2.2 4).2.2 && (mayB t && (witT t == whole))), (num ws.2.1 ws.2.2 4).2)
def pTx (l : List Int) (bad : Bool) : Rest (TxD × Bool) :=
  let v := num l bad 4
  let c := count v.2.1 v.2.2 50
  if c.1 = 0 then
    let m := count c.2.1 c.2.2 1
    if m.1 = 1 then pBody v.1 true (count m.2.1 m.2.2 50) else ((noTx, false), m.2)
  else pBody v.1 false c
set_option maxRecDepth 100000 in
theorem infoInZ : (Try.prog.info? 58).map (fun i => (i.zero, i.size, i.bytes)) = some (some (.agg zIn), 36, 96) := by kernel_rfl
set_option maxRecDepth 100000 in
theorem infoOutZ : (Try.prog.info? 61).map (fun i => (i.zero, i.size, i.bytes)) = some (some (.agg #[.int .u64 0, .slice none 0 0]), 2, 32) := by kernel_rfl
def zTx : Array Value := #[.int .u32 0, .slice none 0 0, .slice none 0 0, .int .u32 0]



set_option maxRecDepth 1000000 in
theorem fold_zip : ∀ (cs : List Value) (k : Nat) (A : List Value), k + cs.length ≤ A.length → (cs.zipIdx k).foldl (fun (a : Array Value) (x : Value × Nat) => a.setIfInBounds x.2 x.1) A.toArray = (A.take k ++ (cs ++ A.drop (k + cs.length))).toArray
  | [], k, A, _ => by simp
  | c :: r, k, A, h => by
    simp only [List.length_cons] at h
    have hA : k < A.length := by omega
    rw [List.zipIdx_cons, List.foldl_cons, List.setIfInBounds_toArray, fold_zip r (k + 1) (A.set k c) (by rw [List.length_set]; omega)]
    congr 1
    have h1 : (A.set k c).take (k + 1) = A.take k ++ [c] := by
      rw [List.take_succ_eq_append_getElem (by rw [List.length_set]; exact hA), List.getElem_set_self, List.take_set_of_le (Nat.le_refl _)]
    have h2 : (A.set k c).drop (k + 1 + r.length) = A.drop (k + (r.length + 1)) := by
      rw [List.drop_set_of_lt (by omega)]
      congr 1
      omega
    rw [h1, h2]
    simp
theorem fold_in (cs : List Value) (h : cs.length = 36) : List.foldl (fun (cs : Array Value) (x : Value × Nat) => cs.setIfInBounds x.snd x.fst) #[Value.int IntKind.u8 0, Value.int IntKind.u8 0, Value.int IntKind.u8 0, Value.int IntKind.u8 0, Value.int IntKind.u8 0, Value.int IntKind.u8 0, Value.int IntKind.u8 0, Value.int IntKind.u8 0, Value.int IntKind.u8 0, Value.int IntKind.u8 0, Value.int IntKind.u8 0, Value.int IntKind.u8 0, Value.int IntKind.u8 0, Value.int IntKind.u8 0, Value.int IntKind.u8 0, Value.int IntKind.u8 0, Value.int IntKind.u8 0, Value.int IntKind.u8 0, Value.int IntKind.u8 0, Value.int IntKind.u8 0, Value.int IntKind.u8 0, Value.int IntKind.u8 0, Value.int IntKind.u8 0, Value.int IntKind.u8 0, Value.int IntKind.u8 0, Value.int IntKind.u8 0, Value.int IntKind.u8 0, Value.int IntKind.u8 0, Value.int IntKind.u8 0, Value.int IntKind.u8 0, Value.int IntKind.u8 0, Value.int IntKind.u8 0, Value.int IntKind.u32 0, Value.slice none 0 0, Value.int IntKind.u32 0, Value.slice none 0 0] cs.zipIdx = cs.toArray := by
  have e := fold_zip cs 0 zIn.toList (by rw [h]; exact Nat.le_refl _)
  have hz : #[Value.int IntKind.u8 0, Value.int IntKind.u8 0, Value.int IntKind.u8 0, Value.int IntKind.u8 0, Value.int IntKind.u8 0, Value.int IntKind.u8 0, Value.int IntKind.u8 0, Value.int IntKind.u8 0, Value.int IntKind.u8 0, Value.int IntKind.u8 0, Value.int IntKind.u8 0, Value.int IntKind.u8 0, Value.int IntKind.u8 0, Value.int IntKind.u8 0, Value.int IntKind.u8 0, Value.int IntKind.u8 0, Value.int IntKind.u8 0, Value.int IntKind.u8 0, Value.int IntKind.u8 0, Value.int IntKind.u8 0, Value.int IntKind.u8 0, Value.int IntKind.u8 0, Value.int IntKind.u8 0, Value.int IntKind.u8 0, Value.int IntKind.u8 0, Value.int IntKind.u8 0, Value.int IntKind.u8 0, Value.int IntKind.u8 0, Value.int IntKind.u8 0, Value.int IntKind.u8 0, Value.int IntKind.u8 0, Value.int IntKind.u8 0, Value.int IntKind.u32 0, Value.slice none 0 0, Value.int IntKind.u32 0, Value.slice none 0 0] = zIn.toList.toArray := by rfl
  rw [hz, e]
  have h0 : zIn.toList.drop (0 + cs.length) = [] := List.drop_eq_nil_of_le (by rw [h]; exact Nat.le_refl _)
  rw [h0]
  simp
theorem pIn_len (l : List Int) (bad : Bool) : (pIn l bad).2.1.length ≤ l.length :=
  Nat.le_trans (num_len _ _ _) (Nat.le_trans (pText_len _ _) (Nat.le_trans (num_len _ _ _) (took_len _ _ _)))
theorem pOut_len (l : List Int) (bad : Bool) : (pOut l bad).2.1.length ≤ l.length := Nat.le_trans (pText_len _ _) (num_len _ _ _)
theorem fold_out (cs : List Value) (h : cs.length = 2) : List.foldl (fun (cs : Array Value) (x : Value × Nat) => cs.setIfInBounds x.snd x.fst) #[Value.int IntKind.u64 0, Value.slice none 0 0] cs.zipIdx = cs.toArray := by
  match cs, h with
  | [a, b], _ => rfl
theorem Keeps.box {ts : List Nat} {w w' : World} {b t : Nat} {cs : Array Value} (h : Keeps ts w w') (ht : t ∈ ts) (hb : Box w b t cs) : Box w' b t cs := h.2 b t cs ht hb
theorem Keeps.sub {ts us : List Nat} {w w' : World} (h : Keeps us w w') (hs : ∀ t ∈ ts, t ∈ us) : Keeps ts w w' := ⟨h.1, fun b t cs ht _ hb => h.2 b t cs (hs t ht) hb⟩
theorem results_cell_row2 {P : Program} {fn : Func} {p u : Tmp} {ty : TypeId} (h : fn.results = #[.cell p ty, .tmp u]) (tmps : Array Value) (w : World) (g : Nat) (t : TypeId) (cs : Array Value) (fr : Nat × Nat) (d : TypeDesc) (b : Value)
    (hp : tmps.getD p undef = .pointer (some ⟨g, 0, none⟩)) (hb : tmps.getD u undef = b) (hg : w.heap[g]? = some (.cells cs t fr))
    (hu : P.underlying ty = some d) (hd : (match d with | .struct _ | .array _ _ => true | _ => false) = true) (hi : (P.info? ty).map (·.size) = some cs.size) :
    (results fn tmps).run P w = .ok (.tuple #[.agg cs, b]) w := by
  rw [results_cell_tmp h, hp, hb]
  simp [asAddr, run_loadVar_row w g t ty cs fr d hg hu hd hi]
/-- A whole row stored, as one step of a region that draws its order. -/
theorem step_store_row {P : Program} {ops : Array Oper} {o : Oper} {a : Act} {w : World} {K : Act → World → Prop} {Q : Exit → Act → World → Prop} {E : Prop} (hgd : o.guard = none) (ty : TypeId) (x y : Operand) (ho : o.op = .store ty x y)
    (g : Nat) (cells : Array Value) (hx : a.eval x = .pointer (some ⟨g, 0, none⟩)) (hy : a.eval y = .agg cells)
    (t : TypeId) (old : Array Value) (hg : w.heap[g]? = some (.cells old t (0, 0))) (hi : (P.info? ty).map (·.size) = some cells.size)
    (hold : old.size = cells.size) (h1 : cells.all (·.oneCell') = true)
    (h : K (a.put o.dst undef) (w.setRow g cells)) : if Region.wanted o (yielded ops a.tmps) = true then Oper.wp P o a w K Q else E := by
  have hwd : Region.wanted o (yielded ops a.tmps) = true := by simp [Region.wanted, hgd]
  rw [if_pos hwd]
  exact wp_store_row ty x y ho g cells hx hy t old hg hi hold h1 h
theorem InO.len {w : World} {B : Nat} {cs : List Value} {d : InD} (h : InO w B cs d) : cs.length = 36 := by
  obtain ⟨sv, wv, rfl, hf, _⟩ := h
  exact inCells_len hf sv wv
theorem OutO.len {w : World} {B : Nat} {cs : List Value} {d : OutD} (h : OutO w B cs d) : cs.length = 2 := by
  obtain ⟨sv, rfl, _⟩ := h
  rfl
theorem pMany_len {α : Type} {f : List Int → Bool → Rest α} (hf : ∀ l b, (f l b).2.1.length ≤ l.length) : ∀ (n : Nat) (l : List Int) (b : Bool), (pMany f n l b).2.1.length ≤ l.length
  | 0, _, _ => Nat.le_refl _
  | n + 1, l, b => Nat.le_trans (pMany_len hf n _ _) (hf l b)
theorem pWit_len (l : List Int) (bad : Bool) : (pWit l bad).2.1.length ≤ l.length := Nat.le_trans (pMany_len pText_len _ _ _) (count_len _ _ _)
theorem setWits_nil : ∀ ds : List InD, setWits ds [] = ds
  | [] => rfl
  | _ :: _ => rfl
theorem setWits_len : ∀ (ds : List InD) (xs : List (List (List Int))), (setWits ds xs).length = ds.length
  | [], [] => rfl
  | [], _ :: _ => rfl
  | _ :: _, [] => rfl
  | d :: ds, x :: xs => by simp [setWits, setWits_len ds xs]
/-- One input turned at its place. -/
def witAt (ds : List InD) (j : Nat) (x : List (List Int)) : List InD := ds.modify j (fun d => { d with wit := x })
theorem setWits_snoc : ∀ (ds : List InD) (xs : List (List (List Int))) (x : List (List Int)), xs.length < ds.length → setWits ds (xs ++ [x]) = witAt (setWits ds xs) xs.length x
  | d :: ds, [], x, _ => by simp [setWits, witAt, setWits_nil]
  | d :: ds, y :: ys, x, h => by
    simp only [List.length_cons] at h
    simp only [List.cons_append, setWits, List.length_cons, witAt, List.modify_succ_cons]
    congr 1
    exact setWits_snoc ds ys x (by omega)
  | [], _, _, h => by simp at h
theorem flatten_set {k : Nat} : ∀ (css : List (List Value)) (j i : Nat) (v : Value), (∀ c ∈ css, c.length = k) → j < css.length → i < k → css.flatten.set (j * k + i) v = (css.modify j (fun c => c.set i v)).flatten
  | c :: r, 0, i, v, hk, _, hi => by
    have hc : c.length = k := hk c (by simp)
    rw [List.flatten_cons, Nat.zero_mul, Nat.zero_add, List.set_append_left _ _ (by omega)]
    rfl
  | c :: r, j + 1, i, v, hk, hj, hi => by
    have hc : c.length = k := hk c (by simp)
    rw [List.flatten_cons, Nat.succ_mul, List.set_append_right _ _ (by omega), hc, show j * k + k + i - k = j * k + i by omega, flatten_set r j i v (fun c hc => hk c (List.mem_cons_of_mem _ hc)) (by simpa using hj) hi]
    rfl
  | [], j, i, v, _, h, _ => by simp at h
theorem inCells_setWit (d : InD) (hf : d.Fit) (sv wv wv' : Value) (x : List (List Int)) : (inCells d sv wv).set 35 wv' = inCells { d with wit := x } sv wv' := by
  have hp : (byteVals d.prev).length = 32 := by simp [byteVals, hf.plen]
  unfold inCells
  rw [List.set_append_right _ _ (by omega), hp]
  rfl
theorem ownMany_form {w : World} {B k e : Nat} {α : Type} {R : List Value → α → Prop} {A : Option Addr} {n c : Nat} {ds : List α} (h : OwnMany k e R w B (.slice A n c) ds) (hn : 0 < ds.length) :
    ∃ gi cur, A = some ⟨gi, 0, none⟩ ∧ B ≤ gi ∧ Box w gi e cur ∧ ds.length ≤ c ∧ cur.size = c * k := by
  obtain ⟨css, ho, _⟩ := h
  rcases ho.2 with ⟨hv, h0⟩ | ⟨g, cap, cur, hv, hB, hx, h1, h2, h3, _⟩
  · omega
  · injection hv with e1 e2 e3
    subst e1
    subst e3
    exact ⟨g, cur, rfl, hB, hx, h1, h3⟩
theorem ownMany_cap {w : World} {B k e : Nat} {α : Type} {R : List Value → α → Prop} {A : Option Addr} {n c : Nat} {ds : List α} (h : OwnMany k e R w B (.slice A n c) ds) (hn : ds.length = n) : n ≤ c := by
  obtain ⟨css, ho, _⟩ := h
  rcases ho.2 with ⟨hv, h0⟩ | ⟨g, cap, cur, hv, hB, hx, h1, _⟩
  · omega
  · injection hv with e1 e2 e3
    omega
set_option maxRecDepth 100000 in
theorem ownMany_cell {w : World} {B G G4 t : Nat} {R : List Value → InD → Prop} {A : Option Addr} {n c : Nat} {ds : List InD} {z z4 : Array Value} (h : OwnMany 36 58 R w B (.slice A n c) ds) (hb : Box w G t z) (hb4 : Box w G4 t z4) (ht : t ≠ 58) {j : Nat} (hj : j < ds.length) :
    ∃ gi, A = some ⟨gi, 0, none⟩ ∧ ∀ (w' : World), Keeps [58] w w' → (∃ u, w'.cell? ⟨gi, j * 36 + 35, none⟩ = some u) ∧ w'.frozen? ⟨gi, j * 36 + 35, none⟩ = false ∧ gi ≠ G4 ∧ gi ≠ G ∧ B ≤ gi := by
  obtain ⟨gi, cur, rfl, hB, hx, h1, h2⟩ := ownMany_form h (by omega)
  refine ⟨gi, rfl, fun w' hk => ?_⟩
  have hx' : Box w' gi 58 cur := hk.2 gi _ cur (by simp) hx
  have hap : ∀ (G : Nat) (z : Array Value), Box w G t z → gi ≠ G := fun G z hz e => by
    subst e
    have e1 : w.heap[gi]? = some (.cells cur 58 (0, 0)) := hx
    have e2 : w.heap[gi]? = some (.cells z t (0, 0)) := hz
    rw [e1] at e2
    injection e2 with e2
    injection e2 with _ e3
    exact ht e3.symm
  refine ⟨⟨_, (hx'.cell _).trans (Array.getElem?_eq_getElem (by rw [h2]; omega))⟩, hx'.warm _, hap _ _ hb4, hap _ _ hb, hB⟩
set_option maxRecDepth 100000 in
theorem ownMany_set_keeps {ts us : List Nat} {w w5 : World} {B : Nat} {R : List Value → InD → Prop} {gi : Nat} {n c : Nat} {ds : List InD} (h : OwnMany 36 58 R w B (.slice (some ⟨gi, 0, none⟩) n c) ds) (hk : Keeps us w w5) (hi : 58 ∈ us) (he : 58 ∉ ts) (i : Nat) (u : Value) :
    Keeps ts w5 (w5.setCell ⟨gi, i, none⟩ u) := by
  obtain ⟨css, ho, _⟩ := h
  rcases ho.2 with ⟨hv, h0⟩ | ⟨g, cap, cur, hv, hB, hx, h1, _⟩
  · cases hv
  · injection hv with e1 e2 e3
    injection e1 with e1
    injection e1 with e1 _ _
    subst e1
    exact Keeps.of_set (hk.2 _ _ _ hi hx) he i u
set_option maxRecDepth 100000 in
theorem ownMany_setWit {w : World} {B : Nat} {gi n c : Nat} {ds : List InD} (h : OwnMany 36 58 (InO w B) w B (.slice (some ⟨gi, 0, none⟩) n c) ds) {j : Nat} (hj : j < ds.length) {wv : Value} {x : List (List Int)} (hwv : OwnRows w B wv x) :
    OwnMany 36 58 (InO (w.setCell ⟨gi, j * 36 + 35, none⟩ wv) B) (w.setCell ⟨gi, j * 36 + 35, none⟩ wv) B (.slice (some ⟨gi, 0, none⟩) n c) (witAt ds j x) := by
  have hkp : Keeps [5, 55] w (w.setCell ⟨gi, j * 36 + 35, none⟩ wv) := ownMany_set_keeps h (Keeps.refl [58] w) (by simp) (by decide) _ _
  obtain ⟨css, ho, hcl, hlen, hr⟩ := h.lens
  rcases ho.2 with ⟨hv, h0⟩ | ⟨g, cap, cur, hv, hB, hx, h1, h2, h3, h4⟩
  · omega
  · injection hv with e1 e2 e3
    injection e1 with e1
    injection e1 with e1 _ _
    subst e1
    subst e3
    have hwl : (witAt ds j x).length = ds.length := by simp [witAt]
    refine ⟨css.modify j (fun cs => cs.set 35 wv), ⟨?_, .inr ⟨gi, c, _, by rw [hwl, e2], hB, Box.set hx _ _, by rw [hwl]; exact h1, h2, by rw [Array.size_setIfInBounds]; exact h3, ?_⟩⟩, by rw [List.length_modify, hwl, hcl], fun i cs d q1 q2 => ?_⟩
    · rw [hwl, ← flatten_set css j 35 wv hlen (by omega) (by omega), List.length_set]
      exact ho.1
    · rw [hwl, ← flatten_set css j 35 wv hlen (by omega) (by omega), ← h4, Array.toList_setIfInBounds, List.take_set]
    · rw [List.getElem?_modify] at q1
      unfold witAt at q2
      rw [List.getElem?_modify] at q2
      cases hc : css[i]? with
      | none => rw [hc] at q1; simp at q1
      | some cs0 =>
        cases hd : ds[i]? with
        | none => rw [hd] at q2; simp at q2
        | some d0 =>
          rw [hc] at q1
          rw [hd] at q2
          have hR := hr i cs0 d0 hc hd
          have hL := hlen cs0 (List.mem_of_getElem? hc)
          by_cases hij : j = i
          · simp only [hij, if_true, Option.map_eq_map, Option.map_some, Option.some.injEq] at q1 q2
            subst q1
            subst q2
            obtain ⟨sv, wv0, rfl, hf, a1, a2, a3⟩ := hR
            refine ⟨by rw [List.length_set]; exact hL, sv, wv, inCells_setWit d0 hf sv wv0 wv x, ⟨hf.plen, hf.pbys, hf.vlt, hf.slt⟩, a1.keeps hkp (by decide), a2, rows_turn hwv hkp (by decide) (by decide) (Nat.le_refl _)⟩
          · simp only [if_neg hij, Option.map_eq_map, Option.map_some, Option.some.injEq] at q1 q2
            subst q1
            subst q2
            exact ⟨hL, hR.turn hkp (by decide) (by decide) (Nat.le_refl _)⟩
end

section
open Go.RowKit

def pRead (l : List Int) (bad : Bool) : Rest (TxD × Bool) := if (pTx l bad).1.2 then (((pTx l bad).1.1, true), (pTx l bad).2) else ((noTx, false), ([], true))
theorem Below.setRow_self {B G : Nat} {w : World} (h : B ≤ G) (cs : Array Value) : Below B w (w.setRow G cs) := ⟨rfl, rfl, rfl, by simp, fun k hk => setRow_other w G k cs (by omega)⟩
theorem pTx_good {l : List Int} {bad : Bool} (h : (pTx l bad).1.2 = true) : (pTx l bad).2.2 = false := by
  have hb : ∀ (v : Nat) (wh : Bool) (c : Rest Nat), (pBody v wh c).1.2 = true → (pBody v wh c).2.2 = false := fun v wh c h => by
    unfold pBody at h ⊢
    simp only [Bool.and_eq_true, Bool.not_eq_true'] at h ⊢
    exact h.1
  unfold pTx at h ⊢
  simp only at h ⊢
  split at h
  · rename_i h0
    rw [if_pos h0]
    split at h
    · rename_i h1
      rw [if_pos h1]
      exact hb _ _ _ h
    · cases h
  · rename_i h0
    rw [if_neg h0]
    exact hb _ _ _ h
def pParse (l : List Int) : TxD × Bool := if (pRead l false).1.2 && (pRead l false).2.1.isEmpty then ((pRead l false).1.1, true) else (noTx, false)
def ParP (x : TxD × Bool) (w : World) (e : Ending) (w' : World) : Prop := ∃ v, e = .returned (.tuple #[v, .bool x.2]) ∧ Below w.heap.size w w' ∧ TxO w' w.heap.size v x.1
end

section
open Go.RowKit

/-- An output whose script lies in a block of bytes. -/
def OutF (w : World) (B : Nat) (cs : List Value) (d : OutD) : Prop := ∃ sv, cs = [.int .u64 d.value, sv] ∧ d.value < 18446744073709551616 ∧ RbF w B sv d.script
set_option maxRecDepth 100000 in
theorem OutF.keeps {ts : List Nat} {w w' : World} {B : Nat} {cs : List Value} {d : OutD} (h : OutF w B cs d) (hk : Keeps ts w w') (hu : 5 ∈ ts) : OutF w' B cs d := by
  obtain ⟨sv, rfl, h1, h2⟩ := h
  exact ⟨sv, rfl, h1, h2.keeps hk hu⟩
theorem OutF.less {w : World} {B B' : Nat} {cs : List Value} {d : OutD} (h : OutF w B cs d) (hB : B' ≤ B) : OutF w B' cs d := by
  obtain ⟨sv, rfl, h1, h2⟩ := h
  exact ⟨sv, rfl, h1, h2.less hB⟩
theorem OutF.outR {w : World} {B : Nat} {cs : List Value} {d : OutD} (h : OutF w B cs d) : OutR w cs d := by
  obtain ⟨sv, rfl, h1, h2⟩ := h
  exact ⟨sv, rfl, h1, h2.rbT.1⟩
/-- A transaction in memory of the call's own, its outputs' scripts in blocks of bytes. -/
def TxF (w : World) (B : Nat) (v : Value) (t : TxD) : Prop := ∃ iv ov, v = .agg #[.int .u32 t.version, iv, ov, .int .u32 t.lock] ∧ t.version < 4294967296 ∧ t.lock < 4294967296 ∧ OwnMany 36 58 (InO w B) w B iv t.ins ∧ OwnMany 2 61 (OutF w B) w B ov t.outs
theorem TxF.txR {w : World} {B : Nat} {v : Value} {t : TxD} (h : TxF w B v t) : TxR w v t := by
  obtain ⟨iv, ov, rfl, h1, h2, h3, h4⟩ := h
  exact ⟨iv, ov, rfl, h1, h2, OwnMany.many h3 fun _ _ h => h.inR, OwnMany.many h4 fun _ _ h => h.outR⟩
set_option maxRecDepth 100000 in
theorem TxF.turn {ts : List Nat} {w w' : World} {B B' : Nat} {v : Value} {t : TxD} (h : TxF w B v t) (hk : Keeps ts w w') (h8 : 5 ∈ ts) (hb : 55 ∈ ts) (hi : 58 ∈ ts) (ho : 61 ∈ ts) (hB : B' ≤ B) : TxF w' B' v t := by
  obtain ⟨iv, ov, rfl, h1, h2, h3, h4⟩ := h
  exact ⟨iv, ov, rfl, h1, h2, OwnMany.turn h3 hk hi hB fun _ _ h => h.turn hk h8 hb hB, OwnMany.turn h4 hk ho hB fun _ _ h => (h.keeps hk h8).less hB⟩

/-- The inputs, and the outputs, of the law's two numbers. -/
def inOf (m : Int) (j : Nat) : InD :=
  ⟨(m / 2 ^ (3 * j) % 256) :: (zeros 30 ++ [(j : Int)]), (m / 2 ^ (2 * j) % 4).toNat, if m / 2 ^ 18 % 4 = 0 then [m / 2 ^ 4 % 256] else [], (4294967295 - m / 2 ^ (8 + j) % 4).toNat,
    if m / 2 ^ (12 + j) % 4 = 0 then [[m % 256], []].take ((m / 2 ^ 16 % 2).toNat + 1) else []⟩
def outOf (n m : Int) (j : Nat) : OutD := ⟨(n / 2 ^ (12 + j) % 4096).toNat, scriptOf (m / 2 ^ j)⟩
def txOf (n m : Int) : TxD :=
  ⟨(n % 4 + 1).toNat, (List.range ((n / 256 % 4).toNat + 1)).map (inOf m), (List.range ((n / 1024 % 4).toNat + 1)).map (outOf n m), (n / 4 % 2 * (n / 8 % 32)).toNat⟩
def TxP (t : TxD) (w : World) (e : Ending) (w' : World) : Prop := ∃ v, e = .returned v ∧ TxF w' w.heap.size v t ∧ Below w.heap.size w w'
theorem inOf_is0 : True := trivial
theorem RbF.slice5 {w : World} {B : Nat} {v : Value} {l : List Int} (h : RbF w B v l) : ∃ A c, v = .slice A l.length c := by
  obtain ⟨⟨⟨A, c, rfl, _⟩, _⟩, _⟩ := h.rbT
  exact ⟨A, c, rfl⟩
theorem outF_one {w : World} {B : Nat} {cs : List Value} {d : OutD} (h : OutF w B cs d) : ∀ u ∈ cs, u.oneCell' = true := h.outR.one
theorem Int.ediv_le_self_of (m d : Int) (hm : -9223372036854775808 ≤ m ∧ m ≤ 9223372036854775807) (hd : 0 < d) : -9223372036854775808 ≤ m / d ∧ m / d ≤ 9223372036854775807 := by
  constructor
  · rw [Int.le_ediv_iff_mul_le hd]
    have : (9223372036854775808 : Int) ≤ 9223372036854775808 * d := by omega
    omega
  · rw [← Int.lt_add_one_iff, Int.ediv_lt_iff_lt_mul hd]
    have : (9223372036854775808 : Int) ≤ (9223372036854775807 + 1) * d := by omega
    omega
def l36 (v q : Nat) : Array Value := (inCells ⟨List.replicate 32 0, v, [], q, []⟩ (.slice none 0 0) (.slice none 0 0)).toArray
theorem cells_is (x3 j v2 s8 : Nat) (sv wv : Value) (sc : List Int) (wt : List (List Int)) :
    (((((l36 v2 s8).setIfInBounds 0 (Value.int IntKind.u8 (x3 : Int))).setIfInBounds 31 (Value.int IntKind.u8 (j : Int))).setIfInBounds 35 wv).setIfInBounds 33 sv) = (inCells ⟨(x3 : Int) :: (zeros 30 ++ [(j : Int)]), v2, sc, s8, wt⟩ sv wv).toArray := by rfl
theorem set_same {C : Array Value} {i : Nat} {v : Value} (h : C[i]? = some v) : C.setIfInBounds i v = C := by
  apply Array.ext_getElem?
  intro k
  rw [Array.getElem?_setIfInBounds]
  split
  · rename_i hk
    subst hk
    split
    · exact h.symm
    · rename_i hn
      rw [Array.getElem?_eq_none (by omega)] at h
      cases h
  · rfl
theorem box_at (W : World) (n : Nat) (t : Nat) (cs : Array Value) (h : n = W.heap.size) : Box (W.alloc (.cells cs t)) n t cs := by rw [h]; exact Box.fresh W t cs
theorem box_past {W : World} {b t : Nat} {cs : Array Value} {o : Obj} (h : Box W b t cs) : Box (W.alloc o) b t cs := h.below ((Below.refl _ _).alloc (Nat.le_refl _) _)
theorem bys_one {x : Nat} (h : x < 256) : Bys [(x : Int)] := fun y hy => by rw [List.mem_singleton.1 hy]; omega
set_option maxRecDepth 100000 in
theorem own_one {W : World} {B g : Nat} {x' : Nat} (hb : Box W g 5 #[.int .u8 (x' : Int)]) (hB : B ≤ g) (x : Nat) (hx : x = x' := by rfl) : Own W B 5 (.slice (some ⟨g, 0, none⟩) 1 1) [(x : Int)] := by
  subst hx
  exact ⟨rfl, .inr ⟨g, 1, _, rfl, hB, hb, Nat.le_refl _, by unfold maxLen; omega, rfl, rfl⟩⟩
set_option maxRecDepth 100000 in
theorem rows_lit {W : World} {B ga gb k xm : Nat} (ha : Box W ga 5 #[.int .u8 (xm : Int)]) (hb : Box W gb 55 #[.slice (some ⟨ga, 0, none⟩) 1 1, .slice none 0 0]) (hBa : B ≤ ga) (hBb : B ≤ gb) (hk : k ≤ 1) (hx : xm < 256) :
    OwnRows W B (.slice (some ⟨gb, 0, none⟩) (k + 1) 2) ([[(xm : Int)], []].take (k + 1)) := by
  have h1 : RowO W B [.slice (some ⟨ga, 0, none⟩) 1 1] [(xm : Int)] := ⟨_, rfl, own_one ha hBa xm, bys_one hx⟩
  have h2 : RowO W B [.slice none 0 0] [] := ⟨_, rfl, own_nil _ _ _, Bys.nil⟩
  rcases (show k = 0 ∨ k = 1 by omega) with rfl | rfl
  · refine ⟨[[.slice (some ⟨ga, 0, none⟩) 1 1]], ⟨rfl, .inr ⟨gb, 2, _, rfl, hBb, hb, by simp, by unfold maxLen; omega, rfl, rfl⟩⟩, rfl, fun i cs d e1 e2 => ?_⟩
    match i, e1, e2 with
    | 0, e1, e2 =>
      simp at e1 e2
      subst e1
      subst e2
      exact ⟨rfl, h1⟩
    | i + 1, e1, _ => simp at e1
  · refine ⟨[[.slice (some ⟨ga, 0, none⟩) 1 1], [.slice none 0 0]], ⟨rfl, .inr ⟨gb, 2, _, rfl, hBb, hb, by simp, by unfold maxLen; omega, rfl, rfl⟩⟩, rfl, fun i cs d e1 e2 => ?_⟩
    match i, e1, e2 with
    | 0, e1, e2 =>
      simp at e1 e2
      subst e1
      subst e2
      exact ⟨rfl, h1⟩
    | 1, e1, e2 =>
      simp at e1 e2
      subst e1
      subst e2
      exact ⟨rfl, h2⟩
    | i + 2, e1, _ => simp at e1
set_option maxRecDepth 100000 in
theorem inO_of {W : World} {B x3 v2 s8 : Nat} {ji : Int} {sc : List Int} {wt : List (List Int)} {sv wv : Value} (h3 : x3 < 256) (hj : 0 ≤ ji ∧ ji ≤ 255) (h2 : v2 < 4) (h8 : s8 < 4294967296) (hs : Own W B 5 sv sc) (hy : Bys sc) (hw : OwnRows W B wv wt) :
    InO W B (inCells ⟨(x3 : Int) :: (zeros 30 ++ [ji]), v2, sc, s8, wt⟩ sv wv) ⟨(x3 : Int) :: (zeros 30 ++ [ji]), v2, sc, s8, wt⟩ := by
  refine ⟨sv, wv, rfl, ⟨by simp [zeros], fun y hy => ?_, by show v2 < 4294967296; omega, h8⟩, hs, hy, hw⟩
  simp only [List.mem_cons, List.mem_append, List.not_mem_nil, or_false] at hy
  rcases hy with rfl | hy | rfl
  · omega
  · exact zeros_bys 30 y hy
  · exact hj
theorem inCells_one (d : InD) (sv wv : Value) (hs : sv.oneCell' = true) (hw : wv.oneCell' = true) : ∀ u ∈ inCells d sv wv, u.oneCell' = true := by
  intro u hu
  rcases List.mem_append.1 hu with hu | hu
  · exact byteVals_one _ u hu
  · simp only [List.mem_cons, List.not_mem_nil, or_false] at hu
    rcases hu with rfl | rfl | rfl | rfl
    · rfl
    · exact hs
    · rfl
    · exact hw

theorem inOf_is (m : Int) (j x3 v2 v8 s8 v12 k16 v18 xm x4 : Nat) (ji : Int) (h3 : m / 2 ^ (3 * j) % 256 = (x3 : Int)) (h2 : m / 2 ^ (2 * j) % 4 = (v2 : Int)) (h8 : m / 2 ^ (8 + j) % 4 = (v8 : Int)) (hs : (4294967295 : Int) - (v8 : Int) = (s8 : Int)) (h12 : m / 2 ^ (12 + j) % 4 = (v12 : Int))
    (h16 : m / 65536 % 2 = (k16 : Int)) (h18 : m / 262144 % 4 = (v18 : Int)) (hm : m % 256 = (xm : Int)) (h4 : m / 16 % 256 = (x4 : Int)) (hj : ji = (j : Int)) :
    inOf m j = ⟨(x3 : Int) :: (zeros 30 ++ [ji]), v2, if v18 = 0 then [(x4 : Int)] else [], s8, if v12 = 0 then [[(xm : Int)], []].take (k16 + 1) else []⟩ := by
  unfold inOf
  rw [h3, h2, h8, hs, h12, show (2 : Int) ^ 16 = 65536 from rfl, show (2 : Int) ^ 18 = 262144 from rfl, show (2 : Int) ^ 4 = 16 from rfl, h16, h18, hm, h4, hj]
  simp only [Int.toNat_natCast, Int.natCast_eq_zero]

set_option maxRecDepth 1000000 in
set_option maxHeartbeats 40000000 in
theorem lawTx_any (w : World) (n m : Int) (hn : -9223372036854775808 ≤ n ∧ n ≤ 9223372036854775807) (hm : -9223372036854775808 ≤ m ∧ m ≤ 9223372036854775807) : Calls Try.prog 7 #[.int .i64 n, .int .i64 m] w (TxP (txOf n m) w) := by
  obtain ⟨i1, hi1, hz1, hs1, hb1⟩ := info_parts3 infoInZ
  obtain ⟨i2, hi2, hz2, hs2, hb2⟩ := info_parts3 infoOutZ
  have n3 : bits BinOp.and IntKind.i64 n 3 = n % 4 := and_mask n 2 (by omega)
  have n41 : bits BinOp.and IntKind.i64 (n / 4) 1 = n / 4 % 2 := and_mask (n / 4) 1 (by omega)
  have n831 : bits BinOp.and IntKind.i64 (n / 8) 31 = n / 8 % 32 := and_mask (n / 8) 5 (by omega)
  have n256 : bits BinOp.and IntKind.i64 (n / 256) 3 = n / 256 % 4 := and_mask (n / 256) 2 (by omega)
  have n1024 : bits BinOp.and IntKind.i64 (n / 1024) 3 = n / 1024 % 4 := and_mask (n / 1024) 2 (by omega)
  have w4 : IntKind.i64.wrap (n / 4) = n / 4 := by rw [IntKind.wrap_i64]; omega
  have w8 : IntKind.i64.wrap (n / 8) = n / 8 := by rw [IntKind.wrap_i64]; omega
  have w256 : IntKind.i64.wrap (n / 256) = n / 256 := by rw [IntKind.wrap_i64]; omega
  have w1024 : IntKind.i64.wrap (n / 1024) = n / 1024 := by rw [IntKind.wrap_i64]; omega
  obtain ⟨a, ha⟩ : ∃ a : Nat, n % 4 = (a : Int) := ⟨(n % 4).toNat, by omega⟩
  obtain ⟨b, hb⟩ : ∃ b : Nat, n / 4 % 2 = (b : Int) := ⟨(n / 4 % 2).toNat, by omega⟩
  obtain ⟨c, hc⟩ : ∃ c : Nat, n / 8 % 32 = (c : Int) := ⟨(n / 8 % 32).toNat, by omega⟩
  obtain ⟨p, hp⟩ : ∃ p : Nat, n / 256 % 4 = (p : Int) := ⟨(n / 256 % 4).toNat, by omega⟩
  obtain ⟨q, hq⟩ : ∃ q : Nat, n / 1024 % 4 = (q : Int) := ⟨(n / 1024 % 4).toNat, by omega⟩
  have ha3 : a ≤ 3 := by omega
  have hp3 : p ≤ 3 := by omega
  have hq3 : q ≤ 3 := by omega
  obtain ⟨d, hd, hd31⟩ : ∃ d : Nat, (b : Int) * (c : Int) = (d : Int) ∧ d ≤ 31 := by
    rcases (show b = 0 ∨ b = 1 by omega) with rfl | rfl
    · exact ⟨0, by simp, by omega⟩
    · exact ⟨c, by simp, by omega⟩
  have HT : Kp (txOf n m = ⟨a + 1, (List.range (p + 1)).map (inOf m), (List.range (q + 1)).map (outOf n m), d⟩) := ⟨by
    unfold txOf
    rw [ha, hb, hc, hp, hq, hd]
    congr 1⟩
  rw [ha] at n3
  rw [hb] at n41
  rw [hc] at n831
  rw [hp] at n256
  rw [hq] at n1024
  have HZ : Kp (#[Value.int IntKind.u32 0, Value.slice none 0 0, Value.slice none 0 0, Value.int IntKind.u32 0] = zTx) := ⟨rfl⟩
  have HN := Kp.mk hn
  have HM := Kp.mk hm
  clear ha hb hc hp hq hn
  go_enter Try.func7, Try.ntmps7
  go_wp2_with fail
  rw [HZ.out]
  obtain ⟨W1, hW1⟩ : ∃ W1, (w.alloc (.cells zTx 30)).alloc (.cells #[.int .u32 ((a : Int) + 1), .slice none 0 0, .slice none 0 0, .int .u32 (d : Int)] 30) = W1 := ⟨_, rfl⟩
  have hx2 : Box W1 w.heap.size 30 zTx := by rw [← hW1]; exact heap_alloc2_old w _ _
  have hx5 : Box W1 (w.heap.size + 1) 30 #[.int .u32 ((a : Int) + 1), .slice none 0 0, .slice none 0 0, .int .u32 (d : Int)] := by rw [← hW1]; exact heap_alloc2_new w _ _
  have hbW : Below w.heap.size w W1 := by rw [← hW1]; exact ((Below.refl _ _).alloc (Nat.le_refl _) _).alloc (by simp) _
  have HX1 := Kp.mk (And.intro hx2 hx5)
  have HB1 := Kp.mk hbW
  clear hx2 hx5 hbW n3 n41 n831
  try rw [hW1]
  clear hW1
  go_loopw [6, 7] (fun i _ wr => ∃ (j : Nat) (is : List InD) (iv : Value), j ≤ p + 1 ∧ i = .int .i64 j ∧ Kp (is = (List.range j).map (inOf m) ∧ OwnMany 36 58 (InO wr w.heap.size) wr w.heap.size iv is ∧ Box wr w.heap.size 30 zTx ∧ Box wr (w.heap.size + 1) 30 #[.int .u32 ((a : Int) + 1), iv, .slice none 0 0, .int .u32 (d : Int)] ∧ Below w.heap.size w wr)) (fun i _ _ => p + 1 - (intOf i).toNat)
  case atStart => exact ⟨0, [], _, by omega, rfl, ⟨rfl, OwnMany.nil _ _ _ _ _, HX1.out.1, HX1.out.2, HB1.out⟩⟩
  case round =>
    obtain ⟨j, is, iv, hj, rfl, ⟨his, hown, hx2, hx5, hbw⟩⟩ := hrel
    by_cases hjp : j < p + 1
    · have HOWN := Kp.mk hown
      have HX := Kp.mk (And.intro hx2 hx5)
      have HBW := Kp.mk hbw
      have hjp' : (j : Int) < (p : Int) + 1 := by omega
      have HL : Kp (is.length = j) := ⟨by rw [his]; simp⟩
      have HIS := Kp.mk his
      have HJP : Kp (j < p + 1) := ⟨hjp⟩
      obtain ⟨Ai, ci, rfl⟩ := hown.slice
      have hc5 := hx5.cell 1
      have hz5 : w.heap.size + 1 < wr.heap.size := hx5.lt
      clear hown hx2 hx5 hbw his
      have hj3 : (j : Int) ≤ 3 := by omega
      have bnd : ∀ k, k ≤ 62 → IntKind.i64.wrap (m / 2 ^ k) = m / 2 ^ k := fun k _ => by
        rw [IntKind.wrap_i64]
        have hp : (0 : Int) < 2 ^ k := Int.pow_pos (by omega)
        have h1 := Int.ediv_le_self_of m (2 ^ k) HM.out hp
        omega
      obtain ⟨v2, hv2, hv2l⟩ : ∃ v2 : Nat, m / 2 ^ (2 * j) % 4 = (v2 : Int) ∧ v2 < 4 := ⟨(m / 2 ^ (2 * j) % 4).toNat, by omega, by omega⟩
      obtain ⟨v8, hv8⟩ : ∃ v8 : Nat, m / 2 ^ (8 + j) % 4 = (v8 : Int) := ⟨(m / 2 ^ (8 + j) % 4).toNat, by omega⟩
      obtain ⟨v12, hv12⟩ : ∃ v12 : Nat, m / 2 ^ (12 + j) % 4 = (v12 : Int) := ⟨(m / 2 ^ (12 + j) % 4).toNat, by omega⟩
      obtain ⟨x3, hx3, hx3l⟩ : ∃ x3 : Nat, m / 2 ^ (3 * j) % 256 = (x3 : Int) ∧ x3 < 256 := ⟨(m / 2 ^ (3 * j) % 256).toNat, by omega, by omega⟩
      have b2 : bits BinOp.and IntKind.i64 (m / 2 ^ (2 * j)) 3 = (v2 : Int) := by rw [← hv2]; exact and_mask _ 2 (by omega)
      have b8 : bits BinOp.and IntKind.i64 (m / 2 ^ (8 + j)) 3 = (v8 : Int) := by rw [← hv8]; exact and_mask _ 2 (by omega)
      have b12 : bits BinOp.and IntKind.i64 (m / 2 ^ (12 + j)) 3 = (v12 : Int) := by rw [← hv12]; exact and_mask _ 2 (by omega)
      obtain ⟨s8, hs8, hs8l⟩ : ∃ s8 : Nat, (4294967295 : Int) - (v8 : Int) = (s8 : Int) ∧ s8 < 4294967296 := ⟨4294967295 - v8, by omega, by omega⟩
      have HNUM : Kp (v2 < 4 ∧ s8 < 4294967296 ∧ x3 < 256) := ⟨hv2l, hs8l, hx3l⟩
      have HEQ : Kp (m / 2 ^ (3 * j) % 256 = (x3 : Int) ∧ m / 2 ^ (2 * j) % 4 = (v2 : Int) ∧ m / 2 ^ (8 + j) % 4 = (v8 : Int) ∧ (4294967295 : Int) - (v8 : Int) = (s8 : Int) ∧ m / 2 ^ (12 + j) % 4 = (v12 : Int)) := ⟨hx3, hv2, hv8, hs8, hv12⟩
      have hv2b : (v2 : Int) ≤ 3 := by omega
      have hs8b : (s8 : Int) ≤ 4294967295 := by omega
      have hL0 : (l36 v2 s8)[0]? = some (.int .u8 0) := rfl
      have hL31 : (l36 v2 s8)[31]? = some (.int .u8 0) := rfl
      have HI36 : Kp ((Try.prog.info? 58).map (·.size) = some (l36 v2 s8).size) := ⟨sizeIn⟩
      have HONE36 : Kp ((l36 v2 s8).all (·.oneCell') = true) := ⟨all_oneCell_toArray (inCells_one _ _ _ rfl rfl)⟩
      clear hv2 hv8 hv12 hv2l hs8l hx3l bnd
      go_upto_if 64 with (refine wpList_store_fresh rfl 58 (.tmp 7) (.tmp 45) rfl _ (l36 v2 s8) wr.heap.size rfl rfl rfl HI36.out rfl HONE36.out ?_)
      generalize hC1 : ((l36 v2 s8).setIfInBounds 0 (Value.int IntKind.u8 (x3 : Int))).setIfInBounds 31 (Value.int IntKind.u8 (j : Int)) = C1
      have hC33 : C1[33]? = some (.slice none 0 0) := by rw [← hC1]; rfl
      have hC35 : C1[35]? = some (.slice none 0 0) := by rw [← hC1]; rfl
      have HC1 := Kp.mk hC1
      clear hC1 hL0 hL31 b2 b8 hs8 hx3 hv2b hs8b
      have hbx : Below wr.heap.size wr (wr.alloc (.cells C1 58)) := (Below.refl _ _).alloc (Nat.le_refl _) _
      have HBX := Kp.mk hbx
      clear hbx
      go_cut [] (fun wx => ∃ (wv : Value) (wt : List (List Int)), Kp (wt = (if v12 = 0 then [[((m % 256).toNat : Int)], []].take ((m / 65536 % 2).toNat + 1) else []) ∧ OwnRows wx w.heap.size wv wt ∧ Box wx wr.heap.size 58 (C1.setIfInBounds 35 wv) ∧ Below wr.heap.size wr wx))
      case first =>
        by_cases h12 : v12 = 0
        · subst h12
          rw [show ((0 : Nat) : Int) = 0 from rfl] at b12
          obtain ⟨k16, hk16, hk16l⟩ : ∃ k : Nat, m / 65536 % 2 = (k : Int) ∧ k ≤ 1 := ⟨(m / 65536 % 2).toNat, by omega, by omega⟩
          obtain ⟨xm, hxm, hxml⟩ : ∃ x : Nat, m % 256 = (x : Int) ∧ x < 256 := ⟨(m % 256).toNat, by omega, by omega⟩
          have b16 : bits BinOp.and IntKind.i64 (m / 65536) 1 = (k16 : Int) := by rw [← hk16]; exact and_mask _ 1 (by omega)
          have w16 : IntKind.i64.wrap (m / 65536) = m / 65536 := by rw [IntKind.wrap_i64]; have := HM.out; omega
          have um : IntKind.u8.wrap m = (xm : Int) := by rw [← hxm]; simp [IntKind.wrap, IntKind.bits, IntKind.signed]
          have hPOST : Kp (OwnRows (((wr.alloc (.cells (C1.setIfInBounds 35 (.slice (some ⟨wr.heap.size + 1 + 1, 0, none⟩) (k16 + 1) 2)) 58)).alloc (.cells #[.int .u8 (xm : Int)] 5)).alloc (.cells #[.slice (some ⟨wr.heap.size + 1, 0, none⟩) 1 1, .slice none 0 0] 55)) w.heap.size (.slice (some ⟨wr.heap.size + 1 + 1, 0, none⟩) (k16 + 1) 2) ([[(xm : Int)], []].take (k16 + 1)) ∧ Box (((wr.alloc (.cells (C1.setIfInBounds 35 (.slice (some ⟨wr.heap.size + 1 + 1, 0, none⟩) (k16 + 1) 2)) 58)).alloc (.cells #[.int .u8 (xm : Int)] 5)).alloc (.cells #[.slice (some ⟨wr.heap.size + 1, 0, none⟩) 1 1, .slice none 0 0] 55)) wr.heap.size 58 (C1.setIfInBounds 35 (.slice (some ⟨wr.heap.size + 1 + 1, 0, none⟩) (k16 + 1) 2)) ∧ Below wr.heap.size wr (((wr.alloc (.cells (C1.setIfInBounds 35 (.slice (some ⟨wr.heap.size + 1 + 1, 0, none⟩) (k16 + 1) 2)) 58)).alloc (.cells #[.int .u8 (xm : Int)] 5)).alloc (.cells #[.slice (some ⟨wr.heap.size + 1, 0, none⟩) 1 1, .slice none 0 0] 55))) := by
            have hsz := HBW.out.size
            refine ⟨rows_lit (box_past (box_at _ _ _ _ (by simp only [alloc_size]))) (box_at _ _ _ _ (by simp only [alloc_size])) (by omega) (by omega) hk16l hxml, box_past (box_past (box_at _ _ _ _ rfl)), ((Below.refl _ _).alloc (Nat.le_refl _) _).alloc (by simp only [alloc_size]; omega) _ |>.alloc (by simp only [alloc_size]; omega) _⟩
          have HKX : Kp ((if 0 = 0 then [[((m % 256).toNat : Int)], []].take ((m / 65536 % 2).toNat + 1) else []) = [[(xm : Int)], []].take (k16 + 1)) := ⟨by rw [hxm, hk16]; simp⟩
          clear hk16 hxm
          go_wp2
          go_meet
          exact ⟨_, _, ⟨HKX.out.symm, hPOST.out.1, hPOST.out.2.1, hPOST.out.2.2⟩⟩
        · have e12 : ((v12 : Int) == 0) = false := by rw [beq_eq_false_iff_ne]; omega
          have hPOST : Kp (Box (wr.alloc (.cells C1 58)) wr.heap.size 58 (C1.setIfInBounds 35 (.slice none 0 0))) := ⟨by rw [set_same hC35]; exact Box.fresh _ _ _⟩
          have H12 := Kp.mk h12
          clear h12
          go_wp2
          go_meet
          exact ⟨_, _, ⟨(if_neg H12.out).symm, OwnMany.nil _ _ _ _ _, hPOST.out, HBX.out⟩⟩
      case rest =>
        obtain ⟨wv, wt, ⟨hwt, hrows, hbx2, hbl⟩⟩ := hcut
        obtain ⟨wy, rfl⟩ : ∃ wy : World, wy = wc := ⟨_, rfl⟩
        obtain ⟨Aw, cw, rfl⟩ := hrows.slice
        have HWT := Kp.mk (And.intro hwt hrows)
        have HBL := Kp.mk hbl
        obtain ⟨C2, hC2⟩ : ∃ C2, C1.setIfInBounds 35 (.slice Aw wt.length cw) = C2 := ⟨_, rfl⟩
        rw [hC2] at hbx2
        have hC233 : C2[33]? = some (.slice none 0 0) := by rw [← hC2, Array.getElem?_setIfInBounds_ne (by omega)]; exact hC33
        have HC2 := Kp.mk hC2
        have HBX2 := Kp.mk hbx2
        have HC233 := Kp.mk hC233
        obtain ⟨v18, hv18⟩ : ∃ v : Nat, m / 262144 % 4 = (v : Int) := ⟨(m / 262144 % 4).toNat, by omega⟩
        have b18 : bits BinOp.and IntKind.i64 (m / 262144) 3 = (v18 : Int) := by rw [← hv18]; exact and_mask _ 2 (by omega)
        have w18 : IntKind.i64.wrap (m / 262144) = m / 262144 := by rw [IntKind.wrap_i64]; have := HM.out; omega
        have HV18 := Kp.mk hv18
        clear hwt hrows hbx2 hbl hC2 hC233 hv18 hC33 hC35 b12
        go_upto_if 78 with (fail)
        go_cut [] (fun wx => ∃ (sv : Value) (sc : List Int), Kp (sc = (if v18 = 0 then [((m / 16 % 256).toNat : Int)] else []) ∧ Own wx w.heap.size 5 sv sc ∧ Box wx wr.heap.size 58 (C2.setIfInBounds 33 sv) ∧ OwnRows wx w.heap.size (.slice Aw wt.length cw) wt ∧ Below wr.heap.size wr wx))
        case first =>
          by_cases h18 : v18 = 0
          · subst h18
            rw [show ((0 : Nat) : Int) = 0 from rfl] at b18
            obtain ⟨x4, hx4, hx4l⟩ : ∃ x : Nat, m / 16 % 256 = (x : Int) ∧ x < 256 := ⟨(m / 16 % 256).toNat, by omega, by omega⟩
            have w4' : IntKind.i64.wrap (m / 16) = m / 16 := by rw [IntKind.wrap_i64]; have := HM.out; omega
            have u4 : IntKind.u8.wrap (m / 16) = (x4 : Int) := by rw [← hx4]; simp [IntKind.wrap, IntKind.bits, IntKind.signed]
            have hbxa : Box (wy.alloc (.cells #[.int .u8 (x4 : Int)] 5)) wr.heap.size 58 C2 := box_past HBX2.out
            have c33 := (hbxa.cell 33).trans HC233.out
            have f33 := hbxa.warm 33
            have hsz := HBW.out.size
            have hsy := HBL.out.size
            have hbelow : Below wr.heap.size wr (wy.alloc (.cells #[.int .u8 (x4 : Int)] 5)) := HBL.out.alloc hsy _
            have hkr : Keeps [5, 55] wy ((wy.alloc (.cells #[.int .u8 (x4 : Int)] 5)).setCell ⟨wr.heap.size, 33, none⟩ (.slice (some ⟨wy.heap.size, 0, none⟩) 1 1)) := (Keeps.of_below _ ((Below.refl _ _).alloc (Nat.le_refl _) _)).trans (Keeps.of_set hbxa (by decide) 33 _)
            have hku : Keeps [5] (wy.alloc (.cells #[.int .u8 (x4 : Int)] 5)) ((wy.alloc (.cells #[.int .u8 (x4 : Int)] 5)).setCell ⟨wr.heap.size, 33, none⟩ (.slice (some ⟨wy.heap.size, 0, none⟩) 1 1)) := Keeps.of_set hbxa (by decide) 33 _
            have hPOST : Kp (Own ((wy.alloc (.cells #[.int .u8 (x4 : Int)] 5)).setCell ⟨wr.heap.size, 33, none⟩ (.slice (some ⟨wy.heap.size, 0, none⟩) 1 1)) w.heap.size 5 (.slice (some ⟨wy.heap.size, 0, none⟩) 1 1) [(x4 : Int)] ∧ Box ((wy.alloc (.cells #[.int .u8 (x4 : Int)] 5)).setCell ⟨wr.heap.size, 33, none⟩ (.slice (some ⟨wy.heap.size, 0, none⟩) 1 1)) wr.heap.size 58 (C2.setIfInBounds 33 (.slice (some ⟨wy.heap.size, 0, none⟩) 1 1)) ∧ OwnRows ((wy.alloc (.cells #[.int .u8 (x4 : Int)] 5)).setCell ⟨wr.heap.size, 33, none⟩ (.slice (some ⟨wy.heap.size, 0, none⟩) 1 1)) w.heap.size (.slice Aw wt.length cw) wt ∧ Below wr.heap.size wr ((wy.alloc (.cells #[.int .u8 (x4 : Int)] 5)).setCell ⟨wr.heap.size, 33, none⟩ (.slice (some ⟨wy.heap.size, 0, none⟩) 1 1))) :=
              ⟨(own_one (box_at _ _ _ _ rfl) (by omega) x4).keeps hku (by decide), hbxa.set 33 _, rows_turn HWT.out.2 hkr (by decide) (by decide) (Nat.le_refl _), hbelow.setCell (Nat.le_refl _) _⟩
            have HKX : Kp ((if 0 = 0 then [((m / 16 % 256).toNat : Int)] else []) = [(x4 : Int)]) := ⟨by rw [hx4]; simp⟩
            clear hx4 hx4l hbxa hsz hsy hbelow hkr hku
            go_wp2
            go_meet
            exact ⟨_, _, ⟨HKX.out.symm, hPOST.out.1, hPOST.out.2.1, hPOST.out.2.2.1, hPOST.out.2.2.2⟩⟩
          · have e18 : ((v18 : Int) == 0) = false := by rw [beq_eq_false_iff_ne]; omega
            have hPOST : Kp (Box wy wr.heap.size 58 (C2.setIfInBounds 33 (.slice none 0 0))) := ⟨by rw [set_same HC233.out]; exact HBX2.out⟩
            have H18 := Kp.mk h18
            clear h18
            go_wp2
            go_meet
            exact ⟨_, _, ⟨(if_neg H18.out).symm, own_nil _ _ _, hPOST.out, HWT.out.2, HBL.out⟩⟩
        case rest =>
          obtain ⟨sv, sc, ⟨hsc, hown, hbx3, hrows3, hbl3⟩⟩ := hcut
          obtain ⟨wz, rfl⟩ : ∃ wz : World, wz = wc := ⟨_, rfl⟩
          have hC3 : C2.setIfInBounds 33 sv = (inCells ⟨(x3 : Int) :: (zeros 30 ++ [(j : Int)]), v2, sc, s8, wt⟩ sv (.slice Aw wt.length cw)).toArray := by
            rw [← HC2.out, ← HC1.out]
            exact cells_is x3 j v2 s8 sv (.slice Aw wt.length cw) sc wt
          rw [hC3] at hbx3
          have hysc : Bys sc := by
            rw [hsc]
            split
            · exact bys_one (by omega)
            · exact Bys.nil
          have hin : InO wz w.heap.size (inCells ⟨(x3 : Int) :: (zeros 30 ++ [(j : Int)]), v2, sc, s8, wt⟩ sv (.slice Aw wt.length cw)) ⟨(x3 : Int) :: (zeros 30 ++ [(j : Int)]), v2, sc, s8, wt⟩ :=
            inO_of HNUM.out.2.2 (by omega) HNUM.out.1 HNUM.out.2.1 hown hysc hrows3
          have hD : inOf m j = ⟨(x3 : Int) :: (zeros 30 ++ [(j : Int)]), v2, sc, s8, wt⟩ := by
            rw [hsc, HWT.out.1]
            refine inOf_is m j x3 v2 v8 s8 v12 (m / 65536 % 2).toNat v18 (m % 256).toNat (m / 16 % 256).toNat j HEQ.out.1 HEQ.out.2.1 HEQ.out.2.2.1 HEQ.out.2.2.2.1 HEQ.out.2.2.2.2 (by omega) HV18.out (by omega) (by omega) rfl
          rw [← hD] at hin hbx3
          obtain ⟨cs, hcs⟩ : ∃ cs, inCells (inOf m j) sv (.slice Aw wt.length cw) = cs := ⟨_, rfl⟩
          rw [hcs] at hin hbx3
          obtain ⟨D, hDD⟩ : ∃ D, inOf m j = D := ⟨_, rfl⟩
          rw [hDD] at hin
          have hcl := hin.len
          have hfold := fold_in cs hcl
          have hxz5 := HX.out.2.below hbl3
          have hcz := hxz5.cell 1
          have HBX3 : Kp (wz.heap[wr.heap.size]? = some (.cells cs.toArray 58 (0, 0))) := ⟨hbx3⟩
          have HI3 : Kp ((Try.prog.info? 58).map (·.size) = some cs.toArray.size) := ⟨by rw [List.size_toArray, hcl]; exact sizeIn⟩
          have HIN := Kp.mk hin
          have HDD := Kp.mk hDD
          have HB3 := Kp.mk hbl3
          have hkz : Keeps [5, 55, 58] wr (wz.alloc (.cells cs.toArray 58)) := (Keeps.of_below _ hbl3).trans (Keeps.of_below _ ((Below.refl _ _).alloc (Nat.le_refl _) _))
          have hka : Keeps [5, 55, 58] wz (wz.alloc (.cells cs.toArray 58)) := Keeps.of_below _ ((Below.refl _ _).alloc (Nat.le_refl _) _)
          have HOW := Kp.mk (OwnMany.turn HOWN.out hkz (by decide) (Nat.le_refl _) (fun cs d h => InO.turn h hkz (by decide) (by decide) (Nat.le_refl _)))
          have HINA := Kp.mk (hin.turn hka (by decide) (by decide) (Nat.le_refl _))
          have HONE := Kp.mk hin.inR.one
          have HX5A : Kp (Box (wz.alloc (.cells cs.toArray 58)) (w.heap.size + 1) 30 #[.int .u32 ((a : Int) + 1), .slice Ai is.length ci, .slice none 0 0, .int .u32 (d : Int)]) := ⟨box_past hxz5⟩
          have HX2A : Kp (Box (wz.alloc (.cells cs.toArray 58)) w.heap.size 30 zTx) := ⟨box_past (HX.out.1.below hbl3)⟩
          have HBA : Kp (Below w.heap.size w (wz.alloc (.cells cs.toArray 58))) := ⟨(HBW.out.trans (hbl3.mono HBW.out.size)).alloc (Nat.le_trans HBW.out.size hbl3.size) _⟩
          clear hsc hown hbx3 hrows3 hbl3 hC3 hysc hin hD hcs hDD hxz5 hkz hka b18 w18
          go_wp2_with (first | (refine wpList_load_row rfl 58 (.tmp 7) rfl wr.heap.size rfl _ cs.toArray _ _ HBX3.out Try.underlying58 rfl HI3.out ?_) | (at_builtin; refine wpList_append_many (R := fun W => InO W w.heap.size) rfl (.tmp 85) (.tmp 87) 27 rfl w.heap.size i1 _ 96 Try.underlying27 hi1 hz1 hs1 hb1 rfl (by decide) _ is rfl HOW.out wz.heap.size 1 cs D rfl (Box.fresh wz _ _) hcl HINA.out HONE.out ?e1 (by decide) ?f1 [5, 55, 30] (by decide) ?g1 ?_))
          case e1 => have := HL.out; have := HJP.out; omega
          case f1 => have := HBA.out.size; rw [alloc_size] at this; exact this
          case g1 => exact fun w' cs d hk h => InO.turn h hk (by decide) (by decide) (Nat.le_refl _)
          intro v6 w6 hm6 hg6 hk6
          obtain ⟨IS, hIS⟩ : ∃ IS, is ++ [D] = IS := ⟨_, rfl⟩
          rw [hIS] at hm6
          obtain ⟨A6, k6, rfl⟩ := hm6.slice
          have hx65 := Keeps.box hk6 (by decide) HX5A.out
          have hx62 := Keeps.box hk6 (by decide) HX2A.out
          have c6 := hx65.cell 1
          have f6 := hx65.warm 1
          have hk7 : Keeps [5, 55, 58] w6 (w6.setCell ⟨w.heap.size + 1, 1, none⟩ (.slice A6 IS.length k6)) := Keeps.of_set hx65 (by decide) 1 _
          have HEND : Kp (IS = (List.range (j + 1)).map (inOf m) ∧ OwnMany 36 58 (InO (w6.setCell ⟨w.heap.size + 1, 1, none⟩ (.slice A6 IS.length k6)) w.heap.size) (w6.setCell ⟨w.heap.size + 1, 1, none⟩ (.slice A6 IS.length k6)) w.heap.size (.slice A6 IS.length k6) IS ∧ Box (w6.setCell ⟨w.heap.size + 1, 1, none⟩ (.slice A6 IS.length k6)) w.heap.size 30 zTx ∧ Box (w6.setCell ⟨w.heap.size + 1, 1, none⟩ (.slice A6 IS.length k6)) (w.heap.size + 1) 30 #[.int .u32 ((a : Int) + 1), .slice A6 IS.length k6, .slice none 0 0, .int .u32 (d : Int)] ∧ Below w.heap.size w (w6.setCell ⟨w.heap.size + 1, 1, none⟩ (.slice A6 IS.length k6))) := by
            constructor
            refine ⟨by rw [← hIS, List.range_succ, List.map_append, ← HIS.out, ← HDD.out]; rfl, OwnMany.turn hm6 hk7 (by decide) (Nat.le_refl _) (fun cs d h => InO.turn h hk7 (by decide) (by decide) (Nat.le_refl _)), hx62.keep ((Only.refl (w.heap.size + 1) w6).set 1 _) (by omega), hx65.set 1 _, ?_⟩
            obtain ⟨css, hrow, _⟩ := HOW.out
            refine Below.setCell (HBA.out.trans ?_) (by show w.heap.size ≤ w.heap.size + 1; omega) _
            exact (Below.refl _ _).grown hg6 HBA.out.size (fun q hq => (World.ownsRow.lt hrow q hq).1)
          clear hk7 hm6 hg6 hk6 hx62 hx65 hIS hcl hfold hcz hc5
          go_wp2
          exact ⟨⟨j + 1, IS, _, by have := HJP.out; omega, by go_num, HEND⟩, by simp [intOf]; have := HJP.out; omega⟩
    · have hjeq : j = p + 1 := by omega
      have hjno : ((j : Int) < (p : Int) + 1) = False := eq_false (by omega)
      rw [hjeq] at his
      obtain ⟨wo, rfl⟩ : ∃ wo : World, wo = wr := ⟨_, rfl⟩
      have HIS := Kp.mk his
      have HOWN := Kp.mk hown
      have HX := Kp.mk (And.intro hx2 hx5)
      have HBW := Kp.mk hbw
      obtain ⟨Ai, ci, rfl⟩ := hown.slice
      clear his hown hx2 hx5 hbw hjp hjeq hj
      go_wp2
      go_loopw [8] (fun i wr => ∃ (j : Nat) (os : List OutD) (ov : Value), j ≤ q + 1 ∧ i = .int .i64 j ∧ Kp (os = (List.range j).map (outOf n m) ∧ OwnMany 2 61 (OutF wr w.heap.size) wr w.heap.size ov os ∧ OwnMany 36 58 (InO wr w.heap.size) wr w.heap.size (.slice Ai is.length ci) is ∧ Box wr w.heap.size 30 zTx ∧ Box wr (w.heap.size + 1) 30 #[.int .u32 ((a : Int) + 1), .slice Ai is.length ci, ov, .int .u32 (d : Int)] ∧ Below w.heap.size w wr)) (fun i _ => q + 1 - (intOf i).toNat)
      case atStart => exact ⟨0, [], _, by omega, rfl, ⟨rfl, OwnMany.nil _ _ _ _ _, HOWN.out, HX.out.1, HX.out.2, HBW.out⟩⟩
      case round =>
        obtain ⟨j, os, ov, hj, rfl, ⟨hos, hown2, hown, hx2, hx5, hbw⟩⟩ := hrel
        by_cases hjq : j < q + 1
        · have HOUTS := Kp.mk hown2
          have HINS := Kp.mk hown
          have HX2 := Kp.mk (And.intro hx2 hx5)
          have HB2 := Kp.mk hbw
          have HOS := Kp.mk hos
          have HJQ : Kp (j < q + 1 ∧ os.length = j) := ⟨hjq, by rw [hos]; simp⟩
          have hjq' : (j : Int) < (q : Int) + 1 := by omega
          have hj3 : (j : Int) ≤ 3 := by omega
          obtain ⟨Ao, co, rfl⟩ := hown2.slice
          have hbnd : ∀ (z : Int) (k : Nat), -9223372036854775808 ≤ z ∧ z ≤ 9223372036854775807 → -9223372036854775808 ≤ z / 2 ^ k ∧ z / 2 ^ k ≤ 9223372036854775807 := fun z k hz => Int.ediv_le_self_of z (2 ^ k) hz (Int.pow_pos (by omega))
          obtain ⟨x, hx, hxl⟩ : ∃ x : Nat, n / 2 ^ (12 + j) % 4096 = (x : Int) ∧ x < 4096 := ⟨(n / 2 ^ (12 + j) % 4096).toNat, by omega, by omega⟩
          have b12 : bits BinOp.and IntKind.i64 (n / 2 ^ (12 + j)) 4095 = (x : Int) := by rw [← hx]; exact and_mask _ 12 (by omega)
          have HXX : Kp (outOf n m j = ⟨x, scriptOf (m / 2 ^ j)⟩) := ⟨by unfold outOf; rw [hx]; rfl⟩
          have HT := Kp.mk (script_any wr.drew (m / 2 ^ j) (hbnd m j HM.out))
          have hbd : Below wr.heap.size wr wr.drew := (Below.refl _ _).drew
          have hcd := (hx5.below hbd).cell 2
          have HBD := Kp.mk hbd
          have hxb : (x : Int) ≤ 4095 := by omega
          clear hos hown2 hown hx2 hx5 hbw hjq hj hbnd hx hbd
          have h1 : IntKind.i64.wrap (12 + (j : Int)) = 12 + (j : Int) := by rw [IntKind.wrap_i64]; omega
          have h2 : IntKind.u64.wrap (12 + (j : Int)) = 12 + (j : Int) := by simp [IntKind.wrap, IntKind.bits, IntKind.signed]; omega
          have h3 : (12 + (j : Int)).toNat = 12 + j := by omega
          have h4 : min (12 + j) 64 = 12 + j := by omega
          have h5 : IntKind.u64.wrap (j : Int) = (j : Int) := by simp [IntKind.wrap, IntKind.bits, IntKind.signed]; omega
          have h6 : min j 64 = j := by omega
          have h8 : IntKind.u64.wrap (x : Int) = (x : Int) := by simp [IntKind.wrap, IntKind.bits, IntKind.signed]; omega
          go_wp2_with fail
          go_region_law (first | (go_simp; go_at_call 16; refine HT.out.mono ?_; rintro e w5 ⟨v5, rfl, hv5, hb5⟩; have hb55 := HBD.out.trans (hb5.mono HBD.out.size); have hx54 := HX2.out.2.below hb55; have hc5 := hx54.cell 2; have hin5 : OutF w5 w.heap.size [.int .u64 (x : Int), v5] ⟨x, scriptOf (m / 2 ^ j)⟩ := ⟨v5, rfl, by show x < 18446744073709551616; omega, hv5.less HB2.out.size⟩; have hone5 := hv5.rbT.1.one; obtain ⟨A5, c5, rfl⟩ := hv5.slice5; have hc55 := (box_past (o := .cells #[.int .u64 (x : Int), .slice A5 (scriptOf (m / 2 ^ j)).length c5] 61) hx54).cell 2; have hka : Keeps [5, 55, 58, 61] wr (w5.alloc (.cells #[.int .u64 (x : Int), .slice A5 (scriptOf (m / 2 ^ j)).length c5] 61)) := (Keeps.of_below _ hb55).trans (Keeps.of_below _ ((Below.refl _ _).alloc (Nat.le_refl _) _)); have hkb : Keeps [5, 55, 58, 61] w5 (w5.alloc (.cells #[.int .u64 (x : Int), .slice A5 (scriptOf (m / 2 ^ j)).length c5] 61)) := Keeps.of_below _ ((Below.refl _ _).alloc (Nat.le_refl _) _); have HOW := Kp.mk (OwnMany.turn HOUTS.out hka (by decide) (Nat.le_refl _) (fun cs d h => OutF.keeps h hka (by decide))); have HIN5 := Kp.mk (OwnMany.turn HINS.out hka (by decide) (Nat.le_refl _) (fun cs d h => InO.turn h hka (by decide) (by decide) (Nat.le_refl _))); have HIN := Kp.mk (hin5.keeps hkb (by decide)); have HX6 : Kp (Box (w5.alloc (.cells #[.int .u64 (x : Int), .slice A5 (scriptOf (m / 2 ^ j)).length c5] 61)) w.heap.size 30 zTx ∧ Box (w5.alloc (.cells #[.int .u64 (x : Int), .slice A5 (scriptOf (m / 2 ^ j)).length c5] 61)) (w.heap.size + 1) 30 #[.int .u32 ((a : Int) + 1), .slice Ai is.length ci, .slice Ao os.length co, .int .u32 (d : Int)]) := ⟨box_past (HX2.out.1.below hb55), box_past hx54⟩; have HB6 : Kp (Below w.heap.size w (w5.alloc (.cells #[.int .u64 (x : Int), .slice A5 (scriptOf (m / 2 ^ j)).length c5] 61))) := ⟨(HB2.out.trans (hb55.mono HB2.out.size)).alloc (Nat.le_trans HB2.out.size hb55.size) _⟩; clear hka hkb hb5 hv5 hin5 hone5 hx54 hb55) | (refine step_append_many (R := fun W => OutF W w.heap.size) rfl (.tmp 99) (.tmp 113) 28 rfl w.heap.size i2 _ 32 Try.underlying28 hi2 hz2 hs2 hb2 (by rfl) (by decide) _ os rfl HOW.out w5.heap.size 1 [.int .u64 (x : Int), .slice A5 (scriptOf (m / 2 ^ j)).length c5] ⟨x, scriptOf (m / 2 ^ j)⟩ rfl (Box.fresh w5 _ _) rfl HIN.out (outF_one HIN.out) (by have := HJQ.out; omega) (by decide) HB6.out.size [5, 55, 58, 30] (by decide) (fun w' cs d hk h => OutF.keeps h hk (by decide)) ?_; intro v6 w6 hm6 hg6 hk6; obtain ⟨IS, hIS⟩ : ∃ IS, os ++ [⟨x, scriptOf (m / 2 ^ j)⟩] = IS := ⟨_, rfl⟩; rw [hIS] at hm6; obtain ⟨A6, k6, rfl⟩ := hm6.slice; have hx62 := Keeps.box hk6 (by decide) HX6.out.1; have hx65 := Keeps.box hk6 (by decide) HX6.out.2; have c6 := hx65.cell 2; have f6 := hx65.warm 2))
          all_goals
            have hk7 : Keeps [5, 55, 58, 61] w6 (w6.setCell ⟨w.heap.size + 1, 2, none⟩ (.slice A6 IS.length k6)) := Keeps.of_set hx65 (by decide) 2 _
            have HEND : Kp (IS = (List.range (j + 1)).map (outOf n m) ∧ OwnMany 2 61 (OutF (w6.setCell ⟨w.heap.size + 1, 2, none⟩ (.slice A6 IS.length k6)) w.heap.size) (w6.setCell ⟨w.heap.size + 1, 2, none⟩ (.slice A6 IS.length k6)) w.heap.size (.slice A6 IS.length k6) IS ∧ OwnMany 36 58 (InO (w6.setCell ⟨w.heap.size + 1, 2, none⟩ (.slice A6 IS.length k6)) w.heap.size) (w6.setCell ⟨w.heap.size + 1, 2, none⟩ (.slice A6 IS.length k6)) w.heap.size (.slice Ai is.length ci) is ∧ Box (w6.setCell ⟨w.heap.size + 1, 2, none⟩ (.slice A6 IS.length k6)) w.heap.size 30 zTx ∧ Box (w6.setCell ⟨w.heap.size + 1, 2, none⟩ (.slice A6 IS.length k6)) (w.heap.size + 1) 30 #[.int .u32 ((a : Int) + 1), .slice Ai is.length ci, .slice A6 IS.length k6, .int .u32 (d : Int)] ∧ Below w.heap.size w (w6.setCell ⟨w.heap.size + 1, 2, none⟩ (.slice A6 IS.length k6))) := by
              constructor
              have hki : Keeps [5, 55, 58] (w5.alloc (.cells #[.int .u64 (x : Int), .slice A5 (scriptOf (m / 2 ^ j)).length c5] 61)) (w6.setCell ⟨w.heap.size + 1, 2, none⟩ (.slice A6 IS.length k6)) := Keeps.trans (hk6.sub (by decide)) (hk7.sub (by decide))
              refine ⟨by rw [← hIS, List.range_succ, List.map_append, ← HOS.out]; simp [HXX.out], OwnMany.turn hm6 hk7 (by decide) (Nat.le_refl _) (fun cs d h => OutF.keeps h hk7 (by decide)), OwnMany.turn HIN5.out hki (by decide) (Nat.le_refl _) (fun cs d h => InO.turn h hki (by decide) (by decide) (Nat.le_refl _)), hx62.keep ((Only.refl (w.heap.size + 1) w6).set 2 _) (by omega), hx65.set 2 _, ?_⟩
              obtain ⟨css, hrow, _⟩ := HOW.out
              refine Below.setCell (HB6.out.trans ?_) (by show w.heap.size ≤ w.heap.size + 1; omega) _
              exact (Below.refl _ _).grown hg6 HB6.out.size (fun q hq => (World.ownsRow.lt hrow q hq).1)
            clear hk7 hm6 hg6 hk6 hx62 hx65 c6 f6 hIS hcd h1 h2 h3 h4 h5 h6 h8
            go_wp2
            exact ⟨⟨j + 1, IS, _, by have := HJQ.out; omega, by go_num, HEND⟩, by simp [intOf]; have := HJQ.out; omega⟩
        · obtain rfl : j = q + 1 := by omega
          have hk7 : Keeps [5, 55, 58, 61] wr (wr.setRow w.heap.size #[.int .u32 ((a : Int) + 1), .slice Ai is.length ci, ov, .int .u32 (d : Int)]) := Keeps.of_setRow hx2 (by decide) _
          have HX2 : Kp (wr.heap[w.heap.size]? = some (.cells zTx 30 (0, 0))) := ⟨hx2⟩
          have HX5 : Kp (wr.heap[w.heap.size + 1]? = some (.cells #[.int .u32 ((a : Int) + 1), .slice Ai is.length ci, ov, .int .u32 (d : Int)] 30 (0, 0))) := ⟨hx5⟩
          have HXR : Kp ((wr.setRow w.heap.size #[.int .u32 ((a : Int) + 1), .slice Ai is.length ci, ov, .int .u32 (d : Int)]).heap[w.heap.size]? = some (.cells #[.int .u32 ((a : Int) + 1), .slice Ai is.length ci, ov, .int .u32 (d : Int)] 30 (0, 0))) := ⟨setRow_box hx2 _⟩
          have HIT2 : Kp ((Try.prog.info? 30).map (·.size) = some 4) := ⟨by kernel_rfl⟩
          have hone : ov.oneCell' = true := by obtain ⟨A, c, rfl⟩ := hown2.slice; rfl
          have HFIN : Kp (TxP (txOf n m) w (.returned (.agg #[.int .u32 ((a : Int) + 1), .slice Ai is.length ci, ov, .int .u32 (d : Int)])) (wr.setRow w.heap.size #[.int .u32 ((a : Int) + 1), .slice Ai is.length ci, ov, .int .u32 (d : Int)])) := ⟨by
            rw [HT.out]
            refine ⟨_, rfl, ⟨.slice Ai is.length ci, ov, rfl, by show a + 1 < 4294967296; omega, by show d < 4294967296; omega, ?_, ?_⟩, hbw.trans (Below.setRow_self (Nat.le_refl _) _)⟩
            · rw [← HIS.out]
              exact OwnMany.turn hown hk7 (by decide) (Nat.le_refl _) (fun cs d h => InO.turn h hk7 (by decide) (by decide) (Nat.le_refl _))
            · rw [← hos]
              exact OwnMany.turn hown2 hk7 (by decide) (Nat.le_refl _) (fun cs d h => OutF.keeps h hk7 (by decide))⟩
          obtain ⟨Ao, co, rfl⟩ := hown2.slice
          clear hos hown2 hown hx2 hx5 hbw hk7 hone
          go_wp2_with (first | (refine wpList_load_row rfl 30 (.tmp 5) rfl (w.heap.size + 1) rfl _ #[.int .u32 ((a : Int) + 1), .slice Ai is.length ci, .slice Ao os.length co, .int .u32 (d : Int)] _ _ HX5.out Try.underlying30 rfl HIT2.out ?_) | (refine wpList_store_row rfl 30 (.tmp 4) (.tmp 116) rfl w.heap.size #[.int .u32 ((a : Int) + 1), .slice Ai is.length ci, .slice Ao os.length co, .int .u32 (d : Int)] rfl rfl 30 zTx HX2.out HIT2.out rfl (by simp [Value.oneCell']) ?_))
          exact bodyPost_ret (results_cell_row (by rfl) _ _ w.heap.size 30 _ _ _ rfl HXR.out Try.underlying30 rfl HIT2.out) rfl HFIN.out
end

section
open Go.RowKit

theorem pText_back (x : List Int) (rest : List Int) (h : x.length ≤ 500) : pText (encText x ++ rest) false = (x, rest, false) := by
  unfold pText encText
  rw [List.append_assoc, count_back x.length (x ++ rest) 500 (by omega) (by omega)]
  simp only
  unfold took
  rw [if_pos (by simp), List.take_left, List.drop_left]
theorem pMany_back {α β : Type} (f : List Int → Bool → Rest β) (enc : α → List Int) (s : α → β) : ∀ (xs : List α) (rest : List Int), (∀ x ∈ xs, ∀ r, f (enc x ++ r) false = (s x, r, false)) → pMany f xs.length (flat enc xs ++ rest) false = (xs.map s, rest, false)
  | [], rest, _ => by simp [pMany, flat]
  | x :: xs, rest, h => by
    have e : flat enc (x :: xs) ++ rest = enc x ++ (flat enc xs ++ rest) := by simp [flat]
    rw [e, List.length_cons]
    unfold pMany
    rw [h x (by simp) _]
    simp only
    rw [pMany_back f enc s xs rest fun y hy => h y (List.mem_cons_of_mem _ hy)]
    rfl
theorem encRows_flat (ll : List (List Int)) : encRows ll = flat encText ll := rfl
theorem pWit_back (ll : List (List Int)) (rest : List Int) (h1 : ll.length ≤ 10) (h2 : ∀ x ∈ ll, x.length ≤ 500) : pWit (encWit ll ++ rest) false = (ll, rest, false) := by
  unfold pWit encWit
  rw [List.append_assoc, count_back ll.length (encRows ll ++ rest) 10 (by omega) (by omega)]
  simp only
  rw [encRows_flat, pMany_back pText encText id ll rest fun x hx r => pText_back x r (h2 x hx), List.map_id]
def strip (d : InD) : InD := { d with wit := [] }
theorem pIn_back (d : InD) (rest : List Int) (hf : d.Fit) (h : d.script.length ≤ 500) : pIn (encIn d ++ rest) false = (strip d, rest, false) := by
  have h4 : (256 : Nat) ^ 4 = 4294967296 := by decide
  have e : encIn d ++ rest = d.prev ++ (leb d.vout 4 ++ (encText d.script ++ (leb d.seq 4 ++ rest))) := by simp [encIn]
  unfold pIn
  rw [e]
  have ht : took (d.prev ++ (leb d.vout 4 ++ (encText d.script ++ (leb d.seq 4 ++ rest)))) false 32 = (d.prev, leb d.vout 4 ++ (encText d.script ++ (leb d.seq 4 ++ rest)), false) := by
    unfold took
    rw [if_pos (by simp [hf.plen]), ← hf.plen, List.take_left, List.drop_left]
  rw [ht]
  simp only
  rw [num_app _ _ false 4 (leb_len _ _)]
  simp only
  rw [pText_back d.script _ h]
  simp only
  rw [num_app _ _ false 4 (leb_len _ _), le_leb_of d.vout 4 (by rw [h4]; exact hf.vlt), le_leb_of d.seq 4 (by rw [h4]; exact hf.slt)]
  simp only [prevOf, if_pos hf.plen, strip]
theorem pOut_back (d : OutD) (rest : List Int) (hv : d.value < 18446744073709551616) (h : d.script.length ≤ 500) : pOut (encOut d ++ rest) false = (d, rest, false) := by
  have h8 : (256 : Nat) ^ 8 = 18446744073709551616 := by decide
  have e : encOut d ++ rest = leb d.value 8 ++ (encText d.script ++ rest) := by simp [encOut]
  unfold pOut
  rw [e, num_app _ _ false 8 (leb_len _ _)]
  simp only
  rw [pText_back d.script _ h, le_leb_of d.value 8 (by rw [h8]; exact hv)]
theorem setWits_back : ∀ ds : List InD, setWits (ds.map strip) (ds.map (·.wit)) = ds
  | [] => rfl
  | d :: ds => by
    simp only [List.map_cons, setWits, setWits_back ds]
    rfl
theorem strip_id {ds : List InD} (h : ds.any witB = false) : ds.map strip = ds := by
  rw [List.any_eq_false] at h
  conv => rhs; rw [← List.map_id ds]
  apply List.map_congr_left
  intro d hd
  have h1 := h d hd
  unfold witB at h1
  have h2 : d.wit = [] := by
    cases hw : d.wit with
    | nil => rfl
    | cons a b => rw [hw] at h1; simp at h1
  cases d
  simp only at h2
  subst h2
  rfl
/-- The numbers of a transaction are such. -/
structure TxFit (t : TxD) : Prop where
  vlt : t.version < 4294967296
  klt : t.lock < 4294967296
  ins : ∀ d ∈ t.ins, d.Fit
  outs : ∀ d ∈ t.outs, d.value < 18446744073709551616
theorem pBody_back (t : TxD) (rest : List Int) (hm : MayF t) (hf : TxFit t) (wh : Bool) (hw : wh = witT t) :
    pBody t.version wh (t.ins.length, flat encIn t.ins ++ (cnt t.outs.length ++ (flat encOut t.outs ++ ((if wh then flat encWits t.ins else []) ++ (leb t.lock 4 ++ rest)))), false) = ((t, true), rest, false) := by
  have h4 : (256 : Nat) ^ 4 = 4294967296 := by decide
  unfold pBody
  simp only
  rw [pMany_back pIn encIn strip t.ins _ fun d hd r => pIn_back d r (hf.ins d hd) (hm.isc d hd)]
  simp only
  rw [count_back t.outs.length _ 50 (by have := hm.o50; omega) (by have := hm.o50; omega)]
  simp only
  rw [pMany_back pOut encOut id t.outs _ fun d hd r => pOut_back d r (hf.outs d hd) (hm.osc d hd), List.map_id]
  simp only
  have hmay : mayB t = true := (mayB_iff t).2 hm
  cases wh with
  | true =>
    simp only [if_true]
    rw [List.length_map, pMany_back pWit encWits (fun d => d.wit) t.ins _ fun d hd r => pWit_back d.wit r (hm.iwl d hd) (hm.iwx d hd)]
    simp only
    rw [num_app _ _ false 4 (leb_len _ _), le_leb_of t.lock 4 (by rw [h4]; exact hf.klt), setWits_back]
    simp only
    rw [show (⟨t.version, t.ins, t.outs, t.lock⟩ : TxD) = t from rfl, hmay, ← hw]
    rfl
  | false =>
    simp only [Bool.false_eq_true, if_false, List.nil_append]
    rw [num_app _ _ false 4 (leb_len _ _), le_leb_of t.lock 4 (by rw [h4]; exact hf.klt), strip_id (ds := t.ins) hw.symm]
    simp only
    rw [show (⟨t.version, t.ins, t.outs, t.lock⟩ : TxD) = t from rfl, hmay, ← hw]
    rfl
theorem pTx_back (t : TxD) (rest : List Int) (hm : MayF t) (hf : TxFit t) : pTx (encTx t (witT t) ++ rest) false = ((t, true), rest, false) := by
  have h4 : (256 : Nat) ^ 4 = 4294967296 := by decide
  have hb := pBody_back t rest hm hf (witT t) rfl
  unfold pTx encTx
  generalize witT t = wh at *
  cases wh with
  | false =>
    have e : leb t.version 4 ++ ((if false = true then [0, 1] else []) ++ (cnt t.ins.length ++ (flat encIn t.ins ++ (cnt t.outs.length ++ (flat encOut t.outs ++ ((if false = true then flat encWits t.ins else []) ++ leb t.lock 4)))))) ++ rest
        = leb t.version 4 ++ (cnt t.ins.length ++ (flat encIn t.ins ++ (cnt t.outs.length ++ (flat encOut t.outs ++ (([] : List Int) ++ (leb t.lock 4 ++ rest)))))) := by simp
    rw [e, num_app _ _ false 4 (leb_len _ _)]
    simp only
    rw [count_back t.ins.length _ 50 (by have := hm.i50; omega) (by have := hm.i50; omega)]
    simp only
    rw [if_neg (by have := hm.i1; omega), le_leb_of t.version 4 (by rw [h4]; exact hf.vlt)]
    exact hb
  | true =>
    have e : leb t.version 4 ++ ((if true = true then [0, 1] else []) ++ (cnt t.ins.length ++ (flat encIn t.ins ++ (cnt t.outs.length ++ (flat encOut t.outs ++ ((if true = true then flat encWits t.ins else []) ++ leb t.lock 4)))))) ++ rest
        = leb t.version 4 ++ (cnt 0 ++ (cnt 1 ++ (cnt t.ins.length ++ (flat encIn t.ins ++ (cnt t.outs.length ++ (flat encOut t.outs ++ (flat encWits t.ins ++ (leb t.lock 4 ++ rest)))))))) := by
      simp [show cnt 0 = [0] by decide, show cnt 1 = [1] by decide]
    rw [e, num_app _ _ false 4 (leb_len _ _)]
    simp only
    rw [count_back 0 _ 50 (by omega) (by omega)]
    simp only [if_true]
    rw [count_back 1 _ 1 (by omega) (by omega)]
    simp only [if_true]
    rw [count_back t.ins.length _ 50 (by have := hm.i50; omega) (by have := hm.i50; omega), le_leb_of t.version 4 (by rw [h4]; exact hf.vlt)]
    exact hb
theorem pParse_back (t : TxD) (hm : MayF t) (hf : TxFit t) : pParse (bytesOf t) = (t, true) := by
  have h := pTx_back t [] hm hf
  rw [List.append_nil] at h
  unfold pParse pRead bytesOf
  rw [if_pos ((mayB_iff t).2 hm), h]
  rfl
/-- Different transactions have different bytes. -/
theorem bytesOf_inj (a b : TxD) (ha : MayF a) (hb : MayF b) (fa : TxFit a) (fb : TxFit b) (h : bytesOf a = bytesOf b) : a = b := by
  have h1 := pParse_back a ha fa
  rw [h, pParse_back b hb fb] at h1
  injection h1 with h2 _
  exact h2.symm
end

section
open Go.RowKit

theorem cntBys (m : Nat) : Bys (cnt m) := by
  unfold cnt
  split
  · exact leb_bys _ _
  · split
    · intro x hx
      rcases List.mem_cons.1 hx with rfl | hx
      · omega
      · exact leb_bys _ _ x hx
    · intro x hx
      rcases List.mem_cons.1 hx with rfl | hx
      · omega
      · exact leb_bys _ _ x hx
theorem encText_bys {x : List Int} (h : Bys x) : Bys (encText x) := (cntBys _).app h
theorem flat_bys {α : Type} {f : α → List Int} {l : List α} (h : ∀ x ∈ l, Bys (f x)) : Bys (flat f l) := by
  intro y hy
  unfold flat at hy
  obtain ⟨r, hr, hyr⟩ := List.mem_flatten.1 hy
  obtain ⟨x, hx, rfl⟩ := List.mem_map.1 hr
  exact h x hx y hyr
/-- All that is written is bytes. -/
structure TxBys (t : TxD) : Prop where
  ins : ∀ d ∈ t.ins, Bys d.prev ∧ Bys d.script ∧ ∀ x ∈ d.wit, Bys x
  outs : ∀ d ∈ t.outs, Bys d.script
theorem encTx_bys {t : TxD} (h : TxBys t) (wh : Bool) : Bys (encTx t wh) := by
  have h1 : Bys (flat encIn t.ins) := flat_bys fun d hd => (h.ins d hd).1.app ((leb_bys _ _).app ((encText_bys (h.ins d hd).2.1).app (leb_bys _ _)))
  have h2 : Bys (flat encOut t.outs) := flat_bys fun d hd => (leb_bys _ _).app (encText_bys (h.outs d hd))
  have h3 : Bys (flat encWits t.ins) := flat_bys fun d hd => by
    unfold encWits encWit
    rw [encRows_flat]
    exact (cntBys _).app (flat_bys fun x hx => encText_bys ((h.ins d hd).2.2 x hx))
  unfold encTx
  refine (leb_bys _ _).app (Bys.app ?_ ((cntBys _).app (h1.app ((cntBys _).app (h2.app (Bys.app ?_ (leb_bys _ _)))))))
  · split
    · unfold Bys; decide
    · exact Bys.nil
  · split
    · exact h3
    · exact Bys.nil
theorem bytesOf_bys {t : TxD} (h : TxBys t) : Bys (bytesOf t) := by
  unfold bytesOf
  split
  · exact encTx_bys h _
  · exact Bys.nil
theorem baseOf_bys {t : TxD} (h : TxBys t) : Bys (baseOf t) := by
  unfold baseOf
  split
  · exact encTx_bys h _
  · exact Bys.nil
theorem encTx_len {t : TxD} (h : MayF t) (hp : ∀ d ∈ t.ins, d.prev.length = 32) (wh : Bool) : (encTx t wh).length ≤ 400000 := by
  have h1 := flat_len encIn 545 t.ins fun d hd => encIn_len d (hp d hd) (h.isc d hd)
  have h2 := flat_len encOut 513 t.outs fun d hd => encOut_len d (h.osc d hd)
  have h3 := flat_len encWits 5055 t.ins fun d hd => encWits_len d (h.iwl d hd) (h.iwx d hd)
  have h4 := h.i50
  have h5 := h.o50
  have h6 := cnt_max t.ins.length
  have h7 := cnt_max t.outs.length
  unfold encTx
  simp only [List.length_append, leb_len]
  have h8 : (if wh = true then [0, 1] else ([] : List Int)).length ≤ 2 := by split <;> simp
  have h9 : (if wh = true then flat encWits t.ins else ([] : List Int)).length ≤ 5055 * t.ins.length := by
    split
    · exact h3
    · simp
  omega
theorem bytesOf_len {t : TxD} (h : MayF t) (hp : ∀ d ∈ t.ins, d.prev.length = 32) : (bytesOf t).length ≤ 400000 := by
  unfold bytesOf
  split
  · exact encTx_len h hp _
  · simp

theorem inOf_fit (m : Int) (j : Nat) (hj : j ≤ 3) : (inOf m j).Fit := by
  refine ⟨?_, ?_, ?_, ?_⟩
  · simp [inOf, zeros]
  · intro x hx
    unfold inOf zeros at hx
    simp only [List.mem_cons, List.mem_append, List.not_mem_nil, or_false] at hx
    rcases hx with rfl | hx | rfl
    · omega
    · have := List.eq_of_mem_replicate hx
      omega
    · omega
  · show (m / 2 ^ (2 * j) % 4).toNat < 4294967296
    omega
  · show (4294967295 - m / 2 ^ (8 + j) % 4).toNat < 4294967296
    omega
theorem inOf_script (m : Int) (j : Nat) : (inOf m j).script.length ≤ 1 ∧ Bys (inOf m j).script := by
  unfold inOf
  simp only
  split
  · refine ⟨by simp, fun x hx => ?_⟩
    rw [List.mem_singleton.1 hx]
    omega
  · exact ⟨by simp, Bys.nil⟩
theorem inOf_wit (m : Int) (j : Nat) : (inOf m j).wit.length ≤ 2 ∧ ∀ x ∈ (inOf m j).wit, x.length ≤ 1 ∧ Bys x := by
  unfold inOf
  simp only
  split
  · refine ⟨by simp [List.length_take]; omega, fun x hx => ?_⟩
    have := List.mem_of_mem_take hx
    simp only [List.mem_cons, List.not_mem_nil, or_false] at this
    rcases this with rfl | rfl
    · refine ⟨by simp, fun x hx => ?_⟩
      rw [List.mem_singleton.1 hx]
      omega
    · exact ⟨by simp, Bys.nil⟩
  · exact ⟨by simp, fun x hx => by cases hx⟩
theorem mem_ins {n m : Int} {d : InD} (h : d ∈ (txOf n m).ins) : ∃ j, j ≤ 3 ∧ d = inOf m j := by
  obtain ⟨j, hj, rfl⟩ := List.mem_map.1 h
  rw [List.mem_range] at hj
  exact ⟨j, by omega, rfl⟩
theorem mem_outs {n m : Int} {d : OutD} (h : d ∈ (txOf n m).outs) : ∃ j, d = outOf n m j := by
  obtain ⟨j, hj, rfl⟩ := List.mem_map.1 h
  exact ⟨j, rfl⟩
theorem txOf_lens (n m : Int) : 1 ≤ (txOf n m).ins.length ∧ (txOf n m).ins.length ≤ 4 ∧ 1 ≤ (txOf n m).outs.length ∧ (txOf n m).outs.length ≤ 4 := by
  simp only [txOf, List.length_map, List.length_range]
  omega
theorem txOf_may (n m : Int) : MayF (txOf n m) := by
  obtain ⟨h1, h2, h3, h4⟩ := txOf_lens n m
  refine ⟨h1, by omega, h3, by omega, fun d hd => ?_, fun d hd => ?_, fun d hd x hx => ?_, fun d hd => ?_⟩
  · obtain ⟨j, _, rfl⟩ := mem_ins hd
    have := (inOf_script m j).1
    omega
  · obtain ⟨j, _, rfl⟩ := mem_ins hd
    have := (inOf_wit m j).1
    omega
  · obtain ⟨j, _, rfl⟩ := mem_ins hd
    have := ((inOf_wit m j).2 x hx).1
    omega
  · obtain ⟨j, rfl⟩ := mem_outs hd
    have := scriptOf_len (m / 2 ^ j)
    show (scriptOf (m / 2 ^ j)).length ≤ 500
    omega
theorem txOf_fit (n m : Int) : TxFit (txOf n m) := by
  refine ⟨?_, ?_, fun d hd => ?_, fun d hd => ?_⟩
  · show (n % 4 + 1).toNat < 4294967296
    omega
  · show (n / 4 % 2 * (n / 8 % 32)).toNat < 4294967296
    rcases (show n / 4 % 2 = 0 ∨ n / 4 % 2 = 1 by omega) with h | h <;> rw [h] <;> omega
  · obtain ⟨j, hj, rfl⟩ := mem_ins hd
    exact inOf_fit m j hj
  · obtain ⟨j, rfl⟩ := mem_outs hd
    show (n / 2 ^ (12 + j) % 4096).toNat < 18446744073709551616
    omega
theorem txOf_bys (n m : Int) : TxBys (txOf n m) := by
  refine ⟨fun d hd => ?_, fun d hd => ?_⟩
  · obtain ⟨j, hj, rfl⟩ := mem_ins hd
    exact ⟨(inOf_fit m j hj).pbys, (inOf_script m j).2, fun x hx => ((inOf_wit m j).2 x hx).2⟩
  · obtain ⟨j, rfl⟩ := mem_outs hd
    exact scriptOf_bys _
theorem txOf_len (n m : Int) : (bytesOf (txOf n m)).length ≤ 400000 := bytesOf_len (txOf_may n m) fun d hd => ((txOf_fit n m).ins d hd).plen
theorem txOf_parse (n m : Int) : pParse (bytesOf (txOf n m)) = (txOf n m, true) := pParse_back _ (txOf_may n m) (txOf_fit n m)
end

section
open Go.RowKit

theorem txOf_pos (n m : Int) : 4 ≤ (bytesOf (txOf n m)).length := by
  unfold bytesOf
  rw [if_pos ((mayB_iff _).2 (txOf_may n m))]
  unfold encTx
  simp only [List.length_append, leb_len]
  omega

/-- Blocks from B on are as they were. -/
def High (B : Nat) (w w' : World) : Prop := w.heap.size ≤ w'.heap.size ∧ ∀ b, B ≤ b → b < w.heap.size → w'.heap[b]? = w.heap[b]?
theorem High.only {B g : Nat} {w w' : World} (h : Only g w w') (hg : g < B) : High B w w' := ⟨h.size, fun b hb hl => h.block b hl (by simp; omega)⟩
theorem High.below {B : Nat} {w w' : World} (h : Below w.heap.size w w') : High B w w' := ⟨h.size, fun b _ hl => h.block b hl⟩
theorem High.trans {B : Nat} {w w' w2 : World} (h : High B w w') (k : High B w' w2) : High B w w2 := ⟨Nat.le_trans h.1 k.1, fun b hb hl => (k.2 b hb (Nat.lt_of_lt_of_le hl h.1)).trans (h.2 b hb hl)⟩
theorem ownsRow_high {w w' : World} {B e k n : Nat} {v : Value} {xs : List Value} (ho : w.ownsRow B e k v n xs) (hk : High B w w') : w'.ownsRow B e k v n xs := by
  refine ⟨ho.1, ?_⟩
  rcases ho.2 with h | ⟨g, cap, cur, hv, hB, hx, h⟩
  · exact .inl h
  · exact .inr ⟨g, cap, cur, hv, hB, (hk.2 g hB (heap_lt hx)).trans hx, h⟩
section
set_option maxRecDepth 100000
variable {w w' : World} {B : Nat}
theorem OwnMany.high {α : Type} {k e : Nat} {R R' : List Value → α → Prop} {v : Value} {ds : List α} (h : OwnMany k e R w B v ds) (hk : High B w w') (hR : ∀ cs d, R cs d → R' cs d) : OwnMany k e R' w' B v ds := by
  obtain ⟨css, ho, hl, hr⟩ := h
  exact ⟨css, ownsRow_high ho hk, hl, fun i cs d h1 h2 => ⟨(hr i cs d h1 h2).1, hR cs d (hr i cs d h1 h2).2⟩⟩
theorem Own.high {e : Nat} {v : Value} {l : List Int} (h : Own w B e v l) (hk : High B w w') : Own w' B e v l := ownsRow_high h hk
theorem rows_high {v : Value} {ll : List (List Int)} (h : OwnRows w B v ll) (hk : High B w w') : OwnRows w' B v ll := OwnMany.high h hk fun _ _ ⟨sv, hc, h1, h2⟩ => ⟨sv, hc, h1.high hk, h2⟩
theorem InO.high {cs : List Value} {d : InD} (h : InO w B cs d) (hk : High B w w') : InO w' B cs d := by
  obtain ⟨sv, wv, rfl, hf, h1, h2, h3⟩ := h
  exact ⟨sv, wv, rfl, hf, h1.high hk, h2, rows_high h3 hk⟩
theorem OutO.high {cs : List Value} {d : OutD} (h : OutO w B cs d) (hk : High B w w') : OutO w' B cs d := by
  obtain ⟨sv, rfl, hf, h1, h2⟩ := h
  exact ⟨sv, rfl, hf, h1.high hk, h2⟩
theorem TxO.high {v : Value} {t : TxD} (h : TxO w B v t) (hk : High B w w') : TxO w' B v t := by
  obtain ⟨iv, ov, rfl, h1, h2, h3, h4⟩ := h
  exact ⟨iv, ov, rfl, h1, h2, OwnMany.high h3 hk fun _ _ h => h.high hk, OwnMany.high h4 hk fun _ _ h => h.high hk⟩

/-- A block of bytes, its first n cells bytes, whichever. -/
def BoxB (w : World) (g n : Nat) : Prop := ∃ cur, Box w g 5 cur ∧ ∀ k, k < n → ∃ x : Int, cur[k]? = some (.int .u8 x)
theorem BoxB.at {g n : Nat} (h : BoxB w g n) {k : Nat} (hk : k < n) : ∃ x : Int, w.cell? ⟨g, k, none⟩ = some (.int .u8 x) ∧ w.frozen? ⟨g, k, none⟩ = false := by
  obtain ⟨cur, hb, hx⟩ := h
  obtain ⟨x, hx⟩ := hx k hk
  exact ⟨x, (hb.cell k).trans hx, hb.warm k⟩
theorem BoxB.poke {g n : Nat} (h : BoxB w g n) {g' n' : Nat} (h' : BoxB w g' n') (k : Nat) (y : Int) : BoxB (w.setCell ⟨g', k, none⟩ (.int .u8 y)) g n := by
  obtain ⟨cur, hb, hx⟩ := h
  by_cases he : g = g'
  · subst he
    refine ⟨_, hb.set k _, fun j hj => ?_⟩
    obtain ⟨x, hx⟩ := hx j hj
    rw [Array.getElem?_setIfInBounds]
    by_cases hkj : k = j
    · subst hkj
      have hl : k < cur.size := (Array.getElem?_eq_some_iff.1 hx).1
      rw [if_pos rfl, if_pos hl]
      exact ⟨y, rfl⟩
    · rw [if_neg hkj]
      exact ⟨x, hx⟩
  · exact ⟨cur, (Below.heap_setCell w _ _ g he).trans hb, hx⟩
theorem Box.poke {g t : Nat} {cs : Array Value} (h : Box w g t cs) (ht : t ≠ 5) {g' n' : Nat} (h' : BoxB w g' n') (k : Nat) (y : Value) : Box (w.setCell ⟨g', k, none⟩ y) g t cs := by
  obtain ⟨cur, hb, _⟩ := h'
  have he : g ≠ g' := fun e => by
    subst e
    have h1 : w.heap[g]? = some (.cells cs t (0, 0)) := h
    have h2 : w.heap[g]? = some (.cells cur 5 (0, 0)) := hb
    rw [h1] at h2
    injection h2 with h3
    injection h3 with _ h4
    exact ht h4
  exact (Below.heap_setCell w _ _ g he).trans h
theorem Own.boxB {v : Value} {l : List Int} (h : Own w B 5 v l) (hl : 0 < l.length) : ∃ g c, v = .slice (some ⟨g, 0, none⟩) l.length c ∧ B ≤ g ∧ g < w.heap.size ∧ l.length ≤ c ∧ BoxB w g l.length := by
  rcases h.form with ⟨_, rfl⟩ | ⟨g, cap, cur, rfl, hb, hx, hc, hm, hs, ht⟩
  · simp at hl
  · refine ⟨g, cap, rfl, hb, hx.lt, hc, cur, hx, fun k hk => ⟨l.getD k 0, ?_⟩⟩
    have hu : (byteVals l)[k]? = some (.int .u8 (l.getD k 0)) := by
      unfold byteVals
      rw [List.getElem?_map, List.getElem?_eq_getElem hk, List.getD_eq_getElem?_getD, List.getElem?_eq_getElem hk]
      rfl
    rw [← ht, List.getElem?_take, if_pos hk] at hu
    simpa using hu
/-- The slice v is a row of bytes, whichever, in a block from B on. -/
def ScrB (w : World) (B : Nat) (v : Value) : Prop := ∃ A n c, v = .slice A n c ∧ n ≤ c ∧ n ≤ 500 ∧ (0 < n → ∃ g, A = some ⟨g, 0, none⟩ ∧ B ≤ g ∧ BoxB w g n)
theorem ScrB.poke {v : Value} (h : ScrB w B v) {g' n' : Nat} (h' : BoxB w g' n') (k : Nat) (y : Int) : ScrB (w.setCell ⟨g', k, none⟩ (.int .u8 y)) B v := by
  obtain ⟨A, n, c, rfl, hc, h5, hn⟩ := h
  refine ⟨A, n, c, rfl, hc, h5, fun h0 => ?_⟩
  obtain ⟨g, rfl, hg, hb⟩ := hn h0
  exact ⟨g, rfl, hg, hb.poke h' k y⟩
theorem Own.scrB {v : Value} {l : List Int} (h : Own w B 5 v l) (h5 : l.length ≤ 500) : ScrB w B v := by
  rcases Nat.eq_zero_or_pos l.length with h0 | h0
  · have : l = [] := List.eq_nil_of_length_eq_zero h0
    subst this
    rcases h.form with ⟨rfl, _⟩ | ⟨g, cap, cur, rfl, _⟩
    · exact ⟨_, _, _, rfl, Nat.zero_le _, Nat.zero_le _, fun h => absurd h (Nat.lt_irrefl 0)⟩
    · exact ⟨_, _, _, rfl, Nat.zero_le _, Nat.zero_le _, fun h => absurd h (Nat.lt_irrefl 0)⟩
  · obtain ⟨g, c, rfl, hg, _, hc, hb⟩ := h.boxB h0
    exact ⟨_, _, _, rfl, hc, h5, fun _ => ⟨g, rfl, hg, hb⟩⟩
/-- The rows of bytes that the cells C of a block of inputs hold. -/
def InsB (w : World) (B gi ni : Nat) (C : Array Value) : Prop := Box w gi 58 C ∧ ∀ i, i < ni → ∃ v, C[i * 36 + 33]? = some v ∧ ScrB w B v
theorem InsB.poke {gi ni : Nat} {C : Array Value} (h : InsB w B gi ni C) {g' n' : Nat} (h' : BoxB w g' n') (k : Nat) (y : Int) : InsB (w.setCell ⟨g', k, none⟩ (.int .u8 y)) B gi ni C :=
  ⟨Box.poke h.1 (by decide) h' k _, fun i hi => by
    obtain ⟨v, hv, hs⟩ := h.2 i hi
    exact ⟨v, hv, hs.poke h' k y⟩⟩
theorem OwnMany.insB {v : Value} {ds : List InD} (h : OwnMany 36 58 (InO w B) w B v ds) (hl : 0 < ds.length) (h5 : ∀ d ∈ ds, d.script.length ≤ 500) :
    ∃ gi c C, v = .slice (some ⟨gi, 0, none⟩) ds.length c ∧ ds.length ≤ c ∧ B ≤ gi ∧ gi < w.heap.size ∧ InsB w B gi ds.length C := by
  obtain ⟨css, ho, hcl, hlen, hr⟩ := h.lens
  rcases ho.2 with ⟨_, hn⟩ | ⟨g, cap, cur, rfl, hB, hx, hc, hm, hs, ht⟩
  · omega
  · refine ⟨g, cap, cur, rfl, hc, hB, Box.lt hx, hx, fun i hi => ?_⟩
    have hcs : css[i]? = some (css[i]'(by omega)) := List.getElem?_eq_getElem (by omega)
    obtain ⟨sv, wv, he, hf, h1, h2, h3⟩ := hr i _ ds[i] hcs (List.getElem?_eq_getElem hi)
    have h33 := flatten_at css i 33 _ hlen hcs (by omega)
    rw [he, inCells_script hf, ← ht, List.getElem?_take, if_pos (by omega)] at h33
    exact ⟨sv, by simpa using h33, h1.scrB (h5 _ (List.getElem_mem hi))⟩
end
end

end Go.Proofs.Ytdemamipllfonaa
