/- Contracts of package txns: nextOut, nextIn. -/
import Derived.Test.YtojeonepplfhlaaTxK
import Derived.Deep.RegionHeld3
import Derived.Laws.CopyOwn
namespace Go.Proofs.Ytojeonepplfhlaa
open Go.RowKit

theorem setRow_grown (w : World) (G : Nat) (cs : Array Value) : w.grownBy (w.setRow G cs) (some G) := ⟨rfl, rfl, rfl, by simp, fun k _ hne => setRow_other w G k cs (fun e => hne (by rw [e]))⟩
theorem setRow_box {w : World} {G t : Nat} {old : Array Value} (h : Box w G t old) (cs : Array Value) : Box (w.setRow G cs) G t cs := setRow_heap w G _ cs t _ h
theorem Only.setRow {g G : Nat} {w0 w : World} (h : Only g w0 w) (hG : w0.heap.size ≤ G) (cs : Array Value) : Only g w0 (w.setRow G cs) :=
  ⟨h.os, h.tape, h.output, by rw [size_setRow]; exact h.size, fun q hq hne => (setRow_other w G q cs (by omega)).trans (h.block q hq hne)⟩
theorem Keeps.of_setRow {ts : List Nat} {w : World} {G e : Nat} {cur : Array Value} (hb : Box w G e cur) (he : e ∉ ts) (cs : Array Value) : Keeps ts w (w.setRow G cs) :=
  Keeps.of_grown (setRow_grown w G cs) (e := e) (cur := cur) (fun b h => by injection h with h; subst h; exact hb) he
set_option maxRecDepth 100000 in
/-- A fault of the Reader aside: another block is as it was. -/
theorem Box.other {w w' : World} {g b t : Nat} {cs : Array Value} {bad : Bool} {l : List Int} (h : Box w b t cs) (hk : Only g w w') (hr : Rd w g l bad) (ht : t ≠ 69) : Box w' b t cs := by
  obtain ⟨c2, hb⟩ := hr.box
  exact (Keeps.of_only (ts := [t]) hk hb (by simp; exact fun e => ht e.symm)).2 b t cs (by simp) h

def pOut (l : List Int) (bad : Bool) : Rest OutD := (⟨(num l bad 8).1, (pText (num l bad 8).2.1 (num l bad 8).2.2).1⟩, (pText (num l bad 8).2.1 (num l bad 8).2.2).2)
def OutP (g : Nat) (x : Rest OutD) (w : World) (e : Ending) (w' : World) : Prop := ∃ cs, e = .returned (.agg cs.toArray) ∧ Only g w w' ∧ OutO w' w.heap.size cs x.1 ∧ Rd w' g x.2.1 x.2.2
set_option maxRecDepth 100000 in
set_option maxHeartbeats 2000000 in
theorem nextOut_any (g : Nat) (w : World) (l : List Int) (bad : Bool) (h : Rd w g l bad) (hl : l.length ≤ 140737488355328) :
    Calls Try.prog 63 #[.pointer (some ⟨g, 0, none⟩)] w (OutP g (pOut l bad) w) := by
  have hb2 : Below w.heap.size w ((w.alloc (.cells #[.int .u64 0, .slice none 0 0] 51)).alloc (.cells #[.int .u64 0, .slice none 0 0] 51)) := ((Below.refl _ _).alloc (Nat.le_refl _) _).alloc (by simp) _
  have hr0 := h.below hb2
  have H := Kp.mk (rbig_any g _ l bad hr0)
  have HX0 : Kp (Box ((w.alloc (.cells #[.int .u64 0, .slice none 0 0] 51)).alloc (.cells #[.int .u64 0, .slice none 0 0] 51)) w.heap.size 51 #[.int .u64 0, .slice none 0 0] ∧ Box ((w.alloc (.cells #[.int .u64 0, .slice none 0 0] 51)).alloc (.cells #[.int .u64 0, .slice none 0 0] 51)) (w.heap.size + 1) 51 #[.int .u64 0, .slice none 0 0]) := ⟨heap_alloc2_old w _ _, heap_alloc2_new w _ _⟩
  have HR0 := Kp.mk hr0
  have HO0 : Kp (Only g w ((w.alloc (.cells #[.int .u64 0, .slice none 0 0] 51)).alloc (.cells #[.int .u64 0, .slice none 0 0] 51))) := ⟨Only.of_below hb2⟩
  have HLN := Kp.mk (num_len l bad 8)
  have HLT := Kp.mk (num_lt l h.bys bad 8)
  have HE : Kp (pOut l bad = (⟨(num l bad 8).1, (pText (num l bad 8).2.1 (num l bad 8).2.2).1⟩, (pText (num l bad 8).2.1 (num l bad 8).2.2).2)) := ⟨rfl⟩
  clear h hb2 hr0
  go_enter Try.func63, Try.ntmps63
  go_wp2_with fail
  refine H.out.mono ?_
  rintro e w3 ⟨ho, rfl, hr⟩
  have hx2 := HX0.out.1.other ho HR0.out (by decide)
  have hx3 := HX0.out.2.other ho HR0.out (by decide)
  have c0 := hx3.cell 0
  have f0 := hx3.warm 0
  have HO3 := Kp.mk (HO0.out.trans ho)
  have HR3 := Kp.mk hr
  have HX3 := Kp.mk (And.intro hx2 hx3)
  generalize (num l bad 8).1 = n at *
  generalize (num l bad 8).2.1 = l1 at *
  generalize (num l bad 8).2.2 = b1 at *
  clear ho hr hx2 hx3
  go_wp2_with fail
  have hx2 : Box (w3.setCell ⟨w.heap.size + 1, 0, none⟩ (.int .u64 (n : Int))) w.heap.size 51 #[.int .u64 0, .slice none 0 0] := HX3.out.1.keep ((Only.refl (w.heap.size + 1) w3).set 0 _) (by omega)
  have hx3 : Box (w3.setCell ⟨w.heap.size + 1, 0, none⟩ (.int .u64 (n : Int))) (w.heap.size + 1) 51 #[.int .u64 (n : Int), .slice none 0 0] := HX3.out.2.set 0 _
  have hr4 : Rd (w3.setCell ⟨w.heap.size + 1, 0, none⟩ (.int .u64 (n : Int))) g l1 b1 := HR3.out.keeps (Keeps.of_set (ts := [5, 69]) HX3.out.2 (by decide) 0 _) (by decide) (by decide)
  have ho4 : Only g w (w3.setCell ⟨w.heap.size + 1, 0, none⟩ (.int .u64 (n : Int))) := HO3.out.setNew (by omega) 0 _
  generalize w3.setCell ⟨w.heap.size + 1, 0, none⟩ (.int .u64 (n : Int)) = w4 at *
  refine (nextText_any g w4 l1 b1 hr4 (by have := HLN.out; omega)).mono ?_
  rintro e w5 ⟨v5, rfl, ho5, hv5, hy5, hr5⟩
  have hx52 := hx2.other ho5 hr4 (by decide)
  have hx53 := hx3.other ho5 hr4 (by decide)
  have d1 := hx53.cell 1
  have f1 := hx53.warm 1
  generalize pText l1 b1 = X at *
  have HO5 := Kp.mk (ho4.trans ho5)
  have HV5 := Kp.mk (And.intro (hv5.less ho4.size) hy5)
  have HR5 := Kp.mk hr5
  have HX5 := Kp.mk (And.intro hx52 hx53)
  obtain ⟨A5, c5, rfl⟩ := hv5.slice
  have hx6 : Box (w5.setCell ⟨w.heap.size + 1, 1, none⟩ (.slice A5 X.1.length c5)) (w.heap.size + 1) 51 #[.int .u64 (n : Int), .slice A5 X.1.length c5] := hx53.set 1 _
  have hx62 : Box (w5.setCell ⟨w.heap.size + 1, 1, none⟩ (.slice A5 X.1.length c5)) w.heap.size 51 #[.int .u64 0, .slice none 0 0] := hx52.keep ((Only.refl (w.heap.size + 1) w5).set 1 _) (by omega)
  have hk6 : Keeps [5, 69] w5 (w5.setCell ⟨w.heap.size + 1, 1, none⟩ (.slice A5 X.1.length c5)) := Keeps.of_set hx53 (by decide) 1 _
  have hk7 : Keeps [5, 69] (w5.setCell ⟨w.heap.size + 1, 1, none⟩ (.slice A5 X.1.length c5)) ((w5.setCell ⟨w.heap.size + 1, 1, none⟩ (.slice A5 X.1.length c5)).setRow w.heap.size #[.int .u64 (n : Int), .slice A5 X.1.length c5]) := Keeps.of_setRow hx62 (by decide) _
  have HX6 : Kp ((w5.setCell ⟨w.heap.size + 1, 1, none⟩ (.slice A5 X.1.length c5)).heap[w.heap.size + 1]? = some (.cells #[.int .u64 (n : Int), .slice A5 X.1.length c5] 51 (0, 0))) := ⟨hx6⟩
  have HX62 : Kp ((w5.setCell ⟨w.heap.size + 1, 1, none⟩ (.slice A5 X.1.length c5)).heap[w.heap.size]? = some (.cells #[.int .u64 0, .slice none 0 0] 51 (0, 0))) := ⟨hx62⟩
  have HX7 : Kp (((w5.setCell ⟨w.heap.size + 1, 1, none⟩ (.slice A5 X.1.length c5)).setRow w.heap.size #[.int .u64 (n : Int), .slice A5 X.1.length c5]).heap[w.heap.size]? = some (.cells #[.int .u64 (n : Int), .slice A5 X.1.length c5] 51 (0, 0))) := ⟨setRow_box hx62 _⟩
  have HFIN : Kp (OutP g (pOut l bad) w (.returned (.agg #[.int .u64 (n : Int), .slice A5 X.1.length c5])) ((w5.setCell ⟨w.heap.size + 1, 1, none⟩ (.slice A5 X.1.length c5)).setRow w.heap.size #[.int .u64 (n : Int), .slice A5 X.1.length c5])) := ⟨by
    rw [HE.out]
    refine ⟨[.int .u64 (n : Int), .slice A5 X.1.length c5], rfl, (HO5.out.setNew (by omega) 1 _).setRow (Nat.le_refl _) _, ⟨_, rfl, ?_, (HV5.out.1.keeps (hk6.trans hk7) (by decide)), HV5.out.2⟩, HR5.out.keeps (hk6.trans hk7) (by decide) (by decide)⟩
    have := HLT.out
    have e : (256 : Nat) ^ 8 = 18446744073709551616 := by decide
    rw [e] at this
    exact this⟩
  clear hx2 hx3 hr4 ho4 ho5 hv5 hy5 hr5 hx52 hx53 c0 f0 hx6 hx62 hk6 hk7
  go_wp2_with (first | (refine wpList_load_row rfl 51 (.tmp 3) rfl (w.heap.size + 1) rfl _ #[.int .u64 (n : Int), .slice A5 X.1.length c5] _ _ HX6.out Try.underlying51 rfl sizeOut ?_) | (refine wpList_store_row rfl 51 (.tmp 2) (.tmp 10) rfl w.heap.size #[.int .u64 (n : Int), .slice A5 X.1.length c5] rfl rfl 51 #[.int .u64 0, .slice none 0 0] HX62.out sizeOut rfl (by simp [Value.oneCell']) ?_))
  exact bodyPost_ret (results_cell_row (by rfl) _ _ w.heap.size 51 _ _ _ rfl HX7.out Try.underlying51 rfl sizeOut) rfl HFIN.out
/-- GENERATED -/
theorem gen_l_here : True := trivial
def zIn : Array Value := (inCells ⟨List.replicate 32 0, 0, [], 0, []⟩ (.slice none 0 0) (.slice none 0 0)).toArray
theorem zIn_is : #[Value.int IntKind.u8 0, Value.int IntKind.u8 0, Value.int IntKind.u8 0, Value.int IntKind.u8 0, Value.int IntKind.u8 0, Value.int IntKind.u8 0, Value.int IntKind.u8 0, Value.int IntKind.u8 0, Value.int IntKind.u8 0, Value.int IntKind.u8 0, Value.int IntKind.u8 0, Value.int IntKind.u8 0, Value.int IntKind.u8 0, Value.int IntKind.u8 0, Value.int IntKind.u8 0, Value.int IntKind.u8 0, Value.int IntKind.u8 0, Value.int IntKind.u8 0, Value.int IntKind.u8 0, Value.int IntKind.u8 0, Value.int IntKind.u8 0, Value.int IntKind.u8 0, Value.int IntKind.u8 0, Value.int IntKind.u8 0, Value.int IntKind.u8 0, Value.int IntKind.u8 0, Value.int IntKind.u8 0, Value.int IntKind.u8 0, Value.int IntKind.u8 0, Value.int IntKind.u8 0, Value.int IntKind.u8 0, Value.int IntKind.u8 0, Value.int IntKind.u32 0, Value.slice none 0 0, Value.int IntKind.u32 0, Value.slice none 0 0] = zIn := by rfl
/-- 'copy' into a whole row, as one step of a region that draws its order. -/
theorem step_copy_row {P : Program} {ops : Array Oper} {o : Oper} {a : Act} {w : World} {K : Act → World → Prop} {Q : Exit → Act → World → Prop} {E : Prop} (hgd : o.guard = none) (d s : Operand) (dT sT : TypeId)
    (ho : o.op = .call { callee := .builtin .copy, args := #[d, s], argTypes := #[dT, sT] }) (elem : TypeId) (hu : P.underlying dT = some (.slice elem)) (hsz : (P.info? elem).map (·.size) = some 1)
    (dp sp : Option Addr) (dLen dCap sLen sCap : Nat) (hd : a.eval d = .slice dp dLen dCap) (hs : a.eval s = .slice sp sLen sCap)
    (g off : Nat) (cur : List Value) (t : TypeId) (hg : w.heap[g]? = some (.cells cur.toArray t (0, 0))) (cs : List Value) (hn : cs.length = Nat.min sLen dLen)
    (hpos : 0 < cs.length → dp = some ⟨g, off, none⟩ ∧ ∃ ad, sp = some ad ∧ ∀ j v, cs[j]? = some v → w.cell? (ad.add j) = some v)
    (hfit : off + cs.length ≤ cur.length) (h1 : ∀ v ∈ cs, v.oneCell' = true)
    (h : K (a.put o.dst (goInt cs.length)) (w.setRow g (splice cur off cs).toArray)) :
    if Region.wanted o (yielded ops a.tmps) = true then Oper.wp P o a w K Q else E := by
  have hw : Region.wanted o (yielded ops a.tmps) = true := by simp [Region.wanted, hgd]
  rw [if_pos hw]
  by_cases h0 : cs.length = 0
  · obtain rfl : cs = [] := List.eq_nil_of_length_eq_zero h0
    have hrun := run_copy_none (P := P) w dT sT o.type elem dp sp dLen dCap sLen sCap hu hsz (by simpa using hn.symm)
    have e : w.setRow g (splice cur off []).toArray = w := by
      rw [show splice cur off ([] : List Value) = cur by simp [splice]]
      exact setRow_self w g _ t _ hg
    rw [e] at h
    unfold Oper.wp
    simp [execOp, ho, resolve, invoke, builtin, hd, hs, hrun, Result.andThen]
    exact h
  · obtain ⟨rfl, ad, rfl, hsrc⟩ := hpos (by omega)
    have hrun := run_copy_row (P := P) w dT sT o.type elem g off dLen dCap ad sLen sCap cur.toArray t cs hu hsz hg hn hsrc (by simpa using hfit) h1
    unfold Oper.wp
    simp [execOp, ho, resolve, invoke, builtin, hd, hs, hrun, Result.andThen]
    unfold splice at h
    exact h
set_option maxRecDepth 100000 in
theorem own_src {w : World} {B : Nat} {A : Option Addr} {n c : Nat} {l : List Int} (h : Own w B 5 (.slice A n c) l) (hp : 0 < (byteVals l).length) : ∃ ad, A = some ad ∧ ∀ j v, (byteVals l)[j]? = some v → w.cell? (ad.add j) = some v := by
  obtain ⟨A', c', e, _, _, hr⟩ := h.any
  injection e with e1 e2 e3
  subst e1
  obtain ⟨b, off, rfl, _, _, hrun⟩ := hr (by rintro rfl; simp [byteVals] at hp)
  refine ⟨_, rfl, fun j v hv => ?_⟩
  obtain ⟨hj, rfl⟩ := byteVals_at l j v hv
  rw [← hrun j hj]
  by_cases h0 : j = 0 <;> simp [Addr.add, h0]
def prevOf (l : List Int) : List Int := if l.length = 32 then l else List.replicate 32 0
theorem prevOf_len (l : List Int) : (prevOf l).length = 32 := by
  unfold prevOf
  split
  · assumption
  · simp
theorem prevOf_bys {l : List Int} (h : Bys l) : Bys (prevOf l) := by
  unfold prevOf
  split
  · exact h
  · intro x hx
    rw [List.eq_of_mem_replicate hx]
    omega
/-- The cells of an input that was read. -/
theorem in_cells (l : List Int) (hl : l.length = 32 ∨ l = []) (v q : Nat) (sv : Value) :
    ((((splice zIn.toList 0 (byteVals l)).toArray.setIfInBounds 32 (.int .u32 (v : Int))).setIfInBounds 33 sv).setIfInBounds 34 (.int .u32 (q : Int))) = (inCells ⟨prevOf l, v, [], q, []⟩ sv (.slice none 0 0)).toArray := by
  have h0 : splice zIn.toList 0 (byteVals l) = byteVals (prevOf l) ++ [.int .u32 0, .slice none 0 0, .int .u32 0, .slice none 0 0] := by
    rcases hl with h | h
    · have e : prevOf l = l := if_pos h
      rw [e]
      have hz : zIn.toList = byteVals (List.replicate 32 0) ++ [.int .u32 0, .slice none 0 0, .int .u32 0, .slice none 0 0] := rfl
      simp only [splice, hz, List.take_zero, List.nil_append, Nat.zero_add]
      rw [List.drop_append_of_le_length (by simp [byteVals, h]), List.drop_eq_nil_of_le (by simp [byteVals, h])]
      rfl
    · subst h
      rfl
  rw [h0]
  have hp : (byteVals (prevOf l)).length = 32 := by simp [byteVals, prevOf_len]
  simp only [List.setIfInBounds_toArray]
  rw [List.set_append_right _ _ (by omega), hp, List.set_append_right _ _ (by omega), hp, List.set_append_right _ _ (by omega), hp]
  rfl
def pIn (l : List Int) (bad : Bool) : Rest InD :=
  let t := took l bad 32
  let v := num t.2.1 t.2.2 4
  let s := pText v.2.1 v.2.2
  let q := num s.2.1 s.2.2 4
  (⟨prevOf t.1, v.1, s.1, q.1, []⟩, q.2)
def InP (g : Nat) (x : Rest InD) (w : World) (e : Ending) (w' : World) : Prop := ∃ cs, e = .returned (.agg cs.toArray) ∧ Only g w w' ∧ InO w' w.heap.size cs x.1 ∧ Rd w' g x.2.1 x.2.2

set_option maxRecDepth 1000000 in
set_option maxHeartbeats 4000000 in
theorem nextIn_any (g : Nat) (w : World) (l : List Int) (bad : Bool) (h : Rd w g l bad) (hl : l.length ≤ 140737488355328) :
    Calls Try.prog 62 #[.pointer (some ⟨g, 0, none⟩)] w (InP g (pIn l bad) w) := by
  have hb2 : Below w.heap.size w ((w.alloc (.cells zIn 47)).alloc (.cells zIn 47)) := ((Below.refl _ _).alloc (Nat.le_refl _) _).alloc (by simp) _
  have HX0 : Kp (Box ((w.alloc (.cells zIn 47)).alloc (.cells zIn 47)) w.heap.size 47 zIn ∧ Box ((w.alloc (.cells zIn 47)).alloc (.cells zIn 47)) (w.heap.size + 1) 47 zIn) := ⟨heap_alloc2_old w _ _, heap_alloc2_new w _ _⟩
  have HR0 := Kp.mk (h.below hb2)
  have HO0 : Kp (Only g w ((w.alloc (.cells zIn 47)).alloc (.cells zIn 47))) := ⟨Only.of_below hb2⟩
  have HE : Kp (pIn l bad = (⟨prevOf (took l bad 32).1, (num (took l bad 32).2.1 (took l bad 32).2.2 4).1, (pText (num (took l bad 32).2.1 (took l bad 32).2.2 4).2.1 (num (took l bad 32).2.1 (took l bad 32).2.2 4).2.2).1, (num (pText (num (took l bad 32).2.1 (took l bad 32).2.2 4).2.1 (num (took l bad 32).2.1 (took l bad 32).2.2 4).2.2).2.1 (pText (num (took l bad 32).2.1 (took l bad 32).2.2 4).2.1 (num (took l bad 32).2.1 (took l bad 32).2.2 4).2.2).2.2 4).1, []⟩, (num (pText (num (took l bad 32).2.1 (took l bad 32).2.2 4).2.1 (num (took l bad 32).2.1 (took l bad 32).2.2 4).2.2).2.1 (pText (num (took l bad 32).2.1 (took l bad 32).2.2 4).2.1 (num (took l bad 32).2.1 (took l bad 32).2.2 4).2.2).2.2 4).2)) := ⟨rfl⟩
  have HT : Kp (∀ W, Rd W g l bad → Calls Try.prog 42 #[.pointer (some ⟨g, 0, none⟩), .int .i64 32] W (Piece g (took l bad 32) W)) := ⟨fun W hr => take_any g W l bad 32 hr hl⟩
  have HTL := Kp.mk (took_len l bad 32)
  have HTS := Kp.mk (took_size l bad 32)
  have HXY := Kp.mk (took_bys h.bys bad 32)
  have HN : Kp ((byteVals (took l bad 32).1).length = Nat.min (took l bad 32).1.length 32) := ⟨by
    rcases HTS.out with e | e
    · simp [byteVals, e]
    · simp [byteVals, e]⟩
  have HFIT : Kp (0 + (byteVals (took l bad 32).1).length ≤ zIn.toList.length) := ⟨by
    have hz : zIn.toList.length = 36 := rfl
    rw [hz]
    rcases HTS.out with e | e <;> simp [byteVals, e]⟩
  have HZ := Kp.mk zIn_is
  clear h hb2
  generalize took l bad 32 = X at *
  go_enter Try.func62, Try.ntmps62
  go_wp2_with fail
  rw [HZ.out]
  obtain ⟨W2, hW2⟩ : ∃ W2, (w.alloc (.cells zIn 47)).alloc (.cells zIn 47) = W2 := ⟨_, rfl⟩
  rw [hW2] at HX0 HR0 HO0
  rw [hW2]
  have HH2 : Kp (w.heap.size + 1 < W2.heap.size) := ⟨HX0.out.2.lt⟩
  clear hW2
  go_region_held3 (fun _ => True) (trivial) (first | (go_at_call 42; refine (HT.out W2.drew (HR0.out.below (Below.refl _ _).drew)).mono ?_; rintro e w3 ⟨v3, rfl, ho3, hv3, hy3, hr3⟩; have hx2 := (HX0.out.1.below (Below.refl _ _).drew).other ho3 (HR0.out.below (Below.refl _ _).drew) (by decide); have hx3 := (HX0.out.2.below (Below.refl _ _).drew).other ho3 (HR0.out.below (Below.refl _ _).drew) (by decide); obtain ⟨A3, c3, rfl⟩ := hv3.slice; have HSRC := Kp.mk (own_src hv3)) | (refine step_copy_row rfl (.tmp 5) (.tmp 7) 27 27 rfl 5 Try.underlying27 (by kernel_rfl) _ _ _ _ _ _ rfl rfl (w.heap.size + 1) 0 zIn.toList 47 hx3 (byteVals X.1) HN.out (fun hp => ⟨rfl, HSRC.out hp⟩) HFIT.out (byteVals_one _) ?_))
  obtain ⟨C1, hC1⟩ : ∃ C1, (splice zIn.toList 0 (byteVals X.1)).toArray = C1 := ⟨_, rfl⟩
  rw [hC1]
  have HC1 := Kp.mk hC1
  have hsz1 : C1.size = 36 := by rw [← hC1, List.size_toArray, length_splice _ _ _ (by simpa using HFIT.out)]; rfl
  have hk4 : Keeps [5, 69] w3 (w3.setRow (w.heap.size + 1) C1) := Keeps.of_setRow hx3 (by decide) C1
  have hx42 : Box (w3.setRow (w.heap.size + 1) C1) w.heap.size 47 zIn := hx2.keep (setRow_grown _ _ _) (by omega)
  have hx43 : Box (w3.setRow (w.heap.size + 1) C1) (w.heap.size + 1) 47 C1 := setRow_box hx3 C1
  have hr4 : Rd (w3.setRow (w.heap.size + 1) C1) g X.2.1 X.2.2 := hr3.keeps hk4 (by decide) (by decide)
  have ho4 : Only g w (w3.setRow (w.heap.size + 1) C1) := (HO0.out.trans ((Only.of_below (Below.refl _ _).drew).trans ho3)).setRow (by omega) C1
  generalize w3.setRow (w.heap.size + 1) C1 = w4 at *
  have HR4 := Kp.mk hr4
  have HO4 := Kp.mk ho4
  have HX4 := Kp.mk (And.intro hx42 hx43)
  have HSZ1 := Kp.mk hsz1
  clear hC1 hk4 hx2 hx3 ho3 hv3 hy3 hr3 hx42 hx43 hr4 ho4 hsz1 HSRC
  have HT4 := Kp.mk (rsmall_any g w4 _ _ HR4.out)
  have HLN4 := Kp.mk (num_len X.2.1 X.2.2 4)
  have HLT4 := Kp.mk (num_lt X.2.1 HR4.out.bys X.2.2 4)
  go_wp2_with fail
  refine HT4.out.mono ?_
  rintro e w5 ⟨ho5, rfl, hr5⟩
  generalize (num X.2.1 X.2.2 4).1 = n at *
  generalize (num X.2.1 X.2.2 4).2.1 = l5 at *
  generalize (num X.2.1 X.2.2 4).2.2 = b5 at *
  clear HT4
  have hx52 := HX4.out.1.other ho5 HR4.out (by decide)
  have hx53 := HX4.out.2.other ho5 HR4.out (by decide)
  obtain ⟨u32, hu32⟩ : ∃ u, C1[32]? = some u := ⟨_, Array.getElem?_eq_getElem (by rw [HSZ1.out]; omega)⟩
  have c5 := (hx53.cell 32).trans hu32
  have f5 := hx53.warm 32
  have HO5 := Kp.mk (HO4.out.trans ho5)
  have hk6 : Keeps [5, 69] w5 (w5.setCell ⟨w.heap.size + 1, 32, none⟩ (.int .u32 (n : Int))) := Keeps.of_set hx53 (by decide) 32 _
  have hx62 : Box (w5.setCell ⟨w.heap.size + 1, 32, none⟩ (.int .u32 (n : Int))) w.heap.size 47 zIn := hx52.keep ((Only.refl (w.heap.size + 1) w5).set 32 _) (by omega)
  have hx63 : Box (w5.setCell ⟨w.heap.size + 1, 32, none⟩ (.int .u32 (n : Int))) (w.heap.size + 1) 47 (C1.setIfInBounds 32 (.int .u32 (n : Int))) := hx53.set 32 _
  have hr6 : Rd (w5.setCell ⟨w.heap.size + 1, 32, none⟩ (.int .u32 (n : Int))) g l5 b5 := hr5.keeps hk6 (by decide) (by decide)
  have ho6 : Only g w (w5.setCell ⟨w.heap.size + 1, 32, none⟩ (.int .u32 (n : Int))) := HO5.out.setNew (by omega) 32 _
  obtain ⟨C2, hC2⟩ : ∃ C2, C1.setIfInBounds 32 (.int .u32 (n : Int)) = C2 := ⟨_, rfl⟩
  rw [hC2] at hx63
  have HC2 := Kp.mk hC2
  have HSZ2 : Kp (C2.size = 36) := ⟨by rw [← hC2, Array.size_setIfInBounds]; exact HSZ1.out⟩
  have HR6 := Kp.mk hr6
  have HO6 := Kp.mk ho6
  have HX6 := Kp.mk (And.intro hx62 hx63)
  clear hu32 hk6 ho5 hr5 hx52 hx53 hx62 hx63 hr6 ho6 hC2
  go_wp2_with fail
  generalize w5.setCell ⟨w.heap.size + 1, 32, none⟩ (.int .u32 (n : Int)) = w6 at *
  have HLN6 := Kp.mk (pText_len l5 b5)
  refine (nextText_any g w6 l5 b5 HR6.out (by have := HLN4.out; have := HTL.out; omega)).mono ?_
  generalize pText l5 b5 = Y at *
  rintro e w7 ⟨v7, rfl, ho7, hv7, hy7, hr7⟩
  have hx72 := HX6.out.1.other ho7 HR6.out (by decide)
  have hx73 := HX6.out.2.other ho7 HR6.out (by decide)
  obtain ⟨u33, hu33⟩ : ∃ u, C2[33]? = some u := ⟨_, Array.getElem?_eq_getElem (by rw [HSZ2.out]; omega)⟩
  have c7 := (hx73.cell 33).trans hu33
  have f7 := hx73.warm 33
  have HO7 := Kp.mk (HO6.out.trans ho7)
  have hone7 : v7.oneCell' = true := (hv7.rb hy7).one
  have hv7s := hv7.slice
  obtain ⟨A7, k7, rfl⟩ := hv7s
  have hk8 : Keeps [5, 69] w7 (w7.setCell ⟨w.heap.size + 1, 33, none⟩ (.slice A7 Y.1.length k7)) := Keeps.of_set hx73 (by decide) 33 _
  have hx82 : Box (w7.setCell ⟨w.heap.size + 1, 33, none⟩ (.slice A7 Y.1.length k7)) w.heap.size 47 zIn := hx72.keep ((Only.refl (w.heap.size + 1) w7).set 33 _) (by omega)
  have hx83 : Box (w7.setCell ⟨w.heap.size + 1, 33, none⟩ (.slice A7 Y.1.length k7)) (w.heap.size + 1) 47 (C2.setIfInBounds 33 (.slice A7 Y.1.length k7)) := hx73.set 33 _
  have hr8 : Rd (w7.setCell ⟨w.heap.size + 1, 33, none⟩ (.slice A7 Y.1.length k7)) g Y.2.1 Y.2.2 := hr7.keeps hk8 (by decide) (by decide)
  have ho8 : Only g w (w7.setCell ⟨w.heap.size + 1, 33, none⟩ (.slice A7 Y.1.length k7)) := HO7.out.setNew (by omega) 33 _
  have hv8 : Own (w7.setCell ⟨w.heap.size + 1, 33, none⟩ (.slice A7 Y.1.length k7)) w.heap.size 5 (.slice A7 Y.1.length k7) Y.1 := (hv7.keeps hk8 (by decide)).less HO6.out.size
  obtain ⟨C3, hC3⟩ : ∃ C3, C2.setIfInBounds 33 (.slice A7 Y.1.length k7) = C3 := ⟨_, rfl⟩
  rw [hC3] at hx83
  have HC3 := Kp.mk hC3
  have HSZ3 : Kp (C3.size = 36) := ⟨by rw [← hC3, Array.size_setIfInBounds]; exact HSZ2.out⟩
  have HR8 := Kp.mk hr8
  have HO8 := Kp.mk ho8
  have HX8 := Kp.mk (And.intro hx82 hx83)
  have HV8 := Kp.mk (And.intro hv8 hy7)
  clear hu33 hk8 ho7 hr7 hv7 hy7 hone7 hx72 hx73 hx82 hx83 hr8 ho8 hC3 hv8 c5 f5
  go_wp2_with fail
  generalize w7.setCell ⟨w.heap.size + 1, 33, none⟩ (.slice A7 Y.1.length k7) = w8 at *
  have HT8 := Kp.mk (rsmall_any g w8 _ _ HR8.out)
  have HLT8 := Kp.mk (num_lt Y.2.1 HR8.out.bys Y.2.2 4)
  refine HT8.out.mono ?_
  rintro e w9 ⟨ho9, rfl, hr9⟩
  generalize (num Y.2.1 Y.2.2 4).1 = q at *
  clear HT8
  have hx92 := HX8.out.1.other ho9 HR8.out (by decide)
  have hx93 := HX8.out.2.other ho9 HR8.out (by decide)
  obtain ⟨u34, hu34⟩ : ∃ u, C3[34]? = some u := ⟨_, Array.getElem?_eq_getElem (by rw [HSZ3.out]; omega)⟩
  have c9 := (hx93.cell 34).trans hu34
  have f9 := hx93.warm 34
  obtain ⟨cr, hbr⟩ := HR8.out.box
  have hv9 := HV8.out.1.keeps (Keeps.of_only (ts := [5]) ho9 hbr (by decide)) (by decide)
  have hkA : Keeps [5, 69, 27] w9 (w9.setCell ⟨w.heap.size + 1, 34, none⟩ (.int .u32 (q : Int))) := Keeps.of_set hx93 (by decide) 34 _
  have hxA2 : Box (w9.setCell ⟨w.heap.size + 1, 34, none⟩ (.int .u32 (q : Int))) w.heap.size 47 zIn := hx92.keep ((Only.refl (w.heap.size + 1) w9).set 34 _) (by omega)
  have hxA3 : Box (w9.setCell ⟨w.heap.size + 1, 34, none⟩ (.int .u32 (q : Int))) (w.heap.size + 1) 47 (C3.setIfInBounds 34 (.int .u32 (q : Int))) := hx93.set 34 _
  have hcells : C3.setIfInBounds 34 (.int .u32 (q : Int)) = (inCells ⟨prevOf X.1, n, [], q, []⟩ (.slice A7 Y.1.length k7) (.slice none 0 0)).toArray := by
    rw [← HC3.out, ← HC2.out, ← HC1.out]
    exact in_cells X.1 HTS.out n q _
  obtain ⟨C4, hC4⟩ : ∃ C4, C3.setIfInBounds 34 (.int .u32 (q : Int)) = C4 := ⟨_, rfl⟩
  rw [hC4] at hcells hxA3
  have hkB : Keeps [5, 69, 27] (w9.setCell ⟨w.heap.size + 1, 34, none⟩ (.int .u32 (q : Int))) ((w9.setCell ⟨w.heap.size + 1, 34, none⟩ (.int .u32 (q : Int))).setRow w.heap.size C4) := Keeps.of_setRow hxA2 (by decide) C4
  have HXA : Kp ((w9.setCell ⟨w.heap.size + 1, 34, none⟩ (.int .u32 (q : Int))).heap[w.heap.size + 1]? = some (.cells C4 47 (0, 0))) := ⟨hxA3⟩
  have HXA2 : Kp ((w9.setCell ⟨w.heap.size + 1, 34, none⟩ (.int .u32 (q : Int))).heap[w.heap.size]? = some (.cells zIn 47 (0, 0))) := ⟨hxA2⟩
  have HXB : Kp (((w9.setCell ⟨w.heap.size + 1, 34, none⟩ (.int .u32 (q : Int))).setRow w.heap.size C4).heap[w.heap.size]? = some (.cells C4 47 (0, 0))) := ⟨setRow_box hxA2 C4⟩
  have HS4 : Kp (C4.size = 36) := ⟨by rw [← hC4, Array.size_setIfInBounds]; exact HSZ3.out⟩
  have HI4 : Kp ((Try.prog.info? 47).map (·.size) = some C4.size) := ⟨by rw [HS4.out]; exact sizeIn⟩
  have h256 : (256 : Nat) ^ 4 = 4294967296 := by decide
  have hfit : (⟨prevOf X.1, n, Y.1, q, []⟩ : InD).Fit := ⟨prevOf_len _, prevOf_bys HXY.out, by have := HLT4.out; rw [h256] at this; exact this, by have := HLT8.out; rw [h256] at this; exact this⟩
  have hin : InO ((w9.setCell ⟨w.heap.size + 1, 34, none⟩ (.int .u32 (q : Int))).setRow w.heap.size C4) w.heap.size C4.toList ⟨prevOf X.1, n, Y.1, q, []⟩ :=
    ⟨.slice A7 Y.1.length k7, .slice none 0 0, by rw [hcells]; rfl, hfit, hv9.keeps (hkA.trans hkB) (by decide), HV8.out.2, OwnMany.nil _ _ _ _ _⟩
  have HONE : Kp (C4.all (·.oneCell') = true) := ⟨by
    have := all_oneCell_toArray hin.inR.one
    simpa using this⟩
  have HFIN : Kp (InP g (pIn l bad) w (.returned (.agg C4)) ((w9.setCell ⟨w.heap.size + 1, 34, none⟩ (.int .u32 (q : Int))).setRow w.heap.size C4)) := ⟨by
    rw [HE.out]
    exact ⟨C4.toList, by simp, ((HO8.out.trans ho9).setNew (by omega) 34 _).setRow (Nat.le_refl _) _, hin, hr9.keeps (hkA.trans hkB) (by decide) (by decide)⟩⟩
  clear hu34 ho9 hr9 hx92 hx93 hbr hv9 hkA hkB hxA2 hxA3 hcells hC4 hfit hin h256 c7 f7
  go_wp2_with (first | (refine wpList_load_row rfl 47 (.tmp 3) rfl (w.heap.size + 1) rfl _ C4 _ _ HXA.out Try.underlying47 rfl HI4.out ?_) | (refine wpList_store_row rfl 47 (.tmp 2) (.tmp 18) rfl w.heap.size C4 rfl rfl 47 zIn HXA2.out HI4.out (by rw [HS4.out]; rfl) HONE.out ?_))
  exact bodyPost_ret (results_cell_row (by rfl) _ _ w.heap.size 47 _ _ _ rfl HXB.out Try.underlying47 rfl HI4.out) rfl HFIN.out
end Go.Proofs.Ytojeonepplfhlaa
