/- Contracts of package txns: decode. -/
import Derived.Test.YtojeonepplfhlaaTxL
import Derived.Deep.RegionLaw
import Derived.Laws.ResultCell
namespace Go.Proofs.Ytojeonepplfhlaa
open Go.RowKit

/-- A transaction in memory of the call's own. -/
def TxO (w : World) (B : Nat) (v : Value) (t : TxD) : Prop := ∃ iv ov, v = .agg #[.int .u32 t.version, iv, ov, .int .u32 t.lock] ∧ t.version < 4294967296 ∧ t.lock < 4294967296 ∧ OwnMany 36 47 (InO w B) w B iv t.ins ∧ OwnMany 2 51 (OutO w B) w B ov t.outs
theorem TxO.txR {w : World} {B : Nat} {v : Value} {t : TxD} (h : TxO w B v t) : TxR w v t := by
  obtain ⟨iv, ov, rfl, h1, h2, h3, h4⟩ := h
  exact ⟨iv, ov, rfl, h1, h2, OwnMany.many h3 fun _ _ h => h.inR, OwnMany.many h4 fun _ _ h => h.outR⟩
set_option maxRecDepth 100000 in
theorem TxO.turn {ts : List Nat} {w w' : World} {B B' : Nat} {v : Value} {t : TxD} (h : TxO w B v t) (hk : Keeps ts w w') (h8 : 5 ∈ ts) (hb : 27 ∈ ts) (hi : 47 ∈ ts) (ho : 51 ∈ ts) (hB : B' ≤ B) : TxO w' B' v t := by
  obtain ⟨iv, ov, rfl, h1, h2, h3, h4⟩ := h
  exact ⟨iv, ov, rfl, h1, h2, OwnMany.turn h3 hk hi hB fun _ _ h => h.turn hk h8 hb hB, OwnMany.turn h4 hk ho hB fun _ _ h => h.turn hk h8 hB⟩

def noTx : TxD := ⟨0, [], [], 0⟩
def setWits : List InD → List (List (List Int)) → List InD
  | d :: ds, x :: xs => { d with wit := x } :: setWits ds xs
  | ds, _ => ds
/-- What stands behind the number of inputs. -/
def pBody (ver : Nat) (whole : Bool) (c : Rest Nat) : Rest (TxD × Bool) :=
  let is := pMany pIn c.1 c.2.1 c.2.2
  let oc := count is.2.1 is.2.2 50
  let os := pMany pOut oc.1 oc.2.1 oc.2.2
  let ws := if whole then pMany pWit is.1.length os.2.1 os.2.2 else ([], os.2)
  let t : TxD := ⟨ver, if whole then setWits is.1 ws.1 else is.1, os.1, (num ws.2.1 ws.2.2 4).1⟩
  ((t, !(num ws.2.1 ws.2.2 4).2.2 && (mayB t && (witT t == whole))), (num ws.2.1 ws.2.2 4).2)
def pTx (l : List Int) (bad : Bool) : Rest (TxD × Bool) :=
  let v := num l bad 4
  let c := count v.2.1 v.2.2 50
  if c.1 = 0 then
    let m := count c.2.1 c.2.2 1
    if m.1 = 1 then pBody v.1 true (count m.2.1 m.2.2 50) else ((noTx, false), m.2)
  else pBody v.1 false c
def DecP (g : Nat) (x : Rest (TxD × Bool)) (w : World) (e : Ending) (w' : World) : Prop := ∃ v, e = .returned (.tuple #[v, .bool x.1.2]) ∧ Only g w w' ∧ TxO w' w.heap.size v x.1.1 ∧ Rd w' g x.2.1 x.2.2

set_option maxRecDepth 100000 in
theorem infoInZ : (Try.prog.info? 47).map (fun i => (i.zero, i.size, i.bytes)) = some (some (.agg zIn), 36, 96) := by kernel_rfl
set_option maxRecDepth 100000 in
theorem infoOutZ : (Try.prog.info? 51).map (fun i => (i.zero, i.size, i.bytes)) = some (some (.agg #[.int .u64 0, .slice none 0 0]), 2, 32) := by kernel_rfl
def zTx : Array Value := #[.int .u32 0, .slice none 0 0, .slice none 0 0, .int .u32 0]



set_option maxRecDepth 1000000 in
theorem fold_zip : ∀ (cs : List Value) (k : Nat) (A : List Value), k + cs.length ≤ A.length → (cs.zipIdx k).foldl (fun (a : Array Value) (x : Value × Nat) => a.setIfInBounds x.2 x.1) A.toArray = (A.take k ++ (cs ++ A.drop (k + cs.length))).toArray
  | [], k, A, _ => by simp
  | c :: r, k, A, h => by
    simp only [List.length_cons] at h
    have hA : k < A.length := by omega
    rw [List.zipIdx_cons, List.foldl_cons, List.setIfInBounds_toArray, fold_zip r (k + 1) (A.set k c) (by rw [List.length_set]; omega)]
    congr 1
    have h1 : (A.set k c).take (k + 1) = A.take k ++ [c] := by
      rw [List.take_succ_eq_append_getElem (by rw [List.length_set]; exact hA), List.getElem_set_self, List.take_set_of_le (Nat.le_refl _)]
    have h2 : (A.set k c).drop (k + 1 + r.length) = A.drop (k + (r.length + 1)) := by
      rw [List.drop_set_of_lt (by omega)]
      congr 1
      omega
    rw [h1, h2]
    simp
theorem fold_in (cs : List Value) (h : cs.length = 36) : List.foldl (fun (cs : Array Value) (x : Value × Nat) => cs.setIfInBounds x.snd x.fst) #[Value.int IntKind.u8 0, Value.int IntKind.u8 0, Value.int IntKind.u8 0, Value.int IntKind.u8 0, Value.int IntKind.u8 0, Value.int IntKind.u8 0, Value.int IntKind.u8 0, Value.int IntKind.u8 0, Value.int IntKind.u8 0, Value.int IntKind.u8 0, Value.int IntKind.u8 0, Value.int IntKind.u8 0, Value.int IntKind.u8 0, Value.int IntKind.u8 0, Value.int IntKind.u8 0, Value.int IntKind.u8 0, Value.int IntKind.u8 0, Value.int IntKind.u8 0, Value.int IntKind.u8 0, Value.int IntKind.u8 0, Value.int IntKind.u8 0, Value.int IntKind.u8 0, Value.int IntKind.u8 0, Value.int IntKind.u8 0, Value.int IntKind.u8 0, Value.int IntKind.u8 0, Value.int IntKind.u8 0, Value.int IntKind.u8 0, Value.int IntKind.u8 0, Value.int IntKind.u8 0, Value.int IntKind.u8 0, Value.int IntKind.u8 0, Value.int IntKind.u32 0, Value.slice none 0 0, Value.int IntKind.u32 0, Value.slice none 0 0] cs.zipIdx = cs.toArray := by
  have e := fold_zip cs 0 zIn.toList (by rw [h]; exact Nat.le_refl _)
  have hz : #[Value.int IntKind.u8 0, Value.int IntKind.u8 0, Value.int IntKind.u8 0, Value.int IntKind.u8 0, Value.int IntKind.u8 0, Value.int IntKind.u8 0, Value.int IntKind.u8 0, Value.int IntKind.u8 0, Value.int IntKind.u8 0, Value.int IntKind.u8 0, Value.int IntKind.u8 0, Value.int IntKind.u8 0, Value.int IntKind.u8 0, Value.int IntKind.u8 0, Value.int IntKind.u8 0, Value.int IntKind.u8 0, Value.int IntKind.u8 0, Value.int IntKind.u8 0, Value.int IntKind.u8 0, Value.int IntKind.u8 0, Value.int IntKind.u8 0, Value.int IntKind.u8 0, Value.int IntKind.u8 0, Value.int IntKind.u8 0, Value.int IntKind.u8 0, Value.int IntKind.u8 0, Value.int IntKind.u8 0, Value.int IntKind.u8 0, Value.int IntKind.u8 0, Value.int IntKind.u8 0, Value.int IntKind.u8 0, Value.int IntKind.u8 0, Value.int IntKind.u32 0, Value.slice none 0 0, Value.int IntKind.u32 0, Value.slice none 0 0] = zIn.toList.toArray := by rfl
  rw [hz, e]
  have h0 : zIn.toList.drop (0 + cs.length) = [] := List.drop_eq_nil_of_le (by rw [h]; exact Nat.le_refl _)
  rw [h0]
  simp
theorem pIn_len (l : List Int) (bad : Bool) : (pIn l bad).2.1.length ≤ l.length :=
  Nat.le_trans (num_len _ _ _) (Nat.le_trans (pText_len _ _) (Nat.le_trans (num_len _ _ _) (took_len _ _ _)))
theorem pOut_len (l : List Int) (bad : Bool) : (pOut l bad).2.1.length ≤ l.length := Nat.le_trans (pText_len _ _) (num_len _ _ _)
theorem fold_out (cs : List Value) (h : cs.length = 2) : List.foldl (fun (cs : Array Value) (x : Value × Nat) => cs.setIfInBounds x.snd x.fst) #[Value.int IntKind.u64 0, Value.slice none 0 0] cs.zipIdx = cs.toArray := by
  match cs, h with
  | [a, b], _ => rfl
theorem Keeps.box {ts : List Nat} {w w' : World} {b t : Nat} {cs : Array Value} (h : Keeps ts w w') (ht : t ∈ ts) (hb : Box w b t cs) : Box w' b t cs := h.2 b t cs ht hb
theorem Keeps.sub {ts us : List Nat} {w w' : World} (h : Keeps us w w') (hs : ∀ t ∈ ts, t ∈ us) : Keeps ts w w' := ⟨h.1, fun b t cs ht _ hb => h.2 b t cs (hs t ht) hb⟩
theorem results_cell_row2 {P : Program} {fn : Func} {p u : Tmp} {ty : TypeId} (h : fn.results = #[.cell p ty, .tmp u]) (tmps : Array Value) (w : World) (g : Nat) (t : TypeId) (cs : Array Value) (fr : Nat × Nat) (d : TypeDesc) (b : Value)
    (hp : tmps.getD p undef = .pointer (some ⟨g, 0, none⟩)) (hb : tmps.getD u undef = b) (hg : w.heap[g]? = some (.cells cs t fr))
    (hu : P.underlying ty = some d) (hd : (match d with | .struct _ | .array _ _ => true | _ => false) = true) (hi : (P.info? ty).map (·.size) = some cs.size) :
    (results fn tmps).run P w = .ok (.tuple #[.agg cs, b]) w := by
  rw [results_cell_tmp h, hp, hb]
  simp [asAddr, run_loadVar_row w g t ty cs fr d hg hu hd hi]
/-- A whole row stored, as one step of a region that draws its order. -/
theorem step_store_row {P : Program} {ops : Array Oper} {o : Oper} {a : Act} {w : World} {K : Act → World → Prop} {Q : Exit → Act → World → Prop} {E : Prop} (hgd : o.guard = none) (ty : TypeId) (x y : Operand) (ho : o.op = .store ty x y)
    (g : Nat) (cells : Array Value) (hx : a.eval x = .pointer (some ⟨g, 0, none⟩)) (hy : a.eval y = .agg cells)
    (t : TypeId) (old : Array Value) (hg : w.heap[g]? = some (.cells old t (0, 0))) (hi : (P.info? ty).map (·.size) = some cells.size)
    (hold : old.size = cells.size) (h1 : cells.all (·.oneCell') = true)
    (h : K (a.put o.dst undef) (w.setRow g cells)) : if Region.wanted o (yielded ops a.tmps) = true then Oper.wp P o a w K Q else E := by
  have hwd : Region.wanted o (yielded ops a.tmps) = true := by simp [Region.wanted, hgd]
  rw [if_pos hwd]
  exact wp_store_row ty x y ho g cells hx hy t old hg hi hold h1 h
theorem InO.len {w : World} {B : Nat} {cs : List Value} {d : InD} (h : InO w B cs d) : cs.length = 36 := by
  obtain ⟨sv, wv, rfl, hf, _⟩ := h
  exact inCells_len hf sv wv
theorem OutO.len {w : World} {B : Nat} {cs : List Value} {d : OutD} (h : OutO w B cs d) : cs.length = 2 := by
  obtain ⟨sv, rfl, _⟩ := h
  rfl
theorem pMany_len {α : Type} {f : List Int → Bool → Rest α} (hf : ∀ l b, (f l b).2.1.length ≤ l.length) : ∀ (n : Nat) (l : List Int) (b : Bool), (pMany f n l b).2.1.length ≤ l.length
  | 0, _, _ => Nat.le_refl _
  | n + 1, l, b => Nat.le_trans (pMany_len hf n _ _) (hf l b)
theorem pWit_len (l : List Int) (bad : Bool) : (pWit l bad).2.1.length ≤ l.length := Nat.le_trans (pMany_len pText_len _ _ _) (count_len _ _ _)
theorem setWits_nil : ∀ ds : List InD, setWits ds [] = ds
  | [] => rfl
  | _ :: _ => rfl
theorem setWits_len : ∀ (ds : List InD) (xs : List (List (List Int))), (setWits ds xs).length = ds.length
  | [], [] => rfl
  | [], _ :: _ => rfl
  | _ :: _, [] => rfl
  | d :: ds, x :: xs => by simp [setWits, setWits_len ds xs]
/-- One input turned at its place. -/
def witAt (ds : List InD) (j : Nat) (x : List (List Int)) : List InD := ds.modify j (fun d => { d with wit := x })
theorem setWits_snoc : ∀ (ds : List InD) (xs : List (List (List Int))) (x : List (List Int)), xs.length < ds.length → setWits ds (xs ++ [x]) = witAt (setWits ds xs) xs.length x
  | d :: ds, [], x, _ => by simp [setWits, witAt, setWits_nil]
  | d :: ds, y :: ys, x, h => by
    simp only [List.length_cons] at h
    simp only [List.cons_append, setWits, List.length_cons, witAt, List.modify_succ_cons]
    congr 1
    exact setWits_snoc ds ys x (by omega)
  | [], _, _, h => by simp at h
theorem flatten_set {k : Nat} : ∀ (css : List (List Value)) (j i : Nat) (v : Value), (∀ c ∈ css, c.length = k) → j < css.length → i < k → css.flatten.set (j * k + i) v = (css.modify j (fun c => c.set i v)).flatten
  | c :: r, 0, i, v, hk, _, hi => by
    have hc : c.length = k := hk c (by simp)
    rw [List.flatten_cons, Nat.zero_mul, Nat.zero_add, List.set_append_left _ _ (by omega)]
    rfl
  | c :: r, j + 1, i, v, hk, hj, hi => by
    have hc : c.length = k := hk c (by simp)
    rw [List.flatten_cons, Nat.succ_mul, List.set_append_right _ _ (by omega), hc, show j * k + k + i - k = j * k + i by omega, flatten_set r j i v (fun c hc => hk c (List.mem_cons_of_mem _ hc)) (by simpa using hj) hi]
    rfl
  | [], j, i, v, _, h, _ => by simp at h
theorem inCells_setWit (d : InD) (hf : d.Fit) (sv wv wv' : Value) (x : List (List Int)) : (inCells d sv wv).set 35 wv' = inCells { d with wit := x } sv wv' := by
  have hp : (byteVals d.prev).length = 32 := by simp [byteVals, hf.plen]
  unfold inCells
  rw [List.set_append_right _ _ (by omega), hp]
  rfl
theorem ownMany_form {w : World} {B k e : Nat} {α : Type} {R : List Value → α → Prop} {A : Option Addr} {n c : Nat} {ds : List α} (h : OwnMany k e R w B (.slice A n c) ds) (hn : 0 < ds.length) :
    ∃ gi cur, A = some ⟨gi, 0, none⟩ ∧ B ≤ gi ∧ Box w gi e cur ∧ ds.length ≤ c ∧ cur.size = c * k := by
  obtain ⟨css, ho, _⟩ := h
  rcases ho.2 with ⟨hv, h0⟩ | ⟨g, cap, cur, hv, hB, hx, h1, h2, h3, _⟩
  · omega
  · injection hv with e1 e2 e3
    subst e1
    subst e3
    exact ⟨g, cur, rfl, hB, hx, h1, h3⟩
theorem ownMany_cap {w : World} {B k e : Nat} {α : Type} {R : List Value → α → Prop} {A : Option Addr} {n c : Nat} {ds : List α} (h : OwnMany k e R w B (.slice A n c) ds) (hn : ds.length = n) : n ≤ c := by
  obtain ⟨css, ho, _⟩ := h
  rcases ho.2 with ⟨hv, h0⟩ | ⟨g, cap, cur, hv, hB, hx, h1, _⟩
  · omega
  · injection hv with e1 e2 e3
    omega
set_option maxRecDepth 100000 in
theorem ownMany_cell {w : World} {B G G4 t : Nat} {R : List Value → InD → Prop} {A : Option Addr} {n c : Nat} {ds : List InD} {z z4 : Array Value} (h : OwnMany 36 47 R w B (.slice A n c) ds) (hb : Box w G t z) (hb4 : Box w G4 t z4) (ht : t ≠ 47) {j : Nat} (hj : j < ds.length) :
    ∃ gi, A = some ⟨gi, 0, none⟩ ∧ ∀ (w' : World), Keeps [47] w w' → (∃ u, w'.cell? ⟨gi, j * 36 + 35, none⟩ = some u) ∧ w'.frozen? ⟨gi, j * 36 + 35, none⟩ = false ∧ gi ≠ G4 ∧ gi ≠ G ∧ B ≤ gi := by
  obtain ⟨gi, cur, rfl, hB, hx, h1, h2⟩ := ownMany_form h (by omega)
  refine ⟨gi, rfl, fun w' hk => ?_⟩
  have hx' : Box w' gi 47 cur := hk.2 gi _ cur (by simp) hx
  have hap : ∀ (G : Nat) (z : Array Value), Box w G t z → gi ≠ G := fun G z hz e => by
    subst e
    have e1 : w.heap[gi]? = some (.cells cur 47 (0, 0)) := hx
    have e2 : w.heap[gi]? = some (.cells z t (0, 0)) := hz
    rw [e1] at e2
    injection e2 with e2
    injection e2 with _ e3
    exact ht e3.symm
  refine ⟨⟨_, (hx'.cell _).trans (Array.getElem?_eq_getElem (by rw [h2]; omega))⟩, hx'.warm _, hap _ _ hb4, hap _ _ hb, hB⟩
set_option maxRecDepth 100000 in
theorem ownMany_set_keeps {ts us : List Nat} {w w5 : World} {B : Nat} {R : List Value → InD → Prop} {gi : Nat} {n c : Nat} {ds : List InD} (h : OwnMany 36 47 R w B (.slice (some ⟨gi, 0, none⟩) n c) ds) (hk : Keeps us w w5) (hi : 47 ∈ us) (he : 47 ∉ ts) (i : Nat) (u : Value) :
    Keeps ts w5 (w5.setCell ⟨gi, i, none⟩ u) := by
  obtain ⟨css, ho, _⟩ := h
  rcases ho.2 with ⟨hv, h0⟩ | ⟨g, cap, cur, hv, hB, hx, h1, _⟩
  · cases hv
  · injection hv with e1 e2 e3
    injection e1 with e1
    injection e1 with e1 _ _
    subst e1
    exact Keeps.of_set (hk.2 _ _ _ hi hx) he i u
set_option maxRecDepth 100000 in
theorem ownMany_setWit {w : World} {B : Nat} {gi n c : Nat} {ds : List InD} (h : OwnMany 36 47 (InO w B) w B (.slice (some ⟨gi, 0, none⟩) n c) ds) {j : Nat} (hj : j < ds.length) {wv : Value} {x : List (List Int)} (hwv : OwnRows w B wv x) :
    OwnMany 36 47 (InO (w.setCell ⟨gi, j * 36 + 35, none⟩ wv) B) (w.setCell ⟨gi, j * 36 + 35, none⟩ wv) B (.slice (some ⟨gi, 0, none⟩) n c) (witAt ds j x) := by
  have hkp : Keeps [5, 27] w (w.setCell ⟨gi, j * 36 + 35, none⟩ wv) := ownMany_set_keeps h (Keeps.refl [47] w) (by simp) (by decide) _ _
  obtain ⟨css, ho, hcl, hlen, hr⟩ := h.lens
  rcases ho.2 with ⟨hv, h0⟩ | ⟨g, cap, cur, hv, hB, hx, h1, h2, h3, h4⟩
  · omega
  · injection hv with e1 e2 e3
    injection e1 with e1
    injection e1 with e1 _ _
    subst e1
    subst e3
    have hwl : (witAt ds j x).length = ds.length := by simp [witAt]
    refine ⟨css.modify j (fun cs => cs.set 35 wv), ⟨?_, .inr ⟨gi, c, _, by rw [hwl, e2], hB, Box.set hx _ _, by rw [hwl]; exact h1, h2, by rw [Array.size_setIfInBounds]; exact h3, ?_⟩⟩, by rw [List.length_modify, hwl, hcl], fun i cs d q1 q2 => ?_⟩
    · rw [hwl, ← flatten_set css j 35 wv hlen (by omega) (by omega), List.length_set]
      exact ho.1
    · rw [hwl, ← flatten_set css j 35 wv hlen (by omega) (by omega), ← h4, Array.toList_setIfInBounds, List.take_set]
    · rw [List.getElem?_modify] at q1
      unfold witAt at q2
      rw [List.getElem?_modify] at q2
      cases hc : css[i]? with
      | none => rw [hc] at q1; simp at q1
      | some cs0 =>
        cases hd : ds[i]? with
        | none => rw [hd] at q2; simp at q2
        | some d0 =>
          rw [hc] at q1
          rw [hd] at q2
          have hR := hr i cs0 d0 hc hd
          have hL := hlen cs0 (List.mem_of_getElem? hc)
          by_cases hij : j = i
          · simp only [hij, if_true, Option.map_eq_map, Option.map_some, Option.some.injEq] at q1 q2
            subst q1
            subst q2
            obtain ⟨sv, wv0, rfl, hf, a1, a2, a3⟩ := hR
            refine ⟨by rw [List.length_set]; exact hL, sv, wv, inCells_setWit d0 hf sv wv0 wv x, ⟨hf.plen, hf.pbys, hf.vlt, hf.slt⟩, a1.keeps hkp (by decide), a2, rows_turn hwv hkp (by decide) (by decide) (Nat.le_refl _)⟩
          · simp only [if_neg hij, Option.map_eq_map, Option.map_some, Option.some.injEq] at q1 q2
            subst q1
            subst q2
            exact ⟨hL, hR.turn hkp (by decide) (by decide) (Nat.le_refl _)⟩

set_option linter.unusedSimpArgs false in
set_option maxRecDepth 1000000 in
set_option maxHeartbeats 16000000 in
theorem decode_plain (g : Nat) (w : World) (l : List Int) (bad : Bool) (h : Rd w g l bad) (hl : l.length ≤ 140737488355328) (hc : (count (num l bad 4).2.1 (num l bad 4).2.2 50).1 ≠ 0) :
    Calls Try.prog 41 #[.pointer (some ⟨g, 0, none⟩)] w (DecP g (pTx l bad) w) := by
  obtain ⟨i1, hi1, hz1, hs1, hb1⟩ := info_parts3 infoInZ
  obtain ⟨i2, hi2, hz2, hs2, hb2'⟩ := info_parts3 infoOutZ
  have hb2 : Below w.heap.size w (w.alloc (.cells zTx 26)) := (Below.refl _ _).alloc (Nat.le_refl _) _
  have HX0 : Kp (Box (w.alloc (.cells zTx 26)) w.heap.size 26 zTx) := ⟨Box.fresh w _ _⟩
  have HR0 := Kp.mk (h.below hb2)
  have HO0 : Kp (Only g w (w.alloc (.cells zTx 26))) := ⟨Only.of_below hb2⟩
  have H1 := Kp.mk (rsmall_any g _ l bad HR0.out)
  have HLN1 := Kp.mk (num_len l bad 4)
  have HLT1 := Kp.mk (num_lt l h.bys bad 4)
  have HZ : Kp (#[Value.int IntKind.u32 0, Value.slice none 0 0, Value.slice none 0 0, Value.int IntKind.u32 0] = zTx) := ⟨rfl⟩
  have HBL := Kp.mk hl
  have HE : Kp (pTx l bad = pBody (num l bad 4).1 false (count (num l bad 4).2.1 (num l bad 4).2.2 50)) := ⟨by unfold pTx; exact if_neg hc⟩
  have HC := Kp.mk hc
  clear h hb2 hc hl
  go_enter Try.func41, Try.ntmps41
  go_wp2_with fail
  rw [HZ.out]
  refine H1.out.mono ?_
  rintro e w1 ⟨ho1, rfl, hr1⟩
  have hx1 := HX0.out.other ho1 HR0.out (by decide)
  have ho1' := HO0.out.trans ho1
  generalize (num l bad 4).1 = n at *
  generalize (num l bad 4).2.1 = l1 at *
  generalize (num l bad 4).2.2 = b1 at *
  have hba : Below w1.heap.size w1 (w1.alloc (.cells #[.int .u32 (n : Int), .slice none 0 0, .slice none 0 0, .int .u32 0] 26)) := (Below.refl _ _).alloc (Nat.le_refl _) _
  have hx2 := hx1.below hba
  have hx4 : Box (w1.alloc (.cells #[.int .u32 (n : Int), .slice none 0 0, .slice none 0 0, .int .u32 0] 26)) w1.heap.size 26 #[.int .u32 (n : Int), .slice none 0 0, .slice none 0 0, .int .u32 0] := Box.fresh _ _ _
  have hr2 := hr1.below hba
  have ho2 := ho1'.alloc (.cells #[.int .u32 (n : Int), .slice none 0 0, .slice none 0 0, .int .u32 0] 26)
  have HG4 : Kp (w.heap.size + 1 ≤ w1.heap.size) := ⟨by have := ho1.size; rw [alloc_size] at this; exact this⟩
  obtain ⟨G4, hG4⟩ : ∃ G4, w1.heap.size = G4 := ⟨_, rfl⟩
  clear hx1 ho1 ho1' hba H1 hr1 HX0 HO0 HR0
  go_wp2_with fail
  generalize w1.alloc (.cells #[.int .u32 (n : Int), .slice none 0 0, .slice none 0 0, .int .u32 0] 26) = w2 at *
  rw [hG4] at hx4 HG4
  clear hG4
  have HT2 := Kp.mk (rcount_any g w2 l1 b1 50 hr2 (by omega))
  have HLC := Kp.mk (count_len l1 b1 50)
  have HMC := Kp.mk (count_most l1 b1 50 (by omega))
  have HR2 := Kp.mk hr2
  have HO2 := Kp.mk ho2
  have HX2 := Kp.mk (And.intro hx2 hx4)
  clear hr2 ho2 hx2 hx4
  refine HT2.out.mono ?_
  rintro e w3 ⟨ho3, rfl, hr3⟩
  have hx32 := HX2.out.1.other ho3 HR2.out (by decide)
  have hx34 := HX2.out.2.other ho3 HR2.out (by decide)
  have HR3 := Kp.mk hr3
  have HO3 := Kp.mk (HO2.out.trans ho3)
  have HX3 := Kp.mk (And.intro hx32 hx34)
  clear ho3 hr3 hx32 hx34 HT2
  generalize count l1 b1 50 = c at *
  obtain ⟨m, l3, b3⟩ := c
  simp only at HC HLC HMC HR3 HE ⊢
  have hm0 : ((m : Int) == 0) = false := by have := HC.out; rw [beq_eq_false_iff_ne]; omega
  have hm50 : (m : Int) ≤ 50 := HMC.out
  obtain ⟨w7, rfl⟩ : ∃ w7 : World, w7 = w3 := ⟨_, rfl⟩
  have HR7 := HR3
  have HO7 := HO3
  have HX7 := HX3
  have HL7 : Kp (l3.length ≤ l.length) := ⟨Nat.le_trans HLC.out HLN1.out⟩
  go_wp2
  go_loopw [23] (fun i wr => ∃ (j : Nat) (is : List InD) (lj : List Int) (bj : Bool) (iv : Value), j ≤ m ∧ i = .int .i64 j ∧ Kp (is.length = j ∧ pMany pIn m l3 b3 = (is ++ (pMany pIn (m - j) lj bj).1, (pMany pIn (m - j) lj bj).2) ∧ OwnMany 36 47 (InO wr w.heap.size) wr w.heap.size iv is ∧ Box wr w.heap.size 26 zTx ∧ Box wr G4 26 #[.int .u32 (n : Int), iv, .slice none 0 0, .int .u32 0] ∧ Only g w wr ∧ Rd wr g lj bj ∧ lj.length ≤ l.length)) (fun i _ => m - (intOf i).toNat)
  case atStart => exact ⟨0, [], l3, b3, _, Nat.zero_le _, rfl, ⟨rfl, by simp, OwnMany.nil _ _ _ _ _, HX7.out.1, HX7.out.2, HO7.out, HR7.out, HL7.out⟩⟩
  case round =>
    obtain ⟨j, is, lj, bj, iv, hj, rfl, ⟨hlen, hp, hown, hx2, hx4, ho, hrd, hlj⟩⟩ := hrel
    by_cases hjm : j < m
    · have hjm' : (j : Int) < (m : Int) := by omega
      have HJ : Kp (j < m ∧ is.length = j) := ⟨hjm, hlen⟩
      have HP := Kp.mk (pMany_step hjm hp)
      have HOWN := Kp.mk hown
      have HX := Kp.mk (And.intro hx2 hx4)
      have HO := Kp.mk ho
      have HRD := Kp.mk hrd
      have HLJ := Kp.mk hlj
      obtain ⟨Ai, ci, rfl⟩ := hown.slice
      have hbd : Below wr.heap.size wr wr.drew := (Below.refl _ _).drew
      have HT := Kp.mk (nextIn_any g wr.drew lj bj (hrd.below hbd) (by have := HBL.out; omega))
      have hcd := (hx4.below hbd).cell 1
      have HBD := Kp.mk hbd
      clear hlen hp hown hx2 hx4 ho hrd hlj hbd hjm
      generalize hXX : pIn lj bj = X at *
      go_wp2_with fail
      go_region_law (first | (go_simp; go_at_call 62; refine HT.out.mono ?_; rintro e w5 ⟨cs, rfl, ho5, hin5, hr5⟩; have hx54 := (HX.out.2.below HBD.out).other ho5 (HRD.out.below HBD.out) (by decide); have hc5 := hx54.cell 1; have hc55 := (hx54.below ((Below.refl _ _).alloc (Nat.le_refl _) (.cells cs.toArray 47))).cell 1; have hcl := hin5.len; have hfold := fold_in cs hcl; obtain ⟨crd, hbr⟩ := (HRD.out.below HBD.out).box; have hka : Keeps [5, 27, 47] wr w5 := (Keeps.of_below _ HBD.out).trans (Keeps.of_only ho5 hbr (by decide)); have hkb : Keeps [5, 27, 47] w5 (w5.alloc (.cells cs.toArray 47)) := Keeps.of_below _ ((Below.refl _ _).alloc (Nat.le_refl _) _); have HOW := Kp.mk (OwnMany.turn HOWN.out (hka.trans hkb) (by decide) (Nat.le_refl _) (fun cs d h => InO.turn h (hka.trans hkb) (by decide) (by decide) (Nat.le_refl _))); have HIN := Kp.mk (hin5.turn hkb (by decide) (by decide) HO.out.size); have HO6 := Kp.mk (((HO.out.trans (Only.of_below HBD.out)).trans ho5).alloc (.cells cs.toArray 47)); have HONE := Kp.mk hin5.inR.one; have HR5 := Kp.mk hr5; have HX5 := Kp.mk (And.intro ((HX.out.1.below HBD.out).other ho5 (HRD.out.below HBD.out) (by decide)) hx54); clear hka hkb hbr ho5 hin5 hr5 hx54) | (refine step_append_many (R := fun W => InO W w.heap.size) rfl (.tmp 26) (.tmp 29) 23 rfl w.heap.size i1 _ 96 Try.underlying23 hi1 hz1 hs1 hb1 (by rfl) (by decide) _ is rfl HOW.out w5.heap.size 1 cs X.1 rfl (Box.fresh w5 _ _) hcl HIN.out HONE.out (by have := HJ.out; omega) (by decide) (Nat.le_trans HO6.out.size (Nat.le_refl _)) [5, 27, 26, 69] (by decide) (fun w' cs d hk h => InO.turn h hk (by decide) (by decide) (Nat.le_refl _)) ?_; intro v6 w6 hm6 hg6 hk6; obtain ⟨IS, hIS⟩ : ∃ IS, is ++ [X.1] = IS := ⟨_, rfl⟩; rw [hIS] at hm6; obtain ⟨A6, k6, rfl⟩ := hm6.slice; have hx62 := Keeps.box hk6 (by decide) (HX5.out.1.below ((Below.refl _ _).alloc (Nat.le_refl _) (.cells cs.toArray 47))); have hx64 := Keeps.box hk6 (by decide) (HX5.out.2.below ((Below.refl _ _).alloc (Nat.le_refl _) (.cells cs.toArray 47))); have c6 := hx64.cell 1; have f6 := hx64.warm 1))
      all_goals
        have hk7 : Keeps [5, 27, 47, 69] w6 (w6.setCell ⟨G4, 1, none⟩ (.slice A6 IS.length k6)) := Keeps.of_set hx64 (by decide) 1 _
        have HEND : Kp (IS.length = j + 1 ∧ pMany pIn m l3 b3 = (IS ++ (pMany pIn (m - (j + 1)) X.2.1 X.2.2).1, (pMany pIn (m - (j + 1)) X.2.1 X.2.2).2) ∧ OwnMany 36 47 (InO (w6.setCell ⟨G4, 1, none⟩ (.slice A6 IS.length k6)) w.heap.size) (w6.setCell ⟨G4, 1, none⟩ (.slice A6 IS.length k6)) w.heap.size (.slice A6 IS.length k6) IS ∧ Box (w6.setCell ⟨G4, 1, none⟩ (.slice A6 IS.length k6)) w.heap.size 26 zTx ∧ Box (w6.setCell ⟨G4, 1, none⟩ (.slice A6 IS.length k6)) G4 26 #[.int .u32 (n : Int), .slice A6 IS.length k6, .slice none 0 0, .int .u32 0] ∧ Only g w (w6.setCell ⟨G4, 1, none⟩ (.slice A6 IS.length k6)) ∧ Rd (w6.setCell ⟨G4, 1, none⟩ (.slice A6 IS.length k6)) g X.2.1 X.2.2 ∧ X.2.1.length ≤ l.length) := by
          constructor
          have hG := HG4.out
          refine ⟨by rw [← hIS, List.length_append, HJ.out.2]; rfl, by rw [← hIS]; exact HP.out, OwnMany.turn hm6 hk7 (by decide) (Nat.le_refl _) (fun cs d h => InO.turn h hk7 (by decide) (by decide) (Nat.le_refl _)), hx62.keep ((Only.refl G4 w6).set 1 _) (by omega), hx64.set 1 _, ?_, ?_, ?_⟩
          · obtain ⟨css, hrow, _⟩ := HOW.out
            exact (HO6.out.grown hrow (Nat.le_refl _) hg6).setNew (by omega) 1 _
          · exact ((HR5.out.below ((Below.refl _ _).alloc (Nat.le_refl _) _)).keeps hk6 (by decide) (by decide)).keeps hk7 (by decide) (by decide)
          · rw [← hXX]; exact Nat.le_trans (pIn_len _ _) HLJ.out
        clear hk7 hm6 hg6 hk6 hx62 hx64 c6 f6 hIS hcl hfold hcd
        go_wp2
        exact ⟨⟨j + 1, IS, _, _, _, by have := HJ.out; omega, by go_num, HEND⟩, by simp [intOf]; have := HJ.out; omega⟩
    · obtain rfl : m = j := by omega
      have HPI := Kp.mk (pMany_end hp)
      obtain ⟨w8, rfl⟩ : ∃ w8 : World, w8 = wr := ⟨_, rfl⟩
      have HT8 := Kp.mk (rcount_any g w8 lj bj 50 hrd (by omega))
      have HI8 := Kp.mk hown
      have HX8 := Kp.mk (And.intro hx2 hx4)
      have HO8 := Kp.mk ho
      have HR8 := Kp.mk hrd
      have HL8 := Kp.mk (Nat.le_trans (count_len lj bj 50) hlj)
      have HMC2 := Kp.mk (count_most lj bj 50 (by omega))
      have HIL : Kp (is.length = m) := ⟨hlen⟩
      obtain ⟨Ai, ci, rfl⟩ := hown.slice
      clear hlen hp hown hx2 hx4 ho hrd hlj hjm
      go_wp2_with fail
      refine HT8.out.mono ?_
      rintro e w9 ⟨ho9, rfl, hr9⟩
      obtain ⟨crd, hbr⟩ := HR8.out.box
      have hk9 : Keeps [5, 27, 47] w8 w9 := Keeps.of_only ho9 hbr (by decide)
      have HI9 := Kp.mk (OwnMany.turn HI8.out hk9 (by decide) (Nat.le_refl _) (fun cs d h => InO.turn h hk9 (by decide) (by decide) (Nat.le_refl _)))
      have HX9 := Kp.mk (And.intro (HX8.out.1.other ho9 HR8.out (by decide)) (HX8.out.2.other ho9 HR8.out (by decide)))
      have HO9 := Kp.mk (HO8.out.trans ho9)
      have HR9 := Kp.mk hr9
      clear ho9 hr9 hbr hk9 HT8
      have HOC : Kp (count lj bj 50 = ((count lj bj 50).1, (count lj bj 50).2.1, (count lj bj 50).2.2)) := ⟨rfl⟩
      generalize hcc : count lj bj 50 = c at *
      obtain ⟨m2, l9, b9⟩ := c
      simp only at HL8 HMC2 HR9 ⊢
      have HCC := Kp.mk hcc
      clear hcc HOC
      have hm250 : (m2 : Int) ≤ 50 := HMC2.out
      go_wp2
      go_loopw [35] (fun i wr => ∃ (j : Nat) (os : List OutD) (lk : List Int) (bk : Bool) (ov : Value), j ≤ m2 ∧ i = .int .i64 j ∧ Kp (os.length = j ∧ pMany pOut m2 l9 b9 = (os ++ (pMany pOut (m2 - j) lk bk).1, (pMany pOut (m2 - j) lk bk).2) ∧ OwnMany 2 51 (OutO wr w.heap.size) wr w.heap.size ov os ∧ OwnMany 36 47 (InO wr w.heap.size) wr w.heap.size (.slice Ai is.length ci) is ∧ Box wr w.heap.size 26 zTx ∧ Box wr G4 26 #[.int .u32 (n : Int), .slice Ai is.length ci, ov, .int .u32 0] ∧ Only g w wr ∧ Rd wr g lk bk ∧ lk.length ≤ l.length)) (fun i _ => m2 - (intOf i).toNat)
      case atStart => exact ⟨0, [], l9, b9, _, Nat.zero_le _, rfl, ⟨rfl, by simp, OwnMany.nil _ _ _ _ _, HI9.out, HX9.out.1, HX9.out.2, HO9.out, HR9.out, HL8.out⟩⟩
      case round =>
        obtain ⟨j, os, lk, bk, ov, hj2, rfl, ⟨hlen, hp, hown, hins, hx2, hx4, ho, hrd, hlj⟩⟩ := hrel
        by_cases hjm : j < m2
        · have hjm' : (j : Int) < (m2 : Int) := by omega
          have HJ : Kp (j < m2 ∧ os.length = j) := ⟨hjm, hlen⟩
          have HP := Kp.mk (pMany_step hjm hp)
          have HOWN := Kp.mk hown
          have HINS := Kp.mk hins
          have HX := Kp.mk (And.intro hx2 hx4)
          have HO := Kp.mk ho
          have HRD := Kp.mk hrd
          have HLJ := Kp.mk hlj
          obtain ⟨Ao, co, rfl⟩ := hown.slice
          have hbd : Below wr.heap.size wr wr.drew := (Below.refl _ _).drew
          have HT := Kp.mk (nextOut_any g wr.drew lk bk (hrd.below hbd) (by have := HBL.out; omega))
          have hcd := (hx4.below hbd).cell 2
          have HBD := Kp.mk hbd
          clear hlen hp hown hins hx2 hx4 ho hrd hlj hbd hjm
          generalize hXX : pOut lk bk = X at *
          go_wp2_with fail
          go_region_law (first | (go_simp; go_at_call 63; refine HT.out.mono ?_; rintro e w5 ⟨cs, rfl, ho5, hin5, hr5⟩; have hx54 := (HX.out.2.below HBD.out).other ho5 (HRD.out.below HBD.out) (by decide); have hc5 := hx54.cell 2; have hc55 := (hx54.below ((Below.refl _ _).alloc (Nat.le_refl _) (.cells cs.toArray 51))).cell 2; have hcl := hin5.len; have hfold := fold_out cs hcl; obtain ⟨crd, hbr⟩ := (HRD.out.below HBD.out).box; have hka : Keeps [5, 27, 47, 51] wr w5 := (Keeps.of_below _ HBD.out).trans (Keeps.of_only ho5 hbr (by decide)); have hkb : Keeps [5, 27, 47, 51] w5 (w5.alloc (.cells cs.toArray 51)) := Keeps.of_below _ ((Below.refl _ _).alloc (Nat.le_refl _) _); have HOW := Kp.mk (OwnMany.turn HOWN.out (hka.trans hkb) (by decide) (Nat.le_refl _) (fun cs d h => OutO.turn h (hka.trans hkb) (by decide) (Nat.le_refl _))); have HIN5 := Kp.mk (OwnMany.turn HINS.out (hka.trans hkb) (by decide) (Nat.le_refl _) (fun cs d h => InO.turn h (hka.trans hkb) (by decide) (by decide) (Nat.le_refl _))); have HIN := Kp.mk (hin5.turn hkb (by decide) HO.out.size); have HO6 := Kp.mk (((HO.out.trans (Only.of_below HBD.out)).trans ho5).alloc (.cells cs.toArray 51)); have HONE := Kp.mk hin5.outR.one; have HR5 := Kp.mk hr5; have HX5 := Kp.mk (And.intro ((HX.out.1.below HBD.out).other ho5 (HRD.out.below HBD.out) (by decide)) hx54); clear hka hkb hbr ho5 hin5 hr5 hx54) | (refine step_append_many (R := fun W => OutO W w.heap.size) rfl (.tmp 38) (.tmp 41) 24 rfl w.heap.size i2 _ 32 Try.underlying24 hi2 hz2 hs2 hb2' (by rfl) (by decide) _ os rfl HOW.out w5.heap.size 1 cs X.1 rfl (Box.fresh w5 _ _) hcl HIN.out HONE.out (by have := HJ.out; omega) (by decide) (Nat.le_trans HO6.out.size (Nat.le_refl _)) [5, 27, 47, 26, 69] (by decide) (fun w' cs d hk h => OutO.turn h hk (by decide) (Nat.le_refl _)) ?_; intro v6 w6 hm6 hg6 hk6; obtain ⟨IS, hIS⟩ : ∃ IS, os ++ [X.1] = IS := ⟨_, rfl⟩; rw [hIS] at hm6; obtain ⟨A6, k6, rfl⟩ := hm6.slice; have hx62 := Keeps.box hk6 (by decide) (HX5.out.1.below ((Below.refl _ _).alloc (Nat.le_refl _) (.cells cs.toArray 51))); have hx64 := Keeps.box hk6 (by decide) (HX5.out.2.below ((Below.refl _ _).alloc (Nat.le_refl _) (.cells cs.toArray 51))); have c6 := hx64.cell 2; have f6 := hx64.warm 2))
          all_goals
            have hk7 : Keeps [5, 27, 47, 51, 69] w6 (w6.setCell ⟨G4, 2, none⟩ (.slice A6 IS.length k6)) := Keeps.of_set hx64 (by decide) 2 _
            have HEND : Kp (IS.length = j + 1 ∧ pMany pOut m2 l9 b9 = (IS ++ (pMany pOut (m2 - (j + 1)) X.2.1 X.2.2).1, (pMany pOut (m2 - (j + 1)) X.2.1 X.2.2).2) ∧ OwnMany 2 51 (OutO (w6.setCell ⟨G4, 2, none⟩ (.slice A6 IS.length k6)) w.heap.size) (w6.setCell ⟨G4, 2, none⟩ (.slice A6 IS.length k6)) w.heap.size (.slice A6 IS.length k6) IS ∧ OwnMany 36 47 (InO (w6.setCell ⟨G4, 2, none⟩ (.slice A6 IS.length k6)) w.heap.size) (w6.setCell ⟨G4, 2, none⟩ (.slice A6 IS.length k6)) w.heap.size (.slice Ai is.length ci) is ∧ Box (w6.setCell ⟨G4, 2, none⟩ (.slice A6 IS.length k6)) w.heap.size 26 zTx ∧ Box (w6.setCell ⟨G4, 2, none⟩ (.slice A6 IS.length k6)) G4 26 #[.int .u32 (n : Int), .slice Ai is.length ci, .slice A6 IS.length k6, .int .u32 0] ∧ Only g w (w6.setCell ⟨G4, 2, none⟩ (.slice A6 IS.length k6)) ∧ Rd (w6.setCell ⟨G4, 2, none⟩ (.slice A6 IS.length k6)) g X.2.1 X.2.2 ∧ X.2.1.length ≤ l.length) := by
              constructor
              have hG := HG4.out
              refine ⟨by rw [← hIS, List.length_append, HJ.out.2]; rfl, by rw [← hIS]; exact HP.out, OwnMany.turn hm6 hk7 (by decide) (Nat.le_refl _) (fun cs d h => OutO.turn h hk7 (by decide) (Nat.le_refl _)), OwnMany.turn HIN5.out (Keeps.trans (ts := [5, 27, 47]) (hk6.sub (by decide)) (hk7.sub (by decide))) (by decide) (Nat.le_refl _) (fun cs d h => InO.turn h (Keeps.trans (ts := [5, 27, 47]) (hk6.sub (by decide)) (hk7.sub (by decide))) (by decide) (by decide) (Nat.le_refl _)), hx62.keep ((Only.refl G4 w6).set 2 _) (by omega), hx64.set 2 _, ?_, ?_, ?_⟩
              · obtain ⟨css, hrow, _⟩ := HOW.out
                exact (HO6.out.grown hrow (Nat.le_refl _) hg6).setNew (by omega) 2 _
              · exact ((HR5.out.below ((Below.refl _ _).alloc (Nat.le_refl _) _)).keeps hk6 (by decide) (by decide)).keeps hk7 (by decide) (by decide)
              · rw [← hXX]; exact Nat.le_trans (pOut_len _ _) HLJ.out
            clear hk7 hm6 hg6 hk6 hx62 hx64 c6 f6 hIS hcl hfold hcd
            go_wp2
            exact ⟨⟨j + 1, IS, _, _, _, by have := HJ.out; omega, by go_num, HEND⟩, by simp [intOf]; have := HJ.out; omega⟩
        · obtain rfl : m2 = j := by omega
          have HPO := Kp.mk (pMany_end hp)
          obtain ⟨wA, rfl⟩ : ∃ wA : World, wA = wr := ⟨_, rfl⟩
          have HOA := Kp.mk hown
          have HIA := Kp.mk hins
          have HXA := Kp.mk (And.intro hx2 hx4)
          have HNA := Kp.mk ho
          have HRA := Kp.mk hrd
          have HLA := Kp.mk hlj
          obtain ⟨Ao, co, rfl⟩ := hown.slice
          clear hlen hp hown hins hx2 hx4 ho hrd hlj hjm
          obtain ⟨T, hT⟩ : ∃ T, (⟨n, is, os, (num lk bk 4).1⟩ : TxD) = T := ⟨_, rfl⟩
          have HTA := Kp.mk (rsmall_any g wA lk bk HRA.out)
          have HLTk := Kp.mk (num_lt lk HRA.out.bys bk 4)
          go_wp2_with fail
          refine HTA.out.mono ?_
          rintro e wB ⟨hoB, rfl, hrB⟩
          have hfinal : pTx l bad = ((T, !(num lk bk 4).2.2 && (mayB T && (witT T == false))), (num lk bk 4).2) := by
            rw [← hT, HE.out]
            simp [pBody, HPI.out, HCC.out, HPO.out]
          generalize (num lk bk 4).1 = k at *
          generalize hB0 : (num lk bk 4).2 = rB at *
          obtain ⟨lB, bB⟩ := rB
          obtain ⟨crd, hbr⟩ := HRA.out.box
          have hkB : Keeps [5, 27, 47, 51] wA wB := Keeps.of_only hoB hbr (by decide)
          have hxB2 := HXA.out.1.other hoB HRA.out (by decide)
          have hxB4 := HXA.out.2.other hoB HRA.out (by decide)
          have hkC : Keeps [5, 27, 47, 51, 69] wB (wB.setCell ⟨G4, 3, none⟩ (.int .u32 (k : Int))) := Keeps.of_set hxB4 (by decide) 3 _
          have hxC4 : Box (wB.setCell ⟨G4, 3, none⟩ (.int .u32 (k : Int))) G4 26 #[.int .u32 (n : Int), .slice Ai is.length ci, .slice Ao os.length co, .int .u32 (k : Int)] := hxB4.set 3 _
          have hxC2 : Box (wB.setCell ⟨G4, 3, none⟩ (.int .u32 (k : Int))) w.heap.size 26 zTx := hxB2.keep ((Only.refl G4 wB).set 3 _) (by have := HG4.out; omega)
          have hrC : Rd (wB.setCell ⟨G4, 3, none⟩ (.int .u32 (k : Int))) g lB bB := hrB.keeps hkC (by decide) (by decide)
          have hoC : Only g w (wB.setCell ⟨G4, 3, none⟩ (.int .u32 (k : Int))) := (HNA.out.trans hoB).setNew (by have := HG4.out; omega) 3 _
          have hkBC := hkB.trans (hkC.sub (by decide))
          have htx : TxO (wB.setCell ⟨G4, 3, none⟩ (.int .u32 (k : Int))) w.heap.size (.agg #[.int .u32 (n : Int), .slice Ai is.length ci, .slice Ao os.length co, .int .u32 (k : Int)]) T := by
            have h256 : (256 : Nat) ^ 4 = 4294967296 := by decide
            have h1 := HLT1.out
            have h2 := HLTk.out
            rw [h256] at h1 h2
            rw [← hT]
            exact ⟨_, _, rfl, h1, h2, OwnMany.turn HIA.out hkBC (by decide) (Nat.le_refl _) (fun cs d h => InO.turn h hkBC (by decide) (by decide) (Nat.le_refl _)), OwnMany.turn HOA.out hkBC (by decide) (Nat.le_refl _) (fun cs d h => OutO.turn h hkBC (by decide) (Nat.le_refl _))⟩
          have cB := hxB4.cell 3
          have fB := hxB4.warm 3
          have HFIN := Kp.mk hfinal
          have HTX := Kp.mk htx
          have HXC := Kp.mk (And.intro hxC2 hxC4)
          have HRC := Kp.mk hrC
          have HOC := Kp.mk hoC
          clear hoB hrB hfinal hT hB0 hbr hkB hxB2 hxB4 hkC hxC4 hxC2 hrC hoC hkBC htx HTA
          go_wp2_with fail
          generalize wB.setCell ⟨G4, 3, none⟩ (.int .u32 (k : Int)) = wC at *
          clear cB fB
          have HM := Kp.mk (fun (W : World) (v : Value) (hv : TxR W v T) => may_any W v T hv)
          have HWI := Kp.mk (fun (W : World) (v : Value) (hv : TxR W v T) => witnessed_any W v T hv)
          have HOK := Kp.mk (fun (W : World) (hr : Rd W g lB bB) => ok_any g W lB bB hr)
          have HB : Kp (∀ W, Below wC.heap.size wC W → W.cell? ⟨G4, 0, none⟩ = some (.int .u32 (n : Int)) ∧ W.cell? ⟨G4, 1, none⟩ = some (.slice Ai is.length ci) ∧ W.cell? ⟨G4, 2, none⟩ = some (.slice Ao os.length co) ∧ W.cell? ⟨G4, 3, none⟩ = some (.int .u32 (k : Int))) := ⟨fun W hb => by
            have h := HXC.out.2.below hb
            exact ⟨h.cell 0, h.cell 1, h.cell 2, h.cell 3⟩⟩
          have HBS : Kp (∀ W, Below wC.heap.size wC W → (W.setRow w.heap.size #[.int .u32 (n : Int), .slice Ai is.length ci, .slice Ao os.length co, .int .u32 (k : Int)]).cell? ⟨G4, 0, none⟩ = some (.int .u32 (n : Int)) ∧ (W.setRow w.heap.size #[.int .u32 (n : Int), .slice Ai is.length ci, .slice Ao os.length co, .int .u32 (k : Int)]).cell? ⟨G4, 1, none⟩ = some (.slice Ai is.length ci) ∧ (W.setRow w.heap.size #[.int .u32 (n : Int), .slice Ai is.length ci, .slice Ao os.length co, .int .u32 (k : Int)]).cell? ⟨G4, 2, none⟩ = some (.slice Ao os.length co) ∧ (W.setRow w.heap.size #[.int .u32 (n : Int), .slice Ai is.length ci, .slice Ao os.length co, .int .u32 (k : Int)]).cell? ⟨G4, 3, none⟩ = some (.int .u32 (k : Int))) := ⟨fun W hb => by
            have h := (HXC.out.2.below hb).keep (setRow_grown W w.heap.size #[.int .u32 (n : Int), .slice Ai is.length ci, .slice Ao os.length co, .int .u32 (k : Int)]) (by have := HG4.out; omega)
            exact ⟨h.cell 0, h.cell 1, h.cell 2, h.cell 3⟩⟩
          have HX2 : Kp (∀ W, Below wC.heap.size wC W → W.heap[w.heap.size]? = some (.cells zTx 26 (0, 0))) := ⟨fun W hb => HXC.out.1.below hb⟩
          have HROW : Kp (∀ W, Below wC.heap.size wC W → (W.setRow w.heap.size #[.int .u32 (n : Int), .slice Ai is.length ci, .slice Ao os.length co, .int .u32 (k : Int)]).heap[w.heap.size]? = some (.cells #[.int .u32 (n : Int), .slice Ai is.length ci, .slice Ao os.length co, .int .u32 (k : Int)] 26 (0, 0))) := ⟨fun W hb => setRow_box (HXC.out.1.below hb) _⟩
          have HDONE : Kp (∀ W, Below wC.heap.size wC W → DecP g (pTx l bad) w (.returned (.tuple #[.agg #[.int .u32 (n : Int), .slice Ai is.length ci, .slice Ao os.length co, .int .u32 (k : Int)], .bool (!bB && (mayB T && (witT T == false)))])) (W.setRow w.heap.size #[.int .u32 (n : Int), .slice Ai is.length ci, .slice Ao os.length co, .int .u32 (k : Int)])) := ⟨fun W hb => by
            have hk1 : Keeps [5, 27, 47, 51, 69] wC W := Keeps.of_below _ hb
            have hk2 : Keeps [5, 27, 47, 51, 69] W (W.setRow w.heap.size #[.int .u32 (n : Int), .slice Ai is.length ci, .slice Ao os.length co, .int .u32 (k : Int)]) := Keeps.of_setRow (HXC.out.1.below hb) (by decide) _
            rw [HFIN.out]
            exact ⟨_, rfl, (HOC.out.trans (Only.of_below hb)).setRow (Nat.le_refl _) _, HTX.out.turn (hk1.trans hk2) (by decide) (by decide) (by decide) (by decide) (Nat.le_refl _), HRC.out.keeps (hk1.trans hk2) (by decide) (by decide)⟩⟩
          have HIT2 : Kp ((Try.prog.info? 26).map (·.size) = some 4) := ⟨by kernel_rfl⟩
          have hcd := HB.out wC.drew (Below.refl _ _).drew
          have HT0 := Kp.mk (HTX.out.txR)
          clear HFIN
          cases bB with
          | true =>
            have HD := Kp.mk (HDONE.out wC.drew (Below.refl _ _).drew)
            rw [show (!true && (mayB T && (witT T == false))) = false from rfl] at HD
            refine wp_region_noPanic ?_
            refine wp_region_held_drew (S := (fun W => W.cell? ⟨G4, 0, none⟩ = some (.int .u32 (n : Int)) ∧ W.cell? ⟨G4, 1, none⟩ = some (.slice Ai is.length ci) ∧ W.cell? ⟨G4, 2, none⟩ = some (.slice Ao os.length co) ∧ W.cell? ⟨G4, 3, none⟩ = some (.int .u32 (k : Int)))) (by kernel_rfl) ?_ (fun hHeld => ?_)
            · exact hcd
            refine wpAnyH_take (i := 0) (oi := ⟨some 63, _, _, _, _, _⟩) (v := ?_) rfl (by kernel_rfl) (by kernel_rfl) (by kernel_rfl) (fun _ _ _ h => h) (Or.inl ⟨by rfl, ?_⟩) hHeld ?_
            rotate_left
            · (intro wx hSw; (try dsimp only at hSw); go_simp; try with_reducible rfl)
            try simp only [Act.put, List.setIfInBounds_toArray, List.set_cons_zero, List.set_cons_succ]
            refine wpAnyH_take (i := 1) (oi := ⟨some 64, _, _, _, _, _⟩) (v := ?_) rfl (by kernel_rfl) (by kernel_rfl) (by kernel_rfl) (fun _ _ _ h => h) (Or.inl ⟨by rfl, ?_⟩) hHeld ?_
            rotate_left
            · (intro wx hSw; (try dsimp only at hSw); go_simp; try with_reducible rfl)
            try simp only [Act.put, List.setIfInBounds_toArray, List.set_cons_zero, List.set_cons_succ]
            refine wpAnyH_ready (rs := [2]) (by kernel_rfl) (by simp) (AllReadyH.cons (o := ⟨some 65, _, _, _, _, _⟩) rfl (fun K hK => ?_) AllReadyH.nil)
            go_simp
            refine (HOK.out wC.drew (HRC.out.below (Below.refl _ _).drew)).mono ?_
            rintro e wD ⟨rfl, rfl⟩
            refine hK.out _ _ ?_ (fun hHeld => ?_)
            · exact hcd
            clear hK K
            try simp only [Act.put, List.setIfInBounds_toArray, List.set_cons_zero, List.set_cons_succ]
            refine wpAnyH_take (i := 3) (oi := ⟨some 66, _, _, _, _, _⟩) (v := ?_) rfl (by kernel_rfl) (by kernel_rfl) (by kernel_rfl) (fun _ _ _ h => h) (Or.inl ⟨by rfl, ?_⟩) hHeld ?_
            rotate_left
            · (intro wx hSw; (try dsimp only at hSw); go_simp; try with_reducible rfl)
            try simp only [Act.put, List.setIfInBounds_toArray, List.set_cons_zero, List.set_cons_succ]
            refine wpAnyH_take (i := 4) (oi := ⟨some 67, _, _, _, _, _⟩) (v := undef) rfl (by kernel_rfl) (by kernel_rfl) (by kernel_rfl) (fun _ _ _ h => h) (Or.inr ⟨by rfl, rfl⟩) hHeld ?_
            try simp only [Act.put, List.setIfInBounds_toArray, List.set_cons_zero, List.set_cons_succ]
            refine wpAnyH_take (i := 5) (oi := ⟨some 68, _, _, _, _, _⟩) (v := undef) rfl (by kernel_rfl) (by kernel_rfl) (by kernel_rfl) (fun _ _ _ h => h) (Or.inr ⟨by rfl, rfl⟩) hHeld ?_
            try simp only [Act.put, List.setIfInBounds_toArray, List.set_cons_zero, List.set_cons_succ]
            refine wpAnyH_take (i := 6) (oi := ⟨some 69, _, _, _, _, _⟩) (v := ?_) rfl (by kernel_rfl) (by kernel_rfl) (by kernel_rfl) (fun _ _ _ h => h) (Or.inl ⟨by rfl, ?_⟩) hHeld ?_
            rotate_left
            · (intro wx hSw; (try dsimp only at hSw); go_simp; try with_reducible rfl)
            try simp only [Act.put, List.setIfInBounds_toArray, List.set_cons_zero, List.set_cons_succ]
            refine wpAnyH_take (i := 7) (oi := ⟨some 70, _, _, _, _, _⟩) (v := ?_) rfl (by kernel_rfl) (by kernel_rfl) (by kernel_rfl) (fun _ _ _ h => h) (Or.inl ⟨by rfl, ?_⟩) hHeld ?_
            rotate_left
            · (intro wx hSw; (try dsimp only at hSw); go_simp; try with_reducible rfl)
            try simp only [Act.put, List.setIfInBounds_toArray, List.set_cons_zero, List.set_cons_succ]
            refine wpAnyH_take (i := 8) (oi := ⟨some 71, _, _, _, _, _⟩) (v := undef) rfl (by kernel_rfl) (by kernel_rfl) (by kernel_rfl) (fun _ _ _ h => h) (Or.inr ⟨by rfl, rfl⟩) hHeld ?_
            try simp only [Act.put, List.setIfInBounds_toArray, List.set_cons_zero, List.set_cons_succ]
            refine wpAnyH_take (i := 9) (oi := ⟨some 72, _, _, _, _, _⟩) (v := undef) rfl (by kernel_rfl) (by kernel_rfl) (by kernel_rfl) (fun _ _ _ h => h) (Or.inr ⟨by rfl, rfl⟩) hHeld ?_
            try simp only [Act.put, List.setIfInBounds_toArray, List.set_cons_zero, List.set_cons_succ]
            refine wpAnyH_take (i := 10) (oi := ⟨some 73, _, _, _, _, _⟩) (v := undef) rfl (by kernel_rfl) (by kernel_rfl) (by kernel_rfl) (fun _ _ _ h => h) (Or.inr ⟨by rfl, rfl⟩) hHeld ?_
            try simp only [Act.put, List.setIfInBounds_toArray, List.set_cons_zero, List.set_cons_succ]
            refine wpAnyH_take (i := 11) (oi := ⟨some 74, _, _, _, _, _⟩) (v := undef) rfl (by kernel_rfl) (by kernel_rfl) (by kernel_rfl) (fun _ _ _ h => h) (Or.inr ⟨by rfl, rfl⟩) hHeld ?_
            try simp only [Act.put, List.setIfInBounds_toArray, List.set_cons_zero, List.set_cons_succ]
            refine wpAnyH_take (i := 12) (oi := ⟨some 75, _, _, _, _, _⟩) (v := ?_) rfl (by kernel_rfl) (by kernel_rfl) (by kernel_rfl) (fun _ _ _ h => h) (Or.inl ⟨by rfl, ?_⟩) hHeld ?_
            rotate_left
            · (intro wx hSw; (try dsimp only at hSw); go_simp; try with_reducible rfl)
            try simp only [Act.put, List.setIfInBounds_toArray, List.set_cons_zero, List.set_cons_succ]
            refine wpAnyH_ready (rs := [13]) (by kernel_rfl) (by simp) (AllReadyH.cons (o := ⟨none, _, _, _, _, _⟩) rfl (fun K hK => ?_) AllReadyH.nil)
            refine step_store_row rfl 26 (.tmp 2) (.tmp 63) rfl w.heap.size #[.int .u32 (n : Int), .slice Ai is.length ci, .slice Ao os.length co, .int .u32 (k : Int)] rfl rfl 26 zTx (HX2.out wC.drew (Below.refl _ _).drew) HIT2.out rfl (by simp [Value.oneCell']) ?_
            refine hK.out _ _ ?_ (fun hHeld => ?_)
            · exact HBS.out wC.drew (Below.refl _ _).drew
            clear hK K
            try simp only [Act.put, List.setIfInBounds_toArray, List.set_cons_zero, List.set_cons_succ]
            refine wpAnyH_take (i := 14) (oi := ⟨some 3, _, _, _, _, _⟩) (v := ?_) rfl (by kernel_rfl) (by kernel_rfl) (by kernel_rfl) (fun _ _ _ h => h) (Or.inl ⟨by rfl, ?_⟩) hHeld ?_
            rotate_left
            · (intro wx hSw; (try dsimp only at hSw); go_simp; try with_reducible rfl)
            try simp only [Act.put, List.setIfInBounds_toArray, List.set_cons_zero, List.set_cons_succ]
            refine wpAnyH_done (by kernel_rfl) ?_ _
            refine NoPanic.normal ?_
            go_wp2
            exact bodyPost_ret (results_cell_row2 (p := 2) (u := 3) (by rfl) _ _ w.heap.size 26 _ _ _ (.bool false) rfl rfl (HROW.out _ (Below.refl _ _).drew) Try.underlying26 rfl HIT2.out) rfl HD.out
          | false =>
            cases hm : mayB T with
            | false =>
              have HMF : Kp (∀ (W : World), TxR W (.agg #[.int .u32 (n : Int), .slice Ai is.length ci, .slice Ao os.length co, .int .u32 (k : Int)]) T → Calls Try.prog 6 #[.agg #[.int .u32 (n : Int), .slice Ai is.length ci, .slice Ao os.length co, .int .u32 (k : Int)]] W (BoolP false W)) := ⟨fun W hv => by rw [← hm]; exact HM.out W _ hv⟩
              have HDF : Kp (∀ W, Below wC.heap.size wC W → DecP g (pTx l bad) w (.returned (.tuple #[.agg #[.int .u32 (n : Int), .slice Ai is.length ci, .slice Ao os.length co, .int .u32 (k : Int)], .bool false])) (W.setRow w.heap.size #[.int .u32 (n : Int), .slice Ai is.length ci, .slice Ao os.length co, .int .u32 (k : Int)])) := ⟨fun W hb => by have h := HDONE.out W hb; rw [hm] at h; exact h⟩
              clear hm
              refine wp_region_noPanic ?_
              refine wp_region_held_drew (S := (fun W => W.cell? ⟨G4, 0, none⟩ = some (.int .u32 (n : Int)) ∧ W.cell? ⟨G4, 1, none⟩ = some (.slice Ai is.length ci) ∧ W.cell? ⟨G4, 2, none⟩ = some (.slice Ao os.length co) ∧ W.cell? ⟨G4, 3, none⟩ = some (.int .u32 (k : Int)))) (by kernel_rfl) ?_ (fun hHeld => ?_)
              · exact hcd
              refine wpAnyH_take (i := 0) (oi := ⟨some 63, _, _, _, _, _⟩) (v := ?_) rfl (by kernel_rfl) (by kernel_rfl) (by kernel_rfl) (fun _ _ _ h => h) (Or.inl ⟨by rfl, ?_⟩) hHeld ?_
              rotate_left
              · (intro wx hSw; (try dsimp only at hSw); go_simp; try with_reducible rfl)
              try simp only [Act.put, List.setIfInBounds_toArray, List.set_cons_zero, List.set_cons_succ]
              refine wpAnyH_take (i := 1) (oi := ⟨some 64, _, _, _, _, _⟩) (v := ?_) rfl (by kernel_rfl) (by kernel_rfl) (by kernel_rfl) (fun _ _ _ h => h) (Or.inl ⟨by rfl, ?_⟩) hHeld ?_
              rotate_left
              · (intro wx hSw; (try dsimp only at hSw); go_simp; try with_reducible rfl)
              try simp only [Act.put, List.setIfInBounds_toArray, List.set_cons_zero, List.set_cons_succ]
              refine wpAnyH_ready (rs := [2]) (by kernel_rfl) (by simp) (AllReadyH.cons (o := ⟨some 65, _, _, _, _, _⟩) rfl (fun K hK => ?_) AllReadyH.nil)
              go_simp
              refine (HOK.out wC.drew (HRC.out.below (Below.refl _ _).drew)).mono ?_
              rintro e wD ⟨rfl, rfl⟩
              refine hK.out _ _ ?_ (fun hHeld => ?_)
              · exact hcd
              clear hK K
              try simp only [Act.put, List.setIfInBounds_toArray, List.set_cons_zero, List.set_cons_succ]
              refine wpAnyH_take (i := 3) (oi := ⟨some 66, _, _, _, _, _⟩) (v := ?_) rfl (by kernel_rfl) (by kernel_rfl) (by kernel_rfl) (fun _ _ _ h => h) (Or.inl ⟨by rfl, ?_⟩) hHeld ?_
              rotate_left
              · (intro wx hSw; (try dsimp only at hSw); go_simp; try with_reducible rfl)
              try simp only [Act.put, List.setIfInBounds_toArray, List.set_cons_zero, List.set_cons_succ]
              refine wpAnyH_take (i := 4) (oi := ⟨some 67, _, _, _, _, _⟩) (v := ?_) rfl (by kernel_rfl) (by kernel_rfl) (by kernel_rfl) (fun _ _ _ h => h) (Or.inl ⟨by rfl, ?_⟩) hHeld ?_
              rotate_left
              · (intro wx hSw; (try dsimp only at hSw); go_simp; try with_reducible rfl)
              try simp only [Act.put, List.setIfInBounds_toArray, List.set_cons_zero, List.set_cons_succ]
              refine wpAnyH_ready (rs := [5]) (by kernel_rfl) (by simp) (AllReadyH.cons (o := ⟨some 68, _, _, _, _, _⟩) rfl (fun K hK => ?_) AllReadyH.nil)
              go_simp
              refine (HMF.out wC.drew (HT0.out.below (Below.refl _ _).drew)).mono ?_
              rintro e wD ⟨rfl, hbD⟩
              have HBD : Kp (Below wC.heap.size wC wD) := ⟨(Below.refl wC.heap.size wC).drew.trans hbD⟩
              clear hbD
              refine hK.out _ _ ?_ (fun hHeld => ?_)
              · exact HB.out _ HBD.out
              clear hK K
              try simp only [Act.put, List.setIfInBounds_toArray, List.set_cons_zero, List.set_cons_succ]
              refine wpAnyH_take (i := 6) (oi := ⟨some 69, _, _, _, _, _⟩) (v := ?_) rfl (by kernel_rfl) (by kernel_rfl) (by kernel_rfl) (fun _ _ _ h => h) (Or.inl ⟨by rfl, ?_⟩) hHeld ?_
              rotate_left
              · (intro wx hSw; (try dsimp only at hSw); go_simp; try with_reducible rfl)
              try simp only [Act.put, List.setIfInBounds_toArray, List.set_cons_zero, List.set_cons_succ]
              refine wpAnyH_take (i := 7) (oi := ⟨some 70, _, _, _, _, _⟩) (v := ?_) rfl (by kernel_rfl) (by kernel_rfl) (by kernel_rfl) (fun _ _ _ h => h) (Or.inl ⟨by rfl, ?_⟩) hHeld ?_
              rotate_left
              · (intro wx hSw; (try dsimp only at hSw); go_simp; try with_reducible rfl)
              try simp only [Act.put, List.setIfInBounds_toArray, List.set_cons_zero, List.set_cons_succ]
              refine wpAnyH_take (i := 8) (oi := ⟨some 71, _, _, _, _, _⟩) (v := undef) rfl (by kernel_rfl) (by kernel_rfl) (by kernel_rfl) (fun _ _ _ h => h) (Or.inr ⟨by rfl, rfl⟩) hHeld ?_
              try simp only [Act.put, List.setIfInBounds_toArray, List.set_cons_zero, List.set_cons_succ]
              refine wpAnyH_take (i := 9) (oi := ⟨some 72, _, _, _, _, _⟩) (v := undef) rfl (by kernel_rfl) (by kernel_rfl) (by kernel_rfl) (fun _ _ _ h => h) (Or.inr ⟨by rfl, rfl⟩) hHeld ?_
              try simp only [Act.put, List.setIfInBounds_toArray, List.set_cons_zero, List.set_cons_succ]
              refine wpAnyH_take (i := 10) (oi := ⟨some 73, _, _, _, _, _⟩) (v := undef) rfl (by kernel_rfl) (by kernel_rfl) (by kernel_rfl) (fun _ _ _ h => h) (Or.inr ⟨by rfl, rfl⟩) hHeld ?_
              try simp only [Act.put, List.setIfInBounds_toArray, List.set_cons_zero, List.set_cons_succ]
              refine wpAnyH_take (i := 11) (oi := ⟨some 74, _, _, _, _, _⟩) (v := undef) rfl (by kernel_rfl) (by kernel_rfl) (by kernel_rfl) (fun _ _ _ h => h) (Or.inr ⟨by rfl, rfl⟩) hHeld ?_
              try simp only [Act.put, List.setIfInBounds_toArray, List.set_cons_zero, List.set_cons_succ]
              refine wpAnyH_take (i := 12) (oi := ⟨some 75, _, _, _, _, _⟩) (v := ?_) rfl (by kernel_rfl) (by kernel_rfl) (by kernel_rfl) (fun _ _ _ h => h) (Or.inl ⟨by rfl, ?_⟩) hHeld ?_
              rotate_left
              · (intro wx hSw; (try dsimp only at hSw); go_simp; try with_reducible rfl)
              try simp only [Act.put, List.setIfInBounds_toArray, List.set_cons_zero, List.set_cons_succ]
              refine wpAnyH_ready (rs := [13]) (by kernel_rfl) (by simp) (AllReadyH.cons (o := ⟨none, _, _, _, _, _⟩) rfl (fun K hK => ?_) AllReadyH.nil)
              refine step_store_row rfl 26 (.tmp 2) (.tmp 63) rfl w.heap.size #[.int .u32 (n : Int), .slice Ai is.length ci, .slice Ao os.length co, .int .u32 (k : Int)] rfl rfl 26 zTx (HX2.out wD HBD.out) HIT2.out rfl (by simp [Value.oneCell']) ?_
              refine hK.out _ _ ?_ (fun hHeld => ?_)
              · exact HBS.out wD HBD.out
              clear hK K
              try simp only [Act.put, List.setIfInBounds_toArray, List.set_cons_zero, List.set_cons_succ]
              refine wpAnyH_take (i := 14) (oi := ⟨some 3, _, _, _, _, _⟩) (v := ?_) rfl (by kernel_rfl) (by kernel_rfl) (by kernel_rfl) (fun _ _ _ h => h) (Or.inl ⟨by rfl, ?_⟩) hHeld ?_
              rotate_left
              · (intro wx hSw; (try dsimp only at hSw); go_simp; try with_reducible rfl)
              try simp only [Act.put, List.setIfInBounds_toArray, List.set_cons_zero, List.set_cons_succ]
              refine wpAnyH_done (by kernel_rfl) ?_ _
              refine NoPanic.normal ?_
              go_wp2
              exact bodyPost_ret (results_cell_row2 (p := 2) (u := 3) (by rfl) _ _ w.heap.size 26 _ _ _ (.bool false) rfl rfl (HROW.out _ HBD.out) Try.underlying26 rfl HIT2.out) rfl (HDF.out _ HBD.out)
            | true =>
              have HMF : Kp (∀ (W : World), TxR W (.agg #[.int .u32 (n : Int), .slice Ai is.length ci, .slice Ao os.length co, .int .u32 (k : Int)]) T → Calls Try.prog 6 #[.agg #[.int .u32 (n : Int), .slice Ai is.length ci, .slice Ao os.length co, .int .u32 (k : Int)]] W (BoolP true W)) := ⟨fun W hv => by rw [← hm]; exact HM.out W _ hv⟩
              have HDF : Kp (∀ W, Below wC.heap.size wC W → DecP g (pTx l bad) w (.returned (.tuple #[.agg #[.int .u32 (n : Int), .slice Ai is.length ci, .slice Ao os.length co, .int .u32 (k : Int)], .bool (witT T == false)])) (W.setRow w.heap.size #[.int .u32 (n : Int), .slice Ai is.length ci, .slice Ao os.length co, .int .u32 (k : Int)])) := ⟨fun W hb => by have h := HDONE.out W hb; rw [hm] at h; exact h⟩
              clear hm
              generalize witT T = wt at *
              refine wp_region_noPanic ?_
              refine wp_region_held_drew (S := (fun W => W.cell? ⟨G4, 0, none⟩ = some (.int .u32 (n : Int)) ∧ W.cell? ⟨G4, 1, none⟩ = some (.slice Ai is.length ci) ∧ W.cell? ⟨G4, 2, none⟩ = some (.slice Ao os.length co) ∧ W.cell? ⟨G4, 3, none⟩ = some (.int .u32 (k : Int)))) (by kernel_rfl) ?_ (fun hHeld => ?_)
              · exact hcd
              refine wpAnyH_take (i := 0) (oi := ⟨some 63, _, _, _, _, _⟩) (v := ?_) rfl (by kernel_rfl) (by kernel_rfl) (by kernel_rfl) (fun _ _ _ h => h) (Or.inl ⟨by rfl, ?_⟩) hHeld ?_
              rotate_left
              · (intro wx hSw; (try dsimp only at hSw); go_simp; try with_reducible rfl)
              try simp only [Act.put, List.setIfInBounds_toArray, List.set_cons_zero, List.set_cons_succ]
              refine wpAnyH_take (i := 1) (oi := ⟨some 64, _, _, _, _, _⟩) (v := ?_) rfl (by kernel_rfl) (by kernel_rfl) (by kernel_rfl) (fun _ _ _ h => h) (Or.inl ⟨by rfl, ?_⟩) hHeld ?_
              rotate_left
              · (intro wx hSw; (try dsimp only at hSw); go_simp; try with_reducible rfl)
              try simp only [Act.put, List.setIfInBounds_toArray, List.set_cons_zero, List.set_cons_succ]
              refine wpAnyH_ready (rs := [2]) (by kernel_rfl) (by simp) (AllReadyH.cons (o := ⟨some 65, _, _, _, _, _⟩) rfl (fun K hK => ?_) AllReadyH.nil)
              go_simp
              refine (HOK.out wC.drew (HRC.out.below (Below.refl _ _).drew)).mono ?_
              rintro e wD ⟨rfl, rfl⟩
              refine hK.out _ _ ?_ (fun hHeld => ?_)
              · exact hcd
              clear hK K
              try simp only [Act.put, List.setIfInBounds_toArray, List.set_cons_zero, List.set_cons_succ]
              refine wpAnyH_take (i := 3) (oi := ⟨some 66, _, _, _, _, _⟩) (v := ?_) rfl (by kernel_rfl) (by kernel_rfl) (by kernel_rfl) (fun _ _ _ h => h) (Or.inl ⟨by rfl, ?_⟩) hHeld ?_
              rotate_left
              · (intro wx hSw; (try dsimp only at hSw); go_simp; try with_reducible rfl)
              try simp only [Act.put, List.setIfInBounds_toArray, List.set_cons_zero, List.set_cons_succ]
              refine wpAnyH_take (i := 4) (oi := ⟨some 67, _, _, _, _, _⟩) (v := ?_) rfl (by kernel_rfl) (by kernel_rfl) (by kernel_rfl) (fun _ _ _ h => h) (Or.inl ⟨by rfl, ?_⟩) hHeld ?_
              rotate_left
              · (intro wx hSw; (try dsimp only at hSw); go_simp; try with_reducible rfl)
              try simp only [Act.put, List.setIfInBounds_toArray, List.set_cons_zero, List.set_cons_succ]
              refine wpAnyH_ready (rs := [5]) (by kernel_rfl) (by simp) (AllReadyH.cons (o := ⟨some 68, _, _, _, _, _⟩) rfl (fun K hK => ?_) AllReadyH.nil)
              go_simp
              refine (HMF.out wC.drew (HT0.out.below (Below.refl _ _).drew)).mono ?_
              rintro e wD ⟨rfl, hbD⟩
              have HBD : Kp (Below wC.heap.size wC wD) := ⟨(Below.refl wC.heap.size wC).drew.trans hbD⟩
              clear hbD
              refine hK.out _ _ ?_ (fun hHeld => ?_)
              · exact HB.out _ HBD.out
              clear hK K
              try simp only [Act.put, List.setIfInBounds_toArray, List.set_cons_zero, List.set_cons_succ]
              refine wpAnyH_take (i := 6) (oi := ⟨some 69, _, _, _, _, _⟩) (v := ?_) rfl (by kernel_rfl) (by kernel_rfl) (by kernel_rfl) (fun _ _ _ h => h) (Or.inl ⟨by rfl, ?_⟩) hHeld ?_
              rotate_left
              · (intro wx hSw; (try dsimp only at hSw); go_simp; try with_reducible rfl)
              try simp only [Act.put, List.setIfInBounds_toArray, List.set_cons_zero, List.set_cons_succ]
              refine wpAnyH_take (i := 7) (oi := ⟨some 70, _, _, _, _, _⟩) (v := ?_) rfl (by kernel_rfl) (by kernel_rfl) (by kernel_rfl) (fun _ _ _ h => h) (Or.inl ⟨by rfl, ?_⟩) hHeld ?_
              rotate_left
              · (intro wx hSw; (try dsimp only at hSw); go_simp; try with_reducible rfl)
              try simp only [Act.put, List.setIfInBounds_toArray, List.set_cons_zero, List.set_cons_succ]
              refine wpAnyH_take (i := 8) (oi := ⟨some 71, _, _, _, _, _⟩) (v := ?_) rfl (by kernel_rfl) (by kernel_rfl) (by kernel_rfl) (fun _ _ _ h => h) (Or.inl ⟨by rfl, ?_⟩) hHeld ?_
              rotate_left
              · (intro wx hSw; (try dsimp only at hSw); go_simp; try with_reducible rfl)
              try simp only [Act.put, List.setIfInBounds_toArray, List.set_cons_zero, List.set_cons_succ]
              refine wpAnyH_take (i := 10) (oi := ⟨some 73, _, _, _, _, _⟩) (v := ?_) rfl (by kernel_rfl) (by kernel_rfl) (by kernel_rfl) (fun _ _ _ h => h) (Or.inl ⟨by rfl, ?_⟩) hHeld ?_
              rotate_left
              · (intro wx hSw; (try dsimp only at hSw); go_simp; try with_reducible rfl)
              try simp only [Act.put, List.setIfInBounds_toArray, List.set_cons_zero, List.set_cons_succ]
              refine wpAnyH_ready (rs := [9]) (by kernel_rfl) (by simp) (AllReadyH.cons (o := ⟨some 72, _, _, _, _, _⟩) rfl (fun K hK => ?_) AllReadyH.nil)
              go_simp
              refine (HWI.out wD _ (HT0.out.below HBD.out)).mono ?_
              rintro e wE ⟨rfl, hbE⟩
              have HBE : Kp (Below wC.heap.size wC wE) := ⟨HBD.out.trans (hbE.mono HBD.out.size)⟩
              clear hbE
              refine hK.out _ _ ?_ (fun hHeld => ?_)
              · exact HB.out _ HBE.out
              clear hK K
              try simp only [Act.put, List.setIfInBounds_toArray, List.set_cons_zero, List.set_cons_succ]
              refine wpAnyH_take (i := 11) (oi := ⟨some 74, _, _, _, _, _⟩) (v := ?_) rfl (by kernel_rfl) (by kernel_rfl) (by kernel_rfl) (fun _ _ _ h => h) (Or.inl ⟨by rfl, ?_⟩) hHeld ?_
              rotate_left
              · (intro wx hSw; (try dsimp only at hSw); go_simp; try with_reducible rfl)
              try simp only [Act.put, List.setIfInBounds_toArray, List.set_cons_zero, List.set_cons_succ]
              refine wpAnyH_take (i := 12) (oi := ⟨some 75, _, _, _, _, _⟩) (v := ?_) rfl (by kernel_rfl) (by kernel_rfl) (by kernel_rfl) (fun _ _ _ h => h) (Or.inl ⟨by rfl, ?_⟩) hHeld ?_
              rotate_left
              · (intro wx hSw; (try dsimp only at hSw); go_simp; try with_reducible rfl)
              try simp only [Act.put, List.setIfInBounds_toArray, List.set_cons_zero, List.set_cons_succ]
              refine wpAnyH_ready (rs := [13]) (by kernel_rfl) (by simp) (AllReadyH.cons (o := ⟨none, _, _, _, _, _⟩) rfl (fun K hK => ?_) AllReadyH.nil)
              refine step_store_row rfl 26 (.tmp 2) (.tmp 63) rfl w.heap.size #[.int .u32 (n : Int), .slice Ai is.length ci, .slice Ao os.length co, .int .u32 (k : Int)] rfl rfl 26 zTx (HX2.out wE HBE.out) HIT2.out rfl (by simp [Value.oneCell']) ?_
              refine hK.out _ _ ?_ (fun hHeld => ?_)
              · exact HBS.out wE HBE.out
              clear hK K
              try simp only [Act.put, List.setIfInBounds_toArray, List.set_cons_zero, List.set_cons_succ]
              refine wpAnyH_take (i := 14) (oi := ⟨some 3, _, _, _, _, _⟩) (v := ?_) rfl (by kernel_rfl) (by kernel_rfl) (by kernel_rfl) (fun _ _ _ h => h) (Or.inl ⟨by rfl, ?_⟩) hHeld ?_
              rotate_left
              · (intro wx hSw; (try dsimp only at hSw); go_simp; try with_reducible rfl)
              try simp only [Act.put, List.setIfInBounds_toArray, List.set_cons_zero, List.set_cons_succ]
              refine wpAnyH_done (by kernel_rfl) ?_ _
              refine NoPanic.normal ?_
              go_wp2
              exact bodyPost_ret (results_cell_row2 (p := 2) (u := 3) (by rfl) _ _ w.heap.size 26 _ _ _ (.bool (wt == false)) rfl (by cases wt <;> rfl) (HROW.out _ HBE.out) Try.underlying26 rfl HIT2.out) rfl (HDF.out _ HBE.out)

set_option linter.unusedSimpArgs false in
set_option maxRecDepth 1000000 in
set_option maxHeartbeats 16000000 in
theorem decode_whole (g : Nat) (w : World) (l : List Int) (bad : Bool) (h : Rd w g l bad) (hl : l.length ≤ 140737488355328) (hc : (count (num l bad 4).2.1 (num l bad 4).2.2 50).1 = 0) (hm : (count (count (num l bad 4).2.1 (num l bad 4).2.2 50).2.1 (count (num l bad 4).2.1 (num l bad 4).2.2 50).2.2 1).1 = 1) :
    Calls Try.prog 41 #[.pointer (some ⟨g, 0, none⟩)] w (DecP g (pTx l bad) w) := by
  obtain ⟨i1, hi1, hz1, hs1, hb1⟩ := info_parts3 infoInZ
  obtain ⟨i2, hi2, hz2, hs2, hb2'⟩ := info_parts3 infoOutZ
  have hb2 : Below w.heap.size w (w.alloc (.cells zTx 26)) := (Below.refl _ _).alloc (Nat.le_refl _) _
  have HX0 : Kp (Box (w.alloc (.cells zTx 26)) w.heap.size 26 zTx) := ⟨Box.fresh w _ _⟩
  have HR0 := Kp.mk (h.below hb2)
  have HO0 : Kp (Only g w (w.alloc (.cells zTx 26))) := ⟨Only.of_below hb2⟩
  have H1 := Kp.mk (rsmall_any g _ l bad HR0.out)
  have HLN1 := Kp.mk (num_len l bad 4)
  have HLT1 := Kp.mk (num_lt l h.bys bad 4)
  have HZ : Kp (#[Value.int IntKind.u32 0, Value.slice none 0 0, Value.slice none 0 0, Value.int IntKind.u32 0] = zTx) := ⟨rfl⟩
  have HBL := Kp.mk hl
  have HE : Kp (pTx l bad = pBody (num l bad 4).1 true (count (count (count (num l bad 4).2.1 (num l bad 4).2.2 50).2.1 (count (num l bad 4).2.1 (num l bad 4).2.2 50).2.2 1).2.1 (count (count (num l bad 4).2.1 (num l bad 4).2.2 50).2.1 (count (num l bad 4).2.1 (num l bad 4).2.2 50).2.2 1).2.2 50)) := ⟨by
    unfold pTx
    simp only
    rw [if_pos hc, if_pos hm]⟩
  have HC := Kp.mk hc
  have HM := Kp.mk hm
  clear h hb2 hc hm hl
  go_enter Try.func41, Try.ntmps41
  go_wp2_with fail
  rw [HZ.out]
  refine H1.out.mono ?_
  rintro e w1 ⟨ho1, rfl, hr1⟩
  have hx1 := HX0.out.other ho1 HR0.out (by decide)
  have ho1' := HO0.out.trans ho1
  generalize (num l bad 4).1 = n at *
  generalize (num l bad 4).2.1 = l1 at *
  generalize (num l bad 4).2.2 = b1 at *
  have hba : Below w1.heap.size w1 (w1.alloc (.cells #[.int .u32 (n : Int), .slice none 0 0, .slice none 0 0, .int .u32 0] 26)) := (Below.refl _ _).alloc (Nat.le_refl _) _
  have hx2 := hx1.below hba
  have hx4 : Box (w1.alloc (.cells #[.int .u32 (n : Int), .slice none 0 0, .slice none 0 0, .int .u32 0] 26)) w1.heap.size 26 #[.int .u32 (n : Int), .slice none 0 0, .slice none 0 0, .int .u32 0] := Box.fresh _ _ _
  have hr2 := hr1.below hba
  have ho2 := ho1'.alloc (.cells #[.int .u32 (n : Int), .slice none 0 0, .slice none 0 0, .int .u32 0] 26)
  have HG4 : Kp (w.heap.size + 1 ≤ w1.heap.size) := ⟨by have := ho1.size; rw [alloc_size] at this; exact this⟩
  obtain ⟨G4, hG4⟩ : ∃ G4, w1.heap.size = G4 := ⟨_, rfl⟩
  clear hx1 ho1 ho1' hba H1 hr1 HX0 HO0 HR0
  go_wp2_with fail
  generalize w1.alloc (.cells #[.int .u32 (n : Int), .slice none 0 0, .slice none 0 0, .int .u32 0] 26) = w2 at *
  rw [hG4] at hx4 HG4
  clear hG4
  have HT2 := Kp.mk (rcount_any g w2 l1 b1 50 hr2 (by omega))
  have HLC := Kp.mk (count_len l1 b1 50)
  have HMC := Kp.mk (count_most l1 b1 50 (by omega))
  have HR2 := Kp.mk hr2
  have HO2 := Kp.mk ho2
  have HX2 := Kp.mk (And.intro hx2 hx4)
  clear hr2 ho2 hx2 hx4
  refine HT2.out.mono ?_
  rintro e w3 ⟨ho3, rfl, hr3⟩
  have hx32 := HX2.out.1.other ho3 HR2.out (by decide)
  have hx34 := HX2.out.2.other ho3 HR2.out (by decide)
  have HR3 := Kp.mk hr3
  have HO3 := Kp.mk (HO2.out.trans ho3)
  have HX3 := Kp.mk (And.intro hx32 hx34)
  clear ho3 hr3 hx32 hx34 HT2
  generalize count l1 b1 50 = c at *
  obtain ⟨m', l3, b3⟩ := c
  simp only at HC HLC HMC HR3 HE HM ⊢
  obtain rfl : m' = 0 := HC.out
  rw [show ((0 : Nat) : Int) = 0 from rfl]
  have HT3 := Kp.mk (rcount_any g w3 l3 b3 1 HR3.out (by omega))
  have HLC2 := Kp.mk (count_len l3 b3 1)
  clear HC HMC
  go_wp2_with fail
  refine HT3.out.mono ?_
  rintro e w4 ⟨ho4, rfl, hr4⟩
  have hx42 := HX3.out.1.other ho4 HR3.out (by decide)
  have hx44 := HX3.out.2.other ho4 HR3.out (by decide)
  have HR4 := Kp.mk hr4
  have HO4 := Kp.mk (HO3.out.trans ho4)
  have HX4 := Kp.mk (And.intro hx42 hx44)
  clear ho4 hr4 hx42 hx44 HT3
  generalize count l3 b3 1 = c at *
  obtain ⟨m'', l4, b4⟩ := c
  simp only at HM HLC2 HR4 HE ⊢
  obtain rfl : m'' = 1 := HM.out
  rw [show ((1 : Nat) : Int) = 1 from rfl]
  have HT4 := Kp.mk (rcount_any g w4 l4 b4 50 HR4.out (by omega))
  have HLC3 := Kp.mk (count_len l4 b4 50)
  have HMC := Kp.mk (count_most l4 b4 50 (by omega))
  clear HM
  go_wp2_with fail
  refine HT4.out.mono ?_
  rintro e w7 ⟨ho7, rfl, hr7⟩
  have hx72 := HX4.out.1.other ho7 HR4.out (by decide)
  have hx74 := HX4.out.2.other ho7 HR4.out (by decide)
  have HR7 := Kp.mk hr7
  have HO7 := Kp.mk (HO4.out.trans ho7)
  have HX7 := Kp.mk (And.intro hx72 hx74)
  clear ho7 hr7 hx72 hx74 HT4
  generalize count l4 b4 50 = c at *
  obtain ⟨m, l3', b3'⟩ := c
  simp only at HLC3 HMC HR7 HE ⊢
  have HL7 : Kp (l3'.length ≤ l.length) := ⟨Nat.le_trans HLC3.out (Nat.le_trans HLC2.out (Nat.le_trans HLC.out HLN1.out))⟩
  clear HLC HLC2 HLC3 HR3 HO3 HX3 HR4 HO4 HX4
  obtain ⟨l3, rfl⟩ : ∃ x, x = l3' := ⟨_, rfl⟩
  obtain ⟨b3, rfl⟩ : ∃ x, x = b3' := ⟨_, rfl⟩
  have hm50 : (m : Int) ≤ 50 := HMC.out
  go_wp2
  go_loopw [23] (fun i wr => ∃ (j : Nat) (is : List InD) (lj : List Int) (bj : Bool) (iv : Value), j ≤ m ∧ i = .int .i64 j ∧ Kp (is.length = j ∧ pMany pIn m l3 b3 = (is ++ (pMany pIn (m - j) lj bj).1, (pMany pIn (m - j) lj bj).2) ∧ OwnMany 36 47 (InO wr w.heap.size) wr w.heap.size iv is ∧ Box wr w.heap.size 26 zTx ∧ Box wr G4 26 #[.int .u32 (n : Int), iv, .slice none 0 0, .int .u32 0] ∧ Only g w wr ∧ Rd wr g lj bj ∧ lj.length ≤ l.length)) (fun i _ => m - (intOf i).toNat)
  case atStart => exact ⟨0, [], l3, b3, _, Nat.zero_le _, rfl, ⟨rfl, by simp, OwnMany.nil _ _ _ _ _, HX7.out.1, HX7.out.2, HO7.out, HR7.out, HL7.out⟩⟩
  case round =>
    obtain ⟨j, is, lj, bj, iv, hj, rfl, ⟨hlen, hp, hown, hx2, hx4, ho, hrd, hlj⟩⟩ := hrel
    by_cases hjm : j < m
    · have hjm' : (j : Int) < (m : Int) := by omega
      have HJ : Kp (j < m ∧ is.length = j) := ⟨hjm, hlen⟩
      have HP := Kp.mk (pMany_step hjm hp)
      have HOWN := Kp.mk hown
      have HX := Kp.mk (And.intro hx2 hx4)
      have HO := Kp.mk ho
      have HRD := Kp.mk hrd
      have HLJ := Kp.mk hlj
      obtain ⟨Ai, ci, rfl⟩ := hown.slice
      have hbd : Below wr.heap.size wr wr.drew := (Below.refl _ _).drew
      have HT := Kp.mk (nextIn_any g wr.drew lj bj (hrd.below hbd) (by have := HBL.out; omega))
      have hcd := (hx4.below hbd).cell 1
      have HBD := Kp.mk hbd
      clear hlen hp hown hx2 hx4 ho hrd hlj hbd hjm
      generalize hXX : pIn lj bj = X at *
      go_wp2_with fail
      go_region_law (first | (go_simp; go_at_call 62; refine HT.out.mono ?_; rintro e w5 ⟨cs, rfl, ho5, hin5, hr5⟩; have hx54 := (HX.out.2.below HBD.out).other ho5 (HRD.out.below HBD.out) (by decide); have hc5 := hx54.cell 1; have hc55 := (hx54.below ((Below.refl _ _).alloc (Nat.le_refl _) (.cells cs.toArray 47))).cell 1; have hcl := hin5.len; have hfold := fold_in cs hcl; obtain ⟨crd, hbr⟩ := (HRD.out.below HBD.out).box; have hka : Keeps [5, 27, 47] wr w5 := (Keeps.of_below _ HBD.out).trans (Keeps.of_only ho5 hbr (by decide)); have hkb : Keeps [5, 27, 47] w5 (w5.alloc (.cells cs.toArray 47)) := Keeps.of_below _ ((Below.refl _ _).alloc (Nat.le_refl _) _); have HOW := Kp.mk (OwnMany.turn HOWN.out (hka.trans hkb) (by decide) (Nat.le_refl _) (fun cs d h => InO.turn h (hka.trans hkb) (by decide) (by decide) (Nat.le_refl _))); have HIN := Kp.mk (hin5.turn hkb (by decide) (by decide) HO.out.size); have HO6 := Kp.mk (((HO.out.trans (Only.of_below HBD.out)).trans ho5).alloc (.cells cs.toArray 47)); have HONE := Kp.mk hin5.inR.one; have HR5 := Kp.mk hr5; have HX5 := Kp.mk (And.intro ((HX.out.1.below HBD.out).other ho5 (HRD.out.below HBD.out) (by decide)) hx54); clear hka hkb hbr ho5 hin5 hr5 hx54) | (refine step_append_many (R := fun W => InO W w.heap.size) rfl (.tmp 26) (.tmp 29) 23 rfl w.heap.size i1 _ 96 Try.underlying23 hi1 hz1 hs1 hb1 (by rfl) (by decide) _ is rfl HOW.out w5.heap.size 1 cs X.1 rfl (Box.fresh w5 _ _) hcl HIN.out HONE.out (by have := HJ.out; omega) (by decide) (Nat.le_trans HO6.out.size (Nat.le_refl _)) [5, 27, 26, 69] (by decide) (fun w' cs d hk h => InO.turn h hk (by decide) (by decide) (Nat.le_refl _)) ?_; intro v6 w6 hm6 hg6 hk6; obtain ⟨IS, hIS⟩ : ∃ IS, is ++ [X.1] = IS := ⟨_, rfl⟩; rw [hIS] at hm6; obtain ⟨A6, k6, rfl⟩ := hm6.slice; have hx62 := Keeps.box hk6 (by decide) (HX5.out.1.below ((Below.refl _ _).alloc (Nat.le_refl _) (.cells cs.toArray 47))); have hx64 := Keeps.box hk6 (by decide) (HX5.out.2.below ((Below.refl _ _).alloc (Nat.le_refl _) (.cells cs.toArray 47))); have c6 := hx64.cell 1; have f6 := hx64.warm 1))
      all_goals
        have hk7 : Keeps [5, 27, 47, 69] w6 (w6.setCell ⟨G4, 1, none⟩ (.slice A6 IS.length k6)) := Keeps.of_set hx64 (by decide) 1 _
        have HEND : Kp (IS.length = j + 1 ∧ pMany pIn m l3 b3 = (IS ++ (pMany pIn (m - (j + 1)) X.2.1 X.2.2).1, (pMany pIn (m - (j + 1)) X.2.1 X.2.2).2) ∧ OwnMany 36 47 (InO (w6.setCell ⟨G4, 1, none⟩ (.slice A6 IS.length k6)) w.heap.size) (w6.setCell ⟨G4, 1, none⟩ (.slice A6 IS.length k6)) w.heap.size (.slice A6 IS.length k6) IS ∧ Box (w6.setCell ⟨G4, 1, none⟩ (.slice A6 IS.length k6)) w.heap.size 26 zTx ∧ Box (w6.setCell ⟨G4, 1, none⟩ (.slice A6 IS.length k6)) G4 26 #[.int .u32 (n : Int), .slice A6 IS.length k6, .slice none 0 0, .int .u32 0] ∧ Only g w (w6.setCell ⟨G4, 1, none⟩ (.slice A6 IS.length k6)) ∧ Rd (w6.setCell ⟨G4, 1, none⟩ (.slice A6 IS.length k6)) g X.2.1 X.2.2 ∧ X.2.1.length ≤ l.length) := by
          constructor
          have hG := HG4.out
          refine ⟨by rw [← hIS, List.length_append, HJ.out.2]; rfl, by rw [← hIS]; exact HP.out, OwnMany.turn hm6 hk7 (by decide) (Nat.le_refl _) (fun cs d h => InO.turn h hk7 (by decide) (by decide) (Nat.le_refl _)), hx62.keep ((Only.refl G4 w6).set 1 _) (by omega), hx64.set 1 _, ?_, ?_, ?_⟩
          · obtain ⟨css, hrow, _⟩ := HOW.out
            exact (HO6.out.grown hrow (Nat.le_refl _) hg6).setNew (by omega) 1 _
          · exact ((HR5.out.below ((Below.refl _ _).alloc (Nat.le_refl _) _)).keeps hk6 (by decide) (by decide)).keeps hk7 (by decide) (by decide)
          · rw [← hXX]; exact Nat.le_trans (pIn_len _ _) HLJ.out
        clear hk7 hm6 hg6 hk6 hx62 hx64 c6 f6 hIS hcl hfold hcd
        go_wp2
        exact ⟨⟨j + 1, IS, _, _, _, by have := HJ.out; omega, by go_num, HEND⟩, by simp [intOf]; have := HJ.out; omega⟩
    · obtain rfl : m = j := by omega
      have HPI := Kp.mk (pMany_end hp)
      obtain ⟨w8, rfl⟩ : ∃ w8 : World, w8 = wr := ⟨_, rfl⟩
      have HT8 := Kp.mk (rcount_any g w8 lj bj 50 hrd (by omega))
      have HI8 := Kp.mk hown
      have HX8 := Kp.mk (And.intro hx2 hx4)
      have HO8 := Kp.mk ho
      have HR8 := Kp.mk hrd
      have HL8 := Kp.mk (Nat.le_trans (count_len lj bj 50) hlj)
      have HMC2 := Kp.mk (count_most lj bj 50 (by omega))
      have HIL : Kp (is.length = m) := ⟨hlen⟩
      obtain ⟨Ai, ci, rfl⟩ := hown.slice
      clear hlen hp hown hx2 hx4 ho hrd hlj hjm
      go_wp2_with fail
      refine HT8.out.mono ?_
      rintro e w9 ⟨ho9, rfl, hr9⟩
      obtain ⟨crd, hbr⟩ := HR8.out.box
      have hk9 : Keeps [5, 27, 47] w8 w9 := Keeps.of_only ho9 hbr (by decide)
      have HI9 := Kp.mk (OwnMany.turn HI8.out hk9 (by decide) (Nat.le_refl _) (fun cs d h => InO.turn h hk9 (by decide) (by decide) (Nat.le_refl _)))
      have HX9 := Kp.mk (And.intro (HX8.out.1.other ho9 HR8.out (by decide)) (HX8.out.2.other ho9 HR8.out (by decide)))
      have HO9 := Kp.mk (HO8.out.trans ho9)
      have HR9 := Kp.mk hr9
      clear ho9 hr9 hbr hk9 HT8
      have HOC : Kp (count lj bj 50 = ((count lj bj 50).1, (count lj bj 50).2.1, (count lj bj 50).2.2)) := ⟨rfl⟩
      generalize hcc : count lj bj 50 = c at *
      obtain ⟨m2, l9, b9⟩ := c
      simp only at HL8 HMC2 HR9 ⊢
      have HCC := Kp.mk hcc
      clear hcc HOC
      have hm250 : (m2 : Int) ≤ 50 := HMC2.out
      go_wp2
      go_loopw [35] (fun i wr => ∃ (j : Nat) (os : List OutD) (lk : List Int) (bk : Bool) (ov : Value), j ≤ m2 ∧ i = .int .i64 j ∧ Kp (os.length = j ∧ pMany pOut m2 l9 b9 = (os ++ (pMany pOut (m2 - j) lk bk).1, (pMany pOut (m2 - j) lk bk).2) ∧ OwnMany 2 51 (OutO wr w.heap.size) wr w.heap.size ov os ∧ OwnMany 36 47 (InO wr w.heap.size) wr w.heap.size (.slice Ai is.length ci) is ∧ Box wr w.heap.size 26 zTx ∧ Box wr G4 26 #[.int .u32 (n : Int), .slice Ai is.length ci, ov, .int .u32 0] ∧ Only g w wr ∧ Rd wr g lk bk ∧ lk.length ≤ l.length)) (fun i _ => m2 - (intOf i).toNat)
      case atStart => exact ⟨0, [], l9, b9, _, Nat.zero_le _, rfl, ⟨rfl, by simp, OwnMany.nil _ _ _ _ _, HI9.out, HX9.out.1, HX9.out.2, HO9.out, HR9.out, HL8.out⟩⟩
      case round =>
        obtain ⟨j, os, lk, bk, ov, hj2, rfl, ⟨hlen, hp, hown, hins, hx2, hx4, ho, hrd, hlj⟩⟩ := hrel
        by_cases hjm : j < m2
        · have hjm' : (j : Int) < (m2 : Int) := by omega
          have HJ : Kp (j < m2 ∧ os.length = j) := ⟨hjm, hlen⟩
          have HP := Kp.mk (pMany_step hjm hp)
          have HOWN := Kp.mk hown
          have HINS := Kp.mk hins
          have HX := Kp.mk (And.intro hx2 hx4)
          have HO := Kp.mk ho
          have HRD := Kp.mk hrd
          have HLJ := Kp.mk hlj
          obtain ⟨Ao, co, rfl⟩ := hown.slice
          have hbd : Below wr.heap.size wr wr.drew := (Below.refl _ _).drew
          have HT := Kp.mk (nextOut_any g wr.drew lk bk (hrd.below hbd) (by have := HBL.out; omega))
          have hcd := (hx4.below hbd).cell 2
          have HBD := Kp.mk hbd
          clear hlen hp hown hins hx2 hx4 ho hrd hlj hbd hjm
          generalize hXX : pOut lk bk = X at *
          go_wp2_with fail
          go_region_law (first | (go_simp; go_at_call 63; refine HT.out.mono ?_; rintro e w5 ⟨cs, rfl, ho5, hin5, hr5⟩; have hx54 := (HX.out.2.below HBD.out).other ho5 (HRD.out.below HBD.out) (by decide); have hc5 := hx54.cell 2; have hc55 := (hx54.below ((Below.refl _ _).alloc (Nat.le_refl _) (.cells cs.toArray 51))).cell 2; have hcl := hin5.len; have hfold := fold_out cs hcl; obtain ⟨crd, hbr⟩ := (HRD.out.below HBD.out).box; have hka : Keeps [5, 27, 47, 51] wr w5 := (Keeps.of_below _ HBD.out).trans (Keeps.of_only ho5 hbr (by decide)); have hkb : Keeps [5, 27, 47, 51] w5 (w5.alloc (.cells cs.toArray 51)) := Keeps.of_below _ ((Below.refl _ _).alloc (Nat.le_refl _) _); have HOW := Kp.mk (OwnMany.turn HOWN.out (hka.trans hkb) (by decide) (Nat.le_refl _) (fun cs d h => OutO.turn h (hka.trans hkb) (by decide) (Nat.le_refl _))); have HIN5 := Kp.mk (OwnMany.turn HINS.out (hka.trans hkb) (by decide) (Nat.le_refl _) (fun cs d h => InO.turn h (hka.trans hkb) (by decide) (by decide) (Nat.le_refl _))); have HIN := Kp.mk (hin5.turn hkb (by decide) HO.out.size); have HO6 := Kp.mk (((HO.out.trans (Only.of_below HBD.out)).trans ho5).alloc (.cells cs.toArray 51)); have HONE := Kp.mk hin5.outR.one; have HR5 := Kp.mk hr5; have HX5 := Kp.mk (And.intro ((HX.out.1.below HBD.out).other ho5 (HRD.out.below HBD.out) (by decide)) hx54); clear hka hkb hbr ho5 hin5 hr5 hx54) | (refine step_append_many (R := fun W => OutO W w.heap.size) rfl (.tmp 38) (.tmp 41) 24 rfl w.heap.size i2 _ 32 Try.underlying24 hi2 hz2 hs2 hb2' (by rfl) (by decide) _ os rfl HOW.out w5.heap.size 1 cs X.1 rfl (Box.fresh w5 _ _) hcl HIN.out HONE.out (by have := HJ.out; omega) (by decide) (Nat.le_trans HO6.out.size (Nat.le_refl _)) [5, 27, 47, 26, 69] (by decide) (fun w' cs d hk h => OutO.turn h hk (by decide) (Nat.le_refl _)) ?_; intro v6 w6 hm6 hg6 hk6; obtain ⟨IS, hIS⟩ : ∃ IS, os ++ [X.1] = IS := ⟨_, rfl⟩; rw [hIS] at hm6; obtain ⟨A6, k6, rfl⟩ := hm6.slice; have hx62 := Keeps.box hk6 (by decide) (HX5.out.1.below ((Below.refl _ _).alloc (Nat.le_refl _) (.cells cs.toArray 51))); have hx64 := Keeps.box hk6 (by decide) (HX5.out.2.below ((Below.refl _ _).alloc (Nat.le_refl _) (.cells cs.toArray 51))); have c6 := hx64.cell 2; have f6 := hx64.warm 2))
          all_goals
            have hk7 : Keeps [5, 27, 47, 51, 69] w6 (w6.setCell ⟨G4, 2, none⟩ (.slice A6 IS.length k6)) := Keeps.of_set hx64 (by decide) 2 _
            have HEND : Kp (IS.length = j + 1 ∧ pMany pOut m2 l9 b9 = (IS ++ (pMany pOut (m2 - (j + 1)) X.2.1 X.2.2).1, (pMany pOut (m2 - (j + 1)) X.2.1 X.2.2).2) ∧ OwnMany 2 51 (OutO (w6.setCell ⟨G4, 2, none⟩ (.slice A6 IS.length k6)) w.heap.size) (w6.setCell ⟨G4, 2, none⟩ (.slice A6 IS.length k6)) w.heap.size (.slice A6 IS.length k6) IS ∧ OwnMany 36 47 (InO (w6.setCell ⟨G4, 2, none⟩ (.slice A6 IS.length k6)) w.heap.size) (w6.setCell ⟨G4, 2, none⟩ (.slice A6 IS.length k6)) w.heap.size (.slice Ai is.length ci) is ∧ Box (w6.setCell ⟨G4, 2, none⟩ (.slice A6 IS.length k6)) w.heap.size 26 zTx ∧ Box (w6.setCell ⟨G4, 2, none⟩ (.slice A6 IS.length k6)) G4 26 #[.int .u32 (n : Int), .slice Ai is.length ci, .slice A6 IS.length k6, .int .u32 0] ∧ Only g w (w6.setCell ⟨G4, 2, none⟩ (.slice A6 IS.length k6)) ∧ Rd (w6.setCell ⟨G4, 2, none⟩ (.slice A6 IS.length k6)) g X.2.1 X.2.2 ∧ X.2.1.length ≤ l.length) := by
              constructor
              have hG := HG4.out
              refine ⟨by rw [← hIS, List.length_append, HJ.out.2]; rfl, by rw [← hIS]; exact HP.out, OwnMany.turn hm6 hk7 (by decide) (Nat.le_refl _) (fun cs d h => OutO.turn h hk7 (by decide) (Nat.le_refl _)), OwnMany.turn HIN5.out (Keeps.trans (ts := [5, 27, 47]) (hk6.sub (by decide)) (hk7.sub (by decide))) (by decide) (Nat.le_refl _) (fun cs d h => InO.turn h (Keeps.trans (ts := [5, 27, 47]) (hk6.sub (by decide)) (hk7.sub (by decide))) (by decide) (by decide) (Nat.le_refl _)), hx62.keep ((Only.refl G4 w6).set 2 _) (by omega), hx64.set 2 _, ?_, ?_, ?_⟩
              · obtain ⟨css, hrow, _⟩ := HOW.out
                exact (HO6.out.grown hrow (Nat.le_refl _) hg6).setNew (by omega) 2 _
              · exact ((HR5.out.below ((Below.refl _ _).alloc (Nat.le_refl _) _)).keeps hk6 (by decide) (by decide)).keeps hk7 (by decide) (by decide)
              · rw [← hXX]; exact Nat.le_trans (pOut_len _ _) HLJ.out
            clear hk7 hm6 hg6 hk6 hx62 hx64 c6 f6 hIS hcl hfold hcd
            go_wp2
            exact ⟨⟨j + 1, IS, _, _, _, by have := HJ.out; omega, by go_num, HEND⟩, by simp [intOf]; have := HJ.out; omega⟩
        · obtain rfl : m2 = j := by omega
          have HPO := Kp.mk (pMany_end hp)
          obtain ⟨wA, rfl⟩ : ∃ wA : World, wA = wr := ⟨_, rfl⟩
          have HOA := Kp.mk hown
          have HIA := Kp.mk hins
          have HXA := Kp.mk (And.intro hx2 hx4)
          have HNA := Kp.mk ho
          have HRA := Kp.mk hrd
          have HLA := Kp.mk hlj
          obtain ⟨Ao, co, rfl⟩ := hown.slice
          clear hlen hp hown hins hx2 hx4 ho hrd hlj hjm
          have hin50 : (is.length : Int) ≤ 50 := by have := HIL.out; omega
          have cA := HXA.out.2.cell 1
          go_wp2
          clear cA
          go_loopw [7, 49] (fun _ i wr => ∃ (j : Nat) (xs : List (List (List Int))) (lq : List Int) (bq : Bool), j ≤ is.length ∧ i = .int .i64 j ∧ Kp (xs.length = j ∧ pMany pWit is.length lk bk = (xs ++ (pMany pWit (is.length - j) lq bq).1, (pMany pWit (is.length - j) lq bq).2) ∧ OwnMany 36 47 (InO wr w.heap.size) wr w.heap.size (.slice Ai is.length ci) (setWits is xs) ∧ OwnMany 2 51 (OutO wr w.heap.size) wr w.heap.size (.slice Ao os.length co) os ∧ Box wr w.heap.size 26 zTx ∧ Box wr G4 26 #[.int .u32 (n : Int), .slice Ai is.length ci, .slice Ao os.length co, .int .u32 0] ∧ Only g w wr ∧ Rd wr g lq bq ∧ lq.length ≤ l.length)) (fun _ i _ => is.length - (intOf i).toNat)
          case atStart => exact ⟨0, [], lk, bk, Nat.zero_le _, rfl, ⟨rfl, by simp, by rw [setWits_nil]; exact HIA.out, HOA.out, HXA.out.1, HXA.out.2, HNA.out, HRA.out, HLA.out⟩⟩
          case round =>
            obtain ⟨j, xs, lq, bq, hj3, rfl, ⟨hlen, hp, hown, houts, hx2, hx4, ho, hrd, hlj⟩⟩ := hrel
            by_cases hjm : j < is.length
            · have hjm' : (j : Int) < (is.length : Int) := by omega
              have HJ : Kp (j < is.length ∧ xs.length = j) := ⟨hjm, hlen⟩
              have HP := Kp.mk (pMany_step hjm hp)
              have HOWN := Kp.mk hown
              have HOUTS := Kp.mk houts
              have HX := Kp.mk (And.intro hx2 hx4)
              have HO := Kp.mk ho
              have HRD := Kp.mk hrd
              have HLJ := Kp.mk hlj
              obtain ⟨gi, hgi, hrowlen⟩ : ∃ gi, Ai = some ⟨gi, 0, none⟩ ∧ ∀ (w' : World), Keeps [47] wr w' → (∃ u, w'.cell? ⟨gi, j * 36 + 35, none⟩ = some u) ∧ w'.frozen? ⟨gi, j * 36 + 35, none⟩ = false ∧ gi ≠ G4 ∧ gi ≠ w.heap.size ∧ w.heap.size ≤ gi := ownMany_cell hown hx2 hx4 (by decide) (by rw [setWits_len]; exact hjm)
              have hbd : Below wr.heap.size wr wr.drew := (Below.refl _ _).drew
              have HT := Kp.mk (nextWitness_any g wr.drew lq bq (hrd.below hbd) (by have := HBL.out; omega))
              have hcd := (hx4.below hbd).cell 1
              have HBD := Kp.mk hbd
              have HCI : Kp (is.length ≤ ci) := ⟨ownMany_cap hown (by rw [setWits_len])⟩
              have hci := HCI.out
              have HROWL := Kp.mk hrowlen
              clear hlen hp hown houts hx2 hx4 ho hrd hlj hbd hjm hrowlen
              subst hgi
              generalize hXX : pWit lq bq = X at *
              go_wp2_with fail
              go_region_held3 (fun W => W.cell? ⟨G4, 1, none⟩ = some (.slice (some ⟨gi, 0, none⟩) is.length ci)) (first | exact hcd | assumption) (first | (go_at_call 64; refine HT.out.mono ?_; rintro e w5 ⟨v5, rfl, ho5, hv5, hr5⟩; have hx54 := (HX.out.2.below HBD.out).other ho5 (HRD.out.below HBD.out) (by decide); have hc5 := hx54.cell 1; obtain ⟨crd, hbr⟩ := (HRD.out.below HBD.out).box; have hka : Keeps [5, 27, 47, 51] wr w5 := (Keeps.of_below _ HBD.out).trans (Keeps.of_only ho5 hbr (by decide)); obtain ⟨⟨u5, hu5⟩, hf5, hne4, hne2, hge⟩ := HROWL.out w5 (hka.sub (by decide)); obtain ⟨A5, c5, rfl⟩ := hv5.slice; have hS5 : (w5.setCell ⟨gi, j * 36 + 35, none⟩ (.slice A5 X.1.length c5)).cell? ⟨G4, 1, none⟩ = some (.slice (some ⟨gi, 0, none⟩) is.length ci) := (hx54.keep ((Only.refl gi w5).set (j * 36 + 35) _) (fun e => hne4 e.symm)).cell 1))
              have hk7 : Keeps [5, 27, 51, 69] w5 (w5.setCell ⟨gi, j * 36 + 35, none⟩ (.slice A5 X.1.length c5)) := ownMany_set_keeps HOWN.out hka (by decide) (by decide) _ _
              have HEND : Kp ((xs ++ [X.1]).length = j + 1 ∧ pMany pWit is.length lk bk = ((xs ++ [X.1]) ++ (pMany pWit (is.length - (j + 1)) X.2.1 X.2.2).1, (pMany pWit (is.length - (j + 1)) X.2.1 X.2.2).2) ∧ OwnMany 36 47 (InO (w5.setCell ⟨gi, j * 36 + 35, none⟩ (.slice A5 X.1.length c5)) w.heap.size) (w5.setCell ⟨gi, j * 36 + 35, none⟩ (.slice A5 X.1.length c5)) w.heap.size (.slice (some ⟨gi, 0, none⟩) is.length ci) (setWits is (xs ++ [X.1])) ∧ OwnMany 2 51 (OutO (w5.setCell ⟨gi, j * 36 + 35, none⟩ (.slice A5 X.1.length c5)) w.heap.size) (w5.setCell ⟨gi, j * 36 + 35, none⟩ (.slice A5 X.1.length c5)) w.heap.size (.slice Ao os.length co) os ∧ Box (w5.setCell ⟨gi, j * 36 + 35, none⟩ (.slice A5 X.1.length c5)) w.heap.size 26 zTx ∧ Box (w5.setCell ⟨gi, j * 36 + 35, none⟩ (.slice A5 X.1.length c5)) G4 26 #[.int .u32 (n : Int), .slice (some ⟨gi, 0, none⟩) is.length ci, .slice Ao os.length co, .int .u32 0] ∧ Only g w (w5.setCell ⟨gi, j * 36 + 35, none⟩ (.slice A5 X.1.length c5)) ∧ Rd (w5.setCell ⟨gi, j * 36 + 35, none⟩ (.slice A5 X.1.length c5)) g X.2.1 X.2.2 ∧ X.2.1.length ≤ l.length) := by
                constructor
                have hkO : Keeps [5, 51] wr (w5.setCell ⟨gi, j * 36 + 35, none⟩ (.slice A5 X.1.length c5)) := (hka.sub (by decide)).trans (hk7.sub (by decide))
                refine ⟨by rw [List.length_append, HJ.out.2]; rfl, HP.out, ?_, OwnMany.turn HOUTS.out hkO (by decide) (Nat.le_refl _) (fun cs d h => OutO.turn h hkO (by decide) (Nat.le_refl _)), ((HX.out.1.below HBD.out).other ho5 (HRD.out.below HBD.out) (by decide)).keep ((Only.refl gi w5).set (j * 36 + 35) _) (fun e => hne2 e.symm), hx54.keep ((Only.refl gi w5).set (j * 36 + 35) _) (fun e => hne4 e.symm), ((HO.out.trans (Only.of_below HBD.out)).trans ho5).setNew hge (j * 36 + 35) _, hr5.keeps hk7 (by decide) (by decide), ?_⟩
                · rw [setWits_snoc is xs X.1 (by rw [HJ.out.2]; exact HJ.out.1), HJ.out.2]
                  exact ownMany_setWit (OwnMany.turn HOWN.out hka (by decide) (Nat.le_refl _) (fun cs d h => InO.turn h hka (by decide) (by decide) (Nat.le_refl _))) (by rw [setWits_len]; exact HJ.out.1) (rows_turn hv5 (Keeps.refl [5, 27] _) (by decide) (by decide) ((HO.out.trans (Only.of_below HBD.out)).size))
                · rw [← hXX]; exact Nat.le_trans (pWit_len _ _) HLJ.out
              clear hk7 hka hbr ho5 hv5 hr5 hx54 hc5 hu5 hf5 hne4 hne2 hge hS5 hcd
              go_wp2
              exact ⟨⟨j + 1, _, _, _, by have := HJ.out; omega, by go_num, HEND⟩, by simp [intOf]; have := HJ.out; omega⟩
            · obtain rfl : j = is.length := by omega
              have HPW := Kp.mk (pMany_end hp)
              obtain ⟨wQ, rfl⟩ : ∃ wQ : World, wQ = wr := ⟨_, rfl⟩
              have HIQ := Kp.mk hown
              have HOQ := Kp.mk houts
              have HXQ := Kp.mk (And.intro hx2 hx4)
              have HNQ := Kp.mk ho
              have HRQ := Kp.mk hrd
              clear hlen hp hown houts hx2 hx4 ho hrd hlj hjm
              obtain ⟨T, hT⟩ : ∃ T, (⟨n, (setWits is xs), os, (num lq bq 4).1⟩ : TxD) = T := ⟨_, rfl⟩
              have HTA := Kp.mk (rsmall_any g wQ lq bq HRQ.out)
              have HLTk := Kp.mk (num_lt lq HRQ.out.bys bq 4)
              go_wp2_with fail
              refine HTA.out.mono ?_
              rintro e wB ⟨hoB, rfl, hrB⟩
              have hfinal : pTx l bad = ((T, !(num lq bq 4).2.2 && (mayB T && (witT T == true))), (num lq bq 4).2) := by
                rw [← hT, HE.out]
                simp [pBody, HPI.out, HCC.out, HPO.out, HPW.out]
              generalize (num lq bq 4).1 = k at *
              generalize hB0 : (num lq bq 4).2 = rB at *
              obtain ⟨lB, bB⟩ := rB
              obtain ⟨crd, hbr⟩ := HRQ.out.box
              have hkB : Keeps [5, 27, 47, 51] wQ wB := Keeps.of_only hoB hbr (by decide)
              have hxB2 := HXQ.out.1.other hoB HRQ.out (by decide)
              have hxB4 := HXQ.out.2.other hoB HRQ.out (by decide)
              have hkC : Keeps [5, 27, 47, 51, 69] wB (wB.setCell ⟨G4, 3, none⟩ (.int .u32 (k : Int))) := Keeps.of_set hxB4 (by decide) 3 _
              have hxC4 : Box (wB.setCell ⟨G4, 3, none⟩ (.int .u32 (k : Int))) G4 26 #[.int .u32 (n : Int), .slice Ai is.length ci, .slice Ao os.length co, .int .u32 (k : Int)] := hxB4.set 3 _
              have hxC2 : Box (wB.setCell ⟨G4, 3, none⟩ (.int .u32 (k : Int))) w.heap.size 26 zTx := hxB2.keep ((Only.refl G4 wB).set 3 _) (by have := HG4.out; omega)
              have hrC : Rd (wB.setCell ⟨G4, 3, none⟩ (.int .u32 (k : Int))) g lB bB := hrB.keeps hkC (by decide) (by decide)
              have hoC : Only g w (wB.setCell ⟨G4, 3, none⟩ (.int .u32 (k : Int))) := (HNQ.out.trans hoB).setNew (by have := HG4.out; omega) 3 _
              have hkBC := hkB.trans (hkC.sub (by decide))
              have htx : TxO (wB.setCell ⟨G4, 3, none⟩ (.int .u32 (k : Int))) w.heap.size (.agg #[.int .u32 (n : Int), .slice Ai is.length ci, .slice Ao os.length co, .int .u32 (k : Int)]) T := by
                have h256 : (256 : Nat) ^ 4 = 4294967296 := by decide
                have h1 := HLT1.out
                have h2 := HLTk.out
                rw [h256] at h1 h2
                rw [← hT]
                exact ⟨_, _, rfl, h1, h2, OwnMany.turn HIQ.out hkBC (by decide) (Nat.le_refl _) (fun cs d h => InO.turn h hkBC (by decide) (by decide) (Nat.le_refl _)), OwnMany.turn HOQ.out hkBC (by decide) (Nat.le_refl _) (fun cs d h => OutO.turn h hkBC (by decide) (Nat.le_refl _))⟩
              have cB := hxB4.cell 3
              have fB := hxB4.warm 3
              have HFIN := Kp.mk hfinal
              have HTX := Kp.mk htx
              have HXC := Kp.mk (And.intro hxC2 hxC4)
              have HRC := Kp.mk hrC
              have HOC := Kp.mk hoC
              clear hoB hrB hfinal hT hB0 hbr hkB hxB2 hxB4 hkC hxC4 hxC2 hrC hoC hkBC htx HTA
              go_wp2_with fail
              generalize wB.setCell ⟨G4, 3, none⟩ (.int .u32 (k : Int)) = wC at *
              clear cB fB
              have HM := Kp.mk (fun (W : World) (v : Value) (hv : TxR W v T) => may_any W v T hv)
              have HWI := Kp.mk (fun (W : World) (v : Value) (hv : TxR W v T) => witnessed_any W v T hv)
              have HOK := Kp.mk (fun (W : World) (hr : Rd W g lB bB) => ok_any g W lB bB hr)
              have HB : Kp (∀ W, Below wC.heap.size wC W → W.cell? ⟨G4, 0, none⟩ = some (.int .u32 (n : Int)) ∧ W.cell? ⟨G4, 1, none⟩ = some (.slice Ai is.length ci) ∧ W.cell? ⟨G4, 2, none⟩ = some (.slice Ao os.length co) ∧ W.cell? ⟨G4, 3, none⟩ = some (.int .u32 (k : Int))) := ⟨fun W hb => by
                have h := HXC.out.2.below hb
                exact ⟨h.cell 0, h.cell 1, h.cell 2, h.cell 3⟩⟩
              have HBS : Kp (∀ W, Below wC.heap.size wC W → (W.setRow w.heap.size #[.int .u32 (n : Int), .slice Ai is.length ci, .slice Ao os.length co, .int .u32 (k : Int)]).cell? ⟨G4, 0, none⟩ = some (.int .u32 (n : Int)) ∧ (W.setRow w.heap.size #[.int .u32 (n : Int), .slice Ai is.length ci, .slice Ao os.length co, .int .u32 (k : Int)]).cell? ⟨G4, 1, none⟩ = some (.slice Ai is.length ci) ∧ (W.setRow w.heap.size #[.int .u32 (n : Int), .slice Ai is.length ci, .slice Ao os.length co, .int .u32 (k : Int)]).cell? ⟨G4, 2, none⟩ = some (.slice Ao os.length co) ∧ (W.setRow w.heap.size #[.int .u32 (n : Int), .slice Ai is.length ci, .slice Ao os.length co, .int .u32 (k : Int)]).cell? ⟨G4, 3, none⟩ = some (.int .u32 (k : Int))) := ⟨fun W hb => by
                have h := (HXC.out.2.below hb).keep (setRow_grown W w.heap.size #[.int .u32 (n : Int), .slice Ai is.length ci, .slice Ao os.length co, .int .u32 (k : Int)]) (by have := HG4.out; omega)
                exact ⟨h.cell 0, h.cell 1, h.cell 2, h.cell 3⟩⟩
              have HX2 : Kp (∀ W, Below wC.heap.size wC W → W.heap[w.heap.size]? = some (.cells zTx 26 (0, 0))) := ⟨fun W hb => HXC.out.1.below hb⟩
              have HROW : Kp (∀ W, Below wC.heap.size wC W → (W.setRow w.heap.size #[.int .u32 (n : Int), .slice Ai is.length ci, .slice Ao os.length co, .int .u32 (k : Int)]).heap[w.heap.size]? = some (.cells #[.int .u32 (n : Int), .slice Ai is.length ci, .slice Ao os.length co, .int .u32 (k : Int)] 26 (0, 0))) := ⟨fun W hb => setRow_box (HXC.out.1.below hb) _⟩
              have HDONE : Kp (∀ W, Below wC.heap.size wC W → DecP g (pTx l bad) w (.returned (.tuple #[.agg #[.int .u32 (n : Int), .slice Ai is.length ci, .slice Ao os.length co, .int .u32 (k : Int)], .bool (!bB && (mayB T && (witT T == true)))])) (W.setRow w.heap.size #[.int .u32 (n : Int), .slice Ai is.length ci, .slice Ao os.length co, .int .u32 (k : Int)])) := ⟨fun W hb => by
                have hk1 : Keeps [5, 27, 47, 51, 69] wC W := Keeps.of_below _ hb
                have hk2 : Keeps [5, 27, 47, 51, 69] W (W.setRow w.heap.size #[.int .u32 (n : Int), .slice Ai is.length ci, .slice Ao os.length co, .int .u32 (k : Int)]) := Keeps.of_setRow (HXC.out.1.below hb) (by decide) _
                rw [HFIN.out]
                exact ⟨_, rfl, (HOC.out.trans (Only.of_below hb)).setRow (Nat.le_refl _) _, HTX.out.turn (hk1.trans hk2) (by decide) (by decide) (by decide) (by decide) (Nat.le_refl _), HRC.out.keeps (hk1.trans hk2) (by decide) (by decide)⟩⟩
              have HIT2 : Kp ((Try.prog.info? 26).map (·.size) = some 4) := ⟨by kernel_rfl⟩
              have hcd := HB.out wC.drew (Below.refl _ _).drew
              have HT0 := Kp.mk (HTX.out.txR)
              clear HFIN
              cases bB with
              | true =>
                have HD := Kp.mk (HDONE.out wC.drew (Below.refl _ _).drew)
                rw [show (!true && (mayB T && (witT T == true))) = false from rfl] at HD
                refine wp_region_noPanic ?_
                refine wp_region_held_drew (S := (fun W => W.cell? ⟨G4, 0, none⟩ = some (.int .u32 (n : Int)) ∧ W.cell? ⟨G4, 1, none⟩ = some (.slice Ai is.length ci) ∧ W.cell? ⟨G4, 2, none⟩ = some (.slice Ao os.length co) ∧ W.cell? ⟨G4, 3, none⟩ = some (.int .u32 (k : Int)))) (by kernel_rfl) ?_ (fun hHeld => ?_)
                · exact hcd
                refine wpAnyH_take (i := 0) (oi := ⟨some 63, _, _, _, _, _⟩) (v := ?_) rfl (by kernel_rfl) (by kernel_rfl) (by kernel_rfl) (fun _ _ _ h => h) (Or.inl ⟨by rfl, ?_⟩) hHeld ?_
                rotate_left
                · (intro wx hSw; (try dsimp only at hSw); go_simp; try with_reducible rfl)
                try simp only [Act.put, List.setIfInBounds_toArray, List.set_cons_zero, List.set_cons_succ]
                refine wpAnyH_take (i := 1) (oi := ⟨some 64, _, _, _, _, _⟩) (v := ?_) rfl (by kernel_rfl) (by kernel_rfl) (by kernel_rfl) (fun _ _ _ h => h) (Or.inl ⟨by rfl, ?_⟩) hHeld ?_
                rotate_left
                · (intro wx hSw; (try dsimp only at hSw); go_simp; try with_reducible rfl)
                try simp only [Act.put, List.setIfInBounds_toArray, List.set_cons_zero, List.set_cons_succ]
                refine wpAnyH_ready (rs := [2]) (by kernel_rfl) (by simp) (AllReadyH.cons (o := ⟨some 65, _, _, _, _, _⟩) rfl (fun K hK => ?_) AllReadyH.nil)
                go_simp
                refine (HOK.out wC.drew (HRC.out.below (Below.refl _ _).drew)).mono ?_
                rintro e wD ⟨rfl, rfl⟩
                refine hK.out _ _ ?_ (fun hHeld => ?_)
                · exact hcd
                clear hK K
                try simp only [Act.put, List.setIfInBounds_toArray, List.set_cons_zero, List.set_cons_succ]
                refine wpAnyH_take (i := 3) (oi := ⟨some 66, _, _, _, _, _⟩) (v := ?_) rfl (by kernel_rfl) (by kernel_rfl) (by kernel_rfl) (fun _ _ _ h => h) (Or.inl ⟨by rfl, ?_⟩) hHeld ?_
                rotate_left
                · (intro wx hSw; (try dsimp only at hSw); go_simp; try with_reducible rfl)
                try simp only [Act.put, List.setIfInBounds_toArray, List.set_cons_zero, List.set_cons_succ]
                refine wpAnyH_take (i := 4) (oi := ⟨some 67, _, _, _, _, _⟩) (v := undef) rfl (by kernel_rfl) (by kernel_rfl) (by kernel_rfl) (fun _ _ _ h => h) (Or.inr ⟨by rfl, rfl⟩) hHeld ?_
                try simp only [Act.put, List.setIfInBounds_toArray, List.set_cons_zero, List.set_cons_succ]
                refine wpAnyH_take (i := 5) (oi := ⟨some 68, _, _, _, _, _⟩) (v := undef) rfl (by kernel_rfl) (by kernel_rfl) (by kernel_rfl) (fun _ _ _ h => h) (Or.inr ⟨by rfl, rfl⟩) hHeld ?_
                try simp only [Act.put, List.setIfInBounds_toArray, List.set_cons_zero, List.set_cons_succ]
                refine wpAnyH_take (i := 6) (oi := ⟨some 69, _, _, _, _, _⟩) (v := ?_) rfl (by kernel_rfl) (by kernel_rfl) (by kernel_rfl) (fun _ _ _ h => h) (Or.inl ⟨by rfl, ?_⟩) hHeld ?_
                rotate_left
                · (intro wx hSw; (try dsimp only at hSw); go_simp; try with_reducible rfl)
                try simp only [Act.put, List.setIfInBounds_toArray, List.set_cons_zero, List.set_cons_succ]
                refine wpAnyH_take (i := 7) (oi := ⟨some 70, _, _, _, _, _⟩) (v := ?_) rfl (by kernel_rfl) (by kernel_rfl) (by kernel_rfl) (fun _ _ _ h => h) (Or.inl ⟨by rfl, ?_⟩) hHeld ?_
                rotate_left
                · (intro wx hSw; (try dsimp only at hSw); go_simp; try with_reducible rfl)
                try simp only [Act.put, List.setIfInBounds_toArray, List.set_cons_zero, List.set_cons_succ]
                refine wpAnyH_take (i := 8) (oi := ⟨some 71, _, _, _, _, _⟩) (v := undef) rfl (by kernel_rfl) (by kernel_rfl) (by kernel_rfl) (fun _ _ _ h => h) (Or.inr ⟨by rfl, rfl⟩) hHeld ?_
                try simp only [Act.put, List.setIfInBounds_toArray, List.set_cons_zero, List.set_cons_succ]
                refine wpAnyH_take (i := 9) (oi := ⟨some 72, _, _, _, _, _⟩) (v := undef) rfl (by kernel_rfl) (by kernel_rfl) (by kernel_rfl) (fun _ _ _ h => h) (Or.inr ⟨by rfl, rfl⟩) hHeld ?_
                try simp only [Act.put, List.setIfInBounds_toArray, List.set_cons_zero, List.set_cons_succ]
                refine wpAnyH_take (i := 10) (oi := ⟨some 73, _, _, _, _, _⟩) (v := undef) rfl (by kernel_rfl) (by kernel_rfl) (by kernel_rfl) (fun _ _ _ h => h) (Or.inr ⟨by rfl, rfl⟩) hHeld ?_
                try simp only [Act.put, List.setIfInBounds_toArray, List.set_cons_zero, List.set_cons_succ]
                refine wpAnyH_take (i := 11) (oi := ⟨some 74, _, _, _, _, _⟩) (v := undef) rfl (by kernel_rfl) (by kernel_rfl) (by kernel_rfl) (fun _ _ _ h => h) (Or.inr ⟨by rfl, rfl⟩) hHeld ?_
                try simp only [Act.put, List.setIfInBounds_toArray, List.set_cons_zero, List.set_cons_succ]
                refine wpAnyH_take (i := 12) (oi := ⟨some 75, _, _, _, _, _⟩) (v := ?_) rfl (by kernel_rfl) (by kernel_rfl) (by kernel_rfl) (fun _ _ _ h => h) (Or.inl ⟨by rfl, ?_⟩) hHeld ?_
                rotate_left
                · (intro wx hSw; (try dsimp only at hSw); go_simp; try with_reducible rfl)
                try simp only [Act.put, List.setIfInBounds_toArray, List.set_cons_zero, List.set_cons_succ]
                refine wpAnyH_ready (rs := [13]) (by kernel_rfl) (by simp) (AllReadyH.cons (o := ⟨none, _, _, _, _, _⟩) rfl (fun K hK => ?_) AllReadyH.nil)
                refine step_store_row rfl 26 (.tmp 2) (.tmp 63) rfl w.heap.size #[.int .u32 (n : Int), .slice Ai is.length ci, .slice Ao os.length co, .int .u32 (k : Int)] rfl rfl 26 zTx (HX2.out wC.drew (Below.refl _ _).drew) HIT2.out rfl (by simp [Value.oneCell']) ?_
                refine hK.out _ _ ?_ (fun hHeld => ?_)
                · exact HBS.out wC.drew (Below.refl _ _).drew
                clear hK K
                try simp only [Act.put, List.setIfInBounds_toArray, List.set_cons_zero, List.set_cons_succ]
                refine wpAnyH_take (i := 14) (oi := ⟨some 3, _, _, _, _, _⟩) (v := ?_) rfl (by kernel_rfl) (by kernel_rfl) (by kernel_rfl) (fun _ _ _ h => h) (Or.inl ⟨by rfl, ?_⟩) hHeld ?_
                rotate_left
                · (intro wx hSw; (try dsimp only at hSw); go_simp; try with_reducible rfl)
                try simp only [Act.put, List.setIfInBounds_toArray, List.set_cons_zero, List.set_cons_succ]
                refine wpAnyH_done (by kernel_rfl) ?_ _
                refine NoPanic.normal ?_
                go_wp2
                exact bodyPost_ret (results_cell_row2 (p := 2) (u := 3) (by rfl) _ _ w.heap.size 26 _ _ _ (.bool false) rfl rfl (HROW.out _ (Below.refl _ _).drew) Try.underlying26 rfl HIT2.out) rfl HD.out
              | false =>
                cases hm : mayB T with
                | false =>
                  have HMF : Kp (∀ (W : World), TxR W (.agg #[.int .u32 (n : Int), .slice Ai is.length ci, .slice Ao os.length co, .int .u32 (k : Int)]) T → Calls Try.prog 6 #[.agg #[.int .u32 (n : Int), .slice Ai is.length ci, .slice Ao os.length co, .int .u32 (k : Int)]] W (BoolP false W)) := ⟨fun W hv => by rw [← hm]; exact HM.out W _ hv⟩
                  have HDF : Kp (∀ W, Below wC.heap.size wC W → DecP g (pTx l bad) w (.returned (.tuple #[.agg #[.int .u32 (n : Int), .slice Ai is.length ci, .slice Ao os.length co, .int .u32 (k : Int)], .bool false])) (W.setRow w.heap.size #[.int .u32 (n : Int), .slice Ai is.length ci, .slice Ao os.length co, .int .u32 (k : Int)])) := ⟨fun W hb => by have h := HDONE.out W hb; rw [hm] at h; exact h⟩
                  clear hm
                  refine wp_region_noPanic ?_
                  refine wp_region_held_drew (S := (fun W => W.cell? ⟨G4, 0, none⟩ = some (.int .u32 (n : Int)) ∧ W.cell? ⟨G4, 1, none⟩ = some (.slice Ai is.length ci) ∧ W.cell? ⟨G4, 2, none⟩ = some (.slice Ao os.length co) ∧ W.cell? ⟨G4, 3, none⟩ = some (.int .u32 (k : Int)))) (by kernel_rfl) ?_ (fun hHeld => ?_)
                  · exact hcd
                  refine wpAnyH_take (i := 0) (oi := ⟨some 63, _, _, _, _, _⟩) (v := ?_) rfl (by kernel_rfl) (by kernel_rfl) (by kernel_rfl) (fun _ _ _ h => h) (Or.inl ⟨by rfl, ?_⟩) hHeld ?_
                  rotate_left
                  · (intro wx hSw; (try dsimp only at hSw); go_simp; try with_reducible rfl)
                  try simp only [Act.put, List.setIfInBounds_toArray, List.set_cons_zero, List.set_cons_succ]
                  refine wpAnyH_take (i := 1) (oi := ⟨some 64, _, _, _, _, _⟩) (v := ?_) rfl (by kernel_rfl) (by kernel_rfl) (by kernel_rfl) (fun _ _ _ h => h) (Or.inl ⟨by rfl, ?_⟩) hHeld ?_
                  rotate_left
                  · (intro wx hSw; (try dsimp only at hSw); go_simp; try with_reducible rfl)
                  try simp only [Act.put, List.setIfInBounds_toArray, List.set_cons_zero, List.set_cons_succ]
                  refine wpAnyH_ready (rs := [2]) (by kernel_rfl) (by simp) (AllReadyH.cons (o := ⟨some 65, _, _, _, _, _⟩) rfl (fun K hK => ?_) AllReadyH.nil)
                  go_simp
                  refine (HOK.out wC.drew (HRC.out.below (Below.refl _ _).drew)).mono ?_
                  rintro e wD ⟨rfl, rfl⟩
                  refine hK.out _ _ ?_ (fun hHeld => ?_)
                  · exact hcd
                  clear hK K
                  try simp only [Act.put, List.setIfInBounds_toArray, List.set_cons_zero, List.set_cons_succ]
                  refine wpAnyH_take (i := 3) (oi := ⟨some 66, _, _, _, _, _⟩) (v := ?_) rfl (by kernel_rfl) (by kernel_rfl) (by kernel_rfl) (fun _ _ _ h => h) (Or.inl ⟨by rfl, ?_⟩) hHeld ?_
                  rotate_left
                  · (intro wx hSw; (try dsimp only at hSw); go_simp; try with_reducible rfl)
                  try simp only [Act.put, List.setIfInBounds_toArray, List.set_cons_zero, List.set_cons_succ]
                  refine wpAnyH_take (i := 4) (oi := ⟨some 67, _, _, _, _, _⟩) (v := ?_) rfl (by kernel_rfl) (by kernel_rfl) (by kernel_rfl) (fun _ _ _ h => h) (Or.inl ⟨by rfl, ?_⟩) hHeld ?_
                  rotate_left
                  · (intro wx hSw; (try dsimp only at hSw); go_simp; try with_reducible rfl)
                  try simp only [Act.put, List.setIfInBounds_toArray, List.set_cons_zero, List.set_cons_succ]
                  refine wpAnyH_ready (rs := [5]) (by kernel_rfl) (by simp) (AllReadyH.cons (o := ⟨some 68, _, _, _, _, _⟩) rfl (fun K hK => ?_) AllReadyH.nil)
                  go_simp
                  refine (HMF.out wC.drew (HT0.out.below (Below.refl _ _).drew)).mono ?_
                  rintro e wD ⟨rfl, hbD⟩
                  have HBD : Kp (Below wC.heap.size wC wD) := ⟨(Below.refl wC.heap.size wC).drew.trans hbD⟩
                  clear hbD
                  refine hK.out _ _ ?_ (fun hHeld => ?_)
                  · exact HB.out _ HBD.out
                  clear hK K
                  try simp only [Act.put, List.setIfInBounds_toArray, List.set_cons_zero, List.set_cons_succ]
                  refine wpAnyH_take (i := 6) (oi := ⟨some 69, _, _, _, _, _⟩) (v := ?_) rfl (by kernel_rfl) (by kernel_rfl) (by kernel_rfl) (fun _ _ _ h => h) (Or.inl ⟨by rfl, ?_⟩) hHeld ?_
                  rotate_left
                  · (intro wx hSw; (try dsimp only at hSw); go_simp; try with_reducible rfl)
                  try simp only [Act.put, List.setIfInBounds_toArray, List.set_cons_zero, List.set_cons_succ]
                  refine wpAnyH_take (i := 7) (oi := ⟨some 70, _, _, _, _, _⟩) (v := ?_) rfl (by kernel_rfl) (by kernel_rfl) (by kernel_rfl) (fun _ _ _ h => h) (Or.inl ⟨by rfl, ?_⟩) hHeld ?_
                  rotate_left
                  · (intro wx hSw; (try dsimp only at hSw); go_simp; try with_reducible rfl)
                  try simp only [Act.put, List.setIfInBounds_toArray, List.set_cons_zero, List.set_cons_succ]
                  refine wpAnyH_take (i := 8) (oi := ⟨some 71, _, _, _, _, _⟩) (v := undef) rfl (by kernel_rfl) (by kernel_rfl) (by kernel_rfl) (fun _ _ _ h => h) (Or.inr ⟨by rfl, rfl⟩) hHeld ?_
                  try simp only [Act.put, List.setIfInBounds_toArray, List.set_cons_zero, List.set_cons_succ]
                  refine wpAnyH_take (i := 9) (oi := ⟨some 72, _, _, _, _, _⟩) (v := undef) rfl (by kernel_rfl) (by kernel_rfl) (by kernel_rfl) (fun _ _ _ h => h) (Or.inr ⟨by rfl, rfl⟩) hHeld ?_
                  try simp only [Act.put, List.setIfInBounds_toArray, List.set_cons_zero, List.set_cons_succ]
                  refine wpAnyH_take (i := 10) (oi := ⟨some 73, _, _, _, _, _⟩) (v := undef) rfl (by kernel_rfl) (by kernel_rfl) (by kernel_rfl) (fun _ _ _ h => h) (Or.inr ⟨by rfl, rfl⟩) hHeld ?_
                  try simp only [Act.put, List.setIfInBounds_toArray, List.set_cons_zero, List.set_cons_succ]
                  refine wpAnyH_take (i := 11) (oi := ⟨some 74, _, _, _, _, _⟩) (v := undef) rfl (by kernel_rfl) (by kernel_rfl) (by kernel_rfl) (fun _ _ _ h => h) (Or.inr ⟨by rfl, rfl⟩) hHeld ?_
                  try simp only [Act.put, List.setIfInBounds_toArray, List.set_cons_zero, List.set_cons_succ]
                  refine wpAnyH_take (i := 12) (oi := ⟨some 75, _, _, _, _, _⟩) (v := ?_) rfl (by kernel_rfl) (by kernel_rfl) (by kernel_rfl) (fun _ _ _ h => h) (Or.inl ⟨by rfl, ?_⟩) hHeld ?_
                  rotate_left
                  · (intro wx hSw; (try dsimp only at hSw); go_simp; try with_reducible rfl)
                  try simp only [Act.put, List.setIfInBounds_toArray, List.set_cons_zero, List.set_cons_succ]
                  refine wpAnyH_ready (rs := [13]) (by kernel_rfl) (by simp) (AllReadyH.cons (o := ⟨none, _, _, _, _, _⟩) rfl (fun K hK => ?_) AllReadyH.nil)
                  refine step_store_row rfl 26 (.tmp 2) (.tmp 63) rfl w.heap.size #[.int .u32 (n : Int), .slice Ai is.length ci, .slice Ao os.length co, .int .u32 (k : Int)] rfl rfl 26 zTx (HX2.out wD HBD.out) HIT2.out rfl (by simp [Value.oneCell']) ?_
                  refine hK.out _ _ ?_ (fun hHeld => ?_)
                  · exact HBS.out wD HBD.out
                  clear hK K
                  try simp only [Act.put, List.setIfInBounds_toArray, List.set_cons_zero, List.set_cons_succ]
                  refine wpAnyH_take (i := 14) (oi := ⟨some 3, _, _, _, _, _⟩) (v := ?_) rfl (by kernel_rfl) (by kernel_rfl) (by kernel_rfl) (fun _ _ _ h => h) (Or.inl ⟨by rfl, ?_⟩) hHeld ?_
                  rotate_left
                  · (intro wx hSw; (try dsimp only at hSw); go_simp; try with_reducible rfl)
                  try simp only [Act.put, List.setIfInBounds_toArray, List.set_cons_zero, List.set_cons_succ]
                  refine wpAnyH_done (by kernel_rfl) ?_ _
                  refine NoPanic.normal ?_
                  go_wp2
                  exact bodyPost_ret (results_cell_row2 (p := 2) (u := 3) (by rfl) _ _ w.heap.size 26 _ _ _ (.bool false) rfl rfl (HROW.out _ HBD.out) Try.underlying26 rfl HIT2.out) rfl (HDF.out _ HBD.out)
                | true =>
                  have HMF : Kp (∀ (W : World), TxR W (.agg #[.int .u32 (n : Int), .slice Ai is.length ci, .slice Ao os.length co, .int .u32 (k : Int)]) T → Calls Try.prog 6 #[.agg #[.int .u32 (n : Int), .slice Ai is.length ci, .slice Ao os.length co, .int .u32 (k : Int)]] W (BoolP true W)) := ⟨fun W hv => by rw [← hm]; exact HM.out W _ hv⟩
                  have HDF : Kp (∀ W, Below wC.heap.size wC W → DecP g (pTx l bad) w (.returned (.tuple #[.agg #[.int .u32 (n : Int), .slice Ai is.length ci, .slice Ao os.length co, .int .u32 (k : Int)], .bool (witT T == true)])) (W.setRow w.heap.size #[.int .u32 (n : Int), .slice Ai is.length ci, .slice Ao os.length co, .int .u32 (k : Int)])) := ⟨fun W hb => by have h := HDONE.out W hb; rw [hm] at h; exact h⟩
                  clear hm
                  generalize witT T = wt at *
                  refine wp_region_noPanic ?_
                  refine wp_region_held_drew (S := (fun W => W.cell? ⟨G4, 0, none⟩ = some (.int .u32 (n : Int)) ∧ W.cell? ⟨G4, 1, none⟩ = some (.slice Ai is.length ci) ∧ W.cell? ⟨G4, 2, none⟩ = some (.slice Ao os.length co) ∧ W.cell? ⟨G4, 3, none⟩ = some (.int .u32 (k : Int)))) (by kernel_rfl) ?_ (fun hHeld => ?_)
                  · exact hcd
                  refine wpAnyH_take (i := 0) (oi := ⟨some 63, _, _, _, _, _⟩) (v := ?_) rfl (by kernel_rfl) (by kernel_rfl) (by kernel_rfl) (fun _ _ _ h => h) (Or.inl ⟨by rfl, ?_⟩) hHeld ?_
                  rotate_left
                  · (intro wx hSw; (try dsimp only at hSw); go_simp; try with_reducible rfl)
                  try simp only [Act.put, List.setIfInBounds_toArray, List.set_cons_zero, List.set_cons_succ]
                  refine wpAnyH_take (i := 1) (oi := ⟨some 64, _, _, _, _, _⟩) (v := ?_) rfl (by kernel_rfl) (by kernel_rfl) (by kernel_rfl) (fun _ _ _ h => h) (Or.inl ⟨by rfl, ?_⟩) hHeld ?_
                  rotate_left
                  · (intro wx hSw; (try dsimp only at hSw); go_simp; try with_reducible rfl)
                  try simp only [Act.put, List.setIfInBounds_toArray, List.set_cons_zero, List.set_cons_succ]
                  refine wpAnyH_ready (rs := [2]) (by kernel_rfl) (by simp) (AllReadyH.cons (o := ⟨some 65, _, _, _, _, _⟩) rfl (fun K hK => ?_) AllReadyH.nil)
                  go_simp
                  refine (HOK.out wC.drew (HRC.out.below (Below.refl _ _).drew)).mono ?_
                  rintro e wD ⟨rfl, rfl⟩
                  refine hK.out _ _ ?_ (fun hHeld => ?_)
                  · exact hcd
                  clear hK K
                  try simp only [Act.put, List.setIfInBounds_toArray, List.set_cons_zero, List.set_cons_succ]
                  refine wpAnyH_take (i := 3) (oi := ⟨some 66, _, _, _, _, _⟩) (v := ?_) rfl (by kernel_rfl) (by kernel_rfl) (by kernel_rfl) (fun _ _ _ h => h) (Or.inl ⟨by rfl, ?_⟩) hHeld ?_
                  rotate_left
                  · (intro wx hSw; (try dsimp only at hSw); go_simp; try with_reducible rfl)
                  try simp only [Act.put, List.setIfInBounds_toArray, List.set_cons_zero, List.set_cons_succ]
                  refine wpAnyH_take (i := 4) (oi := ⟨some 67, _, _, _, _, _⟩) (v := ?_) rfl (by kernel_rfl) (by kernel_rfl) (by kernel_rfl) (fun _ _ _ h => h) (Or.inl ⟨by rfl, ?_⟩) hHeld ?_
                  rotate_left
                  · (intro wx hSw; (try dsimp only at hSw); go_simp; try with_reducible rfl)
                  try simp only [Act.put, List.setIfInBounds_toArray, List.set_cons_zero, List.set_cons_succ]
                  refine wpAnyH_ready (rs := [5]) (by kernel_rfl) (by simp) (AllReadyH.cons (o := ⟨some 68, _, _, _, _, _⟩) rfl (fun K hK => ?_) AllReadyH.nil)
                  go_simp
                  refine (HMF.out wC.drew (HT0.out.below (Below.refl _ _).drew)).mono ?_
                  rintro e wD ⟨rfl, hbD⟩
                  have HBD : Kp (Below wC.heap.size wC wD) := ⟨(Below.refl wC.heap.size wC).drew.trans hbD⟩
                  clear hbD
                  refine hK.out _ _ ?_ (fun hHeld => ?_)
                  · exact HB.out _ HBD.out
                  clear hK K
                  try simp only [Act.put, List.setIfInBounds_toArray, List.set_cons_zero, List.set_cons_succ]
                  refine wpAnyH_take (i := 6) (oi := ⟨some 69, _, _, _, _, _⟩) (v := ?_) rfl (by kernel_rfl) (by kernel_rfl) (by kernel_rfl) (fun _ _ _ h => h) (Or.inl ⟨by rfl, ?_⟩) hHeld ?_
                  rotate_left
                  · (intro wx hSw; (try dsimp only at hSw); go_simp; try with_reducible rfl)
                  try simp only [Act.put, List.setIfInBounds_toArray, List.set_cons_zero, List.set_cons_succ]
                  refine wpAnyH_take (i := 7) (oi := ⟨some 70, _, _, _, _, _⟩) (v := ?_) rfl (by kernel_rfl) (by kernel_rfl) (by kernel_rfl) (fun _ _ _ h => h) (Or.inl ⟨by rfl, ?_⟩) hHeld ?_
                  rotate_left
                  · (intro wx hSw; (try dsimp only at hSw); go_simp; try with_reducible rfl)
                  try simp only [Act.put, List.setIfInBounds_toArray, List.set_cons_zero, List.set_cons_succ]
                  refine wpAnyH_take (i := 8) (oi := ⟨some 71, _, _, _, _, _⟩) (v := ?_) rfl (by kernel_rfl) (by kernel_rfl) (by kernel_rfl) (fun _ _ _ h => h) (Or.inl ⟨by rfl, ?_⟩) hHeld ?_
                  rotate_left
                  · (intro wx hSw; (try dsimp only at hSw); go_simp; try with_reducible rfl)
                  try simp only [Act.put, List.setIfInBounds_toArray, List.set_cons_zero, List.set_cons_succ]
                  refine wpAnyH_take (i := 10) (oi := ⟨some 73, _, _, _, _, _⟩) (v := ?_) rfl (by kernel_rfl) (by kernel_rfl) (by kernel_rfl) (fun _ _ _ h => h) (Or.inl ⟨by rfl, ?_⟩) hHeld ?_
                  rotate_left
                  · (intro wx hSw; (try dsimp only at hSw); go_simp; try with_reducible rfl)
                  try simp only [Act.put, List.setIfInBounds_toArray, List.set_cons_zero, List.set_cons_succ]
                  refine wpAnyH_ready (rs := [9]) (by kernel_rfl) (by simp) (AllReadyH.cons (o := ⟨some 72, _, _, _, _, _⟩) rfl (fun K hK => ?_) AllReadyH.nil)
                  go_simp
                  refine (HWI.out wD _ (HT0.out.below HBD.out)).mono ?_
                  rintro e wE ⟨rfl, hbE⟩
                  have HBE : Kp (Below wC.heap.size wC wE) := ⟨HBD.out.trans (hbE.mono HBD.out.size)⟩
                  clear hbE
                  refine hK.out _ _ ?_ (fun hHeld => ?_)
                  · exact HB.out _ HBE.out
                  clear hK K
                  try simp only [Act.put, List.setIfInBounds_toArray, List.set_cons_zero, List.set_cons_succ]
                  refine wpAnyH_take (i := 11) (oi := ⟨some 74, _, _, _, _, _⟩) (v := ?_) rfl (by kernel_rfl) (by kernel_rfl) (by kernel_rfl) (fun _ _ _ h => h) (Or.inl ⟨by rfl, ?_⟩) hHeld ?_
                  rotate_left
                  · (intro wx hSw; (try dsimp only at hSw); go_simp; try with_reducible rfl)
                  try simp only [Act.put, List.setIfInBounds_toArray, List.set_cons_zero, List.set_cons_succ]
                  refine wpAnyH_take (i := 12) (oi := ⟨some 75, _, _, _, _, _⟩) (v := ?_) rfl (by kernel_rfl) (by kernel_rfl) (by kernel_rfl) (fun _ _ _ h => h) (Or.inl ⟨by rfl, ?_⟩) hHeld ?_
                  rotate_left
                  · (intro wx hSw; (try dsimp only at hSw); go_simp; try with_reducible rfl)
                  try simp only [Act.put, List.setIfInBounds_toArray, List.set_cons_zero, List.set_cons_succ]
                  refine wpAnyH_ready (rs := [13]) (by kernel_rfl) (by simp) (AllReadyH.cons (o := ⟨none, _, _, _, _, _⟩) rfl (fun K hK => ?_) AllReadyH.nil)
                  refine step_store_row rfl 26 (.tmp 2) (.tmp 63) rfl w.heap.size #[.int .u32 (n : Int), .slice Ai is.length ci, .slice Ao os.length co, .int .u32 (k : Int)] rfl rfl 26 zTx (HX2.out wE HBE.out) HIT2.out rfl (by simp [Value.oneCell']) ?_
                  refine hK.out _ _ ?_ (fun hHeld => ?_)
                  · exact HBS.out wE HBE.out
                  clear hK K
                  try simp only [Act.put, List.setIfInBounds_toArray, List.set_cons_zero, List.set_cons_succ]
                  refine wpAnyH_take (i := 14) (oi := ⟨some 3, _, _, _, _, _⟩) (v := ?_) rfl (by kernel_rfl) (by kernel_rfl) (by kernel_rfl) (fun _ _ _ h => h) (Or.inl ⟨by rfl, ?_⟩) hHeld ?_
                  rotate_left
                  · (intro wx hSw; (try dsimp only at hSw); go_simp; try with_reducible rfl)
                  try simp only [Act.put, List.setIfInBounds_toArray, List.set_cons_zero, List.set_cons_succ]
                  refine wpAnyH_done (by kernel_rfl) ?_ _
                  refine NoPanic.normal ?_
                  go_wp2
                  exact bodyPost_ret (results_cell_row2 (p := 2) (u := 3) (by rfl) _ _ w.heap.size 26 _ _ _ (.bool (wt == true)) rfl (by cases wt <;> rfl) (HROW.out _ HBE.out) Try.underlying26 rfl HIT2.out) rfl (HDF.out _ HBE.out)
end Go.Proofs.Ytojeonepplfhlaa
