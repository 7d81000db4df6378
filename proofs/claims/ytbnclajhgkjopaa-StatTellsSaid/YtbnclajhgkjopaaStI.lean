/- A transaction in a variable of the call's own, and the closures of StatForms that turn it. -/
import Derived.Test.YtbnclajhgkjopaaStH
import Derived.Deep.RegionHeld3
import Derived.Great.BuildSlice
namespace Go.Proofs.Ytbnclajhgkjopaa
open Go.RowKit

/-- The variable in block g holds the transaction t; its rows are the call's own. -/
def TxV (w : World) (B g : Nat) (t : TxD) : Prop := ∃ iv ov, Box w g 26 #[.int .u32 t.version, iv, ov, .int .u32 t.lock] ∧ t.version < 4294967296 ∧ t.lock < 4294967296 ∧ OwnMany 36 32 (InO w B) w B iv t.ins ∧ OwnMany 2 35 (OutF w B) w B ov t.outs
def VarP (w0 : World) (g : Nat) (t : TxD) (e : Ending) (w' : World) : Prop := e = .returned (.tuple #[]) ∧ TxV w' w0.heap.size g t ∧ Below w0.heap.size w0 w'
def vzero (t : TxD) : TxD := { t with version := 0 }
def vnull (t : TxD) : TxD := { t with ins := t.ins.set 0 { t.ins.getD 0 default with prev := zeros 32, vout := 4294967295 } }
def vtwice (t : TxD) : TxD := { t with ins := t.ins ++ [t.ins.getD 0 default] }
def vkind (t : TxD) : TxD := { t with outs := t.outs.set 0 { t.outs.getD 0 default with script := [] } }
def dataOut : OutD := ⟨0, [106]⟩
def vdata (t : TxD) : TxD := { t with outs := t.outs ++ [dataOut, dataOut] }
def vmoney (t : TxD) : TxD := { t with outs := t.outs.set (t.outs.length - 1) { t.outs.getD (t.outs.length - 1) default with value := 1152921504606846976 } }
def dustOut : OutD := ⟨0, scriptOf 0⟩
def vdust (t : TxD) : TxD := { t with outs := [dustOut, dustOut] ++ t.outs }
def vempty (t : TxD) : TxD := { t with outs := [] }

theorem getD_at {α : Type} [Inhabited α] {l : List α} {i : Nat} (h : i < l.length) : l.getD i default = l[i] := by rw [List.getD_eq_getElem?_getD, List.getElem?_eq_getElem h]; rfl
/-- Its parts, where there are inputs and outputs. -/
theorem TxV.form {w : World} {B g : Nat} {t : TxD} (h : TxV w B g t) (hi1 : 0 < t.ins.length) (ho1 : 0 < t.outs.length) : ∃ gi ci go co, Box w g 26 #[.int .u32 t.version, .slice (some ⟨gi, 0, none⟩) t.ins.length ci, .slice (some ⟨go, 0, none⟩) t.outs.length co, .int .u32 t.lock] ∧ t.version < 4294967296 ∧ t.lock < 4294967296 ∧ OwnMany 36 32 (InO w B) w B (.slice (some ⟨gi, 0, none⟩) t.ins.length ci) t.ins ∧ OwnMany 2 35 (OutF w B) w B (.slice (some ⟨go, 0, none⟩) t.outs.length co) t.outs := by
  obtain ⟨iv, ov, hx, hv, hk, hi, ho⟩ := h
  obtain ⟨gi, ci, rfl, _⟩ := hi.box hi1
  obtain ⟨go, co, rfl, _⟩ := ho.box ho1
  exact ⟨gi, ci, go, co, hx, hv, hk, hi, ho⟩
theorem TxV.txR {w : World} {B g : Nat} {t : TxD} (h : TxV w B g t) : ∃ a b c d, Box w g 26 #[a, b, c, d] ∧ TxR w (.agg #[a, b, c, d]) t := by
  obtain ⟨iv, ov, hx, hv, hk, hi, ho⟩ := h
  exact ⟨_, _, _, _, hx, iv, ov, rfl, hv, hk, OwnMany.many hi fun _ _ h => h.inR, OwnMany.many ho fun _ _ h => h.outR⟩
theorem fill36x (a0 a1 a2 a3 a4 a5 a6 a7 a8 a9 a10 a11 a12 a13 a14 a15 a16 a17 a18 a19 a20 a21 a22 a23 a24 a25 a26 a27 a28 a29 a30 a31 a32 a33 a34 a35 : Value) : Instr.fill (fun i => some (i * 36, 36)) ((Array.range (1 * 36)).map ((Value.agg zIn).cells[· % (Value.agg zIn).cells.size]!)) [(0, .agg #[a0, a1, a2, a3, a4, a5, a6, a7, a8, a9, a10, a11, a12, a13, a14, a15, a16, a17, a18, a19, a20, a21, a22, a23, a24, a25, a26, a27, a28, a29, a30, a31, a32, a33, a34, a35])] = some #[a0, a1, a2, a3, a4, a5, a6, a7, a8, a9, a10, a11, a12, a13, a14, a15, a16, a17, a18, a19, a20, a21, a22, a23, a24, a25, a26, a27, a28, a29, a30, a31, a32, a33, a34, a35] := by kernel_rfl
theorem fill36 (cs : List Value) (hl : cs.length = 36) : Instr.fill (fun i => some (i * 36, 36)) ((Array.range (1 * 36)).map ((Value.agg zIn).cells[· % (Value.agg zIn).cells.size]!)) [(0, .agg cs.toArray)] = some cs.toArray := by
  match cs, hl with
  | a0 :: a1 :: a2 :: a3 :: a4 :: a5 :: a6 :: a7 :: a8 :: a9 :: a10 :: a11 :: a12 :: a13 :: a14 :: a15 :: a16 :: a17 :: a18 :: a19 :: a20 :: a21 :: a22 :: a23 :: a24 :: a25 :: a26 :: a27 :: a28 :: a29 :: a30 :: a31 :: a32 :: a33 :: a34 :: a35 :: [], _ => exact fill36x a0 a1 a2 a3 a4 a5 a6 a7 a8 a9 a10 a11 a12 a13 a14 a15 a16 a17 a18 a19 a20 a21 a22 a23 a24 a25 a26 a27 a28 a29 a30 a31 a32 a33 a34 a35
set_option maxRecDepth 100000 in
/-- A row of one input, its cells known. -/
theorem wp_buildIn {o : Oper} {a : Act} {w : World} {K : Act → World → Prop} {Q : Exit → Act → World → Prop} (x : Operand) (ho : o.op = .buildSlice 23 1 #[(0, x)]) (cs : List Value) (hl : cs.length = 36) (hx : a.eval x = .agg cs.toArray)
    (h : K (a.put o.dst (.slice (some ⟨w.heap.size, 0, none⟩) 1 1)) (w.alloc (.cells cs.toArray 32))) : o.wp Try.prog a w K Q := by
  obtain ⟨i1, hi, hz, hs, _⟩ := info_parts3 infoInZ
  refine wp_buildSlice 23 32 1 #[(0, x)] ho cs.toArray i1 (.agg zIn) Try.underlying23 hi hz (by rw [hs]; omega) (by rw [hs]; omega) ?_ h
  have e : (#[(0, x)].map fun (y : Nat × Operand) => match y with | (i, z) => (i, a.eval z)).toList = [(0, .agg cs.toArray)] := by simp [hx]
  rw [hs, e]
  exact fill36 cs hl
theorem over_app : ∀ (us pre old r : List Value), old.length = us.length → over (pre ++ (old ++ r)) pre.length us = pre ++ (us ++ r)
  | [], pre, old, r, h => by
    obtain rfl : old = [] := List.eq_nil_of_length_eq_zero h
    rfl
  | u :: us, pre, [], r, h => by simp at h
  | u :: us, pre, x :: old, r, h => by
    have e : (pre ++ (x :: old ++ r)).set pre.length u = (pre ++ [u]) ++ (old ++ r) := by
      rw [List.set_append, if_neg (by omega)]
      simp
    rw [over, e, show pre.length + 1 = (pre ++ [u]).length by simp, over_app us (pre ++ [u]) old r (by simpa using h)]
    simp
theorem over_prev {d : InD} (h : d.prev.length = 32) (sv wv : Value) (q : List Int) (hq : q.length = 32) : over (inCells d sv wv) 0 (byteVals q) = inCells { d with prev := q } sv wv := by
  unfold inCells
  exact over_app (byteVals q) [] (byteVals d.prev) _ (by simp [byteVals, h, hq])
theorem set_vout {d : InD} (h : d.prev.length = 32) (sv wv : Value) (u : Nat) : (inCells d sv wv).set 32 (.int .u32 u) = inCells { d with vout := u } sv wv := by
  unfold inCells
  rw [List.set_append, if_neg (by simp [byteVals, h])]
  simp [byteVals, h]

set_option maxRecDepth 100000 in
theorem sfVersion_any (w0 w : World) (g : Nat) (t : TxD) (h : TxV w w0.heap.size g t) (hb : Below w0.heap.size w0 w) (hg : w0.heap.size ≤ g) : Calls Try.prog 7 #[.pointer (some ⟨g, 0, none⟩)] w fun e w' => VarP w0 g (vzero t) e w' := by
  obtain ⟨iv, ov, hx, hv, hk, hi, ho⟩ := h
  have c0 := hx.cell 0
  have f0 := hx.warm 0
  have hkp : Keeps [5, 29, 32, 35] w (w.setCell ⟨g, 0, none⟩ (.int .u32 0)) := Keeps.of_set hx (by decide) 0 _
  have HE : Kp (VarP w0 g (vzero t) (.returned (.tuple #[])) (w.setCell ⟨g, 0, none⟩ (.int .u32 0))) :=
    ⟨rfl, ⟨iv, ov, hx.set 0 _, by show (0 : Nat) < 4294967296; omega, hk, OwnMany.turn hi hkp (by decide) (Nat.le_refl _) (fun cs d h => h.turn hkp (by decide) (by decide) (Nat.le_refl _)), OwnMany.turn ho hkp (by decide) (Nat.le_refl _) (fun cs d h => h.keeps hkp (by decide))⟩, hb.setCell hg _⟩
  clear hx hv hk hi ho hkp
  go_enter Try.func7, Try.ntmps7
  go_wp2
  go_end0
  exact HE.out

set_option maxRecDepth 100000 in
theorem sfKind_any (w0 w : World) (g : Nat) (t : TxD) (h : TxV w w0.heap.size g t) (hb : Below w0.heap.size w0 w) (hi1 : 0 < t.ins.length) (ho1 : 0 < t.outs.length) : Calls Try.prog 10 #[.pointer (some ⟨g, 0, none⟩)] w fun e w' => VarP w0 g (vkind t) e w' := by
  obtain ⟨gi, ci, go, co, hx, hv, hk, hi, ho⟩ := h.form hi1 ho1
  have c2 := hx.cell 2
  obtain ⟨hBo, _, Co, hxo⟩ := ho.boxOf
  obtain ⟨cs, hcl, hR, hc, hf⟩ := OwnMany.cell ho ho1 (show 1 < 2 by decide)
  have hc1 : w.cell? ⟨go, 1, none⟩ = some (cs[1]'(by omega)) := Eq.trans hc (List.getElem?_eq_getElem (by omega))
  have hf1 : w.frozen? ⟨go, 1, none⟩ = false := hf
  have hkp : Keeps [5, 29, 32, 26] w (w.setCell ⟨go, 1, none⟩ (.slice none 0 0)) := Keeps.of_set hxo (by decide) 1 _
  have hgo : g ≠ go := fun e => by
    subst e
    have h1 : w.heap[g]? = _ := hx
    have h2 : w.heap[g]? = _ := hxo
    rw [h1] at h2
    simp at h2
  have ho' := OwnMany.cellSet (j := 1) (R' := OutF (w.setCell ⟨go, 1, none⟩ (.slice none 0 0)) w0.heap.size) ho ho1 (by decide) (.slice none 0 0) { t.outs[0] with script := [] } (fun cs d h => h.keeps hkp (by decide)) (fun cs hk2 h => by
    obtain ⟨sv, rfl, h1, h2⟩ := h
    exact ⟨.slice none 0 0, rfl, h1, Bys.nil, .inl (own_nil _ _ _)⟩)
  have hlen : (0 : Int) < (t.outs.length : Int) := by omega
  have HE : Kp (VarP w0 g (vkind t) (.returned (.tuple #[])) (w.setCell ⟨go, 1, none⟩ (.slice none 0 0))) := ⟨rfl, ⟨_, _, (Keeps.box hkp (by decide) hx), hv, hk, OwnMany.turn hi hkp (by decide) (Nat.le_refl _) (fun cs d h => h.turn hkp (by decide) (by decide) (Nat.le_refl _)), by
    show OwnMany 2 _ _ _ _ _ (t.outs.set 0 { t.outs.getD 0 default with script := [] })
    rw [getD_at ho1]
    exact ho'⟩, hb.setCell hBo _⟩
  generalize cs[1]'(by omega) = z at hc1
  clear hx hv hk hi ho hkp ho' hxo hR hc hf hi1 ho1
  generalize t.outs.length = NO at *
  generalize t.ins.length = NI at *
  go_enter Try.func10, Try.ntmps10
  go_wp2
  go_end0
  exact HE.out

set_option maxRecDepth 100000 in
theorem sfMoney_any (w0 w : World) (g : Nat) (t : TxD) (h : TxV w w0.heap.size g t) (hb : Below w0.heap.size w0 w) (hi1 : 0 < t.ins.length) (ho1 : 0 < t.outs.length) (ho2 : t.outs.length ≤ 1000) : Calls Try.prog 12 #[.pointer (some ⟨g, 0, none⟩)] w fun e w' => VarP w0 g (vmoney t) e w' := by
  obtain ⟨gi, ci, go, co, hx, hv, hk, hi, ho⟩ := h.form hi1 ho1
  obtain ⟨q, hq⟩ : ∃ q, t.outs.length = q + 1 := ⟨t.outs.length - 1, by omega⟩
  have hql : q < t.outs.length := by omega
  have c2 := hx.cell 2
  obtain ⟨hBo, _, Co, hxo⟩ := ho.boxOf
  obtain ⟨cs, hcl, hR, hc, hf⟩ := OwnMany.cell ho hql (show 0 < 2 by decide)
  have hc1 : w.cell? ⟨go, q * 2, none⟩ = some (cs[0]'(by omega)) := Eq.trans hc (List.getElem?_eq_getElem (by omega))
  have hf1 : w.frozen? ⟨go, q * 2, none⟩ = false := hf
  have hkp : Keeps [5, 29, 32, 26] w (w.setCell ⟨go, q * 2, none⟩ (.int .u64 1152921504606846976)) := Keeps.of_set hxo (by decide) _ _
  have ho' := OwnMany.cellSet (j := 0) (R' := OutF (w.setCell ⟨go, q * 2, none⟩ (.int .u64 1152921504606846976)) w0.heap.size) ho hql (by decide) (.int .u64 1152921504606846976) { t.outs[q] with value := 1152921504606846976 } (fun cs d h => h.keeps hkp (by decide)) (fun cs hk2 h => by
    obtain ⟨sv, rfl, h1, h2⟩ := h
    exact ⟨sv, rfl, by show 1152921504606846976 < 18446744073709551616; omega, h2.keeps hkp (by decide)⟩)
  have HE : Kp (VarP w0 g (vmoney t) (.returned (.tuple #[])) (w.setCell ⟨go, q * 2, none⟩ (.int .u64 1152921504606846976))) := ⟨rfl, ⟨_, _, (Keeps.box hkp (by decide) hx), hv, hk, OwnMany.turn hi hkp (by decide) (Nat.le_refl _) (fun cs d h => h.turn hkp (by decide) (by decide) (Nat.le_refl _)), by
    show OwnMany 2 _ _ _ _ _ (t.outs.set (t.outs.length - 1) { t.outs.getD (t.outs.length - 1) default with value := 1152921504606846976 })
    rw [show t.outs.length - 1 = q by omega, getD_at hql]
    exact ho'⟩, hb.setCell hBo _⟩
  generalize cs[0]'(by omega) = z at hc1
  rw [hq] at c2
  have hq1 : (q : Int) ≤ 1000 := by omega
  clear hx hv hk hi ho hkp ho' hxo hR hc hf hi1 ho1
  generalize t.ins.length = NI at *
  go_enter Try.func12, Try.ntmps12
  go_wp2
  go_end0
  exact HE.out

set_option maxRecDepth 1000000 in
set_option maxHeartbeats 4000000 in
theorem sfData_any (w0 w : World) (g : Nat) (t : TxD) (h : TxV w w0.heap.size g t) (hb : Below w0.heap.size w0 w) (hg : w0.heap.size ≤ g) (h1 : 0 < t.ins.length ∧ 0 < t.outs.length) (hl : t.ins.length ≤ 100 ∧ t.outs.length ≤ 100) : Calls Try.prog 11 #[.pointer (some ⟨g, 0, none⟩)] w fun e w' => VarP w0 g (vdata t) e w' := by
  obtain ⟨hi1, ho1⟩ := h1
  obtain ⟨hi2, ho2⟩ := hl
  obtain ⟨gi, ci, go, co, hx, hv, hk, hi, ho⟩ := h.form hi1 ho1
  obtain ⟨i2, hia, hib, hic, hid⟩ := info_parts3 infoOutZ
  have HI2 := Kp.mk (And.intro hia (And.intro hib (And.intro hic hid)))
  have c2 := hx.cell 2
  obtain ⟨W3, hW3⟩ : ∃ W3, ((w.alloc (.cells #[.int .u8 106] 5)).alloc (.cells #[.int .u8 106] 5)).alloc (.cells #[.int .u64 0, .slice (some ⟨w.heap.size, 0, none⟩) 1 1, .int .u64 0, .slice (some ⟨w.heap.size + 1, 0, none⟩) 1 1] 35) = W3 := ⟨_, rfl⟩
  have hb3 : Below w.heap.size w W3 := by rw [← hW3]; exact (((Below.refl _ _).alloc (Nat.le_refl _) _).alloc (by simp) _).alloc (by simp; omega) _
  have hk3 : Keeps [5, 29, 32, 35, 26] w W3 := Keeps.of_below _ hb3
  have hx3 := Keeps.box hk3 (by decide) hx
  have q1 : Box W3 w.heap.size 5 #[.int .u8 106] := by rw [← hW3]; exact box_past (box_past (Box.fresh _ _ _))
  have q2 : Box W3 (w.heap.size + 1) 5 #[.int .u8 106] := by rw [← hW3]; exact box_past (box_at _ _ _ _ (by simp))
  have q3 : Box W3 (w.heap.size + 2) 35 #[.int .u64 0, .slice (some ⟨w.heap.size, 0, none⟩) 1 1, .int .u64 0, .slice (some ⟨w.heap.size + 1, 0, none⟩) 1 1] := by rw [← hW3]; exact box_at _ _ _ _ (by simp)
  have hwB : w0.heap.size ≤ w.heap.size := hb.size
  have r1 : RbF W3 w0.heap.size (.slice (some ⟨w.heap.size, 0, none⟩) 1 1) [106] := ⟨fun x hx => by rw [List.mem_singleton.1 hx]; omega, .inl (own_one (x' := 106) q1 hwB 106)⟩
  have r2 : RbF W3 w0.heap.size (.slice (some ⟨w.heap.size + 1, 0, none⟩) 1 1) [106] := ⟨fun x hx => by rw [List.mem_singleton.1 hx]; omega, .inl (own_one (x' := 106) q2 (by omega) 106)⟩
  have hsrc : Many 2 (fun W => OutF W w0.heap.size) W3 (.slice (some ⟨w.heap.size + 2, 0, none⟩) 2 2) [dataOut, dataOut] := OwnMany.many (RR := fun W => OutF W w0.heap.size) (OwnMany.made (k := 2) (R := OutF W3 w0.heap.size) (ds := [dataOut, dataOut]) (B := w0.heap.size) [[.int .u64 0, .slice (some ⟨w.heap.size, 0, none⟩) 1 1], [.int .u64 0, .slice (some ⟨w.heap.size + 1, 0, none⟩) 1 1]] q3 (by omega) rfl (by decide) (fun i cs d h1 h2 => by
    match i, h1, h2 with
    | 0, h1, h2 =>
      obtain rfl := Option.some.inj h1
      obtain rfl := Option.some.inj h2
      exact ⟨rfl, _, rfl, by decide, r1⟩
    | 1, h1, h2 =>
      obtain rfl := Option.some.inj h1
      obtain rfl := Option.some.inj h2
      exact ⟨rfl, _, rfl, by decide, r2⟩
    | i + 2, h1, _ => simp at h1)) (fun cs d h => h)
  have HSRC := Kp.mk hsrc
  have HO3 : Kp (OwnMany 2 35 (OutF W3 w0.heap.size) W3 w0.heap.size (.slice (some ⟨go, 0, none⟩) t.outs.length co) t.outs) := ⟨OwnMany.turn ho hk3 (by decide) (Nat.le_refl _) (fun cs d h => h.keeps hk3 (by decide))⟩
  have HI3 : Kp (OwnMany 36 32 (InO W3 w0.heap.size) W3 w0.heap.size (.slice (some ⟨gi, 0, none⟩) t.ins.length ci) t.ins) := ⟨OwnMany.turn hi hk3 (by decide) (Nat.le_refl _) (fun cs d h => h.turn hk3 (by decide) (by decide) (Nat.le_refl _))⟩
  have HX3 := Kp.mk hx3
  have HB3 := Kp.mk (hb.trans (hb3.mono hb.size))
  have HGR : Kp (∀ w6, W3.grownBy w6 (Value.slice (some ⟨go, 0, none⟩) t.outs.length co).ownBlock → Below w0.heap.size w0 w6) := ⟨fun w6 hg => HO3.out.grows HB3.out hg (Nat.le_refl _)⟩
  have HV := Kp.mk (And.intro hv hk)
  have HGG := Kp.mk hg
  have HNE : Kp (([dataOut, dataOut] : List OutD) ≠ []) := ⟨by simp⟩
  have HLE : Kp (t.outs.length + ([dataOut, dataOut] : List OutD).length ≤ 1000) := ⟨by simp; omega⟩
  have HNL : Kp ((vdata t).outs.length = t.outs.length + 2) := ⟨by simp [vdata]⟩
  have HW3 := Kp.mk hW3
  clear hx hv hk hi ho hb3 hk3 hx3 q1 q2 q3 hwB r1 r2 hsrc hW3 hi1 ho1 hi2 ho2 hb hg hia hib hic hid
  go_enter Try.func11, Try.ntmps11
  go_wp2_with (first | (at_builtin; rw [HW3.out]; refine wpList_append_rows (R := fun W => OutF W w0.heap.size) (RR := fun W => OutF W w0.heap.size) rfl (.tmp 2) (.tmp 7) 24 rfl w0.heap.size i2 _ 32 Try.underlying24 HI2.out.1 HI2.out.2.1 HI2.out.2.2.1 HI2.out.2.2.2 (by rfl) (by decide) _ _ rfl HO3.out _ _ rfl HSRC.out HNE.out (fun cs d h => h) (fun cs d h => outF_one h) HLE.out (by decide) HB3.out.size [5, 29, 32, 26] (by decide) (fun w' cs d hk h => h.keeps hk (by decide)) ?_; intro v6 w6 hm6 hg6 hk6; obtain ⟨L6, hL6⟩ : ∃ L, t.outs ++ [dataOut, dataOut] = L := ⟨_, rfl⟩; rw [hL6] at hm6; have HL6 := Kp.mk hL6; have HM6 := Kp.mk hm6; have HK6 := Kp.mk hk6; have HG6 := Kp.mk hg6; obtain ⟨A6, c6, rfl⟩ := hm6.slice; have hx6 := Keeps.box hk6 (by decide) HX3.out; have f2 := hx6.warm 2; have c26 := hx6.cell 2; have HX6 := Kp.mk hx6; clear hm6 hg6 hk6 hx6 hL6))
  go_end0
  have hk7 : Keeps [5, 29, 32, 35] w6 (w6.setCell ⟨g, 2, none⟩ (.slice A6 L6.length c6)) := Keeps.of_set HX6.out (by decide) 2 _
  have hk36 : Keeps [5, 29, 32] W3 (w6.setCell ⟨g, 2, none⟩ (.slice A6 L6.length c6)) := (HK6.out.sub (by decide)).trans (hk7.sub (by decide))
  exact ⟨rfl, ⟨_, _, HX6.out.set 2 _, HV.out.1, HV.out.2, OwnMany.turn HI3.out hk36 (by decide) (Nat.le_refl _) (fun cs d h => InO.turn h hk36 (by decide) (by decide) (Nat.le_refl _)), by
    show OwnMany 2 _ _ _ _ _ (vdata t).outs
    rw [show (vdata t).outs = L6 from HL6.out]
    exact OwnMany.turn HM6.out hk7 (by decide) (Nat.le_refl _) (fun cs d h => OutF.keeps h hk7 (by decide))⟩, (HGR.out w6 HG6.out).setCell HGG.out _⟩

set_option maxRecDepth 1000000 in
set_option maxHeartbeats 4000000 in
theorem sfDust_any (w0 w : World) (g : Nat) (t : TxD) (h : TxV w w0.heap.size g t) (hb : Below w0.heap.size w0 w) (hg : w0.heap.size ≤ g) (h1 : 0 < t.ins.length ∧ 0 < t.outs.length) (hl : t.ins.length ≤ 100 ∧ t.outs.length ≤ 100) : Calls Try.prog 13 #[.pointer (some ⟨g, 0, none⟩)] w fun e w' => VarP w0 g (vdust t) e w' := by
  obtain ⟨hi1, ho1⟩ := h1
  obtain ⟨hi2, ho2⟩ := hl
  obtain ⟨gi, ci, go, co, hx, hv, hk, hi, ho⟩ := h.form hi1 ho1
  obtain ⟨i2, hia, hib, hic, hid⟩ := info_parts3 infoOutZ
  have HI2 := Kp.mk (And.intro hia (And.intro hib (And.intro hic hid)))
  have HSC := Kp.mk (script_any w 0 (by omega))
  have HALL := Kp.mk (And.intro hx (And.intro hi ho))
  have HNE : Kp (t.outs ≠ []) := ⟨by intro e; rw [e] at ho1; simp at ho1⟩
  have HLE : Kp (([dustOut, dustOut] : List OutD).length + t.outs.length ≤ 1000) := ⟨by simp; omega⟩
  have HB := Kp.mk hb
  have HV := Kp.mk (And.intro hv hk)
  have HGG := Kp.mk hg
  have HLN := Kp.mk (And.intro hi1 (And.intro ho1 (And.intro hi2 ho2)))
  clear hx hv hk hi ho hb hg hia hib hic hid hi1 ho1 hi2 ho2
  go_enter Try.func13, Try.ntmps13
  go_wp2_with fail
  refine HSC.out.mono ?_
  rintro e w1 ⟨v1, rfl, hv1, hb1⟩
  have hs0 : RbF w1 w.heap.size v1 (scriptOf 0) := hv1
  obtain ⟨SL, hSL⟩ : ∃ S, scriptOf 0 = S := ⟨_, rfl⟩
  rw [hSL] at hs0 hv1
  obtain ⟨A1, c1, rfl⟩ := hv1.slice5
  obtain ⟨W3, hW3⟩ : ∃ W3, (w1.alloc (.cells #[.int .u64 0, .slice A1 SL.length c1] 35)).alloc (.cells #[.int .u64 0, .slice A1 SL.length c1, .int .u64 0, .slice A1 SL.length c1] 35) = W3 := ⟨_, rfl⟩
  have hb3 : Below w.heap.size w W3 := by
    rw [← hW3]
    exact (hb1.alloc hb1.size _).alloc (by have := hb1.size; simp; omega) _
  have hk13 : Keeps [5, 29, 32, 35, 26] w1 W3 := by
    rw [← hW3]
    exact Keeps.of_below _ (((Below.refl _ _).alloc (Nat.le_refl _) _).alloc (by simp) _)
  have hk3 : Keeps [5, 29, 32, 35, 26] w W3 := Keeps.of_below _ hb3
  have hwB : w0.heap.size ≤ w.heap.size := HB.out.size
  have q3 : Box W3 (w1.heap.size + 1) 35 #[.int .u64 0, .slice A1 SL.length c1, .int .u64 0, .slice A1 SL.length c1] := by rw [← hW3]; exact box_at _ _ _ _ (by simp)
  have r1 : RbF W3 w0.heap.size (.slice A1 SL.length c1) SL := (hs0.less hwB).keeps hk13 (by decide)
  have hdest : OwnMany 2 35 (OutF W3 w0.heap.size) W3 w0.heap.size (.slice (some ⟨w1.heap.size + 1, 0, none⟩) 2 2) [dustOut, dustOut] := OwnMany.made (k := 2) (R := OutF W3 w0.heap.size) (ds := [dustOut, dustOut]) (B := w0.heap.size) [[.int .u64 0, .slice A1 SL.length c1], [.int .u64 0, .slice A1 SL.length c1]] q3 (by have := hb1.size; omega) rfl (by decide) (fun i cs d h1 h2 => by
    have e0 : OutF W3 w0.heap.size [.int .u64 0, .slice A1 SL.length c1] dustOut := ⟨_, rfl, by decide, by rw [show dustOut.script = SL from hSL]; exact r1⟩
    match i, h1, h2 with
    | 0, h1, h2 =>
      obtain rfl := Option.some.inj h1
      obtain rfl := Option.some.inj h2
      exact ⟨rfl, e0⟩
    | 1, h1, h2 =>
      obtain rfl := Option.some.inj h1
      obtain rfl := Option.some.inj h2
      exact ⟨rfl, e0⟩
    | i + 2, h1, _ => simp at h1)
  have HO3 := Kp.mk hdest
  have ho3 := OwnMany.turn HALL.out.2.2 hk3 (by decide) (Nat.le_refl _) (fun cs d h => OutF.keeps (w' := W3) h hk3 (by decide))
  have HSRC : Kp (Many 2 (fun W => OutF W w0.heap.size) W3 (.slice (some ⟨go, 0, none⟩) t.outs.length co) t.outs) := ⟨OwnMany.many (RR := fun W => OutF W w0.heap.size) ho3 (fun cs d h => h)⟩
  have HI3 : Kp (OwnMany 36 32 (InO W3 w0.heap.size) W3 w0.heap.size (.slice (some ⟨gi, 0, none⟩) t.ins.length ci) t.ins) := ⟨OwnMany.turn HALL.out.2.1 hk3 (by decide) (Nat.le_refl _) (fun cs d h => h.turn hk3 (by decide) (by decide) (Nat.le_refl _))⟩
  have HX3 := Kp.mk (Keeps.box hk3 (by decide) HALL.out.1)
  have HB3 := Kp.mk (HB.out.trans (hb3.mono HB.out.size))
  have HGR : Kp (∀ w6, W3.grownBy w6 (Value.slice (some ⟨w1.heap.size + 1, 0, none⟩) 2 2).ownBlock → Below w0.heap.size w0 w6) := ⟨fun w6 hg => HO3.out.grows HB3.out hg (Nat.le_refl _)⟩
  have hx1 : Box w1 g 26 #[.int .u32 t.version, .slice (some ⟨gi, 0, none⟩) t.ins.length ci, .slice (some ⟨go, 0, none⟩) t.outs.length co, .int .u32 t.lock] := HALL.out.1.below hb1
  have c2 : ∀ o1 o2, ((w1.alloc o1).alloc o2).cell? ⟨g, 2, none⟩ = some (.slice (some ⟨go, 0, none⟩) t.outs.length co) := fun o1 o2 => (box_past (box_past hx1)).cell 2
  have HW3 := Kp.mk hW3
  have HC2 := Kp.mk c2
  clear hs0 hv1 hb1 hb3 hk13 hk3 hwB q3 r1 hdest ho3 hW3 hx1 hSL
  go_wp2_with (first | (at_builtin; rw [HW3.out]; refine wpList_append_rows (R := fun W => OutF W w0.heap.size) (RR := fun W => OutF W w0.heap.size) rfl (.tmp 6) (.tmp 8) 24 rfl w0.heap.size i2 _ 32 Try.underlying24 HI2.out.1 HI2.out.2.1 HI2.out.2.2.1 HI2.out.2.2.2 (by rfl) (by decide) _ _ rfl HO3.out _ _ rfl HSRC.out HNE.out (fun cs d h => h) (fun cs d h => outF_one h) HLE.out (by decide) HB3.out.size [5, 29, 32, 26] (by decide) (fun w' cs d hk h => h.keeps hk (by decide)) ?_; intro v6 w6 hm6 hg6 hk6; obtain ⟨L6, hL6⟩ : ∃ L, [dustOut, dustOut] ++ t.outs = L := ⟨_, rfl⟩; rw [hL6] at hm6; have HL6 := Kp.mk hL6; have HM6 := Kp.mk hm6; have HK6 := Kp.mk hk6; have HG6 := Kp.mk hg6; obtain ⟨A6, c6, rfl⟩ := hm6.slice; have hx6 := Keeps.box hk6 (by decide) HX3.out; have f2 := hx6.warm 2; have c26 := hx6.cell 2; have HX6 := Kp.mk hx6; clear hm6 hg6 hk6 hx6 hL6))
  go_end0
  have hk7 : Keeps [5, 29, 32, 35] w6 (w6.setCell ⟨g, 2, none⟩ (.slice A6 L6.length c6)) := Keeps.of_set HX6.out (by decide) 2 _
  have hk36 : Keeps [5, 29, 32] W3 (w6.setCell ⟨g, 2, none⟩ (.slice A6 L6.length c6)) := (HK6.out.sub (by decide)).trans (hk7.sub (by decide))
  exact ⟨rfl, ⟨_, _, HX6.out.set 2 _, HV.out.1, HV.out.2, OwnMany.turn HI3.out hk36 (by decide) (Nat.le_refl _) (fun cs d h => InO.turn h hk36 (by decide) (by decide) (Nat.le_refl _)), by
    show OwnMany 2 _ _ _ _ _ (vdust t).outs
    rw [show (vdust t).outs = L6 from HL6.out]
    exact OwnMany.turn HM6.out hk7 (by decide) (Nat.le_refl _) (fun cs d h => OutF.keeps h hk7 (by decide))⟩, (HGR.out w6 HG6.out).setCell HGG.out _⟩

set_option linter.unusedSimpArgs false in
set_option maxRecDepth 1000000 in
set_option maxHeartbeats 4000000 in
theorem sfNull_any (w0 w : World) (g : Nat) (t : TxD) (h : TxV w w0.heap.size g t) (hb : Below w0.heap.size w0 w) (hg : w0.heap.size ≤ g) (h1 : 0 < t.ins.length ∧ 0 < t.outs.length) (hl : t.ins.length ≤ 100 ∧ t.outs.length ≤ 100) : Calls Try.prog 8 #[.pointer (some ⟨g, 0, none⟩)] w fun e w' => VarP w0 g (vnull t) e w' := by
  obtain ⟨hi1, ho1⟩ := h1
  obtain ⟨hi2, ho2⟩ := hl
  obtain ⟨gi, ci, go, co, hx, hv, hk, hi, ho⟩ := h.form hi1 ho1
  have hg0 := hg
  clear hg0
  obtain ⟨hBi, _, Ci, hxi⟩ := hi.boxOf
  have hx' : Box w.drew g 26 #[.int .u32 t.version, .slice (some ⟨gi, 0, none⟩) t.ins.length ci, .slice (some ⟨go, 0, none⟩) t.outs.length co, .int .u32 t.lock] := hx
  have hi' : OwnMany 36 32 (InO w.drew w0.heap.size) w.drew w0.heap.size (.slice (some ⟨gi, 0, none⟩) t.ins.length ci) t.ins := OwnMany.turn hi (Keeps.of_below [5, 29, 32] (Below.refl _ _).drew) (by decide) (Nat.le_refl _) (fun cs d h => h.turn (Keeps.of_below [5, 29, 32] (Below.refl _ _).drew) (by decide) (by decide) (Nat.le_refl _))
  have hxi' : Box w.drew gi 32 Ci := hxi
  obtain ⟨W7, hW7⟩ : ∃ W7, w.drew.setCells gi 0 (byteVals (zeros 32)) = W7 := ⟨_, rfl⟩
  obtain ⟨C7, hx7i, _⟩ := box_setCells (byteVals (zeros 32)) 0 hxi'
  rw [hW7] at hx7i
  have hk7 : Keeps [5, 29, 35, 26] w.drew W7 := by rw [← hW7]; exact Keeps.setCells hxi' (by decide) _ _
  have hi7 := OwnMany.cellsSet (j := 0) (R' := InO W7 w0.heap.size) hi' hi1 (byteVals (zeros 32)) (by simp [byteVals, zeros]) { t.ins[0] with prev := zeros 32 } (fun cs d h => h.turn hk7 (by decide) (by decide) (Nat.le_refl _)) (fun cs _ h => by
    obtain ⟨sv, wv, rfl, hf, h1, h2, h3⟩ := h.turn hk7 (by decide) (by decide) (Nat.le_refl _)
    exact ⟨sv, wv, over_prev hf.plen sv wv _ (by simp [zeros]), ⟨by simp [zeros], zeros_bys 32, hf.vlt, hf.slt⟩, h1, h2, h3⟩)
  rw [show (0 : Nat) * 36 + 0 = 0 from rfl, hW7] at hi7
  obtain ⟨W10, hW10⟩ : ∃ W10, W7.setCell ⟨gi, 32, none⟩ (.int .u32 4294967295) = W10 := ⟨_, rfl⟩
  have hk10 : Keeps [5, 29, 35, 26] W7 W10 := by rw [← hW10]; exact Keeps.of_set hx7i (by decide) _ _
  have hi1' : 0 < (t.ins.set 0 { t.ins[0] with prev := zeros 32 }).length := by rw [List.length_set]; exact hi1
  have hn7 : (t.ins.set 0 { t.ins[0] with prev := zeros 32 }).length = t.ins.length := List.length_set ..
  obtain ⟨cs7, hcl7, hR7, hc7, hf7⟩ := OwnMany.cellN hi7 hn7 hi1' (show 32 < 36 by decide)
  have c32 : W7.cell? ⟨gi, 32, none⟩ = some (cs7[32]'(by omega)) := Eq.trans hc7 (List.getElem?_eq_getElem (by omega))
  have f32 : W7.frozen? ⟨gi, 32, none⟩ = false := hf7
  have hi10 := OwnMany.cellSetN (j := 32) (R' := InO W10 w0.heap.size) hi7 hn7 hi1' (by decide) (.int .u32 4294967295) { t.ins[0] with prev := zeros 32, vout := 4294967295 } (fun cs d h => h.turn hk10 (by decide) (by decide) (Nat.le_refl _)) (fun cs _ h => by
    rw [List.getElem_set_self] at h
    obtain ⟨sv, wv, rfl, hf, h1, h2, h3⟩ := h.turn hk10 (by decide) (by decide) (Nat.le_refl _)
    exact ⟨sv, wv, set_vout hf.plen sv wv _, ⟨hf.plen, hf.pbys, by show 4294967295 < 4294967296; omega, hf.slt⟩, h1, h2, h3⟩)
  rw [show (0 : Nat) * 36 + 32 = 32 from rfl, hW10, List.set_set] at hi10
  have hk17 : Keeps [5, 29, 35, 26] w.drew W10 := hk7.trans hk10
  have hx10 := Keeps.box hk17 (by decide) hx'
  have HE : Kp (VarP w0 g (vnull t) (.returned (.tuple #[])) W10) := ⟨rfl, ⟨.slice (some ⟨gi, 0, none⟩) t.ins.length ci, .slice (some ⟨go, 0, none⟩) t.outs.length co, hx10, hv, hk, by
    show OwnMany 36 _ _ _ _ _ (t.ins.set 0 { t.ins.getD 0 default with prev := zeros 32, vout := 4294967295 })
    rw [getD_at hi1]
    exact hi10, OwnMany.turn ho ((Keeps.of_below _ (Below.refl _ _).drew).trans hk17) (by decide) (Nat.le_refl _) (fun cs d h => h.keeps ((Keeps.of_below [5, 29, 35, 26] (Below.refl _ _).drew).trans hk17) (by decide))⟩, by
    have b1 : Below w0.heap.size w0 w.drew := hb.drew
    rw [← hW10, ← hW7]
    exact (Only.below b1 (Only.setCells _ _ (Only.refl gi _)) hBi).setCell hBi _⟩
  have HTH : Kp (w.drew.there gi 0 (byteVals (zeros 32)).toArray.size) := ⟨by
    have := OwnMany.there (j := 0) (m := 32) hi' hi1 (by decide)
    rw [List.size_toArray, show (byteVals (zeros 32)).length = 32 by simp [byteVals, zeros]]
    exact this⟩
  have HSZ : Kp (((Try.prog.info? 28).map (·.size) = some (byteVals (zeros 32)).toArray.size) ∧ (byteVals (zeros 32)).toArray.all (·.oneCell') = true) := ⟨by rw [List.size_toArray, show (byteVals (zeros 32)).length = 32 by simp [byteVals, zeros]]; exact sizeArr, all_oneCell_toArray (byteVals_one _)⟩
  have hcS : w.drew.cell? ⟨g, 1, none⟩ = some (.slice (some ⟨gi, 0, none⟩) t.ins.length ci) := hx'.cell 1
  have HS7 : Kp (W7.cell? ⟨g, 1, none⟩ = some (.slice (some ⟨gi, 0, none⟩) t.ins.length ci)) := ⟨(Keeps.box hk7 (by decide) hx').cell 1⟩
  have HS10 : Kp (W10.cell? ⟨g, 1, none⟩ = some (.slice (some ⟨gi, 0, none⟩) t.ins.length ci)) := ⟨hx10.cell 1⟩
  have HW7 := Kp.mk hW7
  have HW10 := Kp.mk hW10
  have hpos : (t.ins.length > 0) = True := eq_true hi1
  have hpos2 : (0 < t.ins.length) = True := eq_true hi1
  generalize cs7[32]'(by omega) = z32 at c32
  clear hR7
  clear hx hv hk hi ho hx' hi' hxi hxi' hx7i hk7 hi7 hk10 hi1' hn7 hc7 hf7 hi10 hk17 hx10 hW7 hW10 hi1 ho1 hi2 ho2 hb hg hBi
  generalize t.ins.length = NI at *
  go_enter Try.func8, Try.ntmps8
  go_wp2_with fail
  refine wp_region_noPanic ?_
  refine wp_region_held_drew (S := (fun W => W.cell? ⟨g, 1, none⟩ = some (.slice (some ⟨gi, 0, none⟩) NI ci))) (by kernel_rfl) ?_ (fun hHeld => ?_)
  · exact hcS
  refine wpAnyH_take (i := 0) (oi := ⟨some 1, _, _, _, _, _⟩) (v := ?_) rfl (by kernel_rfl) (by kernel_rfl) (by kernel_rfl) (fun _ _ _ h => h) (Or.inl ⟨by rfl, ?_⟩) hHeld ?_
  rotate_left
  · (intro wx hSw; (try dsimp only at hSw); go_simp; try with_reducible rfl)
  try simp only [Act.put, List.setIfInBounds_toArray, List.set_cons_zero, List.set_cons_succ]
  refine wpAnyH_take (i := 1) (oi := ⟨some 2, _, _, _, _, _⟩) (v := ?_) rfl (by kernel_rfl) (by kernel_rfl) (by kernel_rfl) (fun _ _ _ h => h) (Or.inl ⟨by rfl, ?_⟩) hHeld ?_
  rotate_left
  · (intro wx hSw; (try dsimp only at hSw); go_simp; try with_reducible rfl)
  try simp only [Act.put, List.setIfInBounds_toArray, List.set_cons_zero, List.set_cons_succ]
  refine wpAnyH_take (i := 2) (oi := ⟨some 3, _, _, _, _, _⟩) (v := ?_) rfl (by kernel_rfl) (by kernel_rfl) (by kernel_rfl) (fun _ _ _ h => h) (Or.inl ⟨by rfl, ?_⟩) hHeld ?_
  rotate_left
  · (intro wx hSw; (try dsimp only at hSw); go_simp; try with_reducible rfl)
  try simp only [Act.put, List.setIfInBounds_toArray, List.set_cons_zero, List.set_cons_succ]
  refine wpAnyH_take (i := 3) (oi := ⟨some 4, _, _, _, _, _⟩) (v := ?_) rfl (by kernel_rfl) (by kernel_rfl) (by kernel_rfl) (fun _ _ _ h => h) (Or.inl ⟨by rfl, ?_⟩) hHeld ?_
  rotate_left
  · (intro wx hSw; (try dsimp only at hSw); go_simp; try with_reducible rfl)
  try simp only [Act.put, List.setIfInBounds_toArray, List.set_cons_zero, List.set_cons_succ]
  refine wpAnyH_take (i := 4) (oi := ⟨some 5, _, _, _, _, _⟩) (v := ?_) rfl (by kernel_rfl) (by kernel_rfl) (by kernel_rfl) (fun _ _ _ h => h) (Or.inl ⟨by rfl, ?_⟩) hHeld ?_
  rotate_left
  · (intro wx hSw; (try dsimp only at hSw); go_simp; try with_reducible rfl)
  try simp only [Act.put, List.setIfInBounds_toArray, List.set_cons_zero, List.set_cons_succ]
  refine wpAnyH_take (i := 5) (oi := ⟨some 6, _, _, _, _, _⟩) (v := ?_) rfl (by kernel_rfl) (by kernel_rfl) (by kernel_rfl) (fun _ _ _ h => h) (Or.inl ⟨by rfl, ?_⟩) hHeld ?_
  rotate_left
  · (intro wx hSw; (try dsimp only at hSw); go_simp; try with_reducible rfl)
  try simp only [Act.put, List.setIfInBounds_toArray, List.set_cons_zero, List.set_cons_succ]
  refine wpAnyH_take (i := 6) (oi := ⟨some 7, _, _, _, _, _⟩) (v := ?_) rfl (by kernel_rfl) (by kernel_rfl) (by kernel_rfl) (fun _ _ _ h => h) (Or.inl ⟨by rfl, ?_⟩) hHeld ?_
  rotate_left
  · (intro wx hSw; (try dsimp only at hSw); go_simp; try with_reducible rfl)
  try simp only [Act.put, List.setIfInBounds_toArray, List.set_cons_zero, List.set_cons_succ]
  refine wpAnyH_ready (rs := [7]) (by kernel_rfl) (by simp) (AllReadyH.cons (o := ⟨none, _, _, _, _, _⟩) rfl (fun K hK => ?_) AllReadyH.nil)
  refine wp_store_mid 28 (.tmp 7) (.tmp 5) rfl gi 0 (byteVals (zeros 32)).toArray rfl rfl HTH.out HSZ.out.1 HSZ.out.2 ?_
  show K _ (w.drew.setCells gi 0 (byteVals (zeros 32)))
  rw [HW7.out]
  refine hK.out _ _ ?_ (fun hHeld => ?_)
  · exact HS7.out
  clear hK K
  try simp only [Act.put, List.setIfInBounds_toArray, List.set_cons_zero, List.set_cons_succ]
  refine wpAnyH_take (i := 8) (oi := ⟨some 8, _, _, _, _, _⟩) (v := ?_) rfl (by kernel_rfl) (by kernel_rfl) (by kernel_rfl) (fun _ _ _ h => h) (Or.inl ⟨by rfl, ?_⟩) hHeld ?_
  rotate_left
  · (intro wx hSw; (try dsimp only at hSw); go_simp; try with_reducible rfl)
  try simp only [Act.put, List.setIfInBounds_toArray, List.set_cons_zero, List.set_cons_succ]
  refine wpAnyH_take (i := 9) (oi := ⟨some 9, _, _, _, _, _⟩) (v := ?_) rfl (by kernel_rfl) (by kernel_rfl) (by kernel_rfl) (fun _ _ _ h => h) (Or.inl ⟨by rfl, ?_⟩) hHeld ?_
  rotate_left
  · (intro wx hSw; (try dsimp only at hSw); go_simp; try with_reducible rfl)
  try simp only [Act.put, List.setIfInBounds_toArray, List.set_cons_zero, List.set_cons_succ]
  refine wpAnyH_ready (rs := [10]) (by kernel_rfl) (by simp) (AllReadyH.cons (o := ⟨none, _, _, _, _, _⟩) rfl (fun K hK => ?_) AllReadyH.nil)
  go_simp
  rw [HW10.out]
  refine hK.out _ _ ?_ (fun hHeld => ?_)
  · exact HS10.out
  clear hK K
  try simp only [Act.put, List.setIfInBounds_toArray, List.set_cons_zero, List.set_cons_succ]
  refine wpAnyH_done (by kernel_rfl) ?_ _
  refine NoPanic.normal ?_
  go_wp2
  go_end0
  exact HE.out

set_option linter.unusedSimpArgs false in
set_option maxRecDepth 1000000 in
set_option maxHeartbeats 4000000 in
theorem sfTwice_any (w0 w : World) (g : Nat) (t : TxD) (h : TxV w w0.heap.size g t) (hb : Below w0.heap.size w0 w) (hg : w0.heap.size ≤ g) (h1 : 0 < t.ins.length ∧ 0 < t.outs.length) (hl : t.ins.length ≤ 100 ∧ t.outs.length ≤ 100) : Calls Try.prog 9 #[.pointer (some ⟨g, 0, none⟩)] w fun e w' => VarP w0 g (vtwice t) e w' := by
  obtain ⟨hi1, ho1⟩ := h1
  obtain ⟨hi2, ho2⟩ := hl
  obtain ⟨gi, ci, go, co, hx, hv, hk, hi, ho⟩ := h.form hi1 ho1
  obtain ⟨i1, hia, hib, hic, hid⟩ := info_parts3 infoInZ
  have HI1 := Kp.mk (And.intro hia (And.intro hib (And.intro hic hid)))
  obtain ⟨cs, hcl, hR, hrg⟩ : ∃ cs, cs.length = 36 ∧ InO w w0.heap.size cs t.ins[0] ∧ w.rangeAt gi 0 cs := by
    obtain ⟨css, ho, hl, hlen, hr⟩ := hi.lens
    have hc0 : css[0]? = some (css[0]'(by omega)) := List.getElem?_eq_getElem (by omega)
    have hk0 := hlen _ (List.getElem_mem (show 0 < css.length by omega))
    refine ⟨_, hk0, hr 0 _ _ hc0 (List.getElem?_eq_getElem hi1), fun j u hj => ?_⟩
    have hj36 : j < 36 := by rw [← hk0]; exact (List.getElem?_eq_some_iff.1 hj).1
    rcases ho.2 with ⟨h0, _⟩ | ⟨gg, cap, cur, hv0, hB, hx0, hc, hm, hs, ht⟩
    · cases h0
    · injection hv0 with e1 e2 e3
      injection e1 with e1
      injection e1 with e1
      subst e1
      have h1 := flatten_at css 0 j _ hlen hc0 hj36
      rw [hj, Nat.zero_mul, Nat.zero_add, ← ht, List.getElem?_take, if_pos (by omega)] at h1
      rw [Box.cell hx0, Nat.zero_add]
      simpa using h1
  have hrd : w.drew.rangeAt gi 0 cs := hrg
  obtain ⟨W3, hW3⟩ : ∃ W3, w.drew.alloc (.cells cs.toArray 32) = W3 := ⟨_, rfl⟩
  have hb3 : Below w.heap.size w W3 := by rw [← hW3]; exact ((Below.refl _ _).drew).alloc (Nat.le_refl _) _
  have hk3 : Keeps [5, 29, 32, 35, 26] w W3 := Keeps.of_below _ hb3
  have hx3 := Keeps.box hk3 (by decide) hx
  have HOW : Kp (OwnMany 36 32 (InO W3 w0.heap.size) W3 w0.heap.size (.slice (some ⟨gi, 0, none⟩) t.ins.length ci) t.ins) := ⟨OwnMany.turn hi hk3 (by decide) (Nat.le_refl _) (fun cs d h => h.turn hk3 (by decide) (by decide) (Nat.le_refl _))⟩
  have HO3 : Kp (OwnMany 2 35 (OutF W3 w0.heap.size) W3 w0.heap.size (.slice (some ⟨go, 0, none⟩) t.outs.length co) t.outs) := ⟨OwnMany.turn ho hk3 (by decide) (Nat.le_refl _) (fun cs d h => h.keeps hk3 (by decide))⟩
  have HIN : Kp (InO W3 w0.heap.size cs t.ins[0]) := ⟨hR.turn hk3 (by decide) (by decide) (Nat.le_refl _)⟩
  have HONE := Kp.mk hR.inR.one
  have HBX : Kp (Box W3 w.heap.size 32 cs.toArray) := ⟨by rw [← hW3]; exact Box.fresh w.drew _ _⟩
  have HX3 := Kp.mk hx3
  have HB3 := Kp.mk (hb.trans (hb3.mono hb.size))
  have HCL := Kp.mk hcl
  have HLE : Kp (t.ins.length ≤ 1000) := ⟨by omega⟩
  have HSZ1 : Kp ((Try.prog.info? 32).map (·.size) = some cs.length) := ⟨by rw [hcl]; exact sizeIn⟩
  have hlt : gi < w.heap.size := hi.boxOf.2.1
  have HNW : Kp ((vtwice t).ins = t.ins ++ [t.ins[0]]) := ⟨by show t.ins ++ [t.ins.getD 0 default] = _; rw [getD_at hi1]⟩
  have HV := Kp.mk (And.intro hv hk)
  have HGG := Kp.mk hg
  have HGR : Kp (∀ w6, W3.grownBy w6 (Value.slice (some ⟨gi, 0, none⟩) t.ins.length ci).ownBlock → Below w0.heap.size w0 w6) := ⟨fun w6 hg => HOW.out.grows HB3.out hg (Nat.le_refl _)⟩
  have c1 : w.drew.cell? ⟨g, 1, none⟩ = some (.slice (some ⟨gi, 0, none⟩) t.ins.length ci) := hx.cell 1
  have c13 : W3.cell? ⟨g, 1, none⟩ = some (.slice (some ⟨gi, 0, none⟩) t.ins.length ci) := hx3.cell 1
  have hpos : (t.ins.length > 0) = True := eq_true hi1
  have hpos2 : (0 < t.ins.length) = True := eq_true hi1
  have HW3 := Kp.mk hW3
  have HRD := Kp.mk hrd
  have HE : Kp (∀ w6 A6 c6 (L6 : List InD), t.ins ++ [t.ins[0]] = L6 → OwnMany 36 32 (InO w6 w0.heap.size) w6 w0.heap.size (.slice A6 L6.length c6) L6 → Keeps [5, 29, 35, 26] W3 w6 → W3.grownBy w6 (Value.slice (some ⟨gi, 0, none⟩) t.ins.length ci).ownBlock → VarP w0 g (vtwice t) (.returned (.tuple #[])) (w6.setCell ⟨g, 1, none⟩ (.slice A6 L6.length c6))) := ⟨fun w6 A6 c6 L6 hL hm hk6 hg6 => by
    have hx6 := Keeps.box hk6 (by decide) HX3.out
    have hk7 : Keeps [5, 29, 32, 35] w6 (w6.setCell ⟨g, 1, none⟩ (.slice A6 L6.length c6)) := Keeps.of_set hx6 (by decide) 1 _
    have hk36 : Keeps [5, 29, 35] W3 (w6.setCell ⟨g, 1, none⟩ (.slice A6 L6.length c6)) := (hk6.sub (by decide)).trans (hk7.sub (by decide))
    exact ⟨rfl, ⟨_, _, hx6.set 1 _, HV.out.1, HV.out.2, by rw [HNW.out, hL]; exact OwnMany.turn hm hk7 (by decide) (Nat.le_refl _) (fun cs d h => InO.turn h hk7 (by decide) (by decide) (Nat.le_refl _)), OwnMany.turn HO3.out hk36 (by decide) (Nat.le_refl _) (fun cs d h => OutF.keeps h hk36 (by decide))⟩, (HGR.out w6 hg6).setCell HGG.out _⟩⟩
  clear hx hv hk hi ho hR hrg hb3 hk3 hx3 hW3 hi2 ho2 ho1 hb hg hrd hia hib hic hid HNW
  go_enter Try.func9, Try.ntmps9
  go_wp2_with fail
  refine wp_region_noPanic ?_
  refine wp_region_held_drew (S := fun _ => True) (by kernel_rfl) ?_ (fun hHeld => ?_)
  · trivial
  refine wpAnyH_take (i := 0) (oi := ⟨some 1, _, _, _, _, _⟩) (v := ?_) rfl (by kernel_rfl) (by kernel_rfl) (by kernel_rfl) (fun _ _ _ h => h) (Or.inl ⟨by rfl, ?_⟩) hHeld ?_
  rotate_left
  · (intro wx hSw; (try dsimp only at hSw); go_simp; try with_reducible rfl)
  try simp only [Act.put, List.setIfInBounds_toArray, List.set_cons_zero, List.set_cons_succ]
  refine wpAnyH_take (i := 2) (oi := ⟨some 3, _, _, _, _, _⟩) (v := ?_) rfl (by kernel_rfl) (by kernel_rfl) (by kernel_rfl) (fun _ _ _ h => h) (Or.inl ⟨by rfl, ?_⟩) hHeld ?_
  rotate_left
  · (intro wx hSw; (try dsimp only at hSw); go_simp; try with_reducible rfl)
  try simp only [Act.put, List.setIfInBounds_toArray, List.set_cons_zero, List.set_cons_succ]
  refine wpAnyH_ready (rs := [1, 3]) (by kernel_rfl) (by simp) (AllReadyH.cons (o := ⟨some 2, _, _, _, _, _⟩) rfl (fun K hK => ?_) (AllReadyH.cons (o := ⟨some 4, _, _, _, _, _⟩) rfl (fun K hK => ?_) AllReadyH.nil))
  · go_simp
    refine hK.out _ _ ?_ (fun hHeld => ?_)
    · trivial
    clear hK K
    try simp only [Act.put, List.setIfInBounds_toArray, List.set_cons_zero, List.set_cons_succ]
    refine wpAnyH_ready (rs := [3]) (by kernel_rfl) (by simp) (AllReadyH.cons (o := ⟨some 4, _, _, _, _, _⟩) rfl (fun K hK => ?_) AllReadyH.nil)
    go_simp
    refine hK.out _ _ ?_ (fun hHeld => ?_)
    · trivial
    clear hK K
    try simp only [Act.put, List.setIfInBounds_toArray, List.set_cons_zero, List.set_cons_succ]
    refine wpAnyH_take (i := 4) (oi := ⟨some 5, _, _, _, _, _⟩) (v := ?_) rfl (by kernel_rfl) (by kernel_rfl) (by kernel_rfl) (fun _ _ _ h => h) (Or.inl ⟨by rfl, ?_⟩) hHeld ?_
    rotate_left
    · (intro wx hSw; (try dsimp only at hSw); go_simp; try with_reducible rfl)
    try simp only [Act.put, List.setIfInBounds_toArray, List.set_cons_zero, List.set_cons_succ]
    refine wpAnyH_ready (rs := [5]) (by kernel_rfl) (by simp) (AllReadyH.cons (o := ⟨some 6, _, _, _, _, _⟩) rfl (fun K hK => ?_) AllReadyH.nil)
    refine wp_load_mid 32 (.tmp 5) rfl gi 0 rfl cs _ HRD.out Try.underlying32 rfl HSZ1.out ?_
    refine hK.out _ _ ?_ (fun hHeld => ?_)
    · trivial
    clear hK K
    try simp only [Act.put, List.setIfInBounds_toArray, List.set_cons_zero, List.set_cons_succ]
    refine wpAnyH_ready (rs := [6]) (by kernel_rfl) (by simp) (AllReadyH.cons (o := ⟨some 7, _, _, _, _, _⟩) rfl (fun K hK => ?_) AllReadyH.nil)
    refine wp_buildIn (.tmp 6) rfl cs HCL.out rfl ?_
    rw [HW3.out]
    refine hK.out _ _ ?_ (fun hHeld => ?_)
    · trivial
    clear hK K
    try simp only [Act.put, List.setIfInBounds_toArray, List.set_cons_zero, List.set_cons_succ]
    refine wpAnyH_ready (rs := [7]) (by kernel_rfl) (by simp) (AllReadyH.cons (o := ⟨some 8, _, _, _, _, _⟩) rfl (fun K hK => ?_) AllReadyH.nil)
    refine wp_append_many (R := fun W => InO W w0.heap.size) (.tmp 2) (.tmp 7) 23 rfl w0.heap.size i1 _ 96 Try.underlying23 HI1.out.1 HI1.out.2.1 HI1.out.2.2.1 HI1.out.2.2.2 (by rfl) (by decide) _ _ rfl HOW.out w.heap.size 1 cs t.ins[0] rfl HBX.out HCL.out HIN.out HONE.out HLE.out (by decide) HB3.out.size [5, 29, 35, 26] (by decide) (fun w' cs d hk h => h.turn hk (by decide) (by decide) (Nat.le_refl _)) ?_
    intro v6 w6 hm6 hg6 hk6
    obtain ⟨L6, hL6⟩ : ∃ L, t.ins ++ [t.ins[0]] = L := ⟨_, rfl⟩
    rw [hL6] at hm6
    have HM6 := Kp.mk hm6
    have HK6 := Kp.mk hk6
    have HG6 := Kp.mk hg6
    obtain ⟨A6, c6, rfl⟩ := hm6.slice
    have hx6 := Keeps.box hk6 (by decide) HX3.out
    have f1 := hx6.warm 1
    have c16 := hx6.cell 1
    have HL6 := Kp.mk hL6
    clear hm6 hg6 hk6 hx6 hL6
    refine hK.out _ _ ?_ (fun hHeld => ?_)
    · trivial
    clear hK K
    try simp only [Act.put, List.setIfInBounds_toArray, List.set_cons_zero, List.set_cons_succ]
    refine wpAnyH_take (i := 8) (oi := ⟨some 9, _, _, _, _, _⟩) (v := ?_) rfl (by kernel_rfl) (by kernel_rfl) (by kernel_rfl) (fun _ _ _ h => h) (Or.inl ⟨by rfl, ?_⟩) hHeld ?_
    rotate_left
    · (intro wx hSw; (try dsimp only at hSw); go_simp; try with_reducible rfl)
    try simp only [Act.put, List.setIfInBounds_toArray, List.set_cons_zero, List.set_cons_succ]
    refine wpAnyH_ready (rs := [9]) (by kernel_rfl) (by simp) (AllReadyH.cons (o := ⟨none, _, _, _, _, _⟩) rfl (fun K hK => ?_) AllReadyH.nil)
    go_simp
    refine hK.out _ _ ?_ (fun hHeld => ?_)
    · trivial
    clear hK K
    try simp only [Act.put, List.setIfInBounds_toArray, List.set_cons_zero, List.set_cons_succ]
    refine wpAnyH_done (by kernel_rfl) ?_ _
    refine NoPanic.normal ?_
    go_wp2
    go_end0
    exact HE.out _ _ _ _ HL6.out HM6.out HK6.out HG6.out
  · go_simp
    refine hK.out _ _ ?_ (fun hHeld => ?_)
    · trivial
    clear hK K
    try simp only [Act.put, List.setIfInBounds_toArray, List.set_cons_zero, List.set_cons_succ]
    refine wpAnyH_take (i := 4) (oi := ⟨some 5, _, _, _, _, _⟩) (v := ?_) rfl (by kernel_rfl) (by kernel_rfl) (by kernel_rfl) (fun _ _ _ h => h) (Or.inl ⟨by rfl, ?_⟩) hHeld ?_
    rotate_left
    · (intro wx hSw; (try dsimp only at hSw); go_simp; try with_reducible rfl)
    try simp only [Act.put, List.setIfInBounds_toArray, List.set_cons_zero, List.set_cons_succ]
    refine wpAnyH_ready (rs := [1, 5]) (by kernel_rfl) (by simp) (AllReadyH.cons (o := ⟨some 2, _, _, _, _, _⟩) rfl (fun K hK => ?_) (AllReadyH.cons (o := ⟨some 6, _, _, _, _, _⟩) rfl (fun K hK => ?_) AllReadyH.nil))
    · go_simp
      refine hK.out _ _ ?_ (fun hHeld => ?_)
      · trivial
      clear hK K
      try simp only [Act.put, List.setIfInBounds_toArray, List.set_cons_zero, List.set_cons_succ]
      refine wpAnyH_ready (rs := [5]) (by kernel_rfl) (by simp) (AllReadyH.cons (o := ⟨some 6, _, _, _, _, _⟩) rfl (fun K hK => ?_) AllReadyH.nil)
      refine wp_load_mid 32 (.tmp 5) rfl gi 0 rfl cs _ HRD.out Try.underlying32 rfl HSZ1.out ?_
      refine hK.out _ _ ?_ (fun hHeld => ?_)
      · trivial
      clear hK K
      try simp only [Act.put, List.setIfInBounds_toArray, List.set_cons_zero, List.set_cons_succ]
      refine wpAnyH_ready (rs := [6]) (by kernel_rfl) (by simp) (AllReadyH.cons (o := ⟨some 7, _, _, _, _, _⟩) rfl (fun K hK => ?_) AllReadyH.nil)
      refine wp_buildIn (.tmp 6) rfl cs HCL.out rfl ?_
      rw [HW3.out]
      refine hK.out _ _ ?_ (fun hHeld => ?_)
      · trivial
      clear hK K
      try simp only [Act.put, List.setIfInBounds_toArray, List.set_cons_zero, List.set_cons_succ]
      refine wpAnyH_ready (rs := [7]) (by kernel_rfl) (by simp) (AllReadyH.cons (o := ⟨some 8, _, _, _, _, _⟩) rfl (fun K hK => ?_) AllReadyH.nil)
      refine wp_append_many (R := fun W => InO W w0.heap.size) (.tmp 2) (.tmp 7) 23 rfl w0.heap.size i1 _ 96 Try.underlying23 HI1.out.1 HI1.out.2.1 HI1.out.2.2.1 HI1.out.2.2.2 (by rfl) (by decide) _ _ rfl HOW.out w.heap.size 1 cs t.ins[0] rfl HBX.out HCL.out HIN.out HONE.out HLE.out (by decide) HB3.out.size [5, 29, 35, 26] (by decide) (fun w' cs d hk h => h.turn hk (by decide) (by decide) (Nat.le_refl _)) ?_
      intro v6 w6 hm6 hg6 hk6
      obtain ⟨L6, hL6⟩ : ∃ L, t.ins ++ [t.ins[0]] = L := ⟨_, rfl⟩
      rw [hL6] at hm6
      have HM6 := Kp.mk hm6
      have HK6 := Kp.mk hk6
      have HG6 := Kp.mk hg6
      obtain ⟨A6, c6, rfl⟩ := hm6.slice
      have hx6 := Keeps.box hk6 (by decide) HX3.out
      have f1 := hx6.warm 1
      have c16 := hx6.cell 1
      have HL6 := Kp.mk hL6
      clear hm6 hg6 hk6 hx6 hL6
      refine hK.out _ _ ?_ (fun hHeld => ?_)
      · trivial
      clear hK K
      try simp only [Act.put, List.setIfInBounds_toArray, List.set_cons_zero, List.set_cons_succ]
      refine wpAnyH_take (i := 8) (oi := ⟨some 9, _, _, _, _, _⟩) (v := ?_) rfl (by kernel_rfl) (by kernel_rfl) (by kernel_rfl) (fun _ _ _ h => h) (Or.inl ⟨by rfl, ?_⟩) hHeld ?_
      rotate_left
      · (intro wx hSw; (try dsimp only at hSw); go_simp; try with_reducible rfl)
      try simp only [Act.put, List.setIfInBounds_toArray, List.set_cons_zero, List.set_cons_succ]
      refine wpAnyH_ready (rs := [9]) (by kernel_rfl) (by simp) (AllReadyH.cons (o := ⟨none, _, _, _, _, _⟩) rfl (fun K hK => ?_) AllReadyH.nil)
      go_simp
      refine hK.out _ _ ?_ (fun hHeld => ?_)
      · trivial
      clear hK K
      try simp only [Act.put, List.setIfInBounds_toArray, List.set_cons_zero, List.set_cons_succ]
      refine wpAnyH_done (by kernel_rfl) ?_ _
      refine NoPanic.normal ?_
      go_wp2
      go_end0
      exact HE.out _ _ _ _ HL6.out HM6.out HK6.out HG6.out
    · refine wp_load_mid 32 (.tmp 5) rfl gi 0 rfl cs _ HRD.out Try.underlying32 rfl HSZ1.out ?_
      refine hK.out _ _ ?_ (fun hHeld => ?_)
      · trivial
      clear hK K
      try simp only [Act.put, List.setIfInBounds_toArray, List.set_cons_zero, List.set_cons_succ]
      refine wpAnyH_ready (rs := [1, 6]) (by kernel_rfl) (by simp) (AllReadyH.cons (o := ⟨some 2, _, _, _, _, _⟩) rfl (fun K hK => ?_) (AllReadyH.cons (o := ⟨some 7, _, _, _, _, _⟩) rfl (fun K hK => ?_) AllReadyH.nil))
      · go_simp
        refine hK.out _ _ ?_ (fun hHeld => ?_)
        · trivial
        clear hK K
        try simp only [Act.put, List.setIfInBounds_toArray, List.set_cons_zero, List.set_cons_succ]
        refine wpAnyH_ready (rs := [6]) (by kernel_rfl) (by simp) (AllReadyH.cons (o := ⟨some 7, _, _, _, _, _⟩) rfl (fun K hK => ?_) AllReadyH.nil)
        refine wp_buildIn (.tmp 6) rfl cs HCL.out rfl ?_
        rw [HW3.out]
        refine hK.out _ _ ?_ (fun hHeld => ?_)
        · trivial
        clear hK K
        try simp only [Act.put, List.setIfInBounds_toArray, List.set_cons_zero, List.set_cons_succ]
        refine wpAnyH_ready (rs := [7]) (by kernel_rfl) (by simp) (AllReadyH.cons (o := ⟨some 8, _, _, _, _, _⟩) rfl (fun K hK => ?_) AllReadyH.nil)
        refine wp_append_many (R := fun W => InO W w0.heap.size) (.tmp 2) (.tmp 7) 23 rfl w0.heap.size i1 _ 96 Try.underlying23 HI1.out.1 HI1.out.2.1 HI1.out.2.2.1 HI1.out.2.2.2 (by rfl) (by decide) _ _ rfl HOW.out w.heap.size 1 cs t.ins[0] rfl HBX.out HCL.out HIN.out HONE.out HLE.out (by decide) HB3.out.size [5, 29, 35, 26] (by decide) (fun w' cs d hk h => h.turn hk (by decide) (by decide) (Nat.le_refl _)) ?_
        intro v6 w6 hm6 hg6 hk6
        obtain ⟨L6, hL6⟩ : ∃ L, t.ins ++ [t.ins[0]] = L := ⟨_, rfl⟩
        rw [hL6] at hm6
        have HM6 := Kp.mk hm6
        have HK6 := Kp.mk hk6
        have HG6 := Kp.mk hg6
        obtain ⟨A6, c6, rfl⟩ := hm6.slice
        have hx6 := Keeps.box hk6 (by decide) HX3.out
        have f1 := hx6.warm 1
        have c16 := hx6.cell 1
        have HL6 := Kp.mk hL6
        clear hm6 hg6 hk6 hx6 hL6
        refine hK.out _ _ ?_ (fun hHeld => ?_)
        · trivial
        clear hK K
        try simp only [Act.put, List.setIfInBounds_toArray, List.set_cons_zero, List.set_cons_succ]
        refine wpAnyH_take (i := 8) (oi := ⟨some 9, _, _, _, _, _⟩) (v := ?_) rfl (by kernel_rfl) (by kernel_rfl) (by kernel_rfl) (fun _ _ _ h => h) (Or.inl ⟨by rfl, ?_⟩) hHeld ?_
        rotate_left
        · (intro wx hSw; (try dsimp only at hSw); go_simp; try with_reducible rfl)
        try simp only [Act.put, List.setIfInBounds_toArray, List.set_cons_zero, List.set_cons_succ]
        refine wpAnyH_ready (rs := [9]) (by kernel_rfl) (by simp) (AllReadyH.cons (o := ⟨none, _, _, _, _, _⟩) rfl (fun K hK => ?_) AllReadyH.nil)
        go_simp
        refine hK.out _ _ ?_ (fun hHeld => ?_)
        · trivial
        clear hK K
        try simp only [Act.put, List.setIfInBounds_toArray, List.set_cons_zero, List.set_cons_succ]
        refine wpAnyH_done (by kernel_rfl) ?_ _
        refine NoPanic.normal ?_
        go_wp2
        go_end0
        exact HE.out _ _ _ _ HL6.out HM6.out HK6.out HG6.out
      · refine wp_buildIn (.tmp 6) rfl cs HCL.out rfl ?_
        rw [HW3.out]
        refine hK.out _ _ ?_ (fun hHeld => ?_)
        · trivial
        clear hK K
        try simp only [Act.put, List.setIfInBounds_toArray, List.set_cons_zero, List.set_cons_succ]
        refine wpAnyH_ready (rs := [1]) (by kernel_rfl) (by simp) (AllReadyH.cons (o := ⟨some 2, _, _, _, _, _⟩) rfl (fun K hK => ?_) AllReadyH.nil)
        go_simp
        refine hK.out _ _ ?_ (fun hHeld => ?_)
        · trivial
        clear hK K
        try simp only [Act.put, List.setIfInBounds_toArray, List.set_cons_zero, List.set_cons_succ]
        refine wpAnyH_ready (rs := [7]) (by kernel_rfl) (by simp) (AllReadyH.cons (o := ⟨some 8, _, _, _, _, _⟩) rfl (fun K hK => ?_) AllReadyH.nil)
        refine wp_append_many (R := fun W => InO W w0.heap.size) (.tmp 2) (.tmp 7) 23 rfl w0.heap.size i1 _ 96 Try.underlying23 HI1.out.1 HI1.out.2.1 HI1.out.2.2.1 HI1.out.2.2.2 (by rfl) (by decide) _ _ rfl HOW.out w.heap.size 1 cs t.ins[0] rfl HBX.out HCL.out HIN.out HONE.out HLE.out (by decide) HB3.out.size [5, 29, 35, 26] (by decide) (fun w' cs d hk h => h.turn hk (by decide) (by decide) (Nat.le_refl _)) ?_
        intro v6 w6 hm6 hg6 hk6
        obtain ⟨L6, hL6⟩ : ∃ L, t.ins ++ [t.ins[0]] = L := ⟨_, rfl⟩
        rw [hL6] at hm6
        have HM6 := Kp.mk hm6
        have HK6 := Kp.mk hk6
        have HG6 := Kp.mk hg6
        obtain ⟨A6, c6, rfl⟩ := hm6.slice
        have hx6 := Keeps.box hk6 (by decide) HX3.out
        have f1 := hx6.warm 1
        have c16 := hx6.cell 1
        have HL6 := Kp.mk hL6
        clear hm6 hg6 hk6 hx6 hL6
        refine hK.out _ _ ?_ (fun hHeld => ?_)
        · trivial
        clear hK K
        try simp only [Act.put, List.setIfInBounds_toArray, List.set_cons_zero, List.set_cons_succ]
        refine wpAnyH_take (i := 8) (oi := ⟨some 9, _, _, _, _, _⟩) (v := ?_) rfl (by kernel_rfl) (by kernel_rfl) (by kernel_rfl) (fun _ _ _ h => h) (Or.inl ⟨by rfl, ?_⟩) hHeld ?_
        rotate_left
        · (intro wx hSw; (try dsimp only at hSw); go_simp; try with_reducible rfl)
        try simp only [Act.put, List.setIfInBounds_toArray, List.set_cons_zero, List.set_cons_succ]
        refine wpAnyH_ready (rs := [9]) (by kernel_rfl) (by simp) (AllReadyH.cons (o := ⟨none, _, _, _, _, _⟩) rfl (fun K hK => ?_) AllReadyH.nil)
        go_simp
        refine hK.out _ _ ?_ (fun hHeld => ?_)
        · trivial
        clear hK K
        try simp only [Act.put, List.setIfInBounds_toArray, List.set_cons_zero, List.set_cons_succ]
        refine wpAnyH_done (by kernel_rfl) ?_ _
        refine NoPanic.normal ?_
        go_wp2
        go_end0
        exact HE.out _ _ _ _ HL6.out HM6.out HK6.out HG6.out
end Go.Proofs.Ytbnclajhgkjopaa
