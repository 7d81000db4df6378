/- One thing of a transaction turned in memory: another transaction lies there. No program. -/
import Derived.Test.YtpbhlnmhaociiaaSmC
namespace Go.Proofs.Ytpbhlnmhaociiaa
open Go.RowKit

/-- In the box gb lies another transaction than T, that may be. -/
def Tb (w : World) (gb : Nat) (T : TxD) : Prop := ∃ (tb : TxD) (Ai Ao : Option Addr) (c1 c2 : Nat), tb ≠ T ∧ MayF tb ∧
  Box w gb 26 #[.int .u32 tb.version, .slice Ai tb.ins.length c1, .slice Ao tb.outs.length c2, .int .u32 tb.lock] ∧
  TxR w (.agg #[.int .u32 tb.version, .slice Ai tb.ins.length c1, .slice Ao tb.outs.length c2, .int .u32 tb.lock]) tb
/-- T lies in the box gb, its rows in blocks of the call's own. -/
structure Bun (w : World) (B gb gi go ci co : Nat) (T : TxD) : Prop where
  box : Box w gb 26 #[.int .u32 T.version, .slice (some ⟨gi, 0, none⟩) T.ins.length ci, .slice (some ⟨go, 0, none⟩) T.outs.length co, .int .u32 T.lock]
  ins : OwnMany 36 51 (InO w B) w B (.slice (some ⟨gi, 0, none⟩) T.ins.length ci) T.ins
  outs : OwnMany 2 55 (OutF w B) w B (.slice (some ⟨go, 0, none⟩) T.outs.length co) T.outs
  xi : ∃ C, Box w gi 51 C
  xo : ∃ C, Box w go 55 C
  sm : SmallT T
theorem may_like {T t : TxD} (hs : SmallT T) (h1 : t.ins.length = T.ins.length) (h2 : t.outs.length = T.outs.length) (hi : ∀ d ∈ t.ins, d.script.length ≤ 500 ∧ d.wit.length ≤ 10 ∧ ∀ x ∈ d.wit, x.length ≤ 500) (ho : ∀ d ∈ t.outs, d.script.length ≤ 500) : MayF t := by
  have := hs.i1
  have := hs.i4
  have := hs.o1
  have := hs.o4
  exact ⟨by omega, by omega, by omega, by omega, fun d hd => (hi d hd).1, fun d hd => (hi d hd).2.1, fun d hd => (hi d hd).2.2, ho⟩
section
set_option maxRecDepth 100000
variable {w w' : World} {B gb gi go ci co : Nat} {T : TxD}
theorem SmallT.in500 (hs : SmallT T) {d : InD} (hd : d ∈ T.ins) : d.script.length ≤ 500 ∧ d.wit.length ≤ 10 ∧ ∀ x ∈ d.wit, x.length ≤ 500 := by
  have h1 := hs.scr d hd
  have h2 := hs.wit d hd
  exact ⟨by omega, by omega, fun x hx => by have := h2.2 x hx; omega⟩
theorem SmallT.out500 (hs : SmallT T) {d : OutD} (hd : d ∈ T.outs) : d.script.length ≤ 500 := by
  have := (hs.out d hd).1
  omega
theorem Bun.turn (h : Bun w B gb gi go ci co T) (hk : Keeps [5, 27, 51, 55, 26] w w') : Bun w' B gb gi go ci co T := by
  obtain ⟨Ci, hxi⟩ := h.xi
  obtain ⟨Co, hxo⟩ := h.xo
  exact ⟨hk.2 _ _ _ (by decide) h.box, OwnMany.turn h.ins hk (by decide) (Nat.le_refl _) (fun cs d h => InO.turn h hk (by decide) (by decide) (Nat.le_refl _)),
    OwnMany.turn h.outs hk (by decide) (Nat.le_refl _) (fun cs d h => OutF.keeps h hk (by decide)), ⟨Ci, hk.2 _ _ _ (by decide) hxi⟩, ⟨Co, hk.2 _ _ _ (by decide) hxo⟩, h.sm⟩
theorem Bun.insR (h : Bun w B gb gi go ci co T) (hk : Keeps [5, 27, 51] w w') : InsR w' (.slice (some ⟨gi, 0, none⟩) T.ins.length ci) T.ins :=
  OwnMany.many (OwnMany.turn h.ins hk (by decide) (Nat.le_refl _) (fun cs d h => InO.turn h hk (by decide) (by decide) (Nat.le_refl _))) fun _ _ h => h.inR
theorem Bun.outsR (h : Bun w B gb gi go ci co T) (hk : Keeps [5, 55] w w') : OutsR w' (.slice (some ⟨go, 0, none⟩) T.outs.length co) T.outs :=
  OwnMany.many (OwnMany.turn h.outs hk (by decide) (Nat.le_refl _) (fun cs d h => OutF.keeps h hk (by decide))) fun _ _ h => h.outR
theorem Bun.tb_ver (h : Bun w B gb gi go ci co T) : Tb (w.setCell ⟨gb, 0, none⟩ (.int .u32 ((T.version : Int) + 1))) gb T := by
  have hk : Keeps [5, 27, 51, 55] w (w.setCell ⟨gb, 0, none⟩ (.int .u32 ((T.version : Int) + 1))) := Keeps.of_set h.box (by decide) _ _
  have hv := h.sm.ver
  have hl := h.sm.lck
  refine ⟨{ T with version := T.version + 1 }, _, _, _, _, fun e => ?_, may_like h.sm rfl rfl (fun d hd => h.sm.in500 hd) (fun d hd => h.sm.out500 hd), h.box.set 0 _, _, _, rfl, ?_, ?_, h.insR (hk.sub (by decide)), h.outsR (hk.sub (by decide))⟩
  · have := congrArg TxD.version e
    simp at this
  · show T.version + 1 < 4294967296
    omega
  · show T.lock < 4294967296
    omega
theorem Bun.tb_lock (h : Bun w B gb gi go ci co T) : Tb (w.setCell ⟨gb, 3, none⟩ (.int .u32 ((T.lock : Int) + 1))) gb T := by
  have hk : Keeps [5, 27, 51, 55] w (w.setCell ⟨gb, 3, none⟩ (.int .u32 ((T.lock : Int) + 1))) := Keeps.of_set h.box (by decide) _ _
  have hv := h.sm.ver
  have hl := h.sm.lck
  refine ⟨{ T with lock := T.lock + 1 }, _, _, _, _, fun e => ?_, may_like h.sm rfl rfl (fun d hd => h.sm.in500 hd) (fun d hd => h.sm.out500 hd), h.box.set 3 _, _, _, rfl, ?_, ?_, h.insR (hk.sub (by decide)), h.outsR (hk.sub (by decide))⟩
  · have := congrArg TxD.lock e
    simp at this
  · show T.version < 4294967296
    omega
  · show T.lock + 1 < 4294967296
    omega
/-- One cell of the first input turned. -/
theorem Bun.tb_in (h : Bun w B gb gi go ci co T) {j : Nat} (hj : j < 36) (u : Value) (d' : InD) (hl : d'.script = T.ins[0]!.script ∧ d'.wit = T.ins[0]!.wit) (hne : d' ≠ T.ins[0]!)
    (hd : ∀ cs, cs.length = 36 → ∀ W, InO W B cs T.ins[0]! → InO W B (cs.set j u) d') : Tb (w.setCell ⟨gi, j, none⟩ u) gb T := by
  obtain ⟨Ci, hxi⟩ := h.xi
  have hk : Keeps [5, 27, 55, 26] w (w.setCell ⟨gi, j, none⟩ u) := Keeps.of_set hxi (by decide) _ _
  have h0 := h.sm.i1
  have hv := h.sm.ver
  have hlk := h.sm.lck
  have hg : T.ins[0]! = T.ins[0] := by simp [h0]
  rw [hg] at hl hne hd
  have hown : OwnMany 36 51 (InO (w.setCell ⟨gi, j, none⟩ u) B) (w.setCell ⟨gi, j, none⟩ u) B (.slice (some ⟨gi, 0, none⟩) T.ins.length ci) (T.ins.set 0 d') := by
    have := OwnMany.cellSet (i := 0) h.ins h0 hj u d' (R' := InO (w.setCell ⟨gi, 0 * 36 + j, none⟩ u) B) (fun cs d h => by
      exact InO.turn (ts := [5, 27, 55, 26]) h (by rw [Nat.zero_mul, Nat.zero_add]; exact hk) (by decide) (by decide) (Nat.le_refl _)) (fun cs hc h => hd cs hc _ (InO.turn (ts := [5, 27, 55, 26]) h (by rw [Nat.zero_mul, Nat.zero_add]; exact hk) (by decide) (by decide) (Nat.le_refl _)))
    rw [Nat.zero_mul, Nat.zero_add] at this
    exact this
  have hins := OwnMany.many hown fun _ _ h => h.inR
  have hlen : (T.ins.set 0 d').length = T.ins.length := List.length_set
  refine ⟨{ T with ins := T.ins.set 0 d' }, some ⟨gi, 0, none⟩, some ⟨go, 0, none⟩, ci, co, fun e => ?_, may_like h.sm hlen rfl (fun d hd => ?_) (fun d hd => h.sm.out500 hd), ?_, _, _, rfl, ?_, ?_, ?_, h.outsR (hk.sub (by decide))⟩
  · have := congrArg TxD.ins e
    simp only at this
    have h1 : (T.ins.set 0 d')[0]? = T.ins[0]? := by rw [this]
    rw [List.getElem?_set, if_pos rfl, if_pos h0, List.getElem?_eq_getElem h0] at h1
    exact hne (Option.some.inj h1)
  · rcases List.mem_or_eq_of_mem_set hd with hd | rfl
    · exact h.sm.in500 hd
    · rw [hl.1, hl.2]
      exact h.sm.in500 (List.getElem_mem h0)
  · show Box _ _ _ #[_, .slice _ (T.ins.set 0 d').length _, _, _]
    rw [hlen]
    exact hk.2 _ _ _ (by decide) h.box
  · show T.version < 4294967296
    omega
  · show T.lock < 4294967296
    omega
  · show InsR _ (.slice _ (T.ins.set 0 d').length _) _
    rw [hlen]
    exact hins
theorem Bun.cell_in (h : Bun w B gb gi go ci co T) {j : Nat} (hj : j < 36) : ∃ cs, cs.length = 36 ∧ InO w B cs T.ins[0]! ∧ w.cell? ⟨gi, j, none⟩ = cs[j]? ∧ w.frozen? ⟨gi, j, none⟩ = false := by
  have h0 := h.sm.i1
  have hg : T.ins[0]! = T.ins[0] := by simp [h0]
  rw [hg]
  have := OwnMany.cell (i := 0) h.ins h0 hj
  rw [Nat.zero_mul, Nat.zero_add] at this
  exact this
theorem Bun.cell_out (h : Bun w B gb gi go ci co T) {j : Nat} (hj : j < 2) : ∃ cs, cs.length = 2 ∧ OutF w B cs T.outs[0]! ∧ w.cell? ⟨go, j, none⟩ = cs[j]? ∧ w.frozen? ⟨go, j, none⟩ = false := by
  have h0 := h.sm.o1
  have hg : T.outs[0]! = T.outs[0] := by simp [h0]
  rw [hg]
  have := OwnMany.cell (i := 0) h.outs h0 hj
  rw [Nat.zero_mul, Nat.zero_add] at this
  exact this
theorem Bun.in0 (h : Bun w B gb gi go ci co T) : T.ins[0]! ∈ T.ins := by
  have h0 := h.sm.i1
  have hg : T.ins[0]! = T.ins[0] := by simp [h0]
  rw [hg]
  exact List.getElem_mem h0
theorem Bun.out0 (h : Bun w B gb gi go ci co T) : T.outs[0]! ∈ T.outs := by
  have h0 := h.sm.o1
  have hg : T.outs[0]! = T.outs[0] := by simp [h0]
  rw [hg]
  exact List.getElem_mem h0
theorem Bun.tb_prev (h : Bun w B gb gi go ci co T) (y : Int) (hy : 0 ≤ y ∧ y ≤ 255) (hne : T.ins[0]!.prev.getD 9 0 ≠ y) : Tb (w.setCell ⟨gi, 9, none⟩ (.int .u8 y)) gb T := by
  obtain ⟨cs, hc, ⟨sv, wv, rfl, hf, _⟩, _⟩ := h.cell_in (j := 9) (by omega)
  refine h.tb_in (by omega) _ { T.ins[0]! with prev := T.ins[0]!.prev.set 9 y } ⟨rfl, rfl⟩ (fun e => ?_) fun cs hc W hin => ?_
  · have := congrArg InD.prev e
    simp only at this
    have h1 : (T.ins[0]!.prev.set 9 y).getD 9 0 = T.ins[0]!.prev.getD 9 0 := by rw [this]
    rw [List.getD_eq_getElem?_getD, List.getElem?_set, if_pos rfl, if_pos (by rw [hf.plen]; omega)] at h1
    exact hne h1.symm
  · obtain ⟨sv, wv, rfl, hf, h1, h2, h3⟩ := hin
    refine ⟨sv, wv, ?_, ⟨by rw [List.length_set]; exact hf.plen, fun x hx => ?_, hf.vlt, hf.slt⟩, h1, h2, h3⟩
    · unfold inCells
      rw [List.set_append, if_pos (by unfold byteVals; rw [List.length_map, hf.plen]; omega)]
      unfold byteVals
      rw [List.map_set]
    · rcases List.mem_or_eq_of_mem_set hx with hx | rfl
      · exact hf.pbys x hx
      · exact hy
theorem Bun.tb_seq (h : Bun w B gb gi go ci co T) : Tb (w.setCell ⟨gi, 34, none⟩ (.int .u32 ((T.ins[0]!.seq : Int) - 1))) gb T := by
  have hs := h.sm.seq _ h.in0
  have he : ∀ s : Nat, 0 < s → ((s : Int) - 1) = ((s - 1 : Nat) : Int) := fun s h => by omega
  rw [he _ hs]
  refine h.tb_in (by omega) _ { T.ins[0]! with seq := T.ins[0]!.seq - 1 } ⟨rfl, rfl⟩ (fun e => ?_) fun cs hc W hin => ?_
  · have := congrArg InD.seq e
    simp only at this
    omega
  · obtain ⟨sv, wv, rfl, hf, h1, h2, h3⟩ := hin
    have h5 := hf.slt
    refine ⟨sv, wv, ?_, ⟨hf.plen, hf.pbys, hf.vlt, by show T.ins[0]!.seq - 1 < 4294967296; omega⟩, h1, h2, h3⟩
    unfold inCells
    have hl : (byteVals T.ins[0]!.prev).length = 32 := by unfold byteVals; rw [List.length_map, hf.plen]
    rw [List.set_append, if_neg (by omega), hl]
    rfl
/-- The first output turned; what reads otherwise has as long a script. -/
theorem tb_out {wx : World} {ds : List InD} {do_ : OutD} {os : List OutD} (hs : SmallT T) (hi : InsR wx (.slice (some ⟨gi, 0, none⟩) ds.length ci) ds) (hil : ds.length = T.ins.length)
    (his : ∀ d ∈ ds, d.script.length ≤ 500 ∧ d.wit.length ≤ 10 ∧ ∀ x ∈ d.wit, x.length ≤ 500) (ho : OutsR wx (.slice (some ⟨go, 0, none⟩) (os.set 0 do_).length co) (os.set 0 do_)) (hol : os.length = T.outs.length)
    (hos : ∀ d ∈ os, d.script.length ≤ 500) (hd : do_.script.length ≤ 500) (hne : do_ ≠ T.outs[0]!)
    (hb : Box wx gb 26 #[.int .u32 T.version, .slice (some ⟨gi, 0, none⟩) T.ins.length ci, .slice (some ⟨go, 0, none⟩) T.outs.length co, .int .u32 T.lock]) : Tb wx gb T := by
  have hv := hs.ver
  have hlk := hs.lck
  have h0 := hs.o1
  have hg : T.outs[0]! = T.outs[0] := by simp [h0]
  rw [hg] at hne
  have hlen : (os.set 0 do_).length = T.outs.length := by rw [List.length_set]; exact hol
  refine ⟨{ T with ins := ds, outs := os.set 0 do_ }, some ⟨gi, 0, none⟩, some ⟨go, 0, none⟩, ci, co, fun e => ?_, may_like hs hil hlen his (fun d hd' => ?_), ?_, _, _, rfl, ?_, ?_, hi, ho⟩
  · have := congrArg TxD.outs e
    simp only at this
    have h1 : (os.set 0 do_)[0]? = T.outs[0]? := by rw [this]
    rw [List.getElem?_set, if_pos rfl, if_pos (by omega), List.getElem?_eq_getElem h0] at h1
    exact hne (Option.some.inj h1)
  · rcases List.mem_or_eq_of_mem_set hd' with hd' | rfl
    · exact hos d hd'
    · exact hd
  · show Box _ _ _ #[_, .slice _ ds.length _, .slice _ (os.set 0 do_).length _, _]
    rw [hlen, hil]
    exact hb
  · show T.version < 4294967296
    omega
  · show T.lock < 4294967296
    omega
theorem Bun.tb_val (h : Bun w B gb gi go ci co T) : Tb (w.setCell ⟨go, 0, none⟩ (.int .u64 ((T.outs[0]!.value : Int) + 1))) gb T := by
  obtain ⟨Co, hxo⟩ := h.xo
  have hk : Keeps [5, 27, 51, 26] w (w.setCell ⟨go, 0, none⟩ (.int .u64 ((T.outs[0]!.value : Int) + 1))) := Keeps.of_set hxo (by decide) _ _
  have h0 := h.sm.o1
  have hg : T.outs[0]! = T.outs[0] := by simp [h0]
  have ho := h.sm.out _ h.out0
  have hown := OwnMany.cellSet (i := 0) (j := 0) h.outs h0 (by omega) (.int .u64 ((T.outs[0]!.value : Int) + 1)) (⟨T.outs[0]!.value + 1, T.outs[0]!.script⟩ : OutD) (R' := OutF (w.setCell ⟨go, 0, none⟩ (.int .u64 ((T.outs[0]!.value : Int) + 1))) B) (fun cs d h => OutF.keeps h hk (by decide)) (fun cs hc h => by
    rw [← hg] at h
    obtain ⟨sv, rfl, h1, h2⟩ := h
    exact ⟨sv, rfl, by show T.outs[0]!.value + 1 < 18446744073709551616; omega, h2.keeps hk (by decide)⟩)
  refine tb_out (do_ := ⟨T.outs[0]!.value + 1, T.outs[0]!.script⟩) (os := T.outs) h.sm (h.insR (hk.sub (by decide))) rfl (fun d hd => h.sm.in500 hd) ?_ rfl (fun d hd => h.sm.out500 hd) ?_ (fun e => ?_) (hk.2 _ _ _ (by decide) h.box)
  · rw [List.length_set]
    exact OwnMany.many hown fun _ _ h => h.outR
  · show T.outs[0]!.script.length ≤ 500
    omega
  · have := congrArg OutD.value e
    simp at this
theorem SmallT.like (hs : SmallT T) {d' : InD} (h : ∃ d ∈ T.ins, LikeIn d d') : d'.script.length ≤ 500 ∧ d'.wit.length ≤ 2 ∧ ∀ x ∈ d'.wit, x.length ≤ 500 := by
  obtain ⟨d, hd, h1, h2, h3⟩ := h
  have e1 := hs.scr d hd
  have e2 := hs.wit d hd
  refine ⟨by omega, by omega, fun x hx => ?_⟩
  rcases h3 x hx with h | ⟨x0, h4, h5⟩
  · omega
  · have := e2.2 x0 h4
    omega
/-- An output in memory. -/
def OutT (w : World) (cs : List Value) (d : OutD) : Prop := ∃ sv, cs = [.int .u64 d.value, sv] ∧ d.value < 18446744073709551616 ∧ RbT w sv d.script
theorem Bun.tb_script (h : Bun w B gb gi go ci co T) {v' : Value} {y : Int} (hy : 0 ≤ y ∧ y ≤ 255) (ho : Own w' B 5 v' (T.outs[0]!.script ++ [y])) (hk : Keeps [27, 51, 55, 26] w w') (hp : Pk 5 (.int .u8 y) w w') :
    Tb (w'.setCell ⟨go, 1, none⟩ v') gb T := by
  obtain ⟨Co, hxo⟩ := h.xo
  have hxo' : Box w' go 55 Co := hk.2 _ _ _ (by decide) hxo
  have k2 : Keeps [5, 27, 51, 26] w' (w'.setCell ⟨go, 1, none⟩ v') := Keeps.of_set hxo' (by decide) 1 v'
  have kx : Keeps [27, 51, 26] w (w'.setCell ⟨go, 1, none⟩ v') := (hk.sub (by decide)).trans (k2.sub (by decide))
  have px : Pk 5 (.int .u8 y) w (w'.setCell ⟨go, 1, none⟩ v') := hp.trans (Pk.of_keeps _ k2 (by decide))
  have h0 := h.sm.o1
  obtain ⟨ds, hdl, hins, hlike⟩ := OwnMany.other (R' := InR (w'.setCell ⟨go, 1, none⟩ v')) (S := LikeIn) h.ins kx (by decide) fun cs d hd => hd.pk8 hy px (kx.sub (by decide))
  obtain ⟨os, hol, houts, hosl⟩ := OwnMany.other (R' := OutT (w'.setCell ⟨go, 1, none⟩ v')) (S := fun d d' : OutD => d'.script.length = d.script.length) h.outs hk (by decide) fun cs d ⟨sv, hc, hv, hr⟩ => by
    obtain ⟨l', h1, h2⟩ := hr.rbT.pk hy px
    exact ⟨⟨d.value, l'⟩, ⟨sv, hc, hv, h2⟩, h1⟩
  obtain ⟨_, _, ⟨_, _, _, hbys, _⟩, _⟩ := h.cell_out (j := 1) (by omega)
  have hby : Bys (T.outs[0]!.script ++ [y]) := hbys.app fun x hx => by rw [List.mem_singleton.1 hx]; exact hy
  have h0' : 0 < os.length := by omega
  rw [← hol] at houts
  have hown := OwnMany.cellSet (i := 0) (j := 1) houts h0' (by omega) v' (⟨os[0].value, T.outs[0]!.script ++ [y]⟩ : OutD) (R' := OutT (w'.setCell ⟨go, 1, none⟩ v')) (fun cs d h => h) (fun cs hc h => by
    obtain ⟨sv, rfl, h1, h2⟩ := h
    exact ⟨v', rfl, h1, (ho.keeps k2 (by decide)).rbT hby⟩)
  have hob := (h.sm.out _ h.out0).1
  refine tb_out (do_ := ⟨os[0].value, T.outs[0]!.script ++ [y]⟩) (os := os) (ds := ds) h.sm ?_ hdl (fun d hd => ?_) ?_ hol (fun d hd => ?_) ?_ (fun e => ?_) (kx.2 _ _ _ (by decide) h.box)
  · rw [hdl]
    exact OwnMany.many (RR := InR) hins fun _ _ h => h
  · have := h.sm.like (hlike d hd)
    exact ⟨this.1, by omega, this.2.2⟩
  · rw [List.length_set]
    exact OwnMany.many hown fun _ _ ⟨sv, hc, hv, hr⟩ => ⟨sv, hc, hv, hr.1⟩
  · obtain ⟨d0, hd0, he⟩ := hosl d hd
    have := h.sm.out500 hd0
    omega
  · show (T.outs[0]!.script ++ [y]).length ≤ 500
    rw [List.length_append]
    simp only [List.length_singleton]
    omega
  · have := congrArg (fun d => d.script.length) e
    simp only [List.length_append, List.length_singleton] at this
    omega
/-- A witness more. -/
theorem Bun.tb_wit (h : Bun w B gb gi go ci co T) {v' u : Value} (hu : RowO w' B [u] [1]) (hw : OwnRows w' B v' (T.ins[0]!.wit ++ [[1]])) (hk : Keeps [5, 51, 55, 26] w w') (hp : Pk 27 u w w') (hR0 : Keeps [5] w' (w'.setCell ⟨gi, 35, none⟩ v')) :
    Tb (w'.setCell ⟨gi, 35, none⟩ v') gb T := by
  obtain ⟨Ci, hxi⟩ := h.xi
  have hxi' : Box w' gi 51 Ci := hk.2 _ _ _ (by decide) hxi
  have k2 : Keeps [5, 27, 55, 26] w' (w'.setCell ⟨gi, 35, none⟩ v') := Keeps.of_set hxi' (by decide) 35 v'
  have kx : Keeps [5, 55, 26] w (w'.setCell ⟨gi, 35, none⟩ v') := (hk.sub (by decide)).trans (k2.sub (by decide))
  have px : Pk 27 u w (w'.setCell ⟨gi, 35, none⟩ v') := hp.trans (Pk.of_keeps _ k2 (by decide))
  have h0 := h.sm.i1
  have hg : T.ins[0]! = T.ins[0] := by simp [h0]
  have hv := h.sm.ver
  have hlk := h.sm.lck
  have hR : ∀ cs x, RowO w' B cs x → RowR (w'.setCell ⟨gi, 35, none⟩ v') cs x := fun cs x ⟨sv, hc, h1, h2⟩ => ⟨sv, hc, (h1.keeps hR0 (by decide)).rb h2⟩
  obtain ⟨ds, hdl, hins, hlike⟩ := OwnMany.other (R' := InR (w'.setCell ⟨gi, 35, none⟩ v')) (S := LikeIn) h.ins hk (by decide) fun cs d hd => hd.pkR px (kx.sub (by decide)) (hR _ _ hu)
  have h0' : 0 < ds.length := by omega
  rw [← hdl] at hins
  have hwx : Rws (w'.setCell ⟨gi, 35, none⟩ v') v' (T.ins[0]!.wit ++ [[1]]) := OwnMany.many (OwnMany.turn hw k2 (by decide) (Nat.le_refl _) hR) fun _ _ h => h
  have hown := OwnMany.cellSet (i := 0) (j := 35) hins h0' (by omega) v' ({ ds[0] with wit := T.ins[0]!.wit ++ [[1]] } : InD) (R' := InR (w'.setCell ⟨gi, 35, none⟩ v')) (fun cs d h => h) (fun cs hc h => by
    obtain ⟨sv, wv, rfl, hf, h1, h2⟩ := h
    refine ⟨sv, v', ?_, ⟨hf.plen, hf.pbys, hf.vlt, hf.slt⟩, h1, hwx⟩
    unfold inCells
    have hl : (byteVals ds[0].prev).length = 32 := by unfold byteVals; rw [List.length_map, hf.plen]
    rw [List.set_append, if_neg (by omega), hl]
    rfl)
  have hins' := OwnMany.many (RR := InR) hown fun _ _ h => h
  have hlen : (ds.set 0 ({ ds[0] with wit := T.ins[0]!.wit ++ [[1]] } : InD)).length = T.ins.length := by rw [List.length_set]; exact hdl
  refine ⟨{ T with ins := ds.set 0 { ds[0] with wit := T.ins[0]!.wit ++ [[1]] } }, some ⟨gi, 0, none⟩, some ⟨go, 0, none⟩, ci, co, fun e => ?_, may_like h.sm hlen rfl (fun d hd => ?_) (fun d hd => h.sm.out500 hd), ?_, _, _, rfl, ?_, ?_, ?_, h.outsR (kx.sub (by decide))⟩
  · have := congrArg TxD.ins e
    simp only at this
    have h1 : (ds.set 0 ({ ds[0] with wit := T.ins[0]!.wit ++ [[1]] } : InD))[0]? = T.ins[0]? := by rw [this]
    rw [List.getElem?_set, if_pos rfl, if_pos h0', List.getElem?_eq_getElem h0, ← hg] at h1
    have h2 := congrArg (fun d => d.wit.length) (Option.some.inj h1)
    simp only [List.length_append, List.length_singleton] at h2
    omega
  · have hsm := h.sm.wit _ h.in0
    rcases List.mem_or_eq_of_mem_set hd with hd | rfl
    · have := h.sm.like (hlike d hd)
      exact ⟨this.1, by omega, this.2.2⟩
    · have := h.sm.like (hlike _ (List.getElem_mem h0'))
      refine ⟨this.1, ?_, fun x hx => ?_⟩
      · show (T.ins[0]!.wit ++ [[1]]).length ≤ 10
        rw [List.length_append]
        simp only [List.length_singleton]
        omega
      · rcases List.mem_append.1 hx with hx | hx
        · have := hsm.2 x hx
          omega
        · rw [List.mem_singleton.1 hx]
          simp
  · show Box _ _ _ #[_, .slice _ (ds.set 0 _).length _, _, _]
    rw [hlen]
    exact kx.2 _ _ _ (by decide) h.box
  · show T.version < 4294967296
    omega
  · show T.lock < 4294967296
    omega
  · rw [List.length_set]
    exact hins'
/-- 'append(b.Outs[0].Script, 7)', and where it is put. -/
theorem Bun.wp_script (h : Bun w B gb gi go ci co T) (hB : B ≤ w.heap.size) {o : Oper} {a : Act} {K : Act → World → Prop} {Q : Exit → Act → World → Prop} (s x : Operand) (ho : o.op = .call { callee := .builtin .append, args := #[s, x], argTypes := #[27, 27] })
    {y : Int} (hy : 0 ≤ y ∧ y ≤ 255) {sv : Value} (hs : a.eval s = sv) (hsv : w.cell? ⟨go, 1, none⟩ = some sv) {gs c : Nat} (hx : a.eval x = .slice (some ⟨gs, 0, none⟩) 1 c) (hsrc : w.cell? ⟨gs, 0, none⟩ = some (.int .u8 y))
    (hK : ∀ v' w', Below B w w' → w'.frozen? ⟨go, 1, none⟩ = false → Keeps [51, 55, 26] w w' → Tb (w'.setCell ⟨go, 1, none⟩ v') gb T → (∃ x, w'.cell? ⟨go, 1, none⟩ = some x) → (∃ A n c, v' = .slice A n c) → K (a.put o.dst v') w') : Oper.wp Try.prog o a w K Q := by
  obtain ⟨cs, hc, ⟨sv', rfl, _, hr⟩, hcell, _⟩ := h.cell_out (j := 1) (by omega)
  rw [hsv] at hcell
  obtain rfl : sv = sv' := by simpa using hcell
  have hob := (h.sm.out _ h.out0).1
  obtain ⟨v', w', hrn, h1, h2, h3, h4⟩ := run_append_byte (ty := o.type) hr (by omega) (c := c) hsrc hB
  obtain ⟨Co, hxo⟩ := h.xo
  have hxo' : Box w' go 55 Co := h3.2 _ _ _ (by decide) hxo
  have hcx : ∃ x, w'.cell? ⟨go, 1, none⟩ = some x := by
    rw [hxo'.cell]
    have : w.cell? ⟨go, 1, none⟩ = Co[1]? := hxo.cell 1
    rw [hsv] at this
    exact ⟨_, this.symm⟩
  have hone : ∃ A n c, v' = .slice A n c := by
    obtain ⟨A, c, h⟩ := h1.slice
    exact ⟨A, _, c, h⟩
  unfold Oper.wp execOp
  simp only [ho, resolve, invoke, builtin, Sem.run_bind, Sem.run_pure, Result.andThen_ok, List.map_toArray, List.map_cons, List.map_nil, hs, hx, hrn]
  exact hK v' w' h2 (hxo'.warm 1) (h3.sub (by decide)) (h.tb_script hy h1 h3 h4) hcx hone
/-- 'append(b.Ins[0].Witness, []byte{1})', and where it is put. -/
theorem Bun.wp_wit (h : Bun w B gb gi go ci co T) (hB : B ≤ w.heap.size) {o : Oper} {a : Act} {K : Act → World → Prop} {Q : Exit → Act → World → Prop} (s x : Operand) (ho : o.op = .call { callee := .builtin .append, args := #[s, x], argTypes := #[33, 33] })
    {wv : Value} (hs : a.eval s = wv) (hwv : w.cell? ⟨gi, 35, none⟩ = some wv) {gr gs c : Nat} (hx : a.eval x = .slice (some ⟨gr, 0, none⟩) 1 c) (hsrc : w.cell? ⟨gr, 0, none⟩ = some (.slice (some ⟨gs, 0, none⟩) 1 1)) (hgs : Own w B 5 (.slice (some ⟨gs, 0, none⟩) 1 1) [1])
    (hK : ∀ v' w', Below B w w' → w'.frozen? ⟨gi, 35, none⟩ = false → Keeps [51, 55, 26] w w' → Tb (w'.setCell ⟨gi, 35, none⟩ v') gb T → (∃ x, w'.cell? ⟨gi, 35, none⟩ = some x) → (∃ A n c, v' = .slice A n c) → K (a.put o.dst v') w') : Oper.wp Try.prog o a w K Q := by
  obtain ⟨cs, hc, ⟨sv, wv', rfl, hf, _, _, hrows⟩, hcell, _⟩ := h.cell_in (j := 35) (by omega)
  rw [hwv, inCells_wit hf] at hcell
  obtain rfl : wv = wv' := by simpa using hcell
  obtain ⟨i0, hi, hz0, hz1, hz2⟩ := info_parts3 infoRow
  obtain ⟨css, hro, hcl, hlen, hrr⟩ := hrows.lens
  have hwn := (h.sm.wit _ h.in0).1
  obtain ⟨v', w', hrn, h1, h2, h3, h4⟩ := run_append_one (ty := o.type) (ts := [5, 51, 55, 26]) Try.underlying33 hi hz0 hz1 (by rw [hz2]; omega) rfl hro (by omega) (u := .slice (some ⟨gs, 0, none⟩) 1 1) rfl (c := c) hsrc hB (by decide)
  obtain ⟨Ci, hxi⟩ := h.xi
  have hxi' : Box w' gi 51 Ci := h3.2 _ _ _ (by decide) hxi
  have k2 : Keeps [5] w' (w'.setCell ⟨gi, 35, none⟩ v') := Keeps.of_set hxi' (by decide) 35 v'
  have hb1 : Bys [1] := by unfold Bys; decide
  have hu0 : RowO w' B [.slice (some ⟨gs, 0, none⟩) 1 1] [1] := ⟨_, rfl, hgs.keeps h3 (by decide), hb1⟩
  have hw : OwnRows w' B v' (T.ins[0]!.wit ++ [[1]]) := OwnMany.snoc hcl (fun i cs d e1 e2 => ⟨hlen _ (List.mem_of_getElem? e1), (hrr i cs d e1 e2).turn h3 (by decide) (Nat.le_refl _)⟩) h1 rfl hu0
  have hcx : ∃ x, w'.cell? ⟨gi, 35, none⟩ = some x := by
    rw [hxi'.cell]
    have : w.cell? ⟨gi, 35, none⟩ = Ci[35]? := hxi.cell 35
    rw [hwv] at this
    exact ⟨_, this.symm⟩
  have hone : ∃ A n c, v' = .slice A n c := by
    obtain ⟨A, c, h⟩ := hw.slice
    exact ⟨A, _, c, h⟩
  unfold Oper.wp execOp
  simp only [ho, resolve, invoke, builtin, Sem.run_bind, Sem.run_pure, Result.andThen_ok, List.map_toArray, List.map_cons, List.map_nil, hs, hx, hrn]
  exact hK v' w' h2 (hxi'.warm 35) (h3.sub (by decide)) (h.tb_wit hu0 hw h3 h4 k2) hcx hone
theorem Tb.below (h : Tb w gb T) (hb : Below w.heap.size w w') : Tb w' gb T := by
  obtain ⟨tb, Ai, Ao, c1, c2, h1, h2, h3, h4⟩ := h
  exact ⟨tb, Ai, Ao, c1, c2, h1, h2, h3.below hb, h4.below hb⟩
end
end Go.Proofs.Ytpbhlnmhaociiaa
