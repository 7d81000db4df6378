/- The document's own SameRows, and Same: rows, and transactions, are the same. The document's own Same: two transactions are the same. The law's transactions are small; what is turned in one makes it another. No program. One thing of a transaction turned in memory: another transaction lies there. No program. Transactions as great as may be, and one more: when they may be, and how they lie in memory. No program. -/
import Derived.Test.YtdemamipllfonaaGb
import Derived.BigQuiet
import Derived.Test.YtdemamipllfonaaGe
import Derived.Deep.RegionHeld3
import Derived.Deep.DeepCutAuto
import Derived.Test.YtdemamipllfonaaGf
namespace Go.Proofs.Ytdemamipllfonaa

section
open Go.RowKit

theorem Below.drewN_self (w : World) (n : Nat) : Below w.heap.size w (w.drewN n) := ⟨rfl, rfl, rfl, Nat.le_refl _, fun _ _ => rfl⟩
end

section
open Go.RowKit

/-- The cells of an input that was made just now. -/
def z36 : Array Value := #[Value.int .u8 0, .int .u8 0, .int .u8 0, .int .u8 0, .int .u8 0, .int .u8 0, .int .u8 0, .int .u8 0, .int .u8 0, .int .u8 0, .int .u8 0, .int .u8 0, .int .u8 0, .int .u8 0, .int .u8 0, .int .u8 0, .int .u8 0, .int .u8 0, .int .u8 0, .int .u8 0, .int .u8 0, .int .u8 0, .int .u8 0, .int .u8 0, .int .u8 0, .int .u8 0, .int .u8 0, .int .u8 0, .int .u8 0, .int .u8 0, .int .u8 0, .int .u8 0, .int .u32 0, .slice none 0 0, .int .u32 0, .slice none 0 0]
set_option maxRecDepth 100000 in
/-- Some cells of a row loaded, as one step of a region that draws its order. -/
theorem step_load_mid {P : Program} {ops : Array Oper} {o : Oper} {a : Act} {w : World} {K : Act → World → Prop} {Q : Exit → Act → World → Prop} {E : Prop} (hgd : o.guard = none) (ty : TypeId) (x : Operand) (ho : o.op = .load ty x)
    (b off : Nat) (hx : a.eval x = .pointer (some ⟨b, off, none⟩)) (cs : List Value) (d : TypeDesc) (hc : w.rangeAt b off cs)
    (hu : P.underlying ty = some d) (hd : d.isRow = true) (hi : (P.info? ty).map (·.size) = some cs.length)
    (h : K (a.put o.dst (.agg cs.toArray)) w) : if Region.wanted o (yielded ops a.tmps) = true then Oper.wp P o a w K Q else E := by
  have hwd : Region.wanted o (yielded ops a.tmps) = true := by simp [Region.wanted, hgd]
  rw [if_pos hwd]
  exact wp_load_mid ty x ho b off hx cs d hc hu hd hi h
theorem tx_info : (Try.prog.info? 30).map (·.size) = some 4 := by kernel_rfl
end

section
open Go.RowKit

/-- How small the law's transactions are. -/
structure SmallT (t : TxD) : Prop where
  i1 : 0 < t.ins.length
  o1 : 0 < t.outs.length
  i4 : t.ins.length ≤ 4
  o4 : t.outs.length ≤ 4
  ver : t.version ≤ 4
  lck : t.lock ≤ 31
  scr : ∀ d ∈ t.ins, d.script.length ≤ 1
  wit : ∀ d ∈ t.ins, d.wit.length ≤ 2 ∧ ∀ x ∈ d.wit, x.length ≤ 1
  seq : ∀ d ∈ t.ins, 0 < d.seq
  out : ∀ d ∈ t.outs, d.script.length ≤ 34 ∧ d.value ≤ 4095
theorem txOf_small (n m : Int) : SmallT (txOf n m) := by
  obtain ⟨h1, h2, h3, h4⟩ := txOf_lens n m
  refine ⟨h1, h3, h2, h4, ?_, ?_, fun d hd => ?_, fun d hd => ?_, fun d hd => ?_, fun d hd => ?_⟩
  · show (n % 4 + 1).toNat ≤ 4
    omega
  · show (n / 4 % 2 * (n / 8 % 32)).toNat ≤ 31
    rcases (show n / 4 % 2 = 0 ∨ n / 4 % 2 = 1 by omega) with h | h <;> rw [h] <;> omega
  · obtain ⟨j, _, rfl⟩ := mem_ins hd
    exact (inOf_script m j).1
  · obtain ⟨j, _, rfl⟩ := mem_ins hd
    exact ⟨(inOf_wit m j).1, fun x hx => ((inOf_wit m j).2 x hx).1⟩
  · obtain ⟨j, _, rfl⟩ := mem_ins hd
    show 0 < (4294967295 - m / 2 ^ (8 + j) % 4).toNat
    omega
  · obtain ⟨j, rfl⟩ := mem_outs hd
    refine ⟨scriptOf_len _, ?_⟩
    show (n / 2 ^ (12 + j) % 4096).toNat ≤ 4095
    omega
/-- What lies in memory fits, and is bytes. -/
theorem Many.mem {α : Type} {k : Nat} {R : World → List Value → α → Prop} {w : World} {v : Value} {l : List α} (h : Many k R w v l) {x : α} (hx : x ∈ l) : ∃ cs, R w cs x := by
  obtain ⟨A, c, rfl, _⟩ := id h
  obtain ⟨i, hi, rfl⟩ := List.mem_iff_getElem.1 hx
  obtain ⟨_, _, cs, _, _, _, _, hr⟩ := h.at hi
  exact ⟨cs, hr⟩
theorem TxR.fit {w : World} {v : Value} {t : TxD} (h : TxR w v t) : TxFit t := by
  obtain ⟨iv, ov, rfl, hv, hk, hi, ho⟩ := h
  refine ⟨hv, hk, fun d hd => ?_, fun d hd => ?_⟩
  · obtain ⟨cs, sv, wv, _, hf, _⟩ := hi.mem hd
    exact hf
  · obtain ⟨cs, sv, _, hf, _⟩ := ho.mem hd
    exact hf
theorem TxR.bys {w : World} {v : Value} {t : TxD} (h : TxR w v t) : TxBys t := by
  obtain ⟨iv, ov, rfl, hv, hk, hi, ho⟩ := h
  refine ⟨fun d hd => ?_, fun d hd => ?_⟩
  · obtain ⟨cs, sv, wv, _, hf, h1, h2⟩ := hi.mem hd
    refine ⟨hf.pbys, h1.2.1, fun x hx => ?_⟩
    obtain ⟨cs, s, _, h3⟩ := h2.mem hx
    exact h3.2.1
  · obtain ⟨cs, sv, _, hf, h1⟩ := ho.mem hd
    exact h1.2.1
end

section
open Go.RowKit

/-- In the box gb lies another transaction than T, that may be. -/
def Tb (w : World) (gb : Nat) (T : TxD) : Prop := ∃ (tb : TxD) (Ai Ao : Option Addr) (c1 c2 : Nat), tb ≠ T ∧ MayF tb ∧
  Box w gb 30 #[.int .u32 tb.version, .slice Ai tb.ins.length c1, .slice Ao tb.outs.length c2, .int .u32 tb.lock] ∧
  TxR w (.agg #[.int .u32 tb.version, .slice Ai tb.ins.length c1, .slice Ao tb.outs.length c2, .int .u32 tb.lock]) tb
/-- T lies in the box gb, its rows in blocks of the call's own. -/
structure Bun (w : World) (B gb gi go ci co : Nat) (T : TxD) : Prop where
  box : Box w gb 30 #[.int .u32 T.version, .slice (some ⟨gi, 0, none⟩) T.ins.length ci, .slice (some ⟨go, 0, none⟩) T.outs.length co, .int .u32 T.lock]
  ins : OwnMany 36 58 (InO w B) w B (.slice (some ⟨gi, 0, none⟩) T.ins.length ci) T.ins
  outs : OwnMany 2 61 (OutF w B) w B (.slice (some ⟨go, 0, none⟩) T.outs.length co) T.outs
  xi : ∃ C, Box w gi 58 C
  xo : ∃ C, Box w go 61 C
  sm : SmallT T
theorem may_like {T t : TxD} (hs : SmallT T) (h1 : t.ins.length = T.ins.length) (h2 : t.outs.length = T.outs.length) (hi : ∀ d ∈ t.ins, d.script.length ≤ 500 ∧ d.wit.length ≤ 10 ∧ ∀ x ∈ d.wit, x.length ≤ 500) (ho : ∀ d ∈ t.outs, d.script.length ≤ 500) : MayF t := by
  have := hs.i1
  have := hs.i4
  have := hs.o1
  have := hs.o4
  exact ⟨by omega, by omega, by omega, by omega, fun d hd => (hi d hd).1, fun d hd => (hi d hd).2.1, fun d hd => (hi d hd).2.2, ho⟩
section
set_option maxRecDepth 100000
variable {w w' : World} {B gb gi go ci co : Nat} {T : TxD}
theorem SmallT.in500 (hs : SmallT T) {d : InD} (hd : d ∈ T.ins) : d.script.length ≤ 500 ∧ d.wit.length ≤ 10 ∧ ∀ x ∈ d.wit, x.length ≤ 500 := by
  have h1 := hs.scr d hd
  have h2 := hs.wit d hd
  exact ⟨by omega, by omega, fun x hx => by have := h2.2 x hx; omega⟩
theorem SmallT.out500 (hs : SmallT T) {d : OutD} (hd : d ∈ T.outs) : d.script.length ≤ 500 := by
  have := (hs.out d hd).1
  omega
theorem Bun.turn (h : Bun w B gb gi go ci co T) (hk : Keeps [5, 55, 58, 61, 30] w w') : Bun w' B gb gi go ci co T := by
  obtain ⟨Ci, hxi⟩ := h.xi
  obtain ⟨Co, hxo⟩ := h.xo
  exact ⟨hk.2 _ _ _ (by decide) h.box, OwnMany.turn h.ins hk (by decide) (Nat.le_refl _) (fun cs d h => InO.turn h hk (by decide) (by decide) (Nat.le_refl _)),
    OwnMany.turn h.outs hk (by decide) (Nat.le_refl _) (fun cs d h => OutF.keeps h hk (by decide)), ⟨Ci, hk.2 _ _ _ (by decide) hxi⟩, ⟨Co, hk.2 _ _ _ (by decide) hxo⟩, h.sm⟩
theorem Bun.insR (h : Bun w B gb gi go ci co T) (hk : Keeps [5, 55, 58] w w') : InsR w' (.slice (some ⟨gi, 0, none⟩) T.ins.length ci) T.ins :=
  OwnMany.many (OwnMany.turn h.ins hk (by decide) (Nat.le_refl _) (fun cs d h => InO.turn h hk (by decide) (by decide) (Nat.le_refl _))) fun _ _ h => h.inR
theorem Bun.outsR (h : Bun w B gb gi go ci co T) (hk : Keeps [5, 61] w w') : OutsR w' (.slice (some ⟨go, 0, none⟩) T.outs.length co) T.outs :=
  OwnMany.many (OwnMany.turn h.outs hk (by decide) (Nat.le_refl _) (fun cs d h => OutF.keeps h hk (by decide))) fun _ _ h => h.outR
theorem Bun.tb_ver (h : Bun w B gb gi go ci co T) : Tb (w.setCell ⟨gb, 0, none⟩ (.int .u32 ((T.version : Int) + 1))) gb T := by
  have hk : Keeps [5, 55, 58, 61] w (w.setCell ⟨gb, 0, none⟩ (.int .u32 ((T.version : Int) + 1))) := Keeps.of_set h.box (by decide) _ _
  have hv := h.sm.ver
  have hl := h.sm.lck
  refine ⟨{ T with version := T.version + 1 }, _, _, _, _, fun e => ?_, may_like h.sm rfl rfl (fun d hd => h.sm.in500 hd) (fun d hd => h.sm.out500 hd), h.box.set 0 _, _, _, rfl, ?_, ?_, h.insR (hk.sub (by decide)), h.outsR (hk.sub (by decide))⟩
  · have := congrArg TxD.version e
    simp at this
  · show T.version + 1 < 4294967296
    omega
  · show T.lock < 4294967296
    omega
theorem Bun.tb_lock (h : Bun w B gb gi go ci co T) : Tb (w.setCell ⟨gb, 3, none⟩ (.int .u32 ((T.lock : Int) + 1))) gb T := by
  have hk : Keeps [5, 55, 58, 61] w (w.setCell ⟨gb, 3, none⟩ (.int .u32 ((T.lock : Int) + 1))) := Keeps.of_set h.box (by decide) _ _
  have hv := h.sm.ver
  have hl := h.sm.lck
  refine ⟨{ T with lock := T.lock + 1 }, _, _, _, _, fun e => ?_, may_like h.sm rfl rfl (fun d hd => h.sm.in500 hd) (fun d hd => h.sm.out500 hd), h.box.set 3 _, _, _, rfl, ?_, ?_, h.insR (hk.sub (by decide)), h.outsR (hk.sub (by decide))⟩
  · have := congrArg TxD.lock e
    simp at this
  · show T.version < 4294967296
    omega
  · show T.lock + 1 < 4294967296
    omega
/-- One cell of the first input turned. -/
theorem Bun.tb_in (h : Bun w B gb gi go ci co T) {j : Nat} (hj : j < 36) (u : Value) (d' : InD) (hl : d'.script = T.ins[0]!.script ∧ d'.wit = T.ins[0]!.wit) (hne : d' ≠ T.ins[0]!)
    (hd : ∀ cs, cs.length = 36 → ∀ W, InO W B cs T.ins[0]! → InO W B (cs.set j u) d') : Tb (w.setCell ⟨gi, j, none⟩ u) gb T := by
  obtain ⟨Ci, hxi⟩ := h.xi
  have hk : Keeps [5, 55, 61, 30] w (w.setCell ⟨gi, j, none⟩ u) := Keeps.of_set hxi (by decide) _ _
  have h0 := h.sm.i1
  have hv := h.sm.ver
  have hlk := h.sm.lck
  have hg : T.ins[0]! = T.ins[0] := by simp [h0]
  rw [hg] at hl hne hd
  have hown : OwnMany 36 58 (InO (w.setCell ⟨gi, j, none⟩ u) B) (w.setCell ⟨gi, j, none⟩ u) B (.slice (some ⟨gi, 0, none⟩) T.ins.length ci) (T.ins.set 0 d') := by
    have := OwnMany.cellSet (i := 0) h.ins h0 hj u d' (R' := InO (w.setCell ⟨gi, 0 * 36 + j, none⟩ u) B) (fun cs d h => by
      exact InO.turn (ts := [5, 55, 61, 30]) h (by rw [Nat.zero_mul, Nat.zero_add]; exact hk) (by decide) (by decide) (Nat.le_refl _)) (fun cs hc h => hd cs hc _ (InO.turn (ts := [5, 55, 61, 30]) h (by rw [Nat.zero_mul, Nat.zero_add]; exact hk) (by decide) (by decide) (Nat.le_refl _)))
    rw [Nat.zero_mul, Nat.zero_add] at this
    exact this
  have hins := OwnMany.many hown fun _ _ h => h.inR
  have hlen : (T.ins.set 0 d').length = T.ins.length := List.length_set
  refine ⟨{ T with ins := T.ins.set 0 d' }, some ⟨gi, 0, none⟩, some ⟨go, 0, none⟩, ci, co, fun e => ?_, may_like h.sm hlen rfl (fun d hd => ?_) (fun d hd => h.sm.out500 hd), ?_, _, _, rfl, ?_, ?_, ?_, h.outsR (hk.sub (by decide))⟩
  · have := congrArg TxD.ins e
    simp only at this
    have h1 : (T.ins.set 0 d')[0]? = T.ins[0]? := by rw [this]
    rw [List.getElem?_set, if_pos rfl, if_pos h0, List.getElem?_eq_getElem h0] at h1
    exact hne (Option.some.inj h1)
  · rcases List.mem_or_eq_of_mem_set hd with hd | rfl
    · exact h.sm.in500 hd
    · rw [hl.1, hl.2]
      exact h.sm.in500 (List.getElem_mem h0)
  · show Box _ _ _ #[_, .slice _ (T.ins.set 0 d').length _, _, _]
    rw [hlen]
    exact hk.2 _ _ _ (by decide) h.box
  · show T.version < 4294967296
    omega
  · show T.lock < 4294967296
    omega
  · show InsR _ (.slice _ (T.ins.set 0 d').length _) _
    rw [hlen]
    exact hins
theorem Bun.cell_in (h : Bun w B gb gi go ci co T) {j : Nat} (hj : j < 36) : ∃ cs, cs.length = 36 ∧ InO w B cs T.ins[0]! ∧ w.cell? ⟨gi, j, none⟩ = cs[j]? ∧ w.frozen? ⟨gi, j, none⟩ = false := by
  have h0 := h.sm.i1
  have hg : T.ins[0]! = T.ins[0] := by simp [h0]
  rw [hg]
  have := OwnMany.cell (i := 0) h.ins h0 hj
  rw [Nat.zero_mul, Nat.zero_add] at this
  exact this
theorem Bun.cell_out (h : Bun w B gb gi go ci co T) {j : Nat} (hj : j < 2) : ∃ cs, cs.length = 2 ∧ OutF w B cs T.outs[0]! ∧ w.cell? ⟨go, j, none⟩ = cs[j]? ∧ w.frozen? ⟨go, j, none⟩ = false := by
  have h0 := h.sm.o1
  have hg : T.outs[0]! = T.outs[0] := by simp [h0]
  rw [hg]
  have := OwnMany.cell (i := 0) h.outs h0 hj
  rw [Nat.zero_mul, Nat.zero_add] at this
  exact this
theorem Bun.in0 (h : Bun w B gb gi go ci co T) : T.ins[0]! ∈ T.ins := by
  have h0 := h.sm.i1
  have hg : T.ins[0]! = T.ins[0] := by simp [h0]
  rw [hg]
  exact List.getElem_mem h0
theorem Bun.out0 (h : Bun w B gb gi go ci co T) : T.outs[0]! ∈ T.outs := by
  have h0 := h.sm.o1
  have hg : T.outs[0]! = T.outs[0] := by simp [h0]
  rw [hg]
  exact List.getElem_mem h0
theorem Bun.tb_prev (h : Bun w B gb gi go ci co T) (y : Int) (hy : 0 ≤ y ∧ y ≤ 255) (hne : T.ins[0]!.prev.getD 9 0 ≠ y) : Tb (w.setCell ⟨gi, 9, none⟩ (.int .u8 y)) gb T := by
  obtain ⟨cs, hc, ⟨sv, wv, rfl, hf, _⟩, _⟩ := h.cell_in (j := 9) (by omega)
  refine h.tb_in (by omega) _ { T.ins[0]! with prev := T.ins[0]!.prev.set 9 y } ⟨rfl, rfl⟩ (fun e => ?_) fun cs hc W hin => ?_
  · have := congrArg InD.prev e
    simp only at this
    have h1 : (T.ins[0]!.prev.set 9 y).getD 9 0 = T.ins[0]!.prev.getD 9 0 := by rw [this]
    rw [List.getD_eq_getElem?_getD, List.getElem?_set, if_pos rfl, if_pos (by rw [hf.plen]; omega)] at h1
    exact hne h1.symm
  · obtain ⟨sv, wv, rfl, hf, h1, h2, h3⟩ := hin
    refine ⟨sv, wv, ?_, ⟨by rw [List.length_set]; exact hf.plen, fun x hx => ?_, hf.vlt, hf.slt⟩, h1, h2, h3⟩
    · unfold inCells
      rw [List.set_append, if_pos (by unfold byteVals; rw [List.length_map, hf.plen]; omega)]
      unfold byteVals
      rw [List.map_set]
    · rcases List.mem_or_eq_of_mem_set hx with hx | rfl
      · exact hf.pbys x hx
      · exact hy
theorem Bun.tb_seq (h : Bun w B gb gi go ci co T) : Tb (w.setCell ⟨gi, 34, none⟩ (.int .u32 ((T.ins[0]!.seq : Int) - 1))) gb T := by
  have hs := h.sm.seq _ h.in0
  have he : ∀ s : Nat, 0 < s → ((s : Int) - 1) = ((s - 1 : Nat) : Int) := fun s h => by omega
  rw [he _ hs]
  refine h.tb_in (by omega) _ { T.ins[0]! with seq := T.ins[0]!.seq - 1 } ⟨rfl, rfl⟩ (fun e => ?_) fun cs hc W hin => ?_
  · have := congrArg InD.seq e
    simp only at this
    omega
  · obtain ⟨sv, wv, rfl, hf, h1, h2, h3⟩ := hin
    have h5 := hf.slt
    refine ⟨sv, wv, ?_, ⟨hf.plen, hf.pbys, hf.vlt, by show T.ins[0]!.seq - 1 < 4294967296; omega⟩, h1, h2, h3⟩
    unfold inCells
    have hl : (byteVals T.ins[0]!.prev).length = 32 := by unfold byteVals; rw [List.length_map, hf.plen]
    rw [List.set_append, if_neg (by omega), hl]
    rfl
/-- The first output turned; what reads otherwise has as long a script. -/
theorem tb_out {wx : World} {ds : List InD} {do_ : OutD} {os : List OutD} (hs : SmallT T) (hi : InsR wx (.slice (some ⟨gi, 0, none⟩) ds.length ci) ds) (hil : ds.length = T.ins.length)
    (his : ∀ d ∈ ds, d.script.length ≤ 500 ∧ d.wit.length ≤ 10 ∧ ∀ x ∈ d.wit, x.length ≤ 500) (ho : OutsR wx (.slice (some ⟨go, 0, none⟩) (os.set 0 do_).length co) (os.set 0 do_)) (hol : os.length = T.outs.length)
    (hos : ∀ d ∈ os, d.script.length ≤ 500) (hd : do_.script.length ≤ 500) (hne : do_ ≠ T.outs[0]!)
    (hb : Box wx gb 30 #[.int .u32 T.version, .slice (some ⟨gi, 0, none⟩) T.ins.length ci, .slice (some ⟨go, 0, none⟩) T.outs.length co, .int .u32 T.lock]) : Tb wx gb T := by
  have hv := hs.ver
  have hlk := hs.lck
  have h0 := hs.o1
  have hg : T.outs[0]! = T.outs[0] := by simp [h0]
  rw [hg] at hne
  have hlen : (os.set 0 do_).length = T.outs.length := by rw [List.length_set]; exact hol
  refine ⟨{ T with ins := ds, outs := os.set 0 do_ }, some ⟨gi, 0, none⟩, some ⟨go, 0, none⟩, ci, co, fun e => ?_, may_like hs hil hlen his (fun d hd' => ?_), ?_, _, _, rfl, ?_, ?_, hi, ho⟩
  · have := congrArg TxD.outs e
    simp only at this
    have h1 : (os.set 0 do_)[0]? = T.outs[0]? := by rw [this]
    rw [List.getElem?_set, if_pos rfl, if_pos (by omega), List.getElem?_eq_getElem h0] at h1
    exact hne (Option.some.inj h1)
  · rcases List.mem_or_eq_of_mem_set hd' with hd' | rfl
    · exact hos d hd'
    · exact hd
  · show Box _ _ _ #[_, .slice _ ds.length _, .slice _ (os.set 0 do_).length _, _]
    rw [hlen, hil]
    exact hb
  · show T.version < 4294967296
    omega
  · show T.lock < 4294967296
    omega
theorem Bun.tb_val (h : Bun w B gb gi go ci co T) : Tb (w.setCell ⟨go, 0, none⟩ (.int .u64 ((T.outs[0]!.value : Int) + 1))) gb T := by
  obtain ⟨Co, hxo⟩ := h.xo
  have hk : Keeps [5, 55, 58, 30] w (w.setCell ⟨go, 0, none⟩ (.int .u64 ((T.outs[0]!.value : Int) + 1))) := Keeps.of_set hxo (by decide) _ _
  have h0 := h.sm.o1
  have hg : T.outs[0]! = T.outs[0] := by simp [h0]
  have ho := h.sm.out _ h.out0
  have hown := OwnMany.cellSet (i := 0) (j := 0) h.outs h0 (by omega) (.int .u64 ((T.outs[0]!.value : Int) + 1)) (⟨T.outs[0]!.value + 1, T.outs[0]!.script⟩ : OutD) (R' := OutF (w.setCell ⟨go, 0, none⟩ (.int .u64 ((T.outs[0]!.value : Int) + 1))) B) (fun cs d h => OutF.keeps h hk (by decide)) (fun cs hc h => by
    rw [← hg] at h
    obtain ⟨sv, rfl, h1, h2⟩ := h
    exact ⟨sv, rfl, by show T.outs[0]!.value + 1 < 18446744073709551616; omega, h2.keeps hk (by decide)⟩)
  refine tb_out (do_ := ⟨T.outs[0]!.value + 1, T.outs[0]!.script⟩) (os := T.outs) h.sm (h.insR (hk.sub (by decide))) rfl (fun d hd => h.sm.in500 hd) ?_ rfl (fun d hd => h.sm.out500 hd) ?_ (fun e => ?_) (hk.2 _ _ _ (by decide) h.box)
  · rw [List.length_set]
    exact OwnMany.many hown fun _ _ h => h.outR
  · show T.outs[0]!.script.length ≤ 500
    omega
  · have := congrArg OutD.value e
    simp at this
theorem SmallT.like (hs : SmallT T) {d' : InD} (h : ∃ d ∈ T.ins, LikeIn d d') : d'.script.length ≤ 500 ∧ d'.wit.length ≤ 2 ∧ ∀ x ∈ d'.wit, x.length ≤ 500 := by
  obtain ⟨d, hd, h1, h2, h3⟩ := h
  have e1 := hs.scr d hd
  have e2 := hs.wit d hd
  refine ⟨by omega, by omega, fun x hx => ?_⟩
  rcases h3 x hx with h | ⟨x0, h4, h5⟩
  · omega
  · have := e2.2 x0 h4
    omega
/-- An output in memory. -/
def OutT (w : World) (cs : List Value) (d : OutD) : Prop := ∃ sv, cs = [.int .u64 d.value, sv] ∧ d.value < 18446744073709551616 ∧ RbT w sv d.script
theorem Bun.tb_script (h : Bun w B gb gi go ci co T) {v' : Value} {y : Int} (hy : 0 ≤ y ∧ y ≤ 255) (ho : Own w' B 5 v' (T.outs[0]!.script ++ [y])) (hk : Keeps [55, 58, 61, 30] w w') (hp : Pk 5 (.int .u8 y) w w') :
    Tb (w'.setCell ⟨go, 1, none⟩ v') gb T := by
  obtain ⟨Co, hxo⟩ := h.xo
  have hxo' : Box w' go 61 Co := hk.2 _ _ _ (by decide) hxo
  have k2 : Keeps [5, 55, 58, 30] w' (w'.setCell ⟨go, 1, none⟩ v') := Keeps.of_set hxo' (by decide) 1 v'
  have kx : Keeps [55, 58, 30] w (w'.setCell ⟨go, 1, none⟩ v') := (hk.sub (by decide)).trans (k2.sub (by decide))
  have px : Pk 5 (.int .u8 y) w (w'.setCell ⟨go, 1, none⟩ v') := hp.trans (Pk.of_keeps _ k2 (by decide))
  have h0 := h.sm.o1
  obtain ⟨ds, hdl, hins, hlike⟩ := OwnMany.other (R' := InR (w'.setCell ⟨go, 1, none⟩ v')) (S := LikeIn) h.ins kx (by decide) fun cs d hd => hd.pk8 hy px (kx.sub (by decide))
  obtain ⟨os, hol, houts, hosl⟩ := OwnMany.other (R' := OutT (w'.setCell ⟨go, 1, none⟩ v')) (S := fun d d' : OutD => d'.script.length = d.script.length) h.outs hk (by decide) fun cs d ⟨sv, hc, hv, hr⟩ => by
    obtain ⟨l', h1, h2⟩ := hr.rbT.pk hy px
    exact ⟨⟨d.value, l'⟩, ⟨sv, hc, hv, h2⟩, h1⟩
  obtain ⟨_, _, ⟨_, _, _, hbys, _⟩, _⟩ := h.cell_out (j := 1) (by omega)
  have hby : Bys (T.outs[0]!.script ++ [y]) := hbys.app fun x hx => by rw [List.mem_singleton.1 hx]; exact hy
  have h0' : 0 < os.length := by omega
  rw [← hol] at houts
  have hown := OwnMany.cellSet (i := 0) (j := 1) houts h0' (by omega) v' (⟨os[0].value, T.outs[0]!.script ++ [y]⟩ : OutD) (R' := OutT (w'.setCell ⟨go, 1, none⟩ v')) (fun cs d h => h) (fun cs hc h => by
    obtain ⟨sv, rfl, h1, h2⟩ := h
    exact ⟨v', rfl, h1, (ho.keeps k2 (by decide)).rbT hby⟩)
  have hob := (h.sm.out _ h.out0).1
  refine tb_out (do_ := ⟨os[0].value, T.outs[0]!.script ++ [y]⟩) (os := os) (ds := ds) h.sm ?_ hdl (fun d hd => ?_) ?_ hol (fun d hd => ?_) ?_ (fun e => ?_) (kx.2 _ _ _ (by decide) h.box)
  · rw [hdl]
    exact OwnMany.many (RR := InR) hins fun _ _ h => h
  · have := h.sm.like (hlike d hd)
    exact ⟨this.1, by omega, this.2.2⟩
  · rw [List.length_set]
    exact OwnMany.many hown fun _ _ ⟨sv, hc, hv, hr⟩ => ⟨sv, hc, hv, hr.1⟩
  · obtain ⟨d0, hd0, he⟩ := hosl d hd
    have := h.sm.out500 hd0
    omega
  · show (T.outs[0]!.script ++ [y]).length ≤ 500
    rw [List.length_append]
    simp only [List.length_singleton]
    omega
  · have := congrArg (fun d => d.script.length) e
    simp only [List.length_append, List.length_singleton] at this
    omega
/-- A witness more. -/
theorem Bun.tb_wit (h : Bun w B gb gi go ci co T) {v' u : Value} (hu : RowO w' B [u] [1]) (hw : OwnRows w' B v' (T.ins[0]!.wit ++ [[1]])) (hk : Keeps [5, 58, 61, 30] w w') (hp : Pk 55 u w w') (hR0 : Keeps [5] w' (w'.setCell ⟨gi, 35, none⟩ v')) :
    Tb (w'.setCell ⟨gi, 35, none⟩ v') gb T := by
  obtain ⟨Ci, hxi⟩ := h.xi
  have hxi' : Box w' gi 58 Ci := hk.2 _ _ _ (by decide) hxi
  have k2 : Keeps [5, 55, 61, 30] w' (w'.setCell ⟨gi, 35, none⟩ v') := Keeps.of_set hxi' (by decide) 35 v'
  have kx : Keeps [5, 61, 30] w (w'.setCell ⟨gi, 35, none⟩ v') := (hk.sub (by decide)).trans (k2.sub (by decide))
  have px : Pk 55 u w (w'.setCell ⟨gi, 35, none⟩ v') := hp.trans (Pk.of_keeps _ k2 (by decide))
  have h0 := h.sm.i1
  have hg : T.ins[0]! = T.ins[0] := by simp [h0]
  have hv := h.sm.ver
  have hlk := h.sm.lck
  have hR : ∀ cs x, RowO w' B cs x → RowR (w'.setCell ⟨gi, 35, none⟩ v') cs x := fun cs x ⟨sv, hc, h1, h2⟩ => ⟨sv, hc, (h1.keeps hR0 (by decide)).rb h2⟩
  obtain ⟨ds, hdl, hins, hlike⟩ := OwnMany.other (R' := InR (w'.setCell ⟨gi, 35, none⟩ v')) (S := LikeIn) h.ins hk (by decide) fun cs d hd => hd.pkR px (kx.sub (by decide)) (hR _ _ hu)
  have h0' : 0 < ds.length := by omega
  rw [← hdl] at hins
  have hwx : Rws (w'.setCell ⟨gi, 35, none⟩ v') v' (T.ins[0]!.wit ++ [[1]]) := OwnMany.many (OwnMany.turn hw k2 (by decide) (Nat.le_refl _) hR) fun _ _ h => h
  have hown := OwnMany.cellSet (i := 0) (j := 35) hins h0' (by omega) v' ({ ds[0] with wit := T.ins[0]!.wit ++ [[1]] } : InD) (R' := InR (w'.setCell ⟨gi, 35, none⟩ v')) (fun cs d h => h) (fun cs hc h => by
    obtain ⟨sv, wv, rfl, hf, h1, h2⟩ := h
    refine ⟨sv, v', ?_, ⟨hf.plen, hf.pbys, hf.vlt, hf.slt⟩, h1, hwx⟩
    unfold inCells
    have hl : (byteVals ds[0].prev).length = 32 := by unfold byteVals; rw [List.length_map, hf.plen]
    rw [List.set_append, if_neg (by omega), hl]
    rfl)
  have hins' := OwnMany.many (RR := InR) hown fun _ _ h => h
  have hlen : (ds.set 0 ({ ds[0] with wit := T.ins[0]!.wit ++ [[1]] } : InD)).length = T.ins.length := by rw [List.length_set]; exact hdl
  refine ⟨{ T with ins := ds.set 0 { ds[0] with wit := T.ins[0]!.wit ++ [[1]] } }, some ⟨gi, 0, none⟩, some ⟨go, 0, none⟩, ci, co, fun e => ?_, may_like h.sm hlen rfl (fun d hd => ?_) (fun d hd => h.sm.out500 hd), ?_, _, _, rfl, ?_, ?_, ?_, h.outsR (kx.sub (by decide))⟩
  · have := congrArg TxD.ins e
    simp only at this
    have h1 : (ds.set 0 ({ ds[0] with wit := T.ins[0]!.wit ++ [[1]] } : InD))[0]? = T.ins[0]? := by rw [this]
    rw [List.getElem?_set, if_pos rfl, if_pos h0', List.getElem?_eq_getElem h0, ← hg] at h1
    have h2 := congrArg (fun d => d.wit.length) (Option.some.inj h1)
    simp only [List.length_append, List.length_singleton] at h2
    omega
  · have hsm := h.sm.wit _ h.in0
    rcases List.mem_or_eq_of_mem_set hd with hd | rfl
    · have := h.sm.like (hlike d hd)
      exact ⟨this.1, by omega, this.2.2⟩
    · have := h.sm.like (hlike _ (List.getElem_mem h0'))
      refine ⟨this.1, ?_, fun x hx => ?_⟩
      · show (T.ins[0]!.wit ++ [[1]]).length ≤ 10
        rw [List.length_append]
        simp only [List.length_singleton]
        omega
      · rcases List.mem_append.1 hx with hx | hx
        · have := hsm.2 x hx
          omega
        · rw [List.mem_singleton.1 hx]
          simp
  · show Box _ _ _ #[_, .slice _ (ds.set 0 _).length _, _, _]
    rw [hlen]
    exact kx.2 _ _ _ (by decide) h.box
  · show T.version < 4294967296
    omega
  · show T.lock < 4294967296
    omega
  · rw [List.length_set]
    exact hins'
/-- 'append(b.Outs[0].Script, 7)', and where it is put. -/
theorem Bun.wp_script (h : Bun w B gb gi go ci co T) (hB : B ≤ w.heap.size) {o : Oper} {a : Act} {K : Act → World → Prop} {Q : Exit → Act → World → Prop} (s x : Operand) (ho : o.op = .call { callee := .builtin .append, args := #[s, x], argTypes := #[55, 55] })
    {y : Int} (hy : 0 ≤ y ∧ y ≤ 255) {sv : Value} (hs : a.eval s = sv) (hsv : w.cell? ⟨go, 1, none⟩ = some sv) {gs c : Nat} (hx : a.eval x = .slice (some ⟨gs, 0, none⟩) 1 c) (hsrc : w.cell? ⟨gs, 0, none⟩ = some (.int .u8 y))
    (hK : ∀ v' w', Below B w w' → w'.frozen? ⟨go, 1, none⟩ = false → Keeps [58, 61, 30] w w' → Tb (w'.setCell ⟨go, 1, none⟩ v') gb T → (∃ x, w'.cell? ⟨go, 1, none⟩ = some x) → (∃ A n c, v' = .slice A n c) → K (a.put o.dst v') w') : Oper.wp Try.prog o a w K Q := by
  obtain ⟨cs, hc, ⟨sv', rfl, _, hr⟩, hcell, _⟩ := h.cell_out (j := 1) (by omega)
  rw [hsv] at hcell
  obtain rfl : sv = sv' := by simpa using hcell
  have hob := (h.sm.out _ h.out0).1
  obtain ⟨v', w', hrn, h1, h2, h3, h4⟩ := run_append_byte (ty := o.type) hr (by omega) (c := c) hsrc hB
  obtain ⟨Co, hxo⟩ := h.xo
  have hxo' : Box w' go 61 Co := h3.2 _ _ _ (by decide) hxo
  have hcx : ∃ x, w'.cell? ⟨go, 1, none⟩ = some x := by
    rw [hxo'.cell]
    have : w.cell? ⟨go, 1, none⟩ = Co[1]? := hxo.cell 1
    rw [hsv] at this
    exact ⟨_, this.symm⟩
  have hone : ∃ A n c, v' = .slice A n c := by
    obtain ⟨A, c, h⟩ := h1.slice
    exact ⟨A, _, c, h⟩
  unfold Oper.wp execOp
  simp only [ho, resolve, invoke, builtin, Sem.run_bind, Sem.run_pure, Result.andThen_ok, List.map_toArray, List.map_cons, List.map_nil, hs, hx, hrn]
  exact hK v' w' h2 (hxo'.warm 1) (h3.sub (by decide)) (h.tb_script hy h1 h3 h4) hcx hone
/-- 'append(b.Ins[0].Witness, []byte{1})', and where it is put. -/
theorem Bun.wp_wit (h : Bun w B gb gi go ci co T) (hB : B ≤ w.heap.size) {o : Oper} {a : Act} {K : Act → World → Prop} {Q : Exit → Act → World → Prop} (s x : Operand) (ho : o.op = .call { callee := .builtin .append, args := #[s, x], argTypes := #[56, 56] })
    {wv : Value} (hs : a.eval s = wv) (hwv : w.cell? ⟨gi, 35, none⟩ = some wv) {gr gs c : Nat} (hx : a.eval x = .slice (some ⟨gr, 0, none⟩) 1 c) (hsrc : w.cell? ⟨gr, 0, none⟩ = some (.slice (some ⟨gs, 0, none⟩) 1 1)) (hgs : Own w B 5 (.slice (some ⟨gs, 0, none⟩) 1 1) [1])
    (hK : ∀ v' w', Below B w w' → w'.frozen? ⟨gi, 35, none⟩ = false → Keeps [58, 61, 30] w w' → Tb (w'.setCell ⟨gi, 35, none⟩ v') gb T → (∃ x, w'.cell? ⟨gi, 35, none⟩ = some x) → (∃ A n c, v' = .slice A n c) → K (a.put o.dst v') w') : Oper.wp Try.prog o a w K Q := by
  obtain ⟨cs, hc, ⟨sv, wv', rfl, hf, _, _, hrows⟩, hcell, _⟩ := h.cell_in (j := 35) (by omega)
  rw [hwv, inCells_wit hf] at hcell
  obtain rfl : wv = wv' := by simpa using hcell
  obtain ⟨i0, hi, hz0, hz1, hz2⟩ := info_parts3 infoRow
  obtain ⟨css, hro, hcl, hlen, hrr⟩ := hrows.lens
  have hwn := (h.sm.wit _ h.in0).1
  obtain ⟨v', w', hrn, h1, h2, h3, h4⟩ := run_append_one (ty := o.type) (ts := [5, 58, 61, 30]) Try.underlying56 hi hz0 hz1 (by rw [hz2]; omega) rfl hro (by omega) (u := .slice (some ⟨gs, 0, none⟩) 1 1) rfl (c := c) hsrc hB (by decide)
  obtain ⟨Ci, hxi⟩ := h.xi
  have hxi' : Box w' gi 58 Ci := h3.2 _ _ _ (by decide) hxi
  have k2 : Keeps [5] w' (w'.setCell ⟨gi, 35, none⟩ v') := Keeps.of_set hxi' (by decide) 35 v'
  have hb1 : Bys [1] := by unfold Bys; decide
  have hu0 : RowO w' B [.slice (some ⟨gs, 0, none⟩) 1 1] [1] := ⟨_, rfl, hgs.keeps h3 (by decide), hb1⟩
  have hw : OwnRows w' B v' (T.ins[0]!.wit ++ [[1]]) := OwnMany.snoc hcl (fun i cs d e1 e2 => ⟨hlen _ (List.mem_of_getElem? e1), (hrr i cs d e1 e2).turn h3 (by decide) (Nat.le_refl _)⟩) h1 rfl hu0
  have hcx : ∃ x, w'.cell? ⟨gi, 35, none⟩ = some x := by
    rw [hxi'.cell]
    have : w.cell? ⟨gi, 35, none⟩ = Ci[35]? := hxi.cell 35
    rw [hwv] at this
    exact ⟨_, this.symm⟩
  have hone : ∃ A n c, v' = .slice A n c := by
    obtain ⟨A, c, h⟩ := hw.slice
    exact ⟨A, _, c, h⟩
  unfold Oper.wp execOp
  simp only [ho, resolve, invoke, builtin, Sem.run_bind, Sem.run_pure, Result.andThen_ok, List.map_toArray, List.map_cons, List.map_nil, hs, hx, hrn]
  exact hK v' w' h2 (hxi'.warm 35) (h3.sub (by decide)) (h.tb_wit hu0 hw h3 h4 k2) hcx hone
theorem Tb.below (h : Tb w gb T) (hb : Below w.heap.size w w') : Tb w' gb T := by
  obtain ⟨tb, Ai, Ao, c1, c2, h1, h2, h3, h4⟩ := h
  exact ⟨tb, Ai, Ao, c1, c2, h1, h2, h3.below hb, h4.below hb⟩
end
end

section
open Go.RowKit

/-- The inputs: the last one with a script of s bytes, the first one with k witnesses of x bytes. -/
def inC (a s x k i : Nat) : InD := ⟨zeros 32, i, if i + 1 = a then zeros s else [], 0, if i = 0 then List.replicate k (zeros x) else []⟩
def outC (s i : Nat) : OutD := ⟨0, if i = 0 then zeros s else []⟩
def txB (a b s k x : Nat) : TxD := ⟨2, (List.range a).map (inC a s x k), (List.range b).map (outC s), 0⟩
/-- Whether it may be. -/
def goodB (a b s k x : Nat) : Bool := decide (1 ≤ a ∧ a ≤ 50 ∧ 1 ≤ b ∧ b ≤ 50 ∧ s ≤ 500 ∧ k ≤ 10 ∧ (x ≤ 500 ∨ k = 0))
theorem zeros_len (n : Nat) : (zeros n).length = n := by simp [zeros]
theorem may_txB (a b s k x : Nat) : mayB (txB a b s k x) = goodB a b s k x := by
  rw [Bool.eq_iff_iff, mayB_iff]
  unfold goodB
  rw [decide_eq_true_iff]
  constructor
  · intro h
    have h1 : 1 ≤ a := by simpa [txB] using h.i1
    have h2 : a ≤ 50 := by simpa [txB] using h.i50
    have h3 : 1 ≤ b := by simpa [txB] using h.o1
    have h4 : b ≤ 50 := by simpa [txB] using h.o50
    have h5 := h.isc (inC a s x k (a - 1)) (List.mem_map.2 ⟨a - 1, List.mem_range.2 (by omega), rfl⟩)
    unfold inC at h5
    simp only [if_pos (show a - 1 + 1 = a by omega), zeros_len] at h5
    have hm0 : inC a s x k 0 ∈ (txB a b s k x).ins := List.mem_map.2 ⟨0, List.mem_range.2 (by omega), rfl⟩
    have h6 := h.iwl _ hm0
    unfold inC at h6
    simp only [if_true, List.length_replicate] at h6
    refine ⟨h1, h2, h3, h4, h5, h6, ?_⟩
    rcases Nat.eq_zero_or_pos k with h7 | h7
    · exact .inr h7
    · have h8 := h.iwx _ hm0 (zeros x) (by unfold inC; simp only [if_true]; exact List.mem_replicate.2 ⟨by omega, rfl⟩)
      rw [zeros_len] at h8
      exact .inl h8
  · rintro ⟨h1, h2, h3, h4, h5, h6, h7⟩
    refine ⟨by simpa [txB] using h1, by simpa [txB] using h2, by simpa [txB] using h3, by simpa [txB] using h4, fun d hd => ?_, fun d hd => ?_, fun d hd y hy => ?_, fun d hd => ?_⟩
    · obtain ⟨i, _, rfl⟩ := List.mem_map.1 hd
      unfold inC
      simp only
      split
      · rw [zeros_len]; exact h5
      · simp
    · obtain ⟨i, _, rfl⟩ := List.mem_map.1 hd
      unfold inC
      simp only
      split
      · rw [List.length_replicate]; exact h6
      · simp
    · obtain ⟨i, _, rfl⟩ := List.mem_map.1 hd
      unfold inC at hy
      simp only at hy
      split at hy
      · obtain ⟨hk, rfl⟩ := List.mem_replicate.1 hy
        rw [zeros_len]
        omega
      · cases hy
    · obtain ⟨i, _, rfl⟩ := List.mem_map.1 hd
      unfold outC
      simp only
      split
      · rw [zeros_len]; exact h5
      · simp
/-- The bytes of what may not be. -/
theorem bytes_no {t : TxD} (h : mayB t = false) : bytesOf t = [] ∧ baseOf t = [] := by
  unfold bytesOf baseOf
  rw [h]
  exact ⟨rfl, rfl⟩
theorem enc_pos (t : TxD) (wh : Bool) : 0 < (encTx t wh).length := by
  unfold encTx
  simp only [List.length_append, leb_len]
  omega
theorem bytes_yes {t : TxD} (h : mayB t = true) : 0 < (bytesOf t).length ∧ 0 < (baseOf t).length := by
  unfold bytesOf baseOf
  rw [if_pos h, if_pos h]
  exact ⟨enc_pos _ _, enc_pos _ _⟩
theorem pParse_none : pParse [] = (noTx, false) := by decide +kernel
theorem parse_txB {t : TxD} (hf : TxFit t) : (pParse (bytesOf t)).2 = mayB t := by
  cases h : mayB t with
  | true => rw [pParse_back t ((mayB_iff t).1 h) hf]
  | false => rw [(bytes_no h).1, pParse_none]
theorem bytes_len {t : TxD} (hf : TxFit t) : (bytesOf t).length ≤ 400000 := by
  cases h : mayB t with
  | true => exact bytesOf_len ((mayB_iff t).1 h) fun d hd => (hf.ins d hd).plen
  | false => rw [(bytes_no h).1]; simp

def nilV : Value := .slice none 0 0
def inX (i : Nat) : InD := ⟨zeros 32, i, [], 0, []⟩
/-- The cells of input i: SV the script of the last one, V the witnesses of the first one. -/
def RI (a : Nat) (SV V : Value) (cs : List Value) (i : Nat) : Prop := cs = inCells (inX i) (if i + 1 = a then SV else .slice none 0 0) (if i = 0 then V else .slice none 0 0)
def RO (SV : Value) (cs : List Value) (i : Nat) : Prop := cs = [.int .u64 ((0 : Nat) : Int), if i = 0 then SV else .slice none 0 0]
section
set_option maxRecDepth 100000
variable {w : World} {B : Nat}
theorem OwnMany.mapped {α β : Type} {k e : Nat} {R : List Value → α → Prop} {R' : List Value → β → Prop} {v : Value} {ds : List α} (h : OwnMany k e R w B v ds) (f : α → β) (hR : ∀ cs d, d ∈ ds → R cs d → R' cs (f d)) : OwnMany k e R' w B v (ds.map f) := by
  obtain ⟨css, ho, hcl, hlen, hr⟩ := h.lens
  refine ⟨css, by rw [List.length_map]; exact ho, by simpa using hcl, fun i cs d h1 h2 => ?_⟩
  rw [List.getElem?_map] at h2
  cases hd : ds[i]? with
  | none => rw [hd] at h2; cases h2
  | some d0 =>
    rw [hd] at h2
    have := Option.some.inj h2
    rw [← this]
    exact ⟨hlen _ (List.mem_of_getElem? h1), hR _ _ (List.mem_of_getElem? hd) (hr i cs d0 h1 hd)⟩
/-- One cell of element i turned; the others are told by their numbers. -/
theorem OwnMany.cellAt {k e gi c i j n : Nat} {R R' : List Value → Nat → Prop} (h : OwnMany k e R w B (.slice (some ⟨gi, 0, none⟩) n c) (List.range n)) (hi : i < n) (hj : j < k) (u : Value)
    (hR : ∀ cs q, q ≠ i → R cs q → R' cs q) (hd : ∀ cs, R cs i → R' (cs.set j u) i) : OwnMany k e R' (w.setCell ⟨gi, i * k + j, none⟩ u) B (.slice (some ⟨gi, 0, none⟩) n c) (List.range n) := by
  have h' : OwnMany k e R w B (.slice (some ⟨gi, 0, none⟩) (List.range n).length c) (List.range n) := by rw [List.length_range]; exact h
  obtain ⟨css, ho, hcl, hlen, hr⟩ := h'.lens
  have hci : i < css.length := by rw [hcl, List.length_range]; exact hi
  have hl : (List.range n).length = n := List.length_range
  rw [hl] at ho hcl
  refine ⟨css.set i ((css.getD i []).set j u), ?_, by simp [hcl], fun q cs d h1 h2 => ?_⟩
  · rw [hl, ← flatten_set2 css i j u hlen hj hci]
    rcases ho.2 with ⟨h0, hn⟩ | ⟨g, cap, cur, hv, hB, hx, hc, hm, hs, ht⟩
    · cases h0
    · injection hv with hv1 hv2 hv3
      injection hv1 with hv1
      injection hv1 with hv1
      subst hv1
      subst hv3
      refine ⟨by rw [List.length_set]; exact ho.1, .inr ⟨gi, c, _, rfl, hB, Box.set hx _ _, hc, hm, by rw [Array.size_setIfInBounds]; exact hs, ?_⟩⟩
      rw [Array.toList_setIfInBounds, List.take_set, ht]
  · have hqd : d = q := by
      rw [List.getElem?_range (by have := (List.getElem?_eq_some_iff.1 h2).1; simpa using this)] at h2
      exact (Option.some.inj h2).symm
    subst hqd
    rw [List.getElem?_set] at h1
    by_cases hq : i = d
    · subst hq
      rw [if_pos rfl, if_pos hci] at h1
      have hcs : css[i]? = some css[i] := List.getElem?_eq_getElem hci
      have hg : css.getD i [] = css[i] := by rw [List.getD_eq_getElem?_getD, hcs]; rfl
      rw [hg] at h1
      have := Option.some.inj h1
      subst this
      exact ⟨by rw [List.length_set]; exact hlen _ (List.getElem_mem hci), hd _ (hr i _ _ hcs h2)⟩
    · rw [if_neg hq] at h1
      exact ⟨hlen _ (List.mem_of_getElem? h1), hR _ _ (fun e => hq e.symm) (hr d cs d h1 h2)⟩
theorem inX_fit {i : Nat} (h : i ≤ 63) : (inX i).Fit := ⟨zeros_len 32, zeros_bys 32, by show i < 4294967296; omega, by show (0 : Nat) < 4294967296; omega⟩
theorem inCells_set33 (i : Nat) (sv wv u : Value) : (inCells (inX i) sv wv).set 33 u = inCells (inX i) u wv := by
  unfold inCells
  have hl : (byteVals (inX i).prev).length = 32 := by unfold byteVals; rw [List.length_map]; exact zeros_len 32
  rw [List.set_append, if_neg (by omega), hl]
  rfl
theorem inCells_set35 (i : Nat) (sv wv u : Value) : (inCells (inX i) sv wv).set 35 u = inCells (inX i) sv u := by
  unfold inCells
  have hl : (byteVals (inX i).prev).length = 32 := by unfold byteVals; rw [List.length_map]; exact zeros_len 32
  rw [List.set_append, if_neg (by omega), hl]
  rfl
theorem ri_script {a gi c : Nat} {SV V : Value} (ha : 0 < a) (h : OwnMany 36 58 (RI a SV V) w B (.slice (some ⟨gi, 0, none⟩) a c) (List.range a)) (u : Value) :
    OwnMany 36 58 (RI a u V) (w.setCell ⟨gi, (a - 1) * 36 + 33, none⟩ u) B (.slice (some ⟨gi, 0, none⟩) a c) (List.range a) :=
  OwnMany.cellAt h (by omega) (by omega) u (fun cs q hq h => by unfold RI at h ⊢; rw [if_neg (show ¬ q + 1 = a by omega)] at h ⊢; exact h) (fun cs h => by
    unfold RI at h ⊢
    rw [h, inCells_set33, if_pos (show a - 1 + 1 = a by omega)])
theorem ri_wit {a gi c : Nat} {SV V : Value} (ha : 0 < a) (h : OwnMany 36 58 (RI a SV V) w B (.slice (some ⟨gi, 0, none⟩) a c) (List.range a)) (u : Value) :
    OwnMany 36 58 (RI a SV u) (w.setCell ⟨gi, 35, none⟩ u) B (.slice (some ⟨gi, 0, none⟩) a c) (List.range a) := by
  have := OwnMany.cellAt (i := 0) (j := 35) (R' := RI a SV u) h (by omega) (by omega) u (fun cs q hq h => by unfold RI at h ⊢; rw [if_neg hq] at h ⊢; exact h) (fun cs h => by
    unfold RI at h ⊢
    rw [h, inCells_set35, if_pos rfl])
  rw [Nat.zero_mul, Nat.zero_add] at this
  exact this
theorem ro_script {b go c : Nat} {SV : Value} (hb : 0 < b) (h : OwnMany 2 61 (RO SV) w B (.slice (some ⟨go, 0, none⟩) b c) (List.range b)) (u : Value) :
    OwnMany 2 61 (RO u) (w.setCell ⟨go, 1, none⟩ u) B (.slice (some ⟨go, 0, none⟩) b c) (List.range b) := by
  have := OwnMany.cellAt (i := 0) (j := 1) (R' := RO u) h (by omega) (by omega) u (fun cs q hq h => by unfold RO at h ⊢; rw [if_neg hq] at h ⊢; exact h) (fun cs h => by
    unfold RO at h ⊢
    rw [h, if_pos rfl]
    rfl)
  rw [Nat.zero_mul, Nat.zero_add] at this
  exact this
/-- How it all lies in memory at last. -/
theorem txB_r {iv ov SV V SVo : Value} {a b s k x : Nat} (hi : OwnMany 36 58 (RI a SV V) w B iv (List.range a)) (ho : OwnMany 2 61 (RO SVo) w B ov (List.range b)) (ha : a ≤ 63)
    (hs : 0 < a → Own w B 5 SV (zeros s)) (hv : 0 < a → OwnRows w B V (List.replicate k (zeros x))) (hso : 0 < b → Own w B 5 SVo (zeros s)) : TxR w (.agg #[.int .u32 2, iv, ov, .int .u32 0]) (txB a b s k x) := by
  refine ⟨iv, ov, rfl, by show (2 : Nat) < 4294967296; omega, by show (0 : Nat) < 4294967296; omega, OwnMany.many (R := InO w B) (OwnMany.mapped hi (inC a s x k) fun cs i hi h => ?_) fun _ _ h => h.inR, OwnMany.many (R := OutO w B) (OwnMany.mapped ho (outC s) fun cs i hi h => ?_) fun _ _ h => h.outR⟩
  · have hia := List.mem_range.1 hi
    have hf := inX_fit (i := i) (by omega)
    unfold RI at h
    refine ⟨_, _, h, ⟨hf.plen, hf.pbys, hf.vlt, hf.slt⟩, ?_, ?_, ?_⟩
    · unfold inC
      simp only
      split
      · exact hs (by omega)
      · exact own_nil _ _ _
    · unfold inC
      simp only
      split
      · exact zeros_bys _
      · exact Bys.nil
    · unfold inC
      simp only
      split
      · exact hv (by omega)
      · exact OwnMany.nil _ _ _ _ _
  · have hib := List.mem_range.1 hi
    unfold RO at h
    refine ⟨_, h, by show (0 : Nat) < 18446744073709551616; omega, ?_, ?_⟩
    · unfold outC
      simp only
      split
      · exact hso (by omega)
      · exact own_nil _ _ _
    · unfold outC
      simp only
      split
      · exact zeros_bys _
      · exact Bys.nil
theorem make_zeros {n : Nat} (hn : n ≤ 2000) (W : World) : (Instr.makeSlice 55 (.int .i64 (n : Int)) (.int .i64 (n : Int))).run Try.prog W = .ok (.slice (some ⟨W.heap.size, 0, none⟩) n n) (W.alloc (.cells (byteVals (zeros n)).toArray 5)) := by
  obtain ⟨i0, hi, hz0, hz1, hz2⟩ := info_parts infoByte
  have hr := run_make (P := Try.prog) W 55 5 i0 _ Try.underlying55 hi hz0 .i64 .i64 (n : Int) (n : Int) (by omega) (by omega) (by rw [hz2]; omega) (by omega)
  rw [hz1, show (n : Int).toNat = n from by omega, Nat.mul_one] at hr
  rw [hr]
  have : byteVals (zeros n) = List.replicate n (Value.int .u8 0) := by unfold byteVals zeros; rw [List.map_replicate]
  rw [this, ← madeCells_bytes]
  rfl
theorem own_made {n g : Nat} (hx : Box w g 5 (byteVals (zeros n)).toArray) (hB : B ≤ g) (hn : n ≤ 2000) : Own w B 5 (.slice (some ⟨g, 0, none⟩) n n) (zeros n) := by
  refine ⟨by simp [byteVals], .inr ⟨g, n, _, by rw [zeros_len], hB, hx, by rw [zeros_len]; exact Nat.le_refl _, by unfold maxLen; omega, by simp [byteVals, zeros], ?_⟩⟩
  rw [List.take_of_length_le (by simp [byteVals])]
end
end

end Go.Proofs.Ytdemamipllfonaa
