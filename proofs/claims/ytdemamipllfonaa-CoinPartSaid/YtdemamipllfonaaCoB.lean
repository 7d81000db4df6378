/- Package coin: New, Get, Put, Take, has, lacks. -/
import Derived.Test.YtdemamipllfonaaCoA
import Derived.Test.YtdemamipllfonaaGe
import Derived.Deep.MidRow
import Derived.Deep.RegionHeld3
namespace Go.Proofs.Ytdemamipllfonaa
open Go.RowKit Go.Maps

/-- A Set: its box, its map, what it holds. -/
structure SetS (w : World) (bs bm N : Nat) (M : Coins) : Prop where
  box : Box w bs 54 #[.map (some bm)]
  own : ∃ n D, n ≤ N ∧ w.ownsMap Try.prog 41 coinR bm n D ∧ MapR D M
theorem SetS.grown {w w' : World} {bs bm N : Nat} {M : Coins} {row : Option Nat} (h : SetS w bs bm N M) (hg : w.grownBy w' row) (h1 : some bs ≠ row) (h2 : some bm ≠ row) : SetS w' bs bm N M := by
  obtain ⟨hb, n, D, hn, ho, hm⟩ := h
  exact ⟨(hg.block bs hb.lt h1).trans hb, n, D, hn, ho.kept hg h2, hm⟩
theorem grown_of_below {w w' : World} (hb : Below w.heap.size w w') : w.grownBy w' none := ⟨hb.os, hb.tape, hb.output, hb.size, fun k hk _ => hb.block k hk⟩
theorem SetS.below {w w' : World} {bs bm N : Nat} {M : Coins} (h : SetS w bs bm N M) (hb : Below w.heap.size w w') : SetS w' bs bm N M := h.grown (grown_of_below hb) (by simp) (by simp)
theorem SetS.mono {w : World} {bs bm N N' : Nat} {M : Coins} (h : SetS w bs bm N M) (hN : N ≤ N') : SetS w bs bm N' M := by
  obtain ⟨hb, n, D, hn, ho, hm⟩ := h
  exact ⟨hb, n, D, Nat.le_trans hn hN, ho, hm⟩
theorem SetS.lt {w : World} {bs bm N : Nat} {M : Coins} (h : SetS w bs bm N M) : bs < w.heap.size ∧ bm < w.heap.size := by
  obtain ⟨hb, n, D, hn, ho, hm⟩ := h
  exact ⟨hb.lt, ho.lt⟩
theorem SetS.ne {w : World} {bs bm N : Nat} {M : Coins} (h : SetS w bs bm N M) : bs ≠ bm := by
  obtain ⟨hb, n, D, hn, ⟨es, clock, ho, _⟩, hm⟩ := h
  rintro rfl
  have h1 : w.heap[bs]? = _ := hb
  rw [h1] at ho
  cases ho

/-- What it answers, and the world is as it was but for new blocks. -/
def SetV (bs : Nat) : Value := .pointer (some ⟨bs, 0, none⟩)

theorem ptC_all {p : PtD} : (ptC p.id p.vout).toArray.all (·.oneCell') = true := by
  refine all_oneCell_toArray fun v hv => ?_
  unfold ptC at hv
  rcases List.mem_append.1 hv with h | h
  · exact byteVals_one _ v h
  · rw [List.mem_singleton.1 h]; rfl
set_option maxRecDepth 100000 in
theorem sizePt : (Try.prog.info? 41).map (·.size) = some 33 := by kernel_rfl
set_option maxRecDepth 100000 in
theorem sizeCoin : (Try.prog.info? 44).map (·.size) = some 4 := by kernel_rfl

set_option maxRecDepth 100000 in
set_option maxHeartbeats 1000000 in
theorem new_any (w : World) : Calls Try.prog 6 #[] w fun e w' => e = .returned (SetV (w.heap.size + 1)) ∧ SetS w' (w.heap.size + 1) w.heap.size 0 [] ∧ Below w.heap.size w w' := by
  have hmm := @run_makeMap Try.prog
  have HM : Kp ((w.alloc (.map #[] 0)).ownsMap Try.prog 41 coinR w.heap.size 0 (.map [])) := ⟨World.ownsMap_made _ _ _ _⟩
  have HB : Kp (Below w.heap.size w (w.alloc (.map #[] 0))) := ⟨(Below.refl _ _).alloc (Nat.le_refl _) _⟩
  go_enter Try.func6, Try.ntmps6
  go_wp2
  go_ret
  refine ⟨rfl, ⟨?_, 0, _, Nat.le_refl _, HM.out.alloc _, MapR.nil⟩, HB.out.alloc HB.out.size _⟩
  have := Box.fresh (w.alloc (.map #[] 0)) 54 #[.map (some w.heap.size)]
  simpa using this

theorem box_range {w : World} {b t : Nat} {cs : List Value} (h : Box w b t cs.toArray) : w.rangeAt b 0 cs := fun j v hv => by
  have := h.cell j
  rw [Nat.zero_add, this]
  simpa using hv
set_option maxRecDepth 100000 in
theorem zeroCoin_run (w : World) : (zeroValue 44).run Try.prog w = .ok (coinV zeroCoin) w := by kernel_rfl
/-- What a look says. -/
theorem look_run {w : World} {bm n : Nat} {D : DataW Unit} {M : Coins} (ho : w.ownsMap Try.prog 41 coinR bm n D) (hm : MapR D M) {p : PtD} (hp : p.Fit) :
    (Instr.lookup 52 (.map (some bm)) (ptV p) true).run Try.prog w = .ok (.tuple #[coinV (M.get p), .bool (M.has p)]) w := by
  obtain ⟨v, ps, hr, hv⟩ := ho.look_ok ptLaw Try.underlying52 (zeroCoin_run w) (coinR_mk zeroCoin) (keyOf_ptV hp)
  obtain ⟨c, rfl, hc⟩ := coinR_inv hv
  rw [hm.get p hp] at hc
  have : M.get p = c := coinL_inj (congrArg Prod.fst hc)
  rw [hr, hm.has p hp, this]
theorem yieldsIf_look {ops : Array Oper} {S : World → Prop} {op : Oper} {a : Act} (hw : Region.wanted op (yielded ops a.tmps) = true) (m x : Operand) (ho : op.op = .lookup 52 m x true) (vm vx v : Value) (hm : a.eval m = vm) (hx : a.eval x = vx)
    (hS : ∀ w, S w → (Instr.lookup 52 vm vx true).run Try.prog w = .ok v w) : YieldsIf Try.prog ops S op v a :=
  .inl ⟨hw, fun w hw' => by
    have h := hS w hw'
    unfold execOp
    simp [ho, hm, hx, h, Result.andThen]⟩
theorem put_run {w : World} {bs bm N : Nat} {M : Coins} (h : SetS w bs bm N M) {p : PtD} (hp : p.Fit) (c : CoinD) (hN : N < 1000000) :
    ∃ w', (Instr.mapUpdate 52 (.map (some bm)) (ptV p) (coinV c)).run Try.prog w = .ok () w' ∧ SetS w' bs bm (N + 1) (M.put p c) ∧ w.grownBy w' (some bm) := by
  obtain ⟨hb, n, D, hn, ho, hm⟩ := id h
  obtain ⟨w', hr, ho', hg⟩ := ho.update ptLaw Try.underlying52 (by unfold maxLen; omega) (keyOf_ptV hp) (coinR_mk c)
  exact ⟨w', hr, ⟨(hg.block bs hb.lt (by simpa using h.ne)).trans hb, n + 1, _, by omega, ho', hm.put hp c⟩, hg⟩
theorem del_run {w : World} {bs bm N : Nat} {M : Coins} (h : SetS w bs bm N M) {p : PtD} (hp : p.Fit) (ty : TypeId) :
    ∃ w', (Builtin.delete_ #[52, 41] ty #[.map (some bm), ptV p]).run Try.prog w = .ok (.tuple #[]) w' ∧ SetS w' bs bm N (M.del p) ∧ w.grownBy w' (some bm) := by
  obtain ⟨hb, n, D, hn, ho, hm⟩ := id h
  obtain ⟨w', hr, ho', hg⟩ := ho.drop ptLaw Try.underlying52 (keyOf_ptV hp) ty
  exact ⟨w', hr, ⟨(hg.grown.block bs hb.lt (by simpa using h.ne)).trans hb, n, _, hn, ho', hm.del hp⟩, hg.grown⟩
theorem _root_.Go.World.grownBy.none_any {w w' : World} (h : w.grownBy w' none) (row : Option Nat) : w.grownBy w' row := ⟨h.os, h.tape, h.output, h.size, fun k hk _ => h.block k hk (by simp)⟩
theorem _root_.Go.World.grownBy.none_trans {w w' w'' : World} {row : Option Nat} (h : w.grownBy w' none) (k : w'.grownBy w'' row) : w.grownBy w'' row :=
  ⟨k.os.trans h.os, k.tape.trans h.tape, k.output.trans h.output, Nat.le_trans h.size k.size, fun i hi hr => (k.block i (Nat.lt_of_lt_of_le hi h.size) hr).trans (h.block i hi (by simp))⟩
theorem _root_.Go.World.grownBy.set_new {w w' : World} {row : Option Nat} (h : w.grownBy w' row) {b : Nat} (hb : w.heap.size ≤ b) (i : Nat) (v : Value) : w.grownBy (w'.setCell ⟨b, i, none⟩ v) row :=
  ⟨h.os, h.tape, h.output, by rw [setCell_size]; exact h.size, fun k hk hr => (Below.heap_setCell _ _ _ k (by show k ≠ b; omega)).trans (h.block k hk hr)⟩
set_option maxRecDepth 100000 in
set_option maxHeartbeats 2000000 in
theorem has_any (w : World) (bs bm N : Nat) (M : Coins) (p : PtD) (h : SetS w bs bm N M) (hp : p.Fit) : Calls Try.prog 22 #[SetV bs, ptV p] w (BoolP (M.has p) w) := by
  obtain ⟨hb, n, D, hn, ho, hm⟩ := h
  have HL := Kp.mk (fun W (hW : Below w.heap.size w W) => look_run (ho.kept (grown_of_below hW) (by simp)) hm hp)
  have HALL := Kp.mk (ptC_all (p := p))
  have HSZ : Kp ((Try.prog.info? 41).map (·.size) = some (ptC p.id p.vout).length) := ⟨by rw [ptC_len hp.1]; exact sizePt⟩
  unfold ptV at HL ⊢
  unfold SetV
  generalize ptC p.id p.vout = cs at *
  generalize M.get p = cc at *
  generalize M.has p = bb at *
  obtain ⟨W1, hW1⟩ : ∃ W, w.alloc (.cells cs.toArray 41) = W := ⟨_, rfl⟩
  have hb1 : Below w.heap.size w W1 := by rw [← hW1]; exact (Below.refl _ _).alloc (Nat.le_refl _) _
  have HB1 := Kp.mk hb1
  have hrow : Box W1 w.heap.size 41 cs.toArray := by rw [← hW1]; exact Box.fresh _ _ _
  have HR : Kp (∀ W, Below W1.heap.size W1 W → W.rangeAt w.heap.size 0 cs) := ⟨fun W hW => box_range (hrow.below hW)⟩
  have HS : Kp (∀ W, Below W1.heap.size W1 W → W.cell? ⟨bs, 0, none⟩ = some (.map (some bm))) := ⟨fun W hW => (hb.below (hb1.trans (hW.mono hb1.size))).cell 0⟩
  have HL1 : Kp (∀ W, Below W1.heap.size W1 W → (Instr.lookup 52 (.map (some bm)) (.agg cs.toArray) true).run Try.prog W = .ok (.tuple #[coinV cc, .bool bb]) W) := ⟨fun W hW => HL.out W (hb1.trans (hW.mono hb1.size))⟩
  have HW1 := Kp.mk hW1
  clear hb ho hm hn hW1 hb1 hp hrow HL
  go_enter Try.func22, Try.ntmps22
  go_wp2
  rw [HW1.out]
  refine wp_region_noPanic ?_
  refine wp_region_held_drew (S := fun W => Below W1.heap.size W1 W) (by kernel_rfl) ?_ (fun hHeld => ?_)
  · exact (Below.refl _ _).drew
  refine wpAnyH_take (i := 0) (oi := ⟨some 8, _, _, _, _, _⟩) (v := ?_) rfl (by kernel_rfl) (by kernel_rfl) (by kernel_rfl) (fun _ _ _ h => h) (Or.inl ⟨by rfl, ?_⟩) hHeld ?_
  rotate_left
  · (intro wx hSw; (try dsimp only at hSw); go_simp; try with_reducible rfl)
  try simp only [Act.put, List.setIfInBounds_toArray, List.set_cons_zero, List.set_cons_succ]
  refine wpAnyH_take (i := 1) (oi := ⟨some 9, _, _, _, _, _⟩) (v := ?_) rfl (by kernel_rfl) (by kernel_rfl) (by kernel_rfl) (fun _ _ _ h => h) (Or.inl ⟨by rfl, ?_⟩) hHeld ?_
  rotate_left
  · (intro wx hSw; (try dsimp only at hSw); go_simp; try with_reducible rfl)
  try simp only [Act.put, List.setIfInBounds_toArray, List.set_cons_zero, List.set_cons_succ]
  refine wpAnyH_take (i := 2) (oi := ⟨some 10, _, _, _, _, _⟩) (v := ?_) rfl (by kernel_rfl) (by kernel_rfl) (by kernel_rfl) (fun _ _ _ h => h) (Or.inl ⟨by rfl, ?_⟩) hHeld ?_
  rotate_left
  · (intro wx hSw; (try dsimp only at hSw); go_simp; try with_reducible rfl)
  try simp only [Act.put, List.setIfInBounds_toArray, List.set_cons_zero, List.set_cons_succ]
  refine wpAnyH_take (i := 3) (oi := ⟨some 11, _, _, _, _, _⟩) (v := ?_) rfl (by kernel_rfl) (by kernel_rfl) (by kernel_rfl) (fun _ _ _ h => h) (Or.inl ⟨by rfl, ?_⟩) hHeld ?_
  rotate_left
  · (intro wx hSw; have c0 := HS.out wx hSw; (try dsimp only at hSw); go_simp; try with_reducible rfl)
  try simp only [Act.put, List.setIfInBounds_toArray, List.set_cons_zero, List.set_cons_succ]
  refine wpAnyH_take (i := 4) (oi := ⟨some 12, _, _, _, _, _⟩) (v := .agg cs.toArray) rfl (by kernel_rfl) (by kernel_rfl) (by kernel_rfl) (fun _ _ _ h => h) (yieldsIf_load_mid rfl 41 (.tmp 3) rfl w.heap.size 0 rfl cs _ (fun W hW => HR.out W hW) Try.underlying41 rfl HSZ.out) hHeld ?_
  try simp only [Act.put, List.setIfInBounds_toArray, List.set_cons_zero, List.set_cons_succ]
  refine wpAnyH_take (i := 5) (oi := ⟨some 13, _, _, _, _, _⟩) (v := .tuple #[coinV cc, .bool bb]) rfl (by kernel_rfl) (by kernel_rfl) (by kernel_rfl) (fun _ _ _ h => h) (yieldsIf_look rfl (.tmp 11) (.tmp 12) rfl _ _ _ rfl rfl (fun W hW => HL1.out W hW)) hHeld ?_
  try simp only [Act.put, List.setIfInBounds_toArray, List.set_cons_zero, List.set_cons_succ]
  refine wpAnyH_take (i := 6) (oi := ⟨some 7, _, _, _, _, _⟩) (v := ?_) rfl (by kernel_rfl) (by kernel_rfl) (by kernel_rfl) (fun _ _ _ h => h) (Or.inl ⟨by rfl, ?_⟩) hHeld ?_
  rotate_left
  · (intro wx hSw; (try dsimp only at hSw); go_simp; try with_reducible rfl)
  try simp only [Act.put, List.setIfInBounds_toArray, List.set_cons_zero, List.set_cons_succ]
  refine wpAnyH_take (i := 7) (oi := ⟨some 14, _, _, _, _, _⟩) (v := ?_) rfl (by kernel_rfl) (by kernel_rfl) (by kernel_rfl) (fun _ _ _ h => h) (Or.inl ⟨by rfl, ?_⟩) hHeld ?_
  rotate_left
  · (intro wx hSw; (try dsimp only at hSw); go_simp; try with_reducible rfl)
  try simp only [Act.put, List.setIfInBounds_toArray, List.set_cons_zero, List.set_cons_succ]
  refine wpAnyH_take (i := 8) (oi := ⟨some 15, _, _, _, _, _⟩) (v := ?_) rfl (by kernel_rfl) (by kernel_rfl) (by kernel_rfl) (fun _ _ _ h => h) (Or.inl ⟨by rfl, ?_⟩) hHeld ?_
  rotate_left
  · (intro wx hSw; (try dsimp only at hSw); go_simp; try with_reducible rfl)
  try simp only [Act.put, List.setIfInBounds_toArray, List.set_cons_zero, List.set_cons_succ]
  unfold coinV coinCells
  refine wpAnyH_ready (rs := [9]) (by kernel_rfl) (by simp) (AllReadyH.cons (o := ⟨some 5, _, _, _, _, _⟩) rfl (fun K hK => ?_) AllReadyH.nil)
  go_simp
  refine hK.out _ _ ?_ (fun hHeld => ?_)
  · exact ((Below.refl _ _).alloc (Nat.le_refl _) _).drew
  clear hK K
  try simp only [Act.put, List.setIfInBounds_toArray, List.set_cons_zero, List.set_cons_succ]
  refine wpAnyH_ready (rs := [10]) (by kernel_rfl) (by simp) (AllReadyH.cons (o := ⟨none, _, _, _, _, _⟩) rfl (fun K hK => ?_) AllReadyH.nil)
  go_simp
  refine hK.out _ _ ?_ (fun hHeld => ?_)
  · exact ((Below.refl _ _).alloc (Nat.le_refl _) _).drew
  clear hK K
  try simp only [Act.put, List.setIfInBounds_toArray, List.set_cons_zero, List.set_cons_succ]
  refine wpAnyH_take (i := 11) (oi := ⟨some 6, _, _, _, _, _⟩) (v := ?_) rfl (by kernel_rfl) (by kernel_rfl) (by kernel_rfl) (fun _ _ _ h => h) (Or.inl ⟨by rfl, ?_⟩) hHeld ?_
  rotate_left
  · (intro wx hSw; (try dsimp only at hSw); go_simp; try with_reducible rfl)
  try simp only [Act.put, List.setIfInBounds_toArray, List.set_cons_zero, List.set_cons_succ]
  refine wpAnyH_done (by kernel_rfl) ?_ _
  refine NoPanic.normal ?_
  go_wp2
  go_ret
  exact ⟨rfl, HB1.out.trans (((Below.refl _ _).alloc (Nat.le_refl _) _).drew.mono HB1.out.size)⟩
set_option maxRecDepth 100000 in
set_option maxHeartbeats 2000000 in
theorem lacks_any (w : World) (bs bm N : Nat) (M : Coins) (p : PtD) (h : SetS w bs bm N M) (hp : p.Fit) : Calls Try.prog 23 #[SetV bs, ptV p] w (BoolP (!M.has p) w) := by
  have HC := Kp.mk (fun W (hW : Below w.heap.size w W) => has_any W bs bm N M p (h.below hW) hp)
  have HSZ : Kp ((Try.prog.info? 41).map (·.size) = some (ptC p.id p.vout).toArray.size) := ⟨by rw [List.size_toArray, ptC_len hp.1]; exact sizePt⟩
  unfold ptV at HC ⊢
  generalize ptC p.id p.vout = cs at *
  generalize M.has p = bb at *
  have HB1 : Kp (Below w.heap.size w (w.alloc (.cells cs.toArray 41))) := ⟨(Below.refl _ _).alloc (Nat.le_refl _) _⟩
  have HROW : Kp ((w.alloc (.cells cs.toArray 41)).heap[w.heap.size]? = some (.cells cs.toArray 41 (0, 0))) := ⟨heap_alloc_new _ _⟩
  clear h hp
  unfold SetV at *
  go_enter Try.func23, Try.ntmps23
  go_wp2_with (first | (refine wpList_load_row rfl 41 (.tmp 3) rfl w.heap.size rfl 41 cs.toArray (0, 0) _ HROW.out Try.underlying41 rfl HSZ.out ?_) | (go_at_call 22; refine (HC.out _ HB1.out).mono ?_; rintro e w2 ⟨rfl, hb2⟩; have HB2 := Kp.mk hb2; clear hb2))
  go_ret
  exact ⟨rfl, HB1.out.trans (HB2.out.mono HB1.out.size)⟩
set_option maxRecDepth 100000 in
set_option maxHeartbeats 2000000 in
theorem get_any (w : World) (bs bm N : Nat) (M : Coins) (p : PtD) (h : SetS w bs bm N M) (hp : p.Fit) : Calls Try.prog 24 #[SetV bs, ptV p] w fun e w' => e = .returned (.tuple #[coinV (M.get p), .bool (M.has p)]) ∧ Below w.heap.size w w' := by
  obtain ⟨hb, n, D, hn, ho, hm⟩ := h
  have HL := Kp.mk (fun W (hW : Below w.heap.size w W) => look_run (ho.kept (grown_of_below hW) (by simp)) hm hp)
  have HALL := Kp.mk (ptC_all (p := p))
  have HSZ : Kp ((Try.prog.info? 41).map (·.size) = some (ptC p.id p.vout).length) := ⟨by rw [ptC_len hp.1]; exact sizePt⟩
  unfold ptV at HL ⊢
  unfold SetV
  generalize ptC p.id p.vout = cs at *
  generalize M.get p = cc at *
  generalize M.has p = bb at *
  obtain ⟨W1, hW1⟩ : ∃ W, (w.alloc (.cells cs.toArray 41)).alloc (.cells #[.int .u64 0, .int .i64 0, .int .i64 0, .bool false] 44) = W := ⟨_, rfl⟩
  have hb1 : Below w.heap.size w W1 := by rw [← hW1]; exact ((Below.refl _ _).alloc (Nat.le_refl _) _).alloc (by simp) _
  have HB1 := Kp.mk hb1
  have hrow : Box W1 w.heap.size 41 cs.toArray := by rw [← hW1]; exact (Box.fresh _ _ _).below ((Below.refl _ _).alloc (Nat.le_refl _) _)
  have HR : Kp (∀ W, Below W1.heap.size W1 W → W.rangeAt w.heap.size 0 cs) := ⟨fun W hW => box_range (hrow.below hW)⟩
  have HS : Kp (∀ W, Below W1.heap.size W1 W → W.cell? ⟨bs, 0, none⟩ = some (.map (some bm))) := ⟨fun W hW => (hb.below (hb1.trans (hW.mono hb1.size))).cell 0⟩
  have HL1 : Kp (∀ W, Below W1.heap.size W1 W → (Instr.lookup 52 (.map (some bm)) (.agg cs.toArray) true).run Try.prog W = .ok (.tuple #[coinV cc, .bool bb]) W) := ⟨fun W hW => HL.out W (hb1.trans (hW.mono hb1.size))⟩
  have HW1 := Kp.mk hW1
  have hbox : Box W1 (w.heap.size + 1) 44 #[.int .u64 0, .int .i64 0, .int .i64 0, .bool false] := by
    have := Box.fresh (w.alloc (.cells cs.toArray 41)) 44 #[.int .u64 0, .int .i64 0, .int .i64 0, .bool false]
    rw [hW1] at this
    simpa using this
  have HBX := Kp.mk hbox
  clear hb ho hm hn hW1 hb1 hp hrow HL hbox
  go_enter Try.func24, Try.ntmps24
  go_wp2
  rw [HW1.out]
  refine wp_region_noPanic ?_
  refine wp_region_held_drew (S := fun W => Below W1.heap.size W1 W) (by kernel_rfl) ?_ (fun hHeld => ?_)
  · exact (Below.refl _ _).drew
  refine wpAnyH_take (i := 0) (oi := ⟨some 9, _, _, _, _, _⟩) (v := ?_) rfl (by kernel_rfl) (by kernel_rfl) (by kernel_rfl) (fun _ _ _ h => h) (Or.inl ⟨by rfl, ?_⟩) hHeld ?_
  rotate_left
  · (intro wx hSw; (try dsimp only at hSw); go_simp; try with_reducible rfl)
  try simp only [Act.put, List.setIfInBounds_toArray, List.set_cons_zero, List.set_cons_succ]
  refine wpAnyH_take (i := 1) (oi := ⟨some 10, _, _, _, _, _⟩) (v := ?_) rfl (by kernel_rfl) (by kernel_rfl) (by kernel_rfl) (fun _ _ _ h => h) (Or.inl ⟨by rfl, ?_⟩) hHeld ?_
  rotate_left
  · (intro wx hSw; (try dsimp only at hSw); go_simp; try with_reducible rfl)
  try simp only [Act.put, List.setIfInBounds_toArray, List.set_cons_zero, List.set_cons_succ]
  refine wpAnyH_take (i := 2) (oi := ⟨some 11, _, _, _, _, _⟩) (v := ?_) rfl (by kernel_rfl) (by kernel_rfl) (by kernel_rfl) (fun _ _ _ h => h) (Or.inl ⟨by rfl, ?_⟩) hHeld ?_
  rotate_left
  · (intro wx hSw; (try dsimp only at hSw); go_simp; try with_reducible rfl)
  try simp only [Act.put, List.setIfInBounds_toArray, List.set_cons_zero, List.set_cons_succ]
  refine wpAnyH_take (i := 3) (oi := ⟨some 12, _, _, _, _, _⟩) (v := ?_) rfl (by kernel_rfl) (by kernel_rfl) (by kernel_rfl) (fun _ _ _ h => h) (Or.inl ⟨by rfl, ?_⟩) hHeld ?_
  rotate_left
  · (intro wx hSw; have c0 := HS.out wx hSw; (try dsimp only at hSw); go_simp; try with_reducible rfl)
  try simp only [Act.put, List.setIfInBounds_toArray, List.set_cons_zero, List.set_cons_succ]
  refine wpAnyH_take (i := 4) (oi := ⟨some 13, _, _, _, _, _⟩) (v := .agg cs.toArray) rfl (by kernel_rfl) (by kernel_rfl) (by kernel_rfl) (fun _ _ _ h => h) (yieldsIf_load_mid rfl 41 (.tmp 3) rfl w.heap.size 0 rfl cs _ (fun W hW => HR.out W hW) Try.underlying41 rfl HSZ.out) hHeld ?_
  try simp only [Act.put, List.setIfInBounds_toArray, List.set_cons_zero, List.set_cons_succ]
  refine wpAnyH_take (i := 5) (oi := ⟨some 14, _, _, _, _, _⟩) (v := .tuple #[coinV cc, .bool bb]) rfl (by kernel_rfl) (by kernel_rfl) (by kernel_rfl) (fun _ _ _ h => h) (yieldsIf_look rfl (.tmp 12) (.tmp 13) rfl _ _ _ rfl rfl (fun W hW => HL1.out W hW)) hHeld ?_
  try simp only [Act.put, List.setIfInBounds_toArray, List.set_cons_zero, List.set_cons_succ]
  refine wpAnyH_take (i := 6) (oi := ⟨some 8, _, _, _, _, _⟩) (v := ?_) rfl (by kernel_rfl) (by kernel_rfl) (by kernel_rfl) (fun _ _ _ h => h) (Or.inl ⟨by rfl, ?_⟩) hHeld ?_
  rotate_left
  · (intro wx hSw; (try dsimp only at hSw); go_simp; try with_reducible rfl)
  try simp only [Act.put, List.setIfInBounds_toArray, List.set_cons_zero, List.set_cons_succ]
  refine wpAnyH_take (i := 7) (oi := ⟨some 15, _, _, _, _, _⟩) (v := ?_) rfl (by kernel_rfl) (by kernel_rfl) (by kernel_rfl) (fun _ _ _ h => h) (Or.inl ⟨by rfl, ?_⟩) hHeld ?_
  rotate_left
  · (intro wx hSw; (try dsimp only at hSw); go_simp; try with_reducible rfl)
  try simp only [Act.put, List.setIfInBounds_toArray, List.set_cons_zero, List.set_cons_succ]
  refine wpAnyH_take (i := 8) (oi := ⟨some 16, _, _, _, _, _⟩) (v := ?_) rfl (by kernel_rfl) (by kernel_rfl) (by kernel_rfl) (fun _ _ _ h => h) (Or.inl ⟨by rfl, ?_⟩) hHeld ?_
  rotate_left
  · (intro wx hSw; (try dsimp only at hSw); go_simp; try with_reducible rfl)
  try simp only [Act.put, List.setIfInBounds_toArray, List.set_cons_zero, List.set_cons_succ]
  unfold coinV coinCells
  refine wpAnyH_ready (rs := [9]) (by kernel_rfl) (by simp) (AllReadyH.cons (o := ⟨some 6, _, _, _, _, _⟩) rfl (fun K hK => ?_) AllReadyH.nil)
  go_simp
  refine hK.out _ _ ?_ (fun hHeld => ?_)
  · exact ((Below.refl _ _).alloc (Nat.le_refl _) _).drew
  clear hK K
  try simp only [Act.put, List.setIfInBounds_toArray, List.set_cons_zero, List.set_cons_succ]
  refine wpAnyH_ready (rs := [10]) (by kernel_rfl) (by simp) (AllReadyH.cons (o := ⟨none, _, _, _, _, _⟩) rfl (fun K hK => ?_) AllReadyH.nil)
  go_simp
  refine hK.out _ _ ?_ (fun hHeld => ?_)
  · exact ((Below.refl _ _).alloc (Nat.le_refl _) _).drew
  clear hK K
  try simp only [Act.put, List.setIfInBounds_toArray, List.set_cons_zero, List.set_cons_succ]
  refine wpAnyH_take (i := 11) (oi := ⟨some 7, _, _, _, _, _⟩) (v := ?_) rfl (by kernel_rfl) (by kernel_rfl) (by kernel_rfl) (fun _ _ _ h => h) (Or.inl ⟨by rfl, ?_⟩) hHeld ?_
  rotate_left
  · (intro wx hSw; (try dsimp only at hSw); go_simp; try with_reducible rfl)
  try simp only [Act.put, List.setIfInBounds_toArray, List.set_cons_zero, List.set_cons_succ]
  refine wpAnyH_done (by kernel_rfl) ?_ _
  refine NoPanic.normal ?_
  obtain ⟨W2, hW2⟩ : ∃ W, (W1.alloc (.cells #[.int .u64 cc.value, .int .i64 cc.height, .int .i64 cc.time, .bool cc.base] 44)).drew = W := ⟨_, rfl⟩
  have hb2 : Below W1.heap.size W1 W2 := by rw [← hW2]; exact ((Below.refl _ _).alloc (Nat.le_refl _) _).drew
  have hbn : Box W2 W1.heap.size 44 #[.int .u64 cc.value, .int .i64 cc.height, .int .i64 cc.time, .bool cc.base] := by rw [← hW2]; exact Box.fresh _ _ _
  have hbo := HBX.out.below hb2
  have HB2 := Kp.mk hb2
  have HBO := Kp.mk hbo
  rw [hW2]
  have n0 := hbn.cell 0
  have n1 := hbn.cell 1
  have n2 := hbn.cell 2
  have n3 := hbn.cell 3
  have o0 := hbo.cell 0
  have o1 := hbo.cell 1
  have o2 := hbo.cell 2
  have o3 := hbo.cell 3
  have f0 := hbo.warm 0
  have f1 := hbo.warm 1
  have f2 := hbo.warm 2
  have f3 := hbo.warm 3
  clear hW2 hb2 hbn hbo
  go_wp2
  have hb3 := (((HBO.out.set 0 (.int .u64 cc.value)).set 1 (.int .i64 cc.height)).set 2 (.int .i64 cc.time)).set 3 (.bool cc.base)
  exact bodyPost_ret (results_cell_row2 (p := 4) (u := 5) (by rfl) _ _ (w.heap.size + 1) 44 _ _ _ (.bool bb) rfl rfl hb3 Try.underlying44 rfl sizeCoin) rfl ⟨rfl, ((((HB1.out.trans (HB2.out.mono HB1.out.size)).setCell (Nat.le_succ _) _).setCell (Nat.le_succ _) _).setCell (Nat.le_succ _) _).setCell (Nat.le_succ _) _⟩
set_option maxRecDepth 100000 in
set_option maxHeartbeats 2000000 in
theorem put_any (w : World) (bs bm N : Nat) (M : Coins) (p : PtD) (c : CoinD) (h : SetS w bs bm N M) (hp : p.Fit) (hN : N < 1000000) : Calls Try.prog 13 #[SetV bs, ptV p, coinV c] w fun e w' => e = .returned (.bool (!M.has p)) ∧ SetS w' bs bm (N + 1) (if M.has p then M else M.put p c) ∧ w.grownBy w' (some bm) := by
  have HC := Kp.mk (fun W (hW : Below w.heap.size w W) => has_any W bs bm N M p (h.below hW) hp)
  have HPUT := Kp.mk (fun W (hs : SetS W bs bm N M) => put_run hs hp c hN)
  have HS0 := Kp.mk (fun W (hW : Below w.heap.size w W) => h.below hW)
  have HLT := Kp.mk (And.intro h.lt h.ne)
  have HSZ : Kp ((Try.prog.info? 41).map (·.size) = some (ptC p.id p.vout).toArray.size) := ⟨by rw [List.size_toArray, ptC_len hp.1]; exact sizePt⟩
  have HSL : Kp ((Try.prog.info? 41).map (·.size) = some (ptC p.id p.vout).length) := ⟨by rw [ptC_len hp.1]; exact sizePt⟩
  unfold ptV at HC HPUT ⊢
  unfold coinV coinCells at HPUT ⊢
  generalize ptC p.id p.vout = cs at *
  have HB1 : Kp (Below w.heap.size w ((w.alloc (.cells cs.toArray 41)).alloc (.cells #[.int .u64 c.value, .int .i64 c.height, .int .i64 c.time, .bool c.base] 44))) := ⟨((Below.refl _ _).alloc (Nat.le_refl _) _).alloc (by simp) _⟩
  have HROW : Kp (Box ((w.alloc (.cells cs.toArray 41)).alloc (.cells #[.int .u64 c.value, .int .i64 c.height, .int .i64 c.time, .bool c.base] 44)) w.heap.size 41 cs.toArray) := ⟨(Box.fresh _ _ _).below ((Below.refl _ _).alloc (Nat.le_refl _) _)⟩
  have HCO : Kp (Box ((w.alloc (.cells cs.toArray 41)).alloc (.cells #[.int .u64 c.value, .int .i64 c.height, .int .i64 c.time, .bool c.base] 44)) (w.heap.size + 1) 44 #[.int .u64 c.value, .int .i64 c.height, .int .i64 c.time, .bool c.base]) := ⟨by have := Box.fresh (w.alloc (.cells cs.toArray 41)) 44 #[.int .u64 c.value, .int .i64 c.height, .int .i64 c.time, .bool c.base]; simpa using this⟩
  clear h hp
  unfold SetV at *
  cases hbb : M.has p
  · rw [hbb] at HC
    go_enter Try.func13, Try.ntmps13
    go_wp2_with (first | (refine wpList_load_row rfl 41 (.tmp 4) rfl w.heap.size rfl 41 cs.toArray (0, 0) _ HROW.out Try.underlying41 rfl HSZ.out ?_) | (go_at_call 22; refine (HC.out _ HB1.out).mono ?_; rintro e w2 ⟨rfl, hb2⟩; have HB2 := Kp.mk hb2; clear hb2))
    have hB := HB1.out.trans (HB2.out.mono HB1.out.size)
    have HB := Kp.mk hB
    have hS : SetS w2 bs bm N M := HS0.out _ hB
    have HSD : Kp (SetS w2.drew bs bm N M) := ⟨hS.below (Below.refl _ _).drew⟩
    have hHD : Box w2.drew bs 54 #[.map (some bm)] ∧ Box w2.drew w.heap.size 41 cs.toArray ∧ Box w2.drew (w.heap.size + 1) 44 #[.int .u64 c.value, .int .i64 c.height, .int .i64 c.time, .bool c.base] := ⟨hS.box, HROW.out.below HB2.out.drew, HCO.out.below HB2.out.drew⟩
    clear hB hS
    refine wp_region_noPanic ?_
    refine wp_region_held_drew (S := fun W => Box W bs 54 #[.map (some bm)] ∧ Box W w.heap.size 41 cs.toArray ∧ Box W (w.heap.size + 1) 44 #[.int .u64 c.value, .int .i64 c.height, .int .i64 c.time, .bool c.base]) (by kernel_rfl) ?_ (fun hHeld => ?_)
    · exact hHD
    refine wpAnyH_take (i := 0) (oi := ⟨some 10, _, _, _, _, _⟩) (v := ?_) rfl (by kernel_rfl) (by kernel_rfl) (by kernel_rfl) (fun _ _ _ h => h) (Or.inl ⟨by rfl, ?_⟩) hHeld ?_
    rotate_left
    · (intro wx hSw; (try dsimp only at hSw); go_simp; try with_reducible rfl)
    try simp only [Act.put, List.setIfInBounds_toArray, List.set_cons_zero, List.set_cons_succ]
    refine wpAnyH_take (i := 1) (oi := ⟨some 11, _, _, _, _, _⟩) (v := ?_) rfl (by kernel_rfl) (by kernel_rfl) (by kernel_rfl) (fun _ _ _ h => h) (Or.inl ⟨by rfl, ?_⟩) hHeld ?_
    rotate_left
    · (intro wx hSw; (try dsimp only at hSw); go_simp; try with_reducible rfl)
    try simp only [Act.put, List.setIfInBounds_toArray, List.set_cons_zero, List.set_cons_succ]
    refine wpAnyH_take (i := 2) (oi := ⟨some 12, _, _, _, _, _⟩) (v := ?_) rfl (by kernel_rfl) (by kernel_rfl) (by kernel_rfl) (fun _ _ _ h => h) (Or.inl ⟨by rfl, ?_⟩) hHeld ?_
    rotate_left
    · (intro wx hSw; (try dsimp only at hSw); go_simp; try with_reducible rfl)
    try simp only [Act.put, List.setIfInBounds_toArray, List.set_cons_zero, List.set_cons_succ]
    refine wpAnyH_take (i := 3) (oi := ⟨some 13, _, _, _, _, _⟩) (v := ?_) rfl (by kernel_rfl) (by kernel_rfl) (by kernel_rfl) (fun _ _ _ h => h) (Or.inl ⟨by rfl, ?_⟩) hHeld ?_
    rotate_left
    · (intro wx hSw; have c0 := hSw.1.cell 0; (try dsimp only at hSw); go_simp; try with_reducible rfl)
    try simp only [Act.put, List.setIfInBounds_toArray, List.set_cons_zero, List.set_cons_succ]
    refine wpAnyH_take (i := 4) (oi := ⟨some 14, _, _, _, _, _⟩) (v := .agg cs.toArray) rfl (by kernel_rfl) (by kernel_rfl) (by kernel_rfl) (fun _ _ _ h => h) (yieldsIf_load_mid rfl 41 (.tmp 4) rfl w.heap.size 0 rfl cs _ (fun W hW => box_range hW.2.1) Try.underlying41 rfl HSL.out) hHeld ?_
    try simp only [Act.put, List.setIfInBounds_toArray, List.set_cons_zero, List.set_cons_succ]
    refine wpAnyH_take (i := 5) (oi := ⟨some 15, _, _, _, _, _⟩) (v := ?_) rfl (by kernel_rfl) (by kernel_rfl) (by kernel_rfl) (fun _ _ _ h => h) (Or.inl ⟨by rfl, ?_⟩) hHeld ?_
    rotate_left
    · (intro wx hSw; have d0 := hSw.2.2.cell 0; have d1 := hSw.2.2.cell 1; have d2 := hSw.2.2.cell 2; have d3 := hSw.2.2.cell 3; (try dsimp only at hSw); go_simp; try with_reducible rfl)
    try simp only [Act.put, List.setIfInBounds_toArray, List.set_cons_zero, List.set_cons_succ]
    obtain ⟨w3, hr3, hs3, hg3⟩ := HPUT.out _ HSD.out
    have HS3 := Kp.mk hs3
    have HG3 := Kp.mk hg3
    clear hs3 hg3
    refine wpAnyH_ready (rs := [6]) (by kernel_rfl) (by simp) (AllReadyH.cons (o := ⟨none, _, _, _, _, _⟩) rfl (fun K hK => ?_) AllReadyH.nil)
    go_simp
    refine hK.out _ _ ?_ (fun hHeld => ?_)
    · exact ⟨(HG3.out.block _ hHD.1.lt (by simp; exact HLT.out.2)).trans hHD.1, (HG3.out.block _ hHD.2.1.lt (by simp; have := HLT.out.1.2; omega)).trans hHD.2.1, (HG3.out.block _ hHD.2.2.lt (by simp; have := HLT.out.1.2; omega)).trans hHD.2.2⟩
    clear hK K
    try simp only [Act.put, List.setIfInBounds_toArray, List.set_cons_zero, List.set_cons_succ]
    refine wpAnyH_done (by kernel_rfl) ?_ _
    refine NoPanic.normal ?_
    clear hHeld hHD
    go_wp2
    go_ret
    exact ⟨rfl, HS3.out, (grown_of_below HB.out.drew).none_trans HG3.out⟩
  · rw [hbb] at HC
    go_enter Try.func13, Try.ntmps13
    go_wp2_with (first | (refine wpList_load_row rfl 41 (.tmp 4) rfl w.heap.size rfl 41 cs.toArray (0, 0) _ HROW.out Try.underlying41 rfl HSZ.out ?_) | (go_at_call 22; refine (HC.out _ HB1.out).mono ?_; rintro e w2 ⟨rfl, hb2⟩; have HB2 := Kp.mk hb2; clear hb2))
    go_ret
    have hB := HB1.out.trans (HB2.out.mono HB1.out.size)
    exact ⟨rfl, (HS0.out _ hB).mono (Nat.le_succ _), (grown_of_below hB).none_any _⟩
set_option maxRecDepth 100000 in
set_option maxHeartbeats 2000000 in
theorem take_any (w : World) (bs bm N : Nat) (M : Coins) (p : PtD) (h : SetS w bs bm N M) (hp : p.Fit) : Calls Try.prog 12 #[SetV bs, ptV p] w fun e w' => e = .returned (.tuple #[coinV (M.get p), .bool (M.has p)]) ∧ SetS w' bs bm N (M.del p) ∧ w.grownBy w' (some bm) := by
  have HDEL := Kp.mk (fun W (hs : SetS W bs bm N M) => del_run hs hp 0)
  have HS0 := Kp.mk (fun W (hW : Below w.heap.size w W) => h.below hW)
  have HLT := Kp.mk (And.intro h.lt h.ne)
  obtain ⟨hb, n, D, hn, ho, hm⟩ := h
  have HL := Kp.mk (fun W (hW : Below w.heap.size w W) => look_run (ho.kept (grown_of_below hW) (by simp)) hm hp)
  have HALL := Kp.mk (ptC_all (p := p))
  have HSZ : Kp ((Try.prog.info? 41).map (·.size) = some (ptC p.id p.vout).length) := ⟨by rw [ptC_len hp.1]; exact sizePt⟩
  unfold ptV at HL HDEL ⊢
  unfold SetV
  generalize ptC p.id p.vout = cs at *
  generalize M.get p = cc at *
  generalize M.has p = bb at *
  obtain ⟨W1, hW1⟩ : ∃ W, (w.alloc (.cells cs.toArray 41)).alloc (.cells #[.int .u64 0, .int .i64 0, .int .i64 0, .bool false] 44) = W := ⟨_, rfl⟩
  have hb1 : Below w.heap.size w W1 := by rw [← hW1]; exact ((Below.refl _ _).alloc (Nat.le_refl _) _).alloc (by simp) _
  have HB1 := Kp.mk hb1
  have hrow : Box W1 w.heap.size 41 cs.toArray := by rw [← hW1]; exact (Box.fresh _ _ _).below ((Below.refl _ _).alloc (Nat.le_refl _) _)
  have HR : Kp (∀ W, Below W1.heap.size W1 W → W.rangeAt w.heap.size 0 cs) := ⟨fun W hW => box_range (hrow.below hW)⟩
  have HS : Kp (∀ W, Below W1.heap.size W1 W → W.cell? ⟨bs, 0, none⟩ = some (.map (some bm))) := ⟨fun W hW => (hb.below (hb1.trans (hW.mono hb1.size))).cell 0⟩
  have HL1 : Kp (∀ W, Below W1.heap.size W1 W → (Instr.lookup 52 (.map (some bm)) (.agg cs.toArray) true).run Try.prog W = .ok (.tuple #[coinV cc, .bool bb]) W) := ⟨fun W hW => HL.out W (hb1.trans (hW.mono hb1.size))⟩
  have HW1 := Kp.mk hW1
  have hbox : Box W1 (w.heap.size + 1) 44 #[.int .u64 0, .int .i64 0, .int .i64 0, .bool false] := by
    have := Box.fresh (w.alloc (.cells cs.toArray 41)) 44 #[.int .u64 0, .int .i64 0, .int .i64 0, .bool false]
    rw [hW1] at this
    simpa using this
  have HBX := Kp.mk hbox
  have HROW := Kp.mk hrow
  clear hb ho hm hn hW1 hb1 hp hrow HL hbox
  go_enter Try.func12, Try.ntmps12
  go_wp2
  rw [HW1.out]
  refine wp_region_noPanic ?_
  refine wp_region_held_drew (S := fun W => Below W1.heap.size W1 W) (by kernel_rfl) ?_ (fun hHeld => ?_)
  · exact (Below.refl _ _).drew
  refine wpAnyH_take (i := 0) (oi := ⟨some 9, _, _, _, _, _⟩) (v := ?_) rfl (by kernel_rfl) (by kernel_rfl) (by kernel_rfl) (fun _ _ _ h => h) (Or.inl ⟨by rfl, ?_⟩) hHeld ?_
  rotate_left
  · (intro wx hSw; (try dsimp only at hSw); go_simp; try with_reducible rfl)
  try simp only [Act.put, List.setIfInBounds_toArray, List.set_cons_zero, List.set_cons_succ]
  refine wpAnyH_take (i := 1) (oi := ⟨some 10, _, _, _, _, _⟩) (v := ?_) rfl (by kernel_rfl) (by kernel_rfl) (by kernel_rfl) (fun _ _ _ h => h) (Or.inl ⟨by rfl, ?_⟩) hHeld ?_
  rotate_left
  · (intro wx hSw; (try dsimp only at hSw); go_simp; try with_reducible rfl)
  try simp only [Act.put, List.setIfInBounds_toArray, List.set_cons_zero, List.set_cons_succ]
  refine wpAnyH_take (i := 2) (oi := ⟨some 11, _, _, _, _, _⟩) (v := ?_) rfl (by kernel_rfl) (by kernel_rfl) (by kernel_rfl) (fun _ _ _ h => h) (Or.inl ⟨by rfl, ?_⟩) hHeld ?_
  rotate_left
  · (intro wx hSw; (try dsimp only at hSw); go_simp; try with_reducible rfl)
  try simp only [Act.put, List.setIfInBounds_toArray, List.set_cons_zero, List.set_cons_succ]
  refine wpAnyH_take (i := 3) (oi := ⟨some 12, _, _, _, _, _⟩) (v := ?_) rfl (by kernel_rfl) (by kernel_rfl) (by kernel_rfl) (fun _ _ _ h => h) (Or.inl ⟨by rfl, ?_⟩) hHeld ?_
  rotate_left
  · (intro wx hSw; have c0 := HS.out wx hSw; (try dsimp only at hSw); go_simp; try with_reducible rfl)
  try simp only [Act.put, List.setIfInBounds_toArray, List.set_cons_zero, List.set_cons_succ]
  refine wpAnyH_take (i := 4) (oi := ⟨some 13, _, _, _, _, _⟩) (v := .agg cs.toArray) rfl (by kernel_rfl) (by kernel_rfl) (by kernel_rfl) (fun _ _ _ h => h) (yieldsIf_load_mid rfl 41 (.tmp 3) rfl w.heap.size 0 rfl cs _ (fun W hW => HR.out W hW) Try.underlying41 rfl HSZ.out) hHeld ?_
  try simp only [Act.put, List.setIfInBounds_toArray, List.set_cons_zero, List.set_cons_succ]
  refine wpAnyH_take (i := 5) (oi := ⟨some 14, _, _, _, _, _⟩) (v := .tuple #[coinV cc, .bool bb]) rfl (by kernel_rfl) (by kernel_rfl) (by kernel_rfl) (fun _ _ _ h => h) (yieldsIf_look rfl (.tmp 12) (.tmp 13) rfl _ _ _ rfl rfl (fun W hW => HL1.out W hW)) hHeld ?_
  try simp only [Act.put, List.setIfInBounds_toArray, List.set_cons_zero, List.set_cons_succ]
  refine wpAnyH_take (i := 6) (oi := ⟨some 8, _, _, _, _, _⟩) (v := ?_) rfl (by kernel_rfl) (by kernel_rfl) (by kernel_rfl) (fun _ _ _ h => h) (Or.inl ⟨by rfl, ?_⟩) hHeld ?_
  rotate_left
  · (intro wx hSw; (try dsimp only at hSw); go_simp; try with_reducible rfl)
  try simp only [Act.put, List.setIfInBounds_toArray, List.set_cons_zero, List.set_cons_succ]
  refine wpAnyH_take (i := 7) (oi := ⟨some 15, _, _, _, _, _⟩) (v := ?_) rfl (by kernel_rfl) (by kernel_rfl) (by kernel_rfl) (fun _ _ _ h => h) (Or.inl ⟨by rfl, ?_⟩) hHeld ?_
  rotate_left
  · (intro wx hSw; (try dsimp only at hSw); go_simp; try with_reducible rfl)
  try simp only [Act.put, List.setIfInBounds_toArray, List.set_cons_zero, List.set_cons_succ]
  refine wpAnyH_take (i := 8) (oi := ⟨some 16, _, _, _, _, _⟩) (v := ?_) rfl (by kernel_rfl) (by kernel_rfl) (by kernel_rfl) (fun _ _ _ h => h) (Or.inl ⟨by rfl, ?_⟩) hHeld ?_
  rotate_left
  · (intro wx hSw; (try dsimp only at hSw); go_simp; try with_reducible rfl)
  try simp only [Act.put, List.setIfInBounds_toArray, List.set_cons_zero, List.set_cons_succ]
  unfold coinV coinCells
  refine wpAnyH_ready (rs := [9]) (by kernel_rfl) (by simp) (AllReadyH.cons (o := ⟨some 6, _, _, _, _, _⟩) rfl (fun K hK => ?_) AllReadyH.nil)
  go_simp
  refine hK.out _ _ ?_ (fun hHeld => ?_)
  · exact ((Below.refl _ _).alloc (Nat.le_refl _) _).drew
  clear hK K
  try simp only [Act.put, List.setIfInBounds_toArray, List.set_cons_zero, List.set_cons_succ]
  refine wpAnyH_ready (rs := [10]) (by kernel_rfl) (by simp) (AllReadyH.cons (o := ⟨none, _, _, _, _, _⟩) rfl (fun K hK => ?_) AllReadyH.nil)
  go_simp
  refine hK.out _ _ ?_ (fun hHeld => ?_)
  · exact ((Below.refl _ _).alloc (Nat.le_refl _) _).drew
  clear hK K
  try simp only [Act.put, List.setIfInBounds_toArray, List.set_cons_zero, List.set_cons_succ]
  refine wpAnyH_take (i := 11) (oi := ⟨some 7, _, _, _, _, _⟩) (v := ?_) rfl (by kernel_rfl) (by kernel_rfl) (by kernel_rfl) (fun _ _ _ h => h) (Or.inl ⟨by rfl, ?_⟩) hHeld ?_
  rotate_left
  · (intro wx hSw; (try dsimp only at hSw); go_simp; try with_reducible rfl)
  try simp only [Act.put, List.setIfInBounds_toArray, List.set_cons_zero, List.set_cons_succ]
  refine wpAnyH_done (by kernel_rfl) ?_ _
  refine NoPanic.normal ?_
  obtain ⟨W2, hW2⟩ : ∃ W, (W1.alloc (.cells #[.int .u64 cc.value, .int .i64 cc.height, .int .i64 cc.time, .bool cc.base] 44)).drew = W := ⟨_, rfl⟩
  have hb2 : Below W1.heap.size W1 W2 := by rw [← hW2]; exact ((Below.refl _ _).alloc (Nat.le_refl _) _).drew
  have hbn : Box W2 W1.heap.size 44 #[.int .u64 cc.value, .int .i64 cc.height, .int .i64 cc.time, .bool cc.base] := by rw [← hW2]; exact Box.fresh _ _ _
  have hbo := HBX.out.below hb2
  have hB := HB1.out.trans (hb2.mono HB1.out.size)
  have HB2 := Kp.mk hB
  rw [hW2]
  have hS := HS0.out _ hB
  have HSD : Kp (SetS W2.drew bs bm N M) := ⟨hS.below (Below.refl _ _).drew⟩
  have hHD : Box W2.drew bs 54 #[.map (some bm)] ∧ Box W2.drew w.heap.size 41 cs.toArray ∧ Box W2.drew (w.heap.size + 1) 44 #[.int .u64 0, .int .i64 0, .int .i64 0, .bool false] ∧ Box W2.drew W1.heap.size 44 #[.int .u64 cc.value, .int .i64 cc.height, .int .i64 cc.time, .bool cc.base] := ⟨hS.box, HROW.out.below hb2.drew, hbo, hbn⟩
  clear hB hS hb2 hbn hbo hW2 hHeld
  go_wp2
  refine wp_region_noPanic ?_
  refine wp_region_held_drew (S := fun W => Box W bs 54 #[.map (some bm)] ∧ Box W w.heap.size 41 cs.toArray ∧ Box W (w.heap.size + 1) 44 #[.int .u64 0, .int .i64 0, .int .i64 0, .bool false] ∧ Box W W1.heap.size 44 #[.int .u64 cc.value, .int .i64 cc.height, .int .i64 cc.time, .bool cc.base]) (by kernel_rfl) ?_ (fun hHeld => ?_)
  · exact hHD
  refine wpAnyH_take (i := 0) (oi := ⟨some 17, _, _, _, _, _⟩) (v := ?_) rfl (by kernel_rfl) (by kernel_rfl) (by kernel_rfl) (fun _ _ _ h => h) (Or.inl ⟨by rfl, ?_⟩) hHeld ?_
  rotate_left
  · (intro wx hSw; (try dsimp only at hSw); go_simp; try with_reducible rfl)
  try simp only [Act.put, List.setIfInBounds_toArray, List.set_cons_zero, List.set_cons_succ]
  refine wpAnyH_take (i := 1) (oi := ⟨some 18, _, _, _, _, _⟩) (v := ?_) rfl (by kernel_rfl) (by kernel_rfl) (by kernel_rfl) (fun _ _ _ h => h) (Or.inl ⟨by rfl, ?_⟩) hHeld ?_
  rotate_left
  · (intro wx hSw; (try dsimp only at hSw); go_simp; try with_reducible rfl)
  try simp only [Act.put, List.setIfInBounds_toArray, List.set_cons_zero, List.set_cons_succ]
  refine wpAnyH_take (i := 2) (oi := ⟨some 19, _, _, _, _, _⟩) (v := ?_) rfl (by kernel_rfl) (by kernel_rfl) (by kernel_rfl) (fun _ _ _ h => h) (Or.inl ⟨by rfl, ?_⟩) hHeld ?_
  rotate_left
  · (intro wx hSw; (try dsimp only at hSw); go_simp; try with_reducible rfl)
  try simp only [Act.put, List.setIfInBounds_toArray, List.set_cons_zero, List.set_cons_succ]
  refine wpAnyH_take (i := 3) (oi := ⟨some 20, _, _, _, _, _⟩) (v := ?_) rfl (by kernel_rfl) (by kernel_rfl) (by kernel_rfl) (fun _ _ _ h => h) (Or.inl ⟨by rfl, ?_⟩) hHeld ?_
  rotate_left
  · (intro wx hSw; have c0 := hSw.1.cell 0; (try dsimp only at hSw); go_simp; try with_reducible rfl)
  try simp only [Act.put, List.setIfInBounds_toArray, List.set_cons_zero, List.set_cons_succ]
  refine wpAnyH_take (i := 4) (oi := ⟨some 21, _, _, _, _, _⟩) (v := .agg cs.toArray) rfl (by kernel_rfl) (by kernel_rfl) (by kernel_rfl) (fun _ _ _ h => h) (yieldsIf_load_mid rfl 41 (.tmp 3) rfl w.heap.size 0 rfl cs _ (fun W hW => box_range hW.2.1) Try.underlying41 rfl HSZ.out) hHeld ?_
  try simp only [Act.put, List.setIfInBounds_toArray, List.set_cons_zero, List.set_cons_succ]
  obtain ⟨w3, hr3, hs3, hg3⟩ := HDEL.out _ HSD.out
  have HS3 := Kp.mk hs3
  have HG3 := Kp.mk hg3
  clear hs3 hg3
  have HH3 : Kp (Box w3 bs 54 #[.map (some bm)] ∧ Box w3 w.heap.size 41 cs.toArray ∧ Box w3 (w.heap.size + 1) 44 #[.int .u64 0, .int .i64 0, .int .i64 0, .bool false] ∧ Box w3 W1.heap.size 44 #[.int .u64 cc.value, .int .i64 cc.height, .int .i64 cc.time, .bool cc.base]) := ⟨(HG3.out.block _ hHD.1.lt (by simp; exact HLT.out.2)).trans hHD.1, (HG3.out.block _ hHD.2.1.lt (by simp; have := HLT.out.1.2; omega)).trans hHD.2.1, (HG3.out.block _ hHD.2.2.1.lt (by simp; have := HLT.out.1.2; omega)).trans hHD.2.2.1, (HG3.out.block _ hHD.2.2.2.lt (by simp; have := HLT.out.1.2; have := HB1.out.size; omega)).trans hHD.2.2.2⟩
  refine wpAnyH_ready (rs := [5]) (by kernel_rfl) (by simp) (AllReadyH.cons (o := ⟨none, _, _, _, _, _⟩) rfl (fun K hK => ?_) AllReadyH.nil)
  go_simp
  refine hK.out _ _ ?_ (fun hHeld => ?_)
  · exact HH3.out
  clear hK K
  try simp only [Act.put, List.setIfInBounds_toArray, List.set_cons_zero, List.set_cons_succ]
  refine wpAnyH_done (by kernel_rfl) ?_ _
  refine NoPanic.normal ?_
  clear hHeld hHD
  obtain ⟨hh1, hh2, hbo, hbn⟩ := HH3.out
  have HBO := Kp.mk hbo
  have n0 := hbn.cell 0
  have n1 := hbn.cell 1
  have n2 := hbn.cell 2
  have n3 := hbn.cell 3
  have o0 := hbo.cell 0
  have o1 := hbo.cell 1
  have o2 := hbo.cell 2
  have o3 := hbo.cell 3
  have f0 := hbo.warm 0
  have f1 := hbo.warm 1
  have f2 := hbo.warm 2
  have f3 := hbo.warm 3
  clear hh1 hh2 hbn hbo
  go_wp2
  have hb3 := (((HBO.out.set 0 (.int .u64 cc.value)).set 1 (.int .i64 cc.height)).set 2 (.int .i64 cc.time)).set 3 (.bool cc.base)
  have hne1 : some bs ≠ some (w.heap.size + 1) := by simp; have := HLT.out.1.1; omega
  have hne2 : some bm ≠ some (w.heap.size + 1) := by simp; have := HLT.out.1.2; omega
  exact bodyPost_ret (results_cell_row2 (p := 4) (u := 5) (by rfl) _ _ (w.heap.size + 1) 44 _ _ _ (.bool bb) rfl rfl hb3 Try.underlying44 rfl sizeCoin) rfl ⟨rfl, HS3.out.grown (((((Only.refl _ _).set 0 _).set 1 _).set 2 _).set 3 _) hne1 hne2, ((((grown_of_below HB2.out.drew).none_trans HG3.out).set_new (Nat.le_succ _) 0 _).set_new (Nat.le_succ _) 1 _ |>.set_new (Nat.le_succ _) 2 _).set_new (Nat.le_succ _) 3 _⟩
end Go.Proofs.Ytdemamipllfonaa
