/- Package coin: what an iterator of points gives, gathered into a row of the call's own. -/
import Derived.Test.YtdemamipllfonaaCoD
import Derived.Great.BuildSlice
namespace Go.Proofs.Ytdemamipllfonaa
open Go.RowKit Go.Maps Go.Sort

set_option maxRecDepth 100000 in
theorem mapkeys_any (w : World) (b : Nat) : Calls Try.prog 18 #[.map (some b)] w fun e w' => e = .returned (.func (.func 28) #[] #[.pointer (some ⟨w.heap.size, 0, none⟩)]) ∧ w' = w.alloc (.cells #[.map (some b)] 52) := by
  go_enter Try.func18, Try.ntmps18
  go_wp2
  go_ret
  exact ⟨rfl, rfl⟩
set_option maxRecDepth 100000 in
theorem infoPt9 : (Try.prog.info? 41).map (fun i => (i.zero, i.size, i.bytes)) = some (some (.agg (ptC (zeros 32) 0).toArray), 33, 36) := by kernel_rfl
set_option maxRecDepth 100000 in
theorem fill33x (a0 a1 a2 a3 a4 a5 a6 a7 a8 a9 a10 a11 a12 a13 a14 a15 a16 a17 a18 a19 a20 a21 a22 a23 a24 a25 a26 a27 a28 a29 a30 a31 a32 : Value) : Instr.fill (fun i => some (i * 33, 33)) ((Array.range (1 * 33)).map ((Value.agg (ptC (zeros 32) 0).toArray).cells[· % (Value.agg (ptC (zeros 32) 0).toArray).cells.size]!)) [(0, .agg #[a0, a1, a2, a3, a4, a5, a6, a7, a8, a9, a10, a11, a12, a13, a14, a15, a16, a17, a18, a19, a20, a21, a22, a23, a24, a25, a26, a27, a28, a29, a30, a31, a32])] = some #[a0, a1, a2, a3, a4, a5, a6, a7, a8, a9, a10, a11, a12, a13, a14, a15, a16, a17, a18, a19, a20, a21, a22, a23, a24, a25, a26, a27, a28, a29, a30, a31, a32] := by kernel_rfl
theorem fill33 (cs : List Value) (hl : cs.length = 33) : Instr.fill (fun i => some (i * 33, 33)) ((Array.range (1 * 33)).map ((Value.agg (ptC (zeros 32) 0).toArray).cells[· % (Value.agg (ptC (zeros 32) 0).toArray).cells.size]!)) [(0, .agg cs.toArray)] = some cs.toArray := by
  match cs, hl with
  | a0 :: a1 :: a2 :: a3 :: a4 :: a5 :: a6 :: a7 :: a8 :: a9 :: a10 :: a11 :: a12 :: a13 :: a14 :: a15 :: a16 :: a17 :: a18 :: a19 :: a20 :: a21 :: a22 :: a23 :: a24 :: a25 :: a26 :: a27 :: a28 :: a29 :: a30 :: a31 :: a32 :: [], _ => exact fill33x a0 a1 a2 a3 a4 a5 a6 a7 a8 a9 a10 a11 a12 a13 a14 a15 a16 a17 a18 a19 a20 a21 a22 a23 a24 a25 a26 a27 a28 a29 a30 a31 a32
set_option maxRecDepth 100000 in
theorem wpListIn_buildPt {F : Fence} {n : Nat} {ops : Array Oper} {rest : List Oper} {o : Oper} {a : Act} {w : World} {Q : Exit → Act → World → Prop} (hgd : o.guard = none) (x : Operand) (ho : o.op = .buildSlice 33 1 #[(0, x)]) (cs : List Value) (hl : cs.length = 33) (hx : a.eval x = .agg cs.toArray)
    (h : wpListIn F n Try.prog ops Q rest (a.put o.dst (.slice (some ⟨w.heap.size, 0, none⟩) 1 1)) (w.alloc (.cells cs.toArray 41))) : wpListIn F n Try.prog ops Q (o :: rest) a w := by
  obtain ⟨i1, hi, hz, hs, _⟩ := info_parts infoPt9
  refine wpListIn_plain hgd fun K' hK' => ?_
  unfold Oper.wpIn
  refine ⟨by simp [Oper.about, ho], ?_⟩
  rw [Oper.semAt_plain F _ _ (by rw [ho]; intro c hc'; cases hc')]
  have e : (#[(0, x)].map fun (y : Nat × Operand) => match y with | (i, z) => (i, a.eval z)).toList = [(0, .agg cs.toArray)] := by simp [hx]
  have hr := run_buildSlice (P := Try.prog) w 33 41 1 (#[(0, x)].map fun (y : Nat × Operand) => match y with | (i, z) => (i, a.eval z)) cs.toArray i1 _ Try.underlying33 hi hz (by rw [hs]; omega) (by rw [hs]; omega) (by rw [hs, e]; exact fill33 cs hl)
  unfold execOp
  simp only [ho, Sem.run_bind, hr, Result.andThen_ok]
  exact hK' _ _ h
theorem ownsRow_not {w : World} {B e size n : Nat} {v : Value} {xs : List Value} (h : w.ownsRow B e size v n xs) {r : Nat} {o : Obj} (ho : w.heap[r]? = some o) (hc : o.isCells = false) : v.ownBlock = none ∨ v.ownBlock ≠ some r := by
  rcases h.2 with ⟨rfl, _⟩ | ⟨g, cap, cur, rfl, _, hg, _⟩
  · exact .inl rfl
  · refine .inr fun e => ?_
    have : g = r := by simpa [Value.ownBlock] using e
    subst this
    rw [hg] at ho
    cases ho
    cases hc
theorem own_some {w : World} {B e k n : Nat} {v : Value} {xs : List Value} (h : w.ownsRow B e k v (n + 1) xs) : ∃ gq cap, v = .slice (some ⟨gq, 0, none⟩) (n + 1) cap := by
  rcases h.2 with ⟨_, h⟩ | ⟨gq, cap, cur, h1, _, h2, _⟩
  · omega
  · exact ⟨gq, cap, h1⟩
/-- What the loop keeps. -/
def ApI (w : World) (pre : List PtF) (W : World) : Prop := ∃ v, Box W w.heap.size 33 #[v] ∧ PtsO W w.heap.size v pre ∧ Below w.heap.size w W
theorem ApI.own {w : World} {B : Nat} (hB : w.heap.size ≤ B) : OwnFrom B (ApI w) := by
  rintro pre W W' row ⟨v, hb, hp, hw⟩ hg hr
  refine ⟨v, (hg.block _ hb.lt fun e => ?_).trans hb, hp.kept hg ?_, hw.grown hg hw.size fun k e => Nat.le_trans hB (hr k e).1⟩
  · obtain ⟨_, o, ho, hc⟩ := hr _ e.symm
    have h1 : W.heap[w.heap.size]? = _ := hb
    rw [h1] at ho
    cases ho
    cases hc
  · cases row with
    | none =>
      cases hq : v.ownBlock with
      | none => exact .inl rfl
      | some q => exact .inr (by simp)
    | some r =>
      obtain ⟨_, o, ho, hc⟩ := hr r rfl
      exact ownsRow_not hp ho hc
/-- A round's frame. -/
def ApX (w : World) (sv : Value) (B : Nat) (x : PtF) (a : Act) (W : World) : Prop :=
  ∃ bv, a = { tmps := #[.slice none 0 0, sv, .pointer (some ⟨w.heap.size, 0, none⟩), undef, .slice none 0 0, .pointer (some ⟨bv, 0, none⟩), sv, .agg (encP x).toArray, undef, undef, undef, undef, undef], defers := [] } ∧ Box W bv 41 (encP x).toArray ∧ B ≤ bv
theorem ApX.own {w : World} {sv : Value} {B B' : Nat} (x : PtF) (a : Act) : OwnFrom B' (fun (_ : Unit) W => ApX w sv B x a W) := by
  rintro _ W W' row ⟨bv, ha, hb, hB⟩ hg hr
  refine ⟨bv, ha, (hg.block _ hb.lt fun e => ?_).trans hb, hB⟩
  obtain ⟨_, o, ho, hc⟩ := hr _ e.symm
  have h1 : W.heap[bv]? = _ := hb
  rw [h1] at ho
  cases ho
  cases hc
set_option maxRecDepth 100000 in
set_option maxHeartbeats 4000000 in
theorem appendSeq_in (F : Fence) (n : Nat) (hF : F.fn 35) (hro : F.round = none) (h1 : 1 ≤ n) (g : Nat) (lb : Array Value) (hFg : F.fn g) (eg : ∀ args w, (callFunc g args).run Try.prog w = .ok (.enter g args) w)
    {S Sp : List PtF → Prop} {N : Nat} (hN : N ≤ 1000000) (w : World) (hseq : SeqStopsK F (n - 1) Try.prog g lb (fun x : PtF => #[ptV x.1]) KeepsWalks S Sp N w) :
    CallsIn F n Try.prog 35 #[.slice none 0 0, .func (.func g) #[] lb] w fun e w' => ∃ v ss, e = .returned v ∧ S ss ∧ PtsO w' w.heap.size v ss ∧ Below w.heap.size w w' := by
  obtain ⟨i0, hi, hz0, hz1, hz2⟩ := info_parts infoPt9
  refine callsIn_of_wp_marks Try.func35 rfl hF ?_ hro
  change Code.wpIn F n Try.prog _ _ { tmps := #[.slice none 0 0, .func (.func g) #[] lb, undef, undef, undef, undef, undef, undef, undef, undef, undef, undef, undef], defers := [] } w
  gi_wp2
  obtain ⟨W0, hW0⟩ : ∃ W0, w.alloc (.cells #[.slice none 0 0] 33) = W0 := ⟨_, rfl⟩
  have hs0 : W0.heap.size = w.heap.size + 1 := by rw [← hW0]; simp
  have hb0 : Below w.heap.size w W0 := by rw [← hW0]; exact (Below.refl _ w).alloc (Nat.le_refl _) _
  have hv0 : Box W0 w.heap.size 33 #[.slice none 0 0] := by rw [← hW0]; exact Box.fresh _ _ _
  rw [hW0]
  refine wpIn_rangeFunc_ownH hro h1 (gf := g) (lb := lb) rfl hFg eg hseq walksK_t walksK_b hb0 (fun x => rfl) (ApI w) (fun _ _ _ => False) (ApI.own (by omega)) (fun c s W W' row h _ _ => h) ⟨_, hv0, ⟨by simp, .inl ⟨rfl, rfl⟩⟩, hb0⟩ (ApX w (.func (.func g) #[] lb) W0.heap.size) (fun x a => ApX.own x a) ?assign ?body ?done ?stop
  case assign =>
    intro l pre x W K hI hK
    have hall := all_oneCell_toArray (encP_one x)
    have hsz : (Try.prog.info? 41).map (·.size) = some (encP x).toArray.size := by rw [List.size_toArray, encP_len]; exact sizePt
    have h33 : (encP x).toArray.size = 33 := by rw [List.size_toArray, encP_len]
    have hI' := ApI.own (w := w) (B := w.heap.size) (Nat.le_refl _) pre W (W.alloc (.cells (encP x).toArray 41)) none hI (World.grownBy_alloc _ _ _) (fun r e => by cases e)
    obtain ⟨_, hwb, _, _⟩ := hI
    have hX : ApX w (.func (.func g) #[] lb) W0.heap.size x { tmps := #[.slice none 0 0, .func (.func g) #[] lb, .pointer (some ⟨w.heap.size, 0, none⟩), undef, .slice none 0 0, .pointer (some ⟨W.heap.size, 0, none⟩), .func (.func g) #[] lb, .agg (encP x).toArray, undef, undef, undef, undef, undef], defers := [] } (W.alloc (.cells (encP x).toArray 41)) := ⟨W.heap.size, rfl, Box.fresh _ _ _, by have := hwb.lt; omega⟩
    have hK' := hK _ _ ((KeepsOthers.alloc _ _).from _) (KeepsOthers.alloc _ _).walks hI' hX
    clear hK hI' hX hwb
    rw [ptV_enc]
    generalize (encP x).toArray = C at *
    gi_wp2_with (first | (refine wpListIn_store_fresh9 rfl 41 (.tmp 5) (.tmp 7) rfl _ C _ rfl rfl rfl hsz (by rw [h33]; rfl) hall ?_) | (rw [Oper.semAt_eq _ _ _ (fun c h => by cases h)]; go_simp; try go_bits))
    exact hK'
  case body =>
    rintro l pre x a' W hl hrec ⟨v, hb, hp, hw⟩ ⟨bv, rfl, hx, hbv⟩ hlen
    have hall := encP_one x
    have hsz : (Try.prog.info? 41).map (·.size) = some (encP x).toArray.size := by rw [List.size_toArray, encP_len]; exact sizePt
    have h33 := encP_len x
    have c0 := hb.cell 0
    have hfl : (pre ++ [x]).flatMap encP = pre.flatMap encP ++ encP x := by simp
    have hln : (pre ++ [x]).length = pre.length + 1 := by simp
    have hal : (W.alloc (.cells (encP x).toArray 41)).ownsRow w.heap.size 41 33 v pre.length (pre.flatMap encP) := World.ownsRow.alloc hp _
    have hcl : ∀ j u, (encP x)[j]? = some u → (W.alloc (.cells (encP x).toArray 41)).cell? ((⟨W.heap.size, 0, none⟩ : Addr).add j) = some u := fun j u hj => by
      have := (Box.fresh W 41 (encP x).toArray).cell j
      rw [Addr.add_mid, Nat.zero_add, this]
      simpa using hj
    have hne : some w.heap.size ≠ v.ownBlock := fun e => by
      rcases hp.2 with ⟨rfl, _⟩ | ⟨gq, cap, cur, rfl, _, hgq, _⟩
      · simp [Value.ownBlock] at e
      · obtain rfl : w.heap.size = gq := by simpa [Value.ownBlock] using e
        have h0 : W.heap[w.heap.size]? = _ := hb
        rw [h0] at hgq
        simp at hgq
    have hbl : Box (W.alloc (.cells (encP x).toArray 41)) w.heap.size 33 #[v] := hb.below ((Below.refl _ _).alloc (Nat.le_refl _) _)
    have hwl : Below w.heap.size w (W.alloc (.cells (encP x).toArray 41)) := hw.alloc hw.size _
    have hcell : ∀ (j : Nat) (o : Obj), v.ownBlock = some j → (W.alloc (.cells (encP x).toArray 41)).heap[j]? = some o → o.isCells = true := fun j o hj ho => by
      rcases hal.2 with ⟨rfl, _⟩ | ⟨gq, cap, cur, rfl, _, hgq, _⟩
      · simp [Value.ownBlock] at hj
      · obtain rfl : gq = j := by simpa [Value.ownBlock] using hj
        rw [hgq] at ho
        cases ho
        rfl
    have hko : KeepsOthers W (W.alloc (.cells (encP x).toArray 41)) := KeepsOthers.alloc _ _
    have hlt : ∀ k, v.ownBlock = some k → w.heap.size ≤ k := fun k hk => by
      rcases hp.2 with ⟨rfl, _⟩ | ⟨gq, cap, cur, rfl, hgb, _⟩
      · simp [Value.ownBlock] at hk
      · obtain rfl : gq = k := by simpa [Value.ownBlock] using hk
        exact hgb
    have HEND : Kp (∀ v3 w3, w3.ownsRow w.heap.size 41 33 v3 (pre.length + 1) (pre.flatMap encP ++ encP x) → (W.alloc (.cells (encP x).toArray 41)).grownBy w3 v.ownBlock → KeepsOthers W (w3.setCell ⟨w.heap.size, 0, none⟩ v3) ∧ ApI w (pre ++ [x]) (w3.setCell ⟨w.heap.size, 0, none⟩ v3)) := ⟨fun v3 w3 ho hg => by
      have hb3 : Box w3 w.heap.size 33 #[v] := (hg.block _ hbl.lt hne).trans hbl
      have hne3 : v3.ownBlock = none ∨ v3.ownBlock ≠ some w.heap.size := by
        obtain ⟨gq, cap, rfl⟩ := own_some ho
        refine .inr fun e => ?_
        obtain rfl : gq = w.heap.size := by simpa [Value.ownBlock] using e
        rcases ho.2 with ⟨h, _⟩ | ⟨g2, cap2, cur2, h, _, hg2, _⟩
        · cases h
        · injection h with h4 h5 h6
          injection h4 with h4
          injection h4 with h4
          subst h4
          have h0 : w3.heap[w.heap.size]? = _ := hb3
          rw [h0] at hg2
          simp at hg2
      refine ⟨(hko.trans (KeepsOthers.of_grownBy hg hcell)).trans (KeepsOthers.setCell _ _ _), v3, hb3.set 0 v3, ?_, (hwl.grown hg hwl.size hlt).setCell (Nat.le_refl _) _⟩
      unfold PtsO
      rw [hfl, hln]
      exact ho.kept (show w3.grownBy _ (some w.heap.size) from (Only.refl _ _).set 0 v3) hne3⟩
    have HB3 : Kp (∀ w3, (W.alloc (.cells (encP x).toArray 41)).grownBy w3 v.ownBlock → Box w3 w.heap.size 33 #[v]) := ⟨fun w3 hg => (hg.block _ hbl.lt hne).trans hbl⟩
    have hsz1 : w.heap.size ≤ (W.alloc (.cells (encP x).toArray 41)).heap.size := hwl.size
    clear hfl hln hcell hlt hne hbl hwl hko
    generalize encP x = C at *
    generalize pre.flatMap encP = FL at *
    gi_wp2_with (first | (refine wpListIn_buildPt rfl (.tmp 9) rfl C h33 rfl ?_) | (refine wpListIn_load_row9 rfl 41 (.tmp 5) rfl bv rfl 41 C.toArray _ hx Try.underlying41 rfl hsz ?_) | (gi_at_builtin; refine wpListIn_append_own _ rfl (.tmp 8) (.tmp 10) 33 rfl w.heap.size 41 i0 _ 33 36 Try.underlying33 hi hz0 hz1 hz2 (by kernel_rfl) (by decide) v pre.length FL rfl hal ⟨W.heap.size, 0, none⟩ 1 1 C rfl (by omega) hcl hall (by unfold maxLen; omega) (by omega) hsz1 ?_; intro v3 w3 hown3 hg3 hnil3; have hb3 := HB3.out w3 hg3; have c3 := hb3.cell 0; have f3 := hb3.warm 0; have he := HEND.out v3 w3 hown3 hg3; obtain ⟨gq, cap, rfl⟩ := own_some hown3; have HE := Kp.mk he; clear he hown3 hg3 hnil3 hb3) | (rw [Oper.semAt_eq _ _ _ (fun c h => by cases h)]; go_simp; try go_bits))
    exact ⟨HE.out.1.from _, HE.out.1.walks, HE.out.2⟩
  case done =>
    rintro D xs W hD hS ⟨v, hb, hp, hw⟩ hK
    have c0 := hb.cell 0
    have hsv : ∃ A n c, v = .slice A n c := by
      rcases hp.2 with ⟨rfl, _⟩ | ⟨gq, cap, cur, rfl, _⟩
      · exact ⟨_, _, _, rfl⟩
      · exact ⟨_, _, _, rfl⟩
    obtain ⟨A, m, cc, rfl⟩ := hsv
    have hDD : w.heap.size ≤ D := by omega
    clear hb
    gi_wp2
    refine ⟨by simp, .inl ⟨_, _, rfl, run_takeDeferred hK, ?_⟩⟩
    exact ⟨_, results_tmp rfl _ _ _, .slice A m cc, xs, rfl, hS, World.ownsRow.kept hp (grownBy_putObj' _ D (.deferred none)) (ownsRow_not hp hK rfl), hw.grown (grownBy_putObj' _ D (.deferred none)) hw.size (fun k e => by cases e; exact hDD)⟩
  case stop =>
    rintro D c pre W _ _ h _
    exact h.elim
end Go.Proofs.Ytdemamipllfonaa
