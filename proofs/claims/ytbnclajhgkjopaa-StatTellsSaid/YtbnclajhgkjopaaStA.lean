/- Package stat of the program: point, null, twice, counted, summed. -/
import Derived.Test.YtbnclajhgkjopaaStK
import Derived.Test.YtbnclajhgkjopaaGk
import Derived.Test.YtbnclajhgkjopaaMoA
import Derived.Test.YtbnclajhgkjopaaGh
import Derived.Laws.StructEq
import Derived.Laws.Tables
namespace Go.Proofs.Ytbnclajhgkjopaa
open Go.RowKit

def PtP (d : InD) (w : World) (e : Ending) (w' : World) : Prop := e = .returned (.agg (ptCells d).toArray) ∧ Below w.heap.size w w'
set_option maxRecDepth 100000 in
theorem sizeArr : (Try.prog.info? 28).map (·.size) = some 32 := by kernel_rfl
set_option maxRecDepth 100000 in
theorem sizePt : (Try.prog.info? 62).map (·.size) = some 33 := by kernel_rfl
set_option maxRecDepth 100000 in
theorem built_pt32 (a0 a1 a2 a3 a4 a5 a6 a7 a8 a9 a10 a11 a12 a13 a14 a15 a16 a17 a18 a19 a20 a21 a22 a23 a24 a25 a26 a27 a28 a29 a30 a31 : Int) (u : Nat) : Try.prog.built 62 [(0, .agg (byteVals [a0, a1, a2, a3, a4, a5, a6, a7, a8, a9, a10, a11, a12, a13, a14, a15, a16, a17, a18, a19, a20, a21, a22, a23, a24, a25, a26, a27, a28, a29, a30, a31]).toArray), (1, .int .u32 u)] = some (ptC [a0, a1, a2, a3, a4, a5, a6, a7, a8, a9, a10, a11, a12, a13, a14, a15, a16, a17, a18, a19, a20, a21, a22, a23, a24, a25, a26, a27, a28, a29, a30, a31] u).toArray := by kernel_rfl
theorem built_pt (p : List Int) (u : Nat) (hl : p.length = 32) : Try.prog.built 62 [(0, .agg (byteVals p).toArray), (1, .int .u32 u)] = some (ptC p u).toArray := by
  match p, hl with
  | [a0, a1, a2, a3, a4, a5, a6, a7, a8, a9, a10, a11, a12, a13, a14, a15, a16, a17, a18, a19, a20, a21, a22, a23, a24, a25, a26, a27, a28, a29, a30, a31], _ => exact built_pt32 a0 a1 a2 a3 a4 a5 a6 a7 a8 a9 a10 a11 a12 a13 a14 a15 a16 a17 a18 a19 a20 a21 a22 a23 a24 a25 a26 a27 a28 a29 a30 a31 u
set_option maxRecDepth 100000 in
theorem built_null : Try.prog.built 62 [(1, .int .u32 4294967295)] = some (ptC (zeros 32) 4294967295).toArray := by kernel_rfl
/-- An aggregate that is built, its cells known. -/
theorem wpList_built {P : Program} {ops : Array Oper} {rest : List Oper} {o : Oper} {a : Act} {w : World} {Q : Exit → Act → World → Prop} (hg : o.guard = none) (t : TypeId) (parts : Array (Nat × Operand)) (ho : o.op = .build t parts) (A : Array Value)
    (hf : P.built t (parts.toList.map fun x => (x.1, a.eval x.2)) = some A) (h : wpList P ops Q rest (a.put o.dst (.agg A)) w) : wpList P ops Q (o :: rest) a w := by
  have e : (parts.map fun (x : Nat × Operand) => match x with | (i, y) => (i, a.eval y)).toList = parts.toList.map fun x => (x.1, a.eval x.2) := by simp
  refine wpList_build hg t parts ho (by rw [e, hf]; rfl) ?_
  rw [e, hf]
  exact h
def zPt : Array Value := (ptC (zeros 32) 0).toArray

set_option maxRecDepth 100000 in
set_option maxHeartbeats 1000000 in
theorem point_any (w : World) (cs : List Value) (d : InD) (h : InR w cs d) : Calls Try.prog 45 #[.agg cs.toArray] w (PtP d w) := by
  obtain ⟨sv, wv, rfl, hf, _, _⟩ := h
  have hr : ∀ o, ((w.alloc (.cells (inCells d sv wv).toArray 32)).alloc o).rangeAt w.heap.size 0 (byteVals d.prev) := fun o => by
    have hx : Box ((w.alloc (.cells (inCells d sv wv).toArray 32)).alloc o) w.heap.size 32 (inCells d sv wv).toArray := box_past (Box.fresh _ _ _)
    exact inCells_range hx
  have HR := Kp.mk hr
  have hv : (inCells d sv wv).toArray[32]? = some (.int .u32 d.vout) := by simpa using inCells_vout hf sv wv
  have hl := inCells_len hf sv wv
  have HP : Kp ((Try.prog.info? 28).map (·.size) = some (byteVals d.prev).length) := ⟨by simp only [byteVals, List.length_map, hf.plen]; exact sizeArr⟩
  have HBT := Kp.mk (built_pt d.prev d.vout hf.plen)
  have HU : Kp (Try.prog.built 62 [(0, .agg (byteVals d.prev).toArray), (1, .int .u32 d.vout)] = some (ptCells d).toArray) := ⟨HBT.out⟩
  have HSZ : Kp (((Try.prog.info? 62).map (·.size) = some (ptCells d).toArray.size) ∧ (ptCells d).toArray.size = 33 ∧ (ptCells d).toArray.all (·.oneCell') = true) := ⟨by
    have e : (ptCells d).length = 33 := ptC_len hf.plen _
    have e2 : (ptCells d).toArray.size = 33 := by rw [List.size_toArray, e]
    refine ⟨by rw [e2]; exact sizePt, e2, all_oneCell_toArray ?_⟩
    intro u hu
    rcases List.mem_append.1 hu with hu | hu
    · exact byteVals_one _ u hu
    · rw [List.mem_singleton.1 hu]; rfl⟩
  obtain ⟨C, hC⟩ : ∃ C, (inCells d sv wv).toArray = C := ⟨_, rfl⟩
  rw [hC] at hv HR ⊢
  obtain ⟨P, hP⟩ : ∃ P, byteVals d.prev = P := ⟨_, rfl⟩
  rw [hP] at HR HP HU
  have HE : Kp (∀ A, (ptCells d).toArray = A → A = (ptCells d).toArray) := ⟨fun _ h => h.symm⟩
  obtain ⟨A, hA⟩ : ∃ A, (ptCells d).toArray = A := ⟨_, rfl⟩
  have HA := Kp.mk hA
  rw [hA] at HU HSZ
  have HL : Kp (∀ L, L = [(0, Value.agg P.toArray), (1, Value.int .u32 d.vout)] → Try.prog.built 62 L = some A) := ⟨fun L h => by rw [h]; exact HU.out⟩
  clear hC hl hr hP hA hf HBT HU
  go_enter Try.func45, Try.ntmps45
  go_wp2_with (first | (refine wpList_load_mid rfl 28 (.tmp 3) rfl w.heap.size 0 rfl P _ (HR.out _) Try.underlying28 rfl HP.out ?_) | (refine wpList_built rfl 62 #[(0, .tmp 4), (1, .tmp 6)] rfl A (HL.out _ rfl) ?_) | (refine wpList_store_fresh rfl 62 (.tmp 2) (.tmp 7) rfl _ A (w.heap.size + 1) (by simp) rfl rfl HSZ.out.1 (by rw [HSZ.out.2.1]; rfl) HSZ.out.2.2 ?_))
  exact bodyPost_ret (results_cell_row (by rfl) _ _ (w.heap.size + 1) 62 A (0, 0) _ rfl ((congrArg (fun i => ((w.alloc (.cells C 32)).alloc (.cells A 62)).heap[i]?) (alloc_size1 w (.cells C 32))).symm.trans (heap_alloc_new (w.alloc (.cells C 32)) (.cells A 62))) Try.underlying62 rfl HSZ.out.1) rfl ⟨by rw [HA.out], ((Below.refl _ _).alloc (Nat.le_refl _) _).alloc (by simp) _⟩

/-- An input that names no output. -/
def nullB (d : InD) : Bool := decide (d.prev = zeros 32 ∧ d.vout = 4294967295)
set_option maxRecDepth 100000 in
theorem pt_guard : Try.prog.eqGuardType Try.prog.depth 62 = false := by kernel_rfl
theorem eql_null {d : InD} (h : d.Fit) (w : World) : (Op.equalIn 10000 62 (.agg (ptCells d).toArray) (.agg (ptC (zeros 32) 4294967295).toArray)).run Try.prog w = .ok (nullB d) w :=
  eql_pt h.pbys h.plen h.vlt (zeros_bys 32) (by simp [zeros]) (by decide) w
set_option maxRecDepth 100000 in
set_option maxHeartbeats 1000000 in
theorem null_any (w : World) (cs : List Value) (d : InD) (h : InR w cs d) : Calls Try.prog 25 #[.agg cs.toArray] w (BoolP (nullB d) w) := by
  have hb : Below w.heap.size w (w.alloc (.cells cs.toArray 32)) := (Below.refl _ _).alloc (Nat.le_refl _) _
  have HB := Kp.mk hb
  have HC := Kp.mk (point_any (w.alloc (.cells cs.toArray 32)) cs d (h.below hb))
  have hf : d.Fit := by obtain ⟨_, _, _, hf, _⟩ := h; exact hf
  have hlen : cs.length = 36 := by obtain ⟨sv, wv, rfl, hf, _⟩ := h; exact inCells_len hf sv wv
  have HI : Kp ((Try.prog.info? 32).map (·.size) = some cs.length) := ⟨by rw [hlen]; exact sizeIn⟩
  have HI2 : Kp ((Try.prog.info? 32).map (·.size) = some cs.toArray.size) := ⟨by rw [List.size_toArray, hlen]; exact sizeIn⟩
  have hbt : ∀ W, (Instr.build 62 #[(1, .int .u32 4294967295)]).run Try.prog W = .ok (.agg (ptC (zeros 32) 4294967295).toArray) W := fun W => run_build W _ _ _ built_null
  have hg := pt_guard
  have he := eql_null hf
  have HROW := Kp.mk (heap_alloc_new w (.cells cs.toArray 32))
  have HL : Kp (∀ L, L = [(1, Value.int .u32 4294967295)] → Try.prog.built 62 L = some (ptC (zeros 32) 4294967295).toArray) := ⟨fun L h => by rw [h]; exact built_null⟩
  generalize (ptC (zeros 32) 4294967295).toArray = Z at *
  obtain ⟨b, hB⟩ : ∃ b, nullB d = b := ⟨_, rfl⟩
  unfold PtP at HC
  rw [hB] at he ⊢
  generalize (ptCells d).toArray = A at *
  generalize cs.toArray = C at *
  clear h hb hlen hf hB hbt HI
  go_enter Try.func25, Try.ntmps25
  go_wp2_with (first | (refine wpList_load_row rfl 32 (.tmp 1) rfl w.heap.size rfl 32 C (0, 0) _ HROW.out Try.underlying32 rfl HI2.out ?_) | (go_at_call 45; refine HC.out.mono ?_; rintro e w' ⟨rfl, hb'⟩) | (refine wpList_built rfl 62 #[(1, .const (.int .u32 4294967295))] rfl Z (HL.out _ rfl) ?_))
  go_ret
  exact ⟨rfl, HB.out.trans (hb'.mono HB.out.size)⟩

set_option maxRecDepth 100000 in
set_option maxHeartbeats 4000000 in
theorem twice_any (w : World) (v : Value) (l : List InD) (h : InsR w v l) : Calls Try.prog 26 #[v] w (BoolP (twiceB l) w) := by
  have hmm := @run_makeMap Try.prog
  have HFIT := Kp.mk (ins_fit h)
  have HI := Kp.mk h
  obtain ⟨A, c, rfl, hlc, hlm⟩ := h.slice
  unfold maxLen at hlm
  obtain ⟨N, hN⟩ : ∃ N, l.length = N := ⟨_, rfl⟩
  have HN := Kp.mk hN
  rw [hN] at hlm hlc ⊢
  have HB0 : Kp (Below w.heap.size w (w.alloc (.map #[] 0))) := ⟨(Below.refl _ _).alloc (Nat.le_refl _) _⟩
  have HM0 : Kp ((w.alloc (.map #[] 0)).ownsMap Try.prog 62 (unitElem (H := Unit)) w.heap.size 0 (ptSet l 0)) := ⟨World.ownsMap_made _ _ _ _⟩
  clear h hN
  go_enter Try.func26, Try.ntmps26
  go_wp2
  go_loopw [9] (fun i wr => ∃ k : Nat, k ≤ N ∧ i = .int .i64 k ∧ Kp (wr.ownsMap Try.prog 62 (unitElem (H := Unit)) w.heap.size k (ptSet l k) ∧ Below w.heap.size w wr)) (fun i _ => N - (intOf i).toNat)
  case atStart => exact ⟨0, Nat.zero_le _, rfl, ⟨HM0.out, HB0.out⟩⟩
  case round =>
    obtain ⟨k, hk, rfl, H⟩ := hrel
    by_cases hlt : k < N
    · obtain ⟨hown, hbel⟩ := H.out
      have HLT := Kp.mk (show k < l.length by have := HN.out; omega)
      have hO := ins_below HI.out hbel
      have hnn := HN.out
      rw [hnn] at hO
      obtain ⟨b, off, cs, rfl, hbl, hcl, hcs, hR⟩ := hO.at HLT.out
      have HCS := Kp.mk hcs
      have hfit : l[k].Fit := HFIT.out _ (List.getElem_mem HLT.out)
      have HKEY := Kp.mk (pt_keyOf hfit.pbys hfit.plen hfit.vlt)
      have HST := Kp.mk (ptSet_succ l k HLT.out)
      unfold inKey at HST
      have HALL : Kp (cs.toArray.all (·.oneCell') = true) := ⟨all_oneCell_toArray hR.one⟩
      have hb2 : Below wr.heap.size wr (wr.alloc (.cells cs.toArray 32)) := (Below.refl _ _).alloc (Nat.le_refl _) _
      have HB2 := Kp.mk hb2
      have HC := Kp.mk (point_any _ cs l[k] (hR.below hb2))
      have HI1 : Kp ((Try.prog.info? 32).map (·.size) = some cs.length) := ⟨by rw [hcl]; exact sizeIn⟩
      have HI2 : Kp ((Try.prog.info? 32).map (·.size) = some cs.toArray.size ∧ cs.toArray.size = 36) := ⟨by rw [List.size_toArray, hcl]; exact ⟨sizeIn, rfl⟩⟩
      have HROW := Kp.mk (heap_alloc_new wr (.cells cs.toArray 32))
      unfold PtP at HC
      unfold ptCells at HC
      generalize l[k].prev = p at *
      generalize l[k].vout = u at *
      have HOWN := Kp.mk (hown.alloc (.cells cs.toArray 32))
      have HB := Kp.mk hbel
      have HK := Kp.mk hlt
      have HL := Kp.mk hlm
      have hkn : (k : Int) < (N : Int) := by omega
      clear hO hbl hcl hcs hR hown hbel hnn hfit hb2
      go_wp2_with (first | (refine wpList_load_mid rfl 32 (.tmp 11) rfl b (off + k * 36) rfl cs _ HCS.out Try.underlying32 rfl HI1.out ?_) | (refine wpList_store_fresh rfl 32 (.tmp 5) (.tmp 12) rfl _ cs.toArray wr.heap.size rfl rfl rfl HI2.out.1 (by rw [HI2.out.2]; rfl) HALL.out ?_) | (refine wpList_load_row rfl 32 (.tmp 5) rfl wr.heap.size rfl 32 cs.toArray (0, 0) _ HROW.out Try.underlying32 rfl HI2.out.1 ?_) | (go_at_call 45; refine HC.out.mono ?_; rintro e w2 ⟨rfl, hb2'⟩; have HB3 := Kp.mk hb2'; have HO2 := Kp.mk (HOWN.out.kept (row := none) ⟨hb2'.os, hb2'.tape, hb2'.output, hb2'.size, fun k hk _ => hb2'.block k hk⟩ (by simp)); clear hb2') | (at_mapUpdate; refine wpList_mapUpdate_own _ rfl _ _ _ 64 rfl 62 65 ptLaw Try.underlying64 (unitElem (H := Unit)) w.heap.size k _ rfl HO2.out (by have := HK.out; have := HL.out; unfold maxLen; omega) _ _ _ rfl rfl HKEY.out _ [] unitElem_mk ?_; intro w1 hown1 hgrow1; have HO1 := Kp.mk hown1; have HG1 := Kp.mk hgrow1; clear hown1 hgrow1))
      go_roundw
      case rel => exact ⟨k + 1, by have := HK.out; omega, by go_num, ⟨by rw [HST.out]; exact HO1.out, Only.below (HB.out.trans ((HB2.out.trans (HB3.out.mono HB2.out.size)).mono HB.out.size)) HG1.out (Nat.le_refl _)⟩⟩
      case measure => simp [intOf]; have := HK.out; omega
    · obtain ⟨hown, hbel⟩ := H.out
      obtain rfl : k = N := by omega
      have HSZ : Kp ((twiceB l = false → Maps.size (ptSet l k) = k) ∧ (twiceB l = true → Maps.size (ptSet l k) < k)) := ⟨by
        have := ptSet_size l HFIT.out
        rw [HN.out] at this
        exact this⟩
      have HOWN := Kp.mk hown
      have HB := Kp.mk hbel
      clear hown hbel
      have HD : Kp (decide (Maps.size (ptSet l k) < k) = twiceB l) := ⟨by
        cases ht : twiceB l with
        | false => exact decide_eq_false (by have := HSZ.out.1 ht; omega)
        | true => exact decide_eq_true (HSZ.out.2 ht)⟩
      go_wp2_with (first | (refine wpList_len_own _ rfl (.tmp 18) 64 rfl 62 65 Try.underlying64 _ w.heap.size k _ rfl HOWN.out ?_))
      go_ret
      exact ⟨congrArg (fun b => Ending.returned (.bool b)) HD.out, HB.out⟩

/-- How many of the first n have the kind. -/
def cntTo (outs : List OutD) (q : Int) : Nat → Nat
  | 0 => 0
  | n + 1 => cntTo outs q n + (if kindOf (outs.getD n default).script = q then 1 else 0)
def countK (outs : List OutD) (q : Int) : Nat := cntTo outs q outs.length
theorem cntTo_le (outs : List OutD) (q : Int) : ∀ n, cntTo outs q n ≤ n
  | 0 => Nat.le_refl _
  | n + 1 => by
    have := cntTo_le outs q n
    simp only [cntTo]
    split <;> omega
def valsTo (outs : List OutD) : Nat → List Int
  | 0 => []
  | n + 1 => valsTo outs n ++ [((outs.getD n default).value : Int)]
def valsOf (outs : List OutD) : List Int := valsTo outs outs.length
theorem valsTo_len (outs : List OutD) : ∀ n, (valsTo outs n).length = n
  | 0 => rfl
  | n + 1 => by simp [valsTo, valsTo_len outs n]
theorem valsTo_u64 (outs : List OutD) (h : ∀ d ∈ outs, d.value < 18446744073709551616) : ∀ n, U64s (valsTo outs n)
  | 0 => fun x hx => by cases hx
  | n + 1 => fun x hx => by
    rcases List.mem_append.1 hx with hx | hx
    · exact valsTo_u64 outs h n x hx
    · rw [List.mem_singleton.1 hx]
      have : (outs.getD n default).value < 18446744073709551616 := by
        rw [List.getD_eq_getElem?_getD]
        cases hn : outs[n]? with
        | none => show (default : OutD).value < _; decide
        | some d => exact h d (List.mem_of_getElem? hn)
      omega
/-- The values have a sum. -/
def sumB (outs : List OutD) : Bool := decide (tot (valsOf outs) ≤ 2100000000000000)

set_option maxRecDepth 100000 in
set_option maxHeartbeats 4000000 in
theorem scounted_any (w : World) (v : Value) (outs : List OutD) (q : Int) (h : OutsR w v outs) (hl : outs.length ≤ 1000) : Calls Try.prog 27 #[v, .int .i64 q] w (NumP (countK outs q) w) := by
  have HO := Kp.mk h
  obtain ⟨A, c, rfl, hlc, hlm⟩ := h.slice
  obtain ⟨N, hN⟩ : ∃ N, outs.length = N := ⟨_, rfl⟩
  have HN := Kp.mk hN
  rw [hN] at hl hlc hlm ⊢
  clear h hN hlm hlc
  go_enter Try.func27, Try.ntmps27
  go_wp2
  go_loopw [5, 10] (fun n i wr => ∃ k m : Nat, k ≤ N ∧ i = .int .i64 k ∧ n = .int .i64 m ∧ Kp (m = cntTo outs q k ∧ m ≤ k ∧ Below w.heap.size w wr)) (fun _ i _ => N - (intOf i).toNat)
  case atStart => exact ⟨0, 0, Nat.zero_le _, rfl, rfl, ⟨rfl, Nat.le_refl _, Below.refl _ _⟩⟩
  case round =>
    obtain ⟨k, m, hk, rfl, rfl, H⟩ := hrel
    by_cases hlt : k < N
    · obtain ⟨hm, hmk, hbel⟩ := H.out
      have HLT := Kp.mk (show k < outs.length by have := HN.out; omega)
      have hO := outs_below HO.out hbel
      have hnn := HN.out
      rw [hnn] at hO
      obtain ⟨b, off, cs, rfl, hbl, hcl, hcs, sv, rfl, hv, hrb⟩ := hO.at HLT.out
      have HCS := Kp.mk hcs
      have HSV := Kp.mk hrb.one
      have hget : outs.getD k default = outs[k]'HLT.out := by rw [List.getD_eq_getElem?_getD, List.getElem?_eq_getElem HLT.out]; rfl
      have HST : Kp (cntTo outs q (k + 1) = m + (if kindOf (outs[k]'HLT.out).script = q then 1 else 0)) := ⟨by simp only [cntTo]; rw [hget, hm]⟩
      generalize outs[k] = d at *
      obtain ⟨x, hx⟩ : ∃ x, d.value = x := ⟨_, rfl⟩
      rw [hx] at HCS
      have HALL : Kp (Array.all #[Value.int .u64 x, sv] (·.oneCell') = true) := ⟨by simp only [List.all_toArray, List.all_cons, List.all_nil, HSV.out, Bool.and_true]; rfl⟩
      have HIO : Kp ((Try.prog.info? 35).map (·.size) = some 2) := ⟨sizeOut⟩
      have HD := Kp.mk (kind_any (wr.alloc (.cells #[.int .u64 x, sv] 35)) sv d.script (hrb.below ((Below.refl _ _).alloc (Nat.le_refl _) _)))
      obtain ⟨kd, hkd⟩ : ∃ kd, kindOf d.script = kd := ⟨_, rfl⟩
      rw [hkd] at HST HD
      have HB := Kp.mk hbel
      have HK := Kp.mk hlt
      have HL := Kp.mk hl
      have HM := Kp.mk hmk
      have hkn : (k : Int) < (N : Int) := by omega
      clear hO hbl hcl hcs hv hrb hx hbel hnn hget hm hmk hkd
      by_cases he : kd = q
      · subst he
        have HT : Kp (cntTo outs kd (k + 1) = m + 1) := ⟨by rw [HST.out, if_pos rfl]⟩
        have hm1 : (m : Int) ≤ 1000 := by have := HM.out; have := HL.out; have := HK.out; omega
        clear HST
        go_wp2_with (first | (refine wpList_load_mid rfl 35 (.tmp 12) rfl b (off + k * 2) rfl [.int .u64 x, sv] _ HCS.out Try.underlying35 rfl HIO.out ?_) | (refine wpList_store_fresh rfl 35 (.tmp 7) (.tmp 13) rfl _ #[.int .u64 x, sv] wr.heap.size rfl rfl rfl HIO.out rfl HALL.out ?_) | (go_at_call 46; refine HD.out.mono ?_; rintro e w2 ⟨rfl, rfl⟩))
        go_roundw
        case rel => exact ⟨k + 1, m + 1, by have := HK.out; omega, by go_num, by go_num, ⟨HT.out.symm, by have := HM.out; omega, HB.out.alloc HB.out.size _⟩⟩
        case measure => simp [intOf]; have := HK.out; omega
      · have HT : Kp (cntTo outs q (k + 1) = m) := ⟨by rw [HST.out, if_neg he]; rfl⟩
        have he1 : (kd = q) = False := eq_false he
        have he2 : (kd == q) = false := by simpa using he
        clear HST he
        go_wp2_with (first | (refine wpList_load_mid rfl 35 (.tmp 12) rfl b (off + k * 2) rfl [.int .u64 x, sv] _ HCS.out Try.underlying35 rfl HIO.out ?_) | (refine wpList_store_fresh rfl 35 (.tmp 7) (.tmp 13) rfl _ #[.int .u64 x, sv] wr.heap.size rfl rfl rfl HIO.out rfl HALL.out ?_) | (go_at_call 46; refine HD.out.mono ?_; rintro e w2 ⟨rfl, rfl⟩))
        go_roundw
        case rel => exact ⟨k + 1, m, by have := HK.out; omega, by go_num, rfl, ⟨HT.out.symm, by have := HM.out; omega, HB.out.alloc HB.out.size _⟩⟩
        case measure => simp [intOf]; have := HK.out; omega
    · obtain ⟨hm, hmk, hbel⟩ := H.out
      obtain rfl : k = N := by omega
      have HD : Kp (countK outs q = m) := ⟨by rw [hm, ← HN.out]; rfl⟩
      have HB := Kp.mk hbel
      clear hm hmk hbel
      go_wp2
      go_ret
      exact ⟨by rw [HD.out]; rfl, HB.out⟩

set_option maxRecDepth 100000 in
theorem infoU64 : (Try.prog.info? 33).map (fun i => (i.zero, i.size, i.bytes)) = some (some (.int .u64 0), 1, 8) := by kernel_rfl
theorem outs_fit {w : World} {v : Value} {l : List OutD} (h : OutsR w v l) : ∀ d ∈ l, d.value < 18446744073709551616 := by
  intro d hd
  obtain ⟨A, c, _, _, _, _, hr⟩ := h
  obtain ⟨i, hi, rfl⟩ := List.mem_iff_getElem.1 hd
  obtain ⟨b, off, _, _, hx⟩ := hr (by rintro rfl; simp at hi)
  obtain ⟨cs, _, _, _, _, hf, _⟩ := hx i _ (List.getElem?_eq_getElem hi)
  exact hf

set_option maxRecDepth 100000 in
set_option maxHeartbeats 4000000 in
theorem summed_any (w : World) (v : Value) (outs : List OutD) (h : OutsR w v outs) (hl : outs.length ≤ 1000) : Calls Try.prog 28 #[v] w (BoolP (sumB outs) w) := by
  obtain ⟨i0, hi, hz0, hz1, hz2⟩ := info_parts infoU64
  have HI := Kp.mk (And.intro hi (And.intro hz0 (And.intro hz1 hz2)))
  clear hi hz0 hz1 hz2
  have HO := Kp.mk h
  have HFIT := Kp.mk (outs_fit h)
  obtain ⟨A, c, rfl, hlc, hlm⟩ := h.slice
  obtain ⟨N, hN⟩ : ∃ N, outs.length = N := ⟨_, rfl⟩
  have HN := Kp.mk hN
  rw [hN] at hl hlc hlm ⊢
  clear h hN hlm hlc
  go_enter Try.func28, Try.ntmps28
  go_wp2
  go_loopw [3, 10] (fun v i wr => ∃ k : Nat, k ≤ N ∧ i = .int .i64 k ∧ Kp (OwnK .u64 wr w.heap.size 33 v (valsTo outs k) ∧ Below w.heap.size w wr)) (fun _ i _ => N - (intOf i).toNat)
  case atStart => exact ⟨0, Nat.zero_le _, rfl, ⟨OwnK.none .u64 _ _ _, Below.refl _ _⟩⟩
  case round =>
    obtain ⟨k, hk, rfl, H⟩ := hrel
    by_cases hlt : k < N
    · obtain ⟨hown, hbel⟩ := H.out
      have HLT := Kp.mk (show k < outs.length by have := HN.out; omega)
      have hO := outs_below HO.out hbel
      have hnn := HN.out
      rw [hnn] at hO
      obtain ⟨b, off, cs, rfl, hbl, hcl, hcs, sv, rfl, hv, hrb⟩ := hO.at HLT.out
      have HCS := Kp.mk hcs
      have HSV := Kp.mk hrb.one
      have hget : outs.getD k default = outs[k]'HLT.out := by rw [List.getD_eq_getElem?_getD, List.getElem?_eq_getElem HLT.out]; rfl
      have HST : Kp (valsTo outs (k + 1) = valsTo outs k ++ [((outs[k]'HLT.out).value : Int)]) := ⟨by simp only [valsTo]; rw [hget]⟩
      generalize outs[k] = d at *
      obtain ⟨x, hx⟩ : ∃ x, d.value = x := ⟨_, rfl⟩
      rw [hx] at HCS HST
      have HALL : Kp (Array.all #[Value.int .u64 x, sv] (·.oneCell') = true) := ⟨by simp only [List.all_toArray, List.all_cons, List.all_nil, HSV.out, Bool.and_true]; rfl⟩
      have HIO : Kp ((Try.prog.info? 35).map (·.size) = some 2) := ⟨sizeOut⟩
      have HOWN := Kp.mk hown
      have HB := Kp.mk hbel
      have HK := Kp.mk hlt
      have HL := Kp.mk hl
      have HLEN := Kp.mk (valsTo_len outs k)
      have HB3 : Kp (Below wr.heap.size wr (wr.alloc (.cells #[.int .u64 x, sv] 35))) := ⟨(Below.refl _ _).alloc (Nat.le_refl _) _⟩
      have HB4 : Kp (∀ w2 c t, Below wr.heap.size wr w2 → Below w.heap.size w (w2.alloc (.cells c t))) := ⟨fun w2 c t h => (HB.out.trans (h.mono HB.out.size)).alloc (HB.out.trans (h.mono HB.out.size)).size _⟩
      have HSL : Kp (SlK .u64 ((wr.alloc (.cells #[.int .u64 x, sv] 35)).alloc (.cells #[.int .u64 x] 33)) (.slice (some ⟨wr.heap.size + 1, 0, none⟩) 1 1) [(x : Int)]) := ⟨by
        have := SlK.fresh .u64 (wr.alloc (.cells #[.int .u64 x, sv] 35)) 33 [(x : Int)]
        rw [alloc_size1] at this
        exact this⟩
      have hkn : (k : Int) < (N : Int) := by omega
      clear hO hbl hcl hcs hv hrb hx hbel hnn hget hown
      go_wp2_with (first | (refine wpList_load_mid rfl 35 (.tmp 12) rfl b (off + k * 2) rfl [.int .u64 x, sv] _ HCS.out Try.underlying35 rfl HIO.out ?_) | (refine wpList_store_fresh rfl 35 (.tmp 5) (.tmp 13) rfl _ #[.int .u64 x, sv] wr.heap.size rfl rfl rfl HIO.out rfl HALL.out ?_) | (at_builtin; refine wpList_append_nums .u64 8 (by omega) rfl (.tmp 14) (.tmp 17) 55 rfl w.heap.size 33 i0 Try.underlying55 HI.out.1 HI.out.2.1 HI.out.2.2.1 HI.out.2.2.2 _ (valsTo outs k) rfl (HOWN.out.below (HB3.out.alloc HB3.out.size _)) _ [(x : Int)] rfl HSL.out (by have := HLEN.out; have := HK.out; have := HL.out; simp only [List.length_singleton]; omega) (HB4.out _ _ _ HB3.out).size ?_; intro v1 w1 ho1 hg1; have HG1 := Kp.mk ((HOWN.out.below (HB3.out.alloc HB3.out.size _)).grows (HB4.out _ _ _ HB3.out) hg1 (Nat.le_refl _)); have HO1 := Kp.mk ho1; clear ho1 hg1))
      go_roundw
      case rel => exact ⟨k + 1, by have := HK.out; omega, by go_num, ⟨by rw [HST.out]; exact HO1.out, HG1.out⟩⟩
      case measure => simp [intOf]; have := HK.out; omega
    · obtain ⟨hown, hbel⟩ := H.out
      obtain rfl : k = N := by omega
      have HD : Kp (valsOf outs = valsTo outs k) := ⟨by rw [← HN.out]; rfl⟩
      have HB := Kp.mk hbel
      have HC := Kp.mk (sum_any _ (valsTo outs k) wr hown.sl (valsTo_u64 outs HFIT.out k) (by rw [valsTo_len]; unfold maxLen; omega))
      clear hown hbel
      by_cases hs : tot (valsTo outs k) ≤ 2100000000000000
      · have HE : Kp (sumB outs = true) := ⟨by unfold sumB; rw [HD.out]; exact decide_eq_true hs⟩
        rw [sumV_yes hs] at HC
        clear hs
        go_wp2_with (go_at_call 47; refine HC.out.mono ?_; rintro e w2 ⟨rfl, rfl⟩)
        go_ret
        exact ⟨by rw [HE.out]; rfl, HB.out⟩
      · have HE : Kp (sumB outs = false) := ⟨by unfold sumB; rw [HD.out]; exact decide_eq_false hs⟩
        rw [sumV_no (by omega)] at HC
        clear hs
        go_wp2_with (go_at_call 47; refine HC.out.mono ?_; rintro e w2 ⟨rfl, rfl⟩)
        go_ret
        exact ⟨by rw [HE.out]; rfl, HB.out⟩
end Go.Proofs.Ytbnclajhgkjopaa
