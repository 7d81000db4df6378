/- awake of layer 9: what the document fixes. -/
import Derived.Test.YtdemamipllfonaaCoQ
import Derived.Test.YtdemamipllfonaaCoK
import Derived.Deep.RegionHeld3
namespace Go.Proofs.Ytdemamipllfonaa
open Go.RowKit Go.Maps Go.Sort

theorem built9_32z (a0 a1 a2 a3 a4 a5 a6 a7 a8 a9 a10 a11 a12 a13 a14 a15 a16 a17 a18 a19 a20 a21 a22 a23 a24 a25 a26 a27 a28 a29 a30 a31 : Int) : Try.prog.built 41 [(0, .agg (byteVals [a0, a1, a2, a3, a4, a5, a6, a7, a8, a9, a10, a11, a12, a13, a14, a15, a16, a17, a18, a19, a20, a21, a22, a23, a24, a25, a26, a27, a28, a29, a30, a31]).toArray)] = some (ptC [a0, a1, a2, a3, a4, a5, a6, a7, a8, a9, a10, a11, a12, a13, a14, a15, a16, a17, a18, a19, a20, a21, a22, a23, a24, a25, a26, a27, a28, a29, a30, a31] 0).toArray := by kernel_rfl
theorem built9z (p : List Int) (hl : p.length = 32) : Try.prog.built 41 [(0, .agg (byteVals p).toArray)] = some (ptC p 0).toArray := by
  match p, hl with
  | [a0, a1, a2, a3, a4, a5, a6, a7, a8, a9, a10, a11, a12, a13, a14, a15, a16, a17, a18, a19, a20, a21, a22, a23, a24, a25, a26, a27, a28, a29, a30, a31], _ => exact built9_32z a0 a1 a2 a3 a4 a5 a6 a7 a8 a9 a10 a11 a12 a13 a14 a15 a16 a17 a18 a19 a20 a21 a22 a23 a24 a25 a26 a27 a28 a29 a30 a31
theorem wpList_mv9 {P : Program} {ops : Array Oper} {rest : List Oper} {o : Oper} {a : Act} {w : World} {Q : Exit → Act → World → Prop} (hg : o.guard = none) (x : Operand) (ho : o.op = .move x) (v : Value) (hv : a.eval x = v) (h : wpList P ops Q rest (a.put o.dst v) w) : wpList P ops Q (o :: rest) a w := by
  refine wpList_plain hg fun K hK => ?_
  obtain ⟨d, op, ty, ps, af, gd⟩ := o
  simp only at ho
  subst ho hv
  have := hK _ _ h
  cases d <;> cases x <;> (go_simp; simpa [Act.put, Act.eval] using this)
def p3 : PtD := ⟨zeros 32, 3⟩
theorem p3_fit : p3.Fit := ⟨by decide, by unfold Bys; decide, by decide⟩
theorem p3_built : Try.prog.built 41 [(1, .int .u32 3)] = some (ptC p3.id p3.vout).toArray := by kernel_rfl
section
variable {w0 W : World} {bs bm N : Nat} {xs : List (Nat × Nat × Array Value)} {ts : List (Value × TxD)}
theorem aw9_put1 (h : AwS w0 W bs bm 0 [] xs ts) (p : PtD) (hp : p.Fit) : Calls Try.prog 13 #[.pointer (some ⟨bs, 0, none⟩), .agg (ptC p.id p.vout).toArray, .agg #[.int .u64 5, .int .i64 0, .int .i64 0, .bool false]] W fun e w' => e = .returned (.bool true) ∧ AwS w0 w' bs bm 1 [(p, ⟨5, 0, 0, false⟩)] xs ts :=
  aw_put h p ⟨5, 0, 0, false⟩ hp (by omega)
theorem aw9_put2 {c : CoinD} (h : AwS w0 W bs bm 1 [(p3, c)] xs ts) (p : PtD) (hp : p.Fit) (e : p = p3) : Calls Try.prog 13 #[.pointer (some ⟨bs, 0, none⟩), .agg (ptC p.id p.vout).toArray, .agg #[.int .u64 6, .int .i64 0, .int .i64 0, .bool false]] W fun e w' => e = .returned (.bool false) ∧ AwS w0 w' bs bm 2 [(p, c)] xs ts := by
  subst e
  have := aw_put h p3 ⟨6, 0, 0, false⟩ hp (by omega)
  rw [one_has] at this
  exact this
theorem aw9_get (p : PtD) (h : AwS w0 W bs bm 2 [(p, ⟨5, 0, 0, false⟩)] xs ts) (hp : p.Fit) : Calls Try.prog 24 #[.pointer (some ⟨bs, 0, none⟩), .agg (ptC p.id p.vout).toArray] W fun e w' => e = .returned (.tuple #[.agg #[.int .u64 5, .int .i64 0, .int .i64 0, .bool false], .bool true]) ∧ AwS w0 w' bs bm 2 [(p, ⟨5, 0, 0, false⟩)] xs ts := by
  have := aw_get h p hp
  rw [one_has, one_get] at this
  exact this
theorem aw9_take1 (p : PtD) (h : AwS w0 W bs bm 2 [(p, ⟨5, 0, 0, false⟩)] xs ts) (hp : p.Fit) : Calls Try.prog 12 #[.pointer (some ⟨bs, 0, none⟩), .agg (ptC p.id p.vout).toArray] W fun e w' => e = .returned (.tuple #[.agg #[.int .u64 5, .int .i64 0, .int .i64 0, .bool false], .bool true]) ∧ AwS w0 w' bs bm 2 [] xs ts := by
  have := aw_take h p hp
  rw [one_has, one_get, one_del] at this
  exact this
theorem aw9_take2 (p : PtD) (h : AwS w0 W bs bm 2 [] xs ts) (hp : p.Fit) : Calls Try.prog 12 #[.pointer (some ⟨bs, 0, none⟩), .agg (ptC p.id p.vout).toArray] W fun e w' => e = .returned (.tuple #[.agg #[.int .u64 0, .int .i64 0, .int .i64 0, .bool false], .bool false]) ∧ AwS w0 w' bs bm 2 [] xs ts :=
  aw_take h p hp
variable {t : TxD}
theorem aw9_make1 (h : AwS w0 W bs bm 2 [] xs ts) (v : Value) (hx : (v, t) ∈ ts) (hby : TxBys t) (hn : t.outs.length = 1) : Calls Try.prog 9 #[.pointer (some ⟨bs, 0, none⟩), v, .int .i64 7, .int .i64 8, .bool true] W fun e w' => e = .returned (.bool true) ∧ AwS w0 w' bs bm 3 (Coins.make [] t 7 8 true) xs ts := by
  have := aw_make h v t hx hby 7 8 true (by omega) (by omega)
  rw [hasAny_nil, hn] at this
  exact this
theorem aw9_make2 (h : AwS w0 W bs bm 3 (Coins.make [] t 7 8 true) xs ts) (v : Value) (hx : (v, t) ∈ ts) (hby : TxBys t) (hn : t.outs.length = 1) : Calls Try.prog 9 #[.pointer (some ⟨bs, 0, none⟩), v, .int .i64 7, .int .i64 8, .bool true] W fun e w' => e = .returned (.bool false) ∧ AwS w0 w' bs bm 4 (Coins.make [] t 7 8 true) xs ts := by
  have := aw_make h v t hx hby 7 8 true (by omega) (by omega)
  rw [make_again 7 8 true (hasAny_nil t) (by omega) (by omega), hn] at this
  exact this
theorem aw9_get2 (h : AwS w0 W bs bm 4 (Coins.make [] t 7 8 true) xs ts) (hn : t.outs.length = 1) : Calls Try.prog 24 #[.pointer (some ⟨bs, 0, none⟩), .agg (ptC (idOf t) 0).toArray] W fun e w' => e = .returned (.tuple #[.agg #[.int .u64 ((t.outs.getD 0 default).value : Int), .int .i64 7, .int .i64 8, .bool true], .bool true]) ∧ AwS w0 w' bs bm 4 (Coins.make [] t 7 8 true) xs ts := by
  have := aw_get h (ptAt t 0).1 (ptAt t 0).2
  rw [make_has 7 8 true (hasAny_nil t) (by omega) (by omega), make_get 7 8 true (hasAny_nil t) (by omega) (by omega)] at this
  exact this
theorem aw9_unmake1 (h : AwS w0 W bs bm 4 (Coins.make [] t 7 8 true) xs ts) (v : Value) (hx : (v, t) ∈ ts) (hby : TxBys t) (hn : t.outs.length = 1) : Calls Try.prog 10 #[.pointer (some ⟨bs, 0, none⟩), v] W fun e w' => e = .returned (.bool true) ∧ AwS w0 w' bs bm 4 [] xs ts := by
  have := aw_unmake h v t hx hby (by omega)
  rw [make_lacks 7 8 true (hasAny_nil t) (by omega), make_unmake 7 8 true (hasAny_nil t) (by omega)] at this
  exact this
theorem aw9_unmake2 (h : AwS w0 W bs bm 4 [] xs ts) (v : Value) (hx : (v, t) ∈ ts) (hby : TxBys t) (hn : t.outs.length = 1) : Calls Try.prog 10 #[.pointer (some ⟨bs, 0, none⟩), v] W fun e w' => e = .returned (.bool false) ∧ AwS w0 w' bs bm 4 [] xs ts := by
  have := aw_unmake h v t hx hby (by omega)
  rw [lacksAny_of (M := []) (t := t) (j := 0) (by omega) rfl] at this
  exact this
theorem aw9_points (h : AwS w0 W bs bm 4 [] xs ts) : Calls Try.prog 8 #[.pointer (some ⟨bs, 0, none⟩)] W fun e w' => ∃ A c, e = .returned (.slice A 0 c) ∧ AwS w0 w' bs bm 4 [] xs ts :=
  (aw_points h (by omega)).mono fun _ _ k => by
    obtain ⟨A, c, l, h1, _, _, _, _, h6⟩ := k
    exact ⟨A, c, h1, h6⟩
end
theorem t59_outs : (txOf 5 9).outs.length = 1 := by decide +kernel

set_option maxRecDepth 100000 in
set_option maxHeartbeats 8000000 in
theorem awake9_any (w : World) : Calls Try.prog 11 #[] w (YesPost w) := by
  have HNEW := Kp.mk (aw_new w)
  have HP := Kp.mk p3_built
  have HSZ : Kp ((Try.prog.info? 41).map (·.size) = some (ptC p3.id p3.vout).length ∧ (Try.prog.info? 41).map (·.size) = some (ptC p3.id p3.vout).toArray.size ∧ (ptC p3.id p3.vout).toArray.size = 33) := ⟨⟨by rw [ptC_len p3_fit.1]; exact sizePt, size_ptC p3_fit, by rw [List.size_toArray, ptC_len p3_fit.1]⟩⟩
  have HALL := Kp.mk (ptC_all (p := p3))
  have HPUT1 : Kp (∀ W bs bm xs ts, AwS w W bs bm 0 [] xs ts → Calls Try.prog 13 #[.pointer (some ⟨bs, 0, none⟩), .agg (ptC p3.id p3.vout).toArray, .agg #[.int .u64 5, .int .i64 0, .int .i64 0, .bool false]] W fun e w' => e = .returned (.bool true) ∧ AwS w w' bs bm 1 [(p3, ⟨5, 0, 0, false⟩)] xs ts) := ⟨fun _ _ _ _ _ h => aw9_put1 h p3 p3_fit⟩
  have HPUT2 : Kp (∀ W bs bm xs ts, AwS w W bs bm 1 [(p3, ⟨5, 0, 0, false⟩)] xs ts → Calls Try.prog 13 #[.pointer (some ⟨bs, 0, none⟩), .agg (ptC p3.id p3.vout).toArray, .agg #[.int .u64 6, .int .i64 0, .int .i64 0, .bool false]] W fun e w' => e = .returned (.bool false) ∧ AwS w w' bs bm 2 [(p3, ⟨5, 0, 0, false⟩)] xs ts) := ⟨fun _ _ _ _ _ h => aw9_put2 h p3 p3_fit rfl⟩
  have HGET : Kp (∀ W bs bm xs ts, AwS w W bs bm 2 [(p3, ⟨5, 0, 0, false⟩)] xs ts → Calls Try.prog 24 #[.pointer (some ⟨bs, 0, none⟩), .agg (ptC p3.id p3.vout).toArray] W fun e w' => e = .returned (.tuple #[.agg #[.int .u64 5, .int .i64 0, .int .i64 0, .bool false], .bool true]) ∧ AwS w w' bs bm 2 [(p3, ⟨5, 0, 0, false⟩)] xs ts) := ⟨fun _ _ _ _ _ h => aw9_get p3 h p3_fit⟩
  have HTK1 : Kp (∀ W bs bm xs ts, AwS w W bs bm 2 [(p3, ⟨5, 0, 0, false⟩)] xs ts → Calls Try.prog 12 #[.pointer (some ⟨bs, 0, none⟩), .agg (ptC p3.id p3.vout).toArray] W fun e w' => e = .returned (.tuple #[.agg #[.int .u64 5, .int .i64 0, .int .i64 0, .bool false], .bool true]) ∧ AwS w w' bs bm 2 [] xs ts) := ⟨fun _ _ _ _ _ h => aw9_take1 p3 h p3_fit⟩
  have HTK2 : Kp (∀ W bs bm xs ts, AwS w W bs bm 2 [] xs ts → Calls Try.prog 12 #[.pointer (some ⟨bs, 0, none⟩), .agg (ptC p3.id p3.vout).toArray] W fun e w' => e = .returned (.tuple #[.agg #[.int .u64 0, .int .i64 0, .int .i64 0, .bool false], .bool false]) ∧ AwS w w' bs bm 2 [] xs ts) := ⟨fun _ _ _ _ _ h => aw9_take2 p3 h p3_fit⟩
  have HLAW : Kp (∀ W bs bm N M xs ts, AwS w W bs bm N M xs ts → _) := ⟨fun W bs bm N M xs ts h => aw_law h 5 9 (by omega) (by omega)⟩
  have HT : Kp ((txOf 5 9).outs.length = 1 ∧ TxBys (txOf 5 9)) := ⟨t59_outs, txOf_bys 5 9⟩
  have HIT : Kp ((Try.prog.info? 30).map (·.size) = some 4) := ⟨by kernel_rfl⟩
  generalize txOf 5 9 = T at *
  generalize ptC p3.id p3.vout = cs at *
  generalize p3 = p at *
  go_enter Try.func11, Try.ntmps11
  go_wp2_with fail
  refine HNEW.out.mono ?_
  rintro e w1 ⟨rfl, h1⟩
  obtain ⟨bs, hbs⟩ : ∃ b, w.heap.size + 1 = b := ⟨_, rfl⟩
  rw [hbs] at h1 ⊢
  obtain ⟨bm, hbm⟩ : ∃ b, w.heap.size = b := ⟨_, rfl⟩
  have H1 : Kp (AwS w w1 bs bm 0 [] [] []) := ⟨hbm ▸ h1⟩
  clear h1 hbs hbm HNEW
  go_upto_region 5 with (first | (refine wpList_built rfl 41 #[(1, .const (.int .u32 3))] rfl cs.toArray HP.out ?_) | (refine wpList_store_fresh rfl 41 (.tmp 2) (.tmp 19) rfl _ cs.toArray w1.heap.size rfl rfl rfl HSZ.out.2.1 (by rw [HSZ.out.2.2]; rfl) HALL.out ?_))
  have H2 := Kp.mk (H1.out.alloc 41 cs.toArray)
  obtain ⟨G, hG⟩ : ∃ G, w1.heap.size = G := ⟨_, rfl⟩
  obtain ⟨W2, hW2⟩ : ∃ W, w1.alloc (.cells cs.toArray 41) = W := ⟨_, rfl⟩
  rw [hG, hW2] at H2
  rw [hG]
  try rw [hW2]
  clear hG hW2 H1
  have HA3 := Kp.mk (HPUT1.out _ _ _ _ _ H2.out.drew)
  refine wp_region_noPanic ?_
  refine wp_region_held_drew (S := fun W => Box W G 41 cs.toArray) (by kernel_rfl) ?_ (fun hHeld => ?_)
  · exact H2.out.drew.bxs _ (List.mem_singleton.2 rfl)
  refine wpAnyH_take (i := 0) (oi := ⟨some 20, _, _, _, _, _⟩) (v := ?_) rfl (by kernel_rfl) (by kernel_rfl) (by kernel_rfl) (fun _ _ _ h => h) (Or.inl ⟨by rfl, ?_⟩) hHeld ?_
  rotate_left
  · (intro wx hSw; (try dsimp only at hSw); obtain hSw := hSw; go_simp; try with_reducible rfl)
  try simp only [Act.put, List.setIfInBounds_toArray, List.set_cons_zero, List.set_cons_succ]
  refine wpAnyH_take (i := 1) (oi := ⟨some 21, _, _, _, _, _⟩) (v := .agg cs.toArray) rfl (by kernel_rfl) (by kernel_rfl) (by kernel_rfl) (fun _ _ _ h => h) (yieldsIf_load_mid rfl 41 (.tmp 2) rfl G 0 rfl cs _ (fun W hW => box_range hW) Try.underlying41 rfl HSZ.out.1) hHeld ?_
  try simp only [Act.put, List.setIfInBounds_toArray, List.set_cons_zero, List.set_cons_succ]
  refine wpAnyH_take (i := 2) (oi := ⟨some 22, _, _, _, _, _⟩) (v := ?_) rfl (by kernel_rfl) (by kernel_rfl) (by kernel_rfl) (fun _ _ _ h => h) (Or.inl ⟨by rfl, ?_⟩) hHeld ?_
  rotate_left
  · (intro wx hSw; (try dsimp only at hSw); obtain hSw := hSw; go_simp; try with_reducible rfl)
  try simp only [Act.put, List.setIfInBounds_toArray, List.set_cons_zero, List.set_cons_succ]
  refine wpAnyH_take (i := 4) (oi := ⟨some 24, _, _, _, _, _⟩) (v := ?_) rfl (by kernel_rfl) (by kernel_rfl) (by kernel_rfl) (fun _ _ _ h => h) (Or.inl ⟨by rfl, ?_⟩) hHeld ?_
  rotate_left
  · (intro wx hSw; (try dsimp only at hSw); obtain hSw := hSw; go_simp; try with_reducible rfl)
  try simp only [Act.put, List.setIfInBounds_toArray, List.set_cons_zero, List.set_cons_succ]
  refine wpAnyH_take (i := 5) (oi := ⟨some 25, _, _, _, _, _⟩) (v := .agg cs.toArray) rfl (by kernel_rfl) (by kernel_rfl) (by kernel_rfl) (fun _ _ _ h => h) (yieldsIf_load_mid rfl 41 (.tmp 2) rfl G 0 rfl cs _ (fun W hW => box_range hW) Try.underlying41 rfl HSZ.out.1) hHeld ?_
  try simp only [Act.put, List.setIfInBounds_toArray, List.set_cons_zero, List.set_cons_succ]
  refine wpAnyH_take (i := 6) (oi := ⟨some 26, _, _, _, _, _⟩) (v := ?_) rfl (by kernel_rfl) (by kernel_rfl) (by kernel_rfl) (fun _ _ _ h => h) (Or.inl ⟨by rfl, ?_⟩) hHeld ?_
  rotate_left
  · (intro wx hSw; (try dsimp only at hSw); obtain hSw := hSw; go_simp; try with_reducible rfl)
  try simp only [Act.put, List.setIfInBounds_toArray, List.set_cons_zero, List.set_cons_succ]
  refine wpAnyH_ready (rs := [3]) (by kernel_rfl) (by simp) (AllReadyH.cons (o := ⟨some 23, _, _, _, _, _⟩) rfl (fun K hK => ?_) AllReadyH.nil)
  go_simp
  refine HA3.out.mono ?_
  rintro e w3 ⟨rfl, h⟩
  have H3 := Kp.mk h
  clear h
  have HA4 := Kp.mk (HPUT2.out _ _ _ _ _ H3.out)
  refine hK.out _ _ (H3.out.bxs _ (List.mem_singleton.2 rfl)) (fun hHeld => ?_)
  clear hK K
  try simp only [Act.put, List.setIfInBounds_toArray, List.set_cons_zero, List.set_cons_succ]
  refine wpAnyH_ready (rs := [7]) (by kernel_rfl) (by simp) (AllReadyH.cons (o := ⟨some 27, _, _, _, _, _⟩) rfl (fun K hK => ?_) AllReadyH.nil)
  go_simp
  refine HA4.out.mono ?_
  rintro e w4 ⟨rfl, h⟩
  have H4 := Kp.mk h
  clear h
  refine hK.out _ _ (H4.out.bxs _ (List.mem_singleton.2 rfl)) (fun hHeld => ?_)
  clear hK K
  try simp only [Act.put, List.setIfInBounds_toArray, List.set_cons_zero, List.set_cons_succ]
  refine wpAnyH_take (i := 8) (oi := ⟨some 3, _, _, _, _, _⟩) (v := ?_) rfl (by kernel_rfl) (by kernel_rfl) (by kernel_rfl) (fun _ _ _ h => h) (Or.inl ⟨by rfl, ?_⟩) hHeld ?_
  rotate_left
  · (intro wx hSw; (try dsimp only at hSw); obtain hSw := hSw; go_simp; try with_reducible rfl)
  try simp only [Act.put, List.setIfInBounds_toArray, List.set_cons_zero, List.set_cons_succ]
  refine wpAnyH_take (i := 9) (oi := ⟨some 4, _, _, _, _, _⟩) (v := ?_) rfl (by kernel_rfl) (by kernel_rfl) (by kernel_rfl) (fun _ _ _ h => h) (Or.inl ⟨by rfl, ?_⟩) hHeld ?_
  rotate_left
  · (intro wx hSw; (try dsimp only at hSw); obtain hSw := hSw; go_simp; try with_reducible rfl)
  try simp only [Act.put, List.setIfInBounds_toArray, List.set_cons_zero, List.set_cons_succ]
  refine wpAnyH_done (by kernel_rfl) ?_ _
  refine NoPanic.normal ?_
  clear hHeld HA3 HA4 H2 H3
  have HCw5 := Kp.mk (HGET.out _ _ _ _ _ H4.out)
  have HRw5 : Kp (Box w4 G 41 cs.toArray) := ⟨H4.out.bxs (G, 41, cs.toArray) (by simp)⟩
  go_wp2_with (first | (refine wpList_mv9 rfl (.tmp 1) rfl (.pointer (some ⟨bs, 0, none⟩)) rfl ?_) | (refine wpList_load_row rfl 41 (.tmp 2) rfl G rfl 41 cs.toArray (0, 0) _ HRw5.out Try.underlying41 rfl HSZ.out.2.1 ?_) | fail)
  refine HCw5.out.mono ?_
  rintro e w5 ⟨rfl, h⟩
  have H50 := Kp.mk h
  clear h
  go_upto_region 7 with fail
  have H5 := Kp.mk (H50.out.alloc 44 #[.int .u64 5, .int .i64 0, .int .i64 0, .bool false])
  obtain ⟨G5, hG5⟩ : ∃ G, w5.heap.size = G := ⟨_, rfl⟩
  obtain ⟨W5, hW5⟩ : ∃ W, w5.alloc (.cells #[.int .u64 5, .int .i64 0, .int .i64 0, .bool false] 44) = W := ⟨_, rfl⟩
  rw [hG5, hW5] at H5
  rw [hG5, hW5]
  clear hG5 hW5 H50 HCw5 HRw5 H4
  have HCw6 := Kp.mk (HTK1.out _ _ _ _ _ H5.out)
  have HRw6 : Kp (Box W5 G 41 cs.toArray) := ⟨H5.out.bxs (G, 41, cs.toArray) (by simp)⟩
  go_wp2_with (first | (refine wpList_mv9 rfl (.tmp 1) rfl (.pointer (some ⟨bs, 0, none⟩)) rfl ?_) | (refine wpList_load_row rfl 41 (.tmp 2) rfl G rfl 41 cs.toArray (0, 0) _ HRw6.out Try.underlying41 rfl HSZ.out.2.1 ?_) | fail)
  refine HCw6.out.mono ?_
  rintro e w6 ⟨rfl, h⟩
  have H60 := Kp.mk h
  clear h
  go_upto_region 8 with fail
  have H6 := Kp.mk (H60.out.alloc 44 #[.int .u64 5, .int .i64 0, .int .i64 0, .bool false])
  obtain ⟨G6, hG6⟩ : ∃ G, w6.heap.size = G := ⟨_, rfl⟩
  obtain ⟨W6, hW6⟩ : ∃ W, w6.alloc (.cells #[.int .u64 5, .int .i64 0, .int .i64 0, .bool false] 44) = W := ⟨_, rfl⟩
  rw [hG6, hW6] at H6
  rw [hG6, hW6]
  clear hG6 hW6 H60 HCw6 HRw6 H5
  have HCw7 := Kp.mk (HTK2.out _ _ _ _ _ H6.out)
  have HRw7 : Kp (Box W6 G 41 cs.toArray) := ⟨H6.out.bxs (G, 41, cs.toArray) (by simp)⟩
  go_wp2_with (first | (refine wpList_mv9 rfl (.tmp 1) rfl (.pointer (some ⟨bs, 0, none⟩)) rfl ?_) | (refine wpList_load_row rfl 41 (.tmp 2) rfl G rfl 41 cs.toArray (0, 0) _ HRw7.out Try.underlying41 rfl HSZ.out.2.1 ?_) | fail)
  refine HCw7.out.mono ?_
  rintro e w7 ⟨rfl, h⟩
  have H70 := Kp.mk h
  clear h
  go_upto_region 9 with fail
  have H7 := Kp.mk (H70.out.alloc 44 #[.int .u64 0, .int .i64 0, .int .i64 0, .bool false])
  obtain ⟨G7, hG7⟩ : ∃ G, w7.heap.size = G := ⟨_, rfl⟩
  obtain ⟨W7, hW7⟩ : ∃ W, w7.alloc (.cells #[.int .u64 0, .int .i64 0, .int .i64 0, .bool false] 44) = W := ⟨_, rfl⟩
  rw [hG7, hW7] at H7
  rw [hG7, hW7]
  clear hG7 hW7 H70 HCw7 HRw7 H6
  have HA8 := Kp.mk (HLAW.out _ _ _ _ _ _ _ H7.out)
  go_upto_region 10 with (go_at_call 7; refine HA8.out.mono ?_; rintro e w8 ⟨Ai, ci, Ao, co, rfl, h⟩; have H80 := Kp.mk h; clear h)
  have H8 := Kp.mk (H80.out.alloc 30 #[.int .u32 T.version, .slice Ai T.ins.length ci, .slice Ao T.outs.length co, .int .u32 T.lock])
  obtain ⟨GT, hGT⟩ : ∃ G, w8.heap.size = G := ⟨_, rfl⟩
  obtain ⟨W8, hW8⟩ : ∃ W, w8.alloc (.cells #[.int .u32 T.version, .slice Ai T.ins.length ci, .slice Ao T.outs.length co, .int .u32 T.lock] 30) = W := ⟨_, rfl⟩
  rw [hGT, hW8] at H8
  rw [hGT, hW8]
  clear hGT hW8 H80 HA8 H7
  have HA9 := Kp.mk (aw9_make1 H8.out.drew _ (List.mem_singleton.2 rfl) HT.out.2 HT.out.1)
  refine wp_region_noPanic ?_
  refine wp_region_held_drew (S := fun W => Box W GT 30 #[.int .u32 T.version, .slice Ai T.ins.length ci, .slice Ao T.outs.length co, .int .u32 T.lock]) (by kernel_rfl) ?_ (fun hHeld => ?_)
  · exact H8.out.drew.bxs (GT, 30, _) (by simp)
  refine wpAnyH_take (i := 0) (oi := ⟨some 47, _, _, _, _, _⟩) (v := ?_) rfl (by kernel_rfl) (by kernel_rfl) (by kernel_rfl) (fun _ _ _ h => h) (Or.inl ⟨by rfl, ?_⟩) hHeld ?_
  rotate_left
  · (intro wx hSw; (try dsimp only at hSw); obtain hSw := hSw; go_simp; try with_reducible rfl)
  try simp only [Act.put, List.setIfInBounds_toArray, List.set_cons_zero, List.set_cons_succ]
  refine wpAnyH_take (i := 1) (oi := ⟨some 48, _, _, _, _, _⟩) (v := .agg #[.int .u32 T.version, .slice Ai T.ins.length ci, .slice Ao T.outs.length co, .int .u32 T.lock]) rfl (by kernel_rfl) (by kernel_rfl) (by kernel_rfl) (fun _ _ _ h => h) (yieldsIf_load_mid rfl 30 (.tmp 11) rfl GT 0 rfl [.int .u32 T.version, .slice Ai T.ins.length ci, .slice Ao T.outs.length co, .int .u32 T.lock] _ (fun W hW => box_range hW) Try.underlying30 rfl HIT.out) hHeld ?_
  try simp only [Act.put, List.setIfInBounds_toArray, List.set_cons_zero, List.set_cons_succ]
  refine wpAnyH_take (i := 3) (oi := ⟨some 50, _, _, _, _, _⟩) (v := ?_) rfl (by kernel_rfl) (by kernel_rfl) (by kernel_rfl) (fun _ _ _ h => h) (Or.inl ⟨by rfl, ?_⟩) hHeld ?_
  rotate_left
  · (intro wx hSw; (try dsimp only at hSw); obtain hSw := hSw; go_simp; try with_reducible rfl)
  try simp only [Act.put, List.setIfInBounds_toArray, List.set_cons_zero, List.set_cons_succ]
  refine wpAnyH_take (i := 4) (oi := ⟨some 51, _, _, _, _, _⟩) (v := .agg #[.int .u32 T.version, .slice Ai T.ins.length ci, .slice Ao T.outs.length co, .int .u32 T.lock]) rfl (by kernel_rfl) (by kernel_rfl) (by kernel_rfl) (fun _ _ _ h => h) (yieldsIf_load_mid rfl 30 (.tmp 11) rfl GT 0 rfl [.int .u32 T.version, .slice Ai T.ins.length ci, .slice Ao T.outs.length co, .int .u32 T.lock] _ (fun W hW => box_range hW) Try.underlying30 rfl HIT.out) hHeld ?_
  try simp only [Act.put, List.setIfInBounds_toArray, List.set_cons_zero, List.set_cons_succ]
  refine wpAnyH_ready (rs := [2]) (by kernel_rfl) (by simp) (AllReadyH.cons (o := ⟨some 49, _, _, _, _, _⟩) rfl (fun K hK => ?_) AllReadyH.nil)
  go_simp
  refine HA9.out.mono ?_
  rintro e w9 ⟨rfl, h⟩
  have H9 := Kp.mk h
  clear h
  have HA10 := Kp.mk (aw9_make2 H9.out _ (List.mem_singleton.2 rfl) HT.out.2 HT.out.1)
  refine hK.out _ _ (H9.out.bxs (GT, 30, _) (by simp)) (fun hHeld => ?_)
  clear hK K
  try simp only [Act.put, List.setIfInBounds_toArray, List.set_cons_zero, List.set_cons_succ]
  refine wpAnyH_ready (rs := [5]) (by kernel_rfl) (by simp) (AllReadyH.cons (o := ⟨some 52, _, _, _, _, _⟩) rfl (fun K hK => ?_) AllReadyH.nil)
  go_simp
  refine HA10.out.mono ?_
  rintro e w10 ⟨rfl, h⟩
  have H10 := Kp.mk h
  clear h
  refine hK.out _ _ (H10.out.bxs (GT, 30, _) (by simp)) (fun hHeld => ?_)
  clear hK K
  try simp only [Act.put, List.setIfInBounds_toArray, List.set_cons_zero, List.set_cons_succ]
  refine wpAnyH_take (i := 6) (oi := ⟨some 12, _, _, _, _, _⟩) (v := ?_) rfl (by kernel_rfl) (by kernel_rfl) (by kernel_rfl) (fun _ _ _ h => h) (Or.inl ⟨by rfl, ?_⟩) hHeld ?_
  rotate_left
  · (intro wx hSw; (try dsimp only at hSw); obtain hSw := hSw; go_simp; try with_reducible rfl)
  try simp only [Act.put, List.setIfInBounds_toArray, List.set_cons_zero, List.set_cons_succ]
  refine wpAnyH_take (i := 7) (oi := ⟨some 13, _, _, _, _, _⟩) (v := ?_) rfl (by kernel_rfl) (by kernel_rfl) (by kernel_rfl) (fun _ _ _ h => h) (Or.inl ⟨by rfl, ?_⟩) hHeld ?_
  rotate_left
  · (intro wx hSw; (try dsimp only at hSw); obtain hSw := hSw; go_simp; try with_reducible rfl)
  try simp only [Act.put, List.setIfInBounds_toArray, List.set_cons_zero, List.set_cons_succ]
  refine wpAnyH_done (by kernel_rfl) ?_ _
  refine NoPanic.normal ?_
  clear hHeld HA9 HA10 H8 H9
  have HBU := Kp.mk (built9z _ (idOf_ok T).1)
  have HA11 := Kp.mk (aw_txid H10.out _ _ (List.mem_singleton.2 rfl) HT.out.2)
  obtain ⟨V0, hV0⟩ : ∃ V : Int, ((T.outs.getD 0 default).value : Int) = V := ⟨_, rfl⟩
  have HG2 : Kp (∀ W xs ts, AwS w W bs bm 4 (Coins.make [] T 7 8 true) xs ts → Calls Try.prog 24 #[.pointer (some ⟨bs, 0, none⟩), .agg (ptC (idOf T) 0).toArray] W fun e w' => e = .returned (.tuple #[.agg #[.int .u64 V0, .int .i64 7, .int .i64 8, .bool true], .bool true]) ∧ AwS w w' bs bm 4 (Coins.make [] T 7 8 true) xs ts) := ⟨fun _ _ _ h => hV0 ▸ aw9_get2 h HT.out.1⟩
  have HUN : Kp (∀ W xs ts v, AwS w W bs bm 4 (Coins.make [] T 7 8 true) xs ts → (v, T) ∈ ts → Calls Try.prog 10 #[.pointer (some ⟨bs, 0, none⟩), v] W fun e w' => e = .returned (.bool true) ∧ AwS w w' bs bm 4 [] xs ts) := ⟨fun _ _ _ _ h hx => aw9_unmake1 h _ hx HT.out.2 HT.out.1⟩
  clear hV0
  generalize Coins.make [] T 7 8 true = M2 at *
  generalize (ptC (idOf T) 0).toArray = c2 at *
  generalize (byteVals (idOf T)).toArray = id2 at *
  have t0 := (H10.out.bxs (GT, 30, #[.int .u32 T.version, .slice Ai T.ins.length ci, .slice Ao T.outs.length co, .int .u32 T.lock]) (by simp)).cell 0
  have t1 := (H10.out.bxs (GT, 30, #[.int .u32 T.version, .slice Ai T.ins.length ci, .slice Ao T.outs.length co, .int .u32 T.lock]) (by simp)).cell 1
  have t2 := (H10.out.bxs (GT, 30, #[.int .u32 T.version, .slice Ai T.ins.length ci, .slice Ao T.outs.length co, .int .u32 T.lock]) (by simp)).cell 2
  have t3 := (H10.out.bxs (GT, 30, #[.int .u32 T.version, .slice Ai T.ins.length ci, .slice Ao T.outs.length co, .int .u32 T.lock]) (by simp)).cell 3
  go_wp2_with fail
  clear t0 t1 t2 t3
  go_upto_region 12 with (first | (go_at_call 25; refine HA11.out.mono ?_; rintro e w11 ⟨rfl, h⟩; have H11 := Kp.mk h; clear h; have HA12 := Kp.mk (HG2.out _ _ _ H11.out)) | (refine wpList_built rfl 41 #[(0, .tmp 56)] rfl c2 HBU.out ?_) | (go_at_call 24; refine HA12.out.mono ?_; rintro e w12 ⟨rfl, h⟩; have H120 := Kp.mk h; clear h))
  have H12 := Kp.mk (H120.out.alloc 44 #[.int .u64 V0, .int .i64 7, .int .i64 8, .bool true])
  obtain ⟨G12, hG12⟩ : ∃ G, w12.heap.size = G := ⟨_, rfl⟩
  obtain ⟨W12, hW12⟩ : ∃ W, w12.alloc (.cells #[.int .u64 V0, .int .i64 7, .int .i64 8, .bool true] 44) = W := ⟨_, rfl⟩
  rw [hG12, hW12] at H12
  rw [hG12, hW12]
  clear hG12 hW12 H120 HA11 HA12 H10 H11
  have c5 := (H12.out.bxs (G5, 44, #[.int .u64 5, .int .i64 0, .int .i64 0, .bool false]) (by simp)).cell 0
  have c6 := (H12.out.bxs (G6, 44, #[.int .u64 5, .int .i64 0, .int .i64 0, .bool false]) (by simp)).cell 0
  have e1 := (H12.out.bxs (G12, 44, #[.int .u64 V0, .int .i64 7, .int .i64 8, .bool true]) (by simp)).cell 1
  have e2 := (H12.out.bxs (G12, 44, #[.int .u64 V0, .int .i64 7, .int .i64 8, .bool true]) (by simp)).cell 2
  have e3 := (H12.out.bxs (G12, 44, #[.int .u64 V0, .int .i64 7, .int .i64 8, .bool true]) (by simp)).cell 3
  have HU1 := Kp.mk (HUN.out _ _ _ _ H12.out (List.mem_singleton.2 rfl))
  have t0 := (H12.out.bxs (GT, 30, #[.int .u32 T.version, .slice Ai T.ins.length ci, .slice Ao T.outs.length co, .int .u32 T.lock]) (by simp)).cell 0
  have t1 := (H12.out.bxs (GT, 30, #[.int .u32 T.version, .slice Ai T.ins.length ci, .slice Ao T.outs.length co, .int .u32 T.lock]) (by simp)).cell 1
  have t2 := (H12.out.bxs (GT, 30, #[.int .u32 T.version, .slice Ai T.ins.length ci, .slice Ao T.outs.length co, .int .u32 T.lock]) (by simp)).cell 2
  have t3 := (H12.out.bxs (GT, 30, #[.int .u32 T.version, .slice Ai T.ins.length ci, .slice Ao T.outs.length co, .int .u32 T.lock]) (by simp)).cell 3
  go_wp2_with fail
  clear t0 t1 t2 t3
  refine HU1.out.mono ?_
  rintro e w13 ⟨rfl, h⟩
  have H13 := Kp.mk h
  clear h c5 c6 e1 e2 e3
  have HU2 := Kp.mk (aw9_unmake2 H13.out _ (List.mem_singleton.2 rfl) HT.out.2 HT.out.1)
  have t0 := (H13.out.bxs (GT, 30, #[.int .u32 T.version, .slice Ai T.ins.length ci, .slice Ao T.outs.length co, .int .u32 T.lock]) (by simp)).cell 0
  have t1 := (H13.out.bxs (GT, 30, #[.int .u32 T.version, .slice Ai T.ins.length ci, .slice Ao T.outs.length co, .int .u32 T.lock]) (by simp)).cell 1
  have t2 := (H13.out.bxs (GT, 30, #[.int .u32 T.version, .slice Ai T.ins.length ci, .slice Ao T.outs.length co, .int .u32 T.lock]) (by simp)).cell 2
  have t3 := (H13.out.bxs (GT, 30, #[.int .u32 T.version, .slice Ai T.ins.length ci, .slice Ao T.outs.length co, .int .u32 T.lock]) (by simp)).cell 3
  go_wp2_with fail
  clear t0 t1 t2 t3
  refine HU2.out.mono ?_
  rintro e w14 ⟨rfl, h⟩
  have H14 := Kp.mk h
  clear h
  have HU3 := Kp.mk (aw9_points H14.out)
  go_wp2_with fail
  refine HU3.out.mono ?_
  rintro e w15 ⟨A15, c15, rfl, h⟩
  have H15 := Kp.mk h
  clear h
  go_wp2
  go_ret
  exact ⟨rfl, H15.out.low⟩
end Go.Proofs.Ytdemamipllfonaa
