/- Package coin: Make and Unmake. -/
import Derived.Test.YtdemamipllfonaaCoN
import Derived.Test.YtdemamipllfonaaShN
import Derived.Deep.RegionHeld3
namespace Go.Proofs.Ytdemamipllfonaa
open Go.RowKit Go.Maps Go.Sort

/-- The name of a transaction. -/
def idOf (t : TxD) : List Int := twiceOf (baseOf t)
theorem idOf_ok (t : TxD) : (idOf t).length = 32 ∧ Bys (idOf t) := ⟨shaOf_len _, shaOf_bys _⟩
theorem txid_id (W : World) (v : Value) (t : TxD) (h : TxR W v t) (hby : TxBys t) : Calls Try.prog 31 #[v] W fun e w' => e = .returned (.agg (byteVals (idOf t)).toArray) ∧ Below W.heap.size W w' := by
  have := txid_any W v t h hby
  exact this
/-- The points of a transaction's outputs. -/
def ptsOf (t : TxD) : List PtF := madeP (idOf t) (idOf_ok t) t.outs.length
def ptAt (t : TxD) (k : Nat) : PtF := mkP (idOf t) (idOf_ok t) k
theorem ptsOf_len (t : TxD) : (ptsOf t).length = t.outs.length := by simp [ptsOf, madeP]
theorem ptsOf_at (t : TxD) (k : Nat) (h : k < (ptsOf t).length) : (ptsOf t)[k] = ptAt t k := by simp [ptsOf, madeP, ptAt]
theorem made_id (w : World) (v : Value) (t : TxD) (h : TxR w v t) (hby : TxBys t) (hn : t.outs.length ≤ 100000) :
    Calls Try.prog 20 #[v] w fun e w' => ∃ v', e = .returned v' ∧ PtsO w' w.heap.size v' (ptsOf t) ∧ Below w.heap.size w w' :=
  made_any w v t (idOf t) (idOf_ok t) h (fun W hW => txid_id W v t (h.below hW) hby) hn
def Coins.hasAny (M : Coins) (t : TxD) : Bool := (ptsOf t).any fun p => M.has p.1
def Coins.lacksAny (M : Coins) (t : TxD) : Bool := (ptsOf t).any fun p => !M.has p.1
def Coins.putTo (M : Coins) (t : TxD) (hh tt : Int) (bb : Bool) : Nat → Coins
  | 0 => M
  | k + 1 => (M.putTo t hh tt bb k).put (ptAt t k).1 ⟨((t.outs.getD k default).value : Int), hh, tt, bb⟩
def Coins.delTo (M : Coins) (t : TxD) : Nat → Coins
  | 0 => M
  | k + 1 => (M.delTo t k).del (ptAt t k).1
def Coins.make (M : Coins) (t : TxD) (hh tt : Int) (bb : Bool) : Coins := M.putTo t hh tt bb t.outs.length
def Coins.unmake (M : Coins) (t : TxD) : Coins := M.delTo t t.outs.length
set_option maxRecDepth 100000 in
theorem enter_has (args : Array Value) (w : World) : (callFunc 22 args).run Try.prog w = .ok (.enter 22 args) w := by kernel_rfl
set_option maxRecDepth 100000 in
theorem enter_lacks (args : Array Value) (w : World) : (callFunc 23 args).run Try.prog w = .ok (.enter 23 args) w := by kernel_rfl
theorem pts_slice {w : World} {B : Nat} {v : Value} {l : List PtF} (h : PtsO w B v l) : ∃ A c, v = .slice A l.length c := by
  rcases h.2 with ⟨rfl, h0⟩ | ⟨g, cap, cur, rfl, _⟩
  · exact ⟨none, 0, by rw [h0]⟩
  · exact ⟨_, cap, rfl⟩
theorem pts_some {w : World} {B n c : Nat} {A : Option Addr} {l : List PtF} (h : PtsO w B (.slice A n c) l) (hn : 0 < n) (hl : l.length = n) : ∃ g, A = some ⟨g, 0, none⟩ := by
  rcases h.2 with ⟨h1, h0⟩ | ⟨g, cap, cur, h1, _⟩
  · omega
  · injection h1 with h2
    exact ⟨g, h2⟩
theorem PtsO.grown {w w' : World} {B bm : Nat} {v : Value} {l : List PtF} (h : PtsO w B v l) (hg : w.grownBy w' (some bm)) (hb : bm < B) : PtsO w' B v l := World.ownsRow.kept h hg (by
  rcases h.2 with ⟨rfl, _⟩ | ⟨g, cap, cur, rfl, hB, _⟩
  · exact .inl rfl
  · refine .inr fun e => ?_
    have : g = bm := by simpa [Value.ownBlock] using e
    omega)
theorem cell_grown {w w' : World} {row : Option Nat} {a : Addr} {v : Value} (h : w.cell? a = some v) (hg : w.grownBy w' row) (hne : some a.block ≠ row) (hlt : a.block < w.heap.size) : w'.cell? a = some v := by
  unfold World.cell? at *
  rw [hg.block _ hlt hne]
  exact h
theorem _root_.Go.World.grownBy.trans9 {w w' w'' : World} {row : Option Nat} (h : w.grownBy w' row) (k : w'.grownBy w'' row) : w.grownBy w'' row :=
  ⟨k.os.trans h.os, k.tape.trans h.tape, k.output.trans h.output, Nat.le_trans h.size k.size, fun i hi hr => (k.block i (Nat.lt_of_lt_of_le hi h.size) hr).trans (h.block i hi hr)⟩
theorem SetS.other {w : World} {bs bm N : Nat} {M : Coins} (h : SetS w bs bm N M) (b o : Nat) (v : Value) (hc : w.cell? ⟨b, o, none⟩ = some v) : b ≠ bm := by
  rintro rfl
  obtain ⟨_, n, D, _, ⟨es, clock, hm, _⟩, _⟩ := h
  simp [World.cell?, hm] at hc
set_option maxRecDepth 100000 in
set_option maxHeartbeats 8000000 in
theorem make_any (w : World) (bs bm N : Nat) (M : Coins) (v : Value) (t : TxD) (hh tt : Int) (bb : Bool) (h : SetS w bs bm N M) (hx : TxR w v t) (hby : TxBys t) (hn : t.outs.length ≤ 1000) (hN : N ≤ 100000) :
    Calls Try.prog 9 #[SetV bs, v, .int .i64 hh, .int .i64 tt, .bool bb] w fun e w' => e = .returned (.bool (!M.hasAny t)) ∧ SetS w' bs bm (N + t.outs.length) (if M.hasAny t then M else M.make t hh tt bb) ∧ w.grownBy w' (some bm) := by
  have HNN := Kp.mk hN
  have HBM := Kp.mk (SetS.other h)
  obtain ⟨iv, ov, rfl, hv, hk, hi, ho⟩ := _root_.id hx
  obtain ⟨Ai, ci, rfl, _⟩ := hi.slice
  obtain ⟨Ao, co, rfl, _⟩ := ho.slice
  obtain ⟨NI, hNI⟩ : ∃ N, t.ins.length = N := ⟨_, rfl⟩
  obtain ⟨NO, hNO⟩ : ∃ N, t.outs.length = N := ⟨_, rfl⟩
  have HNO := Kp.mk hNO
  have HMN := Kp.mk ho
  rw [hNO] at HMN
  rw [hNI, hNO] at hx
  rw [hNI, hNO]
  rw [hNO] at hn
  obtain ⟨W1, hW1⟩ : ∃ W, w.alloc (.cells #[.int .u32 t.version, .slice Ai NI ci, .slice Ao NO co, .int .u32 t.lock] 30) = W := ⟨_, rfl⟩
  have hb1 : Below w.heap.size w W1 := by rw [← hW1]; exact (Below.refl _ _).alloc (Nat.le_refl _) _
  have hx1 : Box W1 w.heap.size 30 #[.int .u32 t.version, .slice Ai NI ci, .slice Ao NO co, .int .u32 t.lock] := by rw [← hW1]; exact Box.fresh _ _ _
  have HM := Kp.mk (made_id W1 _ t (hx.below hb1) hby (by rw [hNO]; omega))
  have HC : Kp (∀ W2 v2, Below W1.heap.size W1 W2 → PtsO W2 W1.heap.size v2 (ptsOf t) → Calls Try.prog 21 #[v2, .func (.func 22) #[SetV bs] #[]] W2 (BoolP (M.hasAny t) W2)) := ⟨fun W2 v2 hW2 hp2 => contains_any W2 W1.heap.size v2 (ptsOf t) hp2 22 (SetV bs) (fun p => M.has p.1) (by rw [ptsOf_len, hNO]; omega) enter_has fun W hW p => by
    have := has_any W bs bm N M p.1 (h.below (hb1.trans ((hW2.trans (hW.mono hW2.size)).mono hb1.size))) p.2
    rw [ptV_enc] at this
    exact this⟩
  have HS0 := Kp.mk (fun W (hW : Below w.heap.size w W) => h.below hW)
  have HLT := Kp.mk (And.intro h.lt h.ne)
  have HB1 := Kp.mk hb1
  have HX1 := Kp.mk hx1
  have HW1 := Kp.mk hW1
  have HN := Kp.mk hn
  have c0 := hx1.cell 0
  have c1 := hx1.cell 1
  have c2 := hx1.cell 2
  have c3 := hx1.cell 3
  have HPL := Kp.mk (ptsOf_len t)
  rw [hNO] at HPL
  clear hx hby hi ho hv hk hNI hNO hW1 hb1 hx1 hn h
  unfold SetV at *
  cases hbb : M.hasAny t
  · rw [hbb] at HC
    go_enter Try.func9, Try.ntmps9
    go_upto_region 1 with fail
    rw [HW1.out]
    go_wp2_with (first | (go_at_call 20; refine HM.out.mono ?_; rintro e w2 ⟨v2, rfl, hp2, hb2⟩; obtain ⟨A2, cc2, rfl⟩ := pts_slice hp2; rw [HPL.out] at hp2 ⊢; have HP2 := Kp.mk hp2; have HB2 := Kp.mk hb2; have HC2 := HC.out _ _ hb2 hp2; clear hp2 hb2) | (go_at_call 21; refine HC2.mono ?_; rintro e w3 ⟨rfl, hb3⟩; have HB3 := Kp.mk hb3; clear hb3 HC2))
    have hB := HB1.out.trans ((HB2.out.trans (HB3.out.mono HB2.out.size)).mono HB1.out.size)
    have HB := Kp.mk hB
    have HW1S : Kp (bm < W1.heap.size ∧ bs < W1.heap.size) := ⟨by have := HLT.out.1.2; have := HB1.out.size; omega, by have := HLT.out.1.1; have := HB1.out.size; omega⟩
    have HX3 := Kp.mk (HX1.out.below (HB2.out.trans (HB3.out.mono HB2.out.size)))
    have HP3 := Kp.mk (PtsO.below HP2.out HB3.out)
    clear hB
    have HS3 := Kp.mk (HS0.out _ HB.out)
    have H3S := Kp.mk (Nat.le_refl w3.heap.size)
    go_loopw [22] (fun i wr => ∃ k : Nat, k ≤ NO ∧ i = .int .i64 k ∧ Kp (SetS wr bs bm (N + k) (M.putTo t hh tt bb k) ∧ w.grownBy wr (some bm) ∧ Box wr w.heap.size 30 #[.int .u32 t.version, .slice Ai NI ci, .slice Ao NO co, .int .u32 t.lock] ∧ PtsO wr W1.heap.size (.slice A2 NO cc2) (ptsOf t))) (fun i _ => NO - (intOf i).toNat)
    case atStart => exact ⟨0, by omega, rfl, ⟨HS3.out, (grown_of_below HB.out).none_any _, HX3.out, HP3.out⟩⟩
    case round =>
      obtain ⟨k, hk, rfl, H⟩ := hrel
      by_cases hlt : k < NO
      · have hkk : (k : Int) < (NO : Int) := by omega
        have HK := Kp.mk hlt
        obtain ⟨hs, hgr, hbx, hpt⟩ := H.out
        obtain ⟨g, rfl⟩ := pts_some hpt (by omega) HPL.out
        have hkl : k < (ptsOf t).length := by rw [HPL.out]; exact hlt
        have hR := pts_range hpt hkl
        rw [ptsOf_at t k hkl] at hR
        have HPK := Kp.mk (ptAt t k).2
        have HRA := Kp.mk hR
        have HEL := Kp.mk (encP_len (ptAt t k))
        have HEA := Kp.mk (all_oneCell_toArray (encP_one (ptAt t k)))
        obtain ⟨b, off, cs, hA, hbl, hcl, hcs, hO⟩ := HMN.out.at (i := k) (by rw [HNO.out]; exact hlt)
        obtain ⟨sv, rfl, hvl, hrb⟩ := hO
        subst hA
        have hcv : w.cell? ⟨b, off + k * 2, none⟩ = some (.int .u64 (t.outs[k]'(by rw [HNO.out]; exact hlt)).value) := by
          have := hcs 0 _ rfl
          rw [Nat.add_zero] at this
          exact this
        have hbm : b ≠ bm := HBM.out b _ _ hcv
        have hgd : t.outs.getD k default = t.outs[k]'(by rw [HNO.out]; exact hlt) := by rw [List.getD_eq_getElem?_getD, List.getElem?_eq_getElem (by rw [HNO.out]; exact hlt)]; rfl
        rw [← hgd] at hcv
        have HCV := Kp.mk (cell_grown hcv hgr (by simpa using hbm) hbl)
        have HBN := Kp.mk (And.intro hbm hbl)
        have HSZ : Kp ((Try.prog.info? 41).map (·.size) = some (encP (ptAt t k)).toArray.size ∧ (encP (ptAt t k)).toArray.size = 33 ∧ (Try.prog.info? 41).map (·.size) = some (encP (ptAt t k)).length) := ⟨by rw [List.size_toArray, encP_len]; exact sizePt, by rw [List.size_toArray, encP_len], by rw [encP_len]; exact sizePt⟩
        have HPUT : Kp (∀ W, SetS W bs bm (N + k) (M.putTo t hh tt bb k) → ∃ w', (Instr.mapUpdate 52 (.map (some bm)) (.agg (encP (ptAt t k)).toArray) (.agg #[.int .u64 (t.outs.getD k default).value, .int .i64 hh, .int .i64 tt, .bool bb])).run Try.prog W = .ok () w' ∧ SetS w' bs bm (N + (k + 1)) (M.putTo t hh tt bb (k + 1)) ∧ W.grownBy w' (some bm)) := ⟨fun W hW => by
          have := put_run hW (ptAt t k).2 ⟨((t.outs.getD k default).value : Int), hh, tt, bb⟩ (by have := HN.out; have := HNN.out; omega)
          rw [ptV_enc] at this
          exact this⟩
        have HREL := Kp.mk (And.intro hs (And.intro hgr (And.intro hbx hpt)))
        have HWR : Kp (w.heap.size ≤ wr.heap.size) := ⟨hgr.size⟩
        clear H hs hgr hbx hpt hkl hR hbl hcl hcs hvl hrb hcv hbm hgd hk hlt
        generalize encP (ptAt t k) = C at *
        generalize (t.outs.getD k default).value = V at *
        go_wp2_with (first | (refine wpList_load_mid rfl 41 (.tmp 25) rfl g (k * 33) rfl C _ HRA.out Try.underlying41 rfl HSZ.out.2.2 ?_) | (refine wpList_store_fresh rfl 41 (.tmp 13) (.tmp 26) rfl _ C.toArray _ rfl rfl rfl HSZ.out.1 (by rw [HSZ.out.2.1]; rfl) HEA.out ?_))
        obtain ⟨W4, hW4⟩ : ∃ W, wr.alloc (.cells C.toArray 41) = W := ⟨_, rfl⟩
        rw [hW4]
        have hb4 : Below wr.heap.size wr W4 := by rw [← hW4]; exact (Below.refl _ _).alloc (Nat.le_refl _) _
        have hn4 : Box W4 wr.heap.size 41 C.toArray := by rw [← hW4]; exact Box.fresh _ _ _
        have hHD : Box W4.drew bs 54 #[.map (some bm)] ∧ Box W4.drew wr.heap.size 41 C.toArray ∧ Box W4.drew w.heap.size 30 #[.int .u32 t.version, .slice Ai NI ci, .slice (some ⟨b, off, none⟩) NO co, .int .u32 t.lock] ∧ W4.drew.cell? ⟨b, off + k * 2, none⟩ = some (.int .u64 V) := ⟨HREL.out.1.box.below hb4.drew, hn4, HREL.out.2.2.1.below hb4.drew, cell_grown HCV.out (grown_of_below hb4.drew) (by simp) (Nat.lt_of_lt_of_le HBN.out.2 HWR.out)⟩
        have HS4 := Kp.mk (HREL.out.1.below hb4.drew)
        have HG4 := Kp.mk (HREL.out.2.1.trans9 ((grown_of_below hb4.drew).none_any (some bm)))
        have HP4 := Kp.mk (PtsO.below HREL.out.2.2.2 hb4.drew)
        have HL4 : Kp (w.heap.size ≤ W4.heap.size ∧ wr.heap.size < W4.heap.size) := ⟨Nat.le_trans HWR.out hb4.size, hn4.lt⟩
        clear hW4 hb4 hn4
        refine wp_region_noPanic ?_
        refine wp_region_held_drew (S := fun W => Box W bs 54 #[.map (some bm)] ∧ Box W wr.heap.size 41 C.toArray ∧ Box W w.heap.size 30 #[.int .u32 t.version, .slice Ai NI ci, .slice (some ⟨b, off, none⟩) NO co, .int .u32 t.lock] ∧ W.cell? ⟨b, off + k * 2, none⟩ = some (.int .u64 V)) (by kernel_rfl) ?_ (fun hHeld => ?_)
        · exact hHD
        refine wpAnyH_take (i := 0) (oi := ⟨some 27, _, _, _, _, _⟩) (v := ?_) rfl (by kernel_rfl) (by kernel_rfl) (by kernel_rfl) (fun _ _ _ h => h) (Or.inl ⟨by rfl, ?_⟩) hHeld ?_
        rotate_left
        · (intro wx hSw; (try dsimp only at hSw); go_simp; try with_reducible rfl)
        try simp only [Act.put, List.setIfInBounds_toArray, List.set_cons_zero, List.set_cons_succ]
        refine wpAnyH_take (i := 1) (oi := ⟨some 28, _, _, _, _, _⟩) (v := ?_) rfl (by kernel_rfl) (by kernel_rfl) (by kernel_rfl) (fun _ _ _ h => h) (Or.inl ⟨by rfl, ?_⟩) hHeld ?_
        rotate_left
        · (intro wx hSw; (try dsimp only at hSw); go_simp; try with_reducible rfl)
        try simp only [Act.put, List.setIfInBounds_toArray, List.set_cons_zero, List.set_cons_succ]
        refine wpAnyH_take (i := 2) (oi := ⟨some 29, _, _, _, _, _⟩) (v := ?_) rfl (by kernel_rfl) (by kernel_rfl) (by kernel_rfl) (fun _ _ _ h => h) (Or.inl ⟨by rfl, ?_⟩) hHeld ?_
        rotate_left
        · (intro wx hSw; (try dsimp only at hSw); go_simp; try with_reducible rfl)
        try simp only [Act.put, List.setIfInBounds_toArray, List.set_cons_zero, List.set_cons_succ]
        refine wpAnyH_take (i := 3) (oi := ⟨some 30, _, _, _, _, _⟩) (v := ?_) rfl (by kernel_rfl) (by kernel_rfl) (by kernel_rfl) (fun _ _ _ h => h) (Or.inl ⟨by rfl, ?_⟩) hHeld ?_
        rotate_left
        · (intro wx hSw; have c0 := hSw.1.cell 0; (try dsimp only at hSw); go_simp; try with_reducible rfl)
        try simp only [Act.put, List.setIfInBounds_toArray, List.set_cons_zero, List.set_cons_succ]
        refine wpAnyH_take (i := 4) (oi := ⟨some 31, _, _, _, _, _⟩) (v := .agg C.toArray) rfl (by kernel_rfl) (by kernel_rfl) (by kernel_rfl) (fun _ _ _ h => h) (yieldsIf_load_mid rfl 41 (.tmp 13) rfl wr.heap.size 0 rfl C _ (fun W hW => box_range hW.2.1) Try.underlying41 rfl HSZ.out.2.2) hHeld ?_
        try simp only [Act.put, List.setIfInBounds_toArray, List.set_cons_zero, List.set_cons_succ]
        refine wpAnyH_take (i := 5) (oi := ⟨some 32, _, _, _, _, _⟩) (v := ?_) rfl (by kernel_rfl) (by kernel_rfl) (by kernel_rfl) (fun _ _ _ h => h) (Or.inl ⟨by rfl, ?_⟩) hHeld ?_
        rotate_left
        · (intro wx hSw; (try dsimp only at hSw); go_simp; try with_reducible rfl)
        try simp only [Act.put, List.setIfInBounds_toArray, List.set_cons_zero, List.set_cons_succ]
        refine wpAnyH_take (i := 6) (oi := ⟨some 33, _, _, _, _, _⟩) (v := ?_) rfl (by kernel_rfl) (by kernel_rfl) (by kernel_rfl) (fun _ _ _ h => h) (Or.inl ⟨by rfl, ?_⟩) hHeld ?_
        rotate_left
        · (intro wx hSw; have x2 := hSw.2.2.1.cell 2; (try dsimp only at hSw); go_simp; try with_reducible rfl)
        try simp only [Act.put, List.setIfInBounds_toArray, List.set_cons_zero, List.set_cons_succ]
        refine wpAnyH_take (i := 7) (oi := ⟨some 34, _, _, _, _, _⟩) (v := ?_) rfl (by kernel_rfl) (by kernel_rfl) (by kernel_rfl) (fun _ _ _ h => h) (Or.inl ⟨by rfl, ?_⟩) hHeld ?_
        rotate_left
        · (intro wx hSw; (try dsimp only at hSw); go_simp; try with_reducible rfl)
        try simp only [Act.put, List.setIfInBounds_toArray, List.set_cons_zero, List.set_cons_succ]
        refine wpAnyH_take (i := 8) (oi := ⟨some 35, _, _, _, _, _⟩) (v := ?_) rfl (by kernel_rfl) (by kernel_rfl) (by kernel_rfl) (fun _ _ _ h => h) (Or.inl ⟨by rfl, ?_⟩) hHeld ?_
        rotate_left
        · (intro wx hSw; (try dsimp only at hSw); go_simp; try with_reducible rfl)
        try simp only [Act.put, List.setIfInBounds_toArray, List.set_cons_zero, List.set_cons_succ]
        refine wpAnyH_take (i := 9) (oi := ⟨some 36, _, _, _, _, _⟩) (v := ?_) rfl (by kernel_rfl) (by kernel_rfl) (by kernel_rfl) (fun _ _ _ h => h) (Or.inl ⟨by rfl, ?_⟩) hHeld ?_
        rotate_left
        · (intro wx hSw; (try dsimp only at hSw); go_simp; try with_reducible rfl)
        try simp only [Act.put, List.setIfInBounds_toArray, List.set_cons_zero, List.set_cons_succ]
        refine wpAnyH_take (i := 10) (oi := ⟨some 37, _, _, _, _, _⟩) (v := ?_) rfl (by kernel_rfl) (by kernel_rfl) (by kernel_rfl) (fun _ _ _ h => h) (Or.inl ⟨by rfl, ?_⟩) hHeld ?_
        rotate_left
        · (intro wx hSw; have v0 := hSw.2.2.2; (try dsimp only at hSw); go_simp; try with_reducible rfl)
        try simp only [Act.put, List.setIfInBounds_toArray, List.set_cons_zero, List.set_cons_succ]
        refine wpAnyH_take (i := 11) (oi := ⟨some 38, _, _, _, _, _⟩) (v := ?_) rfl (by kernel_rfl) (by kernel_rfl) (by kernel_rfl) (fun _ _ _ h => h) (Or.inl ⟨by rfl, ?_⟩) hHeld ?_
        rotate_left
        · (intro wx hSw; (try dsimp only at hSw); go_simp; try with_reducible rfl)
        try simp only [Act.put, List.setIfInBounds_toArray, List.set_cons_zero, List.set_cons_succ]
        refine wpAnyH_take (i := 12) (oi := ⟨some 39, _, _, _, _, _⟩) (v := ?_) rfl (by kernel_rfl) (by kernel_rfl) (by kernel_rfl) (fun _ _ _ h => h) (Or.inl ⟨by rfl, ?_⟩) hHeld ?_
        rotate_left
        · (intro wx hSw; (try dsimp only at hSw); go_simp; try with_reducible rfl)
        try simp only [Act.put, List.setIfInBounds_toArray, List.set_cons_zero, List.set_cons_succ]
        refine wpAnyH_take (i := 13) (oi := ⟨some 40, _, _, _, _, _⟩) (v := ?_) rfl (by kernel_rfl) (by kernel_rfl) (by kernel_rfl) (fun _ _ _ h => h) (Or.inl ⟨by rfl, ?_⟩) hHeld ?_
        rotate_left
        · (intro wx hSw; (try dsimp only at hSw); go_simp; try with_reducible rfl)
        try simp only [Act.put, List.setIfInBounds_toArray, List.set_cons_zero, List.set_cons_succ]
        refine wpAnyH_take (i := 14) (oi := ⟨some 41, _, _, _, _, _⟩) (v := ?_) rfl (by kernel_rfl) (by kernel_rfl) (by kernel_rfl) (fun _ _ _ h => h) (Or.inl ⟨by rfl, ?_⟩) hHeld ?_
        rotate_left
        · (intro wx hSw; (try dsimp only at hSw); go_simp; try with_reducible rfl)
        try simp only [Act.put, List.setIfInBounds_toArray, List.set_cons_zero, List.set_cons_succ]
        obtain ⟨w5, hr5, hs5, hg5⟩ := HPUT.out _ HS4.out
        have HS5 := Kp.mk hs5
        have HG5 := Kp.mk hg5
        clear hs5 hg5
        have HH5 : Kp (Box w5 bs 54 #[.map (some bm)] ∧ Box w5 wr.heap.size 41 C.toArray ∧ Box w5 w.heap.size 30 #[.int .u32 t.version, .slice Ai NI ci, .slice (some ⟨b, off, none⟩) NO co, .int .u32 t.lock] ∧ w5.cell? ⟨b, off + k * 2, none⟩ = some (.int .u64 V)) := ⟨(HG5.out.block _ hHD.1.lt (by simp; exact HLT.out.2)).trans hHD.1, (HG5.out.block _ hHD.2.1.lt (by simp; have := HLT.out.1.2; have := HWR.out; omega)).trans hHD.2.1, (HG5.out.block _ hHD.2.2.1.lt (by simp; have := HLT.out.1.2; omega)).trans hHD.2.2.1, cell_grown hHD.2.2.2 HG5.out (by simpa using HBN.out.1) (by show b < W4.heap.size; have := HBN.out.2; have := HL4.out.1; omega)⟩
        refine wpAnyH_ready (rs := [15]) (by kernel_rfl) (by simp) (AllReadyH.cons (o := ⟨none, _, _, _, _, _⟩) rfl (fun K hK => ?_) AllReadyH.nil)
        go_simp
        refine hK.out _ _ ?_ (fun hHeld => ?_)
        · exact HH5.out
        clear hK K
        try simp only [Act.put, List.setIfInBounds_toArray, List.set_cons_zero, List.set_cons_succ]
        refine wpAnyH_done (by kernel_rfl) ?_ _
        refine NoPanic.normal ?_
        clear hHeld hHD
        go_wp2
        exact step9 HK.out (by have := HN.out; omega) ⟨HS5.out, HG4.out.trans9 HG5.out, HH5.out.2.2.1, PtsO.grown HP4.out HG5.out HW1S.out.1⟩
      · obtain rfl : k = NO := by omega
        go_wp2
        go_ret
        exact ⟨rfl, by have := H.out.1; unfold Coins.make; rw [HNO.out]; exact this, H.out.2.1⟩
  · rw [hbb] at HC
    go_enter Try.func9, Try.ntmps9
    go_upto_region 1 with fail
    rw [HW1.out]
    go_wp2_with (first | (go_at_call 20; refine HM.out.mono ?_; rintro e w2 ⟨v2, rfl, hp2, hb2⟩; obtain ⟨A2, cc2, rfl⟩ := pts_slice hp2; rw [HPL.out] at hp2 ⊢; have HP2 := Kp.mk hp2; have HB2 := Kp.mk hb2; have HC2 := HC.out _ _ hb2 hp2; clear hp2 hb2) | (go_at_call 21; refine HC2.mono ?_; rintro e w3 ⟨rfl, hb3⟩; have HB3 := Kp.mk hb3; clear hb3 HC2))
    go_ret
    have hB := HB1.out.trans ((HB2.out.trans (HB3.out.mono HB2.out.size)).mono HB1.out.size)
    exact ⟨rfl, (HS0.out _ hB).mono (Nat.le_add_right _ _), (grown_of_below hB).none_any _⟩
set_option maxRecDepth 100000 in
set_option maxHeartbeats 8000000 in
theorem unmake_any (w : World) (bs bm N : Nat) (M : Coins) (v : Value) (t : TxD) (h : SetS w bs bm N M) (hx : TxR w v t) (hby : TxBys t) (hn : t.outs.length ≤ 1000) :
    Calls Try.prog 10 #[SetV bs, v] w fun e w' => e = .returned (.bool (!M.lacksAny t)) ∧ SetS w' bs bm N (if M.lacksAny t then M else M.unmake t) ∧ w.grownBy w' (some bm) := by
  obtain ⟨iv, ov, rfl, hv, hk, hi, ho⟩ := _root_.id hx
  obtain ⟨Ai, ci, rfl, _⟩ := hi.slice
  obtain ⟨Ao, co, rfl, _⟩ := ho.slice
  obtain ⟨NI, hNI⟩ : ∃ N, t.ins.length = N := ⟨_, rfl⟩
  obtain ⟨NO, hNO⟩ : ∃ N, t.outs.length = N := ⟨_, rfl⟩
  have HNO := Kp.mk hNO
  have HMN := Kp.mk ho
  rw [hNO] at HMN
  rw [hNI, hNO] at hx
  rw [hNI, hNO]
  rw [hNO] at hn
  obtain ⟨W1, hW1⟩ : ∃ W, w.alloc (.cells #[.int .u32 t.version, .slice Ai NI ci, .slice Ao NO co, .int .u32 t.lock] 30) = W := ⟨_, rfl⟩
  have hb1 : Below w.heap.size w W1 := by rw [← hW1]; exact (Below.refl _ _).alloc (Nat.le_refl _) _
  have hx1 : Box W1 w.heap.size 30 #[.int .u32 t.version, .slice Ai NI ci, .slice Ao NO co, .int .u32 t.lock] := by rw [← hW1]; exact Box.fresh _ _ _
  have HM := Kp.mk (made_id W1 _ t (hx.below hb1) hby (by rw [hNO]; omega))
  have HC : Kp (∀ W2 v2, Below W1.heap.size W1 W2 → PtsO W2 W1.heap.size v2 (ptsOf t) → Calls Try.prog 21 #[v2, .func (.func 23) #[SetV bs] #[]] W2 (BoolP (M.lacksAny t) W2)) := ⟨fun W2 v2 hW2 hp2 => contains_any W2 W1.heap.size v2 (ptsOf t) hp2 23 (SetV bs) (fun p => !M.has p.1) (by rw [ptsOf_len, hNO]; omega) enter_lacks fun W hW p => by
    have := lacks_any W bs bm N M p.1 (h.below (hb1.trans ((hW2.trans (hW.mono hW2.size)).mono hb1.size))) p.2
    rw [ptV_enc] at this
    exact this⟩
  have HS0 := Kp.mk (fun W (hW : Below w.heap.size w W) => h.below hW)
  have HLT := Kp.mk (And.intro h.lt h.ne)
  have HB1 := Kp.mk hb1
  have HX1 := Kp.mk hx1
  have HW1 := Kp.mk hW1
  have HN := Kp.mk hn
  have c0 := hx1.cell 0
  have c1 := hx1.cell 1
  have c2 := hx1.cell 2
  have c3 := hx1.cell 3
  have HPL := Kp.mk (ptsOf_len t)
  rw [hNO] at HPL
  clear hx hby hi ho hv hk hNI hNO hW1 hb1 hx1 hn h
  unfold SetV at *
  cases hbb : M.lacksAny t
  · rw [hbb] at HC
    go_enter Try.func10, Try.ntmps10
    go_upto_region 1 with fail
    rw [HW1.out]
    go_wp2_with (first | (go_at_call 20; refine HM.out.mono ?_; rintro e w2 ⟨v2, rfl, hp2, hb2⟩; obtain ⟨A2, cc2, rfl⟩ := pts_slice hp2; rw [HPL.out] at hp2 ⊢; have HP2 := Kp.mk hp2; have HB2 := Kp.mk hb2; have HC2 := HC.out _ _ hb2 hp2; clear hp2 hb2) | (go_at_call 21; refine HC2.mono ?_; rintro e w3 ⟨rfl, hb3⟩; have HB3 := Kp.mk hb3; clear hb3 HC2))
    have hB := HB1.out.trans ((HB2.out.trans (HB3.out.mono HB2.out.size)).mono HB1.out.size)
    have HB := Kp.mk hB
    have HW1S : Kp (bm < W1.heap.size ∧ bs < W1.heap.size) := ⟨by have := HLT.out.1.2; have := HB1.out.size; omega, by have := HLT.out.1.1; have := HB1.out.size; omega⟩
    have HX3 := Kp.mk (HX1.out.below (HB2.out.trans (HB3.out.mono HB2.out.size)))
    have HP3 := Kp.mk (PtsO.below HP2.out HB3.out)
    clear hB
    have HS3 := Kp.mk (HS0.out _ HB.out)
    go_loopw [16] (fun i wr => ∃ k : Nat, k ≤ NO ∧ i = .int .i64 k ∧ Kp (SetS wr bs bm N (M.delTo t k) ∧ w.grownBy wr (some bm) ∧ Box wr w.heap.size 30 #[.int .u32 t.version, .slice Ai NI ci, .slice Ao NO co, .int .u32 t.lock] ∧ PtsO wr W1.heap.size (.slice A2 NO cc2) (ptsOf t))) (fun i _ => NO - (intOf i).toNat)
    case atStart => exact ⟨0, by omega, rfl, ⟨HS3.out, (grown_of_below HB.out).none_any _, HX3.out, HP3.out⟩⟩
    case round =>
      obtain ⟨k, hk, rfl, H⟩ := hrel
      by_cases hlt : k < NO
      · have hkk : (k : Int) < (NO : Int) := by omega
        have HK := Kp.mk hlt
        obtain ⟨hs, hgr, hbx, hpt⟩ := H.out
        obtain ⟨g, rfl⟩ := pts_some hpt (by omega) HPL.out
        have hkl : k < (ptsOf t).length := by rw [HPL.out]; exact hlt
        have hR := pts_range hpt hkl
        rw [ptsOf_at t k hkl] at hR
        have HPK := Kp.mk (ptAt t k).2
        have HRA := Kp.mk hR
        have HEL := Kp.mk (encP_len (ptAt t k))
        have HEA := Kp.mk (all_oneCell_toArray (encP_one (ptAt t k)))
        have HSZ : Kp ((Try.prog.info? 41).map (·.size) = some (encP (ptAt t k)).toArray.size ∧ (encP (ptAt t k)).toArray.size = 33 ∧ (Try.prog.info? 41).map (·.size) = some (encP (ptAt t k)).length) := ⟨by rw [List.size_toArray, encP_len]; exact sizePt, by rw [List.size_toArray, encP_len], by rw [encP_len]; exact sizePt⟩
        have HPUT : Kp (∀ W, SetS W bs bm N (M.delTo t k) → ∃ w', (Builtin.delete_ #[52, 41] 0 #[.map (some bm), .agg (encP (ptAt t k)).toArray]).run Try.prog W = .ok (.tuple #[]) w' ∧ SetS w' bs bm N (M.delTo t (k + 1)) ∧ W.grownBy w' (some bm)) := ⟨fun W hW => by
          have := del_run hW (ptAt t k).2 0
          rw [ptV_enc] at this
          exact this⟩
        have HREL := Kp.mk (And.intro hs (And.intro hgr (And.intro hbx hpt)))
        have HWR : Kp (w.heap.size ≤ wr.heap.size) := ⟨hgr.size⟩
        clear H hs hgr hbx hpt hkl hR hk hlt
        generalize encP (ptAt t k) = C at *
        go_wp2_with (first | (refine wpList_load_mid rfl 41 (.tmp 18) rfl g (k * 33) rfl C _ HRA.out Try.underlying41 rfl HSZ.out.2.2 ?_) | (refine wpList_store_fresh rfl 41 (.tmp 7) (.tmp 19) rfl _ C.toArray _ rfl rfl rfl HSZ.out.1 (by rw [HSZ.out.2.1]; rfl) HEA.out ?_))
        obtain ⟨W4, hW4⟩ : ∃ W, wr.alloc (.cells C.toArray 41) = W := ⟨_, rfl⟩
        rw [hW4]
        have hb4 : Below wr.heap.size wr W4 := by rw [← hW4]; exact (Below.refl _ _).alloc (Nat.le_refl _) _
        have hn4 : Box W4 wr.heap.size 41 C.toArray := by rw [← hW4]; exact Box.fresh _ _ _
        have hHD : Box W4.drew bs 54 #[.map (some bm)] ∧ Box W4.drew wr.heap.size 41 C.toArray ∧ Box W4.drew w.heap.size 30 #[.int .u32 t.version, .slice Ai NI ci, .slice Ao NO co, .int .u32 t.lock] := ⟨HREL.out.1.box.below hb4.drew, hn4, HREL.out.2.2.1.below hb4.drew⟩
        have HS4 := Kp.mk (HREL.out.1.below hb4.drew)
        have HG4 := Kp.mk (HREL.out.2.1.trans9 ((grown_of_below hb4.drew).none_any (some bm)))
        have HP4 := Kp.mk (PtsO.below HREL.out.2.2.2 hb4.drew)
        clear hW4 hb4 hn4
        refine wp_region_noPanic ?_
        refine wp_region_held_drew (S := fun W => Box W bs 54 #[.map (some bm)] ∧ Box W wr.heap.size 41 C.toArray ∧ Box W w.heap.size 30 #[.int .u32 t.version, .slice Ai NI ci, .slice Ao NO co, .int .u32 t.lock]) (by kernel_rfl) ?_ (fun hHeld => ?_)
        · exact hHD
        refine wpAnyH_take (i := 0) (oi := ⟨some 20, _, _, _, _, _⟩) (v := ?_) rfl (by kernel_rfl) (by kernel_rfl) (by kernel_rfl) (fun _ _ _ h => h) (Or.inl ⟨by rfl, ?_⟩) hHeld ?_
        rotate_left
        · (intro wx hSw; (try dsimp only at hSw); go_simp; try with_reducible rfl)
        try simp only [Act.put, List.setIfInBounds_toArray, List.set_cons_zero, List.set_cons_succ]
        refine wpAnyH_take (i := 1) (oi := ⟨some 21, _, _, _, _, _⟩) (v := ?_) rfl (by kernel_rfl) (by kernel_rfl) (by kernel_rfl) (fun _ _ _ h => h) (Or.inl ⟨by rfl, ?_⟩) hHeld ?_
        rotate_left
        · (intro wx hSw; (try dsimp only at hSw); go_simp; try with_reducible rfl)
        try simp only [Act.put, List.setIfInBounds_toArray, List.set_cons_zero, List.set_cons_succ]
        refine wpAnyH_take (i := 2) (oi := ⟨some 22, _, _, _, _, _⟩) (v := ?_) rfl (by kernel_rfl) (by kernel_rfl) (by kernel_rfl) (fun _ _ _ h => h) (Or.inl ⟨by rfl, ?_⟩) hHeld ?_
        rotate_left
        · (intro wx hSw; (try dsimp only at hSw); go_simp; try with_reducible rfl)
        try simp only [Act.put, List.setIfInBounds_toArray, List.set_cons_zero, List.set_cons_succ]
        refine wpAnyH_take (i := 3) (oi := ⟨some 23, _, _, _, _, _⟩) (v := ?_) rfl (by kernel_rfl) (by kernel_rfl) (by kernel_rfl) (fun _ _ _ h => h) (Or.inl ⟨by rfl, ?_⟩) hHeld ?_
        rotate_left
        · (intro wx hSw; have c0 := hSw.1.cell 0; (try dsimp only at hSw); go_simp; try with_reducible rfl)
        try simp only [Act.put, List.setIfInBounds_toArray, List.set_cons_zero, List.set_cons_succ]
        refine wpAnyH_take (i := 4) (oi := ⟨some 24, _, _, _, _, _⟩) (v := .agg C.toArray) rfl (by kernel_rfl) (by kernel_rfl) (by kernel_rfl) (fun _ _ _ h => h) (yieldsIf_load_mid rfl 41 (.tmp 7) rfl wr.heap.size 0 rfl C _ (fun W hW => box_range hW.2.1) Try.underlying41 rfl HSZ.out.2.2) hHeld ?_
        try simp only [Act.put, List.setIfInBounds_toArray, List.set_cons_zero, List.set_cons_succ]
        obtain ⟨w5, hr5, hs5, hg5⟩ := HPUT.out _ HS4.out
        have HS5 := Kp.mk hs5
        have HG5 := Kp.mk hg5
        clear hs5 hg5
        have HH5 : Kp (Box w5 bs 54 #[.map (some bm)] ∧ Box w5 wr.heap.size 41 C.toArray ∧ Box w5 w.heap.size 30 #[.int .u32 t.version, .slice Ai NI ci, .slice Ao NO co, .int .u32 t.lock]) := ⟨(HG5.out.block _ hHD.1.lt (by simp; exact HLT.out.2)).trans hHD.1, (HG5.out.block _ hHD.2.1.lt (by simp; have := HLT.out.1.2; have := HWR.out; omega)).trans hHD.2.1, (HG5.out.block _ hHD.2.2.lt (by simp; have := HLT.out.1.2; omega)).trans hHD.2.2⟩
        refine wpAnyH_ready (rs := [5]) (by kernel_rfl) (by simp) (AllReadyH.cons (o := ⟨none, _, _, _, _, _⟩) rfl (fun K hK => ?_) AllReadyH.nil)
        go_simp
        refine hK.out _ _ ?_ (fun hHeld => ?_)
        · exact HH5.out
        clear hK K
        try simp only [Act.put, List.setIfInBounds_toArray, List.set_cons_zero, List.set_cons_succ]
        refine wpAnyH_done (by kernel_rfl) ?_ _
        refine NoPanic.normal ?_
        clear hHeld hHD
        go_wp2
        exact step9 HK.out (by have := HN.out; omega) ⟨HS5.out, HG4.out.trans9 HG5.out, HH5.out.2.2, PtsO.grown HP4.out HG5.out HW1S.out.1⟩
      · obtain rfl : k = NO := by omega
        go_wp2
        go_ret
        exact ⟨rfl, by have := H.out.1; unfold Coins.unmake; rw [HNO.out]; exact this, H.out.2.1⟩
  · rw [hbb] at HC
    go_enter Try.func10, Try.ntmps10
    go_upto_region 1 with fail
    rw [HW1.out]
    go_wp2_with (first | (go_at_call 20; refine HM.out.mono ?_; rintro e w2 ⟨v2, rfl, hp2, hb2⟩; obtain ⟨A2, cc2, rfl⟩ := pts_slice hp2; rw [HPL.out] at hp2 ⊢; have HP2 := Kp.mk hp2; have HB2 := Kp.mk hb2; have HC2 := HC.out _ _ hb2 hp2; clear hp2 hb2) | (go_at_call 21; refine HC2.mono ?_; rintro e w3 ⟨rfl, hb3⟩; have HB3 := Kp.mk hb3; clear hb3 HC2))
    go_ret
    have hB := HB1.out.trans ((HB2.out.trans (HB3.out.mono HB2.out.size)).mono HB1.out.size)
    exact ⟨rfl, HS0.out _ hB, (grown_of_below hB).none_any _⟩
end Go.Proofs.Ytdemamipllfonaa
