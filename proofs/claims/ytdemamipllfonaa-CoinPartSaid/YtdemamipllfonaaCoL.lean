/- Package coin: made: the points of a transaction's outputs, in their order: its walk. -/
import Derived.Test.YtdemamipllfonaaCoK
import Derived.Test.YtdemamipllfonaaCoB
namespace Go.Proofs.Ytdemamipllfonaa
open Go.RowKit Go.Maps Go.Sort

theorem over_app : ∀ (us pre old r : List Value), old.length = us.length → over (pre ++ (old ++ r)) pre.length us = pre ++ (us ++ r)
  | [], pre, old, r, h => by
    obtain rfl : old = [] := List.eq_nil_of_length_eq_zero h
    rfl
  | u :: us, pre, [], r, h => by simp at h
  | u :: us, pre, x :: old, r, h => by
    have e : (pre ++ (x :: old ++ r)).set pre.length u = (pre ++ [u]) ++ (old ++ r) := by
      rw [List.set_append, if_neg (by omega)]
      simp
    rw [over, e, show pre.length + 1 = (pre ++ [u]).length by simp, over_app us (pre ++ [u]) old r (by simpa using h)]
    simp
theorem over_whole {cs us : List Value} (h : cs.length = us.length) : over cs 0 us = us := by
  have := over_app us [] cs [] h
  simpa using this
theorem pts_there {w : World} {B g c n k : Nat} {l : List PtF} (h : PtsO w B (.slice (some ⟨g, 0, none⟩) n c) l) (hn : l.length = n) (hk : k < n) : w.there g (k * 33) 33 :=
  by
    have := OwnMany.thereN (i := k) (j := 0) (m := 33) (pts_many h) hn (by omega) (by omega)
    rw [Nat.add_zero] at this
    exact this
theorem pts_set {w : World} {B g c n k : Nat} {l : List PtF} (h : PtsO w B (.slice (some ⟨g, 0, none⟩) n c) l) (hn : l.length = n) (hk : k < n) (x : PtF) : PtsO (w.setCells g (k * 33) (encP x)) B (.slice (some ⟨g, 0, none⟩) n c) (l.set k x) := by
  have := OwnMany.cellsSetN (i := k) (j := 0) (R' := PtE) (pts_many h) hn (by omega) (encP x) (by rw [encP_len]; omega) x (fun cs d hd => hd) (fun cs hc hR => by
    unfold PtE
    exact over_whole (by rw [hc, encP_len]))
  rw [Nat.add_zero] at this
  exact many_pts this
/-- A count goes on. -/
theorem step9 {k n : Nat} (h : k < n) (hb : n ≤ 1000000) {p : Nat → Prop} (hp : p (k + 1)) :
    (∃ k1, k1 ≤ n ∧ Value.int IntKind.i64 (RowKit.wrap64 ((k : Int) + 1)) = Value.int IntKind.i64 ((k1 : Nat) : Int) ∧ p k1) ∧ n - (intOf (Value.int IntKind.i64 (RowKit.wrap64 ((k : Int) + 1)))).toNat < n - (intOf (Value.int IntKind.i64 ((k : Nat) : Int))).toNat := by
  have e : RowKit.wrap64 ((k : Int) + 1) = ((k + 1 : Nat) : Int) := by unfold RowKit.wrap64; omega
  rw [e]
  exact ⟨⟨k + 1, by omega, rfl, hp⟩, by simp [intOf]; omega⟩
set_option maxRecDepth 100000 in
set_option maxHeartbeats 4000000 in
theorem made_any (w : World) (v : Value) (t : TxD) (id : List Int) (hid : id.length = 32 ∧ Bys id) (h : TxR w v t) (hT : ∀ W, Below w.heap.size w W → Calls Try.prog 31 #[v] W fun e w' => e = .returned (.agg (byteVals id).toArray) ∧ Below W.heap.size W w') (hn : t.outs.length ≤ 100000) :
    Calls Try.prog 20 #[v] w fun e w' => ∃ v', e = .returned v' ∧ PtsO w' w.heap.size v' (madeP id hid t.outs.length) ∧ Below w.heap.size w w' := by
  obtain ⟨iv, ov, rfl, hv, hk, hi, ho⟩ := _root_.id h
  obtain ⟨Ai, ci, rfl, _⟩ := hi.slice
  obtain ⟨Ao, co, rfl, _⟩ := ho.slice
  obtain ⟨NI, hNI⟩ : ∃ N, t.ins.length = N := ⟨_, rfl⟩
  obtain ⟨NO, hNO⟩ : ∃ N, t.outs.length = N := ⟨_, rfl⟩
  rw [hNI, hNO] at hT
  rw [hNI, hNO]
  rw [hNO] at hn
  obtain ⟨W1, hW1⟩ : ∃ W, w.alloc (.cells #[.int .u32 t.version, .slice Ai NI ci, .slice Ao NO co, .int .u32 t.lock] 30) = W := ⟨_, rfl⟩
  have hb1 : Below w.heap.size w W1 := by rw [← hW1]; exact (Below.refl _ _).alloc (Nat.le_refl _) _
  have hx1 : Box W1 w.heap.size 30 #[.int .u32 t.version, .slice Ai NI ci, .slice Ao NO co, .int .u32 t.lock] := by rw [← hW1]; exact Box.fresh _ _ _
  have HT := Kp.mk (hT W1 hb1)
  have HB1 := Kp.mk hb1
  have HX1 := Kp.mk hx1
  have HW1 := Kp.mk hW1
  have HN := Kp.mk hn
  have hl : (byteVals id).length = 32 := by simp [byteVals, hid.1]
  have HSZ : Kp ((Try.prog.info? 39).map (·.size) = some (byteVals id).toArray.size ∧ (byteVals id).toArray.size = 32 ∧ (byteVals id).toArray.all (·.oneCell') = true) := ⟨by rw [List.size_toArray, hl]; exact sizeArr9, by rw [List.size_toArray, hl], all_oneCell_toArray (byteVals_one _)⟩
  have c0 := hx1.cell 0
  have c1 := hx1.cell 1
  have c2 := hx1.cell 2
  have c3 := hx1.cell 3
  clear h hT hi ho hv hk hNI hNO hW1 hb1 hx1 hn hl
  go_enter Try.func20, Try.ntmps20
  go_upto_region 1 with fail
  rw [HW1.out]
  go_wp2_with (first | (go_at_call 31; refine HT.out.mono ?_; rintro e w2 ⟨rfl, hb2⟩; have HB2 := Kp.mk hb2; have c22 := (HX1.out.below hb2).cell 2; clear hb2 HT) | (refine wpList_store_fresh rfl 39 (.tmp 3) (.tmp 7) rfl _ (byteVals id).toArray _ rfl rfl rfl HSZ.out.1 (by rw [HSZ.out.2.1]; rfl) HSZ.out.2.2 ?_; obtain ⟨W3, hW3⟩ : ∃ W, w2.alloc (.cells (byteVals id).toArray 39) = W := ⟨_, rfl⟩; have hb3 : Below W1.heap.size W1 W3 := (by rw [← hW3]; exact HB2.out.alloc HB2.out.size _); have HB3 := Kp.mk hb3; have c33 := (HX1.out.below hb3).cell 2; have hr3 : Box W3 w2.heap.size 39 (byteVals id).toArray := (by rw [← hW3]; exact Box.fresh _ _ _); have HR3 := Kp.mk hr3; obtain ⟨C, hmk, hpts⟩ := make_pts (n := NO) (by have := HN.out; omega) W3; have HP0 := Kp.mk hpts; clear hpts hb3 hr3 c22; rw [hW3]; clear hW3))
  have HG : Kp (w.heap.size ≤ W3.heap.size) := ⟨Nat.le_trans HB1.out.size HB3.out.size⟩
  have HBA : Kp (Below w.heap.size w (W3.alloc (.cells C 41))) := ⟨(HB1.out.trans (HB3.out.mono HB1.out.size)).alloc (Nat.le_trans HB1.out.size HB3.out.size) _⟩
  have HRA : Kp (Box (W3.alloc (.cells C 41)) w2.heap.size 39 (byteVals id).toArray) := ⟨HR3.out.below ((Below.refl _ _).alloc (Nat.le_refl _) _)⟩
  have HNE : Kp (w2.heap.size ≠ W3.heap.size) := ⟨by have := HR3.out.lt; omega⟩
  have HP1 : Kp (PtsO (W3.alloc (.cells C 41)) W3.heap.size (.slice (some ⟨W3.heap.size, 0, none⟩) NO NO) (madeTo id hid NO 0)) := ⟨by rw [madeTo_zero]; exact HP0.out⟩
  have HPA : Kp (∀ k, k < 100000 → encP (mkP id hid k) = ptC id k) := ⟨fun k hk => mkP_enc hid (by omega)⟩
  have HBU : Kp (∀ k : Nat, Try.prog.built 41 [(0, .agg (byteVals id).toArray), (1, .int .u32 k)] = some (ptC id k).toArray) := ⟨fun k => built9 id k hid.1⟩
  clear hmk c33
  go_loopw [14] (fun i wr => ∃ k : Nat, k ≤ NO ∧ i = .int .i64 k ∧ Kp (PtsO wr W3.heap.size (.slice (some ⟨W3.heap.size, 0, none⟩) NO NO) (madeTo id hid NO k) ∧ Box wr w2.heap.size 39 (byteVals id).toArray ∧ Below w.heap.size w wr)) (fun i _ => NO - (intOf i).toNat)
  case atStart => exact ⟨0, by omega, rfl, ⟨HP1.out, HRA.out, HBA.out⟩⟩
  case round =>
    obtain ⟨k, hk, rfl, H⟩ := hrel
    by_cases hlt : k < NO
    · have hkk : (k : Int) < (NO : Int) := by omega
      have hw : IntKind.u32.wrap (k : Int) = (k : Int) := by rw [IntKind.wrap_u32]; have := HN.out; omega
      have HK := Kp.mk hlt
      have hen := HPA.out k (by have := HN.out; omega)
      have HAL : Kp ((ptC id k).toArray.all (·.oneCell') = true ∧ (Try.prog.info? 41).map (·.size) = some (ptC id k).toArray.size) := ⟨by rw [← hen]; exact all_oneCell_toArray (encP_one _), by rw [← hen, List.size_toArray, encP_len]; exact sizePt⟩
      have HTH : Kp (wr.there W3.heap.size (k * 33) (ptC id k).toArray.size) := ⟨by
        have e33 : (encP (mkP id hid k)).toArray.size = 33 := by simp [encP_len]
        rw [← hen, e33]
        exact pts_there H.out.1 (madeTo_len _ _ _ _) hlt⟩
      have HROW := Kp.mk H.out.2.1
      have HL : Kp (∀ L, L = [(0, Value.agg (byteVals id).toArray), (1, Value.int .u32 k)] → Try.prog.built 41 L = some (ptC id k).toArray) := ⟨fun L h => by rw [h]; exact HBU.out k⟩
      have HEN : Kp (PtsO (wr.setCells W3.heap.size (k * 33) (ptC id k)) W3.heap.size (.slice (some ⟨W3.heap.size, 0, none⟩) NO NO) (madeTo id hid NO (k + 1)) ∧ Box (wr.setCells W3.heap.size (k * 33) (ptC id k)) w2.heap.size 39 (byteVals id).toArray ∧ Below w.heap.size w (wr.setCells W3.heap.size (k * 33) (ptC id k))) := ⟨by
        have h1 := pts_set H.out.1 (madeTo_len _ _ _ _) hlt (mkP id hid k)
        rw [madeTo_succ, hen] at h1
        have ho : Only W3.heap.size wr (wr.setCells W3.heap.size (k * 33) (ptC id k)) := Only.setCells _ _ (Only.refl _ _)
        exact ⟨h1, H.out.2.1.keep ho HNE.out, Only.below H.out.2.2 ho HG.out⟩⟩
      clear hen hk hlt H
      generalize ptC id k = cp at *
      generalize byteVals id = A at *
      go_wp2_with (first | (refine wpList_load_row rfl 39 (.tmp 3) rfl w2.heap.size rfl 39 A.toArray (0, 0) _ HROW.out Try.underlying39 rfl HSZ.out.1 ?_) | (refine wpList_built rfl 41 #[(0, .tmp 19), (1, .tmp 21)] rfl cp.toArray (HL.out _ rfl) ?_) | (refine wpList_store_mid rfl 41 (.tmp 23) (.tmp 22) rfl W3.heap.size (k * 33) cp.toArray rfl rfl HTH.out HAL.out.2 HAL.out.1 ?_))
      exact step9 HK.out (by have := HN.out; omega) HEN
    · obtain rfl : k = NO := by omega
      go_wp2
      go_ret
      exact ⟨_, rfl, by have := H.out.1; rw [madeTo_all] at this; exact ⟨this.1, by
        rcases this.2 with h | ⟨g, cap, cur, h1, h2, h3⟩
        · exact .inl h
        · exact .inr ⟨g, cap, cur, h1, Nat.le_trans HG.out h2, h3⟩⟩, H.out.2.2⟩
end Go.Proofs.Ytdemamipllfonaa
