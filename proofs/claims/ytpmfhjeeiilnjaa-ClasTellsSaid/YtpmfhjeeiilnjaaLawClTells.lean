/- Any script is of the kind that the document says, any output is dust, or not, and a transaction's dust stands where it does: for every slice of bytes, every number, every transaction and every three ints the law ClasTells returns true and leaves its arguments as they were. No further condition. -/
import Derived.Test.YtpmfhjeeiilnjaaClU
import Derived.Test.YtpmfhjeeiilnjaaRawT
import Derived.Test.YtpmfhjeeiilnjaaArgs
import Derived.Deep.DeepCutAuto
import Derived.Deep.RegionHeld3
import Derived.SizedLaws
namespace Go.Proofs.Ytpmfhjeeiilnjaa.lawClTells
open Go.ChangeShapes Go.WideShapes Go.ChangeAt Go.RowKit

/-- A transaction, as the cells of one element. -/
def TxE (w : World) (cs : List Value) (t : TxD) : Prop := TxR w (.agg cs.toArray) t
theorem TxE.below {w w' : World} {cs : List Value} {t : TxD} (h : TxE w cs t) (hb : Below w.heap.size w w') : TxE w' cs t := TxR.below h hb
theorem two_txs (w : World) (a0 a1 a2 a3 b0 b1 b2 b3 : Value) (t u : TxD) (ht : TxR w (.agg #[a0, a1, a2, a3]) t) (hu : TxR w (.agg #[b0, b1, b2, b3]) u) :
    Many 4 TxE (w.alloc (.cells #[a0, a1, a2, a3, b0, b1, b2, b3] 27)) (.slice (some ⟨w.heap.size, 0, none⟩) 2 2) [t, u] := by
  have hb : Below w.heap.size w (w.alloc (.cells #[a0, a1, a2, a3, b0, b1, b2, b3] 27)) := (Below.refl _ _).alloc (Nat.le_refl _) _
  have hx := Box.fresh w 27 #[a0, a1, a2, a3, b0, b1, b2, b3]
  refine ⟨_, _, rfl, Nat.le_refl _, by unfold maxLen; omega, (fun h => by cases h), fun _ => ⟨w.heap.size, 0, rfl, hx.lt, fun i d hd => ?_⟩⟩
  match i, hd with
  | 0, hd =>
    obtain rfl := Option.some.inj hd
    refine ⟨[a0, a1, a2, a3], rfl, ?_, ht.below hb⟩
    intro j x hj
    match j, hj with
    | 0, hj => rw [← hj]; exact hx.cell 0
    | 1, hj => rw [← hj]; exact hx.cell 1
    | 2, hj => rw [← hj]; exact hx.cell 2
    | 3, hj => rw [← hj]; exact hx.cell 3
    | j + 4, hj => simp at hj
  | 1, hd =>
    obtain rfl := Option.some.inj hd
    refine ⟨[b0, b1, b2, b3], rfl, ?_, hu.below hb⟩
    intro j x hj
    match j, hj with
    | 0, hj => rw [← hj]; exact hx.cell 4
    | 1, hj => rw [← hj]; exact hx.cell 5
    | 2, hj => rw [← hj]; exact hx.cell 6
    | 3, hj => rw [← hj]; exact hx.cell 7
    | j + 4, hj => simp at hj
  | i + 2, hd => simp at hd

theorem txOf_outs (n m : Int) : (txOf n m).outs.length ≤ 1000 := by
  simp only [txOf, List.length_map, List.length_range]
  omega
set_option maxRecDepth 1000000 in
set_option maxHeartbeats 4000000 in
theorem walk_long (v : Value) (q n m kd : Int) (tv : Value) (t : TxD) (w : World) (h : TxR w tv t) (hl : 60 < t.outs.length) :
    Calls Try.prog 5 #[v, .int .u64 q, tv, .int .i64 n, .int .i64 m, .int .i64 kd] w (YesK w) := by
  obtain ⟨iv, ov, rfl, _, _, hi, ho⟩ := h
  obtain ⟨Ao, co, rfl, _⟩ := ho.slice
  obtain ⟨NO, hNO⟩ : ∃ N, t.outs.length = N := ⟨_, rfl⟩
  rw [hNO] at hl ⊢
  have hb : Below w.heap.size w (w.alloc (.cells #[.int .u32 t.version, iv, .slice Ao NO co, .int .u32 t.lock] 27)) := (Below.refl _ _).alloc (Nat.le_refl _) _
  have HB := Kp.mk hb
  have g2 : decide (60 < (NO : Int)) = true := by simp; omega
  clear hb hi ho hNO hl
  go_enter Try.func5, Try.ntmps5
  go_wp2_with fail
  refine (awake6_any _).mono ?_
  rintro e w1 ⟨rfl, hb1⟩
  go_wp2
  go_ret
  exact ⟨rfl, HB.out.trans (hb1.mono HB.out.size)⟩

set_option maxRecDepth 10000000 in
set_option maxHeartbeats 8000000 in
theorem walk_short (v : Value) (raw : List Int) (q n m kd : Int) (tv : Value) (t : TxD) (w : World) (hraw : Rb w v raw) (hr47 : raw.length ≤ 140737488351232) (h : TxR w tv t) (hl : t.outs.length ≤ 60)
    (hn : -9223372036854775808 ≤ n ∧ n ≤ 9223372036854775807) (hm : -9223372036854775808 ≤ m ∧ m ≤ 9223372036854775807) :
    Calls Try.prog 5 #[v, .int .u64 q, tv, .int .i64 n, .int .i64 m, .int .i64 kd] w (YesK w) := by
  have HT := Kp.mk h
  have HRAW := Kp.mk hraw
  obtain ⟨iv, ov, rfl, _, _, hi, ho⟩ := h
  obtain ⟨Ao, co, rfl, _⟩ := ho.slice
  obtain ⟨⟨Ar, cr, rfl, _⟩, _⟩ := hraw
  obtain ⟨NO, hNO⟩ : ∃ N, t.outs.length = N := ⟨_, rfl⟩
  obtain ⟨NR, hNR⟩ : ∃ N, raw.length = N := ⟨_, rfl⟩
  rw [hNO] at hl HT ⊢
  rw [hNR] at HRAW hr47 ⊢
  have g2 : decide (60 < (NO : Int)) = false := by simp; omega
  obtain ⟨k, hkk, hkl⟩ : ∃ k : Nat, m % 128 = (k : Int) ∧ k < 128 := ⟨(m % 128).toNat, by omega, by omega⟩
  have hand : bits BinOp.and IntKind.i64 m 127 = (k : Int) := by rw [← hkk]; exact and_mask m 7 (by omega)
  obtain ⟨W1, hW1⟩ : ∃ W, w.alloc (.cells #[.int .u32 t.version, iv, .slice Ao NO co, .int .u32 t.lock] 27) = W := ⟨_, rfl⟩
  have HB1 : Kp (Below w.heap.size w W1) := ⟨by rw [← hW1]; exact (Below.refl _ _).alloc (Nat.le_refl _) _⟩
  have HX1 : Kp (Box W1 w.heap.size 27 #[.int .u32 t.version, iv, .slice Ao NO co, .int .u32 t.lock]) := ⟨by rw [← hW1]; exact Box.fresh _ _ _⟩
  have HW1 := Kp.mk hW1
  have HNR := Kp.mk (And.intro hNR hr47)
  have HN := Kp.mk hn
  have HM := Kp.mk hm
  have HKL := Kp.mk hkl
  have HNO : Kp (t.outs.length ≤ 60) := ⟨by rw [hNO]; exact hl⟩
  clear hi ho hNO hNR hW1 hkk hr47 hn hm hl
  go_enter Try.func5, Try.ntmps5
  go_upto_region 3 with fail
  rw [HW1.out]
  go_cut [41, 42, 43] (fun v41 v42 v43 wx => ∃ g, v41 = .slice (some ⟨g, 0, none⟩) 5 5 ∧ v42 = .int .i64 5 ∧ v43 = .int .i64 0 ∧ Kp (Rws wx v41 [raw, scriptOf n, scriptOf n ++ raw, [106], zeros k] ∧ Below W1.heap.size W1 wx))
  case first =>
    refine wp_region_noPanic ?_
    refine wp_region_held_drew (S := (fun _ => True)) (by kernel_rfl) ?_ (fun hHeld => ?_)
    · trivial
    refine wpAnyH_take (i := 0) (oi := ⟨some 28, _, _, _, _, _⟩) (v := ?_) rfl (by kernel_rfl) (by kernel_rfl) (by kernel_rfl) (fun _ _ _ h => h) (Or.inl ⟨by rfl, ?_⟩) hHeld ?_
    rotate_left
    · (intro wx hSw; (try dsimp only at hSw); go_simp; try with_reducible rfl)
    try simp only [Act.put, List.setIfInBounds_toArray, List.set_cons_zero, List.set_cons_succ]
    refine wpAnyH_take (i := 1) (oi := ⟨some 29, _, _, _, _, _⟩) (v := ?_) rfl (by kernel_rfl) (by kernel_rfl) (by kernel_rfl) (fun _ _ _ h => h) (Or.inl ⟨by rfl, ?_⟩) hHeld ?_
    rotate_left
    · (intro wx hSw; (try dsimp only at hSw); go_simp; try with_reducible rfl)
    try simp only [Act.put, List.setIfInBounds_toArray, List.set_cons_zero, List.set_cons_succ]
    refine wpAnyH_take (i := 4) (oi := ⟨some 32, _, _, _, _, _⟩) (v := ?_) rfl (by kernel_rfl) (by kernel_rfl) (by kernel_rfl) (fun _ _ _ h => h) (Or.inl ⟨by rfl, ?_⟩) hHeld ?_
    rotate_left
    · (intro wx hSw; (try dsimp only at hSw); go_simp; try with_reducible rfl)
    try simp only [Act.put, List.setIfInBounds_toArray, List.set_cons_zero, List.set_cons_succ]
    refine wpAnyH_take (i := 7) (oi := ⟨some 35, _, _, _, _, _⟩) (v := ?_) rfl (by kernel_rfl) (by kernel_rfl) (by kernel_rfl) (fun _ _ _ h => h) (Or.inl ⟨by rfl, ?_⟩) hHeld ?_
    rotate_left
    · (intro wx hSw; (try dsimp only at hSw); go_simp; try with_reducible rfl)
    try simp only [Act.put, List.setIfInBounds_toArray, List.set_cons_zero, List.set_cons_succ]
    refine wpAnyH_take (i := 10) (oi := ⟨some 38, _, _, _, _, _⟩) (v := ?_) rfl (by kernel_rfl) (by kernel_rfl) (by kernel_rfl) (fun _ _ _ h => h) (Or.inl ⟨by rfl, ?_⟩) hHeld ?_
    rotate_left
    · (intro wx hSw; (try dsimp only at hSw); go_simp; try with_reducible rfl)
    try simp only [Act.put, List.setIfInBounds_toArray, List.set_cons_zero, List.set_cons_succ]
    refine wpAnyH_take (i := 11) (oi := ⟨some 39, _, _, _, _, _⟩) (v := ?_) rfl (by kernel_rfl) (by kernel_rfl) (by kernel_rfl) (fun _ _ _ h => h) (Or.inl ⟨by rfl, ?_⟩) hHeld ?_
    rotate_left
    · (intro wx hSw; (try dsimp only at hSw); go_simp; try with_reducible rfl)
    try simp only [Act.put, List.setIfInBounds_toArray, List.set_cons_zero, List.set_cons_succ]
    refine wpAnyH_take (i := 15) (oi := ⟨some 43, _, _, _, _, _⟩) (v := ?_) rfl (by kernel_rfl) (by kernel_rfl) (by kernel_rfl) (fun _ _ _ h => h) (Or.inl ⟨by rfl, ?_⟩) hHeld ?_
    rotate_left
    · (intro wx hSw; (try dsimp only at hSw); go_simp; try with_reducible rfl)
    try simp only [Act.put, List.setIfInBounds_toArray, List.set_cons_zero, List.set_cons_succ]
    refine wpAnyH_states rowsLst rowsRank rowsRd RowsV (fun s a wx => ∃ (u30 u31 u33 u34 u36 u37 u40 u41 u42 : Value), a = ⟨List.toArray ((.slice Ar NR cr : Value) :: (.int .u64 q) :: (.agg #[.int .u32 t.version, iv, .slice Ao NO co, .int .u32 t.lock]) :: (.int .i64 n) :: (.int .i64 m) :: (.int .i64 kd) :: undef :: undef :: (.pointer (some ⟨w.heap.size, 0, none⟩)) :: undef :: undef :: undef :: (.bool false) :: undef :: undef :: undef :: undef :: undef :: undef :: undef :: undef :: undef :: undef :: (.pointer (some ⟨w.heap.size, 2, none⟩)) :: (.slice Ao NO co) :: (.int .i64 (NO : Int)) :: (.bool false) :: undef :: (.slice Ar NR cr) :: (.int .i64 n) :: u30 :: u31 :: (.int .i64 n) :: u33 :: u34 :: (.slice Ar NR cr) :: u36 :: u37 :: (.int .i64 m) :: (.int .i64 (k : Int)) :: u40 :: u41 :: u42 :: (.int .i64 0) :: undef :: undef :: undef :: undef :: undef :: undef :: undef :: undef :: undef :: undef :: undef :: undef :: undef :: undef :: undef :: undef :: undef :: undef :: undef :: undef :: undef :: undef :: undef :: undef :: undef :: undef :: undef :: undef :: undef :: undef :: undef :: undef :: undef :: undef :: undef :: undef :: undef :: undef :: undef :: undef :: undef :: undef :: undef :: undef :: undef :: undef :: undef :: undef :: undef :: undef :: undef :: undef :: undef :: undef :: undef :: undef :: undef :: undef :: undef :: undef :: undef :: undef :: undef :: undef :: undef :: undef :: undef :: undef :: undef :: undef :: undef :: undef :: undef :: undef :: undef :: undef :: undef :: undef :: undef :: []), []⟩ ∧ RowsSt W1 (scriptOf n) raw k s u30 u31 u33 u34 u36 u37 u40 u41 u42 wx) ?hrd (fun s hV h => rows_rank0 hV h) ?hst ?hdn 9 (0, false, false, false) _ _ ⟨by simp, by simp, by simp⟩ (by simp [rowsRank]) ?hin
    case hin => exact ⟨undef, undef, undef, undef, undef, undef, undef, undef, undef, rfl, ⟨(Below.refl _ _).drew, by simp, by simp, by simp, by simp, by simp, by simp, by simp, by simp, by simp⟩⟩
    case hrd =>
      rintro ⟨c, b, x, y⟩ ⟨h1, h2, h3⟩
      have hc7 : c = 0 ∨ c = 1 ∨ c = 2 ∨ c = 3 ∨ c = 4 ∨ c = 5 ∨ c = 6 := by simp only at h1; omega
      rcases hc7 with rfl | rfl | rfl | rfl | rfl | rfl | rfl <;> cases b <;> cases x <;> cases y <;> first | (exfalso; simp at h2 h3; done) | (show (_ : List Nat) = _; kernel_rfl)
    case hst =>
      · rintro ⟨c, b, x, y⟩ a wx hV ⟨u30, u31, u33, u34, u36, u37, u40, u41, u42, rfl, hs⟩ i hi
        obtain ⟨h9, hc⟩ := List.mem_filter.1 hi
        simp only [List.mem_cons, List.not_mem_nil, or_false] at h9
        obtain ⟨hv1, hv2, hv3⟩ := hV
        rcases h9 with rfl | rfl | rfl | rfl | rfl | rfl | rfl | rfl | rfl
        · obtain rfl : c = 0 := by simpa [rowsCond] using hc
          refine wpOp_one (o := ⟨some 30, _, _, _, _, _⟩) rfl rfl ?_
          refine op_script n HN.out 29 rfl fun v' w' hv hb => ?_
          have ms := hs.mono hb
          exact ⟨trivial, (1, b, x, y), ⟨by simp, by simp, by simp⟩, rfl, by simp [rowsRank], v', u31, u33, u34, u36, u37, u40, u41, u42, rfl, ⟨ms.hb, fun _ => hv.rbT.1, by simp, fun e1 _ => ms.h31 e1 (by simp), by simp, by simp, ms.h37, ms.h40, by simp, by simp⟩⟩
        · obtain rfl : b = false := by simpa [rowsCond] using hc
          have hc2 : c ≤ 2 := by
            rcases Nat.lt_or_ge 2 c with h | h
            · exact absurd (hv2 h) (by simp)
            · exact h
          refine wpOp_one (o := ⟨some 31, _, _, _, _, _⟩) rfl rfl ?_
          refine op_empty ?_
          have ms := hs.mono ((Below.refl wx.heap.size wx).alloc (Nat.le_refl _) (.cells #[] 5))
          exact ⟨trivial, (c, true, x, y), ⟨hv1, by simp, hv3⟩, rfl, by simp [rowsRank], u30, (.slice (some ⟨wx.heap.size, 0, none⟩) 0 0), u33, u34, u36, u37, u40, u41, u42, rfl, ⟨ms.hb, ms.h30, ms.h33, fun _ _ => ⟨wx.heap.size, rfl, Box.fresh _ _ _, hs.hb.size⟩, fun e => absurd e (by simp only; omega), fun e => absurd e (by simp only; omega), ms.h37, ms.h40, fun e => absurd e (by simp only; omega), fun e => absurd e (by simp only; omega)⟩⟩
        · obtain rfl : c = 1 := by simpa [rowsCond] using hc
          refine wpOp_one (o := ⟨some 33, _, _, _, _, _⟩) rfl rfl ?_
          refine op_script n HN.out 32 rfl fun v' w' hv hb => ?_
          have ms := hs.mono hb
          exact ⟨trivial, (2, b, x, y), ⟨by simp, by simp, by simp⟩, rfl, by simp [rowsRank], u30, u31, v', u34, u36, u37, u40, u41, u42, rfl, ⟨ms.hb, fun _ => ms.h30 (by simp), fun _ => hv.rbT.1, fun e1 _ => ms.h31 e1 (by simp), by simp, by simp, ms.h37, ms.h40, by simp, by simp⟩⟩
        · obtain ⟨rfl, rfl⟩ : c = 2 ∧ b = true := by simpa [rowsCond] using hc
          obtain ⟨g, rfl, hx, hg⟩ := hs.h31 rfl (by simp)
          have hown : Own wx W1.heap.size 5 (.slice (some ⟨g, 0, none⟩) 0 0) [] := ⟨by simp [byteVals], .inr ⟨g, 0, #[], rfl, hg, hx, Nat.le_refl _, Nat.zero_le _, rfl, by simp [byteVals]⟩⟩
          refine wpOp_one (o := ⟨some 34, _, _, _, _, _⟩) rfl rfl ?_
          refine op_append 31 33 W1.heap.size _ _ [] (scriptOf n) rfl rfl hown (hs.h33 rfl) (by have := scriptOf_len n; simp; omega) hs.hb.size fun v' w' ho hgr hloc => ?_
          rw [List.nil_append] at ho
          have hgr' : Only g wx w' := hgr
          have hbl : Below W1.heap.size W1 w' := Only.below hs.hb hgr' hg
          have off : ∀ u l, Rb wx u l → Rb w' u l ∧ Off w' v' u l := fun u l hr => by
            have h1 := sl_empty hr hx
            refine ⟨Rb.of_sl (sl_any h1 hgr' g (.inl rfl)) hr.2.1 hr.2.2, fun g' hg' => ?_⟩
            refine sl_any h1 hgr' g' ?_
            rcases hloc with e | e
            · rw [hg'] at e
              exact .inl (Option.some.inj e)
            · rw [hg'] at e
              exact .inr (Nat.le_of_eq (Option.some.inj e).symm)
          have r30 := off _ _ (hs.h30 (by simp))
          exact ⟨trivial, (3, true, x, y), ⟨by simp, by simp, by simp⟩, rfl, by simp [rowsRank], u30, (.slice (some ⟨g, 0, none⟩) 0 0), u33, v', u36, u37, u40, u41, u42, rfl, ⟨hbl, fun _ => r30.1, by simp, by simp, fun _ => ⟨ho, r30.2, fun e => (off _ _ (hs.h37 e)).2, fun e => (off _ _ (hs.h40 e)).2⟩, by simp, fun e => (off _ _ (hs.h37 e)).1, fun e => (off _ _ (hs.h40 e)).1, by simp, by simp⟩⟩
        · obtain rfl : c = 3 := by simpa [rowsCond] using hc
          obtain ⟨ho, o30, o37, o40⟩ := hs.h34 rfl
          have hrw : Rb wx (.slice Ar NR cr) raw := HRAW.out.below (HB1.out.trans (hs.hb.mono HB1.out.size))
          refine wpOp_one (o := ⟨some 36, _, _, _, _, _⟩) rfl rfl ?_
          refine op_append 34 35 W1.heap.size _ _ (scriptOf n) raw rfl rfl ho hrw (by have := scriptOf_len n; have := HNR.out; omega) hs.hb.size fun v' w' ho' hgr hloc => ?_
          have hbl : Below W1.heap.size W1 w' := ownsRow_grows ho hs.hb hgr (Nat.le_refl _)
          exact ⟨trivial, (4, b, x, y), ⟨by simp, fun _ => hv2 (by simp), by simp⟩, rfl, by simp [rowsRank], u30, u31, u33, u34, v', u37, u40, u41, u42, rfl, ⟨hbl, fun _ => rb_grown (hs.h30 (by simp)) o30 hgr, by simp, by simp, by simp, fun _ => ho'.rb (Bys.app (scriptOf_bys n) hrw.2.1), fun e => rb_grown (hs.h37 e) (o37 e) hgr, fun e => rb_grown (hs.h40 e) (o40 e) hgr, by simp, by simp⟩⟩
        · obtain rfl : x = false := by simpa [rowsCond] using hc
          have hc4 : c ≤ 4 := by
            rcases Nat.lt_or_ge 4 c with h | h
            · exact absurd (hv3 h).1 (by simp)
            · exact h
          refine wpOp_one (o := ⟨some 37, _, _, _, _, _⟩) rfl rfl ?_
          refine op_single ?_
          have hbn : Below wx.heap.size wx (wx.alloc (.cells #[.int .u8 106] 5)) := (Below.refl wx.heap.size wx).alloc (Nat.le_refl _) _
          have ms := hs.mono hbn
          have hnew : ∀ g, g ≠ wx.heap.size → Sl (wx.alloc (.cells #[.int .u8 106] 5)) g (.slice (some ⟨wx.heap.size, 0, none⟩) 1 1) [106] := fun g hg => ⟨_, _, rfl, Nat.le_refl _, (fun h => by cases h), fun _ => ⟨wx.heap.size, 0, rfl, fun e => hg e.symm, by simp, fun i hi => by
            have h0 : i = 0 := by simp at hi; omega
            subst h0
            exact (Box.fresh wx 5 #[.int .u8 106]).cell 0⟩⟩
          have hrn : Rb (wx.alloc (.cells #[.int .u8 106] 5)) (.slice (some ⟨wx.heap.size, 0, none⟩) 1 1) [106] := ⟨hnew _ (by simp), by unfold Bys; decide, by unfold maxLen; simp⟩
          exact ⟨trivial, (c, b, true, y), ⟨hv1, hv2, fun e => ⟨rfl, (hv3 e).2⟩⟩, rfl, by simp [rowsRank], u30, u31, u33, u34, u36, (.slice (some ⟨wx.heap.size, 0, none⟩) 1 1), u40, u41, u42, rfl, ⟨ms.hb, ms.h30, ms.h33, ms.h31, fun e => by
            obtain ⟨p1, p2, p3, p4⟩ := ms.h34 e
            obtain ⟨q1, _⟩ := hs.h34 e
            exact ⟨p1, p2, fun _ => fun g hg => hnew g (fun e2 => by have := (World.ownsRow.lt q1 g hg).2; omega), p4⟩, ms.h36, fun _ => hrn, ms.h40, fun e => absurd e (by simp only; omega), fun e => absurd e (by simp only; omega)⟩⟩
        · obtain rfl : y = false := by simpa [rowsCond] using hc
          have hc4 : c ≤ 4 := by
            rcases Nat.lt_or_ge 4 c with h | h
            · exact absurd (hv3 h).2 (by simp)
            · exact h
          refine wpOp_one (o := ⟨some 40, _, _, _, _, _⟩) rfl rfl ?_
          refine op_made 39 k rfl (by have := HKL.out; omega) ?_
          have hbn : Below wx.heap.size wx (wx.alloc (.cells (byteVals (zeros k)).toArray 5)) := (Below.refl wx.heap.size wx).alloc (Nat.le_refl _) _
          have ms := hs.mono hbn
          have hzl : (zeros k).length = k := by simp [zeros]
          have hnew : ∀ g, g ≠ wx.heap.size → Sl (wx.alloc (.cells (byteVals (zeros k)).toArray 5)) g (.slice (some ⟨wx.heap.size, 0, none⟩) k k) (zeros k) := fun g hg => ⟨_, _, by rw [hzl], Nat.le_of_eq hzl, (fun h => by cases h), fun _ => ⟨wx.heap.size, 0, rfl, fun e => hg e.symm, by simp, fun i hi => by
            rw [(Box.fresh wx 5 (byteVals (zeros k)).toArray).cell, Nat.zero_add]
            simp [byteVals, List.getD_eq_getElem?_getD, hi]⟩⟩
          have hrn : Rb (wx.alloc (.cells (byteVals (zeros k)).toArray 5)) (.slice (some ⟨wx.heap.size, 0, none⟩) k k) (zeros k) := ⟨hnew _ (by simp), zeros_bys k, by have := HKL.out; rw [hzl]; unfold maxLen; omega⟩
          exact ⟨trivial, (c, b, x, true), ⟨hv1, hv2, fun e => ⟨(hv3 e).1, rfl⟩⟩, rfl, by simp [rowsRank], u30, u31, u33, u34, u36, u37, (.slice (some ⟨wx.heap.size, 0, none⟩) k k), u41, u42, rfl, ⟨ms.hb, ms.h30, ms.h33, ms.h31, fun e => by
            obtain ⟨p1, p2, p3, p4⟩ := ms.h34 e
            obtain ⟨q1, _⟩ := hs.h34 e
            exact ⟨p1, p2, p3, fun _ => fun g hg => hnew g (fun e2 => by have := (World.ownsRow.lt q1 g hg).2; omega)⟩, ms.h36, ms.h37, fun _ => hrn, fun e => absurd e (by simp only; omega), fun e => absurd e (by simp only; omega)⟩⟩
        · obtain ⟨⟨rfl, rfl⟩, rfl⟩ : (c = 4 ∧ x = true) ∧ y = true := by simpa [rowsCond] using hc
          have r0 : Rb wx (.slice Ar NR cr) raw := HRAW.out.below (HB1.out.trans (hs.hb.mono HB1.out.size))
          have r1 := hs.h30 (by simp)
          have r2 := hs.h36 (by simp)
          have r3 := hs.h37 rfl
          have r4 := hs.h40 rfl
          obtain ⟨⟨A1, c1, rfl, _⟩, _⟩ := id r1
          obtain ⟨⟨A2, c2, rfl, _⟩, _⟩ := id r2
          obtain ⟨⟨A3, c3, rfl, _⟩, _⟩ := id r3
          obtain ⟨⟨A4, c4, rfl, _⟩, _⟩ := id r4
          refine wpOp_one (o := ⟨some 41, _, _, _, _, _⟩) rfl rfl ?_
          refine op_rows 28 30 36 37 40 _ _ _ _ _ _ _ _ _ _ _ _ _ _ _ rfl rfl rfl rfl rfl ?_
          have ms := hs.mono ((Below.refl wx.heap.size wx).alloc (Nat.le_refl _) (.cells #[.slice Ar NR cr, .slice A1 (scriptOf n).length c1, .slice A2 (scriptOf n ++ raw).length c2, .slice A3 ([106] : List Int).length c3, .slice A4 (zeros k).length c4] 30))
          exact ⟨trivial, (5, b, true, true), ⟨by simp, fun _ => hv2 (by simp), by simp⟩, rfl, by simp [rowsRank], _, u31, u33, u34, _, _, _, (.slice (some ⟨wx.heap.size, 0, none⟩) 5 5), u42, rfl, ⟨ms.hb, fun _ => ms.h30 (by simp), by simp, by simp, by simp, fun _ => ms.h36 (by simp), ms.h37, ms.h40, fun _ => ⟨_, rfl, rows_five wx Ar A1 A2 A3 A4 _ _ _ _ _ cr c1 c2 c3 c4 _ _ _ _ _ r0 r1 r2 r3 r4⟩, by simp⟩⟩
        · obtain rfl : c = 5 := by simpa [rowsCond] using hc
          obtain ⟨g, rfl, hrw⟩ := hs.h41 (by simp)
          refine wpOp_one (o := ⟨some 42, _, _, _, _, _⟩) rfl rfl ?_
          refine op_len 41 _ 5 5 rfl ?_
          exact ⟨trivial, (6, b, x, y), ⟨by simp, fun _ => hv2 (by simp), fun _ => hv3 (by simp)⟩, rfl, by simp [rowsRank], u30, u31, u33, u34, u36, u37, u40, _, (.int .i64 5), rfl, ⟨hs.hb, fun _ => hs.h30 (by simp), by simp, by simp, by simp, fun _ => hs.h36 (by simp), hs.h37, hs.h40, fun _ => ⟨g, rfl, hrw⟩, fun _ => rfl⟩⟩
    case hdn =>
      · rintro s a wx hV ⟨u30, u31, u33, u34, u36, u37, u40, u41, u42, rfl, hs⟩ hd
        have h6 := rows_done hV hd
        obtain ⟨g, rfl, hrw⟩ := hs.h41 (by omega)
        obtain rfl := hs.h42 h6
        refine NoPanic.normal ?_
        go_wp2
        go_meet
        exact ⟨g, rfl, rfl, rfl, ⟨hrw, hs.hb⟩⟩
  case rest =>
    obtain ⟨g, rfl, rfl, rfl, ⟨hrw, hb3⟩⟩ := hcut
    obtain ⟨W3, rfl⟩ : ∃ W : World, W = wc := ⟨_, rfl⟩
    have HRW := Kp.mk hrw
    have HB3 := Kp.mk hb3
    clear hrw hb3
    go_wp2
    go_loopw [43] (fun i wr => ∃ j : Nat, j ≤ 5 ∧ i = .int .i64 j ∧ Kp (Below W3.heap.size W3 wr)) (fun i _ => 5 - (intOf i).toNat)
    case atStart => exact ⟨0, by omega, rfl, ⟨Below.refl _ _⟩⟩
    case round =>
      obtain ⟨j, hj, rfl, H⟩ := hrel
      by_cases hlt : j < 5
      · obtain ⟨b, off, cs, hA, hbl, hcl, hcs, sv, rfl, hsv⟩ := (rws_below HRW.out H.out).at (i := j) (by simpa using hlt)
        injection hA with hA
        injection hA with hA1 hA2 _
        subst hA1
        subst hA2
        generalize [raw, scriptOf n, scriptOf n ++ raw, [106], zeros k][j] = L at *
        have hcell := hcs 0 sv rfl
        obtain ⟨⟨As, cs', rfl, _⟩, _⟩ := id hsv
        obtain ⟨NL, hNL⟩ : ∃ N, L.length = N := ⟨_, rfl⟩
        rw [hNL] at hcell hsv
        rw [Nat.zero_add, Nat.mul_one, Nat.add_zero] at hcell
        have hj0 : (0 : Int) ≤ (j : Int) := by omega
        have hj5 : (j : Int) < 5 := by omega
        have HJ := Kp.mk hlt
        have HSV := Kp.mk hsv
        have HL := Kp.mk H.out
        clear hcs hcl hbl hsv hNL hj hlt
        obtain ⟨wo, rfl⟩ : ∃ W : World, W = wr := ⟨_, rfl⟩
        obtain ⟨y, hy⟩ : ∃ y, bits BinOp.and IntKind.u64 q 511 = y := ⟨_, rfl⟩
        obtain ⟨W5, hW5⟩ : ∃ W, wo.alloc (.cells #[.int .u64 q, .int .u64 y, .int .u64 239, .int .u64 240, .int .u64 293, .int .u64 294, .int .u64 329, .int .u64 330, .int .u64 0] 28) = W := ⟨_, rfl⟩
        have HXS : Kp (SlK .u64 W5 (.slice (some ⟨wo.heap.size, 0, none⟩) 9 9) [q, y, 239, 240, 293, 294, 329, 330, 0]) := ⟨by rw [← hW5]; exact SlK.fresh .u64 wo 28 [q, y, 239, 240, 293, 294, 329, 330, 0]⟩
        have HB5 : Kp (Below wo.heap.size wo W5) := ⟨by rw [← hW5]; exact (Below.refl _ _).alloc (Nat.le_refl _) _⟩
        have HW5 := Kp.mk hW5
        have HSV5 : Kp (∀ W, Below W5.heap.size W5 W → Rb W (.slice As NL cs') L) := ⟨fun W hW => (HSV.out.below HB5.out).below hW⟩
        clear hW5
        go_wp2_with fail
        rw [HW5.out]
        go_loopw [52] (fun i wW => ∃ l : Nat, l ≤ 9 ∧ i = .int .i64 l ∧ Kp (Below W5.heap.size W5 wW)) (fun i _ => 9 - (intOf i).toNat)
        case atStart => exact ⟨0, by omega, rfl, ⟨Below.refl _ _⟩⟩
        case round =>
          obtain ⟨l, hl9, rfl, H5⟩ := hrel
          by_cases hlt9 : l < 9
          · obtain ⟨A5, c5, e5, _, _, hr5⟩ := HXS.out.below H5.out
            injection e5 with e5 _ _
            obtain ⟨b5, o5, e6, _, hrun5⟩ := hr5 (by simp)
            rw [← e5] at e6
            injection e6 with e6
            injection e6 with e6 e7 _
            subst e6
            subst e7
            have hx5 := hrun5 l (by simpa using hlt9)
            rw [Nat.zero_add] at hx5
            generalize [q, y, 239, 240, 293, 294, 329, 330, 0].getD l 0 = x at *
            have hl0 : (0 : Int) ≤ (l : Int) := by omega
            have hl99 : (l : Int) < 9 := by omega
            have HLT := Kp.mk hlt9
            have HIO : Kp ((Try.prog.info? 33).map (·.size) = some 2) := ⟨sizeOut⟩
            have HSW := Kp.mk (HSV5.out wr H5.out)
            have HONE : Kp (Array.all #[Value.int .u64 x, .slice As NL cs'] (·.oneCell') = true) := ⟨by simp [Value.oneCell']⟩
            obtain ⟨W6, hW6⟩ : ∃ W, wr.alloc (.cells #[.int .u64 x, .slice As NL cs'] 33) = W := ⟨_, rfl⟩
            have HB6 : Kp (Below wr.heap.size wr W6) := ⟨by rw [← hW6]; exact (Below.refl _ _).alloc (Nat.le_refl _) _⟩
            have HC6 : Kp (∀ W, Below W6.heap.size W6 W → W.cell? ⟨wr.heap.size, 0, none⟩ = some (.int .u64 x) ∧ W.cell? ⟨wr.heap.size, 1, none⟩ = some (.slice As NL cs')) := ⟨fun W hW => by
              have h0 : Box W6 wr.heap.size 33 #[.int .u64 x, .slice As NL cs'] := by rw [← hW6]; exact Box.fresh _ _ _
              exact ⟨(h0.below hW).cell 0, (h0.below hW).cell 1⟩⟩
            have HD : Kp (∀ W, Below W6.heap.size W6 W → Calls Try.prog 12 #[.agg #[.int .u64 x, .slice As NL cs']] W (BoolP (dustB x L) W)) := ⟨fun W hW => dust_any W x _ L ((HSW.out.below HB6.out).below hW)⟩
            have HRD : Kp (∀ W, Below W6.heap.size W6 W → Calls Try.prog 13 #[.agg #[.int .u64 x, .slice As NL cs']] W (BoolP (dustB x L) W)) := ⟨fun W hW => refdust_any W x _ L ((HSW.out.below HB6.out).below hW)⟩
            have HW6 := Kp.mk hW6
            have hbd : Below W6.heap.size W6 W6.drew := (Below.refl _ _).drew
            have hc6 := HC6.out _ hbd
            generalize dustB x L = db at *
            clear hW6 hrun5 hr5 e5 hl9 hlt9
            go_wp2_with (refine wpList_store_fresh rfl 33 (.tmp 17) (.tmp 58) rfl _ #[.int .u64 x, .slice As NL cs'] wr.heap.size rfl rfl rfl HIO.out rfl HONE.out ?_)
            rw [HW6.out]
            go_region_held3 (fun W => W.cell? ⟨wr.heap.size, 0, none⟩ = some (.int .u64 x) ∧ W.cell? ⟨wr.heap.size, 1, none⟩ = some (.slice As NL cs')) (first | exact hc6 | exact HC6.out _ hbd | assumption) (first
              | (go_at_call 12; refine (HD.out _ hbd).mono ?_; rintro e w7 ⟨rfl, hb7⟩; replace hbd := hbd.trans (hb7.mono hbd.size); clear hb7)
              | (go_at_call 13; refine (HRD.out _ hbd).mono ?_; rintro e w8 ⟨rfl, hb8⟩; replace hbd := hbd.trans (hb8.mono hbd.size); clear hb8))
            go_wp2
            go_roundw
            case rel => exact ⟨l + 1, by have := HLT.out; omega, by go_num, ⟨H5.out.trans ((HB6.out.trans (hbd.mono HB6.out.size)).mono H5.out.size)⟩⟩
            case measure => simp [intOf]; have := HLT.out; omega
          · obtain rfl : l = 9 := by omega
            rw [show ((9 : Nat) : Int) = 9 from rfl]
            have HK9 := Kp.mk (kind_any wr _ L (HSV5.out wr H5.out))
            have HR9 := Kp.mk (refkind_any wr _ L (HSV5.out wr H5.out))
            generalize kindOf L = kL at *
            clear hl9 hlt9
            go_wp2_with fail
            refine HK9.out.mono ?_
            rintro e w' ⟨rfl, rfl⟩
            go_wp2_with fail
            refine HR9.out.mono ?_
            rintro e w' ⟨rfl, rfl⟩
            go_wp2
            go_roundw
            case rel => exact ⟨j + 1, by have := HJ.out; omega, by go_num, ⟨HL.out.trans ((HB5.out.trans (H5.out.mono HB5.out.size)).mono HL.out.size)⟩⟩
            case measure => simp [intOf]; have := HJ.out; omega
      · obtain rfl : j = 5 := by omega
        rw [show ((5 : Nat) : Int) = 5 from rfl]
        have hbw : Below W1.heap.size W1 wr := HB3.out.trans (H.out.mono HB3.out.size)
        have HC : Kp (∀ W, Below wr.heap.size wr W → W.cell? ⟨w.heap.size, 0, none⟩ = some (.int .u32 t.version) ∧ W.cell? ⟨w.heap.size, 1, none⟩ = some iv ∧ W.cell? ⟨w.heap.size, 2, none⟩ = some (.slice Ao NO co) ∧ W.cell? ⟨w.heap.size, 3, none⟩ = some (.int .u32 t.lock)) := ⟨fun W hW => by
          have hb := (HX1.out.below hbw).below hW
          exact ⟨hb.cell 0, hb.cell 1, hb.cell 2, hb.cell 3⟩⟩
        have HBW : Kp (Below w.heap.size w wr) := ⟨HB1.out.trans (hbw.mono HB1.out.size)⟩
        have HLT := Kp.mk (fun W => lawTx_any W n m HN.out HM.out)
        have HBD : Kp (Below wr.heap.size wr wr.drew) := ⟨(Below.refl _ _).drew⟩
        have h0 := HC.out _ HBD.out
        obtain ⟨wo, rfl⟩ : ∃ W : World, W = wr := ⟨_, rfl⟩
        clear hbw hj hlt HB3 HRW H HX1 HW1 HNR HKL HRAW
        go_wp2_with fail
        go_region_held3 (fun W => W.cell? ⟨w.heap.size, 0, none⟩ = some (.int .u32 t.version) ∧ W.cell? ⟨w.heap.size, 1, none⟩ = some iv ∧ W.cell? ⟨w.heap.size, 2, none⟩ = some (.slice Ao NO co) ∧ W.cell? ⟨w.heap.size, 3, none⟩ = some (.int .u32 t.lock)) (first | exact h0 | exact HC.out _ (HBD.out.trans hb2) | exact HC.out _ ((HBD.out.trans hb2).alloc (HBD.out.trans hb2).size _) | assumption) ((go_at_call 15; refine (HLT.out _).mono ?_; rintro e w2 ⟨v2, rfl, hT2, hb2⟩; obtain ⟨iv2, ov2, rfl, _, _, hi2, ho2⟩ := id hT2; obtain ⟨Ai2, ci2, rfl⟩ := hi2.slice; obtain ⟨Ao2, co2, rfl⟩ := ho2.slice))
        have HB2 : Kp (Below w.heap.size w w2) := ⟨HBW.out.trans ((HBD.out.trans hb2).mono HBW.out.size)⟩
        have HT2 : Kp (TxR w2 (.agg #[.int .u32 t.version, iv, .slice Ao NO co, .int .u32 t.lock]) t) := ⟨HT.out.below HB2.out⟩
        have HU2 := Kp.mk hT2.txR
        have HDL : Kp (∀ d : TxD, d ∈ [t, txOf n m] → d.outs.length ≤ 1000) := ⟨fun d hd => by
          simp only [List.mem_cons, List.not_mem_nil, or_false] at hd
          rcases hd with rfl | rfl
          · exact Nat.le_trans HNO.out (by omega)
          · exact txOf_outs n m⟩
        obtain ⟨N2, hN2⟩ : ∃ N, (txOf n m).ins.length = N := ⟨_, rfl⟩
        obtain ⟨M2, hM2⟩ : ∃ N, (txOf n m).outs.length = N := ⟨_, rfl⟩
        rw [hN2, hM2] at HU2 ⊢
        clear hT2 hi2 ho2 hb2 h0 hN2 hM2 HC HBD HLT HT HBW
        generalize txOf n m = u at *
        have HMANY := Kp.mk (two_txs w2 _ _ _ _ _ _ _ _ t u HT2.out HU2.out)
        obtain ⟨W3', hW3⟩ : ∃ W, w2.alloc (.cells #[.int .u32 t.version, iv, .slice Ao NO co, .int .u32 t.lock, .int .u32 u.version, .slice Ai2 N2 ci2, .slice Ao2 M2 co2, .int .u32 u.lock] 27) = W := ⟨_, rfl⟩
        have HB3' : Kp (Below w.heap.size w W3') := ⟨by rw [← hW3]; exact HB2.out.alloc HB2.out.size _⟩
        rw [hW3] at HMANY ⊢
        clear hW3 HT2 HU2 HB2
        go_wp2
        go_loopw [77] (fun i wr => ∃ j : Nat, j ≤ 2 ∧ i = .int .i64 j ∧ Kp (Below W3'.heap.size W3' wr)) (fun i _ => 2 - (intOf i).toNat)
        case atStart => exact ⟨0, by omega, rfl, ⟨Below.refl _ _⟩⟩
        case round =>
          obtain ⟨j, hj, rfl, H⟩ := hrel
          by_cases hlt : j < 2
          · obtain ⟨b, off, cs, hA, hbl, hcl, hcs, hR⟩ := (Many.below HMANY.out H.out (fun cs x h => TxE.below (h.below (Below.refl _ _)) H.out)).at (i := j) (by simpa using hlt)
            injection hA with hA
            injection hA with hA1 hA2 _
            subst hA1
            subst hA2
            have hdl := HDL.out _ (List.getElem_mem (show j < [t, u].length by simpa using hlt))
            generalize [t, u][j] = d at *
            obtain ⟨iv3, ov3, he, hv3, hk3, hi3, ho3⟩ := id hR
            obtain ⟨Ai3, ci3, rfl, _⟩ := hi3.slice
            obtain ⟨Ao3, co3, rfl, _⟩ := ho3.slice
            obtain ⟨N3, hN3⟩ : ∃ N, d.ins.length = N := ⟨_, rfl⟩
            obtain ⟨M3, hM3⟩ : ∃ N, d.outs.length = N := ⟨_, rfl⟩
            rw [hN3, hM3] at he
            rw [hM3] at ho3
            obtain rfl : cs = [.int .u32 d.version, .slice Ai3 N3 ci3, .slice Ao3 M3 co3, .int .u32 d.lock] := by
              injection he with he
              have := congrArg Array.toList he
              simpa using this
            rw [Nat.zero_add] at hcs
            have HCS := Kp.mk hcs
            have HO3 := Kp.mk ho3
            have HDL3 := Kp.mk hdl
            have HIT : Kp ((Try.prog.info? 27).map (·.size) = some 4) := ⟨by kernel_rfl⟩
            obtain ⟨wq, rfl⟩ : ∃ W : World, W = wr := ⟨_, rfl⟩
            obtain ⟨W4, hW4⟩ : ∃ W, wq.alloc (.cells #[.int .u32 d.version, .slice Ai3 N3 ci3, .slice Ao3 M3 co3, .int .u32 d.lock] 27) = W := ⟨_, rfl⟩
            have HB4 : Kp (Below wq.heap.size wq W4) := ⟨by rw [← hW4]; exact (Below.refl _ _).alloc (Nat.le_refl _) _⟩
            have HC : Kp (∀ W, Below W4.heap.size W4 W → W.cell? ⟨wq.heap.size, 0, none⟩ = some (.int .u32 d.version) ∧ W.cell? ⟨wq.heap.size, 1, none⟩ = some (.slice Ai3 N3 ci3) ∧ W.cell? ⟨wq.heap.size, 2, none⟩ = some (.slice Ao3 M3 co3) ∧ W.cell? ⟨wq.heap.size, 3, none⟩ = some (.int .u32 d.lock)) := ⟨fun W hW => by
              have hb : Box W wq.heap.size 27 #[.int .u32 d.version, .slice Ai3 N3 ci3, .slice Ao3 M3 co3, .int .u32 d.lock] := by
                have h0 : Box W4 wq.heap.size 27 #[.int .u32 d.version, .slice Ai3 N3 ci3, .slice Ao3 M3 co3, .int .u32 d.lock] := by rw [← hW4]; exact Box.fresh _ _ _
                exact h0.below hW
              exact ⟨hb.cell 0, hb.cell 1, hb.cell 2, hb.cell 3⟩⟩
            have HW4 := Kp.mk hW4
            have HDS : Kp (∀ W, Below W4.heap.size W4 W → Calls Try.prog 9 #[.agg #[.int .u32 d.version, .slice Ai3 N3 ci3, .slice Ao3 M3 co3, .int .u32 d.lock]] W (IntsP (dustsOf d.outs) W)) := ⟨fun W hW => dusts_any W _ _ _ _ d.outs ((outs_below HO3.out HB4.out |> fun h => outs_below h hW)) HDL3.out⟩
            have HDR : Kp (∀ W, Below W4.heap.size W4 W → Calls Try.prog 16 #[.agg #[.int .u32 d.version, .slice Ai3 N3 ci3, .slice Ao3 M3 co3, .int .u32 d.lock]] W (IntsP (dustsOf d.outs) W)) := ⟨fun W hW => refdusts_any W _ _ _ _ d.outs ((outs_below HO3.out HB4.out |> fun h => outs_below h hW)) HDL3.out⟩
            have hj0 : (0 : Int) ≤ (j : Int) := by omega
            have hj2 : (j : Int) < 2 := by omega
            have HJ := Kp.mk hlt
            have hD1000 : (dustsOf d.outs).length ≤ 1000 := Nat.le_trans (dustsTo_len d.outs d.outs.length) HDL3.out
            generalize dustsOf d.outs = D at *
            obtain ⟨LD, hLD⟩ : ∃ N, D.length = N := ⟨_, rfl⟩
            have HLD := Kp.mk hLD
            have HD1000 : Kp (LD ≤ 1000) := ⟨by rw [← hLD]; exact hD1000⟩
            clear he hv3 hk3 hi3 hN3 hM3 hcs hR hbl hcl hW4 hj hlt ho3 hdl hD1000
            go_wp2_with (first | (refine wpList_load_mid rfl 27 (.tmp 79) rfl w2.heap.size (j * 4) rfl [.int .u32 d.version, .slice Ai3 N3 ci3, .slice Ao3 M3 co3, .int .u32 d.lock] _ HCS.out Try.underlying27 rfl HIT.out ?_) | (refine wpList_store_fresh rfl 27 (.tmp 19) (.tmp 80) rfl _ #[.int .u32 d.version, .slice Ai3 N3 ci3, .slice Ao3 M3 co3, .int .u32 d.lock] wq.heap.size rfl rfl rfl HIT.out rfl rfl ?_))
            rw [HW4.out]
            have hbd : Below W4.heap.size W4 W4.drew := (Below.refl _ _).drew
            have hc0 := HC.out _ hbd
            go_region_held3 (fun W => W.cell? ⟨wq.heap.size, 0, none⟩ = some (.int .u32 d.version) ∧ W.cell? ⟨wq.heap.size, 1, none⟩ = some (.slice Ai3 N3 ci3) ∧ W.cell? ⟨wq.heap.size, 2, none⟩ = some (.slice Ao3 M3 co3) ∧ W.cell? ⟨wq.heap.size, 3, none⟩ = some (.int .u32 d.lock)) (first | exact hc0 | exact HC.out _ hbd | assumption) (first
              | (go_at_call 9; refine (HDS.out _ hbd).mono ?_; rintro e w7 ⟨v7, rfl, ho7, hb7⟩; obtain ⟨A7, c7, e7⟩ := ho7.slice; rw [HLD.out] at e7; subst e7; replace hbd := hbd.trans (hb7.mono hbd.size); clear hb7)
              | (go_at_call 16; refine (HDR.out _ hbd).mono ?_; rintro e w8 ⟨v8, rfl, ho8, hb8⟩; obtain ⟨A8, c8, e8⟩ := ho8.slice; rw [HLD.out] at e8; subst e8; replace hbd := hbd.trans (hb8.mono hbd.size)))
            have s7 := ho7.sl.below hb8
            have s8 := ho8.sl
            have HS7 := Kp.mk s7
            have HS8 := Kp.mk s8
            have HBZ : Kp (Below W3'.heap.size W3' w8) := ⟨H.out.trans ((HB4.out.trans (hbd.mono HB4.out.size)).mono H.out.size)⟩
            clear s7 s8 ho7 ho8 hb8 hLD HC HDS HDR HW4 HCS HO3 HB4 H
            go_wp2
            go_loopw [92] (fun i wr => ∃ l : Nat, l ≤ LD ∧ i = .int .i64 l ∧ Kp (Below w8.heap.size w8 wr)) (fun i _ => LD - (intOf i).toNat)
            case atStart => exact ⟨0, Nat.zero_le _, rfl, ⟨Below.refl _ _⟩⟩
            case round =>
              obtain ⟨l, hl2, rfl, H8⟩ := hrel
              by_cases hlt : l < LD
              · have hne : D ≠ [] := by intro h; have := HLD.out; rw [h] at this; simp at this; omega
                obtain ⟨A7', c7', e7, _, _, hr7⟩ := HS7.out.below H8.out
                obtain ⟨A8', c8', e8, _, _, hr8⟩ := HS8.out.below H8.out
                injection e7 with e7 _ _
                injection e8 with e8 _ _
                obtain ⟨b7, o7, e77, _, hrun7⟩ := hr7 hne
                obtain ⟨b8, o8, e88, _, hrun8⟩ := hr8 hne
                rw [← e7] at e77
                rw [← e8] at e88
                subst e77
                subst e88
                have c7'' := hrun7 l (by rw [HLD.out]; exact hlt)
                have c8'' := hrun8 l (by rw [HLD.out]; exact hlt)
                obtain ⟨z, hz⟩ : ∃ z, D.getD l 0 = z := ⟨_, rfl⟩
                rw [hz] at c7'' c8''
                have hl0 : (0 : Int) ≤ (l : Int) := by omega
                have hlL : (l : Int) < (LD : Int) := by omega
                have HJL := Kp.mk hlt
                have hwl : IntKind.i64.wrap ((l : Int) + 1) = (l : Int) + 1 := by
                  have h1 := HDL3.out
                  have h2 := HD1000.out
                  rw [IntKind.wrap_i64]; omega
                clear e7 e8 hr7 hr8 hrun7 hrun8 hz hne hlt hl2
                go_wp2_with fail
                go_region
                go_wp2
                go_roundw
                case rel => exact ⟨l + 1, HJL.out, by go_num, ⟨H8.out.drew⟩⟩
                case measure => simp [intOf]; have := HJL.out; omega
              · obtain rfl : l = LD := by omega
                go_wp2
                go_roundw
                case rel => exact ⟨j + 1, by have := HJ.out; omega, by go_num, ⟨HBZ.out.trans (H8.out.mono HBZ.out.size)⟩⟩
                case measure => simp [intOf]; have := HJ.out; omega
          · obtain rfl : j = 2 := by omega
            rw [show ((2 : Nat) : Int) = 2 from rfl]
            obtain ⟨z, hz⟩ : ∃ z, bits BinOp.and IntKind.i64 kd 7 = z := ⟨_, rfl⟩
            have HL1 := Kp.mk (fun W => least_any W kd)
            have HL2 := Kp.mk (fun W => refleast_any W kd)
            have HL3 := Kp.mk (fun W => least_any W z)
            have HL4 := Kp.mk (fun W => refleast_any W z)
            generalize leastOf kd = r1 at *
            generalize leastOf z = r2 at *
            have HBB : Kp (Below w.heap.size w wr) := ⟨HB3'.out.trans (H.out.mono HB3'.out.size)⟩
            clear H hj hlt
            go_wp2_with fail
            refine (HL1.out _).mono ?_
            rintro e w' ⟨rfl, rfl⟩
            go_wp2_with fail
            refine (HL2.out _).mono ?_
            rintro e w' ⟨rfl, rfl⟩
            go_wp2_with fail
            refine (HL3.out _).mono ?_
            rintro e w' ⟨rfl, rfl⟩
            go_wp2_with fail
            refine (HL4.out _).mono ?_
            rintro e w' ⟨rfl, rfl⟩
            go_wp2_with fail
            refine (awake6_any _).mono ?_
            rintro e w9 ⟨rfl, hb9⟩
            go_wp2
            go_ret
            exact ⟨rfl, HBB.out.trans (hb9.mono HBB.out.size)⟩

set_option maxRecDepth 100000 in
/-- A slice of bytes that comes in, and its datum's length. -/
theorem bytes_dat {H : Type} {enc : TypeId × Value → H} {W : World} {base : Nat} {v : Value} {d : DataW H} {p : List MemPlace}
    (hok : Value.okWide Try.prog W .any base 30 v) (h : DataW.Trod enc Try.prog W 0 (fun _ => true) true 30 v d p) :
    ∃ l, Rb W v l ∧ ∀ N, (∀ elems spare, d = .slice elems spare → elems.length + spare.length ≤ N) → l.length ≤ N := by
  obtain ⟨a0, len, cap, rfl⟩ := okWide_slice Try.underlying30 hok
  obtain ⟨fuel, hf⟩ := h
  rcases open_ints Try.underlying30 Try.underlying5 (by kernel_rfl) hf with ⟨hcs, _⟩ | ⟨a, len', cap', zs, hcs, _, hl, hm, hz, hx, hcell, hwf⟩
  · simp only [Value.cells] at hcs
    injection hcs with hcs
    injection hcs with h1 h2 h3
    subst h1; subst h2; subst h3
    exact ⟨[], Rb.nil W, fun N _ => Nat.zero_le _⟩
  · simp only [Value.cells] at hcs
    injection hcs with hcs
    injection hcs with h1 h2 h3
    subst h1; subst h2; subst h3
    simp only [if_true] at hz
    have hlen : (zs.take len).length = len := by rw [List.length_take]; omega
    refine ⟨zs.take len, ⟨⟨some a, cap, by rw [hlen], by omega, (fun h => by cases h), fun hne => ?_⟩, fun y hy => bd_u8 (hwf y (List.mem_of_mem_take hy)), by omega⟩, fun N hN => ?_⟩
    · have hpos : 0 < zs.length := by
        rcases Nat.eq_zero_or_pos zs.length with h0 | h0
        · exact absurd (List.eq_nil_of_length_eq_zero (by rw [hlen]; omega)) hne
        · exact h0
      obtain ⟨b, off, rfl, hc'⟩ := ints_at hcell hpos
      have hlt := World.block_lt_of_cell? W ⟨b, off + 0, none⟩ (hc' 0 hpos)
      refine ⟨b, off, rfl, Nat.ne_of_lt hlt, hlt, fun i hi => ?_⟩
      rw [hlen] at hi
      rw [hc' i (by omega)]
      simp [List.getD_eq_getElem?_getD, hi]
    · simp only [Prod.mk.injEq] at hx
      have := hN _ _ hx.1
      simp only [lits, List.length_map, List.length_take, List.length_drop] at this
      omega
theorem walk (v : Value) (raw : List Int) (q n m kd : Int) (tv : Value) (t : TxD) (w : World) (hraw : Rb w v raw) (hr47 : raw.length ≤ 140737488351232) (h : TxR w tv t)
    (hn : -9223372036854775808 ≤ n ∧ n ≤ 9223372036854775807) (hm : -9223372036854775808 ≤ m ∧ m ≤ 9223372036854775807) :
    Calls Try.prog 5 #[v, .int .u64 q, tv, .int .i64 n, .int .i64 m, .int .i64 kd] w (YesK w) := by
  by_cases hl : t.outs.length ≤ 60
  · exact walk_short v raw q n m kd tv t w hraw hr47 h hl hn hm
  · exact walk_long v q n m kd tv t w h (by omega)

set_option maxRecDepth 100000 in
theorem lifted (os : Os) (started : os.Started) (H : Type) (enc : TypeId × Value → H) :
    ReturnsInHanded {} Try.checked os 5 .any (Rows.clasTellsSpec.pre6 enc Try.prog Try.f5 Rows.clasTellsRow.domain false) (Rows.clasTellsSpec.post enc Try.prog Try.f5 false true false false) := by
  refine returnsInHanded_of_change_sized (C := Try.checked) ownKnobNone started (by kernel_rfl) Try.func5
    (ChangeSpec.witness6 (enc := enc) (C := Try.checked) false ⟨#[], #[.slice none 0 0, .int .u64 0, .agg #[.int .u32 0, .slice none 0 0, .slice none 0 0, .int .u32 0], .int .i64 0, .int .i64 0, .int .i64 0], []⟩ 8 (by kernel_rfl) (by kernel_rfl) (by kernel_rfl) (by kernel_rfl)) ?_
  intro W base args ds gs before hval0 hW _ hsz0 _
  have hval : ∀ (j : Nat) t v, Try.f5.params[j]? = some t → args[j]? = some v → Value.okWide Try.prog W .any base t v := hval0
  have hW' := hW
  obtain ⟨p, q, hA0, hV, rfl, _, _⟩ := hW
  have hA : DataW.TrodAll enc Try.prog W 0 (fun _ => true) true Try.f5.params.toList args.toList ds p := hA0
  have hsz : (DataW.weightsEach Try.prog (Try.f5.params.toList ++ Rows.clasTellsSpec.plain.varTypes Try.prog) (ds ++ gs)).all (· ≤ reachBytes) = true := hsz0
  clear hsz0
  rw [Try.params5] at hA hval hsz
  obtain ⟨v0, vs0, d0, ds0, p0, q0, hargs, rfl, rfl, h0, r0⟩ := trodAll_cons hA
  obtain ⟨v1, vs1, d1, ds1, p1, q1, rfl, rfl, rfl, h1, r1⟩ := trodAll_cons r0
  obtain ⟨v2, vs2, d2, ds2, p2, q2, rfl, rfl, rfl, h2, r2⟩ := trodAll_cons r1
  obtain ⟨v3, vs3, d3, ds3, p3, q3, rfl, rfl, rfl, h3, r3⟩ := trodAll_cons r2
  obtain ⟨v4, vs4, d4, ds4, p4, q4, rfl, rfl, rfl, h4, r4⟩ := trodAll_cons r3
  obtain ⟨v5, vs5, d5, ds5, p5, q5, rfl, rfl, rfl, h5, r5⟩ := trodAll_cons r4
  obtain ⟨rfl, rfl, rfl⟩ := trodAll_nil r5
  obtain rfl : args = #[v0, v1, v2, v3, v4, v5] := by cases args; simp_all
  obtain ⟨rfl, rfl⟩ := trodVars_none hV
  obtain ⟨l0, s0, y0⟩ := bytes_dat (hval 0 30 v0 rfl rfl) h0
  have z0 : l0.length ≤ 140737488351232 := y0 _ fun elems spare hd => by
    subst hd
    have := sized_slice hsz (j := 0) (t := 30) (e := 5) rfl rfl Try.underlying30
    rw [show Try.prog.bytesOf 5 = 1 by kernel_rfl] at this
    simpa [reachBytes] using this
  obtain ⟨a1, rfl, rfl, rfl, w1⟩ := open_int Try.underlying28 (hval 1 28 v1 rfl rfl) h1
  have b1 := bd_u64 w1
  obtain ⟨t2, s2⟩ := tx_arg (hval 2 27 v2 rfl rfl) h2
  obtain ⟨a3, rfl, rfl, rfl, w3⟩ := open_int Try.underlying3 (hval 3 3 v3 rfl rfl) h3
  have b3 := bd_i64 w3
  obtain ⟨a4, rfl, rfl, rfl, w4⟩ := open_int Try.underlying3 (hval 4 3 v4 rfl rfl) h4
  have b4 := bd_i64 w4
  obtain ⟨a5, rfl, rfl, rfl, w5⟩ := open_int Try.underlying3 (hval 5 3 v5 rfl rfl) h5
  have b5 := bd_i64 w5
  clear hA0 hval0
  refine (walk v0 l0 a1 a3 a4 a5 v2 t2 W s0 z0 s2 b3 b4).mono fun e W' ⟨he, hb⟩ => ?_
  subst he
  exact ⟨_, rfl, law_post hW' rfl rfl (by kernel_rfl) rfl hb⟩

set_option maxRecDepth 100000 in
theorem over : Rows.clasTellsRow.holds Try.pinned (OpenSpec.ofChange Rows.clasTellsSpec) :=
  OpenClaim.holds_of_wide 5 Try.f5 rfl rfl rfl rfl rfl rfl rfl ⟨rfl, rfl, rfl, rfl, rfl⟩ rfl rfl rfl rfl rfl (by kernel_rfl) Try.func5 (by kernel_rfl)
    (of_decide_eq_true (by kernel_rfl)) (by unfold Func.isWrapper; first | (rw [if_pos (by decide +kernel)]; kernel_rfl) | (rw [if_neg (by decide +kernel)]; exact ⟨rfl, rfl⟩))
    (fun os started H enc _ => lifted os started H enc)

/-- The statement. -/
theorem proved : Rows.ClasTellsSaid :=
  over
end Go.Proofs.Ytpmfhjeeiilnjaa.lawClTells
