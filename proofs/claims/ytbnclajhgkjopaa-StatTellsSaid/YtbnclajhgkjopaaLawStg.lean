/- Any transaction is taken, or refused with the first code that the document says: for every transaction and every three ints the law StatTells returns true and leaves its arguments as they were. No further condition. -/
import Derived.Test.YtbnclajhgkjopaaStO
import Derived.Test.YtbnclajhgkjopaaRawT
import Derived.Test.YtbnclajhgkjopaaClose
import Derived.Deep.DeepCutAuto
import Derived.Deep.RegionHeld3
import Derived.Deep.CutBlock
namespace Go.Proofs.Ytbnclajhgkjopaa.lawSt
open Go.ChangeShapes Go.WideShapes Go.ChangeAt Go.RowKit

set_option linter.unusedSimpArgs false in
set_option maxRecDepth 10000000 in
set_option maxHeartbeats 16000000 in
theorem walk_g (v : Value) (t : TxD) (n m k : Int) (w : World) (h : TxR w v t) (hn : -9223372036854775808 ≤ n ∧ n ≤ 9223372036854775807) (hm : -9223372036854775808 ≤ m ∧ m ≤ 9223372036854775807) (h1 : t.ins.length ≤ 60) (h2 : t.outs.length ≤ 60) (hr : k % 16 = 11) :
    Calls Try.prog 5 #[v, .int .i64 n, .int .i64 m, .int .i64 k] w (YesK w) := by
  have HT := Kp.mk h
  obtain ⟨iv, ov, rfl, _, _, hi, ho⟩ := h
  obtain ⟨Ai, ci, rfl, _⟩ := hi.slice
  obtain ⟨Ao, co, rfl, _⟩ := ho.slice
  obtain ⟨NI, hNI⟩ : ∃ N, t.ins.length = N := ⟨_, rfl⟩
  obtain ⟨NO, hNO⟩ : ∃ N, t.outs.length = N := ⟨_, rfl⟩
  rw [hNI] at h1 HT ⊢
  rw [hNO] at h2 HT ⊢
  have g1 : decide (60 < (NI : Int)) = false := by simp; omega
  have g2 : decide (60 < (NO : Int)) = false := by simp; omega
  obtain ⟨W1, hW1⟩ : ∃ W, w.alloc (.cells #[.int .u32 t.version, .slice Ai NI ci, .slice Ao NO co, .int .u32 t.lock] 26) = W := ⟨_, rfl⟩
  have HB1 : Kp (Below w.heap.size w W1) := ⟨by rw [← hW1]; exact (Below.refl _ _).alloc (Nat.le_refl _) _⟩
  have HBR : Kp (Box W1 w.heap.size 26 #[.int .u32 t.version, .slice Ai NI ci, .slice Ao NO co, .int .u32 t.lock] ∧ w.heap.size < W1.heap.size) := ⟨by rw [← hW1]; exact Box.fresh _ _ _, by rw [← hW1]; exact (Box.fresh _ _ _).lt⟩
  have HW1 := Kp.mk hW1
  have HG := Kp.mk (lawGood_any W1 n m hn hm)
  have HNM := Kp.mk (And.intro hn hm)
  have hK : bits BinOp.and IntKind.i64 k 15 = k % 16 := and_mask k 4 (by omega)
  obtain ⟨c, hc, hc0, hc1⟩ : ∃ c : Int, k % 16 = c ∧ 0 ≤ c ∧ c ≤ 15 := ⟨k % 16, rfl, by omega, by omega⟩
  rw [hc] at hK hr
  have HR := Kp.mk hr
  have HLN := Kp.mk (goodOf_lens n m)
  have HCK := Kp.mk (check_good n m)
  have HOK := Kp.mk (good_ins n m).1
  clear hi ho hNI hNO h1 h2 hn hm hW1 hc hr
  generalize goodOf n m = T at *
  go_enter Try.func5, Try.ntmps5
  go_wp2_with fail
  rw [HW1.out]
  refine HG.out.mono ?_
  rintro e w2 ⟨v2, rfl, hT2, hb2⟩
  obtain ⟨iv, ov, rfl, hv4, hk4, hi2, ho2⟩ := id hT2
  obtain ⟨gi, cti, rfl, _⟩ := hi2.box (by have := HLN.out; omega)
  obtain ⟨go, cto, rfl, _⟩ := ho2.box (by have := HLN.out; omega)
  obtain ⟨TI, hTI⟩ : ∃ N, T.ins.length = N := ⟨_, rfl⟩
  obtain ⟨TO, hTO⟩ : ∃ N, T.outs.length = N := ⟨_, rfl⟩
  rw [hTI] at hi2 ⊢
  rw [hTO] at ho2 ⊢
  go_upto_region 5 with fail
  have HXT0 : Kp (TxR w2 (.agg #[.int .u32 T.version, .slice (some ⟨gi, 0, none⟩) TI cti, .slice (some ⟨go, 0, none⟩) TO cto, .int .u32 T.lock]) T) := ⟨by have := hT2.txR; rw [hTI, hTO] at this; exact this⟩
  have hsi : Many 36 (fun W => InO W W1.heap.size) w2 (.slice (some ⟨gi, 0, none⟩) TI cti) T.ins := OwnMany.many (RR := fun W => InO W W1.heap.size) hi2 fun _ _ h => h
  have hso : Many 2 (fun W => OutF W W1.heap.size) w2 (.slice (some ⟨go, 0, none⟩) TO cto) T.outs := OwnMany.many (RR := fun W => OutF W W1.heap.size) ho2 fun _ _ h => h
  obtain ⟨W3, hW3⟩ : ∃ W3, w2.alloc (.cells #[.int .u32 T.version, .slice (some ⟨gi, 0, none⟩) TI cti, .slice (some ⟨go, 0, none⟩) TO cto, .int .u32 T.lock] 26) = W3 := ⟨_, rfl⟩
  have hs3 : W3.heap.size = w2.heap.size + 1 := by rw [← hW3]; exact Array.size_push _
  have hb23 : Below w2.heap.size w2 W3 := by rw [← hW3]; exact (Below.refl _ _).alloc (Nat.le_refl _) _
  have hxt : Box W3 w2.heap.size 26 #[.int .u32 T.version, .slice (some ⟨gi, 0, none⟩) TI cti, .slice (some ⟨go, 0, none⟩) TO cto, .int .u32 T.lock] := by rw [← hW3]; exact Box.fresh _ _ _
  rw [hW3]
  obtain ⟨W4, hW4⟩ : ∃ W4, W3.alloc (.cells #[.int .u32 T.version, .slice (some ⟨gi, 0, none⟩) TI cti, .slice (some ⟨go, 0, none⟩) TO cto, .int .u32 T.lock] 26) = W4 := ⟨_, rfl⟩
  have HB34 : Kp (Below W3.heap.size W3 W4) := ⟨by rw [← hW4]; exact (Below.refl _ _).alloc (Nat.le_refl _) _⟩
  have HXX : Kp (Box W4 (w2.heap.size + 1) 26 #[.int .u32 T.version, .slice (some ⟨gi, 0, none⟩) TI cti, .slice (some ⟨go, 0, none⟩) TO cto, .int .u32 T.lock]) := ⟨by rw [← hW4, ← hs3]; exact Box.fresh _ _ _⟩
  rw [hW4]
  have HB3 : Kp (Below w.heap.size w W3) := ⟨HB1.out.trans ((hb2.trans (hb23.mono hb2.size)).mono HB1.out.size)⟩
  have hb13 : Below W1.heap.size W1 W3 := hb2.trans (hb23.mono hb2.size)
  have HXT : Kp (∀ W, Below W3.heap.size W3 W → (Box W w2.heap.size 26 #[.int .u32 T.version, .slice (some ⟨gi, 0, none⟩) TI cti, .slice (some ⟨go, 0, none⟩) TO cto, .int .u32 T.lock] ∧ TxR W (.agg #[.int .u32 T.version, .slice (some ⟨gi, 0, none⟩) TI cti, .slice (some ⟨go, 0, none⟩) TO cto, .int .u32 T.lock]) T) ∧
      Box W w.heap.size 26 #[.int .u32 t.version, .slice Ai NI ci, .slice Ao NO co, .int .u32 t.lock] ∧ TxR W (.agg #[.int .u32 t.version, .slice Ai NI ci, .slice Ao NO co, .int .u32 t.lock]) t) := ⟨fun W hW => ⟨⟨hxt.below hW, HXT0.out.below (hb23.trans (hW.mono hb23.size))⟩, HBR.out.1.below (hb13.trans (hW.mono hb13.size)), HT.out.below (HB3.out.trans (hW.mono HB3.out.size))⟩⟩
  have HSI : Kp (∀ W, Below W4.heap.size W4 W → Many 36 (fun W => InO W W1.heap.size) W (.slice (some ⟨gi, 0, none⟩) TI cti) T.ins) := ⟨fun W hW => by
    have hb := hb23.trans ((HB34.out.trans (hW.mono HB34.out.size)).mono hb23.size)
    exact Many.below hsi hb fun cs x h => h.turn (Keeps.of_below [5, 29] hb) (by decide) (by decide) (Nat.le_refl _)⟩
  have HSO : Kp (∀ W, Below W4.heap.size W4 W → Many 2 (fun W => OutF W W1.heap.size) W (.slice (some ⟨go, 0, none⟩) TO cto) T.outs) := ⟨fun W hW => by
    have hb := hb23.trans ((HB34.out.trans (hW.mono HB34.out.size)).mono hb23.size)
    exact Many.below hso hb fun cs x h => h.keeps (Keeps.of_below [5] hb) (by decide)⟩
  have HX3 : Kp (Box W4 w2.heap.size 26 #[.int .u32 T.version, .slice (some ⟨gi, 0, none⟩) TI cti, .slice (some ⟨go, 0, none⟩) TO cto, .int .u32 T.lock]) := ⟨hxt.below HB34.out⟩
  have HGG : Kp (W3.heap.size ≤ w2.heap.size + 1) := ⟨by omega⟩
  have HNE : Kp (T.ins ≠ [] ∧ T.outs ≠ [] ∧ T.ins.length ≤ 4 ∧ T.outs.length ≤ 4) := ⟨by intro e; rw [e] at HLN; have := HLN.out.1; simp at this, by intro e; rw [e] at HLN; have := HLN.out.2.2.1; simp at this, HLN.out.2.1, HLN.out.2.2.2⟩
  have HV4 := Kp.mk (And.intro hv4 hk4)
  have HB13 := Kp.mk hb13
  clear hT2 hi2 ho2 hb2 hv4 hk4 hsi hso hW3 hW4 hb23 hb13 hs3 hxt hTI hTO HXT0 HG HBR HW1 HT
  generalize w2.heap.size = g at *
  go_cut [] (fun wx => Kp (TxX wx W1.heap.size W3.heap.size (g + 1) T ∧ Below W3.heap.size W3 wx))
  case first =>
    refine wp_region_noPanic ?_
    refine wp_region_held_drew (S := fun _ => True) (by kernel_rfl) ?_ (fun hHeld => ?_)
    · trivial
    refine wpAnyH_take (i := 1) (oi := ⟨some 34, _, _, _, _, _⟩) (v := ?_) rfl (by kernel_rfl) (by kernel_rfl) (by kernel_rfl) (fun _ _ _ h => h) (Or.inl ⟨by rfl, ?_⟩) hHeld ?_
    rotate_left
    · (intro wx hSw; (try dsimp only at hSw); go_simp; try with_reducible rfl)
    try simp only [Act.put, List.setIfInBounds_toArray, List.set_cons_zero, List.set_cons_succ]
    refine wpAnyH_take (i := 5) (oi := ⟨some 38, _, _, _, _, _⟩) (v := ?_) rfl (by kernel_rfl) (by kernel_rfl) (by kernel_rfl) (fun _ _ _ h => h) (Or.inl ⟨by rfl, ?_⟩) hHeld ?_
    rotate_left
    · (intro wx hSw; (try dsimp only at hSw); go_simp; try with_reducible rfl)
    try simp only [Act.put, List.setIfInBounds_toArray, List.set_cons_zero, List.set_cons_succ]
    refine wpAnyH_upto cpLst cpRank cqRd cqV (fun s a wx => ∃ (u19 u21 u22 u23 u25 u26 u27 : Value), a = ⟨List.toArray (((.agg #[.int .u32 t.version, .slice Ai NI ci, .slice Ao NO co, .int .u32 t.lock]) : Value) :: (.int .i64 n) :: (.int .i64 m) :: (.int .i64 k) :: (.pointer (some ⟨w.heap.size, 0, none⟩)) :: undef :: undef :: undef :: (.bool false) :: (.pointer (some ⟨g, 0, none⟩)) :: (.pointer (some ⟨g + 1, 0, none⟩)) :: undef :: undef :: undef :: undef :: undef :: undef :: undef :: (.pointer (some ⟨w.heap.size, 1, none⟩)) :: (.slice Ai NI ci) :: (.int .i64 NI) :: (.bool false) :: (.bool false) :: (.pointer (some ⟨w.heap.size, 2, none⟩)) :: (.slice Ao NO co) :: (.int .i64 NO) :: (.bool false) :: (.bool false) :: undef :: (.int .i64 n) :: (.int .i64 m) :: (.agg #[.int .u32 T.version, .slice (some ⟨gi, 0, none⟩) TI cti, .slice (some ⟨go, 0, none⟩) TO cto, .int .u32 T.lock]) :: (.agg #[.int .u32 T.version, .slice (some ⟨gi, 0, none⟩) TI cti, .slice (some ⟨go, 0, none⟩) TO cto, .int .u32 T.lock]) :: u19 :: (.pointer (some ⟨g, 1, none⟩)) :: u21 :: u22 :: u23 :: (.pointer (some ⟨g, 2, none⟩)) :: u25 :: u26 :: u27 :: undef :: undef :: undef :: undef :: undef :: undef :: undef :: undef :: undef :: undef :: undef :: undef :: undef :: undef :: undef :: undef :: undef :: undef :: undef :: undef :: undef :: undef :: undef :: undef :: undef :: undef :: undef :: undef :: undef :: undef :: undef :: undef :: undef :: undef :: undef :: undef :: undef :: undef :: undef :: undef :: undef :: undef :: undef :: undef :: undef :: undef :: undef :: undef :: undef :: undef :: undef :: undef :: undef :: undef :: undef :: undef :: undef :: undef :: undef :: undef :: undef :: undef :: undef :: undef :: undef :: undef :: undef :: undef :: undef :: undef :: undef :: undef :: undef :: undef :: undef :: undef :: undef :: undef :: undef :: undef :: undef :: undef :: undef :: undef :: undef :: undef :: undef :: undef :: undef :: undef :: undef :: undef :: undef :: undef :: undef :: undef :: undef :: undef :: undef :: undef :: undef :: undef :: undef :: undef :: undef :: undef :: undef :: undef :: undef :: undef :: undef :: undef :: undef :: undef :: undef :: undef :: undef :: undef :: undef :: undef :: undef :: undef :: undef :: undef :: undef :: undef :: undef :: undef :: undef :: undef :: undef :: undef :: undef :: undef :: undef :: undef :: undef :: undef :: undef :: undef :: undef :: undef :: undef :: undef :: undef :: undef :: undef :: undef :: undef :: undef :: undef :: undef :: undef :: undef :: undef :: undef :: undef :: undef :: undef :: undef :: undef :: undef :: undef :: undef :: undef :: undef :: undef :: undef :: undef :: undef :: undef :: undef :: undef :: undef :: undef :: undef :: undef :: undef :: undef :: undef :: undef :: undef :: undef :: undef :: undef :: undef :: undef :: undef :: undef :: undef :: []), []⟩ ∧ CpSt W1.heap.size W4 T (.slice (some ⟨gi, 0, none⟩) TI cti) (.slice (some ⟨go, 0, none⟩) TO cto) (.pointer (some ⟨g + 1, 1, none⟩)) s u19 u21 u22 u23 u25 u26 u27 wx) 3 ?hrd (fun s hV h => cq_ne s hV h) ?hst ?hend 7 (false, false, false, false, false, false, false) _ _ ⟨by simp, by simp, by simp⟩ (by decide) ?hin
    case hin => exact ⟨undef, undef, undef, undef, undef, undef, undef, rfl, ⟨(Below.refl _ _).drew, by simp, by simp, by simp, by simp, by simp, by simp, by simp⟩⟩
    case hrd =>
      rintro ⟨a, b, c, d, e, f, h⟩ ⟨h1, h2, h3⟩
      cases a <;> cases b <;> cases c <;> cases d <;> cases e <;> cases f <;> cases h <;> first | (exfalso; simp at h1 h2 h3; done) | (show (_ : List Nat) = _; kernel_rfl)
    case hst =>
      rintro ⟨a, b, c, d, e, f, h⟩ act wx hV ⟨u19, u21, u22, u23, u25, u26, u27, rfl, hs⟩ hr i hi
      obtain ⟨h9, hc⟩ := List.mem_filter.1 hi
      simp only [List.mem_cons, List.not_mem_nil, or_false] at h9
      obtain ⟨hv1, hv2, hv3⟩ := hV
      have hx : Box wx g 26 #[.int .u32 T.version, .slice (some ⟨gi, 0, none⟩) TI cti, .slice (some ⟨go, 0, none⟩) TO cto, .int .u32 T.lock] := HX3.out.below hs.hb
      rcases h9 with rfl | rfl | rfl | rfl | rfl | rfl | rfl | rfl
      · obtain rfl : a = false := by simpa [cqCond] using hc
        refine wpOp_one (o := ⟨some 33, _, _, _, _, _⟩) rfl rfl ?_
        refine op_noIns ?_
        have ms := hs.mono ((Below.refl wx.heap.size wx).alloc (Nat.le_refl _) (.cells #[] 32))
        exact ⟨trivial, (true, b, c, d, e, f, h), ⟨fun h => ⟨rfl, (hv1 h).2⟩, hv2, fun h => ⟨rfl, (hv3 h).2⟩⟩, rfl, by first | (simp [cpRank, b1]; done) | (simp [cpRank, b1]; omega), .slice (some ⟨wx.heap.size, 0, none⟩) 0 0, u21, u22, u23, u25, u26, u27, rfl, ⟨ms.hb, fun _ _ => ⟨wx.heap.size, rfl, Box.fresh _ _ _, hs.hb.size⟩, ms.h21, ms.h22, ms.h23, ms.h25, ms.h26, ms.h27⟩⟩
      · obtain rfl : b = false := by simpa [cqCond] using hc
        refine wpOp_one (o := ⟨some 35, _, _, _, _, _⟩) rfl rfl ?_
        refine op_getIns 34 g 1 _ _ _ rfl (hx.cell 1) ?_
        exact ⟨trivial, (a, true, c, d, e, f, h), ⟨fun h => ⟨(hv1 h).1, rfl⟩, hv2, fun h => ⟨(hv3 h).1, rfl, (hv3 h).2.2⟩⟩, rfl, by first | (simp [cpRank, b1]; done) | (simp [cpRank, b1]; omega), u19, _, u22, u23, u25, u26, u27, rfl, ⟨hs.hb, hs.h19, fun _ => rfl, hs.h22, hs.h23, hs.h25, hs.h26, hs.h27⟩⟩
      · obtain ⟨⟨rfl, rfl⟩, rfl⟩ : (a = true ∧ b = true) ∧ c = false := by simpa [cqCond] using hc
        obtain ⟨gg, rfl, hxg, hgg⟩ := hs.h19 rfl rfl
        obtain rfl := hs.h21 rfl
        obtain ⟨i1, hia, hib, hic, hid⟩ := info_parts3 infoInZ
        refine wpOp_one (o := ⟨some 36, _, _, _, _, _⟩) rfl rfl ?_
        refine wp_append_rows (R := fun W => InO W W1.heap.size) (RR := fun W => InO W W1.heap.size) (.tmp 33) (.tmp 35) 23 rfl W4.heap.size i1 _ 96 Try.underlying23 hia hib hic hid (by rfl) (by decide) _ [] rfl (OwnMany.empty 36 _ hxg hgg) _ T.ins rfl (HSI.out wx hs.hb) HNE.out.1 (fun cs d h => h) (fun cs d h => h.inR.one) (by have := HNE.out.2.2.1; simp; omega) (by decide) hs.hb.size [5, 29, 35, 26] (by decide) (fun w' cs d hk h => h.turn hk (by decide) (by decide) (Nat.le_refl _)) ?_
        intro v6 w6 hm6 hg6 hk6
        rw [List.nil_append] at hm6
        have hf : f = false := by cases f with
          | false => rfl
          | true => exact absurd (hv2 rfl).2.2 (by simp)
        subst hf
        have hb6 : Below W4.heap.size W4 w6 := OwnMany.grows (OwnMany.empty 36 (InO wx W1.heap.size) hxg hgg) hs.hb hg6 (Nat.le_refl _)
        refine ⟨trivial, (true, true, true, d, e, false, h), ⟨fun _ => ⟨rfl, rfl⟩, by simp, fun h => ⟨rfl, rfl, rfl⟩⟩, rfl, by first | (simp [cpRank, b1]; done) | (simp [cpRank, b1]; omega), _, _, v6, u23, u25, u26, u27, rfl, ⟨hb6, by simp, fun _ => rfl, fun _ => hm6, fun h1 h2 => ?_, hs.h25, by simp, hs.h27⟩⟩
        obtain ⟨gq, q1, q2, q3⟩ := hs.h23 h1 h2
        exact ⟨gq, q1, Keeps.box hk6 (by decide) q2, q3⟩
      · obtain rfl : d = false := by simpa [cqCond] using hc
        refine wpOp_one (o := ⟨some 37, _, _, _, _, _⟩) rfl rfl ?_
        refine op_noOuts ?_
        have ms := hs.mono ((Below.refl wx.heap.size wx).alloc (Nat.le_refl _) (.cells #[] 35))
        exact ⟨trivial, (a, b, c, true, e, f, h), ⟨hv1, fun h => ⟨rfl, (hv2 h).2⟩, hv3⟩, rfl, by first | (simp [cpRank, b1]; done) | (simp [cpRank, b1]; omega), u19, u21, u22, .slice (some ⟨wx.heap.size, 0, none⟩) 0 0, u25, u26, u27, rfl, ⟨ms.hb, ms.h19, ms.h21, ms.h22, fun _ _ => ⟨wx.heap.size, rfl, Box.fresh _ _ _, hs.hb.size⟩, ms.h25, ms.h26, ms.h27⟩⟩
      · obtain rfl : e = false := by simpa [cqCond] using hc
        refine wpOp_one (o := ⟨some 39, _, _, _, _, _⟩) rfl rfl ?_
        refine op_getOuts 38 g 2 _ _ _ rfl (hx.cell 2) ?_
        exact ⟨trivial, (a, b, c, d, true, f, h), ⟨hv1, fun h => ⟨(hv2 h).1, rfl, (hv2 h).2.2⟩, hv3⟩, rfl, by first | (simp [cpRank, b1]; done) | (simp [cpRank, b1]; omega), u19, u21, u22, u23, _, u26, u27, rfl, ⟨hs.hb, hs.h19, hs.h21, hs.h22, hs.h23, fun _ => rfl, hs.h26, hs.h27⟩⟩
      · obtain ⟨⟨⟨rfl, rfl⟩, rfl⟩, rfl⟩ : ((d = true ∧ e = true) ∧ c = true) ∧ f = false := by simpa [cqCond] using hc
        obtain ⟨gg, rfl, hxg, hgg⟩ := hs.h23 rfl rfl
        obtain rfl := hs.h25 rfl
        obtain ⟨i1, hia, hib, hic, hid⟩ := info_parts3 infoOutZ
        refine wpOp_one (o := ⟨some 40, _, _, _, _, _⟩) rfl rfl ?_
        refine wp_append_rows (R := fun W => OutF W W1.heap.size) (RR := fun W => OutF W W1.heap.size) (.tmp 37) (.tmp 39) 24 rfl W4.heap.size i1 _ 32 Try.underlying24 hia hib hic hid (by rfl) (by decide) _ [] rfl (OwnMany.empty 2 _ hxg hgg) _ T.outs rfl (HSO.out wx hs.hb) HNE.out.2.1 (fun cs d h => h) (fun cs d h => outF_one h) (by have := HNE.out.2.2.2; simp; omega) (by decide) hs.hb.size [5, 29, 32, 26] (by decide) (fun w' cs d hk h => h.keeps hk (by decide)) ?_
        intro v6 w6 hm6 hg6 hk6
        rw [List.nil_append] at hm6
        have hb6 : Below W4.heap.size W4 w6 := OwnMany.grows (OwnMany.empty 2 (OutF wx W1.heap.size) hxg hgg) hs.hb hg6 (Nat.le_refl _)
        exact ⟨trivial, (a, b, true, true, true, true, h), ⟨hv1, fun _ => ⟨rfl, rfl, rfl⟩, hv3⟩, rfl, by first | (simp [cpRank, b1]; done) | (simp [cpRank, b1]; omega), u19, u21, u22, _, _, v6, u27, rfl, ⟨hb6, by simp, hs.h21, fun _ => OwnMany.turn (hs.h22 rfl) hk6 (by decide) (Nat.le_refl _) (fun cs d h => h.turn hk6 (by decide) (by decide) (Nat.le_refl _)), by simp, hs.h25, fun _ => hm6, hs.h27⟩⟩
      · obtain ⟨⟨⟨rfl, rfl⟩, rfl⟩, rfl⟩ : ((a = true ∧ b = true) ∧ c = true) ∧ h = false := by simpa [cqCond] using hc
        refine wpOp_one (o := ⟨some 41, _, _, _, _, _⟩) rfl rfl ?_
        refine op_field1 10 (g + 1) rfl ?_
        exact ⟨trivial, (true, true, true, d, e, f, true), ⟨hv1, hv2, fun _ => ⟨rfl, rfl, rfl⟩⟩, rfl, by first | (simp [cpRank, b1]; done) | (simp [cpRank, b1]; omega), u19, u21, u22, u23, u25, u26, _, rfl, ⟨hs.hb, hs.h19, hs.h21, hs.h22, hs.h23, hs.h25, hs.h26, fun _ => rfl⟩⟩
      · obtain ⟨rfl, rfl⟩ : f = true ∧ h = true := by simpa [cqCond] using hc
        obtain ⟨rfl, rfl, rfl⟩ := hv2 rfl
        obtain ⟨rfl, rfl⟩ := hv1 rfl
        exact absurd rfl hr
    case hend =>
      rintro ⟨a, b, c, d, e, f, h⟩ act wx hV ⟨u19, u21, u22, u23, u25, u26, u27, rfl, hs⟩ hr
      obtain ⟨rfl, rfl, rfl, rfl, rfl, rfl, rfl⟩ : a = true ∧ b = true ∧ c = true ∧ d = true ∧ e = true ∧ f = true ∧ h = true := by
        cases a <;> cases b <;> cases c <;> cases d <;> cases e <;> cases f <;> cases h <;> simp [cpRank, b1] at hr ⊢
      have hi6 := hs.h22 rfl
      have ho6 := hs.h26 rfl
      have hx : Box wx g 26 #[.int .u32 T.version, .slice (some ⟨gi, 0, none⟩) TI cti, .slice (some ⟨go, 0, none⟩) TO cto, .int .u32 T.lock] := HX3.out.below hs.hb
      obtain ⟨A6, c6, rfl⟩ := hi6.slice
      obtain ⟨A7, c7, rfl⟩ := ho6.slice
      obtain rfl := hs.h27 rfl
      have hy : Box wx (g + 1) 26 #[.int .u32 T.version, .slice (some ⟨gi, 0, none⟩) TI cti, .slice (some ⟨go, 0, none⟩) TO cto, .int .u32 T.lock] := HXX.out.below hs.hb
      have f1 := hy.warm 1
      have c1 := hy.cell 1
      have hy1 := hy.set 1 (.slice A6 T.ins.length c6)
      have f2 := hy.warm 2
      have c2 := hy.cell 2
      have hy2 := hy1.set 2 (.slice A7 T.outs.length c7)
      have hk12 : Keeps [5, 29, 32, 35] wx ((wx.setCell ⟨g + 1, 1, none⟩ (.slice A6 T.ins.length c6)).setCell ⟨g + 1, 2, none⟩ (.slice A7 T.outs.length c7)) := (Keeps.of_set hy (by decide) 1 _).trans (Keeps.of_set hy1 (by decide) 2 _)
      have HE : Kp (TxX ((wx.setCell ⟨g + 1, 1, none⟩ (.slice A6 T.ins.length c6)).setCell ⟨g + 1, 2, none⟩ (.slice A7 T.outs.length c7)) W1.heap.size W3.heap.size (g + 1) T ∧ Below W3.heap.size W3 ((wx.setCell ⟨g + 1, 1, none⟩ (.slice A6 T.ins.length c6)).setCell ⟨g + 1, 2, none⟩ (.slice A7 T.outs.length c7))) := ⟨⟨_, _, hy2, HV4.out.1, HV4.out.2, OwnMany.turn hi6 hk12 (by decide) HB34.out.size (fun cs d h => h.turn hk12 (by decide) (by decide) (Nat.le_refl _)), OwnMany.turn ho6 hk12 (by decide) HB34.out.size (fun cs d h => h.keeps hk12 (by decide))⟩, ((HB34.out.trans (hs.hb.mono HB34.out.size)).setCell HGG.out _).setCell HGG.out _⟩
      have hHeld : True := trivial
      clear hi6 ho6 hx hy hy1 hy2 hk12 hs hV hr
      refine wpAnyH_ready (rs := [9]) (by kernel_rfl) (by simp) (AllReadyH.cons (o := ⟨none, _, _, _, _, _⟩) rfl (fun K hK => ?_) AllReadyH.nil)
      go_simp
      refine hK.out _ _ ?_ (fun hHeld => ?_)
      · trivial
      clear hK K
      try simp only [Act.put, List.setIfInBounds_toArray, List.set_cons_zero, List.set_cons_succ]
      refine wpAnyH_take (i := 10) (oi := ⟨some 42, _, _, _, _, _⟩) (v := ?_) rfl (by kernel_rfl) (by kernel_rfl) (by kernel_rfl) (fun _ _ _ h => h) (Or.inl ⟨by rfl, ?_⟩) hHeld ?_
      rotate_left
      · (intro wx hSw; (try dsimp only at hSw); go_simp; try with_reducible rfl)
      try simp only [Act.put, List.setIfInBounds_toArray, List.set_cons_zero, List.set_cons_succ]
      refine wpAnyH_ready (rs := [11]) (by kernel_rfl) (by simp) (AllReadyH.cons (o := ⟨none, _, _, _, _, _⟩) rfl (fun K hK => ?_) AllReadyH.nil)
      go_simp
      refine hK.out _ _ ?_ (fun hHeld => ?_)
      · trivial
      clear hK K
      try simp only [Act.put, List.setIfInBounds_toArray, List.set_cons_zero, List.set_cons_succ]
      refine wpAnyH_done (by kernel_rfl) ?_ _
      refine NoPanic.normal ?_
      go_wp2
      go_meet
      case rel => exact HE
  have HTX := hcut
  obtain ⟨W5, rfl⟩ : ∃ W : World, W = wc := ⟨_, rfl⟩
  clear hcut HSI HSO HX3 HNE HXX HB34
  go_upto_block 0 with fail
  go_cut [] (fun wx => Kp ((∃ a0 a1 a2 a3 X, Box wx (g + 1) 26 #[a0, a1, a2, a3] ∧ TxR wx (.agg #[a0, a1, a2, a3]) X) ∧ Below W3.heap.size W3 wx))
  case first =>
    have hcs : c = 0 ∨ c = 1 ∨ c = 2 ∨ c = 3 ∨ c = 4 ∨ c = 5 ∨ c = 6 ∨ c = 7 ∨ c = 8 ∨ c = 9 ∨ c = 10 ∨ c = 11 ∨ 12 ≤ c := by omega
    rcases hcs with rfl | rfl | rfl | rfl | rfl | rfl | rfl | rfl | rfl | rfl | rfl | rfl | h9
    · exfalso; have := HR.out; omega
    · exfalso; have := HR.out; omega
    · exfalso; have := HR.out; omega
    · exfalso; have := HR.out; omega
    · exfalso; have := HR.out; omega
    · exfalso; have := HR.out; omega
    · exfalso; have := HR.out; omega
    · exfalso; have := HR.out; omega
    · exfalso; have := HR.out; omega
    · exfalso; have := HR.out; omega
    · exfalso; have := HR.out; omega
    · obtain ⟨S, hS, hS5⟩ : ∃ S : Nat, bits BinOp.and IntKind.i64 (k / 16) 511 = (S : Int) ∧ S ≤ 511 := ⟨(k / 16 % 512).toNat, by have := and_mask (k / 16) 9 (by omega); simp only [show ((2 ^ 9 - 1 : Nat) : Int) = 511 from rfl, show ((2 ^ 9 : Nat) : Int) = 512 from rfl] at this; rw [this]; omega, by omega⟩
      go_wp2_with fail
      go_loopw [14] (fun i wr => ∃ j : Nat, j ≤ 45 ∧ i = .int .i64 j ∧ Kp ((∃ X, TxX wr W1.heap.size W3.heap.size (g + 1) X ∧ 0 < X.ins.length ∧ 0 < X.outs.length ∧ X.ins.length ≤ 4 + j) ∧ Below W3.heap.size W3 wr)) (fun i _ => 45 - (intOf i).toNat)
      case atStart => exact ⟨0, by omega, rfl, ⟨⟨T, HTX.out.1, by have := HLN.out; omega, by have := HLN.out; omega, by have := HLN.out; omega⟩, HTX.out.2⟩⟩
      case round =>
        obtain ⟨j, hj, rfl, H⟩ := hrel
        by_cases hlt : j < 45
        · have HMK : Kp (∀ W, (Instr.makeSlice 29 (.int .i64 (S : Int)) (.int .i64 (S : Int))).run Try.prog W = .ok (.slice (some ⟨W.heap.size, 0, none⟩) S S) (W.alloc (.cells (byteVals (zeros S)).toArray 5))) := ⟨fun W => make_zeros (by omega) W⟩
          have hmk := HMK.out wr
          obtain ⟨WZ, hWZ⟩ : ∃ WZ, wr.alloc (.cells (byteVals (zeros S)).toArray 5) = WZ := ⟨_, rfl⟩
          rw [hWZ] at hmk
          have HWZ := Kp.mk hWZ
          clear hWZ
          have hjb : (j : Int) < 45 := by omega
          have HJ : Kp (j < 45) := ⟨hlt⟩
          have HS5 := Kp.mk hS5
          clear hlt hj hS5
          have hw2 : IntKind.u32.wrap (j : Int) = (j : Int) := by rw [IntKind.wrap_u32]; have := HJ.out; omega
          obtain ⟨Z, hZ⟩ : ∃ Z, inCells (zeroIn j S) (.slice (some ⟨wr.heap.size, 0, none⟩) S S) (.slice none 0 0) = Z := ⟨_, rfl⟩
          have HBL : Kp (Try.prog.built 32 [(1, .int .u32 j), (2, (.slice (some ⟨wr.heap.size, 0, none⟩) S S))] = some Z.toArray) := ⟨by rw [← hZ]; exact built_in j S _⟩
          have HZ5 : Kp (Z.set 5 (.int .u8 7) = inCells (sevenIn j S) (.slice (some ⟨wr.heap.size, 0, none⟩) S S) (.slice none 0 0)) := ⟨by rw [← hZ]; exact seven_set j S _⟩
          have hZl : Z.length = 36 := by rw [← hZ]; rfl
          have HI1 : Kp ((Try.prog.info? 32).map (·.size) = some Z.toArray.size ∧ Z.toArray.size = 36) := ⟨by rw [List.size_toArray, hZl]; exact ⟨sizeIn, rfl⟩⟩
          have HALL : Kp (Z.toArray.all (·.oneCell') = true) := ⟨by rw [← hZ]; kernel_rfl⟩
          have HZL := Kp.mk hZl
          clear hZ
          go_upto_region 45 with (first | (refine wpList_built rfl 32 #[(1, .tmp 187), (2, .tmp 191)] rfl Z.toArray HBL.out ?_) | (refine wpList_store_fresh rfl 32 (.tmp 15) (.tmp 192) rfl _ Z.toArray WZ.heap.size rfl rfl rfl HI1.out.1 (by rw [HI1.out.2]; rfl) HALL.out ?_))
          obtain ⟨C, hC⟩ : ∃ C, Z.set 5 (.int .u8 7) = C := ⟨_, rfl⟩
          have HC7 := HZ5.out
          rw [hC] at HC7 ⊢
          have hCl : C.length = 36 := by rw [← hC, List.length_set, HZL.out]
          obtain ⟨⟨X, hX, hx1, hx2, hx3⟩, hBX⟩ := H.out
          obtain ⟨xi, xci, xo, xco, hx, hv, hk, hi, ho⟩ := hX.form hx1 hx2
          obtain ⟨i1, hia, hib, hic, hid⟩ := info_parts3 infoInZ
          have HI2 := Kp.mk (And.intro hia (And.intro hib (And.intro hic hid)))
          clear hia hib hic hid
          obtain ⟨WM, hWM⟩ : ∃ WM, WZ.alloc (.cells C.toArray 32) = WM := ⟨_, rfl⟩
          obtain ⟨W8, hW8⟩ : ∃ W8, WM.alloc (.cells C.toArray 32) = W8 := ⟨_, rfl⟩
          have hbZ : Below wr.heap.size wr WZ := by rw [← HWZ.out]; exact (Below.refl _ _).alloc (Nat.le_refl _) _
          have hbZM : Below WZ.heap.size WZ WM := by rw [← hWM]; exact (Below.refl _ _).alloc (Nat.le_refl _) _
          have hbM : Below wr.heap.size wr WM := hbZ.trans (hbZM.mono hbZ.size)
          have hbM8 : Below WM.heap.size WM W8 := by rw [← hW8]; exact (Below.refl _ _).alloc (Nat.le_refl _) _
          have hb8 : Below wr.heap.size wr W8 := hbM.trans (hbM8.mono hbM.size)
          have hk8 : Keeps [5, 29, 32, 35, 26] wr W8 := Keeps.of_below _ hb8
          have hzZ : Box WZ wr.heap.size 5 (byteVals (zeros S)).toArray := by rw [← HWZ.out]; exact Box.fresh _ _ _
          have hzM : Box WM wr.heap.size 5 (byteVals (zeros S)).toArray := hzZ.below hbZM
          have hz8 : Box W8 wr.heap.size 5 (byteVals (zeros S)).toArray := hzM.below hbM8
          have HROW : Kp (WM.heap[WZ.heap.size]? = some (.cells C.toArray 32 (0, 0))) := ⟨by rw [← hWM]; exact heap_alloc_new _ _⟩
          have HIC : Kp ((Try.prog.info? 32).map (·.size) = some C.toArray.size) := ⟨by rw [List.size_toArray, hCl]; exact sizeIn⟩
          have HBB : Kp (Box W8 WM.heap.size 32 C.toArray) := ⟨by rw [← hW8]; exact Box.fresh _ _ _⟩
          have HOW : Kp (OwnMany 36 32 (InO W8 W1.heap.size) W8 W3.heap.size (.slice (some ⟨xi, 0, none⟩) X.ins.length xci) X.ins) := ⟨OwnMany.turn hi hk8 (by decide) (Nat.le_refl _) (fun cs d h => h.turn hk8 (by decide) (by decide) (Nat.le_refl _))⟩
          have HO8 : Kp (OwnMany 2 35 (OutF W8 W1.heap.size) W8 W3.heap.size (.slice (some ⟨xo, 0, none⟩) X.outs.length xco) X.outs) := ⟨OwnMany.turn ho hk8 (by decide) (Nat.le_refl _) (fun cs d h => h.keeps hk8 (by decide))⟩
          have hw1 : W1.heap.size ≤ wr.heap.size := Nat.le_trans HB13.out.size hBX.size
          have HIN : Kp (InO W8 W1.heap.size C (sevenIn j S)) := ⟨⟨_, _, HC7, seven_fit (by have := HJ.out; omega), own_made hz8 hw1 (by have := HS5.out; omega), zeros_bys _, OwnMany.nil _ _ _ _ _⟩⟩
          have HONE : Kp (∀ u ∈ C, u.oneCell' = true) := ⟨HIN.out.inR.one⟩
          have HX8 := Kp.mk (hx.below hb8)
          have HVK := Kp.mk (And.intro hv hk)
          have HB8 := Kp.mk (hBX.trans (hb8.mono hBX.size))
          have HCL := Kp.mk hCl
          have HLE : Kp (X.ins.length ≤ 1000) := ⟨by omega⟩
          have HXL : Kp (0 < X.outs.length ∧ X.ins.length ≤ 4 + j) := ⟨hx2, hx3⟩
          have HW8 := Kp.mk hW8
          have cM : WM.cell? ⟨g + 1, 1, none⟩ = some (.slice (some ⟨xi, 0, none⟩) X.ins.length xci) := (hx.below hbM).cell 1
          have HGR : Kp (∀ w6, W8.grownBy w6 (Value.slice (some ⟨xi, 0, none⟩) X.ins.length xci).ownBlock → Below W3.heap.size W3 w6) := ⟨fun w6 hg => HOW.out.grows HB8.out hg (Nat.le_refl _)⟩
          rw [hWM]
          clear hZl hC HC7 hCl hX hx1 hx2 hx3 hBX hx hv hk hi ho hWM hW8 hbM hbZ hbZM hzZ hbM8 hb8 hk8 hzM hz8 hw1 H hmk hw2 HBL HZ5 HI1 HALL HZL HMK
          go_wp2_with (first | (refine wpList_load_row rfl 32 (.tmp 15) rfl WZ.heap.size rfl 32 C.toArray (0, 0) _ HROW.out Try.underlying32 rfl HIC.out ?_) | (refine wpList_buildIn rfl (.tmp 197) rfl C HCL.out rfl ?_; rw [HW8.out]) | (at_builtin; refine wpList_append_many (R := fun W => InO W W1.heap.size) rfl (.tmp 196) (.tmp 198) 23 rfl W3.heap.size i1 _ 96 Try.underlying23 HI2.out.1 HI2.out.2.1 HI2.out.2.2.1 HI2.out.2.2.2 (by rfl) (by decide) _ X.ins rfl HOW.out WM.heap.size 1 C (sevenIn j S) rfl HBB.out HCL.out HIN.out HONE.out HLE.out (by decide) HB8.out.size [5, 29, 35, 26] (by decide) (fun w' cs d hk h => h.turn hk (by decide) (by decide) (Nat.le_refl _)) ?_; intro v6 w6 hm6 hg6 hk6; obtain ⟨L6, hL6⟩ : ∃ L, X.ins ++ [sevenIn j S] = L := ⟨_, rfl⟩; rw [hL6] at hm6; have HL6 : Kp (L6.length = X.ins.length + 1) := ⟨by rw [← hL6]; simp⟩; obtain ⟨A6, c6, rfl⟩ := hm6.slice; have HM6 := Kp.mk hm6; have HK6 := Kp.mk hk6; have HG6 := Kp.mk hg6; have hx6 := Keeps.box hk6 (by decide) HX8.out; have f16 := hx6.warm 1; have c16 := hx6.cell 1; clear hm6 hg6 hk6 hx6 hL6))
          go_roundw
          case rel => exact ⟨j + 1, by have := HJ.out; omega, by go_num, ⟨⟨_, end_ins HVK.out.1 HVK.out.2 HX8.out HO8.out HM6.out HK6.out, by have := HL6.out; show 0 < L6.length; omega, HXL.out.1, by have := HL6.out; have := HXL.out; show L6.length ≤ _; omega⟩, (HGR.out w6 HG6.out).setCell HGG.out _⟩⟩
          case measure => simp [intOf]; have := HJ.out; omega
        · obtain rfl : j = 45 := by omega
          rw [show ((45 : Nat) : Int) = 45 from rfl]
          go_wp2
          go_meet
          case rel => exact ⟨H.out.1.elim fun X h => h.1.txR, H.out.2⟩
    · exfalso; have := HR.out; omega
  obtain ⟨⟨a0, a1, a2, a3, X, hxx, hxr⟩, hbx⟩ := hcut.out
  have hxt := HXT.out _ hbx
  have HC : Kp (∀ W, Below wc.heap.size wc W → W.cell? ⟨w.heap.size, 0, none⟩ = some (.int .u32 t.version) ∧ W.cell? ⟨w.heap.size, 1, none⟩ = some (.slice Ai NI ci) ∧ W.cell? ⟨w.heap.size, 2, none⟩ = some (.slice Ao NO co) ∧ W.cell? ⟨w.heap.size, 3, none⟩ = some (.int .u32 t.lock) ∧ W.cell? ⟨g, 0, none⟩ = some (.int .u32 T.version) ∧ W.cell? ⟨g, 1, none⟩ = some (.slice (some ⟨gi, 0, none⟩) TI cti) ∧ W.cell? ⟨g, 2, none⟩ = some (.slice (some ⟨go, 0, none⟩) TO cto) ∧ W.cell? ⟨g, 3, none⟩ = some (.int .u32 T.lock) ∧ W.cell? ⟨g + 1, 0, none⟩ = some (a0) ∧ W.cell? ⟨g + 1, 1, none⟩ = some (a1) ∧ W.cell? ⟨g + 1, 2, none⟩ = some (a2) ∧ W.cell? ⟨g + 1, 3, none⟩ = some (a3)) := ⟨fun W hW => by
    have b1 := hxt.2.1.below hW
    have b2 := hxt.1.1.below hW
    have b3 := hxx.below hW
    exact ⟨b1.cell 0, b1.cell 1, b1.cell 2, b1.cell 3, b2.cell 0, b2.cell 1, b2.cell 2, b2.cell 3, b3.cell 0, b3.cell 1, b3.cell 2, b3.cell 3⟩⟩
  have HRT : Kp (∀ W, Below wc.heap.size wc W → TxR W (.agg #[.int .u32 t.version, .slice Ai NI ci, .slice Ao NO co, .int .u32 t.lock]) t ∧ TxR W (.agg #[.int .u32 T.version, .slice (some ⟨gi, 0, none⟩) TI cti, .slice (some ⟨go, 0, none⟩) TO cto, .int .u32 T.lock]) T ∧ TxR W (.agg #[a0, a1, a2, a3]) X) := ⟨fun W hW => ⟨hxt.2.2.below hW, hxt.1.2.below hW, hxr.below hW⟩⟩
  have HBT : Kp (∀ W, Below wc.heap.size wc W → Box W g 26 #[.int .u32 T.version, .slice (some ⟨gi, 0, none⟩) TI cti, .slice (some ⟨go, 0, none⟩) TO cto, .int .u32 T.lock]) := ⟨fun W hW => hxt.1.1.below hW⟩
  have HRX : Kp (∀ W, Below wc.heap.size wc W → TxR W (.agg #[.int .u32 T.version, .slice (some ⟨gi, 0, none⟩) TI cti, .slice (some ⟨go, 0, none⟩) TO cto, .int .u32 T.lock]) T) := ⟨fun W hW => hxt.1.2.below hW⟩
  have HL := Kp.mk (fun W => lawTx_any W n m HNM.out.1 HNM.out.2)
  have HBW : Kp (Below w.heap.size w wc) := ⟨HB3.out.trans (hbx.mono HB3.out.size)⟩
  have hbd : Below wc.heap.size wc wc.drew := (Below.refl _ _).drew
  have h0 := HC.out _ hbd
  have HIT : Kp ((Try.prog.info? 26).map (·.size) = some 4) := ⟨by kernel_rfl⟩
  have HAW : Kp (∀ W, Calls Try.prog 16 #[] W (YesK W)) := ⟨awake8_any⟩
  clear hcut hxt hxx hxr hbx HTX hK hc0 hc1 HXT HNM HB3 HB13 HB1 HGG HLN HV4
  go_wp2_with fail
  refine wp_region_noPanic ?_
  refine wp_region_held_drew (S := fun W => W.cell? ⟨w.heap.size, 0, none⟩ = some (.int .u32 t.version) ∧ W.cell? ⟨w.heap.size, 1, none⟩ = some (.slice Ai NI ci) ∧ W.cell? ⟨w.heap.size, 2, none⟩ = some (.slice Ao NO co) ∧ W.cell? ⟨w.heap.size, 3, none⟩ = some (.int .u32 t.lock) ∧ W.cell? ⟨g, 0, none⟩ = some (.int .u32 T.version) ∧ W.cell? ⟨g, 1, none⟩ = some (.slice (some ⟨gi, 0, none⟩) TI cti) ∧ W.cell? ⟨g, 2, none⟩ = some (.slice (some ⟨go, 0, none⟩) TO cto) ∧ W.cell? ⟨g, 3, none⟩ = some (.int .u32 T.lock) ∧ W.cell? ⟨g + 1, 0, none⟩ = some (a0) ∧ W.cell? ⟨g + 1, 1, none⟩ = some (a1) ∧ W.cell? ⟨g + 1, 2, none⟩ = some (a2) ∧ W.cell? ⟨g + 1, 3, none⟩ = some (a3)) (by kernel_rfl) ?_ (fun hHeld => ?_)
  · exact h0
  refine wpAnyH_take (i := 0) (oi := ⟨some 201, _, _, _, _, _⟩) (v := ?_) rfl (by kernel_rfl) (by kernel_rfl) (by kernel_rfl) (fun _ _ _ h => h) (Or.inl ⟨by rfl, ?_⟩) hHeld ?_
  rotate_left
  · (intro wx hSw; (try dsimp only at hSw); go_simp; try with_reducible rfl)
  try simp only [Act.put, List.setIfInBounds_toArray, List.set_cons_zero, List.set_cons_succ]
  refine wpAnyH_take (i := 1) (oi := ⟨some 202, _, _, _, _, _⟩) (v := ?_) rfl (by kernel_rfl) (by kernel_rfl) (by kernel_rfl) (fun _ _ _ h => h) (Or.inl ⟨by rfl, ?_⟩) hHeld ?_
  rotate_left
  · (intro wx hSw; (try dsimp only at hSw); go_simp; try with_reducible rfl)
  try simp only [Act.put, List.setIfInBounds_toArray, List.set_cons_zero, List.set_cons_succ]
  refine wpAnyH_take (i := 2) (oi := ⟨some 203, _, _, _, _, _⟩) (v := ?_) rfl (by kernel_rfl) (by kernel_rfl) (by kernel_rfl) (fun _ _ _ h => h) (Or.inl ⟨by rfl, ?_⟩) hHeld ?_
  rotate_left
  · (intro wx hSw; (try dsimp only at hSw); go_simp; try with_reducible rfl)
  try simp only [Act.put, List.setIfInBounds_toArray, List.set_cons_zero, List.set_cons_succ]
  refine wpAnyH_take (i := 4) (oi := ⟨some 205, _, _, _, _, _⟩) (v := ?_) rfl (by kernel_rfl) (by kernel_rfl) (by kernel_rfl) (fun _ _ _ h => h) (Or.inl ⟨by rfl, ?_⟩) hHeld ?_
  rotate_left
  · (intro wx hSw; (try dsimp only at hSw); go_simp; try with_reducible rfl)
  try simp only [Act.put, List.setIfInBounds_toArray, List.set_cons_zero, List.set_cons_succ]
  refine wpAnyH_take (i := 5) (oi := ⟨some 206, _, _, _, _, _⟩) (v := ?_) rfl (by kernel_rfl) (by kernel_rfl) (by kernel_rfl) (fun _ _ _ h => h) (Or.inl ⟨by rfl, ?_⟩) hHeld ?_
  rotate_left
  · (intro wx hSw; (try dsimp only at hSw); go_simp; try with_reducible rfl)
  try simp only [Act.put, List.setIfInBounds_toArray, List.set_cons_zero, List.set_cons_succ]
  refine wpAnyH_take (i := 8) (oi := ⟨some 209, _, _, _, _, _⟩) (v := ?_) rfl (by kernel_rfl) (by kernel_rfl) (by kernel_rfl) (fun _ _ _ h => h) (Or.inl ⟨by rfl, ?_⟩) hHeld ?_
  rotate_left
  · (intro wx hSw; (try dsimp only at hSw); go_simp; try with_reducible rfl)
  try simp only [Act.put, List.setIfInBounds_toArray, List.set_cons_zero, List.set_cons_succ]
  refine wpAnyH_ready (rs := [3]) (by kernel_rfl) (by simp) (AllReadyH.cons (o := ⟨some 204, _, _, _, _, _⟩) rfl (fun K hK => ?_) AllReadyH.nil)
  go_simp
  refine (HL.out _).mono ?_
  rintro e w2 ⟨v2, rfl, hT2, hb2⟩
  obtain ⟨iv2, ov2, rfl, _, _, hi2, ho2⟩ := id hT2
  obtain ⟨Ai2, ci2, rfl⟩ := hi2.slice
  obtain ⟨Ao2, co2, rfl⟩ := ho2.slice
  have HU2 := Kp.mk hT2.txR
  obtain ⟨N2, hN2⟩ : ∃ N, (txOf n m).ins.length = N := ⟨_, rfl⟩
  obtain ⟨M2, hM2⟩ : ∃ N, (txOf n m).outs.length = N := ⟨_, rfl⟩
  rw [hN2, hM2] at HU2 ⊢
  have HB2 := Kp.mk (hbd.trans (hb2.mono hbd.size))
  clear hT2 hi2 ho2 hb2 hN2 hM2 h0 HL
  generalize txOf n m = u at *
  refine hK.out _ _ ?_ (fun hHeld => ?_)
  · exact HC.out _ HB2.out
  clear hK K
  try simp only [Act.put, List.setIfInBounds_toArray, List.set_cons_zero, List.set_cons_succ]
  refine wpAnyH_ready (rs := [6]) (by kernel_rfl) (by simp) (AllReadyH.cons (o := ⟨some 207, _, _, _, _, _⟩) rfl (fun K hK => ?_) AllReadyH.nil)
  go_simp
  have HMANY := Kp.mk (four_txs w2 _ _ _ _ _ _ _ _ _ _ _ _ _ _ _ _ t u T X (HRT.out _ HB2.out).1 HU2.out (HRT.out _ HB2.out).2.1 (HRT.out _ HB2.out).2.2)
  obtain ⟨W6, hW6⟩ : ∃ W, w2.alloc (.cells #[.int .u32 t.version, .slice Ai NI ci, .slice Ao NO co, .int .u32 t.lock, .int .u32 u.version, .slice Ai2 N2 ci2, .slice Ao2 M2 co2, .int .u32 u.lock, .int .u32 T.version, .slice (some ⟨gi, 0, none⟩) TI cti, .slice (some ⟨go, 0, none⟩) TO cto, .int .u32 T.lock, a0, a1, a2, a3] 26) = W := ⟨_, rfl⟩
  have HB6 : Kp (Below wc.heap.size wc W6) := ⟨by rw [← hW6]; exact HB2.out.alloc HB2.out.size _⟩
  rw [hW6] at HMANY ⊢
  clear hW6 HU2 HB2 HRT
  refine hK.out _ _ ?_ (fun hHeld => ?_)
  · exact HC.out _ HB6.out
  clear hK K
  try simp only [Act.put, List.setIfInBounds_toArray, List.set_cons_zero, List.set_cons_succ]
  refine wpAnyH_take (i := 7) (oi := ⟨some 208, _, _, _, _, _⟩) (v := ?_) rfl (by kernel_rfl) (by kernel_rfl) (by kernel_rfl) (fun _ _ _ h => h) (Or.inl ⟨by rfl, ?_⟩) hHeld ?_
  rotate_left
  · (intro wx hSw; (try dsimp only at hSw); go_simp; try with_reducible rfl)
  try simp only [Act.put, List.setIfInBounds_toArray, List.set_cons_zero, List.set_cons_succ]
  refine wpAnyH_done (by kernel_rfl) ?_ _
  refine NoPanic.normal ?_
  clear hHeld HC hbd
  go_wp2
  go_loopw [209] (fun i wr => ∃ j : Nat, j ≤ 4 ∧ i = .int .i64 j ∧ Kp (Below W6.heap.size W6 wr)) (fun i _ => 4 - (intOf i).toNat)
  case atStart => exact ⟨0, by omega, rfl, ⟨Below.refl _ _⟩⟩
  case round =>
    obtain ⟨j, hj, rfl, H⟩ := hrel
    by_cases hlt : j < 4
    · obtain ⟨b, off, cs, hA, hbl, hcl, hcs, hR⟩ := (Many.below HMANY.out H.out (fun cs x h => TxE.below (h.below (Below.refl _ _)) H.out)).at (i := j) (by simpa using hlt)
      injection hA with hA
      injection hA with hA1 hA2 _
      subst hA1
      subst hA2
      generalize [t, u, T, X][j] = d at *
      obtain ⟨iv3, ov3, he, hv3, hk3, hi3, ho3⟩ := id hR
      obtain ⟨Ai3, ci3, rfl, _⟩ := hi3.slice
      obtain ⟨Ao3, co3, rfl, _⟩ := ho3.slice
      obtain ⟨N3, hN3⟩ : ∃ N, d.ins.length = N := ⟨_, rfl⟩
      obtain ⟨M3, hM3⟩ : ∃ N, d.outs.length = N := ⟨_, rfl⟩
      rw [hN3, hM3] at he
      obtain rfl : cs = [.int .u32 d.version, .slice Ai3 N3 ci3, .slice Ao3 M3 co3, .int .u32 d.lock] := by
        injection he with he
        have := congrArg Array.toList he
        simpa using this
      rw [Nat.zero_add] at hcs
      have HCS := Kp.mk hcs
      have HR3 : Kp (TxR wr (.agg #[.int .u32 d.version, .slice Ai3 N3 ci3, .slice Ao3 M3 co3, .int .u32 d.lock]) d) := ⟨hR⟩
      obtain ⟨W7, hW7⟩ : ∃ W, wr.alloc (.cells #[.int .u32 d.version, .slice Ai3 N3 ci3, .slice Ao3 M3 co3, .int .u32 d.lock] 26) = W := ⟨_, rfl⟩
      have HB7 : Kp (Below wr.heap.size wr W7) := ⟨by rw [← hW7]; exact (Below.refl _ _).alloc (Nat.le_refl _) _⟩
      have HC : Kp (∀ W, Below W7.heap.size W7 W → W.cell? ⟨wr.heap.size, 0, none⟩ = some (.int .u32 d.version) ∧ W.cell? ⟨wr.heap.size, 1, none⟩ = some (.slice Ai3 N3 ci3) ∧ W.cell? ⟨wr.heap.size, 2, none⟩ = some (.slice Ao3 M3 co3) ∧ W.cell? ⟨wr.heap.size, 3, none⟩ = some (.int .u32 d.lock)) := ⟨fun W hW => by
        have hb : Box W wr.heap.size 26 #[.int .u32 d.version, .slice Ai3 N3 ci3, .slice Ao3 M3 co3, .int .u32 d.lock] := by
          have h0 : Box W7 wr.heap.size 26 #[.int .u32 d.version, .slice Ai3 N3 ci3, .slice Ao3 M3 co3, .int .u32 d.lock] := by rw [← hW7]; exact Box.fresh _ _ _
          exact h0.below hW
        exact ⟨hb.cell 0, hb.cell 1, hb.cell 2, hb.cell 3⟩⟩
      have HX : Kp (∀ W, Below W7.heap.size W7 W → TxR W (.agg #[.int .u32 d.version, .slice Ai3 N3 ci3, .slice Ao3 M3 co3, .int .u32 d.lock]) d) := ⟨fun W hW => (HR3.out.below HB7.out).below hW⟩
      have HW7 := Kp.mk hW7
      have HK1 : Kp (∀ W v, TxR W v d → Calls Try.prog 15 #[v] W (CodeP (checkV d) W)) := ⟨fun W v h => scheck_any W v _ h⟩
      have HK2 : Kp (∀ W v, TxR W v d → Calls Try.prog 19 #[v] W (CodeP (checkV d) W)) := ⟨fun W v h => refcheck_any W v _ h⟩
      have HK3 : Kp (∀ W v, TxR W v d → Calls Try.prog 20 #[v] W (BoolP (coinB d) W)) := ⟨fun W v h => scoinbase_any W v _ h⟩
      have HK4 : Kp (∀ W v, TxR W v d → Calls Try.prog 21 #[v] W (BoolP (coinB d) W)) := ⟨fun W v h => refcoinbase_any W v _ h⟩
      generalize checkV d = cv at *
      generalize coinB d = cb at *
      have hj0 : (0 : Int) ≤ (j : Int) := by omega
      have hj2 : (j : Int) < 4 := by omega
      have HJ := Kp.mk hlt
      clear he hv3 hk3 hi3 ho3 hN3 hM3 hcs hR hbl hcl hW7 hj hlt
      go_wp2_with (first | (refine wpList_load_mid rfl 26 (.tmp 211) rfl w2.heap.size (j * 4) rfl [.int .u32 d.version, .slice Ai3 N3 ci3, .slice Ao3 M3 co3, .int .u32 d.lock] _ HCS.out Try.underlying26 rfl HIT.out ?_) | (refine wpList_store_fresh rfl 26 (.tmp 17) (.tmp 212) rfl _ #[.int .u32 d.version, .slice Ai3 N3 ci3, .slice Ao3 M3 co3, .int .u32 d.lock] wr.heap.size rfl rfl rfl HIT.out rfl rfl ?_))
      rw [HW7.out]
      have hbd : Below W7.heap.size W7 W7.drew := (Below.refl _ _).drew
      have hc0 := HC.out _ hbd
      refine wp_region_noPanic ?_
      refine wp_region_held_drew (S := (fun W => W.cell? ⟨wr.heap.size, 0, none⟩ = some (.int .u32 d.version) ∧ W.cell? ⟨wr.heap.size, 1, none⟩ = some (.slice Ai3 N3 ci3) ∧ W.cell? ⟨wr.heap.size, 2, none⟩ = some (.slice Ao3 M3 co3) ∧ W.cell? ⟨wr.heap.size, 3, none⟩ = some (.int .u32 d.lock))) (by kernel_rfl) ?_ (fun hHeld => ?_)
      · exact hc0
      refine wpAnyH_take (i := 0) (oi := ⟨some 213, _, _, _, _, _⟩) (v := ?_) rfl (by kernel_rfl) (by kernel_rfl) (by kernel_rfl) (fun _ _ _ h => h) (Or.inl ⟨by rfl, ?_⟩) hHeld ?_
      rotate_left
      · (intro wx hSw; (try dsimp only at hSw); go_simp; try with_reducible rfl)
      try simp only [Act.put, List.setIfInBounds_toArray, List.set_cons_zero, List.set_cons_succ]
      refine wpAnyH_take (i := 2) (oi := ⟨some 215, _, _, _, _, _⟩) (v := ?_) rfl (by kernel_rfl) (by kernel_rfl) (by kernel_rfl) (fun _ _ _ h => h) (Or.inl ⟨by rfl, ?_⟩) hHeld ?_
      rotate_left
      · (intro wx hSw; (try dsimp only at hSw); go_simp; try with_reducible rfl)
      try simp only [Act.put, List.setIfInBounds_toArray, List.set_cons_zero, List.set_cons_succ]
      refine wpAnyH_ready (rs := [1]) (by kernel_rfl) (by simp) (AllReadyH.cons (o := ⟨some 214, _, _, _, _, _⟩) rfl (fun K hK => ?_) AllReadyH.nil)
      go_simp
      refine (HK1.out _ _ (HX.out _ hbd)).mono ?_
      rintro e w8 ⟨rfl, hbq⟩
      replace hbd := hbd.trans (hbq.mono hbd.size)
      clear hbq
      refine hK.out _ _ ?_ (fun hHeld => ?_)
      · exact HC.out _ hbd
      clear hK K
      try simp only [Act.put, List.setIfInBounds_toArray, List.set_cons_zero, List.set_cons_succ]
      refine wpAnyH_ready (rs := [3]) (by kernel_rfl) (by simp) (AllReadyH.cons (o := ⟨some 216, _, _, _, _, _⟩) rfl (fun K hK => ?_) AllReadyH.nil)
      go_simp
      refine (HK2.out _ _ (HX.out _ hbd)).mono ?_
      rintro e w9 ⟨rfl, hbq⟩
      replace hbd := hbd.trans (hbq.mono hbd.size)
      clear hbq
      refine hK.out _ _ ?_ (fun hHeld => ?_)
      · exact HC.out _ hbd
      clear hK K
      try simp only [Act.put, List.setIfInBounds_toArray, List.set_cons_zero, List.set_cons_succ]
      refine wpAnyH_take (i := 4) (oi := ⟨some 217, _, _, _, _, _⟩) (v := ?_) rfl (by kernel_rfl) (by kernel_rfl) (by kernel_rfl) (fun _ _ _ h => h) (Or.inl ⟨by rfl, ?_⟩) hHeld ?_
      rotate_left
      · (intro wx hSw; (try dsimp only at hSw); go_simp; try with_reducible rfl)
      try simp only [Act.put, List.setIfInBounds_toArray, List.set_cons_zero, List.set_cons_succ]
      refine wpAnyH_take (i := 5) (oi := ⟨some 218, _, _, _, _, _⟩) (v := ?_) rfl (by kernel_rfl) (by kernel_rfl) (by kernel_rfl) (fun _ _ _ h => h) (Or.inl ⟨by rfl, ?_⟩) hHeld ?_
      rotate_left
      · (intro wx hSw; (try dsimp only at hSw); go_simp; try with_reducible rfl)
      try simp only [Act.put, List.setIfInBounds_toArray, List.set_cons_zero, List.set_cons_succ]
      refine wpAnyH_take (i := 6) (oi := ⟨some 219, _, _, _, _, _⟩) (v := ?_) rfl (by kernel_rfl) (by kernel_rfl) (by kernel_rfl) (fun _ _ _ h => h) (Or.inl ⟨by rfl, ?_⟩) hHeld ?_
      rotate_left
      · (intro wx hSw; (try dsimp only at hSw); go_simp; try with_reducible rfl)
      try simp only [Act.put, List.setIfInBounds_toArray, List.set_cons_zero, List.set_cons_succ]
      refine wpAnyH_take (i := 8) (oi := ⟨some 221, _, _, _, _, _⟩) (v := ?_) rfl (by kernel_rfl) (by kernel_rfl) (by kernel_rfl) (fun _ _ _ h => h) (Or.inl ⟨by rfl, ?_⟩) hHeld ?_
      rotate_left
      · (intro wx hSw; (try dsimp only at hSw); go_simp; try with_reducible rfl)
      try simp only [Act.put, List.setIfInBounds_toArray, List.set_cons_zero, List.set_cons_succ]
      refine wpAnyH_ready (rs := [7]) (by kernel_rfl) (by simp) (AllReadyH.cons (o := ⟨some 220, _, _, _, _, _⟩) rfl (fun K hK => ?_) AllReadyH.nil)
      go_simp
      refine (HK3.out _ _ (HX.out _ hbd)).mono ?_
      rintro e w10 ⟨rfl, hbq⟩
      replace hbd := hbd.trans (hbq.mono hbd.size)
      clear hbq
      refine hK.out _ _ ?_ (fun hHeld => ?_)
      · exact HC.out _ hbd
      clear hK K
      try simp only [Act.put, List.setIfInBounds_toArray, List.set_cons_zero, List.set_cons_succ]
      refine wpAnyH_ready (rs := [9]) (by kernel_rfl) (by simp) (AllReadyH.cons (o := ⟨some 222, _, _, _, _, _⟩) rfl (fun K hK => ?_) AllReadyH.nil)
      go_simp
      refine (HK4.out _ _ (HX.out _ hbd)).mono ?_
      rintro e w11 ⟨rfl, hbq⟩
      replace hbd := hbd.trans (hbq.mono hbd.size)
      clear hbq
      refine hK.out _ _ ?_ (fun hHeld => ?_)
      · exact HC.out _ hbd
      clear hK K
      try simp only [Act.put, List.setIfInBounds_toArray, List.set_cons_zero, List.set_cons_succ]
      refine wpAnyH_take (i := 10) (oi := ⟨some 223, _, _, _, _, _⟩) (v := ?_) rfl (by kernel_rfl) (by kernel_rfl) (by kernel_rfl) (fun _ _ _ h => h) (Or.inl ⟨by rfl, ?_⟩) hHeld ?_
      rotate_left
      · (intro wx hSw; (try dsimp only at hSw); go_simp; try with_reducible rfl)
      try simp only [Act.put, List.setIfInBounds_toArray, List.set_cons_zero, List.set_cons_succ]
      refine wpAnyH_take (i := 11) (oi := ⟨some 224, _, _, _, _, _⟩) (v := ?_) rfl (by kernel_rfl) (by kernel_rfl) (by kernel_rfl) (fun _ _ _ h => h) (Or.inl ⟨by rfl, ?_⟩) hHeld ?_
      rotate_left
      · (intro wx hSw; (try dsimp only at hSw); go_simp; try with_reducible rfl)
      try simp only [Act.put, List.setIfInBounds_toArray, List.set_cons_zero, List.set_cons_succ]
      refine wpAnyH_done (by kernel_rfl) ?_ _
      refine NoPanic.normal ?_
      go_wp2
      go_roundw
      case rel => exact ⟨j + 1, by have := HJ.out; omega, by go_num, ⟨H.out.trans ((HB7.out.trans (hbd.mono HB7.out.size)).mono H.out.size)⟩⟩
      case measure => simp [intOf]; have := HJ.out; omega
    · obtain rfl : j = 4 := by omega
      rw [show ((4 : Nat) : Int) = 4 from rfl]
      have HBE : Kp (Below wc.heap.size wc wr) := ⟨HB6.out.trans (H.out.mono HB6.out.size)⟩
      have HX9 := Kp.mk (HBT.out _ HBE.out)
      have HK9 := Kp.mk (refcheck_any wr _ T (HRX.out _ HBE.out))
      rw [HCK.out] at HK9
      go_wp2_with (first | (refine wpList_load_row rfl 26 (.tmp 9) rfl g rfl 26 _ (0, 0) _ HX9.out Try.underlying26 rfl HIT.out ?_))
      refine HK9.out.mono ?_
      rintro e w8 ⟨rfl, hb8⟩
      have HB8 := Kp.mk (HBW.out.trans ((HBE.out.trans (hb8.mono HBE.out.size)).mono HBW.out.size))
      clear hb8
      go_wp2_with fail
      refine (HAW.out _).mono ?_
      rintro e w9 ⟨rfl, hb9⟩
      go_wp2
      go_ret
      exact ⟨rfl, HB8.out.trans (hb9.mono HB8.out.size)⟩
end Go.Proofs.Ytbnclajhgkjopaa.lawSt
