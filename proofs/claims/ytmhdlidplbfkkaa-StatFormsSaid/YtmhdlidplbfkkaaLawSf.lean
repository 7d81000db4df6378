/- The first code that applies is told: for every three ints the law StatForms returns true and leaves its arguments as they were. No further condition. -/
import Derived.Test.YtmhdlidplbfkkaaStL
import Derived.Test.YtmhdlidplbfkkaaClose
import Derived.Deep.DeepCutAuto
import Derived.Deep.RegionHeld3
namespace Go.Proofs.Ytmhdlidplbfkkaa.lawSf
open Go.ChangeShapes Go.WideShapes Go.ChangeAt Go.RowKit

set_option maxRecDepth 10000000 in
set_option maxHeartbeats 16000000 in
theorem walk (n m k : Int) (w : World) (hn : -9223372036854775808 ≤ n ∧ n ≤ 9223372036854775807) (hm : -9223372036854775808 ≤ m ∧ m ≤ 9223372036854775807) : Calls Try.prog 3 #[.int .i64 n, .int .i64 m, .int .i64 k] w (YesK w) := by
  have H1 := Kp.mk (lawGood_any w n m hn hm)
  have hI := (good_ins n m).1
  have hNI := (good_ins n m).2
  have hO := (good_outs n m).1
  have hNO := (good_outs n m).2
  have hl := goodOf_lens n m
  have hv := good_version n m
  have hK : bits BinOp.and IntKind.i64 k 15 = k % 16 := and_mask k 4 (by omega)
  have HC : Kp (checkV (goodOf n m) = 0 ∧ checkV (vnull (vzero (goodOf n m))) = 2 ∧ checkV (vtwice (vnull (goodOf n m))) = 4 ∧ checkV (vkind (vtwice (goodOf n m))) = 5 ∧ checkV (vdata (vkind (goodOf n m))) = 6 ∧ checkV (vmoney (vdata (goodOf n m))) = 7 ∧ checkV (vdust (vmoney (goodOf n m))) = 8 ∧ checkV (vdust (goodOf n m)) = 9 ∧ checkV (vzero (vempty (goodOf n m))) = 1 ∧ checkV (vzero (vdust (goodOf n m))) = 2) :=
    ⟨check_good n m, code_zero_null hI hO hl, code_null hI hO hl hv, code_twice hI hO hNI hl hv, code_kind hI hO hNI hl hv, code_data hI hO hNI hNO hl hv, code_money hI hO hNI hNO hl hv, code_dust hI hO hNI hNO hl hv, code_empty, code_dust_zero hI hO hl⟩
  obtain ⟨c, hc, hc0, hc1⟩ : ∃ c : Int, k % 16 = c ∧ 0 ≤ c ∧ c ≤ 15 := ⟨k % 16, rfl, by omega, by omega⟩
  rw [hc] at hK
  have HLN := Kp.mk hl
  clear hI hNI hO hNO hl hv hn hm hc
  generalize goodOf n m = T at *
  go_enter Try.func3, Try.ntmps3
  go_wp2_with fail
  refine H1.out.mono ?_
  rintro e w2 ⟨v2, rfl, hT2, hb2⟩
  obtain ⟨iv, ov, rfl, hv4, hk4, hi2, ho2⟩ := id hT2
  obtain ⟨gi, ci, rfl, _⟩ := hi2.box (by have := HLN.out; omega)
  obtain ⟨go, co, rfl, _⟩ := ho2.box (by have := HLN.out; omega)
  obtain ⟨NI, hNI⟩ : ∃ N, T.ins.length = N := ⟨_, rfl⟩
  obtain ⟨NO, hNO⟩ : ∃ N, T.outs.length = N := ⟨_, rfl⟩
  rw [hNI] at hi2 ⊢
  rw [hNO] at ho2 ⊢
  go_upto_region 2 with fail
  have HF2 : Kp (TxR w2 (.agg #[.int .u32 T.version, .slice (some ⟨gi, 0, none⟩) NI ci, .slice (some ⟨go, 0, none⟩) NO co, .int .u32 T.lock]) T) := ⟨by have := hT2.txR; rw [hNI, hNO] at this; exact this⟩
  have hsi : Many 36 (fun W => InO W w.heap.size) w2 (.slice (some ⟨gi, 0, none⟩) NI ci) T.ins := OwnMany.many (RR := fun W => InO W w.heap.size) hi2 fun _ _ h => h
  have hso : Many 2 (fun W => OutF W w.heap.size) w2 (.slice (some ⟨go, 0, none⟩) NO co) T.outs := OwnMany.many (RR := fun W => OutF W w.heap.size) ho2 fun _ _ h => h
  obtain ⟨W3, hW3⟩ : ∃ W3, w2.alloc (.cells #[.int .u32 T.version, .slice (some ⟨gi, 0, none⟩) NI ci, .slice (some ⟨go, 0, none⟩) NO co, .int .u32 T.lock] 26) = W3 := ⟨_, rfl⟩
  have hb23 : Below w2.heap.size w2 W3 := by rw [← hW3]; exact (Below.refl _ _).alloc (Nat.le_refl _) _
  have HSI : Kp (∀ W, Below W3.heap.size W3 W → Many 36 (fun W => InO W w.heap.size) W (.slice (some ⟨gi, 0, none⟩) NI ci) T.ins) := ⟨fun W hW => by
    have hb := hb23.trans (hW.mono hb23.size)
    exact Many.below hsi hb fun cs x h => h.turn (Keeps.of_below [5, 29] hb) (by decide) (by decide) (Nat.le_refl _)⟩
  have HSO : Kp (∀ W, Below W3.heap.size W3 W → Many 2 (fun W => OutF W w.heap.size) W (.slice (some ⟨go, 0, none⟩) NO co) T.outs) := ⟨fun W hW => by
    have hb := hb23.trans (hW.mono hb23.size)
    exact Many.below hso hb fun cs x h => h.keeps (Keeps.of_below [5] hb) (by decide)⟩
  have HX3 : Kp (Box W3 w2.heap.size 26 #[.int .u32 T.version, .slice (some ⟨gi, 0, none⟩) NI ci, .slice (some ⟨go, 0, none⟩) NO co, .int .u32 T.lock]) := ⟨by rw [← hW3]; exact Box.fresh _ _ _⟩
  have HB3 : Kp (Below w.heap.size w W3) := ⟨hb2.trans (hb23.mono hb2.size)⟩
  have HGG : Kp (w.heap.size ≤ w2.heap.size) := ⟨hb2.size⟩
  have HNE : Kp (T.ins ≠ [] ∧ T.outs ≠ [] ∧ T.ins.length ≤ 4 ∧ T.outs.length ≤ 4) := ⟨by intro e; rw [e] at HLN; have := HLN.out.1; simp at this, by intro e; rw [e] at HLN; have := HLN.out.2.2.1; simp at this, HLN.out.2.1, HLN.out.2.2.2⟩
  have HV4 := Kp.mk (And.intro hv4 hk4)
  rw [hW3]
  clear hT2 hi2 ho2 hb2 hv4 hk4 hsi hso hW3 hb23
  have HNIO := Kp.mk (And.intro hNI hNO)
  clear hNI hNO
  generalize w2.heap.size = g at *
  go_cut [] (fun wx => Kp (TxV wx w.heap.size g T ∧ Below w.heap.size w wx))
  case first =>
    refine wp_region_noPanic ?_
    refine wp_region_held_drew (S := fun _ => True) (by kernel_rfl) ?_ (fun hHeld => ?_)
    · trivial
    refine wpAnyH_take (i := 1) (oi := ⟨some 20, _, _, _, _, _⟩) (v := ?_) rfl (by kernel_rfl) (by kernel_rfl) (by kernel_rfl) (fun _ _ _ h => h) (Or.inl ⟨by rfl, ?_⟩) hHeld ?_
    rotate_left
    · (intro wx hSw; (try dsimp only at hSw); go_simp; try with_reducible rfl)
    try simp only [Act.put, List.setIfInBounds_toArray, List.set_cons_zero, List.set_cons_succ]
    refine wpAnyH_take (i := 5) (oi := ⟨some 24, _, _, _, _, _⟩) (v := ?_) rfl (by kernel_rfl) (by kernel_rfl) (by kernel_rfl) (fun _ _ _ h => h) (Or.inl ⟨by rfl, ?_⟩) hHeld ?_
    rotate_left
    · (intro wx hSw; (try dsimp only at hSw); go_simp; try with_reducible rfl)
    try simp only [Act.put, List.setIfInBounds_toArray, List.set_cons_zero, List.set_cons_succ]
    refine wpAnyH_upto cpLst cpRank cpRd cpV (fun s a wx => ∃ (u19 u21 u22 u23 u25 u26 u27 : Value), a = ⟨List.toArray (((.int .i64 n) : Value) :: (.int .i64 m) :: (.int .i64 k) :: undef :: undef :: undef :: (.bool false) :: (.pointer (some ⟨g, 0, none⟩)) :: undef :: undef :: undef :: undef :: undef :: undef :: undef :: undef :: (.int .i64 n) :: (.int .i64 m) :: (.agg #[.int .u32 T.version, .slice (some ⟨gi, 0, none⟩) NI ci, .slice (some ⟨go, 0, none⟩) NO co, .int .u32 T.lock]) :: u19 :: (.pointer (some ⟨g, 1, none⟩)) :: u21 :: u22 :: u23 :: (.pointer (some ⟨g, 2, none⟩)) :: u25 :: u26 :: u27 :: undef :: undef :: undef :: undef :: undef :: undef :: undef :: undef :: undef :: undef :: undef :: undef :: undef :: undef :: undef :: undef :: undef :: undef :: undef :: undef :: undef :: undef :: undef :: undef :: undef :: undef :: undef :: undef :: undef :: undef :: undef :: undef :: undef :: undef :: undef :: undef :: undef :: undef :: undef :: undef :: undef :: undef :: undef :: undef :: undef :: undef :: undef :: undef :: undef :: undef :: undef :: undef :: undef :: undef :: undef :: undef :: undef :: undef :: undef :: undef :: undef :: undef :: undef :: undef :: undef :: undef :: undef :: undef :: []), []⟩ ∧ CpSt w.heap.size W3 T (.slice (some ⟨gi, 0, none⟩) NI ci) (.slice (some ⟨go, 0, none⟩) NO co) (.pointer (some ⟨g, 1, none⟩)) s u19 u21 u22 u23 u25 u26 u27 wx) 3 ?hrd (fun s hV h => cp_ne s hV h) ?hst ?hend 7 (false, false, false, false, false, false, false) _ _ ⟨by simp, by simp, by simp⟩ (by decide) ?hin
    case hin => exact ⟨undef, undef, undef, undef, undef, undef, undef, rfl, ⟨(Below.refl _ _).drew, by simp, by simp, by simp, by simp, by simp, by simp, by simp⟩⟩
    case hrd =>
      rintro ⟨a, b, c, d, e, f, h⟩ ⟨h1, h2, h3⟩
      cases a <;> cases b <;> cases c <;> cases d <;> cases e <;> cases f <;> cases h <;> first | (exfalso; simp at h1 h2 h3; done) | (show (_ : List Nat) = _; kernel_rfl)
    case hst =>
      rintro ⟨a, b, c, d, e, f, h⟩ act wx hV ⟨u19, u21, u22, u23, u25, u26, u27, rfl, hs⟩ hr i hi
      obtain ⟨h9, hc⟩ := List.mem_filter.1 hi
      simp only [List.mem_cons, List.not_mem_nil, or_false] at h9
      obtain ⟨hv1, hv2, hv3⟩ := hV
      have hx : Box wx g 26 #[.int .u32 T.version, .slice (some ⟨gi, 0, none⟩) NI ci, .slice (some ⟨go, 0, none⟩) NO co, .int .u32 T.lock] := HX3.out.below hs.hb
      rcases h9 with rfl | rfl | rfl | rfl | rfl | rfl | rfl | rfl
      · obtain rfl : a = false := by simpa [cpCond] using hc
        refine wpOp_one (o := ⟨some 19, _, _, _, _, _⟩) rfl rfl ?_
        refine op_noIns ?_
        have ms := hs.mono ((Below.refl wx.heap.size wx).alloc (Nat.le_refl _) (.cells #[] 32))
        exact ⟨trivial, (true, b, c, d, e, f, h), ⟨fun h => ⟨rfl, (hv1 h).2⟩, hv2, fun h => ⟨rfl, (hv3 h).2⟩⟩, rfl, by first | (simp [cpRank, b1]; done) | (simp [cpRank, b1]; omega), .slice (some ⟨wx.heap.size, 0, none⟩) 0 0, u21, u22, u23, u25, u26, u27, rfl, ⟨ms.hb, fun _ _ => ⟨wx.heap.size, rfl, Box.fresh _ _ _, hs.hb.size⟩, ms.h21, ms.h22, ms.h23, ms.h25, ms.h26, ms.h27⟩⟩
      · obtain rfl : b = false := by simpa [cpCond] using hc
        refine wpOp_one (o := ⟨some 21, _, _, _, _, _⟩) rfl rfl ?_
        refine op_getIns 20 g 1 _ _ _ rfl (hx.cell 1) ?_
        exact ⟨trivial, (a, true, c, d, e, f, h), ⟨fun h => ⟨(hv1 h).1, rfl⟩, hv2, fun h => ⟨(hv3 h).1, rfl, (hv3 h).2.2⟩⟩, rfl, by first | (simp [cpRank, b1]; done) | (simp [cpRank, b1]; omega), u19, _, u22, u23, u25, u26, u27, rfl, ⟨hs.hb, hs.h19, fun _ => rfl, hs.h22, hs.h23, hs.h25, hs.h26, hs.h27⟩⟩
      · obtain ⟨⟨rfl, rfl⟩, rfl⟩ : (a = true ∧ b = true) ∧ c = false := by simpa [cpCond] using hc
        obtain ⟨gg, rfl, hxg, hgg⟩ := hs.h19 rfl rfl
        obtain rfl := hs.h21 rfl
        obtain ⟨i1, hia, hib, hic, hid⟩ := info_parts3 infoInZ
        refine wpOp_one (o := ⟨some 22, _, _, _, _, _⟩) rfl rfl ?_
        refine wp_append_rows (R := fun W => InO W w.heap.size) (RR := fun W => InO W w.heap.size) (.tmp 19) (.tmp 21) 23 rfl W3.heap.size i1 _ 96 Try.underlying23 hia hib hic hid (by rfl) (by decide) _ [] rfl (OwnMany.empty 36 _ hxg hgg) _ T.ins rfl (HSI.out wx hs.hb) HNE.out.1 (fun cs d h => h) (fun cs d h => h.inR.one) (by have := HNE.out.2.2.1; simp; omega) (by decide) hs.hb.size [5, 29, 35, 26] (by decide) (fun w' cs d hk h => h.turn hk (by decide) (by decide) (Nat.le_refl _)) ?_
        intro v6 w6 hm6 hg6 hk6
        rw [List.nil_append] at hm6
        have hf : f = false := by cases f with
          | false => rfl
          | true => exact absurd (hv2 rfl).2.2 (by simp)
        subst hf
        have hb6 : Below W3.heap.size W3 w6 := OwnMany.grows (OwnMany.empty 36 (InO wx w.heap.size) hxg hgg) hs.hb hg6 (Nat.le_refl _)
        refine ⟨trivial, (true, true, true, d, e, false, h), ⟨fun _ => ⟨rfl, rfl⟩, by simp, fun h => ⟨rfl, rfl, rfl, (hv3 h).2.2.2⟩⟩, rfl, by first | (simp [cpRank, b1]; done) | (simp [cpRank, b1]; omega), _, _, v6, u23, u25, u26, u27, rfl, ⟨hb6, by simp, fun _ => rfl, fun _ => hm6, fun h1 h2 => ?_, hs.h25, by simp, hs.h27⟩⟩
        obtain ⟨gq, q1, q2, q3⟩ := hs.h23 h1 h2
        exact ⟨gq, q1, Keeps.box hk6 (by decide) q2, q3⟩
      · obtain rfl : d = false := by simpa [cpCond] using hc
        refine wpOp_one (o := ⟨some 23, _, _, _, _, _⟩) rfl rfl ?_
        refine op_noOuts ?_
        have ms := hs.mono ((Below.refl wx.heap.size wx).alloc (Nat.le_refl _) (.cells #[] 35))
        exact ⟨trivial, (a, b, c, true, e, f, h), ⟨hv1, fun h => ⟨rfl, (hv2 h).2⟩, hv3⟩, rfl, by first | (simp [cpRank, b1]; done) | (simp [cpRank, b1]; omega), u19, u21, u22, .slice (some ⟨wx.heap.size, 0, none⟩) 0 0, u25, u26, u27, rfl, ⟨ms.hb, ms.h19, ms.h21, ms.h22, fun _ _ => ⟨wx.heap.size, rfl, Box.fresh _ _ _, hs.hb.size⟩, ms.h25, ms.h26, ms.h27⟩⟩
      · obtain rfl : e = false := by simpa [cpCond] using hc
        refine wpOp_one (o := ⟨some 25, _, _, _, _, _⟩) rfl rfl ?_
        refine op_getOuts 24 g 2 _ _ _ rfl (hx.cell 2) ?_
        exact ⟨trivial, (a, b, c, d, true, f, h), ⟨hv1, fun h => ⟨(hv2 h).1, rfl, (hv2 h).2.2⟩, fun h => ⟨(hv3 h).1, (hv3 h).2.1, (hv3 h).2.2.1, rfl⟩⟩, rfl, by first | (simp [cpRank, b1]; done) | (simp [cpRank, b1]; omega), u19, u21, u22, u23, _, u26, u27, rfl, ⟨hs.hb, hs.h19, hs.h21, hs.h22, hs.h23, fun _ => rfl, hs.h26, hs.h27⟩⟩
      · obtain ⟨⟨⟨rfl, rfl⟩, rfl⟩, rfl⟩ : ((d = true ∧ e = true) ∧ c = true) ∧ f = false := by simpa [cpCond] using hc
        obtain ⟨gg, rfl, hxg, hgg⟩ := hs.h23 rfl rfl
        obtain rfl := hs.h25 rfl
        obtain ⟨i1, hia, hib, hic, hid⟩ := info_parts3 infoOutZ
        refine wpOp_one (o := ⟨some 26, _, _, _, _, _⟩) rfl rfl ?_
        refine wp_append_rows (R := fun W => OutF W w.heap.size) (RR := fun W => OutF W w.heap.size) (.tmp 23) (.tmp 25) 24 rfl W3.heap.size i1 _ 32 Try.underlying24 hia hib hic hid (by rfl) (by decide) _ [] rfl (OwnMany.empty 2 _ hxg hgg) _ T.outs rfl (HSO.out wx hs.hb) HNE.out.2.1 (fun cs d h => h) (fun cs d h => outF_one h) (by have := HNE.out.2.2.2; simp; omega) (by decide) hs.hb.size [5, 29, 32, 26] (by decide) (fun w' cs d hk h => h.keeps hk (by decide)) ?_
        intro v6 w6 hm6 hg6 hk6
        rw [List.nil_append] at hm6
        have hb6 : Below W3.heap.size W3 w6 := OwnMany.grows (OwnMany.empty 2 (OutF wx w.heap.size) hxg hgg) hs.hb hg6 (Nat.le_refl _)
        exact ⟨trivial, (a, b, true, true, true, true, h), ⟨hv1, fun _ => ⟨rfl, rfl, rfl⟩, hv3⟩, rfl, by first | (simp [cpRank, b1]; done) | (simp [cpRank, b1]; omega), u19, u21, u22, _, _, v6, u27, rfl, ⟨hb6, by simp, hs.h21, fun _ => OwnMany.turn (hs.h22 rfl) hk6 (by decide) (Nat.le_refl _) (fun cs d h => h.turn hk6 (by decide) (by decide) (Nat.le_refl _)), by simp, hs.h25, fun _ => hm6, hs.h27⟩⟩
      · obtain ⟨⟨⟨⟨rfl, rfl⟩, rfl⟩, rfl⟩, rfl⟩ : (((a = true ∧ b = true) ∧ c = true) ∧ e = true) ∧ h = false := by simpa [cpCond] using hc
        refine wpOp_one (o := ⟨some 27, _, _, _, _, _⟩) rfl rfl ?_
        refine op_field1 7 g rfl ?_
        exact ⟨trivial, (true, true, true, d, true, f, true), ⟨hv1, hv2, fun _ => ⟨rfl, rfl, rfl, rfl⟩⟩, rfl, by first | (simp [cpRank, b1]; done) | (simp [cpRank, b1]; omega), u19, u21, u22, u23, u25, u26, _, rfl, ⟨hs.hb, hs.h19, hs.h21, hs.h22, hs.h23, hs.h25, hs.h26, fun _ => rfl⟩⟩
      · obtain ⟨rfl, rfl⟩ : f = true ∧ h = true := by simpa [cpCond] using hc
        obtain ⟨rfl, rfl, rfl⟩ := hv2 rfl
        obtain ⟨rfl, rfl⟩ := hv1 rfl
        exact absurd rfl hr
    case hend =>
      rintro ⟨a, b, c, d, e, f, h⟩ act wx hV ⟨u19, u21, u22, u23, u25, u26, u27, rfl, hs⟩ hr
      obtain ⟨rfl, rfl, rfl, rfl, rfl, rfl, rfl⟩ : a = true ∧ b = true ∧ c = true ∧ d = true ∧ e = true ∧ f = true ∧ h = true := by
        cases a <;> cases b <;> cases c <;> cases d <;> cases e <;> cases f <;> cases h <;> simp [cpRank, b1] at hr ⊢
      have hi6 := hs.h22 rfl
      have ho6 := hs.h26 rfl
      have hx : Box wx g 26 #[.int .u32 T.version, .slice (some ⟨gi, 0, none⟩) NI ci, .slice (some ⟨go, 0, none⟩) NO co, .int .u32 T.lock] := HX3.out.below hs.hb
      obtain ⟨A6, c6, rfl⟩ := hi6.slice
      obtain ⟨A7, c7, rfl⟩ := ho6.slice
      have f1 := hx.warm 1
      have c1 := hx.cell 1
      have hx1 := hx.set 1 (.slice A6 T.ins.length c6)
      have f2 := hx.warm 2
      have c2 := hx.cell 2
      obtain rfl := hs.h27 rfl
      have hx2 := hx1.set 2 (.slice A7 T.outs.length c7)
      have hk12 : Keeps [5, 29, 32, 35] wx ((wx.setCell ⟨g, 1, none⟩ (.slice A6 T.ins.length c6)).setCell ⟨g, 2, none⟩ (.slice A7 T.outs.length c7)) := (Keeps.of_set hx (by decide) 1 _).trans (Keeps.of_set hx1 (by decide) 2 _)
      have HE : Kp (TxV ((wx.setCell ⟨g, 1, none⟩ (.slice A6 T.ins.length c6)).setCell ⟨g, 2, none⟩ (.slice A7 T.outs.length c7)) w.heap.size g T ∧ Below w.heap.size w ((wx.setCell ⟨g, 1, none⟩ (.slice A6 T.ins.length c6)).setCell ⟨g, 2, none⟩ (.slice A7 T.outs.length c7))) := ⟨⟨_, _, hx2, HV4.out.1, HV4.out.2, OwnMany.turn hi6 hk12 (by decide) HB3.out.size (fun cs d h => h.turn hk12 (by decide) (by decide) (Nat.le_refl _)), OwnMany.turn ho6 hk12 (by decide) HB3.out.size (fun cs d h => h.keeps hk12 (by decide))⟩, ((HB3.out.trans (hs.hb.mono HB3.out.size)).setCell HGG.out _).setCell HGG.out _⟩
      have hHeld : True := trivial
      clear hi6 ho6 hx hx1 hx2 hk12 hs hV hr
      refine wpAnyH_ready (rs := [9]) (by kernel_rfl) (by simp) (AllReadyH.cons (o := ⟨none, _, _, _, _, _⟩) rfl (fun K hK => ?_) AllReadyH.nil)
      go_simp
      refine hK.out _ _ ?_ (fun hHeld => ?_)
      · trivial
      clear hK K
      try simp only [Act.put, List.setIfInBounds_toArray, List.set_cons_zero, List.set_cons_succ]
      refine wpAnyH_take (i := 10) (oi := ⟨some 28, _, _, _, _, _⟩) (v := ?_) rfl (by kernel_rfl) (by kernel_rfl) (by kernel_rfl) (fun _ _ _ h => h) (Or.inl ⟨by rfl, ?_⟩) hHeld ?_
      rotate_left
      · (intro wx hSw; (try dsimp only at hSw); go_simp; try with_reducible rfl)
      try simp only [Act.put, List.setIfInBounds_toArray, List.set_cons_zero, List.set_cons_succ]
      refine wpAnyH_ready (rs := [11]) (by kernel_rfl) (by simp) (AllReadyH.cons (o := ⟨none, _, _, _, _, _⟩) rfl (fun K hK => ?_) AllReadyH.nil)
      go_simp
      refine hK.out _ _ ?_ (fun hHeld => ?_)
      · trivial
      clear hK K
      try simp only [Act.put, List.setIfInBounds_toArray, List.set_cons_zero, List.set_cons_succ]
      refine wpAnyH_done (by kernel_rfl) ?_ _
      refine NoPanic.normal ?_
      go_wp2
      go_meet
      case rel => exact HE
  have HTV0 := hcut
  obtain ⟨W5, rfl⟩ : ∃ W : World, W = wc := ⟨_, rfl⟩
  have HIT : Kp ((Try.prog.info? 26).map (·.size) = some 4) := ⟨by kernel_rfl⟩
  clear hcut HSI HSO HX3 HF2 HNE
  have hcs : c = 0 ∨ c = 1 ∨ c = 2 ∨ c = 3 ∨ c = 4 ∨ c = 5 ∨ c = 6 ∨ c = 7 ∨ c = 8 ∨ 9 ≤ c := by omega
  rcases hcs with rfl | rfl | rfl | rfl | rfl | rfl | rfl | rfl | rfl | h9
  · go_wp2_with fail
    refine (sfVersion_any w _ g T HTV0.out.1 HTV0.out.2 HGG.out).mono ?_
    rintro e w6 ⟨rfl, hT6, hb6⟩
    have HTV1 := Kp.mk (And.intro hT6 hb6)
    clear hT6 hb6
    go_wp2_with fail
    refine (sfNull_any w _ g (vzero T) HTV1.out.1 HTV1.out.2 HGG.out ⟨(by have := HLN.out; have := vlen_vzero T; omega), (by have := HLN.out; have := vlen_vzero T; omega)⟩ ⟨(by have := HLN.out; have := vlen_vzero T; omega), (by have := HLN.out; have := vlen_vzero T; omega)⟩).mono ?_
    rintro e w7 ⟨rfl, hT7, hb7⟩
    have HTV2 := Kp.mk (And.intro hT7 hb7)
    clear hT7 hb7
    obtain ⟨a0, a1, a2, a3, hx9, hr9⟩ := TxV.txR HTV2.out.1
    have HX9 := Kp.mk hx9
    have HK9 := Kp.mk (scheck_any _ _ _ hr9)
    rw [HC.out.2.1] at HK9
    clear hx9 hr9
    go_wp2_with (first | (refine wpList_load_row rfl 26 (.tmp 7) rfl g rfl 26 _ (0, 0) _ HX9.out Try.underlying26 rfl HIT.out ?_))
    refine HK9.out.mono ?_
    rintro e w11 ⟨rfl, hb11⟩
    have HB11 := Kp.mk (HTV2.out.2.trans (hb11.mono HTV2.out.2.size))
    clear hb11
    go_wp2_with fail
    refine (awake8_any _).mono ?_
    rintro e w12 ⟨rfl, hb12⟩
    go_wp2
    go_ret
    exact ⟨rfl, HB11.out.trans (hb12.mono HB11.out.size)⟩
  · go_wp2_with fail
    refine (sfNull_any w _ g T HTV0.out.1 HTV0.out.2 HGG.out ⟨(by have := HLN.out; omega), (by have := HLN.out; omega)⟩ ⟨(by have := HLN.out; omega), (by have := HLN.out; omega)⟩).mono ?_
    rintro e w6 ⟨rfl, hT6, hb6⟩
    have HTV1 := Kp.mk (And.intro hT6 hb6)
    clear hT6 hb6
    go_wp2_with fail
    refine (sfTwice_any w _ g (vnull T) HTV1.out.1 HTV1.out.2 HGG.out ⟨(by have := HLN.out; have := vlen_vnull T; omega), (by have := HLN.out; have := vlen_vnull T; omega)⟩ ⟨(by have := HLN.out; have := vlen_vnull T; omega), (by have := HLN.out; have := vlen_vnull T; omega)⟩).mono ?_
    rintro e w7 ⟨rfl, hT7, hb7⟩
    have HTV2 := Kp.mk (And.intro hT7 hb7)
    clear hT7 hb7
    obtain ⟨a0, a1, a2, a3, hx9, hr9⟩ := TxV.txR HTV2.out.1
    have HX9 := Kp.mk hx9
    have HK9 := Kp.mk (scheck_any _ _ _ hr9)
    rw [HC.out.2.2.1] at HK9
    clear hx9 hr9
    go_wp2_with (first | (refine wpList_load_row rfl 26 (.tmp 7) rfl g rfl 26 _ (0, 0) _ HX9.out Try.underlying26 rfl HIT.out ?_))
    refine HK9.out.mono ?_
    rintro e w11 ⟨rfl, hb11⟩
    have HB11 := Kp.mk (HTV2.out.2.trans (hb11.mono HTV2.out.2.size))
    clear hb11
    go_wp2_with fail
    refine (awake8_any _).mono ?_
    rintro e w12 ⟨rfl, hb12⟩
    go_wp2
    go_ret
    exact ⟨rfl, HB11.out.trans (hb12.mono HB11.out.size)⟩
  · go_wp2_with fail
    refine (sfTwice_any w _ g T HTV0.out.1 HTV0.out.2 HGG.out ⟨(by have := HLN.out; omega), (by have := HLN.out; omega)⟩ ⟨(by have := HLN.out; omega), (by have := HLN.out; omega)⟩).mono ?_
    rintro e w6 ⟨rfl, hT6, hb6⟩
    have HTV1 := Kp.mk (And.intro hT6 hb6)
    clear hT6 hb6
    go_wp2_with fail
    refine (sfKind_any w _ g (vtwice T) HTV1.out.1 HTV1.out.2 (by have := HLN.out; have := vlen_vtwice T; omega) (by have := HLN.out; have := vlen_vtwice T; omega)).mono ?_
    rintro e w7 ⟨rfl, hT7, hb7⟩
    have HTV2 := Kp.mk (And.intro hT7 hb7)
    clear hT7 hb7
    obtain ⟨a0, a1, a2, a3, hx9, hr9⟩ := TxV.txR HTV2.out.1
    have HX9 := Kp.mk hx9
    have HK9 := Kp.mk (scheck_any _ _ _ hr9)
    rw [HC.out.2.2.2.1] at HK9
    clear hx9 hr9
    go_wp2_with (first | (refine wpList_load_row rfl 26 (.tmp 7) rfl g rfl 26 _ (0, 0) _ HX9.out Try.underlying26 rfl HIT.out ?_))
    refine HK9.out.mono ?_
    rintro e w11 ⟨rfl, hb11⟩
    have HB11 := Kp.mk (HTV2.out.2.trans (hb11.mono HTV2.out.2.size))
    clear hb11
    go_wp2_with fail
    refine (awake8_any _).mono ?_
    rintro e w12 ⟨rfl, hb12⟩
    go_wp2
    go_ret
    exact ⟨rfl, HB11.out.trans (hb12.mono HB11.out.size)⟩
  · go_wp2_with fail
    refine (sfKind_any w _ g T HTV0.out.1 HTV0.out.2 (by have := HLN.out; omega) (by have := HLN.out; omega)).mono ?_
    rintro e w6 ⟨rfl, hT6, hb6⟩
    have HTV1 := Kp.mk (And.intro hT6 hb6)
    clear hT6 hb6
    go_wp2_with fail
    refine (sfData_any w _ g (vkind T) HTV1.out.1 HTV1.out.2 HGG.out ⟨(by have := HLN.out; have := vlen_vkind T; omega), (by have := HLN.out; have := vlen_vkind T; omega)⟩ ⟨(by have := HLN.out; have := vlen_vkind T; omega), (by have := HLN.out; have := vlen_vkind T; omega)⟩).mono ?_
    rintro e w7 ⟨rfl, hT7, hb7⟩
    have HTV2 := Kp.mk (And.intro hT7 hb7)
    clear hT7 hb7
    obtain ⟨a0, a1, a2, a3, hx9, hr9⟩ := TxV.txR HTV2.out.1
    have HX9 := Kp.mk hx9
    have HK9 := Kp.mk (scheck_any _ _ _ hr9)
    rw [HC.out.2.2.2.2.1] at HK9
    clear hx9 hr9
    go_wp2_with (first | (refine wpList_load_row rfl 26 (.tmp 7) rfl g rfl 26 _ (0, 0) _ HX9.out Try.underlying26 rfl HIT.out ?_))
    refine HK9.out.mono ?_
    rintro e w11 ⟨rfl, hb11⟩
    have HB11 := Kp.mk (HTV2.out.2.trans (hb11.mono HTV2.out.2.size))
    clear hb11
    go_wp2_with fail
    refine (awake8_any _).mono ?_
    rintro e w12 ⟨rfl, hb12⟩
    go_wp2
    go_ret
    exact ⟨rfl, HB11.out.trans (hb12.mono HB11.out.size)⟩
  · go_wp2_with fail
    refine (sfData_any w _ g T HTV0.out.1 HTV0.out.2 HGG.out ⟨(by have := HLN.out; omega), (by have := HLN.out; omega)⟩ ⟨(by have := HLN.out; omega), (by have := HLN.out; omega)⟩).mono ?_
    rintro e w6 ⟨rfl, hT6, hb6⟩
    have HTV1 := Kp.mk (And.intro hT6 hb6)
    clear hT6 hb6
    go_wp2_with fail
    refine (sfMoney_any w _ g (vdata T) HTV1.out.1 HTV1.out.2 (by have := HLN.out; have := vlen_vdata T; omega) (by have := HLN.out; have := vlen_vdata T; omega) (by have := HLN.out; have := vlen_vdata T; omega)).mono ?_
    rintro e w7 ⟨rfl, hT7, hb7⟩
    have HTV2 := Kp.mk (And.intro hT7 hb7)
    clear hT7 hb7
    obtain ⟨a0, a1, a2, a3, hx9, hr9⟩ := TxV.txR HTV2.out.1
    have HX9 := Kp.mk hx9
    have HK9 := Kp.mk (scheck_any _ _ _ hr9)
    rw [HC.out.2.2.2.2.2.1] at HK9
    clear hx9 hr9
    go_wp2_with (first | (refine wpList_load_row rfl 26 (.tmp 7) rfl g rfl 26 _ (0, 0) _ HX9.out Try.underlying26 rfl HIT.out ?_))
    refine HK9.out.mono ?_
    rintro e w11 ⟨rfl, hb11⟩
    have HB11 := Kp.mk (HTV2.out.2.trans (hb11.mono HTV2.out.2.size))
    clear hb11
    go_wp2_with fail
    refine (awake8_any _).mono ?_
    rintro e w12 ⟨rfl, hb12⟩
    go_wp2
    go_ret
    exact ⟨rfl, HB11.out.trans (hb12.mono HB11.out.size)⟩
  · go_wp2_with fail
    refine (sfMoney_any w _ g T HTV0.out.1 HTV0.out.2 (by have := HLN.out; omega) (by have := HLN.out; omega) (by have := HLN.out; omega)).mono ?_
    rintro e w6 ⟨rfl, hT6, hb6⟩
    have HTV1 := Kp.mk (And.intro hT6 hb6)
    clear hT6 hb6
    go_wp2_with fail
    refine (sfDust_any w _ g (vmoney T) HTV1.out.1 HTV1.out.2 HGG.out ⟨(by have := HLN.out; have := vlen_vmoney T; omega), (by have := HLN.out; have := vlen_vmoney T; omega)⟩ ⟨(by have := HLN.out; have := vlen_vmoney T; omega), (by have := HLN.out; have := vlen_vmoney T; omega)⟩).mono ?_
    rintro e w7 ⟨rfl, hT7, hb7⟩
    have HTV2 := Kp.mk (And.intro hT7 hb7)
    clear hT7 hb7
    obtain ⟨a0, a1, a2, a3, hx9, hr9⟩ := TxV.txR HTV2.out.1
    have HX9 := Kp.mk hx9
    have HK9 := Kp.mk (scheck_any _ _ _ hr9)
    rw [HC.out.2.2.2.2.2.2.1] at HK9
    clear hx9 hr9
    go_wp2_with (first | (refine wpList_load_row rfl 26 (.tmp 7) rfl g rfl 26 _ (0, 0) _ HX9.out Try.underlying26 rfl HIT.out ?_))
    refine HK9.out.mono ?_
    rintro e w11 ⟨rfl, hb11⟩
    have HB11 := Kp.mk (HTV2.out.2.trans (hb11.mono HTV2.out.2.size))
    clear hb11
    go_wp2_with fail
    refine (awake8_any _).mono ?_
    rintro e w12 ⟨rfl, hb12⟩
    go_wp2
    go_ret
    exact ⟨rfl, HB11.out.trans (hb12.mono HB11.out.size)⟩
  · go_wp2_with fail
    refine (sfDust_any w _ g T HTV0.out.1 HTV0.out.2 HGG.out ⟨(by have := HLN.out; omega), (by have := HLN.out; omega)⟩ ⟨(by have := HLN.out; omega), (by have := HLN.out; omega)⟩).mono ?_
    rintro e w6 ⟨rfl, hT6, hb6⟩
    have HTV1 := Kp.mk (And.intro hT6 hb6)
    clear hT6 hb6
    obtain ⟨a0, a1, a2, a3, hx9, hr9⟩ := TxV.txR HTV1.out.1
    have HX9 := Kp.mk hx9
    have HK9 := Kp.mk (scheck_any _ _ _ hr9)
    rw [HC.out.2.2.2.2.2.2.2.1] at HK9
    clear hx9 hr9
    go_wp2_with (first | (refine wpList_load_row rfl 26 (.tmp 7) rfl g rfl 26 _ (0, 0) _ HX9.out Try.underlying26 rfl HIT.out ?_))
    refine HK9.out.mono ?_
    rintro e w11 ⟨rfl, hb11⟩
    have HB11 := Kp.mk (HTV1.out.2.trans (hb11.mono HTV1.out.2.size))
    clear hb11
    go_wp2_with fail
    refine (awake8_any _).mono ?_
    rintro e w12 ⟨rfl, hb12⟩
    go_wp2
    go_ret
    exact ⟨rfl, HB11.out.trans (hb12.mono HB11.out.size)⟩
  · obtain ⟨iv0, ov0, hx0, hv0, hk0, hi0, ho0⟩ := HTV0.out.1
    have f2 := hx0.warm 2
    have c2 := hx0.cell 2
    have hk12 : Keeps [5, 29, 32, 35] W5 (W5.setCell ⟨g, 2, none⟩ (.slice none 0 0)) := Keeps.of_set hx0 (by decide) 2 _
    have HTV1 : Kp (TxV (W5.setCell ⟨g, 2, none⟩ (.slice none 0 0)) w.heap.size g (vempty T) ∧ Below w.heap.size w (W5.setCell ⟨g, 2, none⟩ (.slice none 0 0))) := ⟨⟨_, _, hx0.set 2 _, hv0, hk0, OwnMany.turn hi0 hk12 (by decide) (Nat.le_refl _) (fun cs d h => h.turn hk12 (by decide) (by decide) (Nat.le_refl _)), OwnMany.nil _ _ _ _ _⟩, HTV0.out.2.setCell HGG.out _⟩
    obtain ⟨ov1, hov⟩ : ∃ v, v = ov0 := ⟨_, rfl⟩
    clear hx0 hv0 hk0 hi0 ho0 hk12 hov
    go_wp2_with fail
    refine (sfVersion_any w _ g (vempty T) HTV1.out.1 HTV1.out.2 HGG.out).mono ?_
    rintro e w7 ⟨rfl, hT7, hb7⟩
    have HTV2 := Kp.mk (And.intro hT7 hb7)
    clear hT7 hb7
    obtain ⟨a0, a1, a2, a3, hx9, hr9⟩ := TxV.txR HTV2.out.1
    have HX9 := Kp.mk hx9
    have HK9 := Kp.mk (scheck_any _ _ _ hr9)
    rw [HC.out.2.2.2.2.2.2.2.2.1] at HK9
    clear hx9 hr9
    go_wp2_with (first | (refine wpList_load_row rfl 26 (.tmp 7) rfl g rfl 26 _ (0, 0) _ HX9.out Try.underlying26 rfl HIT.out ?_))
    refine HK9.out.mono ?_
    rintro e w11 ⟨rfl, hb11⟩
    have HB11 := Kp.mk (HTV2.out.2.trans (hb11.mono HTV2.out.2.size))
    clear hb11
    go_wp2_with fail
    refine (awake8_any _).mono ?_
    rintro e w12 ⟨rfl, hb12⟩
    go_wp2
    go_ret
    exact ⟨rfl, HB11.out.trans (hb12.mono HB11.out.size)⟩
  · go_wp2_with fail
    refine (sfDust_any w _ g T HTV0.out.1 HTV0.out.2 HGG.out ⟨(by have := HLN.out; omega), (by have := HLN.out; omega)⟩ ⟨(by have := HLN.out; omega), (by have := HLN.out; omega)⟩).mono ?_
    rintro e w6 ⟨rfl, hT6, hb6⟩
    have HTV1 := Kp.mk (And.intro hT6 hb6)
    clear hT6 hb6
    go_wp2_with fail
    refine (sfVersion_any w _ g (vdust T) HTV1.out.1 HTV1.out.2 HGG.out).mono ?_
    rintro e w7 ⟨rfl, hT7, hb7⟩
    have HTV2 := Kp.mk (And.intro hT7 hb7)
    clear hT7 hb7
    obtain ⟨a0, a1, a2, a3, hx9, hr9⟩ := TxV.txR HTV2.out.1
    have HX9 := Kp.mk hx9
    have HK9 := Kp.mk (scheck_any _ _ _ hr9)
    rw [HC.out.2.2.2.2.2.2.2.2.2] at HK9
    clear hx9 hr9
    go_wp2_with (first | (refine wpList_load_row rfl 26 (.tmp 7) rfl g rfl 26 _ (0, 0) _ HX9.out Try.underlying26 rfl HIT.out ?_))
    refine HK9.out.mono ?_
    rintro e w11 ⟨rfl, hb11⟩
    have HB11 := Kp.mk (HTV2.out.2.trans (hb11.mono HTV2.out.2.size))
    clear hb11
    go_wp2_with fail
    refine (awake8_any _).mono ?_
    rintro e w12 ⟨rfl, hb12⟩
    go_wp2
    go_ret
    exact ⟨rfl, HB11.out.trans (hb12.mono HB11.out.size)⟩
  · have e0 : (c = 0) = False := eq_false (by omega)
    have e1 : (c = 1) = False := eq_false (by omega)
    have e2 : (c = 2) = False := eq_false (by omega)
    have e3 : (c = 3) = False := eq_false (by omega)
    have e4 : (c = 4) = False := eq_false (by omega)
    have e5 : (c = 5) = False := eq_false (by omega)
    have e6 : (c = 6) = False := eq_false (by omega)
    have e7 : (c = 7) = False := eq_false (by omega)
    have e8 : (c = 8) = False := eq_false (by omega)
    have q0 : (c == 0) = false := by simp; omega
    have q1 : (c == 1) = false := by simp; omega
    have q2 : (c == 2) = false := by simp; omega
    have q3 : (c == 3) = false := by simp; omega
    have q4 : (c == 4) = false := by simp; omega
    have q5 : (c == 5) = false := by simp; omega
    have q6 : (c == 6) = false := by simp; omega
    have q7 : (c == 7) = false := by simp; omega
    have q8 : (c == 8) = false := by simp; omega
    obtain ⟨a0, a1, a2, a3, hx9, hr9⟩ := TxV.txR HTV0.out.1
    have HX9 := Kp.mk hx9
    have HK9 := Kp.mk (scheck_any _ _ _ hr9)
    rw [HC.out.1] at HK9
    clear hx9 hr9
    go_wp2_with (first | (refine wpList_load_row rfl 26 (.tmp 7) rfl g rfl 26 _ (0, 0) _ HX9.out Try.underlying26 rfl HIT.out ?_))
    refine HK9.out.mono ?_
    rintro e w11 ⟨rfl, hb11⟩
    have HB11 := Kp.mk (HTV0.out.2.trans (hb11.mono HTV0.out.2.size))
    clear hb11
    go_wp2_with fail
    refine (awake8_any _).mono ?_
    rintro e w12 ⟨rfl, hb12⟩
    go_wp2
    go_ret
    exact ⟨rfl, HB11.out.trans (hb12.mono HB11.out.size)⟩

set_option maxRecDepth 100000 in
theorem lifted (os : Os) (started : os.Started) (H : Type) (enc : TypeId × Value → H) :
    ReturnsInHanded {} Try.checked os 3 .any (Rows.statFormsSpec.pre6 enc Try.prog Try.f3 Rows.statFormsRow.domain false) (Rows.statFormsSpec.post enc Try.prog Try.f3 false true false false) := by
  refine returnsInHanded_of_change (C := Try.checked) ownKnobNone started (by kernel_rfl) Try.func3
    (ChangeSpec.witness6 (enc := enc) (C := Try.checked) false ⟨#[], #[.int .i64 0, .int .i64 0, .int .i64 0], []⟩ 8 (by kernel_rfl) (by kernel_rfl) (by kernel_rfl) (by kernel_rfl)) ?_
  intro W base args ds gs before hval0 hW _ _
  have hval : ∀ (j : Nat) t v, Try.f3.params[j]? = some t → args[j]? = some v → Value.okWide Try.prog W .any base t v := hval0
  have hW' := hW
  obtain ⟨p, q, hA0, hV, rfl, _, _⟩ := hW
  have hA : DataW.TrodAll enc Try.prog W 0 (fun _ => true) true Try.f3.params.toList args.toList ds p := hA0
  rw [Try.params3] at hA hval
  obtain ⟨v0, vs0, d0, ds0, p0, q0, hargs, rfl, rfl, h0, r0⟩ := trodAll_cons hA
  obtain ⟨v1, vs1, d1, ds1, p1, q1, rfl, rfl, rfl, h1, r1⟩ := trodAll_cons r0
  obtain ⟨v2, vs2, d2, ds2, p2, q2, rfl, rfl, rfl, h2, r2⟩ := trodAll_cons r1
  obtain ⟨rfl, rfl, rfl⟩ := trodAll_nil r2
  obtain rfl : args = #[v0, v1, v2] := by cases args; simp_all
  obtain ⟨rfl, rfl⟩ := trodVars_none hV
  obtain ⟨a0, rfl, rfl, rfl, w0⟩ := open_int Try.underlying3 (hval 0 3 v0 rfl rfl) h0
  have b0 := bd_i64 w0
  obtain ⟨a1, rfl, rfl, rfl, w1⟩ := open_int Try.underlying3 (hval 1 3 v1 rfl rfl) h1
  have b1 := bd_i64 w1
  obtain ⟨a2, rfl, rfl, rfl, w2⟩ := open_int Try.underlying3 (hval 2 3 v2 rfl rfl) h2
  have b2 := bd_i64 w2
  clear hA0 hval0
  refine (walk a0 a1 a2 W b0 b1).mono fun e W' ⟨he, hb⟩ => ?_
  subst he
  exact ⟨_, rfl, law_post hW' rfl rfl (by kernel_rfl) rfl hb⟩

set_option maxRecDepth 100000 in
theorem over : Rows.statFormsRow.holds Try.pinned (OpenSpec.ofChange Rows.statFormsSpec) :=
  OpenClaim.holds_of_wide 3 Try.f3 rfl rfl rfl rfl rfl rfl rfl ⟨rfl, rfl, rfl, rfl, rfl⟩ rfl rfl rfl rfl rfl (by kernel_rfl) Try.func3 (by kernel_rfl)
    (of_decide_eq_true (by kernel_rfl)) (by unfold Func.isWrapper; first | (rw [if_pos (by decide +kernel)]; kernel_rfl) | (rw [if_neg (by decide +kernel)]; exact ⟨rfl, rfl⟩))
    (fun os started H enc _ => lifted os started H enc)

/-- The statement. -/
theorem proved : Rows.StatFormsSaid :=
  over
end Go.Proofs.Ytmhdlidplbfkkaa.lawSf
