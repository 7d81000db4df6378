/- awake of layer 8: what the document fixes. -/
import Derived.Test.YtbnclajhgkjopaaStG
import Derived.Test.YtbnclajhgkjopaaStD
namespace Go.Proofs.Ytbnclajhgkjopaa
open Go.RowKit

def nothing : TxD := ⟨0, [], [], 0⟩
theorem nothing_r (W : World) : TxR W (.agg #[.int .u32 0, .slice none 0 0, .slice none 0 0, .int .u32 0]) nothing := ⟨_, _, rfl, by decide, by decide, Many.nil _ _ _, Many.nil _ _ _⟩
theorem check_nothing : checkV nothing = 1 := by decide +kernel
def nullIn : InD := ⟨zeros 32, 4294967295, [], 0, []⟩
def nullT (outs : List OutD) : TxD := ⟨2, [nullIn], outs, 0⟩
theorem check_null {T : TxD} {a : Nat} (h : Little T a 4) : checkV (nullT T.outs) = 4 := by
  have hl : Little (nullT T.outs) 1 4 := little_of (fun d hd => by
    obtain rfl := List.mem_singleton.1 hd
    exact ⟨by decide, by decide, by decide, fun x hx => by cases hx⟩) (fun d hd => h.osc d hd) (Nat.le_refl 1) (Nat.le_refl 1) h.o1 h.ob
  have hw := hl.weight (by omega) (by omega)
  rw [checkV_eq (hl.may (by omega) (by omega)) ⟨by show ¬ (2 : Nat) = 0; omega, by show (2 : Nat) ≤ 3; omega⟩ (by omega), if_pos]
  show [nullIn].any nullB = true
  decide +kernel
theorem coin_null (outs : List OutD) : coinB (nullT outs) = true := by
  show (decide ([nullIn].length = 1) && nullB ([nullIn].getD 0 default)) = true
  decide +kernel
theorem coin_good (n m : Int) : coinB (goodOf n m) = false := by
  have h := (good_ins n m).2.null
  rw [List.any_eq_false] at h
  have hl := (goodOf_lens n m).1
  have := h ((goodOf n m).ins.getD 0 default) (by rw [List.getD_eq_getElem?_getD, List.getElem?_eq_getElem (by omega)]; exact List.getElem_mem _)
  unfold coinB
  rw [show nullB ((goodOf n m).ins.getD 0 default) = false by simpa using this, Bool.and_false]
def nCells : Array Value := (inCells nullIn (.slice none 0 0) (.slice none 0 0)).toArray
theorem null_row (W : World) : InsR (W.alloc (.cells nCells 32)) (.slice (some ⟨W.heap.size, 0, none⟩) 1 1) [nullIn] := by
  refine ⟨_, _, rfl, Nat.le_refl _, by unfold maxLen; omega, (fun h => by cases h), fun _ => ⟨W.heap.size, 0, rfl, by simp, fun i d hd => ?_⟩⟩
  match i, hd with
  | 0, hd =>
    obtain rfl := Option.some.inj hd
    refine ⟨inCells nullIn (.slice none 0 0) (.slice none 0 0), by decide, fun j v hj => ?_, ⟨_, _, rfl, ⟨by decide, by unfold Bys; decide, by decide, by decide⟩, Rb.nil _, Many.nil _ _ _⟩⟩
    rw [(Box.fresh W 32 nCells).cell]
    simpa [nCells] using hj
  | i + 1, hd => simp at hd
theorem box_range {w : World} {g t : Nat} {a b c d : Value} (h : Box w g t #[a, b, c, d]) : w.rangeAt g 0 [a, b, c, d] := fun j v hj => by
  rw [Nat.zero_add, h.cell]
  simpa using hj

set_option maxRecDepth 1000000 in
set_option maxHeartbeats 8000000 in
theorem awake8_any (w : World) : Calls Try.prog 16 #[] w (YesK w) := by
  have H1 := Kp.mk (lawGood_any w 1 2 (by omega) (by omega))
  have HF : Kp (checkV (goodOf 1 2) = 0 ∧ coinB (goodOf 1 2) = false ∧ checkV (nullT (goodOf 1 2).outs) = 4) := ⟨check_good 1 2, coin_good 1 2, check_null (good_little 1 2)⟩
  generalize goodOf 1 2 = T at *
  go_enter Try.func16, Try.ntmps16
  go_wp2_with fail
  refine H1.out.mono ?_
  rintro e w2 ⟨v2, rfl, hT2, hb2⟩
  have hR := hT2.txR
  obtain ⟨iv, ov, rfl, hv4, hk4, hi2, ho2⟩ := id hT2
  obtain ⟨Ai, ci, rfl⟩ := hi2.slice
  obtain ⟨Ao, co, rfl⟩ := ho2.slice
  obtain ⟨NI, hNI⟩ : ∃ N, T.ins.length = N := ⟨_, rfl⟩
  obtain ⟨NO, hNO⟩ : ∃ N, T.outs.length = N := ⟨_, rfl⟩
  have hOut : OutsR w2 (.slice Ao T.outs.length co) T.outs := OwnMany.many ho2 fun _ _ h => h.outR
  rw [hNI, hNO] at hR ⊢
  rw [hNO] at hOut
  have HR := Kp.mk hR
  have HOU := Kp.mk hOut
  have HB := Kp.mk hb2
  clear hT2 hi2 ho2 hb2 hv4 hk4 hR hOut hNI hNO
  go_upto_region 2 with fail
  have HF5 : Kp (∀ W5, ((w2.alloc (.cells #[.int .u32 T.version, .slice Ai NI ci, .slice Ao NO co, .int .u32 T.lock] 26)).alloc (.cells nCells 32)).alloc (.cells #[.int .u32 2, .slice (some ⟨w2.heap.size + 1, 0, none⟩) 1 1, .slice Ao NO co, .int .u32 0] 26) = W5 → Box W5 w2.heap.size 26 #[.int .u32 T.version, .slice Ai NI ci, .slice Ao NO co, .int .u32 T.lock] ∧ Box W5 (w2.heap.size + 1 + 1) 26 #[.int .u32 2, .slice (some ⟨w2.heap.size + 1, 0, none⟩) 1 1, .slice Ao NO co, .int .u32 0] ∧ TxR W5 (.agg #[.int .u32 T.version, .slice Ai NI ci, .slice Ao NO co, .int .u32 T.lock]) T ∧ TxR W5 (.agg #[.int .u32 2, .slice (some ⟨w2.heap.size + 1, 0, none⟩) 1 1, .slice Ao NO co, .int .u32 0]) (nullT T.outs) ∧ Below w.heap.size w W5) := ⟨fun W5 h5 => by
    have q1 : Below w2.heap.size w2 (w2.alloc (.cells #[.int .u32 T.version, .slice Ai NI ci, .slice Ao NO co, .int .u32 T.lock] 26)) := (Below.refl _ _).alloc (Nat.le_refl _) _
    have hz := alloc_size1 w2 (.cells #[.int .u32 T.version, .slice Ai NI ci, .slice Ao NO co, .int .u32 T.lock] 26)
    have hx1 := Box.fresh w2 26 #[.int .u32 T.version, .slice Ai NI ci, .slice Ao NO co, .int .u32 T.lock]
    generalize w2.alloc (.cells #[.int .u32 T.version, .slice Ai NI ci, .slice Ao NO co, .int .u32 T.lock] 26) = W3 at *
    have q2 : Below W3.heap.size W3 (W3.alloc (.cells nCells 32)) := (Below.refl _ _).alloc (Nat.le_refl _) _
    have hn := null_row W3
    have hz2 := alloc_size1 W3 (.cells nCells 32)
    rw [hz] at hn hz2
    generalize W3.alloc (.cells nCells 32) = W4 at *
    have q3 : Below W4.heap.size W4 W5 := by rw [← h5]; exact (Below.refl _ _).alloc (Nat.le_refl _) _
    have hx2 : Box W5 (w2.heap.size + 1 + 1) 26 #[.int .u32 2, .slice (some ⟨w2.heap.size + 1, 0, none⟩) 1 1, .slice Ao NO co, .int .u32 0] := by rw [← h5, ← hz2]; exact Box.fresh _ _ _
    have q25 : Below w2.heap.size w2 W5 := q1.trans ((q2.trans (q3.mono q2.size)).mono q1.size)
    exact ⟨(hx1.below q2).below q3, hx2, HR.out.below q25, ⟨_, _, rfl, by show (2 : Nat) < 4294967296; omega, by show (0 : Nat) < 4294967296; omega, ins_below hn q3, outs_below HOU.out q25⟩, HB.out.trans (q25.mono HB.out.size)⟩⟩
  go_cut [2] (fun b wx => b = .pointer (some ⟨w2.heap.size + 1 + 1, 0, none⟩) ∧ Kp (Box wx w2.heap.size 26 #[.int .u32 T.version, .slice Ai NI ci, .slice Ao NO co, .int .u32 T.lock] ∧ Box wx (w2.heap.size + 1 + 1) 26 #[.int .u32 2, .slice (some ⟨w2.heap.size + 1, 0, none⟩) 1 1, .slice Ao NO co, .int .u32 0] ∧ TxR wx (.agg #[.int .u32 T.version, .slice Ai NI ci, .slice Ao NO co, .int .u32 T.lock]) T ∧ TxR wx (.agg #[.int .u32 2, .slice (some ⟨w2.heap.size + 1, 0, none⟩) 1 1, .slice Ao NO co, .int .u32 0]) (nullT T.outs) ∧ Below w.heap.size w wx))
  case first =>
    go_wp2
    go_meet
    case rel => exact ⟨rfl, ⟨HF5.out _ rfl⟩⟩
  obtain ⟨rfl, HC⟩ := hcut
  obtain ⟨W5, rfl⟩ : ∃ W : World, W = wc := ⟨_, rfl⟩
  have HL : Kp (∀ W, Below W5.heap.size W5 W → W.rangeAt w2.heap.size 0 [.int .u32 T.version, .slice Ai NI ci, .slice Ao NO co, .int .u32 T.lock] ∧ W.rangeAt (w2.heap.size + 1 + 1) 0 [.int .u32 2, .slice (some ⟨w2.heap.size + 1, 0, none⟩) 1 1, .slice Ao NO co, .int .u32 0] ∧ Calls Try.prog 15 #[.agg #[.int .u32 T.version, .slice Ai NI ci, .slice Ao NO co, .int .u32 T.lock]] W (CodeP 0 W) ∧ Calls Try.prog 15 #[.agg #[.int .u32 2, .slice (some ⟨w2.heap.size + 1, 0, none⟩) 1 1, .slice Ao NO co, .int .u32 0]] W (CodeP 4 W) ∧ Calls Try.prog 20 #[.agg #[.int .u32 2, .slice (some ⟨w2.heap.size + 1, 0, none⟩) 1 1, .slice Ao NO co, .int .u32 0]] W (BoolP true W) ∧ Calls Try.prog 20 #[.agg #[.int .u32 T.version, .slice Ai NI ci, .slice Ao NO co, .int .u32 T.lock]] W (BoolP false W)) := ⟨fun W hW => by
    obtain ⟨h1, h2, h3, h4, _⟩ := HC.out
    have k3 := scheck_any W _ T (h3.below hW)
    have k4 := scheck_any W _ _ (h4.below hW)
    have c3 := scoinbase_any W _ T (h3.below hW)
    have c4 := scoinbase_any W _ _ (h4.below hW)
    rw [HF.out.1] at k3
    rw [HF.out.2.2] at k4
    rw [HF.out.2.1] at c3
    rw [coin_null] at c4
    exact ⟨box_range (h1.below hW), box_range (h2.below hW), k3, k4, c4, c3⟩⟩
  have HZ : Kp (∀ W : World, Calls Try.prog 15 #[.agg #[.int .u32 0, .slice none 0 0, .slice none 0 0, .int .u32 0]] W (CodeP 1 W)) := ⟨fun W => by
    have := scheck_any W _ _ (nothing_r W)
    rw [check_nothing] at this
    exact this⟩
  have HBW := Kp.mk HC.out.2.2.2.2
  have HIT : Kp ((Try.prog.info? 26).map (·.size) = some 4) := ⟨by kernel_rfl⟩
  have HD0 := Kp.mk (Below.refl W5.heap.size W5)
  clear HC HF5
  generalize w2.heap.size + 1 + 1 = G2 at *
  generalize w2.heap.size + 1 = G3 at *
  generalize w2.heap.size = G1 at *
  go_wp2_with (refine wpList_load_mid_g (by rfl) 26 (.tmp 1) rfl G1 0 rfl [.int .u32 T.version, .slice Ai NI ci, .slice Ao NO co, .int .u32 T.lock] _ (HL.out _ HD0.out).1 Try.underlying26 rfl HIT.out ?_)
  refine ((HL.out _ HD0.out).2.2.1).mono ?_
  rintro e w6 ⟨rfl, hb6⟩
  have HD1 := Kp.mk (HD0.out.trans (hb6.mono HD0.out.size))
  clear hb6
  go_wp2_with fail
  refine (HZ.out _).mono ?_
  rintro e w7 ⟨rfl, hb7⟩
  have HD2 := Kp.mk (HD1.out.trans (hb7.mono HD1.out.size))
  clear hb7
  go_wp2_with (refine wpList_load_mid_g (by rfl) 26 (.tmp 2) rfl G2 0 rfl [.int .u32 2, .slice (some ⟨G3, 0, none⟩) 1 1, .slice Ao NO co, .int .u32 0] _ (HL.out _ HD2.out).2.1 Try.underlying26 rfl HIT.out ?_)
  refine ((HL.out _ HD2.out).2.2.2.1).mono ?_
  rintro e w8 ⟨rfl, hb8⟩
  have HD3 := Kp.mk (HD2.out.trans (hb8.mono HD2.out.size))
  clear hb8
  go_wp2_with (refine wpList_load_mid_g (by rfl) 26 (.tmp 2) rfl G2 0 rfl [.int .u32 2, .slice (some ⟨G3, 0, none⟩) 1 1, .slice Ao NO co, .int .u32 0] _ (HL.out _ HD3.out).2.1 Try.underlying26 rfl HIT.out ?_)
  refine ((HL.out _ HD3.out).2.2.2.2.1).mono ?_
  rintro e w9 ⟨rfl, hb9⟩
  have HD4 := Kp.mk (HD3.out.trans (hb9.mono HD3.out.size))
  clear hb9
  go_wp2_with (refine wpList_load_mid_g (by rfl) 26 (.tmp 1) rfl G1 0 rfl [.int .u32 T.version, .slice Ai NI ci, .slice Ao NO co, .int .u32 T.lock] _ (HL.out _ HD4.out).1 Try.underlying26 rfl HIT.out ?_)
  refine ((HL.out _ HD4.out).2.2.2.2.2).mono ?_
  rintro e w10 ⟨rfl, hb10⟩
  have HD5 := Kp.mk (HD4.out.trans (hb10.mono HD4.out.size))
  clear hb10
  go_wp2
  go_ret
  exact ⟨rfl, HBW.out.trans (HD5.out.mono HBW.out.size)⟩
end Go.Proofs.Ytbnclajhgkjopaa
