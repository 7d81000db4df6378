/- Contracts of package txns: decode, Read, Parse. -/
import Derived.Test.YtojeonepplfhlaaTxM
namespace Go.Proofs.Ytojeonepplfhlaa
open Go.RowKit

set_option maxRecDepth 1000000 in
set_option maxHeartbeats 4000000 in
theorem decode_bad (g : Nat) (w : World) (l : List Int) (bad : Bool) (h : Rd w g l bad) (hc : (count (num l bad 4).2.1 (num l bad 4).2.2 50).1 = 0) (hm : (count (count (num l bad 4).2.1 (num l bad 4).2.2 50).2.1 (count (num l bad 4).2.1 (num l bad 4).2.2 50).2.2 1).1 ≠ 1) :
    Calls Try.prog 41 #[.pointer (some ⟨g, 0, none⟩)] w (DecP g (pTx l bad) w) := by
  have hb2 : Below w.heap.size w (w.alloc (.cells zTx 26)) := (Below.refl _ _).alloc (Nat.le_refl _) _
  have HX0 : Kp (Box (w.alloc (.cells zTx 26)) w.heap.size 26 zTx) := ⟨Box.fresh w _ _⟩
  have HR0 := Kp.mk (h.below hb2)
  have HO0 : Kp (Only g w (w.alloc (.cells zTx 26))) := ⟨Only.of_below hb2⟩
  have H1 := Kp.mk (rsmall_any g _ l bad HR0.out)
  have HZ : Kp (#[Value.int IntKind.u32 0, Value.slice none 0 0, Value.slice none 0 0, Value.int IntKind.u32 0] = zTx) := ⟨rfl⟩
  have HE : Kp (pTx l bad = ((noTx, false), (count (count (num l bad 4).2.1 (num l bad 4).2.2 50).2.1 (count (num l bad 4).2.1 (num l bad 4).2.2 50).2.2 1).2)) := ⟨by
    unfold pTx
    simp only
    rw [if_pos hc, if_neg hm]⟩
  have HC := Kp.mk hc
  have HM := Kp.mk hm
  clear h hb2 hc hm
  go_enter Try.func41, Try.ntmps41
  go_wp2_with fail
  rw [HZ.out]
  refine H1.out.mono ?_
  rintro e w1 ⟨ho1, rfl, hr1⟩
  have hx1 := HX0.out.other ho1 HR0.out (by decide)
  have ho1' := HO0.out.trans ho1
  generalize (num l bad 4).1 = n at *
  generalize (num l bad 4).2.1 = l1 at *
  generalize (num l bad 4).2.2 = b1 at *
  have hba : Below w1.heap.size w1 (w1.alloc (.cells #[.int .u32 (n : Int), .slice none 0 0, .slice none 0 0, .int .u32 0] 26)) := (Below.refl _ _).alloc (Nat.le_refl _) _
  have hx2 := hx1.below hba
  have hr2 := hr1.below hba
  have ho2 := ho1'.alloc (.cells #[.int .u32 (n : Int), .slice none 0 0, .slice none 0 0, .int .u32 0] 26)
  obtain ⟨G4, hG4⟩ : ∃ G4, w1.heap.size = G4 := ⟨_, rfl⟩
  clear hx1 ho1 ho1' hba H1 hr1 HX0 HO0 HR0
  go_wp2_with fail
  generalize w1.alloc (.cells #[.int .u32 (n : Int), .slice none 0 0, .slice none 0 0, .int .u32 0] 26) = w2 at *
  clear hG4
  have HT2 := Kp.mk (rcount_any g w2 l1 b1 50 hr2 (by omega))
  have HR2 := Kp.mk hr2
  have HO2 := Kp.mk ho2
  have HX2 := Kp.mk hx2
  clear hr2 ho2 hx2
  refine HT2.out.mono ?_
  rintro e w3 ⟨ho3, rfl, hr3⟩
  have HX3 := Kp.mk (HX2.out.other ho3 HR2.out (by decide))
  have HR3 := Kp.mk hr3
  have HO3 := Kp.mk (HO2.out.trans ho3)
  clear ho3 hr3 HT2
  generalize count l1 b1 50 = c at *
  obtain ⟨m', l3, b3⟩ := c
  simp only at HC HR3 HE HM ⊢
  obtain rfl : m' = 0 := HC.out
  rw [show ((0 : Nat) : Int) = 0 from rfl]
  have HT3 := Kp.mk (rcount_any g w3 l3 b3 1 HR3.out (by omega))
  have HMO := Kp.mk (count_most l3 b3 1 (by omega))
  clear HC
  go_wp2_with fail
  refine HT3.out.mono ?_
  rintro e w4 ⟨ho4, rfl, hr4⟩
  have hx4 := HX3.out.other ho4 HR3.out (by decide)
  have HR4 := Kp.mk hr4
  have HO4 := Kp.mk (HO3.out.trans ho4)
  clear ho4 hr4 HT3
  generalize count l3 b3 1 = c at *
  obtain ⟨m'', l4, b4⟩ := c
  simp only at HM HR4 HE HMO ⊢
  obtain rfl : m'' = 0 := by have := HM.out; have := HMO.out; omega
  rw [show ((0 : Nat) : Int) = 0 from rfl]
  have hk : Keeps [5, 27, 47, 51, 69] w4 (w4.setRow w.heap.size zTx) := Keeps.of_setRow hx4 (by decide) _
  have HXR : Kp ((w4.setRow w.heap.size zTx).heap[w.heap.size]? = some (.cells zTx 26 (0, 0))) := ⟨setRow_box hx4 _⟩
  have HX4 : Kp (w4.heap[w.heap.size]? = some (.cells zTx 26 (0, 0))) := ⟨hx4⟩
  have HFIN : Kp (DecP g (pTx l bad) w (.returned (.tuple #[.agg zTx, .bool false])) (w4.setRow w.heap.size zTx)) := ⟨by
    rw [HE.out]
    exact ⟨_, rfl, HO4.out.setRow (Nat.le_refl _) _, ⟨_, _, rfl, by show (0 : Nat) < 4294967296; decide, by show (0 : Nat) < 4294967296; decide, OwnMany.nil _ _ _ _ _, OwnMany.nil _ _ _ _ _⟩, HR4.out.keeps hk (by decide) (by decide)⟩⟩
  have HIT2 : Kp ((Try.prog.info? 26).map (·.size) = some 4) := ⟨by kernel_rfl⟩
  clear hx4 hk HM HMO
  go_wp2_with (refine wpList_store_row rfl 26 (.tmp 2) (.tmp 19) rfl w.heap.size #[.int .u32 0, .slice none 0 0, .slice none 0 0, .int .u32 0] rfl rfl 26 zTx HX4.out HIT2.out rfl (by simp [Value.oneCell']) ?_)
  exact bodyPost_ret (results_cell_row2 (p := 2) (u := 3) (by rfl) _ _ w.heap.size 26 _ _ _ (.bool false) rfl rfl HXR.out Try.underlying26 rfl HIT2.out) rfl HFIN.out
set_option maxRecDepth 100000 in
theorem decode_any (g : Nat) (w : World) (l : List Int) (bad : Bool) (h : Rd w g l bad) (hl : l.length ≤ 140737488355328) : Calls Try.prog 41 #[.pointer (some ⟨g, 0, none⟩)] w (DecP g (pTx l bad) w) := by
  by_cases hc : (count (num l bad 4).2.1 (num l bad 4).2.2 50).1 = 0
  · by_cases hm : (count (count (num l bad 4).2.1 (num l bad 4).2.2 50).2.1 (count (num l bad 4).2.1 (num l bad 4).2.2 50).2.2 1).1 = 1
    · exact decode_whole g w l bad h hl hc hm
    · exact decode_bad g w l bad h hc hm
  · exact decode_plain g w l bad h hl hc

def pRead (l : List Int) (bad : Bool) : Rest (TxD × Bool) := if (pTx l bad).1.2 then (((pTx l bad).1.1, true), (pTx l bad).2) else ((noTx, false), ([], true))
set_option maxRecDepth 100000 in
set_option maxHeartbeats 4000000 in
theorem txRead_any (g : Nat) (w : World) (l : List Int) (bad : Bool) (h : Rd w g l bad) (hl : l.length ≤ 140737488355328) : Calls Try.prog 17 #[.pointer (some ⟨g, 0, none⟩)] w (DecP g (pRead l bad) w) := by
  have hb2 : Below w.heap.size w (w.alloc (.cells zTx 26)) := (Below.refl _ _).alloc (Nat.le_refl _) _
  have HX0 : Kp (Box (w.alloc (.cells zTx 26)) w.heap.size 26 zTx) := ⟨Box.fresh w _ _⟩
  have HR0 := Kp.mk (h.below hb2)
  have HO0 : Kp (Only g w (w.alloc (.cells zTx 26))) := ⟨Only.of_below hb2⟩
  have H1 := Kp.mk (decode_any g _ l bad HR0.out hl)
  have HZ : Kp (#[Value.int IntKind.u32 0, Value.slice none 0 0, Value.slice none 0 0, Value.int IntKind.u32 0] = zTx) := ⟨rfl⟩
  have HE : Kp (pRead l bad = if (pTx l bad).1.2 then (((pTx l bad).1.1, true), (pTx l bad).2) else ((noTx, false), ([], true))) := ⟨rfl⟩
  have HIT2 : Kp ((Try.prog.info? 26).map (·.size) = some 4) := ⟨by kernel_rfl⟩
  clear h hb2
  generalize pTx l bad = X at *
  obtain ⟨⟨t, ok⟩, l', b'⟩ := X
  simp only at HE
  go_enter Try.func17, Try.ntmps17
  go_wp2_with fail
  rw [HZ.out]
  refine H1.out.mono ?_
  rintro e w1 ⟨v, rfl, ho1, ⟨iv, ov, rfl, hv, hk, hi, ho⟩, hr1⟩
  have hx1 := HX0.out.other ho1 HR0.out (by decide)
  have hba : Below w1.heap.size w1 (w1.alloc (.cells #[.int .u32 (t.version : Int), iv, ov, .int .u32 (t.lock : Int)] 26)) := (Below.refl _ _).alloc (Nat.le_refl _) _
  have hsz0 : w.heap.size ≤ (w.alloc (.cells zTx 26)).heap.size := by rw [alloc_size]; omega
  have htx : TxO (w1.alloc (.cells #[.int .u32 (t.version : Int), iv, ov, .int .u32 (t.lock : Int)] 26)) w.heap.size (.agg #[.int .u32 (t.version : Int), iv, ov, .int .u32 (t.lock : Int)]) t :=
    TxO.turn (ts := [5, 27, 47, 51]) ⟨iv, ov, rfl, hv, hk, hi, ho⟩ (Keeps.of_below _ hba) (by decide) (by decide) (by decide) (by decide) hsz0
  have hx2 := hx1.below hba
  have hx4 : Box (w1.alloc (.cells #[.int .u32 (t.version : Int), iv, ov, .int .u32 (t.lock : Int)] 26)) w1.heap.size 26 #[.int .u32 (t.version : Int), iv, ov, .int .u32 (t.lock : Int)] := Box.fresh _ _ _
  have hr2 := hr1.below hba
  have ho2 := (HO0.out.trans ho1).alloc (.cells #[.int .u32 (t.version : Int), iv, ov, .int .u32 (t.lock : Int)] 26)
  obtain ⟨Ai, ci, rfl⟩ := hi.slice
  obtain ⟨Ao, co, rfl⟩ := ho.slice
  have HTX := Kp.mk htx
  have HX2 := Kp.mk hx2
  have HX4 := Kp.mk hx4
  have HR2 := Kp.mk hr2
  have HO2 := Kp.mk ho2
  clear ho1 hv hk hi ho hr1 hx1 hba hsz0 htx hx2 hx4 hr2 ho2 H1 HX0 HO0 HR0
  cases ok with
  | true =>
    rw [if_pos rfl] at HE
    have hk5 : Keeps [5, 27, 47, 51, 69] (w1.alloc (.cells #[.int .u32 (t.version : Int), .slice Ai t.ins.length ci, .slice Ao t.outs.length co, .int .u32 (t.lock : Int)] 26)) ((w1.alloc (.cells #[.int .u32 (t.version : Int), .slice Ai t.ins.length ci, .slice Ao t.outs.length co, .int .u32 (t.lock : Int)] 26)).setRow w.heap.size #[.int .u32 (t.version : Int), .slice Ai t.ins.length ci, .slice Ao t.outs.length co, .int .u32 (t.lock : Int)]) := Keeps.of_setRow HX2.out (by decide) _
    have HXR : Kp (((w1.alloc (.cells #[.int .u32 (t.version : Int), .slice Ai t.ins.length ci, .slice Ao t.outs.length co, .int .u32 (t.lock : Int)] 26)).setRow w.heap.size #[.int .u32 (t.version : Int), .slice Ai t.ins.length ci, .slice Ao t.outs.length co, .int .u32 (t.lock : Int)]).heap[w.heap.size]? = some (.cells #[.int .u32 (t.version : Int), .slice Ai t.ins.length ci, .slice Ao t.outs.length co, .int .u32 (t.lock : Int)] 26 (0, 0))) := ⟨setRow_box HX2.out _⟩
    have HFIN : Kp (DecP g (pRead l bad) w (.returned (.tuple #[.agg #[.int .u32 (t.version : Int), .slice Ai t.ins.length ci, .slice Ao t.outs.length co, .int .u32 (t.lock : Int)], .bool true])) ((w1.alloc (.cells #[.int .u32 (t.version : Int), .slice Ai t.ins.length ci, .slice Ao t.outs.length co, .int .u32 (t.lock : Int)] 26)).setRow w.heap.size #[.int .u32 (t.version : Int), .slice Ai t.ins.length ci, .slice Ao t.outs.length co, .int .u32 (t.lock : Int)])) := ⟨by
      rw [HE.out]
      exact ⟨_, rfl, HO2.out.setRow (Nat.le_refl _) _, HTX.out.turn hk5 (by decide) (by decide) (by decide) (by decide) (Nat.le_refl _), HR2.out.keeps hk5 (by decide) (by decide)⟩⟩
    have HXX : Kp ((w1.alloc (.cells #[.int .u32 (t.version : Int), .slice Ai t.ins.length ci, .slice Ao t.outs.length co, .int .u32 (t.lock : Int)] 26)).heap[w.heap.size]? = some (.cells zTx 26 (0, 0))) := ⟨HX2.out⟩
    clear hk5
    go_wp2_with (refine wpList_store_row rfl 26 (.tmp 2) (.tmp 16) rfl w.heap.size #[.int .u32 (t.version : Int), .slice Ai t.ins.length ci, .slice Ao t.outs.length co, .int .u32 (t.lock : Int)] rfl rfl 26 zTx HXX.out HIT2.out rfl (by simp [Value.oneCell']) ?_)
    exact bodyPost_ret (results_cell_row2 (p := 2) (u := 3) (by rfl) _ _ w.heap.size 26 _ _ _ (.bool true) rfl rfl HXR.out Try.underlying26 rfl HIT2.out) rfl HFIN.out
  | false =>
    rw [if_neg (by simp)] at HE
    have HT := Kp.mk (take_no g _ l' b' (-1) HR2.out (.inl (by omega)))
    go_wp2_with fail
    refine HT.out.mono ?_
    rintro e w6 ⟨v6, w5, rfl, ho5, hb6, hor⟩
    have hr5 : Rd w5 g [] true := by
      rcases hor with ⟨h0, _⟩ | ⟨_, _, hr⟩
      · omega
      · exact hr
    have hx6 := (HX2.out.other ho5 HR2.out (by decide)).below hb6
    have ho6 := (HO2.out.trans ho5).trans (Only.of_below hb6)
    have hr6 := hr5.below hb6
    have hk : Keeps [5, 27, 47, 51, 69] w6 (w6.setRow w.heap.size zTx) := Keeps.of_setRow hx6 (by decide) _
    have HXR : Kp ((w6.setRow w.heap.size zTx).heap[w.heap.size]? = some (.cells zTx 26 (0, 0))) := ⟨setRow_box hx6 _⟩
    have HX6 : Kp (w6.heap[w.heap.size]? = some (.cells zTx 26 (0, 0))) := ⟨hx6⟩
    have HFIN : Kp (DecP g (pRead l bad) w (.returned (.tuple #[.agg zTx, .bool false])) (w6.setRow w.heap.size zTx)) := ⟨by
      rw [HE.out]
      exact ⟨_, rfl, ho6.setRow (Nat.le_refl _) _, ⟨_, _, rfl, by show (0 : Nat) < 4294967296; decide, by show (0 : Nat) < 4294967296; decide, OwnMany.nil _ _ _ _ _, OwnMany.nil _ _ _ _ _⟩, hr6.keeps hk (by decide) (by decide)⟩⟩
    clear ho5 hb6 hor hr5 hx6 ho6 hr6 hk
    go_wp2_with (refine wpList_store_row rfl 26 (.tmp 2) (.tmp 15) rfl w.heap.size #[.int .u32 0, .slice none 0 0, .slice none 0 0, .int .u32 0] rfl rfl 26 zTx HX6.out HIT2.out rfl (by simp [Value.oneCell']) ?_)
    exact bodyPost_ret (results_cell_row2 (p := 2) (u := 3) (by rfl) _ _ w.heap.size 26 _ _ _ (.bool false) rfl rfl HXR.out Try.underlying26 rfl HIT2.out) rfl HFIN.out

theorem Below.setRow_self {B G : Nat} {w : World} (h : B ≤ G) (cs : Array Value) : Below B w (w.setRow G cs) := ⟨rfl, rfl, rfl, by simp, fun k hk => setRow_other w G k cs (by omega)⟩
theorem pTx_good {l : List Int} {bad : Bool} (h : (pTx l bad).1.2 = true) : (pTx l bad).2.2 = false := by
  have hb : ∀ (v : Nat) (wh : Bool) (c : Rest Nat), (pBody v wh c).1.2 = true → (pBody v wh c).2.2 = false := fun v wh c h => by
    unfold pBody at h ⊢
    simp only [Bool.and_eq_true, Bool.not_eq_true'] at h ⊢
    exact h.1
  unfold pTx at h ⊢
  simp only at h ⊢
  split at h
  · rename_i h0
    rw [if_pos h0]
    split at h
    · rename_i h1
      rw [if_pos h1]
      exact hb _ _ _ h
    · cases h
  · rename_i h0
    rw [if_neg h0]
    exact hb _ _ _ h
def pParse (l : List Int) : TxD × Bool := if (pRead l false).1.2 && (pRead l false).2.1.isEmpty then ((pRead l false).1.1, true) else (noTx, false)
def ParP (x : TxD × Bool) (w : World) (e : Ending) (w' : World) : Prop := ∃ v, e = .returned (.tuple #[v, .bool x.2]) ∧ Below w.heap.size w w' ∧ TxO w' w.heap.size v x.1
set_option maxRecDepth 100000 in
set_option maxHeartbeats 4000000 in
theorem parse_any (w : World) (v : Value) (l : List Int) (h : Rb w v l) (hl : l.length ≤ 140737488355328) : Calls Try.prog 14 #[v] w (ParP (pParse l) w) := by
  have hb2 : Below w.heap.size w (w.alloc (.cells zTx 26)) := (Below.refl _ _).alloc (Nat.le_refl _) _
  have HX0 : Kp (Box (w.alloc (.cells zTx 26)) w.heap.size 26 zTx) := ⟨Box.fresh w _ _⟩
  have HB0 := Kp.mk hb2
  have H1 := Kp.mk (read_any _ _ v l (h.below hb2).1 h.2.1 hl)
  have HZ : Kp (#[Value.int IntKind.u32 0, Value.slice none 0 0, Value.slice none 0 0, Value.int IntKind.u32 0] = zTx) := ⟨rfl⟩
  have HE : Kp (pParse l = if (pRead l false).1.2 && (pRead l false).2.1.isEmpty then ((pRead l false).1.1, true) else (noTx, false)) := ⟨rfl⟩
  have HPR : Kp ((pRead l false).1.2 = true → (pRead l false).2.2 = false) := ⟨fun e => by
    unfold pRead at e ⊢
    split at e
    · rename_i h2
      rw [if_pos h2]
      exact pTx_good h2
    · cases e⟩
  have HIT2 : Kp ((Try.prog.info? 26).map (·.size) = some 4) := ⟨by kernel_rfl⟩
  have HLL := Kp.mk hl
  obtain ⟨⟨A, c, rfl, _⟩, _⟩ := h
  clear hb2 hl
  go_enter Try.func14, Try.ntmps14
  go_wp2_with fail
  rw [HZ.out]
  refine H1.out.mono ?_
  rintro e w1 ⟨g, rfl, hg, hr1, hb1⟩
  have HX1 := Kp.mk (HX0.out.below hb1)
  have HB1 := Kp.mk (HB0.out.trans (hb1.mono HB0.out.size))
  have HR1 := Kp.mk hr1
  have HG : Kp (w.heap.size ≤ g) := ⟨Nat.le_trans HB0.out.size hg⟩
  have HT := Kp.mk (txRead_any g w1 l false hr1 HLL.out)
  clear hg hr1 hb1 H1 HX0 HB0
  generalize pRead l false = X at *
  obtain ⟨⟨t, ok⟩, l', b'⟩ := X
  simp only at HE HPR
  go_wp2_with fail
  refine HT.out.mono ?_
  rintro e w2 ⟨v2, rfl, ho2, ⟨iv, ov, rfl, hv, hk, hi, ho⟩, hr2⟩
  have hx2 := HX1.out.other ho2 HR1.out (by decide)
  have hbb2 : Below w.heap.size w w2 := Only.below HB1.out ho2 HG.out
  have hba : Below w2.heap.size w2 (w2.alloc (.cells #[.int .u32 (t.version : Int), iv, ov, .int .u32 (t.lock : Int)] 26)) := (Below.refl _ _).alloc (Nat.le_refl _) _
  have htx : TxO (w2.alloc (.cells #[.int .u32 (t.version : Int), iv, ov, .int .u32 (t.lock : Int)] 26)) w.heap.size (.agg #[.int .u32 (t.version : Int), iv, ov, .int .u32 (t.lock : Int)]) t :=
    TxO.turn (ts := [5, 27, 47, 51]) ⟨iv, ov, rfl, hv, hk, hi, ho⟩ (Keeps.of_below _ hba) (by decide) (by decide) (by decide) (by decide) HB1.out.size
  obtain ⟨Ai, ci, rfl⟩ := hi.slice
  obtain ⟨Ao, co, rfl⟩ := ho.slice
  have HTX := Kp.mk htx
  have HX2 : Kp (Box (w2.alloc (.cells #[.int .u32 (t.version : Int), .slice Ai t.ins.length ci, .slice Ao t.outs.length co, .int .u32 (t.lock : Int)] 26)) w.heap.size 26 zTx) := ⟨hx2.below hba⟩
  have HXX : Kp ((w2.alloc (.cells #[.int .u32 (t.version : Int), .slice Ai t.ins.length ci, .slice Ao t.outs.length co, .int .u32 (t.lock : Int)] 26)).heap[w.heap.size]? = some (.cells zTx 26 (0, 0))) := ⟨hx2.below hba⟩
  have HR2 : Kp (Rd (w2.alloc (.cells #[.int .u32 (t.version : Int), .slice Ai t.ins.length ci, .slice Ao t.outs.length co, .int .u32 (t.lock : Int)] 26)) g l' b') := ⟨hr2.below hba⟩
  have HB2 : Kp (Below w.heap.size w (w2.alloc (.cells #[.int .u32 (t.version : Int), .slice Ai t.ins.length ci, .slice Ao t.outs.length co, .int .u32 (t.lock : Int)] 26))) := ⟨hbb2.trans (hba.mono hbb2.size)⟩
  have hzz : w.heap.size ≠ w2.heap.size := fun e => by have := hx2.lt; omega
  clear ho2 hv hk hi ho hr2 hx2 hbb2 hba htx HT HX1 HB1 HR1
  have HNO : Kp (∀ (W : World), Below w.heap.size w W → Box W w.heap.size 26 zTx → ParP (noTx, false) w (.returned (.tuple #[.agg zTx, .bool false])) (W.setRow w.heap.size zTx) ∧ (W.setRow w.heap.size zTx).heap[w.heap.size]? = some (.cells zTx 26 (0, 0))) := ⟨fun W hb hx =>
    ⟨⟨_, rfl, hb.trans (Below.setRow_self (Nat.le_refl _) _), ⟨_, _, rfl, by show (0 : Nat) < 4294967296; decide, by show (0 : Nat) < 4294967296; decide, OwnMany.nil _ _ _ _ _, OwnMany.nil _ _ _ _ _⟩⟩, setRow_box hx _⟩⟩
  cases ok with
  | false =>
    rw [show ((false && l'.isEmpty) = false) from rfl, if_neg (by simp)] at HE
    rw [← HE.out] at HNO
    have HN := HNO.out _ HB2.out HX2.out
    have HN1 := Kp.mk HN.1
    have HN2 := Kp.mk HN.2
    clear HN HNO
    go_wp2_with (refine wpList_store_row rfl 26 (.tmp 2) (.tmp 21) rfl w.heap.size #[.int .u32 0, .slice none 0 0, .slice none 0 0, .int .u32 0] rfl rfl 26 zTx HXX.out HIT2.out rfl (by simp [Value.oneCell']) ?_)
    exact bodyPost_ret (results_cell_row2 (p := 2) (u := 3) (by rfl) _ _ w.heap.size 26 _ _ _ (.bool false) rfl rfl HN2.out Try.underlying26 rfl HIT2.out) rfl HN1.out
  | true =>
    obtain rfl : b' = false := HPR.out rfl
    have HEG := Kp.mk (end_good g _ l' HR2.out)
    cases hem : l'.isEmpty with
    | false =>
      rw [hem, show ((true && false) = false) from rfl, if_neg (by simp)] at HE
      rw [hem] at HEG
      rw [← HE.out] at HNO
      have HN := HNO.out _ HB2.out HX2.out
      have HN1 := Kp.mk HN.1
      have HN2 := Kp.mk HN.2
      clear HN HNO hem
      go_wp2_with (first | (go_at_call 20; refine HEG.out.mono ?_; rintro e w5 ⟨rfl, rfl⟩) | (refine wpList_store_row rfl 26 (.tmp 2) (.tmp 21) rfl w.heap.size #[.int .u32 0, .slice none 0 0, .slice none 0 0, .int .u32 0] rfl rfl 26 zTx HXX.out HIT2.out rfl (by simp [Value.oneCell']) ?_))
      exact bodyPost_ret (results_cell_row2 (p := 2) (u := 3) (by rfl) _ _ w.heap.size 26 _ _ _ (.bool false) rfl rfl HN2.out Try.underlying26 rfl HIT2.out) rfl HN1.out
    | true =>
      rw [hem, show ((true && true) = true) from rfl, if_pos rfl] at HE
      rw [hem] at HEG
      clear HNO hem
      have hk5 : Keeps [5, 27, 47, 51, 69] (w2.alloc (.cells #[.int .u32 (t.version : Int), .slice Ai t.ins.length ci, .slice Ao t.outs.length co, .int .u32 (t.lock : Int)] 26)) ((w2.alloc (.cells #[.int .u32 (t.version : Int), .slice Ai t.ins.length ci, .slice Ao t.outs.length co, .int .u32 (t.lock : Int)] 26)).setRow w.heap.size #[.int .u32 (t.version : Int), .slice Ai t.ins.length ci, .slice Ao t.outs.length co, .int .u32 (t.lock : Int)]) := Keeps.of_setRow HX2.out (by decide) _
      have HXR : Kp (((w2.alloc (.cells #[.int .u32 (t.version : Int), .slice Ai t.ins.length ci, .slice Ao t.outs.length co, .int .u32 (t.lock : Int)] 26)).setRow w.heap.size #[.int .u32 (t.version : Int), .slice Ai t.ins.length ci, .slice Ao t.outs.length co, .int .u32 (t.lock : Int)]).heap[w.heap.size]? = some (.cells #[.int .u32 (t.version : Int), .slice Ai t.ins.length ci, .slice Ao t.outs.length co, .int .u32 (t.lock : Int)] 26 (0, 0))) := ⟨setRow_box HX2.out _⟩
      have HFIN : Kp (ParP (pParse l) w (.returned (.tuple #[.agg #[.int .u32 (t.version : Int), .slice Ai t.ins.length ci, .slice Ao t.outs.length co, .int .u32 (t.lock : Int)], .bool true])) ((w2.alloc (.cells #[.int .u32 (t.version : Int), .slice Ai t.ins.length ci, .slice Ao t.outs.length co, .int .u32 (t.lock : Int)] 26)).setRow w.heap.size #[.int .u32 (t.version : Int), .slice Ai t.ins.length ci, .slice Ao t.outs.length co, .int .u32 (t.lock : Int)])) := ⟨by
        rw [HE.out]
        exact ⟨_, rfl, HB2.out.trans (Below.setRow_self (Nat.le_refl _) _), HTX.out.turn hk5 (by decide) (by decide) (by decide) (by decide) (Nat.le_refl _)⟩⟩
      clear hk5
      go_wp2_with (first | (go_at_call 20; refine HEG.out.mono ?_; rintro e w5 ⟨rfl, rfl⟩) | (refine wpList_store_row rfl 26 (.tmp 2) (.tmp 22) rfl w.heap.size #[.int .u32 (t.version : Int), .slice Ai t.ins.length ci, .slice Ao t.outs.length co, .int .u32 (t.lock : Int)] rfl rfl 26 zTx HXX.out HIT2.out rfl (by simp [Value.oneCell']) ?_))
      exact bodyPost_ret (results_cell_row2 (p := 2) (u := 3) (by rfl) _ _ w.heap.size 26 _ _ _ (.bool true) rfl rfl HXR.out Try.underlying26 rfl HIT2.out) rfl HFIN.out
end Go.Proofs.Ytojeonepplfhlaa
