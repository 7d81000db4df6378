/- Contracts of package txns: sameIn, sameOut, Same. -/
import Derived.Test.YtojeonepplfhlaaTxC
import Derived.Stop.BytesEq
namespace Go.Proofs.Ytojeonepplfhlaa
open Go.RowKit

theorem str_inj {a b : List Int} (ha : Bys a) (hb : Bys b) (h : strOfNums a = strOfNums b) : a = b := by rw [← nums_str ha, ← nums_str hb, h]

theorem str_eqB {a b : List Int} (ha : Bys a) (hb : Bys b) : ((strOfNums a).toList == (strOfNums b).toList) = decide (a = b) := by
  rw [Bool.eq_iff_iff]
  simp only [beq_iff_eq, decide_eq_true_eq]
  refine ⟨fun h => str_inj ha hb ?_, fun h => by rw [h]⟩
  rw [ByteArray.toList_eq, ByteArray.toList_eq] at h
  generalize strOfNums a = x at *
  generalize strOfNums b = y at *
  obtain ⟨⟨x⟩⟩ := x
  obtain ⟨⟨y⟩⟩ := y
  simp at h
  rw [h]

set_option maxRecDepth 100000 in
set_option maxHeartbeats 1000000 in
theorem bequal_any (w : World) (v1 v2 : Value) (l1 l2 : List Int) (h1 : Rb w v1 l1) (h2 : Rb w v2 l2) :
    Calls Try.prog 58 #[v1, v2] w fun e w' => e = .returned (.bool (decide (l1 = l2))) ∧ w = w' := by
  have hc1 := run_str h1.1
  have hc2 := run_str h2.1
  have HR := Kp.mk (str_eqB h1.2.1 h2.2.1)
  obtain ⟨⟨A1, c1, rfl, _⟩, _⟩ := h1
  obtain ⟨⟨A2, c2, rfl, _⟩, _⟩ := h2
  generalize strOfNums l1 = s1 at *
  generalize strOfNums l2 = s2 at *
  go_enter Try.func58, Try.ntmps58
  go_wp2
  go_ret
  exact ⟨by rw [← HR.out]; rfl, rfl⟩
def beqB (a b : List Int) : Bool := decide (a = b)
set_option maxRecDepth 100000 in
theorem enter_BEqual (args : Array Value) (w : World) : (callFunc 58 args).run Try.prog w = .ok (.enter 58 args) w := by kernel_rfl
set_option maxRecDepth 100000 in
theorem enter_sameIn (args : Array Value) (w : World) : (callFunc 36 args).run Try.prog w = .ok (.enter 36 args) w := by kernel_rfl
set_option maxRecDepth 100000 in
theorem enter_sameOut (args : Array Value) (w : World) : (callFunc 38 args).run Try.prog w = .ok (.enter 38 args) w := by kernel_rfl
theorem asks_bequal : Asks2 RowR row1 58 beqB := fun W c1 x1 c2 x2 ⟨s1, e1, h1⟩ ⟨s2, e2, h2⟩ => by
  subst e1
  subst e2
  exact (bequal_any W s1 s2 x1 x2 h1 h2).mono fun e w' ⟨he, hw⟩ => ⟨he, by subst hw; exact Below.refl _ _⟩
theorem eqB_dec {α : Type} [DecidableEq α] {p : α → α → Bool} (hp : ∀ a b, p a b = decide (a = b)) : ∀ x y : List α, eqB p x y = decide (x = y)
  | [], [] => by simp [eqB]
  | [], _ :: _ => by simp [eqB]
  | _ :: _, [] => by simp [eqB]
  | a :: x, b :: y => by
    rw [eqB, hp, eqB_dec hp x y, Bool.eq_iff_iff]
    simp

set_option maxRecDepth 100000 in
/-- Arrays of bytes. -/
theorem eql_prev (p q : List Int) (hp : Bys p) (hq : Bys q) (h1 : p.length = 32) (h2 : q.length = 32) (w : World) :
    (Op.equalIn 10000 45 (.agg (byteVals p).toArray) (.agg (byteVals q).toArray)).run Try.prog w = .ok (decide (p = q)) w := by
  have key : ∀ l : List Int, Bys l → byteVals l = (l.map fun x => UInt8.ofNat x.toNat).map Extern.Stop.cell := fun l hl => by
    unfold byteVals
    rw [List.map_map]
    apply List.map_congr_left
    intro x hx
    have := hl x hx
    show Value.int .u8 x = Value.int .u8 ((UInt8.ofNat x.toNat).toNat : Int)
    congr 1
    simp
    omega
  rw [key p hp, key q hq, run_equalIn_bytes w 9998 45 5 32 Try.underlying45 Try.underlying5 (fun w => by kernel_rfl) _ _ (by simpa using h1) (by simpa using h2)]
  congr 1
  rw [Bool.eq_iff_iff]
  simp only [beq_iff_eq, decide_eq_true_eq]
  refine ⟨fun h => ?_, fun h => by rw [h]⟩
  have hb : ∀ l : List Int, Bys l → (l.map fun x => UInt8.ofNat x.toNat).map (fun u => (u.toNat : Int)) = l := fun l hl => by
    rw [List.map_map]
    conv => rhs; rw [← List.map_id l]
    apply List.map_congr_left
    intro x hx
    have := hl x hx
    simp
    omega
  rw [← hb p hp, ← hb q hq, h]

def sameInB (a b : InD) : Bool := decide (a.prev = b.prev) && (decide (a.vout = b.vout) && (decide (a.seq = b.seq) && (decide (a.script = b.script) && eqB beqB a.wit b.wit)))
theorem sameInB_dec (a b : InD) : sameInB a b = decide (a = b) := by
  unfold sameInB
  rw [eqB_dec (p := beqB) (fun _ _ => rfl), Bool.eq_iff_iff]
  cases a
  cases b
  simp
  intro _ _
  constructor
  · rintro ⟨h3, h4, h5⟩; exact ⟨h4, h3, h5⟩
  · rintro ⟨h3, h4, h5⟩; exact ⟨h4, h3, h5⟩
theorem inCells_range {w : World} {d : InD} {sv wv : Value} {g : Nat} {t : Nat} (h : w.heap[g]? = some (.cells (inCells d sv wv).toArray t (0, 0))) : w.rangeAt g 0 (byteVals d.prev) := fun j v hj => by
  rw [Nat.zero_add, cell_of_row w g j _ t (0, 0) h]
  unfold inCells
  rw [List.getElem?_toArray, List.getElem?_append_left (List.getElem?_eq_some_iff.1 hj).1]
  exact hj
set_option maxRecDepth 100000 in
set_option maxHeartbeats 2000000 in
theorem sameIn_any (W : World) (cs1 : List Value) (d1 : InD) (cs2 : List Value) (d2 : InD) (h1 : InR W cs1 d1) (h2 : InR W cs2 d2) :
    Calls Try.prog 36 #[.agg cs1.toArray, .agg cs2.toArray] W (BoolP (sameInB d1 d2) W) := by
  obtain ⟨sv1, wv1, rfl, hf1, hs1, hw1⟩ := h1
  obtain ⟨sv2, wv2, rfl, hf2, hs2, hw2⟩ := h2
  have hr1 : ((W.alloc (.cells (inCells d1 sv1 wv1).toArray 47)).alloc (.cells (inCells d2 sv2 wv2).toArray 47)).rangeAt W.heap.size 0 (byteVals d1.prev) := inCells_range (heap_alloc2_old W _ _)
  have hr2 : ((W.alloc (.cells (inCells d1 sv1 wv1).toArray 47)).alloc (.cells (inCells d2 sv2 wv2).toArray 47)).rangeAt (W.heap.size + 1) 0 (byteVals d2.prev) := inCells_range (heap_alloc2_new W _ _)
  have a32 : (inCells d1 sv1 wv1).toArray[32]? = some (.int .u32 d1.vout) := by simpa using inCells_vout hf1 sv1 wv1
  have a33 : (inCells d1 sv1 wv1).toArray[33]? = some sv1 := by simpa using inCells_script hf1 sv1 wv1
  have a34 : (inCells d1 sv1 wv1).toArray[34]? = some (.int .u32 d1.seq) := by simpa using inCells_seq hf1 sv1 wv1
  have a35 : (inCells d1 sv1 wv1).toArray[35]? = some wv1 := by simpa using inCells_wit hf1 sv1 wv1
  have b32 : (inCells d2 sv2 wv2).toArray[32]? = some (.int .u32 d2.vout) := by simpa using inCells_vout hf2 sv2 wv2
  have b33 : (inCells d2 sv2 wv2).toArray[33]? = some sv2 := by simpa using inCells_script hf2 sv2 wv2
  have b34 : (inCells d2 sv2 wv2).toArray[34]? = some (.int .u32 d2.seq) := by simpa using inCells_seq hf2 sv2 wv2
  have b35 : (inCells d2 sv2 wv2).toArray[35]? = some wv2 := by simpa using inCells_wit hf2 sv2 wv2
  generalize (inCells d1 sv1 wv1).toArray = C1 at *
  generalize (inCells d2 sv2 wv2).toArray = C2 at *
  have he := eql_prev d1.prev d2.prev hf1.pbys hf2.pbys hf1.plen hf2.plen ((W.alloc (.cells C1 47)).alloc (.cells C2 47))
  have HSZ : Kp ((Try.prog.info? 45).map (·.size) = some (byteVals d1.prev).length ∧ (Try.prog.info? 45).map (·.size) = some (byteVals d2.prev).length) := by
    constructor
    constructor
    · simp only [byteVals, List.length_map, hf1.plen]; kernel_rfl
    · simp only [byteVals, List.length_map, hf2.plen]; kernel_rfl
  have hb0 : Below W.heap.size W ((W.alloc (.cells C1 47)).alloc (.cells C2 47)) := ((Below.refl _ _).alloc (Nat.le_refl _) _).alloc (by simp) _
  have HB := Kp.mk hb0
  have HBE := Kp.mk (bequal_any ((W.alloc (.cells C1 47)).alloc (.cells C2 47)) sv1 sv2 _ _ (hs1.below hb0) (hs2.below hb0))
  have HEQ := Kp.mk (eqRow_any ((W.alloc (.cells C1 47)).alloc (.cells C2 47)) wv1 wv2 d1.wit d2.wit 58 beqB (rws_below hw1 hb0) (rws_below hw2 hb0) asks_bequal (fun _ _ _ hb h => RowR.below h hb) (fun _ _ _ h => h.one) enter_BEqual)
  have HR1 := Kp.mk hr1
  have HR2 := Kp.mk hr2
  have HD : Kp (sameInB d1 d2 = (decide (d1.prev = d2.prev) && (decide (d1.vout = d2.vout) && (decide (d1.seq = d2.seq) && (decide (d1.script = d2.script) && eqB beqB d1.wit d2.wit))))) := ⟨rfl⟩
  generalize sameInB d1 d2 = R at *
  generalize eqB beqB d1.wit d2.wit = RW at *
  clear hr1 hr2 hf1 hf2 hs1 hs2 hw1 hw2 hb0
  by_cases q1 : d1.prev = d2.prev
  · have e1 : decide (d1.prev = d2.prev) = true := by simp [q1]
    rw [e1] at HD he
    by_cases q2 : d1.vout = d2.vout
    · have e2 : decide (d1.vout = d2.vout) = true := by simp [q2]
      rw [e2] at HD
      have f2 : ((d1.vout : Int) == (d2.vout : Int)) = true := by rw [q2]; simp
      by_cases q3 : d1.seq = d2.seq
      · have e3 : decide (d1.seq = d2.seq) = true := by simp [q3]
        rw [e3] at HD
        have f3 : ((d1.seq : Int) == (d2.seq : Int)) = true := by rw [q3]; simp
        clear e1 e2 e3 q1 q2 q3
        cases q4 : decide (d1.script = d2.script) with
        | true =>
          rw [q4] at HD HBE
          clear q4
          have HD' : Kp (R = RW) := ⟨by rw [HD.out]; simp⟩
          go_enter Try.func36, Try.ntmps36
          go_wp2_with (first | (refine wpList_load_mid rfl 45 (.tmp 5) rfl W.heap.size 0 rfl (byteVals d1.prev) _ HR1.out Try.underlying45 rfl HSZ.out.1 ?_) | (refine wpList_load_mid rfl 45 (.tmp 7) rfl (W.heap.size + 1) 0 rfl (byteVals d2.prev) _ HR2.out Try.underlying45 rfl HSZ.out.2 ?_) | (go_at_call 58; refine HBE.out.mono ?_; rintro e w1 ⟨rfl, rfl⟩) | (go_at_call 59; refine HEQ.out.mono ?_; rintro e w1 ⟨rfl, hb⟩))
          go_ret
          exact ⟨by rw [HD'.out]; rfl, HB.out.trans (hb.mono HB.out.size)⟩
        | false =>
          rw [q4] at HD HBE
          clear q4
          have HD' : Kp (R = false) := ⟨by rw [HD.out]; simp⟩
          go_enter Try.func36, Try.ntmps36
          go_wp2_with (first | (refine wpList_load_mid rfl 45 (.tmp 5) rfl W.heap.size 0 rfl (byteVals d1.prev) _ HR1.out Try.underlying45 rfl HSZ.out.1 ?_) | (refine wpList_load_mid rfl 45 (.tmp 7) rfl (W.heap.size + 1) 0 rfl (byteVals d2.prev) _ HR2.out Try.underlying45 rfl HSZ.out.2 ?_) | (go_at_call 58; refine HBE.out.mono ?_; rintro e w1 ⟨rfl, rfl⟩))
          go_ret
          exact ⟨by rw [HD'.out]; rfl, HB.out⟩
      · have e3 : decide (d1.seq = d2.seq) = false := by simp [q3]
        rw [e3] at HD
        have f3 : ((d1.seq : Int) == (d2.seq : Int)) = false := by rw [beq_eq_false_iff_ne]; omega
        have HD' : Kp (R = false) := ⟨by rw [HD.out]; simp⟩
        clear e1 e2 e3 q1 q2 q3
        go_enter Try.func36, Try.ntmps36
        go_wp2_with (first | (refine wpList_load_mid rfl 45 (.tmp 5) rfl W.heap.size 0 rfl (byteVals d1.prev) _ HR1.out Try.underlying45 rfl HSZ.out.1 ?_) | (refine wpList_load_mid rfl 45 (.tmp 7) rfl (W.heap.size + 1) 0 rfl (byteVals d2.prev) _ HR2.out Try.underlying45 rfl HSZ.out.2 ?_))
        go_ret
        exact ⟨by rw [HD'.out]; rfl, HB.out⟩
    · have e2 : decide (d1.vout = d2.vout) = false := by simp [q2]
      rw [e2] at HD
      have f2 : ((d1.vout : Int) == (d2.vout : Int)) = false := by rw [beq_eq_false_iff_ne]; omega
      have HD' : Kp (R = false) := ⟨by rw [HD.out]; simp⟩
      clear e1 e2 q1 q2
      go_enter Try.func36, Try.ntmps36
      go_wp2_with (first | (refine wpList_load_mid rfl 45 (.tmp 5) rfl W.heap.size 0 rfl (byteVals d1.prev) _ HR1.out Try.underlying45 rfl HSZ.out.1 ?_) | (refine wpList_load_mid rfl 45 (.tmp 7) rfl (W.heap.size + 1) 0 rfl (byteVals d2.prev) _ HR2.out Try.underlying45 rfl HSZ.out.2 ?_))
      go_ret
      exact ⟨by rw [HD'.out]; rfl, HB.out⟩
  · have e1 : decide (d1.prev = d2.prev) = false := by simp [q1]
    rw [e1] at HD he
    have HD' : Kp (R = false) := ⟨by rw [HD.out]; simp⟩
    clear e1 q1
    go_enter Try.func36, Try.ntmps36
    go_wp2_with (first | (refine wpList_load_mid rfl 45 (.tmp 5) rfl W.heap.size 0 rfl (byteVals d1.prev) _ HR1.out Try.underlying45 rfl HSZ.out.1 ?_) | (refine wpList_load_mid rfl 45 (.tmp 7) rfl (W.heap.size + 1) 0 rfl (byteVals d2.prev) _ HR2.out Try.underlying45 rfl HSZ.out.2 ?_))
    go_ret
    exact ⟨by rw [HD'.out]; rfl, HB.out⟩
end Go.Proofs.Ytojeonepplfhlaa
