/- Dusts, of the program and of the document. -/
import Derived.Test.YtpmfhjeeiilnjaaClD
import Derived.Test.YtpmfhjeeiilnjaaKsA
namespace Go.Proofs.Ytpmfhjeeiilnjaa
open Go.RowKit

def dustAt (outs : List OutD) (i : Nat) : Bool := match outs[i]? with
  | some d => dustB d.value d.script
  | none => false
/-- Where the dust of the first n outputs stands. -/
def dustsTo (outs : List OutD) : Nat → List Int
  | 0 => []
  | n + 1 => dustsTo outs n ++ (if dustAt outs n then [(n : Int)] else [])
def dustsOf (outs : List OutD) : List Int := dustsTo outs outs.length
theorem dustsTo_len (outs : List OutD) : ∀ n, (dustsTo outs n).length ≤ n
  | 0 => by simp [dustsTo]
  | n + 1 => by
    have := dustsTo_len outs n
    simp only [dustsTo, List.length_append]
    split <;> simp <;> omega
theorem dustAt_get {outs : List OutD} {i : Nat} (hi : i < outs.length) : dustAt outs i = dustB (outs[i]).value (outs[i]).script := by
  unfold dustAt
  rw [List.getElem?_eq_getElem hi]
def IntsP (l : List Int) (w : World) (e : Ending) (w' : World) : Prop := ∃ v, e = .returned v ∧ OwnK .i64 w' w.heap.size 3 v l ∧ Below w.heap.size w w'

set_option maxRecDepth 100000 in
theorem infoInt : (Try.prog.info? 3).map (fun i => (i.zero, i.size, i.bytes)) = some (some (.int .i64 0), 1, 8) := by kernel_rfl
theorem sizeOut : (Try.prog.info? 33).map (·.size) = some 2 := by kernel_rfl

set_option maxRecDepth 100000 in
set_option maxHeartbeats 4000000 in
theorem dusts_any (W : World) (a0 a1 a3 ov : Value) (outs : List OutD) (h : OutsR W ov outs) (hl : outs.length ≤ 1000) : Calls Try.prog 9 #[.agg #[a0, a1, ov, a3]] W (IntsP (dustsOf outs) W) := by
  obtain ⟨i0, hi, hz0, hz1, hz2⟩ := info_parts infoInt
  have HI := Kp.mk (And.intro hi (And.intro hz0 (And.intro hz1 hz2)))
  clear hi hz0 hz1 hz2
  have HO := Kp.mk h
  obtain ⟨A, c, rfl, hlc, hlm⟩ := h.slice
  obtain ⟨N, hN⟩ : ∃ N, outs.length = N := ⟨_, rfl⟩
  have HN := Kp.mk hN
  rw [hN] at hl ⊢
  have hb1 : Below W.heap.size W (W.alloc (.cells #[a0, a1, .slice A N c, a3] 27)) := (Below.refl _ _).alloc (Nat.le_refl _) _
  have HB1 := Kp.mk hb1
  clear h hlc hlm hb1 hN
  go_enter Try.func9, Try.ntmps9
  go_wp2
  go_loopw [3, 9] (fun v i wr => ∃ k : Nat, k ≤ N ∧ i = .int .i64 k ∧ Kp (OwnK .i64 wr W.heap.size 3 v (dustsTo outs k) ∧ Below W.heap.size W wr)) (fun _ i _ => N - (intOf i).toNat)
  case atStart => exact ⟨0, Nat.zero_le _, rfl, ⟨OwnK.none .i64 _ _ _, HB1.out⟩⟩
  case round =>
    obtain ⟨k, hk, rfl, H⟩ := hrel
    by_cases hlt : k < N
    · obtain ⟨hown, hbel⟩ := H.out
      have HLT := Kp.mk (show k < outs.length by have := HN.out; omega)
      have hO := outs_below HO.out hbel
      have hnn := HN.out
      rw [hnn] at hO
      obtain ⟨b, off, cs, rfl, hbl, hcl, hcs, sv, rfl, hv, hrb⟩ := hO.at HLT.out
      have HCS := Kp.mk hcs
      have HSV := Kp.mk hrb.one
      have HAT := Kp.mk (dustAt_get HLT.out)
      have HALL : ∀ q : Nat, Kp (Array.all #[Value.int .u64 q, sv] (·.oneCell') = true) := fun q => ⟨by simp only [List.all_toArray, List.all_cons, List.all_nil, HSV.out, Bool.and_true]; rfl⟩
      generalize outs[k] = d at *
      obtain ⟨x, hx⟩ : ∃ x, d.value = x := ⟨_, rfl⟩
      rw [hx] at HCS HAT
      have HALL := HALL x
      have HD : Kp (∀ W', Below wr.heap.size wr W' → Calls Try.prog 12 #[.agg #[.int .u64 x, sv]] W' (BoolP (dustAt outs k) W')) := ⟨fun W' hb => by rw [HAT.out]; exact dust_any W' x sv _ (hrb.below hb)⟩
      have HOWN := Kp.mk hown
      have HB := Kp.mk hbel
      have HK := Kp.mk hlt
      have HIO : Kp ((Try.prog.info? 33).map (·.size) = some 2) := ⟨sizeOut⟩
      have HL := Kp.mk hl
      have HB2 : Kp (Below wr.heap.size wr (wr.alloc (.cells #[.int .u64 x, sv] 33))) := ⟨(Below.refl _ _).alloc (Nat.le_refl _) _⟩
      have HST : Kp (dustsTo outs (k + 1) = dustsTo outs k ++ (if dustAt outs k then [(k : Int)] else [])) := ⟨rfl⟩
      have hkn : (k : Int) < (N : Int) := by omega
      clear hO hbl hcl hcs hv hrb hx hown hbel hnn HAT
      cases hd : dustAt outs k with
      | true =>
        rw [hd] at HD HST
        have HT : Kp (dustsTo outs (k + 1) = dustsTo outs k ++ [(k : Int)]) := ⟨by rw [HST.out]; rfl⟩
        clear hd HST
        have HLEN := Kp.mk (dustsTo_len outs k)
        have HB4 : Kp (∀ w2 c t, Below wr.heap.size wr w2 → Below W.heap.size W (w2.alloc (.cells c t))) := ⟨fun w2 c t h => (HB.out.trans (h.mono HB.out.size)).alloc (HB.out.trans (h.mono HB.out.size)).size _⟩
        go_wp2_with (first | (refine wpList_load_mid rfl 33 (.tmp 12) rfl b (off + k * 2) rfl [.int .u64 x, sv] _ HCS.out Try.underlying33 rfl HIO.out ?_) | (refine wpList_store_fresh rfl 33 (.tmp 5) (.tmp 13) rfl _ #[.int .u64 x, sv] wr.heap.size rfl rfl rfl HIO.out rfl HALL.out ?_) | (go_at_call 12; refine (HD.out _ HB2.out).mono ?_; rintro e w2 ⟨rfl, hb2⟩; have HB3 := Kp.mk (HB2.out.trans (hb2.mono HB2.out.size)); clear HB2 hb2) | (at_builtin; refine wpList_append_nums .i64 8 (by omega) rfl (.tmp 16) (.tmp 18) 22 rfl W.heap.size 3 i0 Try.underlying22 HI.out.1 HI.out.2.1 HI.out.2.2.1 HI.out.2.2.2 _ (dustsTo outs k) rfl (HOWN.out.below (HB3.out.alloc HB3.out.size _)) _ [(k : Int)] rfl (SlK.fresh .i64 w2 3 [(k : Int)]) (by have := HLEN.out; have := HK.out; have := HL.out; simp only [List.length_singleton]; omega) (HB4.out _ _ _ HB3.out).size ?_; intro v1 w1 ho1 hg1; have HG1 := Kp.mk ((HOWN.out.below (HB3.out.alloc HB3.out.size _)).grows (HB4.out _ _ _ HB3.out) hg1 (Nat.le_refl _)); have HO1 := Kp.mk ho1; clear ho1 hg1))
        go_roundw
        case rel => exact ⟨k + 1, by have := HK.out; omega, by go_num, ⟨by rw [HT.out]; exact HO1.out, HG1.out⟩⟩
        case measure => simp [intOf]; have := HK.out; omega
      | false =>
        rw [hd] at HD HST
        have HT : Kp (dustsTo outs (k + 1) = dustsTo outs k) := ⟨by rw [HST.out]; simp⟩
        clear hd HST
        go_wp2_with (first | (refine wpList_load_mid rfl 33 (.tmp 12) rfl b (off + k * 2) rfl [.int .u64 x, sv] _ HCS.out Try.underlying33 rfl HIO.out ?_) | (refine wpList_store_fresh rfl 33 (.tmp 5) (.tmp 13) rfl _ #[.int .u64 x, sv] wr.heap.size rfl rfl rfl HIO.out rfl HALL.out ?_) | (go_at_call 12; refine (HD.out _ HB2.out).mono ?_; rintro e w2 ⟨rfl, hb2⟩; have HB3 := Kp.mk (HB2.out.trans (hb2.mono HB2.out.size)); clear HB2 hb2))
        go_roundw
        case rel => exact ⟨k + 1, by have := HK.out; omega, by go_num, ⟨by rw [HT.out]; exact HOWN.out.below HB3.out, HB.out.trans (HB3.out.mono HB.out.size)⟩⟩
        case measure => simp [intOf]; have := HK.out; omega
    · obtain ⟨hown, hbel⟩ := H.out
      obtain rfl : k = N := by omega
      have HD : Kp (dustsOf outs = dustsTo outs k) := ⟨by rw [← HN.out]; rfl⟩
      have HOWN := Kp.mk hown
      have HB := Kp.mk hbel
      clear hown hbel
      go_wp2
      go_ret
      exact ⟨_, rfl, by rw [HD.out]; exact HOWN.out, HB.out⟩

theorem alloc_size1 (w : World) (o : Obj) : (w.alloc o).heap.size = w.heap.size + 1 := by simp
/-- A cell of a block that was made last, behind a call that leaves it. -/
theorem cell_made {W w : World} {cs : Array Value} {t : Nat} (h : Below (W.alloc (.cells cs t)).heap.size (W.alloc (.cells cs t)) w) (i : Nat) (u : Value) (hu : cs[i]? = some u) : w.cell? ⟨W.heap.size, i, none⟩ = some u := by
  rw [((Box.fresh W t cs).below h).cell i, hu]

set_option maxRecDepth 100000 in
set_option maxHeartbeats 4000000 in
theorem refdusts_any (W : World) (a0 a1 a3 ov : Value) (outs : List OutD) (h : OutsR W ov outs) (hl : outs.length ≤ 1000) : Calls Try.prog 16 #[.agg #[a0, a1, ov, a3]] W (IntsP (dustsOf outs) W) := by
  obtain ⟨i0, hi, hz0, hz1, hz2⟩ := info_parts infoInt
  have HI := Kp.mk (And.intro hi (And.intro hz0 (And.intro hz1 hz2)))
  clear hi hz0 hz1 hz2
  have HO := Kp.mk h
  obtain ⟨A, c, rfl, hlc, hlm⟩ := h.slice
  obtain ⟨N, hN⟩ : ∃ N, outs.length = N := ⟨_, rfl⟩
  have HN := Kp.mk hN
  rw [hN] at hl ⊢
  obtain ⟨W1, hW1⟩ : ∃ W1, W.alloc (.cells #[a0, a1, .slice A N c, a3] 27) = W1 := ⟨_, rfl⟩
  have HB1 : Kp (Below W.heap.size W W1) := ⟨by rw [← hW1]; exact (Below.refl _ _).alloc (Nat.le_refl _) _⟩
  have HSZ : Kp (W.heap.size + 1 ≤ W1.heap.size) := ⟨by rw [← hW1, alloc_size1]; exact Nat.le_refl _⟩
  have HSZ2 : Kp (W1.heap.size ≤ W.heap.size + 1) := ⟨by rw [← hW1, alloc_size1]; exact Nat.le_refl _⟩
  have HCL : Kp (∀ wr, Below W1.heap.size W1 wr → wr.cell? ⟨W.heap.size, 2, none⟩ = some (.slice A N c)) := ⟨fun wr hb => by subst hW1; exact cell_made hb 2 _ rfl⟩
  have HW1 := Kp.mk hW1
  clear h hlc hlm hN hW1
  go_enter Try.func16, Try.ntmps16
  go_wp2
  rw [HW1.out]
  go_loopw [3, 4] (fun v i wr => ∃ k : Nat, k ≤ N ∧ i = .int .i64 k ∧ Kp (OwnK .i64 wr (W.heap.size + 1) 3 v (dustsTo outs k) ∧ Below W1.heap.size W1 wr)) (fun _ i _ => N - (intOf i).toNat)
  case atStart => exact ⟨0, Nat.zero_le _, rfl, ⟨OwnK.none .i64 _ _ _, Below.refl _ _⟩⟩
  case round =>
    obtain ⟨k, hk, rfl, H⟩ := hrel
    have hcell := HCL.out wr H.out.2
    by_cases hlt : k < N
    · obtain ⟨hown, hbel⟩ := H.out
      have HLT := Kp.mk (show k < outs.length by have := HN.out; omega)
      have hO := outs_below HO.out (HB1.out.trans (hbel.mono HB1.out.size))
      have hnn := HN.out
      rw [hnn] at hO
      obtain ⟨b, off, cs, rfl, hbl, hcl, hcs, sv, rfl, hv, hrb⟩ := hO.at HLT.out
      have HCS := Kp.mk hcs
      have HAT := Kp.mk (dustAt_get HLT.out)
      generalize outs[k] = d at *
      obtain ⟨x, hx⟩ : ∃ x, d.value = x := ⟨_, rfl⟩
      rw [hx] at HCS HAT
      have HD : Kp (∀ W', Below wr.heap.size wr W' → Calls Try.prog 13 #[.agg #[.int .u64 x, sv]] W' (BoolP (dustAt outs k) W')) := ⟨fun W' hb => by rw [HAT.out]; exact refdust_any W' x sv _ (hrb.below hb)⟩
      have HOWN := Kp.mk hown
      have HB := Kp.mk hbel
      have HK := Kp.mk hlt
      have HIO : Kp ((Try.prog.info? 33).map (·.size) = some 2) := ⟨sizeOut⟩
      have HL := Kp.mk hl
      have HST : Kp (dustsTo outs (k + 1) = dustsTo outs k ++ (if dustAt outs k then [(k : Int)] else [])) := ⟨rfl⟩
      have hkn : (k : Int) < (N : Int) := by omega
      have HLEN := Kp.mk (dustsTo_len outs k)
      have HB4 : Kp (∀ w2 c t, Below wr.heap.size wr w2 → Below W1.heap.size W1 (w2.alloc (.cells c t))) := ⟨fun w2 c t h => (HB.out.trans (h.mono HB.out.size)).alloc (HB.out.trans (h.mono HB.out.size)).size _⟩
      clear hO hbl hcl hcs hv hrb hx hown hbel hnn HAT
      cases hd : dustAt outs k with
      | true =>
        rw [hd] at HD HST
        have HT : Kp (dustsTo outs (k + 1) = dustsTo outs k ++ [(k : Int)]) := ⟨by rw [HST.out]; rfl⟩
        clear hd HST
        go_wp2_with (first | (refine wpList_load_mid rfl 33 (.tmp 15) rfl b (off + k * 2) rfl [.int .u64 x, sv] _ HCS.out Try.underlying33 rfl HIO.out ?_) | (go_at_call 13; refine (HD.out _ (Below.refl _ _)).mono ?_; rintro e w2 ⟨rfl, hb2⟩; have HB3 := Kp.mk hb2; clear hb2) | (at_builtin; refine wpList_append_nums .i64 8 (by omega) rfl (.tmp 18) (.tmp 20) 22 rfl (W.heap.size + 1) 3 i0 Try.underlying22 HI.out.1 HI.out.2.1 HI.out.2.2.1 HI.out.2.2.2 _ (dustsTo outs k) rfl (HOWN.out.below (HB3.out.alloc HB3.out.size _)) _ [(k : Int)] rfl (SlK.fresh .i64 w2 3 [(k : Int)]) (by have := HLEN.out; have := HK.out; have := HL.out; simp only [List.length_singleton]; omega) (Nat.le_trans HSZ.out (HB4.out _ _ _ HB3.out).size) ?_; intro v1 w1 ho1 hg1; have HG1 := Kp.mk ((HOWN.out.below (HB3.out.alloc HB3.out.size _)).grows (HB4.out _ _ _ HB3.out) hg1 HSZ2.out); have HO1 := Kp.mk ho1; clear ho1 hg1))
        go_roundw
        case rel => exact ⟨k + 1, by have := HK.out; omega, by go_num, ⟨by rw [HT.out]; exact HO1.out, HG1.out⟩⟩
        case measure => simp [intOf]; have := HK.out; omega
      | false =>
        rw [hd] at HD HST
        have HT : Kp (dustsTo outs (k + 1) = dustsTo outs k) := ⟨by rw [HST.out]; simp⟩
        clear hd HST
        go_wp2_with (first | (refine wpList_load_mid rfl 33 (.tmp 15) rfl b (off + k * 2) rfl [.int .u64 x, sv] _ HCS.out Try.underlying33 rfl HIO.out ?_) | (go_at_call 13; refine (HD.out _ (Below.refl _ _)).mono ?_; rintro e w2 ⟨rfl, hb2⟩; have HB3 := Kp.mk hb2; clear hb2))
        go_roundw
        case rel => exact ⟨k + 1, by have := HK.out; omega, by go_num, ⟨by rw [HT.out]; exact HOWN.out.below HB3.out, HB.out.trans (HB3.out.mono HB.out.size)⟩⟩
        case measure => simp [intOf]; have := HK.out; omega
    · obtain ⟨hown, hbel⟩ := H.out
      obtain rfl : k = N := by omega
      have HD : Kp (dustsOf outs = dustsTo outs k) := ⟨by rw [← HN.out]; rfl⟩
      have HOWN := Kp.mk hown
      have HB := Kp.mk hbel
      clear hown hbel
      go_wp2
      go_ret
      exact ⟨_, rfl, by rw [HD.out]; exact HOWN.out.less (Nat.le_succ _), HB1.out.trans (HB.out.mono HB1.out.size)⟩
end Go.Proofs.Ytpmfhjeeiilnjaa
