/- Contracts of package txns: encode, Base, Bytes. -/
import Derived.Test.YtojeonepplfhlaaTxG
import Derived.Deep.QuietTactic
namespace Go.Proofs.Ytojeonepplfhlaa
open Go.RowKit

def flat {α : Type} (f : α → List Int) (l : List α) : List Int := (l.map f).flatten
theorem flat_snoc {α : Type} (f : α → List Int) (l : List α) (k : Nat) (h : k < l.length) : flat f (l.take (k + 1)) = flat f (l.take k) ++ f l[k] := by
  unfold flat
  rw [List.take_succ_eq_append_getElem h, List.map_append, List.flatten_append]
  simp
theorem flat_len {α : Type} (f : α → List Int) (m : Nat) (l : List α) (h : ∀ x ∈ l, (f x).length ≤ m) : (flat f l).length ≤ m * l.length := by
  induction l with
  | nil => simp [flat]
  | cons x xs ih =>
    have h1 := ih fun y hy => h y (List.mem_cons_of_mem _ hy)
    have h2 := h x (by simp)
    have e : flat f (x :: xs) = f x ++ flat f xs := rfl
    rw [e, List.length_append, List.length_cons, Nat.mul_add]
    omega
def encWits (d : InD) : List Int := encWit d.wit
/-- The bytes of a transaction; with 'whole' those of its witnesses, too. -/
def encTx (t : TxD) (whole : Bool) : List Int :=
  leb t.version 4 ++ ((if whole then [0, 1] else []) ++ (cnt t.ins.length ++ (flat encIn t.ins ++ (cnt t.outs.length ++ (flat encOut t.outs ++ ((if whole then flat encWits t.ins else []) ++ leb t.lock 4))))))

/-- What 'May' says. -/
structure MayF (t : TxD) : Prop where
  i1 : 1 ≤ t.ins.length
  i50 : t.ins.length ≤ 50
  o1 : 1 ≤ t.outs.length
  o50 : t.outs.length ≤ 50
  isc : ∀ d ∈ t.ins, d.script.length ≤ 500
  iwl : ∀ d ∈ t.ins, d.wit.length ≤ 10
  iwx : ∀ d ∈ t.ins, ∀ x ∈ d.wit, x.length ≤ 500
  osc : ∀ d ∈ t.outs, d.script.length ≤ 500
theorem mayB_iff (t : TxD) : mayB t = true ↔ MayF t := by
  unfold mayB withinB longInB longB
  simp only [Bool.and_eq_true, decide_eq_true_eq, Bool.not_eq_true', List.any_eq_false, Bool.or_eq_true, List.any_eq_true, not_or, not_exists, not_and, Nat.not_lt]
  constructor
  · rintro ⟨⟨h1, h2⟩, ⟨h3, h4⟩, h5, h6⟩
    exact ⟨h1, h2, h3, h4, fun d hd => (h5 d hd).1, fun d hd => (h5 d hd).2.1, fun d hd x hx => (h5 d hd).2.2 x hx, fun d hd => h6 d hd⟩
  · rintro ⟨h1, h2, h3, h4, h5, h6, h7, h8⟩
    exact ⟨⟨h1, h2⟩, ⟨h3, h4⟩, fun d hd => ⟨h5 d hd, h6 d hd, h7 d hd⟩, h8⟩
theorem encIn_len (d : InD) (hp : d.prev.length = 32) (h : d.script.length ≤ 500) : (encIn d).length ≤ 545 := by
  have := encText_len d.script
  simp [encIn, leb_len]
  omega
theorem encOut_len (d : OutD) (h : d.script.length ≤ 500) : (encOut d).length ≤ 513 := by
  have := encText_len d.script
  simp [encOut, leb_len]
  omega
theorem encWits_len (d : InD) (h : d.wit.length ≤ 10) (hx : ∀ x ∈ d.wit, x.length ≤ 500) : (encWits d).length ≤ 5055 := by
  have h1 := encRows_len d.wit hx
  have h2 := cnt_max d.wit.length
  simp [encWits, encWit]
  omega
theorem ins_fit {w : World} {v : Value} {l : List InD} (h : InsR w v l) : ∀ d ∈ l, d.Fit := by
  intro d hd
  obtain ⟨A, c, _, _, _, _, hr⟩ := h
  obtain ⟨i, hi, rfl⟩ := List.mem_iff_getElem.1 hd
  obtain ⟨b, off, _, _, hx⟩ := hr (by rintro rfl; simp at hi)
  obtain ⟨cs, _, _, _, _, _, hf, _⟩ := hx i _ (List.getElem?_eq_getElem hi)
  exact hf

set_option maxRecDepth 100000 in
set_option maxHeartbeats 8000000 in
theorem encode_false (W : World) (v : Value) (t : TxD) (h : TxR W v t) (hm : MayF t) : Calls Try.prog 28 #[v, .bool false] W (App W.heap.size (encTx t false) W) := by
  obtain ⟨i0, hi, hz0, hz1, hz2⟩ := info_parts infoByte
  obtain ⟨iv, ov, rfl, hv, hk, hins, houts⟩ := h
  obtain ⟨Ai, ci, rfl, hci, _⟩ := hins.slice
  obtain ⟨Ao, co, rfl, hco, _⟩ := houts.slice
  obtain ⟨bi, oi, rfl, hli, hati⟩ := hins.all (by intro e; have := hm.i1; rw [e] at this; simp at this)
  obtain ⟨bo, oo, rfl, hlo, hato⟩ := houts.all (by intro e; have := hm.o1; rw [e] at this; simp at this)
  have HFIT := Kp.mk (ins_fit hins)
  have HM := Kp.mk hm
  have hin50 : (t.ins.length : Int) ≤ 50 := by have := hm.i50; omega
  have hon50 : (t.outs.length : Int) ≤ 50 := by have := hm.o50; omega
  have HATI : Kp (∀ (i : Nat) (hi : i < t.ins.length), ∃ cs, cs.length = 36 ∧ W.rangeAt bi (oi + i * 36) cs ∧ InR W cs t.ins[i]) := ⟨hati⟩
  have HATO : Kp (∀ (i : Nat) (hi : i < t.outs.length), ∃ cs, cs.length = 2 ∧ W.rangeAt bo (oo + i * 2) cs ∧ OutR W cs t.outs[i]) := ⟨hato⟩
  have HLT : Kp (bi < W.heap.size ∧ bo < W.heap.size) := ⟨hli, hlo⟩
  have HNUM : Kp (t.version < 4294967296 ∧ t.lock < 4294967296) := ⟨hv, hk⟩
  obtain ⟨B, hB⟩ : ∃ B, B = W.heap.size + 1 := ⟨_, rfl⟩
  have HBOX : Kp (∀ w', Grew B (W.alloc (.cells #[.int .u32 t.version, .slice (some ⟨bi, oi, none⟩) t.ins.length ci, .slice (some ⟨bo, oo, none⟩) t.outs.length co, .int .u32 t.lock] 26)) w' → w'.cell? ⟨W.heap.size, 1, none⟩ = some (.slice (some ⟨bi, oi, none⟩) t.ins.length ci) ∧ w'.cell? ⟨W.heap.size, 2, none⟩ = some (.slice (some ⟨bo, oo, none⟩) t.outs.length co) ∧ w'.cell? ⟨W.heap.size, 3, none⟩ = some (.int .u32 t.lock)) := ⟨fun w' hg => by
    have hb := hg.box _ _ _ (Box.fresh W 26 _) (by decide)
    exact ⟨by rw [hb.cell]; rfl, by rw [hb.cell]; rfl, by rw [hb.cell]; rfl⟩⟩
  have HLOW : Kp (∀ w', Grew B (W.alloc (.cells #[.int .u32 t.version, .slice (some ⟨bi, oi, none⟩) t.ins.length ci, .slice (some ⟨bo, oo, none⟩) t.outs.length co, .int .u32 t.lock] 26)) w' → Below W.heap.size W w' ∧ B ≤ w'.heap.size) := ⟨fun w' hg => ⟨((Below.refl _ _).alloc (Nat.le_refl _) _).trans (hg.low.mono (by omega)), by have := hg.low.size; rw [alloc_size] at this; omega⟩⟩
  have HFIN : Kp (∀ w', Grew B (W.alloc (.cells #[.int .u32 t.version, .slice (some ⟨bi, oi, none⟩) t.ins.length ci, .slice (some ⟨bo, oo, none⟩) t.outs.length co, .int .u32 t.lock] 26)) w' → Grew W.heap.size W w') := ⟨fun w' hg => (Grew.of_below (Nat.le_refl _) ((Below.refl _ _).alloc (Nat.le_refl _) _)).trans (hg.mono (by omega))⟩
  have H0 : Kp (W.heap.size ≤ B) := ⟨by omega⟩
  have H1 := Kp.mk (addSmall_any (W.alloc (.cells #[.int .u32 t.version, .slice (some ⟨bi, oi, none⟩) t.ins.length ci, .slice (some ⟨bo, oo, none⟩) t.outs.length co, .int .u32 t.lock] 26)) B (.slice none 0 0) [] t.version (by rw [alloc_size]; omega) (own_nil _ _ _) hv (by simp))
  clear hins houts hm hli hlo hati hato hv hk hB
  go_enter Try.func28, Try.ntmps28
  go_wp2_with fail
  generalize W.alloc (.cells #[.int .u32 t.version, .slice (some ⟨bi, oi, none⟩) t.ins.length ci, .slice (some ⟨bo, oo, none⟩) t.outs.length co, .int .u32 t.lock] 26) = W1 at *
  refine H1.out.mono ?_
  rintro e w1 ⟨v1, rfl, ho1, hg1⟩
  obtain ⟨P1, hP1⟩ : ∃ P, [] ++ leb t.version 4 = P := ⟨_, rfl⟩
  have HP1 : Kp (P1 = leb t.version 4 ∧ P1.length ≤ 4) := ⟨by rw [← hP1]; rfl, by rw [← hP1]; simp [leb_len]⟩
  rw [hP1] at ho1
  have HO1 := Kp.mk ho1
  have HG1 := Kp.mk hg1
  obtain ⟨A1, c1, rfl⟩ := ho1.slice
  obtain ⟨w2, rfl⟩ : ∃ w2 : World, w2 = w1 := ⟨_, rfl⟩
  obtain ⟨P2, rfl⟩ : ∃ P2, P2 = P1 := ⟨_, rfl⟩
  have HP2 : Kp (P2 = leb t.version 4 ++ [] ∧ P2.length ≤ 6) := ⟨by rw [HP1.out.1]; simp, by have := HP1.out.2; omega⟩
  have HO2 := HO1
  have HG2 := HG1
  obtain ⟨k1, _, _⟩ := HBOX.out _ HG2.out
  clear ho1 hg1 hP1
  have H3 := Kp.mk (addCount_any w2 B _ P2 t.ins.length (HLOW.out _ HG2.out).2 HO2.out (by have := HM.out.i50; omega) (by have := HP2.out.2; omega))
  go_wp2_with fail
  refine H3.out.mono ?_
  rintro e w3 ⟨v3, rfl, ho3, hg3⟩
  obtain ⟨P3, hP3⟩ : ∃ P, P2 ++ cnt t.ins.length = P := ⟨_, rfl⟩
  have HP3 : Kp (P3 = leb t.version 4 ++ ([] ++ cnt t.ins.length) ∧ P3.length ≤ 11) := ⟨by rw [← hP3, HP2.out.1, List.append_assoc], by have := HP2.out.2; have := cnt_max t.ins.length; rw [← hP3, List.length_append]; omega⟩
  have HG3 := Kp.mk (HG2.out.trans hg3)
  rw [hP3] at ho3
  have HO3 := Kp.mk ho3
  obtain ⟨A3, c3, rfl⟩ := ho3.slice
  obtain ⟨m1, _, _⟩ := HBOX.out _ HG3.out
  clear ho3 hg3 hP3 k1
  go_wp2
  clear m1
  go_loopw [5, 7, 27] (fun r _ i wr => ∃ (j : Nat) (Lj : List Int), j ≤ t.ins.length ∧ i = .int .i64 j ∧ Kp (Lj = P3 ++ flat encIn (t.ins.take j) ∧ Own wr B 5 r Lj ∧ Grew B W1 wr)) (fun _ _ i _ => t.ins.length - (intOf i).toNat)
  case atStart => exact ⟨0, P3, Nat.zero_le _, rfl, ⟨by simp [flat], HO3.out, HG3.out⟩⟩
  case round =>
    obtain ⟨j, Lj, hj, rfl, ⟨hL, ho, hg⟩⟩ := hrel
    by_cases hjl : j < t.ins.length
    · obtain ⟨cs, hk, hcs, hR⟩ := HATI.out j hjl
      have hone := all_oneCell_toArray hR.one
      have HCS := Kp.mk (rangeAt_block hcs ((HLOW.out _ hg).1.block bi HLT.out.1))
      have HSZ : Kp ((Try.prog.info? 47).map (·.size) = some cs.length) := ⟨by rw [hk]; exact sizeIn⟩
      have hmem : t.ins[j] ∈ t.ins := List.getElem_mem hjl
      have hfl : (flat encIn (t.ins.take j)).length ≤ 545 * 50 := by
        have := flat_len encIn 545 (t.ins.take j) fun x hx => encIn_len x (HFIT.out x (List.mem_of_mem_take hx)).plen (HM.out.isc x (List.mem_of_mem_take hx))
        have hl2 := List.length_take_le j t.ins
        rw [List.length_take] at this
        have := HM.out.i50
        have := HM.out.o50
        omega
      have hLl : Lj.length ≤ 1000000000 := by have := HP3.out.2; rw [hL, List.length_append]; omega
      have hwb := (HLOW.out _ hg)
      have hga : Grew B wr (wr.alloc (.cells cs.toArray 47)) := Grew.of_below hwb.2 ((Below.refl _ _).alloc (Nat.le_refl _) _)
      have hgw := hg.trans hga
      have HT := Kp.mk (addIn_any W (wr.alloc (.cells cs.toArray 47)) B _ Lj cs t.ins[j] H0.out (Nat.le_trans hwb.2 (by simp)) (HLOW.out _ hgw).1 (ho.below ((Below.refl _ _).alloc (Nat.le_refl _) _)) hR (HM.out.isc _ hmem) hLl)
      have HGW := Kp.mk hgw
      have HL := Kp.mk hL
      have HROW := Kp.mk (heap_alloc_new wr (.cells cs.toArray 47))
      have HLEN : Kp (cs.length = 36) := ⟨hk⟩
      have HONE := Kp.mk hone
      have HJ := Kp.mk hjl
      have HS : Kp (flat encIn (t.ins.take (j + 1)) = flat encIn (t.ins.take j) ++ encIn t.ins[j]) := ⟨flat_snoc encIn t.ins j hjl⟩
      have hjl' : (j : Int) < (t.ins.length : Int) := by omega
      obtain ⟨Ar, cr, rfl⟩ := ho.slice
      clear hcs hR hk hone hmem hfl hLl hwb hga hgw hL ho hg
      go_wp2_with (first | (refine wpList_load_mid rfl 47 (.tmp 29) rfl bi (oi + j * 36) rfl cs _ HCS.out Try.underlying47 rfl HSZ.out ?_) | (refine wpList_store_fresh rfl 47 (.tmp 7) (.tmp 30) rfl _ cs.toArray wr.heap.size rfl rfl rfl (by simpa using HSZ.out) (by simp [HLEN.out]) HONE.out ?_) | (refine wpList_load_row rfl 47 (.tmp 7) rfl wr.heap.size rfl _ cs.toArray _ _ HROW.out Try.underlying47 rfl (by simpa using HSZ.out) ?_) | (go_at_call 53; refine HT.out.mono ?_; rintro e w5 ⟨v5, rfl, ho5, hg5⟩))
      exact ⟨⟨j + 1, _, by have := HJ.out; omega, by go_num, ⟨by rw [HL.out, HS.out, List.append_assoc], ho5, HGW.out.trans hg5⟩⟩, by simp [intOf]; have := HJ.out; omega⟩
    · obtain rfl : j = t.ins.length := by omega
      rw [List.take_length] at hL
      obtain ⟨P4, hP4⟩ : ∃ P, Lj = P := ⟨_, rfl⟩
      rw [hP4] at hL ho
      have hfl : (flat encIn t.ins).length ≤ 27250 := by
        have := flat_len encIn 545 t.ins fun x hx => encIn_len x (HFIT.out x hx).plen (HM.out.isc x hx)
        have := HM.out.i50
        omega
      have HP4 : Kp (P4 = leb t.version 4 ++ ([] ++ (cnt t.ins.length ++ flat encIn t.ins)) ∧ P4.length ≤ 28000) := ⟨by rw [hL, HP3.out.1]; simp, by have := HP3.out.2; rw [hL, List.length_append]; omega⟩
      obtain ⟨w4, rfl⟩ : ∃ w4 : World, w4 = wr := ⟨_, rfl⟩
      have HG4 := Kp.mk hg
      have HO4 := Kp.mk ho
      obtain ⟨A4, c4, rfl⟩ := ho.slice
      obtain ⟨_, n2, _⟩ := HBOX.out _ HG4.out
      have H5 := Kp.mk (addCount_any w4 B _ P4 t.outs.length (HLOW.out _ HG4.out).2 HO4.out (by have := HM.out.o50; omega) (by have := HP4.out.2; omega))
      clear hL ho hg hfl hP4 hjl
      go_wp2_with fail
      refine H5.out.mono ?_
      rintro e w5 ⟨v5, rfl, ho5, hg5⟩
      obtain ⟨P5, hP5⟩ : ∃ P, P4 ++ cnt t.outs.length = P := ⟨_, rfl⟩
      have HP5 : Kp (P5 = leb t.version 4 ++ ([] ++ (cnt t.ins.length ++ (flat encIn t.ins ++ cnt t.outs.length))) ∧ P5.length ≤ 28005) := ⟨by rw [← hP5, HP4.out.1]; simp, by have := HP4.out.2; have := cnt_max t.outs.length; rw [← hP5, List.length_append]; omega⟩
      have HG5 := Kp.mk (HG4.out.trans hg5)
      rw [hP5] at ho5
      have HO5 := Kp.mk ho5
      obtain ⟨A5, c5, rfl⟩ := ho5.slice
      obtain ⟨_, m2, _⟩ := HBOX.out _ HG5.out
      clear ho5 hg5 hP5 n2
      go_wp2
      clear m2
      go_loopw [5, 9, 43] (fun r _ i wr => ∃ (j : Nat) (Lj : List Int), j ≤ t.outs.length ∧ i = .int .i64 j ∧ Kp (Lj = P5 ++ flat encOut (t.outs.take j) ∧ Own wr B 5 r Lj ∧ Grew B W1 wr)) (fun _ _ i _ => t.outs.length - (intOf i).toNat)
      case atStart => exact ⟨0, P5, Nat.zero_le _, rfl, ⟨by simp [flat], HO5.out, HG5.out⟩⟩
      case round =>
        obtain ⟨j, Lj, hj, rfl, ⟨hL, ho, hg⟩⟩ := hrel
        by_cases hjl : j < t.outs.length
        · obtain ⟨cs, hk, hcs, hR⟩ := HATO.out j hjl
          have hone := all_oneCell_toArray hR.one
          have HCS := Kp.mk (rangeAt_block hcs ((HLOW.out _ hg).1.block bo HLT.out.2))
          have HSZ : Kp ((Try.prog.info? 51).map (·.size) = some cs.length) := ⟨by rw [hk]; exact sizeOut⟩
          have hmem : t.outs[j] ∈ t.outs := List.getElem_mem hjl
          have hfl : (flat encOut (t.outs.take j)).length ≤ 513 * 50 := by
            have := flat_len encOut 513 (t.outs.take j) fun x hx => encOut_len x (HM.out.osc x (List.mem_of_mem_take hx))
            have hl2 := List.length_take_le j t.outs
            rw [List.length_take] at this
            have := HM.out.i50
            have := HM.out.o50
            omega
          have hLl : Lj.length ≤ 1000000000 := by have := HP5.out.2; rw [hL, List.length_append]; omega
          have hwb := (HLOW.out _ hg)
          have hga : Grew B wr (wr.alloc (.cells cs.toArray 51)) := Grew.of_below hwb.2 ((Below.refl _ _).alloc (Nat.le_refl _) _)
          have hgw := hg.trans hga
          have HT := Kp.mk (addOut_any W (wr.alloc (.cells cs.toArray 51)) B _ Lj cs t.outs[j] H0.out (Nat.le_trans hwb.2 (by simp)) (HLOW.out _ hgw).1 (ho.below ((Below.refl _ _).alloc (Nat.le_refl _) _)) hR (HM.out.osc _ hmem) hLl)
          have HGW := Kp.mk hgw
          have HL := Kp.mk hL
          have HROW := Kp.mk (heap_alloc_new wr (.cells cs.toArray 51))
          have HLEN : Kp (cs.length = 2) := ⟨hk⟩
          have HONE := Kp.mk hone
          have HJ := Kp.mk hjl
          have HS : Kp (flat encOut (t.outs.take (j + 1)) = flat encOut (t.outs.take j) ++ encOut t.outs[j]) := ⟨flat_snoc encOut t.outs j hjl⟩
          have hjl' : (j : Int) < (t.outs.length : Int) := by omega
          obtain ⟨Ar, cr, rfl⟩ := ho.slice
          clear hcs hR hk hone hmem hfl hLl hwb hga hgw hL ho hg
          go_wp2_with (first | (refine wpList_load_mid rfl 51 (.tmp 45) rfl bo (oo + j * 2) rfl cs _ HCS.out Try.underlying51 rfl HSZ.out ?_) | (refine wpList_store_fresh rfl 51 (.tmp 9) (.tmp 46) rfl _ cs.toArray wr.heap.size rfl rfl rfl (by simpa using HSZ.out) (by simp [HLEN.out]) HONE.out ?_) | (refine wpList_load_row rfl 51 (.tmp 9) rfl wr.heap.size rfl _ cs.toArray _ _ HROW.out Try.underlying51 rfl (by simpa using HSZ.out) ?_) | (go_at_call 54; refine HT.out.mono ?_; rintro e w5 ⟨v5, rfl, ho5, hg5⟩))
          exact ⟨⟨j + 1, _, by have := HJ.out; omega, by go_num, ⟨by rw [HL.out, HS.out, List.append_assoc], ho5, HGW.out.trans hg5⟩⟩, by simp [intOf]; have := HJ.out; omega⟩
        · obtain rfl : j = t.outs.length := by omega
          rw [List.take_length] at hL
          obtain ⟨P6, hP6⟩ : ∃ P, Lj = P := ⟨_, rfl⟩
          rw [hP6] at hL ho
          have hfl : (flat encOut t.outs).length ≤ 25650 := by
            have := flat_len encOut 513 t.outs fun x hx => encOut_len x (HM.out.osc x hx)
            have := HM.out.o50
            omega
          have HP6 : Kp (P6 = leb t.version 4 ++ ([] ++ (cnt t.ins.length ++ (flat encIn t.ins ++ (cnt t.outs.length ++ flat encOut t.outs)))) ∧ P6.length ≤ 60000) := ⟨by rw [hL, HP5.out.1]; simp, by have := HP5.out.2; rw [hL, List.length_append]; omega⟩
          obtain ⟨w6, rfl⟩ : ∃ w6 : World, w6 = wr := ⟨_, rfl⟩
          have HG6 := Kp.mk hg
          have HO6 := Kp.mk ho
          obtain ⟨A6, c6, rfl⟩ := ho.slice
          clear hL ho hg hfl hP6 hjl
          obtain ⟨w8, rfl⟩ : ∃ w8 : World, w8 = w6 := ⟨_, rfl⟩
          obtain ⟨P8, rfl⟩ : ∃ P8, P8 = P6 := ⟨_, rfl⟩
          have HP8 : Kp (P8 = leb t.version 4 ++ ([] ++ (cnt t.ins.length ++ (flat encIn t.ins ++ (cnt t.outs.length ++ (flat encOut t.outs ++ []))))) ∧ P8.length ≤ 400000) := ⟨by rw [HP6.out.1]; simp, by have := HP6.out.2; omega⟩
          have HO8 := HO6
          have HG8 := HG6
          obtain ⟨_, _, k3⟩ := HBOX.out _ HG8.out
          have H9 := Kp.mk (addSmall_any w8 B _ P8 t.lock (HLOW.out _ HG8.out).2 HO8.out HNUM.out.2 (by have := HP8.out.2; omega))
          go_wp2_with fail
          refine H9.out.mono ?_
          rintro e w9 ⟨v9, rfl, ho9, hg9⟩
          obtain ⟨P9, hP9⟩ : ∃ P, P8 ++ leb t.lock 4 = P := ⟨_, rfl⟩
          have HE : Kp (encTx t false = P9) := ⟨by rw [← hP9, HP8.out.1]; simp [encTx]⟩
          have HG9 := Kp.mk (HG8.out.trans hg9)
          rw [hP9] at ho9
          have HO9 := Kp.mk (ho9.less H0.out)
          obtain ⟨A9, c9, rfl⟩ := ho9.slice
          clear ho9 hg9 hP9 k3
          go_wp2
          go_ret
          exact ⟨_, rfl, by rw [HE.out]; exact HO9.out, HFIN.out _ HG9.out⟩

set_option maxRecDepth 100000 in
set_option maxHeartbeats 8000000 in
theorem encode_true (W : World) (v : Value) (t : TxD) (h : TxR W v t) (hm : MayF t) : Calls Try.prog 28 #[v, .bool true] W (App W.heap.size (encTx t true) W) := by
  obtain ⟨i0, hi, hz0, hz1, hz2⟩ := info_parts infoByte
  obtain ⟨iv, ov, rfl, hv, hk, hins, houts⟩ := h
  obtain ⟨Ai, ci, rfl, hci, _⟩ := hins.slice
  obtain ⟨Ao, co, rfl, hco, _⟩ := houts.slice
  obtain ⟨bi, oi, rfl, hli, hati⟩ := hins.all (by intro e; have := hm.i1; rw [e] at this; simp at this)
  obtain ⟨bo, oo, rfl, hlo, hato⟩ := houts.all (by intro e; have := hm.o1; rw [e] at this; simp at this)
  have HFIT := Kp.mk (ins_fit hins)
  have HM := Kp.mk hm
  have hin50 : (t.ins.length : Int) ≤ 50 := by have := hm.i50; omega
  have hon50 : (t.outs.length : Int) ≤ 50 := by have := hm.o50; omega
  have HATI : Kp (∀ (i : Nat) (hi : i < t.ins.length), ∃ cs, cs.length = 36 ∧ W.rangeAt bi (oi + i * 36) cs ∧ InR W cs t.ins[i]) := ⟨hati⟩
  have HATO : Kp (∀ (i : Nat) (hi : i < t.outs.length), ∃ cs, cs.length = 2 ∧ W.rangeAt bo (oo + i * 2) cs ∧ OutR W cs t.outs[i]) := ⟨hato⟩
  have HLT : Kp (bi < W.heap.size ∧ bo < W.heap.size) := ⟨hli, hlo⟩
  have HNUM : Kp (t.version < 4294967296 ∧ t.lock < 4294967296) := ⟨hv, hk⟩
  obtain ⟨B, hB⟩ : ∃ B, B = W.heap.size + 1 := ⟨_, rfl⟩
  have HBOX : Kp (∀ w', Grew B (W.alloc (.cells #[.int .u32 t.version, .slice (some ⟨bi, oi, none⟩) t.ins.length ci, .slice (some ⟨bo, oo, none⟩) t.outs.length co, .int .u32 t.lock] 26)) w' → w'.cell? ⟨W.heap.size, 1, none⟩ = some (.slice (some ⟨bi, oi, none⟩) t.ins.length ci) ∧ w'.cell? ⟨W.heap.size, 2, none⟩ = some (.slice (some ⟨bo, oo, none⟩) t.outs.length co) ∧ w'.cell? ⟨W.heap.size, 3, none⟩ = some (.int .u32 t.lock)) := ⟨fun w' hg => by
    have hb := hg.box _ _ _ (Box.fresh W 26 _) (by decide)
    exact ⟨by rw [hb.cell]; rfl, by rw [hb.cell]; rfl, by rw [hb.cell]; rfl⟩⟩
  have HLOW : Kp (∀ w', Grew B (W.alloc (.cells #[.int .u32 t.version, .slice (some ⟨bi, oi, none⟩) t.ins.length ci, .slice (some ⟨bo, oo, none⟩) t.outs.length co, .int .u32 t.lock] 26)) w' → Below W.heap.size W w' ∧ B ≤ w'.heap.size) := ⟨fun w' hg => ⟨((Below.refl _ _).alloc (Nat.le_refl _) _).trans (hg.low.mono (by omega)), by have := hg.low.size; rw [alloc_size] at this; omega⟩⟩
  have HFIN : Kp (∀ w', Grew B (W.alloc (.cells #[.int .u32 t.version, .slice (some ⟨bi, oi, none⟩) t.ins.length ci, .slice (some ⟨bo, oo, none⟩) t.outs.length co, .int .u32 t.lock] 26)) w' → Grew W.heap.size W w') := ⟨fun w' hg => (Grew.of_below (Nat.le_refl _) ((Below.refl _ _).alloc (Nat.le_refl _) _)).trans (hg.mono (by omega))⟩
  have H0 : Kp (W.heap.size ≤ B) := ⟨by omega⟩
  have H1 := Kp.mk (addSmall_any (W.alloc (.cells #[.int .u32 t.version, .slice (some ⟨bi, oi, none⟩) t.ins.length ci, .slice (some ⟨bo, oo, none⟩) t.outs.length co, .int .u32 t.lock] 26)) B (.slice none 0 0) [] t.version (by rw [alloc_size]; omega) (own_nil _ _ _) hv (by simp))
  clear hins houts hm hli hlo hati hato hv hk hB
  go_enter Try.func28, Try.ntmps28
  go_wp2_with fail
  generalize W.alloc (.cells #[.int .u32 t.version, .slice (some ⟨bi, oi, none⟩) t.ins.length ci, .slice (some ⟨bo, oo, none⟩) t.outs.length co, .int .u32 t.lock] 26) = W1 at *
  refine H1.out.mono ?_
  rintro e w1 ⟨v1, rfl, ho1, hg1⟩
  obtain ⟨P1, hP1⟩ : ∃ P, [] ++ leb t.version 4 = P := ⟨_, rfl⟩
  have HP1 : Kp (P1 = leb t.version 4 ∧ P1.length ≤ 4) := ⟨by rw [← hP1]; rfl, by rw [← hP1]; simp [leb_len]⟩
  rw [hP1] at ho1
  have HO1 := Kp.mk ho1
  have HG1 := Kp.mk hg1
  obtain ⟨A1, c1, rfl⟩ := ho1.slice
  clear ho1 hg1 hP1
  go_wp2_with (at_builtin; refine wpList_append_bytes rfl (.tmp 16) (.tmp 17) 27 rfl B 5 i0 Try.underlying27 hi hz0 hz1 hz2 _ P1 rfl (HO1.out.below ((Below.refl _ _).alloc (Nat.le_refl _) _)) (w1.heap.size + 1) _ [0, 1] rfl ?c1 ?c2 ?c3 ?_)
  case c1 =>
    refine ⟨_, _, rfl, Nat.le_refl _, (fun h => by cases h), fun _ => ⟨w1.heap.size, 0, rfl, Nat.ne_of_lt (Nat.lt_succ_self _), by simp, fun i hi => ?_⟩⟩
    rw [(Box.fresh w1 _ _).cell]
    match i, hi with
    | 0, _ => rfl
    | 1, _ => rfl
  case c2 => have := HP1.out.2; simp; omega
  case c3 => exact Nat.le_trans (HLOW.out _ HG1.out).2 (by simp)
  intro v2 w2 ho2 hg2
  obtain ⟨P2, hP2⟩ : ∃ P, P1 ++ [0, 1] = P := ⟨_, rfl⟩
  have HP2 : Kp (P2 = leb t.version 4 ++ [0, 1] ∧ P2.length ≤ 6) := ⟨by rw [← hP2, HP1.out.1], by have := HP1.out.2; rw [← hP2]; simp; omega⟩
  have hga : Grew B w1 (w1.alloc (.cells #[.int .u8 0, .int .u8 1] 5)) := Grew.of_below (HLOW.out _ HG1.out).2 ((Below.refl _ _).alloc (Nat.le_refl _) _)
  have HG2 := Kp.mk (HG1.out.trans (hga.trans (Grew.of_grown (HO1.out.below ((Below.refl _ _).alloc (Nat.le_refl _) _)) (Nat.le_trans (HLOW.out _ HG1.out).2 (by simp)) hg2)))
  rw [hP2] at ho2
  have HO2 := Kp.mk ho2
  obtain ⟨A2, c2, rfl⟩ := ho2.slice
  obtain ⟨k1, _, _⟩ := HBOX.out _ HG2.out
  clear ho2 hg2 hP2 hga
  have H3 := Kp.mk (addCount_any w2 B _ P2 t.ins.length (HLOW.out _ HG2.out).2 HO2.out (by have := HM.out.i50; omega) (by have := HP2.out.2; omega))
  go_wp2_with fail
  refine H3.out.mono ?_
  rintro e w3 ⟨v3, rfl, ho3, hg3⟩
  obtain ⟨P3, hP3⟩ : ∃ P, P2 ++ cnt t.ins.length = P := ⟨_, rfl⟩
  have HP3 : Kp (P3 = leb t.version 4 ++ ([0, 1] ++ cnt t.ins.length) ∧ P3.length ≤ 11) := ⟨by rw [← hP3, HP2.out.1, List.append_assoc], by have := HP2.out.2; have := cnt_max t.ins.length; rw [← hP3, List.length_append]; omega⟩
  have HG3 := Kp.mk (HG2.out.trans hg3)
  rw [hP3] at ho3
  have HO3 := Kp.mk ho3
  obtain ⟨A3, c3, rfl⟩ := ho3.slice
  obtain ⟨m1, _, _⟩ := HBOX.out _ HG3.out
  clear ho3 hg3 hP3 k1
  go_wp2
  clear m1
  go_loopw [5, 7, 27] (fun r _ i wr => ∃ (j : Nat) (Lj : List Int), j ≤ t.ins.length ∧ i = .int .i64 j ∧ Kp (Lj = P3 ++ flat encIn (t.ins.take j) ∧ Own wr B 5 r Lj ∧ Grew B W1 wr)) (fun _ _ i _ => t.ins.length - (intOf i).toNat)
  case atStart => exact ⟨0, P3, Nat.zero_le _, rfl, ⟨by simp [flat], HO3.out, HG3.out⟩⟩
  case round =>
    obtain ⟨j, Lj, hj, rfl, ⟨hL, ho, hg⟩⟩ := hrel
    by_cases hjl : j < t.ins.length
    · obtain ⟨cs, hk, hcs, hR⟩ := HATI.out j hjl
      have hone := all_oneCell_toArray hR.one
      have HCS := Kp.mk (rangeAt_block hcs ((HLOW.out _ hg).1.block bi HLT.out.1))
      have HSZ : Kp ((Try.prog.info? 47).map (·.size) = some cs.length) := ⟨by rw [hk]; exact sizeIn⟩
      have hmem : t.ins[j] ∈ t.ins := List.getElem_mem hjl
      have hfl : (flat encIn (t.ins.take j)).length ≤ 545 * 50 := by
        have := flat_len encIn 545 (t.ins.take j) fun x hx => encIn_len x (HFIT.out x (List.mem_of_mem_take hx)).plen (HM.out.isc x (List.mem_of_mem_take hx))
        have hl2 := List.length_take_le j t.ins
        rw [List.length_take] at this
        have := HM.out.i50
        have := HM.out.o50
        omega
      have hLl : Lj.length ≤ 1000000000 := by have := HP3.out.2; rw [hL, List.length_append]; omega
      have hwb := (HLOW.out _ hg)
      have hga : Grew B wr (wr.alloc (.cells cs.toArray 47)) := Grew.of_below hwb.2 ((Below.refl _ _).alloc (Nat.le_refl _) _)
      have hgw := hg.trans hga
      have HT := Kp.mk (addIn_any W (wr.alloc (.cells cs.toArray 47)) B _ Lj cs t.ins[j] H0.out (Nat.le_trans hwb.2 (by simp)) (HLOW.out _ hgw).1 (ho.below ((Below.refl _ _).alloc (Nat.le_refl _) _)) hR (HM.out.isc _ hmem) hLl)
      have HGW := Kp.mk hgw
      have HL := Kp.mk hL
      have HROW := Kp.mk (heap_alloc_new wr (.cells cs.toArray 47))
      have HLEN : Kp (cs.length = 36) := ⟨hk⟩
      have HONE := Kp.mk hone
      have HJ := Kp.mk hjl
      have HS : Kp (flat encIn (t.ins.take (j + 1)) = flat encIn (t.ins.take j) ++ encIn t.ins[j]) := ⟨flat_snoc encIn t.ins j hjl⟩
      have hjl' : (j : Int) < (t.ins.length : Int) := by omega
      obtain ⟨Ar, cr, rfl⟩ := ho.slice
      clear hcs hR hk hone hmem hfl hLl hwb hga hgw hL ho hg
      go_wp2_with (first | (refine wpList_load_mid rfl 47 (.tmp 29) rfl bi (oi + j * 36) rfl cs _ HCS.out Try.underlying47 rfl HSZ.out ?_) | (refine wpList_store_fresh rfl 47 (.tmp 7) (.tmp 30) rfl _ cs.toArray wr.heap.size rfl rfl rfl (by simpa using HSZ.out) (by simp [HLEN.out]) HONE.out ?_) | (refine wpList_load_row rfl 47 (.tmp 7) rfl wr.heap.size rfl _ cs.toArray _ _ HROW.out Try.underlying47 rfl (by simpa using HSZ.out) ?_) | (go_at_call 53; refine HT.out.mono ?_; rintro e w5 ⟨v5, rfl, ho5, hg5⟩))
      exact ⟨⟨j + 1, _, by have := HJ.out; omega, by go_num, ⟨by rw [HL.out, HS.out, List.append_assoc], ho5, HGW.out.trans hg5⟩⟩, by simp [intOf]; have := HJ.out; omega⟩
    · obtain rfl : j = t.ins.length := by omega
      rw [List.take_length] at hL
      obtain ⟨P4, hP4⟩ : ∃ P, Lj = P := ⟨_, rfl⟩
      rw [hP4] at hL ho
      have hfl : (flat encIn t.ins).length ≤ 27250 := by
        have := flat_len encIn 545 t.ins fun x hx => encIn_len x (HFIT.out x hx).plen (HM.out.isc x hx)
        have := HM.out.i50
        omega
      have HP4 : Kp (P4 = leb t.version 4 ++ ([0, 1] ++ (cnt t.ins.length ++ flat encIn t.ins)) ∧ P4.length ≤ 28000) := ⟨by rw [hL, HP3.out.1]; simp, by have := HP3.out.2; rw [hL, List.length_append]; omega⟩
      obtain ⟨w4, rfl⟩ : ∃ w4 : World, w4 = wr := ⟨_, rfl⟩
      have HG4 := Kp.mk hg
      have HO4 := Kp.mk ho
      obtain ⟨A4, c4, rfl⟩ := ho.slice
      obtain ⟨_, n2, _⟩ := HBOX.out _ HG4.out
      have H5 := Kp.mk (addCount_any w4 B _ P4 t.outs.length (HLOW.out _ HG4.out).2 HO4.out (by have := HM.out.o50; omega) (by have := HP4.out.2; omega))
      clear hL ho hg hfl hP4 hjl
      go_wp2_with fail
      refine H5.out.mono ?_
      rintro e w5 ⟨v5, rfl, ho5, hg5⟩
      obtain ⟨P5, hP5⟩ : ∃ P, P4 ++ cnt t.outs.length = P := ⟨_, rfl⟩
      have HP5 : Kp (P5 = leb t.version 4 ++ ([0, 1] ++ (cnt t.ins.length ++ (flat encIn t.ins ++ cnt t.outs.length))) ∧ P5.length ≤ 28005) := ⟨by rw [← hP5, HP4.out.1]; simp, by have := HP4.out.2; have := cnt_max t.outs.length; rw [← hP5, List.length_append]; omega⟩
      have HG5 := Kp.mk (HG4.out.trans hg5)
      rw [hP5] at ho5
      have HO5 := Kp.mk ho5
      obtain ⟨A5, c5, rfl⟩ := ho5.slice
      obtain ⟨_, m2, _⟩ := HBOX.out _ HG5.out
      clear ho5 hg5 hP5 n2
      go_wp2
      clear m2
      go_loopw [5, 9, 43] (fun r _ i wr => ∃ (j : Nat) (Lj : List Int), j ≤ t.outs.length ∧ i = .int .i64 j ∧ Kp (Lj = P5 ++ flat encOut (t.outs.take j) ∧ Own wr B 5 r Lj ∧ Grew B W1 wr)) (fun _ _ i _ => t.outs.length - (intOf i).toNat)
      case atStart => exact ⟨0, P5, Nat.zero_le _, rfl, ⟨by simp [flat], HO5.out, HG5.out⟩⟩
      case round =>
        obtain ⟨j, Lj, hj, rfl, ⟨hL, ho, hg⟩⟩ := hrel
        by_cases hjl : j < t.outs.length
        · obtain ⟨cs, hk, hcs, hR⟩ := HATO.out j hjl
          have hone := all_oneCell_toArray hR.one
          have HCS := Kp.mk (rangeAt_block hcs ((HLOW.out _ hg).1.block bo HLT.out.2))
          have HSZ : Kp ((Try.prog.info? 51).map (·.size) = some cs.length) := ⟨by rw [hk]; exact sizeOut⟩
          have hmem : t.outs[j] ∈ t.outs := List.getElem_mem hjl
          have hfl : (flat encOut (t.outs.take j)).length ≤ 513 * 50 := by
            have := flat_len encOut 513 (t.outs.take j) fun x hx => encOut_len x (HM.out.osc x (List.mem_of_mem_take hx))
            have hl2 := List.length_take_le j t.outs
            rw [List.length_take] at this
            have := HM.out.i50
            have := HM.out.o50
            omega
          have hLl : Lj.length ≤ 1000000000 := by have := HP5.out.2; rw [hL, List.length_append]; omega
          have hwb := (HLOW.out _ hg)
          have hga : Grew B wr (wr.alloc (.cells cs.toArray 51)) := Grew.of_below hwb.2 ((Below.refl _ _).alloc (Nat.le_refl _) _)
          have hgw := hg.trans hga
          have HT := Kp.mk (addOut_any W (wr.alloc (.cells cs.toArray 51)) B _ Lj cs t.outs[j] H0.out (Nat.le_trans hwb.2 (by simp)) (HLOW.out _ hgw).1 (ho.below ((Below.refl _ _).alloc (Nat.le_refl _) _)) hR (HM.out.osc _ hmem) hLl)
          have HGW := Kp.mk hgw
          have HL := Kp.mk hL
          have HROW := Kp.mk (heap_alloc_new wr (.cells cs.toArray 51))
          have HLEN : Kp (cs.length = 2) := ⟨hk⟩
          have HONE := Kp.mk hone
          have HJ := Kp.mk hjl
          have HS : Kp (flat encOut (t.outs.take (j + 1)) = flat encOut (t.outs.take j) ++ encOut t.outs[j]) := ⟨flat_snoc encOut t.outs j hjl⟩
          have hjl' : (j : Int) < (t.outs.length : Int) := by omega
          obtain ⟨Ar, cr, rfl⟩ := ho.slice
          clear hcs hR hk hone hmem hfl hLl hwb hga hgw hL ho hg
          go_wp2_with (first | (refine wpList_load_mid rfl 51 (.tmp 45) rfl bo (oo + j * 2) rfl cs _ HCS.out Try.underlying51 rfl HSZ.out ?_) | (refine wpList_store_fresh rfl 51 (.tmp 9) (.tmp 46) rfl _ cs.toArray wr.heap.size rfl rfl rfl (by simpa using HSZ.out) (by simp [HLEN.out]) HONE.out ?_) | (refine wpList_load_row rfl 51 (.tmp 9) rfl wr.heap.size rfl _ cs.toArray _ _ HROW.out Try.underlying51 rfl (by simpa using HSZ.out) ?_) | (go_at_call 54; refine HT.out.mono ?_; rintro e w5 ⟨v5, rfl, ho5, hg5⟩))
          exact ⟨⟨j + 1, _, by have := HJ.out; omega, by go_num, ⟨by rw [HL.out, HS.out, List.append_assoc], ho5, HGW.out.trans hg5⟩⟩, by simp [intOf]; have := HJ.out; omega⟩
        · obtain rfl : j = t.outs.length := by omega
          rw [List.take_length] at hL
          obtain ⟨P6, hP6⟩ : ∃ P, Lj = P := ⟨_, rfl⟩
          rw [hP6] at hL ho
          have hfl : (flat encOut t.outs).length ≤ 25650 := by
            have := flat_len encOut 513 t.outs fun x hx => encOut_len x (HM.out.osc x hx)
            have := HM.out.o50
            omega
          have HP6 : Kp (P6 = leb t.version 4 ++ ([0, 1] ++ (cnt t.ins.length ++ (flat encIn t.ins ++ (cnt t.outs.length ++ flat encOut t.outs)))) ∧ P6.length ≤ 60000) := ⟨by rw [hL, HP5.out.1]; simp, by have := HP5.out.2; rw [hL, List.length_append]; omega⟩
          obtain ⟨w6, rfl⟩ : ∃ w6 : World, w6 = wr := ⟨_, rfl⟩
          have HG6 := Kp.mk hg
          have HO6 := Kp.mk ho
          obtain ⟨A6, c6, rfl⟩ := ho.slice
          clear hL ho hg hfl hP6 hjl
          obtain ⟨k1, _, _⟩ := HBOX.out _ HG6.out
          go_wp2
          clear k1
          go_loopw [5, 11, 55] (fun r _ i wr => ∃ (j : Nat) (Lj : List Int), j ≤ t.ins.length ∧ i = .int .i64 j ∧ Kp (Lj = P6 ++ flat encWits (t.ins.take j) ∧ Own wr B 5 r Lj ∧ Grew B W1 wr)) (fun _ _ i _ => t.ins.length - (intOf i).toNat)
          case atStart => exact ⟨0, P6, Nat.zero_le _, rfl, ⟨by simp [flat], HO6.out, HG6.out⟩⟩
          case round =>
            obtain ⟨j, Lj, hj, rfl, ⟨hL, ho, hg⟩⟩ := hrel
            by_cases hjl : j < t.ins.length
            · obtain ⟨cs, hk, hcs, hR⟩ := HATI.out j hjl
              have hone := all_oneCell_toArray hR.one
              have HCS := Kp.mk (rangeAt_block hcs ((HLOW.out _ hg).1.block bi HLT.out.1))
              have HSZ : Kp ((Try.prog.info? 47).map (·.size) = some cs.length) := ⟨by rw [hk]; exact sizeIn⟩
              have hmem : t.ins[j] ∈ t.ins := List.getElem_mem hjl
              have hfl : (flat encWits (t.ins.take j)).length ≤ 5055 * 50 := by
                have := flat_len encWits 5055 (t.ins.take j) fun x hx => encWits_len x (HM.out.iwl x (List.mem_of_mem_take hx)) (HM.out.iwx x (List.mem_of_mem_take hx))
                rw [List.length_take] at this
                have := HM.out.i50
                omega
              have hLl : Lj.length ≤ 1000000000 := by have := HP6.out.2; rw [hL, List.length_append]; omega
              have hwb := (HLOW.out _ hg)
              have hga : Grew B wr (wr.alloc (.cells cs.toArray 47)) := Grew.of_below hwb.2 ((Below.refl _ _).alloc (Nat.le_refl _) _)
              have hgw := hg.trans hga
              obtain ⟨sv, wv, rfl, hf, _, hwit⟩ := hR
              have HT := Kp.mk (addWitness_any W (wr.alloc (.cells (inCells t.ins[j] sv wv).toArray 47)) B _ Lj wv t.ins[j].wit H0.out (Nat.le_trans hwb.2 (by simp)) (HLOW.out _ hgw).1 (ho.below ((Below.refl _ _).alloc (Nat.le_refl _) _)) hwit (HM.out.iwl _ hmem) (HM.out.iwx _ hmem) hLl)
              have c35 : (inCells t.ins[j] sv wv).toArray[35]? = some wv := by simpa using inCells_wit hf sv wv
              have HGW := Kp.mk hgw
              have HL := Kp.mk hL
              have HLEN : Kp ((inCells t.ins[j] sv wv).length = 36) := ⟨hk⟩
              have HONE := Kp.mk hone
              have HJ := Kp.mk hjl
              have HS : Kp (flat encWits (t.ins.take (j + 1)) = flat encWits (t.ins.take j) ++ encWits t.ins[j]) := ⟨flat_snoc encWits t.ins j hjl⟩
              have hjl' : (j : Int) < (t.ins.length : Int) := by omega
              obtain ⟨Ar, cr, rfl⟩ := ho.slice
              clear hcs hk hone hmem hfl hLl hwb hga hgw hL ho hg hf hwit
              go_wp2_with (first | (refine wpList_load_mid rfl 47 (.tmp 57) rfl bi (oi + j * 36) rfl (inCells t.ins[j] sv wv) _ HCS.out Try.underlying47 rfl HSZ.out ?_) | (refine wpList_store_fresh rfl 47 (.tmp 11) (.tmp 58) rfl _ (inCells t.ins[j] sv wv).toArray wr.heap.size rfl rfl rfl (by simpa using HSZ.out) (by simp [HLEN.out]) HONE.out ?_) | (go_at_call 55; refine HT.out.mono ?_; rintro e w5 ⟨v5, rfl, ho5, hg5⟩))
              exact ⟨⟨j + 1, _, by have := HJ.out; omega, by go_num, ⟨by rw [HL.out, HS.out, List.append_assoc]; rfl, ho5, HGW.out.trans hg5⟩⟩, by simp [intOf]; have := HJ.out; omega⟩
            · obtain rfl : j = t.ins.length := by omega
              rw [List.take_length] at hL
              obtain ⟨P8, hP8⟩ : ∃ P, Lj = P := ⟨_, rfl⟩
              rw [hP8] at hL ho
              have hfl : (flat encWits t.ins).length ≤ 252750 := by
                have := flat_len encWits 5055 t.ins fun x hx => encWits_len x (HM.out.iwl x hx) (HM.out.iwx x hx)
                have := HM.out.i50
                omega
              have HP8 : Kp (P8 = leb t.version 4 ++ ([0, 1] ++ (cnt t.ins.length ++ (flat encIn t.ins ++ (cnt t.outs.length ++ (flat encOut t.outs ++ flat encWits t.ins))))) ∧ P8.length ≤ 400000) := ⟨by rw [hL, HP6.out.1]; simp, by have := HP6.out.2; rw [hL, List.length_append]; omega⟩
              obtain ⟨w8, rfl⟩ : ∃ w8 : World, w8 = wr := ⟨_, rfl⟩
              have HG8 := Kp.mk hg
              have HO8 := Kp.mk ho
              obtain ⟨A8, c8, rfl⟩ := ho.slice
              clear hL ho hg hfl hP8 hjl
              obtain ⟨_, _, k3⟩ := HBOX.out _ HG8.out
              have H9 := Kp.mk (addSmall_any w8 B _ P8 t.lock (HLOW.out _ HG8.out).2 HO8.out HNUM.out.2 (by have := HP8.out.2; omega))
              go_wp2_with fail
              refine H9.out.mono ?_
              rintro e w9 ⟨v9, rfl, ho9, hg9⟩
              obtain ⟨P9, hP9⟩ : ∃ P, P8 ++ leb t.lock 4 = P := ⟨_, rfl⟩
              have HE : Kp (encTx t true = P9) := ⟨by rw [← hP9, HP8.out.1]; simp [encTx]⟩
              have HG9 := Kp.mk (HG8.out.trans hg9)
              rw [hP9] at ho9
              have HO9 := Kp.mk (ho9.less H0.out)
              obtain ⟨A9, c9, rfl⟩ := ho9.slice
              clear ho9 hg9 hP9 k3
              go_wp2
              go_ret
              exact ⟨_, rfl, by rw [HE.out]; exact HO9.out, HFIN.out _ HG9.out⟩
end Go.Proofs.Ytojeonepplfhlaa
