/- Contracts of package txns: encode, Base, Bytes. Contracts of package txns: Base, Bytes. Rows of the call's own, by the types of their blocks; what is read one behind the other; nextText, nextWitness. append of a made row of zeros onto a literal row; the law's Script. -/
import Derived.Test.YtdemamipllfonaaGb
import Derived.Deep.QuietTactic
import Derived.Deep.RegionHeld3
import Derived.Lib.AppendZeros
import Derived.Lib.SlBytesConst
namespace Go.Proofs.Ytdemamipllfonaa

section
open Go.RowKit

def flat {α : Type} (f : α → List Int) (l : List α) : List Int := (l.map f).flatten
theorem flat_snoc {α : Type} (f : α → List Int) (l : List α) (k : Nat) (h : k < l.length) : flat f (l.take (k + 1)) = flat f (l.take k) ++ f l[k] := by
  unfold flat
  rw [List.take_succ_eq_append_getElem h, List.map_append, List.flatten_append]
  simp
theorem flat_len {α : Type} (f : α → List Int) (m : Nat) (l : List α) (h : ∀ x ∈ l, (f x).length ≤ m) : (flat f l).length ≤ m * l.length := by
  induction l with
  | nil => simp [flat]
  | cons x xs ih =>
    have h1 := ih fun y hy => h y (List.mem_cons_of_mem _ hy)
    have h2 := h x (by simp)
    have e : flat f (x :: xs) = f x ++ flat f xs := rfl
    rw [e, List.length_append, List.length_cons, Nat.mul_add]
    omega
def encWits (d : InD) : List Int := encWit d.wit
/-- The bytes of a transaction; with 'whole' those of its witnesses, too. -/
def encTx (t : TxD) (whole : Bool) : List Int :=
  leb t.version 4 ++ ((if whole then [0, 1] else []) ++ (cnt t.ins.length ++ (flat encIn t.ins ++ (cnt t.outs.length ++ (flat encOut t.outs ++ ((if whole then flat encWits t.ins else []) ++ leb t.lock 4))))))

/-- What 'May' says. -/
structure MayF (t : TxD) : Prop where
  i1 : 1 ≤ t.ins.length
  i50 : t.ins.length ≤ 50
  o1 : 1 ≤ t.outs.length
  o50 : t.outs.length ≤ 50
  isc : ∀ d ∈ t.ins, d.script.length ≤ 500
  iwl : ∀ d ∈ t.ins, d.wit.length ≤ 10
  iwx : ∀ d ∈ t.ins, ∀ x ∈ d.wit, x.length ≤ 500
  osc : ∀ d ∈ t.outs, d.script.length ≤ 500
theorem mayB_iff (t : TxD) : mayB t = true ↔ MayF t := by
  unfold mayB withinB longInB longB
  simp only [Bool.and_eq_true, decide_eq_true_eq, Bool.not_eq_true', List.any_eq_false, Bool.or_eq_true, List.any_eq_true, not_or, not_exists, not_and, Nat.not_lt]
  constructor
  · rintro ⟨⟨h1, h2⟩, ⟨h3, h4⟩, h5, h6⟩
    exact ⟨h1, h2, h3, h4, fun d hd => (h5 d hd).1, fun d hd => (h5 d hd).2.1, fun d hd x hx => (h5 d hd).2.2 x hx, fun d hd => h6 d hd⟩
  · rintro ⟨h1, h2, h3, h4, h5, h6, h7, h8⟩
    exact ⟨⟨h1, h2⟩, ⟨h3, h4⟩, fun d hd => ⟨h5 d hd, h6 d hd, h7 d hd⟩, h8⟩
theorem encIn_len (d : InD) (hp : d.prev.length = 32) (h : d.script.length ≤ 500) : (encIn d).length ≤ 545 := by
  have := encText_len d.script
  simp [encIn, leb_len]
  omega
theorem encOut_len (d : OutD) (h : d.script.length ≤ 500) : (encOut d).length ≤ 513 := by
  have := encText_len d.script
  simp [encOut, leb_len]
  omega
theorem encWits_len (d : InD) (h : d.wit.length ≤ 10) (hx : ∀ x ∈ d.wit, x.length ≤ 500) : (encWits d).length ≤ 5055 := by
  have h1 := encRows_len d.wit hx
  have h2 := cnt_max d.wit.length
  simp [encWits, encWit]
  omega
theorem ins_fit {w : World} {v : Value} {l : List InD} (h : InsR w v l) : ∀ d ∈ l, d.Fit := by
  intro d hd
  obtain ⟨A, c, _, _, _, _, hr⟩ := h
  obtain ⟨i, hi, rfl⟩ := List.mem_iff_getElem.1 hd
  obtain ⟨b, off, _, _, hx⟩ := hr (by rintro rfl; simp at hi)
  obtain ⟨cs, _, _, _, _, _, hf, _⟩ := hx i _ (List.getElem?_eq_getElem hi)
  exact hf

set_option maxRecDepth 100000 in
set_option maxHeartbeats 8000000 in
theorem encode_false (W : World) (v : Value) (t : TxD) (h : TxR W v t) (hm : MayF t) : Calls Try.prog 59 #[v, .bool false] W (App W.heap.size (encTx t false) W) := by
  obtain ⟨i0, hi, hz0, hz1, hz2⟩ := info_parts infoByte
  obtain ⟨iv, ov, rfl, hv, hk, hins, houts⟩ := h
  obtain ⟨Ai, ci, rfl, hci, _⟩ := hins.slice
  obtain ⟨Ao, co, rfl, hco, _⟩ := houts.slice
  obtain ⟨bi, oi, rfl, hli, hati⟩ := hins.all (by intro e; have := hm.i1; rw [e] at this; simp at this)
  obtain ⟨bo, oo, rfl, hlo, hato⟩ := houts.all (by intro e; have := hm.o1; rw [e] at this; simp at this)
  have HFIT := Kp.mk (ins_fit hins)
  have HM := Kp.mk hm
  have hin50 : (t.ins.length : Int) ≤ 50 := by have := hm.i50; omega
  have hon50 : (t.outs.length : Int) ≤ 50 := by have := hm.o50; omega
  have HATI : Kp (∀ (i : Nat) (hi : i < t.ins.length), ∃ cs, cs.length = 36 ∧ W.rangeAt bi (oi + i * 36) cs ∧ InR W cs t.ins[i]) := ⟨hati⟩
  have HATO : Kp (∀ (i : Nat) (hi : i < t.outs.length), ∃ cs, cs.length = 2 ∧ W.rangeAt bo (oo + i * 2) cs ∧ OutR W cs t.outs[i]) := ⟨hato⟩
  have HLT : Kp (bi < W.heap.size ∧ bo < W.heap.size) := ⟨hli, hlo⟩
  have HNUM : Kp (t.version < 4294967296 ∧ t.lock < 4294967296) := ⟨hv, hk⟩
  obtain ⟨B, hB⟩ : ∃ B, B = W.heap.size + 1 := ⟨_, rfl⟩
  have HBOX : Kp (∀ w', Grew B (W.alloc (.cells #[.int .u32 t.version, .slice (some ⟨bi, oi, none⟩) t.ins.length ci, .slice (some ⟨bo, oo, none⟩) t.outs.length co, .int .u32 t.lock] 30)) w' → w'.cell? ⟨W.heap.size, 1, none⟩ = some (.slice (some ⟨bi, oi, none⟩) t.ins.length ci) ∧ w'.cell? ⟨W.heap.size, 2, none⟩ = some (.slice (some ⟨bo, oo, none⟩) t.outs.length co) ∧ w'.cell? ⟨W.heap.size, 3, none⟩ = some (.int .u32 t.lock)) := ⟨fun w' hg => by
    have hb := hg.box _ _ _ (Box.fresh W 30 _) (by decide)
    exact ⟨by rw [hb.cell]; rfl, by rw [hb.cell]; rfl, by rw [hb.cell]; rfl⟩⟩
  have HLOW : Kp (∀ w', Grew B (W.alloc (.cells #[.int .u32 t.version, .slice (some ⟨bi, oi, none⟩) t.ins.length ci, .slice (some ⟨bo, oo, none⟩) t.outs.length co, .int .u32 t.lock] 30)) w' → Below W.heap.size W w' ∧ B ≤ w'.heap.size) := ⟨fun w' hg => ⟨((Below.refl _ _).alloc (Nat.le_refl _) _).trans (hg.low.mono (by omega)), by have := hg.low.size; rw [alloc_size] at this; omega⟩⟩
  have HFIN : Kp (∀ w', Grew B (W.alloc (.cells #[.int .u32 t.version, .slice (some ⟨bi, oi, none⟩) t.ins.length ci, .slice (some ⟨bo, oo, none⟩) t.outs.length co, .int .u32 t.lock] 30)) w' → Grew W.heap.size W w') := ⟨fun w' hg => (Grew.of_below (Nat.le_refl _) ((Below.refl _ _).alloc (Nat.le_refl _) _)).trans (hg.mono (by omega))⟩
  have H0 : Kp (W.heap.size ≤ B) := ⟨by omega⟩
  have H1 := Kp.mk (addSmall_any (W.alloc (.cells #[.int .u32 t.version, .slice (some ⟨bi, oi, none⟩) t.ins.length ci, .slice (some ⟨bo, oo, none⟩) t.outs.length co, .int .u32 t.lock] 30)) B (.slice none 0 0) [] t.version (by rw [alloc_size]; omega) (own_nil _ _ _) hv (by simp))
  clear hins houts hm hli hlo hati hato hv hk hB
  go_enter Try.func59, Try.ntmps59
  go_wp2_with fail
  generalize W.alloc (.cells #[.int .u32 t.version, .slice (some ⟨bi, oi, none⟩) t.ins.length ci, .slice (some ⟨bo, oo, none⟩) t.outs.length co, .int .u32 t.lock] 30) = W1 at *
  refine H1.out.mono ?_
  rintro e w1 ⟨v1, rfl, ho1, hg1⟩
  obtain ⟨P1, hP1⟩ : ∃ P, [] ++ leb t.version 4 = P := ⟨_, rfl⟩
  have HP1 : Kp (P1 = leb t.version 4 ∧ P1.length ≤ 4) := ⟨by rw [← hP1]; rfl, by rw [← hP1]; simp [leb_len]⟩
  rw [hP1] at ho1
  have HO1 := Kp.mk ho1
  have HG1 := Kp.mk hg1
  obtain ⟨A1, c1, rfl⟩ := ho1.slice
  obtain ⟨w2, rfl⟩ : ∃ w2 : World, w2 = w1 := ⟨_, rfl⟩
  obtain ⟨P2, rfl⟩ : ∃ P2, P2 = P1 := ⟨_, rfl⟩
  have HP2 : Kp (P2 = leb t.version 4 ++ [] ∧ P2.length ≤ 6) := ⟨by rw [HP1.out.1]; simp, by have := HP1.out.2; omega⟩
  have HO2 := HO1
  have HG2 := HG1
  obtain ⟨k1, _, _⟩ := HBOX.out _ HG2.out
  clear ho1 hg1 hP1
  have H3 := Kp.mk (addCount_any w2 B _ P2 t.ins.length (HLOW.out _ HG2.out).2 HO2.out (by have := HM.out.i50; omega) (by have := HP2.out.2; omega))
  go_wp2_with fail
  refine H3.out.mono ?_
  rintro e w3 ⟨v3, rfl, ho3, hg3⟩
  obtain ⟨P3, hP3⟩ : ∃ P, P2 ++ cnt t.ins.length = P := ⟨_, rfl⟩
  have HP3 : Kp (P3 = leb t.version 4 ++ ([] ++ cnt t.ins.length) ∧ P3.length ≤ 11) := ⟨by rw [← hP3, HP2.out.1, List.append_assoc], by have := HP2.out.2; have := cnt_max t.ins.length; rw [← hP3, List.length_append]; omega⟩
  have HG3 := Kp.mk (HG2.out.trans hg3)
  rw [hP3] at ho3
  have HO3 := Kp.mk ho3
  obtain ⟨A3, c3, rfl⟩ := ho3.slice
  obtain ⟨m1, _, _⟩ := HBOX.out _ HG3.out
  clear ho3 hg3 hP3 k1
  go_wp2
  clear m1
  go_loopw [5, 7, 27] (fun r _ i wr => ∃ (j : Nat) (Lj : List Int), j ≤ t.ins.length ∧ i = .int .i64 j ∧ Kp (Lj = P3 ++ flat encIn (t.ins.take j) ∧ Own wr B 5 r Lj ∧ Grew B W1 wr)) (fun _ _ i _ => t.ins.length - (intOf i).toNat)
  case atStart => exact ⟨0, P3, Nat.zero_le _, rfl, ⟨by simp [flat], HO3.out, HG3.out⟩⟩
  case round =>
    obtain ⟨j, Lj, hj, rfl, ⟨hL, ho, hg⟩⟩ := hrel
    by_cases hjl : j < t.ins.length
    · obtain ⟨cs, hk, hcs, hR⟩ := HATI.out j hjl
      have hone := all_oneCell_toArray hR.one
      have HCS := Kp.mk (rangeAt_block hcs ((HLOW.out _ hg).1.block bi HLT.out.1))
      have HSZ : Kp ((Try.prog.info? 58).map (·.size) = some cs.length) := ⟨by rw [hk]; exact sizeIn⟩
      have hmem : t.ins[j] ∈ t.ins := List.getElem_mem hjl
      have hfl : (flat encIn (t.ins.take j)).length ≤ 545 * 50 := by
        have := flat_len encIn 545 (t.ins.take j) fun x hx => encIn_len x (HFIT.out x (List.mem_of_mem_take hx)).plen (HM.out.isc x (List.mem_of_mem_take hx))
        have hl2 := List.length_take_le j t.ins
        rw [List.length_take] at this
        have := HM.out.i50
        have := HM.out.o50
        omega
      have hLl : Lj.length ≤ 1000000000 := by have := HP3.out.2; rw [hL, List.length_append]; omega
      have hwb := (HLOW.out _ hg)
      have hga : Grew B wr (wr.alloc (.cells cs.toArray 58)) := Grew.of_below hwb.2 ((Below.refl _ _).alloc (Nat.le_refl _) _)
      have hgw := hg.trans hga
      have HT := Kp.mk (addIn_any W (wr.alloc (.cells cs.toArray 58)) B _ Lj cs t.ins[j] H0.out (Nat.le_trans hwb.2 (by simp)) (HLOW.out _ hgw).1 (ho.below ((Below.refl _ _).alloc (Nat.le_refl _) _)) hR (HM.out.isc _ hmem) hLl)
      have HGW := Kp.mk hgw
      have HL := Kp.mk hL
      have HROW := Kp.mk (heap_alloc_new wr (.cells cs.toArray 58))
      have HLEN : Kp (cs.length = 36) := ⟨hk⟩
      have HONE := Kp.mk hone
      have HJ := Kp.mk hjl
      have HS : Kp (flat encIn (t.ins.take (j + 1)) = flat encIn (t.ins.take j) ++ encIn t.ins[j]) := ⟨flat_snoc encIn t.ins j hjl⟩
      have hjl' : (j : Int) < (t.ins.length : Int) := by omega
      obtain ⟨Ar, cr, rfl⟩ := ho.slice
      clear hcs hR hk hone hmem hfl hLl hwb hga hgw hL ho hg
      go_wp2_with (first | (refine wpList_load_mid rfl 58 (.tmp 29) rfl bi (oi + j * 36) rfl cs _ HCS.out Try.underlying58 rfl HSZ.out ?_) | (refine wpList_store_fresh rfl 58 (.tmp 7) (.tmp 30) rfl _ cs.toArray wr.heap.size rfl rfl rfl (by simpa using HSZ.out) (by simp [HLEN.out]) HONE.out ?_) | (refine wpList_load_row rfl 58 (.tmp 7) rfl wr.heap.size rfl _ cs.toArray _ _ HROW.out Try.underlying58 rfl (by simpa using HSZ.out) ?_) | (go_at_call 81; refine HT.out.mono ?_; rintro e w5 ⟨v5, rfl, ho5, hg5⟩))
      exact ⟨⟨j + 1, _, by have := HJ.out; omega, by go_num, ⟨by rw [HL.out, HS.out, List.append_assoc], ho5, HGW.out.trans hg5⟩⟩, by simp [intOf]; have := HJ.out; omega⟩
    · obtain rfl : j = t.ins.length := by omega
      rw [List.take_length] at hL
      obtain ⟨P4, hP4⟩ : ∃ P, Lj = P := ⟨_, rfl⟩
      rw [hP4] at hL ho
      have hfl : (flat encIn t.ins).length ≤ 27250 := by
        have := flat_len encIn 545 t.ins fun x hx => encIn_len x (HFIT.out x hx).plen (HM.out.isc x hx)
        have := HM.out.i50
        omega
      have HP4 : Kp (P4 = leb t.version 4 ++ ([] ++ (cnt t.ins.length ++ flat encIn t.ins)) ∧ P4.length ≤ 28000) := ⟨by rw [hL, HP3.out.1]; simp, by have := HP3.out.2; rw [hL, List.length_append]; omega⟩
      obtain ⟨w4, rfl⟩ : ∃ w4 : World, w4 = wr := ⟨_, rfl⟩
      have HG4 := Kp.mk hg
      have HO4 := Kp.mk ho
      obtain ⟨A4, c4, rfl⟩ := ho.slice
      obtain ⟨_, n2, _⟩ := HBOX.out _ HG4.out
      have H5 := Kp.mk (addCount_any w4 B _ P4 t.outs.length (HLOW.out _ HG4.out).2 HO4.out (by have := HM.out.o50; omega) (by have := HP4.out.2; omega))
      clear hL ho hg hfl hP4 hjl
      go_wp2_with fail
      refine H5.out.mono ?_
      rintro e w5 ⟨v5, rfl, ho5, hg5⟩
      obtain ⟨P5, hP5⟩ : ∃ P, P4 ++ cnt t.outs.length = P := ⟨_, rfl⟩
      have HP5 : Kp (P5 = leb t.version 4 ++ ([] ++ (cnt t.ins.length ++ (flat encIn t.ins ++ cnt t.outs.length))) ∧ P5.length ≤ 28005) := ⟨by rw [← hP5, HP4.out.1]; simp, by have := HP4.out.2; have := cnt_max t.outs.length; rw [← hP5, List.length_append]; omega⟩
      have HG5 := Kp.mk (HG4.out.trans hg5)
      rw [hP5] at ho5
      have HO5 := Kp.mk ho5
      obtain ⟨A5, c5, rfl⟩ := ho5.slice
      obtain ⟨_, m2, _⟩ := HBOX.out _ HG5.out
      clear ho5 hg5 hP5 n2
      go_wp2
      clear m2
      go_loopw [5, 9, 43] (fun r _ i wr => ∃ (j : Nat) (Lj : List Int), j ≤ t.outs.length ∧ i = .int .i64 j ∧ Kp (Lj = P5 ++ flat encOut (t.outs.take j) ∧ Own wr B 5 r Lj ∧ Grew B W1 wr)) (fun _ _ i _ => t.outs.length - (intOf i).toNat)
      case atStart => exact ⟨0, P5, Nat.zero_le _, rfl, ⟨by simp [flat], HO5.out, HG5.out⟩⟩
      case round =>
        obtain ⟨j, Lj, hj, rfl, ⟨hL, ho, hg⟩⟩ := hrel
        by_cases hjl : j < t.outs.length
        · obtain ⟨cs, hk, hcs, hR⟩ := HATO.out j hjl
          have hone := all_oneCell_toArray hR.one
          have HCS := Kp.mk (rangeAt_block hcs ((HLOW.out _ hg).1.block bo HLT.out.2))
          have HSZ : Kp ((Try.prog.info? 61).map (·.size) = some cs.length) := ⟨by rw [hk]; exact sizeOut⟩
          have hmem : t.outs[j] ∈ t.outs := List.getElem_mem hjl
          have hfl : (flat encOut (t.outs.take j)).length ≤ 513 * 50 := by
            have := flat_len encOut 513 (t.outs.take j) fun x hx => encOut_len x (HM.out.osc x (List.mem_of_mem_take hx))
            have hl2 := List.length_take_le j t.outs
            rw [List.length_take] at this
            have := HM.out.i50
            have := HM.out.o50
            omega
          have hLl : Lj.length ≤ 1000000000 := by have := HP5.out.2; rw [hL, List.length_append]; omega
          have hwb := (HLOW.out _ hg)
          have hga : Grew B wr (wr.alloc (.cells cs.toArray 61)) := Grew.of_below hwb.2 ((Below.refl _ _).alloc (Nat.le_refl _) _)
          have hgw := hg.trans hga
          have HT := Kp.mk (addOut_any W (wr.alloc (.cells cs.toArray 61)) B _ Lj cs t.outs[j] H0.out (Nat.le_trans hwb.2 (by simp)) (HLOW.out _ hgw).1 (ho.below ((Below.refl _ _).alloc (Nat.le_refl _) _)) hR (HM.out.osc _ hmem) hLl)
          have HGW := Kp.mk hgw
          have HL := Kp.mk hL
          have HROW := Kp.mk (heap_alloc_new wr (.cells cs.toArray 61))
          have HLEN : Kp (cs.length = 2) := ⟨hk⟩
          have HONE := Kp.mk hone
          have HJ := Kp.mk hjl
          have HS : Kp (flat encOut (t.outs.take (j + 1)) = flat encOut (t.outs.take j) ++ encOut t.outs[j]) := ⟨flat_snoc encOut t.outs j hjl⟩
          have hjl' : (j : Int) < (t.outs.length : Int) := by omega
          obtain ⟨Ar, cr, rfl⟩ := ho.slice
          clear hcs hR hk hone hmem hfl hLl hwb hga hgw hL ho hg
          go_wp2_with (first | (refine wpList_load_mid rfl 61 (.tmp 45) rfl bo (oo + j * 2) rfl cs _ HCS.out Try.underlying61 rfl HSZ.out ?_) | (refine wpList_store_fresh rfl 61 (.tmp 9) (.tmp 46) rfl _ cs.toArray wr.heap.size rfl rfl rfl (by simpa using HSZ.out) (by simp [HLEN.out]) HONE.out ?_) | (refine wpList_load_row rfl 61 (.tmp 9) rfl wr.heap.size rfl _ cs.toArray _ _ HROW.out Try.underlying61 rfl (by simpa using HSZ.out) ?_) | (go_at_call 82; refine HT.out.mono ?_; rintro e w5 ⟨v5, rfl, ho5, hg5⟩))
          exact ⟨⟨j + 1, _, by have := HJ.out; omega, by go_num, ⟨by rw [HL.out, HS.out, List.append_assoc], ho5, HGW.out.trans hg5⟩⟩, by simp [intOf]; have := HJ.out; omega⟩
        · obtain rfl : j = t.outs.length := by omega
          rw [List.take_length] at hL
          obtain ⟨P6, hP6⟩ : ∃ P, Lj = P := ⟨_, rfl⟩
          rw [hP6] at hL ho
          have hfl : (flat encOut t.outs).length ≤ 25650 := by
            have := flat_len encOut 513 t.outs fun x hx => encOut_len x (HM.out.osc x hx)
            have := HM.out.o50
            omega
          have HP6 : Kp (P6 = leb t.version 4 ++ ([] ++ (cnt t.ins.length ++ (flat encIn t.ins ++ (cnt t.outs.length ++ flat encOut t.outs)))) ∧ P6.length ≤ 60000) := ⟨by rw [hL, HP5.out.1]; simp, by have := HP5.out.2; rw [hL, List.length_append]; omega⟩
          obtain ⟨w6, rfl⟩ : ∃ w6 : World, w6 = wr := ⟨_, rfl⟩
          have HG6 := Kp.mk hg
          have HO6 := Kp.mk ho
          obtain ⟨A6, c6, rfl⟩ := ho.slice
          clear hL ho hg hfl hP6 hjl
          obtain ⟨w8, rfl⟩ : ∃ w8 : World, w8 = w6 := ⟨_, rfl⟩
          obtain ⟨P8, rfl⟩ : ∃ P8, P8 = P6 := ⟨_, rfl⟩
          have HP8 : Kp (P8 = leb t.version 4 ++ ([] ++ (cnt t.ins.length ++ (flat encIn t.ins ++ (cnt t.outs.length ++ (flat encOut t.outs ++ []))))) ∧ P8.length ≤ 400000) := ⟨by rw [HP6.out.1]; simp, by have := HP6.out.2; omega⟩
          have HO8 := HO6
          have HG8 := HG6
          obtain ⟨_, _, k3⟩ := HBOX.out _ HG8.out
          have H9 := Kp.mk (addSmall_any w8 B _ P8 t.lock (HLOW.out _ HG8.out).2 HO8.out HNUM.out.2 (by have := HP8.out.2; omega))
          go_wp2_with fail
          refine H9.out.mono ?_
          rintro e w9 ⟨v9, rfl, ho9, hg9⟩
          obtain ⟨P9, hP9⟩ : ∃ P, P8 ++ leb t.lock 4 = P := ⟨_, rfl⟩
          have HE : Kp (encTx t false = P9) := ⟨by rw [← hP9, HP8.out.1]; simp [encTx]⟩
          have HG9 := Kp.mk (HG8.out.trans hg9)
          rw [hP9] at ho9
          have HO9 := Kp.mk (ho9.less H0.out)
          obtain ⟨A9, c9, rfl⟩ := ho9.slice
          clear ho9 hg9 hP9 k3
          go_wp2
          go_ret
          exact ⟨_, rfl, by rw [HE.out]; exact HO9.out, HFIN.out _ HG9.out⟩

set_option maxRecDepth 100000 in
set_option maxHeartbeats 8000000 in
theorem encode_true (W : World) (v : Value) (t : TxD) (h : TxR W v t) (hm : MayF t) : Calls Try.prog 59 #[v, .bool true] W (App W.heap.size (encTx t true) W) := by
  obtain ⟨i0, hi, hz0, hz1, hz2⟩ := info_parts infoByte
  obtain ⟨iv, ov, rfl, hv, hk, hins, houts⟩ := h
  obtain ⟨Ai, ci, rfl, hci, _⟩ := hins.slice
  obtain ⟨Ao, co, rfl, hco, _⟩ := houts.slice
  obtain ⟨bi, oi, rfl, hli, hati⟩ := hins.all (by intro e; have := hm.i1; rw [e] at this; simp at this)
  obtain ⟨bo, oo, rfl, hlo, hato⟩ := houts.all (by intro e; have := hm.o1; rw [e] at this; simp at this)
  have HFIT := Kp.mk (ins_fit hins)
  have HM := Kp.mk hm
  have hin50 : (t.ins.length : Int) ≤ 50 := by have := hm.i50; omega
  have hon50 : (t.outs.length : Int) ≤ 50 := by have := hm.o50; omega
  have HATI : Kp (∀ (i : Nat) (hi : i < t.ins.length), ∃ cs, cs.length = 36 ∧ W.rangeAt bi (oi + i * 36) cs ∧ InR W cs t.ins[i]) := ⟨hati⟩
  have HATO : Kp (∀ (i : Nat) (hi : i < t.outs.length), ∃ cs, cs.length = 2 ∧ W.rangeAt bo (oo + i * 2) cs ∧ OutR W cs t.outs[i]) := ⟨hato⟩
  have HLT : Kp (bi < W.heap.size ∧ bo < W.heap.size) := ⟨hli, hlo⟩
  have HNUM : Kp (t.version < 4294967296 ∧ t.lock < 4294967296) := ⟨hv, hk⟩
  obtain ⟨B, hB⟩ : ∃ B, B = W.heap.size + 1 := ⟨_, rfl⟩
  have HBOX : Kp (∀ w', Grew B (W.alloc (.cells #[.int .u32 t.version, .slice (some ⟨bi, oi, none⟩) t.ins.length ci, .slice (some ⟨bo, oo, none⟩) t.outs.length co, .int .u32 t.lock] 30)) w' → w'.cell? ⟨W.heap.size, 1, none⟩ = some (.slice (some ⟨bi, oi, none⟩) t.ins.length ci) ∧ w'.cell? ⟨W.heap.size, 2, none⟩ = some (.slice (some ⟨bo, oo, none⟩) t.outs.length co) ∧ w'.cell? ⟨W.heap.size, 3, none⟩ = some (.int .u32 t.lock)) := ⟨fun w' hg => by
    have hb := hg.box _ _ _ (Box.fresh W 30 _) (by decide)
    exact ⟨by rw [hb.cell]; rfl, by rw [hb.cell]; rfl, by rw [hb.cell]; rfl⟩⟩
  have HLOW : Kp (∀ w', Grew B (W.alloc (.cells #[.int .u32 t.version, .slice (some ⟨bi, oi, none⟩) t.ins.length ci, .slice (some ⟨bo, oo, none⟩) t.outs.length co, .int .u32 t.lock] 30)) w' → Below W.heap.size W w' ∧ B ≤ w'.heap.size) := ⟨fun w' hg => ⟨((Below.refl _ _).alloc (Nat.le_refl _) _).trans (hg.low.mono (by omega)), by have := hg.low.size; rw [alloc_size] at this; omega⟩⟩
  have HFIN : Kp (∀ w', Grew B (W.alloc (.cells #[.int .u32 t.version, .slice (some ⟨bi, oi, none⟩) t.ins.length ci, .slice (some ⟨bo, oo, none⟩) t.outs.length co, .int .u32 t.lock] 30)) w' → Grew W.heap.size W w') := ⟨fun w' hg => (Grew.of_below (Nat.le_refl _) ((Below.refl _ _).alloc (Nat.le_refl _) _)).trans (hg.mono (by omega))⟩
  have H0 : Kp (W.heap.size ≤ B) := ⟨by omega⟩
  have H1 := Kp.mk (addSmall_any (W.alloc (.cells #[.int .u32 t.version, .slice (some ⟨bi, oi, none⟩) t.ins.length ci, .slice (some ⟨bo, oo, none⟩) t.outs.length co, .int .u32 t.lock] 30)) B (.slice none 0 0) [] t.version (by rw [alloc_size]; omega) (own_nil _ _ _) hv (by simp))
  clear hins houts hm hli hlo hati hato hv hk hB
  go_enter Try.func59, Try.ntmps59
  go_wp2_with fail
  generalize W.alloc (.cells #[.int .u32 t.version, .slice (some ⟨bi, oi, none⟩) t.ins.length ci, .slice (some ⟨bo, oo, none⟩) t.outs.length co, .int .u32 t.lock] 30) = W1 at *
  refine H1.out.mono ?_
  rintro e w1 ⟨v1, rfl, ho1, hg1⟩
  obtain ⟨P1, hP1⟩ : ∃ P, [] ++ leb t.version 4 = P := ⟨_, rfl⟩
  have HP1 : Kp (P1 = leb t.version 4 ∧ P1.length ≤ 4) := ⟨by rw [← hP1]; rfl, by rw [← hP1]; simp [leb_len]⟩
  rw [hP1] at ho1
  have HO1 := Kp.mk ho1
  have HG1 := Kp.mk hg1
  obtain ⟨A1, c1, rfl⟩ := ho1.slice
  clear ho1 hg1 hP1
  go_wp2_with (at_builtin; refine wpList_append_bytes rfl (.tmp 16) (.tmp 17) 55 rfl B 5 i0 Try.underlying55 hi hz0 hz1 hz2 _ P1 rfl (HO1.out.below ((Below.refl _ _).alloc (Nat.le_refl _) _)) (w1.heap.size + 1) _ [0, 1] rfl ?c1 ?c2 ?c3 ?_)
  case c1 =>
    refine ⟨_, _, rfl, Nat.le_refl _, (fun h => by cases h), fun _ => ⟨w1.heap.size, 0, rfl, Nat.ne_of_lt (Nat.lt_succ_self _), by simp, fun i hi => ?_⟩⟩
    rw [(Box.fresh w1 _ _).cell]
    match i, hi with
    | 0, _ => rfl
    | 1, _ => rfl
  case c2 => have := HP1.out.2; simp; omega
  case c3 => exact Nat.le_trans (HLOW.out _ HG1.out).2 (by simp)
  intro v2 w2 ho2 hg2
  obtain ⟨P2, hP2⟩ : ∃ P, P1 ++ [0, 1] = P := ⟨_, rfl⟩
  have HP2 : Kp (P2 = leb t.version 4 ++ [0, 1] ∧ P2.length ≤ 6) := ⟨by rw [← hP2, HP1.out.1], by have := HP1.out.2; rw [← hP2]; simp; omega⟩
  have hga : Grew B w1 (w1.alloc (.cells #[.int .u8 0, .int .u8 1] 5)) := Grew.of_below (HLOW.out _ HG1.out).2 ((Below.refl _ _).alloc (Nat.le_refl _) _)
  have HG2 := Kp.mk (HG1.out.trans (hga.trans (Grew.of_grown (HO1.out.below ((Below.refl _ _).alloc (Nat.le_refl _) _)) (Nat.le_trans (HLOW.out _ HG1.out).2 (by simp)) hg2)))
  rw [hP2] at ho2
  have HO2 := Kp.mk ho2
  obtain ⟨A2, c2, rfl⟩ := ho2.slice
  obtain ⟨k1, _, _⟩ := HBOX.out _ HG2.out
  clear ho2 hg2 hP2 hga
  have H3 := Kp.mk (addCount_any w2 B _ P2 t.ins.length (HLOW.out _ HG2.out).2 HO2.out (by have := HM.out.i50; omega) (by have := HP2.out.2; omega))
  go_wp2_with fail
  refine H3.out.mono ?_
  rintro e w3 ⟨v3, rfl, ho3, hg3⟩
  obtain ⟨P3, hP3⟩ : ∃ P, P2 ++ cnt t.ins.length = P := ⟨_, rfl⟩
  have HP3 : Kp (P3 = leb t.version 4 ++ ([0, 1] ++ cnt t.ins.length) ∧ P3.length ≤ 11) := ⟨by rw [← hP3, HP2.out.1, List.append_assoc], by have := HP2.out.2; have := cnt_max t.ins.length; rw [← hP3, List.length_append]; omega⟩
  have HG3 := Kp.mk (HG2.out.trans hg3)
  rw [hP3] at ho3
  have HO3 := Kp.mk ho3
  obtain ⟨A3, c3, rfl⟩ := ho3.slice
  obtain ⟨m1, _, _⟩ := HBOX.out _ HG3.out
  clear ho3 hg3 hP3 k1
  go_wp2
  clear m1
  go_loopw [5, 7, 27] (fun r _ i wr => ∃ (j : Nat) (Lj : List Int), j ≤ t.ins.length ∧ i = .int .i64 j ∧ Kp (Lj = P3 ++ flat encIn (t.ins.take j) ∧ Own wr B 5 r Lj ∧ Grew B W1 wr)) (fun _ _ i _ => t.ins.length - (intOf i).toNat)
  case atStart => exact ⟨0, P3, Nat.zero_le _, rfl, ⟨by simp [flat], HO3.out, HG3.out⟩⟩
  case round =>
    obtain ⟨j, Lj, hj, rfl, ⟨hL, ho, hg⟩⟩ := hrel
    by_cases hjl : j < t.ins.length
    · obtain ⟨cs, hk, hcs, hR⟩ := HATI.out j hjl
      have hone := all_oneCell_toArray hR.one
      have HCS := Kp.mk (rangeAt_block hcs ((HLOW.out _ hg).1.block bi HLT.out.1))
      have HSZ : Kp ((Try.prog.info? 58).map (·.size) = some cs.length) := ⟨by rw [hk]; exact sizeIn⟩
      have hmem : t.ins[j] ∈ t.ins := List.getElem_mem hjl
      have hfl : (flat encIn (t.ins.take j)).length ≤ 545 * 50 := by
        have := flat_len encIn 545 (t.ins.take j) fun x hx => encIn_len x (HFIT.out x (List.mem_of_mem_take hx)).plen (HM.out.isc x (List.mem_of_mem_take hx))
        have hl2 := List.length_take_le j t.ins
        rw [List.length_take] at this
        have := HM.out.i50
        have := HM.out.o50
        omega
      have hLl : Lj.length ≤ 1000000000 := by have := HP3.out.2; rw [hL, List.length_append]; omega
      have hwb := (HLOW.out _ hg)
      have hga : Grew B wr (wr.alloc (.cells cs.toArray 58)) := Grew.of_below hwb.2 ((Below.refl _ _).alloc (Nat.le_refl _) _)
      have hgw := hg.trans hga
      have HT := Kp.mk (addIn_any W (wr.alloc (.cells cs.toArray 58)) B _ Lj cs t.ins[j] H0.out (Nat.le_trans hwb.2 (by simp)) (HLOW.out _ hgw).1 (ho.below ((Below.refl _ _).alloc (Nat.le_refl _) _)) hR (HM.out.isc _ hmem) hLl)
      have HGW := Kp.mk hgw
      have HL := Kp.mk hL
      have HROW := Kp.mk (heap_alloc_new wr (.cells cs.toArray 58))
      have HLEN : Kp (cs.length = 36) := ⟨hk⟩
      have HONE := Kp.mk hone
      have HJ := Kp.mk hjl
      have HS : Kp (flat encIn (t.ins.take (j + 1)) = flat encIn (t.ins.take j) ++ encIn t.ins[j]) := ⟨flat_snoc encIn t.ins j hjl⟩
      have hjl' : (j : Int) < (t.ins.length : Int) := by omega
      obtain ⟨Ar, cr, rfl⟩ := ho.slice
      clear hcs hR hk hone hmem hfl hLl hwb hga hgw hL ho hg
      go_wp2_with (first | (refine wpList_load_mid rfl 58 (.tmp 29) rfl bi (oi + j * 36) rfl cs _ HCS.out Try.underlying58 rfl HSZ.out ?_) | (refine wpList_store_fresh rfl 58 (.tmp 7) (.tmp 30) rfl _ cs.toArray wr.heap.size rfl rfl rfl (by simpa using HSZ.out) (by simp [HLEN.out]) HONE.out ?_) | (refine wpList_load_row rfl 58 (.tmp 7) rfl wr.heap.size rfl _ cs.toArray _ _ HROW.out Try.underlying58 rfl (by simpa using HSZ.out) ?_) | (go_at_call 81; refine HT.out.mono ?_; rintro e w5 ⟨v5, rfl, ho5, hg5⟩))
      exact ⟨⟨j + 1, _, by have := HJ.out; omega, by go_num, ⟨by rw [HL.out, HS.out, List.append_assoc], ho5, HGW.out.trans hg5⟩⟩, by simp [intOf]; have := HJ.out; omega⟩
    · obtain rfl : j = t.ins.length := by omega
      rw [List.take_length] at hL
      obtain ⟨P4, hP4⟩ : ∃ P, Lj = P := ⟨_, rfl⟩
      rw [hP4] at hL ho
      have hfl : (flat encIn t.ins).length ≤ 27250 := by
        have := flat_len encIn 545 t.ins fun x hx => encIn_len x (HFIT.out x hx).plen (HM.out.isc x hx)
        have := HM.out.i50
        omega
      have HP4 : Kp (P4 = leb t.version 4 ++ ([0, 1] ++ (cnt t.ins.length ++ flat encIn t.ins)) ∧ P4.length ≤ 28000) := ⟨by rw [hL, HP3.out.1]; simp, by have := HP3.out.2; rw [hL, List.length_append]; omega⟩
      obtain ⟨w4, rfl⟩ : ∃ w4 : World, w4 = wr := ⟨_, rfl⟩
      have HG4 := Kp.mk hg
      have HO4 := Kp.mk ho
      obtain ⟨A4, c4, rfl⟩ := ho.slice
      obtain ⟨_, n2, _⟩ := HBOX.out _ HG4.out
      have H5 := Kp.mk (addCount_any w4 B _ P4 t.outs.length (HLOW.out _ HG4.out).2 HO4.out (by have := HM.out.o50; omega) (by have := HP4.out.2; omega))
      clear hL ho hg hfl hP4 hjl
      go_wp2_with fail
      refine H5.out.mono ?_
      rintro e w5 ⟨v5, rfl, ho5, hg5⟩
      obtain ⟨P5, hP5⟩ : ∃ P, P4 ++ cnt t.outs.length = P := ⟨_, rfl⟩
      have HP5 : Kp (P5 = leb t.version 4 ++ ([0, 1] ++ (cnt t.ins.length ++ (flat encIn t.ins ++ cnt t.outs.length))) ∧ P5.length ≤ 28005) := ⟨by rw [← hP5, HP4.out.1]; simp, by have := HP4.out.2; have := cnt_max t.outs.length; rw [← hP5, List.length_append]; omega⟩
      have HG5 := Kp.mk (HG4.out.trans hg5)
      rw [hP5] at ho5
      have HO5 := Kp.mk ho5
      obtain ⟨A5, c5, rfl⟩ := ho5.slice
      obtain ⟨_, m2, _⟩ := HBOX.out _ HG5.out
      clear ho5 hg5 hP5 n2
      go_wp2
      clear m2
      go_loopw [5, 9, 43] (fun r _ i wr => ∃ (j : Nat) (Lj : List Int), j ≤ t.outs.length ∧ i = .int .i64 j ∧ Kp (Lj = P5 ++ flat encOut (t.outs.take j) ∧ Own wr B 5 r Lj ∧ Grew B W1 wr)) (fun _ _ i _ => t.outs.length - (intOf i).toNat)
      case atStart => exact ⟨0, P5, Nat.zero_le _, rfl, ⟨by simp [flat], HO5.out, HG5.out⟩⟩
      case round =>
        obtain ⟨j, Lj, hj, rfl, ⟨hL, ho, hg⟩⟩ := hrel
        by_cases hjl : j < t.outs.length
        · obtain ⟨cs, hk, hcs, hR⟩ := HATO.out j hjl
          have hone := all_oneCell_toArray hR.one
          have HCS := Kp.mk (rangeAt_block hcs ((HLOW.out _ hg).1.block bo HLT.out.2))
          have HSZ : Kp ((Try.prog.info? 61).map (·.size) = some cs.length) := ⟨by rw [hk]; exact sizeOut⟩
          have hmem : t.outs[j] ∈ t.outs := List.getElem_mem hjl
          have hfl : (flat encOut (t.outs.take j)).length ≤ 513 * 50 := by
            have := flat_len encOut 513 (t.outs.take j) fun x hx => encOut_len x (HM.out.osc x (List.mem_of_mem_take hx))
            have hl2 := List.length_take_le j t.outs
            rw [List.length_take] at this
            have := HM.out.i50
            have := HM.out.o50
            omega
          have hLl : Lj.length ≤ 1000000000 := by have := HP5.out.2; rw [hL, List.length_append]; omega
          have hwb := (HLOW.out _ hg)
          have hga : Grew B wr (wr.alloc (.cells cs.toArray 61)) := Grew.of_below hwb.2 ((Below.refl _ _).alloc (Nat.le_refl _) _)
          have hgw := hg.trans hga
          have HT := Kp.mk (addOut_any W (wr.alloc (.cells cs.toArray 61)) B _ Lj cs t.outs[j] H0.out (Nat.le_trans hwb.2 (by simp)) (HLOW.out _ hgw).1 (ho.below ((Below.refl _ _).alloc (Nat.le_refl _) _)) hR (HM.out.osc _ hmem) hLl)
          have HGW := Kp.mk hgw
          have HL := Kp.mk hL
          have HROW := Kp.mk (heap_alloc_new wr (.cells cs.toArray 61))
          have HLEN : Kp (cs.length = 2) := ⟨hk⟩
          have HONE := Kp.mk hone
          have HJ := Kp.mk hjl
          have HS : Kp (flat encOut (t.outs.take (j + 1)) = flat encOut (t.outs.take j) ++ encOut t.outs[j]) := ⟨flat_snoc encOut t.outs j hjl⟩
          have hjl' : (j : Int) < (t.outs.length : Int) := by omega
          obtain ⟨Ar, cr, rfl⟩ := ho.slice
          clear hcs hR hk hone hmem hfl hLl hwb hga hgw hL ho hg
          go_wp2_with (first | (refine wpList_load_mid rfl 61 (.tmp 45) rfl bo (oo + j * 2) rfl cs _ HCS.out Try.underlying61 rfl HSZ.out ?_) | (refine wpList_store_fresh rfl 61 (.tmp 9) (.tmp 46) rfl _ cs.toArray wr.heap.size rfl rfl rfl (by simpa using HSZ.out) (by simp [HLEN.out]) HONE.out ?_) | (refine wpList_load_row rfl 61 (.tmp 9) rfl wr.heap.size rfl _ cs.toArray _ _ HROW.out Try.underlying61 rfl (by simpa using HSZ.out) ?_) | (go_at_call 82; refine HT.out.mono ?_; rintro e w5 ⟨v5, rfl, ho5, hg5⟩))
          exact ⟨⟨j + 1, _, by have := HJ.out; omega, by go_num, ⟨by rw [HL.out, HS.out, List.append_assoc], ho5, HGW.out.trans hg5⟩⟩, by simp [intOf]; have := HJ.out; omega⟩
        · obtain rfl : j = t.outs.length := by omega
          rw [List.take_length] at hL
          obtain ⟨P6, hP6⟩ : ∃ P, Lj = P := ⟨_, rfl⟩
          rw [hP6] at hL ho
          have hfl : (flat encOut t.outs).length ≤ 25650 := by
            have := flat_len encOut 513 t.outs fun x hx => encOut_len x (HM.out.osc x hx)
            have := HM.out.o50
            omega
          have HP6 : Kp (P6 = leb t.version 4 ++ ([0, 1] ++ (cnt t.ins.length ++ (flat encIn t.ins ++ (cnt t.outs.length ++ flat encOut t.outs)))) ∧ P6.length ≤ 60000) := ⟨by rw [hL, HP5.out.1]; simp, by have := HP5.out.2; rw [hL, List.length_append]; omega⟩
          obtain ⟨w6, rfl⟩ : ∃ w6 : World, w6 = wr := ⟨_, rfl⟩
          have HG6 := Kp.mk hg
          have HO6 := Kp.mk ho
          obtain ⟨A6, c6, rfl⟩ := ho.slice
          clear hL ho hg hfl hP6 hjl
          obtain ⟨k1, _, _⟩ := HBOX.out _ HG6.out
          go_wp2
          clear k1
          go_loopw [5, 11, 55] (fun r _ i wr => ∃ (j : Nat) (Lj : List Int), j ≤ t.ins.length ∧ i = .int .i64 j ∧ Kp (Lj = P6 ++ flat encWits (t.ins.take j) ∧ Own wr B 5 r Lj ∧ Grew B W1 wr)) (fun _ _ i _ => t.ins.length - (intOf i).toNat)
          case atStart => exact ⟨0, P6, Nat.zero_le _, rfl, ⟨by simp [flat], HO6.out, HG6.out⟩⟩
          case round =>
            obtain ⟨j, Lj, hj, rfl, ⟨hL, ho, hg⟩⟩ := hrel
            by_cases hjl : j < t.ins.length
            · obtain ⟨cs, hk, hcs, hR⟩ := HATI.out j hjl
              have hone := all_oneCell_toArray hR.one
              have HCS := Kp.mk (rangeAt_block hcs ((HLOW.out _ hg).1.block bi HLT.out.1))
              have HSZ : Kp ((Try.prog.info? 58).map (·.size) = some cs.length) := ⟨by rw [hk]; exact sizeIn⟩
              have hmem : t.ins[j] ∈ t.ins := List.getElem_mem hjl
              have hfl : (flat encWits (t.ins.take j)).length ≤ 5055 * 50 := by
                have := flat_len encWits 5055 (t.ins.take j) fun x hx => encWits_len x (HM.out.iwl x (List.mem_of_mem_take hx)) (HM.out.iwx x (List.mem_of_mem_take hx))
                rw [List.length_take] at this
                have := HM.out.i50
                omega
              have hLl : Lj.length ≤ 1000000000 := by have := HP6.out.2; rw [hL, List.length_append]; omega
              have hwb := (HLOW.out _ hg)
              have hga : Grew B wr (wr.alloc (.cells cs.toArray 58)) := Grew.of_below hwb.2 ((Below.refl _ _).alloc (Nat.le_refl _) _)
              have hgw := hg.trans hga
              obtain ⟨sv, wv, rfl, hf, _, hwit⟩ := hR
              have HT := Kp.mk (addWitness_any W (wr.alloc (.cells (inCells t.ins[j] sv wv).toArray 58)) B _ Lj wv t.ins[j].wit H0.out (Nat.le_trans hwb.2 (by simp)) (HLOW.out _ hgw).1 (ho.below ((Below.refl _ _).alloc (Nat.le_refl _) _)) hwit (HM.out.iwl _ hmem) (HM.out.iwx _ hmem) hLl)
              have c35 : (inCells t.ins[j] sv wv).toArray[35]? = some wv := by simpa using inCells_wit hf sv wv
              have HGW := Kp.mk hgw
              have HL := Kp.mk hL
              have HLEN : Kp ((inCells t.ins[j] sv wv).length = 36) := ⟨hk⟩
              have HONE := Kp.mk hone
              have HJ := Kp.mk hjl
              have HS : Kp (flat encWits (t.ins.take (j + 1)) = flat encWits (t.ins.take j) ++ encWits t.ins[j]) := ⟨flat_snoc encWits t.ins j hjl⟩
              have hjl' : (j : Int) < (t.ins.length : Int) := by omega
              obtain ⟨Ar, cr, rfl⟩ := ho.slice
              clear hcs hk hone hmem hfl hLl hwb hga hgw hL ho hg hf hwit
              go_wp2_with (first | (refine wpList_load_mid rfl 58 (.tmp 57) rfl bi (oi + j * 36) rfl (inCells t.ins[j] sv wv) _ HCS.out Try.underlying58 rfl HSZ.out ?_) | (refine wpList_store_fresh rfl 58 (.tmp 11) (.tmp 58) rfl _ (inCells t.ins[j] sv wv).toArray wr.heap.size rfl rfl rfl (by simpa using HSZ.out) (by simp [HLEN.out]) HONE.out ?_) | (go_at_call 83; refine HT.out.mono ?_; rintro e w5 ⟨v5, rfl, ho5, hg5⟩))
              exact ⟨⟨j + 1, _, by have := HJ.out; omega, by go_num, ⟨by rw [HL.out, HS.out, List.append_assoc]; rfl, ho5, HGW.out.trans hg5⟩⟩, by simp [intOf]; have := HJ.out; omega⟩
            · obtain rfl : j = t.ins.length := by omega
              rw [List.take_length] at hL
              obtain ⟨P8, hP8⟩ : ∃ P, Lj = P := ⟨_, rfl⟩
              rw [hP8] at hL ho
              have hfl : (flat encWits t.ins).length ≤ 252750 := by
                have := flat_len encWits 5055 t.ins fun x hx => encWits_len x (HM.out.iwl x hx) (HM.out.iwx x hx)
                have := HM.out.i50
                omega
              have HP8 : Kp (P8 = leb t.version 4 ++ ([0, 1] ++ (cnt t.ins.length ++ (flat encIn t.ins ++ (cnt t.outs.length ++ (flat encOut t.outs ++ flat encWits t.ins))))) ∧ P8.length ≤ 400000) := ⟨by rw [hL, HP6.out.1]; simp, by have := HP6.out.2; rw [hL, List.length_append]; omega⟩
              obtain ⟨w8, rfl⟩ : ∃ w8 : World, w8 = wr := ⟨_, rfl⟩
              have HG8 := Kp.mk hg
              have HO8 := Kp.mk ho
              obtain ⟨A8, c8, rfl⟩ := ho.slice
              clear hL ho hg hfl hP8 hjl
              obtain ⟨_, _, k3⟩ := HBOX.out _ HG8.out
              have H9 := Kp.mk (addSmall_any w8 B _ P8 t.lock (HLOW.out _ HG8.out).2 HO8.out HNUM.out.2 (by have := HP8.out.2; omega))
              go_wp2_with fail
              refine H9.out.mono ?_
              rintro e w9 ⟨v9, rfl, ho9, hg9⟩
              obtain ⟨P9, hP9⟩ : ∃ P, P8 ++ leb t.lock 4 = P := ⟨_, rfl⟩
              have HE : Kp (encTx t true = P9) := ⟨by rw [← hP9, HP8.out.1]; simp [encTx]⟩
              have HG9 := Kp.mk (HG8.out.trans hg9)
              rw [hP9] at ho9
              have HO9 := Kp.mk (ho9.less H0.out)
              obtain ⟨A9, c9, rfl⟩ := ho9.slice
              clear ho9 hg9 hP9 k3
              go_wp2
              go_ret
              exact ⟨_, rfl, by rw [HE.out]; exact HO9.out, HFIN.out _ HG9.out⟩
end

section
open Go.RowKit

def baseOf (t : TxD) : List Int := if mayB t then encTx t false else []
def bytesOf (t : TxD) : List Int := if mayB t then encTx t (witT t) else []
/-- New bytes are answered; what was there is as it was. -/
theorem app_low {l : List Int} {w w1 : World} (hb : Below w.heap.size w w1) {e : Ending} {w' : World} (h : App w1.heap.size l w1 e w') : App w.heap.size l w e w' := by
  obtain ⟨v, he, ho, hg⟩ := h
  exact ⟨v, he, ho.less hb.size, (Grew.of_below (Nat.le_refl _) hb).trans (hg.mono hb.size)⟩

set_option maxRecDepth 100000 in
set_option maxHeartbeats 2000000 in
theorem base_any (W : World) (v : Value) (t : TxD) (h : TxR W v t) : Calls Try.prog 41 #[v] W (App W.heap.size (baseOf t) W) := by
  have hT := h
  obtain ⟨iv, ov, rfl, _⟩ := h
  have hb1 : Below W.heap.size W (W.alloc (.cells #[.int .u32 t.version, iv, ov, .int .u32 t.lock] 30)) := (Below.refl _ _).alloc (Nat.le_refl _) _
  have hT1 := hT.below hb1
  have H1 := Kp.mk (may_any (W.alloc (.cells #[.int .u32 t.version, iv, ov, .int .u32 t.lock] 30)) _ t hT1)
  have HT1 := Kp.mk hT1
  have HB1 := Kp.mk hb1
  have HD : Kp (baseOf t = if mayB t then encTx t false else []) := ⟨rfl⟩
  have HM := Kp.mk (mayB_iff t)
  clear hT hT1 hb1
  cases hq : mayB t with
  | false =>
    rw [hq] at H1 HD
    clear hq HM
    go_enter Try.func41, Try.ntmps41
    go_wp2_with (go_at_call 58; refine H1.out.mono ?_; rintro e w1 ⟨rfl, hb⟩)
    go_ret
    have hbb := HB1.out.trans (hb.mono HB1.out.size)
    exact ⟨_, rfl, by rw [HD.out]; exact own_nil _ _ _, Grew.of_below (Nat.le_refl _) hbb⟩
  | true =>
    rw [hq] at H1 HD
    have HMF := Kp.mk (HM.out.1 hq)
    clear hq HM
    go_enter Try.func41, Try.ntmps41
    go_wp2_with fail
    refine H1.out.mono ?_
    rintro e w1 ⟨rfl, hb⟩
    have hc0 := cell_new (by rw [← alloc_size]; exact hb) 0 _ rfl
    have hc1 := cell_new (by rw [← alloc_size]; exact hb) 1 _ rfl
    have hc2 := cell_new (by rw [← alloc_size]; exact hb) 2 _ rfl
    have hc3 := cell_new (by rw [← alloc_size]; exact hb) 3 _ rfl
    have HBB := Kp.mk (HB1.out.trans (hb.mono HB1.out.size))
    have H2 := Kp.mk (encode_false w1 _ t (HT1.out.below hb) HMF.out)
    clear hb
    go_wp2_with fail
    refine H2.out.mono ?_
    rintro e w2 hApp
    obtain ⟨v2, rfl, ho2, hg2⟩ := app_low HBB.out hApp
    have HO2 := Kp.mk ho2
    have HG2 := Kp.mk hg2
    obtain ⟨A2, c2, rfl⟩ := ho2.slice
    clear ho2 hg2 hApp hc0 hc1 hc2 hc3
    go_wp2
    go_ret
    exact ⟨_, rfl, by rw [HD.out]; exact HO2.out, HG2.out⟩
end

section
open Go.RowKit

theorem heap_lt {w : World} {b : Nat} {o : Obj} (h : w.heap[b]? = some o) : b < w.heap.size := (Array.getElem?_eq_some_iff.1 h).1
/-- Each block whose cells are of one of these types is as it was. -/
def Keeps (ts : List Nat) (w w' : World) : Prop := w.heap.size ≤ w'.heap.size ∧ ∀ (b t : Nat) (cs : Array Value), t ∈ ts → ∀ {fr : Nat × Nat}, w.heap[b]? = some (.cells cs t fr) → w'.heap[b]? = some (.cells cs t fr)
theorem Keeps.refl (ts : List Nat) (w : World) : Keeps ts w w := ⟨Nat.le_refl _, fun _ _ _ _ _ h => h⟩
theorem Keeps.trans {ts : List Nat} {w w1 w2 : World} (h : Keeps ts w w1) (k : Keeps ts w1 w2) : Keeps ts w w2 := ⟨Nat.le_trans h.1 k.1, fun b t cs ht _ hb => k.2 b t cs ht (h.2 b t cs ht hb)⟩
theorem Keeps.of_below (ts : List Nat) {w w' : World} (h : Below w.heap.size w w') : Keeps ts w w' := ⟨h.size, fun b _ _ _ _ hb => (h.block b (heap_lt hb)).trans hb⟩
theorem Keeps.of_grown {ts : List Nat} {w w' : World} {row : Option Nat} (hg : w.grownBy w' row) {e : Nat} {cur : Array Value} (hrow : ∀ b, row = some b → Box w b e cur) (he : e ∉ ts) : Keeps ts w w' := by
  refine ⟨hg.size, fun b t cs ht fr hb => (hg.block b (heap_lt hb) ?_).trans hb⟩
  intro e1
  have h1 := hrow b e1.symm
  have h2 : w.heap[b]? = some (.cells cur e (0, 0)) := h1
  rw [h2] at hb
  injection hb with h3
  injection h3 with _ h4
  exact he (h4 ▸ ht)
theorem Keeps.of_own {ts : List Nat} {w w' : World} {B e k n : Nat} {v : Value} {xs : List Value} (hg : w.grownBy w' v.ownBlock) (ho : w.ownsRow B e k v n xs) (he : e ∉ ts) : Keeps ts w w' := by
  rcases ho.2 with ⟨rfl, _⟩ | ⟨g, cap, cur, rfl, _, hx, _⟩
  · exact Keeps.of_grown hg (e := e) (cur := #[]) (fun b h => by cases h) he
  · refine Keeps.of_grown hg (e := e) (cur := cur) (fun b h => ?_) he
    simp only [Value.ownBlock, Option.some.injEq] at h
    subst h
    exact hx
theorem Keeps.of_only {ts : List Nat} {w w' : World} {g e : Nat} {cur : Array Value} (hg : Only g w w') (hb : Box w g e cur) (he : e ∉ ts) : Keeps ts w w' :=
  Keeps.of_grown hg (e := e) (cur := cur) (fun b h => by injection h with h; subst h; exact hb) he
theorem Keeps.of_set {ts : List Nat} {w : World} {b e : Nat} {cur : Array Value} (hb : Box w b e cur) (he : e ∉ ts) (i : Nat) (u : Value) : Keeps ts w (w.setCell ⟨b, i, none⟩ u) :=
  Keeps.of_only ((Only.refl b w).set i u) hb he
theorem ownsRow_keeps {ts : List Nat} {w w' : World} {B e k n : Nat} {v : Value} {xs : List Value} (ho : w.ownsRow B e k v n xs) (hk : Keeps ts w w') (he : e ∈ ts) : w'.ownsRow B e k v n xs := by
  refine ⟨ho.1, ?_⟩
  rcases ho.2 with h | ⟨g, cap, cur, hv, hb, hx, hr⟩
  · exact .inl h
  · exact .inr ⟨g, cap, cur, hv, hb, hk.2 g e cur he hx, hr⟩
theorem ownsRow_less {w : World} {B B' e k n : Nat} {v : Value} {xs : List Value} (ho : w.ownsRow B e k v n xs) (h : B' ≤ B) : w.ownsRow B' e k v n xs := by
  refine ⟨ho.1, ?_⟩
  rcases ho.2 with h2 | ⟨g, cap, cur, hv, hb, r⟩
  · exact .inl h2
  · exact .inr ⟨g, cap, cur, hv, by omega, r⟩
theorem ownsRow_slice {w : World} {B e k n : Nat} {v : Value} {xs : List Value} (ho : w.ownsRow B e k v n xs) : ∃ A c, v = .slice A n c := by
  rcases ho.2 with ⟨h, hn⟩ | ⟨g, cap, cur, hv, _⟩
  · exact ⟨none, 0, by rw [h, hn]⟩
  · exact ⟨_, cap, hv⟩
set_option maxRecDepth 100000 in
theorem Own.keeps {ts : List Nat} {w w' : World} {B : Nat} {v : Value} {l : List Int} (h : Own w B 5 v l) (hk : Keeps ts w w') (hu : 5 ∈ ts) : Own w' B 5 v l := ownsRow_keeps h hk hu
set_option maxRecDepth 100000 in
theorem Own.rb {w : World} {B : Nat} {v : Value} {l : List Int} (h : Own w B 5 v l) (hy : Bys l) : Rb w v l := by
  refine ⟨h.any, hy, ?_⟩
  rcases h.form with ⟨_, rfl⟩ | ⟨g, cap, cur, _, _, _, h1, h2, _⟩
  · exact Nat.zero_le _
  · exact Nat.le_trans h1 h2

/-- A row of the call's own whose elements have k cells each. -/
def OwnMany {α : Type} (k e : Nat) (R : List Value → α → Prop) (w : World) (B : Nat) (v : Value) (ds : List α) : Prop :=
  ∃ css : List (List Value), w.ownsRow B e k v ds.length css.flatten ∧ css.length = ds.length ∧ (∀ (i : Nat) (cs : List Value) (d : α), css[i]? = some cs → ds[i]? = some d → cs.length = k ∧ R cs d)
theorem flatten_at {k : Nat} : ∀ (css : List (List Value)) (i j : Nat) (cs : List Value), (∀ c ∈ css, c.length = k) → css[i]? = some cs → j < k → css.flatten[i * k + j]? = cs[j]?
  | [], i, j, cs, _, h, _ => by simp at h
  | c :: r, 0, j, cs, hk, h, hj => by
    have hc : c.length = k := hk c (by simp)
    simp only [List.getElem?_cons_zero, Option.some.injEq] at h
    subst h
    rw [List.flatten_cons, Nat.zero_mul, Nat.zero_add, List.getElem?_append_left (by omega)]
  | c :: r, i + 1, j, cs, hk, h, hj => by
    have hc : c.length = k := hk c (by simp)
    rw [List.getElem?_cons_succ] at h
    rw [List.flatten_cons, Nat.succ_mul, List.getElem?_append_right (by omega), hc]
    have : i * k + k + j - k = i * k + j := by omega
    rw [this]
    exact flatten_at r i j cs (fun c hc => hk c (List.mem_cons_of_mem _ hc)) h hj
section
variable {α : Type} {k e : Nat} {R : List Value → α → Prop} {w : World} {B : Nat} {v : Value} {ds : List α}
theorem OwnMany.lens (h : OwnMany k e R w B v ds) : ∃ css : List (List Value), w.ownsRow B e k v ds.length css.flatten ∧ css.length = ds.length ∧ (∀ c ∈ css, c.length = k) ∧ (∀ (i : Nat) (cs : List Value) (d : α), css[i]? = some cs → ds[i]? = some d → R cs d) := by
  obtain ⟨css, ho, hl, hR⟩ := h
  refine ⟨css, ho, hl, fun c hc => ?_, fun i cs d h1 h2 => (hR i cs d h1 h2).2⟩
  obtain ⟨i, hi, rfl⟩ := List.mem_iff_getElem.1 hc
  exact (hR i _ (ds[i]'(by omega)) (List.getElem?_eq_getElem hi) (List.getElem?_eq_getElem (by omega))).1
theorem OwnMany.nil (k e : Nat) (R : List Value → α → Prop) (w : World) (B : Nat) : OwnMany k e R w B (.slice none 0 0) [] := ⟨[], World.ownsRow_nil w B e k, rfl, fun i cs d h => by simp at h⟩
theorem OwnMany.slice (h : OwnMany k e R w B v ds) : ∃ A c, v = .slice A ds.length c := by
  obtain ⟨css, ho, _⟩ := h
  exact ownsRow_slice ho
theorem OwnMany.turn {w' : World} {R' : List Value → α → Prop} {B' : Nat} (h : OwnMany k e R w B v ds) {ts : List Nat} (hk : Keeps ts w w') (he : e ∈ ts) (hB : B' ≤ B) (hR : ∀ cs d, R cs d → R' cs d) : OwnMany k e R' w' B' v ds := by
  obtain ⟨css, ho, hl, hr⟩ := h
  exact ⟨css, ownsRow_less (ownsRow_keeps ho hk he) hB, hl, fun i cs d h1 h2 => ⟨(hr i cs d h1 h2).1, hR cs d (hr i cs d h1 h2).2⟩⟩
theorem OwnMany.many {RR : World → List Value → α → Prop} (h : OwnMany k e R w B v ds) (hR : ∀ cs d, R cs d → RR w cs d) : Many k RR w v ds := by
  obtain ⟨css, ho, hl, hlen, hr⟩ := h.lens
  rcases ho.2 with ⟨rfl, hn⟩ | ⟨g, cap, cur, rfl, hB, hx, hc, hm, hs, ht⟩
  · obtain rfl : ds = [] := List.eq_nil_of_length_eq_zero hn
    exact Many.nil _ _ _
  · refine ⟨_, cap, rfl, hc, hm, (fun h => by cases h), fun _ => ⟨g, 0, rfl, Box.lt hx, fun i x hi => ?_⟩⟩
    have hil : i < ds.length := (List.getElem?_eq_some_iff.1 hi).1
    have hcs : css[i]? = some (css[i]'(by omega)) := List.getElem?_eq_getElem (by omega)
    have hk := hlen _ (List.getElem_mem (show i < css.length by omega))
    refine ⟨_, hk, fun j u hj => ?_, hR _ _ (hr i _ x hcs hi)⟩
    have hjk : j < k := by rw [← hk]; exact (List.getElem?_eq_some_iff.1 hj).1
    have h1 := flatten_at css i j _ hlen hcs hjk
    rw [hj, ← ht, List.getElem?_take] at h1
    have hlt : i * k + j < ds.length * k := Nat.lt_of_lt_of_le (Nat.add_lt_add_left hjk _) (by rw [← Nat.succ_mul]; exact Nat.mul_le_mul_right k hil)
    rw [if_pos hlt] at h1
    rw [Box.cell hx, Nat.zero_add]
    simpa using h1
theorem OwnMany.snoc {v' : Value} {w' : World} {cs : List Value} {d : α} {css : List (List Value)} (hl : css.length = ds.length) (hr : ∀ (i : Nat) (cs : List Value) (d : α), css[i]? = some cs → ds[i]? = some d → cs.length = k ∧ R cs d) (ho : w'.ownsRow B e k v' (ds.length + 1) (css.flatten ++ cs)) (hk : cs.length = k) (hR : R cs d) : OwnMany k e R w' B v' (ds ++ [d]) := by
  refine ⟨css ++ [cs], by simpa using ho, by simp [hl], fun i c x h1 h2 => ?_⟩
  by_cases hi : i < css.length
  · rw [List.getElem?_append_left hi] at h1
    rw [List.getElem?_append_left (by omega)] at h2
    exact hr i c x h1 h2
  · rw [List.getElem?_append_right (by omega)] at h1
    rw [List.getElem?_append_right (by omega)] at h2
    have h3 : i - css.length = 0 := by
      have := (List.getElem?_eq_some_iff.1 h1).1
      simp at this
      omega
    rw [h3] at h1
    rw [← hl, h3] at h2
    simp at h1 h2
    subst h1
    subst h2
    exact ⟨hk, hR⟩
end
def RowO (w : World) (B : Nat) (cs : List Value) (l : List Int) : Prop := ∃ sv, cs = [sv] ∧ Own w B 5 sv l ∧ Bys l
abbrev OwnRows (w : World) (B : Nat) (v : Value) (ll : List (List Int)) : Prop := OwnMany 1 55 (RowO w B) w B v ll
set_option maxRecDepth 100000 in
theorem RowO.turn {ts : List Nat} {w w' : World} {B B' : Nat} {cs : List Value} {l : List Int} (h : RowO w B cs l) (hk : Keeps ts w w') (hu : 5 ∈ ts) (hB : B' ≤ B) : RowO w' B' cs l := by
  obtain ⟨sv, rfl, h1, h2⟩ := h
  exact ⟨sv, rfl, (h1.keeps hk hu).less hB, h2⟩
set_option maxRecDepth 100000 in
theorem rows_turn {ts : List Nat} {w w' : World} {B B' : Nat} {v : Value} {ll : List (List Int)} (h : OwnRows w B v ll) (hk : Keeps ts w w') (hu : 5 ∈ ts) (hb : 55 ∈ ts) (hB : B' ≤ B) : OwnRows w' B' v ll := OwnMany.turn h hk hb hB fun _ _ h => h.turn hk hu hB
theorem rows_rws {w : World} {B : Nat} {v : Value} {ll : List (List Int)} (h : OwnRows w B v ll) : Rws w v ll := OwnMany.many h fun _ _ ⟨sv, hc, h1, h2⟩ => ⟨sv, hc, h1.rb h2⟩
def InO (w : World) (B : Nat) (cs : List Value) (d : InD) : Prop := ∃ sv wv, cs = inCells d sv wv ∧ d.Fit ∧ Own w B 5 sv d.script ∧ Bys d.script ∧ OwnRows w B wv d.wit
set_option maxRecDepth 100000 in
theorem InO.turn {ts : List Nat} {w w' : World} {B B' : Nat} {cs : List Value} {d : InD} (h : InO w B cs d) (hk : Keeps ts w w') (hu : 5 ∈ ts) (hb : 55 ∈ ts) (hB : B' ≤ B) : InO w' B' cs d := by
  obtain ⟨sv, wv, rfl, hf, h1, h2, h3⟩ := h
  exact ⟨sv, wv, rfl, hf, (h1.keeps hk hu).less hB, h2, rows_turn h3 hk hu hb hB⟩
theorem InO.inR {w : World} {B : Nat} {cs : List Value} {d : InD} (h : InO w B cs d) : InR w cs d := by
  obtain ⟨sv, wv, rfl, hf, h1, h2, h3⟩ := h
  exact ⟨sv, wv, rfl, hf, h1.rb h2, rows_rws h3⟩
def OutO (w : World) (B : Nat) (cs : List Value) (d : OutD) : Prop := ∃ sv, cs = [.int .u64 d.value, sv] ∧ d.value < 18446744073709551616 ∧ Own w B 5 sv d.script ∧ Bys d.script
set_option maxRecDepth 100000 in
theorem OutO.turn {ts : List Nat} {w w' : World} {B B' : Nat} {cs : List Value} {d : OutD} (h : OutO w B cs d) (hk : Keeps ts w w') (hu : 5 ∈ ts) (hB : B' ≤ B) : OutO w' B' cs d := by
  obtain ⟨sv, rfl, hf, h1, h2⟩ := h
  exact ⟨sv, rfl, hf, (h1.keeps hk hu).less hB, h2⟩
theorem OutO.outR {w : World} {B : Nat} {cs : List Value} {d : OutD} (h : OutO w B cs d) : OutR w cs d := by
  obtain ⟨sv, rfl, hf, h1, h2⟩ := h
  exact ⟨sv, rfl, hf, h1.rb h2⟩

/-- One element more, out of a block that was made for it. -/
theorem wp_append_many {P : Program} {w : World} {o : Oper} {a : Act} {K : Act → World → Prop} {Q : Exit → Act → World → Prop} {α : Type} {k e : Nat} {R : World → List Value → α → Prop} (s x : Operand) (t : TypeId)
    (ho : o.op = .call { callee := .builtin .append, args := #[s, x], argTypes := #[t, t] })
    (B : Nat) (i : TypeInfo) (z : Value) (bytes : Nat) (ht : P.underlying t = some (.slice e)) (hi : P.info? e = some i) (hz : i.zero = some z) (hsize : i.size = k) (hby : i.bytes = bytes) (hzs : z.cells.size = k) (hk0 : 0 < k)
    (v : Value) (ds : List α) (hs : a.eval s = v) (hown : OwnMany k e (R w) w B v ds)
    (gn c : Nat) (cs : List Value) (d : α) (hx : a.eval x = .slice (some ⟨gn, 0, none⟩) 1 c) (hbox : Box w gn e cs.toArray) (hl : cs.length = k) (hR : R w cs d) (h1 : ∀ u ∈ cs, u.oneCell' = true)
    (hn : ds.length ≤ 1000) (hb100 : bytes ≤ 1000) (hB : B ≤ w.heap.size) (ts : List Nat) (he : e ∉ ts) (hst : ∀ w' cs d, Keeps ts w w' → R w cs d → R w' cs d)
    (h : ∀ v' w', OwnMany k e (R w') w' B v' (ds ++ [d]) → w.grownBy w' v.ownBlock → Keeps ts w w' → K (a.put o.dst v') w') : o.wp P a w K Q := by
  obtain ⟨css, hrow, hcl, hlen, hr⟩ := hown.lens
  have hbytes : (ds.length + 1) * bytes ≤ 140737488355328 := Nat.le_trans (Nat.mul_le_mul (show ds.length + 1 ≤ 1001 by omega) hb100) (by decide)
  refine wp_append_own w s x t ho B e i z k bytes ht hi hz hsize hby hzs hk0 v ds.length css.flatten hs hrow ⟨gn, 0, none⟩ 1 c cs hx (by omega) (fun j u hj => ?_) h1 (by unfold maxLen; omega) hbytes hB (fun v' w' h2 h3 _ => ?_)
  · have : (⟨gn, 0, none⟩ : Addr).add j = ⟨gn, j, none⟩ := by unfold Addr.add; split <;> simp_all
    rw [this, hbox.cell]
    simpa using hj
  · have hkp : Keeps ts w w' := Keeps.of_own h3 hrow he
    exact h v' w' (OwnMany.snoc hcl (fun j cs' d' e1 e2 => ⟨hlen _ (List.mem_of_getElem? e1), hst _ _ _ hkp (hr j cs' d' e1 e2)⟩) h2 hl (hst _ _ _ hkp hR)) h3 hkp
theorem wpList_append_many {P : Program} {w : World} {ops : Array Oper} {rest : List Oper} {o : Oper} {a : Act} {Q : Exit → Act → World → Prop} (hgd : o.guard = none) {α : Type} {k e : Nat} {R : World → List Value → α → Prop} (s x : Operand) (t : TypeId)
    (ho : o.op = .call { callee := .builtin .append, args := #[s, x], argTypes := #[t, t] })
    (B : Nat) (i : TypeInfo) (z : Value) (bytes : Nat) (ht : P.underlying t = some (.slice e)) (hi : P.info? e = some i) (hz : i.zero = some z) (hsize : i.size = k) (hby : i.bytes = bytes) (hzs : z.cells.size = k) (hk0 : 0 < k)
    (v : Value) (ds : List α) (hs : a.eval s = v) (hown : OwnMany k e (R w) w B v ds)
    (gn c : Nat) (cs : List Value) (d : α) (hx : a.eval x = .slice (some ⟨gn, 0, none⟩) 1 c) (hbox : Box w gn e cs.toArray) (hl : cs.length = k) (hR : R w cs d) (h1 : ∀ u ∈ cs, u.oneCell' = true)
    (hn : ds.length ≤ 1000) (hb100 : bytes ≤ 1000) (hB : B ≤ w.heap.size) (ts : List Nat) (he : e ∉ ts) (hst : ∀ w' cs d, Keeps ts w w' → R w cs d → R w' cs d)
    (h : ∀ v' w', OwnMany k e (R w') w' B v' (ds ++ [d]) → w.grownBy w' v.ownBlock → Keeps ts w w' → wpList P ops Q rest (a.put o.dst v') w') : wpList P ops Q (o :: rest) a w :=
  wpList_plain hgd fun _ hK => wp_append_many s x t ho B i z bytes ht hi hz hsize hby hzs hk0 v ds hs hown gn c cs d hx hbox hl hR h1 hn hb100 hB ts he hst fun v' w' h2 h3 h4 => hK _ _ (h v' w' h2 h3 h4)
theorem step_append_many {P : Program} {w : World} {ops : Array Oper} {o : Oper} {a : Act} {K : Act → World → Prop} {Q : Exit → Act → World → Prop} {E : Prop} (hgd : o.guard = none) {α : Type} {k e : Nat} {R : World → List Value → α → Prop} (s x : Operand) (t : TypeId)
    (ho : o.op = .call { callee := .builtin .append, args := #[s, x], argTypes := #[t, t] })
    (B : Nat) (i : TypeInfo) (z : Value) (bytes : Nat) (ht : P.underlying t = some (.slice e)) (hi : P.info? e = some i) (hz : i.zero = some z) (hsize : i.size = k) (hby : i.bytes = bytes) (hzs : z.cells.size = k) (hk0 : 0 < k)
    (v : Value) (ds : List α) (hs : a.eval s = v) (hown : OwnMany k e (R w) w B v ds)
    (gn c : Nat) (cs : List Value) (d : α) (hx : a.eval x = .slice (some ⟨gn, 0, none⟩) 1 c) (hbox : Box w gn e cs.toArray) (hl : cs.length = k) (hR : R w cs d) (h1 : ∀ u ∈ cs, u.oneCell' = true)
    (hn : ds.length ≤ 1000) (hb100 : bytes ≤ 1000) (hB : B ≤ w.heap.size) (ts : List Nat) (he : e ∉ ts) (hst : ∀ w' cs d, Keeps ts w w' → R w cs d → R w' cs d)
    (h : ∀ v' w', OwnMany k e (R w') w' B v' (ds ++ [d]) → w.grownBy w' v.ownBlock → Keeps ts w w' → K (a.put o.dst v') w') :
    if Region.wanted o (yielded ops a.tmps) = true then Oper.wp P o a w K Q else E := by
  have hwd : Region.wanted o (yielded ops a.tmps) = true := by simp [Region.wanted, hgd]
  rw [if_pos hwd]
  exact wp_append_many s x t ho B i z bytes ht hi hz hsize hby hzs hk0 v ds hs hown gn c cs d hx hbox hl hR h1 hn hb100 hB ts he hst h
end

section
open Go.RowKit

def zeros (n : Nat) : List Int := List.replicate n 0
theorem zeros_bys (n : Nat) : Bys (zeros n) := fun x hx => by rw [List.eq_of_mem_replicate hx]; omega
theorem zeroCells_u8 (n : Nat) : Builtin.zeroCells (Value.int .u8 0).cells n = (byteVals (zeros n)).toArray := by
  apply Array.ext'
  simp [Builtin.zeroCells, Value.cells, byteVals, zeros]
  apply List.ext_getElem
  · simp
  · intro i h1 h2
    simp at h1
    simp [Nat.mod_one]

set_option maxRecDepth 100000 in
set_option maxRecDepth 100000 in
/-- 'append([]byte{..}, make([]byte, n)...)'. -/
theorem wpList_append_zeros {w : World} {ops : Array Oper} {rest : List Oper} {o : Oper} {a : Act} {Q : Exit → Act → World → Prop} (hgd : o.guard = none) (s x : Operand)
    (ho : o.op = .call { callee := .builtin .append, args := #[s, x], argTypes := #[55, 3] }) (m : Nat) (l : List Int) (hs : a.eval s = .slice (some ⟨w.heap.size, 0, none⟩) m m) (hl : l.length = m)
    (cells : Array Value) (hcells : cells = (byteVals l).toArray) (n : Nat) (hx : a.eval x = .int .i64 (n : Int)) (hm : m ≤ 100) (hn : n ≤ 100)
    (h : ∀ v' w', Own w' w.heap.size 5 v' (l ++ zeros n) → Below w.heap.size w w' → wpList Try.prog ops Q rest (a.put o.dst v') w') : wpList Try.prog ops Q (o :: rest) a (w.alloc (.cells cells 5)) := by
  obtain ⟨i0, hi, hz0, hz1, hz2⟩ := info_parts infoByte
  subst hcells
  have hb0 : Below w.heap.size w (w.alloc (.cells (byteVals l).toArray 5)) := (Below.refl _ _).alloc (Nat.le_refl _) _
  have hbox : Box (w.alloc (.cells (byteVals l).toArray 5)) w.heap.size 5 (byteVals l).toArray := Box.fresh w _ _
  have hbl : (byteVals l).length = m := by simp [byteVals, hl]
  by_cases h0 : n = 0
  · subst h0
    have hr : (Builtin.append_ #[55, 3] o.type #[.slice (some ⟨w.heap.size, 0, none⟩) m m, .int .i64 ((0 : Nat) : Int)]).run Try.prog (w.alloc (.cells (byteVals l).toArray 5)) = .ok (.slice (some ⟨w.heap.size, 0, none⟩) m m) (w.alloc (.cells (byteVals l).toArray 5)) := by
      simp [Builtin.append_, run_underlying Try.underlying55, run_underlying Try.underlying3, sizeOf, typeInfo, hi, hz2, asInt, asIntOf, storeCells, IntKind.wrap_i64]
    refine Lib.wpList_append_run _ hgd s x _ _ ho _ _ hs hx _ _ hr (h _ _ ?_ hb0)
    rw [show l ++ zeros 0 = l by simp [zeros]]
    refine ⟨by simp [byteVals], .inr ⟨w.heap.size, m, _, by rw [hl], Nat.le_refl _, hbox, by omega, by unfold maxLen; omega, by simp [hbl], ?_⟩⟩
    rw [List.take_of_length_le (by simp [byteVals])]
  · obtain ⟨W, hW⟩ : ∃ W, w.alloc (.cells (byteVals l).toArray 5) = W := ⟨_, rfl⟩
    rw [hW] at hb0 hbox ⊢
    have hge := grownCap_ge W (m + n) m 5
    have hcm : grownCap W (m + n) m 5 ≤ maxLen := grownCap_le_maxLen W (m + n) m 5 (by unfold maxLen; omega)
    have hfo := run_firstCells_some (P := Try.prog) W.drew 1 m ⟨w.heap.size, 0, none⟩ m m (byteVals l) (by rw [hbl]; omega) (fun j u hj => by
      have : (⟨w.heap.size, 0, none⟩ : Addr).add j = ⟨w.heap.size, j, none⟩ := by unfold Addr.add; split <;> simp_all
      rw [this]
      have := (hbox.below (Below.refl _ _).drew).cell j
      rw [this]
      simpa using hj)
    have hr : (Builtin.append_ #[55, 3] o.type #[.slice (some ⟨w.heap.size, 0, none⟩) m m, .int .i64 (n : Int)]).run Try.prog W =
        .ok (.slice (some ⟨W.heap.size, 0, none⟩) (m + n) (grownCap W (m + n) m 5)) (W.drew.alloc (.cells ((byteVals l).toArray ++ (byteVals (zeros n)).toArray ++ (byteVals (zeros (grownCap W (m + n) m 5 - (m + n)))).toArray) 5)) := by
      have h1 : IntKind.i64.wrap (n : Int) = n := by rw [IntKind.wrap_i64]; omega
      have h2 : ¬ ((n : Int) < 0) := by omega
      have h3 : ¬ (m + n ≤ m) := by omega
      have h4 : ¬ (281474976710656 < (n : Int)) := by omega
      have h5 : ¬ (9223372036854775807 < (m : Int) + (n : Int)) := by omega
      have h6 : ¬ (281474976710656 < Builtin.nextslicecap (m + n) m) := by
        unfold Builtin.nextslicecap
        split
        · omega
        · rw [if_pos (by omega)]; omega
      rw [← zeroCells_u8, ← zeroCells_u8]
      simp [Builtin.append_, run_underlying Try.underlying55, run_underlying Try.underlying3, sizeOf, typeInfo, zeroValue, hi, hz0, hz1, hz2, asInt, asIntOf, h1, h2, h3, h4, h5, h6, h0, Question.forced, hfo, newRow, grownCap]
    refine Lib.wpList_append_run _ hgd s x _ _ ho _ _ hs hx _ _ hr (h _ _ ?_ ((hb0.drew).alloc (by have := hb0.size; simpa using this) _))
    have hlen : (l ++ zeros n).length = m + n := by simp [zeros, hl]
    refine ⟨by simp [byteVals], .inr ⟨W.heap.size, _, _, by rw [hlen], hb0.size, heap_alloc_new W.drew _, by rw [hlen]; exact hge, hcm, ?_, ?_⟩⟩
    · simp [byteVals, zeros, hl]
      omega
    · rw [hlen, Nat.mul_one]
      simp only [Array.toList_append]
      rw [show (byteVals (l ++ zeros n)) = byteVals l ++ byteVals (zeros n) by simp [byteVals]]
      rw [List.take_append_of_le_length (by simp [byteVals, zeros, hl]), List.take_of_length_le (by simp [byteVals, zeros, hl])]

/-- The slice v reads as the bytes l; they lie in a block of bytes. -/
def RbT (w : World) (v : Value) (l : List Int) : Prop := Rb w v l ∧ (l ≠ [] → ∃ b off n c cs fr, v = .slice (some ⟨b, off, none⟩) n c ∧ w.heap[b]? = some (.cells cs 5 fr))
set_option maxRecDepth 100000 in
theorem RbT.keeps {ts : List Nat} {w w' : World} {v : Value} {l : List Int} (h : RbT w v l) (hk : Keeps ts w w') (hu : 5 ∈ ts) : RbT w' v l := by
  obtain ⟨⟨⟨A, c, rfl, hc, hn, hr⟩, hy, hm⟩, ht⟩ := h
  refine ⟨⟨⟨A, c, rfl, hc, hn, fun hl => ?_⟩, hy, hm⟩, fun hl => ?_⟩
  · obtain ⟨b, off, rfl, hb, hlt, hrun⟩ := hr hl
    obtain ⟨b', off', n', c', cs, fr, e, hx⟩ := ht hl
    injection e with e1 _ _
    injection e1 with e1
    injection e1 with e1 e2 _
    subst e1
    have hx' := hk.2 _ _ _ hu hx
    exact ⟨b, off, rfl, Nat.ne_of_lt (heap_lt hx'), heap_lt hx', fun i hi => (World.cell?_of_block (hx'.trans hx.symm)).trans (hrun i hi)⟩
  · obtain ⟨b', off', n', c', cs, fr, e, hx⟩ := ht hl
    exact ⟨b', off', n', c', cs, fr, e, hk.2 _ _ _ hu hx⟩
set_option maxRecDepth 100000 in
theorem Own.rbT {w : World} {B : Nat} {v : Value} {l : List Int} (h : Own w B 5 v l) (hy : Bys l) : RbT w v l := by
  refine ⟨h.rb hy, fun hl => ?_⟩
  rcases h.form with ⟨_, h0⟩ | ⟨g, cap, cur, rfl, _, hx, _⟩
  · exact absurd h0 hl
  · exact ⟨g, 0, _, _, cur, _, rfl, hx⟩
set_option maxRecDepth 100000 in
theorem rbT_frozen (w : World) (l : List Int) (hl : l.length ≤ 1000) (hy : Bys l) (cells : Array Value) (hc : cells = (byteVals l).toArray) (fr : Nat × Nat) : RbT (w.alloc (.cells cells 5 fr)) (.slice (some ⟨w.heap.size, 0, none⟩) l.length l.length) l := by
  subst hc
  have hg : (w.alloc (.cells (byteVals l).toArray 5 fr)).heap[w.heap.size]? = some (.cells (byteVals l).toArray 5 fr) := heap_alloc_new w _
  refine ⟨⟨⟨_, _, rfl, Nat.le_refl _, (fun h => by cases h), fun _ => ⟨w.heap.size, 0, rfl, by simp, by simp, fun i hi => ?_⟩⟩, hy, by unfold maxLen; omega⟩, fun _ => ⟨_, _, _, _, _, _, rfl, hg⟩⟩
  rw [cell_of_row _ _ _ _ _ _ hg, Nat.zero_add]
  simp [byteVals, List.getD_eq_getElem?_getD, hi]
/-- A row of bytes: the call's own, or full, in a block of bytes. -/
def RbF (w : World) (B : Nat) (v : Value) (l : List Int) : Prop := Bys l ∧ (Own w B 5 v l ∨ (RbT w v l ∧ l ≠ [] ∧ ∃ A, v = .slice A l.length l.length))
section
set_option maxRecDepth 100000
variable {w : World} {B : Nat} {v : Value} {l : List Int}
theorem RbF.rbT (h : RbF w B v l) : RbT w v l := by
  obtain ⟨hy, h | h⟩ := h
  · exact h.rbT hy
  · exact h.1
set_option maxRecDepth 100000 in
theorem RbF.keeps {ts : List Nat} {w' : World} (h : RbF w B v l) (hk : Keeps ts w w') (hu : 5 ∈ ts) : RbF w' B v l := by
  obtain ⟨hy, h | ⟨h, h2⟩⟩ := h
  · exact ⟨hy, .inl (h.keeps hk hu)⟩
  · exact ⟨hy, .inr ⟨h.keeps hk hu, h2⟩⟩
theorem RbF.less {B' : Nat} (h : RbF w B v l) (hB : B' ≤ B) : RbF w B' v l := by
  obtain ⟨hy, h | h⟩ := h
  · exact ⟨hy, .inl (h.less hB)⟩
  · exact ⟨hy, .inr h⟩
end
def ScrP (l : List Int) (w : World) (e : Ending) (w' : World) : Prop := ∃ v, e = .returned v ∧ RbF w' w.heap.size v l ∧ Below w.heap.size w w'
def scriptOf (n : Int) : List Int :=
  if n % 8 = 0 then [81, 2, 78, 115]
  else if n % 8 = 1 ∨ n % 8 = 2 then [0, 20] ++ zeros 20
  else if n % 8 = 3 then [0, 32] ++ zeros 32
  else if n % 8 = 4 ∨ n % 8 = 5 then [81, 32, n / 8 % 256] ++ zeros 31
  else if n % 8 = 6 then [106] ++ zeros (n / 8 % 32).toNat
  else [n / 8 % 256]
theorem scriptOf_len (n : Int) : (scriptOf n).length ≤ 34 := by
  unfold scriptOf zeros
  repeat' split
  all_goals simp
  omega
theorem scriptOf_bys (n : Int) : Bys (scriptOf n) := by
  unfold scriptOf
  repeat' split
  · unfold Bys; decide
  · exact Bys.app (by unfold Bys; decide) (zeros_bys _)
  · exact Bys.app (by unfold Bys; decide) (zeros_bys _)
  · refine Bys.app (fun x hx => ?_) (zeros_bys _)
    simp only [List.mem_cons, List.not_mem_nil, or_false] at hx
    rcases hx with rfl | rfl | rfl <;> omega
  · exact Bys.app (by unfold Bys; decide) (zeros_bys _)
  · intro x hx
    rw [List.mem_singleton.1 hx]
    omega
set_option maxRecDepth 100000 in
theorem own_lit (w : World) (l : List Int) (hl : l.length ≤ 1000) (cells : Array Value) (hc : cells = (byteVals l).toArray) : Own (w.alloc (.cells cells 5)) w.heap.size 5 (.slice (some ⟨w.heap.size, 0, none⟩) l.length l.length) l := by
  subst hc
  refine ⟨by simp [byteVals], .inr ⟨w.heap.size, l.length, _, rfl, Nat.le_refl _, Box.fresh w _ _, Nat.le_refl _, by unfold maxLen; omega, by simp [byteVals], ?_⟩⟩
  rw [List.take_of_length_le (by simp [byteVals])]

set_option maxRecDepth 100000 in
set_option maxHeartbeats 4000000 in
theorem script_any (w : World) (n : Int) (hn : -9223372036854775808 ≤ n ∧ n ≤ 9223372036854775807) : Calls Try.prog 16 #[.int .i64 n] w (ScrP (scriptOf n) w) := by
  have HY := Kp.mk (scriptOf_bys n)
  have hq : bits BinOp.and IntKind.i64 n 7 = n % 8 := and_mask n 3 (by omega)
  have hz : bits BinOp.and IntKind.i64 (n / 8) 31 = n / 8 % 32 := and_mask (n / 8) 5 (by omega)
  have hw3 : IntKind.i64.wrap (n / 8) = n / 8 := by rw [IntKind.wrap_i64]; omega
  have hx : IntKind.u8.wrap (n / 8) = n / 8 % 256 := by simp [IntKind.wrap, IntKind.bits, IntKind.signed]
  obtain ⟨q, hq2⟩ : ∃ q, n / 8 = q := ⟨_, rfl⟩
  obtain ⟨x, hx2⟩ : ∃ x, q % 256 = x := ⟨_, rfl⟩
  obtain ⟨z, hz2⟩ : ∃ z : Nat, q % 32 = (z : Int) := ⟨(q % 32).toNat, by omega⟩
  have hz31 : z ≤ 31 := by omega
  have hb0 : Below w.heap.size w w := Below.refl _ _
  have HS : Kp (scriptOf n = if n % 8 = 0 then [81, 2, 78, 115] else if n % 8 = 1 ∨ n % 8 = 2 then [0, 20] ++ zeros 20 else if n % 8 = 3 then [0, 32] ++ zeros 32 else if n % 8 = 4 ∨ n % 8 = 5 then [81, 32, x] ++ zeros 31 else if n % 8 = 6 then [106] ++ zeros z else [x]) := ⟨by
    unfold scriptOf
    rw [hq2, hx2, hz2]
    simp⟩
  rw [hq2] at hz hw3 hx
  rw [hx2] at hx
  rw [hz2] at hz
  have hm : n % 8 = 0 ∨ n % 8 = 1 ∨ n % 8 = 2 ∨ n % 8 = 3 ∨ n % 8 = 4 ∨ n % 8 = 5 ∨ n % 8 = 6 ∨ n % 8 = 7 := by omega
  rcases hm with h | h | h | h | h | h | h | h
  · rw [h] at hq HS
    have HE : Kp (scriptOf n = [81, 2, 78, 115]) := ⟨by rw [HS.out]; simp⟩
    clear h HS
    have kc := fun (w : World) (C : Array Value) (n c : Nat) => Lib.run_convert_bytes_const (P := Try.prog) w 55 5 C n c Try.underlying55 Try.underlying5
    go_enter Try.func16, Try.ntmps16
    go_wp2
    go_ret
    exact ⟨_, rfl, by have hy := HY.out; rw [HE.out] at hy ⊢; exact ⟨hy, .inr ⟨rbT_frozen w [81, 2, 78, 115] (by simp) hy _ rfl _, by simp, _, rfl⟩⟩, hb0.alloc (Nat.le_refl _) _⟩
  · rw [h] at hq HS
    have HE : Kp (scriptOf n = [0, 20] ++ zeros 20) := ⟨by rw [HS.out]; simp⟩
    clear h HS
    go_enter Try.func16, Try.ntmps16
    go_wp2_with (at_builtin; refine wpList_append_zeros rfl (.tmp 12) (.const (.int .i64 20)) rfl 2 [0, 20] rfl rfl _ rfl 20 rfl (by omega) (by omega) ?_)
    intro v1 w1 ho1 hb1
    have HO := Kp.mk ho1
    have HB := Kp.mk hb1
    obtain ⟨A, c, rfl⟩ := ho1.slice
    clear ho1 hb1
    go_wp2
    go_ret
    exact ⟨_, rfl, by have hy := HY.out; rw [HE.out] at hy ⊢; exact ⟨hy, .inl HO.out⟩, HB.out⟩
  · rw [h] at hq HS
    have HE : Kp (scriptOf n = [0, 20] ++ zeros 20) := ⟨by rw [HS.out]; simp⟩
    clear h HS
    go_enter Try.func16, Try.ntmps16
    go_wp2_with (at_builtin; refine wpList_append_zeros rfl (.tmp 12) (.const (.int .i64 20)) rfl 2 [0, 20] rfl rfl _ rfl 20 rfl (by omega) (by omega) ?_)
    intro v1 w1 ho1 hb1
    have HO := Kp.mk ho1
    have HB := Kp.mk hb1
    obtain ⟨A, c, rfl⟩ := ho1.slice
    clear ho1 hb1
    go_wp2
    go_ret
    exact ⟨_, rfl, by have hy := HY.out; rw [HE.out] at hy ⊢; exact ⟨hy, .inl HO.out⟩, HB.out⟩
  · rw [h] at hq HS
    have HE : Kp (scriptOf n = [0, 32] ++ zeros 32) := ⟨by rw [HS.out]; simp⟩
    clear h HS
    go_enter Try.func16, Try.ntmps16
    go_wp2_with (at_builtin; refine wpList_append_zeros rfl (.tmp 16) (.const (.int .i64 32)) rfl 2 [0, 32] rfl rfl _ rfl 32 rfl (by omega) (by omega) ?_)
    intro v1 w1 ho1 hb1
    have HO := Kp.mk ho1
    have HB := Kp.mk hb1
    obtain ⟨A, c, rfl⟩ := ho1.slice
    clear ho1 hb1
    go_wp2
    go_ret
    exact ⟨_, rfl, by have hy := HY.out; rw [HE.out] at hy ⊢; exact ⟨hy, .inl HO.out⟩, HB.out⟩
  · rw [h] at hq HS
    have HE : Kp (scriptOf n = [81, 32, x] ++ zeros 31) := ⟨by rw [HS.out]; simp⟩
    clear h HS
    go_enter Try.func16, Try.ntmps16
    go_wp2_with (at_builtin; refine wpList_append_zeros rfl (.tmp 24) (.const (.int .i64 31)) rfl 3 [81, 32, x] rfl rfl _ rfl 31 rfl (by omega) (by omega) ?_)
    intro v1 w1 ho1 hb1
    have HO := Kp.mk ho1
    have HB := Kp.mk hb1
    obtain ⟨A, c, rfl⟩ := ho1.slice
    clear ho1 hb1
    go_wp2
    go_ret
    exact ⟨_, rfl, by have hy := HY.out; rw [HE.out] at hy ⊢; exact ⟨hy, .inl HO.out⟩, HB.out⟩
  · rw [h] at hq HS
    have HE : Kp (scriptOf n = [81, 32, x] ++ zeros 31) := ⟨by rw [HS.out]; simp⟩
    clear h HS
    go_enter Try.func16, Try.ntmps16
    go_wp2_with (at_builtin; refine wpList_append_zeros rfl (.tmp 24) (.const (.int .i64 31)) rfl 3 [81, 32, x] rfl rfl _ rfl 31 rfl (by omega) (by omega) ?_)
    intro v1 w1 ho1 hb1
    have HO := Kp.mk ho1
    have HB := Kp.mk hb1
    obtain ⟨A, c, rfl⟩ := ho1.slice
    clear ho1 hb1
    go_wp2
    go_ret
    exact ⟨_, rfl, by have hy := HY.out; rw [HE.out] at hy ⊢; exact ⟨hy, .inl HO.out⟩, HB.out⟩
  · rw [h] at hq HS
    have HE : Kp (scriptOf n = [106] ++ zeros z) := ⟨by rw [HS.out]; simp⟩
    clear h HS
    go_enter Try.func16, Try.ntmps16
    go_wp2_with (at_builtin; refine wpList_append_zeros rfl (.tmp 28) (.tmp 31) rfl 1 [106] rfl rfl _ rfl z rfl (by omega) (by omega) ?_)
    intro v1 w1 ho1 hb1
    have HO := Kp.mk ho1
    have HB := Kp.mk hb1
    obtain ⟨A, c, rfl⟩ := ho1.slice
    clear ho1 hb1
    go_wp2
    go_ret
    exact ⟨_, rfl, by have hy := HY.out; rw [HE.out] at hy ⊢; exact ⟨hy, .inl HO.out⟩, HB.out⟩
  · rw [h] at hq HS
    have HE : Kp (scriptOf n = [x]) := ⟨by rw [HS.out]; simp⟩
    clear h HS
    go_enter Try.func16, Try.ntmps16
    go_wp2
    go_ret
    exact ⟨_, rfl, by have hy := HY.out; rw [HE.out] at hy ⊢; exact ⟨hy, .inl (own_lit w [x] (by simp) _ rfl)⟩, hb0.alloc (Nat.le_refl _) _⟩
end

end Go.Proofs.Ytdemamipllfonaa
