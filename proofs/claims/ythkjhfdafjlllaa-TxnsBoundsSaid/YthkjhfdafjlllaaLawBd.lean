/- A transaction may be with as many inputs, outputs, bytes of a script, and witnesses, as may be, and not with one more: for every five ints, the law TxnsBounds returns true and leaves its arguments as they were. No further condition. -/
import Derived.Test.YthkjhfdafjlllaaAwC
import Derived.Test.YthkjhfdafjlllaaBdA
import Derived.Test.YthkjhfdafjlllaaClose
import Derived.Deep.RegionHeld3
import Derived.Deep.CutBlock
namespace Go.Proofs.Ythkjhfdafjlllaa.lawBd
open Go.ChangeShapes Go.WideShapes Go.ChangeAt Go.RowKit

set_option linter.unusedSimpArgs false in
set_option maxRecDepth 10000000 in
set_option maxHeartbeats 8000000 in
theorem walk (i0 i1 i2 i3 i4 : Int) (w : World) :
    Calls Try.prog 3 #[.int .i64 i0, .int .i64 i1, .int .i64 i2, .int .i64 i3, .int .i64 i4] w (YesPost w) := by
  obtain ⟨t1, hi1, hz1, hs1, hb1⟩ := info_parts3 infoInZ
  obtain ⟨t2, hi2, hz2, hs2, hb2⟩ := info_parts3 infoOutZ
  obtain ⟨t3, hi3, hz3, hs3, hb3⟩ := info_parts3 infoRow
  have HAW : Kp (∀ W : World, Calls Try.prog 14 #[] W (YesPost W)) := ⟨awake3_any⟩
  obtain ⟨a, ha, ha63⟩ : ∃ a : Nat, bits BinOp.and IntKind.i64 i0 63 = (a : Int) ∧ a ≤ 63 := ⟨(i0 % 64).toNat, by rw [show bits BinOp.and IntKind.i64 i0 63 = i0 % 64 from and_mask i0 6 (by omega)]; omega, by omega⟩
  obtain ⟨b, hb, hb63⟩ : ∃ b : Nat, bits BinOp.and IntKind.i64 i1 63 = (b : Int) ∧ b ≤ 63 := ⟨(i1 % 64).toNat, by rw [show bits BinOp.and IntKind.i64 i1 63 = i1 % 64 from and_mask i1 6 (by omega)]; omega, by omega⟩
  obtain ⟨s, hs, hs10⟩ : ∃ s : Nat, bits BinOp.and IntKind.i64 i2 1023 = (s : Int) ∧ s ≤ 1023 := ⟨(i2 % 1024).toNat, by rw [show bits BinOp.and IntKind.i64 i2 1023 = i2 % 1024 from and_mask i2 10 (by omega)]; omega, by omega⟩
  obtain ⟨k, hk, hk15⟩ : ∃ k : Nat, bits BinOp.and IntKind.i64 i3 15 = (k : Int) ∧ k ≤ 15 := ⟨(i3 % 16).toNat, by rw [show bits BinOp.and IntKind.i64 i3 15 = i3 % 16 from and_mask i3 4 (by omega)]; omega, by omega⟩
  obtain ⟨x, hx, hx10⟩ : ∃ x : Nat, bits BinOp.and IntKind.i64 i4 1023 = (x : Int) ∧ x ≤ 1023 := ⟨(i4 % 1024).toNat, by rw [show bits BinOp.and IntKind.i64 i4 1023 = i4 % 1024 from and_mask i4 10 (by omega)]; omega, by omega⟩
  have HX0 : Kp (Box (w.alloc (.cells #[.int .u32 2, .slice none 0 0, .slice none 0 0, .int .u32 0] 26)) w.heap.size 26 #[.int .u32 2, .slice none 0 0, .slice none 0 0, .int .u32 0] ∧ Below w.heap.size w (w.alloc (.cells #[.int .u32 2, .slice none 0 0, .slice none 0 0, .int .u32 0] 26))) := ⟨Box.fresh _ _ _, (Below.refl _ _).alloc (Nat.le_refl _) _⟩
  go_enter Try.func3, Try.ntmps3
  go_wp2
  go_loopw [12] (fun i wr => ∃ (j : Nat) (iv : Value), j ≤ a ∧ i = .int .i64 j ∧ Kp (OwnMany 36 31 (RI 0 (.slice none 0 0) (.slice none 0 0)) wr w.heap.size (iv) (List.range j) ∧ Box wr w.heap.size 26 #[.int .u32 2, iv, .slice none 0 0, .int .u32 0] ∧ Below w.heap.size w wr)) (fun i _ => a - (intOf i).toNat)
  case atStart => exact ⟨0, _, Nat.zero_le _, rfl, ⟨OwnMany.nil _ _ _ _ _, HX0.out.1, HX0.out.2⟩⟩
  case round =>
    obtain ⟨j, iv, hj, rfl, ⟨hown, hx, hbl⟩⟩ := hrel
    obtain ⟨Ai, ci, he⟩ := hown.slice
    rw [List.length_range] at he
    subst he
    by_cases hja : j < a
    · have HOWN := Kp.mk hown
      have HX := Kp.mk hx
      have HBL := Kp.mk hbl
      have c1 := hx.cell 1
      have hja1 : (j : Int) < (a : Int) := by omega
      have HJ : Kp (j < a) := ⟨hja⟩
      have hw : IntKind.u32.wrap (j : Int) = (j : Int) := by simp [IntKind.wrap, IntKind.bits, IntKind.signed]; omega
      clear hown hx hbl hja hj
      go_wp2_with (at_builtin; refine wpList_append_many (R := fun _ => RI 0 (.slice none 0 0) (.slice none 0 0)) rfl (.tmp 36) (.tmp 40) 23 rfl w.heap.size t1 _ 96 Try.underlying23 hi1 hz1 hs1 hb1 rfl (by decide) _ (List.range j) rfl ?a1 wr.heap.size 1 (inCells (inX j) (.slice none 0 0) (.slice none 0 0)) j rfl ?b1 rfl ?c1 ?d1 ?e1 (by decide) ?f1 [5, 28, 26, 34] (by decide) ?g1 ?_)
      case a1 => exact OwnMany.turn HOWN.out (Keeps.of_below [31] ((Below.refl _ _).alloc (Nat.le_refl _) _)) (by decide) (Nat.le_refl _) (fun _ _ h => h)
      case b1 => exact Box.fresh _ _ _
      case c1 => unfold RI; rw [if_neg (by omega)]; split <;> rfl
      case d1 => exact inCells_one _ _ _ rfl rfl
      case e1 => rw [List.length_range]; have := HJ.out; omega
      case f1 => rw [alloc_size]; have := HBL.out.size; omega
      case g1 => exact fun _ _ _ _ h => h
      intro v6 w6 hm6 hg6 hk6
      rw [← List.range_succ] at hm6
      obtain ⟨A6, k6, he6⟩ := hm6.slice
      rw [List.length_range] at he6
      subst he6
      have hx6 := Keeps.box hk6 (by decide) (HX.out.below ((Below.refl _ _).alloc (Nat.le_refl _) (.cells (inCells (inX j) (.slice none 0 0) (.slice none 0 0)).toArray 31)))
      have c6 := hx6.cell 1
      have f6 := hx6.warm 1
      have hk7 : Keeps [31] w6 (w6.setCell ⟨w.heap.size, 1, none⟩ (.slice A6 (j + 1) k6)) := Keeps.of_set hx6 (by decide) 1 _
      have HEND : Kp (OwnMany 36 31 (RI 0 (.slice none 0 0) (.slice none 0 0)) (w6.setCell ⟨w.heap.size, 1, none⟩ (.slice A6 (j + 1) k6)) w.heap.size (.slice A6 (j + 1) k6) (List.range (j + 1)) ∧ Box (w6.setCell ⟨w.heap.size, 1, none⟩ (.slice A6 (j + 1) k6)) w.heap.size 26 #[.int .u32 2, .slice A6 (j + 1) k6, .slice none 0 0, .int .u32 0] ∧ Below w.heap.size w (w6.setCell ⟨w.heap.size, 1, none⟩ (.slice A6 (j + 1) k6))) := ⟨by
        refine ⟨OwnMany.turn hm6 hk7 (by decide) (Nat.le_refl _) (fun _ _ h => h), hx6.set 1 _, ?_⟩
        obtain ⟨css, hrow, _⟩ := HOWN.out
        have hbA : Below w.heap.size w (wr.alloc (.cells (inCells (inX j) (.slice none 0 0) (.slice none 0 0)).toArray 31)) := HBL.out.alloc HBL.out.size _
        refine Below.setCell (hbA.trans ?_) (by show w.heap.size ≤ w.heap.size; omega) _
        exact (Below.refl _ _).grown hg6 hbA.size (fun q hq => (World.ownsRow.lt hrow q hq).1)⟩
      clear hk7 hm6 hg6 hk6 hx6 c1
      go_wp2
      exact ⟨⟨j + 1, _, by have := HJ.out; omega, by go_num, HEND⟩, by simp [intOf]; have := HJ.out; omega⟩
    · obtain rfl : j = a := by omega
      have HINS := Kp.mk hown
      have HX1 := Kp.mk hx
      have HB1 := Kp.mk hbl
      clear hown hx hbl hja hj HX0
      obtain ⟨w1, hw1⟩ : ∃ W : World, W = wr := ⟨_, rfl⟩
      subst hw1
      go_wp2
      go_loopw [13] (fun i wr => ∃ (q : Nat) (ov : Value), q ≤ b ∧ i = .int .i64 q ∧ Kp (OwnMany 2 34 (RO (.slice none 0 0)) wr w.heap.size (ov) (List.range q) ∧ OwnMany 36 31 (RI 0 (.slice none 0 0) (.slice none 0 0)) wr w.heap.size (.slice Ai j ci) (List.range j) ∧ Box wr w.heap.size 26 #[.int .u32 2, .slice Ai j ci, ov, .int .u32 0] ∧ Below w.heap.size w wr)) (fun i _ => b - (intOf i).toNat)
      case atStart => exact ⟨0, _, Nat.zero_le _, rfl, ⟨OwnMany.nil _ _ _ _ _, HINS.out, HX1.out, HB1.out⟩⟩
      case round =>
        obtain ⟨q, ov, hq, rfl, ⟨houts, hown, hx, hbl⟩⟩ := hrel
        obtain ⟨Ao, co, he⟩ := houts.slice
        rw [List.length_range] at he
        subst he
        by_cases hqb : q < b
        · have HOUTS := Kp.mk houts
          have HOWN := Kp.mk hown
          have HX := Kp.mk hx
          have HBL := Kp.mk hbl
          have c2 := hx.cell 2
          have hqb1 : (q : Int) < (b : Int) := by omega
          have HJ : Kp (q < b) := ⟨hqb⟩
          clear houts hown hx hbl hqb hq
          go_wp2_with (at_builtin; refine wpList_append_many (R := fun _ => RO (.slice none 0 0)) rfl (.tmp 49) (.tmp 51) 24 rfl w.heap.size t2 _ 32 Try.underlying24 hi2 hz2 hs2 hb2 rfl (by decide) _ (List.range q) rfl ?a1 wr.heap.size 1 [.int .u64 0, .slice none 0 0] q rfl ?b1 rfl ?c1 ?d1 ?e1 (by decide) ?f1 [5, 28, 26, 31] (by decide) ?g1 ?_)
          case a1 => exact OwnMany.turn HOUTS.out (Keeps.of_below [34] ((Below.refl _ _).alloc (Nat.le_refl _) _)) (by decide) (Nat.le_refl _) (fun _ _ h => h)
          case b1 => exact Box.fresh _ _ _
          case c1 => unfold RO; split <;> rfl
          case d1 => intro u hu; simp only [List.mem_cons, List.not_mem_nil, or_false] at hu; rcases hu with rfl | rfl <;> rfl
          case e1 => rw [List.length_range]; have := HJ.out; omega
          case f1 => rw [alloc_size]; have := HBL.out.size; omega
          case g1 => exact fun _ _ _ _ h => h
          intro v6 w6 hm6 hg6 hk6
          rw [← List.range_succ] at hm6
          obtain ⟨A6, k6, he6⟩ := hm6.slice
          rw [List.length_range] at he6
          subst he6
          have hbz : Below wr.heap.size wr (wr.alloc (.cells #[.int .u64 0, .slice none 0 0] 34)) := (Below.refl _ _).alloc (Nat.le_refl _) _
          have hx6 := Keeps.box hk6 (by decide) (HX.out.below hbz)
          have c6 := hx6.cell 2
          have f6 := hx6.warm 2
          have hk7 : Keeps [31, 34] w6 (w6.setCell ⟨w.heap.size, 2, none⟩ (.slice A6 (q + 1) k6)) := Keeps.of_set hx6 (by decide) 2 _
          have HEND : Kp (OwnMany 2 34 (RO (.slice none 0 0)) (w6.setCell ⟨w.heap.size, 2, none⟩ (.slice A6 (q + 1) k6)) w.heap.size (.slice A6 (q + 1) k6) (List.range (q + 1)) ∧ OwnMany 36 31 (RI 0 (.slice none 0 0) (.slice none 0 0)) (w6.setCell ⟨w.heap.size, 2, none⟩ (.slice A6 (q + 1) k6)) w.heap.size (.slice Ai j ci) (List.range j) ∧ Box (w6.setCell ⟨w.heap.size, 2, none⟩ (.slice A6 (q + 1) k6)) w.heap.size 26 #[.int .u32 2, .slice Ai j ci, .slice A6 (q + 1) k6, .int .u32 0] ∧ Below w.heap.size w (w6.setCell ⟨w.heap.size, 2, none⟩ (.slice A6 (q + 1) k6))) := ⟨by
            have hki : Keeps [31] wr (w6.setCell ⟨w.heap.size, 2, none⟩ (.slice A6 (q + 1) k6)) := (Keeps.of_below _ hbz).trans ((hk6.sub (by decide)).trans (hk7.sub (by decide)))
            refine ⟨OwnMany.turn hm6 hk7 (by decide) (Nat.le_refl _) (fun _ _ h => h), OwnMany.turn HOWN.out hki (by decide) (Nat.le_refl _) (fun _ _ h => h), hx6.set 2 _, ?_⟩
            obtain ⟨css, hrow, _⟩ := HOUTS.out
            have hbA : Below w.heap.size w (wr.alloc (.cells #[.int .u64 0, .slice none 0 0] 34)) := HBL.out.alloc HBL.out.size _
            refine Below.setCell (hbA.trans ?_) (by show w.heap.size ≤ w.heap.size; omega) _
            exact (Below.refl _ _).grown hg6 hbA.size (fun q hq => (World.ownsRow.lt hrow q hq).1)⟩
          clear hk7 hm6 hg6 hk6 hx6 c2
          go_wp2
          exact ⟨⟨q + 1, _, by have := HJ.out; omega, by go_num, HEND⟩, by simp [intOf]; have := HJ.out; omega⟩
        · have hqe : q = b := by omega
          subst hqe
          obtain ⟨w2, hw2⟩ : ∃ W : World, W = wr := ⟨_, rfl⟩
          subst hw2
          have HST : Kp (OwnMany 36 31 (RI j (.slice none 0 0) (.slice none 0 0)) w2 w.heap.size (.slice Ai j ci) (List.range j) ∧ OwnMany 2 34 (RO (.slice none 0 0)) w2 w.heap.size (.slice Ao q co) (List.range q) ∧ Box w2 w.heap.size 26 #[.int .u32 2, .slice Ai j ci, .slice Ao q co, .int .u32 0] ∧ Below w.heap.size w w2) := ⟨⟨OwnMany.turn hown (Keeps.refl [31] _) (by decide) (Nat.le_refl _) (fun cs i h => by unfold RI at h ⊢; rw [ite_self] at h ⊢; exact h), houts, hx, hbl⟩⟩
          clear houts hown hx hbl hqb hq HINS HX1 HB1
          go_upto_region 11 with fail
          go_cut [14] (fun v wx => v = .bool (decide (1 ≤ j ∧ j ≤ 50 ∧ 1 ≤ q ∧ q ≤ 50)) ∧ wx = w2)
          case first =>
            by_cases h1 : 1 ≤ j
            · have g1 : (1 : Int) ≤ (j : Int) := by omega
              have g1' : 0 < j := h1
              have k1 : decide (1 ≤ j) = true := decide_eq_true h1
              by_cases h2 : j ≤ 50
              · have g2 : (j : Int) ≤ 50 := by omega
                by_cases h3 : 1 ≤ q
                · have g3 : (1 : Int) ≤ (q : Int) := by omega
                  have g3' : 0 < q := h3
                  by_cases h4 : q ≤ 50
                  · have g4 : (q : Int) ≤ 50 := by omega
                    have HE : Kp (decide (1 ≤ j ∧ j ≤ 50 ∧ 1 ≤ q ∧ q ≤ 50) = true) := ⟨decide_eq_true ⟨h1, h2, h3, h4⟩⟩
                    go_wp2
                    go_meet
                    exact ⟨by rw [HE.out], rfl⟩
                  · have g4 : ¬ (q : Int) ≤ 50 := by omega
                    have g4' : 50 < q := by omega
                    have HE : Kp (decide (1 ≤ j ∧ j ≤ 50 ∧ 1 ≤ q ∧ q ≤ 50) = false) := ⟨decide_eq_false fun h => h4 h.2.2.2⟩
                    go_wp2
                    go_meet
                    exact ⟨by rw [HE.out], rfl⟩
                · have g3 : ¬ (1 : Int) ≤ (q : Int) := by omega
                  have g3' : ¬ 1 ≤ q := h3
                  have g3'' : ¬ 0 < q := h3
                  have g3d : decide (0 < q) = false := decide_eq_false h3
                  have HE : Kp (decide (1 ≤ j ∧ j ≤ 50 ∧ 1 ≤ q ∧ q ≤ 50) = false) := ⟨decide_eq_false fun h => h3 h.2.2.1⟩
                  go_wp2
                  go_meet
                  exact ⟨by rw [HE.out], rfl⟩
              · have g2 : ¬ (j : Int) ≤ 50 := by omega
                have g2' : 50 < j := by omega
                have HE : Kp (decide (1 ≤ j ∧ j ≤ 50 ∧ 1 ≤ q ∧ q ≤ 50) = false) := ⟨decide_eq_false fun h => h2 h.2.1⟩
                go_wp2
                go_meet
                exact ⟨by rw [HE.out], rfl⟩
            · have g1 : ¬ (1 : Int) ≤ (j : Int) := by omega
              have g1' : ¬ 1 ≤ j := h1
              have g1'' : ¬ 0 < j := h1
              have g1d : decide (0 < j) = false := decide_eq_false h1
              have HE : Kp (decide (1 ≤ j ∧ j ≤ 50 ∧ 1 ≤ q ∧ q ≤ 50) = false) := ⟨decide_eq_false fun h => h1 h.1⟩
              go_wp2
              go_meet
              exact ⟨by rw [HE.out], rfl⟩
          case rest =>
            obtain ⟨rfl, rfl⟩ := hcut
            obtain ⟨w2, rfl⟩ : ∃ W : World, W = wc := ⟨_, rfl⟩
            obtain ⟨G1, hG1⟩ : ∃ g, decide (1 ≤ j ∧ j ≤ 50 ∧ 1 ≤ q ∧ q ≤ 50) = g := ⟨_, rfl⟩
            rw [hG1]
            have HG1 := Kp.mk hG1
            clear hG1
            go_upto_if 69 with fail
            go_cut [14] (fun v wx => v = .bool (goodB j q s k x) ∧ ∃ (SV V : Value), Kp (OwnMany 36 31 (RI j SV V) wx w.heap.size (.slice Ai j ci) (List.range j) ∧ OwnMany 2 34 (RO (.slice none 0 0)) wx w.heap.size (.slice Ao q co) (List.range q) ∧ Box wx w.heap.size 26 #[.int .u32 2, .slice Ai j ci, .slice Ao q co, .int .u32 0] ∧ Below w.heap.size w wx ∧ (0 < j → Own wx w.heap.size 5 SV (zeros s) ∧ OwnRows wx w.heap.size V (List.replicate k (zeros x)))))
            case first =>
              rcases Nat.eq_zero_or_pos j with hj0 | hj0
              · have g1 : ¬ 1 ≤ j := by omega
                have g1b : ¬ 0 < j := by omega
                have g1d : decide (0 < j) = false := decide_eq_false g1b
                have g1i : ¬ (0 : Int) < (j : Int) := by omega
                have HE : Kp (G1 = goodB j q s k x) := ⟨by rw [← HG1.out]; unfold goodB; rw [decide_eq_false (fun h => g1 h.1), decide_eq_false (fun h => g1 h.1)]⟩
                clear hj0
                go_wp2
                go_meet
                exact ⟨by rw [HE.out], _, _, ⟨HST.out.1, HST.out.2.1, HST.out.2.2.1, HST.out.2.2.2, fun h => absurd h g1b⟩⟩
              · have g1 : (1 : Int) ≤ (j : Int) := by omega
                have g1b : (0 : Int) < (j : Int) := by omega
                obtain ⟨hI0, hO0, hX0, hB0⟩ := HST.out
                obtain ⟨gi, ci2, he2, _, hgiB, hgi2, Ci, hxi⟩ := hI0.box (by rw [List.length_range]; exact hj0)
                rw [List.length_range] at he2
                injection he2 with he3 he4 he5
                subst he3
                subst he5
                obtain ⟨p, hp⟩ : ∃ p, j - 1 = p := ⟨_, rfl⟩
                have hpj : p < j := by omega
                have hpj1 : (p : Int) < (j : Int) := by omega
                have hw : IntKind.i64.wrap ((j : Int) - 1) = (p : Int) := by rw [IntKind.wrap_i64]; omega
                obtain ⟨ZS, hZS⟩ : ∃ Z, (byteVals (zeros s)).toArray = Z := ⟨_, rfl⟩
                have hmk := make_zeros (n := s) (by omega)
                rw [hZS] at hmk
                have hbs : Below w2.heap.size w2 (w2.alloc (.cells ZS 5)).drew := ((Below.refl _ _).alloc (Nat.le_refl _) _).drew
                have hxs : Box (w2.alloc (.cells ZS 5)).drew w2.heap.size 5 ZS := heap_alloc_new w2 _
                have hIs : OwnMany 36 31 (RI j ((.slice none 0 0)) ((.slice none 0 0))) (w2.alloc (.cells ZS 5)).drew w.heap.size (.slice (some ⟨gi, 0, none⟩) j ci) (List.range j) := OwnMany.turn hI0 (Keeps.of_below [31] hbs) (by decide) (Nat.le_refl _) (fun _ _ h => h)
                obtain ⟨cs, hcl, hri, hcc, hff⟩ := OwnMany.cell (i := p) (j := 33) (ds := List.range j) (by rw [List.length_range]; exact hIs) (by rw [List.length_range]; exact hpj) (by omega)
                rw [List.getElem_range] at hri
                have hri2 : cs = inCells (inX p) (if p + 1 = j then (.slice none 0 0) else .slice none 0 0) (if p = 0 then (.slice none 0 0) else .slice none 0 0) := hri
                rw [ite_self, ite_self] at hri2
                rw [hri2, inCells_script (inX_fit (by omega))] at hcc
                have HSA : Kp (∀ K, Keeps [26] w2 K → (fun W => W.cell? ⟨w.heap.size, 1, none⟩ = some (.slice (some ⟨gi, 0, none⟩) j ci)) K) := ⟨fun K hk => (Box.cell (Keeps.box hk (by decide) hX0) 1)⟩
                have HH := Kp.mk (And.intro hI0 (And.intro hO0 (And.intro hX0 hB0)))
                have HW := Kp.mk (And.intro hbs hxs)
                have HCC := Kp.mk (And.intro hcc hff)
                have HGI : Kp (w.heap.size ≤ gi ∧ gi < w2.heap.size) := ⟨hgiB, hgi2⟩
                have HXI := Kp.mk hxi
                have HGX : Kp (w.heap.size ≠ gi) := ⟨fun e => by have h1 : w2.heap[gi]? = some (.cells _ 31 (0, 0)) := hxi; have h2 : w2.heap[w.heap.size]? = some (.cells _ 26 (0, 0)) := hX0; rw [← e, h2] at h1; injection h1 with h1; injection h1 with _ h3; exact absurd h3 (by decide)⟩
                have HP : Kp (j - 1 = p) := ⟨hp⟩
                have HZS := Kp.mk hZS
                have HSS : Kp (∀ (K : World) (i : Nat) (u : Value), Keeps [26] w2 K → (fun W => W.cell? ⟨w.heap.size, 1, none⟩ = some (.slice (some ⟨gi, 0, none⟩) j ci)) (K.setCell ⟨gi, i, none⟩ u)) := ⟨fun K i u hk => (Box.cell ((Below.heap_setCell K _ _ w.heap.size (show w.heap.size ≠ gi by have := HGI.out; have := HGX.out; omega)).trans (Keeps.box hk (by decide) HH.out.2.2.1)) 1)⟩
                clear hI0 hO0 hX0 hB0 hbs hxs hIs hri hri2 hcl hxi hgiB hgi2 hcc hff hp hZS hj0
                go_upto_region 13 with fail
                refine wp_region_noPanic ?_
                refine wp_region_held_drew (S := (fun W => W.cell? ⟨w.heap.size, 1, none⟩ = some (.slice (some ⟨gi, 0, none⟩) j ci))) (by kernel_rfl) ?_ (fun hHeld => ?_)
                · exact HSA.out _ (Keeps.of_below _ (Below.refl w2.heap.size w2).drew)
                refine wpAnyH_take (i := 0) (oi := ⟨some 70, _, _, _, _, _⟩) (v := ?_) rfl (by kernel_rfl) (by kernel_rfl) (by kernel_rfl) (fun _ _ _ h => h) (Or.inl ⟨by rfl, ?_⟩) hHeld ?_
                rotate_left
                · (intro wx hSw; (try dsimp only at hSw); obtain s1 := hSw; go_simp; try with_reducible rfl)
                try simp only [Act.put, List.setIfInBounds_toArray, List.set_cons_zero, List.set_cons_succ]
                refine wpAnyH_take (i := 1) (oi := ⟨some 71, _, _, _, _, _⟩) (v := ?_) rfl (by kernel_rfl) (by kernel_rfl) (by kernel_rfl) (fun _ _ _ h => h) (Or.inl ⟨by rfl, ?_⟩) hHeld ?_
                rotate_left
                · (intro wx hSw; (try dsimp only at hSw); obtain s1 := hSw; go_simp; try with_reducible rfl)
                try simp only [Act.put, List.setIfInBounds_toArray, List.set_cons_zero, List.set_cons_succ]
                refine wpAnyH_take (i := 2) (oi := ⟨some 72, _, _, _, _, _⟩) (v := ?_) rfl (by kernel_rfl) (by kernel_rfl) (by kernel_rfl) (fun _ _ _ h => h) (Or.inl ⟨by rfl, ?_⟩) hHeld ?_
                rotate_left
                · (intro wx hSw; (try dsimp only at hSw); obtain s1 := hSw; go_simp; try with_reducible rfl)
                try simp only [Act.put, List.setIfInBounds_toArray, List.set_cons_zero, List.set_cons_succ]
                refine wpAnyH_take (i := 3) (oi := ⟨some 73, _, _, _, _, _⟩) (v := ?_) rfl (by kernel_rfl) (by kernel_rfl) (by kernel_rfl) (fun _ _ _ h => h) (Or.inl ⟨by rfl, ?_⟩) hHeld ?_
                rotate_left
                · (intro wx hSw; (try dsimp only at hSw); obtain s1 := hSw; go_simp; try with_reducible rfl)
                try simp only [Act.put, List.setIfInBounds_toArray, List.set_cons_zero, List.set_cons_succ]
                refine wpAnyH_take (i := 4) (oi := ⟨some 74, _, _, _, _, _⟩) (v := ?_) rfl (by kernel_rfl) (by kernel_rfl) (by kernel_rfl) (fun _ _ _ h => h) (Or.inl ⟨by rfl, ?_⟩) hHeld ?_
                rotate_left
                · (intro wx hSw; (try dsimp only at hSw); obtain s1 := hSw; go_simp; try with_reducible rfl)
                try simp only [Act.put, List.setIfInBounds_toArray, List.set_cons_zero, List.set_cons_succ]
                refine wpAnyH_ready (rs := [5]) (by kernel_rfl) (by simp) (AllReadyH.cons (o := ⟨some 75, _, _, _, _, _⟩) rfl (fun K hK => ?_) AllReadyH.nil)
                go_simp
                refine hK.out _ _ (HSA.out _ (Keeps.of_below _ HW.out.1)) (fun hHeld => ?_)
                clear hK K
                try simp only [Act.put, List.setIfInBounds_toArray, List.set_cons_zero, List.set_cons_succ]
                refine wpAnyH_take (i := 6) (oi := ⟨some 76, _, _, _, _, _⟩) (v := ?_) rfl (by kernel_rfl) (by kernel_rfl) (by kernel_rfl) (fun _ _ _ h => h) (Or.inl ⟨by rfl, ?_⟩) hHeld ?_
                rotate_left
                · (intro wx hSw; (try dsimp only at hSw); obtain s1 := hSw; go_simp; try with_reducible rfl)
                try simp only [Act.put, List.setIfInBounds_toArray, List.set_cons_zero, List.set_cons_succ]
                refine wpAnyH_take (i := 7) (oi := ⟨some 77, _, _, _, _, _⟩) (v := ?_) rfl (by kernel_rfl) (by kernel_rfl) (by kernel_rfl) (fun _ _ _ h => h) (Or.inl ⟨by rfl, ?_⟩) hHeld ?_
                rotate_left
                · (intro wx hSw; (try dsimp only at hSw); obtain s1 := hSw; go_simp; try with_reducible rfl)
                try simp only [Act.put, List.setIfInBounds_toArray, List.set_cons_zero, List.set_cons_succ]
                have ccx := HCC.out.1
                have ffx := HCC.out.2
                refine wpAnyH_ready (rs := [8]) (by kernel_rfl) (by simp) (AllReadyH.cons (o := ⟨none, _, _, _, _, _⟩) rfl (fun K hK => ?_) AllReadyH.nil)
                go_simp
                refine hK.out _ _ (HSS.out _ _ _ (Keeps.of_below _ (((Below.refl w2.heap.size w2).alloc (Nat.le_refl _) (.cells ZS 5))))) (fun hHeld => ?_)
                clear hK K
                try simp only [Act.put, List.setIfInBounds_toArray, List.set_cons_zero, List.set_cons_succ]
                refine wpAnyH_done (by kernel_rfl) ?_ _
                refine NoPanic.normal ?_
                have hka : Keeps [5, 28, 31, 34, 26] w2 (w2.alloc (.cells ZS 5)) := Keeps.of_below _ ((Below.refl _ _).alloc (Nat.le_refl _) _)
                have hkb : Keeps [5, 28, 34, 26] (w2.alloc (.cells ZS 5)) ((w2.alloc (.cells ZS 5)).setCell ⟨gi, p * 36 + 33, none⟩ (.slice (some ⟨w2.heap.size, 0, none⟩) s s)) := Keeps.of_set (Keeps.box hka (by decide) HXI.out) (by decide) _ _
                have hkd : Keeps [5, 28, 31, 34, 26] ((w2.alloc (.cells ZS 5)).setCell ⟨gi, p * 36 + 33, none⟩ (.slice (some ⟨w2.heap.size, 0, none⟩) s s)) ((w2.alloc (.cells ZS 5)).setCell ⟨gi, p * 36 + 33, none⟩ (.slice (some ⟨w2.heap.size, 0, none⟩) s s)).drew := Keeps.of_below _ (Below.refl _ _).drew
                have HST3 : Kp (OwnMany 36 31 (RI j ((.slice (some ⟨w2.heap.size, 0, none⟩) s s)) (.slice none 0 0)) ((w2.alloc (.cells ZS 5)).setCell ⟨gi, p * 36 + 33, none⟩ (.slice (some ⟨w2.heap.size, 0, none⟩) s s)).drew w.heap.size (.slice (some ⟨gi, 0, none⟩) j ci) (List.range j) ∧ OwnMany 2 34 (RO (.slice none 0 0)) ((w2.alloc (.cells ZS 5)).setCell ⟨gi, p * 36 + 33, none⟩ (.slice (some ⟨w2.heap.size, 0, none⟩) s s)).drew w.heap.size (.slice Ao q co) (List.range q) ∧ Box ((w2.alloc (.cells ZS 5)).setCell ⟨gi, p * 36 + 33, none⟩ (.slice (some ⟨w2.heap.size, 0, none⟩) s s)).drew w.heap.size 26 #[.int .u32 2, .slice (some ⟨gi, 0, none⟩) j ci, .slice Ao q co, .int .u32 0] ∧ Below w.heap.size w ((w2.alloc (.cells ZS 5)).setCell ⟨gi, p * 36 + 33, none⟩ (.slice (some ⟨w2.heap.size, 0, none⟩) s s)).drew ∧ Own ((w2.alloc (.cells ZS 5)).setCell ⟨gi, p * 36 + 33, none⟩ (.slice (some ⟨w2.heap.size, 0, none⟩) s s)).drew w.heap.size 5 (.slice (some ⟨w2.heap.size, 0, none⟩) s s) (zeros s) ∧ (∃ C, Box ((w2.alloc (.cells ZS 5)).setCell ⟨gi, p * 36 + 33, none⟩ (.slice (some ⟨w2.heap.size, 0, none⟩) s s)).drew gi 31 C) ∧ w.heap.size < gi ∧ gi < ((w2.alloc (.cells ZS 5)).setCell ⟨gi, p * 36 + 33, none⟩ (.slice (some ⟨w2.heap.size, 0, none⟩) s s)).drew.heap.size) := ⟨by
                  have h1 := ri_script (by omega) (OwnMany.turn HH.out.1 (hka.sub (ts := [31]) (by decide)) (by decide) (Nat.le_refl _) (fun _ _ h => h) : OwnMany 36 31 (RI j (.slice none 0 0) (.slice none 0 0)) (w2.alloc (.cells ZS 5)) w.heap.size (.slice (some ⟨gi, 0, none⟩) j ci) (List.range j)) (.slice (some ⟨w2.heap.size, 0, none⟩) s s)
                  rw [HP.out] at h1
                  have hbx := HW.out.2
                  rw [← HZS.out] at hbx
                  have hbx2 : Box (w2.alloc (.cells ZS 5)) w2.heap.size 5 (byteVals (zeros s)).toArray := by rw [HZS.out]; exact heap_alloc_new w2 _
                  have hb2 := HH.out.2.2.2
                  refine ⟨OwnMany.turn h1 hkd (by decide) (Nat.le_refl _) (fun _ _ h => h), OwnMany.turn HH.out.2.1 (Keeps.trans (hka.sub (ts := [34]) (by decide)) ((hkb.sub (by decide)).trans (hkd.sub (by decide)))) (by decide) (Nat.le_refl _) (fun _ _ h => h), ?_, ?_, ?_, ⟨_, Keeps.box (hkd.sub (ts := [31]) (by decide)) (by decide) (Box.set (Keeps.box hka (by decide) HXI.out) _ _)⟩, by have := HGI.out; have := HGX.out; omega, ?_⟩
                  · exact Keeps.box (Keeps.trans (hka.sub (ts := [26]) (by decide)) ((hkb.sub (by decide)).trans (hkd.sub (by decide)))) (by decide) HH.out.2.2.1
                  · exact ((hb2.alloc hb2.size _).setCell (show w.heap.size ≤ gi by have := HGI.out; omega) _).drew
                  · exact Own.keeps (own_made hbx2 hb2.size (by omega)) ((hkb.sub (ts := [5]) (by decide)).trans (hkd.sub (by decide))) (by decide)
                  · have h4 := hkd.1; have h5 := hkb.1; have h6 := hka.1; have := HGI.out; omega⟩
                obtain ⟨w3, hw3⟩ : ∃ W : World, ((w2.alloc (.cells ZS 5)).setCell ⟨gi, p * 36 + 33, none⟩ (.slice (some ⟨w2.heap.size, 0, none⟩) s s)).drew = W := ⟨_, rfl⟩
                rw [hw3] at HST3
                try rw [hw3]
                obtain ⟨SV, hSV⟩ : ∃ V : Value, (.slice (some ⟨w2.heap.size, 0, none⟩) s s) = V := ⟨_, rfl⟩
                rw [hSV] at HST3
                clear hw3 hka hkb hkd HSA HSS HW HCC hmk ccx ffx HXI HGI HGX hSV HP HZS hw hpj hpj1
                go_wp2_with fail
                go_loopw [15] (fun i wr => ∃ (n : Nat) (V : Value), n ≤ k ∧ i = .int .i64 n ∧ Kp (OwnMany 36 31 (RI j (SV) (V)) wr w.heap.size (.slice (some ⟨gi, 0, none⟩) j ci) (List.range j) ∧ OwnMany 2 34 (RO (.slice none 0 0)) wr w.heap.size (.slice Ao q co) (List.range q) ∧ Box wr w.heap.size 26 #[.int .u32 2, .slice (some ⟨gi, 0, none⟩) j ci, .slice Ao q co, .int .u32 0] ∧ Below w.heap.size w wr ∧ Own wr w.heap.size 5 SV (zeros s) ∧ OwnRows wr w.heap.size V (List.replicate n (zeros x)) ∧ (∃ C, Box wr gi 31 C) ∧ w.heap.size < gi ∧ gi < wr.heap.size)) (fun i _ => k - (intOf i).toNat)
                case atStart => exact ⟨0, .slice none 0 0, Nat.zero_le _, rfl, ⟨HST3.out.1, HST3.out.2.1, HST3.out.2.2.1, HST3.out.2.2.2.1, HST3.out.2.2.2.2.1, OwnMany.nil _ _ _ _ _, HST3.out.2.2.2.2.2⟩⟩
                case round =>
                  obtain ⟨n, V, hn, rfl, ⟨hI, hO, hX, hB, hSV, hV, ⟨Ci, hxi⟩, hg1, hg2⟩⟩ := hrel
                  by_cases hnk : n < k
                  · have hnk1 : (n : Int) < (k : Int) := by omega
                    have HJ : Kp (n < k) := ⟨hnk⟩
                    have hj1 : (0 : Int) < (j : Int) := by omega
                    obtain ⟨ZX, hZX⟩ : ∃ Z, (byteVals (zeros x)).toArray = Z := ⟨_, rfl⟩
                    have hmk := make_zeros (n := x) (by omega)
                    rw [hZX] at hmk
                    have hb1 : Below wr.heap.size wr (wr.alloc (.cells ZX 5)).drew := ((Below.refl _ _).alloc (Nat.le_refl _) _).drew
                    have hb2 : Below wr.heap.size wr ((wr.alloc (.cells ZX 5)).alloc (.cells #[.slice (some ⟨wr.heap.size, 0, none⟩) x x] 28)).drew := (((Below.refl _ _).alloc (Nat.le_refl _) _).alloc (by simp) _).drew
                    obtain ⟨cs, hcl, hri, hcc, hff⟩ := OwnMany.cell (i := 0) (j := 35) (ds := List.range j) (by rw [List.length_range]; exact hI) (by rw [List.length_range]; omega) (by omega)
                    rw [List.getElem_range] at hri
                    have hri2 : cs = inCells (inX 0) _ V := hri
                    rw [hri2, inCells_wit (inX_fit (by omega)), Nat.zero_mul, Nat.zero_add] at hcc
                    rw [Nat.zero_mul, Nat.zero_add] at hff
                    have c9 : Kp (wr.cell? ⟨gi, 35, none⟩ = some V) := ⟨hcc⟩
                    have c9a : Kp ((wr.alloc (.cells ZX 5)).drew.cell? ⟨gi, 35, none⟩ = some V) := ⟨((hxi.below hb1).cell 35).trans ((hxi.cell 35).symm.trans hcc)⟩
                    have c9b : Kp (((wr.alloc (.cells ZX 5)).alloc (.cells #[.slice (some ⟨wr.heap.size, 0, none⟩) x x] 28)).drew.cell? ⟨gi, 35, none⟩ = some V) := ⟨((hxi.below hb2).cell 35).trans ((hxi.cell 35).symm.trans hcc)⟩
                    have HSA : Kp (∀ K, Keeps [26] wr K → (fun W => W.cell? ⟨w.heap.size, 1, none⟩ = some (.slice (some ⟨gi, 0, none⟩) j ci)) K) := ⟨fun K hk => (Box.cell (Keeps.box hk (by decide) hX) 1)⟩
                    have HSS : Kp (∀ (K : World) (i : Nat) (u : Value), Keeps [26] wr K → (fun W => W.cell? ⟨w.heap.size, 1, none⟩ = some (.slice (some ⟨gi, 0, none⟩) j ci)) (K.setCell ⟨gi, i, none⟩ u)) := ⟨fun K i u hk => (Box.cell ((Below.heap_setCell K _ _ w.heap.size (show w.heap.size ≠ gi by omega)).trans (Keeps.box hk (by decide) hX)) 1)⟩
                    have hxr : Box ((wr.alloc (.cells ZX 5)).alloc (.cells #[.slice (some ⟨wr.heap.size, 0, none⟩) x x] 28)).drew (wr.heap.size + 1) 28 #[.slice (some ⟨wr.heap.size, 0, none⟩) x x] := heap_alloc2_new wr _ _
                    have hxz : Box ((wr.alloc (.cells ZX 5)).alloc (.cells #[.slice (some ⟨wr.heap.size, 0, none⟩) x x] 28)).drew wr.heap.size 5 (byteVals (zeros x)).toArray := by rw [hZX]; exact heap_alloc2_old wr _ _
                    have hoz : Own ((wr.alloc (.cells ZX 5)).alloc (.cells #[.slice (some ⟨wr.heap.size, 0, none⟩) x x] 28)).drew w.heap.size 5 (.slice (some ⟨wr.heap.size, 0, none⟩) x x) (zeros x) := own_made hxz hB.size (by omega)
                    have hV2 : OwnRows ((wr.alloc (.cells ZX 5)).alloc (.cells #[.slice (some ⟨wr.heap.size, 0, none⟩) x x] 28)).drew w.heap.size V (List.replicate n (zeros x)) := rows_turn hV (Keeps.of_below [5, 28] hb2) (by decide) (by decide) (Nat.le_refl _)
                    have HH := Kp.mk (And.intro hI (And.intro hO (And.intro hX (And.intro hB hSV))))
                    have HM := Kp.mk (And.intro hb1 (And.intro hb2 (And.intro hxr (And.intro hoz hV2))))
                    have HXI := Kp.mk hxi
                    have HG : Kp (w.heap.size < gi ∧ gi < wr.heap.size) := ⟨hg1, hg2⟩
                    clear hI hO hX hB hSV hV hxi hg1 hg2 hb1 hb2 hri hri2 hcl hxr hxz hoz hV2 hZX hn hnk hcc hff HST3
                    go_upto_region 17 with fail
                    refine wp_region_noPanic ?_
                    refine wp_region_held_drew (S := (fun W => W.cell? ⟨w.heap.size, 1, none⟩ = some (.slice (some ⟨gi, 0, none⟩) j ci))) (by kernel_rfl) ?_ (fun hHeld => ?_)
                    · exact HSA.out _ (Keeps.of_below _ (Below.refl wr.heap.size wr).drew)
                    refine wpAnyH_take (i := 0) (oi := ⟨some 83, _, _, _, _, _⟩) (v := ?_) rfl (by kernel_rfl) (by kernel_rfl) (by kernel_rfl) (fun _ _ _ h => h) (Or.inl ⟨by rfl, ?_⟩) hHeld ?_
                    rotate_left
                    · (intro wx hSw; (try dsimp only at hSw); obtain s1 := hSw; go_simp; try with_reducible rfl)
                    try simp only [Act.put, List.setIfInBounds_toArray, List.set_cons_zero, List.set_cons_succ]
                    refine wpAnyH_take (i := 1) (oi := ⟨some 84, _, _, _, _, _⟩) (v := ?_) rfl (by kernel_rfl) (by kernel_rfl) (by kernel_rfl) (fun _ _ _ h => h) (Or.inl ⟨by rfl, ?_⟩) hHeld ?_
                    rotate_left
                    · (intro wx hSw; (try dsimp only at hSw); obtain s1 := hSw; go_simp; try with_reducible rfl)
                    try simp only [Act.put, List.setIfInBounds_toArray, List.set_cons_zero, List.set_cons_succ]
                    refine wpAnyH_take (i := 2) (oi := ⟨some 85, _, _, _, _, _⟩) (v := ?_) rfl (by kernel_rfl) (by kernel_rfl) (by kernel_rfl) (fun _ _ _ h => h) (Or.inl ⟨by rfl, ?_⟩) hHeld ?_
                    rotate_left
                    · (intro wx hSw; (try dsimp only at hSw); obtain s1 := hSw; go_simp; try with_reducible rfl)
                    try simp only [Act.put, List.setIfInBounds_toArray, List.set_cons_zero, List.set_cons_succ]
                    refine wpAnyH_take (i := 3) (oi := ⟨some 86, _, _, _, _, _⟩) (v := ?_) rfl (by kernel_rfl) (by kernel_rfl) (by kernel_rfl) (fun _ _ _ h => h) (Or.inl ⟨by rfl, ?_⟩) hHeld ?_
                    rotate_left
                    · (intro wx hSw; (try dsimp only at hSw); obtain s1 := hSw; go_simp; try with_reducible rfl)
                    try simp only [Act.put, List.setIfInBounds_toArray, List.set_cons_zero, List.set_cons_succ]
                    refine wpAnyH_take (i := 4) (oi := ⟨some 87, _, _, _, _, _⟩) (v := ?_) rfl (by kernel_rfl) (by kernel_rfl) (by kernel_rfl) (fun _ _ _ h => h) (Or.inl ⟨by rfl, ?_⟩) hHeld ?_
                    rotate_left
                    · (intro wx hSw; (try dsimp only at hSw); obtain s1 := hSw; go_simp; try with_reducible rfl)
                    try simp only [Act.put, List.setIfInBounds_toArray, List.set_cons_zero, List.set_cons_succ]
                    refine wpAnyH_take (i := 5) (oi := ⟨some 88, _, _, _, _, _⟩) (v := ?_) rfl (by kernel_rfl) (by kernel_rfl) (by kernel_rfl) (fun _ _ _ h => h) (Or.inl ⟨by rfl, ?_⟩) hHeld ?_
                    rotate_left
                    · (intro wx hSw; (try dsimp only at hSw); obtain s1 := hSw; go_simp; try with_reducible rfl)
                    try simp only [Act.put, List.setIfInBounds_toArray, List.set_cons_zero, List.set_cons_succ]
                    refine wpAnyH_take (i := 7) (oi := ⟨some 90, _, _, _, _, _⟩) (v := ?_) rfl (by kernel_rfl) (by kernel_rfl) (by kernel_rfl) (fun _ _ _ h => h) (Or.inl ⟨by rfl, ?_⟩) hHeld ?_
                    rotate_left
                    · (intro wx hSw; (try dsimp only at hSw); obtain s1 := hSw; go_simp; try with_reducible rfl)
                    try simp only [Act.put, List.setIfInBounds_toArray, List.set_cons_zero, List.set_cons_succ]
                    refine wpAnyH_ready (rs := [6, 8]) (by kernel_rfl) (by simp) (AllReadyH.cons (o := ⟨some 89, _, _, _, _, _⟩) rfl (fun K hK => ?_) (AllReadyH.cons (o := ⟨some 91, _, _, _, _, _⟩) rfl (fun K hK => ?_) AllReadyH.nil))
                    · have cc := c9.out
                      go_simp
                      refine hK.out _ _ (HSA.out _ (Keeps.of_below _ (Below.refl wr.heap.size wr).drew)) (fun hHeld => ?_)
                      clear hK K
                      try simp only [Act.put, List.setIfInBounds_toArray, List.set_cons_zero, List.set_cons_succ]
                      refine wpAnyH_ready (rs := [8]) (by kernel_rfl) (by simp) (AllReadyH.cons (o := ⟨some 91, _, _, _, _, _⟩) rfl (fun K hK => ?_) AllReadyH.nil)
                      go_simp
                      refine hK.out _ _ (HSA.out _ (Keeps.of_below _ HM.out.1)) (fun hHeld => ?_)
                      clear hK K
                      try simp only [Act.put, List.setIfInBounds_toArray, List.set_cons_zero, List.set_cons_succ]
                      refine wpAnyH_ready (rs := [9]) (by kernel_rfl) (by simp) (AllReadyH.cons (o := ⟨some 92, _, _, _, _, _⟩) rfl (fun K hK => ?_) AllReadyH.nil)
                      go_simp
                      refine hK.out _ _ (HSA.out _ (Keeps.of_below _ HM.out.2.1)) (fun hHeld => ?_)
                      clear hK K
                      try simp only [Act.put, List.setIfInBounds_toArray, List.set_cons_zero, List.set_cons_succ]
                      refine wpAnyH_ready (rs := [10]) (by kernel_rfl) (by simp) (AllReadyH.cons (o := ⟨some 93, _, _, _, _, _⟩) rfl (fun K hK => ?_) AllReadyH.nil)
                      refine wp_append_many (R := fun W => RowO W w.heap.size) (.tmp 89) (.tmp 92) 29 rfl w.heap.size t3 _ 24 Try.underlying29 hi3 hz3 hs3 hb3 rfl (by decide) _ (List.replicate n (zeros x)) rfl HM.out.2.2.2.2 (wr.heap.size + 1) 1 [.slice (some ⟨wr.heap.size, 0, none⟩) x x] (zeros x) rfl HM.out.2.2.1 rfl ⟨_, rfl, HM.out.2.2.2.1, zeros_bys _⟩ (fun u hu => by rw [List.mem_singleton.1 hu]; rfl) (by rw [List.length_replicate]; have := HJ.out; omega) (by decide) (by have := HM.out.2.1.size; have := HG.out; omega) [5, 31, 34, 26] (by decide) (fun W cs d hk h => h.turn hk (by decide) (Nat.le_refl _)) ?_
                      intro v5 w5 hm5 hg5 hk5
                      rw [← List.replicate_succ'] at hm5
                      obtain ⟨A5, c5, he5⟩ := hm5.slice
                      rw [List.length_replicate] at he5
                      subst he5
                      have hk05 := (Keeps.of_below [5, 31, 34, 26] HM.out.2.1).trans hk5
                      refine hK.out _ _ (HSA.out _ (hk05.sub (by decide))) (fun hHeld => ?_)
                      clear hK K
                      try simp only [Act.put, List.setIfInBounds_toArray, List.set_cons_zero, List.set_cons_succ]
                      refine wpAnyH_take (i := 11) (oi := ⟨some 94, _, _, _, _, _⟩) (v := ?_) rfl (by kernel_rfl) (by kernel_rfl) (by kernel_rfl) (fun _ _ _ h => h) (Or.inl ⟨by rfl, ?_⟩) hHeld ?_
                      rotate_left
                      · (intro wx hSw; (try dsimp only at hSw); obtain s1 := hSw; go_simp; try with_reducible rfl)
                      try simp only [Act.put, List.setIfInBounds_toArray, List.set_cons_zero, List.set_cons_succ]
                      refine wpAnyH_take (i := 12) (oi := ⟨some 95, _, _, _, _, _⟩) (v := ?_) rfl (by kernel_rfl) (by kernel_rfl) (by kernel_rfl) (fun _ _ _ h => h) (Or.inl ⟨by rfl, ?_⟩) hHeld ?_
                      rotate_left
                      · (intro wx hSw; (try dsimp only at hSw); obtain s1 := hSw; go_simp; try with_reducible rfl)
                      try simp only [Act.put, List.setIfInBounds_toArray, List.set_cons_zero, List.set_cons_succ]
                      have hx5 := Keeps.box hk05 (by decide) HXI.out
                      have c5x : ∃ y, w5.cell? ⟨gi, 35, none⟩ = some y := ⟨V, (hx5.cell 35).trans ((HXI.out.cell 35).symm.trans c9.out)⟩
                      obtain ⟨y5, c5x⟩ := c5x
                      have f5x := hx5.warm 35
                      have hkb : Keeps [5, 28, 34, 26] w5 (w5.setCell ⟨gi, 35, none⟩ (.slice A5 (n + 1) c5)) := Keeps.of_set hx5 (by decide) _ _
                      have hkd : Keeps [5, 28, 31, 34, 26] (w5.setCell ⟨gi, 35, none⟩ (.slice A5 (n + 1) c5)) (w5.setCell ⟨gi, 35, none⟩ (.slice A5 (n + 1) c5)).drew := Keeps.of_below _ (Below.refl _ _).drew
                      have HEND : Kp (OwnMany 36 31 (RI j (SV) (.slice A5 (n + 1) c5)) (w5.setCell ⟨gi, 35, none⟩ (.slice A5 (n + 1) c5)) w.heap.size (.slice (some ⟨gi, 0, none⟩) j ci) (List.range j) ∧ OwnMany 2 34 (RO (.slice none 0 0)) (w5.setCell ⟨gi, 35, none⟩ (.slice A5 (n + 1) c5)) w.heap.size (.slice Ao q co) (List.range q) ∧ Box (w5.setCell ⟨gi, 35, none⟩ (.slice A5 (n + 1) c5)) w.heap.size 26 #[.int .u32 2, .slice (some ⟨gi, 0, none⟩) j ci, .slice Ao q co, .int .u32 0] ∧ Below w.heap.size w (w5.setCell ⟨gi, 35, none⟩ (.slice A5 (n + 1) c5)) ∧ Own (w5.setCell ⟨gi, 35, none⟩ (.slice A5 (n + 1) c5)) w.heap.size 5 SV (zeros s) ∧ OwnRows (w5.setCell ⟨gi, 35, none⟩ (.slice A5 (n + 1) c5)) w.heap.size (.slice A5 (n + 1) c5) (List.replicate (n + 1) (zeros x)) ∧ (∃ C, Box (w5.setCell ⟨gi, 35, none⟩ (.slice A5 (n + 1) c5)) gi 31 C) ∧ w.heap.size < gi ∧ gi < (w5.setCell ⟨gi, 35, none⟩ (.slice A5 (n + 1) c5)).heap.size) := ⟨by
                        have h1 := ri_wit (by omega) (OwnMany.turn HH.out.1 (hk05.sub (ts := [31]) (by decide)) (by decide) (Nat.le_refl _) (fun _ _ h => h) : OwnMany 36 31 (RI j (SV) (V)) w5 w.heap.size (.slice (some ⟨gi, 0, none⟩) j ci) (List.range j)) (.slice A5 (n + 1) c5)
                        refine ⟨h1, OwnMany.turn HH.out.2.1 ((hk05.sub (ts := [34]) (by decide)).trans (hkb.sub (by decide))) (by decide) (Nat.le_refl _) (fun _ _ h => h), Keeps.box ((hk05.sub (ts := [26]) (by decide)).trans (hkb.sub (by decide))) (by decide) HH.out.2.2.1, ?_, Own.keeps HH.out.2.2.2.2 ((hk05.sub (ts := [5]) (by decide)).trans (hkb.sub (by decide))) (by decide), rows_turn hm5 (hkb.sub (ts := [5, 28]) (by decide)) (by decide) (by decide) (Nat.le_refl _), ⟨_, Box.set hx5 _ _⟩, HG.out.1, ?_⟩
                        · have hb0 := HH.out.2.2.2.1.trans (HM.out.2.1.mono HH.out.2.2.2.1.size)
                          obtain ⟨css, hrow, _⟩ := HM.out.2.2.2.2
                          exact (hb0.grown hg5 hb0.size (fun q hq => (World.ownsRow.lt hrow q hq).1)).setCell (show w.heap.size ≤ gi by have := HG.out; omega) _
                        · have h5 := hkb.1; have h6 := hk05.1; have := HG.out; omega⟩
                      clear hkd hkb hx5 hm5 hg5
                      refine wpAnyH_ready (rs := [13]) (by kernel_rfl) (by simp) (AllReadyH.cons (o := ⟨none, _, _, _, _, _⟩) rfl (fun K hK => ?_) AllReadyH.nil)
                      go_simp
                      refine hK.out _ _ (HSS.out _ _ _ (hk05.sub (by decide))) (fun hHeld => ?_)
                      clear hK K
                      try simp only [Act.put, List.setIfInBounds_toArray, List.set_cons_zero, List.set_cons_succ]
                      refine wpAnyH_done (by kernel_rfl) ?_ _
                      refine NoPanic.normal ?_
                      clear hk05 c5x f5x hmk
                      obtain ⟨w7, hw7⟩ : ∃ W : World, (w5.setCell ⟨gi, 35, none⟩ (.slice A5 (n + 1) c5)) = W := ⟨_, rfl⟩
                      rw [hw7] at HEND
                      try rw [hw7]
                      clear hw7
                      go_wp2_with fail
                      exact ⟨⟨n + 1, _, by have := HJ.out; omega, by go_num, HEND⟩, by simp [intOf]; have := HJ.out; omega⟩
                    · go_simp
                      refine hK.out _ _ (HSA.out _ (Keeps.of_below _ HM.out.1)) (fun hHeld => ?_)
                      clear hK K
                      try simp only [Act.put, List.setIfInBounds_toArray, List.set_cons_zero, List.set_cons_succ]
                      refine wpAnyH_ready (rs := [6, 9]) (by kernel_rfl) (by simp) (AllReadyH.cons (o := ⟨some 89, _, _, _, _, _⟩) rfl (fun K hK => ?_) (AllReadyH.cons (o := ⟨some 92, _, _, _, _, _⟩) rfl (fun K hK => ?_) AllReadyH.nil))
                      · have cc := c9a.out
                        go_simp
                        refine hK.out _ _ (HSA.out _ (Keeps.of_below _ HM.out.1)) (fun hHeld => ?_)
                        clear hK K
                        try simp only [Act.put, List.setIfInBounds_toArray, List.set_cons_zero, List.set_cons_succ]
                        refine wpAnyH_ready (rs := [9]) (by kernel_rfl) (by simp) (AllReadyH.cons (o := ⟨some 92, _, _, _, _, _⟩) rfl (fun K hK => ?_) AllReadyH.nil)
                        go_simp
                        refine hK.out _ _ (HSA.out _ (Keeps.of_below _ HM.out.2.1)) (fun hHeld => ?_)
                        clear hK K
                        try simp only [Act.put, List.setIfInBounds_toArray, List.set_cons_zero, List.set_cons_succ]
                        refine wpAnyH_ready (rs := [10]) (by kernel_rfl) (by simp) (AllReadyH.cons (o := ⟨some 93, _, _, _, _, _⟩) rfl (fun K hK => ?_) AllReadyH.nil)
                        refine wp_append_many (R := fun W => RowO W w.heap.size) (.tmp 89) (.tmp 92) 29 rfl w.heap.size t3 _ 24 Try.underlying29 hi3 hz3 hs3 hb3 rfl (by decide) _ (List.replicate n (zeros x)) rfl HM.out.2.2.2.2 (wr.heap.size + 1) 1 [.slice (some ⟨wr.heap.size, 0, none⟩) x x] (zeros x) rfl HM.out.2.2.1 rfl ⟨_, rfl, HM.out.2.2.2.1, zeros_bys _⟩ (fun u hu => by rw [List.mem_singleton.1 hu]; rfl) (by rw [List.length_replicate]; have := HJ.out; omega) (by decide) (by have := HM.out.2.1.size; have := HG.out; omega) [5, 31, 34, 26] (by decide) (fun W cs d hk h => h.turn hk (by decide) (Nat.le_refl _)) ?_
                        intro v5 w5 hm5 hg5 hk5
                        rw [← List.replicate_succ'] at hm5
                        obtain ⟨A5, c5, he5⟩ := hm5.slice
                        rw [List.length_replicate] at he5
                        subst he5
                        have hk05 := (Keeps.of_below [5, 31, 34, 26] HM.out.2.1).trans hk5
                        refine hK.out _ _ (HSA.out _ (hk05.sub (by decide))) (fun hHeld => ?_)
                        clear hK K
                        try simp only [Act.put, List.setIfInBounds_toArray, List.set_cons_zero, List.set_cons_succ]
                        refine wpAnyH_take (i := 11) (oi := ⟨some 94, _, _, _, _, _⟩) (v := ?_) rfl (by kernel_rfl) (by kernel_rfl) (by kernel_rfl) (fun _ _ _ h => h) (Or.inl ⟨by rfl, ?_⟩) hHeld ?_
                        rotate_left
                        · (intro wx hSw; (try dsimp only at hSw); obtain s1 := hSw; go_simp; try with_reducible rfl)
                        try simp only [Act.put, List.setIfInBounds_toArray, List.set_cons_zero, List.set_cons_succ]
                        refine wpAnyH_take (i := 12) (oi := ⟨some 95, _, _, _, _, _⟩) (v := ?_) rfl (by kernel_rfl) (by kernel_rfl) (by kernel_rfl) (fun _ _ _ h => h) (Or.inl ⟨by rfl, ?_⟩) hHeld ?_
                        rotate_left
                        · (intro wx hSw; (try dsimp only at hSw); obtain s1 := hSw; go_simp; try with_reducible rfl)
                        try simp only [Act.put, List.setIfInBounds_toArray, List.set_cons_zero, List.set_cons_succ]
                        have hx5 := Keeps.box hk05 (by decide) HXI.out
                        have c5x : ∃ y, w5.cell? ⟨gi, 35, none⟩ = some y := ⟨V, (hx5.cell 35).trans ((HXI.out.cell 35).symm.trans c9.out)⟩
                        obtain ⟨y5, c5x⟩ := c5x
                        have f5x := hx5.warm 35
                        have hkb : Keeps [5, 28, 34, 26] w5 (w5.setCell ⟨gi, 35, none⟩ (.slice A5 (n + 1) c5)) := Keeps.of_set hx5 (by decide) _ _
                        have hkd : Keeps [5, 28, 31, 34, 26] (w5.setCell ⟨gi, 35, none⟩ (.slice A5 (n + 1) c5)) (w5.setCell ⟨gi, 35, none⟩ (.slice A5 (n + 1) c5)).drew := Keeps.of_below _ (Below.refl _ _).drew
                        have HEND : Kp (OwnMany 36 31 (RI j (SV) (.slice A5 (n + 1) c5)) (w5.setCell ⟨gi, 35, none⟩ (.slice A5 (n + 1) c5)) w.heap.size (.slice (some ⟨gi, 0, none⟩) j ci) (List.range j) ∧ OwnMany 2 34 (RO (.slice none 0 0)) (w5.setCell ⟨gi, 35, none⟩ (.slice A5 (n + 1) c5)) w.heap.size (.slice Ao q co) (List.range q) ∧ Box (w5.setCell ⟨gi, 35, none⟩ (.slice A5 (n + 1) c5)) w.heap.size 26 #[.int .u32 2, .slice (some ⟨gi, 0, none⟩) j ci, .slice Ao q co, .int .u32 0] ∧ Below w.heap.size w (w5.setCell ⟨gi, 35, none⟩ (.slice A5 (n + 1) c5)) ∧ Own (w5.setCell ⟨gi, 35, none⟩ (.slice A5 (n + 1) c5)) w.heap.size 5 SV (zeros s) ∧ OwnRows (w5.setCell ⟨gi, 35, none⟩ (.slice A5 (n + 1) c5)) w.heap.size (.slice A5 (n + 1) c5) (List.replicate (n + 1) (zeros x)) ∧ (∃ C, Box (w5.setCell ⟨gi, 35, none⟩ (.slice A5 (n + 1) c5)) gi 31 C) ∧ w.heap.size < gi ∧ gi < (w5.setCell ⟨gi, 35, none⟩ (.slice A5 (n + 1) c5)).heap.size) := ⟨by
                          have h1 := ri_wit (by omega) (OwnMany.turn HH.out.1 (hk05.sub (ts := [31]) (by decide)) (by decide) (Nat.le_refl _) (fun _ _ h => h) : OwnMany 36 31 (RI j (SV) (V)) w5 w.heap.size (.slice (some ⟨gi, 0, none⟩) j ci) (List.range j)) (.slice A5 (n + 1) c5)
                          refine ⟨h1, OwnMany.turn HH.out.2.1 ((hk05.sub (ts := [34]) (by decide)).trans (hkb.sub (by decide))) (by decide) (Nat.le_refl _) (fun _ _ h => h), Keeps.box ((hk05.sub (ts := [26]) (by decide)).trans (hkb.sub (by decide))) (by decide) HH.out.2.2.1, ?_, Own.keeps HH.out.2.2.2.2 ((hk05.sub (ts := [5]) (by decide)).trans (hkb.sub (by decide))) (by decide), rows_turn hm5 (hkb.sub (ts := [5, 28]) (by decide)) (by decide) (by decide) (Nat.le_refl _), ⟨_, Box.set hx5 _ _⟩, HG.out.1, ?_⟩
                          · have hb0 := HH.out.2.2.2.1.trans (HM.out.2.1.mono HH.out.2.2.2.1.size)
                            obtain ⟨css, hrow, _⟩ := HM.out.2.2.2.2
                            exact (hb0.grown hg5 hb0.size (fun q hq => (World.ownsRow.lt hrow q hq).1)).setCell (show w.heap.size ≤ gi by have := HG.out; omega) _
                          · have h5 := hkb.1; have h6 := hk05.1; have := HG.out; omega⟩
                        clear hkd hkb hx5 hm5 hg5
                        refine wpAnyH_ready (rs := [13]) (by kernel_rfl) (by simp) (AllReadyH.cons (o := ⟨none, _, _, _, _, _⟩) rfl (fun K hK => ?_) AllReadyH.nil)
                        go_simp
                        refine hK.out _ _ (HSS.out _ _ _ (hk05.sub (by decide))) (fun hHeld => ?_)
                        clear hK K
                        try simp only [Act.put, List.setIfInBounds_toArray, List.set_cons_zero, List.set_cons_succ]
                        refine wpAnyH_done (by kernel_rfl) ?_ _
                        refine NoPanic.normal ?_
                        clear hk05 c5x f5x hmk
                        obtain ⟨w7, hw7⟩ : ∃ W : World, (w5.setCell ⟨gi, 35, none⟩ (.slice A5 (n + 1) c5)) = W := ⟨_, rfl⟩
                        rw [hw7] at HEND
                        try rw [hw7]
                        clear hw7
                        go_wp2_with fail
                        exact ⟨⟨n + 1, _, by have := HJ.out; omega, by go_num, HEND⟩, by simp [intOf]; have := HJ.out; omega⟩
                      · go_simp
                        refine hK.out _ _ (HSA.out _ (Keeps.of_below _ HM.out.2.1)) (fun hHeld => ?_)
                        clear hK K
                        try simp only [Act.put, List.setIfInBounds_toArray, List.set_cons_zero, List.set_cons_succ]
                        refine wpAnyH_ready (rs := [6]) (by kernel_rfl) (by simp) (AllReadyH.cons (o := ⟨some 89, _, _, _, _, _⟩) rfl (fun K hK => ?_) AllReadyH.nil)
                        have cc := c9b.out
                        go_simp
                        refine hK.out _ _ (HSA.out _ (Keeps.of_below _ HM.out.2.1)) (fun hHeld => ?_)
                        clear hK K
                        try simp only [Act.put, List.setIfInBounds_toArray, List.set_cons_zero, List.set_cons_succ]
                        refine wpAnyH_ready (rs := [10]) (by kernel_rfl) (by simp) (AllReadyH.cons (o := ⟨some 93, _, _, _, _, _⟩) rfl (fun K hK => ?_) AllReadyH.nil)
                        refine wp_append_many (R := fun W => RowO W w.heap.size) (.tmp 89) (.tmp 92) 29 rfl w.heap.size t3 _ 24 Try.underlying29 hi3 hz3 hs3 hb3 rfl (by decide) _ (List.replicate n (zeros x)) rfl HM.out.2.2.2.2 (wr.heap.size + 1) 1 [.slice (some ⟨wr.heap.size, 0, none⟩) x x] (zeros x) rfl HM.out.2.2.1 rfl ⟨_, rfl, HM.out.2.2.2.1, zeros_bys _⟩ (fun u hu => by rw [List.mem_singleton.1 hu]; rfl) (by rw [List.length_replicate]; have := HJ.out; omega) (by decide) (by have := HM.out.2.1.size; have := HG.out; omega) [5, 31, 34, 26] (by decide) (fun W cs d hk h => h.turn hk (by decide) (Nat.le_refl _)) ?_
                        intro v5 w5 hm5 hg5 hk5
                        rw [← List.replicate_succ'] at hm5
                        obtain ⟨A5, c5, he5⟩ := hm5.slice
                        rw [List.length_replicate] at he5
                        subst he5
                        have hk05 := (Keeps.of_below [5, 31, 34, 26] HM.out.2.1).trans hk5
                        refine hK.out _ _ (HSA.out _ (hk05.sub (by decide))) (fun hHeld => ?_)
                        clear hK K
                        try simp only [Act.put, List.setIfInBounds_toArray, List.set_cons_zero, List.set_cons_succ]
                        refine wpAnyH_take (i := 11) (oi := ⟨some 94, _, _, _, _, _⟩) (v := ?_) rfl (by kernel_rfl) (by kernel_rfl) (by kernel_rfl) (fun _ _ _ h => h) (Or.inl ⟨by rfl, ?_⟩) hHeld ?_
                        rotate_left
                        · (intro wx hSw; (try dsimp only at hSw); obtain s1 := hSw; go_simp; try with_reducible rfl)
                        try simp only [Act.put, List.setIfInBounds_toArray, List.set_cons_zero, List.set_cons_succ]
                        refine wpAnyH_take (i := 12) (oi := ⟨some 95, _, _, _, _, _⟩) (v := ?_) rfl (by kernel_rfl) (by kernel_rfl) (by kernel_rfl) (fun _ _ _ h => h) (Or.inl ⟨by rfl, ?_⟩) hHeld ?_
                        rotate_left
                        · (intro wx hSw; (try dsimp only at hSw); obtain s1 := hSw; go_simp; try with_reducible rfl)
                        try simp only [Act.put, List.setIfInBounds_toArray, List.set_cons_zero, List.set_cons_succ]
                        have hx5 := Keeps.box hk05 (by decide) HXI.out
                        have c5x : ∃ y, w5.cell? ⟨gi, 35, none⟩ = some y := ⟨V, (hx5.cell 35).trans ((HXI.out.cell 35).symm.trans c9.out)⟩
                        obtain ⟨y5, c5x⟩ := c5x
                        have f5x := hx5.warm 35
                        have hkb : Keeps [5, 28, 34, 26] w5 (w5.setCell ⟨gi, 35, none⟩ (.slice A5 (n + 1) c5)) := Keeps.of_set hx5 (by decide) _ _
                        have hkd : Keeps [5, 28, 31, 34, 26] (w5.setCell ⟨gi, 35, none⟩ (.slice A5 (n + 1) c5)) (w5.setCell ⟨gi, 35, none⟩ (.slice A5 (n + 1) c5)).drew := Keeps.of_below _ (Below.refl _ _).drew
                        have HEND : Kp (OwnMany 36 31 (RI j (SV) (.slice A5 (n + 1) c5)) (w5.setCell ⟨gi, 35, none⟩ (.slice A5 (n + 1) c5)) w.heap.size (.slice (some ⟨gi, 0, none⟩) j ci) (List.range j) ∧ OwnMany 2 34 (RO (.slice none 0 0)) (w5.setCell ⟨gi, 35, none⟩ (.slice A5 (n + 1) c5)) w.heap.size (.slice Ao q co) (List.range q) ∧ Box (w5.setCell ⟨gi, 35, none⟩ (.slice A5 (n + 1) c5)) w.heap.size 26 #[.int .u32 2, .slice (some ⟨gi, 0, none⟩) j ci, .slice Ao q co, .int .u32 0] ∧ Below w.heap.size w (w5.setCell ⟨gi, 35, none⟩ (.slice A5 (n + 1) c5)) ∧ Own (w5.setCell ⟨gi, 35, none⟩ (.slice A5 (n + 1) c5)) w.heap.size 5 SV (zeros s) ∧ OwnRows (w5.setCell ⟨gi, 35, none⟩ (.slice A5 (n + 1) c5)) w.heap.size (.slice A5 (n + 1) c5) (List.replicate (n + 1) (zeros x)) ∧ (∃ C, Box (w5.setCell ⟨gi, 35, none⟩ (.slice A5 (n + 1) c5)) gi 31 C) ∧ w.heap.size < gi ∧ gi < (w5.setCell ⟨gi, 35, none⟩ (.slice A5 (n + 1) c5)).heap.size) := ⟨by
                          have h1 := ri_wit (by omega) (OwnMany.turn HH.out.1 (hk05.sub (ts := [31]) (by decide)) (by decide) (Nat.le_refl _) (fun _ _ h => h) : OwnMany 36 31 (RI j (SV) (V)) w5 w.heap.size (.slice (some ⟨gi, 0, none⟩) j ci) (List.range j)) (.slice A5 (n + 1) c5)
                          refine ⟨h1, OwnMany.turn HH.out.2.1 ((hk05.sub (ts := [34]) (by decide)).trans (hkb.sub (by decide))) (by decide) (Nat.le_refl _) (fun _ _ h => h), Keeps.box ((hk05.sub (ts := [26]) (by decide)).trans (hkb.sub (by decide))) (by decide) HH.out.2.2.1, ?_, Own.keeps HH.out.2.2.2.2 ((hk05.sub (ts := [5]) (by decide)).trans (hkb.sub (by decide))) (by decide), rows_turn hm5 (hkb.sub (ts := [5, 28]) (by decide)) (by decide) (by decide) (Nat.le_refl _), ⟨_, Box.set hx5 _ _⟩, HG.out.1, ?_⟩
                          · have hb0 := HH.out.2.2.2.1.trans (HM.out.2.1.mono HH.out.2.2.2.1.size)
                            obtain ⟨css, hrow, _⟩ := HM.out.2.2.2.2
                            exact (hb0.grown hg5 hb0.size (fun q hq => (World.ownsRow.lt hrow q hq).1)).setCell (show w.heap.size ≤ gi by have := HG.out; omega) _
                          · have h5 := hkb.1; have h6 := hk05.1; have := HG.out; omega⟩
                        clear hkd hkb hx5 hm5 hg5
                        refine wpAnyH_ready (rs := [13]) (by kernel_rfl) (by simp) (AllReadyH.cons (o := ⟨none, _, _, _, _, _⟩) rfl (fun K hK => ?_) AllReadyH.nil)
                        go_simp
                        refine hK.out _ _ (HSS.out _ _ _ (hk05.sub (by decide))) (fun hHeld => ?_)
                        clear hK K
                        try simp only [Act.put, List.setIfInBounds_toArray, List.set_cons_zero, List.set_cons_succ]
                        refine wpAnyH_done (by kernel_rfl) ?_ _
                        refine NoPanic.normal ?_
                        clear hk05 c5x f5x hmk
                        obtain ⟨w7, hw7⟩ : ∃ W : World, (w5.setCell ⟨gi, 35, none⟩ (.slice A5 (n + 1) c5)) = W := ⟨_, rfl⟩
                        rw [hw7] at HEND
                        try rw [hw7]
                        clear hw7
                        go_wp2_with fail
                        exact ⟨⟨n + 1, _, by have := HJ.out; omega, by go_num, HEND⟩, by simp [intOf]; have := HJ.out; omega⟩
                  · have hnk2 : n = k := by omega
                    subst hnk2
                    have HPOST : Kp (∃ (SV V : Value), Kp (OwnMany 36 31 (RI j SV V) wr w.heap.size (.slice (some ⟨gi, 0, none⟩) j ci) (List.range j) ∧ OwnMany 2 34 (RO (.slice none 0 0)) wr w.heap.size (.slice Ao q co) (List.range q) ∧ Box wr w.heap.size 26 #[.int .u32 2, .slice (some ⟨gi, 0, none⟩) j ci, .slice Ao q co, .int .u32 0] ∧ Below w.heap.size w wr ∧ (0 < j → Own wr w.heap.size 5 SV (zeros s) ∧ OwnRows wr w.heap.size V (List.replicate n (zeros x))))) := ⟨SV, V, ⟨hI, hO, hX, hB, fun _ => ⟨hSV, hV⟩⟩⟩
                    clear hI hO hX hB hSV hV hxi hg1 hg2 hnk hn HST3 HST
                    cases G1 with
                    | false =>
                      have HN : Kp (¬ (1 ≤ j ∧ j ≤ 50 ∧ 1 ≤ q ∧ q ≤ 50)) := ⟨of_decide_eq_false HG1.out⟩
                      have HE : Kp (goodB j q s n x = false) := ⟨by unfold goodB; exact decide_eq_false fun h => HN.out ⟨h.1, h.2.1, h.2.2.1, h.2.2.2.1⟩⟩
                      go_wp2
                      go_meet
                      exact ⟨by rw [HE.out], HPOST.out⟩
                    | true =>
                      have HN : Kp (1 ≤ j ∧ j ≤ 50 ∧ 1 ≤ q ∧ q ≤ 50) := ⟨of_decide_eq_true HG1.out⟩
                      by_cases q1 : s ≤ 500
                      · have q1i : (s : Int) ≤ 500 := by omega
                        by_cases q2 : n ≤ 10
                        · have q2i : (n : Int) ≤ 10 := by omega
                          by_cases q3 : x ≤ 500
                          · have q3i : (x : Int) ≤ 500 := by omega
                            have HE : Kp (goodB j q s n x = true) := ⟨by unfold goodB; exact decide_eq_true ⟨HN.out.1, HN.out.2.1, HN.out.2.2.1, HN.out.2.2.2, q1, q2, .inl q3⟩⟩
                            go_wp2
                            go_meet
                            exact ⟨by rw [HE.out], HPOST.out⟩
                          · have q3i : ¬ (x : Int) ≤ 500 := by omega
                            have q3l : 500 < x := by omega
                            rcases Nat.eq_zero_or_pos n with q4 | q4
                            · have q4b : ((n : Int) == 0) = true := by rw [q4]; rfl
                              have q4c : (n == 0) = true := by rw [q4]; rfl
                              have q4d : decide ((n : Int) = 0) = true := by rw [q4]; rfl
                              have q4e : decide (n = 0) = true := by rw [q4]; rfl
                              have HE : Kp (goodB j q s n x = true) := ⟨by unfold goodB; exact decide_eq_true ⟨HN.out.1, HN.out.2.1, HN.out.2.2.1, HN.out.2.2.2, q1, q2, .inr q4⟩⟩
                              clear q4
                              go_wp2
                              go_meet
                              exact ⟨by rw [HE.out], HPOST.out⟩
                            · have q4n : ¬ n = 0 := by omega
                              have q4i : ¬ (n : Int) = 0 := by omega
                              have q4b : ((n : Int) == 0) = false := by rw [beq_eq_false_iff_ne]; omega
                              have q4c : (n == 0) = false := by rw [beq_eq_false_iff_ne]; omega
                              have HE : Kp (goodB j q s n x = false) := ⟨by unfold goodB; exact decide_eq_false fun h => h.2.2.2.2.2.2.elim q3 q4n⟩
                              go_wp2
                              go_meet
                              exact ⟨by rw [HE.out], HPOST.out⟩
                        · have q2i : ¬ (n : Int) ≤ 10 := by omega
                          have q2l : 10 < n := by omega
                          have HE : Kp (goodB j q s n x = false) := ⟨by unfold goodB; exact decide_eq_false fun h => q2 h.2.2.2.2.2.1⟩
                          go_wp2
                          go_meet
                          exact ⟨by rw [HE.out], HPOST.out⟩
                      · have q1i : ¬ (s : Int) ≤ 500 := by omega
                        have q1l : 500 < s := by omega
                        have HE : Kp (goodB j q s n x = false) := ⟨by unfold goodB; exact decide_eq_false fun h => q1 h.2.2.2.2.1⟩
                        go_wp2
                        go_meet
                        exact ⟨by rw [HE.out], HPOST.out⟩
            case rest =>
              obtain ⟨rfl, SV, V, ⟨hI, hO, hX, hB, hSVV⟩⟩ := hcut
              obtain ⟨w4, rfl⟩ : ∃ W : World, W = wc := ⟨_, rfl⟩
              obtain ⟨G, hG⟩ : ∃ g, goodB j q s k x = g := ⟨_, rfl⟩
              rw [hG]
              have HG := Kp.mk hG
              have HST4 : Kp (OwnMany 36 31 (RI j SV V) w4 w.heap.size (.slice Ai j ci) (List.range j) ∧ OwnMany 2 34 (RO (.slice none 0 0)) w4 w.heap.size (.slice Ao q co) (List.range q) ∧ Box w4 w.heap.size 26 #[.int .u32 2, .slice Ai j ci, .slice Ao q co, .int .u32 0] ∧ Below w.heap.size w w4 ∧ (0 < j → Own w4 w.heap.size 5 SV (zeros s) ∧ OwnRows w4 w.heap.size V (List.replicate k (zeros x)))) := ⟨⟨hI, hO, hX, hB, hSVV⟩⟩
              clear hG hI hO hX hB hSVV HST HG1
              go_upto_if 114 with fail
              go_cut [14] (fun v wx => v = .bool G ∧ ∃ SVo : Value, Kp (OwnMany 36 31 (RI j SV V) wx w.heap.size (.slice Ai j ci) (List.range j) ∧ OwnMany 2 34 (RO (SVo)) wx w.heap.size (.slice Ao q co) (List.range q) ∧ Box wx w.heap.size 26 #[.int .u32 2, .slice Ai j ci, .slice Ao q co, .int .u32 0] ∧ Below w.heap.size w wx ∧ (0 < j → Own wx w.heap.size 5 SV (zeros s) ∧ OwnRows wx w.heap.size V (List.replicate k (zeros x))) ∧ (0 < q → Own wx w.heap.size 5 SVo (zeros s))))
              case first =>
                rcases Nat.eq_zero_or_pos q with hq0 | hq0
                · have g1 : ¬ 1 ≤ q := by omega
                  have g1b : ¬ 0 < q := by omega
                  have g1d : decide (0 < q) = false := decide_eq_false g1b
                  have g1i : ¬ (0 : Int) < (q : Int) := by omega
                  clear hq0
                  go_wp2
                  go_meet
                  exact ⟨rfl, _, ⟨HST4.out.1, HST4.out.2.1, HST4.out.2.2.1, HST4.out.2.2.2.1, HST4.out.2.2.2.2, fun h => absurd h g1b⟩⟩
                · have g1b : (0 : Int) < (q : Int) := by omega
                  have hq63 : q ≤ 63 := by omega
                  obtain ⟨hI0, hO0, hX0, hB0, hS0⟩ := HST4.out
                  obtain ⟨go, co2, he2, _, hgoB, hgo2, Co, hxo⟩ := hO0.box (by rw [List.length_range]; exact hq0)
                  rw [List.length_range] at he2
                  injection he2 with he3 he4 he5
                  subst he3
                  subst he5
                  have HGX : Kp (w.heap.size ≠ go) := ⟨fun e => by have h1 : w4.heap[go]? = some (.cells _ 34 (0, 0)) := hxo; have h2 : w4.heap[w.heap.size]? = some (.cells _ 26 (0, 0)) := hX0; rw [← e, h2] at h1; injection h1 with h1; injection h1 with _ h3; exact absurd h3 (by decide)⟩
                  obtain ⟨ZS, hZS⟩ : ∃ Z, (byteVals (zeros s)).toArray = Z := ⟨_, rfl⟩
                  have hmk := make_zeros (n := s) (by omega)
                  rw [hZS] at hmk
                  have hbs : Below w4.heap.size w4 (w4.alloc (.cells ZS 5)).drew := ((Below.refl _ _).alloc (Nat.le_refl _) _).drew
                  have hOs : OwnMany 2 34 (RO (.slice none 0 0)) (w4.alloc (.cells ZS 5)).drew w.heap.size (.slice (some ⟨go, 0, none⟩) q co) (List.range q) := OwnMany.turn hO0 (Keeps.of_below [34] hbs) (by decide) (Nat.le_refl _) (fun _ _ h => h)
                  obtain ⟨cs, hcl, hri, hcc, hff⟩ := OwnMany.cell (i := 0) (j := 1) (ds := List.range q) (by rw [List.length_range]; exact hOs) (by rw [List.length_range]; exact hq0) (by omega)
                  rw [List.getElem_range] at hri
                  have hri2 : cs = [.int .u64 ((0 : Nat) : Int), if 0 = 0 then (.slice none 0 0) else .slice none 0 0] := hri
                  rw [ite_self] at hri2
                  rw [hri2, Nat.zero_mul, Nat.zero_add] at hcc
                  rw [Nat.zero_mul, Nat.zero_add] at hff
                  have hcc2 : (w4.alloc (.cells ZS 5)).drew.cell? ⟨go, 1, none⟩ = some (.slice none 0 0) := hcc
                  have HSA : Kp (∀ K, Keeps [26] w4 K → (fun W => W.cell? ⟨w.heap.size, 2, none⟩ = some (.slice (some ⟨go, 0, none⟩) q co)) K) := ⟨fun K hk => (Box.cell (Keeps.box hk (by decide) hX0) 2)⟩
                  have HSS : Kp (∀ (K : World) (i : Nat) (u : Value), Keeps [26] w4 K → (fun W => W.cell? ⟨w.heap.size, 2, none⟩ = some (.slice (some ⟨go, 0, none⟩) q co)) (K.setCell ⟨go, i, none⟩ u)) := ⟨fun K i u hk => (Box.cell ((Below.heap_setCell K _ _ w.heap.size HGX.out).trans (Keeps.box hk (by decide) hX0)) 2)⟩
                  have hka : Keeps [5, 28, 31, 34, 26] w4 (w4.alloc (.cells ZS 5)) := Keeps.of_below _ ((Below.refl _ _).alloc (Nat.le_refl _) _)
                  have hkb : Keeps [5, 28, 31, 26] (w4.alloc (.cells ZS 5)) ((w4.alloc (.cells ZS 5)).setCell ⟨go, 1, none⟩ (.slice (some ⟨w4.heap.size, 0, none⟩) s s)) := Keeps.of_set (Keeps.box hka (by decide) hxo) (by decide) _ _
                  have hkd : Keeps [5, 28, 31, 34, 26] ((w4.alloc (.cells ZS 5)).setCell ⟨go, 1, none⟩ (.slice (some ⟨w4.heap.size, 0, none⟩) s s)) ((w4.alloc (.cells ZS 5)).setCell ⟨go, 1, none⟩ (.slice (some ⟨w4.heap.size, 0, none⟩) s s)).drew := Keeps.of_below _ (Below.refl _ _).drew
                  have hkt : Keeps [5, 28, 31, 26] w4 ((w4.alloc (.cells ZS 5)).setCell ⟨go, 1, none⟩ (.slice (some ⟨w4.heap.size, 0, none⟩) s s)).drew := (hka.sub (by decide)).trans (hkb.trans (hkd.sub (by decide)))
                  have HEND : Kp (OwnMany 36 31 (RI j SV V) ((w4.alloc (.cells ZS 5)).setCell ⟨go, 1, none⟩ (.slice (some ⟨w4.heap.size, 0, none⟩) s s)).drew w.heap.size (.slice Ai j ci) (List.range j) ∧ OwnMany 2 34 (RO ((.slice (some ⟨w4.heap.size, 0, none⟩) s s))) ((w4.alloc (.cells ZS 5)).setCell ⟨go, 1, none⟩ (.slice (some ⟨w4.heap.size, 0, none⟩) s s)).drew w.heap.size (.slice (some ⟨go, 0, none⟩) q co) (List.range q) ∧ Box ((w4.alloc (.cells ZS 5)).setCell ⟨go, 1, none⟩ (.slice (some ⟨w4.heap.size, 0, none⟩) s s)).drew w.heap.size 26 #[.int .u32 2, .slice Ai j ci, .slice (some ⟨go, 0, none⟩) q co, .int .u32 0] ∧ Below w.heap.size w ((w4.alloc (.cells ZS 5)).setCell ⟨go, 1, none⟩ (.slice (some ⟨w4.heap.size, 0, none⟩) s s)).drew ∧ (0 < j → Own ((w4.alloc (.cells ZS 5)).setCell ⟨go, 1, none⟩ (.slice (some ⟨w4.heap.size, 0, none⟩) s s)).drew w.heap.size 5 SV (zeros s) ∧ OwnRows ((w4.alloc (.cells ZS 5)).setCell ⟨go, 1, none⟩ (.slice (some ⟨w4.heap.size, 0, none⟩) s s)).drew w.heap.size V (List.replicate k (zeros x))) ∧ (0 < q → Own ((w4.alloc (.cells ZS 5)).setCell ⟨go, 1, none⟩ (.slice (some ⟨w4.heap.size, 0, none⟩) s s)).drew w.heap.size 5 (.slice (some ⟨w4.heap.size, 0, none⟩) s s) (zeros s))) := ⟨by
                    have h1 := ro_script hq0 (OwnMany.turn hO0 (hka.sub (ts := [34]) (by decide)) (by decide) (Nat.le_refl _) (fun _ _ h => h) : OwnMany 2 34 (RO (.slice none 0 0)) (w4.alloc (.cells ZS 5)) w.heap.size (.slice (some ⟨go, 0, none⟩) q co) (List.range q)) (.slice (some ⟨w4.heap.size, 0, none⟩) s s)
                    have hbx2 : Box (w4.alloc (.cells ZS 5)) w4.heap.size 5 (byteVals (zeros s)).toArray := by rw [hZS]; exact heap_alloc_new w4 _
                    refine ⟨OwnMany.turn hI0 (hkt.sub (ts := [31]) (by decide)) (by decide) (Nat.le_refl _) (fun _ _ h => h), OwnMany.turn h1 hkd (by decide) (Nat.le_refl _) (fun _ _ h => h), Keeps.box hkt (by decide) hX0, ((hB0.alloc hB0.size _).setCell (show w.heap.size ≤ go from hgoB) _).drew, fun hj => ?_, fun _ => ?_⟩
                    · exact ⟨Own.keeps (hS0 hj).1 hkt (by decide), rows_turn (hS0 hj).2 hkt (by decide) (by decide) (Nat.le_refl _)⟩
                    · exact Own.keeps (own_made hbx2 hB0.size (by omega)) ((hkb.sub (ts := [5]) (by decide)).trans (hkd.sub (by decide))) (by decide)⟩
                  have HKA : Kp (Keeps [26] w4 (w4.alloc (.cells ZS 5))) := ⟨hka.sub (by decide)⟩
                  have HBS := Kp.mk hbs
                  have HCC := Kp.mk (And.intro hcc2 hff)
                  clear hI0 hO0 hX0 hB0 hS0 hbs hOs hri hri2 hcl hxo hgoB hgo2 hcc hcc2 hff hka hkb hkd hkt hZS hq0
                  go_upto_region 20 with fail
                  refine wp_region_noPanic ?_
                  refine wp_region_held_drew (S := (fun W => W.cell? ⟨w.heap.size, 2, none⟩ = some (.slice (some ⟨go, 0, none⟩) q co))) (by kernel_rfl) ?_ (fun hHeld => ?_)
                  · exact HSA.out _ (Keeps.of_below _ (Below.refl w4.heap.size w4).drew)
                  refine wpAnyH_take (i := 0) (oi := ⟨some 115, _, _, _, _, _⟩) (v := ?_) rfl (by kernel_rfl) (by kernel_rfl) (by kernel_rfl) (fun _ _ _ h => h) (Or.inl ⟨by rfl, ?_⟩) hHeld ?_
                  rotate_left
                  · (intro wx hSw; (try dsimp only at hSw); obtain s1 := hSw; go_simp; try with_reducible rfl)
                  try simp only [Act.put, List.setIfInBounds_toArray, List.set_cons_zero, List.set_cons_succ]
                  refine wpAnyH_take (i := 1) (oi := ⟨some 116, _, _, _, _, _⟩) (v := ?_) rfl (by kernel_rfl) (by kernel_rfl) (by kernel_rfl) (fun _ _ _ h => h) (Or.inl ⟨by rfl, ?_⟩) hHeld ?_
                  rotate_left
                  · (intro wx hSw; (try dsimp only at hSw); obtain s1 := hSw; go_simp; try with_reducible rfl)
                  try simp only [Act.put, List.setIfInBounds_toArray, List.set_cons_zero, List.set_cons_succ]
                  refine wpAnyH_take (i := 2) (oi := ⟨some 117, _, _, _, _, _⟩) (v := ?_) rfl (by kernel_rfl) (by kernel_rfl) (by kernel_rfl) (fun _ _ _ h => h) (Or.inl ⟨by rfl, ?_⟩) hHeld ?_
                  rotate_left
                  · (intro wx hSw; (try dsimp only at hSw); obtain s1 := hSw; go_simp; try with_reducible rfl)
                  try simp only [Act.put, List.setIfInBounds_toArray, List.set_cons_zero, List.set_cons_succ]
                  refine wpAnyH_ready (rs := [3]) (by kernel_rfl) (by simp) (AllReadyH.cons (o := ⟨some 118, _, _, _, _, _⟩) rfl (fun K hK => ?_) AllReadyH.nil)
                  go_simp
                  refine hK.out _ _ (HSA.out _ (Keeps.of_below _ HBS.out)) (fun hHeld => ?_)
                  clear hK K
                  try simp only [Act.put, List.setIfInBounds_toArray, List.set_cons_zero, List.set_cons_succ]
                  refine wpAnyH_take (i := 4) (oi := ⟨some 119, _, _, _, _, _⟩) (v := ?_) rfl (by kernel_rfl) (by kernel_rfl) (by kernel_rfl) (fun _ _ _ h => h) (Or.inl ⟨by rfl, ?_⟩) hHeld ?_
                  rotate_left
                  · (intro wx hSw; (try dsimp only at hSw); obtain s1 := hSw; go_simp; try with_reducible rfl)
                  try simp only [Act.put, List.setIfInBounds_toArray, List.set_cons_zero, List.set_cons_succ]
                  refine wpAnyH_take (i := 5) (oi := ⟨some 120, _, _, _, _, _⟩) (v := ?_) rfl (by kernel_rfl) (by kernel_rfl) (by kernel_rfl) (fun _ _ _ h => h) (Or.inl ⟨by rfl, ?_⟩) hHeld ?_
                  rotate_left
                  · (intro wx hSw; (try dsimp only at hSw); obtain s1 := hSw; go_simp; try with_reducible rfl)
                  try simp only [Act.put, List.setIfInBounds_toArray, List.set_cons_zero, List.set_cons_succ]
                  have ccx := HCC.out.1
                  have ffx := HCC.out.2
                  refine wpAnyH_ready (rs := [6]) (by kernel_rfl) (by simp) (AllReadyH.cons (o := ⟨none, _, _, _, _, _⟩) rfl (fun K hK => ?_) AllReadyH.nil)
                  go_simp
                  refine hK.out _ _ (HSS.out _ _ _ HKA.out) (fun hHeld => ?_)
                  clear hK K
                  try simp only [Act.put, List.setIfInBounds_toArray, List.set_cons_zero, List.set_cons_succ]
                  refine wpAnyH_done (by kernel_rfl) ?_ _
                  refine NoPanic.normal ?_
                  obtain ⟨w5, hw5⟩ : ∃ W : World, ((w4.alloc (.cells ZS 5)).setCell ⟨go, 1, none⟩ (.slice (some ⟨w4.heap.size, 0, none⟩) s s)).drew = W := ⟨_, rfl⟩
                  rw [hw5] at HEND
                  try rw [hw5]
                  clear hw5 ccx ffx hmk HCC HBS HKA HSS HSA
                  cases G with
                  | false =>
                    go_wp2
                    go_meet
                    exact ⟨rfl, _, HEND⟩
                  | true =>
                    have hs5 : s ≤ 500 := by have h := HG.out; unfold goodB at h; exact (of_decide_eq_true h).2.2.2.2.1
                    have hs5i : (s : Int) ≤ 500 := by omega
                    go_wp2
                    go_meet
                    exact ⟨rfl, _, HEND⟩
              case rest =>
                obtain ⟨rfl, SVo, ⟨hI, hO, hX, hB, hSVV, hSo⟩⟩ := hcut
                obtain ⟨w5, rfl⟩ : ∃ W : World, W = wc := ⟨_, rfl⟩
                have htx := txB_r hI hO (by omega) (fun h => (hSVV h).1) (fun h => (hSVV h).2) hSo
                have hfit := htx.fit
                have hby := bytesOf_bys htx.bys
                have hmay : mayB (txB j q s k x) = G := (may_txB j q s k x).trans HG.out
                have hlen := bytes_len hfit
                have hpar := parse_txB hfit
                rw [hmay] at hpar
                have hdl : decide (0 < (bytesOf (txB j q s k x)).length) = G := by cases G with | true => exact decide_eq_true (bytes_yes hmay).1 | false => rw [(bytes_no hmay).1]; rfl
                have hdb : decide (0 < (baseOf (txB j q s k x)).length) = G := by cases G with | true => exact decide_eq_true (bytes_yes hmay).2 | false => rw [(bytes_no hmay).2]; rfl
                have HBO := Kp.mk (bytes_any w5 _ _ htx)
                have HMA : Kp (∀ W, Below w5.heap.size w5 W → Calls Try.prog 12 #[.agg #[.int .u32 2, .slice Ai j ci, .slice Ao q co, .int .u32 0]] W (BoolP G W)) := ⟨fun W hb => by have h := may_any W _ _ (htx.below hb); rw [hmay] at h; exact h⟩
                have HBA : Kp (∀ W, Below w5.heap.size w5 W → Calls Try.prog 13 #[.agg #[.int .u32 2, .slice Ai j ci, .slice Ao q co, .int .u32 0]] W (App W.heap.size (baseOf (txB j q s k x)) W)) := ⟨fun W hb => base_any W _ _ (htx.below hb)⟩
                have HC : Kp (∀ W, Below w5.heap.size w5 W → W.cell? ⟨w.heap.size, 0, none⟩ = some (.int .u32 2) ∧ W.cell? ⟨w.heap.size, 1, none⟩ = some (.slice Ai j ci) ∧ W.cell? ⟨w.heap.size, 2, none⟩ = some (.slice Ao q co) ∧ W.cell? ⟨w.heap.size, 3, none⟩ = some (.int .u32 0)) := ⟨fun W hb => ⟨(hX.below hb).cell 0, (hX.below hb).cell 1, (hX.below hb).cell 2, (hX.below hb).cell 3⟩⟩
                have HB5 := Kp.mk hB
                generalize bytesOf (txB j q s k x) = L at *
                generalize baseOf (txB j q s k x) = LB at *
                obtain ⟨N, hN⟩ : ∃ N, (pParse L).1 = N := ⟨_, rfl⟩
                have HPA : Kp (∀ (W : World) (v : Value), Rb W v L → Calls Try.prog 11 #[v] W (fun e w' => ∃ v, e = .returned (.tuple #[v, .bool G]) ∧ Below W.heap.size W w' ∧ TxO w' W.heap.size v N)) := ⟨fun W v h => by have h1 := parse_any W v L h (by omega); unfold ParP at h1; rw [hpar, hN] at h1; exact h1⟩
                have HBY := Kp.mk hby
                obtain ⟨c0, c1, c2, c3⟩ := HC.out w5 (Below.refl _ _)
                have hl4 : L.length ≤ 400000 := hlen
                clear hI hO hX hB hSVV hSo htx hfit hby hmay hpar hN hlen HST4 HG
                go_wp2_with fail
                refine HBO.out.mono ?_
                rintro e w6 ⟨v6, rfl, ho6, hg6⟩
                have HPA6 := Kp.mk (HPA.out w6 v6 (ho6.rb HBY.out))
                obtain ⟨A6, c6, rfl⟩ := ho6.slice
                have HB6 := Kp.mk hg6.low
                clear ho6 hg6 HBO
                go_wp2_with fail
                refine HPA6.out.mono ?_
                rintro e w7 ⟨v7, rfl, hb7, hT7⟩
                obtain ⟨iv7, ov7, rfl, _, _, hi7, hv7⟩ := id hT7
                obtain ⟨Ai7, ci7, rfl⟩ := hi7.slice
                obtain ⟨Ao7, co7, rfl⟩ := hv7.slice
                have HB8 : Kp (Below w5.heap.size w5 (w7.alloc (.cells #[.int .u32 N.version, .slice Ai7 N.ins.length ci7, .slice Ao7 N.outs.length co7, .int .u32 N.lock] 26))) := ⟨(HB6.out.trans (hb7.mono HB6.out.size)).alloc (Nat.le_trans HB6.out.size hb7.size) _⟩
                clear hT7 hi7 hv7 hb7 HPA6 c0 c1 c2 c3
                obtain ⟨c0, c1, c2, c3⟩ := HC.out _ HB8.out
                go_wp2_with fail
                refine (HMA.out _ HB8.out).mono ?_
                rintro e w9 ⟨rfl, hb9⟩
                have HB9 := Kp.mk (HB8.out.trans (hb9.mono HB8.out.size))
                clear c0 c1 c2 c3 hb9
                obtain ⟨c0, c1, c2, c3⟩ := HC.out _ HB9.out
                go_wp2_with fail
                refine (HBA.out _ HB9.out).mono ?_
                rintro e w10 ⟨v10, rfl, ho10, hg10⟩
                obtain ⟨A10, c10, rfl⟩ := ho10.slice
                have HB10 := Kp.mk (HB9.out.trans (hg10.low.mono HB9.out.size))
                clear ho10 hg10
                go_wp2_with fail
                refine (HAW.out w10).mono ?_
                rintro e w11 ⟨rfl, hb11⟩
                go_wp2_with fail
                go_ret
                have hbz := HB10.out.trans (hb11.mono HB10.out.size)
                exact ⟨rfl, HB5.out.trans (hbz.mono HB5.out.size)⟩

set_option maxRecDepth 100000 in
theorem lifted (os : Os) (started : os.Started) (H : Type) (enc : TypeId × Value → H) :
    ReturnsInHanded {} Try.checked os 3 .any (Rows.txnsBoundsSpec.pre6 enc Try.prog Try.f3 Rows.txnsBoundsRow.domain false) (Rows.txnsBoundsSpec.post enc Try.prog Try.f3 false true false false) := by
  refine returnsInHanded_of_change (C := Try.checked) ownKnobNone started (by kernel_rfl) Try.func3
    (ChangeSpec.witness6 (enc := enc) (C := Try.checked) false ⟨#[], #[.int .i64 0, .int .i64 0, .int .i64 0, .int .i64 0, .int .i64 0], []⟩ 8 (by kernel_rfl) (by kernel_rfl) (by kernel_rfl) (by kernel_rfl)) ?_
  intro W base args ds gs before hval0 hW _ _
  have hval : ∀ (j : Nat) t v, Try.f3.params[j]? = some t → args[j]? = some v → Value.okWide Try.prog W .any base t v := hval0
  have hW' := hW
  obtain ⟨p, q, hA0, hV, rfl, _, _⟩ := hW
  have hA : DataW.TrodAll enc Try.prog W 0 (fun _ => true) true Try.f3.params.toList args.toList ds p := hA0
  rw [Try.params3] at hA hval
  obtain ⟨v0, vs0, d0, ds0, p0, q0, hargs, rfl, rfl, h0, r0⟩ := trodAll_cons hA
  obtain ⟨v1, vs1, d1, ds1, p1, q1, rfl, rfl, rfl, h1, r1⟩ := trodAll_cons r0
  obtain ⟨v2, vs2, d2, ds2, p2, q2, rfl, rfl, rfl, h2, r2⟩ := trodAll_cons r1
  obtain ⟨v3, vs3, d3, ds3, p3, q3, rfl, rfl, rfl, h3, r3⟩ := trodAll_cons r2
  obtain ⟨v4, vs4, d4, ds4, p4, q4, rfl, rfl, rfl, h4, r4⟩ := trodAll_cons r3
  obtain ⟨rfl, rfl, rfl⟩ := trodAll_nil r4
  obtain rfl : args = #[v0, v1, v2, v3, v4] := by cases args; simp_all
  obtain ⟨rfl, rfl⟩ := trodVars_none hV
  obtain ⟨a0, rfl, rfl, rfl, w0⟩ := open_int Try.underlying3 (hval 0 3 v0 rfl rfl) h0
  have b0 := bd_i64 w0
  obtain ⟨a1, rfl, rfl, rfl, w1⟩ := open_int Try.underlying3 (hval 1 3 v1 rfl rfl) h1
  have b1 := bd_i64 w1
  obtain ⟨a2, rfl, rfl, rfl, w2⟩ := open_int Try.underlying3 (hval 2 3 v2 rfl rfl) h2
  have b2 := bd_i64 w2
  obtain ⟨a3, rfl, rfl, rfl, w3⟩ := open_int Try.underlying3 (hval 3 3 v3 rfl rfl) h3
  have b3 := bd_i64 w3
  obtain ⟨a4, rfl, rfl, rfl, w4⟩ := open_int Try.underlying3 (hval 4 3 v4 rfl rfl) h4
  have b4 := bd_i64 w4
  clear hA0 hval0
  refine (walk a0 a1 a2 a3 a4 W).mono fun e W' ⟨he, hb⟩ => ?_
  subst he
  exact ⟨_, rfl, law_post hW' rfl rfl (by kernel_rfl) rfl hb⟩

set_option maxRecDepth 100000 in
theorem over : Rows.txnsBoundsRow.holds Try.pinned (OpenSpec.ofChange Rows.txnsBoundsSpec) :=
  OpenClaim.holds_of_wide 3 Try.f3 rfl rfl rfl rfl rfl rfl rfl ⟨rfl, rfl, rfl, rfl, rfl⟩ rfl rfl rfl rfl rfl (by kernel_rfl) Try.func3 (by kernel_rfl)
    (of_decide_eq_true (by kernel_rfl)) (by unfold Func.isWrapper; first | (rw [if_pos (by decide +kernel)]; kernel_rfl) | (rw [if_neg (by decide +kernel)]; exact ⟨rfl, rfl⟩))
    (fun os started H enc _ => lifted os started H enc)

/-- The statement. -/
theorem proved : Rows.TxnsBoundsSaid :=
  over
end Go.Proofs.Ythkjhfdafjlllaa.lawBd
