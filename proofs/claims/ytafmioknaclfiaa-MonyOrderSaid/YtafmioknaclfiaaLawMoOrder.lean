/- The sum hangs on no order, nor on how amounts are taken together, and where one is beyond the cap all is: for every slice of numbers and every int the law MonyOrder returns true and leaves them as they were. No further condition. -/
import Derived.Test.YtafmioknaclfiaaMoA
import Derived.Test.YtafmioknaclfiaaArgK
import Derived.Test.YtafmioknaclfiaaNumK
import Derived.Deep.DeepCutAuto
namespace Go.Proofs.Ytafmioknaclfiaa.lawMoOrder
open Go.ChangeShapes Go.WideShapes Go.ChangeAt Go.RowKit

set_option maxRecDepth 100000 in
theorem infoU64 : (Try.prog.info? 23).map (fun i => (i.zero, i.size, i.bytes)) = some (some (.int .u64 0), 1, 8) := by kernel_rfl

set_option maxRecDepth 100000 in
set_option maxHeartbeats 1000000 in
theorem walk_long (v : Value) (l : List Int) (a : Int) (w : World) (hs : SlK .u64 w v l) (hm : l.length ≤ maxLen) (hl : 60 < l.length) :
    Calls Try.prog 6 #[v, .int .i64 a] w (YesK w) := by
  unfold maxLen at hm
  obtain ⟨A, c, rfl, _⟩ := hs
  go_enter Try.func6, Try.ntmps6
  go_wp2_with fail
  refine (awake5_any w).mono ?_
  rintro e w1 ⟨rfl, hb⟩
  go_wp2
  go_ret
  exact ⟨rfl, hb⟩

/-- The two slices of the law: x as the numbers t, and, in a younger block, those turned round. -/
def Two (w wr : World) (xv bv : Value) (t : List Int) : Prop :=
  U64s t ∧ OwnK .u64 wr w.heap.size 23 xv t ∧ Below w.heap.size w wr ∧ ∃ B, w.heap.size ≤ B ∧ OwnK .u64 wr B 23 bv t.reverse ∧ ∀ g, xv.ownBlock = some g → g < B

theorem OwnK.lt {κ : IntKind} {w : World} {base e : Nat} {v : Value} {l : List Int} (h : OwnK κ w base e v l) : ∀ k, v.ownBlock = some k → base ≤ k ∧ k < w.heap.size := World.ownsRow.lt h

/-- Behind the first append. -/
theorem Two.first {w wr w1 : World} {xv bv v1 : Value} {t : List Int} {y : Int} {O : Obj} (h : Two w wr xv bv t) (_ho : OwnK .u64 w1 w.heap.size 23 v1 (t ++ [y])) (hg : (wr.alloc O).grownBy w1 xv.ownBlock) :
    Below w.heap.size w w1 ∧ SlK .u64 w1 bv t.reverse := by
  obtain ⟨hu, hx, hb, B, hB, hbv, hlt⟩ := h
  have hx' := hx.below ((Below.refl wr.heap.size wr).alloc (Nat.le_refl _) O)
  refine ⟨hx'.grows (hb.alloc hb.size O) hg (Nat.le_refl _), ?_⟩
  have hbv' := hbv.below ((Below.refl wr.heap.size wr).alloc (Nat.le_refl _) O)
  refine (hbv'.keep hg ?_).sl
  cases hb1 : bv.ownBlock with
  | none => exact .inl rfl
  | some g =>
    refine .inr fun e => ?_
    have h1 := hlt g e.symm
    have h2 := (OwnK.lt hbv g hb1).1
    omega
/-- Behind the second. -/
theorem Two.second {w wr w1 w2 : World} {xv bv v1 v2 : Value} {t : List Int} {y : Int} (h : Two w wr xv bv t) (hy : 0 ≤ y ∧ y ≤ 18446744073709551615) (hb1 : Below w.heap.size w w1) (ho : OwnK .u64 w1 w.heap.size 23 v1 (t ++ [y]))
    (ho2 : OwnK .u64 w2 w1.heap.size 23 v2 ([y] ++ t.reverse)) (hg2 : (w1.alloc (.cells #[.int .u64 y] 23)).grownBy w2 (Value.slice (some ⟨w1.heap.size, 0, none⟩) 1 1).ownBlock) : Two w w2 v1 v2 (t ++ [y]) := by
  have hlt := OwnK.lt ho
  have hf := OwnK.fresh .u64 w1 23 [y] (by simp [maxLen])
  refine ⟨?_, ?_, ?_, w1.heap.size, hb1.size, by rw [List.reverse_append]; exact ho2, fun g hg => (hlt g hg).2⟩
  · intro z hz
    rcases List.mem_append.1 hz with hz | hz
    · exact h.1 z hz
    · simp at hz; omega
  · refine (ho.below ((Below.refl w1.heap.size w1).alloc (Nat.le_refl _) (.cells #[.int .u64 y] 23))).keep hg2 ?_
    cases hv : v1.ownBlock with
    | none => exact .inl rfl
    | some g =>
      refine .inr fun e => ?_
      have := (hlt g hv).2
      simp [Value.ownBlock] at e
      omega
  · exact hb1.trans ((hf.grows ((Below.refl w1.heap.size w1).alloc (Nat.le_refl _) _) hg2 (Nat.le_refl _)).mono hb1.size)

/-- What the four sums of the law answer. -/
theorem four (t : List Int) (hu : U64s t) (kk : Nat) : ∃ p o pk ok pd od pe oe, sumV t = .tuple #[.int .u64 p, .bool o] ∧ sumV (t.take kk) = .tuple #[.int .u64 pk, .bool ok] ∧ sumV (t.drop kk) = .tuple #[.int .u64 pd, .bool od] ∧ sumV [pk, pd] = .tuple #[.int .u64 pe, .bool oe] ∧ U64s [pk, pd] ∧
    ((o = true ∧ ok = true ∧ od = true ∧ oe = true ∧ pe = p) ∨ (o = false ∧ p = 0 ∧ ok = false) ∨ (o = false ∧ p = 0 ∧ ok = true ∧ od = false) ∨ (o = false ∧ p = 0 ∧ ok = true ∧ od = true ∧ oe = false)) := by
  have h1 := tot_nn (hu.take kk)
  have h2 := tot_nn (hu.drop kk)
  have h3 := tot_part t kk
  have two : ∀ a b : Int, 0 ≤ a → a ≤ 2100000000000000 → 0 ≤ b → b ≤ 2100000000000000 → U64s [a, b] := by
    intro a b _ _ _ _ x hx
    simp at hx
    omega
  have sm : ∀ a b : Int, tot [a, b] = a + b := fun a b => by simp [tot]
  by_cases hk : tot (t.take kk) ≤ 2100000000000000
  · by_cases hd : tot (t.drop kk) ≤ 2100000000000000
    · by_cases ht : tot t ≤ 2100000000000000
      · refine ⟨_, _, _, _, _, _, _, _, sumV_yes ht, sumV_yes hk, sumV_yes hd, sumV_yes (by rw [sm]; omega), two _ _ h1 hk h2 hd, .inl ⟨rfl, rfl, rfl, rfl, ?_⟩⟩
        rw [sm, h3]
      · exact ⟨_, _, _, _, _, _, _, _, sumV_no (by omega), sumV_yes hk, sumV_yes hd, sumV_no (by rw [sm]; omega), two _ _ h1 hk h2 hd, .inr (.inr (.inr ⟨rfl, rfl, rfl, rfl, rfl⟩))⟩
    · refine ⟨_, _, _, _, _, _, _, _, sumV_no (by omega), sumV_yes hk, sumV_no (by omega), sumV_yes (by rw [sm]; omega), two _ _ h1 hk (by omega) (by omega), .inr (.inr (.inl ⟨rfl, rfl, rfl, rfl⟩))⟩
  · by_cases hd : tot (t.drop kk) ≤ 2100000000000000
    · exact ⟨_, _, _, _, _, _, _, _, sumV_no (by omega), sumV_no (by omega), sumV_yes hd, sumV_yes (by rw [sm]; omega), two _ _ (by omega) (by omega) h2 hd, .inr (.inl ⟨rfl, rfl, rfl⟩)⟩
    · exact ⟨_, _, _, _, _, _, _, _, sumV_no (by omega), sumV_no (by omega), sumV_no (by omega), sumV_yes (by rw [sm]; omega), two _ _ (by omega) (by omega) (by omega) (by omega), .inr (.inl ⟨rfl, rfl, rfl⟩)⟩

set_option maxRecDepth 100000 in
set_option maxHeartbeats 4000000 in
theorem walk_fit (v : Value) (l : List Int) (a : Int) (w : World) (hs : SlK .u64 w v l) (hu : U64s l) (hl : l.length ≤ 60) :
    Calls Try.prog 6 #[v, .int .i64 a] w (YesK w) := by
  obtain ⟨i0, hi, hz0, hz1, hz2⟩ := info_parts infoU64
  have HI := Lib.hid (And.intro hi (And.intro hz0 (And.intro hz1 hz2)))
  have HU := Lib.hid hu
  have HS := Lib.hid hs
  have hl2 : (l.length : Int) ≤ 60 := by omega
  obtain ⟨A, c, rfl, hc, hA, hr⟩ := hs
  clear hi hz0 hz1 hz2 hu hA hr
  go_enter Try.func6, Try.ntmps6
  go_wp2
  go_loopw [5, 6, 7, 25] (fun x bk _ i wr => ∃ (k : Nat) (t : List Int), k ≤ l.length ∧ i = .int .i64 k ∧ Hid (t.length = k ∧ Two w wr x bk t)) (fun _ _ _ i _ => l.length - (intOf i).toNat)
  case atStart => exact ⟨0, [], by omega, rfl, Lib.hid ⟨rfl, (fun x hx => by cases hx), OwnK.none .u64 w _ _, Below.refl _ _, w.heap.size, Nat.le_refl _, OwnK.none .u64 w _ _, (fun g h => by cases h)⟩⟩
  case round =>
    obtain ⟨k, t, hk, rfl, H⟩ := hrel
    by_cases hlt : k < l.length
    · obtain ⟨htl, h2⟩ := H.out
      obtain ⟨A', c', e, _, _, hr⟩ := HS.out
      injection e with e1 e2 e3
      subst e1
      subst e3
      obtain ⟨b0, off, rfl, hb, hrun⟩ := hr (by intro h; rw [h] at hlt; simp at hlt)
      have HC0 := Lib.hid (fun W (hW : Below w.heap.size w W) => (World.cell?_of_block (hW.block b0 hb)).trans (hrun k hlt))
      have hcell := HC0.out _ h2.2.2.1
      obtain ⟨x, hx⟩ : ∃ x, l.getD k 0 = x := ⟨_, rfl⟩
      have hxb := HU.out.at k
      rw [hx] at hcell hxb HC0
      obtain ⟨y, hy⟩ : ∃ y, x.tmod 2200000000000000 = y := ⟨_, rfl⟩
      have hyb : 0 ≤ y ∧ y ≤ 18446744073709551615 := by
        rw [← hy, Int.tmod_eq_emod_of_nonneg hxb.1]
        omega
      obtain ⟨A5, c5, hv5⟩ := h2.2.1.slice
      obtain ⟨B, hBB, hob, _⟩ := h2.2.2.2
      obtain ⟨A6, c6, hv6⟩ := hob.slice
      rw [List.length_reverse] at hv6
      rw [hv5, hv6]
      have HV5 := Lib.hid hv5
      have HV6 := Lib.hid hv6
      have HYB := Lib.hid hyb
      have HTW := Lib.hid h2
      have HTL := Lib.hid htl
      have HLT := Lib.hid hlt
      clear hrun hb hr hx hxb hyb h2 htl hob hv5 hv6 hBB
      go_wp2_with (first | (at_builtin; refine wpList_append_nums .u64 8 (by omega) rfl (.tmp 28) (.tmp 34) 22 rfl w.heap.size 23 i0 Try.underlying22 HI.out.1 HI.out.2.1 HI.out.2.2.1 HI.out.2.2.2 _ t HV5.out.symm (HTW.out.2.1.below ((Below.refl _ _).alloc (Nat.le_refl _) _)) _ [y] rfl (SlK.fresh .u64 wr 23 [y]) (by have := HTL.out; have := HLT.out; simp; omega) (Nat.le_trans HTW.out.2.2.1.size (by simp)) ?_; intro v1 w1 ho1 hg1; have H1 := Lib.hid (HTW.out.first ho1 hg1); have hcell1 := HC0.out _ H1.out.1; have HO1 := Lib.hid ho1; clear ho1 hg1) | (at_builtin; refine wpList_append_nums .u64 8 (by omega) rfl (.tmp 41) (.tmp 42) 22 rfl w1.heap.size 23 i0 Try.underlying22 HI.out.1 HI.out.2.1 HI.out.2.2.1 HI.out.2.2.2 _ [y] rfl (OwnK.fresh .u64 w1 23 [y] (by simp [maxLen])) _ t.reverse HV6.out.symm (H1.out.2.below ((Below.refl _ _).alloc (Nat.le_refl _) _)) (by have := HTL.out; have := HLT.out; simp; omega) (by simp) ?_; intro v2 w2 ho2 hg2; have H2 := Lib.hid (HTW.out.second HYB.out H1.out.1 HO1.out ho2 hg2); clear ho2 hg2))
      go_roundw
      case rel => exact ⟨k + 1, t ++ [y], by have := HLT.out; omega, by go_num, Lib.hid ⟨by simp [HTL.out], H2.out⟩⟩
      case measure => have := HLT.out; simp [intOf]; omega
    · obtain ⟨htl, h2⟩ := H.out
      obtain ⟨B, hBB, hob, _⟩ := h2.2.2.2
      have hum : t.length ≤ maxLen := by simp [maxLen]; omega
      have HB := Lib.hid h2.2.2.1
      have HSX := Lib.hid (sum_any _ t wr h2.2.1.sl h2.1 hum)
      have HSB := Lib.hid (sum_any _ t.reverse wr hob.sl (fun x hx => h2.1 x (List.mem_reverse.1 hx)) (by simpa using hum))
      rw [show sumV t.reverse = sumV t by unfold sumV; rw [tot_rev]] at HSB
      obtain ⟨m, hm, hm2⟩ := kmask_i64 a 8 (by omega) 255 (by decide)
      obtain ⟨n, hn⟩ : ∃ n, t.length = n := ⟨_, rfl⟩
      obtain ⟨kk, hkk⟩ : ∃ kk, m % (n + 1) = kk := ⟨_, rfl⟩
      have hkn : kk ≤ n := by have := Nat.mod_lt m (show 0 < n + 1 by omega); omega
      have hk1 : (m : Int).tmod ((n : Int) + 1) = kk := by
        rw [Int.tmod_eq_emod_of_nonneg (by omega), ← hkk]; rfl
      have hz1 : ((n : Int) + 1 = 0) = False := by simp; omega
      have hn60 : (n : Int) ≤ 60 := by omega
      obtain ⟨A6, c6, e6⟩ := hob.slice
      rw [List.length_reverse, hn] at e6
      obtain ⟨p, o, pk, ok, pd, od, pe, oe, v1, v2, v3, v4, hu4, hor⟩ := four t h2.1 kk
      have hkl : k = l.length := by omega
      have htk : (t.take kk).length = kk := by rw [List.length_take]; omega
      have htd : (t.drop kk).length = n - kk := by rw [List.length_drop]; omega
      have hutk := h2.1.take kk
      have hutd := h2.1.drop kk
      rw [v1] at HSX HSB
      have HE := Lib.hid (fun W => sum_any (.slice (some ⟨W.heap.size, 0, none⟩) 2 2) [pk, pd] (W.alloc (.cells #[.int .u64 pk, .int .u64 pd] 23)) (SlK.fresh .u64 W 23 [pk, pd]) hu4 (by simp [maxLen]))
      rw [v4] at HE
      rcases h2.2.1.form with ⟨hx, ht0⟩ | ⟨g, cap, cur, hx, hbg, hbox, hlc, _⟩
      · subst ht0
        obtain rfl : n = 0 := by rw [← hn]; rfl
        obtain rfl : kk = 0 := by omega
        rw [hx] at HSX
        rw [e6] at HSB
        rw [hx, e6]
        rw [List.take_nil] at v2
        rw [List.drop_nil] at v3
        have HK := Lib.hid (sum_any (.slice none 0 0) [] wr (SlK.nil .u64 wr) (by intro x hx; cases hx) (by simp [maxLen]))
        have HD := HK
        rw [v2] at HK
        rw [v3] at HD
        have hk1' : (m : Int).tmod 1 = 0 := by simp
        clear hk1 hz1
        have hk0 : k = 0 := by have := htl; simp at this; omega
        subst hk0
        have hl0 : l.length = 0 := hkl.symm
        have HOR := Lib.hid hor
        clear htl h2 hBB hob v1 v2 v3 v4 hu4 hum hm2 hkk e6 H hk htk htd hutk hutd hx hor hn60 hkn hl2 hlt hkl
        rcases HOR.out with ⟨rfl, rfl, rfl, rfl, rfl⟩ | ⟨rfl, rfl, rfl⟩ | ⟨rfl, rfl, rfl, rfl⟩ | ⟨rfl, rfl, rfl, rfl, rfl⟩
        all_goals
          clear HOR
          go_wp2_with fail
          refine HSX.out.mono ?_
          rintro e w' ⟨rfl, rfl⟩
          go_wp2_with fail
          refine HSB.out.mono ?_
          rintro e w' ⟨rfl, rfl⟩
          go_wp2_with fail
          refine HK.out.mono ?_
          rintro e w' ⟨rfl, rfl⟩
          go_wp2_with fail
          refine HD.out.mono ?_
          rintro e w' ⟨rfl, rfl⟩
          go_wp2_with fail
          refine (HE.out _).mono ?_
          rintro e w' ⟨rfl, hw9⟩
          have HB9 := Lib.hid (show Below w.heap.size w w' from hw9 ▸ HB.out.alloc HB.out.size _)
          clear hw9
          obtain ⟨w9, rfl⟩ : ∃ W : World, W = w' := ⟨_, rfl⟩
          go_wp2_with (first | (refine (awake5_any _).mono ?_; rintro e w8 ⟨rfl, hb8⟩; have HB8 := Lib.hid (HB9.out.trans (hb8.mono HB9.out.size)); clear hb8))
          go_ret
          exact ⟨rfl, HB8.out⟩
      · have hown := h2.2.1
        rw [hx] at hown
        have hat := fun i hi => hown.at i hi
        clear hown
        rw [hn] at hx hlc
        have HK := Lib.hid (sum_any (.slice (some ⟨g, 0, none⟩) kk cap) (t.take kk) wr ⟨_, cap, by rw [htk], by omega, (fun h => by cases h), fun _ => ⟨g, 0, rfl, hbox.lt, (show RunK .u64 wr g 0 t from fun i hi => by rw [Nat.zero_add]; exact hat i hi).take kk⟩⟩ hutk (by simp [maxLen]; omega))
        rw [v2] at HK
        rw [hx] at HSX
        rw [e6] at HSB
        rw [hx, e6]
        have hcn : (n : Int) ≤ (cap : Int) := by omega
        have hkc : (kk : Int) ≤ (cap : Int) := by omega
        have hkn2 : (kk : Int) ≤ (n : Int) := by omega
        have HAT := Lib.hid hat
        by_cases hck : cap = kk
        · obtain rfl : cap = kk := hck
          obtain rfl : cap = n := by omega
          have HD := Lib.hid (sum_any (.slice (some ⟨g, 0, none⟩) 0 0) (t.drop cap) wr ⟨some ⟨g, 0, none⟩, 0, by rw [htd]; simp, by rw [htd]; simp, (fun _ => rfl), fun h => by rw [← List.length_pos_iff, htd] at h; omega⟩ hutd (by simp [maxLen]; omega))
          rw [v3] at HD
          have HOR := Lib.hid hor
          clear htl h2 hBB hob v1 v2 v3 v4 hu4 hum hm2 hn hkk e6 H hk htk htd hutk hutd hx hbox hor hat
          subst hkl
          rcases HOR.out with ⟨rfl, rfl, rfl, rfl, rfl⟩ | ⟨rfl, rfl, rfl⟩ | ⟨rfl, rfl, rfl, rfl⟩ | ⟨rfl, rfl, rfl, rfl, rfl⟩
          all_goals
            clear HOR
            go_wp2_with fail
            refine HSX.out.mono ?_
            rintro e w' ⟨rfl, rfl⟩
            go_wp2_with fail
            refine HSB.out.mono ?_
            rintro e w' ⟨rfl, rfl⟩
            go_wp2_with fail
            refine HK.out.mono ?_
            rintro e w' ⟨rfl, rfl⟩
            go_wp2_with fail
            refine HD.out.mono ?_
            rintro e w' ⟨rfl, rfl⟩
            go_wp2_with fail
            refine (HE.out _).mono ?_
            rintro e w' ⟨rfl, hw9⟩
            have HB9 := Lib.hid (show Below w.heap.size w w' from hw9 ▸ HB.out.alloc HB.out.size _)
            clear hw9
            obtain ⟨w9, rfl⟩ : ∃ W : World, W = w' := ⟨_, rfl⟩
            go_wp2_with (first | (refine (awake5_any _).mono ?_; rintro e w8 ⟨rfl, hb8⟩; have HB8 := Lib.hid (HB9.out.trans (hb8.mono HB9.out.size)); clear hb8))
            go_ret
            exact ⟨rfl, HB8.out⟩
        · have HD := Lib.hid (sum_any (.slice (some ⟨g, kk, none⟩) (n - kk) (cap - kk)) (t.drop kk) wr ⟨_, cap - kk, by rw [htd], by rw [htd]; omega, (fun h => by cases h), fun _ => ⟨g, kk, rfl, hbox.lt, by have := (show RunK .u64 wr g 0 t from fun i hi => by rw [Nat.zero_add]; exact hat i hi).drop kk; rw [Nat.zero_add] at this; exact this⟩⟩ hutd (by simp [maxLen]; omega))
          rw [v3] at HD
          have HOR := Lib.hid hor
          clear htl h2 hBB hob v1 v2 v3 v4 hu4 hum hm2 hn hkk e6 H hk htk htd hutk hutd hx hbox hor hat
          subst hkl
          rcases HOR.out with ⟨rfl, rfl, rfl, rfl, rfl⟩ | ⟨rfl, rfl, rfl⟩ | ⟨rfl, rfl, rfl, rfl⟩ | ⟨rfl, rfl, rfl, rfl, rfl⟩
          all_goals
            clear HOR
            go_wp2_with fail
            refine HSX.out.mono ?_
            rintro e w' ⟨rfl, rfl⟩
            go_wp2_with fail
            refine HSB.out.mono ?_
            rintro e w' ⟨rfl, rfl⟩
            go_wp2_with fail
            refine HK.out.mono ?_
            rintro e w' ⟨rfl, rfl⟩
            go_wp2_with fail
            refine HD.out.mono ?_
            rintro e w' ⟨rfl, rfl⟩
            go_wp2_with fail
            refine (HE.out _).mono ?_
            rintro e w' ⟨rfl, hw9⟩
            have HB9 := Lib.hid (show Below w.heap.size w w' from hw9 ▸ HB.out.alloc HB.out.size _)
            clear hw9
            obtain ⟨w9, rfl⟩ : ∃ W : World, W = w' := ⟨_, rfl⟩
            go_wp2_with (first | (refine (awake5_any _).mono ?_; rintro e w8 ⟨rfl, hb8⟩; have HB8 := Lib.hid (HB9.out.trans (hb8.mono HB9.out.size)); clear hb8))
            go_ret
            exact ⟨rfl, HB8.out⟩

theorem u64s_of {l : List Int} (h : ∀ x ∈ l, (Lit.int .u64 x).wf = true) : U64s l := fun x hx => bd_u64 (h x hx)
theorem walk (v : Value) (l : List Int) (a : Int) (w : World) (hs : SlK .u64 w v l) (hu : U64s l) (hm : l.length ≤ maxLen) :
    Calls Try.prog 6 #[v, .int .i64 a] w (YesK w) := by
  by_cases h : l.length ≤ 60
  · exact walk_fit v l a w hs hu h
  · exact walk_long v l a w hs hm (by omega)

set_option maxRecDepth 100000 in
theorem lifted (os : Os) (started : os.Started) (H : Type) (enc : TypeId × Value → H) :
    ReturnsInHanded {} Try.checked os 6 .any (Rows.monyOrderSpec.pre6 enc Try.prog Try.f6 Rows.monyOrderRow.domain false) (Rows.monyOrderSpec.post enc Try.prog Try.f6 false true false false) := by
  refine returnsInHanded_of_change (C := Try.checked) ownKnobNone started (by kernel_rfl) Try.func6
    (ChangeSpec.witness6 (enc := enc) (C := Try.checked) false ⟨#[], #[.slice none 0 0, .int .i64 0], []⟩ 8 (by kernel_rfl) (by kernel_rfl) (by kernel_rfl) (by kernel_rfl)) ?_
  intro W base args ds gs before hval0 hW _ _
  have hval : ∀ (j : Nat) t v, Try.f6.params[j]? = some t → args[j]? = some v → Value.okWide Try.prog W .any base t v := hval0
  have hW' := hW
  obtain ⟨p, q, hA0, hV, rfl, _, _⟩ := hW
  have hA : DataW.TrodAll enc Try.prog W 0 (fun _ => true) true Try.f6.params.toList args.toList ds p := hA0
  rw [Try.params6] at hA hval
  obtain ⟨v0, vs0, d0, ds0, p0, q0, hargs, rfl, rfl, h0, r0⟩ := trodAll_cons hA
  obtain ⟨v1, vs1, d1, ds1, p1, q1, rfl, rfl, rfl, h1, r1⟩ := trodAll_cons r0
  obtain ⟨rfl, rfl, rfl⟩ := trodAll_nil r1
  obtain rfl : args = #[v0, v1] := by cases args; simp_all
  obtain ⟨rfl, rfl⟩ := trodVars_none hV
  obtain ⟨l0, s0, y0, z0⟩ := ks_arg Try.underlying22 Try.underlying23 (by kernel_rfl) (hval 0 22 v0 rfl rfl) h0
  obtain ⟨a1, rfl, rfl, rfl, w1⟩ := open_int Try.underlying3 (hval 1 3 v1 rfl rfl) h1
  have b1 := bd_i64 w1
  clear hA0 hval0
  refine (walk v0 l0 a1 W s0 (u64s_of y0) z0).mono fun e W' ⟨he, hb⟩ => ?_
  subst he
  exact ⟨_, rfl, law_post hW' rfl rfl (by kernel_rfl) rfl hb⟩

set_option maxRecDepth 100000 in
theorem over : Rows.monyOrderRow.holds Try.pinned (OpenSpec.ofChange Rows.monyOrderSpec) :=
  OpenClaim.holds_of_wide 6 Try.f6 rfl rfl rfl rfl rfl rfl rfl ⟨rfl, rfl, rfl, rfl, rfl⟩ rfl rfl rfl rfl rfl (by kernel_rfl) Try.func6 (by kernel_rfl)
    (of_decide_eq_true (by kernel_rfl)) (by unfold Func.isWrapper; first | (rw [if_pos (by decide +kernel)]; kernel_rfl) | (rw [if_neg (by decide +kernel)]; exact ⟨rfl, rfl⟩))
    (fun os started H enc _ => lifted os started H enc)

/-- The statement. -/
theorem proved : Rows.MonyOrderSaid :=
  over
end Go.Proofs.Ytafmioknaclfiaa.lawMoOrder
