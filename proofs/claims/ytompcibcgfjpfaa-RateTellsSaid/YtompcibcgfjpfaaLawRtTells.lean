/- Any two rates stand as the document says, exactly, and any rate by a size has the fee, any fee the rate, rounded up, that it says: for any two rates, any fee, any size and any rates the law RateTells returns true and leaves them as they were. No further condition. -/
import Derived.Test.YtompcibcgfjpfaaRtH
import Derived.Test.YtompcibcgfjpfaaRtR
import Derived.Test.YtompcibcgfjpfaaRtT
import Derived.Test.YtompcibcgfjpfaaNumK
import Derived.Deep.DeepCutAuto
import Derived.RegionTactic
import Derived.ChangeAlike
namespace Go.Proofs.Ytompcibcgfjpfaa.lawRtTells
open Go.ChangeShapes Go.WideShapes Go.ChangeAt Go.RowKit

/-- Rates in a row of their own. -/
theorem rates_fresh (w : World) (cs : Array Value) (l : List RateD) (hl : l.length ≤ maxLen) (hf : ∀ d ∈ l, d.Fit) (hc : ∀ i d, l[i]? = some d → cs[i * 2]? = some (.int .u64 (d.fee : Int)) ∧ cs[i * 2 + 1]? = some (.int .i64 d.size)) :
    RatesR (w.alloc (.cells cs 24)) (.slice (some ⟨w.heap.size, 0, none⟩) l.length l.length) l := by
  have hx := Box.fresh w 24 cs
  refine ⟨some ⟨w.heap.size, 0, none⟩, l.length, rfl, Nat.le_refl _, hl, (fun h => by cases h), fun _ => ⟨w.heap.size, 0, rfl, by simp, fun i d hi => ?_⟩⟩
  obtain ⟨h1, h2⟩ := hc i d hi
  refine ⟨_, rfl, fun j v hj => ?_, rfl, hf d (List.mem_of_getElem? hi)⟩
  rw [hx.cell, Nat.zero_add]
  match j, hj with
  | 0, hj => rw [← hj]; exact h1
  | 1, hj => rw [← hj]; exact h2
theorem four_rates (w : World) (a b c d : RateD) (ha : a.Fit) (hb : b.Fit) (hc : c.Fit) (hd : d.Fit) :
    RatesR (w.alloc (.cells #[.int .u64 (a.fee : Int), .int .i64 a.size, .int .u64 (b.fee : Int), .int .i64 b.size, .int .u64 (c.fee : Int), .int .i64 c.size, .int .u64 (d.fee : Int), .int .i64 d.size] 24)) (.slice (some ⟨w.heap.size, 0, none⟩) 4 4) [a, b, c, d] := by
  refine rates_fresh w _ [a, b, c, d] (by simp [maxLen]) (fun x hx => ?_) (fun i x hx => ?_)
  · simp only [List.mem_cons, List.not_mem_nil, or_false] at hx
    rcases hx with rfl | rfl | rfl | rfl <;> assumption
  · match i, hx with
    | 0, hx => obtain rfl := Option.some.inj hx; exact ⟨rfl, rfl⟩
    | 1, hx => obtain rfl := Option.some.inj hx; exact ⟨rfl, rfl⟩
    | 2, hx => obtain rfl := Option.some.inj hx; exact ⟨rfl, rfl⟩
    | 3, hx => obtain rfl := Option.some.inj hx; exact ⟨rfl, rfl⟩
    | k + 4, hx => simp at hx

set_option maxRecDepth 100000 in
set_option maxHeartbeats 1000000 in
theorem walk_long (a b : RateD) (v : Value) (per : Nat) (n : Int) (l : List RateD) (w : World) (hl : RatesR w v l) (h : 40 < l.length) :
    Calls Try.prog 5 #[.agg #[.int .u64 (a.fee : Int), .int .i64 a.size], .agg #[.int .u64 (b.fee : Int), .int .i64 b.size], .int .u64 (per : Int), .int .i64 n, v] w (YesK w) := by
  obtain ⟨A, c, rfl, _⟩ := hl
  obtain ⟨N, hN⟩ : ∃ N, l.length = N := ⟨_, rfl⟩
  rw [hN] at h ⊢
  have g : (40 < (N : Int)) = True := by simp; omega
  have g2 : (40 < N) = True := by simp [h]
  have HAW := Lib.hid awake7_any
  clear hN h
  go_enter Try.func5, Try.ntmps5
  go_wp2_with fail
  refine (HAW.out _).mono ?_
  rintro e w1 ⟨rfl, hb⟩
  have HB := Lib.hid ((((Below.refl w.heap.size w).alloc (Nat.le_refl _) (.cells #[.int .u64 (a.fee : Int), .int .i64 a.size] 24)).alloc (by simp) (.cells #[.int .u64 (b.fee : Int), .int .i64 b.size] 24)).trans (hb.mono (by simp; omega)))
  clear hb
  go_wp2
  go_ret
  exact ⟨rfl, HB.out⟩

set_option maxRecDepth 100000 in
set_option maxHeartbeats 8000000 in
theorem walk_short (a b : RateD) (v : Value) (per : Nat) (n : Int) (l : List RateD) (w : World) (ha : a.Fit) (hb : b.Fit) (hper : per < 18446744073709551616) (hl : RatesR w v l) (h : l.length ≤ 40) :
    Calls Try.prog 5 #[.agg #[.int .u64 (a.fee : Int), .int .i64 a.size], .agg #[.int .u64 (b.fee : Int), .int .i64 b.size], .int .u64 (per : Int), .int .i64 n, v] w (YesK w) := by
  have HL := Lib.hid hl
  obtain ⟨A, c, rfl, _⟩ := hl
  obtain ⟨fa, na⟩ := a
  obtain ⟨fb, nb⟩ := b
  dsimp only
  -- the numbers
  obtain ⟨m, em, hm⟩ := kmask_i64 n 2 (by omega) 3 (by decide)
  obtain ⟨m1, e1, h1⟩ := kmask_u64 (fa : Int) 16 (by omega) 65535 (by decide)
  obtain ⟨m2, e2, h2⟩ := kmask_i64 nb 8 (by omega) 255 (by decide)
  obtain ⟨m3, e3, h3⟩ := kmask_u64 (fb : Int) 16 (by omega) 65535 (by decide)
  obtain ⟨m4, e4, h4⟩ := kmask_i64 na 8 (by omega) 255 (by decide)
  obtain ⟨k1, e5, h5⟩ := kmask_i64 n 16 (by omega) 65535 (by decide)
  obtain ⟨k2, e6, h6⟩ := kmask_i64 n 3 (by omega) 7 (by decide)
  obtain ⟨p1, e7, h7⟩ := kmask_u64 (per : Int) 20 (by omega) 1048575 (by decide)
  obtain ⟨t1, ht1⟩ : ∃ t, (fa + m) % 18446744073709551616 = t := ⟨_, rfl⟩
  obtain ⟨NF, hNF⟩ : ∃ t, (t1 + 18446744073709551615) % 18446744073709551616 = t := ⟨_, rfl⟩
  have e8 : IntKind.u64.wrap (m : Int) = (m : Int) := fit_u64 m (by omega)
  have e9 : IntKind.u64.wrap ((fa : Int) + (m : Int)) = (t1 : Int) := by rw [IntKind.wrap_u64]; omega
  have e10 : IntKind.u64.wrap ((t1 : Int) - 1) = (NF : Int) := by rw [IntKind.wrap_u64]; omega
  have HFA : Hid ((⟨fa, na⟩ : RateD).Fit) := Lib.hid ha
  have HFB : Hid ((⟨fb, nb⟩ : RateD).Fit) := Lib.hid hb
  have HFN : Hid ((⟨NF, na⟩ : RateD).Fit) := Lib.hid ⟨by show NF < _; omega, ha.2⟩
  have HF1 : Hid ((⟨m1, (m2 : Int)⟩ : RateD).Fit) := Lib.hid ⟨by show m1 < _; omega, by show _ ≤ (m2 : Int); omega, by show (m2 : Int) ≤ _; omega⟩
  have HF2 : Hid ((⟨m3, (m4 : Int)⟩ : RateD).Fit) := Lib.hid ⟨by show m3 < _; omega, by show _ ≤ (m4 : Int); omega, by show (m4 : Int) ≤ _; omega⟩
  have HP : Hid (per < 18446744073709551616 ∧ p1 < 18446744073709551616) := Lib.hid ⟨hper, by omega⟩
  have HLEN := Lib.hid h
  have g : (40 < (l.length : Int)) = False := by simp; omega
  have g2 : (40 < l.length) = False := by simp; omega
  clear hm h1 h2 h3 h4 h5 h6 h7 ht1 hNF ha hb hper h
  have HAW := Lib.hid awake7_any
  -- the worlds
  have hb1 : Below w.heap.size w ((w.alloc (.cells #[.int .u64 (fa : Int), .int .i64 na] 24)).alloc (.cells #[.int .u64 (fb : Int), .int .i64 nb] 24)) := ((Below.refl _ _).alloc (Nat.le_refl _) _).alloc (by simp) _
  have xa : Box ((w.alloc (.cells #[.int .u64 (fa : Int), .int .i64 na] 24)).alloc (.cells #[.int .u64 (fb : Int), .int .i64 nb] 24)) w.heap.size 24 #[.int .u64 (fa : Int), .int .i64 na] := (Box.fresh _ _ _).below ((Below.refl _ _).alloc (by simp) _)
  have xb : Box ((w.alloc (.cells #[.int .u64 (fa : Int), .int .i64 na] 24)).alloc (.cells #[.int .u64 (fb : Int), .int .i64 nb] 24)) (w.heap.size + 1) 24 #[.int .u64 (fb : Int), .int .i64 nb] := by
    have := Box.fresh (w.alloc (.cells #[.int .u64 (fa : Int), .int .i64 na] 24)) 24 #[.int .u64 (fb : Int), .int .i64 nb]
    have h2 : (w.alloc (.cells #[.int .u64 (fa : Int), .int .i64 na] 24)).heap.size = w.heap.size + 1 := by simp
    rw [h2] at this
    exact this
  have hs1 : ((w.alloc (.cells #[.int .u64 (fa : Int), .int .i64 na] 24)).alloc (.cells #[.int .u64 (fb : Int), .int .i64 nb] 24)).heap.size = w.heap.size + 1 + 1 := by simp
  have c1 : ((w.alloc (.cells #[.int .u64 (fa : Int), .int .i64 na] 24)).alloc (.cells #[.int .u64 (fb : Int), .int .i64 nb] 24)).cell? ⟨w.heap.size, 0, none⟩ = some (.int .u64 (fa : Int)) := xa.cell 0
  have c2 : ((w.alloc (.cells #[.int .u64 (fa : Int), .int .i64 na] 24)).alloc (.cells #[.int .u64 (fb : Int), .int .i64 nb] 24)).cell? ⟨w.heap.size, 1, none⟩ = some (.int .i64 na) := xa.cell 1
  obtain ⟨W2, hW2⟩ : ∃ W, ((w.alloc (.cells #[.int .u64 (fa : Int), .int .i64 na] 24)).alloc (.cells #[.int .u64 (fb : Int), .int .i64 nb] 24)).alloc (.cells #[.int .u64 (NF : Int), .int .i64 na] 24) = W := ⟨_, rfl⟩
  have b12 : Below ((w.alloc (.cells #[.int .u64 (fa : Int), .int .i64 na] 24)).alloc (.cells #[.int .u64 (fb : Int), .int .i64 nb] 24)).heap.size ((w.alloc (.cells #[.int .u64 (fa : Int), .int .i64 na] 24)).alloc (.cells #[.int .u64 (fb : Int), .int .i64 nb] 24)) W2 := by rw [← hW2]; exact (Below.refl _ _).alloc (Nat.le_refl _) _
  have xn : Box W2 (w.heap.size + 1 + 1) 24 #[.int .u64 (NF : Int), .int .i64 na] := by
    have := Box.fresh ((w.alloc (.cells #[.int .u64 (fa : Int), .int .i64 na] 24)).alloc (.cells #[.int .u64 (fb : Int), .int .i64 nb] 24)) 24 #[.int .u64 (NF : Int), .int .i64 na]
    rw [hs1] at this
    rw [← hW2]
    exact this
  have xa2 := xa.below b12
  have xb2 := xb.below b12
  have hs2 : W2.heap.size = w.heap.size + 1 + 1 + 1 := by rw [← hW2]; simp
  have d1 : W2.cell? ⟨w.heap.size, 0, none⟩ = some (.int .u64 (fa : Int)) := xa2.cell 0
  have d2 : W2.cell? ⟨w.heap.size, 1, none⟩ = some (.int .i64 na) := xa2.cell 1
  have d3 : W2.cell? ⟨w.heap.size + 1, 0, none⟩ = some (.int .u64 (fb : Int)) := xb2.cell 0
  have d4 : W2.cell? ⟨w.heap.size + 1, 1, none⟩ = some (.int .i64 nb) := xb2.cell 1
  have d5 : W2.cell? ⟨w.heap.size + 1 + 1, 0, none⟩ = some (.int .u64 (NF : Int)) := xn.cell 0
  have d6 : W2.cell? ⟨w.heap.size + 1 + 1, 1, none⟩ = some (.int .i64 na) := xn.cell 1
  have hr := four_rates W2 ⟨fa, na⟩ ⟨fb, nb⟩ ⟨NF, na⟩ ⟨m1, (m2 : Int)⟩ HFA.out HFB.out HFN.out HF1.out
  dsimp only at hr
  obtain ⟨W3, hW3⟩ : ∃ W, W2.alloc (.cells #[.int .u64 (fa : Int), .int .i64 na, .int .u64 (fb : Int), .int .i64 nb, .int .u64 (NF : Int), .int .i64 na, .int .u64 (m1 : Int), .int .i64 (m2 : Int)] 24) = W := ⟨_, rfl⟩
  have b23 : Below W2.heap.size W2 W3 := by rw [← hW3]; exact (Below.refl _ _).alloc (Nat.le_refl _) _
  rw [hW3] at hr
  have HB3 : Hid (Below w.heap.size w W3) := Lib.hid ((hb1.trans (b12.mono hb1.size)).trans (b23.mono (hb1.trans (b12.mono hb1.size)).size))
  have HX := Lib.hid (fun W (hW : Below W3.heap.size W3 W) => show W.cell? ⟨w.heap.size, 0, none⟩ = some (.int .u64 (fa : Int)) ∧ W.cell? ⟨w.heap.size, 1, none⟩ = some (.int .i64 na) ∧ W.cell? ⟨(w.heap.size + 1), 0, none⟩ = some (.int .u64 (fb : Int)) ∧ W.cell? ⟨(w.heap.size + 1), 1, none⟩ = some (.int .i64 nb) ∧ W.cell? ⟨(w.heap.size + 1 + 1), 0, none⟩ = some (.int .u64 (NF : Int)) ∧ W.cell? ⟨(w.heap.size + 1 + 1), 1, none⟩ = some (.int .i64 na) from by
    have ya := (xa2.below b23).below hW
    have yb := (xb2.below b23).below hW
    have yn := (xn.below b23).below hW
    exact ⟨ya.cell 0, ya.cell 1, yb.cell 0, yb.cell 1, yn.cell 0, yn.cell 1⟩)
  have HR := Lib.hid (fun W (hW : Below W3.heap.size W3 W) => Many.below hr hW (fun cs x h => h))
  have HW2 := Lib.hid hW2
  have HW3 := Lib.hid hW3
  clear hb1 xa xb hs1 b12 xn xa2 xb2 hs2 hr b23 hW2 hW3
  go_enter Try.func5, Try.ntmps5
  go_upto_region 4 with fail
  rw [HW2.out]
  clear c1 c2 HW2
  go_wp2_with fail
  rw [HW3.out]
  clear HW3 d1 d2 d3 d4 d5 d6
  go_loopw [46] (fun i wr => ∃ k : Nat, k ≤ 4 ∧ i = .int .i64 k ∧ Hid (Below W3.heap.size W3 wr)) (fun i _ => 4 - (intOf i).toNat)
  case atStart => exact ⟨0, by omega, rfl, Lib.hid (Below.refl _ _)⟩
  case round =>
    obtain ⟨k, hk, rfl, H⟩ := hrel
    by_cases hlt : k < 4
    · obtain ⟨blk, off, cs, hA, hbl, -, hcs, hR, hfit⟩ := (HR.out wr H.out).at hlt
      subst hR
      injection hA with hA
      injection hA with hA1 hA2 _
      subst hA1
      subst hA2
      obtain ⟨⟨xf, xs⟩, hx⟩ : ∃ x, ([⟨fa, na⟩, ⟨fb, nb⟩, ⟨NF, na⟩, ⟨m1, (m2 : Int)⟩] : List RateD)[k] = x := ⟨_, rfl⟩
      rw [hx] at hcs hfit
      dsimp only at hcs
      have f0 := hcs 0 _ rfl
      have f1 := hcs 1 _ rfl
      simp only [Nat.add_zero, Nat.zero_add] at f0 f1
      have HFX := Lib.hid hfit
      obtain ⟨V1, hV1⟩ : ∃ W, wr.alloc (.cells #[.int .u64 (xf : Int), .int .i64 xs] 24) = W := ⟨_, rfl⟩
      have bV : Below wr.heap.size wr V1 := by rw [← hV1]; exact (Below.refl _ _).alloc (Nat.le_refl _) _
      have b3V : Below W3.heap.size W3 V1 := H.out.trans (bV.mono H.out.size)
      have bx : Box V1 wr.heap.size 24 #[.int .u64 (xf : Int), .int .i64 xs] := by rw [← hV1]; exact Box.fresh _ _ _
      obtain ⟨d1, d2, d3, d4, d5, d6⟩ := HX.out V1 b3V
      have hr2 := four_rates V1 ⟨fa, na⟩ ⟨fb, nb⟩ ⟨NF, na⟩ ⟨m3, (m4 : Int)⟩ HFA.out HFB.out HFN.out HF2.out
      dsimp only at hr2
      obtain ⟨V2, hV2⟩ : ∃ W, V1.alloc (.cells #[.int .u64 (fa : Int), .int .i64 na, .int .u64 (fb : Int), .int .i64 nb, .int .u64 (NF : Int), .int .i64 na, .int .u64 (m3 : Int), .int .i64 (m4 : Int)] 24) = W := ⟨_, rfl⟩
      have bV2 : Below V1.heap.size V1 V2 := by rw [← hV2]; exact (Below.refl _ _).alloc (Nat.le_refl _) _
      rw [hV2] at hr2
      have HB3V2 : Hid (Below W3.heap.size W3 V2) := Lib.hid (b3V.trans (bV2.mono b3V.size))
      have HXB := Lib.hid (bx.below bV2)
      have HR2 := Lib.hid (fun W (hW : Below V2.heap.size V2 W) => Many.below hr2 hW (fun cs x h => h))
      have HV1 := Lib.hid hV1
      have HV2 := Lib.hid hV2
      clear hbl hcs hfit hx bV b3V bx hr2 bV2 hV1 hV2 H
      go_upto_region 7 with fail
      rw [HV1.out]
      clear HV1 f0 f1
      go_wp2_with fail
      rw [HV2.out]
      clear HV2 d1 d2 d3 d4 d5 d6
      clear hlt
      obtain ⟨wo, rfl⟩ : ∃ wo : World, wo = wr := ⟨_, rfl⟩
      go_loopw [62] (fun i wr2 => ∃ j : Nat, j ≤ 4 ∧ i = .int .i64 j ∧ Hid (Below V2.heap.size V2 wr2)) (fun i _ => 4 - (intOf i).toNat)
      case atStart => exact ⟨0, by omega, rfl, Lib.hid (Below.refl _ _)⟩
      case round =>
        obtain ⟨wr2, rfl⟩ : ∃ x : World, x = wr := ⟨_, rfl⟩
        obtain ⟨j, hj, rfl, H⟩ := hrel
        by_cases hlt : j < 4
        · obtain ⟨blk, off, cs, hA, hbl, -, hcs, hR, hfit⟩ := (HR2.out wr2 H.out).at hlt
          subst hR
          injection hA with hA
          injection hA with hA1 hA2 _
          subst hA1
          subst hA2
          obtain ⟨⟨yf, ys⟩, hy⟩ : ∃ x, ([⟨fa, na⟩, ⟨fb, nb⟩, ⟨NF, na⟩, ⟨m3, (m4 : Int)⟩] : List RateD)[j] = x := ⟨_, rfl⟩
          rw [hy] at hcs hfit
          dsimp only at hcs
          have f0 := hcs 0 _ rfl
          have f1 := hcs 1 _ rfl
          simp only [Nat.add_zero, Nat.zero_add] at f0 f1
          obtain ⟨x1, x2, x3⟩ := HFX.out
          obtain ⟨y1, y2, y3⟩ := hfit
          dsimp only at x1 x2 x3 y1 y2 y3
          have CA := Lib.hid (fun W => compare_any xf xs yf ys x1 y1 x3 y3 W)
          have CB := Lib.hid (fun W => refcompare_any xf xs yf ys x1 y1 x3 y3 W)
          have CC := Lib.hid (fun W => compare_any yf ys xf xs y1 x1 y3 x3 W)
          have hV := rate_swap xf xs yf ys
          have hVb : -1 ≤ rateV xf xs yf ys ∧ rateV xf xs yf ys ≤ 1 := by unfold rateV ordV; repeat' split <;> omega
          rw [hV] at CC
          generalize rateV xf xs yf ys = V at *
          have en : IntKind.i64.wrap V = V := by rw [IntKind.wrap_i64]; omega
          obtain ⟨U1, hU1⟩ : ∃ W, wr2.alloc (.cells #[.int .u64 (yf : Int), .int .i64 ys] 24) = W := ⟨_, rfl⟩
          have bU : Below wr2.heap.size wr2 U1 := by rw [← hU1]; exact (Below.refl _ _).alloc (Nat.le_refl _) _
          have by1 : Box U1 wr2.heap.size 24 #[.int .u64 (yf : Int), .int .i64 ys] := by rw [← hU1]; exact Box.fresh _ _ _
          have bx1 := (HXB.out.below H.out).below bU
          have HU := Lib.hid (fun W (hW : Below U1.heap.size U1 W) => show W.cell? ⟨wo.heap.size, 0, none⟩ = some (.int .u64 (xf : Int)) ∧ W.cell? ⟨wo.heap.size, 1, none⟩ = some (.int .i64 xs) ∧ W.cell? ⟨wr2.heap.size, 0, none⟩ = some (.int .u64 (yf : Int)) ∧ W.cell? ⟨wr2.heap.size, 1, none⟩ = some (.int .i64 ys) from ⟨(bx1.below hW).cell 0, (bx1.below hW).cell 1, (by1.below hW).cell 0, (by1.below hW).cell 1⟩)
          have HBU := Lib.hid (H.out.trans (bU.mono H.out.size))
          have HU1 := Lib.hid hU1
          have hbd : Below U1.heap.size U1 U1.drew := (Below.refl _ _).drew
          have h10 := HU.out _ hbd
          clear hbl hcs hy x1 x2 x3 y1 y2 y3 hV hVb hU1 bU by1 bx1 H
          go_wp2_with fail
          rw [HU1.out]
          clear HU1 f0 f1
          refine wp_region_noPanic ?_
          refine wp_region_held_drew (S := (fun W => W.cell? ⟨wo.heap.size, 0, none⟩ = some (.int .u64 (xf : Int)) ∧ W.cell? ⟨wo.heap.size, 1, none⟩ = some (.int .i64 xs) ∧ W.cell? ⟨wr2.heap.size, 0, none⟩ = some (.int .u64 (yf : Int)) ∧ W.cell? ⟨wr2.heap.size, 1, none⟩ = some (.int .i64 ys))) (by kernel_rfl) ?_ (fun hHeld => ?_)
          · exact h10
          refine wpAnyH_take (i := 0) (oi := ⟨some 66, _, _, _, _, _⟩) (v := ?_) rfl (by kernel_rfl) (by kernel_rfl) (by kernel_rfl) (fun _ _ _ h => h) (Or.inl ⟨by rfl, ?_⟩) hHeld ?_
          rotate_left
          · (intro wx hSw; (try dsimp only at hSw); go_simp; try with_reducible rfl)
          try simp only [Act.put, List.setIfInBounds_toArray, List.set_cons_zero, List.set_cons_succ]
          refine wpAnyH_take (i := 1) (oi := ⟨some 67, _, _, _, _, _⟩) (v := ?_) rfl (by kernel_rfl) (by kernel_rfl) (by kernel_rfl) (fun _ _ _ h => h) (Or.inl ⟨by rfl, ?_⟩) hHeld ?_
          rotate_left
          · (intro wx hSw; (try dsimp only at hSw); go_simp; try with_reducible rfl)
          try simp only [Act.put, List.setIfInBounds_toArray, List.set_cons_zero, List.set_cons_succ]
          refine wpAnyH_take (i := 3) (oi := ⟨some 69, _, _, _, _, _⟩) (v := ?_) rfl (by kernel_rfl) (by kernel_rfl) (by kernel_rfl) (fun _ _ _ h => h) (Or.inl ⟨by rfl, ?_⟩) hHeld ?_
          rotate_left
          · (intro wx hSw; (try dsimp only at hSw); go_simp; try with_reducible rfl)
          try simp only [Act.put, List.setIfInBounds_toArray, List.set_cons_zero, List.set_cons_succ]
          refine wpAnyH_take (i := 4) (oi := ⟨some 70, _, _, _, _, _⟩) (v := ?_) rfl (by kernel_rfl) (by kernel_rfl) (by kernel_rfl) (fun _ _ _ h => h) (Or.inl ⟨by rfl, ?_⟩) hHeld ?_
          rotate_left
          · (intro wx hSw; (try dsimp only at hSw); go_simp; try with_reducible rfl)
          try simp only [Act.put, List.setIfInBounds_toArray, List.set_cons_zero, List.set_cons_succ]
          refine wpAnyH_ready (rs := [2]) (by kernel_rfl) (by simp) (AllReadyH.cons (o := ⟨some 68, _, _, _, _, _⟩) rfl (fun K hK => ?_) AllReadyH.nil)
          go_simp
          refine (CA.out _).mono ?_
          rintro e u1 ⟨rfl, hu1⟩
          replace hbd := hbd.trans (hu1.mono hbd.size)
          clear hu1
          refine hK.out _ _ ?_ (fun hHeld => ?_)
          · exact HU.out _ hbd
          clear hK K
          try simp only [Act.put, List.setIfInBounds_toArray, List.set_cons_zero, List.set_cons_succ]
          refine wpAnyH_ready (rs := [5]) (by kernel_rfl) (by simp) (AllReadyH.cons (o := ⟨some 71, _, _, _, _, _⟩) rfl (fun K hK => ?_) AllReadyH.nil)
          go_simp
          refine (CB.out _).mono ?_
          rintro e u2 ⟨rfl, hu2⟩
          replace hbd := hbd.trans (hu2.mono hbd.size)
          clear hu2
          refine hK.out _ _ ?_ (fun hHeld => ?_)
          · exact HU.out _ hbd
          clear hK K
          try simp only [Act.put, List.setIfInBounds_toArray, List.set_cons_zero, List.set_cons_succ]
          refine wpAnyH_take (i := 6) (oi := ⟨some 72, _, _, _, _, _⟩) (v := ?_) rfl (by kernel_rfl) (by kernel_rfl) (by kernel_rfl) (fun _ _ _ h => h) (Or.inl ⟨by rfl, ?_⟩) hHeld ?_
          rotate_left
          · (intro wx hSw; (try dsimp only at hSw); go_simp; try with_reducible rfl)
          try simp only [Act.put, List.setIfInBounds_toArray, List.set_cons_zero, List.set_cons_succ]
          refine wpAnyH_take (i := 7) (oi := ⟨some 73, _, _, _, _, _⟩) (v := ?_) rfl (by kernel_rfl) (by kernel_rfl) (by kernel_rfl) (fun _ _ _ h => h) (Or.inl ⟨by rfl, ?_⟩) hHeld ?_
          rotate_left
          · (intro wx hSw; (try dsimp only at hSw); go_simp; try with_reducible rfl)
          try simp only [Act.put, List.setIfInBounds_toArray, List.set_cons_zero, List.set_cons_succ]
          refine wpAnyH_take (i := 8) (oi := ⟨some 74, _, _, _, _, _⟩) (v := ?_) rfl (by kernel_rfl) (by kernel_rfl) (by kernel_rfl) (fun _ _ _ h => h) (Or.inl ⟨by rfl, ?_⟩) hHeld ?_
          rotate_left
          · (intro wx hSw; (try dsimp only at hSw); go_simp; try with_reducible rfl)
          try simp only [Act.put, List.setIfInBounds_toArray, List.set_cons_zero, List.set_cons_succ]
          refine wpAnyH_take (i := 9) (oi := ⟨some 75, _, _, _, _, _⟩) (v := ?_) rfl (by kernel_rfl) (by kernel_rfl) (by kernel_rfl) (fun _ _ _ h => h) (Or.inl ⟨by rfl, ?_⟩) hHeld ?_
          rotate_left
          · (intro wx hSw; (try dsimp only at hSw); go_simp; try with_reducible rfl)
          try simp only [Act.put, List.setIfInBounds_toArray, List.set_cons_zero, List.set_cons_succ]
          refine wpAnyH_take (i := 11) (oi := ⟨some 77, _, _, _, _, _⟩) (v := ?_) rfl (by kernel_rfl) (by kernel_rfl) (by kernel_rfl) (fun _ _ _ h => h) (Or.inl ⟨by rfl, ?_⟩) hHeld ?_
          rotate_left
          · (intro wx hSw; (try dsimp only at hSw); go_simp; try with_reducible rfl)
          try simp only [Act.put, List.setIfInBounds_toArray, List.set_cons_zero, List.set_cons_succ]
          refine wpAnyH_take (i := 12) (oi := ⟨some 78, _, _, _, _, _⟩) (v := ?_) rfl (by kernel_rfl) (by kernel_rfl) (by kernel_rfl) (fun _ _ _ h => h) (Or.inl ⟨by rfl, ?_⟩) hHeld ?_
          rotate_left
          · (intro wx hSw; (try dsimp only at hSw); go_simp; try with_reducible rfl)
          try simp only [Act.put, List.setIfInBounds_toArray, List.set_cons_zero, List.set_cons_succ]
          refine wpAnyH_ready (rs := [10]) (by kernel_rfl) (by simp) (AllReadyH.cons (o := ⟨some 76, _, _, _, _, _⟩) rfl (fun K hK => ?_) AllReadyH.nil)
          go_simp
          refine (CA.out _).mono ?_
          rintro e u3 ⟨rfl, hu3⟩
          replace hbd := hbd.trans (hu3.mono hbd.size)
          clear hu3
          refine hK.out _ _ ?_ (fun hHeld => ?_)
          · exact HU.out _ hbd
          clear hK K
          try simp only [Act.put, List.setIfInBounds_toArray, List.set_cons_zero, List.set_cons_succ]
          refine wpAnyH_ready (rs := [13]) (by kernel_rfl) (by simp) (AllReadyH.cons (o := ⟨some 79, _, _, _, _, _⟩) rfl (fun K hK => ?_) AllReadyH.nil)
          go_simp
          refine (CC.out _).mono ?_
          rintro e u4 ⟨rfl, hu4⟩
          replace hbd := hbd.trans (hu4.mono hbd.size)
          clear hu4
          refine hK.out _ _ ?_ (fun hHeld => ?_)
          · exact HU.out _ hbd
          clear hK K
          try simp only [Act.put, List.setIfInBounds_toArray, List.set_cons_zero, List.set_cons_succ]
          refine wpAnyH_take (i := 14) (oi := ⟨some 80, _, _, _, _, _⟩) (v := ?_) rfl (by kernel_rfl) (by kernel_rfl) (by kernel_rfl) (fun _ _ _ h => h) (Or.inl ⟨by rfl, ?_⟩) hHeld ?_
          rotate_left
          · (intro wx hSw; (try dsimp only at hSw); go_simp; try with_reducible rfl)
          try simp only [Act.put, List.setIfInBounds_toArray, List.set_cons_zero, List.set_cons_succ]
          refine wpAnyH_take (i := 15) (oi := ⟨some 81, _, _, _, _, _⟩) (v := ?_) rfl (by kernel_rfl) (by kernel_rfl) (by kernel_rfl) (fun _ _ _ h => h) (Or.inl ⟨by rfl, ?_⟩) hHeld ?_
          rotate_left
          · (intro wx hSw; (try dsimp only at hSw); go_simp; try with_reducible rfl)
          try simp only [Act.put, List.setIfInBounds_toArray, List.set_cons_zero, List.set_cons_succ]
          refine wpAnyH_take (i := 16) (oi := ⟨some 82, _, _, _, _, _⟩) (v := ?_) rfl (by kernel_rfl) (by kernel_rfl) (by kernel_rfl) (fun _ _ _ h => h) (Or.inl ⟨by rfl, ?_⟩) hHeld ?_
          rotate_left
          · (intro wx hSw; (try dsimp only at hSw); go_simp; try with_reducible rfl)
          try simp only [Act.put, List.setIfInBounds_toArray, List.set_cons_zero, List.set_cons_succ]
          refine wpAnyH_done (by kernel_rfl) ?_ _
          refine NoPanic.normal ?_
          have HE := Lib.hid (HBU.out.trans (hbd.mono HBU.out.size))
          clear hbd hHeld HU HBU h10 CA CB CC
          go_wp2
          exact ⟨⟨j + 1, by omega, by go_num, HE⟩, by simp [intOf]; omega⟩
        · obtain rfl : j = 4 := by omega
          obtain ⟨x1, x2, x3⟩ := HFX.out
          dsimp only at x1 x2 x3
          have PA := Lib.hid (fun W => per_any xf xs x1 x3 W)
          have PB := Lib.hid (fun W => refper_any xf xs x1 x3 W)
          generalize upV (xf * 1000) (sizeN xs) = PV at *
          have bx1 := HXB.out.below H.out
          have HY13 := Lib.hid (fun W (hW : Below wr2.heap.size wr2 W) => show W.cell? ⟨wo.heap.size, 0, none⟩ = some (.int .u64 (xf : Int)) ∧ W.cell? ⟨wo.heap.size, 1, none⟩ = some (.int .i64 xs) from ⟨(bx1.below hW).cell 0, (bx1.below hW).cell 1⟩)
          have hbd : Below wr2.heap.size wr2 wr2.drew := (Below.refl _ _).drew
          have h13 := HY13.out _ hbd
          have HBW := Lib.hid (HB3V2.out.trans (H.out.mono HB3V2.out.size))
          clear x1 x2 x3 bx1 H hlt
          go_wp2_with fail
          refine wp_region_noPanic ?_
          refine wp_region_held_drew (S := (fun W => W.cell? ⟨wo.heap.size, 0, none⟩ = some (.int .u64 (xf : Int)) ∧ W.cell? ⟨wo.heap.size, 1, none⟩ = some (.int .i64 xs))) (by kernel_rfl) ?_ (fun hHeld => ?_)
          · exact h13
          refine wpAnyH_take (i := 0) (oi := ⟨some 84, _, _, _, _, _⟩) (v := ?_) rfl (by kernel_rfl) (by kernel_rfl) (by kernel_rfl) (fun _ _ _ h => h) (Or.inl ⟨by rfl, ?_⟩) hHeld ?_
          rotate_left
          · (intro wx hSw; (try dsimp only at hSw); go_simp; try with_reducible rfl)
          try simp only [Act.put, List.setIfInBounds_toArray, List.set_cons_zero, List.set_cons_succ]
          refine wpAnyH_take (i := 2) (oi := ⟨some 86, _, _, _, _, _⟩) (v := ?_) rfl (by kernel_rfl) (by kernel_rfl) (by kernel_rfl) (fun _ _ _ h => h) (Or.inl ⟨by rfl, ?_⟩) hHeld ?_
          rotate_left
          · (intro wx hSw; (try dsimp only at hSw); go_simp; try with_reducible rfl)
          try simp only [Act.put, List.setIfInBounds_toArray, List.set_cons_zero, List.set_cons_succ]
          refine wpAnyH_ready (rs := [1]) (by kernel_rfl) (by simp) (AllReadyH.cons (o := ⟨some 85, _, _, _, _, _⟩) rfl (fun K hK => ?_) AllReadyH.nil)
          go_simp
          refine (PA.out _).mono ?_
          rintro e u1 ⟨rfl, hu1⟩
          replace hbd := hbd.trans (hu1.mono hbd.size)
          clear hu1
          refine hK.out _ _ ?_ (fun hHeld => ?_)
          · exact HY13.out _ hbd
          clear hK K
          try simp only [Act.put, List.setIfInBounds_toArray, List.set_cons_zero, List.set_cons_succ]
          refine wpAnyH_ready (rs := [3]) (by kernel_rfl) (by simp) (AllReadyH.cons (o := ⟨some 87, _, _, _, _, _⟩) rfl (fun K hK => ?_) AllReadyH.nil)
          go_simp
          refine (PB.out _).mono ?_
          rintro e u2 ⟨rfl, hu2⟩
          replace hbd := hbd.trans (hu2.mono hbd.size)
          clear hu2
          refine hK.out _ _ ?_ (fun hHeld => ?_)
          · exact HY13.out _ hbd
          clear hK K
          try simp only [Act.put, List.setIfInBounds_toArray, List.set_cons_zero, List.set_cons_succ]
          refine wpAnyH_take (i := 4) (oi := ⟨some 88, _, _, _, _, _⟩) (v := ?_) rfl (by kernel_rfl) (by kernel_rfl) (by kernel_rfl) (fun _ _ _ h => h) (Or.inl ⟨by rfl, ?_⟩) hHeld ?_
          rotate_left
          · (intro wx hSw; (try dsimp only at hSw); go_simp; try with_reducible rfl)
          try simp only [Act.put, List.setIfInBounds_toArray, List.set_cons_zero, List.set_cons_succ]
          refine wpAnyH_done (by kernel_rfl) ?_ _
          refine NoPanic.normal ?_
          have HE := Lib.hid (HBW.out.trans (hbd.mono HBW.out.size))
          clear hbd hHeld HY13 HBW h13 PA PB
          go_wp2
          go_roundw
          case rel => exact ⟨k + 1, by omega, by go_num, HE⟩
          case measure => simp [intOf] <;> omega
    · obtain rfl : k = 4 := by omega
      clear hlt hk
      obtain ⟨W9, hW9⟩ : ∃ W, wr.alloc (.cells #[.int .i64 n, .int .i64 (k1 : Int), .int .i64 (k2 : Int)] 3) = W := ⟨_, rfl⟩
      have b9 : Below wr.heap.size wr W9 := by rw [← hW9]; exact (Below.refl _ _).alloc (Nat.le_refl _) _
      have HB9 := Lib.hid (H.out.trans (b9.mono H.out.size))
      have hs9 : SlK .i64 W9 (.slice (some ⟨wr.heap.size, 0, none⟩) 3 3) [n, (k1 : Int), (k2 : Int)] := by rw [← hW9]; exact SlK.fresh .i64 wr 3 [n, (k1 : Int), (k2 : Int)]
      have HS9 := Lib.hid hs9
      have HW9 := Lib.hid hW9
      obtain ⟨wo, rfl⟩ : ∃ wo : World, wo = wr := ⟨_, rfl⟩
      clear b9 hs9 hW9 H
      go_wp2_with fail
      rw [HW9.out]
      clear HW9
      go_loopw [97] (fun i wr => ∃ k : Nat, k ≤ 3 ∧ i = .int .i64 k ∧ Hid (Below W9.heap.size W9 wr)) (fun i _ => 3 - (intOf i).toNat)
      case atStart => exact ⟨0, by omega, rfl, Lib.hid (Below.refl _ _)⟩
      case round =>
        obtain ⟨w3, rfl⟩ : ∃ x : World, x = wr := ⟨_, rfl⟩
        obtain ⟨k, hk, rfl, H⟩ := hrel
        by_cases hlt : k < 3
        · obtain ⟨A', c', e, _, _, hr⟩ := HS9.out.below H.out
          injection e with e1' e2' e3'
          subst e1'
          obtain ⟨blk, off, hA, hbl, hrun⟩ := hr (by simp)
          injection hA with hA
          injection hA with hA1 hA2 _
          subst hA1
          subst hA2
          have f0 := hrun k hlt
          obtain ⟨z, hz⟩ : ∃ z, ([n, (k1 : Int), (k2 : Int)] : List Int).getD k 0 = z := ⟨_, rfl⟩
          rw [hz, Nat.zero_add] at f0
          obtain ⟨Z1, hZ1⟩ : ∃ W, w3.alloc (.cells #[.int .u64 (per : Int), .int .u64 (p1 : Int), .int .u64 1000] 22) = W := ⟨_, rfl⟩
          have bZ : Below w3.heap.size w3 Z1 := by rw [← hZ1]; exact (Below.refl _ _).alloc (Nat.le_refl _) _
          have HBZ := Lib.hid (H.out.trans (bZ.mono H.out.size))
          have hsz : SlK .u64 Z1 (.slice (some ⟨w3.heap.size, 0, none⟩) 3 3) [(per : Int), (p1 : Int), 1000] := by rw [← hZ1]; exact SlK.fresh .u64 w3 22 [(per : Int), (p1 : Int), 1000]
          have HSZ := Lib.hid hsz
          have HZ1 := Lib.hid hZ1
          clear hr hrun hz hbl bZ hsz hZ1 H
          go_wp2_with fail
          rw [HZ1.out]
          clear HZ1 f0 hlt
          go_loopw [106] (fun i wr => ∃ j : Nat, j ≤ 3 ∧ i = .int .i64 j ∧ Hid (Below Z1.heap.size Z1 wr)) (fun i _ => 3 - (intOf i).toNat)
          case atStart => exact ⟨0, by omega, rfl, Lib.hid (Below.refl _ _)⟩
          case round =>
            obtain ⟨w4, rfl⟩ : ∃ x : World, x = wr := ⟨_, rfl⟩
            obtain ⟨j, hj, rfl, H⟩ := hrel
            by_cases hlt : j < 3
            · obtain ⟨A', c', e, _, _, hr⟩ := HSZ.out.below H.out
              injection e with e1' e2' e3'
              subst e1'
              obtain ⟨blk, off, hA, hbl, hrun⟩ := hr (by simp)
              injection hA with hA
              injection hA with hA1 hA2 _
              subst hA1
              subst hA2
              have f0 := hrun j hlt
              obtain ⟨q, hq, hql⟩ : ∃ q : Nat, ([(per : Int), (p1 : Int), 1000] : List Int).getD j 0 = (q : Int) ∧ q < 18446744073709551616 := by
                match j, hlt with
                | 0, _ => exact ⟨per, rfl, HP.out.1⟩
                | 1, _ => exact ⟨p1, rfl, HP.out.2⟩
                | 2, _ => exact ⟨1000, rfl, by decide⟩
              rw [hq, Nat.zero_add] at f0
              have NA := Lib.hid (fun W => need_any q z hql W)
              have NB := Lib.hid (fun W => refneed_any q z hql W)
              generalize upV (q * needN z) 1000 = VV at *
              have HBH := Lib.hid H.out
              clear hr hrun hq hql hbl H
              go_wp2_with fail
              refine (NA.out _).mono ?_
              rintro e w5 ⟨rfl, hb5⟩
              have HE := Lib.hid (HBH.out.trans (hb5.mono HBH.out.size))
              clear hb5 HBH f0
              go_wp2_with fail
              refine (NB.out _).mono ?_
              rintro e w6 ⟨rfl, rfl⟩
              clear NA NB
              go_wp2
              exact ⟨⟨j + 1, by omega, by go_num, HE⟩, by simp [intOf]; omega⟩
            · obtain rfl : j = 3 := by omega
              have HE := Lib.hid (HBZ.out.trans (H.out.mono HBZ.out.size))
              clear hlt hj H
              go_wp2
              refine ⟨⟨_, _, _, _, _, _, _, _, _, _, _, _, _, _, _, _, _, _, _, _, _, _, _, _, _, ⟨k + 1, by omega, by go_num, HE⟩, rfl⟩, ?_⟩
              simp [intOf] <;> omega
        · obtain rfl : k = 3 := by omega
          have HE := Lib.hid (HB9.out.trans (H.out.mono HB9.out.size))
          have HA := Lib.hid (fun W (hW : Below W3.heap.size W3 W) => add_any _ l W (Many.below HL.out (HB3.out.trans (hW.mono HB3.out.size)) (fun cs x h => h)) (by have := HLEN.out; unfold maxLen; omega))
          have HB := Lib.hid (fun W (hW : Below W3.heap.size W3 W) => refadd_any _ l W (Many.below HL.out (HB3.out.trans (hW.mono HB3.out.size)) (fun cs x h => h)) (by have := HLEN.out; unfold maxLen; omega))
          simp only [RateD.val] at HA HB
          generalize addV l = vv at *
          obtain ⟨v1, v2⟩ := vv
          dsimp only at HA HB
          clear hlt hk H
          go_wp2_with fail
          refine (HA.out _ HE.out).mono ?_
          rintro e w5 ⟨rfl, hb5⟩
          have HE2 := Lib.hid (HE.out.trans (hb5.mono HE.out.size))
          clear hb5
          go_wp2_with fail
          refine (HB.out _ HE2.out).mono ?_
          rintro e w6 ⟨rfl, hb6⟩
          have HE3 := Lib.hid (HE2.out.trans (hb6.mono HE2.out.size))
          clear hb6
          go_wp2_with fail
          refine (HAW.out _).mono ?_
          rintro e w7 ⟨rfl, hb7⟩
          have HE4 : Hid (Below w.heap.size w w7) := Lib.hid (by
            have h5 := HB3.out.trans (HE3.out.mono HB3.out.size)
            exact h5.trans (hb7.mono h5.size))
          clear hb7
          go_wp2
          go_ret
          exact ⟨rfl, HE4.out⟩
theorem walk (a b : RateD) (v : Value) (per : Nat) (n : Int) (l : List RateD) (w : World) (ha : a.Fit) (hb : b.Fit) (hper : 0 ≤ (per : Int) ∧ (per : Int) ≤ 18446744073709551615) (hl : RatesR w v l) :
    Calls Try.prog 5 #[.agg #[.int .u64 (a.fee : Int), .int .i64 a.size], .agg #[.int .u64 (b.fee : Int), .int .i64 b.size], .int .u64 (per : Int), .int .i64 n, v] w (YesK w) := by
  by_cases h : l.length ≤ 40
  · exact walk_short a b v per n l w ha hb (by omega) hl h
  · exact walk_long a b v per n l w hl (by omega)

set_option maxRecDepth 100000 in
theorem lifted (os : Os) (started : os.Started) (H : Type) (enc : TypeId × Value → H) :
    ReturnsInHanded {} Try.checked os 5 .any (Rows.rateTellsSpec.pre6 enc Try.prog Try.f5 Rows.rateTellsRow.domain false) (Rows.rateTellsSpec.post enc Try.prog Try.f5 false true false false) := by
  refine returnsInHanded_of_change (C := Try.checked) ownKnobNone started (by kernel_rfl) Try.func5
    (ChangeSpec.witness6 (enc := enc) (C := Try.checked) false ⟨#[], #[.agg #[.int .u64 0, .int .i64 0], .agg #[.int .u64 0, .int .i64 0], .int .u64 0, .int .i64 0, .slice none 0 0], []⟩ 8 (by kernel_rfl) (by kernel_rfl) (by kernel_rfl) (by kernel_rfl)) ?_
  intro W base args ds gs before hval0 hW _ _
  have hval : ∀ (j : Nat) t v, Try.f5.params[j]? = some t → args[j]? = some v → Value.okWide Try.prog W .any base t v := hval0
  have hW' := hW
  obtain ⟨p, q, hA0, hV, rfl, _, _⟩ := hW
  have hA : DataW.TrodAll enc Try.prog W 0 (fun _ => true) true Try.f5.params.toList args.toList ds p := hA0
  rw [Try.params5] at hA hval
  obtain ⟨v0, vs0, d0, ds0, p0, q0, hargs, rfl, rfl, h0, r0⟩ := trodAll_cons hA
  obtain ⟨v1, vs1, d1, ds1, p1, q1, rfl, rfl, rfl, h1, r1⟩ := trodAll_cons r0
  obtain ⟨v2, vs2, d2, ds2, p2, q2, rfl, rfl, rfl, h2, r2⟩ := trodAll_cons r1
  obtain ⟨v3, vs3, d3, ds3, p3, q3, rfl, rfl, rfl, h3, r3⟩ := trodAll_cons r2
  obtain ⟨v4, vs4, d4, ds4, p4, q4, rfl, rfl, rfl, h4, r4⟩ := trodAll_cons r3
  obtain ⟨rfl, rfl, rfl⟩ := trodAll_nil r4
  obtain rfl : args = #[v0, v1, v2, v3, v4] := by cases args; simp_all
  obtain ⟨rfl, rfl⟩ := trodVars_none hV
  obtain ⟨t0, rfl, s0⟩ := rate_arg (hval 0 24 v0 rfl rfl) h0
  obtain ⟨t1, rfl, s1⟩ := rate_arg (hval 1 24 v1 rfl rfl) h1
  obtain ⟨a2, rfl, rfl, rfl, w2⟩ := open_int Try.underlying22 (hval 2 22 v2 rfl rfl) h2
  have b2 := bd_u64 w2
  obtain ⟨n2, rfl⟩ := Int.eq_ofNat_of_zero_le b2.1
  obtain ⟨a3, rfl, rfl, rfl, w3⟩ := open_int Try.underlying3 (hval 3 3 v3 rfl rfl) h3
  have b3 := bd_i64 w3
  obtain ⟨l4, s4⟩ := rates_arg (hval 4 36 v4 rfl rfl) h4
  clear hA0 hval0
  refine (walk t0 t1 v4 n2 a3 l4 W s0 s1 b2 s4).mono fun e W' ⟨he, hb⟩ => ?_
  subst he
  exact ⟨_, rfl, law_post hW' rfl rfl (by kernel_rfl) rfl hb⟩

set_option maxRecDepth 100000 in
theorem over : Rows.rateTellsRow.holds Try.pinned (OpenSpec.ofChange Rows.rateTellsSpec) :=
  OpenClaim.holds_of_wide 5 Try.f5 rfl rfl rfl rfl rfl rfl rfl ⟨rfl, rfl, rfl, rfl, rfl⟩ rfl rfl rfl rfl rfl (by kernel_rfl) Try.func5 (by kernel_rfl)
    (of_decide_eq_true (by kernel_rfl)) (by unfold Func.isWrapper; first | (rw [if_pos (by decide +kernel)]; kernel_rfl) | (rw [if_neg (by decide +kernel)]; exact ⟨rfl, rfl⟩))
    (fun os started H enc _ => lifted os started H enc)

/-- The statement. -/
theorem proved : Rows.RateTellsSaid :=
  over
end Go.Proofs.Ytompcibcgfjpfaa.lawRtTells
