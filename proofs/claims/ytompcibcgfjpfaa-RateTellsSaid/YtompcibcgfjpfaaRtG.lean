/- Add, of the program and of the document; what stands for layer 7 awake. -/
import Derived.Test.YtompcibcgfjpfaaRtF
namespace Go.Proofs.Ytompcibcgfjpfaa
open Go.RowKit

/-- A rate: its fee, and its size. -/
structure RateD where
  fee : Nat
  size : Int
def RateD.val (d : RateD) : Value := .agg #[.int .u64 (d.fee : Int), .int .i64 d.size]
def RateD.Fit (d : RateD) : Prop := d.fee < 18446744073709551616 ∧ -9223372036854775808 ≤ d.size ∧ d.size ≤ 9223372036854775807
/-- The cells of one rate. -/
def RateR (_w : World) (cs : List Value) (d : RateD) : Prop := cs = [.int .u64 (d.fee : Int), .int .i64 d.size] ∧ d.Fit
abbrev RatesR (w : World) (v : Value) (l : List RateD) : Prop := Many 2 RateR w v l
/-- The sums of all fees and of all sizes. -/
def addV (l : List RateD) : RateD := l.foldl (fun s x => ⟨(s.fee + x.fee) % 18446744073709551616, IntKind.i64.wrap (s.size + x.size)⟩) ⟨0, 0⟩
theorem addV_snoc (l : List RateD) (x : RateD) : addV (l ++ [x]) = ⟨((addV l).fee + x.fee) % 18446744073709551616, IntKind.i64.wrap ((addV l).size + x.size)⟩ := by
  unfold addV
  rw [List.foldl_append]
  rfl
theorem addV_fit (l : List RateD) : (addV l).Fit := by
  rcases List.eq_nil_or_concat l with rfl | ⟨k, x, rfl⟩
  · exact ⟨by decide, by decide, by decide⟩
  · rw [List.concat_eq_append, addV_snoc]
    refine ⟨Nat.mod_lt _ (by omega), ?_, ?_⟩
    all_goals simp only [IntKind.wrap_i64]; omega
theorem take_snoc {α : Type} (l : List α) (k : Nat) (h : k < l.length) : l.take (k + 1) = l.take k ++ [l[k]] := List.take_succ_eq_append_getElem h
theorem set_two (a b c d : Value) : ((#[a, b] : Array Value).setIfInBounds 0 c).setIfInBounds 1 d = #[c, d] := rfl

set_option maxRecDepth 100000 in
set_option maxHeartbeats 1000000 in
theorem add_any (v : Value) (l : List RateD) (w : World) (hs : RatesR w v l) (hm : l.length ≤ maxLen) :
    Calls Try.prog 14 #[v] w fun e w' => e = .returned (addV l).val ∧ Below w.heap.size w w' := by
  unfold maxLen at hm
  obtain ⟨⟨tf, ts⟩, hv⟩ : ∃ x, addV l = x := ⟨_, rfl⟩
  rw [hv]
  simp only [RateD.val]
  have HV := Lib.hid hv
  clear hv
  have HS := Lib.hid hs
  obtain ⟨A, c, rfl, hc, hm2, hA, hr⟩ := hs
  clear hc hm2 hA hr
  obtain ⟨W2, hW2⟩ : ∃ W, (w.alloc (.cells #[.int .u64 0, .int .i64 0] 24)).alloc (.cells #[.int .u64 0, .int .i64 0] 24) = W := ⟨_, rfl⟩
  have hb0 : Below w.heap.size w W2 := by rw [← hW2]; exact ((Below.refl _ _).alloc (Nat.le_refl _) _).alloc (by simp) _
  have hx0 : Box W2 w.heap.size 24 #[.int .u64 0, .int .i64 0] := by rw [← hW2]; exact (Box.fresh _ _ _).below ((Below.refl _ _).alloc (by simp) _)
  have hx1 : Box W2 (w.heap.size + 1) 24 #[.int .u64 0, .int .i64 0] := by
    have := Box.fresh (w.alloc (.cells #[.int .u64 0, .int .i64 0] 24)) 24 #[.int .u64 0, .int .i64 0]
    rw [← hW2]
    simpa using this
  have HW2 := Lib.hid hW2
  have H0 : Hid (Box W2 w.heap.size 24 #[.int .u64 0, .int .i64 0] ∧ Box W2 (w.heap.size + 1) 24 #[.int .u64 0, .int .i64 0] ∧ Below w.heap.size w W2) := Lib.hid ⟨hx0, hx1, hb0⟩
  clear hW2 hb0 hx0 hx1
  go_enter Try.func14, Try.ntmps14
  go_wp2_with fail
  rw [HW2.out]
  go_loopw [8] (fun i wr => ∃ k : Nat, k ≤ l.length ∧ i = .int .i64 k ∧ Hid (Box wr w.heap.size 24 #[.int .u64 0, .int .i64 0] ∧ Box wr (w.heap.size + 1) 24 #[.int .u64 ((addV (l.take k)).fee : Int), .int .i64 (addV (l.take k)).size] ∧ Below w.heap.size w wr)) (fun i _ => l.length - (intOf i).toNat)
  case atStart => exact ⟨0, Nat.zero_le _, rfl, H0⟩
  case round =>
    obtain ⟨k, hk, rfl, H⟩ := hrel
    obtain ⟨hx0, hx1, hb⟩ := H.out
    by_cases hlt : k < l.length
    · obtain ⟨b, off, cs, rfl, hbl, _, hcs, hR, hfit⟩ := (Many.below HS.out hb (fun cs x h => h)).at hlt
      subst hR
      have hsnoc := addV_snoc (l.take k) l[k]
      rw [← take_snoc l k hlt] at hsnoc
      have hf2 := addV_fit (l.take (k + 1))
      obtain ⟨⟨xf, xs⟩, hx⟩ : ∃ x, l[k] = x := ⟨_, rfl⟩
      obtain ⟨⟨sf, ss⟩, hss⟩ : ∃ x, addV (l.take k) = x := ⟨_, rfl⟩
      obtain ⟨⟨uf, us⟩, htt⟩ : ∃ x, addV (l.take (k + 1)) = x := ⟨_, rfl⟩
      rw [hx] at hcs hfit
      rw [hx, hss, htt] at hsnoc
      rw [hss] at hx1
      rw [htt] at hf2
      injection hsnoc with e1 e2
      dsimp only at hcs hx1 e1 e2
      have g1 : IntKind.u64.wrap ((sf : Int) + (xf : Int)) = (uf : Int) := by rw [e1, IntKind.wrap_u64]; omega
      have g2 : IntKind.i64.wrap (ss + xs) = us := e2.symm
      have c0 := hcs 0 _ rfl
      have c1 := hcs 1 _ rfl
      simp only [Nat.add_zero] at c0
      have hsz := hb.size
      have hxl := hx1.lt
      obtain ⟨R, hR⟩ : ∃ R, wr.alloc (.cells #[.int .u64 (xf : Int), .int .i64 xs] 24) = R := ⟨_, rfl⟩
      have hbR : Below wr.heap.size wr R := by rw [← hR]; exact (Below.refl _ _).alloc (Nat.le_refl _) _
      have hbR2 : Below w.heap.size w R := by rw [← hR]; exact hb.alloc hsz _
      have y0 := hx0.below hbR
      have y1 := hx1.below hbR
      have y2 : Box R wr.heap.size 24 #[.int .u64 (xf : Int), .int .i64 xs] := by rw [← hR]; exact Box.fresh _ _ _
      have hne : w.heap.size + 1 ≠ wr.heap.size := by omega
      have o1 := Only.set (Only.refl (w.heap.size + 1) R) 0 (.int .u64 (uf : Int))
      have z1 := y1.set 0 (.int .u64 (uf : Int))
      have z2 := y2.keep o1 (Ne.symm hne)
      have o2 := Only.set o1 1 (.int .i64 us)
      have q1 := z1.set 1 (.int .i64 us)
      rw [set_two] at q1
      have q0 := y0.keep o2 (by omega)
      have qb : Below w.heap.size w ((R.setCell ⟨w.heap.size + 1, 0, none⟩ (.int .u64 (uf : Int))).setCell ⟨w.heap.size + 1, 1, none⟩ (.int .i64 us)) := Only.below hbR2 o2 (by omega)
      have a1 := y1.cell 0
      have a2 := y2.cell 0
      have a3 := z1.cell 1
      have a4 := z2.cell 1
      have w1 := y1.warm 0
      have w2 := z1.warm 1
      have HR := Lib.hid hR
      have HQ : Hid (Box ((R.setCell ⟨w.heap.size + 1, 0, none⟩ (.int .u64 (uf : Int))).setCell ⟨w.heap.size + 1, 1, none⟩ (.int .i64 us)) w.heap.size 24 #[.int .u64 0, .int .i64 0] ∧ Box ((R.setCell ⟨w.heap.size + 1, 0, none⟩ (.int .u64 (uf : Int))).setCell ⟨w.heap.size + 1, 1, none⟩ (.int .i64 us)) (w.heap.size + 1) 24 #[.int .u64 ((addV (l.take (k + 1))).fee : Int), .int .i64 (addV (l.take (k + 1))).size] ∧ Below w.heap.size w ((R.setCell ⟨w.heap.size + 1, 0, none⟩ (.int .u64 (uf : Int))).setCell ⟨w.heap.size + 1, 1, none⟩ (.int .i64 us))) := Lib.hid ⟨q0, by rw [htt]; exact q1, qb⟩
      simp only [List.size_toArray, List.getElem?_toArray, List.getElem?_cons_zero, List.getElem?_cons_succ, Array.setIfInBounds] at a1 a2 a3 a4
      have b1 : R.cell? ⟨w.heap.size + 1, 0, none⟩ = some (.int .u64 (sf : Int)) := y1.cell 0
      have b2 : R.cell? ⟨wr.heap.size, 0, none⟩ = some (.int .u64 (xf : Int)) := y2.cell 0
      have b3 : (R.setCell ⟨w.heap.size + 1, 0, none⟩ (.int .u64 (uf : Int))).cell? ⟨w.heap.size + 1, 1, none⟩ = some (.int .i64 ss) := z1.cell 1
      have b4 : (R.setCell ⟨w.heap.size + 1, 0, none⟩ (.int .u64 (uf : Int))).cell? ⟨wr.heap.size, 1, none⟩ = some (.int .i64 xs) := z2.cell 1
      clear a1 a2 a3 a4 hR hbR hbR2 y0 y1 y2 o1 o2 z1 z2 q0 q1 qb hx0 hx1 hb H hsz hxl hne e1 e2 hf2 hx hss htt hfit hcs HS
      rw [← HR.out] at b1 b2 b3 b4 w1 w2 HQ
      clear HR
      go_wp2
      go_roundw
      case rel => exact ⟨k + 1, by omega, by go_num, HQ⟩
      case measure => simp [intOf] <;> omega
    · obtain rfl : k = l.length := by omega
      have HE := Lib.hid (show l.take l.length = l from List.take_length)
      rw [HE.out] at hx1
      rw [HV.out] at hx1
      dsimp only at hx1
      have z1 := hx0.set 0 (.int .u64 (tf : Int))
      have q1 := z1.set 1 (.int .i64 ts)
      rw [set_two] at q1
      have o2 := Only.set (Only.set (Only.refl w.heap.size wr) 0 (.int .u64 (tf : Int))) 1 (.int .i64 ts)
      have qb : Below w.heap.size w ((wr.setCell ⟨w.heap.size, 0, none⟩ (.int .u64 (tf : Int))).setCell ⟨w.heap.size, 1, none⟩ (.int .i64 ts)) := Only.below hb o2 (Nat.le_refl _)
      have w1 := hx0.warm 0
      have w2 := z1.warm 1
      have w3 := hx0.warm 1
      have b1 : wr.cell? ⟨w.heap.size + 1, 0, none⟩ = some (.int .u64 (tf : Int)) := hx1.cell 0
      have b2 : wr.cell? ⟨w.heap.size + 1, 1, none⟩ = some (.int .i64 ts) := hx1.cell 1
      have b3 : wr.cell? ⟨w.heap.size, 0, none⟩ = some (.int .u64 0) := hx0.cell 0
      have b4 : wr.cell? ⟨w.heap.size, 1, none⟩ = some (.int .i64 0) := hx0.cell 1
      have b5 : ((wr.setCell ⟨w.heap.size, 0, none⟩ (.int .u64 (tf : Int))).setCell ⟨w.heap.size, 1, none⟩ (.int .i64 ts)).cell? ⟨w.heap.size, 0, none⟩ = some (.int .u64 (tf : Int)) := q1.cell 0
      have b6 : ((wr.setCell ⟨w.heap.size, 0, none⟩ (.int .u64 (tf : Int))).setCell ⟨w.heap.size, 1, none⟩ (.int .i64 ts)).cell? ⟨w.heap.size, 1, none⟩ = some (.int .i64 ts) := q1.cell 1
      have b7 : (wr.setCell ⟨w.heap.size, 0, none⟩ (.int .u64 (tf : Int))).cell? ⟨w.heap.size, 1, none⟩ = some (.int .i64 0) := z1.cell 1
      have QB := Lib.hid qb
      have HXR := Lib.hid q1
      have HIT : Hid ((Try.prog.info? 24).map (·.size) = some 2) := Lib.hid (by kernel_rfl)
      clear qb o2 q1 z1 hx0 hx1 hb H HS HE HV
      go_wp2
      exact bodyPost_ret (results_cell_row (by rfl) _ _ w.heap.size 24 _ _ _ rfl HXR.out Try.underlying24 rfl HIT.out) rfl ⟨rfl, QB.out⟩
set_option maxRecDepth 100000 in
set_option maxHeartbeats 1000000 in
theorem refadd_any (v : Value) (l : List RateD) (w : World) (hs : RatesR w v l) (hm : l.length ≤ maxLen) :
    Calls Try.prog 15 #[v] w fun e w' => e = .returned (addV l).val ∧ Below w.heap.size w w' := by
  unfold maxLen at hm
  obtain ⟨⟨tf, ts⟩, hv⟩ : ∃ x, addV l = x := ⟨_, rfl⟩
  rw [hv]
  simp only [RateD.val]
  have HV := Lib.hid hv
  clear hv
  have HS := Lib.hid hs
  obtain ⟨A, c, rfl, hc, hm2, hA, hr⟩ := hs
  clear hc hm2 hA hr
  obtain ⟨W2, hW2⟩ : ∃ W, (w.alloc (.cells #[.int .u64 0, .int .i64 0] 24)).alloc (.cells #[.int .u64 0, .int .i64 0] 24) = W := ⟨_, rfl⟩
  have hb0 : Below w.heap.size w W2 := by rw [← hW2]; exact ((Below.refl _ _).alloc (Nat.le_refl _) _).alloc (by simp) _
  have hx0 : Box W2 w.heap.size 24 #[.int .u64 0, .int .i64 0] := by rw [← hW2]; exact (Box.fresh _ _ _).below ((Below.refl _ _).alloc (by simp) _)
  have hx1 : Box W2 (w.heap.size + 1) 24 #[.int .u64 0, .int .i64 0] := by
    have := Box.fresh (w.alloc (.cells #[.int .u64 0, .int .i64 0] 24)) 24 #[.int .u64 0, .int .i64 0]
    rw [← hW2]
    simpa using this
  have HW2 := Lib.hid hW2
  have H0 : Hid (Box W2 w.heap.size 24 #[.int .u64 0, .int .i64 0] ∧ Box W2 (w.heap.size + 1) 24 #[.int .u64 0, .int .i64 0] ∧ Below w.heap.size w W2) := Lib.hid ⟨hx0, hx1, hb0⟩
  clear hW2 hb0 hx0 hx1
  go_enter Try.func15, Try.ntmps15
  go_wp2_with fail
  rw [HW2.out]
  go_loopw [4] (fun i wr => ∃ k : Nat, k ≤ l.length ∧ i = .int .i64 k ∧ Hid (Box wr w.heap.size 24 #[.int .u64 0, .int .i64 0] ∧ Box wr (w.heap.size + 1) 24 #[.int .u64 ((addV (l.take k)).fee : Int), .int .i64 (addV (l.take k)).size] ∧ Below w.heap.size w wr)) (fun i _ => l.length - (intOf i).toNat)
  case atStart => exact ⟨0, Nat.zero_le _, rfl, H0⟩
  case round =>
    obtain ⟨k, hk, rfl, H⟩ := hrel
    obtain ⟨hx0, hx1, hb⟩ := H.out
    by_cases hlt : k < l.length
    · obtain ⟨b, off, cs, rfl, hbl, _, hcs, hR, hfit⟩ := (Many.below HS.out hb (fun cs x h => h)).at hlt
      subst hR
      have hsnoc := addV_snoc (l.take k) l[k]
      rw [← take_snoc l k hlt] at hsnoc
      have hf2 := addV_fit (l.take (k + 1))
      obtain ⟨⟨xf, xs⟩, hx⟩ : ∃ x, l[k] = x := ⟨_, rfl⟩
      obtain ⟨⟨sf, ss⟩, hss⟩ : ∃ x, addV (l.take k) = x := ⟨_, rfl⟩
      obtain ⟨⟨uf, us⟩, htt⟩ : ∃ x, addV (l.take (k + 1)) = x := ⟨_, rfl⟩
      rw [hx] at hcs hfit
      rw [hx, hss, htt] at hsnoc
      rw [hss] at hx1
      rw [htt] at hf2
      injection hsnoc with e1 e2
      dsimp only at hcs hx1 e1 e2
      have g1 : IntKind.u64.wrap ((sf : Int) + (xf : Int)) = (uf : Int) := by rw [e1, IntKind.wrap_u64]; omega
      have g2 : IntKind.i64.wrap (ss + xs) = us := e2.symm
      have c0 := hcs 0 _ rfl
      have c1 := hcs 1 _ rfl
      simp only [Nat.add_zero] at c0
      have hsz := hb.size
      have hxl := hx1.lt
      have bd : Below wr.heap.size wr wr.drew := (Below.refl _ _).drew
      have y0 := hx0.below bd
      have y1 := hx1.below bd
      have o1 := Only.set (Only.refl (w.heap.size + 1) wr.drew) 0 (.int .u64 (uf : Int))
      have z1 := y1.set 0 (.int .u64 (uf : Int))
      have o2 := Only.set o1 1 (.int .i64 us)
      have q1 := z1.set 1 (.int .i64 us)
      rw [set_two] at q1
      have q0 := y0.keep o2 (by omega)
      have qb : Below w.heap.size w ((wr.drew.setCell ⟨w.heap.size + 1, 0, none⟩ (.int .u64 (uf : Int))).setCell ⟨w.heap.size + 1, 1, none⟩ (.int .i64 us)) := Only.below (hb.drew) o2 (by omega)
      have b1 : wr.drew.cell? ⟨w.heap.size + 1, 0, none⟩ = some (.int .u64 (sf : Int)) := y1.cell 0
      have b2 : wr.drew.cell? ⟨w.heap.size + 1, 1, none⟩ = some (.int .i64 ss) := y1.cell 1
      have b3 : (wr.drew.setCell ⟨w.heap.size + 1, 0, none⟩ (.int .u64 (uf : Int))).cell? ⟨w.heap.size + 1, 1, none⟩ = some (.int .i64 ss) := z1.cell 1
      have w1 := y1.warm 0
      have w2 := z1.warm 1
      have w3 := hx1.warm 0
      have w4 := hx1.warm 1
      have b4 : wr.cell? ⟨w.heap.size + 1, 0, none⟩ = some (.int .u64 (sf : Int)) := hx1.cell 0
      have b5 : wr.cell? ⟨w.heap.size + 1, 1, none⟩ = some (.int .i64 ss) := hx1.cell 1
      have c3 : wr.drew.cell? ⟨b, off + k * 2, none⟩ = some (.int .u64 (xf : Int)) := c0
      have c4 : wr.drew.cell? ⟨b, off + k * 2 + 1, none⟩ = some (.int .i64 xs) := c1
      have HQ : Hid (Box ((wr.drew.setCell ⟨w.heap.size + 1, 0, none⟩ (.int .u64 (uf : Int))).setCell ⟨w.heap.size + 1, 1, none⟩ (.int .i64 us)) w.heap.size 24 #[.int .u64 0, .int .i64 0] ∧ Box ((wr.drew.setCell ⟨w.heap.size + 1, 0, none⟩ (.int .u64 (uf : Int))).setCell ⟨w.heap.size + 1, 1, none⟩ (.int .i64 us)) (w.heap.size + 1) 24 #[.int .u64 ((addV (l.take (k + 1))).fee : Int), .int .i64 (addV (l.take (k + 1))).size] ∧ Below w.heap.size w ((wr.drew.setCell ⟨w.heap.size + 1, 0, none⟩ (.int .u64 (uf : Int))).setCell ⟨w.heap.size + 1, 1, none⟩ (.int .i64 us))) := Lib.hid ⟨q0, by rw [htt]; exact q1, qb⟩
      clear bd y0 y1 o1 o2 z1 q0 q1 qb hx0 hx1 hb H hsz hxl e1 e2 hf2 hx hss htt hfit hcs HS
      go_wp2_with fail
      go_region
      go_wp2
      go_roundw
      case rel => exact ⟨k + 1, by omega, by go_num, HQ⟩
      case measure => simp [intOf] <;> omega
    · obtain rfl : k = l.length := by omega
      have HE := Lib.hid (show l.take l.length = l from List.take_length)
      rw [HE.out] at hx1
      rw [HV.out] at hx1
      dsimp only at hx1
      have z1 := hx0.set 0 (.int .u64 (tf : Int))
      have q1 := z1.set 1 (.int .i64 ts)
      rw [set_two] at q1
      have o2 := Only.set (Only.set (Only.refl w.heap.size wr) 0 (.int .u64 (tf : Int))) 1 (.int .i64 ts)
      have qb : Below w.heap.size w ((wr.setCell ⟨w.heap.size, 0, none⟩ (.int .u64 (tf : Int))).setCell ⟨w.heap.size, 1, none⟩ (.int .i64 ts)) := Only.below hb o2 (Nat.le_refl _)
      have w1 := hx0.warm 0
      have w2 := z1.warm 1
      have w3 := hx0.warm 1
      have b1 : wr.cell? ⟨w.heap.size + 1, 0, none⟩ = some (.int .u64 (tf : Int)) := hx1.cell 0
      have b2 : wr.cell? ⟨w.heap.size + 1, 1, none⟩ = some (.int .i64 ts) := hx1.cell 1
      have b3 : wr.cell? ⟨w.heap.size, 0, none⟩ = some (.int .u64 0) := hx0.cell 0
      have b4 : wr.cell? ⟨w.heap.size, 1, none⟩ = some (.int .i64 0) := hx0.cell 1
      have b5 : ((wr.setCell ⟨w.heap.size, 0, none⟩ (.int .u64 (tf : Int))).setCell ⟨w.heap.size, 1, none⟩ (.int .i64 ts)).cell? ⟨w.heap.size, 0, none⟩ = some (.int .u64 (tf : Int)) := q1.cell 0
      have b6 : ((wr.setCell ⟨w.heap.size, 0, none⟩ (.int .u64 (tf : Int))).setCell ⟨w.heap.size, 1, none⟩ (.int .i64 ts)).cell? ⟨w.heap.size, 1, none⟩ = some (.int .i64 ts) := q1.cell 1
      have b7 : (wr.setCell ⟨w.heap.size, 0, none⟩ (.int .u64 (tf : Int))).cell? ⟨w.heap.size, 1, none⟩ = some (.int .i64 0) := z1.cell 1
      have QB := Lib.hid qb
      have HXR := Lib.hid q1
      have HIT : Hid ((Try.prog.info? 24).map (·.size) = some 2) := Lib.hid (by kernel_rfl)
      clear qb o2 q1 z1 hx0 hx1 hb H HS HE HV
      go_wp2
      exact bodyPost_ret (results_cell_row (by rfl) _ _ w.heap.size 24 _ _ _ rfl HXR.out Try.underlying24 rfl HIT.out) rfl ⟨rfl, QB.out⟩
end Go.Proofs.Ytompcibcgfjpfaa
