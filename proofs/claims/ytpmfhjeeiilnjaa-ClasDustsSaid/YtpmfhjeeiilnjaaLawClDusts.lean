/- The dust of a transaction stands just where its outputs have less than their kind's least: for every slice of ints the law ClasDusts returns true and leaves it as it was. No further condition. -/
import Derived.Test.YtpmfhjeeiilnjaaClF
import Derived.Test.YtpmfhjeeiilnjaaClT
import Derived.Test.YtpmfhjeeiilnjaaArgK
import Derived.Deep.DeepCutAuto
import Derived.Deep.RegionHeld3
namespace Go.Proofs.Ytpmfhjeeiilnjaa.lawClDusts
open Go.ChangeShapes Go.WideShapes Go.ChangeAt Go.RowKit

def I64s (l : List Int) : Prop := ∀ x ∈ l, -9223372036854775808 ≤ x ∧ x ≤ 9223372036854775807
theorem I64s.at {l : List Int} (h : I64s l) (i : Nat) : -9223372036854775808 ≤ l.getD i 0 ∧ l.getD i 0 ≤ 9223372036854775807 := by
  rw [List.getD_eq_getElem?_getD]
  cases hi : l[i]? with
  | none => simp
  | some x => simpa using h x (List.mem_of_getElem? hi)
def outN (x : Int) : OutD := ⟨(x / 8 % 512).toNat, scriptOf x⟩
theorem dustAt_snoc (ds : List OutD) (d : OutD) (i : Nat) (hi : i < ds.length) : dustAt (ds ++ [d]) i = dustAt ds i := by
  unfold dustAt
  rw [List.getElem?_append_left hi]
theorem dustsTo_snoc (ds : List OutD) (d : OutD) : ∀ n, n ≤ ds.length → dustsTo (ds ++ [d]) n = dustsTo ds n
  | 0, _ => rfl
  | n + 1, h => by
    simp only [dustsTo]
    rw [dustsTo_snoc ds d n (by omega), dustAt_snoc ds d n (by omega)]
theorem dustsOf_snoc (ds : List OutD) (d : OutD) : dustsOf (ds ++ [d]) = dustsOf ds ++ if dustB d.value d.script then [(ds.length : Int)] else [] := by
  unfold dustsOf
  rw [List.length_append, List.length_singleton, dustsTo, dustsTo_snoc ds d _ (Nat.le_refl _)]
  have : dustAt (ds ++ [d]) ds.length = dustB d.value d.script := by unfold dustAt; simp
  rw [this]

theorem tab_at (k : Nat) (h : k ≤ 5) : ([.int .u64 0, .int .u64 240, .int .u64 294, .int .u64 330, .int .u64 330, .int .u64 0] : List Value)[k]? = some (.int .u64 (leastOf (k : Int))) := by
  match k, h with
  | 0, _ => rfl
  | 1, _ => rfl
  | 2, _ => rfl
  | 3, _ => rfl
  | 4, _ => rfl
  | 5, _ => rfl
  | k + 6, h => omega
def tab : Array Value := #[.int .u64 0, .int .u64 240, .int .u64 294, .int .u64 330, .int .u64 330, .int .u64 0]

set_option maxRecDepth 1000000 in
set_option maxHeartbeats 8000000 in
theorem walk (v : Value) (l : List Int) (w : World) (hs : SlK .i64 w v l) (hu : I64s l) : Calls Try.prog 3 #[v] w (YesK w) := by
  have HU := Kp.mk hu
  obtain ⟨A, c, rfl, hc, hA, hr⟩ := hs
  have HR := Kp.mk hr
  obtain ⟨N, hN⟩ : ∃ N, l.length = N := ⟨_, rfl⟩
  have HN := Kp.mk hN
  rw [hN]
  obtain ⟨i0, hi, hz0, hz1, hz2⟩ := info_parts infoInt
  have HI := Kp.mk (And.intro hi (And.intro hz0 (And.intro hz1 hz2)))
  clear hi hz0 hz1 hz2
  have HIT : Kp ((Try.prog.info? 27).map (·.size) = some 4) := ⟨by kernel_rfl⟩
  clear hu hr hA hN hc
  go_enter Try.func3, Try.ntmps3
  go_wp2_with (refine wpList_store_fresh rfl 27 (.tmp 3) (.tmp 11) rfl _ #[.int .u32 0, .slice none 0 0, .slice none 0 0, .int .u32 0] w.heap.size rfl rfl rfl HIT.out rfl rfl ?_)
  go_loopw [4, 5] (fun wv i wr => ∃ (k : Nat) (ds : List OutD) (ov : Value), k ≤ N ∧ k ≤ 30 ∧ i = .int .i64 k ∧ Kp (ds = (l.take k).map outN ∧ OwnMany 2 33 (OutF wr w.heap.size) wr w.heap.size ov ds ∧ OwnK .i64 wr w.heap.size 3 wv (dustsOf ds) ∧ Box wr w.heap.size 27 #[.int .u32 0, .slice none 0 0, ov, .int .u32 0] ∧ Below w.heap.size w wr)) (fun _ i _ => 30 - (intOf i).toNat)
  case atStart => exact ⟨0, [], _, Nat.zero_le _, Nat.zero_le _, rfl, ⟨rfl, OwnMany.nil _ _ _ _ _, OwnK.none .i64 _ _ _, Box.fresh _ _ _, (Below.refl _ _).alloc (Nat.le_refl _) _⟩⟩
  case round =>
    obtain ⟨k, ds, ov, hk, hk30, rfl, ⟨hds, hown, hwant, hbox, hbel⟩⟩ := hrel
    by_cases hgo : k < N ∧ k < 30
    · obtain ⟨hlt, hlt30⟩ := hgo
      obtain ⟨b, off, rfl, hb, hrun⟩ := HR.out (by intro h; have := HN.out; rw [h] at this; simp at this; omega)
      have hcell := (Below.cell hbel (p := ⟨b, off + k, none⟩) hb).trans (hrun k (by have := HN.out; omega))
      obtain ⟨x, hx⟩ : ∃ x, l.getD k 0 = x := ⟨_, rfl⟩
      have hxb := HU.out.at k
      rw [hx] at hcell hxb
      obtain ⟨y, hy, hyl⟩ : ∃ y : Nat, x / 8 % 512 = (y : Int) ∧ y < 512 := ⟨(x / 8 % 512).toNat, by omega, by omega⟩
      have hw3 : IntKind.i64.wrap (x / 8) = x / 8 := by rw [IntKind.wrap_i64]; omega
      have hand : bits BinOp.and IntKind.i64 (x / 8) 511 = (y : Int) := by rw [← hy]; exact and_mask (x / 8) 9 (by omega)
      have hwy : IntKind.u64.wrap (y : Int) = (y : Int) := by rw [IntKind.wrap_u64]; omega
      have HOD : Kp (outN x = ⟨y, scriptOf x⟩) := ⟨by unfold outN; rw [hy]; rfl⟩
      have HT : Kp (∀ W, Calls Try.prog 7 #[.int .i64 x] W (ScrP (scriptOf x) W)) := ⟨fun W => script_any W x hxb⟩
      have hkN : (k : Int) < (N : Int) := by omega
      have hk3 : (k : Int) < 30 := by omega
      have HK := Kp.mk (And.intro hlt hlt30)
      have HX := Kp.mk hx
      have HDS := Kp.mk hds
      have HOUTS := Kp.mk hown
      have HWANT := Kp.mk hwant
      have HBOX := Kp.mk hbox
      have HBEL := Kp.mk hbel
      have hcd : wr.drew.cell? ⟨b, off + k, none⟩ = some (.int .i64 x) := hcell
      have HCELL : Kp (∀ W, Below wr.heap.size wr W → W.cell? ⟨b, off + k, none⟩ = some (.int .i64 x)) := ⟨fun W h => (Below.cell h (p := ⟨b, off + k, none⟩) (Nat.lt_of_lt_of_le hb hbel.size)).trans hcell⟩
      have HBD : Kp (Below wr.heap.size wr wr.drew) := ⟨(Below.refl _ _).drew⟩
      obtain ⟨M5, hM5⟩ : ∃ M, (scriptOf x).length = M := ⟨_, rfl⟩
      have HM5 := Kp.mk hM5
      clear hM5
      clear hds hown hwant hbox hbel hcell hlt hlt30 hxb hx hrun hb hy hk hk30
      go_upto_region 6 with fail
      go_cut [6] (fun p wx => ∃ (g : Nat) (A5 : Option Addr) (c5 : Nat), p = .pointer (some ⟨g, 0, none⟩) ∧ Kp (Box wx g 33 #[.int .u64 y, .slice A5 M5 c5] ∧ RbF wx wr.heap.size (.slice A5 M5 c5) (scriptOf x) ∧ Below wr.heap.size wr wx ∧ wr.heap.size ≤ g))
      case first =>
        have hcd2 : (wr.alloc (.cells #[.int .u64 0, .slice none 0 0] 33)).drew.cell? ⟨b, off + k, none⟩ = some (.int .i64 x) := HCELL.out _ ((Below.refl _ _).alloc (Nat.le_refl _) _).drew
        have hcd3 : (wr.drew.alloc (.cells #[.int .u64 0, .slice none 0 0] 33)).cell? ⟨b, off + k, none⟩ = some (.int .i64 x) := HCELL.out _ ((Below.refl _ _).drew.alloc (Nat.le_refl _) _)
        go_region_held3 (fun w3 => w3.cell? ⟨b, off + k, none⟩ = some (.int .i64 x)) (first | exact hcd | exact hcd2 | exact hcd3 | exact hce _ ((Below.refl _ _).alloc (Nat.le_refl _) _) | exact hce _ (((Below.refl _ _).alloc (Nat.le_refl _) _).setCell (Nat.le_refl _) _) | exact hce _ ((((Below.refl _ _).alloc (Nat.le_refl _) _).setCell (Nat.le_refl _) _).setCell (Nat.le_refl _) _) | exact HCELL.out _ ((hb55.setCell (Nat.le_refl _) _).setCell (Nat.le_refl _) _) | assumption) (first | (go_at_call 7; refine (HT.out wr.drew).mono ?_; rintro e w5 ⟨v5, rfl, hv5, hb5⟩; have hb55 := HBD.out.trans hb5; obtain ⟨A5, c5, e5⟩ := hv5.slice5; rw [HM5.out] at e5; subst e5; have hc5 := HCELL.out _ hb55; have hce := fun W (h : Below w5.heap.size w5 W) => HCELL.out W (hb55.trans (h.mono hb55.size))) | (go_at_call 7; refine (HT.out _).mono ?_; rintro e w5 ⟨v5, rfl, hv5, hb5⟩; obtain ⟨A5, c5, e5⟩ := hv5.slice5; rw [HM5.out] at e5; subst e5; have hb55 := (((Below.refl wr.heap.size wr).alloc (Nat.le_refl _) (.cells #[.int .u64 0, .slice none 0 0] 33)).drew).trans (hb5.mono (by simp)); have hbx5 := ((Box.fresh wr 33 #[.int .u64 0, .slice none 0 0]).below ((Below.refl _ _).drew)).below hb5; have c50 := hbx5.cell 0; have c51 := hbx5.cell 1; have f50 := hbx5.warm 0; have f51 := hbx5.warm 1; have hc5 := HCELL.out _ hb55; have hce := fun W (h : Below w5.heap.size w5 W) => HCELL.out W (hb55.trans (h.mono hb55.size))))
        · go_wp2
          go_meet
          have hku : Keeps [5] w5 (w5.alloc (.cells #[.int .u64 y, .slice A5 M5 c5] 33)) := Keeps.of_below _ ((Below.refl _ _).alloc (Nat.le_refl _) _)
          exact ⟨w5.heap.size, A5, c5, rfl, ⟨Box.fresh _ _ _, hv5.keeps hku (by decide), hb55.alloc hb55.size _, hb55.size⟩⟩
        · go_wp2
          go_meet
          have hbx6 := hbx5.set 0 (.int .u64 y)
          have hku : Keeps [5] w5 ((w5.setCell ⟨wr.heap.size, 0, none⟩ (.int .u64 y)).setCell ⟨wr.heap.size, 1, none⟩ (.slice A5 M5 c5)) := (Keeps.of_set hbx5 (by decide) 0 _).trans (Keeps.of_set hbx6 (by decide) 1 _)
          exact ⟨wr.heap.size, A5, c5, rfl, ⟨hbx6.set 1 _, (hv5.keeps hku (by decide)).less (by simp), (hb55.setCell (Nat.le_refl _) _).setCell (Nat.le_refl _) _, Nat.le_refl _⟩⟩
      case rest =>
        obtain ⟨g, A5, c5, rfl, ⟨hbx, hrbf, hb6, hgs⟩⟩ := hcut
        obtain ⟨wx, rfl⟩ : ∃ wx : World, wx = wc := ⟨_, rfl⟩
        have hbox1 := HBOX.out.below hb6
        have c2 := hbox1.cell 2
        have d0 := hbx.cell 0
        have d1 := hbx.cell 1
        have hka : Keeps [5, 33, 3, 27] wr (wx.alloc (.cells #[.int .u64 y, .slice A5 M5 c5] 33)) := (Keeps.of_below _ hb6).trans (Keeps.of_below _ ((Below.refl _ _).alloc (Nat.le_refl _) _))
        have hkb : Keeps [5] wx (wx.alloc (.cells #[.int .u64 y, .slice A5 M5 c5] 33)) := Keeps.of_below _ ((Below.refl _ _).alloc (Nat.le_refl _) _)
        have HOW := Kp.mk (OwnMany.turn HOUTS.out hka (by decide) (Nat.le_refl _) (fun cs d h => OutF.keeps h hka (by decide)))
        have hof : OutF (wx.alloc (.cells #[.int .u64 y, .slice A5 M5 c5] 33)) w.heap.size [.int .u64 y, .slice A5 M5 c5] ⟨y, scriptOf x⟩ := ⟨_, rfl, by show y < 18446744073709551616; omega, (hrbf.keeps hkb (by decide)).less HBEL.out.size⟩
        have HOF := Kp.mk hof
        have HONE := Kp.mk (outF_one hof)
        have HBA : Kp (Below w.heap.size w (wx.alloc (.cells #[.int .u64 y, .slice A5 M5 c5] 33))) := ⟨(HBEL.out.trans (hb6.mono HBEL.out.size)).alloc (Nat.le_trans HBEL.out.size hb6.size) _⟩
        obtain ⟨io, hio, hzo, hso, hbo⟩ := info_parts infoOutZ
        have HIO := Kp.mk (And.intro hio (And.intro hzo (And.intro hso hbo)))
        have HDL : Kp (ds.length ≤ 1000) := ⟨by rw [HDS.out]; simp; have := HK.out; omega⟩
        have HBX := Kp.mk hbx
        have HGS := Kp.mk hgs
        have HB6 := Kp.mk hb6
        have HRBF := Kp.mk hrbf
        have HBOX1 := Kp.mk hbox1
        clear hbx hrbf hb6 hgs hbox1 hka hkb hof hio hzo hso hbo hcd hw3 hand hwy hkN hk3
        go_wp2_with (at_builtin; refine wpList_append_many (R := fun W => OutF W w.heap.size) rfl (.tmp 36) (.tmp 38) 25 rfl w.heap.size io _ 32 Try.underlying25 HIO.out.1 HIO.out.2.1 HIO.out.2.2.1 HIO.out.2.2.2 rfl (by decide) _ ds rfl HOW.out wx.heap.size 1 [.int .u64 y, .slice A5 M5 c5] ⟨y, scriptOf x⟩ rfl (Box.fresh wx _ _) rfl HOF.out HONE.out HDL.out (by decide) HBA.out.size [5, 3, 27] (by decide) (fun w' cs d hk h => OutF.keeps h hk (by decide)) ?_)
        intro v6 w6 hm6 hg6 hk6
        obtain ⟨A6, c6, rfl⟩ := hm6.slice
        obtain ⟨IS, hIS⟩ : ∃ IS, ds ++ [⟨y, scriptOf x⟩] = IS := ⟨_, rfl⟩
        rw [hIS] at hm6 ⊢
        have hlo : ∀ q, ov.ownBlock = some q → w.heap.size ≤ q ∧ q < wr.heap.size := fun q hq => by obtain ⟨css, hrow, _⟩ := HOUTS.out; exact World.ownsRow.lt hrow q hq
        have hbel6 : Below w.heap.size w w6 := HBA.out.grown hg6 HBA.out.size (fun q hq => (hlo q hq).1)
        have hwant6 : OwnK .i64 w6 w.heap.size 3 u4 (dustsOf ds) := by
          have h1 := HWANT.out.below HB6.out
          have h2 := h1.below ((Below.refl wx.heap.size wx).alloc (Nat.le_refl _) (.cells #[.int .u64 y, .slice A5 M5 c5] 33))
          exact ownsRow_keeps h2 hk6 (by decide)
        have hx6 := Keeps.box hk6 (by decide) (box_past HBOX1.out)
        have hg6x : Box w6 g 33 #[.int .u64 y, .slice A5 M5 c5] := by
          have h1 := box_past (o := .cells #[.int .u64 y, .slice A5 M5 c5] 33) HBX.out
          exact (hg6.block g h1.lt (fun e => by have := (hlo g e.symm).2; have := HGS.out; omega)).trans h1
        have hrb6 : RbF w6 wr.heap.size (.slice A5 M5 c5) (scriptOf x) := (HRBF.out.keeps (ts := [5]) (Keeps.of_below _ ((Below.refl _ _).alloc (Nat.le_refl _) _)) (by decide)).keeps hk6 (by decide)
        have c6' := hx6.cell 2
        have f6 := hx6.warm 2
        have hne : g ≠ w.heap.size := by have := HGS.out; have := HBEL.out.size; intro e; subst e; have h1 := HBX.out; have h2 := HBOX1.out; rw [show Box wx w.heap.size 27 _ = (wx.heap[w.heap.size]? = _) from rfl] at h2; rw [show Box wx w.heap.size 33 _ = (wx.heap[w.heap.size]? = _) from rfl, h2] at h1; simp at h1
        have hk7 : Keeps [5, 33, 3] w6 (w6.setCell ⟨w.heap.size, 2, none⟩ (.slice A6 IS.length c6)) := Keeps.of_set hx6 (by decide) 2 _
        obtain ⟨w7, hw7⟩ : ∃ W, w6.setCell ⟨w.heap.size, 2, none⟩ (.slice A6 IS.length c6) = W := ⟨_, rfl⟩
        rw [hw7] at hk7
        have HW7 := Kp.mk hw7
        have HM7 := Kp.mk (OwnMany.turn hm6 hk7 (by decide) (Nat.le_refl _) (fun cs d h => OutF.keeps h hk7 (by decide)))
        have HWANT7 : Kp (OwnK .i64 w7 w.heap.size 3 u4 (dustsOf ds)) := ⟨ownsRow_keeps hwant6 hk7 (by decide)⟩
        have HBOX7 : Kp (Box w7 w.heap.size 27 #[.int .u32 0, .slice none 0 0, .slice A6 IS.length c6, .int .u32 0]) := ⟨by rw [← hw7]; exact hx6.set 2 _⟩
        have HBEL7 : Kp (Below w.heap.size w w7) := ⟨by rw [← hw7]; exact hbel6.setCell (Nat.le_refl _) _⟩
        have HG7 := Kp.mk (Keeps.box hk7 (by decide) hg6x)
        have HRB7 := Kp.mk (hrb6.keeps hk7 (by decide)).rbT.1
        have HIS : Kp (IS = (l.take (k + 1)).map outN) := ⟨by
          rw [← hIS, HDS.out, List.take_succ_eq_append_getElem (by have := HK.out.1; have := HN.out; omega), List.map_append, ← HOD.out]
          congr 1
          rw [List.map_singleton, ← HX.out]
          simp [List.getD_eq_getElem?_getD, List.getElem?_eq_getElem (show k < l.length by have := HK.out.1; have := HN.out; omega)]⟩
        have HDT : Kp (dustsOf IS = dustsOf ds ++ if dustB y (scriptOf x) then [(k : Int)] else []) := ⟨by
          rw [← hIS, dustsOf_snoc]
          have : ds.length = k := by rw [HDS.out]; simp; have := HK.out; have := HN.out; omega
          rw [this]⟩
        have gc1 := hg6x.cell 1
        clear hm6 hg6 hk6 hIS hlo hbel6 hwant6 hx6 hg6x hrb6 hk7 hw7 HOUTS HWANT HBOX HBEL HBX HGS HB6 HRBF HBOX1 HBA HOW HOF HDS HCELL c2 d0 d1
        go_wp2_with fail
        rw [HW7.out]
        refine (kind_any w7 _ _ HRB7.out).mono ?_
        rintro e w' ⟨rfl, rfl⟩
        clear gc1 f6 c6' HW7 hne HT HR
        have hkd := kindOf_le (scriptOf x)
        have HDB : Kp (dustB y (scriptOf x) = decide ((y : Int) < (leastOf (kindOf (scriptOf x)) : Int))) := ⟨rfl⟩
        generalize kindOf (scriptOf x) = kd at *
        have d0 : (w7.alloc (.cells #[.int .u64 0, .int .u64 240, .int .u64 294, .int .u64 330, .int .u64 330, .int .u64 0] 28)).cell? ⟨g, 0, none⟩ = some (.int .u64 y) := (box_past HG7.out).cell 0
        have k0 : decide ((kd : Int) < 0) = false := by simp
        have k5 : decide (5 < (kd : Int)) = false := by simp; omega
        have kl : (0 : Int) ≤ (kd : Int) := by omega
        have ku : (kd : Int) < 6 := by omega
        have htab := tab_at kd hkd
        have hwk : IntKind.i64.wrap ((k : Int) + 1) = (k : Int) + 1 := by rw [IntKind.wrap_i64]; have := HK.out; omega
        obtain ⟨q, hq⟩ : ∃ q, leastOf (kd : Int) = q := ⟨_, rfl⟩
        rw [hq] at htab HDB
        clear hq hkd
        by_cases hd : y < q
        · have e1 : decide ((y : Int) < (q : Int)) = true := by simp; omega
          have e2 : (y < q) = True := by simp [hd]
          have HDT2 : Kp (dustsOf IS = dustsOf ds ++ [(k : Int)]) := ⟨by rw [HDT.out, HDB.out, e1]; rfl⟩
          have HW8 : Kp (OwnK .i64 ((w7.alloc (.cells tab 28)).alloc (.cells #[.int .i64 (k : Int)] 3)) w.heap.size 3 u4 (dustsOf ds)) := ⟨(HWANT7.out.below ((Below.refl _ _).alloc (Nat.le_refl _) _)).below ((Below.refl _ _).alloc (Nat.le_refl _) _)⟩
          have HB8 : Kp (Below w.heap.size w ((w7.alloc (.cells tab 28)).alloc (.cells #[.int .i64 (k : Int)] 3))) := ⟨(HBEL7.out.alloc HBEL7.out.size _).alloc (HBEL7.out.alloc HBEL7.out.size _).size _⟩
          have HLEN : Kp (((dustsOf ds).length + [(k : Int)].length) * 8 ≤ 140737488355328) := ⟨by have := dustsTo_len ds ds.length; have := HDL.out; simp only [dustsOf, List.length_singleton]; omega⟩
          have hk78 : Keeps [5, 33, 27] w7 ((w7.alloc (.cells tab 28)).alloc (.cells #[.int .i64 (k : Int)] 3)) := (Keeps.of_below _ ((Below.refl _ _).alloc (Nat.le_refl _) _)).trans (Keeps.of_below _ ((Below.refl _ _).alloc (Nat.le_refl _) _))
          have HK78 := Kp.mk hk78
          have HSL : Kp (SlK .i64 ((w7.alloc (.cells tab 28)).alloc (.cells #[.int .i64 (k : Int)] 3)) (.slice (some ⟨w7.heap.size + 1, 0, none⟩) 1 1) [(k : Int)]) := ⟨by have := SlK.fresh .i64 (w7.alloc (.cells tab 28)) 3 [(k : Int)]; rw [alloc_size] at this; exact this⟩
          clear hd hk78
          go_wp2_with (at_builtin; refine wpList_append_nums .i64 8 (by omega) rfl (.tmp 58) (.tmp 60) 22 rfl w.heap.size 3 i0 Try.underlying22 HI.out.1 HI.out.2.1 HI.out.2.2.1 HI.out.2.2.2 _ (dustsOf ds) rfl HW8.out _ [(k : Int)] rfl HSL.out HLEN.out HB8.out.size ?_; intro v9 w9 ho9 hg9; have HB9 := Kp.mk (HW8.out.grows HB8.out hg9 (Nat.le_refl _)); have HK9 := Kp.mk (Keeps.of_own (ts := [5, 33, 27]) hg9 HW8.out (by decide)); have HO9 := Kp.mk ho9; clear ho9 hg9)
          go_roundw
          case rel =>
            have hk := HK78.out.trans HK9.out
            exact ⟨k + 1, IS, _, by have := HK.out; omega, by have := HK.out; omega, by go_num, ⟨HIS.out, OwnMany.turn HM7.out hk (by decide) (Nat.le_refl _) (fun cs d h => OutF.keeps h hk (by decide)), by rw [HDT2.out]; exact HO9.out, Keeps.box hk (by decide) HBOX7.out, HB9.out⟩⟩
          case measure => simp [intOf]; have := HK.out; omega
        · have e1 : decide ((y : Int) < (q : Int)) = false := by simp; omega
          have e2 : (y < q) = False := by simp; omega
          have HDT2 : Kp (dustsOf IS = dustsOf ds) := ⟨by rw [HDT.out, HDB.out, e1]; simp⟩
          have hk : Keeps [5, 33, 27, 3] w7 (w7.alloc (.cells tab 28)) := Keeps.of_below _ ((Below.refl _ _).alloc (Nat.le_refl _) _)
          have HK78 := Kp.mk hk
          clear hd hk
          go_wp2_with fail
          go_roundw
          case rel =>
            have hk := HK78.out
            exact ⟨k + 1, IS, _, by have := HK.out; omega, by have := HK.out; omega, by go_num, ⟨HIS.out, OwnMany.turn HM7.out hk (by decide) (Nat.le_refl _) (fun cs d h => OutF.keeps h hk (by decide)), by rw [HDT2.out]; exact ownsRow_keeps HWANT7.out hk (by decide), Keeps.box hk (by decide) HBOX7.out, HBEL7.out.alloc HBEL7.out.size _⟩⟩
          case measure => simp [intOf]; have := HK.out; omega
    · have hout : OutsR wr ov ds := OwnMany.many hown fun _ _ h => h.outR
      have hdl : ds.length ≤ 1000 := by rw [hds]; simp; omega
      have HD : Kp (∀ W, Below wr.heap.size wr W → Calls Try.prog 9 #[.agg #[.int .u32 0, .slice none 0 0, ov, .int .u32 0]] W (IntsP (dustsOf ds) W)) := ⟨fun W hb => dusts_any W (.int .u32 0) (.slice none 0 0) (.int .u32 0) ov ds (outs_below hout hb) hdl⟩
      have c0 := hbox.cell 0
      have c1 := hbox.cell 1
      have c2 := hbox.cell 2
      have c3 := hbox.cell 3
      obtain ⟨A4, c4, rfl⟩ := hwant.slice
      have hLl := dustsTo_len ds ds.length
      have hL60 : (dustsOf ds).length ≤ 1000 := Nat.le_trans hLl hdl
      have HWANT := Kp.mk hwant
      have HBEL := Kp.mk hbel
      generalize dustsOf ds = D at *
      obtain ⟨L, hL⟩ : ∃ L, D.length = L := ⟨_, rfl⟩
      have HL := Kp.mk hL
      rw [hL] at HWANT hL60 ⊢
      have hstop : (decide ((k : Int) < (N : Int)) = false) ∨ ((k : Int) < (N : Int) ∧ (k : Int) = 30) := by
        by_cases h : k < N
        · exact .inr ⟨by omega, by omega⟩
        · exact .inl (by simp; omega)
      have HAW : Kp (∀ W, Calls Try.prog 10 #[] W (YesK W)) := ⟨awake6_any⟩
      clear hout hdl hds hown hwant hbox hbel hgo hLl hL hk hk30 HI HIT HU HR HN
      obtain ⟨kz, hkz⟩ : ∃ z : Int, (k : Int) = z := ⟨_, rfl⟩
      rw [hkz] at hstop ⊢
      clear hkz
      rcases hstop with hs | ⟨hs, rfl⟩
      all_goals
        go_wp2_with fail
        refine (HD.out _ (Below.refl _ _)).mono ?_
        rintro e w2 ⟨v9, rfl, ho9, hb9⟩
        obtain ⟨A9, c9, rfl⟩ := ho9.slice
        have hw2 : OwnK .i64 w2 w.heap.size 3 (.slice A4 L c4) D := HWANT.out.below hb9
        have HBEL2 := Kp.mk (HBEL.out.trans (hb9.mono HBEL.out.size))
        have HO9 := Kp.mk ho9
        have HW2 := Kp.mk hw2
        have hll := HL.out
        rw [hll] at HO9 ⊢
        clear ho9 hb9 hw2 hll c0 c1 c2 c3 hs
        go_wp2
        go_loopw [71] (fun i ww => ∃ j : Nat, j ≤ L ∧ i = .int .i64 j ∧ Kp (Below w2.heap.size w2 ww)) (fun i _ => L - (intOf i).toNat)
        case atStart => exact ⟨0, Nat.zero_le _, rfl, ⟨Below.refl _ _⟩⟩
        case round =>
          obtain ⟨j, hj, rfl, H⟩ := hrel
          by_cases hlt : j < L
          · have h9 := HO9.out.below H.out
            have h4 := HW2.out.below H.out
            rcases h9.form with ⟨_, e9⟩ | ⟨g9, cap9, cur9, e9, _⟩
            · exact absurd HL.out (by rw [e9]; simp; omega)
            rcases h4.form with ⟨_, e4⟩ | ⟨g4, cap4, cur4, e4, _⟩
            · exact absurd HL.out (by rw [e4]; simp; omega)
            injection e9 with e9 _ e9c
            injection e4 with e4 _ e4c
            subst e9
            subst e4
            have c9' := h9.at j (by rw [HL.out]; exact hlt)
            have c4' := h4.at j (by rw [HL.out]; exact hlt)
            obtain ⟨z, hz⟩ : ∃ z, D.getD j 0 = z := ⟨_, rfl⟩
            rw [hz] at c9' c4'
            have hj0 : (0 : Int) ≤ (j : Int) := by omega
            have hjL : (j : Int) < (L : Int) := by omega
            have HJ := Kp.mk hlt
            have hwj : IntKind.i64.wrap ((j : Int) + 1) = (j : Int) + 1 := by rw [IntKind.wrap_i64]; omega
            clear h9 h4 hz e9c e4c hlt
            go_wp2_with fail
            go_region
            go_wp2
            go_roundw
            case rel => exact ⟨j + 1, HJ.out, by go_num, ⟨H.out.drew⟩⟩
            case measure => simp [intOf]; have := HJ.out; omega
          · obtain rfl : j = L := by omega
            have HB := Kp.mk (HBEL2.out.trans (H.out.mono HBEL2.out.size))
            go_wp2_with fail
            refine (HAW.out _).mono ?_
            rintro e w8 ⟨rfl, hb8⟩
            go_wp2
            go_ret
            exact ⟨rfl, HB.out.trans (hb8.mono HB.out.size)⟩

theorem i64s_of {l : List Int} (h : ∀ x ∈ l, (Lit.int .i64 x).wf = true) : I64s l := fun x hx => bd_i64 (h x hx)

set_option maxRecDepth 100000 in
theorem lifted (os : Os) (started : os.Started) (H : Type) (enc : TypeId × Value → H) :
    ReturnsInHanded {} Try.checked os 3 .any (Rows.clasDustsSpec.pre6 enc Try.prog Try.f3 Rows.clasDustsRow.domain false) (Rows.clasDustsSpec.post enc Try.prog Try.f3 false true false false) := by
  refine returnsInHanded_of_change (C := Try.checked) ownKnobNone started (by kernel_rfl) Try.func3
    (ChangeSpec.witness6 (enc := enc) (C := Try.checked) false ⟨#[], #[.slice none 0 0], []⟩ 8 (by kernel_rfl) (by kernel_rfl) (by kernel_rfl) (by kernel_rfl)) ?_
  intro W base args ds gs before hval0 hW _ _
  have hval : ∀ (j : Nat) t v, Try.f3.params[j]? = some t → args[j]? = some v → Value.okWide Try.prog W .any base t v := hval0
  have hW' := hW
  obtain ⟨p, q, hA0, hV, rfl, _, _⟩ := hW
  have hA : DataW.TrodAll enc Try.prog W 0 (fun _ => true) true Try.f3.params.toList args.toList ds p := hA0
  rw [Try.params3] at hA hval
  obtain ⟨v0, vs0, d0, ds0, p0, q0, hargs, rfl, rfl, h0, r0⟩ := trodAll_cons hA
  obtain ⟨rfl, rfl, rfl⟩ := trodAll_nil r0
  obtain rfl : args = #[v0] := by cases args; simp_all
  obtain ⟨rfl, rfl⟩ := trodVars_none hV
  obtain ⟨l0, s0, y0, z0⟩ := ks_arg Try.underlying22 Try.underlying3 (by kernel_rfl) (hval 0 22 v0 rfl rfl) h0
  clear hA0 hval0
  refine (walk v0 l0 W s0 (i64s_of y0)).mono fun e W' ⟨he, hb⟩ => ?_
  subst he
  exact ⟨_, rfl, law_post hW' rfl rfl (by kernel_rfl) rfl hb⟩

set_option maxRecDepth 100000 in
theorem over : Rows.clasDustsRow.holds Try.pinned (OpenSpec.ofChange Rows.clasDustsSpec) :=
  OpenClaim.holds_of_wide 3 Try.f3 rfl rfl rfl rfl rfl rfl rfl ⟨rfl, rfl, rfl, rfl, rfl⟩ rfl rfl rfl rfl rfl (by kernel_rfl) Try.func3 (by kernel_rfl)
    (of_decide_eq_true (by kernel_rfl)) (by unfold Func.isWrapper; first | (rw [if_pos (by decide +kernel)]; kernel_rfl) | (rw [if_neg (by decide +kernel)]; exact ⟨rfl, rfl⟩))
    (fun os started H enc _ => lifted os started H enc)

/-- The statement. -/
theorem proved : Rows.ClasDustsSaid :=
  over
end Go.Proofs.Ytpmfhjeeiilnjaa.lawClDusts
