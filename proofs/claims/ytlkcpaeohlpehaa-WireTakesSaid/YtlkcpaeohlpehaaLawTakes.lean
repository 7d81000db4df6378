/- What is taken of bytes is one's own, and what can't be taken takes nothing, and all behind it neither: for every slice of bytes and every two ints the law WireTakes returns true and leaves its arguments as they were. No further condition. -/
import Derived.Test.YtlkcpaeohlpehaaArgs
import Derived.Test.YtlkcpaeohlpehaaWireE
import Derived.Test.YtlkcpaeohlpehaaWireF
import Derived.Deep.DeepCutAuto
import Derived.Deep.RegionHeld3
namespace Go.Proofs.Ytlkcpaeohlpehaa.lawTakes
open Go.ChangeShapes Go.WideShapes Go.ChangeAt Go.RowKit

theorem mask8 (n : Int) : ∃ m : Nat, bits BinOp.and IntKind.i64 n 255 = (m : Int) ∧ m < 256 := by
  have h := and_mask n 8 (by omega)
  refine ⟨(n % 256).toNat, ?_, by omega⟩
  rw [show ((2 ^ 8 - 1 : Nat) : Int) = 255 by decide, show ((2 ^ 8 : Nat) : Int) = 256 by decide] at h
  rw [h]
  omega
theorem mask2 (n : Int) : ∃ m : Nat, bits BinOp.and IntKind.i64 n 3 = (m : Int) ∧ m < 4 := by
  have h := and_mask n 2 (by omega)
  refine ⟨(n % 4).toNat, ?_, by omega⟩
  rw [show ((2 ^ 2 - 1 : Nat) : Int) = 3 by decide, show ((2 ^ 2 : Nat) : Int) = 4 by decide] at h
  rw [h]
  omega

/-- A block of which the first cells are bytes, whatever bytes. -/
def Some8 (w : World) (gx n cap : Nat) : Prop := ∃ cur : Array Value, Box w gx 5 cur ∧ n ≤ cur.size ∧ cur.size = cap ∧ ∀ i, i < n → ∃ z : Int, cur[i]? = some (.int .u8 z)
theorem later {w w1 w2 wr w5 w6 : World} {g : Nat} (h1 : Below w.heap.size w w1) (hg : w.heap.size ≤ g) (h2 : Only g w1 w2) (h3 : Below w2.heap.size w2 wr) (h5 : Only g wr w5) (h6 : Below w5.heap.size w5 w6) : Below w.heap.size w w6 := by
  have a := Only.below h1 h2 hg
  have b := a.trans (h3.mono a.size)
  have c := Only.below b h5 hg
  exact c.trans (h6.mono c.size)
def NoneLeft (g : Nat) (w : World) (e : Ending) (w' : World) : Prop := ∃ y w1, e = .returned y ∧ Only g w w1 ∧ Below w1.heap.size w1 w' ∧ Own w' w1.heap.size 5 y [] ∧ Rd w1 g [] true
theorem some8_set {w : World} {gx n cap : Nat} (h : Some8 w gx n cap) (j : Nat) (z : Int) (hj : j < n) : Some8 (w.setCell ⟨gx, j, none⟩ (.int .u8 z)) gx n cap := by
  obtain ⟨cur, hx, hn, hc, hz⟩ := h
  refine ⟨_, hx.set j (.int .u8 z), by simpa using hn, by simpa using hc, fun i hi => ?_⟩
  by_cases hij : j = i
  · subst hij
    exact ⟨z, by rw [Array.getElem?_setIfInBounds_self_of_lt (by omega)]⟩
  · obtain ⟨y, hy⟩ := hz i hi
    exact ⟨y, by rw [Array.getElem?_setIfInBounds_ne hij]; exact hy⟩

set_option maxHeartbeats 1000000 in
theorem walk_long (v : Value) (l : List Int) (n more : Int) (w : World) (hs : Sl w w.heap.size v l) (hl : 200 < l.length) (hm : l.length ≤ maxLen) :
    Calls Try.prog 4 #[v, .int .i64 n, .int .i64 more] w (YesPost w) := by
  unfold maxLen at hm
  obtain ⟨A, c, rfl, _⟩ := hs
  go_enter Try.func4, Try.ntmps4
  go_wp2_with fail
  refine (awake2_any w).mono ?_
  rintro e w1 ⟨rfl, hb⟩
  go_wp2
  go_ret
  exact ⟨rfl, hb⟩

set_option linter.unusedSimpArgs false in
set_option maxRecDepth 10000000 in
set_option maxHeartbeats 4000000 in
theorem walk_ok (v : Value) (l : List Int) (n more : Int) (w : World) (hs : Sl w w.heap.size v l) (hy : Bys l) (hl : l.length ≤ 200) (q : Nat) (hq : bits BinOp.and IntKind.i64 n 255 = (q : Int)) (hq8 : q < 256) (kk : Nat) (hk : q = kk + 3) (hkl : kk ≤ l.length) :
    Calls Try.prog 4 #[v, .int .i64 n, .int .i64 more] w (YesPost w) := by
  have HS := Lib.hid hs
  have HY := Lib.hid hy
  have HQ := Lib.hid hq
  obtain ⟨A, c, rfl, hlc, hA, _⟩ := hs
  obtain ⟨s0, hs0⟩ : ∃ s, strOfNums l = s := ⟨_, rfl⟩
  have hl2 : (l.length : Int) ≤ 200 := by omega
  have hconv := run_str (show Sl w.drew w.heap.size _ l from HS.out)
  rw [hs0] at hconv
  have HS0 := Lib.hid hs0
  have HV := Lib.hid (fun (W : World) (hW : Below w.heap.size w W) => run_str (HS.out.below hW))
  have hrd := fun W (hW : Below w.heap.size w W) => read_any W _ _ l (HS.out.below hW) HY.out (by omega)
  have HRD := Lib.hid hrd
  clear hs0 hy hq hlc hrd
  go_enter Try.func4, Try.ntmps4
  go_wp2_with fail
  go_region_held3 (fun W => (convert 24 9 (.slice A l.length c)).run Try.prog W = .ok (.string s0) W) (first | exact hconv | assumption) (first | (go_at_call 11; refine (HRD.out _ (Below.refl _ _).drew).mono ?_; rintro e w1 ⟨g, rfl, hg, hr, hb⟩; have hcv := run_str (HS.out.below ((Below.refl w.heap.size w).drew.trans hb)); rw [HS0.out] at hcv))
  have HB1 := Lib.hid ((Below.refl w.heap.size w).drew.trans hb)
  have HG := Lib.hid (show w.heap.size ≤ g from hg)
  have hgl : g < w1.heap.size := by
    obtain ⟨_, hx, _⟩ := hr
    exact hx.lt
  have hq : bits BinOp.and IntKind.i64 n 255 = (kk : Int) + 3 := by rw [HQ.out, hk]; omega
  have HT := Lib.hid (take_yes g w1 l false kk hr hkl (by omega))
  have HGL := Lib.hid hgl
  clear hg hr hb hcv hgl hconv
  go_wp2_with fail
  clear hq
  refine HT.out.mono ?_
  rintro e w3 ⟨x, w2, rfl, ho2, hb3, hor⟩
  rcases hor with ⟨_, _, hx, hr2⟩ | ⟨hno, _, _⟩
  case inr => omega
  rw [Int.toNat_natCast] at hx hr2
  have hlen : (l.take kk).length = kk := by rw [List.length_take]; omega
  obtain ⟨A', c', hxs⟩ := hx.slice
  rw [hlen] at hxs
  subst hxs
  obtain ⟨sx, hsx⟩ : ∃ s, strOfNums (l.take kk) = s := ⟨_, rfl⟩
  have hcx := run_str (hx.below (Below.refl w3.heap.size w3).drew).any
  rw [hsx] at hcx
  have hb13 : Below w.heap.size w w3 := (Only.below HB1.out ho2 HG.out).trans (hb3.mono (Nat.le_trans HB1.out.size ho2.size))
  have hcb := run_str (sl_take (HS.out.below hb13.drew) kk hkl)
  have hk0 : ((kk : Int) < 0) = False := by simp
  rw [hsx] at hcb
  have hkc : (kk : Int) ≤ (c : Int) := by
    obtain ⟨_, _, e, hcc, _⟩ := HS.out
    injection e with _ _ e3
    omega
  have hkl' : (kk : Int) ≤ (l.length : Int) := by omega
  have HK := Lib.hid (ok_any g w3.drew _ _ (hr2.below hb3.drew))
  have HR2 := Lib.hid hr2
  have HB13 := Lib.hid hb13
  have HB3 := Lib.hid hb3
  have HX := Lib.hid hx
  have HG2 := Lib.hid (show g < w2.heap.size by have := HGL.out; have := ho2.size; omega)
  have HO2 := Lib.hid ho2
  clear hr2 hb13 hx ho2 hb3 hlen hsx
  go_wp2_with fail
  refine wp_region_noPanic ?_
  refine wp_region_held_drew (S := (fun W => (convert 24 9 (.slice A' kk c')).run Try.prog W = .ok (.string sx) W ∧ (convert 24 9 (.slice A kk c)).run Try.prog W = .ok (.string sx) W)) (by kernel_rfl) ?_ (fun hHeld => ?_)
  · exact ⟨hcx, hcb⟩
  refine wpAnyH_take (i := 0) (oi := ⟨some 38, _, _, _, _, _⟩) (v := ?_) rfl (by kernel_rfl) (by kernel_rfl) (by kernel_rfl) (fun _ _ _ h => h) (Or.inl ⟨by rfl, ?_⟩) hHeld ?_
  rotate_left
  · (intro wx hSw; (try dsimp only at hSw); go_simp; try with_reducible rfl)
  try simp only [Act.put, List.setIfInBounds_toArray, List.set_cons_zero, List.set_cons_succ]
  refine wpAnyH_take (i := 2) (oi := ⟨some 40, _, _, _, _, _⟩) (v := ?_) rfl (by kernel_rfl) (by kernel_rfl) (by kernel_rfl) (fun _ _ _ h => h) (Or.inl ⟨by rfl, ?_⟩) hHeld ?_
  rotate_left
  · (intro wx hSw; (try dsimp only at hSw); go_simp; try with_reducible rfl)
  try simp only [Act.put, List.setIfInBounds_toArray, List.set_cons_zero, List.set_cons_succ]
  refine wpAnyH_ready (rs := [1]) (by kernel_rfl) (by simp) (AllReadyH.cons (o := ⟨some 39, _, _, _, _, _⟩) rfl (fun K hK => ?_) AllReadyH.nil)
  go_simp
  refine HK.out.mono ?_
  rintro e w' ⟨rfl, rfl⟩
  refine hK.out _ _ ?_ (fun hHeld => ?_)
  · exact ⟨hcx, hcb⟩
  clear hK K
  try simp only [Act.put, List.setIfInBounds_toArray, List.set_cons_zero, List.set_cons_succ]
  refine wpAnyH_take (i := 3) (oi := ⟨some 41, _, _, _, _, _⟩) (v := ?_) rfl (by kernel_rfl) (by kernel_rfl) (by kernel_rfl) (fun _ _ _ h => h) (Or.inl ⟨by rfl, ?_⟩) hHeld ?_
  rotate_left
  · (intro wx hSw; (try dsimp only at hSw); go_simp; try with_reducible rfl)
  try simp only [Act.put, List.setIfInBounds_toArray, List.set_cons_zero, List.set_cons_succ]
  refine wpAnyH_take (i := 4) (oi := ⟨some 42, _, _, _, _, _⟩) (v := ?_) rfl (by kernel_rfl) (by kernel_rfl) (by kernel_rfl) (fun _ _ _ h => h) (Or.inl ⟨by rfl, ?_⟩) hHeld ?_
  rotate_left
  · (intro wx hSw; (try dsimp only at hSw); go_simp; try with_reducible rfl)
  try simp only [Act.put, List.setIfInBounds_toArray, List.set_cons_zero, List.set_cons_succ]
  refine wpAnyH_take (i := 5) (oi := ⟨some 43, _, _, _, _, _⟩) (v := ?_) rfl (by kernel_rfl) (by kernel_rfl) (by kernel_rfl) (fun _ _ _ h => h) (Or.inl ⟨by rfl, ?_⟩) hHeld ?_
  rotate_left
  · (intro wx hSw; (try dsimp only at hSw); go_simp; try with_reducible rfl)
  try simp only [Act.put, List.setIfInBounds_toArray, List.set_cons_zero, List.set_cons_succ]
  refine wpAnyH_take (i := 6) (oi := ⟨some 44, _, _, _, _, _⟩) (v := ?_) rfl (by kernel_rfl) (by kernel_rfl) (by kernel_rfl) (fun _ _ _ h => h) (Or.inl ⟨by rfl, ?_⟩) hHeld ?_
  rotate_left
  · (intro wx hSw; (try dsimp only at hSw); go_simp; try with_reducible rfl)
  try simp only [Act.put, List.setIfInBounds_toArray, List.set_cons_zero, List.set_cons_succ]
  refine wpAnyH_take (i := 7) (oi := ⟨some 45, _, _, _, _, _⟩) (v := ?_) rfl (by kernel_rfl) (by kernel_rfl) (by kernel_rfl) (fun _ _ _ h => h) (Or.inl ⟨by rfl, ?_⟩) hHeld ?_
  rotate_left
  · (intro wx hSw; (try dsimp only at hSw); go_simp; try with_reducible rfl)
  try simp only [Act.put, List.setIfInBounds_toArray, List.set_cons_zero, List.set_cons_succ]
  refine wpAnyH_take (i := 8) (oi := ⟨some 46, _, _, _, _, _⟩) (v := ?_) rfl (by kernel_rfl) (by kernel_rfl) (by kernel_rfl) (fun _ _ _ h => h) (Or.inl ⟨by rfl, ?_⟩) hHeld ?_
  rotate_left
  · (intro wx hSw; (try dsimp only at hSw); go_simp; try with_reducible rfl)
  try simp only [Act.put, List.setIfInBounds_toArray, List.set_cons_zero, List.set_cons_succ]
  refine wpAnyH_take (i := 9) (oi := ⟨some 47, _, _, _, _, _⟩) (v := ?_) rfl (by kernel_rfl) (by kernel_rfl) (by kernel_rfl) (fun _ _ _ h => h) (Or.inl ⟨by rfl, ?_⟩) hHeld ?_
  rotate_left
  · (intro wx hSw; (try dsimp only at hSw); go_simp; try with_reducible rfl)
  try simp only [Act.put, List.setIfInBounds_toArray, List.set_cons_zero, List.set_cons_succ]
  refine wpAnyH_take (i := 10) (oi := ⟨some 48, _, _, _, _, _⟩) (v := ?_) rfl (by kernel_rfl) (by kernel_rfl) (by kernel_rfl) (fun _ _ _ h => h) (Or.inl ⟨by rfl, ?_⟩) hHeld ?_
  rotate_left
  · (intro wx hSw; (try dsimp only at hSw); go_simp; try with_reducible rfl)
  try simp only [Act.put, List.setIfInBounds_toArray, List.set_cons_zero, List.set_cons_succ]
  refine wpAnyH_take (i := 11) (oi := ⟨some 49, _, _, _, _, _⟩) (v := ?_) rfl (by kernel_rfl) (by kernel_rfl) (by kernel_rfl) (fun _ _ _ h => h) (Or.inl ⟨by rfl, ?_⟩) hHeld ?_
  rotate_left
  · (intro wx hSw; (try dsimp only at hSw); go_simp; try with_reducible rfl)
  try simp only [Act.put, List.setIfInBounds_toArray, List.set_cons_zero, List.set_cons_succ]
  refine wpAnyH_take (i := 12) (oi := ⟨some 50, _, _, _, _, _⟩) (v := ?_) rfl (by kernel_rfl) (by kernel_rfl) (by kernel_rfl) (fun _ _ _ h => h) (Or.inl ⟨by rfl, ?_⟩) hHeld ?_
  rotate_left
  · (intro wx hSw; (try dsimp only at hSw); go_simp; try with_reducible rfl)
  try simp only [Act.put, List.setIfInBounds_toArray, List.set_cons_zero, List.set_cons_succ]
  refine wpAnyH_take (i := 13) (oi := ⟨some 51, _, _, _, _, _⟩) (v := ?_) rfl (by kernel_rfl) (by kernel_rfl) (by kernel_rfl) (fun _ _ _ h => h) (Or.inl ⟨by rfl, ?_⟩) hHeld ?_
  rotate_left
  · (intro wx hSw; (try dsimp only at hSw); go_simp; try with_reducible rfl)
  try simp only [Act.put, List.setIfInBounds_toArray, List.set_cons_zero, List.set_cons_succ]
  refine wpAnyH_take (i := 14) (oi := ⟨some 52, _, _, _, _, _⟩) (v := ?_) rfl (by kernel_rfl) (by kernel_rfl) (by kernel_rfl) (fun _ _ _ h => h) (Or.inl ⟨by rfl, ?_⟩) hHeld ?_
  rotate_left
  · (intro wx hSw; (try dsimp only at hSw); go_simp; try with_reducible rfl)
  try simp only [Act.put, List.setIfInBounds_toArray, List.set_cons_zero, List.set_cons_succ]
  refine wpAnyH_take (i := 15) (oi := ⟨some 53, _, _, _, _, _⟩) (v := ?_) rfl (by kernel_rfl) (by kernel_rfl) (by kernel_rfl) (fun _ _ _ h => h) (Or.inl ⟨by rfl, ?_⟩) hHeld ?_
  rotate_left
  · (intro wx hSw; (try dsimp only at hSw); go_simp; try with_reducible rfl)
  try simp only [Act.put, List.setIfInBounds_toArray, List.set_cons_zero, List.set_cons_succ]
  refine wpAnyH_take (i := 16) (oi := ⟨some 54, _, _, _, _, _⟩) (v := ?_) rfl (by kernel_rfl) (by kernel_rfl) (by kernel_rfl) (fun _ _ _ h => h) (Or.inl ⟨by rfl, ?_⟩) hHeld ?_
  rotate_left
  · (intro wx hSw; (try dsimp only at hSw); go_simp; try with_reducible rfl)
  try simp only [Act.put, List.setIfInBounds_toArray, List.set_cons_zero, List.set_cons_succ]
  refine wpAnyH_take (i := 17) (oi := ⟨some 55, _, _, _, _, _⟩) (v := ?_) rfl (by kernel_rfl) (by kernel_rfl) (by kernel_rfl) (fun _ _ _ h => h) (Or.inl ⟨by rfl, ?_⟩) hHeld ?_
  rotate_left
  · (intro wx hSw; (try dsimp only at hSw); go_simp; try with_reducible rfl)
  try simp only [Act.put, List.setIfInBounds_toArray, List.set_cons_zero, List.set_cons_succ]
  refine wpAnyH_take (i := 18) (oi := ⟨some 56, _, _, _, _, _⟩) (v := ?_) rfl (by kernel_rfl) (by kernel_rfl) (by kernel_rfl) (fun _ _ _ h => h) (Or.inl ⟨by rfl, ?_⟩) hHeld ?_
  rotate_left
  · (intro wx hSw; (try dsimp only at hSw); go_simp; try with_reducible rfl)
  try simp only [Act.put, List.setIfInBounds_toArray, List.set_cons_zero, List.set_cons_succ]
  refine wpAnyH_take (i := 19) (oi := ⟨some 57, _, _, _, _, _⟩) (v := ?_) rfl (by kernel_rfl) (by kernel_rfl) (by kernel_rfl) (fun _ _ _ h => h) (Or.inl ⟨by rfl, ?_⟩) hHeld ?_
  rotate_left
  · (intro wx hSw; (try dsimp only at hSw); go_simp; try with_reducible rfl)
  try simp only [Act.put, List.setIfInBounds_toArray, List.set_cons_zero, List.set_cons_succ]
  refine wpAnyH_take (i := 20) (oi := ⟨some 58, _, _, _, _, _⟩) (v := ?_) rfl (by kernel_rfl) (by kernel_rfl) (by kernel_rfl) (fun _ _ _ h => h) (Or.inl ⟨by rfl, ?_⟩) hHeld ?_
  rotate_left
  · (intro wx hSw; (try dsimp only at hSw); go_simp; try with_reducible rfl)
  try simp only [Act.put, List.setIfInBounds_toArray, List.set_cons_zero, List.set_cons_succ]
  refine wpAnyH_take (i := 21) (oi := ⟨some 59, _, _, _, _, _⟩) (v := undef) rfl (by kernel_rfl) (by kernel_rfl) (by kernel_rfl) (fun _ _ _ h => h) (Or.inr ⟨by rfl, rfl⟩) hHeld ?_
  try simp only [Act.put, List.setIfInBounds_toArray, List.set_cons_zero, List.set_cons_succ]
  refine wpAnyH_take (i := 22) (oi := ⟨some 60, _, _, _, _, _⟩) (v := undef) rfl (by kernel_rfl) (by kernel_rfl) (by kernel_rfl) (fun _ _ _ h => h) (Or.inr ⟨by rfl, rfl⟩) hHeld ?_
  try simp only [Act.put, List.setIfInBounds_toArray, List.set_cons_zero, List.set_cons_succ]
  refine wpAnyH_take (i := 23) (oi := ⟨some 61, _, _, _, _, _⟩) (v := undef) rfl (by kernel_rfl) (by kernel_rfl) (by kernel_rfl) (fun _ _ _ h => h) (Or.inr ⟨by rfl, rfl⟩) hHeld ?_
  try simp only [Act.put, List.setIfInBounds_toArray, List.set_cons_zero, List.set_cons_succ]
  refine wpAnyH_take (i := 24) (oi := ⟨some 62, _, _, _, _, _⟩) (v := ?_) rfl (by kernel_rfl) (by kernel_rfl) (by kernel_rfl) (fun _ _ _ h => h) (Or.inl ⟨by rfl, ?_⟩) hHeld ?_
  rotate_left
  · (intro wx hSw; (try dsimp only at hSw); go_simp; try with_reducible rfl)
  try simp only [Act.put, List.setIfInBounds_toArray, List.set_cons_zero, List.set_cons_succ]
  refine wpAnyH_take (i := 25) (oi := ⟨some 63, _, _, _, _, _⟩) (v := ?_) rfl (by kernel_rfl) (by kernel_rfl) (by kernel_rfl) (fun _ _ _ h => h) (Or.inl ⟨by rfl, ?_⟩) hHeld ?_
  rotate_left
  · (intro wx hSw; (try dsimp only at hSw); go_simp; try with_reducible rfl)
  try simp only [Act.put, List.setIfInBounds_toArray, List.set_cons_zero, List.set_cons_succ]
  refine wpAnyH_done (by kernel_rfl) ?_ _
  refine NoPanic.normal ?_
  have hb34 : Below w2.heap.size w2 w3.drew := HB3.out.drew
  have hx4 := HX.out.below (Below.refl w3.heap.size w3).drew
  generalize w3.drew = w4 at *
  clear hcx hcb hkc hk0
  have hf := hx4.form
  rw [show (l.take kk).length = kk by rw [List.length_take]; omega] at hf
  have HB34 := Lib.hid hb34
  clear hb34 hx4
  rcases hf with ⟨hxe, hx0⟩ | ⟨gx, cap, cur, hxe, hgx, hbx, hkc, hcm, hcz, htk⟩
  · injection hxe with e1 e2 e3
    subst e1
    subst e2
    subst e3
    clear hx0
    go_wp2
    go_loopw [12, 66] (fun _ i wr => i = .int .i64 0 ∧ Below w2.heap.size w2 wr) (fun _ _ _ => 0)
    case atStart => exact ⟨rfl, HB34.out⟩
    case round =>
      obtain ⟨rfl, hbr⟩ := hrel
      obtain ⟨r, hr, hr4⟩ := mask2 more
      have hrd := HR2.out.below hbr
      have HBR := Lib.hid hbr
      clear hbr
      have HRQ := Lib.hid hr
      clear hr
      have hdl : (l.drop 0).length ≤ 140737488355328 := by rw [List.length_drop]; omega
      have HTY := Lib.hid (fun (h : r ≤ (l.drop 0).length) => take_yes g wr (l.drop 0) false r hrd h hdl)
      have HTN := Lib.hid (fun (h : (l.drop 0).length < r) => take_no g wr (l.drop 0) false (r : Int) hrd (.inr (by omega)))
      clear hrd
      have hq := HRQ.out
      by_cases hrl : r ≤ (l.drop 0).length
      · have HC := Lib.hid (HTY.out hrl)
        clear hrl
        go_wp2_with fail
        clear hq
        refine HC.out.mono ?_
        rintro e w6 ⟨y, w5, rfl, ho5, hb6, _⟩
        have hb06 : Below w.heap.size w w6 := later HB1.out HG.out HO2.out HBR.out ho5 hb6
        have hcv := HV.out w6 hb06
        rw [HS0.out] at hcv
        have HB6 := Lib.hid hb06
        clear ho5 hb6 hb06
        go_wp2_with fail
        refine (awake2_any w6).mono ?_
        rintro e w7 ⟨rfl, hb7⟩
        have HB7 := Lib.hid (HB6.out.trans (hb7.mono HB6.out.size))
        clear hb7
        go_wp2
        go_ret
        exact ⟨rfl, HB7.out⟩
      · have HC := Lib.hid (HTN.out (by omega))
        clear hrl
        go_wp2_with fail
        clear hq
        refine HC.out.mono ?_
        rintro e w6 ⟨y, w5, rfl, ho5, hb6, _⟩
        have hb06 : Below w.heap.size w w6 := later HB1.out HG.out HO2.out HBR.out ho5 hb6
        have hcv := HV.out w6 hb06
        rw [HS0.out] at hcv
        have HB6 := Lib.hid hb06
        clear ho5 hb6 hb06
        go_wp2_with fail
        refine (awake2_any w6).mono ?_
        rintro e w7 ⟨rfl, hb7⟩
        have HB7 := Lib.hid (HB6.out.trans (hb7.mono HB6.out.size))
        clear hb7
        go_wp2
        go_ret
        exact ⟨rfl, HB7.out⟩
  · injection hxe with e1 _ e3
    subst e1
    subst e3
    have h8 : Some8 w4 gx kk c' := ⟨cur, hbx, by omega, hcz, fun i hi => by
      have hu := congrArg (fun z : List Value => z[i]?) htk
      simp only [List.getElem?_take, if_pos hi] at hu
      rw [Array.getElem?_toList] at hu
      rw [hu]
      simp [byteVals, List.getElem?_take, hi, List.getElem?_eq_getElem (show i < l.length by omega)]⟩
    have H8 := Lib.hid h8
    have HGX := Lib.hid hgx
    clear h8 hgx hbx hcz htk hkc hcm
    go_wp2
    go_loopw [12, 66] (fun _ i wr => ∃ j : Nat, j ≤ kk ∧ i = .int .i64 j ∧ Below w2.heap.size w2 wr ∧ Some8 wr gx kk c') (fun _ i _ => kk - (intOf i).toNat)
    case atStart => exact ⟨0, by omega, rfl, HB34.out, H8.out⟩
    case round =>
      obtain ⟨j, hj, rfl, hbr, h8⟩ := hrel
      by_cases hlt : j < kk
      · obtain ⟨cur', hbx, hn', hc', hz⟩ := id h8
        obtain ⟨z, hzj⟩ := hz j hlt
        have hcell : wr.cell? ⟨gx, j, none⟩ = some (.int .u8 z) := (hbx.cell j).trans hzj
        have hfz := hbx.warm j
        have H8' := Lib.hid h8
        have HBR := Lib.hid hbr
        clear h8 hbr hbx hn' hc' hz hzj
        go_wp2
        refine ⟨⟨j + 1, by omega, by go_num, HBR.out.setCell HGX.out _, some8_set H8'.out j _ hlt⟩, by simp [intOf]; omega⟩
      · obtain rfl : j = kk := by omega
        clear h8
        obtain ⟨r, hr, hr4⟩ := mask2 more
        have hrd := HR2.out.below hbr
        have HBR := Lib.hid hbr
        clear hbr
        have HRQ := Lib.hid hr
        clear hr
        have hdl : (l.drop j).length ≤ 140737488355328 := by rw [List.length_drop]; omega
        have HTY := Lib.hid (fun (h : r ≤ (l.drop j).length) => take_yes g wr (l.drop j) false r hrd h hdl)
        have HTN := Lib.hid (fun (h : (l.drop j).length < r) => take_no g wr (l.drop j) false (r : Int) hrd (.inr (by omega)))
        clear hrd
        have hq := HRQ.out
        by_cases hrl : r ≤ (l.drop j).length
        · have HC := Lib.hid (HTY.out hrl)
          clear hrl
          go_wp2_with fail
          clear hq
          refine HC.out.mono ?_
          rintro e w6 ⟨y, w5, rfl, ho5, hb6, _⟩
          have hb06 : Below w.heap.size w w6 := later HB1.out HG.out HO2.out HBR.out ho5 hb6
          have hcv := HV.out w6 hb06
          rw [HS0.out] at hcv
          have HB6 := Lib.hid hb06
          clear ho5 hb6 hb06
          go_wp2_with fail
          refine (awake2_any w6).mono ?_
          rintro e w7 ⟨rfl, hb7⟩
          have HB7 := Lib.hid (HB6.out.trans (hb7.mono HB6.out.size))
          clear hb7
          go_wp2
          go_ret
          exact ⟨rfl, HB7.out⟩
        · have HC := Lib.hid (HTN.out (by omega))
          clear hrl
          go_wp2_with fail
          clear hq
          refine HC.out.mono ?_
          rintro e w6 ⟨y, w5, rfl, ho5, hb6, _⟩
          have hb06 : Below w.heap.size w w6 := later HB1.out HG.out HO2.out HBR.out ho5 hb6
          have hcv := HV.out w6 hb06
          rw [HS0.out] at hcv
          have HB6 := Lib.hid hb06
          clear ho5 hb6 hb06
          go_wp2_with fail
          refine (awake2_any w6).mono ?_
          rintro e w7 ⟨rfl, hb7⟩
          have HB7 := Lib.hid (HB6.out.trans (hb7.mono HB6.out.size))
          clear hb7
          go_wp2
          go_ret
          exact ⟨rfl, HB7.out⟩

set_option linter.unusedSimpArgs false in
set_option maxRecDepth 10000000 in
set_option maxHeartbeats 4000000 in
theorem walk_low (v : Value) (l : List Int) (n more : Int) (w : World) (hs : Sl w w.heap.size v l) (hy : Bys l) (hl : l.length ≤ 200) (q : Nat) (hq : bits BinOp.and IntKind.i64 n 255 = (q : Int)) (hq8 : q < 256) (hk : q < 3) :
    Calls Try.prog 4 #[v, .int .i64 n, .int .i64 more] w (YesPost w) := by
  have HS := Lib.hid hs
  have HY := Lib.hid hy
  have HQ := Lib.hid hq
  obtain ⟨A, c, rfl, hlc, hA, _⟩ := hs
  obtain ⟨s0, hs0⟩ : ∃ s, strOfNums l = s := ⟨_, rfl⟩
  have hl2 : (l.length : Int) ≤ 200 := by omega
  have hconv := run_str (show Sl w.drew w.heap.size _ l from HS.out)
  rw [hs0] at hconv
  have HS0 := Lib.hid hs0
  have HV := Lib.hid (fun (W : World) (hW : Below w.heap.size w W) => run_str (HS.out.below hW))
  have hrd := fun W (hW : Below w.heap.size w W) => read_any W _ _ l (HS.out.below hW) HY.out (by omega)
  have HRD := Lib.hid hrd
  clear hs0 hy hq hlc hrd
  go_enter Try.func4, Try.ntmps4
  go_wp2_with fail
  go_region_held3 (fun W => (convert 24 9 (.slice A l.length c)).run Try.prog W = .ok (.string s0) W) (first | exact hconv | assumption) (first | (go_at_call 11; refine (HRD.out _ (Below.refl _ _).drew).mono ?_; rintro e w1 ⟨g, rfl, hg, hr, hb⟩; have hcv := run_str (HS.out.below ((Below.refl w.heap.size w).drew.trans hb)); rw [HS0.out] at hcv))
  have HB1 := Lib.hid ((Below.refl w.heap.size w).drew.trans hb)
  have HG := Lib.hid (show w.heap.size ≤ g from hg)
  have hgl : g < w1.heap.size := by
    obtain ⟨_, hx, _⟩ := hr
    exact hx.lt
  have hq : bits BinOp.and IntKind.i64 n 255 = (q : Int) := HQ.out
  have hwq : IntKind.i64.wrap ((q : Int) - 3) = (q : Int) - 3 := by rw [IntKind.wrap_i64]; omega
  have HT := Lib.hid (take_no g w1 l false ((q : Int) - 3) hr (by omega))
  have HGL := Lib.hid hgl
  clear hg hr hb hcv hgl hconv
  go_wp2_with fail
  clear hq
  refine HT.out.mono ?_
  rintro e w3 ⟨x, w2, rfl, ho2, hb3, hor⟩
  rcases hor with ⟨_, _, _, _⟩ | ⟨hno, hx, hr2⟩
  case inl => omega
  obtain ⟨A', c', hxs⟩ := hx.slice
  rw [show ([] : List Int).length = 0 from rfl] at hxs
  subst hxs
  have hb13 : Below w.heap.size w w3 := (Only.below HB1.out ho2 HG.out).trans (hb3.mono (Nat.le_trans HB1.out.size ho2.size))
  have ht1 : ((0 : Int) ≤ (q : Int) - 3) = False := eq_false (by omega)
  have HK := Lib.hid (ok_any g w3.drew _ _ (hr2.below hb3.drew))
  have HR2 := Lib.hid hr2
  have HB13 := Lib.hid hb13
  have HB3 := Lib.hid hb3
  have HG2 := Lib.hid (show g < w2.heap.size by have := HGL.out; have := ho2.size; omega)
  have HO2 := Lib.hid ho2
  clear hr2 hb13 hx ho2 hb3 hwq
  go_wp2_with fail
  refine wp_region_noPanic ?_
  refine wp_region_held_drew (S := (fun _ => True)) (by kernel_rfl) ?_ (fun hHeld => ?_)
  · exact trivial
  refine wpAnyH_take (i := 0) (oi := ⟨some 38, _, _, _, _, _⟩) (v := ?_) rfl (by kernel_rfl) (by kernel_rfl) (by kernel_rfl) (fun _ _ _ h => h) (Or.inl ⟨by rfl, ?_⟩) hHeld ?_
  rotate_left
  · (intro wx hSw; (try dsimp only at hSw); go_simp; try with_reducible rfl)
  try simp only [Act.put, List.setIfInBounds_toArray, List.set_cons_zero, List.set_cons_succ]
  refine wpAnyH_take (i := 2) (oi := ⟨some 40, _, _, _, _, _⟩) (v := ?_) rfl (by kernel_rfl) (by kernel_rfl) (by kernel_rfl) (fun _ _ _ h => h) (Or.inl ⟨by rfl, ?_⟩) hHeld ?_
  rotate_left
  · (intro wx hSw; (try dsimp only at hSw); go_simp; try with_reducible rfl)
  try simp only [Act.put, List.setIfInBounds_toArray, List.set_cons_zero, List.set_cons_succ]
  refine wpAnyH_ready (rs := [1]) (by kernel_rfl) (by simp) (AllReadyH.cons (o := ⟨some 39, _, _, _, _, _⟩) rfl (fun K hK => ?_) AllReadyH.nil)
  go_simp
  refine HK.out.mono ?_
  rintro e w' ⟨rfl, rfl⟩
  refine hK.out _ _ ?_ (fun hHeld => ?_)
  · exact trivial
  clear hK K
  try simp only [Act.put, List.setIfInBounds_toArray, List.set_cons_zero, List.set_cons_succ]
  refine wpAnyH_take (i := 3) (oi := ⟨some 41, _, _, _, _, _⟩) (v := ?_) rfl (by kernel_rfl) (by kernel_rfl) (by kernel_rfl) (fun _ _ _ h => h) (Or.inl ⟨by rfl, ?_⟩) hHeld ?_
  rotate_left
  · (intro wx hSw; (try dsimp only at hSw); go_simp; try with_reducible rfl)
  try simp only [Act.put, List.setIfInBounds_toArray, List.set_cons_zero, List.set_cons_succ]
  refine wpAnyH_take (i := 4) (oi := ⟨some 42, _, _, _, _, _⟩) (v := ?_) rfl (by kernel_rfl) (by kernel_rfl) (by kernel_rfl) (fun _ _ _ h => h) (Or.inl ⟨by rfl, ?_⟩) hHeld ?_
  rotate_left
  · (intro wx hSw; (try dsimp only at hSw); go_simp; try with_reducible rfl)
  try simp only [Act.put, List.setIfInBounds_toArray, List.set_cons_zero, List.set_cons_succ]
  refine wpAnyH_take (i := 5) (oi := ⟨some 43, _, _, _, _, _⟩) (v := ?_) rfl (by kernel_rfl) (by kernel_rfl) (by kernel_rfl) (fun _ _ _ h => h) (Or.inl ⟨by rfl, ?_⟩) hHeld ?_
  rotate_left
  · (intro wx hSw; (try dsimp only at hSw); go_simp; try with_reducible rfl)
  try simp only [Act.put, List.setIfInBounds_toArray, List.set_cons_zero, List.set_cons_succ]
  refine wpAnyH_take (i := 6) (oi := ⟨some 44, _, _, _, _, _⟩) (v := ?_) rfl (by kernel_rfl) (by kernel_rfl) (by kernel_rfl) (fun _ _ _ h => h) (Or.inl ⟨by rfl, ?_⟩) hHeld ?_
  rotate_left
  · (intro wx hSw; (try dsimp only at hSw); go_simp; try with_reducible rfl)
  try simp only [Act.put, List.setIfInBounds_toArray, List.set_cons_zero, List.set_cons_succ]
  refine wpAnyH_take (i := 7) (oi := ⟨some 45, _, _, _, _, _⟩) (v := undef) rfl (by kernel_rfl) (by kernel_rfl) (by kernel_rfl) (fun _ _ _ h => h) (Or.inr ⟨by rfl, rfl⟩) hHeld ?_
  try simp only [Act.put, List.setIfInBounds_toArray, List.set_cons_zero, List.set_cons_succ]
  refine wpAnyH_take (i := 8) (oi := ⟨some 46, _, _, _, _, _⟩) (v := undef) rfl (by kernel_rfl) (by kernel_rfl) (by kernel_rfl) (fun _ _ _ h => h) (Or.inr ⟨by rfl, rfl⟩) hHeld ?_
  try simp only [Act.put, List.setIfInBounds_toArray, List.set_cons_zero, List.set_cons_succ]
  refine wpAnyH_take (i := 9) (oi := ⟨some 47, _, _, _, _, _⟩) (v := undef) rfl (by kernel_rfl) (by kernel_rfl) (by kernel_rfl) (fun _ _ _ h => h) (Or.inr ⟨by rfl, rfl⟩) hHeld ?_
  try simp only [Act.put, List.setIfInBounds_toArray, List.set_cons_zero, List.set_cons_succ]
  refine wpAnyH_take (i := 10) (oi := ⟨some 48, _, _, _, _, _⟩) (v := undef) rfl (by kernel_rfl) (by kernel_rfl) (by kernel_rfl) (fun _ _ _ h => h) (Or.inr ⟨by rfl, rfl⟩) hHeld ?_
  try simp only [Act.put, List.setIfInBounds_toArray, List.set_cons_zero, List.set_cons_succ]
  refine wpAnyH_take (i := 11) (oi := ⟨some 49, _, _, _, _, _⟩) (v := undef) rfl (by kernel_rfl) (by kernel_rfl) (by kernel_rfl) (fun _ _ _ h => h) (Or.inr ⟨by rfl, rfl⟩) hHeld ?_
  try simp only [Act.put, List.setIfInBounds_toArray, List.set_cons_zero, List.set_cons_succ]
  refine wpAnyH_take (i := 12) (oi := ⟨some 50, _, _, _, _, _⟩) (v := undef) rfl (by kernel_rfl) (by kernel_rfl) (by kernel_rfl) (fun _ _ _ h => h) (Or.inr ⟨by rfl, rfl⟩) hHeld ?_
  try simp only [Act.put, List.setIfInBounds_toArray, List.set_cons_zero, List.set_cons_succ]
  refine wpAnyH_take (i := 13) (oi := ⟨some 51, _, _, _, _, _⟩) (v := undef) rfl (by kernel_rfl) (by kernel_rfl) (by kernel_rfl) (fun _ _ _ h => h) (Or.inr ⟨by rfl, rfl⟩) hHeld ?_
  try simp only [Act.put, List.setIfInBounds_toArray, List.set_cons_zero, List.set_cons_succ]
  refine wpAnyH_take (i := 14) (oi := ⟨some 52, _, _, _, _, _⟩) (v := undef) rfl (by kernel_rfl) (by kernel_rfl) (by kernel_rfl) (fun _ _ _ h => h) (Or.inr ⟨by rfl, rfl⟩) hHeld ?_
  try simp only [Act.put, List.setIfInBounds_toArray, List.set_cons_zero, List.set_cons_succ]
  refine wpAnyH_take (i := 15) (oi := ⟨some 53, _, _, _, _, _⟩) (v := ?_) rfl (by kernel_rfl) (by kernel_rfl) (by kernel_rfl) (fun _ _ _ h => h) (Or.inl ⟨by rfl, ?_⟩) hHeld ?_
  rotate_left
  · (intro wx hSw; (try dsimp only at hSw); go_simp; try with_reducible rfl)
  try simp only [Act.put, List.setIfInBounds_toArray, List.set_cons_zero, List.set_cons_succ]
  refine wpAnyH_take (i := 16) (oi := ⟨some 54, _, _, _, _, _⟩) (v := ?_) rfl (by kernel_rfl) (by kernel_rfl) (by kernel_rfl) (fun _ _ _ h => h) (Or.inl ⟨by rfl, ?_⟩) hHeld ?_
  rotate_left
  · (intro wx hSw; (try dsimp only at hSw); go_simp; try with_reducible rfl)
  try simp only [Act.put, List.setIfInBounds_toArray, List.set_cons_zero, List.set_cons_succ]
  refine wpAnyH_take (i := 17) (oi := ⟨some 55, _, _, _, _, _⟩) (v := ?_) rfl (by kernel_rfl) (by kernel_rfl) (by kernel_rfl) (fun _ _ _ h => h) (Or.inl ⟨by rfl, ?_⟩) hHeld ?_
  rotate_left
  · (intro wx hSw; (try dsimp only at hSw); go_simp; try with_reducible rfl)
  try simp only [Act.put, List.setIfInBounds_toArray, List.set_cons_zero, List.set_cons_succ]
  refine wpAnyH_take (i := 18) (oi := ⟨some 56, _, _, _, _, _⟩) (v := ?_) rfl (by kernel_rfl) (by kernel_rfl) (by kernel_rfl) (fun _ _ _ h => h) (Or.inl ⟨by rfl, ?_⟩) hHeld ?_
  rotate_left
  · (intro wx hSw; (try dsimp only at hSw); go_simp; try with_reducible rfl)
  try simp only [Act.put, List.setIfInBounds_toArray, List.set_cons_zero, List.set_cons_succ]
  refine wpAnyH_take (i := 19) (oi := ⟨some 57, _, _, _, _, _⟩) (v := ?_) rfl (by kernel_rfl) (by kernel_rfl) (by kernel_rfl) (fun _ _ _ h => h) (Or.inl ⟨by rfl, ?_⟩) hHeld ?_
  rotate_left
  · (intro wx hSw; (try dsimp only at hSw); go_simp; try with_reducible rfl)
  try simp only [Act.put, List.setIfInBounds_toArray, List.set_cons_zero, List.set_cons_succ]
  refine wpAnyH_take (i := 20) (oi := ⟨some 58, _, _, _, _, _⟩) (v := ?_) rfl (by kernel_rfl) (by kernel_rfl) (by kernel_rfl) (fun _ _ _ h => h) (Or.inl ⟨by rfl, ?_⟩) hHeld ?_
  rotate_left
  · (intro wx hSw; (try dsimp only at hSw); go_simp; try with_reducible rfl)
  try simp only [Act.put, List.setIfInBounds_toArray, List.set_cons_zero, List.set_cons_succ]
  refine wpAnyH_take (i := 21) (oi := ⟨some 59, _, _, _, _, _⟩) (v := ?_) rfl (by kernel_rfl) (by kernel_rfl) (by kernel_rfl) (fun _ _ _ h => h) (Or.inl ⟨by rfl, ?_⟩) hHeld ?_
  rotate_left
  · (intro wx hSw; (try dsimp only at hSw); go_simp; try with_reducible rfl)
  try simp only [Act.put, List.setIfInBounds_toArray, List.set_cons_zero, List.set_cons_succ]
  refine wpAnyH_take (i := 22) (oi := ⟨some 60, _, _, _, _, _⟩) (v := ?_) rfl (by kernel_rfl) (by kernel_rfl) (by kernel_rfl) (fun _ _ _ h => h) (Or.inl ⟨by rfl, ?_⟩) hHeld ?_
  rotate_left
  · (intro wx hSw; (try dsimp only at hSw); go_simp; try with_reducible rfl)
  try simp only [Act.put, List.setIfInBounds_toArray, List.set_cons_zero, List.set_cons_succ]
  refine wpAnyH_take (i := 23) (oi := ⟨some 61, _, _, _, _, _⟩) (v := ?_) rfl (by kernel_rfl) (by kernel_rfl) (by kernel_rfl) (fun _ _ _ h => h) (Or.inl ⟨by rfl, ?_⟩) hHeld ?_
  rotate_left
  · (intro wx hSw; (try dsimp only at hSw); go_simp; try with_reducible rfl)
  try simp only [Act.put, List.setIfInBounds_toArray, List.set_cons_zero, List.set_cons_succ]
  refine wpAnyH_take (i := 24) (oi := ⟨some 62, _, _, _, _, _⟩) (v := ?_) rfl (by kernel_rfl) (by kernel_rfl) (by kernel_rfl) (fun _ _ _ h => h) (Or.inl ⟨by rfl, ?_⟩) hHeld ?_
  rotate_left
  · (intro wx hSw; (try dsimp only at hSw); go_simp; try with_reducible rfl)
  try simp only [Act.put, List.setIfInBounds_toArray, List.set_cons_zero, List.set_cons_succ]
  refine wpAnyH_take (i := 25) (oi := ⟨some 63, _, _, _, _, _⟩) (v := ?_) rfl (by kernel_rfl) (by kernel_rfl) (by kernel_rfl) (fun _ _ _ h => h) (Or.inl ⟨by rfl, ?_⟩) hHeld ?_
  rotate_left
  · (intro wx hSw; (try dsimp only at hSw); go_simp; try with_reducible rfl)
  try simp only [Act.put, List.setIfInBounds_toArray, List.set_cons_zero, List.set_cons_succ]
  refine wpAnyH_done (by kernel_rfl) ?_ _
  refine NoPanic.normal ?_
  have hb34 : Below w2.heap.size w2 w3.drew := HB3.out.drew
  generalize w3.drew = w4 at *
  have HB34 := Lib.hid hb34
  clear hb34
  go_wp2
  go_loopw [12, 66] (fun _ i wr => i = .int .i64 0 ∧ Below w2.heap.size w2 wr) (fun _ _ _ => 0)
  case atStart => exact ⟨rfl, HB34.out⟩
  case round =>
    obtain ⟨rfl, hbr⟩ := hrel
    obtain ⟨r, hr, hr4⟩ := mask2 more
    have hrd := HR2.out.below hbr
    have HBR := Lib.hid hbr
    clear hbr
    have HRQ := Lib.hid hr
    clear hr
    have HTY := Lib.hid (fun (h : r ≤ ([] : List Int).length) => take_yes g wr [] true r hrd h (by simp))
    have HTN := Lib.hid (fun (h : ([] : List Int).length < r) => take_no g wr [] true (r : Int) hrd (.inr (by omega)))
    clear hrd
    have hq := HRQ.out
    have HC : Hid (Calls Try.prog 18 #[.pointer (some ⟨g, 0, none⟩), .int .i64 (r : Int)] wr (NoneLeft g wr)) := by
      by_cases hrl : r ≤ ([] : List Int).length
      · refine (HTY.out hrl).mono fun e w6 ⟨y, w5, he, ho5, hb6, hor⟩ => ?_
        rcases hor with ⟨_, _, hy, hd⟩ | ⟨hno, _, _⟩
        · exact ⟨y, w5, he, ho5, hb6, by simpa using hy, by simpa using hd⟩
        · omega
      · refine (HTN.out (by omega)).mono fun e w6 ⟨y, w5, he, ho5, hb6, hor⟩ => ?_
        rcases hor with ⟨_, hle, _, _⟩ | ⟨_, hy, hd⟩
        · omega
        · exact ⟨y, w5, he, ho5, hb6, hy, hd⟩
    clear HTY HTN
    go_wp2_with fail
    clear hq
    refine HC.out.mono ?_
    rintro e w6 ⟨y, w5, rfl, ho5, hb6, hy6, hd5⟩
    obtain ⟨A6, c6, hys⟩ := hy6.slice
    rw [show ([] : List Int).length = 0 from rfl] at hys
    subst hys
    have hb06 : Below w.heap.size w w6 := later HB1.out HG.out HO2.out HBR.out ho5 hb6
    have hcv := HV.out w6 hb06
    rw [HS0.out] at hcv
    have hr6 := hd5.below hb6
    have HB6 := Lib.hid hb06
    have HK6 := Lib.hid (ok_any g w6 _ _ hr6)
    have hs6 := rsmall_any g w6 _ _ hr6
    rw [num_short [] true 4 (by simp)] at hs6
    have HS6 := Lib.hid hs6
    clear ho5 hb6 hb06 hr6 hs6 hd5 hy6
    go_wp2_with fail
    refine HK6.out.mono ?_
    rintro e w' ⟨rfl, rfl⟩
    go_wp2_with fail
    refine HS6.out.mono ?_
    rintro e w7 ⟨ho7, rfl, hr7⟩
    have hc7 := rcount_any g w7 _ _ 9 hr7 (by omega)
    rw [count_bad] at hc7
    have HC7 := Lib.hid hc7
    have HB7 := Lib.hid (Only.below HB6.out ho7 HG.out)
    clear ho7 hr7 hc7
    go_wp2_with fail
    refine HC7.out.mono ?_
    rintro e w8 ⟨ho8, rfl, hr8⟩
    have HB8 := Lib.hid (Only.below HB7.out ho8 HG.out)
    clear ho8 hr8
    go_wp2_with fail
    refine (awake2_any w8).mono ?_
    rintro e w9 ⟨rfl, hb9⟩
    have HB9 := Lib.hid (HB8.out.trans (hb9.mono HB8.out.size))
    clear hb9
    go_wp2
    go_ret
    exact ⟨rfl, HB9.out⟩

set_option linter.unusedSimpArgs false in
set_option maxRecDepth 10000000 in
set_option maxHeartbeats 4000000 in
theorem walk_far (v : Value) (l : List Int) (n more : Int) (w : World) (hs : Sl w w.heap.size v l) (hy : Bys l) (hl : l.length ≤ 200) (q : Nat) (hq : bits BinOp.and IntKind.i64 n 255 = (q : Int)) (hq8 : q < 256) (hk : 3 ≤ q) (hkl : l.length < q - 3) :
    Calls Try.prog 4 #[v, .int .i64 n, .int .i64 more] w (YesPost w) := by
  have HS := Lib.hid hs
  have HY := Lib.hid hy
  have HQ := Lib.hid hq
  obtain ⟨A, c, rfl, hlc, hA, _⟩ := hs
  obtain ⟨s0, hs0⟩ : ∃ s, strOfNums l = s := ⟨_, rfl⟩
  have hl2 : (l.length : Int) ≤ 200 := by omega
  have hconv := run_str (show Sl w.drew w.heap.size _ l from HS.out)
  rw [hs0] at hconv
  have HS0 := Lib.hid hs0
  have HV := Lib.hid (fun (W : World) (hW : Below w.heap.size w W) => run_str (HS.out.below hW))
  have hrd := fun W (hW : Below w.heap.size w W) => read_any W _ _ l (HS.out.below hW) HY.out (by omega)
  have HRD := Lib.hid hrd
  clear hs0 hy hq hlc hrd
  go_enter Try.func4, Try.ntmps4
  go_wp2_with fail
  go_region_held3 (fun W => (convert 24 9 (.slice A l.length c)).run Try.prog W = .ok (.string s0) W) (first | exact hconv | assumption) (first | (go_at_call 11; refine (HRD.out _ (Below.refl _ _).drew).mono ?_; rintro e w1 ⟨g, rfl, hg, hr, hb⟩; have hcv := run_str (HS.out.below ((Below.refl w.heap.size w).drew.trans hb)); rw [HS0.out] at hcv))
  have HB1 := Lib.hid ((Below.refl w.heap.size w).drew.trans hb)
  have HG := Lib.hid (show w.heap.size ≤ g from hg)
  have hgl : g < w1.heap.size := by
    obtain ⟨_, hx, _⟩ := hr
    exact hx.lt
  have hq : bits BinOp.and IntKind.i64 n 255 = (q : Int) := HQ.out
  have hwq : IntKind.i64.wrap ((q : Int) - 3) = (q : Int) - 3 := by rw [IntKind.wrap_i64]; omega
  have HT := Lib.hid (take_no g w1 l false ((q : Int) - 3) hr (by omega))
  have HGL := Lib.hid hgl
  clear hg hr hb hcv hgl hconv
  go_wp2_with fail
  clear hq
  refine HT.out.mono ?_
  rintro e w3 ⟨x, w2, rfl, ho2, hb3, hor⟩
  rcases hor with ⟨_, _, _, _⟩ | ⟨hno, hx, hr2⟩
  case inl => omega
  obtain ⟨A', c', hxs⟩ := hx.slice
  rw [show ([] : List Int).length = 0 from rfl] at hxs
  subst hxs
  have hb13 : Below w.heap.size w w3 := (Only.below HB1.out ho2 HG.out).trans (hb3.mono (Nat.le_trans HB1.out.size ho2.size))
  have ht1 : ((0 : Int) ≤ (q : Int) - 3) = True := eq_true (by omega)
  have ht2 : ((q : Int) - 3 ≤ (l.length : Int)) = False := eq_false (by omega)
  have HK := Lib.hid (ok_any g w3.drew _ _ (hr2.below hb3.drew))
  have HR2 := Lib.hid hr2
  have HB13 := Lib.hid hb13
  have HB3 := Lib.hid hb3
  have HG2 := Lib.hid (show g < w2.heap.size by have := HGL.out; have := ho2.size; omega)
  have HO2 := Lib.hid ho2
  clear hr2 hb13 hx ho2 hb3 hwq
  go_wp2_with fail
  refine wp_region_noPanic ?_
  refine wp_region_held_drew (S := (fun _ => True)) (by kernel_rfl) ?_ (fun hHeld => ?_)
  · exact trivial
  refine wpAnyH_take (i := 0) (oi := ⟨some 38, _, _, _, _, _⟩) (v := ?_) rfl (by kernel_rfl) (by kernel_rfl) (by kernel_rfl) (fun _ _ _ h => h) (Or.inl ⟨by rfl, ?_⟩) hHeld ?_
  rotate_left
  · (intro wx hSw; (try dsimp only at hSw); go_simp; try with_reducible rfl)
  try simp only [Act.put, List.setIfInBounds_toArray, List.set_cons_zero, List.set_cons_succ]
  refine wpAnyH_take (i := 2) (oi := ⟨some 40, _, _, _, _, _⟩) (v := ?_) rfl (by kernel_rfl) (by kernel_rfl) (by kernel_rfl) (fun _ _ _ h => h) (Or.inl ⟨by rfl, ?_⟩) hHeld ?_
  rotate_left
  · (intro wx hSw; (try dsimp only at hSw); go_simp; try with_reducible rfl)
  try simp only [Act.put, List.setIfInBounds_toArray, List.set_cons_zero, List.set_cons_succ]
  refine wpAnyH_ready (rs := [1]) (by kernel_rfl) (by simp) (AllReadyH.cons (o := ⟨some 39, _, _, _, _, _⟩) rfl (fun K hK => ?_) AllReadyH.nil)
  go_simp
  refine HK.out.mono ?_
  rintro e w' ⟨rfl, rfl⟩
  refine hK.out _ _ ?_ (fun hHeld => ?_)
  · exact trivial
  clear hK K
  try simp only [Act.put, List.setIfInBounds_toArray, List.set_cons_zero, List.set_cons_succ]
  refine wpAnyH_take (i := 3) (oi := ⟨some 41, _, _, _, _, _⟩) (v := ?_) rfl (by kernel_rfl) (by kernel_rfl) (by kernel_rfl) (fun _ _ _ h => h) (Or.inl ⟨by rfl, ?_⟩) hHeld ?_
  rotate_left
  · (intro wx hSw; (try dsimp only at hSw); go_simp; try with_reducible rfl)
  try simp only [Act.put, List.setIfInBounds_toArray, List.set_cons_zero, List.set_cons_succ]
  refine wpAnyH_take (i := 4) (oi := ⟨some 42, _, _, _, _, _⟩) (v := ?_) rfl (by kernel_rfl) (by kernel_rfl) (by kernel_rfl) (fun _ _ _ h => h) (Or.inl ⟨by rfl, ?_⟩) hHeld ?_
  rotate_left
  · (intro wx hSw; (try dsimp only at hSw); go_simp; try with_reducible rfl)
  try simp only [Act.put, List.setIfInBounds_toArray, List.set_cons_zero, List.set_cons_succ]
  refine wpAnyH_take (i := 5) (oi := ⟨some 43, _, _, _, _, _⟩) (v := ?_) rfl (by kernel_rfl) (by kernel_rfl) (by kernel_rfl) (fun _ _ _ h => h) (Or.inl ⟨by rfl, ?_⟩) hHeld ?_
  rotate_left
  · (intro wx hSw; (try dsimp only at hSw); go_simp; try with_reducible rfl)
  try simp only [Act.put, List.setIfInBounds_toArray, List.set_cons_zero, List.set_cons_succ]
  refine wpAnyH_take (i := 6) (oi := ⟨some 44, _, _, _, _, _⟩) (v := ?_) rfl (by kernel_rfl) (by kernel_rfl) (by kernel_rfl) (fun _ _ _ h => h) (Or.inl ⟨by rfl, ?_⟩) hHeld ?_
  rotate_left
  · (intro wx hSw; (try dsimp only at hSw); go_simp; try with_reducible rfl)
  try simp only [Act.put, List.setIfInBounds_toArray, List.set_cons_zero, List.set_cons_succ]
  refine wpAnyH_take (i := 7) (oi := ⟨some 45, _, _, _, _, _⟩) (v := undef) rfl (by kernel_rfl) (by kernel_rfl) (by kernel_rfl) (fun _ _ _ h => h) (Or.inr ⟨by rfl, rfl⟩) hHeld ?_
  try simp only [Act.put, List.setIfInBounds_toArray, List.set_cons_zero, List.set_cons_succ]
  refine wpAnyH_take (i := 8) (oi := ⟨some 46, _, _, _, _, _⟩) (v := undef) rfl (by kernel_rfl) (by kernel_rfl) (by kernel_rfl) (fun _ _ _ h => h) (Or.inr ⟨by rfl, rfl⟩) hHeld ?_
  try simp only [Act.put, List.setIfInBounds_toArray, List.set_cons_zero, List.set_cons_succ]
  refine wpAnyH_take (i := 9) (oi := ⟨some 47, _, _, _, _, _⟩) (v := undef) rfl (by kernel_rfl) (by kernel_rfl) (by kernel_rfl) (fun _ _ _ h => h) (Or.inr ⟨by rfl, rfl⟩) hHeld ?_
  try simp only [Act.put, List.setIfInBounds_toArray, List.set_cons_zero, List.set_cons_succ]
  refine wpAnyH_take (i := 10) (oi := ⟨some 48, _, _, _, _, _⟩) (v := undef) rfl (by kernel_rfl) (by kernel_rfl) (by kernel_rfl) (fun _ _ _ h => h) (Or.inr ⟨by rfl, rfl⟩) hHeld ?_
  try simp only [Act.put, List.setIfInBounds_toArray, List.set_cons_zero, List.set_cons_succ]
  refine wpAnyH_take (i := 11) (oi := ⟨some 49, _, _, _, _, _⟩) (v := undef) rfl (by kernel_rfl) (by kernel_rfl) (by kernel_rfl) (fun _ _ _ h => h) (Or.inr ⟨by rfl, rfl⟩) hHeld ?_
  try simp only [Act.put, List.setIfInBounds_toArray, List.set_cons_zero, List.set_cons_succ]
  refine wpAnyH_take (i := 12) (oi := ⟨some 50, _, _, _, _, _⟩) (v := undef) rfl (by kernel_rfl) (by kernel_rfl) (by kernel_rfl) (fun _ _ _ h => h) (Or.inr ⟨by rfl, rfl⟩) hHeld ?_
  try simp only [Act.put, List.setIfInBounds_toArray, List.set_cons_zero, List.set_cons_succ]
  refine wpAnyH_take (i := 13) (oi := ⟨some 51, _, _, _, _, _⟩) (v := undef) rfl (by kernel_rfl) (by kernel_rfl) (by kernel_rfl) (fun _ _ _ h => h) (Or.inr ⟨by rfl, rfl⟩) hHeld ?_
  try simp only [Act.put, List.setIfInBounds_toArray, List.set_cons_zero, List.set_cons_succ]
  refine wpAnyH_take (i := 14) (oi := ⟨some 52, _, _, _, _, _⟩) (v := undef) rfl (by kernel_rfl) (by kernel_rfl) (by kernel_rfl) (fun _ _ _ h => h) (Or.inr ⟨by rfl, rfl⟩) hHeld ?_
  try simp only [Act.put, List.setIfInBounds_toArray, List.set_cons_zero, List.set_cons_succ]
  refine wpAnyH_take (i := 15) (oi := ⟨some 53, _, _, _, _, _⟩) (v := ?_) rfl (by kernel_rfl) (by kernel_rfl) (by kernel_rfl) (fun _ _ _ h => h) (Or.inl ⟨by rfl, ?_⟩) hHeld ?_
  rotate_left
  · (intro wx hSw; (try dsimp only at hSw); go_simp; try with_reducible rfl)
  try simp only [Act.put, List.setIfInBounds_toArray, List.set_cons_zero, List.set_cons_succ]
  refine wpAnyH_take (i := 16) (oi := ⟨some 54, _, _, _, _, _⟩) (v := ?_) rfl (by kernel_rfl) (by kernel_rfl) (by kernel_rfl) (fun _ _ _ h => h) (Or.inl ⟨by rfl, ?_⟩) hHeld ?_
  rotate_left
  · (intro wx hSw; (try dsimp only at hSw); go_simp; try with_reducible rfl)
  try simp only [Act.put, List.setIfInBounds_toArray, List.set_cons_zero, List.set_cons_succ]
  refine wpAnyH_take (i := 17) (oi := ⟨some 55, _, _, _, _, _⟩) (v := ?_) rfl (by kernel_rfl) (by kernel_rfl) (by kernel_rfl) (fun _ _ _ h => h) (Or.inl ⟨by rfl, ?_⟩) hHeld ?_
  rotate_left
  · (intro wx hSw; (try dsimp only at hSw); go_simp; try with_reducible rfl)
  try simp only [Act.put, List.setIfInBounds_toArray, List.set_cons_zero, List.set_cons_succ]
  refine wpAnyH_take (i := 18) (oi := ⟨some 56, _, _, _, _, _⟩) (v := ?_) rfl (by kernel_rfl) (by kernel_rfl) (by kernel_rfl) (fun _ _ _ h => h) (Or.inl ⟨by rfl, ?_⟩) hHeld ?_
  rotate_left
  · (intro wx hSw; (try dsimp only at hSw); go_simp; try with_reducible rfl)
  try simp only [Act.put, List.setIfInBounds_toArray, List.set_cons_zero, List.set_cons_succ]
  refine wpAnyH_take (i := 19) (oi := ⟨some 57, _, _, _, _, _⟩) (v := ?_) rfl (by kernel_rfl) (by kernel_rfl) (by kernel_rfl) (fun _ _ _ h => h) (Or.inl ⟨by rfl, ?_⟩) hHeld ?_
  rotate_left
  · (intro wx hSw; (try dsimp only at hSw); go_simp; try with_reducible rfl)
  try simp only [Act.put, List.setIfInBounds_toArray, List.set_cons_zero, List.set_cons_succ]
  refine wpAnyH_take (i := 20) (oi := ⟨some 58, _, _, _, _, _⟩) (v := ?_) rfl (by kernel_rfl) (by kernel_rfl) (by kernel_rfl) (fun _ _ _ h => h) (Or.inl ⟨by rfl, ?_⟩) hHeld ?_
  rotate_left
  · (intro wx hSw; (try dsimp only at hSw); go_simp; try with_reducible rfl)
  try simp only [Act.put, List.setIfInBounds_toArray, List.set_cons_zero, List.set_cons_succ]
  refine wpAnyH_take (i := 21) (oi := ⟨some 59, _, _, _, _, _⟩) (v := ?_) rfl (by kernel_rfl) (by kernel_rfl) (by kernel_rfl) (fun _ _ _ h => h) (Or.inl ⟨by rfl, ?_⟩) hHeld ?_
  rotate_left
  · (intro wx hSw; (try dsimp only at hSw); go_simp; try with_reducible rfl)
  try simp only [Act.put, List.setIfInBounds_toArray, List.set_cons_zero, List.set_cons_succ]
  refine wpAnyH_take (i := 22) (oi := ⟨some 60, _, _, _, _, _⟩) (v := ?_) rfl (by kernel_rfl) (by kernel_rfl) (by kernel_rfl) (fun _ _ _ h => h) (Or.inl ⟨by rfl, ?_⟩) hHeld ?_
  rotate_left
  · (intro wx hSw; (try dsimp only at hSw); go_simp; try with_reducible rfl)
  try simp only [Act.put, List.setIfInBounds_toArray, List.set_cons_zero, List.set_cons_succ]
  refine wpAnyH_take (i := 23) (oi := ⟨some 61, _, _, _, _, _⟩) (v := ?_) rfl (by kernel_rfl) (by kernel_rfl) (by kernel_rfl) (fun _ _ _ h => h) (Or.inl ⟨by rfl, ?_⟩) hHeld ?_
  rotate_left
  · (intro wx hSw; (try dsimp only at hSw); go_simp; try with_reducible rfl)
  try simp only [Act.put, List.setIfInBounds_toArray, List.set_cons_zero, List.set_cons_succ]
  refine wpAnyH_take (i := 24) (oi := ⟨some 62, _, _, _, _, _⟩) (v := ?_) rfl (by kernel_rfl) (by kernel_rfl) (by kernel_rfl) (fun _ _ _ h => h) (Or.inl ⟨by rfl, ?_⟩) hHeld ?_
  rotate_left
  · (intro wx hSw; (try dsimp only at hSw); go_simp; try with_reducible rfl)
  try simp only [Act.put, List.setIfInBounds_toArray, List.set_cons_zero, List.set_cons_succ]
  refine wpAnyH_take (i := 25) (oi := ⟨some 63, _, _, _, _, _⟩) (v := ?_) rfl (by kernel_rfl) (by kernel_rfl) (by kernel_rfl) (fun _ _ _ h => h) (Or.inl ⟨by rfl, ?_⟩) hHeld ?_
  rotate_left
  · (intro wx hSw; (try dsimp only at hSw); go_simp; try with_reducible rfl)
  try simp only [Act.put, List.setIfInBounds_toArray, List.set_cons_zero, List.set_cons_succ]
  refine wpAnyH_done (by kernel_rfl) ?_ _
  refine NoPanic.normal ?_
  have hb34 : Below w2.heap.size w2 w3.drew := HB3.out.drew
  generalize w3.drew = w4 at *
  have HB34 := Lib.hid hb34
  clear hb34
  go_wp2
  go_loopw [12, 66] (fun _ i wr => i = .int .i64 0 ∧ Below w2.heap.size w2 wr) (fun _ _ _ => 0)
  case atStart => exact ⟨rfl, HB34.out⟩
  case round =>
    obtain ⟨rfl, hbr⟩ := hrel
    obtain ⟨r, hr, hr4⟩ := mask2 more
    have hrd := HR2.out.below hbr
    have HBR := Lib.hid hbr
    clear hbr
    have HRQ := Lib.hid hr
    clear hr
    have HTY := Lib.hid (fun (h : r ≤ ([] : List Int).length) => take_yes g wr [] true r hrd h (by simp))
    have HTN := Lib.hid (fun (h : ([] : List Int).length < r) => take_no g wr [] true (r : Int) hrd (.inr (by omega)))
    clear hrd
    have hq := HRQ.out
    have HC : Hid (Calls Try.prog 18 #[.pointer (some ⟨g, 0, none⟩), .int .i64 (r : Int)] wr (NoneLeft g wr)) := by
      by_cases hrl : r ≤ ([] : List Int).length
      · refine (HTY.out hrl).mono fun e w6 ⟨y, w5, he, ho5, hb6, hor⟩ => ?_
        rcases hor with ⟨_, _, hy, hd⟩ | ⟨hno, _, _⟩
        · exact ⟨y, w5, he, ho5, hb6, by simpa using hy, by simpa using hd⟩
        · omega
      · refine (HTN.out (by omega)).mono fun e w6 ⟨y, w5, he, ho5, hb6, hor⟩ => ?_
        rcases hor with ⟨_, hle, _, _⟩ | ⟨_, hy, hd⟩
        · omega
        · exact ⟨y, w5, he, ho5, hb6, hy, hd⟩
    clear HTY HTN
    go_wp2_with fail
    clear hq
    refine HC.out.mono ?_
    rintro e w6 ⟨y, w5, rfl, ho5, hb6, hy6, hd5⟩
    obtain ⟨A6, c6, hys⟩ := hy6.slice
    rw [show ([] : List Int).length = 0 from rfl] at hys
    subst hys
    have hb06 : Below w.heap.size w w6 := later HB1.out HG.out HO2.out HBR.out ho5 hb6
    have hcv := HV.out w6 hb06
    rw [HS0.out] at hcv
    have hr6 := hd5.below hb6
    have HB6 := Lib.hid hb06
    have HK6 := Lib.hid (ok_any g w6 _ _ hr6)
    have hs6 := rsmall_any g w6 _ _ hr6
    rw [num_short [] true 4 (by simp)] at hs6
    have HS6 := Lib.hid hs6
    clear ho5 hb6 hb06 hr6 hs6 hd5 hy6
    go_wp2_with fail
    refine HK6.out.mono ?_
    rintro e w' ⟨rfl, rfl⟩
    go_wp2_with fail
    refine HS6.out.mono ?_
    rintro e w7 ⟨ho7, rfl, hr7⟩
    have hc7 := rcount_any g w7 _ _ 9 hr7 (by omega)
    rw [count_bad] at hc7
    have HC7 := Lib.hid hc7
    have HB7 := Lib.hid (Only.below HB6.out ho7 HG.out)
    clear ho7 hr7 hc7
    go_wp2_with fail
    refine HC7.out.mono ?_
    rintro e w8 ⟨ho8, rfl, hr8⟩
    have HB8 := Lib.hid (Only.below HB7.out ho8 HG.out)
    clear ho8 hr8
    go_wp2_with fail
    refine (awake2_any w8).mono ?_
    rintro e w9 ⟨rfl, hb9⟩
    have HB9 := Lib.hid (HB8.out.trans (hb9.mono HB8.out.size))
    clear hb9
    go_wp2
    go_ret
    exact ⟨rfl, HB9.out⟩

theorem walk (v : Value) (l : List Int) (n more : Int) (w : World) (hs : Sl w w.heap.size v l) (hy : Bys l) (hm : l.length ≤ maxLen) :
    Calls Try.prog 4 #[v, .int .i64 n, .int .i64 more] w (YesPost w) := by
  by_cases hl : l.length ≤ 200
  · obtain ⟨q, hq, hq8⟩ := mask8 n
    by_cases h3 : q < 3
    · exact walk_low v l n more w hs hy hl q hq hq8 h3
    · by_cases hk : q - 3 ≤ l.length
      · exact walk_ok v l n more w hs hy hl q hq hq8 (q - 3) (by omega) hk
      · exact walk_far v l n more w hs hy hl q hq hq8 (by omega) (by omega)
  · exact walk_long v l n more w hs (by omega) hm

set_option maxRecDepth 100000 in
theorem lifted (os : Os) (started : os.Started) (H : Type) (enc : TypeId × Value → H) :
    ReturnsInHanded {} Try.checked os 4 .any (Rows.wireTakesSpec.pre6 enc Try.prog Try.f4 Rows.wireTakesRow.domain false) (Rows.wireTakesSpec.post enc Try.prog Try.f4 false true false false) := by
  refine returnsInHanded_of_change (C := Try.checked) ownKnobNone started (by kernel_rfl) Try.func4
    (ChangeSpec.witness6 (enc := enc) (C := Try.checked) false ⟨#[], #[.slice none 0 0, .int .i64 0, .int .i64 0], []⟩ 8 (by kernel_rfl) (by kernel_rfl) (by kernel_rfl) (by kernel_rfl)) ?_
  intro W base args ds gs before hval0 hW _ _
  have hval : ∀ (j : Nat) t v, Try.f4.params[j]? = some t → args[j]? = some v → Value.okWide Try.prog W .any base t v := hval0
  have hW' := hW
  obtain ⟨p, q, hA0, hV, rfl, _, _⟩ := hW
  have hA : DataW.TrodAll enc Try.prog W 0 (fun _ => true) true Try.f4.params.toList args.toList ds p := hA0
  rw [Try.params4] at hA hval
  obtain ⟨v0, vs0, d0, ds0, p0, q0, hargs, rfl, rfl, h0, r0⟩ := trodAll_cons hA
  obtain ⟨v1, vs1, d1, ds1, p1, q1, rfl, rfl, rfl, h1, r1⟩ := trodAll_cons r0
  obtain ⟨v2, vs2, d2, ds2, p2, q2, rfl, rfl, rfl, h2, r2⟩ := trodAll_cons r1
  obtain ⟨rfl, rfl, rfl⟩ := trodAll_nil r2
  obtain rfl : args = #[v0, v1, v2] := by cases args; simp_all
  obtain ⟨rfl, rfl⟩ := trodVars_none hV
  obtain ⟨l0, s0, y0, z0⟩ := bytes_arg (hval 0 24 v0 rfl rfl) h0
  obtain ⟨a1, rfl, rfl, rfl, w1⟩ := open_int Try.underlying3 (hval 1 3 v1 rfl rfl) h1
  have b1 := bd_i64 w1
  obtain ⟨a2, rfl, rfl, rfl, w2⟩ := open_int Try.underlying3 (hval 2 3 v2 rfl rfl) h2
  have b2 := bd_i64 w2
  clear hA0 hval0
  refine (walk v0 l0 a1 a2 W s0 y0 z0).mono fun e W' ⟨he, hb⟩ => ?_
  subst he
  exact ⟨_, rfl, law_post hW' rfl rfl (by kernel_rfl) rfl hb⟩

theorem over : Rows.wireTakesRow.holds Try.pinned (OpenSpec.ofChange Rows.wireTakesSpec) :=
  OpenClaim.holds_of_wide 4 Try.f4 rfl rfl rfl rfl rfl rfl rfl ⟨rfl, rfl, rfl, rfl, rfl⟩ rfl rfl rfl rfl rfl (by kernel_rfl) Try.func4 (by kernel_rfl)
    (of_decide_eq_true (by kernel_rfl)) (by unfold Func.isWrapper; first | (rw [if_pos (by decide +kernel)]; kernel_rfl) | (rw [if_neg (by decide +kernel)]; exact ⟨rfl, rfl⟩))
    (fun os started H enc _ => lifted os started H enc)

/-- The statement. -/
theorem proved : Rows.WireTakesSaid :=
  over
end Go.Proofs.Ytlkcpaeohlpehaa.lawTakes
