/- Package coin: Points. -/
import Derived.Test.YtdemamipllfonaaCoF

import Derived.Shelf.SlSortCmp.NoneTotal
import Derived.Sort.EveryDepth
namespace Go.Proofs.Ytdemamipllfonaa
open Go.RowKit Go.Maps Go.Sort Go.Shelf

set_option maxRecDepth 100000 in
theorem enter_keys1 (args : Array Value) (w : World) : (callFunc 28 args).run Try.prog w = .ok (.enter 28 args) w := by kernel_rfl
set_option maxRecDepth 100000 in
set_option maxHeartbeats 1000000 in
theorem collect_any (w : World) (b Bm nn : Nat) (D : DataW Unit) (M : Coins) (hm : MapR D M) (hBm : Bm < w.heap.size) (hc : w.cell? ⟨Bm, 0, none⟩ = some (.map (some b))) (hown : w.ownsMap Try.prog 41 coinR b nn D) (hN : M.length ≤ 1000000) :
    Calls Try.prog 26 #[.func (.func 28) #[] #[.pointer (some ⟨Bm, 0, none⟩)]] w fun e w' => ∃ v ss, e = .returned v ∧ (ss.map (·.1)).Perm (M.map (·.1)) ∧ PtsO w' w.heap.size v ss ∧ Below w.heap.size w w' :=
  calls_of_every_depth (L := [26, 35, 28]) (n := 3) fun d => by
    have hA := appendSeq_in (Fence.list [26, 35, 28] (some d)) 2 (by simp [Fence.list]) rfl (by omega) 28 #[.pointer (some ⟨Bm, 0, none⟩)] (by simp [Fence.list]) enter_keys1 hN w
      (keys_stops (Fence.list [26, 35, 28] (some d)) 1 (by simp [Fence.list]) rfl (by omega) Bm b nn D M hm w hBm hc hown)
    generalize hF : Fence.list [26, 35, 28] (some d) = F at *
    have h26 : F.fn 26 := by rw [← hF]; simp [Fence.list]
    have h35 : F.fn 35 := by rw [← hF]; simp [Fence.list]
    have hro : F.round = none := by rw [← hF]; rfl
    clear hF hm hc hown
    refine callsIn_of_wp Try.func26 rfl h26 ?_ hro
    change Code.wpIn F 3 Try.prog _ _ { tmps := #[.func (.func 28) #[] #[.pointer (some ⟨Bm, 0, none⟩)], undef, undef, undef, undef], defers := [] } w
    gi_wp2_with (gi_at_call 35; refine hA.mono ?_; rintro e w' ⟨v, ss, rfl, hS, hp, hb⟩)
    go_ret
    exact ⟨_, ss, rfl, hS, hp, hb⟩

set_option maxRecDepth 100000 in
theorem sort_any (w : World) (B : Nat) (v : Value) (l : List PtF) (hp : PtsO w B v l) (hlen : l.length ≤ 1000000) (hB : B ≤ w.heap.size) :
    Calls Try.prog 27 #[v, .func (.func 19) #[] #[]] w fun e w' => e = .returned (.tuple #[]) ∧ PtsO w' B v (sortP l) ∧ Below B w w' := by
  rcases id hp.2 with ⟨rfl, h0⟩ | ⟨g, cap, cur, rfl, hg, _⟩
  · obtain rfl := List.eq_nil_of_length_eq_zero h0
    have hcon := AnyF.slices_SortFunc_none (P := Try.prog) sortLays none 0 (.func (.func 19) #[] #[]) w
    refine Calls.mono (show Calls Try.prog 27 _ w _ from hcon) ?_
    rintro e w' ⟨he, rfl⟩
    exact ⟨he, by rw [show sortP [] = [] by simp [sortP]]; exact hp, Below.refl _ _⟩
  · refine (sort_some w B g cap l hp hlen).mono ?_
    rintro e w' ⟨he, ho, hgr⟩
    exact ⟨he, ho, (Below.refl B w).grown hgr hB fun k e => by cases e; exact hg⟩
set_option maxRecDepth 100000 in
set_option maxHeartbeats 1000000 in
theorem sortedFunc_any (w : World) (sv : Value) (ks : List PtD) (hk : ks.Nodup) (hN : ks.length ≤ 1000000) (hC : Calls Try.prog 26 #[sv] w fun e w' => ∃ v ss, e = .returned v ∧ (ss.map (·.1)).Perm ks ∧ PtsO w' w.heap.size v ss ∧ Below w.heap.size w w') :
    Calls Try.prog 17 #[sv, .func (.func 19) #[] #[]] w fun e w' => ∃ v l, e = .returned v ∧ (l.map (·.1)).Perm ks ∧ l.Pairwise LtK ∧ PtsO w' w.heap.size v l ∧ Below w.heap.size w w' := by
  have HC := Kp.mk hC
  have HS := Kp.mk sort_any
  have HP : Kp (∀ ss : List PtF, (ss.map (·.1)).Perm ks → ss.length ≤ 1000000 ∧ ((sortP ss).map (·.1)).Perm ks ∧ (sortP ss).Pairwise LtK) := ⟨fun ss h => ⟨by have := h.length_eq; rw [List.length_map] at this; omega, ((sortP_perm ss).map _).trans h, sortP_rises ss (by
    have := h.nodup_iff.2 hk
    exact (List.pairwise_map.1 this).imp fun hne e => hne (by rw [e]))⟩⟩
  clear hC hk hN
  go_enter Try.func17, Try.ntmps17
  go_wp2_with (first | (go_at_call 26; refine HC.out.mono ?_; rintro e w1 ⟨v, ss, rfl, hS, hp, hb⟩; have H1 := Kp.mk (And.intro hp hb); have HSS := Kp.mk (HP.out ss hS); clear hS hp hb) | (go_at_call 27; refine (HS.out _ w.heap.size v ss H1.out.1 HSS.out.1 H1.out.2.size).mono ?_; rintro e w2 ⟨rfl, hp2, hb2⟩; have H2 := Kp.mk (And.intro hp2 (H1.out.2.trans hb2)); clear hp2 hb2))
  go_ret
  exact ⟨v, sortP ss, rfl, HSS.out.2.1, HSS.out.2.2, H2.out.1, H2.out.2⟩
set_option maxRecDepth 100000 in
set_option maxHeartbeats 1000000 in
theorem points_any (w : World) (bs bm N : Nat) (M : Coins) (h : SetS w bs bm N M) (hN : N ≤ 1000000) :
    Calls Try.prog 8 #[SetV bs] w fun e w' => ∃ v l, e = .returned v ∧ (l.map (·.1)).Perm (M.map (·.1)) ∧ l.Pairwise LtK ∧ PtsO w' w.heap.size v l ∧ Below w.heap.size w w' := by
  obtain ⟨hb, n, D, hn, ho, hm⟩ := id h
  have hlen : M.length ≤ 1000000 := by
    have := ho.size_le
    rw [hm.size] at this
    omega
  have HK := Kp.mk (mapkeys_any w bm)
  obtain ⟨W1, hW1⟩ : ∃ W, w.alloc (.cells #[.map (some bm)] 52) = W := ⟨_, rfl⟩
  have hb1 : Below w.heap.size w W1 := by rw [← hW1]; exact (Below.refl _ _).alloc (Nat.le_refl _) _
  have hx : Box W1 w.heap.size 52 #[.map (some bm)] := by rw [← hW1]; exact Box.fresh _ _ _
  have HS := Kp.mk (sortedFunc_any W1 (.func (.func 28) #[] #[.pointer (some ⟨w.heap.size, 0, none⟩)]) (M.map (·.1)) hm.nodup (by rw [List.length_map]; exact hlen) (collect_any W1 bm w.heap.size n D M hm hx.lt (hx.cell 0) (ho.kept (grown_of_below hb1) (by simp)) hlen))
  have HB1 := Kp.mk hb1
  have HW1 := Kp.mk hW1
  have c0 := hb.cell 0
  have hsz : w.heap.size ≤ W1.heap.size := hb1.size
  have HE : Kp (∀ W' v l, PtsO W' W1.heap.size v l → PtsO W' w.heap.size v l) := ⟨fun W' v l hp => by
    refine ⟨hp.1, ?_⟩
    rcases hp.2 with h | ⟨g, cap, cur, h1, h2, h3⟩
    · exact .inl h
    · exact .inr ⟨g, cap, cur, h1, Nat.le_trans hsz h2, h3⟩⟩
  clear h hb hn ho hm hlen hW1 hb1 hx hsz
  unfold SetV
  go_enter Try.func8, Try.ntmps8
  go_wp2_with (first | (go_at_call 18; refine HK.out.mono ?_; rintro e w' ⟨rfl, rfl⟩; rw [HW1.out]) | (go_at_call 17; refine HS.out.mono ?_; rintro e w2 ⟨v, l, rfl, h1, h2, h3, h4⟩))
  go_ret
  exact ⟨v, l, rfl, h1, h2, HE.out _ _ _ h3, HB1.out.trans (h4.mono HB1.out.size)⟩
end Go.Proofs.Ytdemamipllfonaa
