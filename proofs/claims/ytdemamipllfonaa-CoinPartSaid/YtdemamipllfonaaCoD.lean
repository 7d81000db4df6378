/- Package coin: the keys of its map, each once, gathered into a row of the call's own. -/
import Derived.Test.YtdemamipllfonaaCoB
import Derived.Test.YtdemamipllfonaaCoC
import Derived.RangeFuncNested
import Derived.Sort.MapsRangeIn
import Derived.WalkKit
import Derived.OwnWalkIn
import Derived.TacticsInMore
import Derived.RegionIn
import Derived.LoopNIn
import Derived.LoopIn
import Derived.Deep.WholeRow
namespace Go.Proofs.Ytdemamipllfonaa
open Go.RowKit Go.Maps Go.Sort

/-- A point that may be. -/
abbrev PtF := {p : PtD // p.Fit}
instance : Inhabited PtF := ⟨⟨⟨zeros 32, 0⟩, by simp [zeros], zeros_bys 32, by show 0 < 4294967296; omega⟩⟩
def encP (x : PtF) : List Value := ptC x.1.id x.1.vout
theorem encP_len (x : PtF) : (encP x).length = 33 := ptC_len x.2.1 _
theorem encP_one (x : PtF) : ∀ v ∈ encP x, v.oneCell' = true := by
  intro v hv
  unfold encP ptC at hv
  rcases List.mem_append.1 hv with h | h
  · exact byteVals_one _ v h
  · rw [List.mem_singleton.1 h]; rfl
theorem ptV_enc (x : PtF) : ptV x.1 = .agg (encP x).toArray := rfl
/-- A row of points of the call's own. -/
def PtsO (w : World) (B : Nat) (v : Value) (l : List PtF) : Prop := w.ownsRow B 41 33 v l.length (l.flatMap encP)

/-- What has come so far. -/
def Coll (M : Coins) (left : Lit → Bool) (ss : List PtF) : Prop := ss.Nodup ∧ ∀ p : PtF, p ∈ ss ↔ (M.has p.1 = true ∧ left (keyL p.1) = false)
theorem Coll.start {D : DataW Unit} {M : Coins} (hm : MapR D M) : Coll M (Maps.has D) [] := ⟨List.nodup_nil, fun p => by
  rw [hm.has p.1 p.2]
  cases M.has p.1 <;> simp⟩
theorem Coll.step {M : Coins} {left : Lit → Bool} {ss : List PtF} (h : Coll M left ss) {x : PtF} (hl : left (keyL x.1) = true) (hx : M.has x.1 = true) : Coll M (fun z => left z && !z.sameKey (keyL x.1)) (ss ++ [x]) := by
  have hnew : x ∉ ss := fun hx => by have := ((h.2 x).1 hx).2; rw [hl] at this; cases this
  refine ⟨List.nodup_append.2 ⟨h.1, by simp, fun a ha b hb => by simp at hb; subst hb; exact fun e => hnew (e ▸ ha)⟩, fun y => ?_⟩
  by_cases hy : y = x
  · subst hy
    simp only [List.mem_append, List.mem_singleton, or_true, true_iff]
    refine ⟨hx, ?_⟩
    rw [(WideAt.sameKey_iff (keyL_lit y.1)).2 rfl]
    simp
  · have hk : (keyL y.1).sameKey (keyL x.1) = false := sameKey_ne fun e => hy (Subtype.ext (keyL_inj y.2 x.2 e))
    simp [h.2 y, hy, hk]
theorem Coll.perm {M : Coins} {left : Lit → Bool} {ss : List PtF} (h : Coll M left ss) (hf : ∀ x ∈ M, x.1.Fit) (hn : (M.map (·.1)).Nodup) (hl : ∀ kl, left kl = false) : (ss.map (·.1)).Perm (M.map (·.1)) := by
  refine (List.perm_ext_iff_of_nodup ?_ hn).2 fun p => ?_
  · exact List.pairwise_map.2 (h.1.imp fun hne e => hne (Subtype.ext e))
  · constructor
    · intro hp
      obtain ⟨x, hx, rfl⟩ := List.mem_map.1 hp
      exact Coins.has_iff.1 ((h.2 x).1 hx).1
    · intro hp
      obtain ⟨y, hy, rfl⟩ := List.mem_map.1 hp
      exact List.mem_map.2 ⟨⟨y.1, hf y hy⟩, (h.2 _).2 ⟨Coins.has_iff.2 hp, hl _⟩, rfl⟩

section
variable {F : Fence} {n : Nat} {P : Program} {ops : Array Oper} {rest : List Oper} {o : Oper} {a : Act} {w : World} {Q : Exit → Act → World → Prop}
theorem wpListIn_load_row9 (hgd : o.guard = none) (ty : TypeId) (x : Operand) (ho : o.op = .load ty x) (g : Nat) (hx : a.eval x = .pointer (some ⟨g, 0, none⟩)) (t : TypeId) (cs : Array Value) (d : TypeDesc) (hg : Box w g t cs)
    (hu : P.underlying ty = some d) (hd : (match d with | .struct _ | .array _ _ => true | _ => false) = true) (hi : (P.info? ty).map (·.size) = some cs.size)
    (h : wpListIn F n P ops Q rest (a.put o.dst (.agg cs)) w) : wpListIn F n P ops Q (o :: rest) a w := by
  refine wpListIn_plain hgd fun K' hK' => ?_
  unfold Oper.wpIn
  refine ⟨by simp [Oper.about, ho], ?_⟩
  rw [Oper.semAt_plain F _ _ (by rw [ho]; intro c hc'; cases hc')]
  unfold execOp
  simp only [ho, hx, Instr.loadAt, Instr.sureAddr, Sem.run_bind, Sem.run_pure, Result.andThen_ok, run_loadVar_row w g t ty cs (0, 0) d hg hu hd hi]
  exact hK' _ _ h
theorem wpListIn_store_fresh9 (hgd : o.guard = none) (ty : TypeId) (x y : Operand) (ho : o.op = .store ty x y) (old cells : Array Value) (g : Nat) (hg : g = w.heap.size) (hx : a.eval x = .pointer (some ⟨g, 0, none⟩)) (hy : a.eval y = .agg cells)
    (hi : (P.info? ty).map (·.size) = some cells.size) (hold : old.size = cells.size) (h1 : cells.all (·.oneCell') = true)
    (h : wpListIn F n P ops Q rest (a.put o.dst undef) (w.alloc (.cells cells ty))) : wpListIn F n P ops Q (o :: rest) a (w.alloc (.cells old ty)) := by
  subst hg
  refine wpListIn_plain hgd fun K' hK' => ?_
  unfold Oper.wpIn
  refine ⟨by simp [Oper.about, ho], ?_⟩
  rw [Oper.semAt_plain F _ _ (by rw [ho]; intro c hc'; cases hc')]
  have hr := run_storeAt_new (P := P) w ty old cells hi hold h1
  unfold execOp
  simp [ho, hx, hy, hr, Result.andThen]
  exact hK' _ _ h
end

theorem size_ptC {p : PtD} (hp : p.Fit) : (Try.prog.info? 41).map (·.size) = some (ptC p.id p.vout).toArray.size := by rw [List.size_toArray, ptC_len hp.1]; exact sizePt
set_option maxRecDepth 100000 in
theorem zeroPt_run (w : World) : ∃ C : Array Value, (zeroValue 41).run Try.prog w = .ok (.agg C) w ∧ C.size = 33 := ⟨(ptC (zeros 32) 0).toArray, by kernel_rfl, by kernel_rfl⟩
set_option maxRecDepth 100000 in
set_option maxHeartbeats 2000000 in
/-- The iterator of the map's keys: each once. -/
theorem keys_stops (F : Fence) (n : Nat) (hF : F.fn 28) (hro : F.round = none) (h1 : 1 ≤ n) (Bm b nn : Nat) (D : DataW Unit) (M : Coins) (hm : MapR D M) (w : World) (hBm : Bm < w.heap.size) (hc : w.cell? ⟨Bm, 0, none⟩ = some (.map (some b))) (hown : w.ownsMap Try.prog 41 coinR b nn D) :
    SeqStopsK F n Try.prog 28 #[.pointer (some ⟨Bm, 0, none⟩)] (fun x : PtF => #[ptV x.1]) KeepsWalks (fun xs => (xs.map (·.1)).Perm (M.map (·.1))) (fun _ => True) M.length w := fun l J Jx W hW hJ hJx hY h0 => by
  have hown' := hown.kept (grown_of_below hW) (row := none) (by simp)
  have hc' : W.cell? ⟨Bm, 0, none⟩ = some (.map (some b)) := (hW.cell (p := ⟨Bm, 0, none⟩) hBm).trans hc
  have hsz := hm.size
  refine callsIn_of_wp Try.func28 rfl hF ?_ hro
  change Code.wpIn F n Try.prog _ _ { tmps := #[.func (.yield l) #[] #[], .pointer (some ⟨Bm, 0, none⟩), undef, undef, undef, undef, undef, undef, undef, undef, undef, undef, undef, undef], defers := [] } W
  gi_wp2_with (first
    | (gi_at_range; refine wpListIn_range_own _ rfl _ 52 rfl 41 44 ptLaw Try.underlying52 _ b nn _ rfl hown' ?_; intro w0 hrg0 hg0 hs0)
    | gi_in)
  gi_loopw [3] (fun _ wr => ∃ (left : Lit → Bool) (cnt : Nat) (ss : List PtF), wr.ranges Try.prog 41 coinR b W.heap.size nn D left cnt ∧ ss.length + cnt ≤ M.length ∧ Coll M left ss ∧ J ss wr)
    (fun _ wr => wr.rangeLeft b W.heap.size)
  case atStart =>
    exact ⟨_, _, [], hrg0, by rw [hsz]; simp, Coll.start hm, hJ [] W w0 none h0 hg0 (fun r e => by cases e)⟩
  case round =>
    obtain ⟨left, cnt, ss, hrg, hcs, hC, hJs⟩ := hrel
    gi_wp2_with (first
      | (gi_at_next; refine wpListIn_next_ranges _ rfl _ rfl 41 ptLaw coinR id id (fun key kl hk => ⟨key, rfl⟩) (fun v _ _ => ⟨v, rfl⟩) b W.heap.size nn _ _ _ rfl hrg ?_ ?_)
      | gi_in)
    · intro hc0 hl0
      gi_wp2
      go_end0
      exact ⟨⟨_, rfl⟩, .inl ⟨ss, hC.perm hm.fit hm.nodup hl0, hJs⟩⟩
    · intro x c kl yd yp w2 cnt2 hkey hlk hv hat hrg2 hlt hg2 hs2 hen
      obtain ⟨p, hp, rfl⟩ := hm.keys kl (has_true_of_atKey hat)
      obtain rfl : x = ptV p := ptV_of_key hp hkey
      have hhas : M.has p = true := by rw [← hm.has p hp]; exact has_true_of_atKey hat
      have HALL := ptC_all (p := p)
      have HSZ := size_ptC hp
      have hC33 : (ptC p.id p.vout).toArray.size = 33 := by rw [List.size_toArray, ptC_len hp.1]
      have hC2 : Coll M (fun z => left z && !z.sameKey (keyL p)) (ss ++ [⟨p, hp⟩]) := hC.step (x := ⟨p, hp⟩) hlk hhas
      have hJ2 : J ss w2 := hJ ss wr w2 (some W.heap.size) hJs hg2 (fun r e => by cases e; exact ⟨Nat.le_refl _, hrg.iter_walk⟩)
      have hY3 := fun w3 h => hY ss ⟨p, hp⟩ w3 h (by omega)
      dsimp only at hY3
      dsimp only [id, ptV] at hen
      unfold ptV at hY3 ⊢
      generalize (ptC p.id p.vout).toArray = C at *
      obtain ⟨w3, hw3⟩ : ∃ w3, w2.alloc (.cells C 41) = w3 := ⟨_, rfl⟩
      have hg3 : w2.grownBy w3 none := by rw [← hw3]; exact World.grownBy_alloc _ _ none
      have hJ3 : J ss w3 := hJ ss w2 w3 none hJ2 hg3 (fun r e => by cases e)
      have hrg3 : w3.ranges Try.prog 41 coinR b W.heap.size nn D (fun z => left z && !z.sameKey (keyL p)) cnt2 := by rw [← hw3]; exact hrg2.alloc _
      have hrow : Box w3 w2.heap.size 41 C := by rw [← hw3]; exact Box.fresh _ _ _
      obtain ⟨fn, tmps, assign, body, hy, hR⟩ := hY3 w3 hJ3
      clear hs2 hY3
      gi_wp2_with (first | (refine wpListIn_store_fresh9 rfl 41 (.tmp 3) (.tmp 9) rfl _ C _ rfl rfl rfl HSZ (by rw [hC33]; rfl) HALL ?_; rw [hw3]) | (refine wpListIn_load_row9 rfl 41 (.tmp 3) rfl w2.heap.size rfl 41 C _ hrow Try.underlying41 rfl HSZ ?_) | gi_in)
      refine hR.mono ?_
      rintro e W4 (⟨rfl, hJ4, hk4⟩ | ⟨rfl, hJx4⟩)
      · gi_wp2
        have hrg4 := hrg3.of_walks hk4
        go_roundw
        case rel => exact ⟨_, cnt2, ss ++ [⟨p, hp⟩], hrg4, by simp; omega, hC2, hJ4⟩
        case measure => rw [hrg4.left_eq, hrg.left_eq]; exact hlt
      · gi_wp2
        refine bodyPost_ret (results_none rfl _ _ _) rfl ?_
        exact ⟨⟨_, rfl⟩, .inr ⟨_, hJx4⟩⟩
end Go.Proofs.Ytdemamipllfonaa
