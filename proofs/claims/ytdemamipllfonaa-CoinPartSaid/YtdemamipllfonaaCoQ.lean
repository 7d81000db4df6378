/- Package coin: a set among other variables: what a call upon it leaves as it was. -/
import Derived.Test.YtdemamipllfonaaCoP
import Derived.Test.YtdemamipllfonaaAwC
import Derived.Test.YtdemamipllfonaaCoH
namespace Go.Proofs.Ytdemamipllfonaa
open Go.RowKit Go.Maps Go.Sort

theorem SetS.cells {w : World} {bs bm N : Nat} {M : Coins} (h : SetS w bs bm N M) {b : Nat} {cs : Array Value} {t : Nat} {fr : Nat × Nat} (hb : w.heap[b]? = some (.cells cs t fr)) : b ≠ bm := by
  rintro rfl
  obtain ⟨_, n, D, _, ⟨es, clock, hm, _⟩, _⟩ := h
  rw [hm] at hb
  cases hb
theorem Keeps.of_map {w w' : World} {bs bm N : Nat} {M : Coins} (ts : List Nat) (h : SetS w bs bm N M) (hg : w.grownBy w' (some bm)) : Keeps ts w w' :=
  ⟨hg.size, fun b _ _ _ _ hb => (hg.block b (heap_lt hb) (fun e => h.cells hb (by injection e))).trans hb⟩
theorem Below.of_map {w w' : World} {B bm : Nat} (hg : w.grownBy w' (some bm)) (hB : B ≤ bm) (hw : B ≤ w.heap.size) : Below B w w' :=
  ⟨hg.os, hg.tape, hg.output, hg.size, fun k hk => hg.block k (by omega) (by simp; omega)⟩

/-- A set, variables, and transactions of the own. -/
structure AwS (w0 W : World) (bs bm N : Nat) (M : Coins) (xs : List (Nat × Nat × Array Value)) (ts : List (Value × TxD)) : Prop where
  set : SetS W bs bm N M
  bxs : ∀ x ∈ xs, Box W x.1 x.2.1 x.2.2
  txs : ∀ x ∈ ts, TxF W w0.heap.size x.1 x.2
  low : Below w0.heap.size w0 W
  hbm : w0.heap.size ≤ bm
section
variable {w0 W W' : World} {bs bm N N' : Nat} {M M' : Coins} {xs : List (Nat × Nat × Array Value)} {ts : List (Value × TxD)}
theorem AwS.below (h : AwS w0 W bs bm N M xs ts) (hb : Below W.heap.size W W') : AwS w0 W' bs bm N M xs ts :=
  ⟨h.set.below hb, fun x hx => (h.bxs x hx).below hb, fun x hx => (h.txs x hx).turn (Keeps.of_below [5, 55, 58, 61] hb) (by decide) (by decide) (by decide) (by decide) (Nat.le_refl _), h.low.trans (hb.mono h.low.size), h.hbm⟩
theorem AwS.call (h : AwS w0 W bs bm N M xs ts) (hs : SetS W' bs bm N' M') (hg : W.grownBy W' (some bm)) : AwS w0 W' bs bm N' M' xs ts :=
  ⟨hs, fun x hx => (hg.block _ (h.bxs x hx).lt (fun e => h.set.cells (h.bxs x hx) (by injection e))).trans (h.bxs x hx), fun x hx => (h.txs x hx).turn (Keeps.of_map [5, 55, 58, 61] h.set hg) (by decide) (by decide) (by decide) (by decide) (Nat.le_refl _), h.low.trans (Below.of_map hg h.hbm h.low.size), h.hbm⟩
theorem AwS.alloc (h : AwS w0 W bs bm N M xs ts) (t : Nat) (cs : Array Value) : AwS w0 (W.alloc (.cells cs t)) bs bm N M ((W.heap.size, t, cs) :: xs) ts :=
  have k := h.below ((Below.refl W.heap.size W).alloc (Nat.le_refl _) (.cells cs t))
  ⟨k.set, fun x hx => by
    rcases List.mem_cons.1 hx with rfl | hx
    · exact Box.fresh _ _ _
    · exact k.bxs x hx, k.txs, k.low, k.hbm⟩
theorem AwS.tx (h : AwS w0 W bs bm N M xs ts) {B : Nat} {v : Value} {t : TxD} (hx : TxF W B v t) (hB : w0.heap.size ≤ B) : AwS w0 W bs bm N M xs ((v, t) :: ts) :=
  ⟨h.set, h.bxs, fun x hm => by
    rcases List.mem_cons.1 hm with rfl | hm
    · exact hx.turn (Keeps.refl [5, 55, 58, 61] W) (by decide) (by decide) (by decide) (by decide) hB
    · exact h.txs x hm, h.low, h.hbm⟩
theorem AwS.drew (h : AwS w0 W bs bm N M xs ts) : AwS w0 W.drew bs bm N M xs ts := h.below (Below.refl _ _).drew
theorem aw_new (w : World) : Calls Try.prog 6 #[] w fun e w' => e = .returned (.pointer (some ⟨w.heap.size + 1, 0, none⟩)) ∧ AwS w w' (w.heap.size + 1) w.heap.size 0 [] [] [] :=
  (new_any w).mono fun _ _ h => ⟨h.1, h.2.1, (fun _ h => by cases h), (fun _ h => by cases h), h.2.2, Nat.le_refl _⟩
theorem aw_put (h : AwS w0 W bs bm N M xs ts) (p : PtD) (c : CoinD) (hp : p.Fit) (hN : N < 1000000) : Calls Try.prog 13 #[.pointer (some ⟨bs, 0, none⟩), .agg (ptC p.id p.vout).toArray, .agg (coinCells c).toArray] W fun e w' => e = .returned (.bool (!M.has p)) ∧ AwS w0 w' bs bm (N + 1) (if M.has p then M else M.put p c) xs ts :=
  (put_any W bs bm N M p c h.set hp hN).mono fun _ _ k => ⟨k.1, h.call k.2.1 k.2.2⟩
theorem aw_get (h : AwS w0 W bs bm N M xs ts) (p : PtD) (hp : p.Fit) : Calls Try.prog 24 #[.pointer (some ⟨bs, 0, none⟩), .agg (ptC p.id p.vout).toArray] W fun e w' => e = .returned (.tuple #[.agg (coinCells (M.get p)).toArray, .bool (M.has p)]) ∧ AwS w0 w' bs bm N M xs ts :=
  (get_any W bs bm N M p h.set hp).mono fun _ _ k => ⟨k.1, h.below k.2⟩
theorem aw_take (h : AwS w0 W bs bm N M xs ts) (p : PtD) (hp : p.Fit) : Calls Try.prog 12 #[.pointer (some ⟨bs, 0, none⟩), .agg (ptC p.id p.vout).toArray] W fun e w' => e = .returned (.tuple #[.agg (coinCells (M.get p)).toArray, .bool (M.has p)]) ∧ AwS w0 w' bs bm N (M.del p) xs ts :=
  (take_any W bs bm N M p h.set hp).mono fun _ _ k => ⟨k.1, h.call k.2.1 k.2.2⟩
theorem aw_law (h : AwS w0 W bs bm N M xs ts) (n m : Int) (hn : -9223372036854775808 ≤ n ∧ n ≤ 9223372036854775807) (hm : -9223372036854775808 ≤ m ∧ m ≤ 9223372036854775807) : Calls Try.prog 7 #[.int .i64 n, .int .i64 m] W fun e w' => ∃ Ai ci Ao co, e = .returned (.agg #[.int .u32 (txOf n m).version, .slice Ai (txOf n m).ins.length ci, .slice Ao (txOf n m).outs.length co, .int .u32 (txOf n m).lock]) ∧ AwS w0 w' bs bm N M xs ((.agg #[.int .u32 (txOf n m).version, .slice Ai (txOf n m).ins.length ci, .slice Ao (txOf n m).outs.length co, .int .u32 (txOf n m).lock], txOf n m) :: ts) :=
  (lawTx_any W n m hn hm).mono fun e w' k => by
    obtain ⟨v, rfl, hT, hb⟩ := k
    obtain ⟨iv, ov, rfl, _, _, hi, ho⟩ := id hT
    obtain ⟨Ai, ci, rfl⟩ := hi.slice
    obtain ⟨Ao, co, rfl⟩ := ho.slice
    exact ⟨Ai, ci, Ao, co, rfl, (h.below hb).tx hT h.low.size⟩
theorem aw_make (h : AwS w0 W bs bm N M xs ts) (v : Value) (t : TxD) (hx : (v, t) ∈ ts) (hby : TxBys t) (hh tt : Int) (bb : Bool) (hn : t.outs.length ≤ 1000) (hN : N ≤ 100000) :
    Calls Try.prog 9 #[.pointer (some ⟨bs, 0, none⟩), v, .int .i64 hh, .int .i64 tt, .bool bb] W fun e w' => e = .returned (.bool (!M.hasAny t)) ∧ AwS w0 w' bs bm (N + t.outs.length) (if M.hasAny t then M else M.make t hh tt bb) xs ts :=
  (make_any W bs bm N M v t hh tt bb h.set (h.txs _ hx).txR hby hn hN).mono fun _ _ k => ⟨k.1, h.call k.2.1 k.2.2⟩
theorem aw_unmake (h : AwS w0 W bs bm N M xs ts) (v : Value) (t : TxD) (hx : (v, t) ∈ ts) (hby : TxBys t) (hn : t.outs.length ≤ 1000) :
    Calls Try.prog 10 #[.pointer (some ⟨bs, 0, none⟩), v] W fun e w' => e = .returned (.bool (!M.lacksAny t)) ∧ AwS w0 w' bs bm N (if M.lacksAny t then M else M.unmake t) xs ts :=
  (unmake_any W bs bm N M v t h.set (h.txs _ hx).txR hby hn).mono fun _ _ k => ⟨k.1, h.call k.2.1 k.2.2⟩
theorem aw_txid (h : AwS w0 W bs bm N M xs ts) (v : Value) (t : TxD) (hx : (v, t) ∈ ts) (hby : TxBys t) : Calls Try.prog 25 #[v] W fun e w' => e = .returned (.agg (byteVals (idOf t)).toArray) ∧ AwS w0 w' bs bm N M xs ts :=
  (refTxid_any W v t (h.txs _ hx).txR hby).mono fun _ _ k => ⟨k.1, h.below k.2⟩
theorem aw_points (h : AwS w0 W bs bm N M xs ts) (hN : N ≤ 1000000) : Calls Try.prog 8 #[.pointer (some ⟨bs, 0, none⟩)] W fun e w' => ∃ A c l, e = .returned (.slice A M.length c) ∧ l.length = M.length ∧ (l.map (·.1)).Perm (M.map (·.1)) ∧ l.Pairwise LtK ∧ PtsO w' W.heap.size (.slice A M.length c) l ∧ AwS w0 w' bs bm N M xs ts :=
  (points_any W bs bm N M h.set hN).mono fun e w' k => by
    obtain ⟨v, l, rfl, hp, hl, ho, hb⟩ := k
    obtain ⟨A, c, rfl⟩ := pts_slice ho
    have he : l.length = M.length := by simpa using hp.length_eq
    rw [he] at ho ⊢
    exact ⟨A, c, l, rfl, he, hp, hl, ho, h.below hb⟩
end
theorem one_has (p : PtD) (c : CoinD) : Coins.has [(p, c)] p = true := by simp [Coins.has]
theorem one_get (p : PtD) (c : CoinD) : Coins.get [(p, c)] p = c := by simp [Coins.get]
theorem one_del (p : PtD) (c : CoinD) : Coins.del [(p, c)] p = [] := by simp [Coins.del]
end Go.Proofs.Ytdemamipllfonaa
