/- Package coin: of a transaction's coins one taken and put back (pure). -/
import Derived.Test.YtdemamipllfonaaCoQ
namespace Go.Proofs.Ytdemamipllfonaa
open Go.RowKit Go.Maps Go.Sort

theorem made_mem {T : TxD} {hh tt : Int} {bb : Bool} (hn : T.outs.length ≤ 100000) {x : PtD × CoinD} (hx : x ∈ Coins.make [] T hh tt bb) : ∃ j, j < T.outs.length ∧ x.1 = (ptAt T j).1 := by
  rw [make_eq hh tt bb (hasAny_nil T) hn, List.append_nil] at hx
  obtain ⟨j, hj, rfl⟩ := newCoins_mem.1 hx
  exact ⟨j, hj, rfl⟩
theorem part_len {T : TxD} {hh tt : Int} {bb : Bool} (hn : T.outs.length ≤ 100000) : (Coins.make [] T hh tt bb).length = T.outs.length := by
  have := make_len hh tt bb (hasAny_nil T) hn
  simpa using this
theorem part_lacks {T : TxD} {hh tt : Int} {bb : Bool} (hn : T.outs.length ≤ 100000) (q : PtD) (c : CoinD) : (((Coins.make [] T hh tt bb).del q).put q c).lacksAny T = false := by
  refine lacksAny_none fun i hi => ?_
  show (decide (q = (ptAt T i).1) || Coins.has (Coins.del ((Coins.make [] T hh tt bb).del q) q) (ptAt T i).1) = true
  by_cases e : q = (ptAt T i).1
  · simp [e]
  · rw [Coins.has_del_other (fun h => e h.symm), Coins.has_del_other (fun h => e h.symm), make_has hh tt bb (hasAny_nil T) hn hi]
    simp
theorem part_unmake {T : TxD} {hh tt : Int} {bb : Bool} (hn : T.outs.length ≤ 100000) (q : PtD) (c : CoinD) {j : Nat} (hj : j < T.outs.length) (hq : q = (ptAt T j).1) : (((Coins.make [] T hh tt bb).del q).put q c).unmake T = [] :=
  unmake_all fun x hx => by
    rcases List.mem_cons.1 hx with rfl | hx
    · exact ⟨j, hj, hq⟩
    · exact made_mem hn ((List.mem_filter.1 (List.mem_filter.1 hx).1).1)
theorem part_point {T : TxD} {hh tt : Int} {bb : Bool} (hn : T.outs.length ≤ 100000) {l : List PtF} (hp : (l.map (·.1)).Perm ((Coins.make [] T hh tt bb).map (·.1))) {k : Nat} (hk : k < l.length) : ∃ j, j < T.outs.length ∧ l[k].1 = (ptAt T j).1 := by
  have hm : l[k].1 ∈ (Coins.make [] T hh tt bb).map (·.1) := hp.mem_iff.1 (List.mem_map.2 ⟨_, List.getElem_mem _, rfl⟩)
  obtain ⟨x, hx, hxe⟩ := List.mem_map.1 hm
  obtain ⟨j, hj, he⟩ := made_mem hn hx
  exact ⟨j, hj, by rw [← hxe]; exact he⟩
theorem AwS.nodup {w0 W : World} {bs bm N : Nat} {M : Coins} {xs : List (Nat × Nat × Array Value)} {ts : List (Value × TxD)} (h : AwS w0 W bs bm N M xs ts) : (M.map (·.1)).Nodup := by
  obtain ⟨_, n, D, _, _, hm⟩ := h.set
  exact hm.nodup
end Go.Proofs.Ytdemamipllfonaa
