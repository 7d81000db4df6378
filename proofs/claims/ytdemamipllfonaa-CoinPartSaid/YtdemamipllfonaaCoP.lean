/- What is made and unmade, as lists of points with their coins. No function. -/
import Derived.Test.YtdemamipllfonaaCoM
namespace Go.Proofs.Ytdemamipllfonaa
open Go.RowKit

theorem ptAt_inj (t : TxD) {i j : Nat} (hi : i < 4294967296) (hj : j < 4294967296) (h : (ptAt t i).1 = (ptAt t j).1) : i = j := by
  have : i % 4294967296 = j % 4294967296 := congrArg PtD.vout h
  omega
def coinAt (t : TxD) (hh tt : Int) (bb : Bool) (k : Nat) : CoinD := ⟨((t.outs.getD k default).value : Int), hh, tt, bb⟩
/-- The coins of the first k outputs, the last first. -/
def newCoins (t : TxD) (hh tt : Int) (bb : Bool) : Nat → Coins
  | 0 => []
  | k + 1 => ((ptAt t k).1, coinAt t hh tt bb k) :: newCoins t hh tt bb k
theorem newCoins_len (t : TxD) (hh tt : Int) (bb : Bool) : ∀ k, (newCoins t hh tt bb k).length = k
  | 0 => rfl
  | k + 1 => by rw [newCoins, List.length_cons, newCoins_len t hh tt bb k]
theorem newCoins_mem {t : TxD} {hh tt : Int} {bb : Bool} : ∀ {k : Nat} {x : PtD × CoinD}, x ∈ newCoins t hh tt bb k ↔ ∃ j, j < k ∧ x = ((ptAt t j).1, coinAt t hh tt bb j)
  | 0, x => by simp [newCoins]
  | k + 1, x => by
    rw [newCoins, List.mem_cons, newCoins_mem]
    constructor
    · rintro (rfl | ⟨j, hj, rfl⟩)
      · exact ⟨k, by omega, rfl⟩
      · exact ⟨j, by omega, rfl⟩
    · rintro ⟨j, hj, rfl⟩
      by_cases h : j = k
      · subst h; exact .inl rfl
      · exact .inr ⟨j, by omega, rfl⟩
theorem has_append (a b : Coins) (p : PtD) : Coins.has (a ++ b) p = (a.has p || b.has p) := by unfold Coins.has; rw [List.any_append]
theorem newCoins_has {t : TxD} {hh tt : Int} {bb : Bool} {k j : Nat} (hk : k ≤ 4294967296) (hj : j < 4294967296) : Coins.has (newCoins t hh tt bb k) (ptAt t j).1 = decide (j < k) := by
  rw [Bool.eq_iff_iff, Coins.has_iff, List.mem_map, decide_eq_true_eq]
  constructor
  · rintro ⟨x, hx, e⟩
    obtain ⟨i, hi, rfl⟩ := newCoins_mem.1 hx
    have := ptAt_inj t (by omega) hj e
    omega
  · intro h
    exact ⟨_, newCoins_mem.2 ⟨j, h, rfl⟩, rfl⟩
theorem hasAny_false {M : Coins} {t : TxD} (h : M.hasAny t = false) {j : Nat} (hj : j < t.outs.length) : M.has (ptAt t j).1 = false := by
  unfold Coins.hasAny at h
  rw [List.any_eq_false] at h
  have hl : j < (ptsOf t).length := by rw [ptsOf_len]; exact hj
  have := h (ptsOf t)[j] (List.getElem_mem hl)
  rw [ptsOf_at] at this
  simpa using this
theorem putTo_eq {M : Coins} {t : TxD} (hh tt : Int) (bb : Bool) (h : M.hasAny t = false) (hn : t.outs.length ≤ 100000) : ∀ k, k ≤ t.outs.length → M.putTo t hh tt bb k = newCoins t hh tt bb k ++ M
  | 0, _ => rfl
  | k + 1, hk => by
    rw [Coins.putTo, putTo_eq hh tt bb h hn k (by omega)]
    have hf : Coins.has (newCoins t hh tt bb k ++ M) (ptAt t k).1 = false := by
      rw [has_append, newCoins_has (by omega) (by omega), hasAny_false h (by omega)]
      simp
    rw [Coins.put_none _ hf]
    rfl
theorem make_eq {M : Coins} {t : TxD} (hh tt : Int) (bb : Bool) (h : M.hasAny t = false) (hn : t.outs.length ≤ 100000) : M.make t hh tt bb = newCoins t hh tt bb t.outs.length ++ M := putTo_eq hh tt bb h hn _ (Nat.le_refl _)
theorem delTo_eq (M : Coins) (t : TxD) : ∀ k, M.delTo t k = M.filter fun x => !((List.range k).any fun j => decide (x.1 = (ptAt t j).1))
  | 0 => by rw [Coins.delTo]; exact (List.filter_eq_self.2 (by simp)).symm
  | k + 1 => by
    rw [Coins.delTo, delTo_eq M t k]
    unfold Coins.del
    rw [List.filter_filter]
    congr 1
    funext x
    rw [List.range_succ, List.any_append]
    simp [Bool.and_comm]
theorem hasAny_nil (t : TxD) : Coins.hasAny [] t = false := by
  unfold Coins.hasAny
  rw [List.any_eq_false]
  intro p _
  simp [Coins.has]
theorem lacksAny_of {M : Coins} {t : TxD} {j : Nat} (hj : j < t.outs.length) (h : M.has (ptAt t j).1 = false) : M.lacksAny t = true := by
  unfold Coins.lacksAny
  rw [List.any_eq_true]
  have hl : j < (ptsOf t).length := by rw [ptsOf_len]; exact hj
  exact ⟨(ptsOf t)[j], List.getElem_mem hl, by rw [ptsOf_at]; simp [h]⟩
theorem hasAny_of {M : Coins} {t : TxD} {j : Nat} (hj : j < t.outs.length) (h : M.has (ptAt t j).1 = true) : M.hasAny t = true := by
  unfold Coins.hasAny
  rw [List.any_eq_true]
  have hl : j < (ptsOf t).length := by rw [ptsOf_len]; exact hj
  exact ⟨(ptsOf t)[j], List.getElem_mem hl, by rw [ptsOf_at]; exact h⟩
theorem lacksAny_none {M : Coins} {t : TxD} (h : ∀ j, j < t.outs.length → M.has (ptAt t j).1 = true) : M.lacksAny t = false := by
  unfold Coins.lacksAny
  rw [List.any_eq_false]
  intro p hp
  obtain ⟨j, hj, rfl⟩ := List.getElem_of_mem hp
  rw [ptsOf_at]
  have := h j (by rw [← ptsOf_len]; exact hj)
  simp [this]
section
variable {M : Coins} {t : TxD} (hh tt : Int) (bb : Bool) (h : M.hasAny t = false) (hn : t.outs.length ≤ 100000)
include h hn
theorem make_has {j : Nat} (hj : j < t.outs.length) : (M.make t hh tt bb).has (ptAt t j).1 = true := by
  rw [make_eq hh tt bb h hn, has_append, newCoins_has (by omega) (by omega)]
  simp [hj]
theorem make_len : (M.make t hh tt bb).length = M.length + t.outs.length := by
  rw [make_eq hh tt bb h hn, List.length_append, newCoins_len]; omega
theorem make_again (h0 : 0 < t.outs.length) : (M.make t hh tt bb).hasAny t = true := hasAny_of h0 (make_has hh tt bb h hn h0)
theorem make_lacks : (M.make t hh tt bb).lacksAny t = false := lacksAny_none fun _ hj => make_has hh tt bb h hn hj
theorem make_unmake : (M.make t hh tt bb).unmake t = M := by
  unfold Coins.unmake
  rw [delTo_eq, make_eq hh tt bb h hn, List.filter_append]
  have h1 : (newCoins t hh tt bb t.outs.length).filter (fun x => !((List.range t.outs.length).any fun j => decide (x.1 = (ptAt t j).1))) = [] := by
    rw [List.filter_eq_nil_iff]
    intro x hx
    obtain ⟨j, hj, rfl⟩ := newCoins_mem.1 hx
    simp only [Bool.not_eq_true']
    rw [Bool.not_eq_false, List.any_eq_true]
    exact ⟨j, List.mem_range.2 hj, by simp⟩
  have h2 : M.filter (fun x => !((List.range t.outs.length).any fun j => decide (x.1 = (ptAt t j).1))) = M := by
    rw [List.filter_eq_self]
    intro x hx
    rw [Bool.not_eq_true', List.any_eq_false]
    intro j hj
    have := Coins.has_false (hasAny_false h (List.mem_range.1 hj)) x hx
    simp [this]
  rw [h1, h2]
  rfl
theorem make_get {j : Nat} (hj : j < t.outs.length) : (M.make t hh tt bb).get (ptAt t j).1 = coinAt t hh tt bb j := by
  rw [make_eq hh tt bb h hn]
  have key : ∀ k, k ≤ t.outs.length → j < k → Coins.get (newCoins t hh tt bb k ++ M) (ptAt t j).1 = coinAt t hh tt bb j := by
    intro k
    induction k with
    | zero => intro _ h; omega
    | succ k ih =>
      intro hk hjk
      unfold Coins.get at ih ⊢
      rw [newCoins, List.cons_append]
      by_cases e : j = k
      · subst e
        rw [List.find?_cons_of_pos (by simp)]
        rfl
      · rw [List.find?_cons_of_neg (by simp; exact fun h2 => e (ptAt_inj t (by omega) (by omega) h2.symm))]
        exact ih (by omega) (by omega)
  exact key _ (Nat.le_refl _) hj
end
/-- What has points of a transaction alone is nothing when they are unmade. -/
theorem unmake_all {M : Coins} {t : TxD} (h : ∀ x ∈ M, ∃ j, j < t.outs.length ∧ x.1 = (ptAt t j).1) : M.unmake t = [] := by
  unfold Coins.unmake
  rw [delTo_eq, List.filter_eq_nil_iff]
  intro x hx
  obtain ⟨j, hj, e⟩ := h x hx
  simp only [Bool.not_eq_true']
  rw [Bool.not_eq_false, List.any_eq_true]
  exact ⟨j, List.mem_range.2 hj, by simp [e]⟩
end Go.Proofs.Ytdemamipllfonaa
