/- What can be spent, as a list of points with their coins; a map's datum that reads as such a list. -/
import Derived.Test.YtdemamipllfonaaStK
import Derived.Sort.MapsRangeIn
import Derived.Sort.EveryDepth
namespace Go.Proofs.Ytdemamipllfonaa
open Go.RowKit Go.Maps

structure PtD where
  id : List Int
  vout : Nat
deriving DecidableEq
def PtD.Fit (p : PtD) : Prop := p.id.length = 32 ∧ Bys p.id ∧ p.vout < 4294967296
structure CoinD where
  value : Int
  height : Int
  time : Int
  base : Bool
deriving DecidableEq
def ptV (p : PtD) : Value := .agg (ptC p.id p.vout).toArray
def keyL (p : PtD) : Lit := ptKey p.id p.vout
def coinCells (c : CoinD) : List Value := [.int .u64 c.value, .int .i64 c.height, .int .i64 c.time, .bool c.base]
def coinV (c : CoinD) : Value := .agg (coinCells c).toArray
def coinL (c : CoinD) : DataW Unit := .agg [.lit (.int .u64 c.value), .lit (.int .i64 c.height), .lit (.int .i64 c.time), .lit (.bool c.base)]
/-- How a coin reads. -/
def coinR (v : Value) : Option (DataW Unit × List MemPlace) :=
  match v with
  | .agg cs => match cs.toList with
    | [.int .u64 a, .int .i64 b, .int .i64 c, .bool d] => some (coinL ⟨a, b, c, d⟩, [])
    | _ => none
  | _ => none
theorem coinR_mk (c : CoinD) : coinR (coinV c) = some (coinL c, []) := rfl
theorem coinL_inj {c d : CoinD} (h : coinL c = coinL d) : c = d := by
  cases c; cases d
  simp only [coinL, DataW.agg.injEq, List.cons.injEq, DataW.lit.injEq, Lit.int.injEq, Lit.bool.injEq, true_and, and_true] at h
  obtain ⟨rfl, rfl, rfl, rfl⟩ := h
  rfl
theorem coinR_inv {v : Value} {z : DataW Unit × List MemPlace} (h : coinR v = some z) : ∃ c, v = coinV c ∧ z = (coinL c, []) := by
  unfold coinR at h
  split at h
  · rename_i cs
    split at h
    · rename_i a b c d hl
      cases h
      refine ⟨⟨a, b, c, d⟩, ?_, rfl⟩
      have : cs = (coinCells ⟨a, b, c, d⟩).toArray := by rw [← Array.toArray_toList (xs := cs), hl]; rfl
      rw [this]; rfl
    · cases h
  · cases h

theorem keyL_lit (p : PtD) : WideAt.IsKeyLit (keyL p) := by unfold keyL ptKey WideAt.IsKeyLit; trivial
theorem keyL_inj {p q : PtD} (hp : p.Fit) (hq : q.Fit) (h : keyL p = keyL q) : p = q := by
  obtain ⟨a, b⟩ := ptKey_inj hp.2.1 hp.1 hp.2.2 hq.2.1 hq.1 hq.2.2 h
  cases p; cases q
  cases a; cases b
  rfl
theorem keyOf_ptV {p : PtD} (hp : p.Fit) : keyOf Try.prog 41 (ptV p) = some (keyL p) := pt_keyOf hp.2.1 hp.1 hp.2.2
theorem ptV_of_key {p : PtD} (hp : p.Fit) {v : Value} (h : keyOf Try.prog 41 v = some (keyL p)) : v = ptV p := ptLaw.inj h (keyOf_ptV hp)
theorem ptV_inj {p q : PtD} (hp : p.Fit) (hq : q.Fit) (h : ptV p = ptV q) : p = q := by
  unfold ptV at h
  simp only [Value.agg.injEq] at h
  obtain ⟨a, b⟩ := ptC_inj hp.1 hq.1 (by simpa using congrArg Array.toList h)
  cases p; cases q
  cases a; cases b
  rfl

/-- The points and coins that are there. -/
abbrev Coins := List (PtD × CoinD)
def Coins.has (M : Coins) (p : PtD) : Bool := M.any fun x => decide (x.1 = p)
def zeroCoin : CoinD := ⟨0, 0, 0, false⟩
def Coins.get (M : Coins) (p : PtD) : CoinD := ((M.find? fun x => decide (x.1 = p)).map (·.2)).getD zeroCoin
def Coins.put (M : Coins) (p : PtD) (c : CoinD) : Coins := (p, c) :: M.filter fun x => !decide (x.1 = p)
def Coins.del (M : Coins) (p : PtD) : Coins := M.filter fun x => !decide (x.1 = p)
/-- A map's datum reads as M. -/
structure MapR (D : DataW Unit) (M : Coins) : Prop where
  fit : ∀ x ∈ M, x.1.Fit
  nodup : (M.map (·.1)).Nodup
  tidy : Tidy D
  size : Maps.size D = M.length
  keys : ∀ kl, Maps.has D kl = true → ∃ p, p.Fit ∧ kl = keyL p
  has : ∀ p, p.Fit → Maps.has D (keyL p) = M.has p
  get : ∀ p, p.Fit → D.atKey (keyL p) (coinL zeroCoin) = coinL (M.get p)

theorem MapR.nil : MapR (.map []) [] := by
  refine ⟨by simp, by simp, tidy_empty, rfl, fun kl h => ?_, fun p _ => rfl, fun p _ => ?_⟩
  · rw [has_eq] at h; simp at h
  · exact atKey_of_not_has (by rw [has_eq]; simp) _
theorem Coins.has_false {M : Coins} {p : PtD} (h : M.has p = false) : ∀ x ∈ M, x.1 ≠ p := by
  intro x hx e
  have : M.any (fun x => decide (x.1 = p)) = true := List.any_eq_true.2 ⟨x, hx, by simp [e]⟩
  unfold Coins.has at h
  rw [this] at h
  cases h
theorem Coins.has_iff {M : Coins} {p : PtD} : M.has p = true ↔ p ∈ M.map (·.1) := by
  unfold Coins.has
  rw [List.any_eq_true, List.mem_map]
  constructor
  · rintro ⟨x, hx, h⟩; exact ⟨x, hx, of_decide_eq_true h⟩
  · rintro ⟨x, hx, h⟩; exact ⟨x, hx, decide_eq_true h⟩
theorem Coins.del_none {M : Coins} {p : PtD} (h : M.has p = false) : M.del p = M := by
  unfold Coins.del
  rw [List.filter_eq_self]
  intro x hx
  simp [Coins.has_false h x hx]
theorem Coins.put_none {M : Coins} {p : PtD} (c : CoinD) (h : M.has p = false) : M.put p c = (p, c) :: M := by
  unfold Coins.put
  exact congrArg _ (Coins.del_none h)
theorem find_filter_other {M : Coins} {p q : PtD} (h : q ≠ p) : (M.filter fun x => !decide (x.1 = p)).find? (fun x => decide (x.1 = q)) = M.find? (fun x => decide (x.1 = q)) := by
  induction M with
  | nil => rfl
  | cons x M ih =>
    by_cases e : x.1 = p
    · have e2 : decide (x.1 = q) = false := by simp [e]; exact fun e3 => h e3.symm
      rw [List.filter_cons_of_neg (by simp [e]), ih, List.find?_cons_of_neg (by simp [e2])]
    · rw [List.filter_cons_of_pos (by simp [e])]
      by_cases e2 : x.1 = q
      · rw [List.find?_cons_of_pos (by simp [e2]), List.find?_cons_of_pos (by simp [e2])]
      · rw [List.find?_cons_of_neg (by simp [e2]), List.find?_cons_of_neg (by simp [e2]), ih]
theorem Coins.get_del_other {M : Coins} {p q : PtD} (h : q ≠ p) : (M.del p).get q = M.get q := by
  unfold Coins.get Coins.del
  rw [find_filter_other h]
theorem Coins.has_del_other {M : Coins} {p q : PtD} (h : q ≠ p) : (M.del p).has q = M.has q := by
  rw [Bool.eq_iff_iff, Coins.has_iff, Coins.has_iff, List.mem_map, List.mem_map]
  constructor
  · rintro ⟨x, hx, rfl⟩; exact ⟨x, (List.mem_filter.1 hx).1, rfl⟩
  · rintro ⟨x, hx, rfl⟩; exact ⟨x, List.mem_filter.2 ⟨hx, by simp [h]⟩, rfl⟩
theorem Coins.has_del_same {M : Coins} {p : PtD} : (M.del p).has p = false := by
  cases h : (M.del p).has p with
  | false => rfl
  | true =>
    obtain ⟨x, hx, e⟩ := List.mem_map.1 (Coins.has_iff.1 h)
    have := (List.mem_filter.1 hx).2
    simp [e] at this
theorem Coins.get_of_not {M : Coins} {p : PtD} (h : M.has p = false) : M.get p = zeroCoin := by
  unfold Coins.get
  rw [List.find?_eq_none.2 (fun x hx => by simp [Coins.has_false h x hx])]
  rfl
theorem nodup_del {M : Coins} (p : PtD) (h : (M.map (·.1)).Nodup) : ((M.del p).map (·.1)).Nodup := by
  unfold Coins.del
  exact (List.filter_sublist.map _).nodup h
theorem length_del {M : Coins} {p : PtD} (h : (M.map (·.1)).Nodup) : (M.del p).length + (if M.has p then 1 else 0) = M.length := by
  induction M with
  | nil => rfl
  | cons x M ih =>
    rw [List.map_cons, List.nodup_cons] at h
    have ih := ih h.2
    by_cases e : x.1 = p
    · have hn : Coins.has M p = false := by
        cases hh : Coins.has M p with
        | false => rfl
        | true => exact absurd (e ▸ Coins.has_iff.1 hh) h.1
      have hd : Coins.del (x :: M) p = M := by
        have := Coins.del_none hn
        unfold Coins.del at this ⊢
        rw [List.filter_cons_of_neg (by simp [e]), this]
      have hh : Coins.has (x :: M) p = true := Coins.has_iff.2 (by simp [e])
      rw [hd, hh]
      rfl
    · have hd : Coins.del (x :: M) p = x :: Coins.del M p := by
        unfold Coins.del
        rw [List.filter_cons_of_pos (by simp [e])]
      have hh : Coins.has (x :: M) p = Coins.has M p := by unfold Coins.has; rw [List.any_cons]; simp [e]
      rw [hd, hh]
      simp only [List.length_cons]
      omega
theorem MapR.put {D : DataW Unit} {M : Coins} (h : MapR D M) {p : PtD} (hp : p.Fit) (c : CoinD) : MapR (D.put (keyL p) (coinL c)) (M.put p c) := by
  have hm := h.tidy.isMap
  refine ⟨?_, ?_, h.tidy.put (keyL_lit p) _, ?_, ?_, ?_, ?_⟩
  · intro x hx
    rcases List.mem_cons.1 hx with rfl | hx
    · exact hp
    · exact h.fit x (List.mem_filter.1 hx).1
  · show (p :: (M.del p).map (·.1)).Nodup
    refine List.nodup_cons.2 ⟨fun hx => ?_, nodup_del p h.nodup⟩
    have := Coins.has_iff.2 hx
    rw [Coins.has_del_same] at this
    cases this
  · rw [size_put h.tidy, h.has p hp, h.size]
    have := length_del (p := p) h.nodup
    show _ = (M.del p).length + 1
    split at this <;> split <;> simp_all
  · intro kl hk
    by_cases e : kl = keyL p
    · exact ⟨p, hp, e⟩
    · rw [has_put_other e] at hk
      exact h.keys kl hk
  · intro q hq
    by_cases e : q = p
    · subst e
      rw [has_put_same hm (keyL_lit _)]
      exact (Coins.has_iff.2 (by simp [Coins.put])).symm
    · rw [has_put_other (fun e2 => e (keyL_inj hq hp e2)), h.has q hq]
      have : Coins.has ((p, c) :: M.del p) q = Coins.has (M.del p) q := by unfold Coins.has; rw [List.any_cons]; simp [Ne.symm e]
      show _ = Coins.has ((p, c) :: M.del p) q
      rw [this, Coins.has_del_other e]
  · intro q hq
    by_cases e : q = p
    · subst e
      rw [atKey_put_same hm (keyL_lit _)]
      show _ = coinL (Coins.get ((q, c) :: M.del q) q)
      unfold Coins.get
      rw [List.find?_cons_of_pos (by simp)]
      rfl
    · rw [atKey_put_other (fun e2 => e (keyL_inj hq hp e2)), h.get q hq]
      show _ = coinL (Coins.get ((p, c) :: M.del p) q)
      have : Coins.get ((p, c) :: M.del p) q = Coins.get (M.del p) q := by
        unfold Coins.get
        rw [List.find?_cons_of_neg (by simp [Ne.symm e])]
      rw [this, Coins.get_del_other e]
theorem MapR.del {D : DataW Unit} {M : Coins} (h : MapR D M) {p : PtD} (hp : p.Fit) : MapR (D.del (keyL p)) (M.del p) := by
  refine ⟨fun x hx => h.fit x (List.mem_filter.1 hx).1, nodup_del p h.nodup, h.tidy.del _, ?_, ?_, ?_, ?_⟩
  · have h1 := size_del (k := keyL p) h.tidy
    have h2 := length_del (p := p) h.nodup
    rw [h.has p hp, h.size] at h1
    omega
  · intro kl hk
    by_cases e : kl = keyL p
    · rw [e, has_del_same] at hk; cases hk
    · rw [has_del_other e] at hk
      exact h.keys kl hk
  · intro q hq
    by_cases e : q = p
    · subst e
      rw [has_del_same, Coins.has_del_same]
    · rw [has_del_other (fun e2 => e (keyL_inj hq hp e2)), h.has q hq, Coins.has_del_other e]
  · intro q hq
    by_cases e : q = p
    · subst e
      rw [atKey_del_same, Coins.get_of_not Coins.has_del_same]
    · rw [atKey_del_other (fun e2 => e (keyL_inj hq hp e2)), h.get q hq, Coins.get_del_other e]
end Go.Proofs.Ytdemamipllfonaa
