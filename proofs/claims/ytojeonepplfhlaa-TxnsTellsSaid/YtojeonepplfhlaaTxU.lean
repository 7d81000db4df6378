/- The document's own reading of a transaction, as a plain function: it answers as the program's. No program. -/
import Derived.Test.YtojeonepplfhlaaTxS
namespace Go.Proofs.Ytojeonepplfhlaa
open Go.RowKit

/-- So many, one behind the other, until one can't be read. -/
def qMany {α : Type} (f : List Int → Bool → Rest α) : Nat → List Int → Bool → Rest (List α)
  | 0, l, bad => ([], l, bad)
  | n + 1, l, bad => if bad then ([], l, bad) else ((f l bad).1 :: (qMany f n (f l bad).2.1 (f l bad).2.2).1, (qMany f n (f l bad).2.1 (f l bad).2.2).2)
theorem qMany_bad {α : Type} (f : List Int → Bool → Rest α) (n : Nat) (l : List Int) : qMany f n l true = ([], l, true) := by
  cases n <;> rfl
theorem qMany_ok {α : Type} {f : List Int → Bool → Rest α} (n : Nat) (l : List Int) (b : Bool) (h : (qMany f n l b).2.2 = false) : b = false := by
  cases b with
  | false => rfl
  | true => rw [qMany_bad] at h; cases h
theorem qMany_eq {α : Type} {f : List Int → Bool → Rest α} : ∀ (n : Nat) (l : List Int) (b : Bool), (qMany f n l b).2.2 = false → qMany f n l b = pMany f n l b
  | 0, _, _, _ => rfl
  | n + 1, l, true, h => by rw [qMany_bad] at h; cases h
  | n + 1, l, false, h => by
    have h1 : (qMany f n (f l false).2.1 (f l false).2.2).2.2 = false := h
    show ((f l false).1 :: (qMany f n (f l false).2.1 (f l false).2.2).1, (qMany f n (f l false).2.1 (f l false).2.2).2) = _
    rw [qMany_eq n _ _ h1]
    rfl
theorem pMany_eq {α : Type} {f : List Int → Bool → Rest α} (hb : ∀ l b, (f l b).2.2 = false → b = false) : ∀ (n : Nat) (l : List Int) (b : Bool), (pMany f n l b).2.2 = false → qMany f n l b = pMany f n l b
  | 0, _, _, _ => rfl
  | n + 1, l, true, h => by have := pMany_ok hb (n + 1) l true h; cases this
  | n + 1, l, false, h => by
    have h1 : (pMany f n (f l false).2.1 (f l false).2.2).2.2 = false := h
    show ((f l false).1 :: (qMany f n (f l false).2.1 (f l false).2.2).1, (qMany f n (f l false).2.1 (f l false).2.2).2) = _
    rw [pMany_eq hb n _ _ h1]
    rfl
def qWit (l : List Int) (bad : Bool) : Rest (List (List Int)) := qMany pText (count l bad 10).1 (count l bad 10).2.1 (count l bad 10).2.2
theorem qWit_ok (l : List Int) (b : Bool) (h : (qWit l b).2.2 = false) : b = false := count_ok (qMany_ok _ _ _ h)
theorem qWit_eq (l : List Int) (b : Bool) (h : (qWit l b).2.2 = false) : qWit l b = pWit l b := qMany_eq _ _ _ h
theorem pWit_eq (l : List Int) (b : Bool) (h : (pWit l b).2.2 = false) : qWit l b = pWit l b := pMany_eq pText_ok _ _ _ h
theorem qMany_cong {α : Type} {f g : List Int → Bool → Rest α} (hfg : ∀ l b, (f l b).2.2 = false → f l b = g l b) (hf : ∀ l b, (f l b).2.2 = false → b = false) :
    ∀ (n : Nat) (l : List Int) (b : Bool), (qMany f n l b).2.2 = false → qMany f n l b = qMany g n l b
  | 0, _, _, _ => rfl
  | n + 1, l, true, h => by rw [qMany_bad] at h; cases h
  | n + 1, l, false, h => by
    have h1 : (qMany f n (f l false).2.1 (f l false).2.2).2.2 = false := h
    have h2 := hfg l false (qMany_ok _ _ _ h1)
    show ((f l false).1 :: (qMany f n (f l false).2.1 (f l false).2.2).1, (qMany f n (f l false).2.1 (f l false).2.2).2) = ((g l false).1 :: (qMany g n (g l false).2.1 (g l false).2.2).1, (qMany g n (g l false).2.1 (g l false).2.2).2)
    rw [qMany_cong hfg hf n _ _ h1, h2]
theorem qWits_eq (n : Nat) (l : List Int) (b : Bool) (h : (qMany qWit n l b).2.2 = false) : qMany qWit n l b = pMany pWit n l b := by
  have h1 := qMany_cong qWit_eq qWit_ok n l b h
  rw [h1] at h ⊢
  exact qMany_eq n l b h
theorem pWits_eq (n : Nat) (l : List Int) (b : Bool) (h : (pMany pWit n l b).2.2 = false) : qMany qWit n l b = pMany pWit n l b := by
  have h1 := pMany_eq pWit_ok n l b h
  rw [← h1]
  have h2 : (qMany pWit n l b).2.2 = false := by rw [h1]; exact h
  clear h h1
  induction n generalizing l b with
  | zero => rfl
  | succ n ih =>
    cases b with
    | true => rw [qMany_bad] at h2; cases h2
    | false =>
      have h3 : (qMany pWit n (pWit l false).2.1 (pWit l false).2.2).2.2 = false := h2
      have h4 := pWit_eq l false (qMany_ok _ _ _ h3)
      show ((qWit l false).1 :: (qMany qWit n (qWit l false).2.1 (qWit l false).2.2).1, (qMany qWit n (qWit l false).2.1 (qWit l false).2.2).2) = ((pWit l false).1 :: (qMany pWit n (pWit l false).2.1 (pWit l false).2.2).1, (qMany pWit n (pWit l false).2.1 (pWit l false).2.2).2)
      rw [h4, ih _ _ h3]
/-- The document's own Read: what it puts together, and what it leaves; whether that is a transaction. -/
def moreB (l : List Int) : Bool := decide (l.take 2 = [0, 1])
def qEnd (l : List Int) (v : Nat) (is : List InD) (os : List OutD) (ws : Rest (List (List (List Int)))) : Rest (TxD × Bool) :=
  let k := num ws.2.1 ws.2.2 4
  let t : TxD := ⟨v, setWits is ws.1, os, k.1⟩
  ((t, !k.2.2 && (mayB t && decide (bytesOf t = l.take (l.length - k.2.1.length)))), k.2)
def qWits (more : Bool) (n : Nat) (r : List Int × Bool) : Rest (List (List (List Int))) := if more then qMany qWit n r.1 r.2 else ([], r)
def qOuts (l : List Int) (v : Nat) (more : Bool) (n : Nat) (is : Rest (List InD)) (oc : Rest Nat) : Rest (TxD × Bool) :=
  let os := qMany pOut oc.1 oc.2.1 oc.2.2
  qEnd l v is.1 os.1 (qWits more n os.2)
def qBody (l : List Int) (v : Nat) (more : Bool) (c : Rest Nat) : Rest (TxD × Bool) :=
  let is := qMany pIn c.1 c.2.1 c.2.2
  qOuts l v more c.1 is (count is.2.1 is.2.2 50)
def qMark (more : Bool) (r : List Int × Bool) : Rest (List Int) := if more then took r.1 r.2 2 else ([], r)
def qTx (l : List Int) (bad : Bool) : Rest (TxD × Bool) :=
  let v := num l bad 4
  let a := qMark (moreB v.2.1) v.2
  qBody l v.1 (moreB v.2.1) (count a.2.1 a.2.2 50)
/-- What is behind these bytes. -/
theorem qEnd_was {l : List Int} {v : Nat} {is : List InD} {os : List OutD} {ws : Rest (List (List (List Int)))} (hl : ws.2.2 = false → Bys ws.2.1 ∧ ∃ p, l = p ++ ws.2.1) (h : (qEnd l v is os ws).1.2 = true) :
    ws.2.2 = false ∧ (qEnd l v is os ws).2.2 = false ∧ mayB (qEnd l v is os ws).1.1 = true ∧ (qEnd l v is os ws).1.1.lock < 4294967296 ∧ (qEnd l v is os ws).1.1.version = v ∧ (qEnd l v is os ws).1.1.ins = setWits is ws.1 ∧ (qEnd l v is os ws).1.1.outs = os
    ∧ l = bytesOf (qEnd l v is os ws).1.1 ++ (qEnd l v is os ws).2.1 := by
  have h4 : (256 : Nat) ^ 4 = 4294967296 := by decide
  unfold qEnd at h ⊢
  simp only at h ⊢
  rw [Bool.and_eq_true, Bool.and_eq_true, Bool.not_eq_true', decide_eq_true_iff] at h
  obtain ⟨hn, hm, hb⟩ := h
  have hw := num_ok hn
  obtain ⟨hy, p, hp⟩ := hl hw
  have k1 := num_was ws.2.1 hy ws.2.2 4
  have k2 := num_lt ws.2.1 hy ws.2.2 4
  rw [h4] at k2
  generalize num ws.2.1 ws.2.2 4 = k at *
  obtain ⟨_, e⟩ := k1 hn
  have e : ws.2.1 = leb k.1 4 ++ k.2.1 := e
  refine ⟨hw, hn, hm, k2, trivial, trivial, trivial, ?_⟩
  rw [hb]
  have hl : l = (p ++ leb k.1 4) ++ k.2.1 := by rw [List.append_assoc, ← e]; exact hp
  conv => lhs; rw [hl]
  congr 1
  conv => rhs; rw [hl]
  rw [List.length_append, Nat.add_sub_cancel, List.take_left]
theorem moreB_eq {l : List Int} (h : moreB l = true) : l.take 2 = [0, 1] := of_decide_eq_true h
/-- What was read so far stands ahead. -/
def Ahead (l r : List Int) : Prop := Bys r ∧ ∃ p, l = p ++ r
theorem Ahead.was {α : Type} {enc : α → List Int} {l r : List Int} {bad : Bool} {x : Rest α} (h : Ahead l r) (hw : Was enc r bad x) (hx : x.2.2 = false) : Ahead l x.2.1 := by
  obtain ⟨hy, p, hp⟩ := h
  refine ⟨hw.rest hy hx, p ++ enc x.1, ?_⟩
  rw [List.append_assoc, ← (hw hx).2]
  exact hp
theorem qWits_was {l : List Int} (more : Bool) (n : Nat) (r : List Int × Bool) (h : (qWits more n r).2.2 = false) : r.2 = false ∧ (Ahead l r.1 → Ahead l (qWits more n r).2.1 ∧ ∀ ll ∈ (qWits more n r).1, ∀ x ∈ ll, x.length ≤ 500 ∧ Bys x) := by
  cases more with
  | false => exact ⟨h, fun ha => ⟨ha, fun ll hl => by cases hl⟩⟩
  | true =>
    have h : (qMany qWit n r.1 r.2).2.2 = false := h
    refine ⟨qMany_ok _ _ _ h, fun ha => ?_⟩
    show Ahead l (qMany qWit n r.1 r.2).2.1 ∧ ∀ ll ∈ (qMany qWit n r.1 r.2).1, ∀ x ∈ ll, x.length ≤ 500 ∧ Bys x
    have e := qWits_eq n r.1 r.2 h
    rw [e] at h ⊢
    obtain ⟨w1, w2⟩ := pMany_was (Q := fun ll => ll.length ≤ 10 ∧ ∀ x ∈ ll, x.length ≤ 500 ∧ Bys x) pWit_ok (fun l b hy => pWit_was l hy b) n r.1 r.2 ha.1
    exact ⟨ha.was w1 h, fun ll hl => ((w2 h).2 ll hl).2⟩
theorem qOuts_was {l : List Int} {v : Nat} {more : Bool} {n : Nat} {is : Rest (List InD)} {oc : Rest Nat} (hl : oc.2.2 = false → Ahead l oc.2.1) (h : (qOuts l v more n is oc).1.2 = true) :
    oc.2.2 = false ∧ (qOuts l v more n is oc).2.2 = false ∧ mayB (qOuts l v more n is oc).1.1 = true ∧ (qOuts l v more n is oc).1.1.lock < 4294967296 ∧ (qOuts l v more n is oc).1.1.version = v ∧ (∃ xs, (qOuts l v more n is oc).1.1.ins = setWits is.1 xs ∧ ∀ ll ∈ xs, ∀ x ∈ ll, x.length ≤ 500 ∧ Bys x)
    ∧ (∀ d ∈ (qOuts l v more n is oc).1.1.outs, OutG d) ∧ l = bytesOf (qOuts l v more n is oc).1.1 ++ (qOuts l v more n is oc).2.1 := by
  unfold qOuts at h ⊢
  simp only at h ⊢
  have key : (qWits more n (qMany pOut oc.1 oc.2.1 oc.2.2).2).2.2 = false → oc.2.2 = false ∧ (Ahead l (qWits more n (qMany pOut oc.1 oc.2.1 oc.2.2).2).2.1 ∧ ∀ ll ∈ (qWits more n (qMany pOut oc.1 oc.2.1 oc.2.2).2).1, ∀ x ∈ ll, x.length ≤ 500 ∧ Bys x) ∧ ∀ d ∈ (qMany pOut oc.1 oc.2.1 oc.2.2).1, OutG d := by
    intro h1
    obtain ⟨h2, h3⟩ := qWits_was (l := l) more n _ h1
    have h4 := qMany_ok _ _ _ h2
    have ha := hl h4
    have e := qMany_eq _ _ _ h2
    obtain ⟨o1, o2⟩ := pMany_was (Q := OutG) pOut_ok (fun l b hy => pOut_was l hy b) oc.1 oc.2.1 oc.2.2 ha.1
    rw [e] at h2 h3 ⊢
    exact ⟨h4, h3 (ha.was o1 h2), (o2 h2).2⟩
  generalize qMany pOut oc.1 oc.2.1 oc.2.2 = os at *
  generalize qWits more n os.2 = ws at *
  obtain ⟨hw, r1, r2, r3, r4, r5, r6, r7⟩ := qEnd_was (fun h => (key h).2.1.1) h
  obtain ⟨k1, k2, k3⟩ := key hw
  refine ⟨k1, r1, r2, r3, r4, ⟨ws.1, r5, k2.2⟩, ?_, r7⟩
  rw [r6]
  exact k3
theorem qBody_was {l : List Int} {v : Nat} (hv : v < 4294967296) {more : Bool} {c : Rest Nat} (hl : c.2.2 = false → Ahead l c.2.1) (h : (qBody l v more c).1.2 = true) :
    c.2.2 = false ∧ (qBody l v more c).2.2 = false ∧ GoodT (qBody l v more c).1.1 ∧ l = bytesOf (qBody l v more c).1.1 ++ (qBody l v more c).2.1 := by
  unfold qBody at h ⊢
  simp only at h ⊢
  have key : (count (qMany pIn c.1 c.2.1 c.2.2).2.1 (qMany pIn c.1 c.2.1 c.2.2).2.2 50).2.2 = false → c.2.2 = false ∧ Ahead l (count (qMany pIn c.1 c.2.1 c.2.2).2.1 (qMany pIn c.1 c.2.1 c.2.2).2.2 50).2.1 ∧ ∀ d ∈ (qMany pIn c.1 c.2.1 c.2.2).1, d.Fit ∧ d.script.length ≤ 500 ∧ Bys d.script ∧ d.wit = [] := by
    intro h1
    have h2 := count_ok h1
    have h4 := qMany_ok _ _ _ h2
    have ha := hl h4
    have e := qMany_eq _ _ _ h2
    obtain ⟨o1, o2⟩ := pMany_was (Q := fun d => d.Fit ∧ d.script.length ≤ 500 ∧ Bys d.script ∧ d.wit = []) pIn_ok (fun l b hy => pIn_was l hy b) c.1 c.2.1 c.2.2 ha.1
    rw [e] at h1 h2 ⊢
    have ha2 := ha.was o1 h2
    obtain ⟨c1, _⟩ := count_was _ ha2.1 (pMany pIn c.1 c.2.1 c.2.2).2.2 50
    exact ⟨h4, ha2.was c1 h1, (o2 h2).2⟩
  generalize qMany pIn c.1 c.2.1 c.2.2 = is at *
  generalize count is.2.1 is.2.2 50 = oc at *
  obtain ⟨hw, r1, r2, r3, r4, ⟨xs, r5, r6⟩, r7, r8⟩ := qOuts_was (fun h => (key h).2.1) h
  obtain ⟨k1, k2, k3⟩ := key hw
  have hi : ∀ d ∈ (qOuts l v more c.1 is oc).1.1.ins, InG d := by
    rw [r5]
    exact setWits_all (P := InG) (Q := fun ll => ∀ x ∈ ll, x.length ≤ 500 ∧ Bys x) (fun d x hd hx => ⟨⟨hd.1.plen, hd.1.pbys, hd.1.vlt, hd.1.slt⟩, hd.2.1, hd.2.2.1, hx⟩) _ _
      (fun d hd => by
        obtain ⟨g1, g2, g3, g4⟩ := k3 d hd
        exact ⟨g1, g2, g3, by rw [g4]; intro x hx; cases hx⟩) r6
  exact ⟨k1, r1, ⟨(mayB_iff _).1 r2, ⟨by rw [r4]; exact hv, r3, fun d hd => (hi d hd).1, fun d hd => (r7 d hd).1⟩, hi, r7⟩, r8⟩
theorem qMark_was {l : List Int} (more : Bool) (r : List Int × Bool) (h : (qMark more r).2.2 = false) : r.2 = false ∧ (Ahead l r.1 → Ahead l (qMark more r).2.1) := by
  cases more with
  | false => exact ⟨h, fun ha => ha⟩
  | true =>
    have h : (took r.1 r.2 2).2.2 = false := h
    exact ⟨took_ok h, fun ha => ha.was (took_was r.1 r.2 2).1 h⟩
/-- What it answers for a transaction is one, and its bytes stood there. -/
theorem qTx_was (l : List Int) (hy : Bys l) (bad : Bool) (h : (qTx l bad).1.2 = true) :
    bad = false ∧ (qTx l bad).2.2 = false ∧ GoodT (qTx l bad).1.1 ∧ l = bytesOf (qTx l bad).1.1 ++ (qTx l bad).2.1 := by
  have h4 : (256 : Nat) ^ 4 = 4294967296 := by decide
  unfold qTx at h ⊢
  simp only at h ⊢
  have v1 := num_was l hy bad 4
  have v2 := num_lt l hy bad 4
  rw [h4] at v2
  generalize num l bad 4 = v at *
  have key : (count (qMark (moreB v.2.1) v.2).2.1 (qMark (moreB v.2.1) v.2).2.2 50).2.2 = false → bad = false ∧ Ahead l (count (qMark (moreB v.2.1) v.2).2.1 (qMark (moreB v.2.1) v.2).2.2 50).2.1 := by
    intro h1
    have h2 := count_ok h1
    obtain ⟨h3, h5⟩ := qMark_was (l := l) _ _ h2
    have h6 : Ahead l l := ⟨hy, [], rfl⟩
    have ha := h5 (h6.was v1 h3)
    obtain ⟨c1, _⟩ := count_was _ ha.1 (qMark (moreB v.2.1) v.2).2.2 50
    exact ⟨(v1 h3).1, ha.was c1 h1⟩
  generalize count (qMark (moreB v.2.1) v.2).2.1 (qMark (moreB v.2.1) v.2).2.2 50 = c at *
  obtain ⟨k1, k2⟩ := qBody_was v2 (fun h => (key h).2) h
  exact ⟨(key k1).1, k2⟩
theorem qBody_back (t : TxD) (l rest : List Int) (hm : MayF t) (hf : TxFit t) (hl : l = bytesOf t ++ rest) :
    qBody l t.version (witT t) (t.ins.length, flat encIn t.ins ++ (cnt t.outs.length ++ (flat encOut t.outs ++ ((if witT t then flat encWits t.ins else []) ++ (leb t.lock 4 ++ rest)))), false) = ((t, true), rest, false) := by
  have h4 : (256 : Nat) ^ 4 = 4294967296 := by decide
  have hmay : mayB t = true := (mayB_iff t).2 hm
  have hEnd : ∀ is ws, setWits is ws = t.ins → qEnd l t.version is t.outs (ws, leb t.lock 4 ++ rest, false) = ((t, true), rest, false) := by
    intro is ws hs
    unfold qEnd
    simp only
    rw [num_app _ _ false 4 (leb_len _ _), le_leb_of t.lock 4 (by rw [h4]; exact hf.klt), hs]
    simp only
    rw [show (⟨t.version, t.ins, t.outs, t.lock⟩ : TxD) = t from rfl, hmay, hl, List.length_append, Nat.add_sub_cancel, List.take_left]
    simp
  have e1 : ∀ r, qMany pIn t.ins.length (flat encIn t.ins ++ r) false = (t.ins.map strip, r, false) := by
    intro r
    have h := pMany_back pIn encIn strip t.ins r fun d hd r => pIn_back d r (hf.ins d hd) (hm.isc d hd)
    rw [pMany_eq pIn_ok _ _ _ (by rw [h]), h]
  have e2 : ∀ r, qMany pOut t.outs.length (flat encOut t.outs ++ r) false = (t.outs, r, false) := by
    intro r
    have h := pMany_back pOut encOut id t.outs r fun d hd r => pOut_back d r (hf.outs d hd) (hm.osc d hd)
    rw [pMany_eq pOut_ok _ _ _ (by rw [h]), h, List.map_id]
  have e3 : ∀ r, qMany qWit t.ins.length (flat encWits t.ins ++ r) false = (t.ins.map (·.wit), r, false) := by
    intro r
    have h := pMany_back pWit encWits (fun d => d.wit) t.ins r fun d hd r => pWit_back d.wit r (hm.iwl d hd) (hm.iwx d hd)
    rw [pWits_eq _ _ _ (by rw [h]), h]
  unfold qBody
  simp only
  rw [e1]
  simp only
  rw [count_back t.outs.length _ 50 (by have := hm.o50; omega) (by have := hm.o50; omega)]
  unfold qOuts
  simp only
  rw [e2]
  simp only
  cases hw : witT t with
  | true =>
    unfold qWits
    simp only [if_true]
    rw [e3]
    exact hEnd _ _ (setWits_back t.ins)
  | false =>
    unfold qWits
    simp only [Bool.false_eq_true, if_false, List.nil_append]
    exact hEnd _ _ (by rw [setWits_nil]; exact strip_id hw)
theorem cnt_head {n : Nat} (h1 : 1 ≤ n) (h2 : n ≤ 50) : cnt n = [(n : Int)] := by
  unfold cnt
  rw [if_pos (by omega)]
  simp [leb]
  omega
theorem qTx_back (t : TxD) (rest : List Int) (hm : MayF t) (hf : TxFit t) : qTx (bytesOf t ++ rest) false = ((t, true), rest, false) := by
  have h4 : (256 : Nat) ^ 4 = 4294967296 := by decide
  obtain ⟨l, hl⟩ : ∃ l, l = bytesOf t ++ rest := ⟨_, rfl⟩
  have hb := qBody_back t l rest hm hf hl
  rw [← hl]
  have hE : bytesOf t = encTx t (witT t) := by unfold bytesOf; rw [if_pos ((mayB_iff t).2 hm)]
  have hl2 : l = leb t.version 4 ++ ((if witT t then [0, 1] else []) ++ (cnt t.ins.length ++ (flat encIn t.ins ++ (cnt t.outs.length ++ (flat encOut t.outs ++ ((if witT t then flat encWits t.ins else []) ++ (leb t.lock 4 ++ rest))))))) := by
    rw [hl, hE]
    unfold encTx
    simp only [List.append_assoc]
  unfold qTx
  simp only
  have hn : num l false 4 = (t.version, (if witT t then [0, 1] else []) ++ (cnt t.ins.length ++ (flat encIn t.ins ++ (cnt t.outs.length ++ (flat encOut t.outs ++ ((if witT t then flat encWits t.ins else []) ++ (leb t.lock 4 ++ rest)))))), false) := by
    conv => lhs; rw [hl2]
    rw [num_app _ _ false 4 (leb_len _ _), le_leb_of t.version 4 (by rw [h4]; exact hf.vlt)]
  rw [hn]
  simp only
  generalize flat encIn t.ins ++ (cnt t.outs.length ++ (flat encOut t.outs ++ ((if witT t then flat encWits t.ins else []) ++ (leb t.lock 4 ++ rest)))) = X at *
  clear hn hl2 hE hl
  have hmk : moreB ((if witT t then [0, 1] else []) ++ (cnt t.ins.length ++ X)) = witT t := by
    have hc := cnt_head hm.i1 hm.i50
    cases hw : witT t with
    | true => simp [moreB]
    | false =>
      have h1 := hm.i1
      unfold moreB
      simp only [Bool.false_eq_true, if_false, List.nil_append]
      rw [hc]
      simp
      intro h
      rw [h] at h1
      simp at h1
  rw [hmk]
  have hq : qMark (witT t) ((if witT t then [0, 1] else []) ++ (cnt t.ins.length ++ X), false) = ((if witT t then [0, 1] else []), cnt t.ins.length ++ X, false) := by
    cases witT t with
    | true => simp [qMark, took]
    | false => simp [qMark]
  rw [hq]
  simp only
  rw [count_back t.ins.length _ 50 (by have := hm.i50; omega) (by have := hm.i50; omega)]
  exact hb
/-- It is read by the one just as by the other. -/
theorem qTx_iff (l : List Int) (hy : Bys l) (t : TxD) (r : List Int) : qTx l false = ((t, true), r, false) ↔ GoodT t ∧ l = bytesOf t ++ r := by
  constructor
  · intro h
    have h1 := qTx_was l hy false (by rw [h])
    rw [h] at h1
    exact h1.2.2
  · rintro ⟨hg, rfl⟩
    exact qTx_back t r hg.may hg.fit
theorem rest_eta {x : Rest (TxD × Bool)} (h1 : x.1.2 = true) (h2 : x.2.2 = false) : x = ((x.1.1, true), x.2.1, false) := by
  obtain ⟨⟨a, b⟩, c, d⟩ := x
  simp only at h1 h2
  subst h1 h2
  rfl
theorem qTx_pTx (l : List Int) (hy : Bys l) (bad : Bool) : (qTx l bad).1.2 = (pTx l bad).1.2 ∧ ((pTx l bad).1.2 = true → qTx l bad = pTx l bad) := by
  cases hp : (pTx l bad).1.2 with
  | true =>
    obtain ⟨rfl, h1, h2, h3⟩ := pTx_was l hy bad hp
    have e1 : pTx l false = (((pTx l false).1.1, true), (pTx l false).2.1, false) := rest_eta hp h1
    have e2 := (qTx_iff l hy _ _).2 ((pTx_iff l hy _ _).1 e1)
    rw [e2]
    exact ⟨rfl, fun _ => e1.symm⟩
  | false =>
    refine ⟨?_, fun h => by cases h⟩
    cases hq : (qTx l bad).1.2 with
    | false => rfl
    | true =>
      obtain ⟨rfl, h1, h2, h3⟩ := qTx_was l hy bad hq
      have e1 : qTx l false = (((qTx l false).1.1, true), (qTx l false).2.1, false) := rest_eta hq h1
      have e2 := (pTx_iff l hy _ _).2 ((qTx_iff l hy _ _).1 e1)
      rw [e2] at hp
      cases hp
end Go.Proofs.Ytojeonepplfhlaa
