/- The document's own Read. The document's own Parse. -/
import Derived.Test.YtojeonepplfhlaaRdN
import Derived.Test.YtojeonepplfhlaaRmM
namespace Go.Proofs.Ytojeonepplfhlaa
open Go.RowKit


theorem But2.keepsE {ts : List Nat} {g G e : Nat} {w w' : World} {l : List Int} {bad : Bool} {C : Array Value} (h : But2 g G w w') (hS : Sg w g l bad) (hx : Box w G e C) (h1 : 40 ∉ ts) (h2 : e ∉ ts) : Keeps ts w w' := by
  obtain ⟨sv, l0, hb, _⟩ := hS
  refine ⟨h.size, fun b t cs ht fr hb' => (h.block b (heap_lt hb') ?_ ?_).trans hb'⟩
  · intro e
    subst e
    have e1 := hb'.symm.trans hb
    injection e1 with e1
    injection e1 with _ e3
    exact h1 (e3 ▸ ht)
  · intro e
    subst e
    have e1 := hb'.symm.trans hx
    injection e1 with e1
    injection e1 with _ e3
    exact h2 (e3 ▸ ht)
theorem Only.but2 {g G : Nat} {w w1 w2 : World} (h : Only g w w1) (k : But2 g G w1 w2) (hG : w.heap.size ≤ G) : Only g w w2 :=
  ⟨k.os.trans h.os, k.tape.trans h.tape, k.output.trans h.output, Nat.le_trans h.size k.size, fun j hj hne => (k.block j (Nat.lt_of_lt_of_le hj h.size) (by simpa using hne) (by omega)).trans (h.block j hj hne)⟩
theorem Box.but2 {g G R e : Nat} {w w1 : World} {C : Array Value} (h : Box w R e C) (k : But2 g G w w1) (hg : R ≠ g) (hG : R ≠ G) : Box w1 R e C := (k.block R h.lt hg hG).trans h
set_option maxRecDepth 100000 in
theorem TxO.turn' {ts : List Nat} {w w' : World} {B B' : Nat} {v : Value} {t : TxD} (h : TxO w B v t) (hk : Keeps ts w w') (h1 : 47 ∈ ts) (h2 : 51 ∈ ts) (h3 : 5 ∈ ts) (h4 : 27 ∈ ts) (hB : B' ≤ B) : TxO w' B' v t := by
  obtain ⟨iv, ov, rfl, q1, q2, q3, q4⟩ := h
  exact ⟨iv, ov, rfl, q1, q2, q3.turn hk h1 hB (fun cs d h => h.turn hk h3 h4 hB), q4.turn hk h2 hB (fun cs d h => h.turn hk h3 hB)⟩
set_option maxRecDepth 100000 in
theorem TxO.below {w w' : World} {B : Nat} {v : Value} {t : TxD} (h : TxO w B v t) (hb : Below w.heap.size w w') : TxO w' B v t := by
  obtain ⟨iv, ov, rfl, h1, h2, h3, h4⟩ := h
  have hk := Keeps.of_below [47, 51, 5, 27] hb
  exact ⟨iv, ov, rfl, h1, h2, h3.turn hk (by decide) (Nat.le_refl _) (fun cs d h => h.turn hk (by decide) (by decide) (Nat.le_refl _)), h4.turn hk (by decide) (Nat.le_refl _) (fun cs d h => h.turn hk (by decide) (Nat.le_refl _))⟩
/-- More may be held from here on. -/
theorem heldMoreR {P : Program} {md : Region.Mode} {ops : Array Oper} {Q : Exit → Act → World → Prop} {S S2 : World → Prop} (hS : ∀ w, S2 w → S w) :
    ∀ (fuel : Nat) (listed : Array Bool) (a : Act) (w : World), wpAnyH P md ops Q S2 fuel listed a w → wpAnyH P md ops Q S fuel listed a w
  | 0, _, _, _, h => h
  | fuel + 1, _, _, _, h => ⟨h.1, fun i hi => wpOp_mono (fun _ _ h' => ⟨hS _ h'.1, heldMoreR hS fuel _ _ _ h'.2⟩) (h.2 i hi)⟩
theorem qMark_ok {more : Bool} {l : List Int} {b : Bool} (h : (qMark more (l, b)).2.2 = false) : b = false := by
  unfold qMark took at h
  cases more with
  | false => exact h
  | true =>
    simp only [if_true] at h
    split at h
    · exact h
    · cases h
theorem qMark_len (more : Bool) (l : List Int) (b : Bool) : (qMark more (l, b)).2.1.length ≤ l.length := by
  unfold qMark
  cases more with
  | false => exact Nat.le_refl _
  | true => exact took_len _ _ _
theorem qMany_len {α : Type} {f : List Int → Bool → Rest α} (hf : ∀ l b, (f l b).2.1.length ≤ l.length) : ∀ (n : Nat) (l : List Int) (b : Bool), (qMany f n l b).2.1.length ≤ l.length
  | 0, _, _ => Nat.le_refl _
  | n + 1, l, true => by rw [qMany_bad]; exact Nat.le_refl _
  | n + 1, l, false => Nat.le_trans (qMany_len hf n _ _) (hf _ _)
theorem qWit_len (l : List Int) (b : Bool) : (qWit l b).2.1.length ≤ l.length := Nat.le_trans (qMany_len pText_len _ _ _) (count_len _ _ _)
theorem qMany_full {α : Type} {f : List Int → Bool → Rest α} : ∀ (n : Nat) (l : List Int) (b : Bool), (qMany f n l b).2.2 = false → (qMany f n l b).1.length = n
  | 0, _, _, _ => rfl
  | n + 1, l, true, h => by rw [qMany_bad] at h; cases h
  | n + 1, l, false, h => by
    have h1 : (qMany f n (f l false).2.1 (f l false).2.2).2.2 = false := h
    show ((f l false).1 :: (qMany f n (f l false).2.1 (f l false).2.2).1).length = n + 1
    rw [List.length_cons, qMany_full n _ _ h1]
/-- What Read answers. -/
def ReadG (g : Nat) (x : Rest (TxD × Bool)) (w : World) (e : Ending) (w' : World) : Prop := ∃ v, e = .returned (.tuple #[v, .bool x.1.2]) ∧ Only g w w' ∧ TxO w' w.heap.size v (if x.1.2 then x.1.1 else noTx) ∧ Sg w' g (if x.1.2 then x.2.1 else []) (!x.1.2)

set_option maxRecDepth 10000000 in
set_option maxHeartbeats 16000000 in
theorem gread_any (g : Nat) (w : World) (l : List Int) (h : Sg w g l false) : Calls Try.prog 18 #[.pointer (some ⟨g, 0, none⟩)] w (ReadG g (qTx l false) w) := by
  have HZ : Kp (#[Value.int IntKind.u32 0, Value.slice none 0 0, Value.slice none 0 0, Value.int IntKind.u32 0] = zTx) := ⟨rfl⟩
  obtain ⟨x, hxx⟩ : ∃ x, qTx l false = x := ⟨_, rfl⟩
  rw [hxx]
  have HEND := Kp.mk hxx
  clear hxx
  have hb0 : Below w.heap.size w (w.alloc (.cells zTx 26)) := (Below.refl _ _).alloc (Nat.le_refl _) _
  have HX0 : Kp (Box (w.alloc (.cells zTx 26)) w.heap.size 26 zTx) := ⟨Box.fresh w _ _⟩
  have HO0 : Kp (Only g w (w.alloc (.cells zTx 26))) := ⟨Only.of_below hb0⟩
  have HS0 := Kp.mk (h.below hb0)
  obtain ⟨sv, l0, hxw, hsuw, _, hmx, he, _⟩ := id h
  obtain rfl := he rfl
  have HSU := Kp.mk hsuw
  have HMX := Kp.mk hmx
  have HXW := Kp.mk (hxw.below hb0)
  have HGL : Kp (g < w.heap.size) := ⟨h.lt⟩
  have HBY := Kp.mk h.bys
  obtain ⟨R0, hR0⟩ : ∃ R, w.heap.size = R := ⟨_, rfl⟩
  have HR0 := Kp.mk hR0
  obtain ⟨W0, hW0⟩ : ∃ W, w.alloc (.cells zTx 26) = W := ⟨_, rfl⟩
  have HW0 := Kp.mk hW0
  clear hb0 h hxw hsuw hmx he
  go_enter Try.func18, Try.ntmps18
  go_upto_region 1 with fail
  (try rw [HZ.out])
  (try rw [HW0.out])
  rw [hW0] at HX0 HO0 HS0 HXW
  rw [hR0] at HX0 HGL
  clear hW0 hR0
  have hx := HXW.out
  have hc0 := hx.cell 0
  have hc1 := hx.cell 1
  rw [show (#[sv, Value.bool false] : Array Value)[0]? = some sv from rfl] at hc0
  have H1 := Kp.mk (gsmall_any g W0 l0 false HS0.out)
  have HV : Kp ((num l0 false 4).1 < 4294967296) := ⟨by have := num_lt l0 HBY.out false 4; omega⟩
  have HQ : Kp (qTx l0 false = qBody l0 (num l0 false 4).1 (moreB (num l0 false 4).2.1) (count (qMark (moreB (num l0 false 4).2.1) (num l0 false 4).2).2.1 (qMark (moreB (num l0 false 4).2.1) (num l0 false 4).2).2.2 50)) := ⟨rfl⟩
  have HLN : Kp ((num l0 false 4).2.1.length ≤ l0.length) := ⟨num_len _ _ _⟩
  clear hx
  go_wp2_with fail
  refine H1.out.mono ?_
  rintro e w1 ⟨ho1, rfl, hS1⟩
  have hx1 := HX0.out.keep ho1 (by have := HGL.out; omega)
  have ho1' := HO0.out.trans ho1
  rw [HQ.out] at HEND
  clear HQ
  generalize num l0 false 4 = r1 at *
  obtain ⟨v, l1, b1⟩ := r1
  simp only at HEND HV HLN hS1
  (try dsimp only)
  have hba : Below w1.heap.size w1 (w1.alloc (.cells #[.int .u32 (v : Int), .slice none 0 0, .slice none 0 0, .int .u32 0] 26)) := (Below.refl _ _).alloc (Nat.le_refl _) _
  have hx2 := hx1.below hba
  have hT2 : Box (w1.alloc (.cells #[.int .u32 (v : Int), .slice none 0 0, .slice none 0 0, .int .u32 0] 26)) w1.heap.size 26 #[.int .u32 (v : Int), .slice none 0 0, .slice none 0 0, .int .u32 0] := Box.fresh _ _ _
  have hS2 := hS1.below hba
  have ho2 := ho1'.trans (Only.of_below hba)
  have HRT : Kp (R0 < w1.heap.size ∧ w.heap.size = R0) := ⟨hx1.lt, HR0.out⟩
  obtain ⟨G4, hG4⟩ : ∃ G4, w1.heap.size = G4 := ⟨_, rfl⟩
  obtain ⟨W2, hW2⟩ : ∃ W, w1.alloc (.cells #[.int .u32 (v : Int), .slice none 0 0, .slice none 0 0, .int .u32 0] 26) = W := ⟨_, rfl⟩
  have HW2 := Kp.mk hW2
  have HG4 := Kp.mk hG4
  rw [hG4, hW2] at hT2
  rw [hW2] at hx2 hS2 ho2
  have HT2 := Kp.mk hT2
  have HX2 := Kp.mk hx2
  have HS2 := Kp.mk hS2
  have HO2 := Kp.mk ho2
  rw [hG4] at HRT
  clear hba hx2 hT2 hS2 ho2 hx1 hS1 ho1 ho1' hG4 hW2 H1 hc0 hc1
  go_upto_region 3 with fail
  (try rw [HW2.out])
  (try rw [HG4.out])
  obtain ⟨sv1, m1, hx, hsu, hym, hmx, he1, _⟩ := HS2.out
  have hc0 := hx.cell 0
  rw [show (#[sv1, Value.bool b1] : Array Value)[0]? = some sv1 from rfl] at hc0
  have HHE := Kp.mk he1
  clear hx hmx he1
  obtain ⟨A1, c1, rfl, hcl, hcn, hrun⟩ := hsu
  have HRUN := Kp.mk hrun
  have HCL := Kp.mk hcl
  clear hrun hcl hcn
  obtain ⟨n1, hn1⟩ : ∃ n, m1.length = n := ⟨_, rfl⟩
  have HN1 := Kp.mk hn1
  rw [hn1] at hc0
  clear hn1
  go_cut [6] (fun s6 wx => ∃ more : Bool, s6 = .bool more ∧ Kp (b1 = false → more = moreB l1) ∧ wx = W2)
  case first =>
    rcases m1 with _ | ⟨a, _ | ⟨b, r⟩⟩
    · obtain rfl : n1 = 0 := HN1.out.symm
      go_wp2
      go_meet
      case rel => exact ⟨false, rfl, ⟨fun h => by rw [← HHE.out h]; rfl⟩, rfl⟩
    · obtain rfl : n1 = 1 := HN1.out.symm
      go_wp2
      go_meet
      case rel => exact ⟨false, rfl, ⟨fun h => by rw [← HHE.out h]; simp [moreB]⟩, rfl⟩
    · have hn2 : (2 : Int) ≤ (n1 : Int) := by have := HN1.out; simp at this; omega
      have hnp : (0 : Int) < (n1 : Int) := by omega
      have hnq : (1 : Int) < (n1 : Int) := by omega
      obtain ⟨bk, off, rfl, _, _, hr⟩ := HRUN.out (by simp)
      have k0 := hr 0 (by simp)
      have k1 := hr 1 (by simp)
      rw [show (a :: b :: r).getD 0 0 = a from rfl, Nat.add_zero] at k0
      rw [show (a :: b :: r).getD 1 0 = b from rfl] at k1
      by_cases ha : a = 0
      · subst ha
        go_wp2
        go_meet
        case rel => exact ⟨b == 1, rfl, ⟨fun h => by rw [← HHE.out h]; by_cases hb : b = 1 <;> simp [moreB, hb]⟩, rfl⟩
      · go_wp2
        go_meet
        case rel => exact ⟨false, rfl, ⟨fun h => by rw [← HHE.out h]; simp [moreB, ha]⟩, rfl⟩
  case rest =>
    obtain ⟨more, rfl, HMORE, rfl⟩ := hcut
    obtain ⟨W2, rfl⟩ : ∃ W : World, W = wc := ⟨_, rfl⟩
    clear hym HRUN HCL hc0
    have HMK : Kp ((qMark (moreB l1) (l1, b1)).2 = if more then (took l1 b1 2).2 else (l1, b1)) := ⟨by
      cases b1 with
      | false =>
        rw [HMORE.out rfl]
        cases moreB l1 <;> rfl
      | true =>
        have hl := HS2.out.empty
        subst hl
        cases more <;> rfl⟩
    go_upto_if 46 with fail
    go_cut [] (fun wx => Kp (Sg wx g (qMark (moreB l1) (l1, b1)).2.1 (qMark (moreB l1) (l1, b1)).2.2 ∧ Only g w wx ∧ Box wx R0 26 zTx ∧ Box wx G4 26 #[.int .u32 (v : Int), .slice none 0 0, .slice none 0 0, .int .u32 0]))
    case first =>
      have HTK := Kp.mk (gtake_any g W2 l1 b1 2 HS2.out)
      rw [show ((2 : Nat) : Int) = 2 from rfl] at HTK
      cases more with
      | true =>
        go_wp2_with fail
        refine HTK.out.mono ?_
        rintro e w3 ⟨v3, rfl, ho3, hv3, hy3, hS3⟩
        have HF3 : Kp (Sg w3 g (qMark (moreB l1) (l1, b1)).2.1 (qMark (moreB l1) (l1, b1)).2.2 ∧ Only g w w3 ∧ Box w3 R0 26 zTx ∧ Box w3 G4 26 #[.int .u32 (v : Int), .slice none 0 0, .slice none 0 0, .int .u32 0]) :=
          ⟨by rw [HMK.out]; exact hS3, HO2.out.trans ho3, HX2.out.keep ho3 (by have := HGL.out; omega), HT2.out.keep ho3 (by have := HGL.out; have := HRT.out; omega)⟩
        clear ho3 hv3 hy3 hS3
        go_wp2_with fail
        go_meet
        case rel => exact HF3
      | false =>
        have HF3 : Kp (Sg W2 g (qMark (moreB l1) (l1, b1)).2.1 (qMark (moreB l1) (l1, b1)).2.2 ∧ Only g w W2 ∧ Box W2 R0 26 zTx ∧ Box W2 G4 26 #[.int .u32 (v : Int), .slice none 0 0, .slice none 0 0, .int .u32 0]) :=
          ⟨by rw [HMK.out]; exact HS2.out, HO2.out, HX2.out, HT2.out⟩
        go_wp2_with fail
        go_meet
        case rel => exact HF3
    case rest =>
      have HM2 : Kp ((qMark (moreB l1) (l1, b1)).2.2 = false → more = moreB l1) := ⟨fun h => HMORE.out (qMark_ok h)⟩
      obtain ⟨w3, rfl⟩ : ∃ W : World, W = wc := ⟨_, rfl⟩
      clear HMK
      have HL2 : Kp ((qMark (moreB l1) (l1, b1)).2.1.length ≤ l1.length) := ⟨qMark_len _ _ _⟩
      generalize (qMark (moreB l1) (l1, b1)).2 = ra at *
      obtain ⟨l2, b2⟩ := ra
      simp only at hcut HEND HM2
      obtain ⟨hS3, hO3, hX3, hT3⟩ := hcut.out
      have HO3 := Kp.mk hO3
      have HX3 := Kp.mk hX3
      have HT3 := Kp.mk hT3
      have H2 := Kp.mk (gcount_any g w3 l2 b2 50 hS3 (by omega))
      have HN50 : Kp ((count l2 b2 50).1 ≤ 50) := ⟨by have := count_most l2 b2 50 (by omega); omega⟩
      have HM3 : Kp ((count l2 b2 50).2.2 = false → more = moreB l1) := ⟨fun h => HM2.out (count_ok h)⟩
      have HL3 : Kp ((count l2 b2 50).2.1.length ≤ l0.length) := ⟨by have := count_len l2 b2 50; have := HL2.out; have := HLN.out; simp only at *; omega⟩
      generalize count l2 b2 50 = r2 at *
      obtain ⟨n, l3, b3⟩ := r2
      simp only at HEND HM3 HN50
      clear hS3 hO3 hX3 hT3 HM2 hcut HMORE
      go_wp2_with fail
      refine H2.out.mono ?_
      rintro e w4 ⟨ho4, rfl, hS4⟩
      have hg4 := HGL.out
      have hrt := HRT.out
      have HO4 := Kp.mk (HO3.out.trans ho4)
      have HX4 := Kp.mk (HX3.out.keep ho4 (by omega))
      have HT4 := Kp.mk (HT3.out.keep ho4 (by omega))
      have HS4 := Kp.mk hS4
      simp only at hS4
      clear ho4 hS4 H2 HO3 HX3 HT3
      go_wp2_with fail
      refine readLoop1 g G4 n w4 l3 b3 _ _ _ _ _ _ _ _ _ _ _ _ _ _ _ _ _ _ _ _ _ _ _ _ _ _ _ _ _ _ _ _ _ _ _ _ _ _ _ _ _ _ _ _ _ _ _ _ _ _ _ _ _ _ _ _ _ _ _ _ _ _ _ _ _ _ _ _ _ _ _ _ _ _ _ _ _ _ _ _ _ _ _ _ _ _ _ _ _ _ _ _ _ _ _ _ _ _ _ _ _ _ _ _ _ _ _ _ _ _ _ _ _ _ _ _ _ _ _ _ _ _ _ _ _ _ _ _ _ _ _ _ _ _ _ _ _ _ _ _ _ _ _ _ _ _ _ _ _ _ _ _ _ _ _ _ _ _ _ _ _ _ _ _ _ _ _ _ _ _ _ _ _ _ _ _ _ _ _ _ _ _ _ _ _ _ _ _ _ _ _ _ _ HS4 HT4 ⟨by exact ⟨by omega, HT4.out.lt⟩⟩ HN50 ?_
      intro t8 t9 t51 t52 t53 t54 t55 t56 t57 t58 t59 t60 t61 t62 t63 t64 t65 t66 t67 t68 t69 t70 t71 t72 t73 t74 t75 t76 t77 t78 t79 t80 t81 t82 t83 t84 t85 w5 hq5
      obtain ⟨iv, ⟨hS5, hI5, hT5, hB5⟩⟩ := hq5
      have HO5 := Kp.mk (HO4.out.but2 hB5 (by omega))
      have HX5 := Kp.mk (HX4.out.but2 hB5 (by omega) (by omega))
      have HT5 := Kp.mk hT5
      obtain ⟨B, hB⟩ : ∃ B, w4.heap.size = B := ⟨_, rfl⟩
      rw [hB] at hI5
      have HBB : Kp (G4 < B ∧ B ≤ w5.heap.size) := ⟨by rw [← hB]; exact ⟨HT4.out.lt, hB5.size⟩⟩
      have HI5 := Kp.mk hI5
      have HM5 : Kp ((qMany pIn n l3 b3).2.2 = false → more = moreB l1 ∧ (qMany pIn n l3 b3).1.length = n) := ⟨fun h => ⟨HM3.out (qMany_ok _ _ _ h), qMany_full _ _ _ h⟩⟩
      have HQB : Kp (qOuts l0 v (moreB l1) n (qMany pIn n l3 b3) (count (qMany pIn n l3 b3).2.1 (qMany pIn n l3 b3).2.2 50) = x) := HEND
      have HL5 : Kp ((qMany pIn n l3 b3).2.1.length ≤ l0.length) := ⟨Nat.le_trans (qMany_len pIn_len n l3 b3) HL3.out⟩
      generalize qMany pIn n l3 b3 = is at *
      obtain ⟨is, l5, b5⟩ := is
      simp only at hS5 hI5 HQB HM5 HI5
      have H5 := Kp.mk (gcount_any g w5 l5 b5 50 hS5 (by omega))
      have HM50 : Kp ((count l5 b5 50).1 ≤ 50) := ⟨by have := count_most l5 b5 50 (by omega); omega⟩
      have HM6 : Kp ((count l5 b5 50).2.2 = false → more = moreB l1 ∧ is.length = n) := ⟨fun h => HM5.out (count_ok h)⟩
      have HL6 : Kp ((count l5 b5 50).2.1.length ≤ l0.length) := ⟨Nat.le_trans (count_len l5 b5 50) HL5.out⟩
      generalize count l5 b5 50 = r5 at *
      obtain ⟨m, l6, b6⟩ := r5
      simp only at HQB HM6 HM50
      clear hS5 hI5 hT5 hB5 hB HS4 HT4 HX4 HO4 HM3 HM5 HEND hg4 hrt
      go_wp2_with fail
      refine H5.out.mono ?_
      rintro e w6 ⟨ho6, rfl, hS6⟩
      simp only at hS6
      have hgl := HGL.out
      have hrt := HRT.out
      have hbb := HBB.out
      have HO6 := Kp.mk (HO5.out.trans ho6)
      have HX6 := Kp.mk (HX5.out.keep ho6 (by omega))
      have HT6 := Kp.mk (HT5.out.keep ho6 (by omega))
      have HI6 : Kp (OwnMany 36 47 (InN w6 B) w6 B iv is) := ⟨HI5.out.kept ho6 (fun q e => by have := Option.some.inj e; omega) (fun cs d h => h.kept ho6 (fun q e => by have := Option.some.inj e; omega))⟩
      have HS6 := Kp.mk hS6
      have HB6 : Kp (B ≤ w6.heap.size) := ⟨Nat.le_trans hbb.2 ho6.size⟩
      clear ho6 hS6 H5 HO5 HX5 HT5 HI5
      go_wp2_with fail
      refine readLoop2 g G4 m w6 l6 b6 _ _ _ _ _ _ _ _ _ _ _ _ _ _ _ _ _ _ _ _ _ _ _ _ _ _ _ _ _ _ _ _ _ _ _ _ _ _ _ _ _ _ _ _ _ _ _ _ _ _ _ _ _ _ _ _ _ _ _ _ _ _ _ _ _ _ _ _ _ _ _ _ _ _ _ _ _ _ _ _ _ _ _ _ _ _ _ _ _ _ _ _ _ _ _ _ _ _ _ _ _ _ _ _ _ _ _ _ _ _ _ _ _ _ _ _ _ _ _ _ _ _ _ _ _ _ _ _ _ _ _ _ _ _ _ _ _ _ _ _ _ _ _ _ _ _ _ _ _ _ _ _ _ _ _ _ _ _ _ _ _ _ _ _ _ _ _ _ _ _ _ _ _ _ _ _ _ _ _ _ _ _ _ _ _ _ _ _ _ _ _ _ _ HS6 HT6 ⟨by exact ⟨by omega, HT6.out.lt⟩⟩ HM50 ?_
      intro t11 t12 t88 t89 t90 t91 t92 t93 t94 t95 t96 t97 t98 t99 t100 t101 t102 t103 t104 t105 t106 t107 t108 t109 t110 t111 t112 t113 w7 hq7
      obtain ⟨ov, ⟨hS7, hU7, hT7, hB7⟩⟩ := hq7
      have HO7 := Kp.mk (HO6.out.but2 hB7 (by omega))
      have HX7 := Kp.mk (HX6.out.but2 hB7 (by omega) (by omega))
      have HT7 := Kp.mk hT7
      have HB7 : Kp (B ≤ w7.heap.size) := ⟨Nat.le_trans HB6.out hB7.size⟩
      have hk7 : Keeps [47, 5, 27] w6 w7 := hB7.keepsE HS6.out HT6.out (by decide) (by decide)
      have HI7 : Kp (OwnMany 36 47 (InN w7 B) w7 B iv is) := ⟨HI6.out.turn hk7 (by decide) (Nat.le_refl _) (fun cs d h => h.turn hk7 (by decide) (by decide) (Nat.le_refl _))⟩
      have HU7 : Kp (OwnMany 2 51 (OutO w7 B) w7 B ov (qMany pOut m l6 b6).1) := ⟨OwnMany.turn hU7 (Keeps.refl [51, 5] _) (by decide) HB6.out (fun cs d h => h.turn (Keeps.refl [51, 5] _) (by decide) HB6.out)⟩
      have HS7 := Kp.mk hS7
      have HQC : Kp (qEnd l0 v is (qMany pOut m l6 b6).1 (qWits (moreB l1) n (qMany pOut m l6 b6).2) = x) := HQB
      have HM7 : Kp ((qMany pOut m l6 b6).2.2 = false → more = moreB l1 ∧ is.length = n) := ⟨fun h => HM6.out (qMany_ok _ _ _ h)⟩
      have HL7 : Kp ((qMany pOut m l6 b6).2.1.length ≤ l0.length) := ⟨Nat.le_trans (qMany_len pOut_len m l6 b6) HL6.out⟩
      generalize qMany pOut m l6 b6 = os at *
      obtain ⟨os, l7, b7⟩ := os
      simp only at hS7 hU7 HU7 HQC HM7 HS7
      clear hS7 hU7 hT7 hB7 hk7 HS6 HT6 HX6 HO6 HI6 HM6 HQB
      go_wp2_with fail
      refine readLoop3_any g G4 n B more b7 w7 l7 is _ _ _ _ _ _ _ _ _ _ _ _ _ _ _ _ _ _ _ _ _ _ _ _ _ _ _ _ _ _ _ _ _ _ _ _ _ _ _ _ _ _ _ _ _ _ _ _ _ _ _ _ _ _ _ _ _ _ _ _ _ _ _ _ _ _ _ _ _ _ _ _ _ _ _ _ _ _ _ _ _ _ _ _ _ _ _ _ _ _ _ _ _ _ _ _ _ _ _ _ _ _ _ _ _ _ _ _ _ _ _ _ _ _ _ _ _ _ _ _ _ _ _ _ _ _ _ _ _ _ _ _ _ _ _ _ _ _ _ _ _ _ _ _ _ _ _ _ _ _ _ _ _ _ _ _ _ _ _ _ _ _ _ _ _ _ _ _ _ _ _ _ _ _ _ _ _ _ _ _ _ _ _ _ _ _ _ _ _ _ _ _ _ HS7 HT7 HI7 ⟨fun h => (HM7.out h).2⟩ ⟨by exact ⟨by omega, by omega, HB7.out⟩⟩ HN50 ?_
      intro t13 t14 t114 t115 t116 t117 t118 t119 t120 t121 t122 t123 t124 t125 t126 t127 t128 t129 t130 t131 t132 t133 t134 t135 t136 t137 t138 t139 t140 t141 t142 t143 t144 t145 t146 t147 t148 t149 t150 t151 t152 t153 t154 t155 t156 t157 t158 w8 hq8
      obtain ⟨⟨hS8, hI8, hk8, hO8⟩⟩ := hq8
      have HWS : Kp (qWits more n (l7, b7) = qWits (moreB l1) n (l7, b7)) := ⟨by
        cases b7 with
        | false => rw [(HM7.out rfl).1]
        | true => cases more <;> cases moreB l1 <;> simp [qWits, qMany_bad]⟩
      rw [HWS.out] at hS8 hI8
      have HO8 := Kp.mk (hO8 w (by omega) HO7.out)
      have HX8 := Kp.mk (Keeps.box hk8 (by decide) HX7.out)
      have HT8 := Kp.mk (Keeps.box hk8 (by decide) HT7.out)
      have HU8 : Kp (OwnMany 2 51 (OutO w8 B) w8 B ov os) := ⟨HU7.out.turn hk8 (by decide) (Nat.le_refl _) (fun cs d h => h.turn hk8 (by decide) (Nat.le_refl _))⟩
      have HI8 := Kp.mk hI8
      have HS8 := Kp.mk hS8
      have HL8 : Kp ((qWits (moreB l1) n (l7, b7)).2.1.length ≤ l0.length) := ⟨by
        refine Nat.le_trans ?_ HL7.out
        unfold qWits
        cases moreB l1 with
        | false => exact Nat.le_refl _
        | true => exact qMany_len qWit_len n l7 b7⟩
      generalize qWits (moreB l1) n (l7, b7) = ws at *
      obtain ⟨ws, l8, b8⟩ := ws
      simp only at hS8 hI8 HQC HS8 HI8
      clear hS8 hI8 hk8 hO8 HWS HS7 HT7 HX7 HO7 HI7 HU7 HM7 hgl hrt hbb
      have H8 := Kp.mk (gsmall_any g w8 l8 b8 HS8.out)
      have HV8 : Kp ((num l8 b8 4).1 < 4294967296) := ⟨by have := num_lt l8 HS8.out.bys b8 4; omega⟩
      have HK8 : Kp ((((⟨v, setWits is ws, os, (num l8 b8 4).1⟩ : TxD), !(num l8 b8 4).2.2 && (mayB ⟨v, setWits is ws, os, (num l8 b8 4).1⟩ && decide (bytesOf ⟨v, setWits is ws, os, (num l8 b8 4).1⟩ = l0.take (l0.length - (num l8 b8 4).2.1.length)))), (num l8 b8 4).2) = x) := HQC
      have HL9 : Kp ((num l8 b8 4).2.1.length ≤ l0.length) := ⟨Nat.le_trans (num_len l8 b8 4) HL8.out⟩
      generalize num l8 b8 4 = r8 at *
      obtain ⟨k, l9, b9⟩ := r8
      simp only at HK8 HV8
      go_wp2_with fail
      refine H8.out.mono ?_
      rintro e w9 ⟨ho9, rfl, hS9⟩
      simp only at hS9
      have hgl := HGL.out
      have hrt := HRT.out
      have hbb := HBB.out
      have hx9 := HX8.out.keep ho9 (by omega)
      have ht9 := HT8.out.keep ho9 (by omega)
      have hset : w9.grownBy (w9.setCell ⟨G4, 3, none⟩ (.int .u32 (k : Int))) (some G4) := (Only.refl G4 w9).set 3 _
      have HX9 : Kp (Box (w9.setCell ⟨G4, 3, none⟩ (.int .u32 (k : Int))) R0 26 zTx) := ⟨(hset.block R0 hx9.lt (by simp; omega)).trans hx9⟩
      have HT9 : Kp (Box (w9.setCell ⟨G4, 3, none⟩ (.int .u32 (k : Int))) G4 26 #[.int .u32 (v : Int), iv, ov, .int .u32 (k : Int)]) := ⟨ht9.set 3 _⟩
      have HS9 : Kp (Sg (w9.setCell ⟨G4, 3, none⟩ (.int .u32 (k : Int))) g l9 b9) := ⟨hS9.set (by omega) 3 _⟩
      have ho89 := HO8.out.trans ho9
      have HO9 : Kp (Only g w (w9.setCell ⟨G4, 3, none⟩ (.int .u32 (k : Int)))) := ⟨ho89.set_new (by omega) 3 _⟩
      have hi9 : OwnMany 36 47 (InO w9 B) w9 B iv (setWits is ws) := HI8.out.kept ho9 (fun q e => by have := Option.some.inj e; omega) (fun cs d h => h.kept ho9 (fun q e => by have := Option.some.inj e; omega))
      have hu9 : OwnMany 2 51 (OutO w9 B) w9 B ov os := HU8.out.kept ho9 (fun q e => by have := Option.some.inj e; omega) (fun cs d h => h.kept ho9 (fun q e => by have := Option.some.inj e; omega))
      have hi10 := OwnMany.kept hi9 hset (fun q e => by have := Option.some.inj e; omega) (fun cs d (h : InO w9 B cs d) => h.kept hset (fun q e => by have := Option.some.inj e; omega))
      have hu10 := OwnMany.kept hu9 hset (fun q e => by have := Option.some.inj e; omega) (fun cs d (h : OutO w9 B cs d) => h.kept hset (fun q e => by have := Option.some.inj e; omega))
      have tc := ht9.cell 3
      have tf := ht9.warm 3
      have HTO : Kp (TxO (w9.setCell ⟨G4, 3, none⟩ (.int .u32 (k : Int))) B (.agg #[.int .u32 (v : Int), iv, ov, .int .u32 (k : Int)]) ⟨v, setWits is ws, os, k⟩) := ⟨_, _, rfl, HV.out, HV8.out, hi10, hu10⟩
      obtain ⟨W9, hW9⟩ : ∃ W, w9.setCell ⟨G4, 3, none⟩ (.int .u32 (k : Int)) = W := ⟨_, rfl⟩
      have HW9 := Kp.mk hW9
      rw [hW9] at HX9 HT9 HS9 HO9 HTO
      obtain ⟨V, hV⟩ : ∃ V, (⟨v, setWits is ws, os, k⟩ : TxD) = V := ⟨_, rfl⟩
      have HVV := Kp.mk hV
      rw [hV] at HTO HK8
      have HB9 : Kp (w.heap.size ≤ B ∧ g < B ∧ G4 < B) := ⟨by omega⟩
      clear hgl hrt hbb hx9 ht9 hset ho89 hi9 hu9 hi10 hu10 hW9 hV ho9 hS9 H8 HQC HX8 HT8 HS8 HO8 HI8 HU8 HN50 HM50 HBB HB7 HB6 HV8 HV HN1 HHE HW2 HG4 HO0 HX0 HS0 HW0 HX2 HT2 HS2 HO2
      go_upto_region 31 with fail
      (try rw [HW9.out])
      clear tc tf HL2 HL3 HL5 HL6 HL7 HL8 HLN HVV HW9
      go_cut [187] (fun u wx => u = .bool (b9 || !(mayB V && decide (bytesOf V = l0.take (l0.length - l9.length)))) ∧ Kp (Below W9.heap.size W9 wx))
      case first =>
        cases b9 with
        | true =>
          have hcT : W9.drew.cell? ⟨g, 1, none⟩ = some (.bool true) := HS9.out.bad
          refine wp_region_noPanic ?_
          refine wp_region_held_drew (S := (fun W => W.cell? ⟨g, 1, none⟩ = some (.bool true))) (by kernel_rfl) ?_ (fun hHeld => ?_)
          · exact hcT
          refine wpAnyH_take (i := 0) (oi := ⟨some 162, _, _, _, _, _⟩) (v := ?_) rfl (by kernel_rfl) (by kernel_rfl) (by kernel_rfl) (fun _ _ _ h => h) (Or.inl ⟨by rfl, ?_⟩) hHeld ?_
          rotate_left
          · (intro wx hSw; (try dsimp only at hSw); go_simp; try with_reducible rfl)
          try simp only [Act.put, List.setIfInBounds_toArray, List.set_cons_zero, List.set_cons_succ]
          refine wpAnyH_take (i := 1) (oi := ⟨some 163, _, _, _, _, _⟩) (v := ?_) rfl (by kernel_rfl) (by kernel_rfl) (by kernel_rfl) (fun _ _ _ h => h) (Or.inl ⟨by rfl, ?_⟩) hHeld ?_
          rotate_left
          · (intro wx hSw; (try dsimp only at hSw); go_simp; try with_reducible rfl)
          try simp only [Act.put, List.setIfInBounds_toArray, List.set_cons_zero, List.set_cons_succ]
          refine wpAnyH_take (i := 2) (oi := ⟨some 164, _, _, _, _, _⟩) (v := ?_) rfl (by kernel_rfl) (by kernel_rfl) (by kernel_rfl) (fun _ _ _ h => h) (Or.inl ⟨by rfl, ?_⟩) hHeld ?_
          rotate_left
          · (intro wx hSw; (try dsimp only at hSw); go_simp; try with_reducible rfl)
          try simp only [Act.put, List.setIfInBounds_toArray, List.set_cons_zero, List.set_cons_succ]
          refine wpAnyH_take (i := 3) (oi := ⟨some 165, _, _, _, _, _⟩) (v := ?_) rfl (by kernel_rfl) (by kernel_rfl) (by kernel_rfl) (fun _ _ _ h => h) (Or.inl ⟨by rfl, ?_⟩) hHeld ?_
          rotate_left
          · (intro wx hSw; (try dsimp only at hSw); go_simp; try with_reducible rfl)
          try simp only [Act.put, List.setIfInBounds_toArray, List.set_cons_zero, List.set_cons_succ]
          refine wpAnyH_take (i := 4) (oi := ⟨some 166, _, _, _, _, _⟩) (v := ?_) rfl (by kernel_rfl) (by kernel_rfl) (by kernel_rfl) (fun _ _ _ h => h) (Or.inl ⟨by rfl, ?_⟩) hHeld ?_
          rotate_left
          · (intro wx hSw; (try dsimp only at hSw); go_simp; try with_reducible rfl)
          try simp only [Act.put, List.setIfInBounds_toArray, List.set_cons_zero, List.set_cons_succ]
          refine wpAnyH_take (i := 5) (oi := ⟨some 167, _, _, _, _, _⟩) (v := undef) rfl (by kernel_rfl) (by kernel_rfl) (by kernel_rfl) (fun _ _ _ h => h) (Or.inr ⟨by rfl, rfl⟩) hHeld ?_
          try simp only [Act.put, List.setIfInBounds_toArray, List.set_cons_zero, List.set_cons_succ]
          refine wpAnyH_take (i := 6) (oi := ⟨some 168, _, _, _, _, _⟩) (v := undef) rfl (by kernel_rfl) (by kernel_rfl) (by kernel_rfl) (fun _ _ _ h => h) (Or.inr ⟨by rfl, rfl⟩) hHeld ?_
          try simp only [Act.put, List.setIfInBounds_toArray, List.set_cons_zero, List.set_cons_succ]
          refine wpAnyH_take (i := 7) (oi := ⟨some 169, _, _, _, _, _⟩) (v := undef) rfl (by kernel_rfl) (by kernel_rfl) (by kernel_rfl) (fun _ _ _ h => h) (Or.inr ⟨by rfl, rfl⟩) hHeld ?_
          try simp only [Act.put, List.setIfInBounds_toArray, List.set_cons_zero, List.set_cons_succ]
          refine wpAnyH_take (i := 8) (oi := ⟨some 170, _, _, _, _, _⟩) (v := ?_) rfl (by kernel_rfl) (by kernel_rfl) (by kernel_rfl) (fun _ _ _ h => h) (Or.inl ⟨by rfl, ?_⟩) hHeld ?_
          rotate_left
          · (intro wx hSw; (try dsimp only at hSw); go_simp; try with_reducible rfl)
          try simp only [Act.put, List.setIfInBounds_toArray, List.set_cons_zero, List.set_cons_succ]
          refine wpAnyH_take (i := 9) (oi := ⟨some 171, _, _, _, _, _⟩) (v := ?_) rfl (by kernel_rfl) (by kernel_rfl) (by kernel_rfl) (fun _ _ _ h => h) (Or.inl ⟨by rfl, ?_⟩) hHeld ?_
          rotate_left
          · (intro wx hSw; (try dsimp only at hSw); go_simp; try with_reducible rfl)
          try simp only [Act.put, List.setIfInBounds_toArray, List.set_cons_zero, List.set_cons_succ]
          refine wpAnyH_take (i := 10) (oi := ⟨some 172, _, _, _, _, _⟩) (v := undef) rfl (by kernel_rfl) (by kernel_rfl) (by kernel_rfl) (fun _ _ _ h => h) (Or.inr ⟨by rfl, rfl⟩) hHeld ?_
          try simp only [Act.put, List.setIfInBounds_toArray, List.set_cons_zero, List.set_cons_succ]
          refine wpAnyH_take (i := 11) (oi := ⟨some 173, _, _, _, _, _⟩) (v := undef) rfl (by kernel_rfl) (by kernel_rfl) (by kernel_rfl) (fun _ _ _ h => h) (Or.inr ⟨by rfl, rfl⟩) hHeld ?_
          try simp only [Act.put, List.setIfInBounds_toArray, List.set_cons_zero, List.set_cons_succ]
          refine wpAnyH_take (i := 12) (oi := ⟨some 174, _, _, _, _, _⟩) (v := undef) rfl (by kernel_rfl) (by kernel_rfl) (by kernel_rfl) (fun _ _ _ h => h) (Or.inr ⟨by rfl, rfl⟩) hHeld ?_
          try simp only [Act.put, List.setIfInBounds_toArray, List.set_cons_zero, List.set_cons_succ]
          refine wpAnyH_take (i := 13) (oi := ⟨some 175, _, _, _, _, _⟩) (v := undef) rfl (by kernel_rfl) (by kernel_rfl) (by kernel_rfl) (fun _ _ _ h => h) (Or.inr ⟨by rfl, rfl⟩) hHeld ?_
          try simp only [Act.put, List.setIfInBounds_toArray, List.set_cons_zero, List.set_cons_succ]
          refine wpAnyH_take (i := 14) (oi := ⟨some 176, _, _, _, _, _⟩) (v := undef) rfl (by kernel_rfl) (by kernel_rfl) (by kernel_rfl) (fun _ _ _ h => h) (Or.inr ⟨by rfl, rfl⟩) hHeld ?_
          try simp only [Act.put, List.setIfInBounds_toArray, List.set_cons_zero, List.set_cons_succ]
          refine wpAnyH_take (i := 15) (oi := ⟨some 177, _, _, _, _, _⟩) (v := undef) rfl (by kernel_rfl) (by kernel_rfl) (by kernel_rfl) (fun _ _ _ h => h) (Or.inr ⟨by rfl, rfl⟩) hHeld ?_
          try simp only [Act.put, List.setIfInBounds_toArray, List.set_cons_zero, List.set_cons_succ]
          refine wpAnyH_take (i := 16) (oi := ⟨some 178, _, _, _, _, _⟩) (v := undef) rfl (by kernel_rfl) (by kernel_rfl) (by kernel_rfl) (fun _ _ _ h => h) (Or.inr ⟨by rfl, rfl⟩) hHeld ?_
          try simp only [Act.put, List.setIfInBounds_toArray, List.set_cons_zero, List.set_cons_succ]
          refine wpAnyH_take (i := 17) (oi := ⟨some 179, _, _, _, _, _⟩) (v := undef) rfl (by kernel_rfl) (by kernel_rfl) (by kernel_rfl) (fun _ _ _ h => h) (Or.inr ⟨by rfl, rfl⟩) hHeld ?_
          try simp only [Act.put, List.setIfInBounds_toArray, List.set_cons_zero, List.set_cons_succ]
          refine wpAnyH_take (i := 18) (oi := ⟨some 180, _, _, _, _, _⟩) (v := undef) rfl (by kernel_rfl) (by kernel_rfl) (by kernel_rfl) (fun _ _ _ h => h) (Or.inr ⟨by rfl, rfl⟩) hHeld ?_
          try simp only [Act.put, List.setIfInBounds_toArray, List.set_cons_zero, List.set_cons_succ]
          refine wpAnyH_take (i := 19) (oi := ⟨some 181, _, _, _, _, _⟩) (v := undef) rfl (by kernel_rfl) (by kernel_rfl) (by kernel_rfl) (fun _ _ _ h => h) (Or.inr ⟨by rfl, rfl⟩) hHeld ?_
          try simp only [Act.put, List.setIfInBounds_toArray, List.set_cons_zero, List.set_cons_succ]
          refine wpAnyH_take (i := 20) (oi := ⟨some 182, _, _, _, _, _⟩) (v := undef) rfl (by kernel_rfl) (by kernel_rfl) (by kernel_rfl) (fun _ _ _ h => h) (Or.inr ⟨by rfl, rfl⟩) hHeld ?_
          try simp only [Act.put, List.setIfInBounds_toArray, List.set_cons_zero, List.set_cons_succ]
          refine wpAnyH_take (i := 21) (oi := ⟨some 183, _, _, _, _, _⟩) (v := undef) rfl (by kernel_rfl) (by kernel_rfl) (by kernel_rfl) (fun _ _ _ h => h) (Or.inr ⟨by rfl, rfl⟩) hHeld ?_
          try simp only [Act.put, List.setIfInBounds_toArray, List.set_cons_zero, List.set_cons_succ]
          refine wpAnyH_take (i := 22) (oi := ⟨some 184, _, _, _, _, _⟩) (v := undef) rfl (by kernel_rfl) (by kernel_rfl) (by kernel_rfl) (fun _ _ _ h => h) (Or.inr ⟨by rfl, rfl⟩) hHeld ?_
          try simp only [Act.put, List.setIfInBounds_toArray, List.set_cons_zero, List.set_cons_succ]
          refine wpAnyH_take (i := 23) (oi := ⟨some 185, _, _, _, _, _⟩) (v := undef) rfl (by kernel_rfl) (by kernel_rfl) (by kernel_rfl) (fun _ _ _ h => h) (Or.inr ⟨by rfl, rfl⟩) hHeld ?_
          try simp only [Act.put, List.setIfInBounds_toArray, List.set_cons_zero, List.set_cons_succ]
          refine wpAnyH_take (i := 24) (oi := ⟨some 186, _, _, _, _, _⟩) (v := undef) rfl (by kernel_rfl) (by kernel_rfl) (by kernel_rfl) (fun _ _ _ h => h) (Or.inr ⟨by rfl, rfl⟩) hHeld ?_
          try simp only [Act.put, List.setIfInBounds_toArray, List.set_cons_zero, List.set_cons_succ]
          refine wpAnyH_take (i := 25) (oi := ⟨some 187, _, _, _, _, _⟩) (v := ?_) rfl (by kernel_rfl) (by kernel_rfl) (by kernel_rfl) (fun _ _ _ h => h) (Or.inl ⟨by rfl, ?_⟩) hHeld ?_
          rotate_left
          · (intro wx hSw; (try dsimp only at hSw); go_simp; try with_reducible rfl)
          try simp only [Act.put, List.setIfInBounds_toArray, List.set_cons_zero, List.set_cons_succ]
          refine wpAnyH_done (by kernel_rfl) ?_ _
          refine NoPanic.normal ?_
          go_wp2
          go_meet
          case rel => exact ⟨rfl, ⟨(Below.refl _ _).drew⟩⟩
        | false =>
          obtain ⟨sv9, m9, hx9, hsu9, _, hmx9, he9, _⟩ := HS9.out
          obtain rfl := he9 rfl
          obtain ⟨A9, c9, rfl, hcl9, _, _⟩ := id hsu9
          obtain ⟨A0, c0, rfl, hcl0, _, _⟩ := id HSU.out
          have HX9b := Kp.mk hx9
          obtain ⟨D, hD⟩ : ∃ n, l0.length - m9.length = n := ⟨_, rfl⟩
          have HNN : Kp (m9.length ≤ l0.length ∧ l0.length ≤ 140737488354000 ∧ l0.length - m9.length = D ∧ l0.length ≤ c0) := ⟨by have := HL9.out; have := HMX.out; omega⟩
          have HC : Kp (∀ W : World, Below W9.heap.size W9 W → (fun W => Below W9.heap.size W9 W ∧ W.cell? ⟨g, 0, none⟩ = some (.slice A9 m9.length c9) ∧ W.cell? ⟨g, 1, none⟩ = some (.bool false) ∧ W.cell? ⟨G4, 0, none⟩ = some (.int .u32 (v : Int)) ∧ W.cell? ⟨G4, 1, none⟩ = some iv ∧ W.cell? ⟨G4, 2, none⟩ = some ov ∧ W.cell? ⟨G4, 3, none⟩ = some (.int .u32 (k : Int))) W) := ⟨fun W hW => by
            have e1 := (HX9b.out.below hW)
            have e2 := (HT9.out.below hW)
            exact ⟨hW, e1.cell 0, e1.cell 1, e2.cell 0, e2.cell 1, e2.cell 2, e2.cell 3⟩⟩
          have hbd : Below W9.heap.size W9 W9.drew := (Below.refl _ _).drew
          have hcF := HC.out _ hbd
          have HTR : Kp (∀ W, Below W9.heap.size W9 W → TxR W (.agg #[.int .u32 (v : Int), iv, ov, .int .u32 (k : Int)]) V) := ⟨fun W hW => (HTO.out.below hW).txR⟩
          have HMAY : Kp (∀ W, Below W9.heap.size W9 W → Calls Try.prog 7 #[.agg #[.int .u32 (v : Int), iv, ov, .int .u32 (k : Int)]] W (BoolP (mayB V) W)) := ⟨fun W hW => refmay_any W _ V (HTR.out W hW)⟩
          have HBYT : Kp (∀ W, Below W9.heap.size W9 W → Calls Try.prog 9 #[.agg #[.int .u32 (v : Int), iv, ov, .int .u32 (k : Int)]] W (NewBytes (bytesOf V) W)) := ⟨fun W hW => refBytes_any W _ V (HTR.out W hW)⟩
          clear hx9 hsu9 hmx9 he9 hcl9 hcl0
          have hwr : IntKind.i64.wrap ((l0.length : Int) - (m9.length : Int)) = (D : Int) := by have := HNN.out; rw [IntKind.wrap_i64]; omega
          have hd0 : (0 : Int) ≤ (D : Int) := by omega
          have hdc : (D : Int) ≤ (c0 : Int) := by have := HNN.out; omega
          have HSLC : Kp (∀ W, Below W9.heap.size W9 W → Sl W g (.slice A0 D c0) (l0.take D)) := ⟨fun W hW => su_take ((HSU.out.only HO9.out).below hW) D (by have := HNN.out; omega)⟩
          cases hmay : mayB V with
          | false =>
            rw [hmay] at HMAY
            refine wp_region_noPanic ?_
            refine wp_region_held_drew (S := (fun W => Below W9.heap.size W9 W ∧ W.cell? ⟨g, 0, none⟩ = some (.slice A9 m9.length c9) ∧ W.cell? ⟨g, 1, none⟩ = some (.bool false) ∧ W.cell? ⟨G4, 0, none⟩ = some (.int .u32 (v : Int)) ∧ W.cell? ⟨G4, 1, none⟩ = some iv ∧ W.cell? ⟨G4, 2, none⟩ = some ov ∧ W.cell? ⟨G4, 3, none⟩ = some (.int .u32 (k : Int)))) (by kernel_rfl) ?_ (fun hHeld => ?_)
            · exact hcF
            refine wpAnyH_take (i := 0) (oi := ⟨some 162, _, _, _, _, _⟩) (v := ?_) rfl (by kernel_rfl) (by kernel_rfl) (by kernel_rfl) (fun _ _ _ h => h) (Or.inl ⟨by rfl, ?_⟩) hHeld ?_
            rotate_left
            · (intro wx hSw; (try dsimp only at hSw); go_simp; try with_reducible rfl)
            try simp only [Act.put, List.setIfInBounds_toArray, List.set_cons_zero, List.set_cons_succ]
            refine wpAnyH_take (i := 1) (oi := ⟨some 163, _, _, _, _, _⟩) (v := ?_) rfl (by kernel_rfl) (by kernel_rfl) (by kernel_rfl) (fun _ _ _ h => h) (Or.inl ⟨by rfl, ?_⟩) hHeld ?_
            rotate_left
            · (intro wx hSw; (try dsimp only at hSw); go_simp; try with_reducible rfl)
            try simp only [Act.put, List.setIfInBounds_toArray, List.set_cons_zero, List.set_cons_succ]
            refine wpAnyH_take (i := 2) (oi := ⟨some 164, _, _, _, _, _⟩) (v := ?_) rfl (by kernel_rfl) (by kernel_rfl) (by kernel_rfl) (fun _ _ _ h => h) (Or.inl ⟨by rfl, ?_⟩) hHeld ?_
            rotate_left
            · (intro wx hSw; (try dsimp only at hSw); go_simp; try with_reducible rfl)
            try simp only [Act.put, List.setIfInBounds_toArray, List.set_cons_zero, List.set_cons_succ]
            refine wpAnyH_take (i := 3) (oi := ⟨some 165, _, _, _, _, _⟩) (v := ?_) rfl (by kernel_rfl) (by kernel_rfl) (by kernel_rfl) (fun _ _ _ h => h) (Or.inl ⟨by rfl, ?_⟩) hHeld ?_
            rotate_left
            · (intro wx hSw; (try dsimp only at hSw); go_simp; try with_reducible rfl)
            try simp only [Act.put, List.setIfInBounds_toArray, List.set_cons_zero, List.set_cons_succ]
            refine wpAnyH_take (i := 4) (oi := ⟨some 166, _, _, _, _, _⟩) (v := ?_) rfl (by kernel_rfl) (by kernel_rfl) (by kernel_rfl) (fun _ _ _ h => h) (Or.inl ⟨by rfl, ?_⟩) hHeld ?_
            rotate_left
            · (intro wx hSw; (try dsimp only at hSw); go_simp; try with_reducible rfl)
            try simp only [Act.put, List.setIfInBounds_toArray, List.set_cons_zero, List.set_cons_succ]
            refine wpAnyH_take (i := 5) (oi := ⟨some 167, _, _, _, _, _⟩) (v := ?_) rfl (by kernel_rfl) (by kernel_rfl) (by kernel_rfl) (fun _ _ _ h => h) (Or.inl ⟨by rfl, ?_⟩) hHeld ?_
            rotate_left
            · (intro wx hSw; (try dsimp only at hSw); go_simp; try with_reducible rfl)
            try simp only [Act.put, List.setIfInBounds_toArray, List.set_cons_zero, List.set_cons_succ]
            refine wpAnyH_ready (rs := [6]) (by kernel_rfl) (by simp) (AllReadyH.cons (o := ⟨some 168, _, _, _, _, _⟩) rfl (fun K hK => ?_) AllReadyH.nil)
            go_simp
            refine (HMAY.out _ hbd).mono ?_
            rintro e w3 ⟨rfl, hb3⟩
            replace hbd := hbd.trans (hb3.mono hbd.size)
            clear hb3
            refine hK.out _ _ ?_ (fun hHeld => ?_)
            · exact HC.out _ hbd
            clear hK K
            try simp only [Act.put, List.setIfInBounds_toArray, List.set_cons_zero, List.set_cons_succ]
            refine wpAnyH_take (i := 7) (oi := ⟨some 169, _, _, _, _, _⟩) (v := ?_) rfl (by kernel_rfl) (by kernel_rfl) (by kernel_rfl) (fun _ _ _ h => h) (Or.inl ⟨by rfl, ?_⟩) hHeld ?_
            rotate_left
            · (intro wx hSw; (try dsimp only at hSw); go_simp; try with_reducible rfl)
            try simp only [Act.put, List.setIfInBounds_toArray, List.set_cons_zero, List.set_cons_succ]
            refine wpAnyH_take (i := 8) (oi := ⟨some 170, _, _, _, _, _⟩) (v := ?_) rfl (by kernel_rfl) (by kernel_rfl) (by kernel_rfl) (fun _ _ _ h => h) (Or.inl ⟨by rfl, ?_⟩) hHeld ?_
            rotate_left
            · (intro wx hSw; (try dsimp only at hSw); go_simp; try with_reducible rfl)
            try simp only [Act.put, List.setIfInBounds_toArray, List.set_cons_zero, List.set_cons_succ]
            refine wpAnyH_take (i := 9) (oi := ⟨some 171, _, _, _, _, _⟩) (v := ?_) rfl (by kernel_rfl) (by kernel_rfl) (by kernel_rfl) (fun _ _ _ h => h) (Or.inl ⟨by rfl, ?_⟩) hHeld ?_
            rotate_left
            · (intro wx hSw; (try dsimp only at hSw); go_simp; try with_reducible rfl)
            try simp only [Act.put, List.setIfInBounds_toArray, List.set_cons_zero, List.set_cons_succ]
            refine wpAnyH_take (i := 10) (oi := ⟨some 172, _, _, _, _, _⟩) (v := undef) rfl (by kernel_rfl) (by kernel_rfl) (by kernel_rfl) (fun _ _ _ h => h) (Or.inr ⟨by rfl, rfl⟩) hHeld ?_
            try simp only [Act.put, List.setIfInBounds_toArray, List.set_cons_zero, List.set_cons_succ]
            refine wpAnyH_take (i := 11) (oi := ⟨some 173, _, _, _, _, _⟩) (v := undef) rfl (by kernel_rfl) (by kernel_rfl) (by kernel_rfl) (fun _ _ _ h => h) (Or.inr ⟨by rfl, rfl⟩) hHeld ?_
            try simp only [Act.put, List.setIfInBounds_toArray, List.set_cons_zero, List.set_cons_succ]
            refine wpAnyH_take (i := 12) (oi := ⟨some 174, _, _, _, _, _⟩) (v := undef) rfl (by kernel_rfl) (by kernel_rfl) (by kernel_rfl) (fun _ _ _ h => h) (Or.inr ⟨by rfl, rfl⟩) hHeld ?_
            try simp only [Act.put, List.setIfInBounds_toArray, List.set_cons_zero, List.set_cons_succ]
            refine wpAnyH_take (i := 13) (oi := ⟨some 175, _, _, _, _, _⟩) (v := undef) rfl (by kernel_rfl) (by kernel_rfl) (by kernel_rfl) (fun _ _ _ h => h) (Or.inr ⟨by rfl, rfl⟩) hHeld ?_
            try simp only [Act.put, List.setIfInBounds_toArray, List.set_cons_zero, List.set_cons_succ]
            refine wpAnyH_take (i := 14) (oi := ⟨some 176, _, _, _, _, _⟩) (v := undef) rfl (by kernel_rfl) (by kernel_rfl) (by kernel_rfl) (fun _ _ _ h => h) (Or.inr ⟨by rfl, rfl⟩) hHeld ?_
            try simp only [Act.put, List.setIfInBounds_toArray, List.set_cons_zero, List.set_cons_succ]
            refine wpAnyH_take (i := 15) (oi := ⟨some 177, _, _, _, _, _⟩) (v := undef) rfl (by kernel_rfl) (by kernel_rfl) (by kernel_rfl) (fun _ _ _ h => h) (Or.inr ⟨by rfl, rfl⟩) hHeld ?_
            try simp only [Act.put, List.setIfInBounds_toArray, List.set_cons_zero, List.set_cons_succ]
            refine wpAnyH_take (i := 16) (oi := ⟨some 178, _, _, _, _, _⟩) (v := undef) rfl (by kernel_rfl) (by kernel_rfl) (by kernel_rfl) (fun _ _ _ h => h) (Or.inr ⟨by rfl, rfl⟩) hHeld ?_
            try simp only [Act.put, List.setIfInBounds_toArray, List.set_cons_zero, List.set_cons_succ]
            refine wpAnyH_take (i := 17) (oi := ⟨some 179, _, _, _, _, _⟩) (v := undef) rfl (by kernel_rfl) (by kernel_rfl) (by kernel_rfl) (fun _ _ _ h => h) (Or.inr ⟨by rfl, rfl⟩) hHeld ?_
            try simp only [Act.put, List.setIfInBounds_toArray, List.set_cons_zero, List.set_cons_succ]
            refine wpAnyH_take (i := 18) (oi := ⟨some 180, _, _, _, _, _⟩) (v := undef) rfl (by kernel_rfl) (by kernel_rfl) (by kernel_rfl) (fun _ _ _ h => h) (Or.inr ⟨by rfl, rfl⟩) hHeld ?_
            try simp only [Act.put, List.setIfInBounds_toArray, List.set_cons_zero, List.set_cons_succ]
            refine wpAnyH_take (i := 19) (oi := ⟨some 181, _, _, _, _, _⟩) (v := undef) rfl (by kernel_rfl) (by kernel_rfl) (by kernel_rfl) (fun _ _ _ h => h) (Or.inr ⟨by rfl, rfl⟩) hHeld ?_
            try simp only [Act.put, List.setIfInBounds_toArray, List.set_cons_zero, List.set_cons_succ]
            refine wpAnyH_take (i := 20) (oi := ⟨some 182, _, _, _, _, _⟩) (v := undef) rfl (by kernel_rfl) (by kernel_rfl) (by kernel_rfl) (fun _ _ _ h => h) (Or.inr ⟨by rfl, rfl⟩) hHeld ?_
            try simp only [Act.put, List.setIfInBounds_toArray, List.set_cons_zero, List.set_cons_succ]
            refine wpAnyH_take (i := 21) (oi := ⟨some 183, _, _, _, _, _⟩) (v := undef) rfl (by kernel_rfl) (by kernel_rfl) (by kernel_rfl) (fun _ _ _ h => h) (Or.inr ⟨by rfl, rfl⟩) hHeld ?_
            try simp only [Act.put, List.setIfInBounds_toArray, List.set_cons_zero, List.set_cons_succ]
            refine wpAnyH_take (i := 22) (oi := ⟨some 184, _, _, _, _, _⟩) (v := undef) rfl (by kernel_rfl) (by kernel_rfl) (by kernel_rfl) (fun _ _ _ h => h) (Or.inr ⟨by rfl, rfl⟩) hHeld ?_
            try simp only [Act.put, List.setIfInBounds_toArray, List.set_cons_zero, List.set_cons_succ]
            refine wpAnyH_take (i := 23) (oi := ⟨some 185, _, _, _, _, _⟩) (v := undef) rfl (by kernel_rfl) (by kernel_rfl) (by kernel_rfl) (fun _ _ _ h => h) (Or.inr ⟨by rfl, rfl⟩) hHeld ?_
            try simp only [Act.put, List.setIfInBounds_toArray, List.set_cons_zero, List.set_cons_succ]
            refine wpAnyH_take (i := 24) (oi := ⟨some 186, _, _, _, _, _⟩) (v := undef) rfl (by kernel_rfl) (by kernel_rfl) (by kernel_rfl) (fun _ _ _ h => h) (Or.inr ⟨by rfl, rfl⟩) hHeld ?_
            try simp only [Act.put, List.setIfInBounds_toArray, List.set_cons_zero, List.set_cons_succ]
            refine wpAnyH_take (i := 25) (oi := ⟨some 187, _, _, _, _, _⟩) (v := ?_) rfl (by kernel_rfl) (by kernel_rfl) (by kernel_rfl) (fun _ _ _ h => h) (Or.inl ⟨by rfl, ?_⟩) hHeld ?_
            rotate_left
            · (intro wx hSw; (try dsimp only at hSw); go_simp; try with_reducible rfl)
            try simp only [Act.put, List.setIfInBounds_toArray, List.set_cons_zero, List.set_cons_succ]
            refine wpAnyH_done (by kernel_rfl) ?_ _
            refine NoPanic.normal ?_
            go_wp2
            go_meet
            case rel => exact ⟨by rw [hmay]; rfl, ⟨hbd⟩⟩
          | true =>
            rw [hmay] at HMAY
            have hby := (HTR.out _ hbd).bys
            have HEQ : Kp (((strOfNums (bytesOf V)).toList == (strOfNums (l0.take D)).toList) = decide (bytesOf V = l0.take D)) := ⟨str_eqB (bytesOf_bys hby) (HBY.out.take D)⟩
            have heq := HEQ.out
            clear hby
            refine wp_region_noPanic ?_
            refine wp_region_held_drew (S := (fun W => Below W9.heap.size W9 W ∧ W.cell? ⟨g, 0, none⟩ = some (.slice A9 m9.length c9) ∧ W.cell? ⟨g, 1, none⟩ = some (.bool false) ∧ W.cell? ⟨G4, 0, none⟩ = some (.int .u32 (v : Int)) ∧ W.cell? ⟨G4, 1, none⟩ = some iv ∧ W.cell? ⟨G4, 2, none⟩ = some ov ∧ W.cell? ⟨G4, 3, none⟩ = some (.int .u32 (k : Int)))) (by kernel_rfl) ?_ (fun hHeld => ?_)
            · exact hcF
            refine wpAnyH_take (i := 0) (oi := ⟨some 162, _, _, _, _, _⟩) (v := ?_) rfl (by kernel_rfl) (by kernel_rfl) (by kernel_rfl) (fun _ _ _ h => h) (Or.inl ⟨by rfl, ?_⟩) hHeld ?_
            rotate_left
            · (intro wx hSw; (try dsimp only at hSw); go_simp; try with_reducible rfl)
            try simp only [Act.put, List.setIfInBounds_toArray, List.set_cons_zero, List.set_cons_succ]
            refine wpAnyH_take (i := 1) (oi := ⟨some 163, _, _, _, _, _⟩) (v := ?_) rfl (by kernel_rfl) (by kernel_rfl) (by kernel_rfl) (fun _ _ _ h => h) (Or.inl ⟨by rfl, ?_⟩) hHeld ?_
            rotate_left
            · (intro wx hSw; (try dsimp only at hSw); go_simp; try with_reducible rfl)
            try simp only [Act.put, List.setIfInBounds_toArray, List.set_cons_zero, List.set_cons_succ]
            refine wpAnyH_take (i := 2) (oi := ⟨some 164, _, _, _, _, _⟩) (v := ?_) rfl (by kernel_rfl) (by kernel_rfl) (by kernel_rfl) (fun _ _ _ h => h) (Or.inl ⟨by rfl, ?_⟩) hHeld ?_
            rotate_left
            · (intro wx hSw; (try dsimp only at hSw); go_simp; try with_reducible rfl)
            try simp only [Act.put, List.setIfInBounds_toArray, List.set_cons_zero, List.set_cons_succ]
            refine wpAnyH_take (i := 3) (oi := ⟨some 165, _, _, _, _, _⟩) (v := ?_) rfl (by kernel_rfl) (by kernel_rfl) (by kernel_rfl) (fun _ _ _ h => h) (Or.inl ⟨by rfl, ?_⟩) hHeld ?_
            rotate_left
            · (intro wx hSw; (try dsimp only at hSw); go_simp; try with_reducible rfl)
            try simp only [Act.put, List.setIfInBounds_toArray, List.set_cons_zero, List.set_cons_succ]
            refine wpAnyH_take (i := 4) (oi := ⟨some 166, _, _, _, _, _⟩) (v := ?_) rfl (by kernel_rfl) (by kernel_rfl) (by kernel_rfl) (fun _ _ _ h => h) (Or.inl ⟨by rfl, ?_⟩) hHeld ?_
            rotate_left
            · (intro wx hSw; (try dsimp only at hSw); go_simp; try with_reducible rfl)
            try simp only [Act.put, List.setIfInBounds_toArray, List.set_cons_zero, List.set_cons_succ]
            refine wpAnyH_take (i := 5) (oi := ⟨some 167, _, _, _, _, _⟩) (v := ?_) rfl (by kernel_rfl) (by kernel_rfl) (by kernel_rfl) (fun _ _ _ h => h) (Or.inl ⟨by rfl, ?_⟩) hHeld ?_
            rotate_left
            · (intro wx hSw; (try dsimp only at hSw); go_simp; try with_reducible rfl)
            try simp only [Act.put, List.setIfInBounds_toArray, List.set_cons_zero, List.set_cons_succ]
            refine wpAnyH_ready (rs := [6]) (by kernel_rfl) (by simp) (AllReadyH.cons (o := ⟨some 168, _, _, _, _, _⟩) rfl (fun K hK => ?_) AllReadyH.nil)
            go_simp
            refine (HMAY.out _ hbd).mono ?_
            rintro e w3 ⟨rfl, hb3⟩
            replace hbd := hbd.trans (hb3.mono hbd.size)
            clear hb3
            refine hK.out _ _ ?_ (fun hHeld => ?_)
            · exact HC.out _ hbd
            clear hK K
            try simp only [Act.put, List.setIfInBounds_toArray, List.set_cons_zero, List.set_cons_succ]
            refine wpAnyH_take (i := 7) (oi := ⟨some 169, _, _, _, _, _⟩) (v := ?_) rfl (by kernel_rfl) (by kernel_rfl) (by kernel_rfl) (fun _ _ _ h => h) (Or.inl ⟨by rfl, ?_⟩) hHeld ?_
            rotate_left
            · (intro wx hSw; (try dsimp only at hSw); go_simp; try with_reducible rfl)
            try simp only [Act.put, List.setIfInBounds_toArray, List.set_cons_zero, List.set_cons_succ]
            refine wpAnyH_take (i := 8) (oi := ⟨some 170, _, _, _, _, _⟩) (v := ?_) rfl (by kernel_rfl) (by kernel_rfl) (by kernel_rfl) (fun _ _ _ h => h) (Or.inl ⟨by rfl, ?_⟩) hHeld ?_
            rotate_left
            · (intro wx hSw; (try dsimp only at hSw); go_simp; try with_reducible rfl)
            try simp only [Act.put, List.setIfInBounds_toArray, List.set_cons_zero, List.set_cons_succ]
            refine wpAnyH_take (i := 9) (oi := ⟨some 171, _, _, _, _, _⟩) (v := ?_) rfl (by kernel_rfl) (by kernel_rfl) (by kernel_rfl) (fun _ _ _ h => h) (Or.inl ⟨by rfl, ?_⟩) hHeld ?_
            rotate_left
            · (intro wx hSw; (try dsimp only at hSw); go_simp; try with_reducible rfl)
            try simp only [Act.put, List.setIfInBounds_toArray, List.set_cons_zero, List.set_cons_succ]
            refine wpAnyH_take (i := 10) (oi := ⟨some 172, _, _, _, _, _⟩) (v := ?_) rfl (by kernel_rfl) (by kernel_rfl) (by kernel_rfl) (fun _ _ _ h => h) (Or.inl ⟨by rfl, ?_⟩) hHeld ?_
            rotate_left
            · (intro wx hSw; (try dsimp only at hSw); go_simp; try with_reducible rfl)
            try simp only [Act.put, List.setIfInBounds_toArray, List.set_cons_zero, List.set_cons_succ]
            refine wpAnyH_take (i := 13) (oi := ⟨some 175, _, _, _, _, _⟩) (v := ?_) rfl (by kernel_rfl) (by kernel_rfl) (by kernel_rfl) (fun _ _ _ h => h) (Or.inl ⟨by rfl, ?_⟩) hHeld ?_
            rotate_left
            · (intro wx hSw; (try dsimp only at hSw); go_simp; try with_reducible rfl)
            try simp only [Act.put, List.setIfInBounds_toArray, List.set_cons_zero, List.set_cons_succ]
            refine wpAnyH_take (i := 14) (oi := ⟨some 176, _, _, _, _, _⟩) (v := ?_) rfl (by kernel_rfl) (by kernel_rfl) (by kernel_rfl) (fun _ _ _ h => h) (Or.inl ⟨by rfl, ?_⟩) hHeld ?_
            rotate_left
            · (intro wx hSw; (try dsimp only at hSw); go_simp; try with_reducible rfl)
            try simp only [Act.put, List.setIfInBounds_toArray, List.set_cons_zero, List.set_cons_succ]
            refine wpAnyH_take (i := 15) (oi := ⟨some 177, _, _, _, _, _⟩) (v := ?_) rfl (by kernel_rfl) (by kernel_rfl) (by kernel_rfl) (fun _ _ _ h => h) (Or.inl ⟨by rfl, ?_⟩) hHeld ?_
            rotate_left
            · (intro wx hSw; (try dsimp only at hSw); go_simp; try with_reducible rfl)
            try simp only [Act.put, List.setIfInBounds_toArray, List.set_cons_zero, List.set_cons_succ]
            refine wpAnyH_take (i := 16) (oi := ⟨some 178, _, _, _, _, _⟩) (v := ?_) rfl (by kernel_rfl) (by kernel_rfl) (by kernel_rfl) (fun _ _ _ h => h) (Or.inl ⟨by rfl, ?_⟩) hHeld ?_
            rotate_left
            · (intro wx hSw; (try dsimp only at hSw); go_simp; try with_reducible rfl)
            try simp only [Act.put, List.setIfInBounds_toArray, List.set_cons_zero, List.set_cons_succ]
            refine wpAnyH_take (i := 17) (oi := ⟨some 179, _, _, _, _, _⟩) (v := ?_) rfl (by kernel_rfl) (by kernel_rfl) (by kernel_rfl) (fun _ _ _ h => h) (Or.inl ⟨by rfl, ?_⟩) hHeld ?_
            rotate_left
            · (intro wx hSw; (try dsimp only at hSw); go_simp; try with_reducible rfl)
            try simp only [Act.put, List.setIfInBounds_toArray, List.set_cons_zero, List.set_cons_succ]
            refine wpAnyH_take (i := 18) (oi := ⟨some 180, _, _, _, _, _⟩) (v := ?_) rfl (by kernel_rfl) (by kernel_rfl) (by kernel_rfl) (fun _ _ _ h => h) (Or.inl ⟨by rfl, ?_⟩) hHeld ?_
            rotate_left
            · (intro wx hSw; (try dsimp only at hSw); go_simp; try with_reducible rfl)
            try simp only [Act.put, List.setIfInBounds_toArray, List.set_cons_zero, List.set_cons_succ]
            refine wpAnyH_take (i := 19) (oi := ⟨some 181, _, _, _, _, _⟩) (v := ?_) rfl (by kernel_rfl) (by kernel_rfl) (by kernel_rfl) (fun _ _ _ h => h) (Or.inl ⟨by rfl, ?_⟩) hHeld ?_
            rotate_left
            · (intro wx hSw; (try dsimp only at hSw); go_simp; try with_reducible rfl)
            try simp only [Act.put, List.setIfInBounds_toArray, List.set_cons_zero, List.set_cons_succ]
            refine wpAnyH_take (i := 20) (oi := ⟨some 182, _, _, _, _, _⟩) (v := ?_) rfl (by kernel_rfl) (by kernel_rfl) (by kernel_rfl) (fun _ _ _ h => h) (Or.inl ⟨by rfl, ?_⟩) hHeld ?_
            rotate_left
            · (intro wx hSw; (try dsimp only at hSw); go_simp; try with_reducible rfl)
            try simp only [Act.put, List.setIfInBounds_toArray, List.set_cons_zero, List.set_cons_succ]
            refine wpAnyH_take (i := 21) (oi := ⟨some 183, _, _, _, _, _⟩) (v := ?_) rfl (by kernel_rfl) (by kernel_rfl) (by kernel_rfl) (fun _ _ _ h => h) (Or.inl ⟨by rfl, ?_⟩) hHeld ?_
            rotate_left
            · (intro wx hSw; (try dsimp only at hSw); go_simp; try with_reducible rfl)
            try simp only [Act.put, List.setIfInBounds_toArray, List.set_cons_zero, List.set_cons_succ]
            refine wpAnyH_take (i := 22) (oi := ⟨some 184, _, _, _, _, _⟩) (v := ?_) rfl (by kernel_rfl) (by kernel_rfl) (by kernel_rfl) (fun _ _ _ h => h) (Or.inl ⟨by rfl, ?_⟩) hHeld ?_
            rotate_left
            · (intro wx hSw; (try dsimp only at hSw); go_simp; try with_reducible rfl)
            try simp only [Act.put, List.setIfInBounds_toArray, List.set_cons_zero, List.set_cons_succ]
            refine wpAnyH_take (i := 23) (oi := ⟨some 185, _, _, _, _, _⟩) (v := .string (strOfNums (l0.take D))) rfl (by kernel_rfl) (by kernel_rfl) (by kernel_rfl) (fun _ _ _ h => h) (Or.inl ⟨by rfl, ?_⟩) hHeld ?_
            · (intro wx hSw; have hv := run_str (HSLC.out wx hSw.1); (try dsimp only at hSw); go_simp)
            try simp only [Act.put, List.setIfInBounds_toArray, List.set_cons_zero, List.set_cons_succ]
            refine wpAnyH_ready (rs := [11]) (by kernel_rfl) (by simp) (AllReadyH.cons (o := ⟨some 173, _, _, _, _, _⟩) rfl (fun K hK => ?_) AllReadyH.nil)
            go_simp
            refine (HBYT.out _ hbd).mono ?_
            rintro e w4 ⟨v4, rfl, hv4, hb4⟩
            replace hbd := hbd.trans (hb4.mono hbd.size)
            clear hb4
            refine hK.out _ _ ?_ (fun hHeld => ?_)
            · exact HC.out _ hbd
            clear hK K
            try simp only [Act.put, List.setIfInBounds_toArray, List.set_cons_zero, List.set_cons_succ]
            refine heldMoreR (S2 := (fun W => (fun W => Below W9.heap.size W9 W ∧ W.cell? ⟨g, 0, none⟩ = some (.slice A9 m9.length c9) ∧ W.cell? ⟨g, 1, none⟩ = some (.bool false) ∧ W.cell? ⟨G4, 0, none⟩ = some (.int .u32 (v : Int)) ∧ W.cell? ⟨G4, 1, none⟩ = some iv ∧ W.cell? ⟨G4, 2, none⟩ = some ov ∧ W.cell? ⟨G4, 3, none⟩ = some (.int .u32 (k : Int))) W ∧ Sl W w4.heap.size v4 (bytesOf V))) (fun W h => h.1) _ _ _ _ ?_
            replace hHeld : ((fun W => (fun W => Below W9.heap.size W9 W ∧ W.cell? ⟨g, 0, none⟩ = some (.slice A9 m9.length c9) ∧ W.cell? ⟨g, 1, none⟩ = some (.bool false) ∧ W.cell? ⟨G4, 0, none⟩ = some (.int .u32 (v : Int)) ∧ W.cell? ⟨G4, 1, none⟩ = some iv ∧ W.cell? ⟨G4, 2, none⟩ = some ov ∧ W.cell? ⟨G4, 3, none⟩ = some (.int .u32 (k : Int))) W ∧ Sl W w4.heap.size v4 (bytesOf V))) _ := ⟨hHeld, hv4.sl _ (.inr (Nat.le_refl _))⟩
            refine wpAnyH_take (i := 12) (oi := ⟨some 174, _, _, _, _, _⟩) (v := .string (strOfNums (bytesOf V))) rfl (by kernel_rfl) (by kernel_rfl) (by kernel_rfl) (fun _ _ _ h => h) (Or.inl ⟨by rfl, ?_⟩) hHeld ?_
            · (intro wx hSw; have hv := run_str hSw.2; (try dsimp only at hSw); go_simp)
            try simp only [Act.put, List.setIfInBounds_toArray, List.set_cons_zero, List.set_cons_succ]
            refine wpAnyH_take (i := 24) (oi := ⟨some 186, _, _, _, _, _⟩) (v := ?_) rfl (by kernel_rfl) (by kernel_rfl) (by kernel_rfl) (fun _ _ _ h => h) (Or.inl ⟨by rfl, ?_⟩) hHeld ?_
            rotate_left
            · (intro wx hSw; (try dsimp only at hSw); go_simp; try with_reducible rfl)
            try simp only [Act.put, List.setIfInBounds_toArray, List.set_cons_zero, List.set_cons_succ]
            refine wpAnyH_take (i := 25) (oi := ⟨some 187, _, _, _, _, _⟩) (v := ?_) rfl (by kernel_rfl) (by kernel_rfl) (by kernel_rfl) (fun _ _ _ h => h) (Or.inl ⟨by rfl, ?_⟩) hHeld ?_
            rotate_left
            · (intro wx hSw; (try dsimp only at hSw); go_simp; try with_reducible rfl)
            try simp only [Act.put, List.setIfInBounds_toArray, List.set_cons_zero, List.set_cons_succ]
            refine wpAnyH_done (by kernel_rfl) ?_ _
            refine NoPanic.normal ?_
            go_wp2
            go_meet
            case rel => exact ⟨by rw [hmay, HNN.out.2.2.1]; rfl, ⟨hbd⟩⟩
      case rest =>
        obtain ⟨rfl, hBW⟩ := hcut
        obtain ⟨w11, rfl⟩ : ∃ W : World, W = wc := ⟨_, rfl⟩
        have hbw := hBW.out
        have hgl := HGL.out
        have hrt := HRT.out
        have HIT : Kp ((Try.prog.info? 26).map (·.size) = some 4) := ⟨by kernel_rfl⟩
        have HX11 := Kp.mk (HX9.out.below hbw)
        have hT11 := HT9.out.below hbw
        have HS11 := Kp.mk (HS9.out.below hbw)
        have HO11 := Kp.mk (HO9.out.trans (Only.of_below hbw))
        have HTO11 := Kp.mk (HTO.out.below hbw)
        have HXX := Kp.mk HK8.out.symm
        obtain ⟨F, hF⟩ : ∃ F, (mayB V && decide (bytesOf V = l0.take (l0.length - l9.length))) = F := ⟨_, rfl⟩
        rw [hF] at HXX ⊢
        clear hF hBW hbw HK8
        cases hbF : (!b9 && F) with
        | false =>
          have hnF : (b9 || !F) = true := by cases b9 <;> cases F <;> first | rfl | cases hbF
          rw [hnF]
          have hcell := HS11.out.flag
          obtain ⟨hS12, ho12⟩ := HS11.out.fail
          have hc1 := hcell.1
          have hc2 := hcell.2
          have hx12 := HX11.out.keep ho12 (by omega)
          have ho13 := HO11.out.trans ho12
          obtain ⟨W12, hW12⟩ : ∃ W, w11.setCell ⟨g, 1, none⟩ (.bool true) = W := ⟨_, rfl⟩
          have HW12 := Kp.mk hW12
          rw [hW12] at hS12 hx12 ho13
          have HX12 := Kp.mk hx12
          have hgr : W12.grownBy (W12.setRow R0 #[.int .u32 0, .slice none 0 0, .slice none 0 0, .int .u32 0]) (some R0) := setRow_grown _ _ _
          have HEND : Kp (ReadG g x w (.returned (.tuple #[.agg #[.int .u32 0, .slice none 0 0, .slice none 0 0, .int .u32 0], .bool false])) (W12.setRow R0 #[.int .u32 0, .slice none 0 0, .slice none 0 0, .int .u32 0])) := ⟨by
            rw [HXX.out, hbF]
            exact ⟨_, rfl, ho13.setRow (by omega) _, ⟨_, _, rfl, (by decide : (0 : Nat) < 4294967296), (by decide : (0 : Nat) < 4294967296), OwnMany.nil _ _ _ _ _, OwnMany.nil _ _ _ _ _⟩, hS12.grown hgr (fun q e => by have := Option.some.inj e; omega)⟩⟩
          have HROW : Kp ((W12.setRow R0 #[.int .u32 0, .slice none 0 0, .slice none 0 0, .int .u32 0]).heap[R0]? = some (.cells #[.int .u32 0, .slice none 0 0, .slice none 0 0, .int .u32 0] 26 (0, 0))) := ⟨setRow_box hx12 _⟩
          clear hcell hS12 ho12 hx12 ho13 hgr hW12 hT11
          go_upto_region 33 with fail
          (try rw [HW12.out])
          go_wp2_with (refine wpList_store_row rfl 26 (.tmp 2) (.tmp 191) rfl R0 #[.int .u32 0, .slice none 0 0, .slice none 0 0, .int .u32 0] rfl rfl 26 zTx HX12.out HIT.out rfl (by simp [Value.oneCell']) ?_)
          exact bodyPost_ret (results_cell_row2 (p := 2) (u := 3) (by rfl) _ _ R0 26 _ _ _ (.bool false) rfl rfl HROW.out Try.underlying26 rfl HIT.out) rfl HEND.out
        | true =>
          have hnF : (b9 || !F) = false := by cases b9 <;> cases F <;> first | rfl | cases hbF
          have hb9 : b9 = false := by cases b9 <;> cases F <;> first | rfl | cases hbF
          rw [hnF]
          have hgr : w11.grownBy (w11.setRow R0 #[.int .u32 (v : Int), iv, ov, .int .u32 (k : Int)]) (some R0) := setRow_grown _ _ _
          have htx := HTO11.out
          have HEND : Kp (ReadG g x w (.returned (.tuple #[.agg #[.int .u32 (v : Int), iv, ov, .int .u32 (k : Int)], .bool true])) (w11.setRow R0 #[.int .u32 (v : Int), iv, ov, .int .u32 (k : Int)])) := ⟨by
            rw [HXX.out, hbF]
            subst hb9
            refine ⟨_, rfl, HO11.out.setRow (by omega) _, ?_, HS11.out.grown hgr (fun q e => by have := Option.some.inj e; omega)⟩
            have hkr : Keeps [47, 51, 5, 27] w11 (w11.setRow R0 #[.int .u32 (v : Int), iv, ov, .int .u32 (k : Int)]) := Keeps.of_setRow HX11.out (by decide) _
            exact htx.turn' hkr (by decide) (by decide) (by decide) (by decide) HB9.out.1⟩
          have HROW : Kp ((w11.setRow R0 #[.int .u32 (v : Int), iv, ov, .int .u32 (k : Int)]).heap[R0]? = some (.cells #[.int .u32 (v : Int), iv, ov, .int .u32 (k : Int)] 26 (0, 0))) := ⟨setRow_box HX11.out _⟩
          obtain ⟨iv0, ov0, ev, _, _, hiv, hov⟩ := htx
          obtain ⟨rfl, rfl⟩ : iv = iv0 ∧ ov = ov0 := by
            injection ev with ev
            injection ev with ev
            injection ev with _ ev
            injection ev with e1 ev
            injection ev with e2 _
            exact ⟨e1, e2⟩
          obtain ⟨Ai, ci, hiv⟩ := hiv.slice
          obtain ⟨Ao, co, hov⟩ := hov.slice
          have HONE : Kp ((#[.int .u32 (v : Int), iv, ov, .int .u32 (k : Int)] : Array Value).all (·.oneCell') = true) := ⟨by rw [hiv, hov]; simp [Value.oneCell']⟩
          have t0 := hT11.cell 0
          have t1 := hT11.cell 1
          have t2 := hT11.cell 2
          have t3 := hT11.cell 3
          clear hgr hiv hov ev hT11
          go_wp2_with (refine wpList_store_row rfl 26 (.tmp 2) (.tmp 192) rfl R0 #[.int .u32 (v : Int), iv, ov, .int .u32 (k : Int)] rfl rfl 26 zTx HX11.out HIT.out rfl HONE.out ?_)
          exact bodyPost_ret (results_cell_row2 (p := 2) (u := 3) (by rfl) _ _ R0 26 _ _ _ (.bool true) rfl rfl HROW.out Try.underlying26 rfl HIT.out) rfl HEND.out
/-- What Read answers, as the program's does. -/
def DecG (g : Nat) (y : Rest (TxD × Bool)) (w : World) (e : Ending) (w' : World) : Prop := ∃ v, e = .returned (.tuple #[v, .bool y.1.2]) ∧ Only g w w' ∧ TxO w' w.heap.size v y.1.1 ∧ Sg w' g y.2.1 y.2.2
theorem gread_same (g : Nat) (w : World) (l : List Int) (h : Sg w g l false) : Calls Try.prog 18 #[.pointer (some ⟨g, 0, none⟩)] w (DecG g (pRead l false) w) := by
  refine (gread_any g w l h).mono ?_
  rintro e w' ⟨v, rfl, ho, ht, hs⟩
  obtain ⟨h1, h2⟩ := qTx_pTx l h.bys false
  unfold pRead
  cases hp : (pTx l false).1.2 with
  | true =>
    have h3 := h2 hp
    rw [h3] at ht hs ⊢
    rw [hp] at ht hs
    have h4 := (pTx_was l h.bys false hp).2.1
    refine ⟨v, by rw [hp]; rfl, ho, ht, ?_⟩
    have h5 : (pTx l false).2.2 = false := h4
    simp only [if_true]
    rw [h5]
    exact hs
  | false =>
    have h3 : (qTx l false).1.2 = false := h1.trans hp
    rw [h3] at ht hs ⊢
    exact ⟨v, rfl, ho, ht, hs⟩


theorem Sl.su {w w' : World} {g0 g : Nat} {v : Value} {l : List Int} (h : Sl w g0 v l) (hg : w.heap.size ≤ g) (hb : Below w.heap.size w w') : Su w' g v l := by
  obtain ⟨A, c, rfl, hc, hn, hr⟩ := h
  refine ⟨A, c, rfl, hc, hn, fun hl => ?_⟩
  obtain ⟨b, off, rfl, _, hlt, hrun⟩ := hr hl
  exact ⟨b, off, rfl, by omega, by have := hb.size; omega, fun i hi => (World.cell?_of_block (hb.block b hlt)).trans (hrun i hi)⟩
/-- A Reader that is new, over bytes that were there. -/
theorem Sg.fresh {w w0 : World} {v : Value} {l : List Int} (h : Rb w v l) (hl : l.length ≤ 140737488354000) (hb : Below w.heap.size w w0) (hz : w.heap.size ≤ w0.heap.size) : Sg (w0.alloc (.cells #[v, .bool false] 40)) w0.heap.size l false :=
  ⟨v, l, Box.fresh _ _ _, h.1.su hz (hb.trans ((Below.refl _ _).alloc hz _)), h.2.1, hl, fun _ => rfl, fun e => by cases e⟩

set_option maxRecDepth 1000000 in
set_option maxHeartbeats 4000000 in
theorem refparse_any (w : World) (v : Value) (l : List Int) (h : Rb w v l) (hl : l.length ≤ 140737488354000) : Calls Try.prog 15 #[v] w (ParP (pParse l) w) := by
  have hb2 : Below w.heap.size w (w.alloc (.cells zTx 26)) := (Below.refl _ _).alloc (Nat.le_refl _) _
  have hb3 : Below w.heap.size w ((w.alloc (.cells zTx 26)).alloc (.cells #[v, .bool false] 40)) := hb2.alloc (by simp) _
  have HX1 : Kp (Box ((w.alloc (.cells zTx 26)).alloc (.cells #[v, .bool false] 40)) w.heap.size 26 zTx) := ⟨(Box.fresh w _ _).below ((Below.refl _ _).alloc (Nat.le_refl _) _)⟩
  have HB1 := Kp.mk hb3
  have HR1 : Kp (Sg ((w.alloc (.cells zTx 26)).alloc (.cells #[v, .bool false] 40)) (w.heap.size + 1) l false) := ⟨by
    have h1 := Sg.fresh h hl hb2 (by simp)
    rw [show (w.alloc (.cells zTx 26)).heap.size = w.heap.size + 1 by simp] at h1
    exact h1⟩
  have HZ : Kp (#[Value.int IntKind.u32 0, Value.slice none 0 0, Value.slice none 0 0, Value.int IntKind.u32 0] = zTx) := ⟨rfl⟩
  have HE : Kp (pParse l = if (pRead l false).1.2 && (pRead l false).2.1.isEmpty then ((pRead l false).1.1, true) else (noTx, false)) := ⟨rfl⟩
  have HPR : Kp ((pRead l false).1.2 = true → (pRead l false).2.2 = false) := ⟨fun e => by
    unfold pRead at e ⊢
    split at e
    · rename_i h2
      rw [if_pos h2]
      exact pTx_good h2
    · cases e⟩
  have HIT2 : Kp ((Try.prog.info? 26).map (·.size) = some 4) := ⟨by kernel_rfl⟩
  obtain ⟨g, hg⟩ : ∃ g, w.heap.size + 1 = g := ⟨_, rfl⟩
  have HG : Kp (w.heap.size + 1 = g ∧ w.heap.size ≤ g) := ⟨by omega⟩
  rw [hg] at HR1
  have HT := Kp.mk (gread_same g _ l HR1.out)
  obtain ⟨w1, hw1⟩ : ∃ W, (w.alloc (.cells zTx 26)).alloc (.cells #[v, .bool false] 40) = W := ⟨_, rfl⟩
  have HW1 := Kp.mk hw1
  rw [hw1] at HX1 HB1 HR1 HT
  obtain ⟨⟨A, c, rfl, _⟩, _⟩ := h
  clear hb2 hb3 hl hw1
  go_enter Try.func15, Try.ntmps15
  go_wp2_with fail
  (try rw [HZ.out])
  (try rw [HW1.out])
  clear hg
  generalize pRead l false = X at *
  obtain ⟨⟨t, ok⟩, l', b'⟩ := X
  simp only at HE HPR
  refine HT.out.mono ?_
  rintro e w2 ⟨v2, rfl, ho2, ⟨iv, ov, rfl, hv, hk, hi, ho⟩, hr2⟩
  have hx2 := HX1.out.keep ho2 (by have := HG.out.1; omega)
  have hbb2 : Below w.heap.size w w2 := Only.below HB1.out ho2 HG.out.2
  have hba : Below w2.heap.size w2 (w2.alloc (.cells #[.int .u32 (t.version : Int), iv, ov, .int .u32 (t.lock : Int)] 26)) := (Below.refl _ _).alloc (Nat.le_refl _) _
  have htx : TxO (w2.alloc (.cells #[.int .u32 (t.version : Int), iv, ov, .int .u32 (t.lock : Int)] 26)) w.heap.size (.agg #[.int .u32 (t.version : Int), iv, ov, .int .u32 (t.lock : Int)]) t :=
    TxO.turn (ts := [5, 27, 47, 51]) ⟨iv, ov, rfl, hv, hk, hi, ho⟩ (Keeps.of_below _ hba) (by decide) (by decide) (by decide) (by decide) HB1.out.size
  obtain ⟨Ai, ci, rfl⟩ := hi.slice
  obtain ⟨Ao, co, rfl⟩ := ho.slice
  have HTX := Kp.mk htx
  have HX2 : Kp (Box (w2.alloc (.cells #[.int .u32 (t.version : Int), .slice Ai t.ins.length ci, .slice Ao t.outs.length co, .int .u32 (t.lock : Int)] 26)) w.heap.size 26 zTx) := ⟨hx2.below hba⟩
  have HXX : Kp ((w2.alloc (.cells #[.int .u32 (t.version : Int), .slice Ai t.ins.length ci, .slice Ao t.outs.length co, .int .u32 (t.lock : Int)] 26)).heap[w.heap.size]? = some (.cells zTx 26 (0, 0))) := ⟨hx2.below hba⟩
  have HR2 : Kp (Sg (w2.alloc (.cells #[.int .u32 (t.version : Int), .slice Ai t.ins.length ci, .slice Ao t.outs.length co, .int .u32 (t.lock : Int)] 26)) g l' b') := ⟨hr2.below hba⟩
  have HB2 : Kp (Below w.heap.size w (w2.alloc (.cells #[.int .u32 (t.version : Int), .slice Ai t.ins.length ci, .slice Ao t.outs.length co, .int .u32 (t.lock : Int)] 26))) := ⟨hbb2.trans (hba.mono hbb2.size)⟩
  have hzz : w.heap.size ≠ w2.heap.size := fun e => by have := hx2.lt; omega
  clear ho2 hv hk hi ho hr2 hx2 hbb2 hba htx HT HX1 HB1 HR1
  have HNO : Kp (∀ (W : World), Below w.heap.size w W → Box W w.heap.size 26 zTx → ParP (noTx, false) w (.returned (.tuple #[.agg zTx, .bool false])) (W.setRow w.heap.size zTx) ∧ (W.setRow w.heap.size zTx).heap[w.heap.size]? = some (.cells zTx 26 (0, 0))) := ⟨fun W hb hx =>
    ⟨⟨_, rfl, hb.trans (Below.setRow_self (Nat.le_refl _) _), ⟨_, _, rfl, by show (0 : Nat) < 4294967296; decide, by show (0 : Nat) < 4294967296; decide, OwnMany.nil _ _ _ _ _, OwnMany.nil _ _ _ _ _⟩⟩, setRow_box hx _⟩⟩
  cases ok with
  | false =>
    rw [show ((false && l'.isEmpty) = false) from rfl, if_neg (by simp)] at HE
    rw [← HE.out] at HNO
    have HN := HNO.out _ HB2.out HX2.out
    have HN1 := Kp.mk HN.1
    have HN2 := Kp.mk HN.2
    clear HN HNO
    go_wp2_with (refine wpList_store_row rfl 26 (.tmp 2) (.tmp 22) rfl w.heap.size #[.int .u32 0, .slice none 0 0, .slice none 0 0, .int .u32 0] rfl rfl 26 zTx HXX.out HIT2.out rfl (by simp [Value.oneCell']) ?_)
    exact bodyPost_ret (results_cell_row2 (p := 2) (u := 3) (by rfl) _ _ w.heap.size 26 _ _ _ (.bool false) rfl rfl HN2.out Try.underlying26 rfl HIT2.out) rfl HN1.out
  | true =>
    obtain rfl : b' = false := HPR.out rfl
    have HEG := Kp.mk (gend_any g _ l' false HR2.out)
    cases hem : l'.isEmpty with
    | false =>
      rw [hem, show ((true && false) = false) from rfl, if_neg (by simp)] at HE
      rw [hem] at HEG
      rw [← HE.out] at HNO
      have HN := HNO.out _ HB2.out HX2.out
      have HN1 := Kp.mk HN.1
      have HN2 := Kp.mk HN.2
      clear HN HNO hem
      go_wp2_with (first | (go_at_call 21; refine HEG.out.mono ?_; rintro e w5 ⟨rfl, rfl⟩) | (refine wpList_store_row rfl 26 (.tmp 2) (.tmp 22) rfl w.heap.size #[.int .u32 0, .slice none 0 0, .slice none 0 0, .int .u32 0] rfl rfl 26 zTx HXX.out HIT2.out rfl (by simp [Value.oneCell']) ?_))
      exact bodyPost_ret (results_cell_row2 (p := 2) (u := 3) (by rfl) _ _ w.heap.size 26 _ _ _ (.bool false) rfl rfl HN2.out Try.underlying26 rfl HIT2.out) rfl HN1.out
    | true =>
      rw [hem, show ((true && true) = true) from rfl, if_pos rfl] at HE
      rw [hem] at HEG
      clear HNO hem
      have hk5 : Keeps [5, 27, 47, 51, 69] (w2.alloc (.cells #[.int .u32 (t.version : Int), .slice Ai t.ins.length ci, .slice Ao t.outs.length co, .int .u32 (t.lock : Int)] 26)) ((w2.alloc (.cells #[.int .u32 (t.version : Int), .slice Ai t.ins.length ci, .slice Ao t.outs.length co, .int .u32 (t.lock : Int)] 26)).setRow w.heap.size #[.int .u32 (t.version : Int), .slice Ai t.ins.length ci, .slice Ao t.outs.length co, .int .u32 (t.lock : Int)]) := Keeps.of_setRow HX2.out (by decide) _
      have HXR : Kp (((w2.alloc (.cells #[.int .u32 (t.version : Int), .slice Ai t.ins.length ci, .slice Ao t.outs.length co, .int .u32 (t.lock : Int)] 26)).setRow w.heap.size #[.int .u32 (t.version : Int), .slice Ai t.ins.length ci, .slice Ao t.outs.length co, .int .u32 (t.lock : Int)]).heap[w.heap.size]? = some (.cells #[.int .u32 (t.version : Int), .slice Ai t.ins.length ci, .slice Ao t.outs.length co, .int .u32 (t.lock : Int)] 26 (0, 0))) := ⟨setRow_box HX2.out _⟩
      have HFIN : Kp (ParP (pParse l) w (.returned (.tuple #[.agg #[.int .u32 (t.version : Int), .slice Ai t.ins.length ci, .slice Ao t.outs.length co, .int .u32 (t.lock : Int)], .bool true])) ((w2.alloc (.cells #[.int .u32 (t.version : Int), .slice Ai t.ins.length ci, .slice Ao t.outs.length co, .int .u32 (t.lock : Int)] 26)).setRow w.heap.size #[.int .u32 (t.version : Int), .slice Ai t.ins.length ci, .slice Ao t.outs.length co, .int .u32 (t.lock : Int)])) := ⟨by
        rw [HE.out]
        exact ⟨_, rfl, HB2.out.trans (Below.setRow_self (Nat.le_refl _) _), HTX.out.turn hk5 (by decide) (by decide) (by decide) (by decide) (Nat.le_refl _)⟩⟩
      clear hk5
      go_wp2_with (first | (go_at_call 21; refine HEG.out.mono ?_; rintro e w5 ⟨rfl, rfl⟩) | (refine wpList_store_row rfl 26 (.tmp 2) (.tmp 23) rfl w.heap.size #[.int .u32 (t.version : Int), .slice Ai t.ins.length ci, .slice Ao t.outs.length co, .int .u32 (t.lock : Int)] rfl rfl 26 zTx HXX.out HIT2.out rfl (by simp [Value.oneCell']) ?_))
      exact bodyPost_ret (results_cell_row2 (p := 2) (u := 3) (by rfl) _ _ w.heap.size 26 _ _ _ (.bool true) rfl rfl HXR.out Try.underlying26 rfl HIT2.out) rfl HFIN.out
end Go.Proofs.Ytojeonepplfhlaa
