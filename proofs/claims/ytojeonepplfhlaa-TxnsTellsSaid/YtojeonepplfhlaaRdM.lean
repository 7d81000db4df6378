/- The document's own Read: what its loops need. The document's own Read: its second loop (outputs). The document's own Read: its first loop (inputs). Regions whose order is drawn, by states (also in ClU, for the seat of layer 6). The document's own Read: its innermost loop (one input's witness). -/
import Derived.Test.YtojeonepplfhlaaRgD
import Derived.Test.YtojeonepplfhlaaTxU
import Derived.Test.YtojeonepplfhlaaTxN
import Derived.Deep.DeepCutAuto
import Derived.Deep.RegionHeld3
import Derived.Test.YtojeonepplfhlaaRows
namespace Go.Proofs.Ytojeonepplfhlaa
open Go.RowKit


/-- The loops of a piece of code, in the order of the text. -/
def loopsOf : Code → List Code
  | .loop c => .loop c :: loopsOf c
  | .seq a b => loopsOf a ++ loopsOf b
  | .block _ c => loopsOf c
  | .scope c => loopsOf c
  | .cond _ a b => loopsOf a ++ loopsOf b
  | _ => []
noncomputable def readLoop (k : Nat) : Code := ((Try.f18.body.map loopsOf).getD []).getD k .skip
/-- Take answers what 'took' says. -/
def TookG (g : Nat) (r : Rest (List Int)) (w : World) (e : Ending) (w' : World) : Prop := ∃ v, e = .returned v ∧ Only g w w' ∧ Own w' w.heap.size 5 v r.1 ∧ Bys r.1 ∧ Sg w' g r.2.1 r.2.2
theorem Sg.empty {w : World} {g : Nat} {l : List Int} (h : Sg w g l true) : l = [] := by
  obtain ⟨_, _, _, _, _, _, _, h2⟩ := h
  exact h2 rfl
set_option maxRecDepth 100000 in
theorem gtake_any (g : Nat) (w : World) (l : List Int) (bad : Bool) (n : Nat) (h : Sg w g l bad) :
    Calls Try.prog 44 #[.pointer (some ⟨g, 0, none⟩), .int .i64 (n : Int)] w (TookG g (took l bad n) w) := by
  have hy := h.bys
  cases bad with
  | true =>
    have hl := h.empty
    subst hl
    refine (gtake_bad g w [] n h).mono ?_
    rintro e w' ⟨v, rfl, ho, hc⟩
    rcases hc with ⟨h0, _⟩ | ⟨_, h1, h2⟩
    · cases h0
    · refine ⟨v, rfl, ho, ?_⟩
      unfold took
      split
      · exact ⟨by simpa using h1, by simpa using Bys.nil, by simpa using h2⟩
      · exact ⟨h1, Bys.nil, h2⟩
  | false =>
    by_cases hn : n ≤ l.length
    · refine (gtake_yes g w l n h hn).mono ?_
      rintro e w' ⟨v, rfl, ho, hc⟩
      unfold took
      rw [if_pos hn]
      rcases hc with ⟨_, _, _, h1, h2⟩ | ⟨h0, _⟩
      · exact ⟨v, rfl, ho, by simpa using h1, hy.take n, by simpa using h2⟩
      · exfalso
        rcases h0 with h0 | h0 | h0
        · cases h0
        · omega
        · omega
    · refine (gtake_no g w l n h (by omega)).mono ?_
      rintro e w' ⟨v, rfl, ho, hc⟩
      unfold took
      rw [if_neg hn]
      rcases hc with ⟨_, _, h0, _⟩ | ⟨_, h1, h2⟩
      · omega
      · exact ⟨v, rfl, ho, h1, Bys.nil, h2⟩
/-- All but the blocks g and T is as it was. -/
structure But2 (g T : Nat) (w w' : World) : Prop where
  os : w'.os = w.os
  tape : w'.tape = w.tape
  output : w'.output = w.output
  size : w.heap.size ≤ w'.heap.size
  block : ∀ k, k < w.heap.size → k ≠ g → k ≠ T → w'.heap[k]? = w.heap[k]?
theorem But2.refl (g T : Nat) (w : World) : But2 g T w w := ⟨rfl, rfl, rfl, Nat.le_refl _, fun _ _ _ _ => rfl⟩
theorem But2.only {g T : Nat} {w w1 w2 : World} (h : But2 g T w w1) (k : Only g w1 w2) : But2 g T w w2 :=
  ⟨k.os.trans h.os, k.tape.trans h.tape, k.output.trans h.output, Nat.le_trans h.size k.size, fun j hj hg ht => (k.block j (Nat.lt_of_lt_of_le hj h.size) (by simpa using hg)).trans (h.block j hj hg ht)⟩
theorem But2.below {g T : Nat} {w w1 w2 : World} (h : But2 g T w w1) (k : Below w1.heap.size w1 w2) : But2 g T w w2 := h.only (Only.of_below k)
theorem But2.grown {g T : Nat} {w w1 w2 : World} {row : Option Nat} (h : But2 g T w w1) (k : w1.grownBy w2 row) (hr : ∀ q, row = some q → w.heap.size ≤ q) : But2 g T w w2 :=
  ⟨k.os.trans h.os, k.tape.trans h.tape, k.output.trans h.output, Nat.le_trans h.size k.size, fun j hj hg ht => (k.block j (Nat.lt_of_lt_of_le hj h.size) (fun e => by have := hr j e.symm; omega)).trans (h.block j hj hg ht)⟩
theorem But2.set {g T : Nat} {w w1 : World} (h : But2 g T w w1) (i : Nat) (u : Value) : But2 g T w (w1.setCell ⟨T, i, none⟩ u) := by
  have hs : w1.grownBy (w1.setCell ⟨T, i, none⟩ u) (some T) := (Only.refl T w1).set i u
  exact ⟨hs.os.trans h.os, hs.tape.trans h.tape, hs.output.trans h.output, Nat.le_trans h.size hs.size, fun j hj hg ht => (hs.block j (Nat.lt_of_lt_of_le hj h.size) (by simpa using ht)).trans (h.block j hj hg ht)⟩
/-- The Reader stays where all up to its block does. -/
theorem Sg.low {w w' : World} {g : Nat} {l : List Int} {bad : Bool} (h : Sg w g l bad) (hk : ∀ k, k < w.heap.size → k ≤ g → w'.heap[k]? = w.heap[k]?) (hz : w.heap.size ≤ w'.heap.size) : Sg w' g l bad := by
  obtain ⟨sv, l0, hx, hs, r⟩ := h
  exact ⟨sv, l0, (hk g hx.lt (Nat.le_refl _)).trans hx, hs.keep (fun b hb hlt => hk b hb (Nat.le_of_lt hlt)) hz, r⟩
theorem Sg.grown {w w' : World} {g : Nat} {l : List Int} {bad : Bool} {row : Option Nat} (h : Sg w g l bad) (hk : w.grownBy w' row) (hr : ∀ q, row = some q → g < q) : Sg w' g l bad :=
  h.low (fun k hk' hg => hk.block k hk' (fun e => by have := hr k e.symm; omega)) hk.size
theorem Sg.set {w : World} {g T : Nat} {l : List Int} {bad : Bool} (h : Sg w g l bad) (hT : g < T) (i : Nat) (u : Value) : Sg (w.setCell ⟨T, i, none⟩ u) g l bad :=
  h.grown (row := some T) ((Only.refl T w).set i u) (fun q e => by have := Option.some.inj e; omega)
theorem Sg.bad {w : World} {g : Nat} {l : List Int} {bad : Bool} (h : Sg w g l bad) : w.cell? ⟨g, 1, none⟩ = some (.bool bad) := by
  obtain ⟨sv, l0, hx, _⟩ := h
  exact hx.cell 1
/-- One more of them. -/
theorem qMany_step {α : Type} {f : List Int → Bool → Rest α} {n : Nat} {l0 l : List Int} {b0 : Bool} {xs : List α} {j : Nat} (hj : j < n)
    (h : qMany f n l0 b0 = (xs ++ (qMany f (n - j) l false).1, (qMany f (n - j) l false).2)) : qMany f n l0 b0 = ((xs ++ [(f l false).1]) ++ (qMany f (n - (j + 1)) (f l false).2.1 (f l false).2.2).1, (qMany f (n - (j + 1)) (f l false).2.1 (f l false).2.2).2) := by
  obtain ⟨m, hm⟩ : ∃ m, n - j = m + 1 := ⟨n - j - 1, by omega⟩
  rw [h, hm, show n - (j + 1) = m by omega]
  simp [qMany]


theorem OwnMany.kept {α : Type} {k e : Nat} {R R' : List Value → α → Prop} {w w' : World} {B : Nat} {v : Value} {ds : List α} {row : Option Nat} (h : OwnMany k e R w B v ds) (hg : w.grownBy w' row) (hr : ∀ q, row = some q → q < B) (hR : ∀ cs d, R cs d → R' cs d) : OwnMany k e R' w' B v ds := by
  obtain ⟨css, ho, hl, hcs⟩ := h
  refine ⟨css, World.ownsRow.kept ho hg ?_, hl, fun i cs d h1 h2 => ⟨(hcs i cs d h1 h2).1, hR cs d (hcs i cs d h1 h2).2⟩⟩
  cases hv : v.ownBlock with
  | none => exact .inl rfl
  | some q => exact .inr fun e => by have h1 := (World.ownsRow.lt ho q hv).1; have h2 := hr q e.symm; omega
theorem Own.kept {w w' : World} {B e : Nat} {v : Value} {l : List Int} {row : Option Nat} (h : Own w B e v l) (hg : w.grownBy w' row) (hr : ∀ q, row = some q → q < B) : Own w' B e v l := by
  refine h.keep hg ?_
  cases hv : v.ownBlock with
  | none => exact .inl rfl
  | some q => exact .inr fun e => by have h1 := (World.ownsRow.lt h q hv).1; have h2 := hr q e.symm; omega
theorem OutO.kept {w w' : World} {B : Nat} {cs : List Value} {d : OutD} {row : Option Nat} (h : OutO w B cs d) (hg : w.grownBy w' row) (hr : ∀ q, row = some q → q < B) : OutO w' B cs d := by
  obtain ⟨sv, rfl, hf, h1, h2⟩ := h
  exact ⟨sv, rfl, hf, h1.kept hg hr, h2⟩
/-- A store into a block that is new. -/
theorem Only.set_new {g Y : Nat} {w w1 : World} (h : Only g w w1) (hY : w.heap.size ≤ Y) (i : Nat) (u : Value) : Only g w (w1.setCell ⟨Y, i, none⟩ u) := by
  have hs : w1.grownBy (w1.setCell ⟨Y, i, none⟩ u) (some Y) := (Only.refl Y w1).set i u
  exact ⟨hs.os.trans h.os, hs.tape.trans h.tape, hs.output.trans h.output, Nat.le_trans h.size hs.size, fun j hj hne => (hs.block j (Nat.lt_of_lt_of_le hj h.size) (by simp; omega)).trans (h.block j hj hne)⟩

set_option maxRecDepth 10000000 in
set_option maxHeartbeats 8000000 in
theorem readLoop2 (g T m : Nat) (w1 : World) (l0 : List Int) (b0 : Bool) (va iv vz : Value) (Q : Exit → Act → World → Prop) (s1 s2 s3 s4 s6 s7 s8 s9 s12 s13 s14 s15 s16 s17 s18 s19 s20 s21 s22 s23 s24 s25 s26 s27 s28 s29 s30 s31 s32 s33 s34 s35 s36 s37 s38 s39 s40 s41 s42 s43 s44 s45 s46 s47 s48 s49 s50 s51 s52 s53 s54 s55 s56 s57 s58 s59 s60 s61 s62 s63 s64 s65 s66 s67 s68 s69 s70 s71 s72 s73 s74 s75 s76 s77 s78 s79 s80 s81 s82 s83 s84 s85 s86 s87 s88 s89 s90 s91 s92 s93 s94 s95 s96 s97 s98 s99 s100 s101 s102 s103 s104 s105 s106 s107 s108 s109 s110 s111 s112 s113 s114 s115 s116 s117 s118 s119 s120 s121 s122 s123 s124 s125 s126 s127 s128 s129 s130 s131 s132 s133 s134 s135 s136 s137 s138 s139 s140 s141 s142 s143 s144 s145 s146 s147 s148 s149 s150 s151 s152 s153 s154 s155 s156 s157 s158 s159 s160 s161 s162 s163 s164 s165 s166 s167 s168 s169 s170 s171 s172 s173 s174 s175 s176 s177 s178 s179 s180 s181 s182 s183 s184 s185 s186 s187 s188 s189 s190 s191 s192 : Value)
    (HS : Kp (Sg w1 g l0 b0)) (HT : Kp (Box w1 T 26 #[va, iv, .slice none 0 0, vz])) (HG : Kp (g < T ∧ T < w1.heap.size)) (HM : Kp (m ≤ 50))
    (hexit : ∀ (t11 t12 t88 t89 t90 t91 t92 t93 t94 t95 t96 t97 t98 t99 t100 t101 t102 t103 t104 t105 t106 t107 t108 t109 t110 t111 t112 t113 : Value) (w' : World), (∃ ov, Kp (Sg w' g (qMany pOut m l0 b0).2.1 (qMany pOut m l0 b0).2.2 ∧ OwnMany 2 51 (OutO w' w1.heap.size) w' w1.heap.size ov (qMany pOut m l0 b0).1 ∧ Box w' T 26 #[va, iv, ov, vz] ∧ But2 g T w1 w')) → Q (.exit 2) ⟨(List.toArray (.pointer (some ⟨g, 0, none⟩) :: s1 :: s2 :: s3 :: s4 :: .pointer (some ⟨T, 0, none⟩) :: s6 :: s7 :: s8 :: s9 :: .int .i64 (m : Int) :: t11 :: t12 :: s13 :: s14 :: s15 :: s16 :: s17 :: s18 :: s19 :: s20 :: s21 :: s22 :: s23 :: s24 :: s25 :: s26 :: s27 :: s28 :: s29 :: s30 :: s31 :: s32 :: s33 :: s34 :: s35 :: s36 :: s37 :: s38 :: s39 :: s40 :: s41 :: s42 :: s43 :: s44 :: s45 :: s46 :: s47 :: s48 :: s49 :: s50 :: s51 :: s52 :: s53 :: s54 :: s55 :: s56 :: s57 :: s58 :: s59 :: s60 :: s61 :: s62 :: s63 :: s64 :: s65 :: s66 :: s67 :: s68 :: s69 :: s70 :: s71 :: s72 :: s73 :: s74 :: s75 :: s76 :: s77 :: s78 :: s79 :: s80 :: s81 :: s82 :: s83 :: s84 :: s85 :: s86 :: s87 :: t88 :: t89 :: t90 :: t91 :: t92 :: t93 :: t94 :: t95 :: t96 :: t97 :: t98 :: t99 :: t100 :: t101 :: t102 :: t103 :: t104 :: t105 :: t106 :: t107 :: t108 :: t109 :: t110 :: t111 :: t112 :: t113 :: s114 :: s115 :: s116 :: s117 :: s118 :: s119 :: s120 :: s121 :: s122 :: s123 :: s124 :: s125 :: s126 :: s127 :: s128 :: s129 :: s130 :: s131 :: s132 :: s133 :: s134 :: s135 :: s136 :: s137 :: s138 :: s139 :: s140 :: s141 :: s142 :: s143 :: s144 :: s145 :: s146 :: s147 :: s148 :: s149 :: s150 :: s151 :: s152 :: s153 :: s154 :: s155 :: s156 :: s157 :: s158 :: s159 :: s160 :: s161 :: s162 :: s163 :: s164 :: s165 :: s166 :: s167 :: s168 :: s169 :: s170 :: s171 :: s172 :: s173 :: s174 :: s175 :: s176 :: s177 :: s178 :: s179 :: s180 :: s181 :: s182 :: s183 :: s184 :: s185 :: s186 :: s187 :: s188 :: s189 :: s190 :: s191 :: s192 :: [])), []⟩ w') :
    Code.wp Try.prog (readLoop 1) Q ⟨(List.toArray (.pointer (some ⟨g, 0, none⟩) :: s1 :: s2 :: s3 :: s4 :: .pointer (some ⟨T, 0, none⟩) :: s6 :: s7 :: s8 :: s9 :: .int .i64 (m : Int) :: .int .i64 0 :: s12 :: s13 :: s14 :: s15 :: s16 :: s17 :: s18 :: s19 :: s20 :: s21 :: s22 :: s23 :: s24 :: s25 :: s26 :: s27 :: s28 :: s29 :: s30 :: s31 :: s32 :: s33 :: s34 :: s35 :: s36 :: s37 :: s38 :: s39 :: s40 :: s41 :: s42 :: s43 :: s44 :: s45 :: s46 :: s47 :: s48 :: s49 :: s50 :: s51 :: s52 :: s53 :: s54 :: s55 :: s56 :: s57 :: s58 :: s59 :: s60 :: s61 :: s62 :: s63 :: s64 :: s65 :: s66 :: s67 :: s68 :: s69 :: s70 :: s71 :: s72 :: s73 :: s74 :: s75 :: s76 :: s77 :: s78 :: s79 :: s80 :: s81 :: s82 :: s83 :: s84 :: s85 :: s86 :: s87 :: s88 :: s89 :: s90 :: s91 :: s92 :: s93 :: s94 :: s95 :: s96 :: s97 :: s98 :: s99 :: s100 :: s101 :: s102 :: s103 :: s104 :: s105 :: s106 :: s107 :: s108 :: s109 :: s110 :: s111 :: s112 :: s113 :: s114 :: s115 :: s116 :: s117 :: s118 :: s119 :: s120 :: s121 :: s122 :: s123 :: s124 :: s125 :: s126 :: s127 :: s128 :: s129 :: s130 :: s131 :: s132 :: s133 :: s134 :: s135 :: s136 :: s137 :: s138 :: s139 :: s140 :: s141 :: s142 :: s143 :: s144 :: s145 :: s146 :: s147 :: s148 :: s149 :: s150 :: s151 :: s152 :: s153 :: s154 :: s155 :: s156 :: s157 :: s158 :: s159 :: s160 :: s161 :: s162 :: s163 :: s164 :: s165 :: s166 :: s167 :: s168 :: s169 :: s170 :: s171 :: s172 :: s173 :: s174 :: s175 :: s176 :: s177 :: s178 :: s179 :: s180 :: s181 :: s182 :: s183 :: s184 :: s185 :: s186 :: s187 :: s188 :: s189 :: s190 :: s191 :: s192 :: [])), []⟩ w1 := by
  conv => arg 2; whnf
  go_loopw [11] (fun i wr => ∃ (j : Nat) (os : List OutD) (ov : Value) (l : List Int) (bad : Bool), j ≤ m ∧ i = .int .i64 (j : Int) ∧ Kp (os.length = j ∧ qMany pOut m l0 b0 = (os ++ (qMany pOut (m - j) l bad).1, (qMany pOut (m - j) l bad).2) ∧ Sg wr g l bad ∧ OwnMany 2 51 (OutO wr w1.heap.size) wr w1.heap.size ov os ∧ Box wr T 26 #[va, iv, ov, vz] ∧ But2 g T w1 wr)) (fun i _ => m - (intOf i).toNat)
  case atStart => exact ⟨0, [], _, l0, b0, Nat.zero_le _, rfl, ⟨rfl, by simp, HS.out, OwnMany.nil _ _ _ _ _, HT.out, But2.refl _ _ _⟩⟩
  case round =>
    obtain ⟨j, os, ov, l, bad, hj, rfl, H⟩ := hrel
    obtain ⟨hol, hq, hS, hO, hX, hB⟩ := H.out
    have hcb := hS.bad
    by_cases hlt : j < m
    · cases bad with
      | true =>
        have hjm : (j : Int) < (m : Int) := by omega
        have HEND : Kp (∃ ov, Kp (Sg wr g (qMany pOut m l0 b0).2.1 (qMany pOut m l0 b0).2.2 ∧ OwnMany 2 51 (OutO wr w1.heap.size) wr w1.heap.size ov (qMany pOut m l0 b0).1 ∧ Box wr T 26 #[va, iv, ov, vz] ∧ But2 g T w1 wr)) := ⟨ov, ⟨by rw [hq, qMany_bad]; simpa using ⟨hS, hO, hX, hB⟩⟩⟩
        clear hol hq hS hO hX hB hj hlt H
        go_wp2
        exact HEND.out
      | false =>
        have hjm : (j : Int) < (m : Int) := by omega
        have HQ := Kp.mk (qMany_step hlt hq)
        have HK := Kp.mk (And.intro hlt hol)
        have HX := Kp.mk hX
        have HB := Kp.mk hB
        have HO := Kp.mk hO
        have HS1 := Kp.mk hS
        have H1 := Kp.mk (gbig_any g wr l false hS)
        have HP : Kp ((pOut l false).1 = ⟨(num l false 8).1, (pText (num l false 8).2.1 (num l false 8).2.2).1⟩ ∧ (pOut l false).2 = (pText (num l false 8).2.1 (num l false 8).2.2).2) := ⟨rfl, rfl⟩
        have HV : Kp ((num l false 8).1 < 18446744073709551616) := ⟨by have := num_lt l hS.bys false 8; omega⟩
        have HIO : Kp ((Try.prog.info? 51).map (·.size) = some 2) := ⟨sizeOut⟩
        obtain ⟨io, hio, hzo, hso, hbo⟩ := info_parts3 infoOutZ
        have HII := Kp.mk (And.intro hio (And.intro hzo (And.intro hso hbo)))
        generalize num l false 8 = r1 at *
        clear hol hq hS hO hX hB hj hlt H hio hzo hso hbo
        go_wp2_with fail
        refine H1.out.mono ?_
        rintro e w2 ⟨ho2, rfl, hS2⟩
        obtain ⟨W3, hW3⟩ : ∃ W, w2.alloc (.cells #[.int .u64 (r1.1 : Int), .slice none 0 0] 51) = W := ⟨_, rfl⟩
        have hb3 : Below w2.heap.size w2 W3 := by rw [← hW3]; exact (Below.refl _ _).alloc (Nat.le_refl _) _
        have hx3 : Box W3 w2.heap.size 51 #[.int .u64 (r1.1 : Int), .slice none 0 0] := by rw [← hW3]; exact Box.fresh _ _ _
        have hS3 : Sg W3 g r1.2.1 r1.2.2 := hS2.low (fun k hk _ => hb3.block k hk) hb3.size
        have hyg : g < w2.heap.size := hS2.lt
        have HO3 := Kp.mk (ho2.trans (Only.of_below hb3))
        have HW3 := Kp.mk hW3
        have H2 := Kp.mk (gcount_any g W3 r1.2.1 r1.2.2 500 hS3 (by omega))
        have HX3 := Kp.mk hx3
        have HYG := Kp.mk (And.intro hyg ho2.size)
        clear hW3 hb3 hx3 hS3 ho2 hS2 hyg H1 hcb
        go_wp2_with (refine wpList_store_fresh rfl 51 (.tmp 12) (.tmp 102) rfl _ #[.int .u64 (r1.1 : Int), .slice none 0 0] w2.heap.size rfl rfl rfl HIO.out rfl rfl ?_)
        rw [HW3.out]
        refine H2.out.mono ?_
        rintro e w4 ⟨ho4, rfl, hS4⟩
        have hx4 := HX3.out.keep ho4 (by have := HYG.out; omega)
        have HO4 := Kp.mk (HO3.out.trans ho4)
        have HX4 := Kp.mk hx4
        have H3 := Kp.mk (gtake_any g w4 _ _ (count r1.2.1 r1.2.2 500).1 hS4)
        clear ho4 hx4 hS4 H2 HW3 HX3 HO3
        go_wp2_with fail
        refine H3.out.mono ?_
        rintro e w5 ⟨v5, rfl, ho5, hown5, hby5, hS5⟩
        have hpt : (took (count r1.2.1 r1.2.2 500).2.1 (count r1.2.1 r1.2.2 500).2.2 (count r1.2.1 r1.2.2 500).1) = pText r1.2.1 r1.2.2 := rfl
        rw [hpt] at hown5 hby5 hS5
        generalize pText r1.2.1 r1.2.2 = tx at *
        obtain ⟨A5, c5, e5⟩ := hown5.slice
        obtain ⟨M5, hM5⟩ : ∃ M, tx.1.length = M := ⟨_, rfl⟩
        rw [hM5] at e5
        subst e5
        have hx5 := HX4.out.keep ho5 (by have := HYG.out; omega)
        have ho5' := HO4.out.trans ho5
        have hyge : wr.heap.size ≤ w2.heap.size := HYG.out.2
        obtain ⟨W6, hW6⟩ : ∃ W, w5.setCell ⟨w2.heap.size, 1, none⟩ (.slice A5 M5 c5) = W := ⟨_, rfl⟩
        have ho6 : Only g wr W6 := by rw [← hW6]; exact ho5'.set_new hyge 1 _
        have hx6 : Box W6 w2.heap.size 51 #[.int .u64 (r1.1 : Int), .slice A5 M5 c5] := by rw [← hW6]; exact hx5.set 1 _
        have hset : w5.grownBy W6 (some w2.heap.size) := by rw [← hW6]; exact (Only.refl w2.heap.size w5).set 1 _
        have hyw4 : w2.heap.size < w4.heap.size := HX4.out.lt
        have hown6 : Own W6 w4.heap.size 5 (.slice A5 M5 c5) tx.1 := hown5.kept hset (fun q e => by have := Option.some.inj e; omega)
        have hS6 : Sg W6 g tx.2.1 tx.2.2 := hS5.grown hset (fun q e => by have := Option.some.inj e; have := HYG.out; omega)
        have hB1 : w1.heap.size ≤ wr.heap.size := HB.out.size
        have hgT := HG.out
        have hT6 : Box W6 T 26 #[va, iv, ov, vz] := HX.out.keep ho6 (by omega)
        obtain ⟨W7, hW7⟩ : ∃ W, W6.alloc (.cells #[.int .u64 (r1.1 : Int), .slice A5 M5 c5] 51) = W := ⟨_, rfl⟩
        have hb7 : Below W6.heap.size W6 W7 := by rw [← hW7]; exact (Below.refl _ _).alloc (Nat.le_refl _) _
        have hx7 : Box W7 W6.heap.size 51 #[.int .u64 (r1.1 : Int), .slice A5 M5 c5] := by rw [← hW7]; exact Box.fresh _ _ _
        have ho7 := ho6.trans (Only.of_below hb7)
        have HOW : Kp (OwnMany 2 51 (OutO W7 w1.heap.size) W7 w1.heap.size ov os) := ⟨HO.out.kept ho7 (fun q e => by have := Option.some.inj e; omega) (fun cs d h => h.kept ho7 (fun q e => by have := Option.some.inj e; omega))⟩
        have hof : OutO W7 w1.heap.size [.int .u64 (r1.1 : Int), .slice A5 M5 c5] ⟨r1.1, tx.1⟩ := ⟨_, rfl, HV.out, (hown6.below hb7).less (by have := ho6.size; omega), hby5⟩
        have HOF := Kp.mk hof
        have HONE := Kp.mk hof.outR.one
        have HDL : Kp (os.length ≤ 1000) := ⟨by have := HK.out; have := HM.out; omega⟩
        have HBZ : Kp (w1.heap.size ≤ W7.heap.size) := ⟨Nat.le_trans hB1 ho7.size⟩
        have HT7 := Kp.mk (hT6.below hb7)
        have HS7 : Kp (Sg W7 g tx.2.1 tx.2.2) := ⟨hS6.low (fun k hk _ => hb7.block k hk) hb7.size⟩
        have HO7 := Kp.mk ho7
        have HX7 := Kp.mk hx7
        have HW6 := Kp.mk hW6
        have HW7 := Kp.mk hW7
        have y1 := hx5.cell 1
        have f1 := hx5.warm 1
        have z0 := hx6.cell 0
        have z1 := hx6.cell 1
        have tc := hT6.cell 2
        clear hpt hown5 hby5 hS5 ho5 hM5 hx5 ho5' hyge hW6 ho6 hx6 hset hyw4 hown6 hS6 hB1 hgT hT6 hW7 hb7 hx7 ho7 hof HO4 HX4 H3 HYG HX HO HS1
        go_upto_region 22 with fail
        rw [HW6.out]
        go_wp2_with (at_builtin; rw [HW7.out]; refine wpList_append_many (R := fun W => OutO W w1.heap.size) rfl (.tmp 109) (.tmp 111) 24 rfl w1.heap.size io _ 32 Try.underlying24 HII.out.1 HII.out.2.1 HII.out.2.2.1 HII.out.2.2.2 rfl (by decide) _ os rfl HOW.out W6.heap.size 1 [.int .u64 (r1.1 : Int), .slice A5 M5 c5] ⟨r1.1, tx.1⟩ rfl HX7.out rfl HOF.out HONE.out HDL.out (by decide) HBZ.out [5, 26] (by decide) (fun w' cs d hk h => OutO.turn h hk (by decide) (Nat.le_refl _)) ?_)
        intro v8 w8 hm8 hg8 hk8
        obtain ⟨A8, c8, e8⟩ := hm8.slice
        obtain ⟨M8, hM8⟩ : ∃ M, (os ++ [(⟨r1.1, tx.1⟩ : OutD)]).length = M := ⟨_, rfl⟩
        rw [hM8] at e8
        subst e8
        have hlo : ∀ q, ov.ownBlock = some q → w1.heap.size ≤ q := fun q hq => by obtain ⟨css, hrow, _⟩ := HOW.out; exact (World.ownsRow.lt hrow q hq).1
        have hgT := HG.out
        have hT8 := Keeps.box hk8 (by decide) HT7.out
        have hS8 : Sg w8 g tx.2.1 tx.2.2 := HS7.out.grown hg8 (fun q e => by have := hlo q e; omega)
        have hset : w8.grownBy (w8.setCell ⟨T, 2, none⟩ (.slice A8 M8 c8)) (some T) := (Only.refl T w8).set 2 _
        have tc8 := hT8.cell 2
        have tf8 := hT8.warm 2
        have HEND : Kp ((os ++ [(⟨r1.1, tx.1⟩ : OutD)]).length = j + 1 ∧ qMany pOut m l0 b0 = ((os ++ [(⟨r1.1, tx.1⟩ : OutD)]) ++ (qMany pOut (m - (j + 1)) tx.2.1 tx.2.2).1, (qMany pOut (m - (j + 1)) tx.2.1 tx.2.2).2) ∧ Sg (w8.setCell ⟨T, 2, none⟩ (.slice A8 M8 c8)) g tx.2.1 tx.2.2 ∧ OwnMany 2 51 (OutO (w8.setCell ⟨T, 2, none⟩ (.slice A8 M8 c8)) w1.heap.size) (w8.setCell ⟨T, 2, none⟩ (.slice A8 M8 c8)) w1.heap.size (.slice A8 M8 c8) (os ++ [(⟨r1.1, tx.1⟩ : OutD)]) ∧ Box (w8.setCell ⟨T, 2, none⟩ (.slice A8 M8 c8)) T 26 #[va, iv, .slice A8 M8 c8, vz] ∧ But2 g T w1 (w8.setCell ⟨T, 2, none⟩ (.slice A8 M8 c8))) :=
          ⟨by simp [HK.out.2], by have h := HQ.out; rw [HP.out.1, HP.out.2] at h; exact h, hS8.set (by omega) 2 _, hm8.kept hset (fun q e => by have := Option.some.inj e; omega) (fun cs d h => h.kept hset (fun q e => by have := Option.some.inj e; omega)), hT8.set 2 _, ((HB.out.only HO7.out).grown hg8 hlo).set 2 _⟩
        have hwj : IntKind.i64.wrap ((j : Int) + 1) = (j : Int) + 1 := by have := HK.out.1; have := HM.out; rw [IntKind.wrap_i64]; omega
        clear hm8 hg8 hk8 hlo hgT hT8 hS8 hset hM8
        go_wp2
        go_roundw
        case rel => exact ⟨j + 1, _, _, _, _, by have := HK.out.1; omega, by go_num, HEND⟩
        case measure => simp [intOf]; have := HK.out.1; omega
    · obtain rfl : j = m := by omega
      have HEND : Kp (∃ ov, Kp (Sg wr g (qMany pOut j l0 b0).2.1 (qMany pOut j l0 b0).2.2 ∧ OwnMany 2 51 (OutO wr w1.heap.size) wr w1.heap.size ov (qMany pOut j l0 b0).1 ∧ Box wr T 26 #[va, iv, ov, vz] ∧ But2 g T w1 wr)) := ⟨ov, ⟨by rw [hq, Nat.sub_self]; simpa [qMany] using ⟨hS, hO, hX, hB⟩⟩⟩
      clear hol hq hS hO hX hB hj hlt H
      go_wp2
      exact HEND.out


theorem OwnRows.kept {w w' : World} {B : Nat} {v : Value} {ll : List (List Int)} {row : Option Nat} (h : OwnRows w B v ll) (hg : w.grownBy w' row) (hr : ∀ q, row = some q → q < B) : OwnRows w' B v ll :=
  OwnMany.kept h hg hr fun cs l h => by
    obtain ⟨sv, rfl, h1, h2⟩ := h
    exact ⟨sv, rfl, h1.kept hg hr, h2⟩
theorem InO.kept {w w' : World} {B : Nat} {cs : List Value} {d : InD} {row : Option Nat} (h : InO w B cs d) (hg : w.grownBy w' row) (hr : ∀ q, row = some q → q < B) : InO w' B cs d := by
  obtain ⟨sv, wv, rfl, hf, h1, h2, h3⟩ := h
  exact ⟨sv, wv, rfl, hf, h1.kept hg hr, h2, h3.kept hg hr⟩
/-- An input whose witness is none yet. -/
def InN (w : World) (B : Nat) (cs : List Value) (d : InD) : Prop := InO w B cs d ∧ d.wit = [] ∧ cs[35]? = some (.slice none 0 0)
theorem InN.kept {w w' : World} {B : Nat} {cs : List Value} {d : InD} {row : Option Nat} (h : InN w B cs d) (hg : w.grownBy w' row) (hr : ∀ q, row = some q → q < B) : InN w' B cs d := ⟨h.1.kept hg hr, h.2⟩
set_option maxRecDepth 100000 in
theorem InN.turn {ts : List Nat} {w w' : World} {B B' : Nat} {cs : List Value} {d : InD} (h : InN w B cs d) (hk : Keeps ts w w') (hu : 5 ∈ ts) (hb : 27 ∈ ts) (hB : B' ≤ B) : InN w' B' cs d := ⟨h.1.turn hk hu hb hB, h.2⟩

set_option maxRecDepth 10000000 in
set_option maxHeartbeats 8000000 in
theorem readLoop1 (g T m : Nat) (w1 : World) (l0 : List Int) (b0 : Bool) (va vo vz : Value) (Q : Exit → Act → World → Prop) (s1 s2 s3 s4 s6 s9 s10 s11 s12 s13 s14 s15 s16 s17 s18 s19 s20 s21 s22 s23 s24 s25 s26 s27 s28 s29 s30 s31 s32 s33 s34 s35 s36 s37 s38 s39 s40 s41 s42 s43 s44 s45 s46 s47 s48 s49 s50 s51 s52 s53 s54 s55 s56 s57 s58 s59 s60 s61 s62 s63 s64 s65 s66 s67 s68 s69 s70 s71 s72 s73 s74 s75 s76 s77 s78 s79 s80 s81 s82 s83 s84 s85 s86 s87 s88 s89 s90 s91 s92 s93 s94 s95 s96 s97 s98 s99 s100 s101 s102 s103 s104 s105 s106 s107 s108 s109 s110 s111 s112 s113 s114 s115 s116 s117 s118 s119 s120 s121 s122 s123 s124 s125 s126 s127 s128 s129 s130 s131 s132 s133 s134 s135 s136 s137 s138 s139 s140 s141 s142 s143 s144 s145 s146 s147 s148 s149 s150 s151 s152 s153 s154 s155 s156 s157 s158 s159 s160 s161 s162 s163 s164 s165 s166 s167 s168 s169 s170 s171 s172 s173 s174 s175 s176 s177 s178 s179 s180 s181 s182 s183 s184 s185 s186 s187 s188 s189 s190 s191 s192 : Value)
    (HS : Kp (Sg w1 g l0 b0)) (HT : Kp (Box w1 T 26 #[va, .slice none 0 0, vo, vz])) (HG : Kp (g < T ∧ T < w1.heap.size)) (HM : Kp (m ≤ 50))
    (hexit : ∀ (t8 t9 t51 t52 t53 t54 t55 t56 t57 t58 t59 t60 t61 t62 t63 t64 t65 t66 t67 t68 t69 t70 t71 t72 t73 t74 t75 t76 t77 t78 t79 t80 t81 t82 t83 t84 t85 : Value) (w' : World), (∃ iv, Kp (Sg w' g (qMany pIn m l0 b0).2.1 (qMany pIn m l0 b0).2.2 ∧ OwnMany 36 47 (InN w' w1.heap.size) w' w1.heap.size iv (qMany pIn m l0 b0).1 ∧ Box w' T 26 #[va, iv, vo, vz] ∧ But2 g T w1 w')) → Q (.exit 0) ⟨(List.toArray (.pointer (some ⟨g, 0, none⟩) :: s1 :: s2 :: s3 :: s4 :: .pointer (some ⟨T, 0, none⟩) :: s6 :: .int .i64 (m : Int) :: t8 :: t9 :: s10 :: s11 :: s12 :: s13 :: s14 :: s15 :: s16 :: s17 :: s18 :: s19 :: s20 :: s21 :: s22 :: s23 :: s24 :: s25 :: s26 :: s27 :: s28 :: s29 :: s30 :: s31 :: s32 :: s33 :: s34 :: s35 :: s36 :: s37 :: s38 :: s39 :: s40 :: s41 :: s42 :: s43 :: s44 :: s45 :: s46 :: s47 :: s48 :: s49 :: s50 :: t51 :: t52 :: t53 :: t54 :: t55 :: t56 :: t57 :: t58 :: t59 :: t60 :: t61 :: t62 :: t63 :: t64 :: t65 :: t66 :: t67 :: t68 :: t69 :: t70 :: t71 :: t72 :: t73 :: t74 :: t75 :: t76 :: t77 :: t78 :: t79 :: t80 :: t81 :: t82 :: t83 :: t84 :: t85 :: s86 :: s87 :: s88 :: s89 :: s90 :: s91 :: s92 :: s93 :: s94 :: s95 :: s96 :: s97 :: s98 :: s99 :: s100 :: s101 :: s102 :: s103 :: s104 :: s105 :: s106 :: s107 :: s108 :: s109 :: s110 :: s111 :: s112 :: s113 :: s114 :: s115 :: s116 :: s117 :: s118 :: s119 :: s120 :: s121 :: s122 :: s123 :: s124 :: s125 :: s126 :: s127 :: s128 :: s129 :: s130 :: s131 :: s132 :: s133 :: s134 :: s135 :: s136 :: s137 :: s138 :: s139 :: s140 :: s141 :: s142 :: s143 :: s144 :: s145 :: s146 :: s147 :: s148 :: s149 :: s150 :: s151 :: s152 :: s153 :: s154 :: s155 :: s156 :: s157 :: s158 :: s159 :: s160 :: s161 :: s162 :: s163 :: s164 :: s165 :: s166 :: s167 :: s168 :: s169 :: s170 :: s171 :: s172 :: s173 :: s174 :: s175 :: s176 :: s177 :: s178 :: s179 :: s180 :: s181 :: s182 :: s183 :: s184 :: s185 :: s186 :: s187 :: s188 :: s189 :: s190 :: s191 :: s192 :: [])), []⟩ w') :
    Code.wp Try.prog (readLoop 0) Q ⟨(List.toArray (.pointer (some ⟨g, 0, none⟩) :: s1 :: s2 :: s3 :: s4 :: .pointer (some ⟨T, 0, none⟩) :: s6 :: .int .i64 (m : Int) :: .int .i64 0 :: s9 :: s10 :: s11 :: s12 :: s13 :: s14 :: s15 :: s16 :: s17 :: s18 :: s19 :: s20 :: s21 :: s22 :: s23 :: s24 :: s25 :: s26 :: s27 :: s28 :: s29 :: s30 :: s31 :: s32 :: s33 :: s34 :: s35 :: s36 :: s37 :: s38 :: s39 :: s40 :: s41 :: s42 :: s43 :: s44 :: s45 :: s46 :: s47 :: s48 :: s49 :: s50 :: s51 :: s52 :: s53 :: s54 :: s55 :: s56 :: s57 :: s58 :: s59 :: s60 :: s61 :: s62 :: s63 :: s64 :: s65 :: s66 :: s67 :: s68 :: s69 :: s70 :: s71 :: s72 :: s73 :: s74 :: s75 :: s76 :: s77 :: s78 :: s79 :: s80 :: s81 :: s82 :: s83 :: s84 :: s85 :: s86 :: s87 :: s88 :: s89 :: s90 :: s91 :: s92 :: s93 :: s94 :: s95 :: s96 :: s97 :: s98 :: s99 :: s100 :: s101 :: s102 :: s103 :: s104 :: s105 :: s106 :: s107 :: s108 :: s109 :: s110 :: s111 :: s112 :: s113 :: s114 :: s115 :: s116 :: s117 :: s118 :: s119 :: s120 :: s121 :: s122 :: s123 :: s124 :: s125 :: s126 :: s127 :: s128 :: s129 :: s130 :: s131 :: s132 :: s133 :: s134 :: s135 :: s136 :: s137 :: s138 :: s139 :: s140 :: s141 :: s142 :: s143 :: s144 :: s145 :: s146 :: s147 :: s148 :: s149 :: s150 :: s151 :: s152 :: s153 :: s154 :: s155 :: s156 :: s157 :: s158 :: s159 :: s160 :: s161 :: s162 :: s163 :: s164 :: s165 :: s166 :: s167 :: s168 :: s169 :: s170 :: s171 :: s172 :: s173 :: s174 :: s175 :: s176 :: s177 :: s178 :: s179 :: s180 :: s181 :: s182 :: s183 :: s184 :: s185 :: s186 :: s187 :: s188 :: s189 :: s190 :: s191 :: s192 :: [])), []⟩ w1 := by
  conv => arg 2; whnf
  go_loopw [8] (fun i wr => ∃ (j : Nat) (is : List InD) (iv : Value) (l : List Int) (bad : Bool), j ≤ m ∧ i = .int .i64 (j : Int) ∧ Kp (is.length = j ∧ qMany pIn m l0 b0 = (is ++ (qMany pIn (m - j) l bad).1, (qMany pIn (m - j) l bad).2) ∧ Sg wr g l bad ∧ OwnMany 36 47 (InN wr w1.heap.size) wr w1.heap.size iv is ∧ Box wr T 26 #[va, iv, vo, vz] ∧ But2 g T w1 wr)) (fun i _ => m - (intOf i).toNat)
  case atStart => exact ⟨0, [], _, l0, b0, Nat.zero_le _, rfl, ⟨rfl, by simp, HS.out, OwnMany.nil _ _ _ _ _, HT.out, But2.refl _ _ _⟩⟩
  case round =>
    obtain ⟨j, is, iv, l, bad, hj, rfl, H⟩ := hrel
    obtain ⟨hol, hq, hS, hO, hX, hB⟩ := H.out
    have hcb := hS.bad
    by_cases hlt : j < m
    · cases bad with
      | true =>
        have hjm : (j : Int) < (m : Int) := by omega
        have HEND : Kp (∃ iv, Kp (Sg wr g (qMany pIn m l0 b0).2.1 (qMany pIn m l0 b0).2.2 ∧ OwnMany 36 47 (InN wr w1.heap.size) wr w1.heap.size iv (qMany pIn m l0 b0).1 ∧ Box wr T 26 #[va, iv, vo, vz] ∧ But2 g T w1 wr)) := ⟨iv, ⟨by rw [hq, qMany_bad]; simpa using ⟨hS, hO, hX, hB⟩⟩⟩
        clear hol hq hS hO hX hB hj hlt H
        go_wp2
        exact HEND.out
      | false =>
        have hjm : (j : Int) < (m : Int) := by omega
        have HQ := Kp.mk (qMany_step hlt hq)
        have HK := Kp.mk (And.intro hlt hol)
        have HX := Kp.mk hX
        have HB := Kp.mk hB
        have HO := Kp.mk hO
        have HI36 : Kp ((Try.prog.info? 47).map (·.size) = some zIn.size) := ⟨by kernel_rfl⟩
        have HONE36 : Kp (zIn.all (·.oneCell') = true) := ⟨by decide +kernel⟩
        have HPI : Kp (pIn l false = (⟨prevOf (took l false 32).1, (num (took l false 32).2.1 (took l false 32).2.2 4).1, (pText (num (took l false 32).2.1 (took l false 32).2.2 4).2.1 (num (took l false 32).2.1 (took l false 32).2.2 4).2.2).1, (num (pText (num (took l false 32).2.1 (took l false 32).2.2 4).2.1 (num (took l false 32).2.1 (took l false 32).2.2 4).2.2).2.1 (pText (num (took l false 32).2.1 (took l false 32).2.2 4).2.1 (num (took l false 32).2.1 (took l false 32).2.2 4).2.2).2.2 4).1, []⟩, (num (pText (num (took l false 32).2.1 (took l false 32).2.2 4).2.1 (num (took l false 32).2.1 (took l false 32).2.2 4).2.2).2.1 (pText (num (took l false 32).2.1 (took l false 32).2.2 4).2.1 (num (took l false 32).2.1 (took l false 32).2.2 4).2.2).2.2 4).2)) := ⟨rfl⟩
        obtain ⟨W2, hW2⟩ : ∃ W, wr.alloc (.cells zIn 47) = W := ⟨_, rfl⟩
        have hb2 : Below wr.heap.size wr W2 := by rw [← hW2]; exact (Below.refl _ _).alloc (Nat.le_refl _) _
        have hbd : Below wr.heap.size wr W2.drew := hb2.drew
        have hx2 : Box W2 wr.heap.size 47 zIn := by rw [← hW2]; exact Box.fresh _ _ _
        have HX2 : Kp (Box W2.drew wr.heap.size 47 zIn) := ⟨hx2⟩
        have HS2 : Kp (Sg W2.drew g l false) := ⟨hS.low (fun k hk _ => hbd.block k hk) hbd.size⟩
        have HO2 : Kp (Only g wr W2.drew) := ⟨Only.of_below hbd⟩
        have HT2 := Kp.mk (gtake_any g W2.drew l false 32 HS2.out)
        rw [show ((32 : Nat) : Int) = 32 from rfl] at HT2
        have HXG : Kp (g < wr.heap.size) := ⟨hS.lt⟩
        have HTS := Kp.mk (took_size l false 32)
        have HN : Kp ((byteVals (took l false 32).1).length = Nat.min (took l false 32).1.length 32) := ⟨by
          rcases HTS.out with e | e
          · simp [byteVals, e]
          · simp [byteVals, e]⟩
        have HFIT : Kp (0 + (byteVals (took l false 32).1).length ≤ zIn.toList.length) := ⟨by
          have hz : zIn.toList.length = 36 := rfl
          rw [hz]
          rcases HTS.out with e | e <;> simp [byteVals, e]⟩
        have HW2 := Kp.mk hW2
        generalize took l false 32 = X at *
        clear hol hq hS hO hX hB hj hlt H hW2 hb2 hbd hx2
        go_wp2_with (refine wpList_store_fresh rfl 47 (.tmp 9) (.tmp 63) rfl _ zIn wr.heap.size rfl rfl rfl HI36.out rfl HONE36.out ?_)
        rw [HW2.out]
        go_region_held3 (fun _ => True) (trivial) (first | (go_at_call 44; refine HT2.out.mono ?_; rintro e w3 ⟨v3, rfl, ho3, hv3, hy3, hr3⟩; have hx3 := HX2.out.keep ho3 (by have := HXG.out; omega); obtain ⟨A3, c3, rfl⟩ := hv3.slice; have HSRC := Kp.mk (own_src hv3)) | (refine step_copy_row rfl (.tmp 65) (.tmp 67) 27 27 rfl 5 Try.underlying27 (by kernel_rfl) _ _ _ _ _ _ rfl rfl wr.heap.size 0 zIn.toList 47 hx3 (byteVals X.1) HN.out (fun hp => ⟨rfl, HSRC.out hp⟩) HFIT.out (byteVals_one _) ?_))
        obtain ⟨C1, hC1⟩ : ∃ C1, (splice zIn.toList 0 (byteVals X.1)).toArray = C1 := ⟨_, rfl⟩
        rw [hC1]
        have HC1 := Kp.mk hC1
        have hsz1 : C1.size = 36 := by rw [← hC1, List.size_toArray, length_splice _ _ _ (by simpa using HFIT.out)]; rfl
        have hset3 : w3.grownBy (w3.setRow wr.heap.size C1) (some wr.heap.size) := setRow_grown _ _ _
        have hx4 : Box (w3.setRow wr.heap.size C1) wr.heap.size 47 C1 := setRow_box hx3 C1
        have hS4 : Sg (w3.setRow wr.heap.size C1) g X.2.1 X.2.2 := hr3.grown hset3 (fun q e => by have := Option.some.inj e; have := HXG.out; omega)
        have ho4 : Only g wr (w3.setRow wr.heap.size C1) := (HO2.out.trans ho3).setRow (Nat.le_refl _) C1
        generalize w3.setRow wr.heap.size C1 = w4 at *
        have HS4 := Kp.mk hS4
        have HO4 := Kp.mk ho4
        have HX4 := Kp.mk hx4
        have HSZ1 := Kp.mk hsz1
        have HBY := Kp.mk hy3
        have H4 := Kp.mk (gsmall_any g w4 _ _ hS4)
        have HLT4 := Kp.mk (num_lt X.2.1 hS4.bys X.2.2 4)
        clear hC1 hsz1 hset3 hx4 hS4 ho4 hx3 ho3 hv3 hy3 hr3 HSRC HT2 HX2 HS2 HO2 HW2 HI36 HONE36 HN HFIT hcb
        generalize num X.2.1 X.2.2 4 = r4 at *
        go_wp2_with fail
        refine H4.out.mono ?_
        rintro e w5 ⟨ho5, rfl, hS5⟩
        obtain ⟨u32, hu32⟩ : ∃ u, C1[32]? = some u := ⟨_, Array.getElem?_eq_getElem (by rw [HSZ1.out]; omega)⟩
        have hx5 := HX4.out.keep ho5 (by have := HXG.out; omega)
        have c5 := (hx5.cell 32).trans hu32
        have f5 := hx5.warm 32
        obtain ⟨w6, hw6⟩ : ∃ W, w5.setCell ⟨wr.heap.size, 32, none⟩ (.int .u32 (r4.1 : Int)) = W := ⟨_, rfl⟩
        have hset6 : w5.grownBy w6 (some wr.heap.size) := by rw [← hw6]; exact (Only.refl wr.heap.size w5).set 32 _
        have hx6 : Box w6 wr.heap.size 47 (C1.setIfInBounds 32 (.int .u32 (r4.1 : Int))) := by rw [← hw6]; exact hx5.set 32 _
        have hS6 : Sg w6 g r4.2.1 r4.2.2 := hS5.grown hset6 (fun q e => by have := Option.some.inj e; have := HXG.out; omega)
        have ho6 : Only g wr w6 := by rw [← hw6]; exact (HO4.out.trans ho5).setNew (Nat.le_refl _) 32 _
        obtain ⟨C2, hC2⟩ : ∃ C2, C1.setIfInBounds 32 (.int .u32 (r4.1 : Int)) = C2 := ⟨_, rfl⟩
        rw [hC2] at hx6
        have HC2 := Kp.mk hC2
        have HSZ2 : Kp (C2.size = 36) := ⟨by rw [← hC2, Array.size_setIfInBounds]; exact HSZ1.out⟩
        have HO6 := Kp.mk ho6
        have HX6 := Kp.mk hx6
        have HW6 := Kp.mk hw6
        have H6 := Kp.mk (gcount_any g w6 r4.2.1 r4.2.2 500 hS6 (by omega))
        clear hu32 hx5 hw6 hset6 hx6 hS6 ho6 hC2 ho5 hS5 H4 HX4 HO4 HS4
        go_wp2_with fail
        rw [HW6.out]
        refine H6.out.mono ?_
        rintro e w7 ⟨ho7, rfl, hS7⟩
        have hx7 := HX6.out.keep ho7 (by have := HXG.out; omega)
        have HO7 := Kp.mk (HO6.out.trans ho7)
        have HX7 := Kp.mk hx7
        have H7 := Kp.mk (gtake_any g w7 _ _ (count r4.2.1 r4.2.2 500).1 hS7)
        clear ho7 hx7 hS7 H6 HW6 HX6 HO6 c5 f5
        go_wp2_with fail
        refine H7.out.mono ?_
        rintro e w8 ⟨v8, rfl, ho8, hv8, hy8, hS8⟩
        have hpt : (took (count r4.2.1 r4.2.2 500).2.1 (count r4.2.1 r4.2.2 500).2.2 (count r4.2.1 r4.2.2 500).1) = pText r4.2.1 r4.2.2 := rfl
        rw [hpt] at hv8 hy8 hS8
        generalize pText r4.2.1 r4.2.2 = Y at *
        obtain ⟨A8, k8, e8⟩ := hv8.slice
        obtain ⟨M8, hM8⟩ : ∃ M, Y.1.length = M := ⟨_, rfl⟩
        rw [hM8] at e8
        subst e8
        obtain ⟨u33, hu33⟩ : ∃ u, C2[33]? = some u := ⟨_, Array.getElem?_eq_getElem (by rw [HSZ2.out]; omega)⟩
        have hx8 := HX7.out.keep ho8 (by have := HXG.out; omega)
        have c8 := (hx8.cell 33).trans hu33
        have f8 := hx8.warm 33
        have hPlt : wr.heap.size < w7.heap.size := HX7.out.lt
        obtain ⟨w9, hw9⟩ : ∃ W, w8.setCell ⟨wr.heap.size, 33, none⟩ (.slice A8 M8 k8) = W := ⟨_, rfl⟩
        have hset9 : w8.grownBy w9 (some wr.heap.size) := by rw [← hw9]; exact (Only.refl wr.heap.size w8).set 33 _
        have hx9 : Box w9 wr.heap.size 47 (C2.setIfInBounds 33 (.slice A8 M8 k8)) := by rw [← hw9]; exact hx8.set 33 _
        have hS9 : Sg w9 g Y.2.1 Y.2.2 := hS8.grown hset9 (fun q e => by have := Option.some.inj e; have := HXG.out; omega)
        have ho9 : Only g wr w9 := by rw [← hw9]; exact (HO7.out.trans ho8).setNew (Nat.le_refl _) 33 _
        have hv9 : Own w9 w7.heap.size 5 (.slice A8 M8 k8) Y.1 := hv8.kept hset9 (fun q e => by have := Option.some.inj e; omega)
        obtain ⟨C3, hC3⟩ : ∃ C3, C2.setIfInBounds 33 (.slice A8 M8 k8) = C3 := ⟨_, rfl⟩
        rw [hC3] at hx9
        have HC3 := Kp.mk hC3
        have HSZ3 : Kp (C3.size = 36) := ⟨by rw [← hC3, Array.size_setIfInBounds]; exact HSZ2.out⟩
        have HO9 := Kp.mk ho9
        have HX9 := Kp.mk hx9
        have HW9 := Kp.mk hw9
        have HV9 := Kp.mk (And.intro hv9 (And.intro hy8 (And.intro hPlt HO7.out.size)))
        have H9 := Kp.mk (gsmall_any g w9 _ _ hS9)
        have HLT9 := Kp.mk (num_lt Y.2.1 hS9.bys Y.2.2 4)
        clear hu33 hx8 hw9 hset9 hx9 hS9 ho9 hC3 hv8 hy8 hS8 hv9 hM8 hPlt ho8 hpt H7 HX7 HO7
        generalize num Y.2.1 Y.2.2 4 = r9 at *
        go_wp2_with fail
        rw [HW9.out]
        refine H9.out.mono ?_
        rintro e w10 ⟨ho10, rfl, hS10⟩
        have hgl := HXG.out
        obtain ⟨u34, hu34⟩ : ∃ u, C3[34]? = some u := ⟨_, Array.getElem?_eq_getElem (by rw [HSZ3.out]; omega)⟩
        have hx10 := HX9.out.keep ho10 (by omega)
        have c10 := (hx10.cell 34).trans hu34
        have f10 := hx10.warm 34
        have hv10 : Own w10 w7.heap.size 5 (.slice A8 M8 k8) Y.1 := HV9.out.1.kept ho10 (fun q e => by have := Option.some.inj e; have := HV9.out.2.2; omega)
        obtain ⟨w11, hw11⟩ : ∃ W, w10.setCell ⟨wr.heap.size, 34, none⟩ (.int .u32 (r9.1 : Int)) = W := ⟨_, rfl⟩
        have hset11 : w10.grownBy w11 (some wr.heap.size) := by rw [← hw11]; exact (Only.refl wr.heap.size w10).set 34 _
        have hx11 : Box w11 wr.heap.size 47 (C3.setIfInBounds 34 (.int .u32 (r9.1 : Int))) := by rw [← hw11]; exact hx10.set 34 _
        have hS11 : Sg w11 g r9.2.1 r9.2.2 := hS10.grown hset11 (fun q e => by have := Option.some.inj e; omega)
        have ho11 : Only g wr w11 := by rw [← hw11]; exact (HO9.out.trans ho10).setNew (Nat.le_refl _) 34 _
        have hv11 : Own w11 w7.heap.size 5 (.slice A8 M8 k8) Y.1 := hv10.kept hset11 (fun q e => by have := Option.some.inj e; have := HV9.out.2.2; omega)
        have hcells : C3.setIfInBounds 34 (.int .u32 (r9.1 : Int)) = (inCells ⟨prevOf X.1, r4.1, [], r9.1, []⟩ (.slice A8 M8 k8) (.slice none 0 0)).toArray := by
          rw [← HC3.out, ← HC2.out, ← HC1.out]
          exact in_cells X.1 HTS.out r4.1 r9.1 _
        have hcells2 : inCells ⟨prevOf X.1, r4.1, [], r9.1, []⟩ (.slice A8 M8 k8) (.slice none 0 0) = inCells ⟨prevOf X.1, r4.1, Y.1, r9.1, []⟩ (.slice A8 M8 k8) (.slice none 0 0) := rfl
        rw [hcells2] at hcells
        rw [hcells] at hx11
        have h256 : (256 : Nat) ^ 4 = 4294967296 := by decide
        have hfit : (⟨prevOf X.1, r4.1, Y.1, r9.1, []⟩ : InD).Fit := ⟨prevOf_len _, prevOf_bys HBY.out, by have := HLT4.out; rw [h256] at this; exact this, by have := HLT9.out; rw [h256] at this; exact this⟩
        obtain ⟨cs, hcs⟩ : ∃ cs, inCells ⟨prevOf X.1, r4.1, Y.1, r9.1, []⟩ (.slice A8 M8 k8) (.slice none 0 0) = cs := ⟨_, rfl⟩
        have hin : InO w11 w1.heap.size cs ⟨prevOf X.1, r4.1, Y.1, r9.1, []⟩ := ⟨_, _, hcs.symm, hfit, hv11.less (by have h1 := HB.out.size; have h2 := HV9.out.2.2.2; omega), HV9.out.2.1, OwnMany.nil _ _ _ _ _⟩
        rw [hcs] at hx11
        have hcl : cs.length = 36 := hin.len
        have hfold := fold_in cs hcl
        obtain ⟨D, hD⟩ : ∃ D : InD, (⟨prevOf X.1, r4.1, Y.1, r9.1, []⟩ : InD) = D := ⟨_, rfl⟩
        rw [hD] at hin
        have hinn : InN w11 w1.heap.size cs D := ⟨hin, by rw [← hD], by rw [← hcs]; exact inCells_wit (d := ⟨prevOf X.1, r4.1, Y.1, r9.1, []⟩) hfit _ _⟩
        have HPD : Kp ((pIn l false).1 = D ∧ (pIn l false).2 = r9.2) := ⟨by rw [HPI.out]; exact ⟨hD, rfl⟩⟩
        have hgT := HG.out
        have hT11 : Box w11 T 26 #[va, iv, vo, vz] := HX.out.keep ho11 (by omega)
        obtain ⟨W12, hW12⟩ : ∃ W, w11.alloc (.cells cs.toArray 47) = W := ⟨_, rfl⟩
        have hb12 : Below w11.heap.size w11 W12 := by rw [← hW12]; exact (Below.refl _ _).alloc (Nat.le_refl _) _
        have hx12 : Box W12 w11.heap.size 47 cs.toArray := by rw [← hW12]; exact Box.fresh _ _ _
        have ho12 := ho11.trans (Only.of_below hb12)
        have hB1 : w1.heap.size ≤ wr.heap.size := HB.out.size
        have HOW : Kp (OwnMany 36 47 (InN W12 w1.heap.size) W12 w1.heap.size iv is) := ⟨HO.out.kept ho12 (fun q e => by have := Option.some.inj e; omega) (fun cs d h => h.kept ho12 (fun q e => by have := Option.some.inj e; omega))⟩
        have HINA : Kp (InN W12 w1.heap.size cs D) := ⟨hinn.kept (row := none) ⟨hb12.os, hb12.tape, hb12.output, hb12.size, fun k hk _ => hb12.block k hk⟩ (fun q e => by cases e)⟩
        have HONE := Kp.mk hin.inR.one
        have HDL : Kp (is.length ≤ 1000) := ⟨by have := HK.out; have := HM.out; omega⟩
        have HBZ : Kp (w1.heap.size ≤ W12.heap.size) := ⟨Nat.le_trans hB1 ho12.size⟩
        have HT12 := Kp.mk (hT11.below hb12)
        have HS12 : Kp (Sg W12 g r9.2.1 r9.2.2) := ⟨hS11.low (fun k hk _ => hb12.block k hk) hb12.size⟩
        have HO12 := Kp.mk ho12
        have HX12 := Kp.mk hx12
        have HXA : Kp (w11.heap[wr.heap.size]? = some (.cells cs.toArray 47 (0, 0))) := ⟨hx11⟩
        have HI3 : Kp ((Try.prog.info? 47).map (·.size) = some cs.toArray.size) := ⟨by rw [List.size_toArray, hcl]; exact sizeIn⟩
        have HCL := Kp.mk hcl
        have HW11 := Kp.mk hw11
        have HW12 := Kp.mk hW12
        have tc := hT11.cell 1
        obtain ⟨i1, hi1, hz1, hs1, hb1⟩ := info_parts3 infoInZ
        have HII := Kp.mk (And.intro hi1 (And.intro hz1 (And.intro hs1 hb1)))
        clear hgl hu34 hx10 hv10 hw11 hset11 hx11 hS11 ho11 hv11 hcells hcells2 h256 hfit hcs hin hinn hD hgT hT11 hW12 hb12 hx12 ho12 hB1 hi1 hz1 hs1 hb1 ho10 hS10 H9 HX9 HO9 HV9 HW9 HX HO HPI HTS HC1 HC2 HC3 HBY HLT4 HLT9
        go_upto_region 15 with fail
        rw [HW11.out]
        go_wp2_with (first | (refine wpList_load_row rfl 47 (.tmp 9) rfl wr.heap.size rfl _ cs.toArray _ _ HXA.out Try.underlying47 rfl HI3.out ?_) | (at_builtin; rw [HW12.out]; refine wpList_append_many (R := fun W => InN W w1.heap.size) rfl (.tmp 81) (.tmp 83) 23 rfl w1.heap.size i1 _ 96 Try.underlying23 HII.out.1 HII.out.2.1 HII.out.2.2.1 HII.out.2.2.2 rfl (by decide) _ is rfl HOW.out w11.heap.size 1 cs D rfl HX12.out HCL.out HINA.out HONE.out HDL.out (by decide) HBZ.out [5, 27, 26] (by decide) (fun w' cs d hk h => InN.turn h hk (by decide) (by decide) (Nat.le_refl _)) ?_))
        intro v8 w8 hm8 hg8 hk8
        obtain ⟨AA, cc, ee⟩ := hm8.slice
        obtain ⟨MM, hMM⟩ : ∃ M, (is ++ [D]).length = M := ⟨_, rfl⟩
        rw [hMM] at ee
        subst ee
        have hlo : ∀ q, iv.ownBlock = some q → w1.heap.size ≤ q := fun q hq => by obtain ⟨css, hrow, _⟩ := HOW.out; exact (World.ownsRow.lt hrow q hq).1
        have hgT := HG.out
        have hT8 := Keeps.box hk8 (by decide) HT12.out
        have hS8 : Sg w8 g r9.2.1 r9.2.2 := HS12.out.grown hg8 (fun q e => by have := hlo q e; omega)
        have hset : w8.grownBy (w8.setCell ⟨T, 1, none⟩ (.slice AA MM cc)) (some T) := (Only.refl T w8).set 1 _
        have tc8 := hT8.cell 1
        have tf8 := hT8.warm 1
        have HEND : Kp ((is ++ [D]).length = j + 1 ∧ qMany pIn m l0 b0 = ((is ++ [D]) ++ (qMany pIn (m - (j + 1)) r9.2.1 r9.2.2).1, (qMany pIn (m - (j + 1)) r9.2.1 r9.2.2).2) ∧ Sg (w8.setCell ⟨T, 1, none⟩ (.slice AA MM cc)) g r9.2.1 r9.2.2 ∧ OwnMany 36 47 (InN (w8.setCell ⟨T, 1, none⟩ (.slice AA MM cc)) w1.heap.size) (w8.setCell ⟨T, 1, none⟩ (.slice AA MM cc)) w1.heap.size (.slice AA MM cc) (is ++ [D]) ∧ Box (w8.setCell ⟨T, 1, none⟩ (.slice AA MM cc)) T 26 #[va, .slice AA MM cc, vo, vz] ∧ But2 g T w1 (w8.setCell ⟨T, 1, none⟩ (.slice AA MM cc))) :=
          ⟨by simp [HK.out.2], by have h := HQ.out; rw [HPD.out.1, HPD.out.2] at h; exact h, hS8.set (by omega) 1 _, hm8.kept hset (fun q e => by have := Option.some.inj e; omega) (fun cs d h => h.kept hset (fun q e => by have := Option.some.inj e; omega)), hT8.set 1 _, ((HB.out.only HO12.out).grown hg8 hlo).set 1 _⟩
        have hwj : IntKind.i64.wrap ((j : Int) + 1) = (j : Int) + 1 := by have := HK.out.1; have := HM.out; rw [IntKind.wrap_i64]; omega
        clear hm8 hg8 hk8 hlo hgT hT8 hS8 hset hMM hcl hfold c8 f8 c10 f10 tc
        go_wp2
        go_roundw
        case rel => exact ⟨j + 1, _, _, _, _, by have := HK.out.1; omega, by go_num, HEND⟩
        case measure => simp [intOf]; have := HK.out.1; omega
    · obtain rfl : j = m := by omega
      have HEND : Kp (∃ iv, Kp (Sg wr g (qMany pIn j l0 b0).2.1 (qMany pIn j l0 b0).2.2 ∧ OwnMany 36 47 (InN wr w1.heap.size) wr w1.heap.size iv (qMany pIn j l0 b0).1 ∧ Box wr T 26 #[va, iv, vo, vz] ∧ But2 g T w1 wr)) := ⟨iv, ⟨by rw [hq, Nat.sub_self]; simpa [qMany] using ⟨hS, hO, hX, hB⟩⟩⟩
      clear hol hq hS hO hX hB hj hlt H
      go_wp2
      exact HEND.out


/-- A region whose order is drawn, by states: each operation that may come up leads to a state of less rank. -/
theorem wpAnyH_states {P : Program} {md : Region.Mode} {ops : Array Oper} {Q : Exit → Act → World → Prop} {S : World → Prop} {σ : Type} (lst : σ → Array Bool) (rank : σ → Nat) (rd : σ → List Nat) (V : σ → Prop) (I : σ → Act → World → Prop)
    (hrd : ∀ s, V s → Region.ready md ops (lst s) = rd s) (h0 : ∀ s, V s → rank s = 0 → rd s = [])
    (hstep : ∀ s a w, V s → I s a w → ∀ i ∈ rd s, wpOp P ops Q i (fun a' w' => S w' ∧ ∃ s', V s' ∧ lst s' = (lst s).setIfInBounds i true ∧ rank s' < rank s ∧ I s' a' w') a w)
    (hdone : ∀ s a w, V s → I s a w → rd s = [] → Q .normal a w) :
    ∀ fuel s a w, V s → rank s ≤ fuel → I s a w → wpAnyH P md ops Q S fuel (lst s) a w
  | 0, s, a, w, hV, hr, hI => ⟨by rw [hrd s hV]; exact h0 s hV (by omega), hdone s a w hV hI (h0 s hV (by omega))⟩
  | fuel + 1, s, a, w, hV, hr, hI => ⟨fun h => hdone s a w hV hI (by rw [← hrd s hV]; exact h), fun i hi => wpOp_mono (fun a' w' h => by
      obtain ⟨hS, s', hV', hl, hk, hI'⟩ := h
      refine ⟨hS, ?_⟩
      rw [← hl]
      exact wpAnyH_states lst rank rd V I hrd h0 hstep hdone fuel s' a' w' hV' (by omega) hI') (hstep s a w hV hI i (by rw [← hrd s hV]; exact hi))⟩
/-- One operation without a guard. -/
theorem wpOp_one {P : Program} {ops : Array Oper} {Q : Exit → Act → World → Prop} {K : Act → World → Prop} {a : Act} {w : World} {i : Nat} {o : Oper} (ho : ops[i]? = some o) (hg : o.guard = none) (h : Oper.wp P o a w K Q) : wpOp P ops Q i K a w := by
  refine wpOp_step ho fun K' hK => ?_
  have hw : Region.wanted o (yielded ops a.tmps) = true := by simp [Region.wanted, hg]
  rw [if_pos hw]
  exact Oper.wp_mono hK h

/-- The same, what follows hidden from the walk's simp. -/
theorem wpOp_hid {P : Program} {ops : Array Oper} {Q : Exit → Act → World → Prop} {K : Act → World → Prop} {a : Act} {w : World} {i : Nat} {o : Oper} (ho : ops[i]? = some o) (hg : o.guard = none) (h : ∀ K' : Act → World → Prop, Kp (∀ a w, K a w → K' a w) → Oper.wp P o a w K' Q) : wpOp P ops Q i K a w :=
  wpOp_one ho hg (h K ⟨fun _ _ h => h⟩)


/-- All but the blocks g and G is as it was: But2 by another name's block. -/
theorem But2.setAt {g G : Nat} {w w1 : World} (h : But2 g G w w1) (i : Nat) (u : Value) : But2 g G w (w1.setCell ⟨G, i, none⟩ u) := h.set i u
theorem Sg.at {w w' : World} {g : Nat} {l : List Int} {bad : Bool} (h : Sg w g l bad) (hb : Below w.heap.size w w') : Sg w' g l bad := h.low (fun k hk _ => hb.block k hk) hb.size

/-- What is known when c of the chain, and the load of the witness, have come up. -/
structure WitSt (g gi I M j : Nat) (w1 wr : World) (l : List Int) (r1 : Nat × List Int × Bool) (tx : Rest (List Int)) (ws : List (List Int)) (wv : Value) (Ci : Array Value) (s : Nat × Bool) (x150 x153 x154 x155 x156 x157 x158 : Value) (wx : World) : Prop where
  but : But2 g gi w1 wx
  only : s.1 ≤ 3 → Only g wr wx
  h150 : s.2 = true → x150 = wv
  hs0 : s.1 = 0 → Sg wx g l false
  hs1 : s.1 = 1 → x153 = .int .i64 (r1.1 : Int) ∧ Sg wx g r1.2.1 r1.2.2
  hs2 : 2 ≤ s.1 → Sg wx g tx.2.1 tx.2.2
  h154 : 2 ≤ s.1 → s.1 ≤ 3 → ∃ A c, x154 = .slice A M c ∧ Own wx wr.heap.size 5 x154 tx.1 ∧ Bys tx.1
  h155 : s.1 = 3 → ∃ G, x155 = .slice (some ⟨G, 0, none⟩) 1 1 ∧ Box wx G 27 #[x154]
  h156 : 4 ≤ s.1 → ∃ A c, x156 = .slice A (j + 1) c ∧ OwnRows wx w1.heap.size x156 (ws ++ [tx.1])
  hbox : 4 ≤ s.1 → s.1 ≤ 6 → Box wx gi 47 (Ci.setIfInBounds I wv)
  h157 : 5 ≤ s.1 → x157 = .pointer (some ⟨gi, I - 35, none⟩)
  h158 : 6 ≤ s.1 → x158 = .pointer (some ⟨gi, I, none⟩)
  hend : 7 ≤ s.1 → Box wx gi 47 (Ci.setIfInBounds I x156)
def witV (s : Nat × Bool) : Prop := s.1 ≤ 7 ∧ (4 ≤ s.1 → s.2 = true)
def witLst (s : Nat × Bool) : Array Bool := #[true, true, true, true, true, true, true, true, s.2, true, true, decide (1 ≤ s.1), decide (2 ≤ s.1), decide (3 ≤ s.1), decide (4 ≤ s.1), decide (5 ≤ s.1), decide (6 ≤ s.1), decide (7 ≤ s.1)]
def witRank (s : Nat × Bool) : Nat := (7 - s.1) + (if s.2 then 0 else 1)
def witCond (s : Nat × Bool) : Nat → Bool
  | 8 => !s.2
  | 11 => decide (s.1 = 0)
  | 12 => decide (s.1 = 1)
  | 13 => decide (s.1 = 2)
  | 14 => decide (s.1 = 3) && s.2
  | 15 => decide (s.1 = 4)
  | 16 => decide (s.1 = 5)
  | 17 => decide (s.1 = 6)
  | _ => false
def witRd (s : Nat × Bool) : List Nat := [8, 11, 12, 13, 14, 15, 16, 17].filter (witCond s)
theorem wit_done {s : Nat × Bool} (hV : witV s) (h : witRd s = []) : s.1 = 7 := by
  obtain ⟨c, b⟩ := s
  obtain ⟨h1, h2⟩ := hV
  have : c = 0 ∨ c = 1 ∨ c = 2 ∨ c = 3 ∨ c = 4 ∨ c = 5 ∨ c = 6 ∨ c = 7 := by simp only at h1; omega
  rcases this with rfl | rfl | rfl | rfl | rfl | rfl | rfl | rfl <;> cases b <;> simp_all [witRd, witCond]
theorem wit_rank0 {s : Nat × Bool} (hV : witV s) (h : witRank s = 0) : witRd s = [] := by
  obtain ⟨c, b⟩ := s
  obtain ⟨h1, h2⟩ := hV
  have : c = 0 ∨ c = 1 ∨ c = 2 ∨ c = 3 ∨ c = 4 ∨ c = 5 ∨ c = 6 ∨ c = 7 := by simp only at h1; omega
  rcases this with rfl | rfl | rfl | rfl | rfl | rfl | rfl | rfl <;> cases b <;> simp_all [witRd, witCond, witRank]

set_option maxRecDepth 10000000 in
set_option maxHeartbeats 8000000 in
theorem readLoop4 (g T gi i n ci K : Nat) (w1 : World) (l0 : List Int) (b0 : Bool) (Ci : Array Value) (va vo vz : Value) (Q : Exit → Act → World → Prop) (s1 s2 s3 s4 s6 s7 s8 s9 s10 s11 s12 s15 s16 s17 s18 s19 s20 s21 s22 s23 s24 s25 s26 s27 s28 s29 s30 s31 s32 s33 s34 s35 s36 s37 s38 s39 s40 s41 s42 s43 s44 s45 s46 s47 s48 s49 s50 s51 s52 s53 s54 s55 s56 s57 s58 s59 s60 s61 s62 s63 s64 s65 s66 s67 s68 s69 s70 s71 s72 s73 s74 s75 s76 s77 s78 s79 s80 s81 s82 s83 s84 s85 s86 s87 s88 s89 s90 s91 s92 s93 s94 s95 s96 s97 s98 s99 s100 s101 s102 s103 s104 s105 s106 s107 s108 s109 s110 s111 s112 s113 s114 s115 s116 s117 s118 s119 s120 s121 s122 s123 s124 s125 s126 s127 s128 s129 s130 s131 s132 s133 s134 s135 s136 s137 s138 s139 s140 s141 s142 s143 s144 s145 s146 s147 s148 s149 s150 s151 s152 s153 s154 s155 s156 s157 s158 s159 s160 s161 s162 s163 s164 s165 s166 s167 s168 s169 s170 s171 s172 s173 s174 s175 s176 s177 s178 s179 s180 s181 s182 s183 s184 s185 s186 s187 s188 s189 s190 s191 s192 : Value)
    (HS : Kp (Sg w1 g l0 b0)) (HT : Kp (Box w1 T 26 #[va, .slice (some ⟨gi, 0, none⟩) n ci, vo, vz])) (HI : Kp (Box w1 gi 47 Ci)) (HC : Kp (Ci[i * 36 + 35]? = some (.slice none 0 0)))
    (HG : Kp (g < T ∧ T < w1.heap.size ∧ g < gi ∧ gi < w1.heap.size ∧ T ≠ gi)) (HN : Kp (i < n ∧ n ≤ 50)) (HK : Kp (K ≤ 10))
    (hexit : ∀ (t14 t131 t132 t133 t134 t135 t136 t137 t138 t139 t140 t141 t142 t143 t144 t145 t146 t147 t148 t149 t150 t151 t152 t153 t154 t155 t156 t157 t158 : Value) (w' : World), (∃ wv, Kp (Sg w' g (qMany pText K l0 b0).2.1 (qMany pText K l0 b0).2.2 ∧ OwnRows w' w1.heap.size wv (qMany pText K l0 b0).1 ∧ Box w' gi 47 (Ci.setIfInBounds (i * 36 + 35) wv) ∧ But2 g gi w1 w')) → Q (.exit 6) ⟨(List.toArray (.pointer (some ⟨g, 0, none⟩) :: s1 :: s2 :: s3 :: s4 :: .pointer (some ⟨T, 0, none⟩) :: s6 :: s7 :: s8 :: s9 :: s10 :: s11 :: s12 :: .int .i64 (i : Int) :: t14 :: s15 :: s16 :: s17 :: s18 :: s19 :: s20 :: s21 :: s22 :: s23 :: s24 :: s25 :: s26 :: s27 :: s28 :: s29 :: s30 :: s31 :: s32 :: s33 :: s34 :: s35 :: s36 :: s37 :: s38 :: s39 :: s40 :: s41 :: s42 :: s43 :: s44 :: s45 :: s46 :: s47 :: s48 :: s49 :: s50 :: s51 :: s52 :: s53 :: s54 :: s55 :: s56 :: s57 :: s58 :: s59 :: s60 :: s61 :: s62 :: s63 :: s64 :: s65 :: s66 :: s67 :: s68 :: s69 :: s70 :: s71 :: s72 :: s73 :: s74 :: s75 :: s76 :: s77 :: s78 :: s79 :: s80 :: s81 :: s82 :: s83 :: s84 :: s85 :: s86 :: s87 :: s88 :: s89 :: s90 :: s91 :: s92 :: s93 :: s94 :: s95 :: s96 :: s97 :: s98 :: s99 :: s100 :: s101 :: s102 :: s103 :: s104 :: s105 :: s106 :: s107 :: s108 :: s109 :: s110 :: s111 :: s112 :: s113 :: s114 :: s115 :: s116 :: s117 :: s118 :: s119 :: s120 :: s121 :: s122 :: s123 :: s124 :: s125 :: s126 :: s127 :: s128 :: s129 :: s130 :: t131 :: t132 :: t133 :: t134 :: t135 :: t136 :: t137 :: t138 :: t139 :: t140 :: t141 :: t142 :: t143 :: t144 :: t145 :: t146 :: t147 :: t148 :: t149 :: t150 :: t151 :: t152 :: t153 :: t154 :: t155 :: t156 :: t157 :: t158 :: s159 :: s160 :: s161 :: s162 :: s163 :: s164 :: s165 :: s166 :: s167 :: s168 :: s169 :: s170 :: s171 :: s172 :: s173 :: s174 :: s175 :: s176 :: s177 :: s178 :: s179 :: s180 :: s181 :: s182 :: s183 :: s184 :: s185 :: s186 :: s187 :: s188 :: s189 :: s190 :: s191 :: s192 :: [])), []⟩ w') :
    Code.wp Try.prog (readLoop 3) Q ⟨(List.toArray (.pointer (some ⟨g, 0, none⟩) :: s1 :: s2 :: s3 :: s4 :: .pointer (some ⟨T, 0, none⟩) :: s6 :: s7 :: s8 :: s9 :: s10 :: s11 :: s12 :: .int .i64 (i : Int) :: .int .i64 (K : Int) :: s15 :: s16 :: s17 :: s18 :: s19 :: s20 :: s21 :: s22 :: s23 :: s24 :: s25 :: s26 :: s27 :: s28 :: s29 :: s30 :: s31 :: s32 :: s33 :: s34 :: s35 :: s36 :: s37 :: s38 :: s39 :: s40 :: s41 :: s42 :: s43 :: s44 :: s45 :: s46 :: s47 :: s48 :: s49 :: s50 :: s51 :: s52 :: s53 :: s54 :: s55 :: s56 :: s57 :: s58 :: s59 :: s60 :: s61 :: s62 :: s63 :: s64 :: s65 :: s66 :: s67 :: s68 :: s69 :: s70 :: s71 :: s72 :: s73 :: s74 :: s75 :: s76 :: s77 :: s78 :: s79 :: s80 :: s81 :: s82 :: s83 :: s84 :: s85 :: s86 :: s87 :: s88 :: s89 :: s90 :: s91 :: s92 :: s93 :: s94 :: s95 :: s96 :: s97 :: s98 :: s99 :: s100 :: s101 :: s102 :: s103 :: s104 :: s105 :: s106 :: s107 :: s108 :: s109 :: s110 :: s111 :: s112 :: s113 :: s114 :: s115 :: s116 :: s117 :: s118 :: s119 :: s120 :: s121 :: s122 :: s123 :: s124 :: s125 :: s126 :: s127 :: s128 :: s129 :: s130 :: s131 :: s132 :: s133 :: s134 :: s135 :: s136 :: s137 :: s138 :: s139 :: s140 :: s141 :: s142 :: s143 :: s144 :: s145 :: s146 :: s147 :: s148 :: s149 :: s150 :: s151 :: s152 :: s153 :: s154 :: s155 :: s156 :: s157 :: s158 :: s159 :: s160 :: s161 :: s162 :: s163 :: s164 :: s165 :: s166 :: s167 :: s168 :: s169 :: s170 :: s171 :: s172 :: s173 :: s174 :: s175 :: s176 :: s177 :: s178 :: s179 :: s180 :: s181 :: s182 :: s183 :: s184 :: s185 :: s186 :: s187 :: s188 :: s189 :: s190 :: s191 :: s192 :: [])), []⟩ w1 := by
  conv => arg 2; whnf
  have hin : (i : Int) < (n : Int) := by have := HN.out.1; omega
  have hi0 : (0 : Int) ≤ (i : Int) := by omega
  go_loopw [14] (fun kv wr => ∃ (j : Nat) (ws : List (List Int)) (wv : Value) (l : List Int) (bad : Bool), j ≤ K ∧ kv = .int .i64 ((K - j : Nat) : Int) ∧ Kp (ws.length = j ∧ qMany pText K l0 b0 = (ws ++ (qMany pText (K - j) l bad).1, (qMany pText (K - j) l bad).2) ∧ Sg wr g l bad ∧ OwnRows wr w1.heap.size wv ws ∧ Box wr gi 47 (Ci.setIfInBounds (i * 36 + 35) wv) ∧ But2 g gi w1 wr)) (fun kv _ => (intOf kv).toNat)
  case atStart => exact ⟨0, [], _, l0, b0, Nat.zero_le _, rfl, ⟨rfl, by simp, HS.out, OwnMany.nil _ _ _ _ _, by rw [set_same HC.out]; exact HI.out, But2.refl _ _ _⟩⟩
  case round =>
    obtain ⟨j, ws, wv, l, bad, hj, rfl, H⟩ := hrel
    obtain ⟨hol, hq, hS, hO, hX, hB⟩ := H.out
    have hcb := hS.bad
    by_cases hlt : j < K
    · obtain ⟨q, hqq⟩ : ∃ q, K - j = q + 1 := ⟨K - j - 1, by omega⟩
      cases bad with
      | true =>
        rw [hqq]
        have hjm : (0 : Int) < ((q + 1 : Nat) : Int) := by omega
        have HEND : Kp (∃ wv, Kp (Sg wr g (qMany pText K l0 b0).2.1 (qMany pText K l0 b0).2.2 ∧ OwnRows wr w1.heap.size wv (qMany pText K l0 b0).1 ∧ Box wr gi 47 (Ci.setIfInBounds (i * 36 + 35) wv) ∧ But2 g gi w1 wr)) := ⟨wv, ⟨by rw [hq, qMany_bad]; simpa using ⟨hS, hO, hX, hB⟩⟩⟩
        clear hol hq hS hO hX hB hj hlt H
        go_wp2
        exact HEND.out
      | false =>
        rw [hqq]
        have hjm : (0 : Int) < ((q + 1 : Nat) : Int) := by omega
        have hsub : IntKind.i64.wrap (((q + 1 : Nat) : Int) - 1) = (q : Int) := by have := HK.out; rw [IntKind.wrap_i64]; omega
        have HQ := Kp.mk (qMany_step hlt hq)
        have HJ := Kp.mk (And.intro hlt (And.intro hol hqq))
        have HX := Kp.mk hX
        have HB := Kp.mk hB
        have HO := Kp.mk hO
        have hgt := HG.out
        have hT : Box wr T 26 #[va, .slice (some ⟨gi, 0, none⟩) n ci, vo, vz] := (hB.block T hgt.2.1 (by omega) hgt.2.2.2.2).trans HT.out
        have hbd : Below wr.heap.size wr wr.drew := (Below.refl _ _).drew
        have H2 := Kp.mk (gcount_any g wr.drew l false 500 (hS.at hbd) (by omega))
        have HPT : Kp ((took (count l false 500).2.1 (count l false 500).2.2 (count l false 500).1) = pText l false) := ⟨rfl⟩
        have hsz : i * 36 + 35 < Ci.size := by
          rcases Nat.lt_or_ge (i * 36 + 35) Ci.size with h | h
          · exact h
          · have := HC.out; rw [Array.getElem?_eq_none h] at this; cases this
        have HSZ := Kp.mk hsz
        have hw : ∀ W, Only g wr W → W.cell? ⟨gi, i * 36 + 35, none⟩ = some wv := fun W ho => by
          have h := hX.keep ho (by omega)
          rw [h.cell]
          simp [hsz]
        have ht : ∀ W, Only g wr W → W.cell? ⟨T, 1, none⟩ = some (.slice (some ⟨gi, 0, none⟩) n ci) := fun W ho => (hT.keep ho (by omega)).cell 1
        have hod : Only g wr wr.drew := Only.of_below hbd
        have HWV := Kp.mk hw
        have HTV := Kp.mk ht
        have HOD := Kp.mk hod
        have w0c := hw _ hod
        have t0c := ht _ hod
        obtain ⟨io, hio, hzo, hso, hbo⟩ := info_parts3 infoRow
        have HII := Kp.mk (And.intro hio (And.intro hzo (And.intro hso hbo)))
        have HHS : Kp (w1.heap.size ≤ wr.heap.size) := ⟨hB.size⟩
        have HT5 := Kp.mk hT
        obtain ⟨Aw, cw, hwv⟩ := hO.slice
        have HWSL := Kp.mk hwv
        have HS0 : Kp (Sg wr.drew g l false) := ⟨hS.at hbd⟩
        have HCNT : Kp (∀ W, Sg W g l false → Calls Try.prog 45 #[.pointer (some ⟨g, 0, none⟩), .int .i64 500] W (NumG g (count l false 500) (.int .i64 ((count l false 500).1 : Int)) W)) := ⟨fun W h => gcount_any g W l false 500 h (by omega)⟩
        have HTK : Kp (∀ W, Sg W g (count l false 500).2.1 (count l false 500).2.2 → Calls Try.prog 44 #[.pointer (some ⟨g, 0, none⟩), .int .i64 ((count l false 500).1 : Int)] W (TookG g (pText l false) W)) := ⟨fun W h => gtake_any g W _ _ (count l false 500).1 h⟩
        have HTS : Kp (∀ W, But2 g gi w1 W → W.cell? ⟨T, 1, none⟩ = some (.slice (some ⟨gi, 0, none⟩) n ci)) := ⟨fun W hW => by
          have hx : Box W T 26 #[va, .slice (some ⟨gi, 0, none⟩) n ci, vo, vz] := (hW.block T hgt.2.1 (by omega) hgt.2.2.2.2).trans HT.out
          exact hx.cell 1⟩
        generalize count l false 500 = r1 at *
        obtain ⟨tx, htx⟩ : ∃ tx, pText l false = tx := ⟨_, rfl⟩
        have HTX := Kp.mk htx
        rw [htx] at HTK HPT
        clear htx
        obtain ⟨M, hM⟩ : ∃ M, tx.1.length = M := ⟨_, rfl⟩
        have HMM := Kp.mk hM
        clear hM
        clear hol hq hS hO hX hB hj hlt H hqq hgt hT hbd hsz hw ht hod hio hzo hso hbo hwv
        go_wp2_with fail
        refine wp_region_noPanic ?_
        refine wp_region_held_drew (S := (fun W => W.cell? ⟨T, 1, none⟩ = some (.slice (some ⟨gi, 0, none⟩) n ci))) (by kernel_rfl) ?_ (fun hHeld => ?_)
        · exact t0c
        refine wpAnyH_take (i := 0) (oi := ⟨some 142, _, _, _, _, _⟩) (v := ?_) rfl (by kernel_rfl) (by kernel_rfl) (by kernel_rfl) (fun _ _ _ h => h) (Or.inl ⟨by rfl, ?_⟩) hHeld ?_
        rotate_left
        · (intro wx hSw; (try dsimp only at hSw); go_simp; try with_reducible rfl)
        try simp only [Act.put, List.setIfInBounds_toArray, List.set_cons_zero, List.set_cons_succ]
        refine wpAnyH_take (i := 1) (oi := ⟨some 143, _, _, _, _, _⟩) (v := ?_) rfl (by kernel_rfl) (by kernel_rfl) (by kernel_rfl) (fun _ _ _ h => h) (Or.inl ⟨by rfl, ?_⟩) hHeld ?_
        rotate_left
        · (intro wx hSw; (try dsimp only at hSw); go_simp; try with_reducible rfl)
        try simp only [Act.put, List.setIfInBounds_toArray, List.set_cons_zero, List.set_cons_succ]
        refine wpAnyH_take (i := 2) (oi := ⟨some 144, _, _, _, _, _⟩) (v := ?_) rfl (by kernel_rfl) (by kernel_rfl) (by kernel_rfl) (fun _ _ _ h => h) (Or.inl ⟨by rfl, ?_⟩) hHeld ?_
        rotate_left
        · (intro wx hSw; (try dsimp only at hSw); go_simp; try with_reducible rfl)
        try simp only [Act.put, List.setIfInBounds_toArray, List.set_cons_zero, List.set_cons_succ]
        refine wpAnyH_take (i := 3) (oi := ⟨some 145, _, _, _, _, _⟩) (v := ?_) rfl (by kernel_rfl) (by kernel_rfl) (by kernel_rfl) (fun _ _ _ h => h) (Or.inl ⟨by rfl, ?_⟩) hHeld ?_
        rotate_left
        · (intro wx hSw; (try dsimp only at hSw); go_simp; try with_reducible rfl)
        try simp only [Act.put, List.setIfInBounds_toArray, List.set_cons_zero, List.set_cons_succ]
        refine wpAnyH_take (i := 4) (oi := ⟨some 146, _, _, _, _, _⟩) (v := ?_) rfl (by kernel_rfl) (by kernel_rfl) (by kernel_rfl) (fun _ _ _ h => h) (Or.inl ⟨by rfl, ?_⟩) hHeld ?_
        rotate_left
        · (intro wx hSw; (try dsimp only at hSw); go_simp; try with_reducible rfl)
        try simp only [Act.put, List.setIfInBounds_toArray, List.set_cons_zero, List.set_cons_succ]
        refine wpAnyH_take (i := 5) (oi := ⟨some 147, _, _, _, _, _⟩) (v := ?_) rfl (by kernel_rfl) (by kernel_rfl) (by kernel_rfl) (fun _ _ _ h => h) (Or.inl ⟨by rfl, ?_⟩) hHeld ?_
        rotate_left
        · (intro wx hSw; (try dsimp only at hSw); go_simp; try with_reducible rfl)
        try simp only [Act.put, List.setIfInBounds_toArray, List.set_cons_zero, List.set_cons_succ]
        refine wpAnyH_take (i := 6) (oi := ⟨some 148, _, _, _, _, _⟩) (v := ?_) rfl (by kernel_rfl) (by kernel_rfl) (by kernel_rfl) (fun _ _ _ h => h) (Or.inl ⟨by rfl, ?_⟩) hHeld ?_
        rotate_left
        · (intro wx hSw; (try dsimp only at hSw); go_simp; try with_reducible rfl)
        try simp only [Act.put, List.setIfInBounds_toArray, List.set_cons_zero, List.set_cons_succ]
        refine wpAnyH_take (i := 7) (oi := ⟨some 149, _, _, _, _, _⟩) (v := ?_) rfl (by kernel_rfl) (by kernel_rfl) (by kernel_rfl) (fun _ _ _ h => h) (Or.inl ⟨by rfl, ?_⟩) hHeld ?_
        rotate_left
        · (intro wx hSw; (try dsimp only at hSw); go_simp; try with_reducible rfl)
        try simp only [Act.put, List.setIfInBounds_toArray, List.set_cons_zero, List.set_cons_succ]
        refine wpAnyH_take (i := 9) (oi := ⟨some 151, _, _, _, _, _⟩) (v := ?_) rfl (by kernel_rfl) (by kernel_rfl) (by kernel_rfl) (fun _ _ _ h => h) (Or.inl ⟨by rfl, ?_⟩) hHeld ?_
        rotate_left
        · (intro wx hSw; (try dsimp only at hSw); go_simp; try with_reducible rfl)
        try simp only [Act.put, List.setIfInBounds_toArray, List.set_cons_zero, List.set_cons_succ]
        refine wpAnyH_take (i := 10) (oi := ⟨some 152, _, _, _, _, _⟩) (v := ?_) rfl (by kernel_rfl) (by kernel_rfl) (by kernel_rfl) (fun _ _ _ h => h) (Or.inl ⟨by rfl, ?_⟩) hHeld ?_
        rotate_left
        · (intro wx hSw; (try dsimp only at hSw); go_simp; try with_reducible rfl)
        try simp only [Act.put, List.setIfInBounds_toArray, List.set_cons_zero, List.set_cons_succ]
        refine wpAnyH_states witLst witRank witRd witV (fun s a wx => ∃ (x150 x153 x154 x155 x156 x157 x158 : Value), a = ⟨(List.toArray ((.pointer (some ⟨g, 0, none⟩) : Value) :: s1 :: s2 :: s3 :: s4 :: .pointer (some ⟨T, 0, none⟩) :: s6 :: s7 :: s8 :: s9 :: s10 :: s11 :: s12 :: .int .i64 (i : Int) :: .int .i64 ((q + 1 : Nat) : Int) :: s15 :: s16 :: s17 :: s18 :: s19 :: s20 :: s21 :: s22 :: s23 :: s24 :: s25 :: s26 :: s27 :: s28 :: s29 :: s30 :: s31 :: s32 :: s33 :: s34 :: s35 :: s36 :: s37 :: s38 :: s39 :: s40 :: s41 :: s42 :: s43 :: s44 :: s45 :: s46 :: s47 :: s48 :: s49 :: s50 :: s51 :: s52 :: s53 :: s54 :: s55 :: s56 :: s57 :: s58 :: s59 :: s60 :: s61 :: s62 :: s63 :: s64 :: s65 :: s66 :: s67 :: s68 :: s69 :: s70 :: s71 :: s72 :: s73 :: s74 :: s75 :: s76 :: s77 :: s78 :: s79 :: s80 :: s81 :: s82 :: s83 :: s84 :: s85 :: s86 :: s87 :: s88 :: s89 :: s90 :: s91 :: s92 :: s93 :: s94 :: s95 :: s96 :: s97 :: s98 :: s99 :: s100 :: s101 :: s102 :: s103 :: s104 :: s105 :: s106 :: s107 :: s108 :: s109 :: s110 :: s111 :: s112 :: s113 :: s114 :: s115 :: s116 :: s117 :: s118 :: s119 :: s120 :: s121 :: s122 :: s123 :: s124 :: s125 :: s126 :: s127 :: s128 :: s129 :: s130 :: .int .i64 ((q + 1 : Nat) : Int) :: .bool true :: .bool true :: .pointer (some ⟨g, 0, none⟩) :: .pointer (some ⟨g, 0, none⟩) :: .pointer (some ⟨g, 1, none⟩) :: .bool false :: .bool true :: .bool true :: u140 :: u141 :: .pointer (some ⟨T, 1, none⟩) :: .slice (some ⟨gi, 0, none⟩) n ci :: .int .i64 (i : Int) :: .pointer (some ⟨T, 1, none⟩) :: .slice (some ⟨gi, 0, none⟩) n ci :: .int .i64 (i : Int) :: .pointer (some ⟨gi, i * 36, none⟩) :: .pointer (some ⟨gi, i * 36 + 35, none⟩) :: x150 :: .pointer (some ⟨g, 0, none⟩) :: .pointer (some ⟨g, 0, none⟩) :: x153 :: x154 :: x155 :: x156 :: x157 :: x158 :: s159 :: s160 :: s161 :: s162 :: s163 :: s164 :: s165 :: s166 :: s167 :: s168 :: s169 :: s170 :: s171 :: s172 :: s173 :: s174 :: s175 :: s176 :: s177 :: s178 :: s179 :: s180 :: s181 :: s182 :: s183 :: s184 :: s185 :: s186 :: s187 :: s188 :: s189 :: s190 :: s191 :: s192 :: [])), []⟩ ∧ WitSt g gi (i * 36 + 35) M j w1 wr l r1 tx ws wv Ci s x150 x153 x154 x155 x156 x157 x158 wx) ?hrd (fun s hV h => wit_rank0 hV h) ?hst ?hdn 8 (0, false) _ _ ⟨by simp, by simp⟩ (by simp [witRank]) ?hin
        case hin => exact ⟨u150, u153, u154, u155, u156, u157, u158, rfl, ⟨HB.out.only HOD.out, fun _ => HOD.out, by simp, fun _ => HS0.out, by simp, by simp, by simp, by simp, by simp, by simp, by simp, by simp, by simp⟩⟩
        case hrd =>
          rintro ⟨c, b⟩ ⟨h1, h2⟩
          have hc8 : c = 0 ∨ c = 1 ∨ c = 2 ∨ c = 3 ∨ c = 4 ∨ c = 5 ∨ c = 6 ∨ c = 7 := by simp only at h1; omega
          rcases hc8 with rfl | rfl | rfl | rfl | rfl | rfl | rfl | rfl <;> cases b <;> first | (exfalso; simp at h2; done) | (show (_ : List Nat) = _; kernel_rfl)
        case hst =>
          rintro ⟨c, b⟩ a wx hV ⟨x150, x153, x154, x155, x156, x157, x158, rfl, hs⟩ k hk
          obtain ⟨h9, hc⟩ := List.mem_filter.1 hk
          simp only [List.mem_cons, List.not_mem_nil, or_false] at h9
          obtain ⟨hv1, hv2⟩ := hV
          rcases h9 with rfl | rfl | rfl | rfl | rfl | rfl | rfl | rfl
          · obtain rfl : b = false := by simpa [witCond] using hc
            have hc3 : c ≤ 3 := by
              rcases Nat.lt_or_ge 3 c with h | h
              · exact absurd (hv2 h) (by simp)
              · exact h
            have hcell := HWV.out wx (hs.only hc3)
            refine wpOp_hid (o := ⟨some 150, _, _, _, _, _⟩) rfl rfl fun KK hKK => ?_
            go_simp
            exact hKK.out _ _ ⟨HTS.out _ hs.but, (c, true), ⟨hv1, by simp⟩, rfl, by simp [witRank], wv, x153, x154, x155, x156, x157, x158, rfl, ⟨hs.but, hs.only, fun _ => rfl, hs.hs0, hs.hs1, hs.hs2, hs.h154, hs.h155, hs.h156, hs.hbox, hs.h157, hs.h158, hs.hend⟩⟩
          · obtain rfl : c = 0 := by simpa [witCond] using hc
            have hcn := Kp.mk (HCNT.out wx (hs.hs0 rfl))
            refine wpOp_hid (o := ⟨some 153, _, _, _, _, _⟩) rfl rfl fun KK hKK => ?_
            go_simp
            refine hcn.out.mono ?_
            rintro e w' ⟨ho, rfl, hS'⟩
            exact hKK.out _ _ ⟨HTS.out _ (hs.but.only ho), (1, b), ⟨by simp, by simp⟩, rfl, by simp [witRank], x150, _, x154, x155, x156, x157, x158, rfl, ⟨hs.but.only ho, fun _ => (hs.only (by simp)).trans ho, hs.h150, by simp, fun _ => ⟨rfl, hS'⟩, by simp, by simp, by simp, by simp, by simp, by simp, by simp, by simp⟩⟩
          · obtain rfl : c = 1 := by simpa [witCond] using hc
            obtain ⟨rfl, hS1⟩ := hs.hs1 rfl
            have htk := Kp.mk (HTK.out wx hS1)
            refine wpOp_hid (o := ⟨some 154, _, _, _, _, _⟩) rfl rfl fun KK hKK => ?_
            go_simp
            refine htk.out.mono ?_
            rintro e w' ⟨v3, rfl, ho, hv3, hy3, hS'⟩
            obtain ⟨A3, c3, e3⟩ := hv3.slice
            rw [HMM.out] at e3
            exact hKK.out _ _ ⟨HTS.out _ (hs.but.only ho), (2, b), ⟨by simp, by simp⟩, rfl, by simp [witRank], x150, _, v3, x155, x156, x157, x158, rfl, ⟨hs.but.only ho, fun _ => (hs.only (by simp)).trans ho, hs.h150, by simp, by simp, fun _ => hS', fun _ _ => ⟨A3, c3, e3, hv3.less (hs.only (by simp)).size, hy3⟩, by simp, by simp, by simp, by simp, by simp, by simp⟩⟩
          · obtain rfl : c = 2 := by simpa [witCond] using hc
            obtain ⟨A3, c3, rfl, hv3, hy3⟩ := hs.h154 (by simp) (by simp)
            have hb : Below wx.heap.size wx (wx.alloc (.cells #[.slice A3 M c3] 27)) := (Below.refl _ _).alloc (Nat.le_refl _) _
            refine wpOp_hid (o := ⟨some 155, _, _, _, _, _⟩) rfl rfl fun KK hKK => ?_
            go_simp
            exact hKK.out _ _ ⟨HTS.out _ (hs.but.below hb), (3, b), ⟨by simp, by simp⟩, rfl, by simp [witRank], x150, x153, _, _, x156, x157, x158, rfl, ⟨hs.but.below hb, fun _ => (hs.only (by simp)).trans (Only.of_below hb), hs.h150, by simp, by simp, fun _ => (hs.hs2 (by simp)).at hb, fun _ _ => ⟨A3, c3, rfl, hv3.below hb, hy3⟩, fun _ => ⟨wx.heap.size, rfl, Box.fresh _ _ _⟩, by simp, by simp, by simp, by simp, by simp⟩⟩
          · obtain ⟨rfl, rfl⟩ : c = 3 ∧ b = true := by simpa [witCond] using hc
            obtain ⟨A3, c3, rfl, hv3, hy3⟩ := hs.h154 (by simp) (by simp)
            obtain ⟨G, rfl, hbx⟩ := hs.h155 rfl
            obtain rfl := hs.h150 rfl
            have hon := hs.only (by simp)
            have hgt := HG.out
            have hrow : OwnRows wx w1.heap.size x150 ws := HO.out.kept hon (fun q e => by have := Option.some.inj e; omega)
            have hro : RowO wx w1.heap.size [.slice A3 M c3] tx.1 := ⟨_, rfl, hv3.less HHS.out, hy3⟩
            have hwl : ws.length = j := HJ.out.2.1
            have hlo : ∀ q, x150.ownBlock = some q → w1.heap.size ≤ q := fun q hq => by obtain ⟨css, hr, _⟩ := hrow; exact (World.ownsRow.lt hr q hq).1
            refine wpOp_one (o := ⟨some 156, _, _, _, _, _⟩) rfl rfl ?_
            refine wp_append_many (R := fun W => RowO W w1.heap.size) (.tmp 150) (.tmp 155) 33 rfl w1.heap.size io _ 24 Try.underlying33 HII.out.1 HII.out.2.1 HII.out.2.2.1 HII.out.2.2.2 rfl (by decide) _ ws rfl hrow G 1 [.slice A3 M c3] tx.1 rfl hbx rfl hro (fun u hu => by obtain rfl := List.mem_singleton.1 hu; rfl) (by have := HJ.out.1; have := HK.out; omega) (by decide) (Nat.le_trans HHS.out hon.size) [5, 47] (by decide) (fun w' cs d hk h => h.turn hk (by decide) (Nat.le_refl _)) ?_
            intro v8 w8 hm8 hg8 hk8
            obtain ⟨A8, c8, e8⟩ := hm8.slice
            have hbu : But2 g gi w1 w8 := hs.but.grown hg8 hlo
            have hbg : Box w8 gi 47 (Ci.setIfInBounds (i * 36 + 35) x150) := Keeps.box hk8 (by decide) (HX.out.keep hon (by omega))
            exact ⟨HTS.out _ hbu, (4, true), ⟨by simp, by simp⟩, rfl, by simp [witRank], x150, x153, _, _, v8, x157, x158, rfl, ⟨hbu, by simp, fun _ => rfl, by simp, by simp, fun _ => (hs.hs2 (by simp)).grown hg8 (fun q e => by have := hlo q e; omega), by simp, by simp, fun _ => ⟨A8, c8, by rw [e8, List.length_append, hwl]; rfl, hm8⟩, fun _ _ => hbg, by simp, by simp, by simp⟩⟩
          · obtain rfl : c = 4 := by simpa [witCond] using hc
            obtain rfl : b = true := hv2 (by simp)
            refine wpOp_hid (o := ⟨some 157, _, _, _, _, _⟩) rfl rfl fun KK hKK => ?_
            go_simp
            exact hKK.out _ _ ⟨HTS.out _ hs.but, (5, true), ⟨by simp, by simp⟩, rfl, by simp [witRank], x150, x153, x154, x155, x156, _, x158, rfl, ⟨hs.but, by simp, hs.h150, by simp, by simp, fun _ => hs.hs2 (by simp), by simp, by simp, fun _ => hs.h156 (by simp), fun _ _ => hs.hbox (by simp) (by simp), fun _ => by simp, by simp, by simp⟩⟩
          · obtain rfl : c = 5 := by simpa [witCond] using hc
            obtain rfl : b = true := hv2 (by simp)
            obtain rfl := hs.h157 (by simp)
            refine wpOp_hid (o := ⟨some 158, _, _, _, _, _⟩) rfl rfl fun KK hKK => ?_
            go_simp
            exact hKK.out _ _ ⟨HTS.out _ hs.but, (6, true), ⟨by simp, by simp⟩, rfl, by simp [witRank], x150, x153, x154, x155, x156, _, _, rfl, ⟨hs.but, by simp, hs.h150, by simp, by simp, fun _ => hs.hs2 (by simp), by simp, by simp, fun _ => hs.h156 (by simp), fun _ _ => hs.hbox (by simp) (by simp), fun _ => rfl, fun _ => by simp, by simp⟩⟩
          · obtain rfl : c = 6 := by simpa [witCond] using hc
            obtain rfl : b = true := hv2 (by simp)
            obtain rfl := hs.h158 (by simp)
            obtain ⟨A8, c8, rfl, hm8⟩ := hs.h156 (by simp)
            have hbg := hs.hbox (by simp) (by simp)
            have hgt := HG.out
            have k1 : wx.cell? ⟨gi, i * 36 + 35, none⟩ = some wv := by rw [hbg.cell]; simp [HSZ.out]
            have k2 := hbg.warm (i * 36 + 35)
            have hset : wx.grownBy (wx.setCell ⟨gi, i * 36 + 35, none⟩ (.slice A8 (j + 1) c8)) (some gi) := (Only.refl gi wx).set _ _
            refine wpOp_hid (o := ⟨none, _, _, _, _, _⟩) rfl rfl fun KK hKK => ?_
            go_simp
            exact hKK.out _ _ ⟨HTS.out _ (hs.but.setAt _ _), (7, true), ⟨by simp, by simp⟩, rfl, by simp [witRank], x150, x153, x154, x155, _, x157, _, rfl, ⟨hs.but.setAt _ _, by simp, hs.h150, by simp, by simp, fun _ => (hs.hs2 (by simp)).set (by omega) _ _, by simp, by simp, fun _ => ⟨A8, c8, rfl, hm8.kept hset (fun q e => by have := Option.some.inj e; omega)⟩, by simp, fun _ => hs.h157 (by simp), fun _ => rfl, fun _ => by have h := hbg.set (i * 36 + 35) (.slice A8 (j + 1) c8); rw [Array.setIfInBounds_setIfInBounds] at h; exact h⟩⟩
        case hdn =>
          rintro s a wx hV ⟨x150, x153, x154, x155, x156, x157, x158, rfl, hs⟩ hd
          have h7 := wit_done hV hd
          obtain ⟨A8, c8, rfl, hm8⟩ := hs.h156 (by omega)
          have HEND : Kp ((ws ++ [tx.1]).length = j + 1 ∧ qMany pText K l0 b0 = ((ws ++ [tx.1]) ++ (qMany pText (K - (j + 1)) tx.2.1 tx.2.2).1, (qMany pText (K - (j + 1)) tx.2.1 tx.2.2).2) ∧ Sg wx g tx.2.1 tx.2.2 ∧ OwnRows wx w1.heap.size (.slice A8 (j + 1) c8) (ws ++ [tx.1]) ∧ Box wx gi 47 (Ci.setIfInBounds (i * 36 + 35) (.slice A8 (j + 1) c8)) ∧ But2 g gi w1 wx) :=
            ⟨by simp [HJ.out.2.1], by have h := HQ.out; rw [HTX.out] at h; exact h, hs.hs2 (by omega), hm8, hs.hend (by omega), hs.but⟩
          have hwq : IntKind.i64.wrap (q : Int) = (q : Int) := by have := HK.out; have := HJ.out; rw [IntKind.wrap_i64]; omega
          clear hsub
          refine NoPanic.normal ?_
          go_wp2
          go_roundw
          case rel => exact ⟨j + 1, _, _, _, _, HJ.out.1, by rw [show K - (j + 1) = q by have := HJ.out.2.2; omega], HEND⟩
          case measure => simp [intOf]
    · obtain rfl : j = K := by omega
      have HEND : Kp (∃ wv, Kp (Sg wr g (qMany pText j l0 b0).2.1 (qMany pText j l0 b0).2.2 ∧ OwnRows wr w1.heap.size wv (qMany pText j l0 b0).1 ∧ Box wr gi 47 (Ci.setIfInBounds (i * 36 + 35) wv) ∧ But2 g gi w1 wr)) := ⟨wv, ⟨by rw [hq, Nat.sub_self]; simpa [qMany] using ⟨hS, hO, hX, hB⟩⟩⟩
      rw [Nat.sub_self, show ((0 : Nat) : Int) = 0 from rfl]
      clear hol hq hS hO hX hB hj hlt H
      go_wp2
      exact HEND.out
end Go.Proofs.Ytojeonepplfhlaa
