/- The law TxnsTells: its loop over six rows of bytes. The law TxnsTells: its region of six rows: operations and states. The law TxnsTells: the region of its six rows. -/
import Derived.Test.YtojeonepplfhlaaRdO
import Derived.Test.YtojeonepplfhlaaSmB
import Derived.Deep.RegionHeld3
import Derived.Maps.AppendAt
namespace Go.Proofs.Ytojeonepplfhlaa
open Go.RowKit


noncomputable def tellsLoop : Code := ((Try.f3.body.map loopsOf).getD []).getD 0 .skip
set_option maxRecDepth 100000 in
theorem Rd.keepSg {g1 g : Nat} {w w' : World} {l k : List Int} {b d : Bool} (h : Rd w g l b) (hS : Sg w g1 k d) (ho : Only g1 w w') : Rd w' g l b := by
  obtain ⟨sv, l0, hb, _⟩ := hS
  exact h.keeps (ts := [5, 69]) (Keeps.of_only ho hb (by decide)) (by decide) (by decide)
set_option maxRecDepth 100000 in
theorem TxO.keepSg {g1 : Nat} {w w' : World} {k : List Int} {d : Bool} {B : Nat} {v : Value} {t : TxD} (h : TxO w B v t) (hS : Sg w g1 k d) (ho : Only g1 w w') : TxO w' B v t := by
  obtain ⟨sv, l0, hb, _⟩ := hS
  exact h.turn (ts := [5, 27, 47, 51]) (Keeps.of_only ho hb (by decide)) (by decide) (by decide) (by decide) (by decide) (Nat.le_refl _)
set_option maxRecDepth 100000 in
theorem TxO.keepRd {g1 : Nat} {w w' : World} {k : List Int} {d : Bool} {B : Nat} {v : Value} {t : TxD} (h : TxO w B v t) (hS : Rd w g1 k d) (ho : Only g1 w w') : TxO w' B v t := by
  obtain ⟨cs, hb⟩ := hS.box
  exact h.turn (ts := [5, 27, 47, 51]) (Keeps.of_only ho hb (by decide)) (by decide) (by decide) (by decide) (by decide) (Nat.le_refl _)

set_option maxRecDepth 10000000 in
set_option maxHeartbeats 8000000 in
theorem tells_loop (A : Option Addr) (c : Nat) (w1 : World) (ll : List (List Int)) (Q : Exit → Act → World → Prop) (s0 s1 s2 s3 s4 s5 s6 s7 s8 s9 s10 s11 s12 s13 s14 s15 s16 s17 s18 s19 s20 s21 s22 s23 s24 s25 s26 s27 s28 s29 s30 s31 s32 s33 s34 s35 s36 s37 s38 s39 s40 s41 s42 s43 s44 s45 s46 s47 s48 s49 s50 s51 s52 s53 s54 s55 s56 s57 s58 s59 s60 s61 s62 s63 s64 s65 s66 s67 s68 s69 s70 s71 s72 s73 s74 s75 s76 s77 s78 s79 s80 s81 s82 s83 s84 s85 s86 s87 s88 s89 s90 s91 s92 s93 s94 s95 s96 s97 s98 s99 s100 s101 s102 s103 s104 s105 s106 s107 s108 s109 s110 s111 s112 s113 s114 s115 s116 s117 s118 s119 s120 s121 s122 s123 s124 s125 s126 s127 s128 s129 s130 s134 s135 s136 s137 s138 s139 s140 s141 s142 s143 s144 s145 s146 s147 s148 s149 s150 s151 s152 s153 s154 s155 s156 s157 s158 s159 s160 s161 s162 s163 s164 s165 s166 s167 s168 s169 s170 s171 s172 s173 s174 s175 s176 s177 s178 s179 s180 s181 s182 s183 s184 s185 s186 s187 s188 s189 s190 s191 s192 s193 s194 s195 s196 s197 s198 s199 s200 s201 s202 s203 s204 : Value)
    (HM : Kp (Rws w1 (.slice A 6 c) ll)) (HL : Kp (ll.length = 6)) (HZ : Kp (∀ l ∈ ll, l.length ≤ 140737488354000))
    (hexit : ∀ (t12 t18 t19 t20 t21 t22 t23 t24 t25 t26 t27 t28 t133 t134 t135 t136 t137 t138 t139 t140 t141 t142 t143 t144 t145 t146 t147 t148 t149 t150 t151 t152 t153 t154 t155 t156 t157 t158 t159 t160 t161 t162 t163 t164 t165 t166 t167 t168 t169 t170 t171 t172 t173 t174 t175 t176 t177 t178 t179 t180 t181 t182 t183 t184 t185 t186 t187 t188 t189 t190 t191 t192 t193 t194 t195 t196 t197 t198 t199 t200 t201 t202 t203 : Value) (w' : World), Kp (Below w1.heap.size w1 w') → Q (.exit 0) ⟨(List.toArray (s0 :: s1 :: s2 :: s3 :: s4 :: s5 :: s6 :: s7 :: s8 :: s9 :: s10 :: s11 :: t12 :: s13 :: s14 :: s15 :: s16 :: s17 :: t18 :: t19 :: t20 :: t21 :: t22 :: t23 :: t24 :: t25 :: t26 :: t27 :: t28 :: s29 :: s30 :: s31 :: s32 :: s33 :: s34 :: s35 :: s36 :: s37 :: s38 :: s39 :: s40 :: s41 :: s42 :: s43 :: s44 :: s45 :: s46 :: s47 :: s48 :: s49 :: s50 :: s51 :: s52 :: s53 :: s54 :: s55 :: s56 :: s57 :: s58 :: s59 :: s60 :: s61 :: s62 :: s63 :: s64 :: s65 :: s66 :: s67 :: s68 :: s69 :: s70 :: s71 :: s72 :: s73 :: s74 :: s75 :: s76 :: s77 :: s78 :: s79 :: s80 :: s81 :: s82 :: s83 :: s84 :: s85 :: s86 :: s87 :: s88 :: s89 :: s90 :: s91 :: s92 :: s93 :: s94 :: s95 :: s96 :: s97 :: s98 :: s99 :: s100 :: s101 :: s102 :: s103 :: s104 :: s105 :: s106 :: s107 :: s108 :: s109 :: s110 :: s111 :: s112 :: s113 :: s114 :: s115 :: s116 :: s117 :: s118 :: s119 :: s120 :: s121 :: s122 :: s123 :: s124 :: s125 :: s126 :: s127 :: s128 :: s129 :: s130 :: .slice A 6 c :: .int .i64 6 :: t133 :: t134 :: t135 :: t136 :: t137 :: t138 :: t139 :: t140 :: t141 :: t142 :: t143 :: t144 :: t145 :: t146 :: t147 :: t148 :: t149 :: t150 :: t151 :: t152 :: t153 :: t154 :: t155 :: t156 :: t157 :: t158 :: t159 :: t160 :: t161 :: t162 :: t163 :: t164 :: t165 :: t166 :: t167 :: t168 :: t169 :: t170 :: t171 :: t172 :: t173 :: t174 :: t175 :: t176 :: t177 :: t178 :: t179 :: t180 :: t181 :: t182 :: t183 :: t184 :: t185 :: t186 :: t187 :: t188 :: t189 :: t190 :: t191 :: t192 :: t193 :: t194 :: t195 :: t196 :: t197 :: t198 :: t199 :: t200 :: t201 :: t202 :: t203 :: s204 :: [])), []⟩ w') :
    Code.wp Try.prog tellsLoop Q ⟨(List.toArray (s0 :: s1 :: s2 :: s3 :: s4 :: s5 :: s6 :: s7 :: s8 :: s9 :: s10 :: s11 :: s12 :: s13 :: s14 :: s15 :: s16 :: s17 :: s18 :: s19 :: s20 :: s21 :: s22 :: s23 :: s24 :: s25 :: s26 :: s27 :: s28 :: s29 :: s30 :: s31 :: s32 :: s33 :: s34 :: s35 :: s36 :: s37 :: s38 :: s39 :: s40 :: s41 :: s42 :: s43 :: s44 :: s45 :: s46 :: s47 :: s48 :: s49 :: s50 :: s51 :: s52 :: s53 :: s54 :: s55 :: s56 :: s57 :: s58 :: s59 :: s60 :: s61 :: s62 :: s63 :: s64 :: s65 :: s66 :: s67 :: s68 :: s69 :: s70 :: s71 :: s72 :: s73 :: s74 :: s75 :: s76 :: s77 :: s78 :: s79 :: s80 :: s81 :: s82 :: s83 :: s84 :: s85 :: s86 :: s87 :: s88 :: s89 :: s90 :: s91 :: s92 :: s93 :: s94 :: s95 :: s96 :: s97 :: s98 :: s99 :: s100 :: s101 :: s102 :: s103 :: s104 :: s105 :: s106 :: s107 :: s108 :: s109 :: s110 :: s111 :: s112 :: s113 :: s114 :: s115 :: s116 :: s117 :: s118 :: s119 :: s120 :: s121 :: s122 :: s123 :: s124 :: s125 :: s126 :: s127 :: s128 :: s129 :: s130 :: .slice A 6 c :: .int .i64 6 :: .int .i64 0 :: s134 :: s135 :: s136 :: s137 :: s138 :: s139 :: s140 :: s141 :: s142 :: s143 :: s144 :: s145 :: s146 :: s147 :: s148 :: s149 :: s150 :: s151 :: s152 :: s153 :: s154 :: s155 :: s156 :: s157 :: s158 :: s159 :: s160 :: s161 :: s162 :: s163 :: s164 :: s165 :: s166 :: s167 :: s168 :: s169 :: s170 :: s171 :: s172 :: s173 :: s174 :: s175 :: s176 :: s177 :: s178 :: s179 :: s180 :: s181 :: s182 :: s183 :: s184 :: s185 :: s186 :: s187 :: s188 :: s189 :: s190 :: s191 :: s192 :: s193 :: s194 :: s195 :: s196 :: s197 :: s198 :: s199 :: s200 :: s201 :: s202 :: s203 :: s204 :: [])), []⟩ w1 := by
  conv => arg 2; whnf
  go_loopw [133] (fun i wr => ∃ j : Nat, j ≤ 6 ∧ i = .int .i64 j ∧ Kp (Below w1.heap.size w1 wr)) (fun i _ => 6 - (intOf i).toNat)
  case atStart => exact ⟨0, by omega, rfl, ⟨Below.refl _ _⟩⟩
  case round =>
    obtain ⟨j, hj, rfl, H⟩ := hrel
    by_cases hlt : j < 6
    · have HJ := Kp.mk hlt
      have hjl : j < ll.length := by rw [HL.out]; exact hlt
      obtain ⟨b, off, cs, hA, hbl, hcl, hcs, hR⟩ := (Many.below HM.out H.out (fun cs x h => RowR.below (h.below (Below.refl _ _)) H.out)).at (i := j) hjl
      have hlen := HZ.out ll[j] (List.getElem_mem hjl)
      subst hA
      generalize ll[j] = l at *
      obtain ⟨y, rfl, hRb⟩ := hR
      have hcy : wr.cell? ⟨b, off + j, none⟩ = some y := by
        have := hcs 0 y rfl
        rw [Nat.mul_one] at this
        exact this
      have hjm : (j : Int) < 6 := by omega
      have HY := Kp.mk hRb
      have HLEN := Kp.mk hlen
      have HP1 := Kp.mk (parse_any wr y l hRb (by omega))
      have HIT : Kp ((Try.prog.info? 26).map (·.size) = some 4) := ⟨by kernel_rfl⟩
      have HIR : Kp ((Try.prog.info? 40).map (·.size) = some 2) := ⟨by kernel_rfl⟩
      obtain ⟨PP, hPP⟩ : ∃ PP, pParse l = PP := ⟨_, rfl⟩
      have HPQ : Kp (∀ W, Below wr.heap.size wr W → Calls Try.prog 15 #[y] W (ParP PP W)) := ⟨fun W hW => by rw [← hPP]; exact refparse_any W y l (hRb.below hW) hlen⟩
      rw [hPP] at HP1
      clear hbl hcl hcs hRb hlen hlt hj hPP hjl
      go_wp2_with fail
      refine HP1.out.mono ?_
      rintro e w2 ⟨v2, rfl, hb2, ht2⟩
      have HT2 := Kp.mk ht2
      obtain ⟨iv2, ov2, rfl, _, _, hiv2, hov2⟩ := ht2
      obtain ⟨Ai2, ci2, rfl⟩ := hiv2.slice
      obtain ⟨Ao2, co2, rfl⟩ := hov2.slice
      have HB2 := Kp.mk hb2
      clear hiv2 hov2 hcy HP1
      obtain ⟨w3, hw3⟩ : ∃ W, w2.alloc (.cells #[.int .u32 (PP.1.version : Int), .slice Ai2 PP.1.ins.length ci2, .slice Ao2 PP.1.outs.length co2, .int .u32 (PP.1.lock : Int)] 26) = W := ⟨_, rfl⟩
      have hb3 : Below w2.heap.size w2 w3 := by rw [← hw3]; exact (Below.refl _ _).alloc (Nat.le_refl _) _
      have hx3 : Box w3 w2.heap.size 26 #[.int .u32 (PP.1.version : Int), .slice Ai2 PP.1.ins.length ci2, .slice Ao2 PP.1.outs.length co2, .int .u32 (PP.1.lock : Int)] := by rw [← hw3]; exact Box.fresh _ _ _
      have HW3 := Kp.mk hw3
      obtain ⟨g2, hg2⟩ : ∃ g, w2.heap.size = g := ⟨_, rfl⟩
      rw [hg2] at hx3
      have HX3 := Kp.mk hx3
      have HB3 : Kp (Below wr.heap.size wr w3) := ⟨hb2.trans (hb3.mono hb2.size)⟩
      have HT3 : Kp (TxO w3 wr.heap.size (.agg #[.int .u32 (PP.1.version : Int), .slice Ai2 PP.1.ins.length ci2, .slice Ao2 PP.1.outs.length co2, .int .u32 (PP.1.lock : Int)]) PP.1) := ⟨HT2.out.below hb3⟩
      have HG2 : Kp (wr.heap.size ≤ g2) := ⟨by have := hb2.size; omega⟩
      have HP3 := Kp.mk (HPQ.out w3 HB3.out)
      clear hb2 hb3 hx3 hw3 HT2 HB2 HPQ
      go_wp2_with fail
      (try rw [HW3.out])
      refine HP3.out.mono ?_
      rintro e w4 ⟨v4, rfl, hb4, ht4⟩
      have HT4 := Kp.mk ht4
      obtain ⟨iv4, ov4, rfl, _, _, hiv4, hov4⟩ := ht4
      obtain ⟨Ai4, ci4, rfl⟩ := hiv4.slice
      obtain ⟨Ao4, co4, rfl⟩ := hov4.slice
      clear hiv4 hov4 HP3 HW3
      obtain ⟨w5, hw5⟩ : ∃ W, w4.alloc (.cells #[.int .u32 (PP.1.version : Int), .slice Ai4 PP.1.ins.length ci4, .slice Ao4 PP.1.outs.length co4, .int .u32 (PP.1.lock : Int)] 26) = W := ⟨_, rfl⟩
      have hb5 : Below w4.heap.size w4 w5 := by rw [← hw5]; exact (Below.refl _ _).alloc (Nat.le_refl _) _
      have hx5 : Box w5 w4.heap.size 26 #[.int .u32 (PP.1.version : Int), .slice Ai4 PP.1.ins.length ci4, .slice Ao4 PP.1.outs.length co4, .int .u32 (PP.1.lock : Int)] := by rw [← hw5]; exact Box.fresh _ _ _
      have HW5 := Kp.mk hw5
      obtain ⟨g4, hg4⟩ : ∃ g, w4.heap.size = g := ⟨_, rfl⟩
      rw [hg4] at hx5
      have HX5 := Kp.mk hx5
      have hb35 : Below w3.heap.size w3 w5 := hb4.trans (hb5.mono hb4.size)
      have HB5 : Kp (Below wr.heap.size wr w5) := ⟨HB3.out.trans (hb35.mono HB3.out.size)⟩
      have HX35 := Kp.mk (HX3.out.below hb35)
      have HT35 := Kp.mk (HT3.out.below hb35)
      have HT5 : Kp (TxO w5 wr.heap.size (.agg #[.int .u32 (PP.1.version : Int), .slice Ai4 PP.1.ins.length ci4, .slice Ao4 PP.1.outs.length co4, .int .u32 (PP.1.lock : Int)]) PP.1) := ⟨(HT4.out.below hb5).turn' (Keeps.refl [47, 51, 5, 27] _) (by decide) (by decide) (by decide) (by decide) HB3.out.size⟩
      have HG4 : Kp (wr.heap.size ≤ g4) := ⟨by have := hb4.size; have := HB3.out.size; omega⟩
      have HP5 := Kp.mk (read_any w5 _ y l (HY.out.below HB5.out).1 HY.out.2.1 (by have := HLEN.out; omega))
      clear hb4 hb5 hb35 hx5 hw5 HT4 HX3 HT3 HB3
      go_wp2_with fail
      (try rw [HW5.out])
      refine HP5.out.mono ?_
      rintro e w6 ⟨g6, rfl, hg6, hr6, hb6⟩
      have HR6 := Kp.mk hr6
      have HB6 : Kp (Below wr.heap.size wr w6) := ⟨HB5.out.trans (hb6.mono HB5.out.size)⟩
      have HX36 := Kp.mk (HX35.out.below hb6)
      have HX56 := Kp.mk (HX5.out.below hb6)
      have HT36 := Kp.mk (HT35.out.below hb6)
      have HT56 := Kp.mk (HT5.out.below hb6)
      have HG6 : Kp (g4 < g6 ∧ g2 < g6) := ⟨by have := HX5.out.lt; have := HX35.out.lt; omega⟩
      obtain ⟨w7, hw7⟩ : ∃ W, w6.alloc (.cells #[y, .bool false] 40) = W := ⟨_, rfl⟩
      have hb7 : Below w6.heap.size w6 w7 := by rw [← hw7]; exact (Below.refl _ _).alloc (Nat.le_refl _) _
      have hs7 : Sg w7 w6.heap.size l false := by rw [← hw7]; exact Sg.fresh HY.out HLEN.out HB6.out HB6.out.size
      have HW7 := Kp.mk hw7
      have HRD : Kp (∀ sv, Box w7 w6.heap.size 40 #[sv, .bool false] → sv = y) := ⟨fun sv h => by
        have h0 : Box w7 w6.heap.size 40 #[y, .bool false] := by rw [← hw7]; exact Box.fresh _ _ _
        have e := h.symm.trans h0
        injection e with e
        injection e with e
        have e2 := congrArg Array.toList e
        simpa using e2⟩
      obtain ⟨g7, hg7⟩ : ∃ g, w6.heap.size = g := ⟨_, rfl⟩
      rw [hg7] at hs7 HRD
      have HS7 := Kp.mk hs7
      have HB7 : Kp (Below wr.heap.size wr w7) := ⟨HB6.out.trans (hb7.mono HB6.out.size)⟩
      have HX37 := Kp.mk (HX36.out.below hb7)
      have HX57 := Kp.mk (HX56.out.below hb7)
      have HT37 := Kp.mk (HT36.out.below hb7)
      have HT57 := Kp.mk (HT56.out.below hb7)
      have HR7 := Kp.mk (hr6.below hb7)
      have HG7 : Kp (g6 < g7 ∧ wr.heap.size ≤ g6) := ⟨by have := (hr6.box.elim fun cs h => h.lt : g6 < w6.heap.size); have := HG6.out; have := HG4.out; omega⟩
      have HP7 := Kp.mk (txRead_any g6 w7 l false HR7.out (by have := HLEN.out; omega))
      obtain ⟨P, hP⟩ : ∃ P, pRead l false = P := ⟨_, rfl⟩
      have HPP := Kp.mk hP
      have HGOOD : Kp (P.1.2 = true → P.2.2 = false) := ⟨fun e => by
        rw [← hP] at e ⊢
        unfold pRead at e ⊢
        split at e
        · rename_i h2
          rw [if_pos h2]
          exact pTx_good h2
        · cases e⟩
      rw [hP] at HP7
      obtain ⟨A7, c7, hy7⟩ : ∃ A c, y = .slice A l.length c := by obtain ⟨⟨A, c, h, _⟩, _⟩ := HY.out; exact ⟨A, c, h⟩
      subst hy7
      clear hg6 hr6 hb6 hb7 hs7 hw7 hP HP5 HW5 HX35 HX5 HT35 HT5 HB5 HR6 HX36 HX56 HT36 HT56
      go_wp2_with fail
      (try rw [HW7.out])
      refine HP7.out.mono ?_
      rintro e w8 ⟨v8, rfl, ho8, ht8, hr8⟩
      have HT8 := Kp.mk ht8
      obtain ⟨iv8, ov8, rfl, _, _, hiv8, hov8⟩ := ht8
      obtain ⟨Ai8, ci8, rfl⟩ := hiv8.slice
      obtain ⟨Ao8, co8, rfl⟩ := hov8.slice
      have hgg := HG7.out
      have hgh := HG6.out
      have hs7 := HS7.out.lt
      have HB8 : Kp (Below wr.heap.size wr w8) := ⟨Only.below HB7.out ho8 hgg.2⟩
      have HX38 := Kp.mk (HX37.out.keep ho8 (by omega))
      have HX58 := Kp.mk (HX57.out.keep ho8 (by omega))
      have HT38 := Kp.mk (HT37.out.keepRd HR7.out ho8)
      have HT58 := Kp.mk (HT57.out.keepRd HR7.out ho8)
      have HS8 : Kp (Sg w8 g7 l false) := ⟨by
        obtain ⟨sv, l0, hbx, hsu, hyy, hmm, h1, h2⟩ := HS7.out
        have hbx8 := hbx.keep ho8 (by omega)
        have hsv := HRD.out sv hbx
        obtain rfl := h1 rfl
        rw [hsv] at hbx8
        exact ⟨_, _, hbx8, HY.out.1.su (by omega) HB8.out, hyy, hmm, h1, h2⟩⟩
      clear hiv8 hov8
      obtain ⟨w9, hw9⟩ : ∃ W, w8.alloc (.cells #[.int .u32 (P.1.1.version : Int), .slice Ai8 P.1.1.ins.length ci8, .slice Ao8 P.1.1.outs.length co8, .int .u32 (P.1.1.lock : Int)] 26) = W := ⟨_, rfl⟩
      have hb9 : Below w8.heap.size w8 w9 := by rw [← hw9]; exact (Below.refl _ _).alloc (Nat.le_refl _) _
      have hx9 : Box w9 w8.heap.size 26 #[.int .u32 (P.1.1.version : Int), .slice Ai8 P.1.1.ins.length ci8, .slice Ao8 P.1.1.outs.length co8, .int .u32 (P.1.1.lock : Int)] := by rw [← hw9]; exact Box.fresh _ _ _
      have HW9 := Kp.mk hw9
      obtain ⟨g8, hg8⟩ : ∃ g, w8.heap.size = g := ⟨_, rfl⟩
      rw [hg8] at hx9
      have HX9 := Kp.mk hx9
      have HB9 : Kp (Below wr.heap.size wr w9) := ⟨HB8.out.trans (hb9.mono HB8.out.size)⟩
      have HX39 := Kp.mk (HX38.out.below hb9)
      have HX59 := Kp.mk (HX58.out.below hb9)
      have HT39 := Kp.mk (HT38.out.below hb9)
      have HT59 := Kp.mk (HT58.out.below hb9)
      have HT9 : Kp (TxO w9 wr.heap.size (.agg #[.int .u32 (P.1.1.version : Int), .slice Ai8 P.1.1.ins.length ci8, .slice Ao8 P.1.1.outs.length co8, .int .u32 (P.1.1.lock : Int)]) P.1.1) := ⟨(HT8.out.below hb9).turn' (Keeps.refl [47, 51, 5, 27] _) (by decide) (by decide) (by decide) (by decide) HB7.out.size⟩
      have HS9 := Kp.mk (HS8.out.below hb9)
      have HR9 := Kp.mk (hr8.below hb9)
      have HG8 : Kp (g7 < g8) := ⟨by have := ho8.size; omega⟩
      have HP9 := Kp.mk (gread_same g7 w9 l HS9.out)
      rw [HPP.out] at HP9
      clear ho8 hr8 hgg hgh hs7 hb9 hx9 hw9 HP7 HX37 HX57 HT37 HT57 HS7 HR7 HB7 HT8 HS8 HX38 HX58 HT38 HT58
      go_wp2_with fail
      (try rw [HW9.out])
      refine HP9.out.mono ?_
      rintro e w10 ⟨v10, rfl, ho10, ht10, hs10⟩
      have HT10 := Kp.mk ht10
      obtain ⟨iv10, ov10, rfl, _, _, hiv10, hov10⟩ := ht10
      obtain ⟨Ai10, ci10, rfl⟩ := hiv10.slice
      obtain ⟨Ao10, co10, rfl⟩ := hov10.slice
      have hgg := HG7.out
      have hgh := HG6.out
      have hgi := HG8.out
      have HB10 : Kp (Below wr.heap.size wr w10) := ⟨Only.below HB9.out ho10 (by omega)⟩
      have HX310 := Kp.mk (HX39.out.keep ho10 (by omega))
      have HX510 := Kp.mk (HX59.out.keep ho10 (by omega))
      have HX910 := Kp.mk (HX9.out.keep ho10 (by omega))
      have HT310 := Kp.mk (HT39.out.keepSg HS9.out ho10)
      have HT510 := Kp.mk (HT59.out.keepSg HS9.out ho10)
      have HT910 := Kp.mk (HT9.out.keepSg HS9.out ho10)
      have HR10 := Kp.mk (HR9.out.keepSg HS9.out ho10)
      clear hiv10 hov10
      obtain ⟨w11, hw11⟩ : ∃ W, w10.alloc (.cells #[.int .u32 (P.1.1.version : Int), .slice Ai10 P.1.1.ins.length ci10, .slice Ao10 P.1.1.outs.length co10, .int .u32 (P.1.1.lock : Int)] 26) = W := ⟨_, rfl⟩
      have hb11 : Below w10.heap.size w10 w11 := by rw [← hw11]; exact (Below.refl _ _).alloc (Nat.le_refl _) _
      have hx11 : Box w11 w10.heap.size 26 #[.int .u32 (P.1.1.version : Int), .slice Ai10 P.1.1.ins.length ci10, .slice Ao10 P.1.1.outs.length co10, .int .u32 (P.1.1.lock : Int)] := by rw [← hw11]; exact Box.fresh _ _ _
      have HW11 := Kp.mk hw11
      obtain ⟨g10, hg10⟩ : ∃ g, w10.heap.size = g := ⟨_, rfl⟩
      rw [hg10] at hx11
      have HX11 := Kp.mk hx11
      have HB11 : Kp (Below wr.heap.size wr w11) := ⟨HB10.out.trans (hb11.mono HB10.out.size)⟩
      have HX311 := Kp.mk (HX310.out.below hb11)
      have HX511 := Kp.mk (HX510.out.below hb11)
      have HX911 := Kp.mk (HX910.out.below hb11)
      have HT311 := Kp.mk (HT310.out.below hb11).txR
      have HT511 := Kp.mk (HT510.out.below hb11).txR
      have HT911 := Kp.mk (HT910.out.below hb11).txR
      have HT11 := Kp.mk (HT10.out.below hb11).txR
      have HR11 := Kp.mk (HR10.out.below hb11)
      have HS11 := Kp.mk (hs10.below hb11)
      clear hgg hgh hgi ho10 hs10 hb11 hx11 hw11 HP9 HX39 HX59 HT39 HT59 HS9 HR9 HB9 HX9 HT9 HX310 HX510 HX910 HT310 HT510 HT910 HR10 HB10 HT10 HPP
      go_upto_region 21 with fail
      (try rw [HW11.out])
      have hlast : Kp (Below w1.heap.size w1 w11) := ⟨H.out.trans (HB11.out.mono H.out.size)⟩
      have HC : Kp (∀ W : World, Below w11.heap.size w11 W → (fun W => W.cell? ⟨g2, 0, none⟩ = some (.int .u32 (PP.1.version : Int)) ∧ W.cell? ⟨g2, 1, none⟩ = some (.slice Ai2 PP.1.ins.length ci2) ∧ W.cell? ⟨g2, 2, none⟩ = some (.slice Ao2 PP.1.outs.length co2) ∧ W.cell? ⟨g2, 3, none⟩ = some (.int .u32 (PP.1.lock : Int)) ∧ W.cell? ⟨g4, 0, none⟩ = some (.int .u32 (PP.1.version : Int)) ∧ W.cell? ⟨g4, 1, none⟩ = some (.slice Ai4 PP.1.ins.length ci4) ∧ W.cell? ⟨g4, 2, none⟩ = some (.slice Ao4 PP.1.outs.length co4) ∧ W.cell? ⟨g4, 3, none⟩ = some (.int .u32 (PP.1.lock : Int)) ∧ W.cell? ⟨g8, 0, none⟩ = some (.int .u32 (P.1.1.version : Int)) ∧ W.cell? ⟨g8, 1, none⟩ = some (.slice Ai8 P.1.1.ins.length ci8) ∧ W.cell? ⟨g8, 2, none⟩ = some (.slice Ao8 P.1.1.outs.length co8) ∧ W.cell? ⟨g8, 3, none⟩ = some (.int .u32 (P.1.1.lock : Int)) ∧ W.cell? ⟨g10, 0, none⟩ = some (.int .u32 (P.1.1.version : Int)) ∧ W.cell? ⟨g10, 1, none⟩ = some (.slice Ai10 P.1.1.ins.length ci10) ∧ W.cell? ⟨g10, 2, none⟩ = some (.slice Ao10 P.1.1.outs.length co10) ∧ W.cell? ⟨g10, 3, none⟩ = some (.int .u32 (P.1.1.lock : Int)) ∧ W.cell? ⟨g7, 1, none⟩ = some (.bool P.2.2)) W) := ⟨fun W hW => ⟨(HX311.out.below hW).cell 0, (HX311.out.below hW).cell 1, (HX311.out.below hW).cell 2, (HX311.out.below hW).cell 3, (HX511.out.below hW).cell 0, (HX511.out.below hW).cell 1, (HX511.out.below hW).cell 2, (HX511.out.below hW).cell 3, (HX911.out.below hW).cell 0, (HX911.out.below hW).cell 1, (HX911.out.below hW).cell 2, (HX911.out.below hW).cell 3, (HX11.out.below hW).cell 0, (HX11.out.below hW).cell 1, (HX11.out.below hW).cell 2, (HX11.out.below hW).cell 3, (HS11.out.below hW).bad⟩⟩
      have hbd : Below w11.heap.size w11 w11.drew := (Below.refl _ _).drew
      have hcF := HC.out _ hbd
      have HSA : Kp (∀ W, Below w11.heap.size w11 W → Calls Try.prog 13 #[.agg #[.int .u32 (PP.1.version : Int), .slice Ai2 PP.1.ins.length ci2, .slice Ao2 PP.1.outs.length co2, .int .u32 (PP.1.lock : Int)], .agg #[.int .u32 (PP.1.version : Int), .slice Ai4 PP.1.ins.length ci4, .slice Ao4 PP.1.outs.length co4, .int .u32 (PP.1.lock : Int)]] W (BoolP true W)) := ⟨fun W hW => by
        have h := refSame_any W _ _ _ _ (HT311.out.below hW) (HT511.out.below hW)
        rw [decide_eq_true rfl] at h
        exact h⟩
      have HSB : Kp (∀ W, Below w11.heap.size w11 W → Calls Try.prog 13 #[.agg #[.int .u32 (P.1.1.version : Int), .slice Ai8 P.1.1.ins.length ci8, .slice Ao8 P.1.1.outs.length co8, .int .u32 (P.1.1.lock : Int)], .agg #[.int .u32 (P.1.1.version : Int), .slice Ai10 P.1.1.ins.length ci10, .slice Ao10 P.1.1.outs.length co10, .int .u32 (P.1.1.lock : Int)]] W (BoolP true W)) := ⟨fun W hW => by
        have h := refSame_any W _ _ _ _ (HT911.out.below hW) (HT11.out.below hW)
        rw [decide_eq_true rfl] at h
        exact h⟩
      have HOK : Kp (∀ W, Below w11.heap.size w11 W → Calls Try.prog 19 #[.pointer (some ⟨g6, 0, none⟩)] W fun e w' => e = .returned (.bool !P.2.2) ∧ W = w') := ⟨fun W hW => ok_any g6 W _ _ (HR11.out.below hW)⟩
      have HEA : Kp (P.1.2 = true → ∀ W, Below w11.heap.size w11 W → Calls Try.prog 20 #[.pointer (some ⟨g6, 0, none⟩)] W fun e w' => e = .returned (.bool P.2.1.isEmpty) ∧ W = w') := ⟨fun h W hW => by
        have h0 := HGOOD.out h
        have hr := HR11.out.below hW
        rw [h0] at hr
        exact end_good g6 W _ hr⟩
      have HEB : Kp (P.1.2 = true → ∀ W, Below w11.heap.size w11 W → Calls Try.prog 21 #[.pointer (some ⟨g7, 0, none⟩)] W fun e w' => e = .returned (.bool P.2.1.isEmpty) ∧ W = w') := ⟨fun h W hW => by
        have h0 := HGOOD.out h
        have hr := HS11.out.below hW
        rw [h0] at hr
        have h9 := gend_any g7 W _ false hr
        rw [Bool.not_false, Bool.true_and] at h9
        exact h9⟩
      obtain ⟨so, hso⟩ : ∃ so, P.1.2 = so := ⟨_, rfl⟩
      rw [hso] at HEA HEB
      cases so with
      | true =>
        have HEA1 := Kp.mk (HEA.out rfl)
        have HEB1 := Kp.mk (HEB.out rfl)
        clear HEA HEB
        refine wp_region_noPanic ?_
        refine wp_region_held_drew (S := (fun W => W.cell? ⟨g2, 0, none⟩ = some (.int .u32 (PP.1.version : Int)) ∧ W.cell? ⟨g2, 1, none⟩ = some (.slice Ai2 PP.1.ins.length ci2) ∧ W.cell? ⟨g2, 2, none⟩ = some (.slice Ao2 PP.1.outs.length co2) ∧ W.cell? ⟨g2, 3, none⟩ = some (.int .u32 (PP.1.lock : Int)) ∧ W.cell? ⟨g4, 0, none⟩ = some (.int .u32 (PP.1.version : Int)) ∧ W.cell? ⟨g4, 1, none⟩ = some (.slice Ai4 PP.1.ins.length ci4) ∧ W.cell? ⟨g4, 2, none⟩ = some (.slice Ao4 PP.1.outs.length co4) ∧ W.cell? ⟨g4, 3, none⟩ = some (.int .u32 (PP.1.lock : Int)) ∧ W.cell? ⟨g8, 0, none⟩ = some (.int .u32 (P.1.1.version : Int)) ∧ W.cell? ⟨g8, 1, none⟩ = some (.slice Ai8 P.1.1.ins.length ci8) ∧ W.cell? ⟨g8, 2, none⟩ = some (.slice Ao8 P.1.1.outs.length co8) ∧ W.cell? ⟨g8, 3, none⟩ = some (.int .u32 (P.1.1.lock : Int)) ∧ W.cell? ⟨g10, 0, none⟩ = some (.int .u32 (P.1.1.version : Int)) ∧ W.cell? ⟨g10, 1, none⟩ = some (.slice Ai10 P.1.1.ins.length ci10) ∧ W.cell? ⟨g10, 2, none⟩ = some (.slice Ao10 P.1.1.outs.length co10) ∧ W.cell? ⟨g10, 3, none⟩ = some (.int .u32 (P.1.1.lock : Int)) ∧ W.cell? ⟨g7, 1, none⟩ = some (.bool P.2.2))) (by kernel_rfl) ?_ (fun hHeld => ?_)
        · exact hcF
        refine wpAnyH_take (i := 0) (oi := ⟨some 164, _, _, _, _, _⟩) (v := ?_) rfl (by kernel_rfl) (by kernel_rfl) (by kernel_rfl) (fun _ _ _ h => h) (Or.inl ⟨by rfl, ?_⟩) hHeld ?_
        rotate_left
        · (intro wx hSw; (try dsimp only at hSw); go_simp; try with_reducible rfl)
        try simp only [Act.put, List.setIfInBounds_toArray, List.set_cons_zero, List.set_cons_succ]
        refine wpAnyH_take (i := 1) (oi := ⟨some 165, _, _, _, _, _⟩) (v := ?_) rfl (by kernel_rfl) (by kernel_rfl) (by kernel_rfl) (fun _ _ _ h => h) (Or.inl ⟨by rfl, ?_⟩) hHeld ?_
        rotate_left
        · (intro wx hSw; (try dsimp only at hSw); go_simp; try with_reducible rfl)
        try simp only [Act.put, List.setIfInBounds_toArray, List.set_cons_zero, List.set_cons_succ]
        refine wpAnyH_take (i := 2) (oi := ⟨some 166, _, _, _, _, _⟩) (v := ?_) rfl (by kernel_rfl) (by kernel_rfl) (by kernel_rfl) (fun _ _ _ h => h) (Or.inl ⟨by rfl, ?_⟩) hHeld ?_
        rotate_left
        · (intro wx hSw; (try dsimp only at hSw); go_simp; try with_reducible rfl)
        try simp only [Act.put, List.setIfInBounds_toArray, List.set_cons_zero, List.set_cons_succ]
        refine wpAnyH_take (i := 3) (oi := ⟨some 167, _, _, _, _, _⟩) (v := ?_) rfl (by kernel_rfl) (by kernel_rfl) (by kernel_rfl) (fun _ _ _ h => h) (Or.inl ⟨by rfl, ?_⟩) hHeld ?_
        rotate_left
        · (intro wx hSw; (try dsimp only at hSw); go_simp; try with_reducible rfl)
        try simp only [Act.put, List.setIfInBounds_toArray, List.set_cons_zero, List.set_cons_succ]
        refine wpAnyH_take (i := 4) (oi := ⟨some 168, _, _, _, _, _⟩) (v := ?_) rfl (by kernel_rfl) (by kernel_rfl) (by kernel_rfl) (fun _ _ _ h => h) (Or.inl ⟨by rfl, ?_⟩) hHeld ?_
        rotate_left
        · (intro wx hSw; (try dsimp only at hSw); go_simp; try with_reducible rfl)
        try simp only [Act.put, List.setIfInBounds_toArray, List.set_cons_zero, List.set_cons_succ]
        refine wpAnyH_take (i := 5) (oi := ⟨some 169, _, _, _, _, _⟩) (v := ?_) rfl (by kernel_rfl) (by kernel_rfl) (by kernel_rfl) (fun _ _ _ h => h) (Or.inl ⟨by rfl, ?_⟩) hHeld ?_
        rotate_left
        · (intro wx hSw; (try dsimp only at hSw); go_simp; try with_reducible rfl)
        try simp only [Act.put, List.setIfInBounds_toArray, List.set_cons_zero, List.set_cons_succ]
        refine wpAnyH_ready (rs := [6]) (by kernel_rfl) (by simp) (AllReadyH.cons (o := ⟨some 170, _, _, _, _, _⟩) rfl (fun K hK => ?_) AllReadyH.nil)
        go_simp
        refine (HSA.out _ hbd).mono ?_
        rintro e z1 ⟨rfl, hz1⟩
        replace hbd := hbd.trans (hz1.mono hbd.size)
        clear hz1
        refine hK.out _ _ ?_ (fun hHeld => ?_)
        · exact HC.out _ hbd
        clear hK K
        try simp only [Act.put, List.setIfInBounds_toArray, List.set_cons_zero, List.set_cons_succ]
        refine wpAnyH_take (i := 7) (oi := ⟨some 171, _, _, _, _, _⟩) (v := ?_) rfl (by kernel_rfl) (by kernel_rfl) (by kernel_rfl) (fun _ _ _ h => h) (Or.inl ⟨by rfl, ?_⟩) hHeld ?_
        rotate_left
        · (intro wx hSw; (try dsimp only at hSw); go_simp; try with_reducible rfl)
        try simp only [Act.put, List.setIfInBounds_toArray, List.set_cons_zero, List.set_cons_succ]
        refine wpAnyH_take (i := 8) (oi := ⟨some 172, _, _, _, _, _⟩) (v := ?_) rfl (by kernel_rfl) (by kernel_rfl) (by kernel_rfl) (fun _ _ _ h => h) (Or.inl ⟨by rfl, ?_⟩) hHeld ?_
        rotate_left
        · (intro wx hSw; (try dsimp only at hSw); go_simp; try with_reducible rfl)
        try simp only [Act.put, List.setIfInBounds_toArray, List.set_cons_zero, List.set_cons_succ]
        refine wpAnyH_take (i := 9) (oi := ⟨some 173, _, _, _, _, _⟩) (v := ?_) rfl (by kernel_rfl) (by kernel_rfl) (by kernel_rfl) (fun _ _ _ h => h) (Or.inl ⟨by rfl, ?_⟩) hHeld ?_
        rotate_left
        · (intro wx hSw; (try dsimp only at hSw); go_simp; try with_reducible rfl)
        try simp only [Act.put, List.setIfInBounds_toArray, List.set_cons_zero, List.set_cons_succ]
        refine wpAnyH_take (i := 10) (oi := ⟨some 174, _, _, _, _, _⟩) (v := ?_) rfl (by kernel_rfl) (by kernel_rfl) (by kernel_rfl) (fun _ _ _ h => h) (Or.inl ⟨by rfl, ?_⟩) hHeld ?_
        rotate_left
        · (intro wx hSw; (try dsimp only at hSw); go_simp; try with_reducible rfl)
        try simp only [Act.put, List.setIfInBounds_toArray, List.set_cons_zero, List.set_cons_succ]
        refine wpAnyH_take (i := 11) (oi := ⟨some 175, _, _, _, _, _⟩) (v := ?_) rfl (by kernel_rfl) (by kernel_rfl) (by kernel_rfl) (fun _ _ _ h => h) (Or.inl ⟨by rfl, ?_⟩) hHeld ?_
        rotate_left
        · (intro wx hSw; (try dsimp only at hSw); go_simp; try with_reducible rfl)
        try simp only [Act.put, List.setIfInBounds_toArray, List.set_cons_zero, List.set_cons_succ]
        refine wpAnyH_take (i := 12) (oi := ⟨some 176, _, _, _, _, _⟩) (v := ?_) rfl (by kernel_rfl) (by kernel_rfl) (by kernel_rfl) (fun _ _ _ h => h) (Or.inl ⟨by rfl, ?_⟩) hHeld ?_
        rotate_left
        · (intro wx hSw; (try dsimp only at hSw); go_simp; try with_reducible rfl)
        try simp only [Act.put, List.setIfInBounds_toArray, List.set_cons_zero, List.set_cons_succ]
        refine wpAnyH_take (i := 13) (oi := ⟨some 177, _, _, _, _, _⟩) (v := ?_) rfl (by kernel_rfl) (by kernel_rfl) (by kernel_rfl) (fun _ _ _ h => h) (Or.inl ⟨by rfl, ?_⟩) hHeld ?_
        rotate_left
        · (intro wx hSw; (try dsimp only at hSw); go_simp; try with_reducible rfl)
        try simp only [Act.put, List.setIfInBounds_toArray, List.set_cons_zero, List.set_cons_succ]
        refine wpAnyH_take (i := 14) (oi := ⟨some 178, _, _, _, _, _⟩) (v := ?_) rfl (by kernel_rfl) (by kernel_rfl) (by kernel_rfl) (fun _ _ _ h => h) (Or.inl ⟨by rfl, ?_⟩) hHeld ?_
        rotate_left
        · (intro wx hSw; (try dsimp only at hSw); go_simp; try with_reducible rfl)
        try simp only [Act.put, List.setIfInBounds_toArray, List.set_cons_zero, List.set_cons_succ]
        refine wpAnyH_take (i := 15) (oi := ⟨some 179, _, _, _, _, _⟩) (v := ?_) rfl (by kernel_rfl) (by kernel_rfl) (by kernel_rfl) (fun _ _ _ h => h) (Or.inl ⟨by rfl, ?_⟩) hHeld ?_
        rotate_left
        · (intro wx hSw; (try dsimp only at hSw); go_simp; try with_reducible rfl)
        try simp only [Act.put, List.setIfInBounds_toArray, List.set_cons_zero, List.set_cons_succ]
        refine wpAnyH_take (i := 16) (oi := ⟨some 180, _, _, _, _, _⟩) (v := ?_) rfl (by kernel_rfl) (by kernel_rfl) (by kernel_rfl) (fun _ _ _ h => h) (Or.inl ⟨by rfl, ?_⟩) hHeld ?_
        rotate_left
        · (intro wx hSw; (try dsimp only at hSw); go_simp; try with_reducible rfl)
        try simp only [Act.put, List.setIfInBounds_toArray, List.set_cons_zero, List.set_cons_succ]
        refine wpAnyH_ready (rs := [17]) (by kernel_rfl) (by simp) (AllReadyH.cons (o := ⟨some 181, _, _, _, _, _⟩) rfl (fun K hK => ?_) AllReadyH.nil)
        go_simp
        refine (HSB.out _ hbd).mono ?_
        rintro e z2 ⟨rfl, hz2⟩
        replace hbd := hbd.trans (hz2.mono hbd.size)
        clear hz2
        refine hK.out _ _ ?_ (fun hHeld => ?_)
        · exact HC.out _ hbd
        clear hK K
        try simp only [Act.put, List.setIfInBounds_toArray, List.set_cons_zero, List.set_cons_succ]
        refine wpAnyH_take (i := 18) (oi := ⟨some 182, _, _, _, _, _⟩) (v := ?_) rfl (by kernel_rfl) (by kernel_rfl) (by kernel_rfl) (fun _ _ _ h => h) (Or.inl ⟨by rfl, ?_⟩) hHeld ?_
        rotate_left
        · (intro wx hSw; (try dsimp only at hSw); go_simp; try with_reducible rfl)
        try simp only [Act.put, List.setIfInBounds_toArray, List.set_cons_zero, List.set_cons_succ]
        refine wpAnyH_take (i := 19) (oi := ⟨some 183, _, _, _, _, _⟩) (v := ?_) rfl (by kernel_rfl) (by kernel_rfl) (by kernel_rfl) (fun _ _ _ h => h) (Or.inl ⟨by rfl, ?_⟩) hHeld ?_
        rotate_left
        · (intro wx hSw; (try dsimp only at hSw); go_simp; try with_reducible rfl)
        try simp only [Act.put, List.setIfInBounds_toArray, List.set_cons_zero, List.set_cons_succ]
        refine wpAnyH_take (i := 20) (oi := ⟨some 184, _, _, _, _, _⟩) (v := ?_) rfl (by kernel_rfl) (by kernel_rfl) (by kernel_rfl) (fun _ _ _ h => h) (Or.inl ⟨by rfl, ?_⟩) hHeld ?_
        rotate_left
        · (intro wx hSw; (try dsimp only at hSw); go_simp; try with_reducible rfl)
        try simp only [Act.put, List.setIfInBounds_toArray, List.set_cons_zero, List.set_cons_succ]
        refine wpAnyH_take (i := 21) (oi := ⟨some 185, _, _, _, _, _⟩) (v := ?_) rfl (by kernel_rfl) (by kernel_rfl) (by kernel_rfl) (fun _ _ _ h => h) (Or.inl ⟨by rfl, ?_⟩) hHeld ?_
        rotate_left
        · (intro wx hSw; (try dsimp only at hSw); go_simp; try with_reducible rfl)
        try simp only [Act.put, List.setIfInBounds_toArray, List.set_cons_zero, List.set_cons_succ]
        refine wpAnyH_take (i := 23) (oi := ⟨some 187, _, _, _, _, _⟩) (v := ?_) rfl (by kernel_rfl) (by kernel_rfl) (by kernel_rfl) (fun _ _ _ h => h) (Or.inl ⟨by rfl, ?_⟩) hHeld ?_
        rotate_left
        · (intro wx hSw; (try dsimp only at hSw); go_simp; try with_reducible rfl)
        try simp only [Act.put, List.setIfInBounds_toArray, List.set_cons_zero, List.set_cons_succ]
        refine wpAnyH_take (i := 24) (oi := ⟨some 188, _, _, _, _, _⟩) (v := ?_) rfl (by kernel_rfl) (by kernel_rfl) (by kernel_rfl) (fun _ _ _ h => h) (Or.inl ⟨by rfl, ?_⟩) hHeld ?_
        rotate_left
        · (intro wx hSw; (try dsimp only at hSw); go_simp; try with_reducible rfl)
        try simp only [Act.put, List.setIfInBounds_toArray, List.set_cons_zero, List.set_cons_succ]
        refine wpAnyH_take (i := 25) (oi := ⟨some 189, _, _, _, _, _⟩) (v := ?_) rfl (by kernel_rfl) (by kernel_rfl) (by kernel_rfl) (fun _ _ _ h => h) (Or.inl ⟨by rfl, ?_⟩) hHeld ?_
        rotate_left
        · (intro wx hSw; (try dsimp only at hSw); go_simp; try with_reducible rfl)
        try simp only [Act.put, List.setIfInBounds_toArray, List.set_cons_zero, List.set_cons_succ]
        refine wpAnyH_take (i := 26) (oi := ⟨some 190, _, _, _, _, _⟩) (v := ?_) rfl (by kernel_rfl) (by kernel_rfl) (by kernel_rfl) (fun _ _ _ h => h) (Or.inl ⟨by rfl, ?_⟩) hHeld ?_
        rotate_left
        · (intro wx hSw; (try dsimp only at hSw); go_simp; try with_reducible rfl)
        try simp only [Act.put, List.setIfInBounds_toArray, List.set_cons_zero, List.set_cons_succ]
        refine wpAnyH_ready (rs := [22]) (by kernel_rfl) (by simp) (AllReadyH.cons (o := ⟨some 186, _, _, _, _, _⟩) rfl (fun K hK => ?_) AllReadyH.nil)
        go_simp
        refine (HOK.out _ hbd).mono ?_
        rintro e z3 ⟨rfl, rfl⟩
        refine hK.out _ _ ?_ (fun hHeld => ?_)
        · exact HC.out _ hbd
        clear hK K
        try simp only [Act.put, List.setIfInBounds_toArray, List.set_cons_zero, List.set_cons_succ]
        refine wpAnyH_take (i := 27) (oi := ⟨some 191, _, _, _, _, _⟩) (v := ?_) rfl (by kernel_rfl) (by kernel_rfl) (by kernel_rfl) (fun _ _ _ h => h) (Or.inl ⟨by rfl, ?_⟩) hHeld ?_
        rotate_left
        · (intro wx hSw; (try dsimp only at hSw); go_simp; try with_reducible rfl)
        try simp only [Act.put, List.setIfInBounds_toArray, List.set_cons_zero, List.set_cons_succ]
        refine wpAnyH_take (i := 28) (oi := ⟨some 192, _, _, _, _, _⟩) (v := ?_) rfl (by kernel_rfl) (by kernel_rfl) (by kernel_rfl) (fun _ _ _ h => h) (Or.inl ⟨by rfl, ?_⟩) hHeld ?_
        rotate_left
        · (intro wx hSw; (try dsimp only at hSw); go_simp; try with_reducible rfl)
        try simp only [Act.put, List.setIfInBounds_toArray, List.set_cons_zero, List.set_cons_succ]
        refine wpAnyH_take (i := 29) (oi := ⟨some 193, _, _, _, _, _⟩) (v := ?_) rfl (by kernel_rfl) (by kernel_rfl) (by kernel_rfl) (fun _ _ _ h => h) (Or.inl ⟨by rfl, ?_⟩) hHeld ?_
        rotate_left
        · (intro wx hSw; (try dsimp only at hSw); go_simp; try with_reducible rfl)
        try simp only [Act.put, List.setIfInBounds_toArray, List.set_cons_zero, List.set_cons_succ]
        refine wpAnyH_take (i := 30) (oi := ⟨some 194, _, _, _, _, _⟩) (v := ?_) rfl (by kernel_rfl) (by kernel_rfl) (by kernel_rfl) (fun _ _ _ h => h) (Or.inl ⟨by rfl, ?_⟩) hHeld ?_
        rotate_left
        · (intro wx hSw; (try dsimp only at hSw); go_simp; try with_reducible rfl)
        try simp only [Act.put, List.setIfInBounds_toArray, List.set_cons_zero, List.set_cons_succ]
        refine wpAnyH_take (i := 31) (oi := ⟨some 195, _, _, _, _, _⟩) (v := ?_) rfl (by kernel_rfl) (by kernel_rfl) (by kernel_rfl) (fun _ _ _ h => h) (Or.inl ⟨by rfl, ?_⟩) hHeld ?_
        rotate_left
        · (intro wx hSw; (try dsimp only at hSw); go_simp; try with_reducible rfl)
        try simp only [Act.put, List.setIfInBounds_toArray, List.set_cons_zero, List.set_cons_succ]
        refine wpAnyH_take (i := 32) (oi := ⟨some 196, _, _, _, _, _⟩) (v := ?_) rfl (by kernel_rfl) (by kernel_rfl) (by kernel_rfl) (fun _ _ _ h => h) (Or.inl ⟨by rfl, ?_⟩) hHeld ?_
        rotate_left
        · (intro wx hSw; (try dsimp only at hSw); go_simp; try with_reducible rfl)
        try simp only [Act.put, List.setIfInBounds_toArray, List.set_cons_zero, List.set_cons_succ]
        refine wpAnyH_take (i := 34) (oi := ⟨some 198, _, _, _, _, _⟩) (v := ?_) rfl (by kernel_rfl) (by kernel_rfl) (by kernel_rfl) (fun _ _ _ h => h) (Or.inl ⟨by rfl, ?_⟩) hHeld ?_
        rotate_left
        · (intro wx hSw; (try dsimp only at hSw); go_simp; try with_reducible rfl)
        try simp only [Act.put, List.setIfInBounds_toArray, List.set_cons_zero, List.set_cons_succ]
        refine wpAnyH_ready (rs := [33]) (by kernel_rfl) (by simp) (AllReadyH.cons (o := ⟨some 197, _, _, _, _, _⟩) rfl (fun K hK => ?_) AllReadyH.nil)
        go_simp
        refine (HEA1.out _ hbd).mono ?_
        rintro e z4 ⟨rfl, rfl⟩
        refine hK.out _ _ ?_ (fun hHeld => ?_)
        · exact HC.out _ hbd
        clear hK K
        try simp only [Act.put, List.setIfInBounds_toArray, List.set_cons_zero, List.set_cons_succ]
        refine wpAnyH_ready (rs := [35]) (by kernel_rfl) (by simp) (AllReadyH.cons (o := ⟨some 199, _, _, _, _, _⟩) rfl (fun K hK => ?_) AllReadyH.nil)
        go_simp
        refine (HEB1.out _ hbd).mono ?_
        rintro e z5 ⟨rfl, rfl⟩
        refine hK.out _ _ ?_ (fun hHeld => ?_)
        · exact HC.out _ hbd
        clear hK K
        try simp only [Act.put, List.setIfInBounds_toArray, List.set_cons_zero, List.set_cons_succ]
        refine wpAnyH_take (i := 36) (oi := ⟨some 200, _, _, _, _, _⟩) (v := ?_) rfl (by kernel_rfl) (by kernel_rfl) (by kernel_rfl) (fun _ _ _ h => h) (Or.inl ⟨by rfl, ?_⟩) hHeld ?_
        rotate_left
        · (intro wx hSw; (try dsimp only at hSw); go_simp; try with_reducible rfl)
        try simp only [Act.put, List.setIfInBounds_toArray, List.set_cons_zero, List.set_cons_succ]
        refine wpAnyH_take (i := 37) (oi := ⟨some 201, _, _, _, _, _⟩) (v := ?_) rfl (by kernel_rfl) (by kernel_rfl) (by kernel_rfl) (fun _ _ _ h => h) (Or.inl ⟨by rfl, ?_⟩) hHeld ?_
        rotate_left
        · (intro wx hSw; (try dsimp only at hSw); go_simp; try with_reducible rfl)
        try simp only [Act.put, List.setIfInBounds_toArray, List.set_cons_zero, List.set_cons_succ]
        refine wpAnyH_take (i := 38) (oi := ⟨some 202, _, _, _, _, _⟩) (v := ?_) rfl (by kernel_rfl) (by kernel_rfl) (by kernel_rfl) (fun _ _ _ h => h) (Or.inl ⟨by rfl, ?_⟩) hHeld ?_
        rotate_left
        · (intro wx hSw; (try dsimp only at hSw); go_simp; try with_reducible rfl)
        try simp only [Act.put, List.setIfInBounds_toArray, List.set_cons_zero, List.set_cons_succ]
        refine wpAnyH_done (by kernel_rfl) ?_ _
        refine NoPanic.normal ?_
        go_wp2
        go_roundw
        case rel => exact ⟨j + 1, by have := HJ.out; omega, by go_num, ⟨hlast.out.trans (hbd.mono hlast.out.size)⟩⟩
        case measure => simp [intOf]; have := HJ.out; omega
      | false =>
        clear HEA HEB
        refine wp_region_noPanic ?_
        refine wp_region_held_drew (S := (fun W => W.cell? ⟨g2, 0, none⟩ = some (.int .u32 (PP.1.version : Int)) ∧ W.cell? ⟨g2, 1, none⟩ = some (.slice Ai2 PP.1.ins.length ci2) ∧ W.cell? ⟨g2, 2, none⟩ = some (.slice Ao2 PP.1.outs.length co2) ∧ W.cell? ⟨g2, 3, none⟩ = some (.int .u32 (PP.1.lock : Int)) ∧ W.cell? ⟨g4, 0, none⟩ = some (.int .u32 (PP.1.version : Int)) ∧ W.cell? ⟨g4, 1, none⟩ = some (.slice Ai4 PP.1.ins.length ci4) ∧ W.cell? ⟨g4, 2, none⟩ = some (.slice Ao4 PP.1.outs.length co4) ∧ W.cell? ⟨g4, 3, none⟩ = some (.int .u32 (PP.1.lock : Int)) ∧ W.cell? ⟨g8, 0, none⟩ = some (.int .u32 (P.1.1.version : Int)) ∧ W.cell? ⟨g8, 1, none⟩ = some (.slice Ai8 P.1.1.ins.length ci8) ∧ W.cell? ⟨g8, 2, none⟩ = some (.slice Ao8 P.1.1.outs.length co8) ∧ W.cell? ⟨g8, 3, none⟩ = some (.int .u32 (P.1.1.lock : Int)) ∧ W.cell? ⟨g10, 0, none⟩ = some (.int .u32 (P.1.1.version : Int)) ∧ W.cell? ⟨g10, 1, none⟩ = some (.slice Ai10 P.1.1.ins.length ci10) ∧ W.cell? ⟨g10, 2, none⟩ = some (.slice Ao10 P.1.1.outs.length co10) ∧ W.cell? ⟨g10, 3, none⟩ = some (.int .u32 (P.1.1.lock : Int)) ∧ W.cell? ⟨g7, 1, none⟩ = some (.bool P.2.2))) (by kernel_rfl) ?_ (fun hHeld => ?_)
        · exact hcF
        refine wpAnyH_take (i := 0) (oi := ⟨some 164, _, _, _, _, _⟩) (v := ?_) rfl (by kernel_rfl) (by kernel_rfl) (by kernel_rfl) (fun _ _ _ h => h) (Or.inl ⟨by rfl, ?_⟩) hHeld ?_
        rotate_left
        · (intro wx hSw; (try dsimp only at hSw); go_simp; try with_reducible rfl)
        try simp only [Act.put, List.setIfInBounds_toArray, List.set_cons_zero, List.set_cons_succ]
        refine wpAnyH_take (i := 1) (oi := ⟨some 165, _, _, _, _, _⟩) (v := ?_) rfl (by kernel_rfl) (by kernel_rfl) (by kernel_rfl) (fun _ _ _ h => h) (Or.inl ⟨by rfl, ?_⟩) hHeld ?_
        rotate_left
        · (intro wx hSw; (try dsimp only at hSw); go_simp; try with_reducible rfl)
        try simp only [Act.put, List.setIfInBounds_toArray, List.set_cons_zero, List.set_cons_succ]
        refine wpAnyH_take (i := 2) (oi := ⟨some 166, _, _, _, _, _⟩) (v := ?_) rfl (by kernel_rfl) (by kernel_rfl) (by kernel_rfl) (fun _ _ _ h => h) (Or.inl ⟨by rfl, ?_⟩) hHeld ?_
        rotate_left
        · (intro wx hSw; (try dsimp only at hSw); go_simp; try with_reducible rfl)
        try simp only [Act.put, List.setIfInBounds_toArray, List.set_cons_zero, List.set_cons_succ]
        refine wpAnyH_take (i := 3) (oi := ⟨some 167, _, _, _, _, _⟩) (v := ?_) rfl (by kernel_rfl) (by kernel_rfl) (by kernel_rfl) (fun _ _ _ h => h) (Or.inl ⟨by rfl, ?_⟩) hHeld ?_
        rotate_left
        · (intro wx hSw; (try dsimp only at hSw); go_simp; try with_reducible rfl)
        try simp only [Act.put, List.setIfInBounds_toArray, List.set_cons_zero, List.set_cons_succ]
        refine wpAnyH_take (i := 4) (oi := ⟨some 168, _, _, _, _, _⟩) (v := ?_) rfl (by kernel_rfl) (by kernel_rfl) (by kernel_rfl) (fun _ _ _ h => h) (Or.inl ⟨by rfl, ?_⟩) hHeld ?_
        rotate_left
        · (intro wx hSw; (try dsimp only at hSw); go_simp; try with_reducible rfl)
        try simp only [Act.put, List.setIfInBounds_toArray, List.set_cons_zero, List.set_cons_succ]
        refine wpAnyH_take (i := 5) (oi := ⟨some 169, _, _, _, _, _⟩) (v := ?_) rfl (by kernel_rfl) (by kernel_rfl) (by kernel_rfl) (fun _ _ _ h => h) (Or.inl ⟨by rfl, ?_⟩) hHeld ?_
        rotate_left
        · (intro wx hSw; (try dsimp only at hSw); go_simp; try with_reducible rfl)
        try simp only [Act.put, List.setIfInBounds_toArray, List.set_cons_zero, List.set_cons_succ]
        refine wpAnyH_ready (rs := [6]) (by kernel_rfl) (by simp) (AllReadyH.cons (o := ⟨some 170, _, _, _, _, _⟩) rfl (fun K hK => ?_) AllReadyH.nil)
        go_simp
        refine (HSA.out _ hbd).mono ?_
        rintro e z1 ⟨rfl, hz1⟩
        replace hbd := hbd.trans (hz1.mono hbd.size)
        clear hz1
        refine hK.out _ _ ?_ (fun hHeld => ?_)
        · exact HC.out _ hbd
        clear hK K
        try simp only [Act.put, List.setIfInBounds_toArray, List.set_cons_zero, List.set_cons_succ]
        refine wpAnyH_take (i := 7) (oi := ⟨some 171, _, _, _, _, _⟩) (v := ?_) rfl (by kernel_rfl) (by kernel_rfl) (by kernel_rfl) (fun _ _ _ h => h) (Or.inl ⟨by rfl, ?_⟩) hHeld ?_
        rotate_left
        · (intro wx hSw; (try dsimp only at hSw); go_simp; try with_reducible rfl)
        try simp only [Act.put, List.setIfInBounds_toArray, List.set_cons_zero, List.set_cons_succ]
        refine wpAnyH_take (i := 8) (oi := ⟨some 172, _, _, _, _, _⟩) (v := ?_) rfl (by kernel_rfl) (by kernel_rfl) (by kernel_rfl) (fun _ _ _ h => h) (Or.inl ⟨by rfl, ?_⟩) hHeld ?_
        rotate_left
        · (intro wx hSw; (try dsimp only at hSw); go_simp; try with_reducible rfl)
        try simp only [Act.put, List.setIfInBounds_toArray, List.set_cons_zero, List.set_cons_succ]
        refine wpAnyH_take (i := 9) (oi := ⟨some 173, _, _, _, _, _⟩) (v := ?_) rfl (by kernel_rfl) (by kernel_rfl) (by kernel_rfl) (fun _ _ _ h => h) (Or.inl ⟨by rfl, ?_⟩) hHeld ?_
        rotate_left
        · (intro wx hSw; (try dsimp only at hSw); go_simp; try with_reducible rfl)
        try simp only [Act.put, List.setIfInBounds_toArray, List.set_cons_zero, List.set_cons_succ]
        refine wpAnyH_take (i := 10) (oi := ⟨some 174, _, _, _, _, _⟩) (v := ?_) rfl (by kernel_rfl) (by kernel_rfl) (by kernel_rfl) (fun _ _ _ h => h) (Or.inl ⟨by rfl, ?_⟩) hHeld ?_
        rotate_left
        · (intro wx hSw; (try dsimp only at hSw); go_simp; try with_reducible rfl)
        try simp only [Act.put, List.setIfInBounds_toArray, List.set_cons_zero, List.set_cons_succ]
        refine wpAnyH_take (i := 11) (oi := ⟨some 175, _, _, _, _, _⟩) (v := ?_) rfl (by kernel_rfl) (by kernel_rfl) (by kernel_rfl) (fun _ _ _ h => h) (Or.inl ⟨by rfl, ?_⟩) hHeld ?_
        rotate_left
        · (intro wx hSw; (try dsimp only at hSw); go_simp; try with_reducible rfl)
        try simp only [Act.put, List.setIfInBounds_toArray, List.set_cons_zero, List.set_cons_succ]
        refine wpAnyH_take (i := 12) (oi := ⟨some 176, _, _, _, _, _⟩) (v := ?_) rfl (by kernel_rfl) (by kernel_rfl) (by kernel_rfl) (fun _ _ _ h => h) (Or.inl ⟨by rfl, ?_⟩) hHeld ?_
        rotate_left
        · (intro wx hSw; (try dsimp only at hSw); go_simp; try with_reducible rfl)
        try simp only [Act.put, List.setIfInBounds_toArray, List.set_cons_zero, List.set_cons_succ]
        refine wpAnyH_take (i := 13) (oi := ⟨some 177, _, _, _, _, _⟩) (v := ?_) rfl (by kernel_rfl) (by kernel_rfl) (by kernel_rfl) (fun _ _ _ h => h) (Or.inl ⟨by rfl, ?_⟩) hHeld ?_
        rotate_left
        · (intro wx hSw; (try dsimp only at hSw); go_simp; try with_reducible rfl)
        try simp only [Act.put, List.setIfInBounds_toArray, List.set_cons_zero, List.set_cons_succ]
        refine wpAnyH_take (i := 14) (oi := ⟨some 178, _, _, _, _, _⟩) (v := ?_) rfl (by kernel_rfl) (by kernel_rfl) (by kernel_rfl) (fun _ _ _ h => h) (Or.inl ⟨by rfl, ?_⟩) hHeld ?_
        rotate_left
        · (intro wx hSw; (try dsimp only at hSw); go_simp; try with_reducible rfl)
        try simp only [Act.put, List.setIfInBounds_toArray, List.set_cons_zero, List.set_cons_succ]
        refine wpAnyH_take (i := 15) (oi := ⟨some 179, _, _, _, _, _⟩) (v := ?_) rfl (by kernel_rfl) (by kernel_rfl) (by kernel_rfl) (fun _ _ _ h => h) (Or.inl ⟨by rfl, ?_⟩) hHeld ?_
        rotate_left
        · (intro wx hSw; (try dsimp only at hSw); go_simp; try with_reducible rfl)
        try simp only [Act.put, List.setIfInBounds_toArray, List.set_cons_zero, List.set_cons_succ]
        refine wpAnyH_take (i := 16) (oi := ⟨some 180, _, _, _, _, _⟩) (v := ?_) rfl (by kernel_rfl) (by kernel_rfl) (by kernel_rfl) (fun _ _ _ h => h) (Or.inl ⟨by rfl, ?_⟩) hHeld ?_
        rotate_left
        · (intro wx hSw; (try dsimp only at hSw); go_simp; try with_reducible rfl)
        try simp only [Act.put, List.setIfInBounds_toArray, List.set_cons_zero, List.set_cons_succ]
        refine wpAnyH_ready (rs := [17]) (by kernel_rfl) (by simp) (AllReadyH.cons (o := ⟨some 181, _, _, _, _, _⟩) rfl (fun K hK => ?_) AllReadyH.nil)
        go_simp
        refine (HSB.out _ hbd).mono ?_
        rintro e z2 ⟨rfl, hz2⟩
        replace hbd := hbd.trans (hz2.mono hbd.size)
        clear hz2
        refine hK.out _ _ ?_ (fun hHeld => ?_)
        · exact HC.out _ hbd
        clear hK K
        try simp only [Act.put, List.setIfInBounds_toArray, List.set_cons_zero, List.set_cons_succ]
        refine wpAnyH_take (i := 18) (oi := ⟨some 182, _, _, _, _, _⟩) (v := ?_) rfl (by kernel_rfl) (by kernel_rfl) (by kernel_rfl) (fun _ _ _ h => h) (Or.inl ⟨by rfl, ?_⟩) hHeld ?_
        rotate_left
        · (intro wx hSw; (try dsimp only at hSw); go_simp; try with_reducible rfl)
        try simp only [Act.put, List.setIfInBounds_toArray, List.set_cons_zero, List.set_cons_succ]
        refine wpAnyH_take (i := 19) (oi := ⟨some 183, _, _, _, _, _⟩) (v := ?_) rfl (by kernel_rfl) (by kernel_rfl) (by kernel_rfl) (fun _ _ _ h => h) (Or.inl ⟨by rfl, ?_⟩) hHeld ?_
        rotate_left
        · (intro wx hSw; (try dsimp only at hSw); go_simp; try with_reducible rfl)
        try simp only [Act.put, List.setIfInBounds_toArray, List.set_cons_zero, List.set_cons_succ]
        refine wpAnyH_take (i := 20) (oi := ⟨some 184, _, _, _, _, _⟩) (v := ?_) rfl (by kernel_rfl) (by kernel_rfl) (by kernel_rfl) (fun _ _ _ h => h) (Or.inl ⟨by rfl, ?_⟩) hHeld ?_
        rotate_left
        · (intro wx hSw; (try dsimp only at hSw); go_simp; try with_reducible rfl)
        try simp only [Act.put, List.setIfInBounds_toArray, List.set_cons_zero, List.set_cons_succ]
        refine wpAnyH_take (i := 21) (oi := ⟨some 185, _, _, _, _, _⟩) (v := ?_) rfl (by kernel_rfl) (by kernel_rfl) (by kernel_rfl) (fun _ _ _ h => h) (Or.inl ⟨by rfl, ?_⟩) hHeld ?_
        rotate_left
        · (intro wx hSw; (try dsimp only at hSw); go_simp; try with_reducible rfl)
        try simp only [Act.put, List.setIfInBounds_toArray, List.set_cons_zero, List.set_cons_succ]
        refine wpAnyH_take (i := 23) (oi := ⟨some 187, _, _, _, _, _⟩) (v := ?_) rfl (by kernel_rfl) (by kernel_rfl) (by kernel_rfl) (fun _ _ _ h => h) (Or.inl ⟨by rfl, ?_⟩) hHeld ?_
        rotate_left
        · (intro wx hSw; (try dsimp only at hSw); go_simp; try with_reducible rfl)
        try simp only [Act.put, List.setIfInBounds_toArray, List.set_cons_zero, List.set_cons_succ]
        refine wpAnyH_take (i := 24) (oi := ⟨some 188, _, _, _, _, _⟩) (v := ?_) rfl (by kernel_rfl) (by kernel_rfl) (by kernel_rfl) (fun _ _ _ h => h) (Or.inl ⟨by rfl, ?_⟩) hHeld ?_
        rotate_left
        · (intro wx hSw; (try dsimp only at hSw); go_simp; try with_reducible rfl)
        try simp only [Act.put, List.setIfInBounds_toArray, List.set_cons_zero, List.set_cons_succ]
        refine wpAnyH_take (i := 25) (oi := ⟨some 189, _, _, _, _, _⟩) (v := ?_) rfl (by kernel_rfl) (by kernel_rfl) (by kernel_rfl) (fun _ _ _ h => h) (Or.inl ⟨by rfl, ?_⟩) hHeld ?_
        rotate_left
        · (intro wx hSw; (try dsimp only at hSw); go_simp; try with_reducible rfl)
        try simp only [Act.put, List.setIfInBounds_toArray, List.set_cons_zero, List.set_cons_succ]
        refine wpAnyH_take (i := 26) (oi := ⟨some 190, _, _, _, _, _⟩) (v := ?_) rfl (by kernel_rfl) (by kernel_rfl) (by kernel_rfl) (fun _ _ _ h => h) (Or.inl ⟨by rfl, ?_⟩) hHeld ?_
        rotate_left
        · (intro wx hSw; (try dsimp only at hSw); go_simp; try with_reducible rfl)
        try simp only [Act.put, List.setIfInBounds_toArray, List.set_cons_zero, List.set_cons_succ]
        refine wpAnyH_ready (rs := [22]) (by kernel_rfl) (by simp) (AllReadyH.cons (o := ⟨some 186, _, _, _, _, _⟩) rfl (fun K hK => ?_) AllReadyH.nil)
        go_simp
        refine (HOK.out _ hbd).mono ?_
        rintro e z3 ⟨rfl, rfl⟩
        refine hK.out _ _ ?_ (fun hHeld => ?_)
        · exact HC.out _ hbd
        clear hK K
        try simp only [Act.put, List.setIfInBounds_toArray, List.set_cons_zero, List.set_cons_succ]
        refine wpAnyH_take (i := 27) (oi := ⟨some 191, _, _, _, _, _⟩) (v := ?_) rfl (by kernel_rfl) (by kernel_rfl) (by kernel_rfl) (fun _ _ _ h => h) (Or.inl ⟨by rfl, ?_⟩) hHeld ?_
        rotate_left
        · (intro wx hSw; (try dsimp only at hSw); go_simp; try with_reducible rfl)
        try simp only [Act.put, List.setIfInBounds_toArray, List.set_cons_zero, List.set_cons_succ]
        refine wpAnyH_take (i := 28) (oi := ⟨some 192, _, _, _, _, _⟩) (v := ?_) rfl (by kernel_rfl) (by kernel_rfl) (by kernel_rfl) (fun _ _ _ h => h) (Or.inl ⟨by rfl, ?_⟩) hHeld ?_
        rotate_left
        · (intro wx hSw; (try dsimp only at hSw); go_simp; try with_reducible rfl)
        try simp only [Act.put, List.setIfInBounds_toArray, List.set_cons_zero, List.set_cons_succ]
        refine wpAnyH_take (i := 29) (oi := ⟨some 193, _, _, _, _, _⟩) (v := ?_) rfl (by kernel_rfl) (by kernel_rfl) (by kernel_rfl) (fun _ _ _ h => h) (Or.inl ⟨by rfl, ?_⟩) hHeld ?_
        rotate_left
        · (intro wx hSw; (try dsimp only at hSw); go_simp; try with_reducible rfl)
        try simp only [Act.put, List.setIfInBounds_toArray, List.set_cons_zero, List.set_cons_succ]
        refine wpAnyH_take (i := 30) (oi := ⟨some 194, _, _, _, _, _⟩) (v := ?_) rfl (by kernel_rfl) (by kernel_rfl) (by kernel_rfl) (fun _ _ _ h => h) (Or.inl ⟨by rfl, ?_⟩) hHeld ?_
        rotate_left
        · (intro wx hSw; (try dsimp only at hSw); go_simp; try with_reducible rfl)
        try simp only [Act.put, List.setIfInBounds_toArray, List.set_cons_zero, List.set_cons_succ]
        refine wpAnyH_take (i := 31) (oi := ⟨some 195, _, _, _, _, _⟩) (v := ?_) rfl (by kernel_rfl) (by kernel_rfl) (by kernel_rfl) (fun _ _ _ h => h) (Or.inl ⟨by rfl, ?_⟩) hHeld ?_
        rotate_left
        · (intro wx hSw; (try dsimp only at hSw); go_simp; try with_reducible rfl)
        try simp only [Act.put, List.setIfInBounds_toArray, List.set_cons_zero, List.set_cons_succ]
        refine wpAnyH_take (i := 32) (oi := ⟨some 196, _, _, _, _, _⟩) (v := undef) rfl (by kernel_rfl) (by kernel_rfl) (by kernel_rfl) (fun _ _ _ h => h) (Or.inr ⟨by rfl, rfl⟩) hHeld ?_
        try simp only [Act.put, List.setIfInBounds_toArray, List.set_cons_zero, List.set_cons_succ]
        refine wpAnyH_take (i := 33) (oi := ⟨some 197, _, _, _, _, _⟩) (v := undef) rfl (by kernel_rfl) (by kernel_rfl) (by kernel_rfl) (fun _ _ _ h => h) (Or.inr ⟨by rfl, rfl⟩) hHeld ?_
        try simp only [Act.put, List.setIfInBounds_toArray, List.set_cons_zero, List.set_cons_succ]
        refine wpAnyH_take (i := 34) (oi := ⟨some 198, _, _, _, _, _⟩) (v := undef) rfl (by kernel_rfl) (by kernel_rfl) (by kernel_rfl) (fun _ _ _ h => h) (Or.inr ⟨by rfl, rfl⟩) hHeld ?_
        try simp only [Act.put, List.setIfInBounds_toArray, List.set_cons_zero, List.set_cons_succ]
        refine wpAnyH_take (i := 35) (oi := ⟨some 199, _, _, _, _, _⟩) (v := undef) rfl (by kernel_rfl) (by kernel_rfl) (by kernel_rfl) (fun _ _ _ h => h) (Or.inr ⟨by rfl, rfl⟩) hHeld ?_
        try simp only [Act.put, List.setIfInBounds_toArray, List.set_cons_zero, List.set_cons_succ]
        refine wpAnyH_take (i := 36) (oi := ⟨some 200, _, _, _, _, _⟩) (v := undef) rfl (by kernel_rfl) (by kernel_rfl) (by kernel_rfl) (fun _ _ _ h => h) (Or.inr ⟨by rfl, rfl⟩) hHeld ?_
        try simp only [Act.put, List.setIfInBounds_toArray, List.set_cons_zero, List.set_cons_succ]
        refine wpAnyH_take (i := 37) (oi := ⟨some 201, _, _, _, _, _⟩) (v := ?_) rfl (by kernel_rfl) (by kernel_rfl) (by kernel_rfl) (fun _ _ _ h => h) (Or.inl ⟨by rfl, ?_⟩) hHeld ?_
        rotate_left
        · (intro wx hSw; (try dsimp only at hSw); go_simp; try with_reducible rfl)
        try simp only [Act.put, List.setIfInBounds_toArray, List.set_cons_zero, List.set_cons_succ]
        refine wpAnyH_take (i := 38) (oi := ⟨some 202, _, _, _, _, _⟩) (v := ?_) rfl (by kernel_rfl) (by kernel_rfl) (by kernel_rfl) (fun _ _ _ h => h) (Or.inl ⟨by rfl, ?_⟩) hHeld ?_
        rotate_left
        · (intro wx hSw; (try dsimp only at hSw); go_simp; try with_reducible rfl)
        try simp only [Act.put, List.setIfInBounds_toArray, List.set_cons_zero, List.set_cons_succ]
        refine wpAnyH_done (by kernel_rfl) ?_ _
        refine NoPanic.normal ?_
        go_wp2
        go_roundw
        case rel => exact ⟨j + 1, by have := HJ.out; omega, by go_num, ⟨hlast.out.trans (hbd.mono hlast.out.size)⟩⟩
        case measure => simp [intOf]; have := HJ.out; omega
    · obtain rfl : j = 6 := by omega
      rw [show ((6 : Nat) : Int) = 6 from rfl]
      clear hlt hj
      go_wp2
      exact H


set_option maxRecDepth 100000 in
theorem op_empty {Q : Exit → Act → World → Prop} {K : Act → World → Prop} {a : Act} {w : World} {d : Nat} {ty : TypeId} {ps : String} {af : Array Edge}
    (h : K (a.put (some d) (.slice (some ⟨w.heap.size, 0, none⟩) 0 0)) (w.alloc (.cells #[] 5))) : Oper.wp Try.prog { dst := some d, op := .buildSlice 27 0 #[], type := ty, pos := ps, after := af, guard := none } a w K Q := by
  go_simp
  exact h
set_option maxRecDepth 100000 in
theorem op_len {Q : Exit → Act → World → Prop} {K : Act → World → Prop} {a : Act} {w : World} {d : Nat} {ty : TypeId} {ps : String} {af : Array Edge} (x : Nat) (A : Option Addr) (n c : Nat) (hx : a.tmps.getD x undef = .slice A n c)
    (h : K (a.put (some d) (.int .i64 (n : Int))) w) : Oper.wp Try.prog { dst := some d, op := .call { callee := .builtin .len, args := #[.tmp x], argTypes := #[33] }, type := ty, pos := ps, after := af, guard := none } a w K Q := by
  go_simp
  exact h

set_option maxRecDepth 100000 in
/-- append onto a row of the call's own; where the new row lies. -/
theorem op_append {Q : Exit → Act → World → Prop} {K : Act → World → Prop} {a : Act} {w : World} {d : Nat} {ty : TypeId} {ps : String} {af : Array Edge} (x y : Nat) (B : Nat) (v u : Value) (l k : List Int)
    (hx : a.tmps.getD x undef = v) (hy : a.tmps.getD y undef = u) (hown : Own w B 5 v l) (hsl : Rb w u k) (h47 : l.length + k.length ≤ 140737488355328) (hB : B ≤ w.heap.size)
    (h : ∀ v' w', Own w' B 5 v' (l ++ k) → w.grownBy w' v.ownBlock → (v'.ownBlock = v.ownBlock ∨ v'.ownBlock = some w.heap.size) → K (a.put (some d) v') w') :
    Oper.wp Try.prog { dst := some d, op := .call { callee := .builtin .append, args := #[.tmp x, .tmp y], argTypes := #[27, 27] }, type := ty, pos := ps, after := af, guard := none } a w K Q := by
  obtain ⟨i0, hi, hz0, hz1, hz2⟩ := info_parts infoByte
  obtain ⟨⟨A, c, rfl, hc, hn, hr⟩, hy2, hm⟩ := hsl
  cases A with
  | none =>
    have hk : k = [] := by
      by_cases h0 : k = []
      · exact h0
      · obtain ⟨_, _, he, _⟩ := hr h0
        cases he
    subst hk
    have hc0 := hn rfl
    subst hc0
    have hrn := run_append_owned_none (P := Try.prog) (w := w) B 27 ty 5 i0 1 Try.underlying27 hi v l.length (byteVals l) hown
    have hx' : a.eval (.tmp x) = v := hx
    have hy' : a.eval (.tmp y) = .slice none 0 0 := hy
    unfold Oper.wp execOp
    simp only [resolve, invoke, builtin, Sem.run_bind, Sem.run_pure, Result.andThen_ok, List.map_toArray, List.map_cons, List.map_nil, hx', hy', hrn]
    exact h v w (by simpa using hown) (World.grownBy.refl w _) (.inl rfl)
  | some ad =>
    have hnews : ∀ j u, (byteVals k)[j]? = some u → w.cell? (ad.add j) = some u := by
      intro j u hu
      obtain ⟨hj, rfl⟩ := byteVals_at k j u hu
      obtain ⟨b, off, he, _, _, hrun⟩ := hr (by rintro rfl; simp at hj)
      injection he with he
      subst he
      rw [← hrun j hj]
      by_cases h0 : j = 0 <;> simp [Addr.add, h0]
    obtain ⟨v', w', hrn, h2, h3, _, h5⟩ := run_append_own_at (P := Try.prog) w B 27 ty 5 i0 (.int .u8 0) 1 1 Try.underlying27 hi hz0 hz1 hz2 rfl (by decide) v l.length (byteVals l) hown ad k.length c (byteVals k) (by simp [byteVals]) hnews (byteVals_one k) (by unfold maxLen; omega) (by omega) hB
    have hx' : a.eval (.tmp x) = v := hx
    have hy' : a.eval (.tmp y) = .slice (some ad) k.length c := hy
    unfold Oper.wp execOp
    simp only [resolve, invoke, builtin, Sem.run_bind, Sem.run_pure, Result.andThen_ok, List.map_toArray, List.map_cons, List.map_nil, hx', hy', hrn]
    exact h v' w' (by simpa [Own, byteVals] using h2) h3 h5

/-- What grows by a row of the call's own leaves all that was there ahead of the call. -/
theorem ownsRow_grows {w0 w w' : World} {B e k n : Nat} {v : Value} {xs : List Value} (ho : w.ownsRow B e k v n xs) (hb : Below w0.heap.size w0 w) (hg : w.grownBy w' v.ownBlock) (h0 : w0.heap.size ≤ B) : Below w0.heap.size w0 w' := by
  refine ⟨hg.os.trans hb.os, hg.tape.trans hb.tape, hg.output.trans hb.output, Nat.le_trans hb.size hg.size, fun j hj => (hg.block j (Nat.lt_of_lt_of_le hj hb.size) ?_).trans (hb.block j hj)⟩
  have h2 := ho.2
  rcases h2 with ⟨rfl, _⟩ | ⟨g, cap, cur, rfl, hbg, _⟩
  · simp [Value.ownBlock]
  · simp [Value.ownBlock]; omega
/-- The row v' lies apart from the block of the row v. -/
def Off (w : World) (v v' : Value) (l : List Int) : Prop := ∀ g, v.ownBlock = some g → Sl w g v' l
theorem Off.below {w w' : World} {v v' : Value} {l : List Int} (h : Off w v v' l) (hb : Below w.heap.size w w') : Off w' v v' l := fun g hg => (h g hg).below hb
theorem sl_any {w w' : World} {g : Nat} {v : Value} {l : List Int} (h : Sl w g v l) (hk : Only g w w') (g' : Nat) (hg : g' = g ∨ w.heap.size ≤ g') : Sl w' g' v l := by
  obtain ⟨A, c, rfl, hc, hn, hr⟩ := h
  refine ⟨A, c, rfl, hc, hn, fun hl => ?_⟩
  obtain ⟨b, off, rfl, hb, hlt, hrun⟩ := hr hl
  exact ⟨b, off, rfl, by rcases hg with rfl | hg; exact hb; omega, Nat.lt_of_lt_of_le hlt hk.size, fun i hi => (World.cell?_of_block (hk.block b hlt (by simpa using hb))).trans (hrun i hi)⟩
/-- A block without cells holds no row. -/
theorem sl_empty {w : World} {g t : Nat} {v : Value} {l : List Int} (h : Rb w v l) (hx : Box w g t #[]) : Sl w g v l := by
  obtain ⟨⟨A, c, rfl, hc, hn, hr⟩, _⟩ := h
  refine ⟨A, c, rfl, hc, hn, fun hl => ?_⟩
  obtain ⟨b, off, rfl, hb, hlt, hrun⟩ := hr hl
  refine ⟨b, off, rfl, fun e => ?_, hlt, hrun⟩
  subst e
  have h0 := hrun 0 (List.length_pos_iff.2 hl)
  rw [hx.cell] at h0
  simp at h0
theorem Rb.of_sl {w : World} {g : Nat} {v : Value} {l : List Int} (h : Sl w g v l) (hy : Bys l) (hm : l.length ≤ maxLen) : Rb w v l := by
  obtain ⟨A, c, rfl, hc, hn, hr⟩ := h
  refine ⟨⟨A, c, rfl, hc, hn, fun hl => ?_⟩, hy, hm⟩
  obtain ⟨b, off, rfl, hb, hlt, hrun⟩ := hr hl
  exact ⟨b, off, rfl, Nat.ne_of_lt hlt, hlt, hrun⟩
theorem rb_grown {w w' : World} {v u : Value} {l : List Int} (h : Rb w u l) (ho : Off w v u l) (hg : w.grownBy w' v.ownBlock) : Rb w' u l := by
  cases hv : v.ownBlock with
  | none =>
    rw [hv] at hg
    exact h.below ⟨hg.os, hg.tape, hg.output, hg.size, fun k hk => hg.block k hk (by simp)⟩
  | some g =>
    rw [hv] at hg
    exact Rb.of_sl (sl_any (ho g hv) hg g (.inl rfl)) h.2.1 h.2.2

set_option maxRecDepth 100000 in
theorem op_one {Q : Exit → Act → World → Prop} {K : Act → World → Prop} {a : Act} {w : World} {d : Nat} {ty : TypeId} {ps : String} {af : Array Edge} (x : Nat) (y : Int) (hx : a.tmps[x]?.getD undef = .int .u8 y)
    (h : K (a.put (some d) (.slice (some ⟨w.heap.size, 0, none⟩) 1 1)) (w.alloc (.cells #[.int .u8 y] 5))) : Oper.wp Try.prog { dst := some d, op := .buildSlice 27 1 #[(0, .tmp x)], type := ty, pos := ps, after := af, guard := none } a w K Q := by
  go_simp
  exact h
set_option maxRecDepth 100000 in
theorem op_six {Q : Exit → Act → World → Prop} {K : Act → World → Prop} {a : Act} {w : World} {d : Nat} {ty : TypeId} {ps : String} {af : Array Edge} (x0 x1 x2 x3 x4 x5 : Nat) (A0 A1 A2 A3 A4 A5 : Option Addr) (n0 n1 n2 n3 n4 n5 c0 c1 c2 c3 c4 c5 : Nat)
    (h0 : a.tmps[x0]?.getD undef = .slice A0 n0 c0) (h1 : a.tmps[x1]?.getD undef = .slice A1 n1 c1) (h2 : a.tmps[x2]?.getD undef = .slice A2 n2 c2) (h3 : a.tmps[x3]?.getD undef = .slice A3 n3 c3) (h4 : a.tmps[x4]?.getD undef = .slice A4 n4 c4) (h5 : a.tmps[x5]?.getD undef = .slice A5 n5 c5)
    (h : K (a.put (some d) (.slice (some ⟨w.heap.size, 0, none⟩) 6 6)) (w.alloc (.cells #[.slice A0 n0 c0, .slice A1 n1 c1, .slice A2 n2 c2, .slice A3 n3 c3, .slice A4 n4 c4, .slice A5 n5 c5] 27))) : Oper.wp Try.prog { dst := some d, op := .buildSlice 33 6 #[(0, .tmp x0), (1, .tmp x1), (2, .tmp x2), (3, .tmp x3), (4, .tmp x4), (5, .tmp x5)], type := ty, pos := ps, after := af, guard := none } a w K Q := by
  go_simp
  exact h
set_option maxRecDepth 100000 in
theorem rows_six (w : World) (A0 A1 A2 A3 A4 A5 : Option Addr) (n0 n1 n2 n3 n4 n5 c0 c1 c2 c3 c4 c5 : Nat) (l0 l1 l2 l3 l4 l5 : List Int) (h0 : Rb w (.slice A0 n0 c0) l0) (h1 : Rb w (.slice A1 n1 c1) l1) (h2 : Rb w (.slice A2 n2 c2) l2) (h3 : Rb w (.slice A3 n3 c3) l3) (h4 : Rb w (.slice A4 n4 c4) l4) (h5 : Rb w (.slice A5 n5 c5) l5) :
    Rws (w.alloc (.cells #[.slice A0 n0 c0, .slice A1 n1 c1, .slice A2 n2 c2, .slice A3 n3 c3, .slice A4 n4 c4, .slice A5 n5 c5] 27)) (.slice (some ⟨w.heap.size, 0, none⟩) 6 6) [l0, l1, l2, l3, l4, l5] := by
  have hb : Below w.heap.size w (w.alloc (.cells #[.slice A0 n0 c0, .slice A1 n1 c1, .slice A2 n2 c2, .slice A3 n3 c3, .slice A4 n4 c4, .slice A5 n5 c5] 27)) := (Below.refl _ _).alloc (Nat.le_refl _) _
  have hx := Box.fresh w 27 #[.slice A0 n0 c0, .slice A1 n1 c1, .slice A2 n2 c2, .slice A3 n3 c3, .slice A4 n4 c4, .slice A5 n5 c5]
  have one : ∀ (i : Nat) (u : Value), (#[.slice A0 n0 c0, .slice A1 n1 c1, .slice A2 n2 c2, .slice A3 n3 c3, .slice A4 n4 c4, .slice A5 n5 c5] : Array Value)[i]? = some u → (w.alloc (.cells #[.slice A0 n0 c0, .slice A1 n1 c1, .slice A2 n2 c2, .slice A3 n3 c3, .slice A4 n4 c4, .slice A5 n5 c5] 27)).rangeAt w.heap.size (0 + i * 1) [u] := fun i u hu => by
    intro j z hj
    match j, hj with
    | 0, hj => rw [← hj, hx.cell]; simpa using hu
    | j + 1, hj => simp at hj
  refine ⟨_, _, rfl, Nat.le_refl _, by unfold maxLen; omega, (fun h => by cases h), fun _ => ⟨w.heap.size, 0, rfl, hx.lt, fun i d hd => ?_⟩⟩
  match i, hd with
  | 0, hd => obtain rfl := Option.some.inj hd; exact ⟨[_], rfl, one 0 _ rfl, _, rfl, h0.below hb⟩
  | 1, hd => obtain rfl := Option.some.inj hd; exact ⟨[_], rfl, one 1 _ rfl, _, rfl, h1.below hb⟩
  | 2, hd => obtain rfl := Option.some.inj hd; exact ⟨[_], rfl, one 2 _ rfl, _, rfl, h2.below hb⟩
  | 3, hd => obtain rfl := Option.some.inj hd; exact ⟨[_], rfl, one 3 _ rfl, _, rfl, h3.below hb⟩
  | 4, hd => obtain rfl := Option.some.inj hd; exact ⟨[_], rfl, one 4 _ rfl, _, rfl, h4.below hb⟩
  | 5, hd => obtain rfl := Option.some.inj hd; exact ⟨[_], rfl, one 5 _ rfl, _, rfl, h5.below hb⟩
  | i + 6, hd => simp at hd

/-- What is known when c of the chain have come up, and y: the one byte. -/
structure SixSt (w0 : World) (L LR : List Int) (y : Int) (ls : List (List Int)) (s : Nat × Bool) (u123 u125 u127 u128 u130 u131 u132 : Value) (w : World) : Prop where
  hb : Below w0.heap.size w0 w
  h123 : s.1 = 1 → ∃ g, u123 = .slice (some ⟨g, 0, none⟩) 0 0 ∧ Box w g 5 #[] ∧ w0.heap.size ≤ g
  h125 : s.1 = 2 → Own w w0.heap.size 5 u125 L ∧ (s.2 = true → Off w u125 u127 [y])
  h127 : s.2 = true → Rb w u127 [y]
  h128 : 3 ≤ s.1 → Rb w u128 (L ++ [y])
  h130 : 4 ≤ s.1 → Rb w u130 LR
  h131 : 5 ≤ s.1 → ∃ g, u131 = .slice (some ⟨g, 0, none⟩) 6 6 ∧ Rws w u131 ls
  h132 : 6 ≤ s.1 → u132 = .int .i64 6
def sixV (s : Nat × Bool) : Prop := s.1 ≤ 6 ∧ (3 ≤ s.1 → s.2 = true)
def sixLst (s : Nat × Bool) : Array Bool := #[true, true, true, true, true, true, decide (1 ≤ s.1), true, decide (2 ≤ s.1), true, s.2, decide (3 ≤ s.1), true, decide (4 ≤ s.1), decide (5 ≤ s.1), decide (6 ≤ s.1), true]
def sixRank (s : Nat × Bool) : Nat := (6 - s.1) + (if s.2 then 0 else 1)
def sixCond (s : Nat × Bool) : Nat → Bool
  | 6 => decide (s.1 = 0)
  | 8 => decide (s.1 = 1)
  | 10 => !s.2
  | 11 => decide (s.1 = 2) && s.2
  | 13 => decide (s.1 = 3)
  | 14 => decide (s.1 = 4)
  | 15 => decide (s.1 = 5)
  | _ => false
def sixRd (s : Nat × Bool) : List Nat := [6, 8, 10, 11, 13, 14, 15].filter (sixCond s)
theorem SixSt.mono {w0 : World} {L LR : List Int} {y : Int} {ls : List (List Int)} {s : Nat × Bool} {u123 u125 u127 u128 u130 u131 u132 : Value} {w w' : World} (h : SixSt w0 L LR y ls s u123 u125 u127 u128 u130 u131 u132 w) (hb : Below w.heap.size w w') :
    SixSt w0 L LR y ls s u123 u125 u127 u128 u130 u131 u132 w' where
  hb := h.hb.trans (hb.mono h.hb.size)
  h123 := fun e => by obtain ⟨g, h1, h2, h3⟩ := h.h123 e; exact ⟨g, h1, h2.below hb, h3⟩
  h125 := fun e => by obtain ⟨h1, h2⟩ := h.h125 e; exact ⟨h1.below hb, fun e => (h2 e).below hb⟩
  h127 := fun e => (h.h127 e).below hb
  h128 := fun e => (h.h128 e).below hb
  h130 := fun e => (h.h130 e).below hb
  h131 := fun e => by obtain ⟨g, h1, h2⟩ := h.h131 e; exact ⟨g, h1, Many.below h2 hb (fun cs x h => RowR.below (h.below (Below.refl _ _)) hb)⟩
  h132 := h.h132
theorem six_done {s : Nat × Bool} (hV : sixV s) (h : sixRd s = []) : s.1 = 6 := by
  obtain ⟨c, b⟩ := s
  obtain ⟨h1, h2⟩ := hV
  have : c = 0 ∨ c = 1 ∨ c = 2 ∨ c = 3 ∨ c = 4 ∨ c = 5 ∨ c = 6 := by simp only at h1; omega
  rcases this with rfl | rfl | rfl | rfl | rfl | rfl | rfl <;> cases b <;> simp_all [sixRd, sixCond]
theorem six_rank0 {s : Nat × Bool} (hV : sixV s) (h : sixRank s = 0) : sixRd s = [] := by
  obtain ⟨c, b⟩ := s
  obtain ⟨h1, h2⟩ := hV
  have : c = 0 ∨ c = 1 ∨ c = 2 ∨ c = 3 ∨ c = 4 ∨ c = 5 ∨ c = 6 := by simp only at h1; omega
  rcases this with rfl | rfl | rfl | rfl | rfl | rfl | rfl <;> cases b <;> simp_all [sixRd, sixCond, sixRank]


/-- The regions of a piece of code, in the order of the text. -/
def regionsOf : Code → List Code
  | .region n o b => [.region n o b]
  | .loop c => regionsOf c
  | .seq a b => regionsOf a ++ regionsOf b
  | .block _ c => regionsOf c
  | .scope c => regionsOf c
  | .cond _ a b => regionsOf a ++ regionsOf b
  | _ => []
set_option maxRecDepth 100000 in
theorem op_raw {Q : Exit → Act → World → Prop} {K : Act → World → Prop} {a : Act} {w : World} {d : Nat} {ty : TypeId} {ps : String} {af : Array Edge} (x : Nat) (X : Value) (LT : List Int) (hx : a.tmps[x]?.getD undef = X) (hc : Calls Try.prog 9 #[X] w (NewBytes LT w))
    (h : ∀ v w', Own w' w.heap.size 5 v LT → Below w.heap.size w w' → K (a.put (some d) v) w') : Oper.wp Try.prog { dst := some d, op := .call { callee := .value (.func 9), args := #[.tmp x], argTypes := #[26] }, type := ty, pos := ps, after := af, guard := none } a w K Q := by
  have hc := Kp.mk hc
  go_simp
  refine hc.out.mono ?_
  rintro e w' ⟨v, rfl, hf, hb⟩
  exact h v w' hf hb
noncomputable def tellsSix : Code := ((Try.f3.body.map regionsOf).getD []).getD 10 .skip

set_option maxRecDepth 10000000 in
set_option maxHeartbeats 8000000 in
theorem tells_six (Ab Ax Ai Ao : Option Addr) (gu g0 NB NU NI NO k cb cx cu ci co : Nat) (by_ : Int) (t : TxD) (lb LU LV LT : List Int) (w0 : World) (Q : Exit → Act → World → Prop) (s0 s1 s2 s4 s7 s8 s9 s10 s11 s12 s13 s17 s18 s19 s20 s21 s22 s23 s24 s25 s26 s27 s28 s29 s30 s31 s32 s33 s34 s35 s36 s37 s38 s39 s40 s41 s42 s43 s44 s45 s46 s47 s48 s49 s50 s51 s52 s53 s54 s55 s56 s57 s58 s59 s60 s61 s62 s63 s64 s65 s66 s67 s68 s69 s70 s71 s72 s73 s74 s75 s76 s77 s78 s79 s80 s81 s82 s83 s84 s85 s86 s87 s88 s89 s90 s91 s92 s93 s94 s95 s96 s97 s98 s99 s100 s101 s102 s103 s104 s105 s106 s107 s108 s109 s110 s111 s112 s113 s114 s115 s116 s117 s118 s119 s120 s121 s122 s123 s124 s125 s126 s127 s128 s129 s130 s131 s132 s133 s134 s135 s136 s137 s138 s139 s140 s141 s142 s143 s144 s145 s146 s147 s148 s149 s150 s151 s152 s153 s154 s155 s156 s157 s158 s159 s160 s161 s162 s163 s164 s165 s166 s167 s168 s169 s170 s171 s172 s173 s174 s175 s176 s177 s178 s179 s180 s181 s182 s183 s184 s185 s186 s187 s188 s189 s190 s191 s192 s193 s194 s195 s196 s197 s198 s199 s200 s201 s202 s203 s204 : Value)
    (HBV : Kp (Rb w0 (.slice Ab NB cb) lb)) (HXV : Kp (Rb w0 (.slice Ax NU cx) LU)) (HUV : Kp (Rb w0 (.slice (some ⟨gu, 0, none⟩) NU cu) LV)) (HKV : Kp (Rb w0 (.slice Ax k cx) (LU.take k))) (HK : Kp (k ≤ cx)) (HLU : Kp (LU.length ≤ 140737488354000)) (HBY : Kp (0 ≤ by_ ∧ by_ ≤ 255)) (HBT : Kp (Bys LT))
    (HC : Kp (∀ W : World, Below w0.heap.size w0 W → W.cell? ⟨g0, 0, none⟩ = some (.int .u32 (t.version : Int)) ∧ W.cell? ⟨g0, 1, none⟩ = some (.slice Ai NI ci) ∧ W.cell? ⟨g0, 2, none⟩ = some (.slice Ao NO co) ∧ W.cell? ⟨g0, 3, none⟩ = some (.int .u32 (t.lock : Int)))) (HYB : Kp (∀ W, Below w0.heap.size w0 W → Calls Try.prog 9 #[.agg #[.int .u32 (t.version : Int), .slice Ai NI ci, .slice Ao NO co, .int .u32 (t.lock : Int)]] W (NewBytes LT W)))
    (hexit : ∀ (v117 v118 v119 v120 v121 v122 v123 v124 v125 v126 v127 v128 v129 v130 : Value) (g : Nat) (w' : World), Kp (Rws w' (.slice (some ⟨g, 0, none⟩) 6 6) [lb, LU, LV, LU.take k, LU ++ [by_], LT]) → Kp (Below w0.heap.size w0 w') → Q .normal ⟨(List.toArray ((s0 : Value) :: s1 :: s2 :: (.slice Ab NB cb) :: s4 :: (.int .u8 by_) :: (.pointer (some ⟨g0, 0, none⟩)) :: s7 :: s8 :: s9 :: s10 :: s11 :: s12 :: s13 :: (.slice Ax NU cx) :: (.slice (some ⟨gu, 0, none⟩) NU cu) :: (.int .i64 (k : Int)) :: s17 :: s18 :: s19 :: s20 :: s21 :: s22 :: s23 :: s24 :: s25 :: s26 :: s27 :: s28 :: s29 :: s30 :: s31 :: s32 :: s33 :: s34 :: s35 :: s36 :: s37 :: s38 :: s39 :: s40 :: s41 :: s42 :: s43 :: s44 :: s45 :: s46 :: s47 :: s48 :: s49 :: s50 :: s51 :: s52 :: s53 :: s54 :: s55 :: s56 :: s57 :: s58 :: s59 :: s60 :: s61 :: s62 :: s63 :: s64 :: s65 :: s66 :: s67 :: s68 :: s69 :: s70 :: s71 :: s72 :: s73 :: s74 :: s75 :: s76 :: s77 :: s78 :: s79 :: s80 :: s81 :: s82 :: s83 :: s84 :: s85 :: s86 :: s87 :: s88 :: s89 :: s90 :: s91 :: s92 :: s93 :: s94 :: s95 :: s96 :: s97 :: s98 :: s99 :: s100 :: s101 :: s102 :: s103 :: s104 :: s105 :: s106 :: s107 :: s108 :: s109 :: s110 :: s111 :: s112 :: s113 :: s114 :: s115 :: s116 :: v117 :: v118 :: v119 :: v120 :: v121 :: v122 :: v123 :: v124 :: v125 :: v126 :: v127 :: v128 :: v129 :: v130 :: (.slice (some ⟨g, 0, none⟩) 6 6) :: (.int .i64 6) :: (.int .i64 0) :: s134 :: s135 :: s136 :: s137 :: s138 :: s139 :: s140 :: s141 :: s142 :: s143 :: s144 :: s145 :: s146 :: s147 :: s148 :: s149 :: s150 :: s151 :: s152 :: s153 :: s154 :: s155 :: s156 :: s157 :: s158 :: s159 :: s160 :: s161 :: s162 :: s163 :: s164 :: s165 :: s166 :: s167 :: s168 :: s169 :: s170 :: s171 :: s172 :: s173 :: s174 :: s175 :: s176 :: s177 :: s178 :: s179 :: s180 :: s181 :: s182 :: s183 :: s184 :: s185 :: s186 :: s187 :: s188 :: s189 :: s190 :: s191 :: s192 :: s193 :: s194 :: s195 :: s196 :: s197 :: s198 :: s199 :: s200 :: s201 :: s202 :: s203 :: s204 :: [])), []⟩ w') :
    Code.wp Try.prog tellsSix Q ⟨(List.toArray ((s0 : Value) :: s1 :: s2 :: (.slice Ab NB cb) :: s4 :: (.int .u8 by_) :: (.pointer (some ⟨g0, 0, none⟩)) :: s7 :: s8 :: s9 :: s10 :: s11 :: s12 :: s13 :: (.slice Ax NU cx) :: (.slice (some ⟨gu, 0, none⟩) NU cu) :: (.int .i64 (k : Int)) :: s17 :: s18 :: s19 :: s20 :: s21 :: s22 :: s23 :: s24 :: s25 :: s26 :: s27 :: s28 :: s29 :: s30 :: s31 :: s32 :: s33 :: s34 :: s35 :: s36 :: s37 :: s38 :: s39 :: s40 :: s41 :: s42 :: s43 :: s44 :: s45 :: s46 :: s47 :: s48 :: s49 :: s50 :: s51 :: s52 :: s53 :: s54 :: s55 :: s56 :: s57 :: s58 :: s59 :: s60 :: s61 :: s62 :: s63 :: s64 :: s65 :: s66 :: s67 :: s68 :: s69 :: s70 :: s71 :: s72 :: s73 :: s74 :: s75 :: s76 :: s77 :: s78 :: s79 :: s80 :: s81 :: s82 :: s83 :: s84 :: s85 :: s86 :: s87 :: s88 :: s89 :: s90 :: s91 :: s92 :: s93 :: s94 :: s95 :: s96 :: s97 :: s98 :: s99 :: s100 :: s101 :: s102 :: s103 :: s104 :: s105 :: s106 :: s107 :: s108 :: s109 :: s110 :: s111 :: s112 :: s113 :: s114 :: s115 :: s116 :: s117 :: s118 :: s119 :: s120 :: s121 :: s122 :: s123 :: s124 :: s125 :: s126 :: s127 :: s128 :: s129 :: s130 :: s131 :: s132 :: s133 :: s134 :: s135 :: s136 :: s137 :: s138 :: s139 :: s140 :: s141 :: s142 :: s143 :: s144 :: s145 :: s146 :: s147 :: s148 :: s149 :: s150 :: s151 :: s152 :: s153 :: s154 :: s155 :: s156 :: s157 :: s158 :: s159 :: s160 :: s161 :: s162 :: s163 :: s164 :: s165 :: s166 :: s167 :: s168 :: s169 :: s170 :: s171 :: s172 :: s173 :: s174 :: s175 :: s176 :: s177 :: s178 :: s179 :: s180 :: s181 :: s182 :: s183 :: s184 :: s185 :: s186 :: s187 :: s188 :: s189 :: s190 :: s191 :: s192 :: s193 :: s194 :: s195 :: s196 :: s197 :: s198 :: s199 :: s200 :: s201 :: s202 :: s203 :: s204 :: [])), []⟩ w0 := by
  conv => arg 2; whnf
  have hk := HK.out
  have hk1 : ((k : Int) ≤ (cx : Int)) := by omega
  have hk0 : (0 : Int) ≤ (k : Int) := by omega
  have HQ := Kp.mk hexit
  clear hexit
  refine wp_region_noPanic ?_
  refine wp_region_held_drew (S := (fun W => Below w0.heap.size w0 W)) (by kernel_rfl) ?_ (fun hHeld => ?_)
  · exact (Below.refl _ _).drew
  refine wpAnyH_take (i := 0) (oi := ⟨some 117, _, _, _, _, _⟩) (v := ?_) rfl (by kernel_rfl) (by kernel_rfl) (by kernel_rfl) (fun _ _ _ h => h) (Or.inl ⟨by rfl, ?_⟩) hHeld ?_
  rotate_left
  · (intro wx hSw; (try dsimp only at hSw); go_simp; try with_reducible rfl)
  try simp only [Act.put, List.setIfInBounds_toArray, List.set_cons_zero, List.set_cons_succ]
  refine wpAnyH_take (i := 1) (oi := ⟨some 118, _, _, _, _, _⟩) (v := ?_) rfl (by kernel_rfl) (by kernel_rfl) (by kernel_rfl) (fun _ _ _ h => h) (Or.inl ⟨by rfl, ?_⟩) hHeld ?_
  rotate_left
  · (intro wx hSw; (try dsimp only at hSw); go_simp; try with_reducible rfl)
  try simp only [Act.put, List.setIfInBounds_toArray, List.set_cons_zero, List.set_cons_succ]
  refine wpAnyH_take (i := 2) (oi := ⟨some 119, _, _, _, _, _⟩) (v := ?_) rfl (by kernel_rfl) (by kernel_rfl) (by kernel_rfl) (fun _ _ _ h => h) (Or.inl ⟨by rfl, ?_⟩) hHeld ?_
  rotate_left
  · (intro wx hSw; (try dsimp only at hSw); go_simp; try with_reducible rfl)
  try simp only [Act.put, List.setIfInBounds_toArray, List.set_cons_zero, List.set_cons_succ]
  refine wpAnyH_take (i := 3) (oi := ⟨some 120, _, _, _, _, _⟩) (v := ?_) rfl (by kernel_rfl) (by kernel_rfl) (by kernel_rfl) (fun _ _ _ h => h) (Or.inl ⟨by rfl, ?_⟩) hHeld ?_
  rotate_left
  · (intro wx hSw; (try dsimp only at hSw); go_simp; try with_reducible rfl)
  try simp only [Act.put, List.setIfInBounds_toArray, List.set_cons_zero, List.set_cons_succ]
  refine wpAnyH_take (i := 4) (oi := ⟨some 121, _, _, _, _, _⟩) (v := ?_) rfl (by kernel_rfl) (by kernel_rfl) (by kernel_rfl) (fun _ _ _ h => h) (Or.inl ⟨by rfl, ?_⟩) hHeld ?_
  rotate_left
  · (intro wx hSw; (try dsimp only at hSw); go_simp; try with_reducible rfl)
  try simp only [Act.put, List.setIfInBounds_toArray, List.set_cons_zero, List.set_cons_succ]
  refine wpAnyH_take (i := 5) (oi := ⟨some 122, _, _, _, _, _⟩) (v := ?_) rfl (by kernel_rfl) (by kernel_rfl) (by kernel_rfl) (fun _ _ _ h => h) (Or.inl ⟨by rfl, ?_⟩) hHeld ?_
  rotate_left
  · (intro wx hSw; (try dsimp only at hSw); go_simp; try with_reducible rfl)
  try simp only [Act.put, List.setIfInBounds_toArray, List.set_cons_zero, List.set_cons_succ]
  refine wpAnyH_take (i := 7) (oi := ⟨some 124, _, _, _, _, _⟩) (v := ?_) rfl (by kernel_rfl) (by kernel_rfl) (by kernel_rfl) (fun _ _ _ h => h) (Or.inl ⟨by rfl, ?_⟩) hHeld ?_
  rotate_left
  · (intro wx hSw; (try dsimp only at hSw); go_simp; try with_reducible rfl)
  try simp only [Act.put, List.setIfInBounds_toArray, List.set_cons_zero, List.set_cons_succ]
  refine wpAnyH_take (i := 9) (oi := ⟨some 126, _, _, _, _, _⟩) (v := ?_) rfl (by kernel_rfl) (by kernel_rfl) (by kernel_rfl) (fun _ _ _ h => h) (Or.inl ⟨by rfl, ?_⟩) hHeld ?_
  rotate_left
  · (intro wx hSw; (try dsimp only at hSw); go_simp; try with_reducible rfl)
  try simp only [Act.put, List.setIfInBounds_toArray, List.set_cons_zero, List.set_cons_succ]
  refine wpAnyH_take (i := 12) (oi := ⟨some 129, _, _, _, _, _⟩) (v := ?_) rfl (by kernel_rfl) (by kernel_rfl) (by kernel_rfl) (fun _ _ _ h => h) (Or.inl ⟨by rfl, ?_⟩) hHeld ?_
  rotate_left
  · (intro wx hSw; have hq := HC.out wx hSw; (try dsimp only at hSw); go_simp; try with_reducible rfl)
  try simp only [Act.put, List.setIfInBounds_toArray, List.set_cons_zero, List.set_cons_succ]
  refine wpAnyH_take (i := 16) (oi := ⟨some 133, _, _, _, _, _⟩) (v := ?_) rfl (by kernel_rfl) (by kernel_rfl) (by kernel_rfl) (fun _ _ _ h => h) (Or.inl ⟨by rfl, ?_⟩) hHeld ?_
  rotate_left
  · (intro wx hSw; (try dsimp only at hSw); go_simp; try with_reducible rfl)
  try simp only [Act.put, List.setIfInBounds_toArray, List.set_cons_zero, List.set_cons_succ]
  refine wpAnyH_states sixLst sixRank sixRd sixV (fun s a wx => ∃ (u123 u125 u127 u128 u130 u131 u132 : Value), a = ⟨(List.toArray ((s0 : Value) :: s1 :: s2 :: (.slice Ab NB cb) :: s4 :: (.int .u8 by_) :: (.pointer (some ⟨g0, 0, none⟩)) :: s7 :: s8 :: s9 :: s10 :: s11 :: s12 :: s13 :: (.slice Ax NU cx) :: (.slice (some ⟨gu, 0, none⟩) NU cu) :: (.int .i64 (k : Int)) :: s17 :: s18 :: s19 :: s20 :: s21 :: s22 :: s23 :: s24 :: s25 :: s26 :: s27 :: s28 :: s29 :: s30 :: s31 :: s32 :: s33 :: s34 :: s35 :: s36 :: s37 :: s38 :: s39 :: s40 :: s41 :: s42 :: s43 :: s44 :: s45 :: s46 :: s47 :: s48 :: s49 :: s50 :: s51 :: s52 :: s53 :: s54 :: s55 :: s56 :: s57 :: s58 :: s59 :: s60 :: s61 :: s62 :: s63 :: s64 :: s65 :: s66 :: s67 :: s68 :: s69 :: s70 :: s71 :: s72 :: s73 :: s74 :: s75 :: s76 :: s77 :: s78 :: s79 :: s80 :: s81 :: s82 :: s83 :: s84 :: s85 :: s86 :: s87 :: s88 :: s89 :: s90 :: s91 :: s92 :: s93 :: s94 :: s95 :: s96 :: s97 :: s98 :: s99 :: s100 :: s101 :: s102 :: s103 :: s104 :: s105 :: s106 :: s107 :: s108 :: s109 :: s110 :: s111 :: s112 :: s113 :: s114 :: s115 :: s116 :: (.slice Ab NB cb) :: (.slice Ax NU cx) :: (.slice (some ⟨gu, 0, none⟩) NU cu) :: (.slice Ax NU cx) :: (.int .i64 (k : Int)) :: (.slice Ax k cx) :: u123 :: (.slice Ax NU cx) :: u125 :: (.int .u8 by_) :: u127 :: u128 :: (.agg #[.int .u32 (t.version : Int), .slice Ai NI ci, .slice Ao NO co, .int .u32 (t.lock : Int)]) :: u130 :: u131 :: u132 :: (.int .i64 0) :: s134 :: s135 :: s136 :: s137 :: s138 :: s139 :: s140 :: s141 :: s142 :: s143 :: s144 :: s145 :: s146 :: s147 :: s148 :: s149 :: s150 :: s151 :: s152 :: s153 :: s154 :: s155 :: s156 :: s157 :: s158 :: s159 :: s160 :: s161 :: s162 :: s163 :: s164 :: s165 :: s166 :: s167 :: s168 :: s169 :: s170 :: s171 :: s172 :: s173 :: s174 :: s175 :: s176 :: s177 :: s178 :: s179 :: s180 :: s181 :: s182 :: s183 :: s184 :: s185 :: s186 :: s187 :: s188 :: s189 :: s190 :: s191 :: s192 :: s193 :: s194 :: s195 :: s196 :: s197 :: s198 :: s199 :: s200 :: s201 :: s202 :: s203 :: s204 :: [])), []⟩ ∧ SixSt w0 LU LT by_ [lb, LU, LV, LU.take k, LU ++ [by_], LT] s u123 u125 u127 u128 u130 u131 u132 wx) ?hrd (fun s hV h => six_rank0 hV h) ?hst ?hdn 7 (0, false) _ _ ⟨by simp, by simp⟩ (by simp [sixRank]) ?hin
  case hin => exact ⟨s123, s125, s127, s128, s130, s131, s132, rfl, ⟨(Below.refl _ _).drew, by simp, by simp, by simp, by simp, by simp, by simp, by simp⟩⟩
  case hrd =>
    rintro ⟨c, b⟩ ⟨h1, h2⟩
    have hc7 : c = 0 ∨ c = 1 ∨ c = 2 ∨ c = 3 ∨ c = 4 ∨ c = 5 ∨ c = 6 := by simp only at h1; omega
    rcases hc7 with rfl | rfl | rfl | rfl | rfl | rfl | rfl <;> cases b <;> first | (exfalso; simp at h2; done) | (show (_ : List Nat) = _; kernel_rfl)
  case hst =>
    rintro ⟨c, b⟩ a wx hV ⟨u123, u125, u127, u128, u130, u131, u132, rfl, hs⟩ i hi
    obtain ⟨h9, hc⟩ := List.mem_filter.1 hi
    simp only [List.mem_cons, List.not_mem_nil, or_false] at h9
    obtain ⟨hv1, hv2⟩ := hV
    rcases h9 with rfl | rfl | rfl | rfl | rfl | rfl | rfl
    · -- an empty row
      obtain rfl : c = 0 := by simpa [sixCond] using hc
      refine wpOp_one (o := ⟨some 123, _, _, _, _, _⟩) rfl rfl ?_
      refine op_empty ?_
      have ms := hs.mono ((Below.refl wx.heap.size wx).alloc (Nat.le_refl _) (.cells #[] 5))
      exact ⟨ms.hb, (1, b), ⟨by simp, by simp⟩, rfl, by simp [sixRank], (.slice (some ⟨wx.heap.size, 0, none⟩) 0 0), u125, u127, u128, u130, u131, u132, rfl, ⟨ms.hb, fun _ => ⟨wx.heap.size, rfl, Box.fresh _ _ _, hs.hb.size⟩, by simp, ms.h127, by simp, by simp, by simp, by simp⟩⟩
    · -- x is appended to it
      obtain rfl : c = 1 := by simpa [sixCond] using hc
      obtain ⟨g, rfl, hx, hg⟩ := hs.h123 rfl
      have hown : Own wx w0.heap.size 5 (.slice (some ⟨g, 0, none⟩) 0 0) [] := ⟨by simp [byteVals], .inr ⟨g, 0, #[], rfl, hg, hx, Nat.le_refl _, Nat.zero_le _, rfl, by simp [byteVals]⟩⟩
      refine wpOp_one (o := ⟨some 125, _, _, _, _, _⟩) rfl rfl ?_
      refine op_append 123 124 w0.heap.size _ _ [] LU rfl rfl hown (HXV.out.below hs.hb) (by have := HLU.out; simp; omega) hs.hb.size fun v' w' ho hgr hloc => ?_
      rw [List.nil_append] at ho
      have hgr' : Only g wx w' := hgr
      have hbl : Below w0.heap.size w0 w' := Only.below hs.hb hgr' hg
      have off : ∀ u l, Rb wx u l → Rb w' u l ∧ Off w' v' u l := fun u l hr => by
        have h1 := sl_empty hr hx
        refine ⟨Rb.of_sl (sl_any h1 hgr' g (.inl rfl)) hr.2.1 hr.2.2, fun g' hg' => ?_⟩
        refine sl_any h1 hgr' g' ?_
        rcases hloc with e | e
        · rw [hg'] at e
          exact .inl (Option.some.inj e)
        · rw [hg'] at e
          exact .inr (Nat.le_of_eq (Option.some.inj e).symm)
      exact ⟨hbl, (2, b), ⟨by simp, by simp⟩, rfl, by simp [sixRank], _, v', u127, u128, u130, u131, u132, rfl, ⟨hbl, by simp, fun _ => ⟨ho, fun e => (off _ _ (hs.h127 e)).2⟩, fun e => (off _ _ (hs.h127 e)).1, by simp, by simp, by simp, by simp⟩⟩
    · -- one byte
      obtain rfl : b = false := by simpa [sixCond] using hc
      have hc2 : c ≤ 2 := by
        rcases Nat.lt_or_ge 2 c with h | h
        · exact absurd (hv2 h) (by simp)
        · exact h
      refine wpOp_one (o := ⟨some 127, _, _, _, _, _⟩) rfl rfl ?_
      refine op_one 126 by_ rfl ?_
      have hbn : Below wx.heap.size wx (wx.alloc (.cells #[.int .u8 by_] 5)) := (Below.refl wx.heap.size wx).alloc (Nat.le_refl _) _
      have ms := hs.mono hbn
      have hnew : ∀ g, g ≠ wx.heap.size → Sl (wx.alloc (.cells #[.int .u8 by_] 5)) g (.slice (some ⟨wx.heap.size, 0, none⟩) 1 1) [by_] := fun g hg => ⟨_, _, rfl, Nat.le_refl _, (fun h => by cases h), fun _ => ⟨wx.heap.size, 0, rfl, fun e => hg e.symm, by simp, fun i hi => by
        have h0 : i = 0 := by simp at hi; omega
        subst h0
        exact (Box.fresh wx 5 #[.int .u8 by_]).cell 0⟩⟩
      have hrn : Rb (wx.alloc (.cells #[.int .u8 by_] 5)) (.slice (some ⟨wx.heap.size, 0, none⟩) 1 1) [by_] := ⟨hnew _ (by simp), (fun x hx => by simp at hx; subst hx; exact HBY.out), by unfold maxLen; simp⟩
      exact ⟨ms.hb, (c, true), ⟨hv1, by simp⟩, by simp [sixLst], by simp [sixRank], u123, u125, (.slice (some ⟨wx.heap.size, 0, none⟩) 1 1), u128, u130, u131, u132, rfl, ⟨ms.hb, ms.h123, fun e => by
        obtain ⟨p1, _⟩ := ms.h125 e
        obtain ⟨q1, _⟩ := hs.h125 e
        exact ⟨p1, fun _ => fun g hg => hnew g (fun e2 => by have := (World.ownsRow.lt q1 g hg).2; omega)⟩, fun _ => hrn, fun e => absurd e (by simp only; omega), fun e => absurd e (by simp only; omega), fun e => absurd e (by simp only; omega), fun e => absurd e (by simp only; omega)⟩⟩
    · -- the byte behind x
      obtain ⟨rfl, rfl⟩ : c = 2 ∧ b = true := by simpa [sixCond] using hc
      obtain ⟨ho, ho2⟩ := hs.h125 rfl
      refine wpOp_one (o := ⟨some 128, _, _, _, _, _⟩) rfl rfl ?_
      refine op_append 125 127 w0.heap.size _ _ LU [by_] rfl rfl ho (hs.h127 rfl) (by have := HLU.out; simp; omega) hs.hb.size fun v' w' ho' hgr hloc => ?_
      have hbl : Below w0.heap.size w0 w' := ownsRow_grows ho hs.hb hgr (Nat.le_refl _)
      exact ⟨hbl, (3, true), ⟨by simp, by simp⟩, rfl, by simp [sixRank], u123, u125, u127, v', u130, u131, u132, rfl, ⟨hbl, by simp, by simp, fun e => rb_grown (hs.h127 e) (ho2 e) hgr, fun _ => ho'.rb (Bys.app HXV.out.2.1 (hs.h127 rfl).2.1), by simp, by simp, by simp⟩⟩
    · -- the bytes of raw
      obtain rfl : c = 3 := by simpa [sixCond] using hc
      refine wpOp_one (o := ⟨some 130, _, _, _, _, _⟩) rfl rfl ?_
      refine op_raw 129 _ LT rfl (HYB.out wx hs.hb) fun v' w' ho hb => ?_
      have ms := hs.mono hb
      exact ⟨ms.hb, (4, b), ⟨by simp, fun _ => hv2 (by simp)⟩, rfl, by simp [sixRank], u123, u125, u127, u128, v', u131, u132, rfl, ⟨ms.hb, by simp, by simp, ms.h127, fun _ => ms.h128 (by simp), fun _ => ho.rb HBT.out, by simp, by simp⟩⟩
    · -- all six
      obtain rfl : c = 4 := by simpa [sixCond] using hc
      have r0 := HBV.out.below hs.hb
      have r1 := HXV.out.below hs.hb
      have r2 := HUV.out.below hs.hb
      have r3 := HKV.out.below hs.hb
      have r4 := hs.h128 (by simp)
      have r5 := hs.h130 (by simp)
      obtain ⟨⟨A4, c4, rfl, _⟩, _⟩ := id r4
      obtain ⟨⟨A5, c5, rfl, _⟩, _⟩ := id r5
      refine wpOp_one (o := ⟨some 131, _, _, _, _, _⟩) rfl rfl ?_
      refine op_six 117 118 119 122 128 130 _ _ _ _ _ _ _ _ _ _ _ _ _ _ _ _ _ _ rfl rfl rfl rfl rfl rfl ?_
      have ms := hs.mono ((Below.refl wx.heap.size wx).alloc (Nat.le_refl _) (.cells #[.slice Ab NB cb, .slice Ax NU cx, .slice (some ⟨gu, 0, none⟩) NU cu, .slice Ax k cx, .slice A4 (LU ++ [by_]).length c4, .slice A5 LT.length c5] 27))
      exact ⟨ms.hb, (5, b), ⟨by simp, fun _ => hv2 (by simp)⟩, rfl, by simp [sixRank], u123, u125, u127, _, _, (.slice (some ⟨wx.heap.size, 0, none⟩) 6 6), u132, rfl, ⟨ms.hb, by simp, by simp, ms.h127, fun _ => ms.h128 (by simp), fun _ => ms.h130 (by simp), fun _ => ⟨_, rfl, rows_six wx Ab Ax (some ⟨gu, 0, none⟩) Ax A4 A5 _ _ _ _ _ _ cb cx cu cx c4 c5 _ _ _ _ _ _ r0 r1 r2 r3 r4 r5⟩, by simp⟩⟩
    · -- how many
      obtain rfl : c = 5 := by simpa [sixCond] using hc
      obtain ⟨g, rfl, hrw⟩ := hs.h131 (by simp)
      refine wpOp_one (o := ⟨some 132, _, _, _, _, _⟩) rfl rfl ?_
      refine op_len 131 _ 6 6 rfl ?_
      exact ⟨hs.hb, (6, b), ⟨by simp, fun _ => hv2 (by simp)⟩, rfl, by simp [sixRank], u123, u125, u127, u128, u130, _, (.int .i64 6), rfl, ⟨hs.hb, by simp, by simp, hs.h127, fun _ => hs.h128 (by simp), fun _ => hs.h130 (by simp), fun _ => ⟨g, rfl, hrw⟩, fun _ => rfl⟩⟩
  case hdn =>
    rintro s a wx hV ⟨u123, u125, u127, u128, u130, u131, u132, rfl, hs⟩ hd
    have h6 := six_done hV hd
    obtain ⟨g, rfl, hrw⟩ := hs.h131 (by omega)
    obtain rfl := hs.h132 (by omega)
    refine NoPanic.normal ?_
    exact HQ.out _ _ _ _ _ _ _ _ _ _ _ _ _ _ g wx ⟨hrw⟩ ⟨hs.hb⟩
end Go.Proofs.Ytojeonepplfhlaa
