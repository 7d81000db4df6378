/- The document's own Read: its third loop (each input's witness). The document's own Read: its third loop, whatever stands there. -/
import Derived.Test.YtojeonepplfhlaaRdM
namespace Go.Proofs.Ytojeonepplfhlaa
open Go.RowKit


theorem But2.trans {g T : Nat} {w w1 w2 : World} (h : But2 g T w w1) (k : But2 g T w1 w2) : But2 g T w w2 :=
  ⟨k.os.trans h.os, k.tape.trans h.tape, k.output.trans h.output, Nat.le_trans h.size k.size, fun j hj hg ht => (k.block j (Nat.lt_of_lt_of_le hj h.size) hg ht).trans (h.block j hj hg ht)⟩
set_option maxRecDepth 100000 in
theorem But2.keeps {ts : List Nat} {g gi : Nat} {w w' : World} {l : List Int} {bad : Bool} {C : Array Value} (h : But2 g gi w w') (hS : Sg w g l bad) (hx : Box w gi 47 C) (h1 : 40 ∉ ts) (h2 : 47 ∉ ts) : Keeps ts w w' := by
  obtain ⟨sv, l0, hb, _⟩ := hS
  refine ⟨h.size, fun b t cs ht fr hb' => (h.block b (heap_lt hb') ?_ ?_).trans hb'⟩
  · intro e
    subst e
    have e1 := hb'.symm.trans hb
    injection e1 with e1
    injection e1 with _ e3
    exact h1 (e3 ▸ ht)
  · intro e
    subst e
    have e1 := hb'.symm.trans hx
    injection e1 with e1
    injection e1 with _ e3
    exact h2 (e3 ▸ ht)
set_option maxRecDepth 100000 in
theorem OwnMany.witSet {w w' : World} {B gi n c j : Nat} {ds : List InD} {Ci : Array Value} {wv : Value} {x : List (List Int)} (h : OwnMany 36 47 (InO w B) w B (.slice (some ⟨gi, 0, none⟩) n c) ds) (hj : j < ds.length)
    (hkp : Keeps [5, 27] w w') (hxi : Box w gi 47 Ci) (hx' : Box w' gi 47 (Ci.setIfInBounds (j * 36 + 35) wv)) (hwv : OwnRows w' B wv x) :
    OwnMany 36 47 (InO w' B) w' B (.slice (some ⟨gi, 0, none⟩) n c) (witAt ds j x) := by
  obtain ⟨css, ho, hcl, hlen, hr⟩ := h.lens
  rcases ho.2 with ⟨hv, h0⟩ | ⟨g, cap, cur, hv, hB, hx, h1, h2, h3, h4⟩
  · omega
  · injection hv with e1 e2 e3
    injection e1 with e1
    injection e1 with e1 _ _
    subst e1
    subst e3
    have ec : cur = Ci := by
      have e := hx.symm.trans hxi
      injection e with e
      injection e
    subst ec
    have hwl : (witAt ds j x).length = ds.length := by simp [witAt]
    refine ⟨css.modify j (fun cs => cs.set 35 wv), ⟨?_, .inr ⟨gi, c, _, by rw [hwl, e2], hB, hx', by rw [hwl]; exact h1, h2, by rw [Array.size_setIfInBounds]; exact h3, ?_⟩⟩, by rw [List.length_modify, hwl, hcl], fun i cs d q1 q2 => ?_⟩
    · rw [hwl, ← flatten_set css j 35 wv hlen (by omega) (by omega), List.length_set]
      exact ho.1
    · rw [hwl, ← flatten_set css j 35 wv hlen (by omega) (by omega), ← h4, Array.toList_setIfInBounds, List.take_set]
    · rw [List.getElem?_modify] at q1
      unfold witAt at q2
      rw [List.getElem?_modify] at q2
      cases hc : css[i]? with
      | none => rw [hc] at q1; simp at q1
      | some cs0 =>
        cases hd : ds[i]? with
        | none => rw [hd] at q2; simp at q2
        | some d0 =>
          rw [hc] at q1
          rw [hd] at q2
          have hR := hr i cs0 d0 hc hd
          have hL := hlen cs0 (List.mem_of_getElem? hc)
          by_cases hij : j = i
          · simp only [hij, if_true, Option.map_eq_map, Option.map_some, Option.some.injEq] at q1 q2
            subst q1
            subst q2
            obtain ⟨sv, wv0, rfl, hf, a1, a2, a3⟩ := hR
            refine ⟨by rw [List.length_set]; exact hL, sv, wv, inCells_setWit d0 hf sv wv0 wv x, ⟨hf.plen, hf.pbys, hf.vlt, hf.slt⟩, a1.keeps hkp (by decide), a2, hwv⟩
          · simp only [if_neg hij, Option.map_eq_map, Option.map_some, Option.some.injEq] at q1 q2
            subst q1
            subst q2
            exact ⟨hL, hR.turn hkp (by decide) (by decide) (Nat.le_refl _)⟩

set_option maxRecDepth 10000000 in
set_option maxHeartbeats 8000000 in
/-- No round: nothing to read, or it is bad. -/
theorem readLoop3_no (g T n : Nat) (more : Bool) (w1 : World) (l : List Int) (bad : Bool) (Q : Exit → Act → World → Prop) (s1 s2 s3 s4 s8 s9 s10 s11 s12 s14 s15 s16 s17 s18 s19 s20 s21 s22 s23 s24 s25 s26 s27 s28 s29 s30 s31 s32 s33 s34 s35 s36 s37 s38 s39 s40 s41 s42 s43 s44 s45 s46 s47 s48 s49 s50 s51 s52 s53 s54 s55 s56 s57 s58 s59 s60 s61 s62 s63 s64 s65 s66 s67 s68 s69 s70 s71 s72 s73 s74 s75 s76 s77 s78 s79 s80 s81 s82 s83 s84 s85 s86 s87 s88 s89 s90 s91 s92 s93 s94 s95 s96 s97 s98 s99 s100 s101 s102 s103 s104 s105 s106 s107 s108 s109 s110 s111 s112 s113 s114 s115 s116 s117 s118 s119 s120 s121 s122 s123 s124 s125 s126 s127 s128 s129 s130 s131 s132 s133 s134 s135 s136 s137 s138 s139 s140 s141 s142 s143 s144 s145 s146 s147 s148 s149 s150 s151 s152 s153 s154 s155 s156 s157 s158 s159 s160 s161 s162 s163 s164 s165 s166 s167 s168 s169 s170 s171 s172 s173 s174 s175 s176 s177 s178 s179 s180 s181 s182 s183 s184 s185 s186 s187 s188 s189 s190 s191 s192 : Value)
    (HS : Kp (Sg w1 g l bad)) (hno : n = 0 ∨ more = false ∨ bad = true)
    (hexit : ∀ (t13 t14 t114 t115 t116 t117 t118 t119 t120 t121 t122 t123 t124 t125 t126 t127 t128 t129 t130 t131 t132 t133 t134 t135 t136 t137 t138 t139 t140 t141 t142 t143 t144 t145 t146 t147 t148 t149 t150 t151 t152 t153 t154 t155 t156 t157 t158 : Value) (w' : World), w' = w1 → Q (.exit 4) ⟨(List.toArray (.pointer (some ⟨g, 0, none⟩) :: s1 :: s2 :: s3 :: s4 :: .pointer (some ⟨T, 0, none⟩) :: .bool more :: .int .i64 (n : Int) :: s8 :: s9 :: s10 :: s11 :: s12 :: t13 :: t14 :: s15 :: s16 :: s17 :: s18 :: s19 :: s20 :: s21 :: s22 :: s23 :: s24 :: s25 :: s26 :: s27 :: s28 :: s29 :: s30 :: s31 :: s32 :: s33 :: s34 :: s35 :: s36 :: s37 :: s38 :: s39 :: s40 :: s41 :: s42 :: s43 :: s44 :: s45 :: s46 :: s47 :: s48 :: s49 :: s50 :: s51 :: s52 :: s53 :: s54 :: s55 :: s56 :: s57 :: s58 :: s59 :: s60 :: s61 :: s62 :: s63 :: s64 :: s65 :: s66 :: s67 :: s68 :: s69 :: s70 :: s71 :: s72 :: s73 :: s74 :: s75 :: s76 :: s77 :: s78 :: s79 :: s80 :: s81 :: s82 :: s83 :: s84 :: s85 :: s86 :: s87 :: s88 :: s89 :: s90 :: s91 :: s92 :: s93 :: s94 :: s95 :: s96 :: s97 :: s98 :: s99 :: s100 :: s101 :: s102 :: s103 :: s104 :: s105 :: s106 :: s107 :: s108 :: s109 :: s110 :: s111 :: s112 :: s113 :: t114 :: t115 :: t116 :: t117 :: t118 :: t119 :: t120 :: t121 :: t122 :: t123 :: t124 :: t125 :: t126 :: t127 :: t128 :: t129 :: t130 :: t131 :: t132 :: t133 :: t134 :: t135 :: t136 :: t137 :: t138 :: t139 :: t140 :: t141 :: t142 :: t143 :: t144 :: t145 :: t146 :: t147 :: t148 :: t149 :: t150 :: t151 :: t152 :: t153 :: t154 :: t155 :: t156 :: t157 :: t158 :: s159 :: s160 :: s161 :: s162 :: s163 :: s164 :: s165 :: s166 :: s167 :: s168 :: s169 :: s170 :: s171 :: s172 :: s173 :: s174 :: s175 :: s176 :: s177 :: s178 :: s179 :: s180 :: s181 :: s182 :: s183 :: s184 :: s185 :: s186 :: s187 :: s188 :: s189 :: s190 :: s191 :: s192 :: [])), []⟩ w') :
    Code.wp Try.prog (readLoop 2) Q ⟨(List.toArray (.pointer (some ⟨g, 0, none⟩) :: s1 :: s2 :: s3 :: s4 :: .pointer (some ⟨T, 0, none⟩) :: .bool more :: .int .i64 (n : Int) :: s8 :: s9 :: s10 :: s11 :: s12 :: .int .i64 0 :: s14 :: s15 :: s16 :: s17 :: s18 :: s19 :: s20 :: s21 :: s22 :: s23 :: s24 :: s25 :: s26 :: s27 :: s28 :: s29 :: s30 :: s31 :: s32 :: s33 :: s34 :: s35 :: s36 :: s37 :: s38 :: s39 :: s40 :: s41 :: s42 :: s43 :: s44 :: s45 :: s46 :: s47 :: s48 :: s49 :: s50 :: s51 :: s52 :: s53 :: s54 :: s55 :: s56 :: s57 :: s58 :: s59 :: s60 :: s61 :: s62 :: s63 :: s64 :: s65 :: s66 :: s67 :: s68 :: s69 :: s70 :: s71 :: s72 :: s73 :: s74 :: s75 :: s76 :: s77 :: s78 :: s79 :: s80 :: s81 :: s82 :: s83 :: s84 :: s85 :: s86 :: s87 :: s88 :: s89 :: s90 :: s91 :: s92 :: s93 :: s94 :: s95 :: s96 :: s97 :: s98 :: s99 :: s100 :: s101 :: s102 :: s103 :: s104 :: s105 :: s106 :: s107 :: s108 :: s109 :: s110 :: s111 :: s112 :: s113 :: s114 :: s115 :: s116 :: s117 :: s118 :: s119 :: s120 :: s121 :: s122 :: s123 :: s124 :: s125 :: s126 :: s127 :: s128 :: s129 :: s130 :: s131 :: s132 :: s133 :: s134 :: s135 :: s136 :: s137 :: s138 :: s139 :: s140 :: s141 :: s142 :: s143 :: s144 :: s145 :: s146 :: s147 :: s148 :: s149 :: s150 :: s151 :: s152 :: s153 :: s154 :: s155 :: s156 :: s157 :: s158 :: s159 :: s160 :: s161 :: s162 :: s163 :: s164 :: s165 :: s166 :: s167 :: s168 :: s169 :: s170 :: s171 :: s172 :: s173 :: s174 :: s175 :: s176 :: s177 :: s178 :: s179 :: s180 :: s181 :: s182 :: s183 :: s184 :: s185 :: s186 :: s187 :: s188 :: s189 :: s190 :: s191 :: s192 :: [])), []⟩ w1 := by
  conv => arg 2; whnf
  have hcb := HS.out.bad
  go_loopw [13] (fun iv wr => iv = .int .i64 0 ∧ wr = w1) (fun _ _ => 0)
  case atStart => exact ⟨rfl, rfl⟩
  case round =>
    obtain ⟨rfl, rfl⟩ := hrel
    by_cases hn : n = 0
    · subst hn
      rw [show ((0 : Nat) : Int) = 0 from rfl]
      go_wp2
      rfl
    · have hn0 : (0 : Int) < (n : Int) := by omega
      cases more with
      | false =>
        go_wp2
        rfl
      | true =>
        have hb : bad = true := by rcases hno with h | h | h; exact absurd h hn; cases h; exact h
        subst hb
        go_wp2
        rfl

set_option maxRecDepth 10000000 in
set_option maxHeartbeats 8000000 in
theorem readLoop3 (g T gi n ci B : Nat) (w1 : World) (l0 : List Int) (is : List InD) (va vo vz : Value) (Q : Exit → Act → World → Prop) (s1 s2 s3 s4 s8 s9 s10 s11 s12 s14 s15 s16 s17 s18 s19 s20 s21 s22 s23 s24 s25 s26 s27 s28 s29 s30 s31 s32 s33 s34 s35 s36 s37 s38 s39 s40 s41 s42 s43 s44 s45 s46 s47 s48 s49 s50 s51 s52 s53 s54 s55 s56 s57 s58 s59 s60 s61 s62 s63 s64 s65 s66 s67 s68 s69 s70 s71 s72 s73 s74 s75 s76 s77 s78 s79 s80 s81 s82 s83 s84 s85 s86 s87 s88 s89 s90 s91 s92 s93 s94 s95 s96 s97 s98 s99 s100 s101 s102 s103 s104 s105 s106 s107 s108 s109 s110 s111 s112 s113 s114 s115 s116 s117 s118 s119 s120 s121 s122 s123 s124 s125 s126 s127 s128 s129 s130 s131 s132 s133 s134 s135 s136 s137 s138 s139 s140 s141 s142 s143 s144 s145 s146 s147 s148 s149 s150 s151 s152 s153 s154 s155 s156 s157 s158 s159 s160 s161 s162 s163 s164 s165 s166 s167 s168 s169 s170 s171 s172 s173 s174 s175 s176 s177 s178 s179 s180 s181 s182 s183 s184 s185 s186 s187 s188 s189 s190 s191 s192 : Value)
    (HS : Kp (Sg w1 g l0 false)) (HT : Kp (Box w1 T 26 #[va, .slice (some ⟨gi, 0, none⟩) n ci, vo, vz])) (HI : Kp (OwnMany 36 47 (InN w1 B) w1 B (.slice (some ⟨gi, 0, none⟩) n ci) is)) (HL : Kp (is.length = n))
    (HG : Kp (g < T ∧ T < B ∧ B ≤ gi ∧ B ≤ w1.heap.size)) (HN : Kp (0 < n ∧ n ≤ 50))
    (hexit : ∀ (t13 t14 t114 t115 t116 t117 t118 t119 t120 t121 t122 t123 t124 t125 t126 t127 t128 t129 t130 t131 t132 t133 t134 t135 t136 t137 t138 t139 t140 t141 t142 t143 t144 t145 t146 t147 t148 t149 t150 t151 t152 t153 t154 t155 t156 t157 t158 : Value) (w' : World), Kp (Sg w' g (qMany qWit n l0 false).2.1 (qMany qWit n l0 false).2.2 ∧ OwnMany 36 47 (InO w' B) w' B (.slice (some ⟨gi, 0, none⟩) n ci) (setWits is (qMany qWit n l0 false).1) ∧ But2 g gi w1 w') → Q (.exit 4) ⟨(List.toArray (.pointer (some ⟨g, 0, none⟩) :: s1 :: s2 :: s3 :: s4 :: .pointer (some ⟨T, 0, none⟩) :: .bool true :: .int .i64 (n : Int) :: s8 :: s9 :: s10 :: s11 :: s12 :: t13 :: t14 :: s15 :: s16 :: s17 :: s18 :: s19 :: s20 :: s21 :: s22 :: s23 :: s24 :: s25 :: s26 :: s27 :: s28 :: s29 :: s30 :: s31 :: s32 :: s33 :: s34 :: s35 :: s36 :: s37 :: s38 :: s39 :: s40 :: s41 :: s42 :: s43 :: s44 :: s45 :: s46 :: s47 :: s48 :: s49 :: s50 :: s51 :: s52 :: s53 :: s54 :: s55 :: s56 :: s57 :: s58 :: s59 :: s60 :: s61 :: s62 :: s63 :: s64 :: s65 :: s66 :: s67 :: s68 :: s69 :: s70 :: s71 :: s72 :: s73 :: s74 :: s75 :: s76 :: s77 :: s78 :: s79 :: s80 :: s81 :: s82 :: s83 :: s84 :: s85 :: s86 :: s87 :: s88 :: s89 :: s90 :: s91 :: s92 :: s93 :: s94 :: s95 :: s96 :: s97 :: s98 :: s99 :: s100 :: s101 :: s102 :: s103 :: s104 :: s105 :: s106 :: s107 :: s108 :: s109 :: s110 :: s111 :: s112 :: s113 :: t114 :: t115 :: t116 :: t117 :: t118 :: t119 :: t120 :: t121 :: t122 :: t123 :: t124 :: t125 :: t126 :: t127 :: t128 :: t129 :: t130 :: t131 :: t132 :: t133 :: t134 :: t135 :: t136 :: t137 :: t138 :: t139 :: t140 :: t141 :: t142 :: t143 :: t144 :: t145 :: t146 :: t147 :: t148 :: t149 :: t150 :: t151 :: t152 :: t153 :: t154 :: t155 :: t156 :: t157 :: t158 :: s159 :: s160 :: s161 :: s162 :: s163 :: s164 :: s165 :: s166 :: s167 :: s168 :: s169 :: s170 :: s171 :: s172 :: s173 :: s174 :: s175 :: s176 :: s177 :: s178 :: s179 :: s180 :: s181 :: s182 :: s183 :: s184 :: s185 :: s186 :: s187 :: s188 :: s189 :: s190 :: s191 :: s192 :: [])), []⟩ w') :
    Code.wp Try.prog (readLoop 2) Q ⟨(List.toArray (.pointer (some ⟨g, 0, none⟩) :: s1 :: s2 :: s3 :: s4 :: .pointer (some ⟨T, 0, none⟩) :: .bool true :: .int .i64 (n : Int) :: s8 :: s9 :: s10 :: s11 :: s12 :: .int .i64 0 :: s14 :: s15 :: s16 :: s17 :: s18 :: s19 :: s20 :: s21 :: s22 :: s23 :: s24 :: s25 :: s26 :: s27 :: s28 :: s29 :: s30 :: s31 :: s32 :: s33 :: s34 :: s35 :: s36 :: s37 :: s38 :: s39 :: s40 :: s41 :: s42 :: s43 :: s44 :: s45 :: s46 :: s47 :: s48 :: s49 :: s50 :: s51 :: s52 :: s53 :: s54 :: s55 :: s56 :: s57 :: s58 :: s59 :: s60 :: s61 :: s62 :: s63 :: s64 :: s65 :: s66 :: s67 :: s68 :: s69 :: s70 :: s71 :: s72 :: s73 :: s74 :: s75 :: s76 :: s77 :: s78 :: s79 :: s80 :: s81 :: s82 :: s83 :: s84 :: s85 :: s86 :: s87 :: s88 :: s89 :: s90 :: s91 :: s92 :: s93 :: s94 :: s95 :: s96 :: s97 :: s98 :: s99 :: s100 :: s101 :: s102 :: s103 :: s104 :: s105 :: s106 :: s107 :: s108 :: s109 :: s110 :: s111 :: s112 :: s113 :: s114 :: s115 :: s116 :: s117 :: s118 :: s119 :: s120 :: s121 :: s122 :: s123 :: s124 :: s125 :: s126 :: s127 :: s128 :: s129 :: s130 :: s131 :: s132 :: s133 :: s134 :: s135 :: s136 :: s137 :: s138 :: s139 :: s140 :: s141 :: s142 :: s143 :: s144 :: s145 :: s146 :: s147 :: s148 :: s149 :: s150 :: s151 :: s152 :: s153 :: s154 :: s155 :: s156 :: s157 :: s158 :: s159 :: s160 :: s161 :: s162 :: s163 :: s164 :: s165 :: s166 :: s167 :: s168 :: s169 :: s170 :: s171 :: s172 :: s173 :: s174 :: s175 :: s176 :: s177 :: s178 :: s179 :: s180 :: s181 :: s182 :: s183 :: s184 :: s185 :: s186 :: s187 :: s188 :: s189 :: s190 :: s191 :: s192 :: [])), []⟩ w1 := by
  conv => arg 2; whnf
  go_loopw [13] (fun iv wr => ∃ (j : Nat) (xs : List (List (List Int))) (l : List Int) (bad : Bool), j ≤ n ∧ iv = .int .i64 (j : Int) ∧ Kp (xs.length = j ∧ qMany qWit n l0 false = (xs ++ (qMany qWit (n - j) l bad).1, (qMany qWit (n - j) l bad).2) ∧ Sg wr g l bad ∧ OwnMany 36 47 (InO wr B) wr B (.slice (some ⟨gi, 0, none⟩) n ci) (setWits is xs) ∧ (∀ q, j ≤ q → q < n → wr.cell? ⟨gi, q * 36 + 35, none⟩ = some (.slice none 0 0)) ∧ But2 g gi w1 wr)) (fun iv _ => n - (intOf iv).toNat)
  case atStart =>
    refine ⟨0, [], l0, false, Nat.zero_le _, rfl, ⟨rfl, by simp, HS.out, ?_, ?_, But2.refl _ _ _⟩⟩
    · rw [setWits_nil]
      obtain ⟨css, ho, hl, hr⟩ := HI.out
      exact ⟨css, ho, hl, fun i cs d h1 h2 => ⟨(hr i cs d h1 h2).1, (hr i cs d h1 h2).2.1⟩⟩
    · intro q _ hq
      have hI := HI.out
      rw [← HL.out] at hI hq
      obtain ⟨cs, _, hN, hc, _⟩ := hI.cell (j := 35) hq (by decide)
      rw [hc]
      exact hN.2.2
  case round =>
    obtain ⟨j, xs, l, bad, hj, rfl, H⟩ := hrel
    obtain ⟨hol, hq, hS, hO, hZ, hB⟩ := H.out
    have hcb := hS.bad
    by_cases hlt : j < n
    · cases bad with
      | true =>
        have hjm : (j : Int) < (n : Int) := by omega
        have HEND : Kp (Sg wr g (qMany qWit n l0 false).2.1 (qMany qWit n l0 false).2.2 ∧ OwnMany 36 47 (InO wr B) wr B (.slice (some ⟨gi, 0, none⟩) n ci) (setWits is (qMany qWit n l0 false).1) ∧ But2 g gi w1 wr) := ⟨by rw [hq, qMany_bad]; simpa using ⟨hS, hO, hB⟩⟩
        clear hol hq hS hO hZ hB hj hlt H
        go_wp2
        exact HEND
      | false =>
        have hjm : (j : Int) < (n : Int) := by omega
        have HQ := Kp.mk (qMany_step hlt hq)
        have HJ := Kp.mk (And.intro hlt hol)
        have HO := Kp.mk hO
        have HZ := Kp.mk hZ
        have HB := Kp.mk hB
        have H1 := Kp.mk (gcount_any g wr l false 10 hS (by omega))
        have HM := Kp.mk (count_most l false 10 (by omega))
        have HPT : Kp (qMany pText (count l false 10).1 (count l false 10).2.1 (count l false 10).2.2 = qWit l false) := ⟨rfl⟩
        generalize count l false 10 = r1 at *
        clear hol hq hS hO hZ hB hj hlt H
        go_wp2_with fail
        refine H1.out.mono ?_
        rintro e w2 ⟨ho2, rfl, hS2⟩
        have hgt := HG.out
        have hlen : (setWits is xs).length = n := by rw [setWits_len]; exact HL.out
        have hO2 : OwnMany 36 47 (InO w2 B) w2 B (.slice (some ⟨gi, 0, none⟩) n ci) (setWits is xs) := HO.out.kept ho2 (fun q e => by have := Option.some.inj e; omega) (fun cs d h => h.kept ho2 (fun q e => by have := Option.some.inj e; omega))
        obtain ⟨gi', ci', ev, _, hBg, hgl, Ci, hbx⟩ := hO2.box (by rw [hlen]; have := HN.out; omega)
        obtain ⟨rfl, rfl⟩ : gi = gi' ∧ ci = ci' := by
          injection ev with e1 e2 e3
          injection e1 with e1
          injection e1 with e1
          exact ⟨e1, e3⟩
        clear ev
        have hb2 : But2 g gi w1 w2 := HB.out.only ho2
        have hzz : ∀ q, j ≤ q → q < n → Ci[q * 36 + 35]? = some (.slice none 0 0) := fun q h1 h2 => by
          have hbr : Box wr gi 47 Ci := (ho2.block gi ?_ (fun e => by have := Option.some.inj e; omega)).symm.trans hbx
          · rw [← hbr.cell]; exact HZ.out q h1 h2
          · have := HO.out.box (by rw [hlen]; have := HN.out; omega)
            obtain ⟨gj, cj, ev, _, _, hl, _⟩ := this
            injection ev with e1
            injection e1 with e1
            injection e1 with e1
            omega
        have hT2 : Box w2 T 26 #[va, .slice (some ⟨gi, 0, none⟩) n ci, vo, vz] := (hb2.block T (by omega) (by omega) (by omega)).trans HT.out
        have HZ2 := Kp.mk hzz
        have HB2 := Kp.mk hb2
        have HO2 := Kp.mk hO2
        have HX2 := Kp.mk hbx
        have HS2 := Kp.mk hS2
        have HT2 := Kp.mk hT2
        have HLEN := Kp.mk hlen
        have HGL : Kp (B ≤ gi ∧ gi < w2.heap.size ∧ B ≤ w2.heap.size) := ⟨hgt.2.2.1, hgl, by have := hb2.size; omega⟩
        clear hgt hlen hO2 hBg hgl hbx hb2 hzz hT2 hS2 ho2 H1 HO HB HZ
        go_wp2_with fail
        refine readLoop4 g T gi j n ci r1.1 w2 r1.2.1 r1.2.2 Ci va vo vz _ _ _ _ _ _ _ _ _ _ _ _ _ _ _ _ _ _ _ _ _ _ _ _ _ _ _ _ _ _ _ _ _ _ _ _ _ _ _ _ _ _ _ _ _ _ _ _ _ _ _ _ _ _ _ _ _ _ _ _ _ _ _ _ _ _ _ _ _ _ _ _ _ _ _ _ _ _ _ _ _ _ _ _ _ _ _ _ _ _ _ _ _ _ _ _ _ _ _ _ _ _ _ _ _ _ _ _ _ _ _ _ _ _ _ _ _ _ _ _ _ _ _ _ _ _ _ _ _ _ _ _ _ _ _ _ _ _ _ _ _ _ _ _ _ _ _ _ _ _ _ _ _ _ _ _ _ _ _ _ _ _ _ _ _ _ _ _ _ _ _ _ _ _ _ _ _ _ _ _ _ _ _ _ _ _ _ _ _ _ HS2 HT2 HX2 ⟨HZ2.out j (Nat.le_refl _) HJ.out.1⟩ ⟨by have := HG.out; have := HGL.out; omega⟩ ⟨HJ.out.1, HN.out.2⟩ ⟨by have := HM.out; omega⟩ ?_
        intro t14 t131 t132 t133 t134 t135 t136 t137 t138 t139 t140 t141 t142 t143 t144 t145 t146 t147 t148 t149 t150 t151 t152 t153 t154 t155 t156 t157 t158 w' hx
        obtain ⟨wv, ⟨hS', hR', hX', hB'⟩⟩ := hx
        rw [HPT.out] at hS' hR'
        generalize qWit l false = tx at *
        have hkp : Keeps [5, 27] w2 w' := hB'.keeps HS2.out HX2.out (by decide) (by decide)
        have hR2 : OwnRows w' B wv tx.1 := rows_turn hR' (Keeps.refl [5, 27] _) (by decide) (by decide) HGL.out.2.2
        have hO' := HO2.out.witSet (by rw [HLEN.out]; exact HJ.out.1) hkp HX2.out hX' hR2
        have HEND : Kp ((xs ++ [tx.1]).length = j + 1 ∧ qMany qWit n l0 false = ((xs ++ [tx.1]) ++ (qMany qWit (n - (j + 1)) tx.2.1 tx.2.2).1, (qMany qWit (n - (j + 1)) tx.2.1 tx.2.2).2) ∧ Sg w' g tx.2.1 tx.2.2 ∧ OwnMany 36 47 (InO w' B) w' B (.slice (some ⟨gi, 0, none⟩) n ci) (setWits is (xs ++ [tx.1])) ∧ (∀ q, j + 1 ≤ q → q < n → w'.cell? ⟨gi, q * 36 + 35, none⟩ = some (.slice none 0 0)) ∧ But2 g gi w1 w') := by
          refine ⟨by simp [HJ.out.2], HQ.out, hS', ?_, fun q h1 h2 => ?_, HB2.out.trans hB'⟩
          · rw [setWits_snoc is xs tx.1 (by rw [HJ.out.2, HL.out]; exact HJ.out.1), HJ.out.2]
            exact hO'
          · rw [hX'.cell, Array.getElem?_setIfInBounds, if_neg (by omega)]
            exact HZ2.out q (by omega) h2
        have hwj : IntKind.i64.wrap ((j : Int) + 1) = (j : Int) + 1 := by have := HJ.out.1; have := HN.out; rw [IntKind.wrap_i64]; omega
        clear hS' hR' hX' hB' hkp hR2 hO'
        go_wp2
        go_roundw
        case rel => exact ⟨j + 1, _, _, _, by have := HJ.out.1; omega, by go_num, HEND⟩
        case measure => simp [intOf]; have := HJ.out.1; omega
    · obtain rfl : j = n := by omega
      have HEND : Kp (Sg wr g (qMany qWit j l0 false).2.1 (qMany qWit j l0 false).2.2 ∧ OwnMany 36 47 (InO wr B) wr B (.slice (some ⟨gi, 0, none⟩) j ci) (setWits is (qMany qWit j l0 false).1) ∧ But2 g gi w1 wr) := ⟨by rw [hq, Nat.sub_self]; simpa [qMany] using ⟨hS, hO, hB⟩⟩
      clear hol hq hS hO hZ hB hj hlt H
      go_wp2
      exact HEND


theorem OwnMany.off {w : World} {B : Nat} {iv : Value} {is : List InD} (h : OwnMany 36 47 (InN w B) w B iv is) : OwnMany 36 47 (InO w B) w B iv is := by
  obtain ⟨css, ho, hl, hr⟩ := h
  exact ⟨css, ho, hl, fun i cs d h1 h2 => ⟨(hr i cs d h1 h2).1, (hr i cs d h1 h2).2.1⟩⟩
set_option maxRecDepth 10000000 in
set_option maxHeartbeats 8000000 in
theorem readLoop3_any (g T n B : Nat) (more b0 : Bool) (w1 : World) (l0 : List Int) (is : List InD) (va iv vo vz : Value) (Q : Exit → Act → World → Prop) (s1 s2 s3 s4 s8 s9 s10 s11 s12 s14 s15 s16 s17 s18 s19 s20 s21 s22 s23 s24 s25 s26 s27 s28 s29 s30 s31 s32 s33 s34 s35 s36 s37 s38 s39 s40 s41 s42 s43 s44 s45 s46 s47 s48 s49 s50 s51 s52 s53 s54 s55 s56 s57 s58 s59 s60 s61 s62 s63 s64 s65 s66 s67 s68 s69 s70 s71 s72 s73 s74 s75 s76 s77 s78 s79 s80 s81 s82 s83 s84 s85 s86 s87 s88 s89 s90 s91 s92 s93 s94 s95 s96 s97 s98 s99 s100 s101 s102 s103 s104 s105 s106 s107 s108 s109 s110 s111 s112 s113 s114 s115 s116 s117 s118 s119 s120 s121 s122 s123 s124 s125 s126 s127 s128 s129 s130 s131 s132 s133 s134 s135 s136 s137 s138 s139 s140 s141 s142 s143 s144 s145 s146 s147 s148 s149 s150 s151 s152 s153 s154 s155 s156 s157 s158 s159 s160 s161 s162 s163 s164 s165 s166 s167 s168 s169 s170 s171 s172 s173 s174 s175 s176 s177 s178 s179 s180 s181 s182 s183 s184 s185 s186 s187 s188 s189 s190 s191 s192 : Value)
    (HS : Kp (Sg w1 g l0 b0)) (HT : Kp (Box w1 T 26 #[va, iv, vo, vz])) (HI : Kp (OwnMany 36 47 (InN w1 B) w1 B iv is)) (HL : Kp (b0 = false → is.length = n))
    (HG : Kp (g < T ∧ T < B ∧ B ≤ w1.heap.size)) (HN : Kp (n ≤ 50))
    (hexit : ∀ (t13 t14 t114 t115 t116 t117 t118 t119 t120 t121 t122 t123 t124 t125 t126 t127 t128 t129 t130 t131 t132 t133 t134 t135 t136 t137 t138 t139 t140 t141 t142 t143 t144 t145 t146 t147 t148 t149 t150 t151 t152 t153 t154 t155 t156 t157 t158 : Value) (w' : World), Kp (Sg w' g (qWits more n (l0, b0)).2.1 (qWits more n (l0, b0)).2.2 ∧ OwnMany 36 47 (InO w' B) w' B iv (setWits is (qWits more n (l0, b0)).1) ∧ Keeps [5, 27, 51, 26] w1 w' ∧ ∀ w0 : World, w0.heap.size ≤ B → Only g w0 w1 → Only g w0 w') → Q (.exit 4) ⟨(List.toArray (.pointer (some ⟨g, 0, none⟩) :: s1 :: s2 :: s3 :: s4 :: .pointer (some ⟨T, 0, none⟩) :: .bool more :: .int .i64 (n : Int) :: s8 :: s9 :: s10 :: s11 :: s12 :: t13 :: t14 :: s15 :: s16 :: s17 :: s18 :: s19 :: s20 :: s21 :: s22 :: s23 :: s24 :: s25 :: s26 :: s27 :: s28 :: s29 :: s30 :: s31 :: s32 :: s33 :: s34 :: s35 :: s36 :: s37 :: s38 :: s39 :: s40 :: s41 :: s42 :: s43 :: s44 :: s45 :: s46 :: s47 :: s48 :: s49 :: s50 :: s51 :: s52 :: s53 :: s54 :: s55 :: s56 :: s57 :: s58 :: s59 :: s60 :: s61 :: s62 :: s63 :: s64 :: s65 :: s66 :: s67 :: s68 :: s69 :: s70 :: s71 :: s72 :: s73 :: s74 :: s75 :: s76 :: s77 :: s78 :: s79 :: s80 :: s81 :: s82 :: s83 :: s84 :: s85 :: s86 :: s87 :: s88 :: s89 :: s90 :: s91 :: s92 :: s93 :: s94 :: s95 :: s96 :: s97 :: s98 :: s99 :: s100 :: s101 :: s102 :: s103 :: s104 :: s105 :: s106 :: s107 :: s108 :: s109 :: s110 :: s111 :: s112 :: s113 :: t114 :: t115 :: t116 :: t117 :: t118 :: t119 :: t120 :: t121 :: t122 :: t123 :: t124 :: t125 :: t126 :: t127 :: t128 :: t129 :: t130 :: t131 :: t132 :: t133 :: t134 :: t135 :: t136 :: t137 :: t138 :: t139 :: t140 :: t141 :: t142 :: t143 :: t144 :: t145 :: t146 :: t147 :: t148 :: t149 :: t150 :: t151 :: t152 :: t153 :: t154 :: t155 :: t156 :: t157 :: t158 :: s159 :: s160 :: s161 :: s162 :: s163 :: s164 :: s165 :: s166 :: s167 :: s168 :: s169 :: s170 :: s171 :: s172 :: s173 :: s174 :: s175 :: s176 :: s177 :: s178 :: s179 :: s180 :: s181 :: s182 :: s183 :: s184 :: s185 :: s186 :: s187 :: s188 :: s189 :: s190 :: s191 :: s192 :: [])), []⟩ w') :
    Code.wp Try.prog (readLoop 2) Q ⟨(List.toArray (.pointer (some ⟨g, 0, none⟩) :: s1 :: s2 :: s3 :: s4 :: .pointer (some ⟨T, 0, none⟩) :: .bool more :: .int .i64 (n : Int) :: s8 :: s9 :: s10 :: s11 :: s12 :: .int .i64 0 :: s14 :: s15 :: s16 :: s17 :: s18 :: s19 :: s20 :: s21 :: s22 :: s23 :: s24 :: s25 :: s26 :: s27 :: s28 :: s29 :: s30 :: s31 :: s32 :: s33 :: s34 :: s35 :: s36 :: s37 :: s38 :: s39 :: s40 :: s41 :: s42 :: s43 :: s44 :: s45 :: s46 :: s47 :: s48 :: s49 :: s50 :: s51 :: s52 :: s53 :: s54 :: s55 :: s56 :: s57 :: s58 :: s59 :: s60 :: s61 :: s62 :: s63 :: s64 :: s65 :: s66 :: s67 :: s68 :: s69 :: s70 :: s71 :: s72 :: s73 :: s74 :: s75 :: s76 :: s77 :: s78 :: s79 :: s80 :: s81 :: s82 :: s83 :: s84 :: s85 :: s86 :: s87 :: s88 :: s89 :: s90 :: s91 :: s92 :: s93 :: s94 :: s95 :: s96 :: s97 :: s98 :: s99 :: s100 :: s101 :: s102 :: s103 :: s104 :: s105 :: s106 :: s107 :: s108 :: s109 :: s110 :: s111 :: s112 :: s113 :: s114 :: s115 :: s116 :: s117 :: s118 :: s119 :: s120 :: s121 :: s122 :: s123 :: s124 :: s125 :: s126 :: s127 :: s128 :: s129 :: s130 :: s131 :: s132 :: s133 :: s134 :: s135 :: s136 :: s137 :: s138 :: s139 :: s140 :: s141 :: s142 :: s143 :: s144 :: s145 :: s146 :: s147 :: s148 :: s149 :: s150 :: s151 :: s152 :: s153 :: s154 :: s155 :: s156 :: s157 :: s158 :: s159 :: s160 :: s161 :: s162 :: s163 :: s164 :: s165 :: s166 :: s167 :: s168 :: s169 :: s170 :: s171 :: s172 :: s173 :: s174 :: s175 :: s176 :: s177 :: s178 :: s179 :: s180 :: s181 :: s182 :: s183 :: s184 :: s185 :: s186 :: s187 :: s188 :: s189 :: s190 :: s191 :: s192 :: [])), []⟩ w1 := by
  by_cases hno : n = 0 ∨ more = false ∨ b0 = true
  · refine readLoop3_no g T n more w1 l0 b0 Q _ _ _ _ _ _ _ _ _ _ _ _ _ _ _ _ _ _ _ _ _ _ _ _ _ _ _ _ _ _ _ _ _ _ _ _ _ _ _ _ _ _ _ _ _ _ _ _ _ _ _ _ _ _ _ _ _ _ _ _ _ _ _ _ _ _ _ _ _ _ _ _ _ _ _ _ _ _ _ _ _ _ _ _ _ _ _ _ _ _ _ _ _ _ _ _ _ _ _ _ _ _ _ _ _ _ _ _ _ _ _ _ _ _ _ _ _ _ _ _ _ _ _ _ _ _ _ _ _ _ _ _ _ _ _ _ _ _ _ _ _ _ _ _ _ _ _ _ _ _ _ _ _ _ _ _ _ _ _ _ _ _ _ _ _ _ _ _ _ _ _ _ _ _ _ _ _ _ _ _ _ _ _ _ _ _ _ _ HS hno ?_
    intro t13 t14 t114 t115 t116 t117 t118 t119 t120 t121 t122 t123 t124 t125 t126 t127 t128 t129 t130 t131 t132 t133 t134 t135 t136 t137 t138 t139 t140 t141 t142 t143 t144 t145 t146 t147 t148 t149 t150 t151 t152 t153 t154 t155 t156 t157 t158 w' hw
    subst hw
    refine hexit _ _ _ _ _ _ _ _ _ _ _ _ _ _ _ _ _ _ _ _ _ _ _ _ _ _ _ _ _ _ _ _ _ _ _ _ _ _ _ _ _ _ _ _ _ _ _ _ ⟨?_⟩
    have e : qWits more n (l0, b0) = ([], l0, b0) := by
      unfold qWits
      rcases hno with rfl | rfl | rfl
      · cases more <;> rfl
      · rfl
      · cases more
        · rfl
        · exact qMany_bad _ _ _
    rw [e, setWits_nil]
    exact ⟨HS.out, HI.out.off, Keeps.refl _ _, fun _ _ h => h⟩
  · obtain ⟨hn, hm, hb⟩ : n ≠ 0 ∧ more = true ∧ b0 = false := ⟨fun h => hno (.inl h), by cases more with | true => rfl | false => exact absurd (.inr (.inl rfl)) hno, by cases b0 with | false => rfl | true => exact absurd (.inr (.inr rfl)) hno⟩
    subst hm
    subst hb
    have hl := HL.out rfl
    obtain ⟨gi, ci, rfl, hci, hBg, hgl, Ci, hbx⟩ := HI.out.box (by omega)
    rw [hl] at HT HI hexit
    refine readLoop3 g T gi n ci B w1 l0 is va vo vz Q _ _ _ _ _ _ _ _ _ _ _ _ _ _ _ _ _ _ _ _ _ _ _ _ _ _ _ _ _ _ _ _ _ _ _ _ _ _ _ _ _ _ _ _ _ _ _ _ _ _ _ _ _ _ _ _ _ _ _ _ _ _ _ _ _ _ _ _ _ _ _ _ _ _ _ _ _ _ _ _ _ _ _ _ _ _ _ _ _ _ _ _ _ _ _ _ _ _ _ _ _ _ _ _ _ _ _ _ _ _ _ _ _ _ _ _ _ _ _ _ _ _ _ _ _ _ _ _ _ _ _ _ _ _ _ _ _ _ _ _ _ _ _ _ _ _ _ _ _ _ _ _ _ _ _ _ _ _ _ _ _ _ _ _ _ _ _ _ _ _ _ _ _ _ _ _ _ _ _ _ _ _ _ _ _ _ _ _ HS HT HI ⟨hl⟩ ⟨by have := HG.out; exact ⟨this.1, this.2.1, hBg, this.2.2⟩⟩ ⟨by have := HN.out; omega⟩ ?_
    intro t13 t14 t114 t115 t116 t117 t118 t119 t120 t121 t122 t123 t124 t125 t126 t127 t128 t129 t130 t131 t132 t133 t134 t135 t136 t137 t138 t139 t140 t141 t142 t143 t144 t145 t146 t147 t148 t149 t150 t151 t152 t153 t154 t155 t156 t157 t158 w' hx
    obtain ⟨⟨h1, h2, h3⟩⟩ := hx
    refine hexit _ _ _ _ _ _ _ _ _ _ _ _ _ _ _ _ _ _ _ _ _ _ _ _ _ _ _ _ _ _ _ _ _ _ _ _ _ _ _ _ _ _ _ _ _ _ _ _ ⟨h1, h2, h3.keeps HS.out hbx (by decide) (by decide), fun w0 h0 ho => ?_⟩
    exact ⟨h3.os.trans ho.os, h3.tape.trans ho.tape, h3.output.trans ho.output, Nat.le_trans ho.size h3.size, fun j hj hne => (h3.block j (Nat.lt_of_lt_of_le hj ho.size) (by simpa using hne) (by omega)).trans (ho.block j hj hne)⟩
end Go.Proofs.Ytojeonepplfhlaa
