/- SHA-256: the rounds of the document's own Sum. -/
import Derived.Test.YtdemamipllfonaaShM
import Derived.Test.YtdemamipllfonaaGh
import Derived.Deep.DeepCutAuto
namespace Go.Proofs.Ytdemamipllfonaa
open Go.RowKit


/-- The loops of a piece of code, in the order of the text. -/
def loopsIn : Code → List Code
  | .loop c => .loop c :: loopsIn c
  | .seq a b => loopsIn a ++ loopsIn b
  | .block _ c => loopsIn c
  | .scope c => loopsIn c
  | .cond _ a b => loopsIn a ++ loopsIn b
  | _ => []
noncomputable def sumLoop (k : Nat) : Code := ((Try.f42.body.map loopsIn).getD []).getD k .skip
theorem only_row (g : Nat) (w : World) (cs : Array Value) : Only g w (w.setRow g cs) := ⟨rfl, rfl, rfl, by simp, fun k _ hne => setRow_other w g k cs (by simpa using hne)⟩

set_option maxRecDepth 10000000 in
set_option maxHeartbeats 8000000 in
theorem loop6 (G6 G9 G15 : Nat) (w0 : World) (st : S8) (ws : List Nat) (K0 : Array Value) (Q : Exit → Act → World → Prop) (s0 s1 s2 s3 s4 s5 s7 s8 s10 s11 s12 s13 s14 s17 s18 s19 s20 s21 s22 s23 s24 s25 s26 s27 s28 s29 s30 s31 s32 s33 s34 s35 s36 s37 s38 s39 s40 s41 s42 s43 s44 s45 s46 s47 s48 s49 s50 s51 s52 s53 s54 s55 s56 s57 s58 s59 s60 s61 s62 s63 s64 s65 s66 s67 s68 s69 s70 s71 s72 s73 s74 s75 s76 s77 s78 s79 s80 s81 s82 s83 s84 s85 s86 s87 s88 s89 s90 s91 s92 s93 s94 s95 s96 s97 s98 s99 s100 s101 s102 s103 s104 s105 s106 s107 s108 s109 s110 s111 s112 s113 s114 s115 s116 s117 s118 s119 s120 s121 s122 s123 s124 s125 s126 s127 s128 s129 s130 s131 s132 s133 s134 s135 s136 s137 s138 s139 s140 s141 s142 s143 s144 s145 s146 s147 s148 s149 s150 s151 s152 s153 s154 s155 s156 s157 s158 s159 s160 s161 s162 s163 s164 s165 s166 s167 s168 s169 s170 s171 s172 s173 s174 s175 s176 s177 s178 s179 s180 s181 s182 s183 s184 s185 s186 s187 s188 s189 s190 s191 s192 s193 s194 s195 s196 s197 s198 s199 s200 s201 s202 s203 s204 s205 s206 s207 s208 s209 s210 s211 s212 s213 s214 s215 s216 s217 s218 s219 s220 s221 s222 s223 s224 s225 s226 s227 s228 s229 s230 s231 s232 s233 s234 s235 s236 s237 s238 s239 s240 s241 s242 s243 s244 s245 s246 s247 s248 s249 s250 s251 s252 s253 s254 : Value)
    (HST : Kp (S8.ok st)) (HWL : Kp (ws.length = 64)) (HKC : Kp (∀ i, i < 64 → K0[i]? = some (.int .u32 ((kNums.getD i 0 : Nat) : Int)))) (HNE : Kp (G9 ≠ G15 ∧ G6 ≠ G15))
    (HX15 : Kp (Box w0 G15 97 (u32s st.l))) (HX9 : Kp (Box w0 G9 95 (u32s ws))) (HX6 : Kp (Box w0 G6 95 K0))
    (hexit : ∀ (t17 t18 t19 t20 t144 t145 t146 t147 t148 t149 t150 t151 t152 t153 t154 t155 t156 t157 t158 t159 t160 t161 t162 t163 t164 t165 t166 t167 t168 t169 t170 t171 t172 t173 t174 t175 t176 t177 t178 t179 t180 t181 t182 t183 t184 t185 t186 t187 t188 t189 t190 t191 t192 t193 t194 t195 t196 t197 t198 t199 t200 t201 t202 t203 t204 t205 t206 t207 t208 t209 t210 t211 t212 t213 t214 t215 t216 t217 t218 t219 t220 t221 t222 t223 : Value) (w' : World), Kp (Box w' G15 97 (u32s (rnds st ws 64).l) ∧ Only G15 w0 w') → Q (.exit 10) ⟨(List.toArray (s0 :: s1 :: s2 :: s3 :: s4 :: s5 :: .pointer (some ⟨G6, 0, none⟩) :: s7 :: s8 :: .pointer (some ⟨G9, 0, none⟩) :: s10 :: s11 :: s12 :: s13 :: s14 :: .pointer (some ⟨G15, 0, none⟩) :: .int .i64 64 :: t17 :: t18 :: t19 :: t20 :: s21 :: s22 :: s23 :: s24 :: s25 :: s26 :: s27 :: s28 :: s29 :: s30 :: s31 :: s32 :: s33 :: s34 :: s35 :: s36 :: s37 :: s38 :: s39 :: s40 :: s41 :: s42 :: s43 :: s44 :: s45 :: s46 :: s47 :: s48 :: s49 :: s50 :: s51 :: s52 :: s53 :: s54 :: s55 :: s56 :: s57 :: s58 :: s59 :: s60 :: s61 :: s62 :: s63 :: s64 :: s65 :: s66 :: s67 :: s68 :: s69 :: s70 :: s71 :: s72 :: s73 :: s74 :: s75 :: s76 :: s77 :: s78 :: s79 :: s80 :: s81 :: s82 :: s83 :: s84 :: s85 :: s86 :: s87 :: s88 :: s89 :: s90 :: s91 :: s92 :: s93 :: s94 :: s95 :: s96 :: s97 :: s98 :: s99 :: s100 :: s101 :: s102 :: s103 :: s104 :: s105 :: s106 :: s107 :: s108 :: s109 :: s110 :: s111 :: s112 :: s113 :: s114 :: s115 :: s116 :: s117 :: s118 :: s119 :: s120 :: s121 :: s122 :: s123 :: s124 :: s125 :: s126 :: s127 :: s128 :: s129 :: s130 :: s131 :: s132 :: s133 :: s134 :: s135 :: s136 :: s137 :: s138 :: s139 :: s140 :: s141 :: .int .i64 64 :: .bool false :: t144 :: t145 :: t146 :: t147 :: t148 :: t149 :: t150 :: t151 :: t152 :: t153 :: t154 :: t155 :: t156 :: t157 :: t158 :: t159 :: t160 :: t161 :: t162 :: t163 :: t164 :: t165 :: t166 :: t167 :: t168 :: t169 :: t170 :: t171 :: t172 :: t173 :: t174 :: t175 :: t176 :: t177 :: t178 :: t179 :: t180 :: t181 :: t182 :: t183 :: t184 :: t185 :: t186 :: t187 :: t188 :: t189 :: t190 :: t191 :: t192 :: t193 :: t194 :: t195 :: t196 :: t197 :: t198 :: t199 :: t200 :: t201 :: t202 :: t203 :: t204 :: t205 :: t206 :: t207 :: t208 :: t209 :: t210 :: t211 :: t212 :: t213 :: t214 :: t215 :: t216 :: t217 :: t218 :: t219 :: t220 :: t221 :: t222 :: t223 :: s224 :: s225 :: s226 :: s227 :: s228 :: s229 :: s230 :: s231 :: s232 :: s233 :: s234 :: s235 :: s236 :: s237 :: s238 :: s239 :: s240 :: s241 :: s242 :: s243 :: s244 :: s245 :: s246 :: s247 :: s248 :: s249 :: s250 :: s251 :: s252 :: s253 :: s254 :: [])), []⟩ w') :
    Code.wp Try.prog (sumLoop 5) Q ⟨(List.toArray (s0 :: s1 :: s2 :: s3 :: s4 :: s5 :: .pointer (some ⟨G6, 0, none⟩) :: s7 :: s8 :: .pointer (some ⟨G9, 0, none⟩) :: s10 :: s11 :: s12 :: s13 :: s14 :: .pointer (some ⟨G15, 0, none⟩) :: .int .i64 0 :: s17 :: s18 :: s19 :: s20 :: s21 :: s22 :: s23 :: s24 :: s25 :: s26 :: s27 :: s28 :: s29 :: s30 :: s31 :: s32 :: s33 :: s34 :: s35 :: s36 :: s37 :: s38 :: s39 :: s40 :: s41 :: s42 :: s43 :: s44 :: s45 :: s46 :: s47 :: s48 :: s49 :: s50 :: s51 :: s52 :: s53 :: s54 :: s55 :: s56 :: s57 :: s58 :: s59 :: s60 :: s61 :: s62 :: s63 :: s64 :: s65 :: s66 :: s67 :: s68 :: s69 :: s70 :: s71 :: s72 :: s73 :: s74 :: s75 :: s76 :: s77 :: s78 :: s79 :: s80 :: s81 :: s82 :: s83 :: s84 :: s85 :: s86 :: s87 :: s88 :: s89 :: s90 :: s91 :: s92 :: s93 :: s94 :: s95 :: s96 :: s97 :: s98 :: s99 :: s100 :: s101 :: s102 :: s103 :: s104 :: s105 :: s106 :: s107 :: s108 :: s109 :: s110 :: s111 :: s112 :: s113 :: s114 :: s115 :: s116 :: s117 :: s118 :: s119 :: s120 :: s121 :: s122 :: s123 :: s124 :: s125 :: s126 :: s127 :: s128 :: s129 :: s130 :: s131 :: s132 :: s133 :: s134 :: s135 :: s136 :: s137 :: s138 :: s139 :: s140 :: s141 :: s142 :: s143 :: s144 :: s145 :: s146 :: s147 :: s148 :: s149 :: s150 :: s151 :: s152 :: s153 :: s154 :: s155 :: s156 :: s157 :: s158 :: s159 :: s160 :: s161 :: s162 :: s163 :: s164 :: s165 :: s166 :: s167 :: s168 :: s169 :: s170 :: s171 :: s172 :: s173 :: s174 :: s175 :: s176 :: s177 :: s178 :: s179 :: s180 :: s181 :: s182 :: s183 :: s184 :: s185 :: s186 :: s187 :: s188 :: s189 :: s190 :: s191 :: s192 :: s193 :: s194 :: s195 :: s196 :: s197 :: s198 :: s199 :: s200 :: s201 :: s202 :: s203 :: s204 :: s205 :: s206 :: s207 :: s208 :: s209 :: s210 :: s211 :: s212 :: s213 :: s214 :: s215 :: s216 :: s217 :: s218 :: s219 :: s220 :: s221 :: s222 :: s223 :: s224 :: s225 :: s226 :: s227 :: s228 :: s229 :: s230 :: s231 :: s232 :: s233 :: s234 :: s235 :: s236 :: s237 :: s238 :: s239 :: s240 :: s241 :: s242 :: s243 :: s244 :: s245 :: s246 :: s247 :: s248 :: s249 :: s250 :: s251 :: s252 :: s253 :: s254 :: [])), []⟩ w0 := by
  conv => arg 2; whnf
  go_loopw [16] (fun i wr => ∃ (m : Nat), m ≤ 64 ∧ i = .int .i64 (m : Int) ∧ Kp (Box wr G15 97 (u32s (rnds st ws m).l) ∧ Only G15 w0 wr)) (fun i _ => 64 - (intOf i).toNat)
  case atStart => exact ⟨0, by omega, rfl, ⟨HX15.out, Only.refl _ _⟩⟩
  case round =>
    obtain ⟨m, hm, rfl, H⟩ := hrel
    by_cases hlt : m < 64
    · skip
      have hlt2 : (m : Int) < 64 := by omega
      have ho := rnds_ok HST.out ws m
      have hnext : rnds st ws (m + 1) = (rnds st ws m).rnd (kNums.getD m 0) (ws.getD m 0) := rfl
      have hkk := HKC.out m hlt
      have hwwv := u32s_at ws m (by rw [HWL.out]; exact hlt)
      obtain ⟨R, hR⟩ : ∃ R, rnds st ws m = R := ⟨_, rfl⟩
      rw [hR] at ho hnext H
      obtain ⟨ra, rb, rc, rd, re, rf, rg, rh⟩ := R
      obtain ⟨k, hk⟩ : ∃ k, kNums.getD m 0 = k := ⟨_, rfl⟩
      obtain ⟨v, hv⟩ : ∃ v, ws.getD m 0 = v := ⟨_, rfl⟩
      rw [hk, hv] at hnext
      rw [hk] at hkk
      rw [hv] at hwwv
      have HNX6 := Kp.mk hnext
      have HH6 := H
      have HCC : Kp (∀ W, Below wr.heap.size wr W → W.cell? ⟨G15, 0, none⟩ = some (.int .u32 (ra : Int)) ∧ W.cell? ⟨G15, 1, none⟩ = some (.int .u32 (rb : Int)) ∧ W.cell? ⟨G15, 2, none⟩ = some (.int .u32 (rc : Int)) ∧ W.cell? ⟨G15, 3, none⟩ = some (.int .u32 (rd : Int)) ∧ W.cell? ⟨G15, 4, none⟩ = some (.int .u32 (re : Int)) ∧ W.cell? ⟨G15, 5, none⟩ = some (.int .u32 (rf : Int)) ∧ W.cell? ⟨G15, 6, none⟩ = some (.int .u32 (rg : Int)) ∧ W.cell? ⟨G15, 7, none⟩ = some (.int .u32 (rh : Int)) ∧ W.cell? ⟨G6, m, none⟩ = some (.int .u32 (k : Int)) ∧ W.cell? ⟨G9, m, none⟩ = some (.int .u32 (v : Int)) ∧ Box W G15 97 (u32s (S8.l ⟨ra, rb, rc, rd, re, rf, rg, rh⟩))) := ⟨fun W hW => by
        have hb := HH6.out.1.below hW
        have h9 := (HX9.out.keep HH6.out.2 HNE.out.1).below hW
        have h6 := (HX6.out.keep HH6.out.2 HNE.out.2).below hW
        exact ⟨(hb.cell 0).trans (s8_at _ 0 (by omega)), (hb.cell 1).trans (s8_at _ 1 (by omega)), (hb.cell 2).trans (s8_at _ 2 (by omega)), (hb.cell 3).trans (s8_at _ 3 (by omega)), (hb.cell 4).trans (s8_at _ 4 (by omega)), (hb.cell 5).trans (s8_at _ 5 (by omega)), (hb.cell 6).trans (s8_at _ 6 (by omega)), (hb.cell 7).trans (s8_at _ 7 (by omega)), (h6.cell m).trans hkk, (h9.cell m).trans hwwv, hb⟩⟩
      have T1 : Kp (∀ W : World, Calls Try.prog 61 #[.int .u32 (re : Int), .int .u64 6] W (fun e w' => e = .returned (.int .u32 (rotr re 6 : Int)) ∧ w' = W)) := ⟨fun W => refturned_any W re 6 ho.e (by omega)⟩
      have T2 : Kp (∀ W : World, Calls Try.prog 61 #[.int .u32 (re : Int), .int .u64 11] W (fun e w' => e = .returned (.int .u32 (rotr re 11 : Int)) ∧ w' = W)) := ⟨fun W => refturned_any W re 11 ho.e (by omega)⟩
      have T3 : Kp (∀ W : World, Calls Try.prog 61 #[.int .u32 (re : Int), .int .u64 25] W (fun e w' => e = .returned (.int .u32 (rotr re 25 : Int)) ∧ w' = W)) := ⟨fun W => refturned_any W re 25 ho.e (by omega)⟩
      have T4 : Kp (∀ W : World, Calls Try.prog 61 #[.int .u32 (ra : Int), .int .u64 2] W (fun e w' => e = .returned (.int .u32 (rotr ra 2 : Int)) ∧ w' = W)) := ⟨fun W => refturned_any W ra 2 ho.a (by omega)⟩
      have T5 : Kp (∀ W : World, Calls Try.prog 61 #[.int .u32 (ra : Int), .int .u64 13] W (fun e w' => e = .returned (.int .u32 (rotr ra 13 : Int)) ∧ w' = W)) := ⟨fun W => refturned_any W ra 13 ho.a (by omega)⟩
      have T6 : Kp (∀ W : World, Calls Try.prog 61 #[.int .u32 (ra : Int), .int .u64 22] W (fun e w' => e = .returned (.int .u32 (rotr ra 22 : Int)) ∧ w' = W)) := ⟨fun W => refturned_any W ra 22 ho.a (by omega)⟩
      have X1 := bits_xor (rotr re 6) (rotr re 11) (rotr_lt ho.e) (rotr_lt ho.e)
      have X2 := bits_xor (rotr re 6 ^^^ rotr re 11) (rotr re 25) (xor32 (rotr_lt ho.e) (rotr_lt ho.e)) (rotr_lt ho.e)
      have X3 := bits_xor (rotr ra 2) (rotr ra 13) (rotr_lt ho.a) (rotr_lt ho.a)
      have X4 := bits_xor (rotr ra 2 ^^^ rotr ra 13) (rotr ra 22) (xor32 (rotr_lt ho.a) (rotr_lt ho.a)) (rotr_lt ho.a)
      have e1 := bits_and re rf ho.e ho.f
      have e2 := bits_not re ho.e
      have e3 := bits_and (not32 re) rg (not32_lt ho.e) ho.g
      have e4 := bits_xor (re &&& rf) (not32 re &&& rg) (and32 ho.f) (and32 ho.g)
      have m1 := bits_and ra rb ho.a ho.b
      have m2 := bits_and ra rc ho.a ho.c
      have m3 := bits_xor (ra &&& rb) (ra &&& rc) (and32 ho.b) (and32 ho.c)
      have m4 := bits_and rb rc ho.b ho.c
      have m5 := bits_xor ((ra &&& rb) ^^^ (ra &&& rc)) (rb &&& rc) (xor32 (and32 ho.b) (and32 ho.c)) (and32 ho.c)
      have HT : Kp (S8.t ⟨ra, rb, rc, rd, re, rf, rg, rh⟩ k v = add32 (add32 (add32 (add32 rh (turn3 re 6 11 25)) (ch re rf rg)) k) v) := ⟨rfl⟩
      have HU : Kp (S8.u ⟨ra, rb, rc, rd, re, rf, rg, rh⟩ = add32 (turn3 ra 2 13 22) (maj ra rb rc)) := ⟨rfl⟩
      rw [show (re &&& rf) ^^^ (not32 re &&& rg) = ch re rf rg from rfl] at e4
      rw [show (ra &&& rb) ^^^ (ra &&& rc) ^^^ (rb &&& rc) = maj ra rb rc from rfl] at m5
      rw [show rotr re 6 ^^^ rotr re 11 ^^^ rotr re 25 = turn3 re 6 11 25 from rfl] at X2
      rw [show rotr ra 2 ^^^ rotr ra 13 ^^^ rotr ra 22 = turn3 ra 2 13 22 from rfl] at X4
      generalize turn3 re 6 11 25 = t1 at *
      generalize turn3 ra 2 13 22 = t2 at *
      generalize rotr re 6 ^^^ rotr re 11 = z1 at *
      generalize rotr ra 2 ^^^ rotr ra 13 = z2 at *
      generalize rotr re 6 = z3 at *
      generalize rotr re 11 = z4 at *
      generalize rotr re 25 = z5 at *
      generalize rotr ra 2 = z6 at *
      generalize rotr ra 13 = z7 at *
      generalize rotr ra 22 = z8 at *
      generalize ch re rf rg = cc at *
      generalize maj ra rb rc = mm at *
      generalize (ra &&& rb) ^^^ (ra &&& rc) = n3 at *
      generalize re &&& rf = n1 at *
      generalize not32 re &&& rg = n2 at *
      generalize not32 re = n4 at *
      generalize ra &&& rb = n5 at *
      generalize ra &&& rc = n6 at *
      generalize rb &&& rc = n7 at *
      have a1 := add32_wrap rh t1
      generalize add32 rh t1 = y1 at *
      have f2 := add32_mod y1 cc
      have f3 : ((y1 : Int) + (cc : Int) + (k : Int)) % 4294967296 = (add32 (add32 y1 cc) k : Int) := by unfold add32; omega
      have f4 : ((y1 : Int) + (cc : Int) + (k : Int) + (v : Int)) % 4294967296 = (add32 (add32 (add32 y1 cc) k) v : Int) := by unfold add32; omega
      have a2 := add32_wrap y1 cc
      generalize add32 y1 cc = y2 at *
      have a3 := add32_wrap y2 k
      generalize add32 y2 k = y3 at *
      have a4 := add32_wrap y3 v
      generalize add32 y3 v = y4 at *
      have a5 := add32_wrap t2 mm
      have f5 := add32_mod t2 mm
      generalize add32 t2 mm = y5 at *
      have a6 := add32_wrap rd y4
      have a7 := add32_wrap y4 y5
      have a4' := a4
      rw [IntKind.wrap_u32] at a4'
      have G7 : Kp ((add32 y4 y5 : Int) = ((y3 : Int) + (v : Int) + (y5 : Int)) % 4294967296) := ⟨by unfold add32; omega⟩
      have G6q : Kp ((add32 rd y4 : Int) = ((rd : Int) + ((y3 : Int) + (v : Int))) % 4294967296) := ⟨by unfold add32; omega⟩
      clear a4'
      have f6 := add32_mod rd y4
      have f7 := add32_mod y4 y5
      have HRN : Kp (S8.rnd ⟨ra, rb, rc, rd, re, rf, rg, rh⟩ k v = ⟨add32 y4 y5, ra, rb, rc, add32 rd y4, re, rf, rg⟩) := ⟨by
        unfold S8.rnd
        rw [HT.out, HU.out]⟩
      generalize add32 y4 y5 = y7 at *
      generalize add32 rd y4 = y6 at *
      obtain ⟨c0, c1, c2, c3, c4, c5, c6, c7, ck, cv, _⟩ := HCC.out wr (Below.refl _ _)
      clear ho hR hnext hk hv H hkk hwwv
      go_wp2_with fail
      go_quiet (fail)
      obtain ⟨wq, hwq⟩ : ∃ W : World, wr.drewN nq = W := ⟨_, rfl⟩
      rw [hwq]
      have hbq : Below wr.heap.size wr wq := hwq ▸ ⟨rfl, rfl, rfl, Nat.le_refl _, fun _ _ => rfl⟩
      clear c0 c1 c2 c3 c4 c5 c6 c7 ck cv hwq
      obtain ⟨c0, c1, c2, c3, c4, c5, c6, c7, ck, cv, _⟩ := HCC.out wq hbq
      have HBQ := Kp.mk hbq
      clear hbq
      go_wp2_with fail
      go_quiet ((first | (go_at_call 61; with_reducible exact Calls.quiet_of_same (T1.out _)) | (go_at_call 61; with_reducible exact Calls.quiet_of_same (T2.out _)) | (go_at_call 61; with_reducible exact Calls.quiet_of_same (T3.out _))))
      try rw [a4]
      obtain ⟨wq2, hwq⟩ : ∃ W : World, wq.drewN nq = W := ⟨_, rfl⟩
      rw [hwq]
      have hbq : Below wr.heap.size wr wq2 := HBQ.out.trans (hwq ▸ ⟨rfl, rfl, rfl, Nat.le_refl _, fun _ _ => rfl⟩)
      clear c0 c1 c2 c3 c4 c5 c6 c7 ck cv hwq
      obtain ⟨c0, c1, c2, c3, c4, c5, c6, c7, ck, cv, _⟩ := HCC.out wq2 hbq
      have HBQ2 := Kp.mk hbq
      clear hbq
      go_wp2_with fail
      go_quiet ((first | (go_at_call 61; with_reducible exact Calls.quiet_of_same (T4.out _)) | (go_at_call 61; with_reducible exact Calls.quiet_of_same (T5.out _)) | (go_at_call 61; with_reducible exact Calls.quiet_of_same (T6.out _))))
      try rw [a5]
      obtain ⟨wq3, hwq⟩ : ∃ W : World, wq2.drewN nq = W := ⟨_, rfl⟩
      rw [hwq]
      have hbq : Below wr.heap.size wr wq3 := HBQ2.out.trans (hwq ▸ ⟨rfl, rfl, rfl, Nat.le_refl _, fun _ _ => rfl⟩)
      clear c0 c1 c2 c3 c4 c5 c6 c7 ck cv hwq
      obtain ⟨c0, c1, c2, c3, c4, c5, c6, c7, ck, cv, hbx⟩ := HCC.out wq3 hbq
      have HBQ3 := Kp.mk hbq
      have HBX6 := Kp.mk hbx
      clear hbq hbx
      go_wp2_with (refine wpList_store_row rfl 97 (.tmp 15) (.tmp 223) rfl G15 _ rfl rfl 97 _ HBX6.out (by kernel_rfl) (by rw [u32s_size, s8_len]; rfl) (by simp [Value.oneCell']) ?_)
      go_roundw
      case rel =>
        refine ⟨m + 1, by omega, by go_num, ⟨?_, ?_⟩⟩
        · rw [HNX6.out, HRN.out, show u32s (S8.l ⟨y7, ra, rb, rc, y6, re, rf, rg⟩) = #[.int .u32 (y7 : Int), .int .u32 (ra : Int), .int .u32 (rb : Int), .int .u32 (rc : Int), .int .u32 (y6 : Int), .int .u32 (re : Int), .int .u32 (rf : Int), .int .u32 (rg : Int)] from rfl, G7.out, G6q.out]
          exact row_box HBX6.out _
        · exact (HH6.out.2.trans (Only.of_below HBQ3.out)).trans (only_row G15 wq3 _)
      case measure => simp [intOf]; omega
    · obtain rfl : m = 64 := by omega
      rw [show ((64 : Nat) : Int) = 64 from rfl]
      go_wp2_with fail
      exact H
end Go.Proofs.Ytdemamipllfonaa
