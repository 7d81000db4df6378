/- SHA-256: the document's own Sum, up to its message. -/
import Derived.Test.YtdemamipllfonaaShIa
import Derived.Test.YtdemamipllfonaaGh
import Derived.Deep.DeepCutAuto
namespace Go.Proofs.Ytdemamipllfonaa
open Go.RowKit

/-- The message when k zeros stand. -/
def msgZ (l : List Int) (k : Nat) : List Int := l ++ [128] ++ List.replicate k 0
theorem msgZ_len (l : List Int) (k : Nat) : (msgZ l k).length = l.length + 1 + k := by simp [msgZ]; omega
theorem msgZ_next (l : List Int) (k : Nat) : msgZ l k ++ [0] = msgZ l (k + 1) := by
  unfold msgZ
  rw [List.append_assoc, ← List.replicate_succ']
theorem zeros_more (n k : Nat) (h : k < zerosN n) : (n + 1 + k) % 64 ≠ 56 := by unfold zerosN at h; omega
theorem zeros_done (n : Nat) : (n + 1 + zerosN n) % 64 = 56 := by unfold zerosN; omega
/-- .. when j bytes of the length stand. -/
def msgB (l : List Int) (j : Nat) : List Int := msgZ l (zerosN l.length) ++ (beb (l.length * 8) 8).take j
theorem msgB_len (l : List Int) (j : Nat) (h : j ≤ 8) : (msgB l j).length = l.length + 1 + zerosN l.length + j := by
  unfold msgB
  rw [List.length_append, msgZ_len, List.length_take, beb_len, Nat.min_eq_left h]
theorem msgB_next (l : List Int) (j : Nat) (h : j < 8) : msgB l j ++ [((l.length * 8 / 256 ^ (7 - j) % 256 : Nat) : Int)] = msgB l (j + 1) := by
  unfold msgB
  have hb := beb_at (l.length * 8) 8 j h
  rw [List.getD_eq_getElem?_getD, List.getElem?_eq_getElem (by rw [beb_len]; exact h), Option.getD_some] at hb
  rw [List.take_succ_eq_append_getElem (by rw [beb_len]; exact h), hb, List.append_assoc]
theorem msgB_full (l : List Int) : msgB l 8 = padded l := by
  unfold msgB padded msgZ
  rw [List.take_of_length_le (by rw [beb_len]; omega)]

theorem or_low8 (x b i : Nat) (h : b < 2 ^ i) : x * 2 ^ i ||| b = x * 2 ^ i + b := by
  rw [Nat.mul_comm, ← Nat.two_pow_add_eq_or_of_lt h x]
theorem be4_bits (y0 y1 y2 y3 : Nat) (h0 : y0 ≤ 255) (h1 : y1 ≤ 255) (h2 : y2 ≤ 255) (h3 : y3 ≤ 255) :
    bits .or .u32 (bits .or .u32 (bits .or .u32 ((y0 : Int) % 4294967296 * 16777216 % 4294967296) ((y1 : Int) % 4294967296 * 65536 % 4294967296)) ((y2 : Int) % 4294967296 * 256 % 4294967296)) ((y3 : Int) % 4294967296)
      = ((y0 * 16777216 + y1 * 65536 + y2 * 256 + y3 : Nat) : Int) := by
  rw [show (y0 : Int) % 4294967296 * 16777216 % 4294967296 = ((y0 * 2 ^ 24 : Nat) : Int) by omega, show (y1 : Int) % 4294967296 * 65536 % 4294967296 = ((y1 * 65536 : Nat) : Int) by omega,
    show (y2 : Int) % 4294967296 * 256 % 4294967296 = ((y2 * 256 : Nat) : Int) by omega, show (y3 : Int) % 4294967296 = (y3 : Int) by omega,
    bits_or _ _ (by omega) (by omega), or_low8 y0 (y1 * 65536) 24 (by omega), show y0 * 2 ^ 24 + y1 * 65536 = (y0 * 256 + y1) * 2 ^ 16 by omega,
    bits_or _ _ (by omega) (by omega), or_low8 _ (y2 * 256) 16 (by omega), show (y0 * 256 + y1) * 2 ^ 16 + y2 * 256 = ((y0 * 256 + y1) * 256 + y2) * 2 ^ 8 by omega,
    bits_or _ _ (by omega) (by omega), or_low8 _ y3 8 (by omega)]
theorem own_grows {B e : Nat} {W0 w w' : World} {v : Value} {l : List Int} (h : Own w B e v l) (hB : B ≤ W0.heap.size) (hb : Below B W0 w) (hg : w.grownBy w' v.ownBlock) : Below B W0 w' := by
  refine ⟨hg.os.trans hb.os, hg.tape.trans hb.tape, hg.output.trans hb.output, Nat.le_trans hb.size hg.size, fun k hk => (hg.block k (by have := hb.size; omega) ?_).trans (hb.block k hk)⟩
  rcases h.form with ⟨rfl, _⟩ | ⟨g, cap, cur, rfl, hbg, _⟩
  · simp [Value.ownBlock]
  · simp [Value.ownBlock]; omega
/-- One byte more onto a slice of the call's own. -/
theorem sl_byte (w : World) (e : Nat) (x : Int) : Sl (w.alloc (.cells #[.int .u8 x] e)) (w.heap.size + 1) (.slice (some ⟨w.heap.size, 0, none⟩) 1 1) [x] := sl_one w e _ x (by omega)

set_option maxRecDepth 10000000 in
set_option maxHeartbeats 8000000 in
theorem refsum_any (w : World) (v : Value) (l : List Int) (hs : Sl w w.heap.size v l) (hy : Bys l) (hm : l.length ≤ 140737488355000) :
    Calls Try.prog 42 #[v] w (Ans (.agg (u8s (shaOf l))) w) := by
  obtain ⟨i0, hi, hz0, hz1, hz2⟩ := info_parts infoByte
  have HI := Kp.mk (And.intro hi (And.intro hz0 (And.intro hz1 hz2)))
  have HSL := Kp.mk hs
  have HY := Kp.mk hy
  have HM := Kp.mk hm
  obtain ⟨n, hn⟩ : ∃ n, l.length = n := ⟨_, rfl⟩
  have HN := Kp.mk hn
  obtain ⟨A, c, rfl, _, _, _⟩ := hs
  have HZ : Kp (∀ k, (msgZ l k).length = n + 1 + k) := ⟨fun k => by rw [msgZ_len, hn]⟩
  obtain ⟨zn, hzn⟩ : ∃ z, zerosN n = z := ⟨_, rfl⟩
  have HZM : Kp (zn < 64 ∧ (∀ k, k < zn → (n + 1 + k) % 64 ≠ 56) ∧ (n + 1 + zn) % 64 = 56) := ⟨by rw [← hzn]; exact ⟨by unfold zerosN; omega, fun k hk => zeros_more n k hk, zeros_done n⟩⟩
  have HMB : Kp (msgB l 0 = msgZ l zn ∧ (∀ j, j ≤ 8 → (msgB l j).length = n + 1 + zn + j) ∧ (∀ j, j < 8 → msgB l j ++ [((n * 8 / 256 ^ (7 - j) % 256 : Nat) : Int)] = msgB l (j + 1)) ∧ msgB l 8 = padded l) := ⟨by
    subst hn
    subst hzn
    exact ⟨by simp [msgB], fun j hj => msgB_len l j hj, fun j hj => msgB_next l j hj, msgB_full l⟩⟩
  rw [hn]
  have hn2 : (n : Int) ≤ 140737488355000 := by omega
  have HN2 := Kp.mk hn2
  have hR0 : Box (w.alloc (.cells (u8s (List.replicate 32 0)) 39)) w.heap.size 39 (u8s (List.replicate 32 0)) ∧ Below w.heap.size w (w.alloc (.cells (u8s (List.replicate 32 0)) 39)) := ⟨Box.fresh _ _ _, (Below.refl _ _).alloc (Nat.le_refl _) _⟩
  have HR0 := Kp.mk hR0
  have hS0 : Sl (w.alloc (.cells (u8s (List.replicate 32 0)) 39)) (w.heap.size + 1) (.slice A n c) l := by
    have := (HSL.out.below hR0.2).free (w.heap.size + 1) (by simp)
    rwa [hn] at this
  have he : Own ((w.alloc (.cells (u8s (List.replicate 32 0)) 39)).alloc (.cells #[] 5)) (w.heap.size + 1) 5 (.slice (some ⟨w.heap.size + 1, 0, none⟩) 0 0) [] := by
    have := own_empty (w.alloc (.cells (u8s (List.replicate 32 0)) 39)) 5
    simpa using this
  have HE := Kp.mk he
  have HB0 : Kp (Below (w.heap.size + 1) (w.alloc (.cells (u8s (List.replicate 32 0)) 39)) ((w.alloc (.cells (u8s (List.replicate 32 0)) 39)).alloc (.cells #[] 5))) := ⟨(Below.refl _ _).alloc (by simp) _⟩
  have HS1 : Kp (Sl ((w.alloc (.cells (u8s (List.replicate 32 0)) 39)).alloc (.cells #[] 5)) (w.heap.size + 1) (.slice A n c) l) := ⟨hS0.below ((Below.refl _ _).alloc (Nat.le_refl _) _)⟩
  have HLN : Kp (l.length ≤ 140737488355000) := ⟨hm⟩
  have HM0 : Kp (l ++ [128] = msgZ l 0) := ⟨by simp [msgZ]⟩
  clear hi hz0 hz1 hz2 hy hm hn hn2 hzn he hS0 hR0
  go_enter Try.func42, Try.ntmps42
  go_wp2_with (first | (at_builtin; refine wpList_append_bytes rfl (.tmp 24) (.tmp 25) 55 rfl (w.heap.size + 1) 5 i0 Try.underlying55 HI.out.1 HI.out.2.1 HI.out.2.2.1 HI.out.2.2.2 _ [] rfl HE.out (w.heap.size + 1) _ l rfl HS1.out (by have := HLN.out; simp; omega) (by simp) ?_; intro v1 w1 ho1 hg1; rw [List.nil_append] at ho1; have HO1 := Kp.mk ho1; have HB1 := Kp.mk (own_grows HE.out (by simp) HB0.out hg1); obtain ⟨A1, c1, rfl⟩ := ho1.slice; clear ho1 hg1) | (at_builtin; refine wpList_append_bytes rfl (.tmp 26) (.tmp 27) 55 rfl (w.heap.size + 1) 5 i0 Try.underlying55 HI.out.1 HI.out.2.1 HI.out.2.2.1 HI.out.2.2.2 _ l rfl (HO1.out.below ((Below.refl _ _).alloc (Nat.le_refl _) _)) (w1.heap.size + 1) _ [128] rfl (sl_byte w1 _ 128) (by have := HLN.out; simp; omega) (by have := HB1.out.size; simp at this; simp; omega) ?_; intro v2 w2 ho2 hg2; rw [HM0.out] at ho2; have HO2 := Kp.mk ho2; have HB2 := Kp.mk (own_grows (HO1.out.below ((Below.refl _ _).alloc (Nat.le_refl _) _)) (by simp) (HB1.out.alloc (by have := HB1.out.size; simp at this; omega) _) hg2); clear ho2 hg2))
  have HR2 : Kp (Box w2 w.heap.size 39 (u8s (List.replicate 32 0)) ∧ Below w.heap.size w w2) := ⟨HR0.out.1.below (HB2.out.mono (by simp)), HR0.out.2.trans (HB2.out.mono (by omega))⟩
  go_loopw [3] (fun m wr => ∃ k, k ≤ zn ∧ Kp (Own wr (w.heap.size + 1) 5 m (msgZ l k) ∧ Below (w.heap.size + 1) (w.alloc (.cells (u8s (List.replicate 32 0)) 39)) wr)) (fun m _ => zn - match m with | .slice _ N _ => N - n - 1 | _ => 0)
  case atStart => exact ⟨0, by omega, ⟨HO2.out, HB2.out⟩⟩
  case round =>
    obtain ⟨k, hk, H⟩ := hrel
    obtain ⟨A3, c3, h3⟩ := H.out.1.slice
    rw [HZ.out k] at h3
    subst h3
    obtain ⟨N, hN⟩ : ∃ N, n + 1 + k = N := ⟨_, rfl⟩
    obtain ⟨r, hr⟩ : ∃ r, N % 64 = r := ⟨_, rfl⟩
    have hr2 : (N : Int) % 64 = (r : Int) := by omega
    have HNN := Kp.mk hN
    have HRR := Kp.mk hr
    rw [hN]
    clear hN hr
    by_cases hlt : k < zn
    · have hr56 : ((r : Int) != 56) = true := by have := HZM.out.2.1 k hlt; have := HNN.out; have := HRR.out; simp; omega
      have HH := Kp.mk H.out
      rw [HNN.out] at HH
      clear H
      go_wp2_with ((at_builtin; refine wpList_append_bytes rfl (.tmp 33) (.tmp 34) 55 rfl (w.heap.size + 1) 5 i0 Try.underlying55 HI.out.1 HI.out.2.1 HI.out.2.2.1 HI.out.2.2.2 _ (msgZ l k) rfl (HH.out.1.below ((Below.refl _ _).alloc (Nat.le_refl _) _)) (wr.heap.size + 1) _ [0] rfl (sl_byte wr _ 0) (by have := HLN.out; have := HZM.out.1; rw [HZ.out k]; have := HN2.out; simp; omega) (by have := HH.out.2.size; simp at this; simp; omega) ?_; intro v3 w3 ho3 hg3; rw [msgZ_next] at ho3; have HO3 := Kp.mk ho3; have HB3 := Kp.mk (own_grows (HH.out.1.below ((Below.refl _ _).alloc (Nat.le_refl _) _)) (by simp) (HH.out.2.alloc (by have := HH.out.2.size; simp at this; omega) _) hg3); obtain ⟨A4, c4, rfl⟩ := ho3.slice; clear ho3 hg3))
      go_roundw
      case rel => exact ⟨k + 1, by omega, ⟨HO3.out, HB3.out⟩⟩
      case measure => have := HZ.out (k + 1); have := HNN.out; simp; omega
    · have hr56 : ((r : Int) != 56) = false := by
        obtain rfl : k = zn := by omega
        have := HZM.out.2.2; have := HNN.out; have := HRR.out; simp; omega
      obtain rfl : k = zn := by omega
      have HH := Kp.mk H.out
      rw [← HMB.out.1, HNN.out] at HH
      obtain ⟨b8, hb8⟩ : ∃ b, n * 8 = b := ⟨_, rfl⟩
      have hw1 : IntKind.u64.wrap (n : Int) = (n : Int) := by have := HN2.out; rw [IntKind.wrap_u64]; omega
      have hw2 : (n : Int) * 8 = (b8 : Int) := by omega
      have hw3 : IntKind.u64.wrap (b8 : Int) = (b8 : Int) := by have := HN2.out; rw [IntKind.wrap_u64]; omega
      have HNX := HMB.out.2.2.1
      rw [hb8] at HNX
      have HNX := Kp.mk HNX
      have HML := Kp.mk HMB.out.2.1
      have HFU := Kp.mk HMB.out.2.2.2
      obtain ⟨M, hM⟩ : ∃ M, n + 1 + k = M := ⟨_, rfl⟩
      obtain rfl : N = M := by have := HNN.out; omega
      rw [hM] at HML
      have HMM := Kp.mk hM
      clear H hb8 hM hlt HMB HZ
      go_wp2_with fail
      clear hr2 hr56
      obtain ⟨wo, rfl⟩ : ∃ wo : World, wo = wr := ⟨_, rfl⟩
      go_loopw [3, 5] (fun m i wr => ∃ (j : Nat) (z : Int), j ≤ 8 ∧ i = .int .i64 z ∧ z + (j : Int) = 7 ∧ Kp (Own wr (w.heap.size + 1) 5 m (msgB l j) ∧ Below (w.heap.size + 1) (w.alloc (.cells (u8s (List.replicate 32 0)) 39)) wr)) (fun _ i _ => (intOf i + 1).toNat)
      case atStart => exact ⟨0, 7, by omega, rfl, by omega, ⟨HH.out.1, HH.out.2⟩⟩
      case round =>
        obtain ⟨j, z, hj, rfl, hz, H⟩ := hrel
        obtain ⟨A5, c5, h5⟩ := H.out.1.slice
        rw [HML.out j hj] at h5
        subst h5
        by_cases hlt : j < 8
        · obtain ⟨i, hi⟩ : ∃ i : Nat, z = (i : Int) := ⟨7 - j, by omega⟩
          subst hi
          obtain ⟨m8, hm8⟩ : ∃ m, 8 * i = m := ⟨_, rfl⟩
          have hx1 : 8 * (i : Int) = (m8 : Int) := by omega
          have hx2 : IntKind.u64.wrap (m8 : Int) = (m8 : Int) := by rw [IntKind.wrap_u64]; omega
          have hi8 : (i : Int) ≤ 7 := by omega
          have hx3 : m8 < 64 := by omega
          obtain ⟨y, hy⟩ : ∃ y, IntKind.u8.wrap ((b8 : Int) / 2 ^ m8) = y := ⟨_, rfl⟩
          have HY2 : Kp (msgB l j ++ [y] = msgB l (j + 1)) := ⟨by
            rw [← HNX.out j hlt, ← hy, IntKind.wrap_u8, show 7 - j = i by omega, pow256, hm8]
            simp⟩
          have HZZ := Kp.mk hz
          have HH2 := Kp.mk H.out
          clear H hz hm8
          go_wp2_with ((at_builtin; refine wpList_append_bytes rfl (.tmp 44) (.tmp 51) 55 rfl (w.heap.size + 1) 5 i0 Try.underlying55 HI.out.1 HI.out.2.1 HI.out.2.2.1 HI.out.2.2.2 _ (msgB l j) rfl (HH2.out.1.below ((Below.refl _ _).alloc (Nat.le_refl _) _)) (wr.heap.size + 1) _ [y] rfl (sl_byte wr _ y) (by have := HLN.out; have := HZM.out.1; have := HN2.out; have := HMM.out; rw [HML.out j hj]; simp; omega) (by have := HH2.out.2.size; simp at this; simp; omega) ?_; intro v3 w3 ho3 hg3; rw [HY2.out] at ho3; have HO3 := Kp.mk ho3; have HB3 := Kp.mk (own_grows (HH2.out.1.below ((Below.refl _ _).alloc (Nat.le_refl _) _)) (by simp) (HH2.out.2.alloc (by have := HH2.out.2.size; simp at this; omega) _) hg3); clear ho3 hg3))
          go_roundw
          case rel => exact ⟨j + 1, (i : Int) - 1, by omega, rfl, by have := HZZ.out; omega, ⟨HO3.out, HB3.out⟩⟩
          case measure => simp [intOf]
        · obtain rfl : j = 8 := by omega
          obtain rfl : z = -1 := by omega
          have HH8 := Kp.mk H.out
          rw [HFU.out] at HH8
          obtain ⟨T, hT⟩ : ∃ T, N + 8 = T := ⟨_, rfl⟩
          rw [hT] at HH8 ⊢
          have HTT : Kp ((padded l).length = T) := ⟨by rw [← HFU.out, HML.out 8 (by omega), hT]⟩
          have hT' := hT
          clear H hT
          have HT2 : Kp (T ≤ 140737488355100) := ⟨by have := HN2.out; have := HMM.out; have := HZM.out.1; omega⟩
          have HTP : Kp (0 < T ∧ T % 64 = 0) := ⟨by have := HZM.out.2.2; have := HMM.out; omega⟩
          have HMS : Kp (∃ gm, A5 = some ⟨gm, 0, none⟩ ∧ w.heap.size + 1 ≤ gm ∧ gm < wr.heap.size ∧ Run wr gm 0 (padded l)) := ⟨by
            rcases HH8.out.1.form with ⟨h1, h2⟩ | ⟨g, cap, cur, h1, h2, h3, _⟩
            · have := HTT.out; rw [h2] at this; simp at this; have := HTP.out.1; omega
            · injection h1 with h1 _ _
              refine ⟨g, h1, h2, h3.lt, ?_⟩
              have h4 := HH8.out.1.sl w.heap.size (.inl (by omega))
              rw [h1] at h4
              obtain ⟨A', c', e, _, _, hr⟩ := h4
              injection e with e1 e2 e3
              obtain ⟨b, off, e4, _, _, hrun⟩ := hr (by intro h; have := HTT.out; rw [h] at this; simp at this; have := HTP.out.1; omega)
              rw [← e1] at e4
              injection e4 with e4
              injection e4 with e4 e5
              subst e4; subst e5
              exact hrun⟩
          obtain ⟨gm, rfl, hgm1, hgm2, hrun⟩ := HMS.out
          have HCON := Kp.mk refnumbers_any
          have HIK : Kp ((Try.prog.info? 95).map (·.size) = some (u32s kNums).size) := ⟨by rw [u32s_size]; kernel_rfl⟩
          have HKS : Kp ((u32s (List.replicate 64 0)).size = (u32s kNums).size) := ⟨by rw [u32s_size, u32s_size]; rfl⟩
          have HK1 := Kp.mk (u32s_one kNums)
          have HKC : Kp (∀ i, i < 64 → (u32s kNums)[i]? = some (.int .u32 ((kNums.getD i 0 : Nat) : Int))) := ⟨fun i hi => u32s_at kNums i hi⟩
          obtain ⟨K0, hK0⟩ : ∃ K, u32s kNums = K := ⟨_, rfl⟩
          rw [hK0] at HIK HKS HK1 HCON HKC
          clear hK0 HMS
          go_wp2_with fail
          refine (HCON.out _).mono ?_
          rintro e w5 ⟨rfl, hb5⟩
          have HF : Kp (gm < w5.heap.size ∧ Run w5 gm 0 (padded l) ∧ Box w5 w.heap.size 39 (u8s (List.replicate 32 0)) ∧ Below w.heap.size w w5 ∧ w.heap.size < gm) := ⟨by
            have hb05 := HH8.out.2.trans (hb5.mono (by have := HH8.out.2.size; simp at this; omega))
            exact ⟨by have := hb5.size; omega, fun i hi => (World.cell?_of_block (hb5.block gm hgm2)).trans (hrun i hi), HR0.out.1.below (hb05.mono (by simp)), HR0.out.2.trans (hb05.mono (by omega)), by omega⟩⟩
          clear hT' hgm1 hgm2 hrun hb5 HH8 HSL HE HB0 HS1 HM0 HR2 HO1 HB1 HO2 HB2 HH HNX HML HFU HMM HNN HRR HCON
          go_wp2_with (first | (refine wpList_store_fresh rfl 95 (.tmp 6) (.tmp 53) rfl _ K0 w5.heap.size rfl rfl rfl HIK.out HKS.out HK1.out ?_))
          obtain ⟨Q, hQ⟩ : ∃ Q, T = 64 * Q := ⟨T / 64, by have := HTP.out.2; omega⟩
          have HQ := Kp.mk hQ
          obtain ⟨pl, hpl⟩ : ∃ x, padded l = x := ⟨_, rfl⟩
          have HPB : Kp (Bys pl) := ⟨hpl ▸ ((HY.out.app (fun x hx => by simp at hx; omega)).app (fun x hx => by rw [(List.mem_replicate.1 hx).2]; omega)).app (beb_bys _ _)⟩
          have HSH : Kp (shaOf l = joined (absorb init8 pl Q).l) := ⟨by unfold shaOf; rw [hpl, show pl.length = T by rw [← hpl]; exact HTT.out, hQ, Nat.mul_div_cancel_left _ (by omega)]⟩
          rw [hpl] at HF HTT
          clear hQ hpl
          have hBW : Below w5.heap.size w5 ((w5.alloc (.cells K0 95)).alloc (.cells (u32s init8.l) 97)) := ((Below.refl _ _).alloc (Nat.le_refl _) _).alloc (by simp) _
          have HAS : Kp (Box ((w5.alloc (.cells K0 95)).alloc (.cells (u32s init8.l) 97)) (w5.heap.size + 1) 97 (u32s (absorb init8 pl 0).l) ∧ Box ((w5.alloc (.cells K0 95)).alloc (.cells (u32s init8.l) 97)) w5.heap.size 95 K0 ∧ Below w5.heap.size w5 ((w5.alloc (.cells K0 95)).alloc (.cells (u32s init8.l) 97))) := ⟨⟨Box.new (by simp) rfl, (Box.new rfl rfl).below ((Below.refl _ _).alloc (Nat.le_refl _) _), hBW⟩⟩
          clear hBW
          go_loopw [8] (fun i wr => ∃ (q p : Nat), q ≤ Q ∧ 64 * q = p ∧ i = .int .i64 (p : Int) ∧ Kp (Box wr (w5.heap.size + 1) 97 (u32s (absorb init8 pl q).l) ∧ Box wr w5.heap.size 95 K0 ∧ Below w5.heap.size w5 wr)) (fun i _ => T - (intOf i).toNat)
          case atStart => exact ⟨0, 0, by omega, rfl, rfl, HAS⟩
          case round =>
            obtain ⟨q, p, hq, hp, rfl, H⟩ := hrel
            by_cases hlt : q < Q
            · have hpT : (p : Int) < (T : Int) := by have := HQ.out; omega
              obtain ⟨blk, hblk⟩ : ∃ b, (pl.drop p).take 64 = b := ⟨_, rfl⟩
              have HBB : Kp (Bys blk) := ⟨hblk ▸ (HPB.out.drop p).take 64⟩
              have HBL : Kp (blk.length = 64) := ⟨by rw [← hblk]; exact mid_len pl p (by have := HQ.out; have := HTT.out; omega)⟩
              have HMR : Kp (∀ W, Below w5.heap.size w5 W → Run W gm p blk) := ⟨fun W hW => by
                have h1 : Run W gm 0 pl := fun i hi => (World.cell?_of_block (hW.block gm HF.out.1)).trans (HF.out.2.1 i hi)
                have h2 := h1.mid p 64
                rwa [hblk, Nat.zero_add] at h2⟩
              obtain ⟨st, hst⟩ : ∃ s, absorb init8 pl q = s := ⟨_, rfl⟩
              have HST : Kp (S8.ok st) := ⟨hst ▸ absorb_ok init8_ok pl q⟩
              have HNX : Kp (absorb init8 pl (q + 1) = mixS st blk) := ⟨by rw [absorb, hst, hp, hblk]⟩
              have HH := Kp.mk H.out
              rw [hst] at HH
              have HPP := Kp.mk (And.intro hlt (And.intro hp (show p + 64 ≤ T by have := HQ.out; omega)))
              clear H hst hblk hp hq hlt HAS
              obtain ⟨wp, rfl⟩ : ∃ wo : World, wo = wr := ⟨_, rfl⟩
              have HA9 : Kp (∀ W, wp.heap.size + 1 ≤ W.heap.size → Below (wp.heap.size) wp W → Box W (w5.heap.size + 1) 97 (u32s st.l) ∧ Box W w5.heap.size 95 K0 ∧ Below w5.heap.size w5 W) := ⟨fun W _ hW => ⟨HH.out.1.below hW, HH.out.2.1.below hW, HH.out.2.2.trans (hW.mono HH.out.2.2.size)⟩⟩
              have HB9 : Kp (Below wp.heap.size wp (wp.alloc (.cells (u32s (List.replicate 64 0)) 95)) ∧ Box (wp.alloc (.cells (u32s (List.replicate 64 0)) 95)) wp.heap.size 95 (u32s (fst16 blk 0))) := ⟨(Below.refl _ _).alloc (Nat.le_refl _) _, Box.new rfl rfl⟩
              go_wp2_with fail
              go_loopw [10] (fun i wr => ∃ (k : Nat), k ≤ 16 ∧ i = .int .i64 (k : Int) ∧ Kp (Box wr wp.heap.size 95 (u32s (fst16 blk k)) ∧ Below wp.heap.size wp wr ∧ wp.heap.size + 1 ≤ wr.heap.size)) (fun i _ => 16 - (intOf i).toNat)
              case atStart => exact ⟨0, by omega, rfl, ⟨HB9.out.2, HB9.out.1, by simp⟩⟩
              case round =>
                obtain ⟨k, hk, rfl, H⟩ := hrel
                by_cases hlt : k < 16
                · have hk16 : (k : Int) < 16 := by omega
                  obtain ⟨k4, hk4⟩ : ∃ x, 4 * k = x := ⟨_, rfl⟩
                  obtain ⟨p0, hp0⟩ : ∃ x, p + k4 = x := ⟨_, rfl⟩
                  obtain ⟨p1, hp1⟩ : ∃ x, p0 + 1 = x := ⟨_, rfl⟩
                  obtain ⟨p2, hp2⟩ : ∃ x, p0 + 2 = x := ⟨_, rfl⟩
                  obtain ⟨p3, hp3⟩ : ∃ x, p0 + 3 = x := ⟨_, rfl⟩
                  have hi4 : 4 * (k : Int) = (k4 : Int) := by omega
                  have hi0 : (p : Int) + (k4 : Int) = (p0 : Int) := by omega
                  have hq1 : (p0 : Int) + 1 = (p1 : Int) := by omega
                  have hq2 : (p0 : Int) + 2 = (p2 : Int) := by omega
                  have hq3 : (p0 : Int) + 3 = (p3 : Int) := by omega
                  have hpb : (p : Int) ≤ 140737488355100 := by have := HPP.out; have := HT2.out; omega
                  have hpb0 : (p0 : Int) ≤ 140737488355100 := by have := HPP.out; have := HT2.out; omega
                  have hpb1 : (p1 : Int) ≤ 140737488355100 := by have := HPP.out; have := HT2.out; omega
                  have hpb2 : (p2 : Int) ≤ 140737488355100 := by have := HPP.out; have := HT2.out; omega
                  have hpb3 : (p3 : Int) ≤ 140737488355100 := by have := HPP.out; have := HT2.out; omega
                  have hb0 : (p0 : Int) < (T : Int) := by have := HPP.out; omega
                  have hb1 : (p1 : Int) < (T : Int) := by have := HPP.out; omega
                  have hb2 : (p2 : Int) < (T : Int) := by have := HPP.out; omega
                  have hb3 : (p3 : Int) < (T : Int) := by have := HPP.out; omega
                  have hk4b : (k4 : Int) ≤ 60 := by omega
                  have hrun : Run wr gm p blk := HMR.out wr (HA9.out wr H.out.2.2 H.out.2.1).2.2
                  have hc0 := hrun k4 (by rw [HBL.out]; omega)
                  have hc1 := hrun (k4 + 1) (by rw [HBL.out]; omega)
                  have hc2 := hrun (k4 + 2) (by rw [HBL.out]; omega)
                  have hc3 := hrun (k4 + 3) (by rw [HBL.out]; omega)
                  rw [hp0] at hc0
                  rw [show p + (k4 + 1) = p1 by omega] at hc1
                  rw [show p + (k4 + 2) = p2 by omega] at hc2
                  rw [show p + (k4 + 3) = p3 by omega] at hc3
                  have hy0 := HBB.out.at k4
                  have hy1 := HBB.out.at (k4 + 1)
                  have hy2 := HBB.out.at (k4 + 2)
                  have hy3 := HBB.out.at (k4 + 3)
                  have hbe : be4 blk (4 * k) = (blk.getD k4 0).toNat * 16777216 + (blk.getD (k4 + 1) 0).toNat * 65536 + (blk.getD (k4 + 2) 0).toNat * 256 + (blk.getD (k4 + 3) 0).toNat := by rw [hk4]; rfl
                  obtain ⟨y0, e0⟩ : ∃ y : Nat, blk.getD k4 0 = (y : Int) := ⟨(blk.getD k4 0).toNat, by omega⟩
                  obtain ⟨y1, e1⟩ : ∃ y : Nat, blk.getD (k4 + 1) 0 = (y : Int) := ⟨(blk.getD (k4 + 1) 0).toNat, by omega⟩
                  obtain ⟨y2, e2⟩ : ∃ y : Nat, blk.getD (k4 + 2) 0 = (y : Int) := ⟨(blk.getD (k4 + 2) 0).toNat, by omega⟩
                  obtain ⟨y3, e3⟩ : ∃ y : Nat, blk.getD (k4 + 3) 0 = (y : Int) := ⟨(blk.getD (k4 + 3) 0).toNat, by omega⟩
                  rw [e0] at hc0 hy0
                  rw [e1] at hc1 hy1
                  rw [e2] at hc2 hy2
                  rw [e3] at hc3 hy3
                  rw [e0, e1, e2, e3] at hbe
                  simp only [Int.toNat_natCast] at hbe
                  have HBE := Kp.mk hbe
                  have HY4 := Kp.mk (And.intro hy0.2 (And.intro hy1.2 (And.intro hy2.2 hy3.2)))
                  have hcw := H.out.1.cell k
                  rw [u32s_at _ k (by rw [fst16_len blk k (by omega)]; omega)] at hcw
                  have hfw := H.out.1.warm k
                  have HNXT := Kp.mk (fst16_next blk k hlt)
                  generalize (fst16 blk k).getD k 0 = ow at *
                  have HHH := H
                  clear H hk4 hp0 hp1 hp2 hp3 hrun hy0 hy1 hy2 hy3 e0 e1 e2 e3 hbe
                  go_wp2_with fail
                  go_region
                  go_wp2
                  go_roundw
                  case rel =>
                    refine ⟨k + 1, by omega, by go_num, ⟨?_, ?_, ?_⟩⟩
                    · rw [be4_bits y0 y1 y2 y3 (by have := HY4.out.1; omega) (by have := HY4.out.2.1; omega) (by have := HY4.out.2.2.1; omega) (by have := HY4.out.2.2.2; omega), ← HBE.out]
                      have h1 := HHH.out.1.set k (.int .u32 ((be4 blk (4 * k) : Nat) : Int))
                      rw [u32s_set, HNXT.out] at h1
                      exact h1.below (Below.refl _ _).drew
                    · exact (HHH.out.2.1.setCell (by simp) _).drew
                    · simpa using HHH.out.2.2
                  case measure => simp [intOf]; omega
                · obtain rfl : k = 16 := by omega
                  have HX := H
                  rw [fst_snd] at HX
                  clear H
                  obtain ⟨wo, rfl⟩ : ∃ wo : World, wo = wr := ⟨_, rfl⟩
                  rw [show ((16 : Nat) : Int) = 16 from rfl]
                  go_wp2_with fail
                  go_loopw [12] (fun i wr => ∃ (m j : Nat), m ≤ 48 ∧ j = 16 + m ∧ i = .int .i64 (j : Int) ∧ Kp (Box wr wp.heap.size 95 (u32s (snd64 blk m)) ∧ Below wp.heap.size wp wr ∧ wp.heap.size + 1 ≤ wr.heap.size)) (fun i _ => 64 - (intOf i).toNat)
                  case atStart => exact ⟨0, 16, by omega, rfl, rfl, HX⟩
                  case round =>
                    obtain ⟨m, j, hm, hj, rfl, H⟩ := hrel
                    by_cases hlt : m < 48
                    · have hlt2 : (j : Int) < 64 := by omega
                      have hlen := snd64_len blk m (by omega)
                      have hgl := grow_len m (w16 blk)
                      rw [w16_len] at hgl
                      have hg := grow_ok m (w16_ok HBB.out)
                      have hbx := H.out.1
                      have hat : ∀ i, i < 16 + m → (u32s (snd64 blk m))[i]? = some (.int .u32 (((grow m (w16 blk)).getD i 0 : Nat) : Int)) := fun i hi => by rw [u32s_at _ i (by omega), snd64_at blk m i hi]
                      have hnx : nextW (grow m (w16 blk)) = add32 (add32 (add32 ((grow m (w16 blk)).getD m 0) (shift3 ((grow m (w16 blk)).getD (m + 1) 0) 7 18 3)) ((grow m (w16 blk)).getD (m + 9) 0)) (shift3 ((grow m (w16 blk)).getD (m + 14) 0) 17 19 10) := by
                        unfold nextW
                        rw [hgl, show 16 + m - 16 = m by omega, show 16 + m - 15 = m + 1 by omega, show 16 + m - 7 = m + 9 by omega, show 16 + m - 2 = m + 14 by omega]
                      obtain ⟨x0, h0⟩ : ∃ x, (grow m (w16 blk)).getD m 0 = x := ⟨_, rfl⟩
                      obtain ⟨x1, h1⟩ : ∃ x, (grow m (w16 blk)).getD (m + 1) 0 = x := ⟨_, rfl⟩
                      obtain ⟨x2, h2⟩ : ∃ x, (grow m (w16 blk)).getD (m + 9) 0 = x := ⟨_, rfl⟩
                      obtain ⟨x3, h3⟩ : ∃ x, (grow m (w16 blk)).getD (m + 14) 0 = x := ⟨_, rfl⟩
                      have hat0 := hat m (by omega)
                      have hat1 := hat (m + 1) (by omega)
                      have hat2 := hat (m + 9) (by omega)
                      have hat3 := hat (m + 14) (by omega)
                      have hx1 := hg.at (m + 1)
                      have hx3 := hg.at (m + 14)
                      rw [h0] at hat0
                      rw [h1] at hat1 hx1
                      rw [h2] at hat2
                      rw [h3] at hat3 hx3
                      rw [h0, h1, h2, h3] at hnx
                      obtain ⟨vo, hold⟩ : ∃ v, (u32s (snd64 blk m))[16 + m]? = some v := ⟨_, u32s_at _ (16 + m) (by omega)⟩
                      rw [← hj] at hold
                      obtain ⟨m1, hm1⟩ : ∃ x, m + 1 = x := ⟨_, rfl⟩
                      obtain ⟨m2, hm2⟩ : ∃ x, m + 9 = x := ⟨_, rfl⟩
                      obtain ⟨m3, hm3⟩ : ∃ x, m + 14 = x := ⟨_, rfl⟩
                      have HBX := Kp.mk hbx
                      rw [hm1] at hat1
                      rw [hm2] at hat2
                      rw [hm3] at hat3
                      have HC : Kp (∀ W, Box W wp.heap.size 95 (u32s (snd64 blk m)) → W.cell? ⟨wp.heap.size, m, none⟩ = some (.int .u32 (x0 : Int)) ∧ W.cell? ⟨wp.heap.size, m1, none⟩ = some (.int .u32 (x1 : Int)) ∧ W.cell? ⟨wp.heap.size, m2, none⟩ = some (.int .u32 (x2 : Int)) ∧ W.cell? ⟨wp.heap.size, m3, none⟩ = some (.int .u32 (x3 : Int)) ∧ W.cell? ⟨wp.heap.size, j, none⟩ = some vo ∧ W.frozen? ⟨wp.heap.size, j, none⟩ = false) := ⟨fun W hW => ⟨(hW.cell _).trans hat0, (hW.cell _).trans hat1, (hW.cell _).trans hat2, (hW.cell _).trans hat3, (hW.cell _).trans hold, hW.warm _⟩⟩
                      have R1 : Kp (∀ W : World, Calls Try.prog 61 #[.int .u32 (x1 : Int), .int .u64 7] W (fun e w' => e = .returned (.int .u32 (rotr x1 7 : Int)) ∧ w' = W)) := ⟨fun W => refturned_any W x1 7 hx1 (by omega)⟩
                      have R2 : Kp (∀ W : World, Calls Try.prog 61 #[.int .u32 (x1 : Int), .int .u64 18] W (fun e w' => e = .returned (.int .u32 (rotr x1 18 : Int)) ∧ w' = W)) := ⟨fun W => refturned_any W x1 18 hx1 (by omega)⟩
                      have R3 : Kp (∀ W : World, Calls Try.prog 61 #[.int .u32 (x3 : Int), .int .u64 17] W (fun e w' => e = .returned (.int .u32 (rotr x3 17 : Int)) ∧ w' = W)) := ⟨fun W => refturned_any W x3 17 hx3 (by omega)⟩
                      have R4 : Kp (∀ W : World, Calls Try.prog 61 #[.int .u32 (x3 : Int), .int .u64 19] W (fun e w' => e = .returned (.int .u32 (rotr x3 19 : Int)) ∧ w' = W)) := ⟨fun W => refturned_any W x3 19 hx3 (by omega)⟩
                      have E1 := bits_xor (rotr x1 7) (rotr x1 18) (rotr_lt hx1) (rotr_lt hx1)
                      have E2 := bits_xor (rotr x1 7 ^^^ rotr x1 18) (x1 / 2 ^ 3) (xor32 (rotr_lt hx1) (rotr_lt hx1)) (div32 hx1)
                      have E3 := bits_xor (rotr x3 17) (rotr x3 19) (rotr_lt hx3) (rotr_lt hx3)
                      have E4 := bits_xor (rotr x3 17 ^^^ rotr x3 19) (x3 / 2 ^ 10) (xor32 (rotr_lt hx3) (rotr_lt hx3)) (div32 hx3)
                      rw [show rotr x1 7 ^^^ rotr x1 18 ^^^ x1 / 2 ^ 3 = shift3 x1 7 18 3 from rfl, show ((x1 / 2 ^ 3 : Nat) : Int) = (x1 : Int) / 8 by omega] at E2
                      rw [show rotr x3 17 ^^^ rotr x3 19 ^^^ x3 / 2 ^ 10 = shift3 x3 17 19 10 from rfl, show ((x3 / 2 ^ 10 : Nat) : Int) = (x3 : Int) / 1024 by omega] at E4
                      generalize shift3 x1 7 18 3 = s1 at *
                      generalize shift3 x3 17 19 10 = s2 at *
                      generalize rotr x1 7 ^^^ rotr x1 18 = n1 at *
                      generalize rotr x3 17 ^^^ rotr x3 19 = n2 at *
                      generalize rotr x1 7 = r1 at *
                      generalize rotr x1 18 = r2 at *
                      generalize rotr x3 17 = r3 at *
                      generalize rotr x3 19 = r4 at *
                      have HNXW := Kp.mk hnx
                      have HSN := Kp.mk (snd64_next blk m hlt)
                      obtain ⟨c0, c1, c2, c3, c4, c5⟩ := HC.out wr hbx
                      have hw1 : IntKind.i64.wrap ((j : Int) - 16) = (m : Int) := by rw [IntKind.wrap_i64]; omega
                      have hw2 : IntKind.i64.wrap ((j : Int) - 15) = (m1 : Int) := by rw [IntKind.wrap_i64]; omega
                      have hw3 : IntKind.i64.wrap ((j : Int) - 7) = (m2 : Int) := by rw [IntKind.wrap_i64]; omega
                      have hw4 : IntKind.i64.wrap ((j : Int) - 2) = (m3 : Int) := by rw [IntKind.wrap_i64]; omega
                      have hb0 : (m : Int) < 64 := by omega
                      have hb1 : (m1 : Int) < 64 := by omega
                      have hb2 : (m2 : Int) < 64 := by omega
                      have hb3 : (m3 : Int) < 64 := by omega
                      have HJ := Kp.mk hj
                      have HMX := Kp.mk hm2
                      clear hlen hgl hg hbx hat hnx h0 h1 h2 h3 hat0 hat1 hat2 hat3 hx1 hx3 hold hj hm1 hm2 hm3
                      go_wp2_with fail
                      go_quiet (fail)
                      obtain ⟨wq, hwq⟩ : ∃ W : World, wr.drewN nq = W := ⟨_, rfl⟩
                      rw [hwq]
                      have hbq : Below wr.heap.size wr wq := hwq ▸ ⟨rfl, rfl, rfl, Nat.le_refl _, fun _ _ => rfl⟩
                      have HBQ := Kp.mk hbq
                      have HWQ := Kp.mk ((HBX.out.below hbq).below (Below.refl _ _).drew)
                      have hcd := HC.out _ HWQ.out
                      have hcd0 := hcd.1
                      have hcd2 := hcd.2.2.1
                      have hcd4 := hcd.2.2.2.2.1
                      have hcd5 := hcd.2.2.2.2.2
                      have HST : Kp (∀ W v, Box W wp.heap.size 95 (u32s (snd64 blk m)) → (W.setCell ⟨wp.heap.size, j, none⟩ v).cell? ⟨wp.heap.size, m, none⟩ = some (.int .u32 (x0 : Int)) ∧ (W.setCell ⟨wp.heap.size, j, none⟩ v).cell? ⟨wp.heap.size, m2, none⟩ = some (.int .u32 (x2 : Int))) := ⟨fun W v hW => by
                        have h := HC.out W hW
                        have hs := hW.set j v
                        have hmj : m < j ∧ m2 < j := by have := HJ.out; have := HMX.out; omega
                        exact ⟨by rw [hs.cell, Array.getElem?_setIfInBounds_ne (by omega), ← hW.cell]; exact h.1, by rw [hs.cell, Array.getElem?_setIfInBounds_ne (by omega), ← hW.cell]; exact h.2.2.1⟩⟩
                      clear c0 c1 c2 c3 c4 c5 hwq hbq hcd
                      go_wp2_with fail
                      go_region_held3 (fun W => W.cell? ⟨wp.heap.size, m, none⟩ = some (.int .u32 (x0 : Int)) ∧ W.cell? ⟨wp.heap.size, m2, none⟩ = some (.int .u32 (x2 : Int))) (first | exact ⟨hcd0, hcd2⟩ | assumption | exact HST.out _ _ HWQ.out) (first | (go_at_call 61; refine (R1.out _).mono ?_; rintro e w' ⟨rfl, rfl⟩; have z := R1; clear R1 z) | (go_at_call 61; refine (R2.out _).mono ?_; rintro e w' ⟨rfl, rfl⟩; have z := R2; clear R2 z) | (go_at_call 61; refine (R3.out _).mono ?_; rintro e w' ⟨rfl, rfl⟩; have z := R3; clear R3 z) | (go_at_call 61; refine (R4.out _).mono ?_; rintro e w' ⟨rfl, rfl⟩; have z := R4; clear R4 z))
                      go_wp2
                      go_roundw
                      case rel =>
                        refine ⟨m + 1, j + 1, by omega, by have := HJ.out; omega, by go_num, ⟨?_, ?_, ?_⟩⟩
                        · rw [show ((((x0 : Int) + (s1 : Int)) % 4294967296 + (x2 : Int)) % 4294967296 + (s2 : Int)) % 4294967296 = ((nextW (grow m (w16 blk)) : Nat) : Int) from by rw [HNXW.out]; unfold add32; omega]
                          have h1 := (HBX.out.below HBQ.out).set j (.int .u32 ((nextW (grow m (w16 blk)) : Nat) : Int))
                          rw [u32s_set, HJ.out, HSN.out] at h1
                          rw [HJ.out]
                          exact h1.below (Below.refl _ _).drew
                        · exact ((H.out.2.1.trans (HBQ.out.mono (by have := H.out.2.2; omega))).drew).setCell (by simp) _
                        · have := HBQ.out.size; have := H.out.2.2; simp; omega
                      case measure => simp [intOf]; omega
                    · obtain rfl : m = 48 := by omega
                      obtain rfl : j = 64 := by omega
                      have hx9 := H.out.1
                      rw [snd64_full] at hx9
                      obtain ⟨ws, hws⟩ : ∃ x, sched blk = x := ⟨_, rfl⟩
                      rw [hws] at hx9
                      have HWL : Kp (ws.length = 64) := ⟨hws ▸ sched_len blk⟩
                      have HMXS : Kp (mixS st blk = st.plus (rnds st ws 64)) := ⟨hws ▸ rfl⟩
                      obtain ⟨wz, rfl⟩ : ∃ wo : World, wo = wr := ⟨_, rfl⟩
                      have HZ7 := Kp.mk (HA9.out wz H.out.2.2 H.out.2.1)
                      have hbz : Below wz.heap.size wz (wz.alloc (.cells (u32s st.l) 97)) := (Below.refl _ _).alloc (Nat.le_refl _) _
                      have HS6 : Kp (Box (wz.alloc (.cells (u32s st.l) 97)) wz.heap.size 97 (u32s st.l) ∧ Box (wz.alloc (.cells (u32s st.l) 97)) wp.heap.size 95 (u32s ws) ∧ Below wp.heap.size wp (wz.alloc (.cells (u32s st.l) 97))) := ⟨Box.fresh _ _ _, hx9.below hbz, H.out.2.1.trans (hbz.mono (by have := H.out.2.2; omega))⟩
                      have HZS := Kp.mk H.out.2.2
                      have HK6 := Kp.mk (HZ7.out.2.1.below hbz)
                      clear hx9 hws hbz H
                      rw [show ((64 : Nat) : Int) = 64 from rfl]
                      go_wp2_with (first | (refine wpList_load_row rfl 97 (.tmp 7) rfl (w5.heap.size + 1) rfl 97 (u32s st.l) (0, 0) _ HZ7.out.1 Try.underlying97 rfl (by rw [u32s_size, s8_len]; kernel_rfl) ?_) | (refine wpList_store_fresh rfl 97 (.tmp 15) (.tmp 141) rfl _ (u32s st.l) wz.heap.size rfl rfl rfl (by rw [u32s_size, s8_len]; kernel_rfl) (by rw [u32s_size, s8_len]; rfl) (u32s_one _) ?_))
                      refine loop6 w5.heap.size wp.heap.size wz.heap.size _ st ws K0 _ _ _ _ _ _ _ _ _ _ _ _ _ _ _ _ _ _ _ _ _ _ _ _ _ _ _ _ _ _ _ _ _ _ _ _ _ _ _ _ _ _ _ _ _ _ _ _ _ _ _ _ _ _ _ _ _ _ _ _ _ _ _ _ _ _ _ _ _ _ _ _ _ _ _ _ _ _ _ _ _ _ _ _ _ _ _ _ _ _ _ _ _ _ _ _ _ _ _ _ _ _ _ _ _ _ _ _ _ _ _ _ _ _ _ _ _ _ _ _ _ _ _ _ _ _ _ _ _ _ _ _ _ _ _ _ _ _ _ _ _ _ _ _ _ _ _ _ _ _ _ _ _ _ _ _ _ _ _ _ _ _ _ _ _ _ _ _ _ _ _ _ _ _ _ _ _ _ _ _ _ _ _ _ _ _ _ _ _ _ _ _ _ _ _ _ _ _ _ _ _ _ _ _ _ _ _ _ _ _ _ _ _ _ _ _ _ _ _ _ _ _ _ _ _ _ _ _ _ _ _ _ _ _ _ _ _ _ _ _ _ _ _ _ _ _ _ _ _ _ _ _ HST HWL HKC ⟨⟨by have := HZS.out; omega, by have := HZS.out; have := HH.out.1.lt; omega⟩⟩ ⟨HS6.out.1⟩ ⟨HS6.out.2.1⟩ ⟨HK6.out⟩ ?_
                      intro t17 t18 t19 t20 t144 t145 t146 t147 t148 t149 t150 t151 t152 t153 t154 t155 t156 t157 t158 t159 t160 t161 t162 t163 t164 t165 t166 t167 t168 t169 t170 t171 t172 t173 t174 t175 t176 t177 t178 t179 t180 t181 t182 t183 t184 t185 t186 t187 t188 t189 t190 t191 t192 t193 t194 t195 t196 t197 t198 t199 t200 t201 t202 t203 t204 t205 t206 t207 t208 t209 t210 t211 t212 t213 t214 t215 t216 t217 t218 t219 t220 t221 t222 t223 wr H
                      ·   obtain ⟨R, hR⟩ : ∃ R, rnds st ws 64 = R := ⟨_, rfl⟩
                          rw [hR] at H HMXS
                          have hbwr : Below wp.heap.size wp wr := HS6.out.2.2.trans ⟨H.out.2.os, H.out.2.tape, H.out.2.output, H.out.2.size, fun k hk => H.out.2.block k (by have := HZS.out; first | omega | (simp; omega)) (by have := HZS.out; first | omega | (simp; omega))⟩
                          have hx := HA9.out wr (by have := H.out.2.size; have := HZS.out; first | omega | (rw [alloc_size] at *; omega) | (simp at *; omega)) hbwr
                          have HS7 := Kp.mk (And.intro hx.1 (And.intro H.out.1 (And.intro hx.2.1 hx.2.2)))
                          have HZ5 : Kp (w5.heap.size + 1 < wp.heap.size) := ⟨HH.out.1.lt⟩
                          have hPS : (st.plus R).l.length = st.l.length := rfl
                          obtain ⟨wy, rfl⟩ : ∃ wo : World, wo = wr := ⟨_, rfl⟩
                          clear hx H hR hbwr
                          try rw [show ((64 : Nat) : Int) = 64 from rfl]
                          go_wp2_with fail
                          go_loopw [21] (fun i wr => ∃ (m : Nat), m ≤ 8 ∧ i = .int .i64 (m : Int) ∧ Kp (Box wr (w5.heap.size + 1) 97 (u32s (half (st.plus R).l st.l m)) ∧ Box wr wz.heap.size 97 (u32s R.l) ∧ Box wr w5.heap.size 95 K0 ∧ Below w5.heap.size w5 wr)) (fun i _ => 8 - (intOf i).toNat)
                          case atStart => exact ⟨0, by omega, rfl, ⟨HS7.out.1, HS7.out.2.1, HS7.out.2.2.1, HS7.out.2.2.2⟩⟩
                          case round =>
                            obtain ⟨m, hm, rfl, H⟩ := hrel
                            by_cases hlt : m < 8
                            · have hlt2 : (m : Int) < 8 := by omega
                              have hc := H.out.1.cell m
                              have hlen : (half (st.plus R).l st.l m).length = 8 := half_len hPS m
                              rw [u32s_at _ m (by rw [hlen]; exact hlt), half_at hPS m hlt 0] at hc
                              have hf := H.out.1.warm m
                              have hc2 := (H.out.2.1.cell m).trans (s8_at R m hlt)
                              have hp := plus_at st R m hlt
                              obtain ⟨x, hx⟩ : ∃ x, st.l.getD m 0 = x := ⟨_, rfl⟩
                              obtain ⟨y, hy⟩ : ∃ y, R.l.getD m 0 = y := ⟨_, rfl⟩
                              rw [hx] at hc hp
                              rw [hy] at hc2 hp
                              have ha : ((x : Int) + (y : Int)) % 4294967296 = (((st.plus R).l.getD m 0 : Nat) : Int) := by rw [hp]; exact add32_mod x y
                              have HNN7 := Kp.mk (half_next hPS m hlt 0)
                              generalize (st.plus R).l.getD m 0 = z at *
                              have HA7 := Kp.mk ha
                              have HH7 := H
                              clear hx hy hp hlen H
                              go_wp2_with fail
                              go_region
                              go_wp2
                              go_roundw
                              case rel =>
                                refine ⟨m + 1, by omega, by go_num, ⟨?_, ?_, ?_, ?_⟩⟩
                                · have h1 := HH7.out.1.set m (.int .u32 (z : Int))
                                  rw [u32s_set, HNN7.out] at h1
                                  first
                                    | exact h1.below (Below.refl _ _).drew
                                    | (rw [HA7.out]; exact h1.below (Below.refl _ _).drew)
                                · exact (Below.heap_setCell _ _ _ _ (by simp; have := HZ5.out; have := HZS.out; omega)).trans HH7.out.2.1
                                · exact (Below.heap_setCell _ _ _ _ (by simp)).trans HH7.out.2.2.1
                                · exact (HH7.out.2.2.2.setCell (by simp) _).drew
                              case measure => simp [intOf]; omega
                            · obtain rfl : m = 8 := by omega
                              have HH7 := H
                              rw [show half (st.plus R).l st.l 8 = (st.plus R).l from rfl, ← HMXS.out, ← HNX.out] at HH7
                              have hpb64 : (p : Int) ≤ 140737488355100 := by have := HPP.out.2.2; have := HT2.out; omega
                              clear H
                              go_wp2_with fail
                              go_roundw
                              case rel => exact ⟨q + 1, p + 64, by have := HPP.out.1; omega, by have := HPP.out.2.1; omega, by go_num, ⟨HH7.out.1, HH7.out.2.2.1, HH7.out.2.2.2⟩⟩
                              case measure => have := HPP.out; simp [intOf]; omega
            · obtain rfl : q = Q := by omega
              obtain rfl : p = T := by have := HQ.out; omega
              obtain ⟨S, hS⟩ : ∃ S, absorb init8 pl q = S := ⟨_, rfl⟩
              have HSO : Kp (S8.ok S) := ⟨hS ▸ absorb_ok init8_ok pl q⟩
              have HJE : Kp (shaOf l = joined S.l) := ⟨by rw [HSH.out, hS]⟩
              have HH := Kp.mk H.out
              rw [hS] at HH
              obtain ⟨J, hJ⟩ : ∃ J, joined S.l = J := ⟨_, rfl⟩
              have HJL : Kp (J.length = 32) := ⟨by rw [← hJ, joined_len]; rfl⟩
              have HJA : Kp (∀ i k, i < 8 → k < 4 → J.getD (4 * i + k) 0 = ((S.l.getD i 0 / 256 ^ (3 - k) % 256 : Nat) : Int)) := ⟨fun i k hi hk => by rw [← hJ]; exact joined_at S.l i k hi hk⟩
              rw [hJ] at HJE
              obtain ⟨wx, rfl⟩ : ∃ wo : World, wo = wr := ⟨_, rfl⟩
              have hbx : Below wx.heap.size wx (wx.alloc (.cells (u8s (List.replicate 32 0)) 39)) := (Below.refl _ _).alloc (Nat.le_refl _) _
              have HS8 : Kp (Box (wx.alloc (.cells (u8s (List.replicate 32 0)) 39)) wx.heap.size 39 (u8s (List.replicate 32 0)) ∧ Box (wx.alloc (.cells (u8s (List.replicate 32 0)) 39)) (w5.heap.size + 1) 97 (u32s S.l) ∧ Box (wx.alloc (.cells (u8s (List.replicate 32 0)) 39)) w.heap.size 39 (u8s (List.replicate 32 0)) ∧ Below w.heap.size w (wx.alloc (.cells (u8s (List.replicate 32 0)) 39))) := ⟨by
                have hx1 := HH.out.2.2
                have hx0 : Box wx w.heap.size 39 (u8s (List.replicate 32 0)) := (hx1.block w.heap.size (by have := HF.out.1; have := HF.out.2.2.2.2; omega)).trans HF.out.2.2.1
                have hxb : Below w.heap.size w wx := HF.out.2.2.2.1.trans (hx1.mono (by have := HF.out.1; have := HF.out.2.2.2.2; omega))
                exact ⟨Box.fresh _ _ _, HH.out.1.below hbx, hx0.below hbx, hxb.trans (hbx.mono hxb.size)⟩⟩
              have HLT8 : Kp (w5.heap.size + 1 < wx.heap.size ∧ w.heap.size < wx.heap.size) := ⟨HH.out.1.lt, by have := HH.out.2.2.size; have := HF.out.1; have := HF.out.2.2.2.2; omega⟩
              clear H hS hJ hbx HAS hlt
              go_wp2_with fail
              go_loopw [23] (fun i wr => ∃ (m : Nat) (L : List Int), m ≤ 32 ∧ i = .int .i64 (m : Int) ∧ Kp (Fill 0 L J m ∧ Box wr wx.heap.size 39 (u8s L) ∧ Box wr (w5.heap.size + 1) 97 (u32s S.l) ∧ Box wr w.heap.size 39 (u8s (List.replicate 32 0)) ∧ Below w.heap.size w wr)) (fun i _ => 32 - (intOf i).toNat)
              case atStart => exact ⟨0, List.replicate 32 0, by omega, rfl, ⟨Fill.zero (by rw [HJL.out]; rfl), HS8.out.1, HS8.out.2.1, HS8.out.2.2.1, HS8.out.2.2.2⟩⟩
              case round =>
                obtain ⟨m, L, hm, rfl, H⟩ := hrel
                by_cases hlt : m < 32
                · have hlt2 : (m : Int) < 32 := by omega
                  obtain ⟨i, hi⟩ : ∃ i, m / 4 = i := ⟨_, rfl⟩
                  obtain ⟨k, hk⟩ : ∃ k, m % 4 = k := ⟨_, rfl⟩
                  obtain ⟨s8, hs8⟩ : ∃ s, 24 - 8 * k = s := ⟨_, rfl⟩
                  have hi1 : (m : Int) / 4 = (i : Int) := by omega
                  have hk1 : (m : Int) % 4 = (k : Int) := by omega
                  have hi8 : (i : Int) < 8 := by omega
                  have hk4 : (k : Int) < 4 := by omega
                  have hs1 : 24 - 8 * (k : Int) = (s8 : Int) := by omega
                  have hs2 : IntKind.u64.wrap (s8 : Int) = (s8 : Int) := by rw [IntKind.wrap_u64]; omega
                  have hs32 : s8 < 32 := by omega
                  have hcs := (H.out.2.2.1.cell i).trans (s8_at S i (by omega))
                  have hja := HJA.out i k (by omega) (by omega)
                  rw [show 4 * i + k = m by omega] at hja
                  obtain ⟨x, hx⟩ : ∃ x, S.l.getD i 0 = x := ⟨_, rfl⟩
                  rw [hx] at hcs hja
                  obtain ⟨y, hy⟩ : ∃ y, IntKind.u8.wrap ((x : Int) / 2 ^ s8) = y := ⟨_, rfl⟩
                  have HY8 : Kp (y = J.getD m 0) := ⟨by
                    rw [hja, ← hy, IntKind.wrap_u8, pow256, show 8 * (3 - k) = s8 by omega]
                    simp⟩
                  have hc := H.out.2.1.cell m
                  rw [u8s_at L m (by rw [H.out.1.1, HJL.out]; omega)] at hc
                  have hf := H.out.2.1.warm m
                  have HH8 := H
                  clear hi hk hs8 hja hx H
                  go_wp2_with fail
                  go_roundw
                  case rel =>
                    refine ⟨m + 1, L.set m y, by omega, by go_num, ⟨?_, ?_, ?_, ?_, ?_⟩⟩
                    · rw [HY8.out]; exact HH8.out.1.step (by rw [HJL.out]; omega)
                    · rw [← u8s_set]; exact HH8.out.2.1.set m _
                    · exact (Below.heap_setCell _ _ _ _ (by simp; have := HLT8.out; omega)).trans HH8.out.2.2.1
                    · exact (Below.heap_setCell _ _ _ _ (by simp; have := HLT8.out; omega)).trans HH8.out.2.2.2.1
                    · exact HH8.out.2.2.2.2.setCell (by simp; have := HLT8.out; omega) _
                  case measure => simp [intOf]; omega
                · obtain rfl : m = 32 := by omega
                  obtain ⟨hfl, hbx, _, hbr, hbw⟩ := H.out
                  have hLJ : L = J := Fill.full (by rw [HJL.out]; exact hfl)
                  subst hLJ
                  have HIJ : Kp ((Try.prog.info? 39).map (·.size) = some (u8s L).size) := ⟨by rw [u8s_size, HJL.out]; kernel_rfl⟩
                  have HBX := Kp.mk hbx
                  have HBR := Kp.mk hbr
                  have HBW := Kp.mk hbw
                  clear hfl hbx hbr hbw H
                  go_wp2_with (first | (refine wpList_load_row rfl 39 (.tmp 22) rfl wx.heap.size rfl 39 (u8s L) (0, 0) _ HBX.out Try.underlying39 rfl HIJ.out ?_) | (refine wpList_store_row rfl 39 (.tmp 2) (.tmp 254) rfl w.heap.size (u8s L) rfl rfl 39 _ HBR.out HIJ.out (by rw [u8s_size, u8s_size, HJL.out]; rfl) (u8s_one L) ?_))
                  exact bodyPost_ret (results_cell_row (by rfl) _ _ w.heap.size 39 (u8s L) _ _ rfl (row_box HBR.out _) Try.underlying39 rfl HIJ.out) rfl ⟨by rw [HJE.out], HBW.out.trans (row_below (Nat.le_refl _) _)⟩
end Go.Proofs.Ytdemamipllfonaa
