/- The document's own product and quotient, bit by bit. -/
import Derived.Test.YtompcibcgfjpfaaRtD
namespace Go.Proofs.Ytompcibcgfjpfaa
open Go.RowKit

theorem one_u64 (x : Nat) (h : x < 18446744073709551616) : bits .and .u64 (x : Int) 1 = ((x % 2 : Nat) : Int) := by
  have := bits_and_u64_nat x 1 h (by omega)
  rw [Nat.and_one_is_mod] at this
  exact this
theorem or_bit (a b : Nat) (hb : b < 2) (h : a * 2 < 18446744073709551616) : bits .or .u64 ((a * 2 : Nat) : Int) (b : Int) = ((a * 2 + b : Nat) : Int) := or_low a b 1 (by omega) (by omega) (by omega)
/-- A product of a number and the upper bits of another one, doubled, and once more. -/
theorem times_step (a b k hi lo : Nat) (ha : a < 18446744073709551616) (hb : b < 18446744073709551616) (_hk : k ≤ 63) (hhi : a * (b / 2 ^ (k + 1)) / 18446744073709551616 = hi) (hlo : a * (b / 2 ^ (k + 1)) % 18446744073709551616 = lo) :
    ∃ bk c h3 l2 : Nat, (b : Int) / 2 ^ k = (bk : Int) ∧ bk < 18446744073709551616 ∧ IntKind.u64.wrap ((hi : Int) * 2) = ((hi * 2 : Nat) : Int) ∧ (lo : Int) / 9223372036854775808 = (c : Int) ∧ bits .or .u64 ((hi * 2 : Nat) : Int) (c : Int) = (h3 : Int) ∧
      IntKind.u64.wrap ((lo : Int) * 2) = (l2 : Int) ∧ l2 < 18446744073709551616 ∧ a * (b / 2 ^ k) = h3 * 18446744073709551616 + l2 + a * (bk % 2) ∧ h3 * 18446744073709551616 + l2 + a * (bk % 2) < 18446744073709551616 * 18446744073709551616 := by
  have hm := bit_mul a b k
  have hT : a * (b / 2 ^ k) < 18446744073709551616 * 18446744073709551616 := Nat.mul_lt_mul_of_lt_of_le ha (Nat.le_of_lt (Nat.lt_of_le_of_lt (Nat.div_le_self _ _) hb)) (by omega)
  rw [hm] at hT
  have hX : a * (b / 2 ^ (k + 1)) < 18446744073709551616 * 9223372036854775808 := by
    have h1 : b / 2 ^ (k + 1) < 9223372036854775808 := by
      have : b / 2 ^ (k + 1) ≤ b / 2 := by
        rw [Nat.pow_succ, Nat.mul_comm, ← Nat.div_div_eq_div_mul]
        exact Nat.div_le_self _ _
      omega
    exact Nat.mul_lt_mul_of_lt_of_le ha (Nat.le_of_lt h1) (by omega)
  generalize a * (b / 2 ^ (k + 1)) = X at *
  have hc2 : lo / 9223372036854775808 < 2 := by omega
  have hh : hi < 9223372036854775808 := by omega
  refine ⟨b / 2 ^ k, lo / 9223372036854775808, hi * 2 + lo / 9223372036854775808, lo * 2 % 18446744073709551616, ?_, ?_, ?_, ?_, or_bit hi _ hc2 (by omega), ?_, by omega, ?_, ?_⟩
  · rw [← pow_i, ← Int.natCast_ediv]
  · exact Nat.lt_of_le_of_lt (Nat.div_le_self _ _) hb
  · exact fit_u64 (hi * 2) (by omega)
  · omega
  · rw [IntKind.wrap_u64]; omega
  · rw [hm]
    generalize a * (b / 2 ^ k % 2) = Z
    omega
  · generalize a * (b / 2 ^ k % 2) = Z at *
    omega

set_option maxRecDepth 100000 in
set_option maxHeartbeats 1000000 in
theorem times_any (a b : Nat) (ha : a < 18446744073709551616) (hb : b < 18446744073709551616) (w : World) :
    Calls Try.prog 20 #[.int .u64 (a : Int), .int .u64 (b : Int)] w fun e w' => e = .returned (.tuple #[.int .u64 ((a * b / 18446744073709551616 : Nat) : Int), .int .u64 ((a * b % 18446744073709551616 : Nat) : Int)]) ∧ w' = w := by
  have HA := Lib.hid ha
  have HB := Lib.hid hb
  obtain ⟨HI, hHI⟩ : ∃ v, a * b / 18446744073709551616 = v := ⟨_, rfl⟩
  obtain ⟨LO, hLO⟩ : ∃ v, a * b % 18446744073709551616 = v := ⟨_, rfl⟩
  rw [hHI, hLO]
  have HE := Lib.hid (And.intro hHI hLO)
  clear ha hb hHI hLO
  go_enter Try.func20, Try.ntmps20
  go_wp2
  go_loop [6, 7, 8] (fun l h i => ∃ k hi lo : Nat, k ≤ 64 ∧ i = .int .i64 ((k : Int) - 1) ∧ h = .int .u64 (hi : Int) ∧ l = .int .u64 (lo : Int) ∧ Hid (a * (b / 2 ^ k) / 18446744073709551616 = hi ∧ a * (b / 2 ^ k) % 18446744073709551616 = lo)) (fun _ _ i => (intOf i + 1).toNat)
  case atStart => exact ⟨64, 0, 0, by omega, rfl, rfl, rfl, Lib.hid (by
    have : b / 2 ^ 64 = 0 := Nat.div_eq_of_lt HB.out
    rw [this, Nat.mul_zero]
    exact ⟨rfl, rfl⟩)⟩
  case round =>
    obtain ⟨k, hi, lo, hk, rfl, rfl, rfl, H⟩ := hrel
    rcases Nat.eq_zero_or_pos k with h0 | h0
    · subst h0
      obtain ⟨e1, e2⟩ := H.out
      rw [Nat.pow_zero, Nat.div_one] at e1 e2
      obtain rfl : hi = HI := e1.symm.trans HE.out.1
      obtain rfl : lo = LO := e2.symm.trans HE.out.2
      clear H e1 e2 hk HE
      go_wp2
      go_ret2
      exact ⟨rfl, rfl⟩
    · obtain ⟨k, rfl⟩ : ∃ j, k = j + 1 := ⟨k - 1, by omega⟩
      obtain ⟨bk, c, h3, l2, f1, f2, f3, f4, f5, f6, f7, f8, f9⟩ := times_step a b k hi lo HA.out HB.out (by omega) H.out.1 H.out.2
      have fo := one_u64 bk f2
      have fk : ((k + 1 : Nat) : Int) - 1 = (k : Int) := by omega
      have fkw : IntKind.u64.wrap (k : Int) = (k : Int) := fit_u64 k (by omega)
      have fm : min k 64 = k := by omega
      have fi : IntKind.i64.wrap ((k : Int) - 1) = (k : Int) - 1 := by rw [IntKind.wrap_i64]; omega
      have fge : (0 ≤ (k : Int)) = True := by simp
      have fkb : (k : Int) < 64 := by omega
      rw [fk]
      generalize hi * 2 = hd at f3 f5
      have fb : bk % 2 < 2 := Nat.mod_lt _ (by omega)
      by_cases hbit : bk % 2 = 1
      · rw [hbit, Nat.mul_one] at f8 f9
        rw [hbit] at fo
        obtain ⟨l3, hl3⟩ : ∃ l3, (l2 + a) % 18446744073709551616 = l3 := ⟨_, rfl⟩
        have g1 : IntKind.u64.wrap ((l2 : Int) + (a : Int)) = (l3 : Int) := by rw [IntKind.wrap_u64]; omega
        have haa := HA.out
        by_cases hcar : l3 < l2
        · have g2 : ((l3 : Int) < (l2 : Int)) = True := by simp; omega
          have g2b : (l3 < l2) = True := by simp [hcar]
          have g3 : IntKind.u64.wrap ((h3 : Int) + 1) = ((h3 + 1 : Nat) : Int) := addfit_u64 h3 1 (by omega)
          have HR : Hid (a * (b / 2 ^ k) / 18446744073709551616 = h3 + 1 ∧ a * (b / 2 ^ k) % 18446744073709551616 = l3) := Lib.hid (by rw [f8]; clear f8; omega)
          generalize h3 + 1 = h4 at *
          clear H h0 fk f2 hk f8 f9 hl3 hcar hbit fb haa f7
          go_wp2
          go_round
          case rel => exact ⟨k, h4, l3, by omega, rfl, rfl, rfl, HR⟩
          case measure => simp [intOf] <;> omega
        · have g2 : ((l3 : Int) < (l2 : Int)) = False := by simp; omega
          have g2b : (l3 < l2) = False := by simp [hcar]
          have HR : Hid (a * (b / 2 ^ k) / 18446744073709551616 = h3 ∧ a * (b / 2 ^ k) % 18446744073709551616 = l3) := Lib.hid (by rw [f8]; clear f8; omega)
          clear H h0 fk f2 hk f8 f9 hl3 hcar hbit fb haa f7
          go_wp2
          go_round
          case rel => exact ⟨k, h3, l3, by omega, rfl, rfl, rfl, HR⟩
          case measure => simp [intOf] <;> omega
      · have hbit0 : bk % 2 = 0 := by omega
        rw [hbit0, Nat.mul_zero] at f8 f9
        rw [hbit0] at fo
        have HR : Hid (a * (b / 2 ^ k) / 18446744073709551616 = h3 ∧ a * (b / 2 ^ k) % 18446744073709551616 = l2) := Lib.hid (by rw [f8]; clear f8; omega)
        clear H h0 fk f2 hk f8 f9 hbit0 hbit fb f7
        go_wp2
        go_round
        case rel => exact ⟨k, h3, l2, by omega, rfl, rfl, rfl, HR⟩
        case measure => simp [intOf] <;> omega

set_option maxRecDepth 100000 in
/-- A quotient of the upper bits, doubled, and once more. -/
theorem shared_step (hi lo c k q r : Nat) (hc : hi < c) (hc2 : c < 18446744073709551616) (hlo : lo < 18446744073709551616) (hk : k ≤ 63) (hq : (hi * 18446744073709551616 + lo) / 2 ^ (k + 1) / c = q) (hr : (hi * 18446744073709551616 + lo) / 2 ^ (k + 1) % c = r) :
    ∃ lk b o t t2 : Nat, (lo : Int) / 2 ^ k = (lk : Int) ∧ bits .and .u64 (lk : Int) 1 = (b : Int) ∧ (r : Int) / 9223372036854775808 = (o : Int) ∧ IntKind.u64.wrap ((r : Int) * 2) = (t2 : Int) ∧ bits .or .u64 (t2 : Int) (b : Int) = (t : Int) ∧ IntKind.u64.wrap ((q : Int) * 2) = ((q * 2 : Nat) : Int) ∧ bits .or .u64 ((q * 2 : Nat) : Int) 1 = ((q * 2 + 1 : Nat) : Int) ∧
      ((o = 1 ∧ IntKind.u64.wrap ((t : Int) - (c : Int)) = ((2 * r + b - c : Nat) : Int) ∧ c ≤ 2 * r + b) ∨ (o = 0 ∧ t = 2 * r + b ∧ (c ≤ t → IntKind.u64.wrap ((t : Int) - (c : Int)) = ((2 * r + b - c : Nat) : Int)))) ∧
      (hi * 18446744073709551616 + lo) / 2 ^ k / c = 2 * q + (if c ≤ 2 * r + b then 1 else 0) ∧ (hi * 18446744073709551616 + lo) / 2 ^ k % c = 2 * r + b - (if c ≤ 2 * r + b then c else 0) := by
  have hN : hi * 18446744073709551616 + lo < c * 18446744073709551616 := by omega
  have hbit : (hi * 18446744073709551616 + lo) / 2 ^ k % 2 = lo / 2 ^ k % 2 := by
    have e : hi * 18446744073709551616 = 2 ^ k * (hi * 2 ^ (63 - k) * 2) := by
      rw [Nat.mul_comm (2 ^ k), Nat.mul_assoc, Nat.mul_assoc, ← Nat.mul_assoc (2 ^ (63 - k)), Nat.mul_comm (2 ^ (63 - k)) 2, Nat.mul_assoc 2, ← Nat.pow_add, show 63 - k + k = 63 by omega]
    rw [e, Nat.add_comm, Nat.add_mul_div_left _ _ (Nat.pow_pos (by omega))]
    omega
  have hd := bit_div (hi * 18446744073709551616 + lo) c k (by omega)
  rw [hbit, hq, hr] at hd
  have hqs : q < 9223372036854775808 := by
    rw [← hq, Nat.div_lt_iff_lt_mul (by omega)]
    have : (hi * 18446744073709551616 + lo) / 2 ^ (k + 1) ≤ (hi * 18446744073709551616 + lo) / 2 := by
      rw [Nat.pow_succ, Nat.mul_comm (2 ^ k) 2, ← Nat.div_div_eq_div_mul]
      exact Nat.div_le_self _ _
    omega
  have hrl : r < c := by rw [← hr]; exact Nat.mod_lt _ (by omega)
  have hlk : lo / 2 ^ k < 18446744073709551616 := Nat.lt_of_le_of_lt (Nat.div_le_self _ _) hlo
  have hb2 : lo / 2 ^ k % 2 < 2 := Nat.mod_lt _ (by omega)
  clear hq hr hbit hN
  have ht : ∃ u, r * 2 % 18446744073709551616 = u * 2 ∧ (r < 9223372036854775808 → u = r) ∧ (9223372036854775808 ≤ r → u = r - 9223372036854775808) := by
    by_cases h : r < 9223372036854775808
    · exact ⟨r, by omega, fun _ => rfl, fun _ => by omega⟩
    · exact ⟨r - 9223372036854775808, by omega, fun _ => by omega, fun _ => rfl⟩
  obtain ⟨u, hu, hu1, hu2⟩ := ht
  have hul : u < 9223372036854775808 := by omega
  have hor := or_bit u (lo / 2 ^ k % 2) hb2 (by omega)
  refine ⟨lo / 2 ^ k, lo / 2 ^ k % 2, r / 9223372036854775808, u * 2 + lo / 2 ^ k % 2, u * 2, ?_, one_u64 _ hlk, by omega, ?_, hor, fit_u64 (q * 2) (by omega), or_bit q 1 (by omega) (by omega), ?_, hd.1, hd.2⟩
  · rw [← pow_i, ← Int.natCast_ediv]
  · rw [IntKind.wrap_u64]; omega
  · generalize lo / 2 ^ k % 2 = b at *
    clear hd hor hlk
    rw [IntKind.wrap_u64]
    by_cases h : r < 9223372036854775808
    · right
      have h6 := hu1 h
      clear hu1 hu2 hu hul
      subst h6
      refine ⟨by omega, by omega, fun h5 => ?_⟩
      omega
    · left
      have h6 := hu2 (by omega)
      clear hu1 hu2 hu hul
      obtain ⟨z, hz⟩ : ∃ z, r = z + 9223372036854775808 := ⟨r - 9223372036854775808, by omega⟩
      have h7 : u = z := by omega
      subst h7
      subst hz
      refine ⟨by omega, ?_, by omega⟩
      omega

set_option maxRecDepth 100000 in
set_option maxHeartbeats 1000000 in
theorem shared_any (hi lo c : Nat) (hc0 : 0 < c) (hc : c < 18446744073709551616) (hlo : lo < 18446744073709551616) (w : World) :
    Calls Try.prog 22 #[.int .u64 (hi : Int), .int .u64 (lo : Int), .int .u64 (c : Int)] w fun e w' => e = .returned (.int .u64 (upV (hi * 18446744073709551616 + lo) c : Int)) ∧ w' = w := by
  have hN : (hi * 18446744073709551616 + lo) / 18446744073709551616 = hi := by omega
  obtain ⟨V, hV⟩ : ∃ V, upV (hi * 18446744073709551616 + lo) c = V := ⟨_, rfl⟩
  rw [hV]
  by_cases h : c ≤ hi
  · have e : V = 18446744073709551615 := by rw [← hV]; unfold upV; rw [hN, if_pos h]
    subst e
    have g1 : ((c : Int) ≤ (hi : Int)) = True := by simp; omega
    have g2 : (c ≤ hi) = True := by simp [h]
    clear hV hN h
    go_enter Try.func22, Try.ntmps22
    go_wp2
    go_ret
    exact ⟨rfl, rfl⟩
  · have g1 : ((c : Int) ≤ (hi : Int)) = False := by simp; omega
    have g2 : (c ≤ hi) = False := by simp [h]
    have HB := Lib.hid (show hi < c ∧ c < 18446744073709551616 ∧ lo < 18446744073709551616 from ⟨by omega, hc, hlo⟩)
    have HV : Hid (V = if (hi * 18446744073709551616 + lo) % c = 0 ∨ (hi * 18446744073709551616 + lo) / c = 18446744073709551615 then (hi * 18446744073709551616 + lo) / c else (hi * 18446744073709551616 + lo) / c + 1) := Lib.hid (by rw [← hV]; unfold upV; rw [hN, if_neg h])
    have HS : Hid ((hi * 18446744073709551616 + lo) / 2 ^ 64 / c = 0 ∧ (hi * 18446744073709551616 + lo) / 2 ^ 64 % c = hi) := Lib.hid (by
      rw [show (2 : Nat) ^ 64 = 18446744073709551616 from rfl, hN]
      exact ⟨Nat.div_eq_of_lt (by omega), Nat.mod_eq_of_lt (by omega)⟩)
    have HQ : Hid ((hi * 18446744073709551616 + lo) / c < 18446744073709551616) := Lib.hid (by
      rw [Nat.div_lt_iff_lt_mul hc0]
      omega)
    clear hV hN h hc0 hc hlo
    go_enter Try.func22, Try.ntmps22
    go_wp2
    go_loop [7, 8, 9] (fun q r i => ∃ k qn rn : Nat, k ≤ 64 ∧ i = .int .i64 ((k : Int) - 1) ∧ q = .int .u64 (qn : Int) ∧ r = .int .u64 (rn : Int) ∧ Hid ((hi * 18446744073709551616 + lo) / 2 ^ k / c = qn ∧ (hi * 18446744073709551616 + lo) / 2 ^ k % c = rn)) (fun _ _ i => (intOf i + 1).toNat)
    case atStart => exact ⟨64, 0, hi, by omega, rfl, rfl, rfl, HS⟩
    case round =>
      obtain ⟨k, q, r, hk, rfl, rfl, rfl, H⟩ := hrel
      rcases Nat.eq_zero_or_pos k with h0 | h0
      · subst h0
        obtain ⟨e1, e2⟩ := H.out
        rw [Nat.pow_zero, Nat.div_one] at e1 e2
        have hv := HV.out
        have hq := HQ.out
        rw [e1, e2] at hv
        rw [e1] at hq
        by_cases hr : r = 0
        · have c1 : (0 < (r : Int)) = False := by simp; omega
          have c1b : (0 < r) = False := by simp; omega
          obtain rfl : V = q := by rw [hv, if_pos (.inl hr)]
          clear H e1 e2 hk hv hq hr
          go_wp2
          go_ret
          exact ⟨rfl, rfl⟩
        · have c1 : (0 < (r : Int)) = True := by simp; omega
          have c1b : (0 < r) = True := by simp; omega
          by_cases hm : q = 18446744073709551615
          · have c2 : ((q : Int) < 18446744073709551615) = False := by simp; omega
            have c2b : (q < 18446744073709551615) = False := by simp; omega
            obtain rfl : V = q := by rw [hv, if_pos (.inr hm)]
            clear H e1 e2 hk hv hq hr hm
            go_wp2
            go_ret
            exact ⟨rfl, rfl⟩
          · have c2 : ((q : Int) < 18446744073709551615) = True := by simp; omega
            have c2b : (q < 18446744073709551615) = True := by simp; omega
            have hve : V = q + 1 := by rw [hv, if_neg (by omega)]
            have c3 : IntKind.u64.wrap ((q : Int) + 1) = (V : Int) := by rw [hve]; exact addfit_u64 q 1 (by omega)
            clear H e1 e2 hk hv hq hr hm hve
            go_wp2
            go_ret
            exact ⟨rfl, rfl⟩
      · obtain ⟨k, rfl⟩ : ∃ j, k = j + 1 := ⟨k - 1, by omega⟩
        obtain ⟨lk, b, o, t, t2, f1, f2, f3, f4, f5, f6, f7, f8, f9, f10⟩ := shared_step hi lo c k q r HB.out.1 HB.out.2.1 HB.out.2.2 (by omega) H.out.1 H.out.2
        have fk : ((k + 1 : Nat) : Int) - 1 = (k : Int) := by omega
        have fkw : IntKind.u64.wrap (k : Int) = (k : Int) := fit_u64 k (by omega)
        have fm : min k 64 = k := by omega
        have fi : IntKind.i64.wrap ((k : Int) - 1) = (k : Int) - 1 := by rw [IntKind.wrap_i64]; omega
        have fge : (0 ≤ (k : Int)) = True := by simp
        rw [fk]
        have hk1 : k ≤ 64 := by omega
        rcases f8 with ⟨ho, f8, fc⟩ | ⟨ho, ht, f8⟩
        · subst ho
          rw [if_pos fc] at f9 f10
          have HR : Hid ((hi * 18446744073709551616 + lo) / 2 ^ k / c = q * 2 + 1 ∧ (hi * 18446744073709551616 + lo) / 2 ^ k % c = 2 * r + b - c) := Lib.hid ⟨by rw [f9]; omega, f10⟩
          clear f9 f10 fc H h0 fk hk
          generalize q * 2 + 1 = q3 at *
          generalize q * 2 = q2 at *
          generalize 2 * r + b - c = r3 at *
          go_wp2
          go_round
          case rel => exact ⟨k, q3, r3, hk1, rfl, rfl, rfl, HR⟩
          case measure => simp [intOf] <;> omega
        · subst ho
          by_cases hct : c ≤ t
          · have f8' := f8 hct
            have d1 : ((c : Int) ≤ (t : Int)) = True := by simp; omega
            have d2 : (c ≤ t) = True := by simp [hct]
            rw [if_pos (by omega)] at f9 f10
            have HR : Hid ((hi * 18446744073709551616 + lo) / 2 ^ k / c = q * 2 + 1 ∧ (hi * 18446744073709551616 + lo) / 2 ^ k % c = 2 * r + b - c) := Lib.hid ⟨by rw [f9]; omega, f10⟩
            clear f9 f10 f8 H h0 fk hk hct ht
            generalize q * 2 + 1 = q3 at *
            generalize q * 2 = q2 at *
            generalize 2 * r + b - c = r3 at *
            go_wp2
            go_round
            case rel => exact ⟨k, q3, r3, hk1, rfl, rfl, rfl, HR⟩
            case measure => simp [intOf] <;> omega
          · have d1 : ((c : Int) ≤ (t : Int)) = False := by simp; omega
            have d2 : (c ≤ t) = False := by simp [hct]
            rw [if_neg (by omega)] at f9 f10
            have HR : Hid ((hi * 18446744073709551616 + lo) / 2 ^ k / c = q * 2 ∧ (hi * 18446744073709551616 + lo) / 2 ^ k % c = t) := Lib.hid ⟨by rw [f9]; omega, by rw [f10]; omega⟩
            clear f9 f10 f8 H h0 fk hk hct ht f7
            generalize q * 2 = q2 at *
            go_wp2
            go_round
            case rel => exact ⟨k, q2, t, hk1, rfl, rfl, rfl, HR⟩
            case measure => simp [intOf] <;> omega
end Go.Proofs.Ytompcibcgfjpfaa
