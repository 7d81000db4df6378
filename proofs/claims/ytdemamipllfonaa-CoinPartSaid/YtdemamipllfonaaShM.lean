/- SHA-256, the small functions of both sides. SHA-256: the constants of both sides. SHA-256 as plain functions, and words in memory. SHA-256: the program's join. SHA-256: the program's words. SHA-256: the program's mix. SHA-256: the program's pad. SHA-256: the program's digest and Twice. (Written by gen_shh.py.) -/
import Derived.Test.YtdemamipllfonaaGa
import Derived.Deep.RegionHeld3
import Derived.Deep.DeepCutAuto
import Derived.RegionTactic
import Derived.ChangeAlike
import Derived.Deep.QuietTactic
import Derived.BigQuiet
import Derived.Laws.CopyOwn
import Derived.Deep.MidRow
import Derived.Laws.Cover3
namespace Go.Proofs.Ytdemamipllfonaa
open Go.RowKit


theorem bits_or (a b : Nat) (ha : a < 4294967296) (hb : b < 4294967296) : bits .or .u32 (a : Int) (b : Int) = ((a ||| b : Nat) : Int) := by
  have h := Nat.or_lt_two_pow (n := 32) (x := a) (y := b) (by omega) (by omega)
  unfold bits
  simp only [show IntKind.u32.bits = 32 from rfl, BitVec.ofInt_natCast, BitVec.toNat_or, BitVec.toNat_ofNat]
  rw [Nat.mod_eq_of_lt (by omega : a < 2 ^ 32), Nat.mod_eq_of_lt (by omega : b < 2 ^ 32), IntKind.wrap_u32]
  omega
theorem bits_xor (a b : Nat) (ha : a < 4294967296) (hb : b < 4294967296) : bits .xor .u32 (a : Int) (b : Int) = ((a ^^^ b : Nat) : Int) := by
  have h := Nat.xor_lt_two_pow (n := 32) (x := a) (y := b) (by omega) (by omega)
  unfold bits
  simp only [show IntKind.u32.bits = 32 from rfl, BitVec.ofInt_natCast, BitVec.toNat_xor, BitVec.toNat_ofNat]
  rw [Nat.mod_eq_of_lt (by omega : a < 2 ^ 32), Nat.mod_eq_of_lt (by omega : b < 2 ^ 32), IntKind.wrap_u32]
  omega
theorem bits_and (a b : Nat) (ha : a < 4294967296) (hb : b < 4294967296) : bits .and .u32 (a : Int) (b : Int) = ((a &&& b : Nat) : Int) := by
  have h := Nat.and_lt_two_pow (n := 32) a (y := b) (by omega)
  unfold bits
  simp only [show IntKind.u32.bits = 32 from rfl, BitVec.ofInt_natCast, BitVec.toNat_and, BitVec.toNat_ofNat]
  rw [Nat.mod_eq_of_lt (by omega : a < 2 ^ 32), Nat.mod_eq_of_lt (by omega : b < 2 ^ 32), IntKind.wrap_u32]
  omega
/-- A word turned right. -/
def rotr (x n : Nat) : Nat := x / 2 ^ n ||| x * 2 ^ (32 - n) % 4294967296
theorem rotr_lt {x n : Nat} (hx : x < 4294967296) : rotr x n < 4294967296 := by
  have h1 : x / 2 ^ n < 2 ^ 32 := Nat.lt_of_le_of_lt (Nat.div_le_self _ _) (by omega)
  have h2 := Nat.or_lt_two_pow (n := 32) (x := x / 2 ^ n) (y := x * 2 ^ (32 - n) % 4294967296) h1 (by omega)
  unfold rotr
  omega
theorem rotr_bits {x n : Nat} (hx : x < 4294967296) : bits .or .u32 ((x : Int) / 2 ^ n) ((x : Int) * 2 ^ (32 - n) % 4294967296) = (rotr x n : Int) := by
  have h1 : x / 2 ^ n < 4294967296 := Nat.lt_of_le_of_lt (Nat.div_le_self _ _) hx
  have h := bits_or (x / 2 ^ n) (x * 2 ^ (32 - n) % 4294967296) h1 (by omega)
  rw [← rotr] at h
  rw [← h]
  congr 1
theorem rotr_bits2 {x n : Nat} (hx : x < 4294967296) : bits .or .u32 ((x : Int) * 2 ^ (32 - n) % 4294967296) ((x : Int) / 2 ^ n) = (rotr x n : Int) := by
  have h1 : x / 2 ^ n < 4294967296 := Nat.lt_of_le_of_lt (Nat.div_le_self _ _) hx
  have h := bits_or (x * 2 ^ (32 - n) % 4294967296) (x / 2 ^ n) (by omega) h1
  rw [Nat.or_comm, ← rotr] at h
  rw [← h]
  congr 1
theorem left_amount {n : Nat} (h1 : 0 < n) (h2 : n < 32) : bits .and .u64 (IntKind.u64.wrap (-(n : Int))) 31 = ((32 - n : Nat) : Int) := by
  have h : ∀ k : Fin 32, 0 < k.val → bits .and .u64 (IntKind.u64.wrap (-(k.val : Int))) 31 = ((32 - k.val : Nat) : Int) := by decide +kernel
  exact h ⟨n, h2⟩ h1
set_option maxRecDepth 1000000 in
set_option maxHeartbeats 4000000 in
theorem refturned_any (w : World) (x n : Nat) (hx : x < 4294967296) (hn2 : n < 32) : Calls Try.prog 61 #[.int .u32 (x : Int), .int .u64 (n : Int)] w (fun e w' => e = .returned (.int .u32 (rotr x n : Int)) ∧ w' = w) := by
  have H := rotr_bits (n := n) hx
  go_enter Try.func61, Try.ntmps61
  go_wp2
  go_ret
  exact ⟨rfl, rfl⟩
set_option maxRecDepth 1000000 in
set_option maxHeartbeats 4000000 in
theorem right_any (w : World) (x n : Nat) (hx : x < 4294967296) (hn : 0 < n) (hn2 : n < 32) : Calls Try.prog 96 #[.int .u32 (x : Int), .int .i64 (n : Int)] w (fun e w' => e = .returned (.int .u32 (rotr x n : Int)) ∧ w' = w) := by
  have H := rotr_bits2 (n := n) hx
  have HL := left_amount hn hn2
  obtain ⟨m, hm⟩ : ∃ m, m = 32 - n := ⟨_, rfl⟩
  have hm2 : m < 32 := by omega
  have hm3 : 32 - m = n := by omega
  rw [← hm] at HL H
  clear hm
  go_enter Try.func96, Try.ntmps96
  go_wp2
  go_ret
  exact ⟨rfl, rfl⟩
/-- Three turned, or two and one shifted. -/
def turn3 (x i k l : Nat) : Nat := rotr x i ^^^ rotr x k ^^^ rotr x l
def shift3 (x i k l : Nat) : Nat := rotr x i ^^^ rotr x k ^^^ x / 2 ^ l
theorem xor32 {a b : Nat} (ha : a < 4294967296) (hb : b < 4294967296) : a ^^^ b < 4294967296 := by
  have h := Nat.xor_lt_two_pow (n := 32) (x := a) (y := b) (by omega) (by omega)
  omega
theorem turn3_lt {x i k l : Nat} (hx : x < 4294967296) : turn3 x i k l < 4294967296 := xor32 (xor32 (rotr_lt hx) (rotr_lt hx)) (rotr_lt hx)
theorem div32 {x l : Nat} (hx : x < 4294967296) : x / 2 ^ l < 4294967296 := Nat.lt_of_le_of_lt (Nat.div_le_self _ _) hx
theorem shift3_lt {x i k l : Nat} (hx : x < 4294967296) : shift3 x i k l < 4294967296 := xor32 (xor32 (rotr_lt hx) (rotr_lt hx)) (div32 hx)
set_option maxRecDepth 1000000 in
set_option maxHeartbeats 4000000 in
theorem turned_any (w : World) (x i k l : Nat) (hx : x < 4294967296) (hi : 0 < i ∧ i < 32) (hk : 0 < k ∧ k < 32) (hl : 0 < l ∧ l < 32) :
    Calls Try.prog 86 #[.int .u32 (x : Int), .int .i64 (i : Int), .int .i64 (k : Int), .int .i64 (l : Int)] w (fun e w' => e = .returned (.int .u32 (turn3 x i k l : Int)) ∧ w' = w) := by
  have H1 := right_any w x i hx hi.1 hi.2
  have H2 := right_any w x k hx hk.1 hk.2
  have H3 := right_any w x l hx hl.1 hl.2
  have E1 := bits_xor (rotr x i) (rotr x k) (rotr_lt hx) (rotr_lt hx)
  have E2 := bits_xor (rotr x i ^^^ rotr x k) (rotr x l) (xor32 (rotr_lt hx) (rotr_lt hx)) (rotr_lt hx)
  have HT : turn3 x i k l = rotr x i ^^^ rotr x k ^^^ rotr x l := rfl
  rw [← HT] at E2
  clear HT
  generalize turn3 x i k l = T at *
  generalize rotr x i ^^^ rotr x k = S at *
  generalize rotr x i = a at *
  generalize rotr x k = b at *
  generalize rotr x l = c at *
  go_enter Try.func86, Try.ntmps86
  go_wp2_with fail
  refine H1.mono ?_
  rintro e w1 ⟨rfl, rfl⟩
  clear H1
  go_wp2_with fail
  refine H2.mono ?_
  rintro e w2 ⟨rfl, rfl⟩
  clear H2
  go_wp2_with fail
  refine H3.mono ?_
  rintro e w3 ⟨rfl, rfl⟩
  clear H3
  go_wp2
  go_ret
  exact ⟨rfl, rfl⟩
set_option maxRecDepth 1000000 in
set_option maxHeartbeats 4000000 in
theorem shifted_any (w : World) (x i k l : Nat) (hx : x < 4294967296) (hi : 0 < i ∧ i < 32) (hk : 0 < k ∧ k < 32) (hl : 0 < l ∧ l < 32) :
    Calls Try.prog 95 #[.int .u32 (x : Int), .int .i64 (i : Int), .int .i64 (k : Int), .int .i64 (l : Int)] w (fun e w' => e = .returned (.int .u32 (shift3 x i k l : Int)) ∧ Below w.heap.size w w') := by
  have H1 := right_any w.drew x i hx hi.1 hi.2
  have H2 := right_any w.drew x k hx hk.1 hk.2
  have E1 := bits_xor (rotr x i) (rotr x k) (rotr_lt hx) (rotr_lt hx)
  have E2 := bits_xor (rotr x i ^^^ rotr x k) (x / 2 ^ l) (xor32 (rotr_lt hx) (rotr_lt hx)) (div32 hx)
  have HT : shift3 x i k l = rotr x i ^^^ rotr x k ^^^ x / 2 ^ l := rfl
  rw [← HT] at E2
  clear HT
  generalize shift3 x i k l = T at *
  generalize rotr x i ^^^ rotr x k = S at *
  generalize rotr x i = a at *
  generalize rotr x k = b at *
  rw [show ((x / 2 ^ l : Nat) : Int) = (x : Int) / 2 ^ l by simp] at E2
  go_enter Try.func95, Try.ntmps95
  have hd : Below w.heap.size w w.drew := (Below.refl _ _).drew
  have ht : True := trivial
  go_wp2_with fail
  go_region_held3 (fun _ => True) (first | exact ht | trivial) (first | (go_at_call 96; refine H1.mono ?_; rintro e w1 ⟨rfl, rfl⟩; have z := H1; clear H1 z) | (go_at_call 96; refine H2.mono ?_; rintro e w2 ⟨rfl, rfl⟩))
  go_wp2
  go_ret
  exact ⟨rfl, hd⟩


def kNums : List Nat := [
  1116352408, 1899447441, 3049323471, 3921009573, 961987163, 1508970993, 2453635748, 2870763221,
  3624381080, 310598401, 607225278, 1426881987, 1925078388, 2162078206, 2614888103, 3248222580,
  3835390401, 4022224774, 264347078, 604807628, 770255983, 1249150122, 1555081692, 1996064986,
  2554220882, 2821834349, 2952996808, 3210313671, 3336571891, 3584528711, 113926993, 338241895,
  666307205, 773529912, 1294757372, 1396182291, 1695183700, 1986661051, 2177026350, 2456956037,
  2730485921, 2820302411, 3259730800, 3345764771, 3516065817, 3600352804, 4094571909, 275423344,
  430227734, 506948616, 659060556, 883997877, 958139571, 1322822218, 1537002063, 1747873779,
  1955562222, 2024104815, 2227730452, 2361852424, 2428436474, 2756734187, 3204031479, 3329325298]
def u32s (l : List Nat) : Array Value := (l.map fun (n : Nat) => Value.int .u32 (Int.ofNat n)).toArray
set_option maxRecDepth 1000000 in
set_option maxHeartbeats 4000000 in
theorem constants_any (w : World) : Calls Try.prog 70 #[] w (fun e w' => e = .returned (.agg (u32s kNums)) ∧ Below w.heap.size w w') := by
  go_enter Try.func70, Try.ntmps70
  go_wp2_with (refine wpList_store_fresh rfl 95 (.tmp 0) (.tmp 1) rfl _ (u32s kNums) w.heap.size rfl rfl rfl (by kernel_rfl) rfl (by decide +kernel) ?_)
  exact bodyPost_ret (results_cell_row (by rfl) _ _ w.heap.size 95 _ _ _ rfl (Box.fresh w 95 (u32s kNums)) Try.underlying95 rfl (by kernel_rfl)) rfl ⟨rfl, (Below.refl _ _).alloc (Nat.le_refl _) _⟩
set_option maxRecDepth 1000000 in
set_option maxHeartbeats 4000000 in
theorem refnumbers_any (w : World) : Calls Try.prog 60 #[] w (fun e w' => e = .returned (.agg (u32s kNums)) ∧ Below w.heap.size w w') := by
  go_enter Try.func60, Try.ntmps60
  go_wp2_with (refine wpList_store_fresh rfl 95 (.tmp 0) (.tmp 1) rfl _ (u32s kNums) w.heap.size rfl rfl rfl (by kernel_rfl) rfl (by decide +kernel) ?_)
  exact bodyPost_ret (results_cell_row (by rfl) _ _ w.heap.size 95 _ _ _ rfl (Box.fresh w 95 (u32s kNums)) Try.underlying95 rfl (by kernel_rfl)) rfl ⟨rfl, (Below.refl _ _).alloc (Nat.le_refl _) _⟩


def add32 (x y : Nat) : Nat := (x + y) % 4294967296
theorem add32_lt (x y : Nat) : add32 x y < 4294967296 := Nat.mod_lt _ (by omega)
theorem add32_wrap (x y : Nat) : IntKind.u32.wrap ((x : Int) + (y : Int)) = (add32 x y : Int) := by rw [IntKind.wrap_u32]; unfold add32; omega
def not32 (x : Nat) : Nat := 4294967295 ^^^ x
theorem not32_lt {x : Nat} (h : x < 4294967296) : not32 x < 4294967296 := xor32 (by omega) h
theorem and32 {a b : Nat} (hb : b < 4294967296) : a &&& b < 4294967296 := by
  have h := Nat.and_lt_two_pow (n := 32) a (y := b) (by omega)
  omega
theorem or32 {a b : Nat} (ha : a < 4294967296) (hb : b < 4294967296) : a ||| b < 4294967296 := by
  have h := Nat.or_lt_two_pow (n := 32) (x := a) (y := b) (by omega) (by omega)
  omega
def ch (e f g : Nat) : Nat := (e &&& f) ^^^ (not32 e &&& g)
def maj (a b c : Nat) : Nat := (a &&& b) ^^^ (a &&& c) ^^^ (b &&& c)
structure S8 where
  a : Nat
  b : Nat
  c : Nat
  d : Nat
  e : Nat
  f : Nat
  g : Nat
  h : Nat
def S8.l (s : S8) : List Nat := [s.a, s.b, s.c, s.d, s.e, s.f, s.g, s.h]
structure S8.ok (s : S8) : Prop where
  a : s.a < 4294967296
  b : s.b < 4294967296
  c : s.c < 4294967296
  d : s.d < 4294967296
  e : s.e < 4294967296
  f : s.f < 4294967296
  g : s.g < 4294967296
  h : s.h < 4294967296
def S8.t (s : S8) (k w : Nat) : Nat := add32 (add32 (add32 (add32 s.h (turn3 s.e 6 11 25)) (ch s.e s.f s.g)) k) w
def S8.u (s : S8) : Nat := add32 (turn3 s.a 2 13 22) (maj s.a s.b s.c)
def S8.rnd (s : S8) (k w : Nat) : S8 := ⟨add32 (s.t k w) s.u, s.a, s.b, s.c, add32 s.d (s.t k w), s.e, s.f, s.g⟩
theorem S8.ok.rnd {s : S8} (h : s.ok) (k w : Nat) : (s.rnd k w).ok := ⟨add32_lt _ _, h.a, h.b, h.c, add32_lt _ _, h.e, h.f, h.g⟩
def rnds (s : S8) (ws : List Nat) : Nat → S8
  | 0 => s
  | n + 1 => (rnds s ws n).rnd (kNums.getD n 0) (ws.getD n 0)
theorem rnds_ok {s : S8} (h : s.ok) (ws : List Nat) : ∀ n, (rnds s ws n).ok
  | 0 => h
  | n + 1 => (rnds_ok h ws n).rnd _ _
def S8.plus (s r : S8) : S8 := ⟨add32 s.a r.a, add32 s.b r.b, add32 s.c r.c, add32 s.d r.d, add32 s.e r.e, add32 s.f r.f, add32 s.g r.g, add32 s.h r.h⟩
theorem S8.plus_ok (s r : S8) : (s.plus r).ok := ⟨add32_lt _ _, add32_lt _ _, add32_lt _ _, add32_lt _ _, add32_lt _ _, add32_lt _ _, add32_lt _ _, add32_lt _ _⟩

/-- The number of four bytes, the highest first. -/
def be4 (b : List Int) (p : Nat) : Nat := (b.getD p 0).toNat * 16777216 + (b.getD (p + 1) 0).toNat * 65536 + (b.getD (p + 2) 0).toNat * 256 + (b.getD (p + 3) 0).toNat
theorem be4_lt {b : List Int} (h : Bys b) (p : Nat) : be4 b p < 4294967296 := by
  have h0 := h.at p
  have h1 := h.at (p + 1)
  have h2 := h.at (p + 2)
  have h3 := h.at (p + 3)
  unfold be4
  omega
def nextW (l : List Nat) : Nat := add32 (add32 (add32 (l.getD (l.length - 16) 0) (shift3 (l.getD (l.length - 15) 0) 7 18 3)) (l.getD (l.length - 7) 0)) (shift3 (l.getD (l.length - 2) 0) 17 19 10)
def grow : Nat → List Nat → List Nat
  | 0, l => l
  | n + 1, l => grow n (l ++ [nextW l])
theorem grow_len : ∀ (n : Nat) (l : List Nat), (grow n l).length = l.length + n
  | 0, l => rfl
  | n + 1, l => by rw [grow, grow_len n]; simp; omega
/-- Words. -/
def W32 (l : List Nat) : Prop := ∀ x ∈ l, x < 4294967296
theorem W32.at {l : List Nat} (h : W32 l) (i : Nat) : l.getD i 0 < 4294967296 := by
  rw [List.getD_eq_getElem?_getD]
  cases hi : l[i]? with
  | none => simp
  | some x => simpa using h x (List.mem_of_getElem? hi)
theorem W32.snoc {l : List Nat} (h : W32 l) {x : Nat} (hx : x < 4294967296) : W32 (l ++ [x]) := by
  intro y hy
  rcases List.mem_append.1 hy with hy | hy
  · exact h y hy
  · simp at hy; omega
theorem grow_ok : ∀ (n : Nat) {l : List Nat}, W32 l → W32 (grow n l)
  | 0, _, h => h
  | n + 1, _, h => grow_ok n (h.snoc (add32_lt _ _))
def w16 (b : List Int) : List Nat := (List.range 16).map fun i => be4 b (4 * i)
theorem w16_ok {b : List Int} (h : Bys b) : W32 (w16 b) := by
  intro x hx
  unfold w16 at hx
  obtain ⟨i, _, rfl⟩ := List.mem_map.1 hx
  exact be4_lt h _
def sched (b : List Int) : List Nat := grow 48 (w16 b)
theorem sched_len (b : List Int) : (sched b).length = 64 := by unfold sched; rw [grow_len]; simp [w16]
theorem sched_ok {b : List Int} (h : Bys b) : W32 (sched b) := grow_ok 48 (w16_ok h)
def mixS (s : S8) (b : List Int) : S8 := s.plus (rnds s (sched b) 64)
def absorb (s : S8) (m : List Int) : Nat → S8
  | 0 => s
  | n + 1 => mixS (absorb s m n) ((m.drop (64 * n)).take 64)
def init8 : S8 := ⟨1779033703, 3144134277, 1013904242, 2773480762, 1359893119, 2600822924, 528734635, 1541459225⟩
theorem init8_ok : init8.ok := ⟨by decide, by decide, by decide, by decide, by decide, by decide, by decide, by decide⟩
theorem absorb_ok {s : S8} (h : s.ok) (m : List Int) : ∀ n, (absorb s m n).ok
  | 0 => h
  | _ + 1 => S8.plus_ok _ _
/-- A number as so many bytes, the highest first. -/
def beb (n : Nat) : Nat → List Int
  | 0 => []
  | k + 1 => ((n / 256 ^ k % 256 : Nat) : Int) :: beb n k
theorem beb_len (n : Nat) : ∀ k, (beb n k).length = k
  | 0 => rfl
  | k + 1 => by simp [beb, beb_len n k]
theorem beb_at (n : Nat) : ∀ (k i : Nat), i < k → (beb n k).getD i 0 = ((n / 256 ^ (k - 1 - i) % 256 : Nat) : Int)
  | k + 1, 0, _ => by simp [beb]
  | k + 1, i + 1, h => by
    have := beb_at n k i (by omega)
    rw [List.getD_eq_getElem?_getD] at this
    rw [beb, List.getD_eq_getElem?_getD, List.getElem?_cons_succ, this, show k - 1 - i = k + 1 - 1 - (i + 1) by omega]
theorem beb_bys (n : Nat) : ∀ k, Bys (beb n k)
  | 0 => Bys.nil
  | k + 1 => by
    intro x hx
    rw [beb] at hx
    rcases List.mem_cons.1 hx with rfl | hx
    · omega
    · exact beb_bys n k x hx
def joined : List Nat → List Int
  | [] => []
  | x :: l => beb x 4 ++ joined l
def zerosN (l : Nat) : Nat := (119 - l % 64) % 64
def padded (l : List Int) : List Int := l ++ [128] ++ List.replicate (zerosN l.length) 0 ++ beb (l.length * 8) 8
def shaOf (l : List Int) : List Int := joined (absorb init8 (padded l) ((padded l).length / 64)).l
def twiceOf (l : List Int) : List Int := shaOf (shaOf l)
theorem joined_len : ∀ l : List Nat, (joined l).length = 4 * l.length
  | [] => rfl
  | x :: l => by simp [joined, beb_len, joined_len l]; omega
theorem joined_bys : ∀ l : List Nat, Bys (joined l)
  | [] => Bys.nil
  | x :: l => (beb_bys x 4).app (joined_bys l)
theorem shaOf_len (l : List Int) : (shaOf l).length = 32 := by unfold shaOf; rw [joined_len]; rfl
theorem shaOf_bys (l : List Int) : Bys (shaOf l) := joined_bys _

theorem joined_at : ∀ (l : List Nat) (i k : Nat), i < l.length → k < 4 → (joined l).getD (4 * i + k) 0 = ((l.getD i 0 / 256 ^ (3 - k) % 256 : Nat) : Int)
  | x :: l, 0, k, _, hk => by
    have h := beb_at x 4 k hk
    rw [List.getD_eq_getElem?_getD] at h ⊢
    rw [joined, List.getElem?_append_left (by rw [beb_len]; omega), show 4 * 0 + k = k by omega, h]
    simp
  | x :: l, i + 1, k, h, hk => by
    have ih := joined_at l i k (by simpa using h) hk
    rw [List.getD_eq_getElem?_getD] at ih ⊢
    rw [joined, List.getElem?_append_right (by rw [beb_len]; omega), beb_len, show 4 * (i + 1) + k - 4 = 4 * i + k by omega, ih]
    simp

/-- L is, up to n, what J is. -/
def Fill {α : Type} (d : α) (L J : List α) (n : Nat) : Prop := L.length = J.length ∧ ∀ j, j < n → L.getD j d = J.getD j d
theorem Fill.step {α : Type} {d : α} {L J : List α} {n : Nat} (h : Fill d L J n) (hn : n < J.length) : Fill d (L.set n (J.getD n d)) J (n + 1) := by
  refine ⟨by rw [List.length_set]; exact h.1, fun j hj => ?_⟩
  by_cases e : j = n
  · subst e
    rw [List.getD_eq_getElem?_getD, List.getElem?_set_self (by rw [h.1]; exact hn)]
    rfl
  · rw [List.getD_eq_getElem?_getD, List.getElem?_set_ne (by omega), ← List.getD_eq_getElem?_getD]
    exact h.2 j (by omega)
theorem Fill.full {α : Type} {d : α} {L J : List α} (h : Fill d L J J.length) : L = J := by
  apply List.ext_getElem?
  intro i
  by_cases hi : i < J.length
  · have h1 := h.2 i hi
    rw [List.getD_eq_getElem?_getD, List.getD_eq_getElem?_getD, List.getElem?_eq_getElem hi, List.getElem?_eq_getElem (by rw [h.1]; exact hi)] at h1
    rw [List.getElem?_eq_getElem hi, List.getElem?_eq_getElem (by rw [h.1]; exact hi)]
    simpa using h1
  · rw [List.getElem?_eq_none (l := L) (by rw [h.1]; omega), List.getElem?_eq_none (l := J) (by omega)]
theorem Fill.zero {α : Type} {d : α} {L J : List α} (h : L.length = J.length) : Fill d L J 0 := ⟨h, fun j hj => absurd hj (by omega)⟩

/-- Words as cells. -/
theorem u32s_size (l : List Nat) : (u32s l).size = l.length := by simp [u32s]
theorem u32s_at (l : List Nat) (i : Nat) (h : i < l.length) : (u32s l)[i]? = some (.int .u32 ((l.getD i 0 : Nat) : Int)) := by
  simp [u32s, List.getD_eq_getElem?_getD, List.getElem?_eq_getElem h]
theorem u32s_set (l : List Nat) (i x : Nat) : (u32s l).setIfInBounds i (.int .u32 (x : Int)) = u32s (l.set i x) := by
  simp [u32s, List.map_set]
/-- Bytes as cells. -/
def u8s (l : List Int) : Array Value := (byteVals l).toArray
theorem u8s_size (l : List Int) : (u8s l).size = l.length := by simp [u8s, byteVals]
theorem u8s_at (l : List Int) (i : Nat) (h : i < l.length) : (u8s l)[i]? = some (.int .u8 (l.getD i 0)) := by
  simp [u8s, byteVals, List.getD_eq_getElem?_getD, List.getElem?_eq_getElem h]
theorem u8s_set (l : List Int) (i : Nat) (x : Int) : (u8s l).setIfInBounds i (.int .u8 x) = u8s (l.set i x) := by
  simp [u8s, byteVals, List.map_set]
theorem u8s_one (l : List Int) : (u8s l).all (·.oneCell') = true := by
  simp [u8s, byteVals, Value.oneCell']
theorem u32s_one (l : List Nat) : (u32s l).all (·.oneCell') = true := by
  simp [u32s, Value.oneCell']


theorem Box.new {w : World} {t : Nat} {cs cs' : Array Value} {n : Nat} (h : n = w.heap.size) (hc : cs = cs') : Box (w.alloc (.cells cs t)) n t cs' := by
  subst h
  subst hc
  exact Box.fresh w t cs
theorem row_box {w : World} {G t : Nat} {old : Array Value} (h : Box w G t old) (cs : Array Value) : Box (w.setRow G cs) G t cs := setRow_heap w G _ cs t _ h
theorem row_below {B G : Nat} {w : World} (h : B ≤ G) (cs : Array Value) : Below B w (w.setRow G cs) := ⟨rfl, rfl, rfl, by simp, fun k hk => setRow_other w G k cs (by omega)⟩
/-- What a call answers that makes memory alone. -/
def Ans (v : Value) (w : World) (e : Ending) (w' : World) : Prop := e = .returned v ∧ Below w.heap.size w w'

set_option maxRecDepth 1000000 in
/-- One element of an array that is held as a value. -/
theorem run_index_row {W : World} (t e : TypeId) (n : Nat) (cs : Array Value) (i : Nat) (v : Value) (h : Try.prog.underlying t = some (.array n e)) (hi : i < n)
    (h0 : ∀ w, (sizeOf e).run Try.prog w = .ok 1 w) (h1 : ∀ w, (isAgg e).run Try.prog w = .ok false w) (hc : cs[i]? = some v) : (Instr.index t (.agg cs) (.int .i64 (i : Int))).run Try.prog W = .ok v W := by
  have hn : (0 ≤ (i : Int) ∧ (i : Int) < (n : Int)) := by omega
  simp [Instr.index, run_underlying h, asIntOf, hn, part, h0, h1, hc, go_sem]
  intro h2
  omega

set_option maxRecDepth 1000000 in
theorem size_u32 (w : World) : (sizeOf 26).run Try.prog w = .ok 1 w := by kernel_rfl
set_option maxRecDepth 1000000 in
theorem agg_u32 (w : World) : (isAgg 26).run Try.prog w = .ok false w := by kernel_rfl

set_option maxRecDepth 1000000 in
set_option maxHeartbeats 4000000 in
theorem join_any (w : World) (s : S8) (hs : s.ok) : Calls Try.prog 73 #[.agg (u32s s.l)] w (Ans (.agg (u8s (joined s.l))) w) := by
  have hl8 : s.l.length = 8 := rfl
  have hj : (joined s.l).length = 32 := by rw [joined_len, hl8]
  have HW : Kp (∀ i, s.l.getD i 0 < 4294967296) := ⟨by
    have : W32 s.l := by
      intro x hx
      simp only [S8.l, List.mem_cons, List.not_mem_nil, or_false] at hx
      rcases hx with h | h | h | h | h | h | h | h <;> subst h
      · exact hs.a
      · exact hs.b
      · exact hs.c
      · exact hs.d
      · exact hs.e
      · exact hs.f
      · exact hs.g
      · exact hs.h
    exact this.at⟩
  have HJ : Kp (∀ i k, i < 8 → k < 4 → (joined s.l).getD (4 * i + k) 0 = ((s.l.getD i 0 / 256 ^ (3 - k) % 256 : Nat) : Int)) := ⟨fun i k hi hk => joined_at s.l i k (by rw [hl8]; exact hi) hk⟩
  have HJL := Kp.mk hj
  have HL8 := Kp.mk hl8
  obtain ⟨S, hS⟩ : ∃ S, s.l = S := ⟨_, rfl⟩
  obtain ⟨J, hJ⟩ : ∃ J, joined S = J := ⟨_, rfl⟩
  rw [hS] at HJ HJL HL8 HW ⊢
  rw [hJ] at HJ HJL ⊢
  clear hS hJ hj hl8 hs s
  go_enter Try.func73, Try.ntmps73
  have HIS : Kp ((Try.prog.info? 97).map (·.size) = some (u32s S).size) := ⟨by rw [u32s_size, HL8.out]; kernel_rfl⟩
  go_wp2_with (refine wpList_load_row rfl 97 (.tmp 1) rfl w.heap.size rfl 97 (u32s S) (0, 0) _ ((Box.fresh w 97 (u32s S)).below (((Below.refl _ _).alloc (by simp) _).alloc (by simp) _)) Try.underlying97 rfl HIS.out ?_)
  go_loopw [8] (fun i wr => ∃ (k : Nat) (L : List Int), k ≤ 8 ∧ i = .int .i64 k ∧ Kp (Fill 0 L J (4 * k) ∧ Box wr (w.heap.size + 1 + 1) 39 (u8s L) ∧ Box wr (w.heap.size + 1) 39 (u8s (List.replicate 32 0)) ∧ Below w.heap.size w wr)) (fun i _ => 8 - (intOf i).toNat)
  case atStart =>
    refine ⟨0, List.replicate 32 0, by omega, rfl, ⟨Fill.zero (by rw [HJL.out]; rfl), ?_, ?_, ?_⟩⟩
    · exact Box.new (by simp) rfl
    · exact (Box.new (n := w.heap.size + 1) (by simp) rfl).below ((Below.refl _ _).alloc (Nat.le_refl _) _)
    · exact (((Below.refl _ _).alloc (Nat.le_refl _) _).alloc (by simp) _).alloc (by simp; omega) _
  case round =>
    obtain ⟨k, L, hk, rfl, H⟩ := hrel
    by_cases hlt : k < 8
    · have hlt2 : (k : Int) < 8 := by omega
      have hidx := u32s_at S k (by rw [HL8.out]; exact hlt)
      obtain ⟨x, hx⟩ : ∃ x, S.getD k 0 = x := ⟨_, rfl⟩
      have hix := fun W : World => run_index_row (W := W) 97 26 8 (u32s S) k _ Try.underlying97 hlt size_u32 agg_u32 hidx
      rw [hx] at hix
      have HX := Kp.mk hx
      clear hx hidx
      go_wp2_with fail
      obtain ⟨wo, rfl⟩ : ∃ wo : World, wo = wr := ⟨_, rfl⟩
      go_loopw [12] (fun i wr => ∃ (q : Nat) (L : List Int), q ≤ 4 ∧ i = .int .i64 q ∧ Kp (Fill 0 L J (4 * k + q) ∧ Box wr (w.heap.size + 1 + 1) 39 (u8s L) ∧ Box wr (w.heap.size + 1) 39 (u8s (List.replicate 32 0)) ∧ Below w.heap.size w wr)) (fun i _ => 4 - (intOf i).toNat)
      case atStart => exact ⟨0, L, by omega, rfl, H⟩
      case round =>
        obtain ⟨q, L2, hq, rfl, H2⟩ := hrel
        by_cases hq4 : q < 4
        · have hq4' : (q : Int) < 4 := by omega
          obtain ⟨p, hp⟩ : ∃ p : Nat, 4 * k + q = p := ⟨_, rfl⟩
          obtain ⟨n, hn⟩ : ∃ n : Nat, 24 - 8 * q = n := ⟨_, rfl⟩
          have hpi : 4 * (k : Int) + (q : Int) = (p : Int) := by omega
          have hni : 24 - 8 * (q : Int) = (n : Int) := by omega
          have hp32 : (p : Int) < 32 := by omega
          have hb := H2.out.2.1
          have hc := hb.cell p
          rw [u8s_at L2 p (by rw [H2.out.1.1, HJL.out]; omega)] at hc
          have hf := hb.warm p
          have hn32 : n < 32 := by omega
          obtain ⟨y, hy⟩ : ∃ y, IntKind.u8.wrap ((x : Int) / 2 ^ n) = y := ⟨_, rfl⟩
          have HY : Kp (y = J.getD p 0) := ⟨by
            rw [← hp, HJ.out k q hlt hq4, HX.out, ← hy, IntKind.wrap_u8, pow256, show 8 * (3 - q) = n by omega]
            simp⟩
          have HP := Kp.mk hp
          clear hp hn hb
          go_wp2_with fail
          go_roundw
          case rel =>
            refine ⟨q + 1, L2.set p y, by omega, by go_num, ⟨?_, ?_, ?_, ?_⟩⟩
            · have := H2.out.1
              rw [HP.out] at this
              rw [show 4 * k + (q + 1) = p + 1 by have := HP.out; omega, HY.out]
              exact this.step (by rw [HJL.out]; omega)
            · rw [← u8s_set]; exact H2.out.2.1.set p _
            · exact (Below.heap_setCell _ _ _ _ (by simp)).trans H2.out.2.2.1
            · exact H2.out.2.2.2.setCell (by simp; omega) _
          case measure => simp [intOf]; omega
        · obtain rfl : q = 4 := by omega
          go_wp2_with fail
          go_roundw
          case rel => exact ⟨k + 1, L2, by omega, by go_num, ⟨H2.out.1, H2.out.2⟩⟩
          case measure => simp [intOf]; omega
    · obtain rfl : k = 8 := by omega
      obtain ⟨hfl, hbx, hbr, hbw⟩ := H.out
      have hLJ : L = J := Fill.full (by rw [HJL.out]; exact hfl)
      subst hLJ
      have HIJ : Kp ((Try.prog.info? 39).map (·.size) = some (u8s L).size) := ⟨by rw [u8s_size, HJL.out]; kernel_rfl⟩
      have HBX := Kp.mk hbx
      have HBR := Kp.mk hbr
      have HBW := Kp.mk hbw
      clear hfl hbx hbr hbw H
      go_wp2_with (first | (refine wpList_load_row rfl 39 (.tmp 3) rfl (w.heap.size + 1 + 1) rfl 39 (u8s L) (0, 0) _ HBX.out Try.underlying39 rfl HIJ.out ?_) | (refine wpList_store_row rfl 39 (.tmp 2) (.tmp 28) rfl (w.heap.size + 1) (u8s L) rfl rfl 39 _ HBR.out HIJ.out (by rw [u8s_size, u8s_size, HJL.out]; rfl) (u8s_one L) ?_))
      exact bodyPost_ret (results_cell_row (by rfl) _ _ (w.heap.size + 1) 39 (u8s L) _ _ rfl (row_box HBR.out _) Try.underlying39 rfl HIJ.out) rfl ⟨rfl, HBW.out.trans (row_below (by omega) _)⟩


theorem grow_succ : ∀ (n : Nat) (l : List Nat), grow (n + 1) l = grow n l ++ [nextW (grow n l)]
  | 0, l => rfl
  | n + 1, l => by rw [grow, grow_succ n, grow]
/-- The first q of four bytes as a number, the highest first. -/
def part4 (b : List Int) (p : Nat) : Nat → Nat
  | 0 => 0
  | q + 1 => part4 b p q * 256 + (b.getD (p + q) 0).toNat
theorem part4_lt {b : List Int} (h : Bys b) (p : Nat) : ∀ q, part4 b p q < 256 ^ q
  | 0 => by simp [part4]
  | q + 1 => by
    have := part4_lt h p q
    have := h.at (p + q)
    rw [part4, Nat.pow_succ]
    omega
theorem part4_be (b : List Int) (p : Nat) : part4 b p 4 = be4 b p := by
  simp only [part4, be4, Nat.add_zero]
  omega
theorem or_byte (x y : Nat) (hy : y < 256) : x * 256 ||| y = x * 256 + y := by
  have := Nat.two_pow_add_eq_or_of_lt (i := 8) (b := y) (by omega) x
  rw [show 2 ^ 8 = 256 from rfl] at this
  rw [Nat.mul_comm, ← this]
/-- Memory in the first loop: so many words, and zeros. -/
def fst16 (b : List Int) (i : Nat) : List Nat := (w16 b).take i ++ List.replicate (64 - i) 0
theorem w16_len (b : List Int) : (w16 b).length = 16 := by simp [w16]
theorem fst16_len (b : List Int) (i : Nat) (h : i ≤ 16) : (fst16 b i).length = 64 := by
  unfold fst16
  simp [w16_len]
  omega
theorem fst16_zero (b : List Int) (i : Nat) (h : i < 16) : (fst16 b i).set i 0 = fst16 b i := by
  unfold fst16
  have hl : ((w16 b).take i).length = i := by rw [List.length_take, w16_len]; omega
  rw [List.set_append, if_neg (by omega), hl, Nat.sub_self, show 64 - i = (63 - i) + 1 by omega, List.replicate_succ, List.set_cons_zero]
theorem fst16_next (b : List Int) (i : Nat) (h : i < 16) : (fst16 b i).set i (be4 b (4 * i)) = fst16 b (i + 1) := by
  unfold fst16
  have hl : ((w16 b).take i).length = i := by rw [List.length_take, w16_len]; omega
  rw [List.set_append, if_neg (by omega), hl, Nat.sub_self, show 64 - i = (63 - i) + 1 by omega, List.replicate_succ, List.set_cons_zero, show 64 - (i + 1) = 63 - i by omega,
    List.take_succ_eq_append_getElem (by rw [w16_len]; exact h)]
  simp [w16]
/-- Memory in the last loop. -/
def snd64 (b : List Int) (n : Nat) : List Nat := grow n (w16 b) ++ List.replicate (48 - n) 0
theorem snd64_len (b : List Int) (n : Nat) (h : n ≤ 48) : (snd64 b n).length = 64 := by
  unfold snd64
  rw [List.length_append, grow_len, w16_len, List.length_replicate]
  omega
theorem snd64_at (b : List Int) (n i : Nat) (h : i < 16 + n) : (snd64 b n).getD i 0 = (grow n (w16 b)).getD i 0 := by
  unfold snd64
  rw [List.getD_eq_getElem?_getD, List.getElem?_append_left (by rw [grow_len, w16_len]; exact h), List.getD_eq_getElem?_getD]
theorem snd64_next (b : List Int) (n : Nat) (h : n < 48) : (snd64 b n).set (16 + n) (nextW (grow n (w16 b))) = snd64 b (n + 1) := by
  unfold snd64
  have hl : (grow n (w16 b)).length = 16 + n := by rw [grow_len, w16_len]
  rw [List.set_append, if_neg (by omega), hl, Nat.sub_self, show 48 - n = (47 - n) + 1 by omega, List.replicate_succ, List.set_cons_zero, show 48 - (n + 1) = 47 - n by omega, grow_succ]
  simp
theorem snd64_full (b : List Int) : snd64 b 48 = sched b := by simp [snd64, sched]
theorem fst_snd (b : List Int) : fst16 b 16 = snd64 b 0 := by
  unfold fst16 snd64
  rw [List.take_of_length_le (by rw [w16_len]; omega)]
  rfl

set_option maxRecDepth 1000000 in
set_option maxHeartbeats 4000000 in
theorem words_any (w : World) (b : List Int) (hb : Bys b) (hl : b.length = 64) : Calls Try.prog 85 #[.agg (u8s b)] w (Ans (.agg (u32s (sched b))) w) := by
  have HB := Kp.mk hb
  have HL := Kp.mk hl
  have HIB : Kp ((Try.prog.info? 109).map (·.size) = some (u8s b).size) := ⟨by rw [u8s_size, hl]; kernel_rfl⟩
  clear hb hl
  go_enter Try.func85, Try.ntmps85
  go_wp2_with fail
  go_loopw [7] (fun i wr => ∃ (k : Nat), k ≤ 16 ∧ i = .int .i64 k ∧ Kp (Box wr w.heap.size 109 (u8s b) ∧ Box wr (w.heap.size + 1) 95 (u32s (List.replicate 64 0)) ∧ Box wr (w.heap.size + 1 + 1) 95 (u32s (fst16 b k)) ∧ Below w.heap.size w wr)) (fun i _ => 16 - (intOf i).toNat)
  case atStart =>
    refine ⟨0, by omega, rfl, ⟨?_, ?_, ?_, ?_⟩⟩
    · exact (Box.new (n := w.heap.size) rfl rfl).below (((Below.refl _ _).alloc (by simp) _).alloc (by simp) _)
    · exact (Box.new (n := w.heap.size + 1) (by simp) rfl).below ((Below.refl _ _).alloc (Nat.le_refl _) _)
    · exact Box.new (by simp) rfl
    · exact (((Below.refl _ _).alloc (Nat.le_refl _) _).alloc (by simp) _).alloc (by simp; omega) _
  case round =>
    obtain ⟨k, hk, rfl, H⟩ := hrel
    by_cases hlt : k < 16
    · have hlt2 : (k : Int) < 16 := by omega
      go_wp2_with fail
      obtain ⟨wo, rfl⟩ : ∃ wo : World, wo = wr := ⟨_, rfl⟩
      go_loopw [10] (fun i wr => ∃ (q : Nat), q ≤ 4 ∧ i = .int .i64 q ∧ Kp (Box wr w.heap.size 109 (u8s b) ∧ Box wr (w.heap.size + 1) 95 (u32s (List.replicate 64 0)) ∧ Box wr (w.heap.size + 1 + 1) 95 (u32s ((fst16 b k).set k (part4 b (4 * k) q))) ∧ Below w.heap.size w wr)) (fun i _ => 4 - (intOf i).toNat)
      case atStart => exact ⟨0, by omega, rfl, ⟨H.out.1, H.out.2.1, by rw [show part4 b (4 * k) 0 = 0 from rfl, fst16_zero b k hlt]; exact H.out.2.2.1, H.out.2.2.2⟩⟩
      case round =>
        obtain ⟨q, hq, rfl, H2⟩ := hrel
        by_cases hq4 : q < 4
        · have hq4' : (q : Int) < 4 := by omega
          obtain ⟨p, hp⟩ : ∃ p : Nat, 4 * k + q = p := ⟨_, rfl⟩
          have hpi : 4 * (k : Int) + (q : Int) = (p : Int) := by omega
          have hp64 : (p : Int) < 64 := by omega
          have hlen := fst16_len b k (by omega)
          have hc1 := H2.out.1.cell p
          rw [u8s_at b p (by rw [HL.out]; omega)] at hc1
          have hc2 := H2.out.2.2.1.cell k
          rw [u32s_at _ k (by rw [List.length_set, hlen]; omega), List.getD_eq_getElem?_getD, List.getElem?_set_self (by omega), Option.getD_some] at hc2
          have hf := H2.out.2.2.1.warm k
          have hy := HB.out.at p
          have hx := part4_lt HB.out (4 * k) q
          have hx2 : 256 ^ q ≤ 256 ^ 3 := Nat.pow_le_pow_right (by omega) (by omega)
          obtain ⟨y, hy2⟩ : ∃ y : Nat, (y : Int) = b.getD p 0 := ⟨(b.getD p 0).toNat, by omega⟩
          rw [← hy2] at hc1 hy
          have hn := part4.eq_2 b (4 * k) q
          rw [hp, ← hy2, Int.toNat_natCast] at hn
          obtain ⟨x, hxx⟩ : ∃ x, part4 b (4 * k) q = x := ⟨_, rfl⟩
          rw [hxx] at hc2 hn hx
          have ho := bits_or (x * 256) y (by omega) (by omega)
          rw [or_byte x y (by omega)] at ho
          rw [← hn] at ho
          have hw1 : ((x * 256 : Nat) : Int) = (x : Int) * 256 % 4294967296 := by omega
          rw [hw1, show (y : Int) = (y : Int) % 4294967296 by omega] at ho
          clear hw1
          have HP := Kp.mk hp
          clear hp hlen hy hx hx2 hy2 hn
          have HZ : Kp (∀ W', Box W' (w.heap.size + 1 + 1) 95 (((u32s ((fst16 b k).set k x)).setIfInBounds k (.int .u32 ((part4 b (4 * k) (q + 1) : Nat) : Int)))) → Box W' (w.heap.size + 1 + 1) 95 (u32s ((fst16 b k).set k (part4 b (4 * k) (q + 1))))) := ⟨fun W' h => by rw [u32s_set, List.set_set] at h; exact h⟩
          rw [hxx] at H2
          clear hxx
          generalize hzz : part4 b (4 * k) (q + 1) = z at *
          go_wp2_with fail
          go_region
          go_wp2
          go_roundw
          case rel =>
            refine ⟨q + 1, by omega, by go_num, ⟨?_, ?_, ?_, ?_⟩⟩
            · exact (Below.heap_setCell _ _ _ _ (by simp; omega)).trans H2.out.1
            · exact (Below.heap_setCell _ _ _ _ (by simp)).trans H2.out.2.1
            · rw [hzz]; exact (HZ.out _ (H2.out.2.2.1.set k _)).below (Below.refl _ _).drew
            · exact (H2.out.2.2.2.setCell (by simp; omega) _).drew
          case measure => simp [intOf]; omega
        · obtain rfl : q = 4 := by omega
          go_wp2_with fail
          go_roundw
          case rel => exact ⟨k + 1, by omega, by go_num, ⟨H2.out.1, H2.out.2.1, by have := H2.out.2.2.1; rw [part4_be, fst16_next b k hlt] at this; exact this, H2.out.2.2.2⟩⟩
          case measure => simp [intOf]; omega
    · obtain rfl : k = 16 := by omega
      have H3 := H
      rw [fst_snd] at H3
      clear H
      obtain ⟨wo, rfl⟩ : ∃ wo : World, wo = wr := ⟨_, rfl⟩
      rw [show ((16 : Nat) : Int) = 16 from rfl]
      go_wp2_with fail
      go_loopw [6] (fun i wr => ∃ (n j : Nat), n ≤ 48 ∧ j = 16 + n ∧ i = .int .i64 (j : Int) ∧ Kp (Box wr w.heap.size 109 (u8s b) ∧ Box wr (w.heap.size + 1) 95 (u32s (List.replicate 64 0)) ∧ Box wr (w.heap.size + 1 + 1) 95 (u32s (snd64 b n)) ∧ Below w.heap.size w wr)) (fun i _ => 64 - (intOf i).toNat)
      case atStart => exact ⟨0, 16, by omega, rfl, rfl, H3⟩
      case round =>
        obtain ⟨n, j, hn, hj, rfl, H⟩ := hrel
        by_cases hlt : n < 48
        · have hlt2 : (j : Int) < 64 := by omega
          have hlen := snd64_len b n (by omega)
          have hgl := grow_len n (w16 b)
          rw [w16_len] at hgl
          have hg := grow_ok n (w16_ok HB.out)
          have hbx := H.out.2.2.1
          have hat : ∀ j, j < 16 + n → (u32s (snd64 b n))[j]? = some (.int .u32 (((grow n (w16 b)).getD j 0 : Nat) : Int)) := fun j hj => by rw [u32s_at _ j (by omega), snd64_at b n j hj]
          have hnx : nextW (grow n (w16 b)) = add32 (add32 (add32 ((grow n (w16 b)).getD n 0) (shift3 ((grow n (w16 b)).getD (n + 1) 0) 7 18 3)) ((grow n (w16 b)).getD (n + 9) 0)) (shift3 ((grow n (w16 b)).getD (n + 14) 0) 17 19 10) := by
            unfold nextW
            rw [hgl, show 16 + n - 16 = n by omega, show 16 + n - 15 = n + 1 by omega, show 16 + n - 7 = n + 9 by omega, show 16 + n - 2 = n + 14 by omega]
          obtain ⟨x0, h0⟩ : ∃ x, (grow n (w16 b)).getD n 0 = x := ⟨_, rfl⟩
          obtain ⟨x1, h1⟩ : ∃ x, (grow n (w16 b)).getD (n + 1) 0 = x := ⟨_, rfl⟩
          obtain ⟨x2, h2⟩ : ∃ x, (grow n (w16 b)).getD (n + 9) 0 = x := ⟨_, rfl⟩
          obtain ⟨x3, h3⟩ : ∃ x, (grow n (w16 b)).getD (n + 14) 0 = x := ⟨_, rfl⟩
          have hat0 := hat n (by omega)
          have hat1 := hat (n + 1) (by omega)
          have hat2 := hat (n + 9) (by omega)
          have hat3 := hat (n + 14) (by omega)
          have hx1 := hg.at (n + 1)
          have hx3 := hg.at (n + 14)
          rw [h0] at hat0
          rw [h1] at hat1 hx1
          rw [h2] at hat2
          rw [h3] at hat3 hx3
          rw [h0, h1, h2, h3] at hnx
          have hold : ∃ v, (u32s (snd64 b n))[16 + n]? = some v := ⟨_, u32s_at _ (16 + n) (by omega)⟩
          obtain ⟨vo, hold⟩ := hold
          have HBX := Kp.mk hbx
          have HC : Kp (∀ W, Box W (w.heap.size + 1 + 1) 95 (u32s (snd64 b n)) → W.cell? ⟨w.heap.size + 1 + 1, n, none⟩ = some (.int .u32 (x0 : Int)) ∧ W.cell? ⟨w.heap.size + 1 + 1, n + 1, none⟩ = some (.int .u32 (x1 : Int)) ∧ W.cell? ⟨w.heap.size + 1 + 1, n + 9, none⟩ = some (.int .u32 (x2 : Int)) ∧ W.cell? ⟨w.heap.size + 1 + 1, n + 14, none⟩ = some (.int .u32 (x3 : Int))) := ⟨fun W hW => ⟨(hW.cell _).trans hat0, (hW.cell _).trans hat1, (hW.cell _).trans hat2, (hW.cell _).trans hat3⟩⟩
          have HO : Kp (∀ W, Box W (w.heap.size + 1 + 1) 95 (u32s (snd64 b n)) → W.cell? ⟨w.heap.size + 1 + 1, 16 + n, none⟩ = some vo ∧ W.frozen? ⟨w.heap.size + 1 + 1, 16 + n, none⟩ = false) := ⟨fun W hW => ⟨(hW.cell _).trans hold, hW.warm _⟩⟩
          have HS1 : Kp (∀ W, Calls Try.prog 95 #[.int .u32 (x1 : Int), .int .i64 7, .int .i64 18, .int .i64 3] W (fun e w' => e = .returned (.int .u32 (shift3 x1 7 18 3 : Int)) ∧ Below W.heap.size W w')) := Kp.mk (fun W => shifted_any W x1 7 18 3 hx1 (by omega) (by omega) (by omega))
          have HS2 : Kp (∀ W, Calls Try.prog 95 #[.int .u32 (x3 : Int), .int .i64 17, .int .i64 19, .int .i64 10] W (fun e w' => e = .returned (.int .u32 (shift3 x3 17 19 10 : Int)) ∧ Below W.heap.size W w')) := Kp.mk (fun W => shifted_any W x3 17 19 10 hx3 (by omega) (by omega) (by omega))
          have HNX := Kp.mk hnx
          have hcd := HC.out _ (hbx.below (Below.refl _ _).drew)
          have HBD := Kp.mk (Below.refl wr.heap.size wr).drew
          have hi1 : (j : Int) - 16 = (n : Int) := by omega
          obtain ⟨n1, hn1⟩ : ∃ m, n + 1 = m := ⟨_, rfl⟩
          obtain ⟨n2, hn2⟩ : ∃ m, n + 9 = m := ⟨_, rfl⟩
          obtain ⟨n3, hn3⟩ : ∃ m, n + 14 = m := ⟨_, rfl⟩
          have hi2 : (j : Int) - 15 = (n1 : Int) := by omega
          have hi3 : (j : Int) - 7 = (n2 : Int) := by omega
          have hi4 : (j : Int) - 2 = (n3 : Int) := by omega
          have hw1 : IntKind.i64.wrap ((j : Int) - 16) = (n : Int) := by rw [IntKind.wrap_i64]; omega
          have hw2 : IntKind.i64.wrap ((j : Int) - 15) = (n1 : Int) := by rw [IntKind.wrap_i64]; omega
          have hw3 : IntKind.i64.wrap ((j : Int) - 7) = (n2 : Int) := by rw [IntKind.wrap_i64]; omega
          have hw4 : IntKind.i64.wrap ((j : Int) - 2) = (n3 : Int) := by rw [IntKind.wrap_i64]; omega
          have hb0 : (n : Int) < 64 := by omega
          have hb1 : (n1 : Int) < 64 := by omega
          have hb2 : (n2 : Int) < 64 := by omega
          have hb3 : (n3 : Int) < 64 := by omega
          rw [← hj] at HO
          simp only [hn1, hn2, hn3] at HC hcd
          have HST : Kp (∀ W v, Box W (w.heap.size + 1 + 1) 95 (u32s (snd64 b n)) → (W.setCell ⟨w.heap.size + 1 + 1, j, none⟩ v).cell? ⟨w.heap.size + 1 + 1, n, none⟩ = some (.int .u32 (x0 : Int)) ∧ (W.setCell ⟨w.heap.size + 1 + 1, j, none⟩ v).cell? ⟨w.heap.size + 1 + 1, n1, none⟩ = some (.int .u32 (x1 : Int)) ∧ (W.setCell ⟨w.heap.size + 1 + 1, j, none⟩ v).cell? ⟨w.heap.size + 1 + 1, n2, none⟩ = some (.int .u32 (x2 : Int)) ∧ (W.setCell ⟨w.heap.size + 1 + 1, j, none⟩ v).cell? ⟨w.heap.size + 1 + 1, n3, none⟩ = some (.int .u32 (x3 : Int))) := ⟨fun W v hW => by
            have h := HC.out W hW
            have hs := hW.set j v
            refine ⟨?_, ?_, ?_, ?_⟩
            · rw [hs.cell, Array.getElem?_setIfInBounds_ne (by omega), ← hW.cell]; exact h.1
            · rw [hs.cell, Array.getElem?_setIfInBounds_ne (by omega), ← hW.cell]; exact h.2.1
            · rw [hs.cell, Array.getElem?_setIfInBounds_ne (by omega), ← hW.cell]; exact h.2.2.1
            · rw [hs.cell, Array.getElem?_setIfInBounds_ne (by omega), ← hW.cell]; exact h.2.2.2⟩
          have HJ := Kp.mk hj
          clear hj hn1 hn2 hn3 hi1 hi2 hi3 hi4
          clear hlen hgl hg hbx hat hnx h0 h1 h2 h3 hat0 hat1 hat2 hat3 hx1 hx3 hold
          go_wp2_with fail
          go_region_held3 (fun W => W.cell? ⟨w.heap.size + 1 + 1, n, none⟩ = some (.int .u32 (x0 : Int)) ∧ W.cell? ⟨w.heap.size + 1 + 1, n1, none⟩ = some (.int .u32 (x1 : Int)) ∧ W.cell? ⟨w.heap.size + 1 + 1, n2, none⟩ = some (.int .u32 (x2 : Int)) ∧ W.cell? ⟨w.heap.size + 1 + 1, n3, none⟩ = some (.int .u32 (x3 : Int))) (first | exact hcd | assumption | exact HST.out _ _ hbx2) (first | (go_at_call 95; refine (HS1.out _).mono ?_; rintro e w1 ⟨rfl, hb1⟩; have hbx1 := HBX.out.below (HBD.out.trans hb1); have hc1 := HC.out _ hbx1; have ho1 := HO.out _ hbx1; have HB1 := Kp.mk hb1; have z := HS1; clear HS1 z hb1) | (go_at_call 95; refine (HS2.out _).mono ?_; rintro e w2 ⟨rfl, hb2⟩; have hbx2 := hbx1.below hb2; have hc2 := HC.out _ hbx2; have ho2 := HO.out _ hbx2; have HB2 := Kp.mk hb2; clear hb2))
          go_wp2
          go_roundw
          case rel =>
            have hv : ((((x0 : Int) + (shift3 x1 7 18 3 : Int)) % 4294967296 + (x2 : Int)) % 4294967296 + (shift3 x3 17 19 10 : Int)) % 4294967296 = ((nextW (grow n (w16 b)) : Nat) : Int) := by
              rw [HNX.out]
              unfold add32
              omega
            rw [hv]
            refine ⟨n + 1, j + 1, by omega, by have := HJ.out; omega, by go_num, ⟨?_, ?_, ?_, ?_⟩⟩
            · have h1 := (H.out.1.below (HBD.out.trans HB1.out)).below HB2.out
              exact (Below.heap_setCell _ _ _ _ (by simp; omega)).trans h1
            · have h1 := (H.out.2.1.below (HBD.out.trans HB1.out)).below HB2.out
              exact (Below.heap_setCell _ _ _ _ (by simp)).trans h1
            · have h1 := hbx2.set j (.int .u32 ((nextW (grow n (w16 b)) : Nat) : Int))
              rw [u32s_set, HJ.out, snd64_next b n hlt] at h1
              rw [HJ.out]
              exact h1
            · have h1 := H.out.2.2.2.trans ((HBD.out.trans HB1.out).mono H.out.2.2.2.size)
              exact (h1.trans (HB2.out.mono h1.size)).setCell (by simp; omega) _
          case measure => simp [intOf]; omega
        · obtain rfl : n = 48 := by omega
          obtain rfl : j = 64 := by omega
          obtain ⟨_, hbr, hbx, hbw⟩ := H.out
          rw [snd64_full] at hbx
          have HIJ : Kp ((Try.prog.info? 95).map (·.size) = some (u32s (sched b)).size) := ⟨by rw [u32s_size, sched_len]; kernel_rfl⟩
          have HSZ : Kp ((u32s (List.replicate 64 0)).size = (u32s (sched b)).size) := ⟨by rw [u32s_size, u32s_size, sched_len]; rfl⟩
          have HONE := Kp.mk (u32s_one (sched b))
          have HBX := Kp.mk hbx
          have HBR := Kp.mk hbr
          have HBW := Kp.mk hbw
          generalize u32s (sched b) = SC at *
          clear hbr hbx hbw H
          go_wp2_with (first | (refine wpList_load_row rfl 95 (.tmp 3) rfl (w.heap.size + 1 + 1) rfl 95 SC (0, 0) _ HBX.out Try.underlying95 rfl HIJ.out ?_) | (refine wpList_store_row rfl 95 (.tmp 2) (.tmp 56) rfl (w.heap.size + 1) SC rfl rfl 95 _ HBR.out HIJ.out HSZ.out HONE.out ?_))
          exact bodyPost_ret (results_cell_row (by rfl) _ _ (w.heap.size + 1) 95 SC _ _ rfl (row_box HBR.out _) Try.underlying95 rfl HIJ.out) rfl ⟨rfl, HBW.out.trans (row_below (by omega) _)⟩


theorem s8_at (s : S8) (i : Nat) (h : i < 8) : (u32s s.l)[i]? = some (.int .u32 ((s.l.getD i 0 : Nat) : Int)) := u32s_at _ i h
theorem bits_not (a : Nat) (ha : a < 4294967296) : bits .xor .u32 IntKind.u32.max (a : Int) = (not32 a : Int) := by
  have h := bits_xor 4294967295 a (by omega) ha
  rw [show IntKind.u32.max = ((4294967295 : Nat) : Int) by decide]
  exact h
theorem add32_mod (x y : Nat) : ((x : Int) + (y : Int)) % 4294967296 = (add32 x y : Int) := by unfold add32; omega

/-- The first i of one row, and from there on another one. -/
def half {α : Type} (P S : List α) (i : Nat) : List α := P.take i ++ S.drop i
theorem half_len {α : Type} {P S : List α} (h : P.length = S.length) (i : Nat) : (half P S i).length = S.length := by
  unfold half
  rw [List.length_append, List.length_take, List.length_drop]
  omega
theorem half_at {α : Type} {P S : List α} (h : P.length = S.length) (i : Nat) (hi : i < S.length) (d : α) : (half P S i).getD i d = S.getD i d := by
  unfold half
  have hl : (P.take i).length = i := by rw [List.length_take]; omega
  rw [List.getD_eq_getElem?_getD, List.getElem?_append_right (by omega), hl, Nat.sub_self, List.getElem?_drop, Nat.add_zero, List.getD_eq_getElem?_getD]
theorem half_next {α : Type} {P S : List α} (h : P.length = S.length) (i : Nat) (hi : i < S.length) (d : α) : (half P S i).set i (P.getD i d) = half P S (i + 1) := by
  unfold half
  have hl : (P.take i).length = i := by rw [List.length_take]; omega
  rw [List.set_append, if_neg (by omega), hl, Nat.sub_self, List.take_succ_eq_append_getElem (by omega), List.append_assoc]
  congr 1
  rw [List.drop_eq_getElem_cons hi, List.set_cons_zero, List.getD_eq_getElem?_getD, List.getElem?_eq_getElem (show i < P.length by omega)]
  rfl
theorem plus_at (s r : S8) : ∀ i, i < 8 → (s.plus r).l.getD i 0 = add32 (s.l.getD i 0) (r.l.getD i 0)
  | 0, _ => rfl
  | 1, _ => rfl
  | 2, _ => rfl
  | 3, _ => rfl
  | 4, _ => rfl
  | 5, _ => rfl
  | 6, _ => rfl
  | 7, _ => rfl
  | n + 8, h => absurd h (by omega)

set_option maxRecDepth 1000000 in
set_option maxHeartbeats 4000000 in
theorem mix_any (w : World) (s : S8) (hs : s.ok) (b : List Int) (hb : Bys b) (hl : b.length = 64) : Calls Try.prog 71 #[.agg (u32s s.l), .agg (u32s kNums), .agg (u8s b)] w (Ans (.agg (u32s (mixS s b).l)) w) := by
  have HIB : Kp ((Try.prog.info? 109).map (·.size) = some (u8s b).size) := ⟨by rw [u8s_size, hl]; kernel_rfl⟩
  have HWD := Kp.mk (fun W => words_any W b hb hl)
  have HSL := Kp.mk (sched_len b)
  have HSO := Kp.mk (sched_ok hb)
  have hmx : mixS s b = s.plus (rnds s (sched b) 64) := rfl
  rw [hmx]
  obtain ⟨ws, hws⟩ : ∃ ws, sched b = ws := ⟨_, rfl⟩
  rw [hws] at HWD HSL HSO ⊢
  clear hmx hws hb hl
  have HIW : Kp ((Try.prog.info? 95).map (·.size) = some (u32s ws).size) := ⟨by rw [u32s_size, HSL.out]; kernel_rfl⟩
  have HSZ : Kp ((u32s (List.replicate 64 0)).size = (u32s ws).size) := ⟨by rw [u32s_size, u32s_size, HSL.out]; rfl⟩
  have HONE := Kp.mk (u32s_one ws)
  have HS := Kp.mk hs
  have HC8 := Kp.mk (s8_at s)
  obtain ⟨S0, hS0⟩ : ∃ S, u32s s.l = S := ⟨_, rfl⟩
  obtain ⟨K0, hK0⟩ : ∃ S, u32s kNums = S := ⟨_, rfl⟩
  rw [hS0, hK0]
  have HS0 := Kp.mk hS0
  have HK0 := Kp.mk hK0
  clear hs hS0 hK0
  go_enter Try.func71, Try.ntmps71
  go_wp2_with (first | (refine wpList_load_row rfl 109 (.tmp 5) rfl (w.heap.size + 1 + 1) rfl 109 (u8s b) (0, 0) _ ((Box.new (n := w.heap.size + 1 + 1) (by simp) rfl).below ((Below.refl _ _).alloc (Nat.le_refl _) _)) Try.underlying109 rfl HIB.out ?_))
  refine (HWD.out _).mono ?_
  rintro e w1 ⟨rfl, hb1⟩
  have hx0 := ((Box.new (w := w) (t := 97) (cs := S0) rfl rfl).below ((((Below.refl _ _).alloc (by simp) _).alloc (by simp) _).alloc (by simp) _)).below hb1
  have hx1 := ((Box.new (w := w.alloc (.cells S0 97)) (t := 95) (cs := K0) (n := w.heap.size + 1) (by simp) rfl).below (((Below.refl _ _).alloc (by simp) _).alloc (by simp) _)).below hb1
  have hx3 := ((Box.new (w := ((w.alloc (.cells S0 97)).alloc (.cells K0 95)).alloc (.cells (u8s b) 109)) (t := 97) (cs := u32s (List.replicate 8 0)) (n := w.heap.size + 1 + 1 + 1) (by simp) rfl)).below hb1
  have hbw : Below w.heap.size w w1 := ((((Below.refl _ _).alloc (Nat.le_refl _) _).alloc (by simp) _).alloc (by simp; omega) _).alloc (by simp; omega) _ |>.trans (hb1.mono (by simp; omega))
  have hsz : w.heap.size + 1 + 1 + 1 < w1.heap.size := by have := hb1.size; simp at this; omega
  have ha : Below w1.heap.size w1 (w1.alloc (.cells (u32s ws) 95)) := (Below.refl _ _).alloc (Nat.le_refl _) _
  have HX : Kp (∀ W, Below (w1.heap.size + 1) (w1.alloc (.cells (u32s ws) 95)) W → Box W w.heap.size 97 S0 ∧ Box W (w.heap.size + 1) 95 K0 ∧ Box W (w.heap.size + 1 + 1 + 1) 97 (u32s (List.replicate 8 0)) ∧ Box W w1.heap.size 95 (u32s ws) ∧ Below w.heap.size w W) := ⟨fun W hW => by
    have hW' : Below (w1.alloc (.cells (u32s ws) 95)).heap.size (w1.alloc (.cells (u32s ws) 95)) W := by simpa using hW
    exact ⟨(hx0.below ha).below hW', (hx1.below ha).below hW', (hx3.below ha).below hW', (Box.fresh _ _ _).below hW', hbw.trans ((ha.mono (by omega)).trans (hW.mono (by omega)))⟩⟩
  have HSZ1 := Kp.mk hsz
  have hc : ∀ i, i < 8 → (w1.alloc (.cells (u32s ws) 95)).cell? ⟨w.heap.size, i, none⟩ = some (.int .u32 ((s.l.getD i 0 : Nat) : Int)) := fun i hi => by
    rw [(HX.out _ (Below.refl _ _)).1.cell, ← HS0.out]
    exact HC8.out i hi
  have c0 : _ = some (Value.int .u32 (s.a : Int)) := hc 0 (by omega)
  have c1 : _ = some (Value.int .u32 (s.b : Int)) := hc 1 (by omega)
  have c2 : _ = some (Value.int .u32 (s.c : Int)) := hc 2 (by omega)
  have c3 : _ = some (Value.int .u32 (s.d : Int)) := hc 3 (by omega)
  have c4 : _ = some (Value.int .u32 (s.e : Int)) := hc 4 (by omega)
  have c5 : _ = some (Value.int .u32 (s.f : Int)) := hc 5 (by omega)
  have c6 : _ = some (Value.int .u32 (s.g : Int)) := hc 6 (by omega)
  have c7 : _ = some (Value.int .u32 (s.h : Int)) := hc 7 (by omega)
  clear hb1 hx0 hx1 hx3 hbw hsz ha hc
  go_wp2_with (refine wpList_store_fresh rfl 95 (.tmp 7) (.tmp 24) rfl _ (u32s ws) w1.heap.size rfl rfl rfl HIW.out HSZ.out HONE.out ?_)
  go_quiet (fail)
  go_wp2_with fail
  go_quiet (fail)
  go_wp2_with fail
  have HBQ : Kp (∀ p q : Nat, Below (w1.heap.size + 1) (w1.alloc (.cells (u32s ws) 95)) (((w1.alloc (.cells (u32s ws) 95)).drewN p).drewN q)) := ⟨fun p q => ⟨rfl, rfl, rfl, Nat.le_refl _, fun _ _ => rfl⟩⟩
  clear c0 c1 c2 c3 c4 c5 c6 c7
  go_loopw [8, 9, 10, 11, 12, 13, 14, 15, 41] (fun va vb vc vd ve vf vg vh i wr => ∃ n : Nat, n ≤ 64 ∧ i = .int .i64 n ∧ va = .int .u32 ((rnds s ws n).a : Int) ∧ vb = .int .u32 ((rnds s ws n).b : Int) ∧ vc = .int .u32 ((rnds s ws n).c : Int) ∧ vd = .int .u32 ((rnds s ws n).d : Int) ∧ ve = .int .u32 ((rnds s ws n).e : Int) ∧ vf = .int .u32 ((rnds s ws n).f : Int) ∧ vg = .int .u32 ((rnds s ws n).g : Int) ∧ vh = .int .u32 ((rnds s ws n).h : Int) ∧ Kp (Below (w1.heap.size + 1) (w1.alloc (.cells (u32s ws) 95)) wr)) (fun _ _ _ _ _ _ _ _ i _ => 64 - (intOf i).toNat)
  case atStart => exact ⟨0, by omega, rfl, rfl, rfl, rfl, rfl, rfl, rfl, rfl, rfl, ⟨HBQ.out _ _⟩⟩
  case round =>
    obtain ⟨n, hn, rfl, rfl, rfl, rfl, rfl, rfl, rfl, rfl, rfl, H⟩ := hrel
    by_cases hlt : n < 64
    · have hlt2 : (n : Int) < 64 := by omega
      have ho := rnds_ok HS.out ws n
      have hnext : rnds s ws (n + 1) = (rnds s ws n).rnd (kNums.getD n 0) (ws.getD n 0) := rfl
      obtain ⟨R, hR⟩ : ∃ R, rnds s ws n = R := ⟨_, rfl⟩
      rw [hR] at ho
      simp only [hR]
      obtain ⟨ra, rb, rc, rd, re, rf, rg, rh⟩ := R
      have HOK := Kp.mk ho
      obtain ⟨k, hk⟩ : ∃ k, kNums.getD n 0 = k := ⟨_, rfl⟩
      obtain ⟨v, hv⟩ : ∃ v, ws.getD n 0 = v := ⟨_, rfl⟩
      rw [hk, hv] at hnext
      have HNX := Kp.mk (hnext.trans (congrArg (fun z => S8.rnd z k v) hR))
      have hxx := HX.out wr H.out
      have hck := hxx.2.1.cell n
      rw [← HK0.out, u32s_at kNums n hlt, hk] at hck
      have hcw := hxx.2.2.2.1.cell n
      rw [u32s_at ws n (by rw [HSL.out]; exact hlt), hv] at hcw
      have e1 := bits_and re rf ho.e ho.f
      have e2 := bits_not re ho.e
      have e3 := bits_and (not32 re) rg (not32_lt ho.e) ho.g
      have e4 := bits_xor (re &&& rf) (not32 re &&& rg) (and32 ho.f) (and32 ho.g)
      have m1 := bits_and ra rb ho.a ho.b
      have m2 := bits_and ra rc ho.a ho.c
      have m3 := bits_xor (ra &&& rb) (ra &&& rc) (and32 ho.b) (and32 ho.c)
      have m4 := bits_and rb rc ho.b ho.c
      have m5 := bits_xor ((ra &&& rb) ^^^ (ra &&& rc)) (rb &&& rc) (xor32 (and32 ho.b) (and32 ho.c)) (and32 ho.c)
      have T1 : Kp (∀ W : World, Calls Try.prog 86 #[.int .u32 (re : Int), .int .i64 6, .int .i64 11, .int .i64 25] W (fun e w' => e = .returned (.int .u32 (turn3 re 6 11 25 : Int)) ∧ w' = W)) := ⟨fun W => turned_any W re 6 11 25 ho.e (by omega) (by omega) (by omega)⟩
      have T2 : Kp (∀ W : World, Calls Try.prog 86 #[.int .u32 (ra : Int), .int .i64 2, .int .i64 13, .int .i64 22] W (fun e w' => e = .returned (.int .u32 (turn3 ra 2 13 22 : Int)) ∧ W = w')) := ⟨fun W => (turned_any W ra 2 13 22 ho.a (by omega) (by omega) (by omega)).mono fun e w' h => ⟨h.1, h.2.symm⟩⟩
      have HT : Kp (S8.t ⟨ra, rb, rc, rd, re, rf, rg, rh⟩ k v = add32 (add32 (add32 (add32 rh (turn3 re 6 11 25)) (ch re rf rg)) k) v) := ⟨rfl⟩
      have HU : Kp (S8.u ⟨ra, rb, rc, rd, re, rf, rg, rh⟩ = add32 (turn3 ra 2 13 22) (maj ra rb rc)) := ⟨rfl⟩
      rw [show (re &&& rf) ^^^ (not32 re &&& rg) = ch re rf rg from rfl] at e4
      rw [show (ra &&& rb) ^^^ (ra &&& rc) ^^^ (rb &&& rc) = maj ra rb rc from rfl] at m5
      generalize turn3 re 6 11 25 = t1 at *
      generalize turn3 ra 2 13 22 = t2 at *
      generalize ch re rf rg = cc at *
      generalize maj ra rb rc = mm at *
      generalize (ra &&& rb) ^^^ (ra &&& rc) = n3 at *
      generalize re &&& rf = n1 at *
      generalize not32 re &&& rg = n2 at *
      generalize not32 re = n4 at *
      generalize ra &&& rb = n5 at *
      generalize ra &&& rc = n6 at *
      generalize rb &&& rc = n7 at *
      have a1 := add32_wrap rh t1
      generalize add32 rh t1 = y1 at *
      have a2 := add32_wrap y1 cc
      generalize add32 y1 cc = y2 at *
      have a3 := add32_wrap y2 k
      generalize add32 y2 k = y3 at *
      have a4 := add32_wrap y3 v
      generalize add32 y3 v = y4 at *
      have a5 := add32_mod t2 mm
      generalize add32 t2 mm = y5 at *
      have a6 := add32_mod rd y4
      have a7 := add32_mod y4 y5
      have HRN : Kp (S8.rnd ⟨ra, rb, rc, rd, re, rf, rg, rh⟩ k v = ⟨add32 y4 y5, ra, rb, rc, add32 rd y4, re, rf, rg⟩) := ⟨by
        unfold S8.rnd
        rw [HT.out, HU.out]⟩
      generalize add32 y4 y5 = y7 at *
      generalize add32 rd y4 = y6 at *
      clear ho hR hnext hxx hk hv
      go_wp2_with fail
      go_quiet ((go_at_call 86; exact Calls.quiet_of_same (T1.out _)))
      go_wp2_with fail
      refine (T2.out _).mono ?_
      rintro e w' ⟨rfl, rfl⟩
      go_wp2_with fail
      go_roundw
      case rel =>
        refine ⟨n + 1, by omega, by go_num, ?_, ?_, ?_, ?_, ?_, ?_, ?_, ?_, ⟨H.out.trans ⟨rfl, rfl, rfl, Nat.le_refl _, fun _ _ => rfl⟩⟩⟩
        all_goals rw [HNX.out, HRN.out]
        · rw [a7]
        · rw [a6]
      case measure => simp [intOf]; omega
    · obtain rfl : n = 64 := by omega
      obtain ⟨hx0, _, hx3, _, hbw⟩ := HX.out wr H.out
      obtain ⟨R, hR⟩ : ∃ R, rnds s ws 64 = R := ⟨_, rfl⟩
      simp only [hR]
      have HR := Kp.mk hR
      rw [← HS0.out] at hx0
      have HST := Kp.mk (And.intro hx0 (And.intro hx3 hbw))
      have hPS : (s.plus R).l.length = s.l.length := rfl
      clear hx0 hx3 hbw H hR
      obtain ⟨wo, rfl⟩ : ∃ wo : World, wo = wr := ⟨_, rfl⟩
      rw [show ((64 : Nat) : Int) = 64 from rfl]
      go_wp2_with fail
      go_loopw [103] (fun i wr => ∃ n : Nat, n ≤ 8 ∧ i = .int .i64 n ∧ Kp (Box wr w.heap.size 97 (u32s (half (s.plus R).l s.l n)) ∧ Box wr (w.heap.size + 1 + 1 + 1) 97 (u32s (List.replicate 8 0)) ∧ Below w.heap.size w wr)) (fun i _ => 8 - (intOf i).toNat)
      case atStart => exact ⟨0, by omega, rfl, ⟨HST.out.1, HST.out.2.1, HST.out.2.2⟩⟩
      case round =>
        obtain ⟨n, hn, rfl, H⟩ := hrel
        by_cases hlt : n < 8
        · have hlt2 : (n : Int) < 8 := by omega
          have hc := H.out.1.cell n
          have hlen : (half (s.plus R).l s.l n).length = 8 := half_len hPS n
          rw [u32s_at _ n (by rw [hlen]; exact hlt), half_at hPS n hlt 0] at hc
          have hf := H.out.1.warm n
          have hix := fun W : World => run_index_row (W := W) 97 26 8 (u32s R.l) n _ Try.underlying97 hlt size_u32 agg_u32 (s8_at R n hlt)
          rw [show u32s R.l = #[.int .u32 (R.a : Int), .int .u32 (R.b : Int), .int .u32 (R.c : Int), .int .u32 (R.d : Int), .int .u32 (R.e : Int), .int .u32 (R.f : Int), .int .u32 (R.g : Int), .int .u32 (R.h : Int)] from rfl] at hix
          have hp := plus_at s R n hlt
          obtain ⟨x, hx⟩ : ∃ x, s.l.getD n 0 = x := ⟨_, rfl⟩
          obtain ⟨y, hy⟩ : ∃ y, R.l.getD n 0 = y := ⟨_, rfl⟩
          rw [hx] at hc hp
          rw [hy] at hix hp
          have ha := add32_mod x y
          rw [← hp] at ha
          have HN := Kp.mk (half_next hPS n hlt 0)
          generalize (s.plus R).l.getD n 0 = z at *
          clear hx hy hp hlen
          go_wp2_with fail
          go_roundw
          case rel =>
            refine ⟨n + 1, by omega, by go_num, ⟨?_, ?_, ?_⟩⟩
            · have h1 := H.out.1.set n (.int .u32 (z : Int))
              rw [u32s_set, HN.out] at h1
              exact h1
            · exact (Below.heap_setCell _ _ _ _ (by simp; omega)).trans H.out.2.1
            · exact H.out.2.2.setCell (by simp) _
          case measure => simp [intOf]; omega
        · obtain rfl : n = 8 := by omega
          obtain ⟨hx0, hx3, hbw⟩ := H.out
          rw [show half (s.plus R).l s.l 8 = (s.plus R).l from rfl] at hx0
          have HSC : Kp (u32s (s.plus (rnds s ws 64)).l = u32s (s.plus R).l) := ⟨by rw [HR.out]⟩
          have HIJ : Kp ((Try.prog.info? 97).map (·.size) = some (u32s (s.plus R).l).size) := ⟨by rw [u32s_size]; kernel_rfl⟩
          have HSZ2 : Kp ((u32s (List.replicate 8 0)).size = (u32s (s.plus R).l).size) := ⟨by rw [u32s_size, u32s_size]; rfl⟩
          have HONE2 := Kp.mk (u32s_one (s.plus R).l)
          have HBX := Kp.mk hx0
          have HBR := Kp.mk hx3
          have HBW := Kp.mk hbw
          generalize u32s (s.plus R).l = SC at *
          clear hx0 hx3 hbw H
          go_wp2_with (first | (refine wpList_load_row rfl 97 (.tmp 3) rfl w.heap.size rfl 97 SC (0, 0) _ HBX.out Try.underlying97 rfl HIJ.out ?_) | (refine wpList_store_row rfl 97 (.tmp 6) (.tmp 114) rfl (w.heap.size + 1 + 1 + 1) SC rfl rfl 97 _ HBR.out HIJ.out HSZ2.out HONE2.out ?_))
          exact bodyPost_ret (results_cell_row (by rfl) _ _ (w.heap.size + 1 + 1 + 1) 97 SC _ _ rfl (row_box HBR.out _) Try.underlying97 rfl HIJ.out) rfl ⟨by rw [HSC.out], HBW.out.trans (row_below (by omega) _)⟩


theorem res_cell_row2 {P : Program} {fn : Func} {p u : Tmp} {ty : TypeId} (h : fn.results = #[.cell p ty, .tmp u]) (tmps : Array Value) (w : World) (g : Nat) (t : TypeId) (cs : Array Value) (fr : Nat × Nat) (d : TypeDesc) (b : Value)
    (hp : tmps.getD p undef = .pointer (some ⟨g, 0, none⟩)) (hb : tmps.getD u undef = b) (hg : w.heap[g]? = some (.cells cs t fr))
    (hu : P.underlying ty = some d) (hd : (match d with | .struct _ | .array _ _ => true | _ => false) = true) (hi : (P.info? ty).map (·.size) = some cs.size) :
    (results fn tmps).run P w = .ok (.tuple #[.agg cs, b]) w := by
  rw [results_cell_tmp h, hp, hb]
  simp [asAddr, run_loadVar_row w g t ty cs fr d hg hu hd hi]

/-- How far the message's last part goes. -/
def padSz (n : Nat) : Nat := if n < 56 then 64 else 128
/-- The end of a message, when i bytes of its length stand. -/
def padMid (l : List Int) (n i : Nat) : List Int := l ++ [128] ++ List.replicate (padSz l.length - 1 - l.length - i) 0 ++ beb n i ++ List.replicate (128 - padSz l.length) 0
def padEnd (l : List Int) (n : Nat) : List Int := padMid l n 8
theorem padSz_le (n : Nat) (h : n ≤ 63) : n + 9 ≤ padSz n ∧ padSz n ≤ 128 := by unfold padSz; split <;> omega
theorem padMid_len (l : List Int) (n i : Nat) (h : l.length ≤ 63) (hi : i ≤ 8) : (padMid l n i).length = 128 := by
  have := padSz_le l.length h
  unfold padMid
  simp [beb_len]
  omega
theorem rep_last (m : Nat) (y : Int) (r : List Int) (k : Nat) (hk : k = m) : (List.replicate (m + 1) (0 : Int) ++ r).set k y = List.replicate m 0 ++ y :: r := by
  subst hk
  rw [List.replicate_succ', List.append_assoc, List.set_append, if_neg (by simp)]
  simp
theorem padMid_set (l : List Int) (n i : Nat) (h : l.length ≤ 63) (hi : i < 8) : (padMid l n i).set (padSz l.length - 1 - i) ((n / 256 ^ i % 256 : Nat) : Int) = padMid l n (i + 1) := by
  have hs := padSz_le l.length h
  unfold padMid
  have e : padSz l.length - 1 - l.length - i = (padSz l.length - 1 - l.length - (i + 1)) + 1 := by omega
  rw [e, List.append_assoc, List.append_assoc, List.append_assoc, List.set_append, if_neg (by omega), List.append_assoc, List.append_assoc, List.append_assoc]
  congr 1
  rw [List.set_append, if_neg (by simp; omega)]
  congr 1
  rw [rep_last _ _ _ _ (by simp; omega)]
  simp [beb]
theorem padMid_zero (l : List Int) (n : Nat) (h : l.length ≤ 63) : (l ++ List.replicate (128 - l.length) 0).set l.length 128 = padMid l n 0 := by
  have hs := padSz_le l.length h
  unfold padMid
  rw [List.set_append, if_neg (by omega), Nat.sub_self, show 128 - l.length = (127 - l.length) + 1 by omega, List.replicate_succ, List.set_cons_zero]
  simp only [beb, List.append_nil, List.append_assoc, List.cons_append, List.nil_append]
  congr 2
  rw [List.replicate_append_replicate]
  congr 1
  omega

theorem spliced (m : Nat) (l : List Int) : (splice (byteVals (List.replicate m 0)) 0 (byteVals l)).toArray = u8s (l ++ List.replicate (m - l.length) 0) := by
  simp [splice, u8s, byteVals, List.drop_replicate]

set_option maxRecDepth 1000000 in
set_option maxHeartbeats 4000000 in
theorem pad_any (w : World) (v : Value) (l : List Int) (n : Nat) (hs : Sl w w.heap.size v l) (hl : l.length ≤ 63) (hn : n < 18446744073709551616) :
    Calls Try.prog 72 #[v, .int .u64 (n : Int)] w (Ans (.tuple #[.agg (u8s (padEnd l n)), .bool (decide (56 ≤ l.length))]) w) := by
  have HSL := Kp.mk hs
  have HLN := Kp.mk hl
  have HN := Kp.mk hn
  obtain ⟨A, c, rfl, hc, hnn, hr⟩ := hs
  clear hnn hr hn
  go_enter Try.func72, Try.ntmps72
  go_wp2_with (refine wpList_copy_splice (o := ⟨some 12, _, _, _, _, _⟩) rfl (.tmp 10) (.tmp 11) 55 55 rfl 5 Try.underlying55 (by kernel_rfl) _ _ _ _ _ _ rfl rfl (w.heap.size + 1) 0 (byteVals (List.replicate 128 0)) 110 ?c1 (byteVals l) ?c2 ?c3 ?c4 ?c5 (w.heap.size + 1) (w.alloc (.cells (u8s (List.replicate 128 0)) 110)) ?c6 ?c7 ?_)
  case c1 => exact Box.new (t := 110) (cs' := (byteVals (List.replicate 128 0)).toArray) (by simp) rfl
  case c2 =>
    simp only [byteVals, List.length_map]
    have := HLN.out
    exact (Nat.min_eq_left this).symm
  case c3 =>
    intro hp
    obtain ⟨A', c', e, _, _, hr⟩ := (HSL.out.below (((Below.refl _ _).alloc (Nat.le_refl _) (.cells (u8s (List.replicate 128 0)) 110)).alloc (by simp) (.cells (u8s (List.replicate 128 0)) 110)))
    injection e with e1 e2 e3
    subst e1; subst e3
    obtain ⟨b, off, rfl, _, _, hrun⟩ := hr (by rintro rfl; simp [byteVals] at hp)
    refine ⟨⟨b, off, none⟩, rfl, fun j v hv => ?_⟩
    obtain ⟨hj, rfl⟩ := byteVals_at l j v hv
    have := hrun j hj
    rw [← this]
    by_cases h0 : j = 0 <;> simp [Addr.add, h0] <;> rfl
  case c4 => simp [byteVals]; omega
  case c5 => exact byteVals_one l
  case c6 => exact (Below.refl _ _).alloc (by simp) _
  case c7 => omega
  intro w1 hg1 hb1
  have hx1 : Box w1 (w.heap.size + 1) 110 (u8s (l ++ List.replicate (128 - l.length) 0)) := by
    have h : w1.heap[w.heap.size + 1]? = some (.cells (splice (byteVals (List.replicate 128 0)) 0 (byteVals l)).toArray 110 (0, 0)) := hg1.out
    rw [spliced] at h
    exact h
  have hx0 : Box w1 w.heap.size 110 (u8s (List.replicate 128 0)) := (Box.new (w := w) rfl rfl).below (by simpa using hb1)
  have hbw : Below w.heap.size w w1 := ((Below.refl _ _).alloc (Nat.le_refl _) _).trans (hb1.mono (by omega))
  have hlen : (byteVals l).length = l.length := by simp [byteVals]
  rw [hlen]
  have hc1 := hx1.cell l.length
  rw [u8s_at _ l.length (by simp; omega)] at hc1
  have hf1 := hx1.warm l.length
  have hx2 := hx1.set l.length (.int .u8 128)
  rw [u8s_set, padMid_zero l n HLN.out] at hx2
  have HX2 := Kp.mk hx2
  have HX0 := Kp.mk ((Below.heap_setCell w1 ⟨w.heap.size + 1, l.length, none⟩ (.int .u8 128) w.heap.size (by simp)).trans hx0)
  have HBW := Kp.mk (hbw.setCell (p := ⟨w.heap.size + 1, l.length, none⟩) (by simp) (.int .u8 128))
  have hl128 : (l.length : Int) < 128 := by omega
  clear hx1 hx0 hbw hlen hx2 hg1 hb1
  have HRES : Kp (padSz l.length = 64 ∧ decide (56 ≤ l.length) = false ∨ padSz l.length = 128 ∧ decide (56 ≤ l.length) = true) := ⟨by
    unfold padSz
    by_cases h : l.length < 56
    · rw [if_pos h]; exact .inl ⟨rfl, by simp; omega⟩
    · rw [if_neg h]; exact .inr ⟨rfl, by simp; omega⟩⟩
  have HIJ : Kp ((Try.prog.info? 110).map (·.size) = some (u8s (padEnd l n)).size) := ⟨by rw [u8s_size, padEnd, padMid_len l n 8 HLN.out (by omega)]; kernel_rfl⟩
  have HSZ2 : Kp ((u8s (List.replicate 128 0)).size = (u8s (padEnd l n)).size) := ⟨by rw [u8s_size, u8s_size, padEnd, padMid_len l n 8 HLN.out (by omega)]; rfl⟩
  have HONE2 := Kp.mk (u8s_one (padEnd l n))
  by_cases h56 : l.length < 56
  · have hi56 : (l.length : Int) < 56 := by omega
    have hsz : padSz l.length = 64 := by unfold padSz; rw [if_pos h56]
    have HD : Kp (decide (56 ≤ l.length) = false) := ⟨by simp; omega⟩
    have hd : decide (56 ≤ (l.length : Int)) = false := by simp; omega
    have HPS := Kp.mk (show padSz l.length = 64 from hsz)
    clear hsz h56 HRES
    go_wp2_with fail
    go_loopw [17] (fun i wr => ∃ q : Nat, q ≤ 8 ∧ i = .int .i64 q ∧ Kp (Box wr (w.heap.size + 1) 110 (u8s (padMid l n q)) ∧ Box wr w.heap.size 110 (u8s (List.replicate 128 0)) ∧ Below w.heap.size w wr)) (fun i _ => 8 - (intOf i).toNat)
    case atStart => exact ⟨0, by omega, rfl, ⟨HX2.out, HX0.out, HBW.out⟩⟩
    case round =>
      obtain ⟨q, hq, rfl, H⟩ := hrel
      by_cases hlt : q < 8
      · have hlt2 : (q : Int) < 8 := by omega
        obtain ⟨p, hp⟩ : ∃ p : Nat, 64 - 1 - q = p := ⟨_, rfl⟩
        obtain ⟨m, hm⟩ : ∃ m : Nat, 8 * q = m := ⟨_, rfl⟩
        have hpi : 63 - (q : Int) = (p : Int) := by omega
        have hmi : 8 * (q : Int) = (m : Int) := by omega
        have hm64 : m < 64 := by omega
        have hp128 : (p : Int) < 128 := by omega
        have hc := H.out.1.cell p
        rw [u8s_at _ p (by rw [padMid_len l n q HLN.out (by omega)]; omega)] at hc
        have hf := H.out.1.warm p
        obtain ⟨y, hy⟩ : ∃ y, IntKind.u8.wrap ((n : Int) / 2 ^ m) = y := ⟨_, rfl⟩
        have HY : Kp (y = ((n / 256 ^ q % 256 : Nat) : Int)) := ⟨by
          rw [← hy, IntKind.wrap_u8, pow256, hm]
          simp⟩
        have HP := Kp.mk (show padSz l.length - 1 - q = p by rw [HPS.out]; exact hp)
        clear hp hm
        go_wp2_with fail
        go_roundw
        case rel =>
          refine ⟨q + 1, by omega, by go_num, ⟨?_, ?_, ?_⟩⟩
          · have h1 := H.out.1.set p (.int .u8 y)
            rw [u8s_set, HY.out, ← HP.out, padMid_set l n q HLN.out hlt, HP.out, ← HY.out] at h1
            exact h1
          · exact (Below.heap_setCell _ _ _ _ (by simp)).trans H.out.2.1
          · exact H.out.2.2.setCell (by simp) _
        case measure => simp [intOf]; omega
      · obtain rfl : q = 8 := by omega
        obtain ⟨hx0, hx3, hbw⟩ := H.out
        rw [show padMid l n 8 = padEnd l n from rfl] at hx0
        have HBX := Kp.mk hx0
        have HBR := Kp.mk hx3
        have HBW3 := Kp.mk hbw
        have HSC : Kp (∃ z, z = u8s (padEnd l n)) := ⟨_, rfl⟩
        generalize u8s (padEnd l n) = SC at *
        clear hx0 hx3 hbw H
        go_wp2_with (first | (refine wpList_load_row rfl 110 (.tmp 6) rfl (w.heap.size + 1) rfl 110 SC (0, 0) _ HBX.out Try.underlying110 rfl HIJ.out ?_) | (refine wpList_store_row rfl 110 (.tmp 4) (.tmp 31) rfl w.heap.size SC rfl rfl 110 _ HBR.out HIJ.out HSZ2.out HONE2.out ?_))
        exact bodyPost_ret (res_cell_row2 (p := 4) (u := 5) (by rfl) _ _ w.heap.size 110 SC _ _ (.bool false) rfl rfl (row_box HBR.out _) Try.underlying110 rfl HIJ.out) rfl ⟨by rw [HD.out], HBW3.out.trans (row_below (by omega) _)⟩
  · have hi56 : 56 ≤ (l.length : Int) := by omega
    have hsz : padSz l.length = 128 := by unfold padSz; rw [if_neg h56]
    have HD : Kp (decide (56 ≤ l.length) = true) := ⟨by simp; omega⟩
    have hd : decide (56 ≤ (l.length : Int)) = true := by simp; omega
    have HPS := Kp.mk (show padSz l.length = 128 from hsz)
    clear hsz h56 HRES
    go_wp2_with fail
    go_loopw [17] (fun i wr => ∃ q : Nat, q ≤ 8 ∧ i = .int .i64 q ∧ Kp (Box wr (w.heap.size + 1) 110 (u8s (padMid l n q)) ∧ Box wr w.heap.size 110 (u8s (List.replicate 128 0)) ∧ Below w.heap.size w wr)) (fun i _ => 8 - (intOf i).toNat)
    case atStart => exact ⟨0, by omega, rfl, ⟨HX2.out, HX0.out, HBW.out⟩⟩
    case round =>
      obtain ⟨q, hq, rfl, H⟩ := hrel
      by_cases hlt : q < 8
      · have hlt2 : (q : Int) < 8 := by omega
        obtain ⟨p, hp⟩ : ∃ p : Nat, 128 - 1 - q = p := ⟨_, rfl⟩
        obtain ⟨m, hm⟩ : ∃ m : Nat, 8 * q = m := ⟨_, rfl⟩
        have hpi : 127 - (q : Int) = (p : Int) := by omega
        have hmi : 8 * (q : Int) = (m : Int) := by omega
        have hm64 : m < 64 := by omega
        have hp128 : (p : Int) < 128 := by omega
        have hc := H.out.1.cell p
        rw [u8s_at _ p (by rw [padMid_len l n q HLN.out (by omega)]; omega)] at hc
        have hf := H.out.1.warm p
        obtain ⟨y, hy⟩ : ∃ y, IntKind.u8.wrap ((n : Int) / 2 ^ m) = y := ⟨_, rfl⟩
        have HY : Kp (y = ((n / 256 ^ q % 256 : Nat) : Int)) := ⟨by
          rw [← hy, IntKind.wrap_u8, pow256, hm]
          simp⟩
        have HP := Kp.mk (show padSz l.length - 1 - q = p by rw [HPS.out]; exact hp)
        clear hp hm
        go_wp2_with fail
        go_roundw
        case rel =>
          refine ⟨q + 1, by omega, by go_num, ⟨?_, ?_, ?_⟩⟩
          · have h1 := H.out.1.set p (.int .u8 y)
            rw [u8s_set, HY.out, ← HP.out, padMid_set l n q HLN.out hlt, HP.out, ← HY.out] at h1
            exact h1
          · exact (Below.heap_setCell _ _ _ _ (by simp)).trans H.out.2.1
          · exact H.out.2.2.setCell (by simp) _
        case measure => simp [intOf]; omega
      · obtain rfl : q = 8 := by omega
        obtain ⟨hx0, hx3, hbw⟩ := H.out
        rw [show padMid l n 8 = padEnd l n from rfl] at hx0
        have HBX := Kp.mk hx0
        have HBR := Kp.mk hx3
        have HBW3 := Kp.mk hbw
        have HSC : Kp (∃ z, z = u8s (padEnd l n)) := ⟨_, rfl⟩
        generalize u8s (padEnd l n) = SC at *
        clear hx0 hx3 hbw H
        go_wp2_with (first | (refine wpList_load_row rfl 110 (.tmp 6) rfl (w.heap.size + 1) rfl 110 SC (0, 0) _ HBX.out Try.underlying110 rfl HIJ.out ?_) | (refine wpList_store_row rfl 110 (.tmp 4) (.tmp 31) rfl w.heap.size SC rfl rfl 110 _ HBR.out HIJ.out HSZ2.out HONE2.out ?_))
        exact bodyPost_ret (res_cell_row2 (p := 4) (u := 5) (by rfl) _ _ w.heap.size 110 SC _ _ (.bool true) rfl rfl (row_box HBR.out _) Try.underlying110 rfl HIJ.out) rfl ⟨by rw [HD.out], HBW3.out.trans (row_below (by omega) _)⟩


theorem heldMore8 {P : Program} {md : Region.Mode} {ops : Array Oper} {Q : Exit → Act → World → Prop} {S S2 : World → Prop} (hS : ∀ w, S2 w → S w) :
    ∀ (fuel : Nat) (listed : Array Bool) (a : Act) (w : World), wpAnyH P md ops Q S2 fuel listed a w → wpAnyH P md ops Q S fuel listed a w
  | 0, _, _, _, h => h
  | fuel + 1, _, _, _, h => ⟨h.1, fun i hi => wpOp_mono (fun _ _ h' => ⟨hS _ h'.1, heldMore8 hS fuel _ _ _ h'.2⟩) (h.2 i hi)⟩

/-- Bytes that a slice reads lie in a range. -/
theorem Run.range {w : World} {b off : Nat} {l : List Int} (h : Run w b off l) : w.rangeAt b off (byteVals l) := fun j v hv => by
  obtain ⟨hj, rfl⟩ := byteVals_at l j v hv
  exact h j hj
theorem Run.mid {w : World} {b off : Nat} {l : List Int} (h : Run w b off l) (p n : Nat) : Run w b (off + p) ((l.drop p).take n) := (h.drop p).take n
theorem row_range {w : World} {g t : Nat} {cs : Array Value} (h : Box w g t cs) : w.rangeAt g 0 cs.toList := fun j v hv => by
  rw [Nat.zero_add, h.cell]
  simpa using hv
theorem absorb_congr (s : S8) (m m' : List Int) : ∀ n, (∀ i, i < n → (m.drop (64 * i)).take 64 = (m'.drop (64 * i)).take 64) → absorb s m n = absorb s m' n
  | 0, _ => rfl
  | n + 1, h => by
    rw [absorb, absorb, absorb_congr s m m' n (fun i hi => h i (by omega)), h n (by omega)]
theorem padEnd_take (r : List Int) (n : Nat) (h : r.length ≤ 63) : (padEnd r n).take (padSz r.length) = r ++ [128] ++ List.replicate (padSz r.length - 9 - r.length) 0 ++ beb n 8 := by
  have hs := padSz_le r.length h
  unfold padEnd padMid
  rw [show padSz r.length - 1 - r.length - 8 = padSz r.length - 9 - r.length by omega, List.take_append_of_le_length (by simp [beb_len]; omega), List.take_of_length_le (by simp [beb_len]; omega)]
theorem padded_eq (l : List Int) (q : Nat) (hq : l.length / 64 = q) : padded l = l.take (64 * q) ++ (padEnd (l.drop (64 * q)) (l.length * 8)).take (padSz (l.drop (64 * q)).length) := by
  have hr : (l.drop (64 * q)).length = l.length - 64 * q := List.length_drop
  rw [padEnd_take _ _ (by omega)]
  unfold padded
  have hz : zerosN l.length = padSz (l.drop (64 * q)).length - 9 - (l.drop (64 * q)).length := by
    unfold zerosN padSz
    rw [hr]
    split <;> omega
  rw [hz]
  have := List.take_append_drop (64 * q) l
  simp only [← List.append_assoc, this]
theorem padded_len (l : List Int) (q : Nat) (hq : l.length / 64 = q) : (padded l).length = 64 * q + padSz (l.drop (64 * q)).length := by
  have hr : (l.drop (64 * q)).length = l.length - 64 * q := List.length_drop
  have hs := padSz_le (l.drop (64 * q)).length (by omega)
  rw [padded_eq l q hq, List.length_append, List.length_take, List.length_take, padEnd, padMid_len _ _ _ (by omega) (by omega)]
  omega
theorem padded_low (l : List Int) (q : Nat) (hq : l.length / 64 = q) (i : Nat) (hi : i < q) : ((padded l).drop (64 * i)).take 64 = (l.drop (64 * i)).take 64 := by
  rw [padded_eq l q hq, List.drop_append_of_le_length (by rw [List.length_take]; omega), List.take_append_of_le_length (by rw [List.length_drop, List.length_take]; omega), List.drop_take, List.take_take]
  congr 1
  omega
theorem padded_high (l : List Int) (q : Nat) (hq : l.length / 64 = q) (i : Nat) (hi : 64 * i + 64 ≤ padSz (l.drop (64 * q)).length) :
    ((padded l).drop (64 * (q + i))).take 64 = ((padEnd (l.drop (64 * q)) (l.length * 8)).drop (64 * i)).take 64 := by
  have hl : (l.take (64 * q)).length = 64 * q := by rw [List.length_take]; omega
  rw [padded_eq l q hq, show 64 * (q + i) = (l.take (64 * q)).length + 64 * i by omega, List.drop_length_add_append, List.drop_take, List.take_take]
  congr 1
  omega
theorem shaOf_one (l : List Int) (q : Nat) (hq : l.length / 64 = q) (h : padSz (l.drop (64 * q)).length = 64) :
    shaOf l = joined (mixS (absorb init8 l q) ((padEnd (l.drop (64 * q)) (l.length * 8)).take 64)).l := by
  have h1 := padded_high l q hq 0 (by omega)
  rw [Nat.add_zero, Nat.mul_zero, List.drop_zero] at h1
  unfold shaOf
  rw [padded_len l q hq, h, show (64 * q + 64) / 64 = q + 1 by omega, absorb, absorb_congr init8 (padded l) l q (fun i hi => padded_low l q hq i hi), h1]
theorem shaOf_two (l : List Int) (q : Nat) (hq : l.length / 64 = q) (h : padSz (l.drop (64 * q)).length = 128) :
    shaOf l = joined (mixS (mixS (absorb init8 l q) ((padEnd (l.drop (64 * q)) (l.length * 8)).take 64)) (((padEnd (l.drop (64 * q)) (l.length * 8)).drop 64).take 64)).l := by
  have h1 := padded_high l q hq 0 (by omega)
  have h2 := padded_high l q hq 1 (by omega)
  rw [Nat.add_zero, Nat.mul_zero, List.drop_zero] at h1
  rw [Nat.mul_one] at h2
  unfold shaOf
  rw [padded_len l q hq, h, show (64 * q + 128) / 64 = q + 1 + 1 by omega, absorb, absorb, absorb_congr init8 (padded l) l q (fun i hi => padded_low l q hq i hi), h1, h2]
theorem padEnd_bys {r : List Int} (h : Bys r) (n : Nat) : Bys (padEnd r n) := by
  unfold padEnd padMid
  have hz : ∀ k, Bys (List.replicate k (0 : Int)) := fun k x hx => by rw [(List.mem_replicate.1 hx).2]; omega
  exact ((((h.app (fun x hx => by simp at hx; omega)).app (hz _)).app (beb_bys n 8)).app (hz _))

set_option maxRecDepth 1000000 in
theorem mid_len (l : List Int) (p : Nat) (hp : p + 64 ≤ l.length) : ((l.drop p).take 64).length = 64 := by
  rw [List.length_take, List.length_drop]; omega

theorem step_row {P : Program} {ops : Array Oper} {o : Oper} {a : Act} {w : World} {K : Act → World → Prop} {Q : Exit → Act → World → Prop} {E : Prop} (hgd : o.guard = none) (ty : TypeId) (x y : Operand) (ho : o.op = .store ty x y)
    (g : Nat) (cells : Array Value) (hx : a.eval x = .pointer (some ⟨g, 0, none⟩)) (hy : a.eval y = .agg cells)
    (t : TypeId) (old : Array Value) (hg : w.heap[g]? = some (.cells old t (0, 0))) (hi : (P.info? ty).map (·.size) = some cells.size)
    (hold : old.size = cells.size) (h1 : cells.all (·.oneCell') = true)
    (h : K (a.put o.dst undef) (w.setRow g cells)) : if Region.wanted o (yielded ops a.tmps) = true then Oper.wp P o a w K Q else E := by
  have hwd : Region.wanted o (yielded ops a.tmps) = true := by simp [Region.wanted, hgd]
  rw [if_pos hwd]
  exact wp_store_row ty x y ho g cells hx hy t old hg hi hold h1 h

theorem step_load8 {P : Program} {ops : Array Oper} {o : Oper} {a : Act} {w : World} {K : Act → World → Prop} {Q : Exit → Act → World → Prop} {E : Prop} (hgd : o.guard = none) (ty : TypeId) (x : Operand) (ho : o.op = .load ty x)
    (b off : Nat) (hx : a.eval x = .pointer (some ⟨b, off, none⟩)) (cs : List Value) (d : TypeDesc) (hc : w.rangeAt b off cs)
    (hu : P.underlying ty = some d) (hd : d.isRow = true) (hi : (P.info? ty).map (·.size) = some cs.length)
    (h : K (a.put o.dst (.agg cs.toArray)) w) : if Region.wanted o (yielded ops a.tmps) = true then Oper.wp P o a w K Q else E := by
  have hwd : Region.wanted o (yielded ops a.tmps) = true := by simp [Region.wanted, hgd]
  rw [if_pos hwd]
  exact wp_load_mid ty x ho b off hx cs d hc hu hd hi h

theorem s8_len (s : S8) : s.l.length = 8 := rfl

set_option linter.unusedSimpArgs false in
set_option maxRecDepth 1000000 in
set_option maxHeartbeats 8000000 in
theorem digest_any (w : World) (v : Value) (l : List Int) (hs : Sl w w.heap.size v l) (hy : Bys l) (hm : l.length ≤ 140737488355328) :
    Calls Try.prog 57 #[v] w (Ans (.agg (u8s (shaOf l))) w) := by
  have HSL := Kp.mk hs
  have HY := Kp.mk hy
  have HLM := Kp.mk hm
  obtain ⟨q, hq⟩ : ∃ q, l.length / 64 = q := ⟨_, rfl⟩
  have hq1 : (l.length : Int) / 64 = (q : Int) := by omega
  have hq2 : (q : Int) * 64 ≤ (l.length : Int) := by omega
  have hm2 : (l.length : Int) ≤ 140737488355328 := by omega
  have HQ := Kp.mk hq
  obtain ⟨A, c, rfl, hc, hnn, hr⟩ := hs
  obtain ⟨F, hF⟩ : ∃ F, q * 64 = F := ⟨_, rfl⟩
  have hF1 : (q : Int) * 64 = (F : Int) := by omega
  have HF := Kp.mk hF
  clear hnn hr hy hq hm hq2
  have HIK : Kp ((Try.prog.info? 95).map (·.size) = some (u32s kNums).size) := ⟨by rw [u32s_size]; kernel_rfl⟩
  have HKS : Kp ((u32s (List.replicate 64 0)).size = (u32s kNums).size) := ⟨by rw [u32s_size, u32s_size]; rfl⟩
  have HK1 := Kp.mk (u32s_one kNums)
  have HCON := Kp.mk constants_any
  have HMIX : Kp (∀ W s b, S8.ok s → Bys b → b.length = 64 → Calls Try.prog 71 #[.agg (u32s s.l), .agg (u32s kNums), .agg (u8s b)] W (Ans (.agg (u32s (mixS s b).l)) W)) := ⟨fun W s b h1 h2 h3 => mix_any W s h1 b h2 h3⟩
  obtain ⟨K0, hK0⟩ : ∃ K, u32s kNums = K := ⟨_, rfl⟩
  rw [hK0] at HIK HKS HK1 HCON HMIX
  clear hK0
  go_enter Try.func57, Try.ntmps57
  go_wp2_with fail
  refine (HCON.out _).mono ?_
  rintro e w1 ⟨rfl, hb1⟩
  have hx0 : Box w1 w.heap.size 39 (u8s (List.replicate 32 0)) := (Box.new (w := w) rfl rfl).below hb1
  have hbw : Below w.heap.size w w1 := ((Below.refl _ _).alloc (Nat.le_refl _) _).trans (hb1.mono (by simp))
  have hsz : w.heap.size < w1.heap.size := by have := hb1.size; simp at this; omega
  have HX0 := Kp.mk hx0
  have HBW := Kp.mk hbw
  have HSZ := Kp.mk hsz
  clear hx0 hbw hsz hb1
  go_wp2_with (first | (refine wpList_store_fresh rfl 95 (.tmp 3) (.tmp 9) rfl _ K0 w1.heap.size rfl rfl rfl HIK.out HKS.out HK1.out ?_))
  go_loopw [6] (fun i wr => ∃ (j p : Nat), j ≤ q ∧ 64 * j = p ∧ i = .int .i64 (p : Int) ∧ Kp (Box wr (w1.heap.size + 1) 97 (u32s (absorb init8 l j).l) ∧ Box wr w1.heap.size 95 K0 ∧ Box wr w.heap.size 39 (u8s (List.replicate 32 0)) ∧ Below w.heap.size w wr)) (fun i _ => F - (intOf i).toNat)
  case atStart =>
    refine ⟨0, 0, by omega, rfl, rfl, ⟨?_, ?_, ?_, ?_⟩⟩
    · exact Box.new (by simp) rfl
    · exact (Box.new (n := w1.heap.size) rfl rfl).below ((Below.refl _ _).alloc (by simp) _)
    · exact HX0.out.below (((Below.refl _ _).alloc (by simp) _).alloc (by simp) _)
    · exact (HBW.out.alloc HBW.out.size _).alloc (by have := HBW.out.size; simp; omega) _
  case round =>
    obtain ⟨j, p, hj, hp, rfl, H⟩ := hrel
    by_cases hlt : j < q
    · have hpl : p + 64 ≤ l.length := by have := HQ.out; omega
      have hpF : (p : Int) < (F : Int) := by have := HF.out; omega
      obtain ⟨A', c', e, hc', _, hr⟩ := HSL.out
      injection e with e1 e2 e3
      subst e1
      subst e3
      obtain ⟨b0, off, rfl, hbg, hblt, hrun⟩ := hr (by intro h; rw [h] at hpl; simp at hpl)
      have hp1 : (p : Int) + 64 ≤ (c : Int) := by omega
      obtain ⟨blk, hblk⟩ : ∃ b, (l.drop p).take 64 = b := ⟨_, rfl⟩
      have hbl := mid_len l p hpl
      rw [hblk] at hbl
      have HBL := Kp.mk hbl
      have HBB : Kp (Bys blk) := ⟨hblk ▸ (HY.out.drop p).take 64⟩
      have hmid := hrun.mid p 64
      rw [hblk] at hmid
      obtain ⟨st, hst⟩ : ∃ s, absorb init8 l j = s := ⟨_, rfl⟩
      have HST : Kp (S8.ok st) := ⟨hst ▸ absorb_ok init8_ok l j⟩
      have h0 := H.out
      rw [hst] at h0
      have HMX : Kp (∀ W, Calls Try.prog 71 #[.agg (u32s st.l), .agg K0, .agg (u8s blk)] W (Ans (.agg (u32s (mixS st blk).l)) W)) := ⟨fun W => HMIX.out W st blk HST.out HBB.out HBL.out⟩
      obtain ⟨st2, hst2⟩ : ∃ s, mixS st blk = s := ⟨_, rfl⟩
      rw [hst2] at HMX
      have HST2 := Kp.mk hst2
      clear hst2
      have HRD : Kp (∀ W, Below wr.heap.size wr W → Box W (w1.heap.size + 1) 97 (u32s st.l) ∧ Box W w1.heap.size 95 K0 ∧ Box W w.heap.size 39 (u8s (List.replicate 32 0)) ∧ Below w.heap.size w W ∧ True) := ⟨fun W hW => ⟨h0.1.below hW, h0.2.1.below hW, h0.2.2.1.below hW, h0.2.2.2.trans (hW.mono h0.2.2.2.size), trivial⟩⟩
      have HRG : Kp (∀ W, Below w.heap.size w W → W.rangeAt b0 (off + p) (byteVals blk)) := ⟨fun W hW => Run.range (fun i hi => (World.cell?_of_block (hW.block b0 hblt)).trans (hmid i hi))⟩
      have hpw : IntKind.i64.wrap ((p : Int) + 64) = (p : Int) + 64 := by rw [IntKind.wrap_i64]; omega
      have htn : ((p : Int) + 64).toNat = p + 64 := by omega
      have h0p : 0 ≤ (p : Int) + 64 := by omega
      have hcp : (c = p) = False := by simp; omega
      have hpc : p + 64 ≤ c := by omega
      have har := fun W : World => run_arrayAt (P := Try.prog) (w := W) 109 _ 64 (some ⟨b0, off + p, none⟩) 64 (c - p) Try.underlying109 (Nat.le_refl _)
      have HBLK := Kp.mk hblk
      have HSTE := Kp.mk hst
      have HPP := Kp.mk hp
      have HPL := Kp.mk hpl
      clear hbl hmid hblk hst h0 hrun hr hp hpl H hbg hblt
      have HSW : Kp (∀ W, Box W w1.heap.size 95 K0 → W.rangeAt b0 (off + p) (byteVals blk) → W.rangeAt w1.heap.size 0 K0.toList ∧ W.rangeAt b0 (off + p) (byteVals blk)) := ⟨fun W h1 h2 => ⟨row_range h1, h2⟩⟩
      go_wp2_with fail
      refine wp_region_noPanic ?_
      refine wp_region_held_drew (S := (fun W => W.rangeAt w1.heap.size 0 K0.toList ∧ W.rangeAt b0 (off + p) (byteVals blk))) (by kernel_rfl) ?_ (fun hHeld => ?_)
      · exact HSW.out _ (HRD.out _ (Below.refl _ _).drew).2.1 (HRG.out _ (HRD.out _ (Below.refl _ _).drew).2.2.2.1)
      refine wpAnyH_take (i := 1) (oi := ⟨some 21, _, _, _, _, _⟩) (v := .agg (K0.toList).toArray) rfl (by kernel_rfl) (by kernel_rfl) (by kernel_rfl) (fun _ _ _ h => h) (yieldsIf_load_mid (by rfl) 95 (.tmp 3) rfl w1.heap.size 0 rfl (K0.toList) _ (fun W hW => hW.1) Try.underlying95 rfl (by simpa using HIK.out)) hHeld ?_
      try simp only [Act.put, List.setIfInBounds_toArray, List.set_cons_zero, List.set_cons_succ, Array.toArray_toList]
      refine wpAnyH_take (i := 2) (oi := ⟨some 22, _, _, _, _, _⟩) (v := ?_) rfl (by kernel_rfl) (by kernel_rfl) (by kernel_rfl) (fun _ _ _ h => h) (Or.inl ⟨by rfl, ?_⟩) hHeld ?_
      rotate_left
      · (intro wx hSw; (try dsimp only at hSw); obtain _ := hSw; go_simp; try with_reducible rfl)
      try simp only [Act.put, List.setIfInBounds_toArray, List.set_cons_zero, List.set_cons_succ]
      refine wpAnyH_take (i := 3) (oi := ⟨some 23, _, _, _, _, _⟩) (v := ?_) rfl (by kernel_rfl) (by kernel_rfl) (by kernel_rfl) (fun _ _ _ h => h) (Or.inl ⟨by rfl, ?_⟩) hHeld ?_
      rotate_left
      · (intro wx hSw; (try dsimp only at hSw); obtain _ := hSw; go_simp; try with_reducible rfl)
      try simp only [Act.put, List.setIfInBounds_toArray, List.set_cons_zero, List.set_cons_succ]
      refine wpAnyH_take (i := 4) (oi := ⟨some 24, _, _, _, _, _⟩) (v := ?_) rfl (by kernel_rfl) (by kernel_rfl) (by kernel_rfl) (fun _ _ _ h => h) (Or.inl ⟨by rfl, ?_⟩) hHeld ?_
      rotate_left
      · (intro wx hSw; (try dsimp only at hSw); obtain _ := hSw; go_simp; try with_reducible rfl)
      try simp only [Act.put, List.setIfInBounds_toArray, List.set_cons_zero, List.set_cons_succ]
      refine wpAnyH_take (i := 5) (oi := ⟨some 25, _, _, _, _, _⟩) (v := ?_) rfl (by kernel_rfl) (by kernel_rfl) (by kernel_rfl) (fun _ _ _ h => h) (Or.inl ⟨by rfl, ?_⟩) hHeld ?_
      rotate_left
      · (intro wx hSw; (try dsimp only at hSw); obtain _ := hSw; go_simp; try with_reducible rfl)
      try simp only [Act.put, List.setIfInBounds_toArray, List.set_cons_zero, List.set_cons_succ]
      refine wpAnyH_take (i := 6) (oi := ⟨some 26, _, _, _, _, _⟩) (v := ?_) rfl (by kernel_rfl) (by kernel_rfl) (by kernel_rfl) (fun _ _ _ h => h) (Or.inl ⟨by rfl, ?_⟩) hHeld ?_
      rotate_left
      · (intro wx hSw; (try dsimp only at hSw); obtain _ := hSw; go_simp; try with_reducible rfl)
      try simp only [Act.put, List.setIfInBounds_toArray, List.set_cons_zero, List.set_cons_succ]
      refine wpAnyH_take (i := 7) (oi := ⟨some 27, _, _, _, _, _⟩) (v := ?_) rfl (by kernel_rfl) (by kernel_rfl) (by kernel_rfl) (fun _ _ _ h => h) (Or.inl ⟨by rfl, ?_⟩) hHeld ?_
      rotate_left
      · (intro wx hSw; (try dsimp only at hSw); obtain _ := hSw; go_simp; try with_reducible rfl)
      try simp only [Act.put, List.setIfInBounds_toArray, List.set_cons_zero, List.set_cons_succ]
      refine wpAnyH_take (i := 8) (oi := ⟨some 28, _, _, _, _, _⟩) (v := .agg (byteVals blk).toArray) rfl (by kernel_rfl) (by kernel_rfl) (by kernel_rfl) (fun _ _ _ h => h) (yieldsIf_load_mid (by rfl) 109 (.tmp 27) rfl b0 (off + p) rfl (byteVals blk) _ (fun W hW => hW.2) Try.underlying109 rfl (by rw [byteVals, List.length_map, HBL.out]; kernel_rfl)) hHeld ?_
      try simp only [Act.put, List.setIfInBounds_toArray, List.set_cons_zero, List.set_cons_succ, Array.toArray_toList]
      refine wpAnyH_ready (rs := [0]) (by kernel_rfl) (by simp) (AllReadyH.cons (o := ⟨some 20, _, _, _, _, _⟩) rfl (fun K hK => ?_) AllReadyH.nil)
      refine step_load8 rfl 97 (.tmp 4) rfl (w1.heap.size + 1) 0 rfl (u32s st.l).toList _ (row_range (HRD.out _ (Below.refl _ _).drew).1) Try.underlying97 rfl (by rw [show (u32s st.l).toList.length = 8 from rfl]; kernel_rfl) ?_
      rw [Array.toArray_toList]
      refine hK.out _ _ (HSW.out _ (HRD.out _ (Below.refl _ _).drew).2.1 (HRG.out _ (HRD.out _ (Below.refl _ _).drew).2.2.2.1)) (fun hHeld => ?_)
      clear hK K
      try simp only [Act.put, List.setIfInBounds_toArray, List.set_cons_zero, List.set_cons_succ]
      refine wpAnyH_ready (rs := [9]) (by kernel_rfl) (by simp) (AllReadyH.cons (o := ⟨some 29, _, _, _, _, _⟩) rfl (fun K hK => ?_) AllReadyH.nil)
      go_simp
      refine (HMX.out _).mono ?_
      rintro e w2 ⟨rfl, hb2⟩
      have hb02 := (Below.refl wr.heap.size wr).drew.trans hb2
      refine hK.out _ _ (HSW.out _ (HRD.out _ hb02).2.1 (HRG.out _ (HRD.out _ hb02).2.2.2.1)) (fun hHeld => ?_)
      clear hK K
      try simp only [Act.put, List.setIfInBounds_toArray, List.set_cons_zero, List.set_cons_succ]
      refine wpAnyH_ready (rs := [10]) (by kernel_rfl) (by simp) (AllReadyH.cons (o := ⟨none, _, _, _, _, _⟩) rfl (fun K hK => ?_) AllReadyH.nil)
      refine step_row rfl 97 (.tmp 4) (.tmp 29) rfl (w1.heap.size + 1) (u32s st2.l) rfl rfl 97 _ (HRD.out _ hb02).1 (by rw [u32s_size, s8_len]; kernel_rfl) (by rw [u32s_size, u32s_size, s8_len, s8_len]) (u32s_one _) ?_
      have hrw : Box (w2.setRow (w1.heap.size + 1) (u32s st2.l)) w1.heap.size 95 K0 := (setRow_other w2 _ _ _ (by omega)).trans (HRD.out _ hb02).2.1
      have hbs := row_box (HRD.out _ hb02).1 (u32s st2.l)
      have hbr : Below w.heap.size w (w2.setRow (w1.heap.size + 1) (u32s st2.l)) := (HRD.out _ hb02).2.2.2.1.trans (row_below (by have := HSZ.out; omega) _)
      have hb0r : Box (w2.setRow (w1.heap.size + 1) (u32s st2.l)) w.heap.size 39 (u8s (List.replicate 32 0)) := (setRow_other w2 (w1.heap.size + 1) w.heap.size (u32s st2.l) (by have := HSZ.out; omega)).trans (HRD.out _ hb02).2.2.1
      refine hK.out _ _ (HSW.out _ hrw (HRG.out _ hbr)) (fun hHeld => ?_)
      clear hK K
      try simp only [Act.put, List.setIfInBounds_toArray, List.set_cons_zero, List.set_cons_succ]
      refine wpAnyH_done (by kernel_rfl) ?_ _
      refine NoPanic.normal ?_
      go_wp2
      go_roundw
      case rel =>
        refine ⟨j + 1, p + 64, by omega, by have := HPP.out; omega, by go_num, ⟨?_, hrw, hb0r, hbr⟩⟩
        rw [absorb, HSTE.out, HPP.out, HBLK.out, HST2.out]
        exact hbs
      case measure => have := HPL.out; have := HF.out; have := HQ.out; simp [intOf]; omega
    · obtain rfl : j = q := by omega
      obtain rfl : p = F := by have := HF.out; omega
      obtain ⟨hS, hK, hR, hB⟩ := H.out
      obtain ⟨rs, hrs⟩ : ∃ r, l.drop p = r := ⟨_, rfl⟩
      have hrl : rs.length = l.length - p := by rw [← hrs, List.length_drop]
      have hrl63 : rs.length ≤ 63 := by have := HQ.out; omega
      have hpn : p ≤ l.length := by have := HQ.out; omega
      obtain ⟨nb, hnb⟩ : ∃ n, l.length * 8 = n := ⟨_, rfl⟩
      have hw1 : IntKind.u64.wrap (l.length : Int) = (l.length : Int) := by rw [IntKind.wrap_u64]; omega
      have hw2 : (l.length : Int) * 8 = (nb : Int) := by omega
      have hw3 : IntKind.u64.wrap (nb : Int) = (nb : Int) := by rw [IntKind.wrap_u64]; omega
      have HD : Kp (Sl wr wr.heap.size (.slice (if c = p then A else A.map (·.add p)) (l.length - p) (c - p)) rs) := ⟨hrs ▸ ((sl_drop HSL.out p hpn).below hB).free wr.heap.size (Nat.le_refl _)⟩
      obtain ⟨pe, hpe⟩ : ∃ x, padEnd rs nb = x := ⟨_, rfl⟩
      have HPAD : Kp (∀ X, Sl wr wr.heap.size X rs → Calls Try.prog 72 #[X, .int .u64 (nb : Int)] wr (Ans (.tuple #[.agg (u8s pe), .bool (decide (56 ≤ rs.length))]) wr)) := ⟨fun X hX => hpe ▸ pad_any wr X rs nb hX hrl63 (by omega)⟩
      have hpl : pe.length = 128 := by rw [← hpe, padEnd]; exact padMid_len rs nb 8 hrl63 (by omega)
      have hpb : Bys pe := hpe ▸ padEnd_bys (hrs ▸ HY.out.drop p) nb
      have HPL := Kp.mk hpl
      have HPB := Kp.mk hpb
      have HIP : Kp ((Try.prog.info? 110).map (·.size) = some (u8s pe).size) := ⟨by rw [u8s_size, hpl]; kernel_rfl⟩
      have HPS : Kp ((u8s (List.replicate 128 0)).size = (u8s pe).size) := ⟨by rw [u8s_size, u8s_size, hpl]; rfl⟩
      have HP1 := Kp.mk (u8s_one pe)
      obtain ⟨st, hst⟩ : ∃ s, absorb init8 l j = s := ⟨_, rfl⟩
      have HST : Kp (S8.ok st) := ⟨hst ▸ absorb_ok init8_ok l j⟩
      rw [hst] at hS
      have HSS := Kp.mk (And.intro hS (And.intro hK (And.intro hR hB)))
      obtain ⟨blk, hblk⟩ : ∃ b, pe.take 64 = b := ⟨_, rfl⟩
      obtain ⟨bl2, hbl2⟩ : ∃ b, (pe.drop 64).take 64 = b := ⟨_, rfl⟩
      have HBL : Kp (blk.length = 64) := ⟨by rw [← hblk, List.length_take, hpl]; rfl⟩
      have HBL2 : Kp (bl2.length = 64) := ⟨by rw [← hbl2, List.length_take, List.length_drop, hpl]; rfl⟩
      have HBB : Kp (Bys blk) := ⟨hblk ▸ hpb.take 64⟩
      have HBB2 : Kp (Bys bl2) := ⟨hbl2 ▸ (hpb.drop 64).take 64⟩
      obtain ⟨st2, hst2⟩ : ∃ s, mixS st blk = s := ⟨_, rfl⟩
      have HMX : Kp (∀ W, Calls Try.prog 71 #[.agg (u32s st.l), .agg K0, .agg (u8s blk)] W (Ans (.agg (u32s st2.l)) W)) := ⟨fun W => hst2 ▸ HMIX.out W st blk HST.out HBB.out HBL.out⟩
      have HST2 : Kp (S8.ok st2) := ⟨hst2 ▸ S8.plus_ok _ _⟩
      have HRB : Kp (∀ W g, Box W g 110 (u8s pe) → W.rangeAt g 0 (byteVals blk)) := ⟨fun W g h => Run.range (hblk ▸ (Run.mid (show Run W g 0 pe from fun i hi => by rw [Nat.zero_add, h.cell, u8s_at pe i hi]) 0 64))⟩
      have HRB2 : Kp (∀ W g, Box W g 110 (u8s pe) → W.rangeAt g 64 (byteVals bl2)) := ⟨fun W g h => Run.range (hbl2 ▸ (Run.mid (show Run W g 0 pe from fun i hi => by rw [Nat.zero_add, h.cell, u8s_at pe i hi]) 64 64))⟩
      have HSH1 : Kp (rs.length < 56 → shaOf l = joined st2.l) := ⟨fun h => by rw [shaOf_one l j HQ.out (by rw [show 64 * j = p from hp, hrs]; unfold padSz; rw [if_pos h]), hst, show 64 * j = p from hp, hrs, hnb, hpe, hblk, hst2]⟩
      have HSH2 : Kp (¬ rs.length < 56 → shaOf l = joined (mixS st2 bl2).l) := ⟨fun h => by rw [shaOf_two l j HQ.out (by rw [show 64 * j = p from hp, hrs]; unfold padSz; rw [if_neg h]), hst, show 64 * j = p from hp, hrs, hnb, hpe, hblk, hbl2, hst2]⟩
      obtain ⟨R, hR32⟩ : ∃ R, shaOf l = R := ⟨_, rfl⟩
      have HRE := Kp.mk hR32
      have hpc : p ≤ c := by omega
      have hpci : (p : Int) ≤ (c : Int) := by omega
      have hpni : (p : Int) ≤ (l.length : Int) := by omega
      have HRL := Kp.mk hrl
      have HMIX2 := HMIX
      clear hS hK hR hB hrs hrl hrl63 hnb hpe hpl hpb hst hblk hbl2 hst2 hR32 H hp HSL HCON
      by_cases h56 : rs.length < 56
      · have h56d : decide (56 ≤ rs.length) = false := by simp; omega
        rw [h56d] at HPAD
        clear h56d
        by_cases hcF : c = p
        · obtain rfl : c = p := hcF
          have hcl : l.length - c = 0 := by omega
          have HX := HD
          rw [if_pos rfl, hcl, Nat.sub_self] at HX
          clear HD hcl
          go_wp2_with fail
          refine (HPAD.out _ HX.out).mono ?_
          rintro e w2 ⟨rfl, hb2⟩
          have h2 : Below w2.heap.size w2 (w2.alloc (.cells (u8s pe) 110)) := (Below.refl _ _).alloc (Nat.le_refl _) _
          have hsz2 : wr.heap.size ≤ w2.heap.size := hb2.size
          have HWT : Kp (∀ wt, w2.alloc (.cells (u8s pe) 110) = wt → ∀ W, Below wt.heap.size wt W → Box W (w1.heap.size + 1) 97 (u32s st.l) ∧ Box W w1.heap.size 95 K0 ∧ Box W w.heap.size 39 (u8s (List.replicate 32 0)) ∧ Below w.heap.size w W ∧ Box W w2.heap.size 110 (u8s pe)) := ⟨fun wt hwt W hW => by
            subst hwt
            have hx := HSS.out
            have hbw := (hx.2.2.2.trans (hb2.mono hx.2.2.2.size))
            have hbw2 := hbw.trans (h2.mono hbw.size)
            exact ⟨((hx.1.below hb2).below h2).below hW, ((hx.2.1.below hb2).below h2).below hW, ((hx.2.2.1.below hb2).below h2).below hW, hbw2.trans (hW.mono hbw2.size), (Box.fresh _ _ _).below hW⟩⟩
          have hg7 : w1.heap.size + 1 < w2.heap.size := by have := HSS.out.1.lt; omega
          clear hb2 h2 hsz2
          go_wp2_with (refine wpList_store_fresh rfl 110 (.tmp 7) (.tmp 39) rfl _ (u8s pe) w2.heap.size rfl rfl rfl HIP.out HPS.out HP1.out ?_)
          obtain ⟨wt, hwt⟩ : ∃ W, w2.alloc (.cells (u8s pe) 110) = W := ⟨_, rfl⟩
          have HRD := Kp.mk (HWT.out wt hwt)
          rw [hwt]
          clear HWT hwt
          have har := fun W : World => run_arrayAt (P := Try.prog) (w := W) 109 _ 64 (some ⟨w2.heap.size, 0, none⟩) 64 128 Try.underlying109 (Nat.le_refl _)
          have HSW : Kp (∀ W, Box W w1.heap.size 95 K0 → W.rangeAt w2.heap.size (0) (byteVals blk) → W.rangeAt w1.heap.size 0 K0.toList ∧ W.rangeAt w2.heap.size (0) (byteVals blk)) := ⟨fun W h1 h2 => ⟨row_range h1, h2⟩⟩
          go_wp2_with fail
          refine wp_region_noPanic ?_
          refine wp_region_held_drew (S := (fun W => W.rangeAt w1.heap.size 0 K0.toList ∧ W.rangeAt w2.heap.size (0) (byteVals blk))) (by kernel_rfl) ?_ (fun hHeld => ?_)
          · exact HSW.out _ (HRD.out _ (Below.refl _ _).drew).2.1 (HRB.out _ _ (HRD.out _ (Below.refl _ _).drew).2.2.2.2)
          refine wpAnyH_take (i := 1) (oi := ⟨some 42, _, _, _, _, _⟩) (v := .agg (K0.toList).toArray) rfl (by kernel_rfl) (by kernel_rfl) (by kernel_rfl) (fun _ _ _ h => h) (yieldsIf_load_mid (by rfl) 95 (.tmp 3) rfl w1.heap.size 0 rfl (K0.toList) _ (fun W hW => hW.1) Try.underlying95 rfl (by simpa using HIK.out)) hHeld ?_
          try simp only [Act.put, List.setIfInBounds_toArray, List.set_cons_zero, List.set_cons_succ, Array.toArray_toList]
          refine wpAnyH_take (i := 2) (oi := ⟨some 43, _, _, _, _, _⟩) (v := ?_) rfl (by kernel_rfl) (by kernel_rfl) (by kernel_rfl) (fun _ _ _ h => h) (Or.inl ⟨by rfl, ?_⟩) hHeld ?_
          rotate_left
          · (intro wx hSw; (try dsimp only at hSw); obtain _ := hSw; go_simp; try with_reducible rfl)
          try simp only [Act.put, List.setIfInBounds_toArray, List.set_cons_zero, List.set_cons_succ]
          refine wpAnyH_take (i := 3) (oi := ⟨some 44, _, _, _, _, _⟩) (v := ?_) rfl (by kernel_rfl) (by kernel_rfl) (by kernel_rfl) (fun _ _ _ h => h) (Or.inl ⟨by rfl, ?_⟩) hHeld ?_
          rotate_left
          · (intro wx hSw; (try dsimp only at hSw); obtain _ := hSw; go_simp; try with_reducible rfl)
          try simp only [Act.put, List.setIfInBounds_toArray, List.set_cons_zero, List.set_cons_succ]
          refine wpAnyH_take (i := 4) (oi := ⟨some 45, _, _, _, _, _⟩) (v := .agg (byteVals blk).toArray) rfl (by kernel_rfl) (by kernel_rfl) (by kernel_rfl) (fun _ _ _ h => h) (yieldsIf_load_mid (by rfl) 109 (.tmp 44) rfl w2.heap.size (0) rfl (byteVals blk) _ (fun W hW => hW.2) Try.underlying109 rfl (by rw [byteVals, List.length_map, HBL.out]; kernel_rfl)) hHeld ?_
          try simp only [Act.put, List.setIfInBounds_toArray, List.set_cons_zero, List.set_cons_succ, Array.toArray_toList]
          refine wpAnyH_ready (rs := [0]) (by kernel_rfl) (by simp) (AllReadyH.cons (o := ⟨some 41, _, _, _, _, _⟩) rfl (fun K hK => ?_) AllReadyH.nil)
          refine step_load8 rfl 97 (.tmp 4) rfl (w1.heap.size + 1) 0 rfl (u32s st.l).toList _ (row_range (HRD.out _ (Below.refl _ _).drew).1) Try.underlying97 rfl (by rw [show (u32s st.l).toList.length = 8 from rfl]; kernel_rfl) ?_
          rw [Array.toArray_toList]
          refine hK.out _ _ (HSW.out _ (HRD.out _ (Below.refl _ _).drew).2.1 (HRB.out _ _ (HRD.out _ (Below.refl _ _).drew).2.2.2.2)) (fun hHeld => ?_)
          clear hK K
          try simp only [Act.put, List.setIfInBounds_toArray, List.set_cons_zero, List.set_cons_succ]
          refine wpAnyH_ready (rs := [5]) (by kernel_rfl) (by simp) (AllReadyH.cons (o := ⟨some 46, _, _, _, _, _⟩) rfl (fun K hK => ?_) AllReadyH.nil)
          go_simp
          refine (HMX.out _).mono ?_
          rintro e w3 ⟨rfl, hb2⟩
          have hb02 := (Below.refl wt.heap.size wt).drew.trans hb2
          refine hK.out _ _ (HSW.out _ (HRD.out _ hb02).2.1 (HRB.out _ _ (HRD.out _ hb02).2.2.2.2)) (fun hHeld => ?_)
          clear hK K
          try simp only [Act.put, List.setIfInBounds_toArray, List.set_cons_zero, List.set_cons_succ]
          refine wpAnyH_ready (rs := [6]) (by kernel_rfl) (by simp) (AllReadyH.cons (o := ⟨none, _, _, _, _, _⟩) rfl (fun K hK => ?_) AllReadyH.nil)
          refine step_row rfl 97 (.tmp 4) (.tmp 46) rfl (w1.heap.size + 1) (u32s st2.l) rfl rfl 97 _ (HRD.out _ hb02).1 (by rw [u32s_size, s8_len]; kernel_rfl) (by rw [u32s_size, u32s_size, s8_len, s8_len]) (u32s_one _) ?_
          have hrw : Box (w3.setRow (w1.heap.size + 1) (u32s st2.l)) w1.heap.size 95 K0 := (setRow_other w3 _ _ _ (by omega)).trans (HRD.out _ hb02).2.1
          have hb7 : Box (w3.setRow (w1.heap.size + 1) (u32s st2.l)) w2.heap.size 110 (u8s pe) := (setRow_other w3 _ _ _ (by omega)).trans (HRD.out _ hb02).2.2.2.2
          have hbs := row_box (HRD.out _ hb02).1 (u32s st2.l)
          have hbr : Below w.heap.size w (w3.setRow (w1.heap.size + 1) (u32s st2.l)) := (HRD.out _ hb02).2.2.2.1.trans (row_below (by have := HSZ.out; omega) _)
          have hb0r : Box (w3.setRow (w1.heap.size + 1) (u32s st2.l)) w.heap.size 39 (u8s (List.replicate 32 0)) := (setRow_other w3 (w1.heap.size + 1) w.heap.size (u32s st2.l) (by have := HSZ.out; omega)).trans (HRD.out _ hb02).2.2.1
          refine hK.out _ _ (HSW.out _ hrw (HRB.out _ _ hb7)) (fun hHeld => ?_)
          clear hK K
          try simp only [Act.put, List.setIfInBounds_toArray, List.set_cons_zero, List.set_cons_succ]
          refine wpAnyH_done (by kernel_rfl) ?_ _
          refine NoPanic.normal ?_
          have HSF : Kp (R = joined st2.l) := ⟨by rw [← HRE.out]; exact HSH1.out (by omega)⟩
          have HSO := HST2
          obtain ⟨wv, hwv⟩ : ∃ W, w3.setRow (w1.heap.size + 1) (u32s st2.l) = W := ⟨_, rfl⟩
          rw [hwv] at hbs hb0r hbr ⊢
          have HBS := Kp.mk hbs
          have HB0 := Kp.mk hb0r
          have HBR := Kp.mk hbr
          have HJN : Kp (∀ W, Calls Try.prog 73 #[.agg (u32s st2.l)] W (Ans (.agg (u8s R)) W)) := ⟨fun W => by rw [HSF.out]; exact join_any W st2 HSO.out⟩
          have HRL2 : Kp (R.length = 32) := ⟨by rw [HSF.out, joined_len]; rfl⟩
          have HI32 : Kp ((Try.prog.info? 39).map (·.size) = some (u8s R).size) := ⟨by rw [u8s_size, HRL2.out]; kernel_rfl⟩
          have HS32 : Kp ((u8s (List.replicate 32 0)).size = (u8s R).size) := ⟨by rw [u8s_size, u8s_size, HRL2.out]; rfl⟩
          have HO32 := Kp.mk (u8s_one R)
          clear hbs hrw hb0r hbr hb7 hb02 hb2 hHeld hwv har
          go_wp2_with (refine wpList_load_row rfl 97 (.tmp 4) rfl (w1.heap.size + 1) rfl 97 (u32s st2.l) (0, 0) _ HBS.out Try.underlying97 rfl (by rw [u32s_size, s8_len]; kernel_rfl) ?_)
          refine (HJN.out _).mono ?_
          rintro e w5 ⟨rfl, hb5⟩
          have HB5 := Kp.mk (HB0.out.below hb5)
          have HF5 := Kp.mk (HBR.out.trans (hb5.mono HBR.out.size))
          clear hb5
          go_wp2_with (refine wpList_store_row rfl 39 (.tmp 2) (.tmp 55) rfl w.heap.size (u8s R) rfl rfl 39 _ HB5.out HI32.out HS32.out HO32.out ?_)
          exact bodyPost_ret (results_cell_row (by rfl) _ _ w.heap.size 39 (u8s R) _ _ rfl (row_box HB5.out _) Try.underlying39 rfl HI32.out) rfl ⟨by rw [HRE.out], HF5.out.trans (row_below (Nat.le_refl _) _)⟩
        · have HX := HD
          rw [if_neg hcF] at HX
          clear HD
          go_wp2_with fail
          refine (HPAD.out _ HX.out).mono ?_
          rintro e w2 ⟨rfl, hb2⟩
          have h2 : Below w2.heap.size w2 (w2.alloc (.cells (u8s pe) 110)) := (Below.refl _ _).alloc (Nat.le_refl _) _
          have hsz2 : wr.heap.size ≤ w2.heap.size := hb2.size
          have HWT : Kp (∀ wt, w2.alloc (.cells (u8s pe) 110) = wt → ∀ W, Below wt.heap.size wt W → Box W (w1.heap.size + 1) 97 (u32s st.l) ∧ Box W w1.heap.size 95 K0 ∧ Box W w.heap.size 39 (u8s (List.replicate 32 0)) ∧ Below w.heap.size w W ∧ Box W w2.heap.size 110 (u8s pe)) := ⟨fun wt hwt W hW => by
            subst hwt
            have hx := HSS.out
            have hbw := (hx.2.2.2.trans (hb2.mono hx.2.2.2.size))
            have hbw2 := hbw.trans (h2.mono hbw.size)
            exact ⟨((hx.1.below hb2).below h2).below hW, ((hx.2.1.below hb2).below h2).below hW, ((hx.2.2.1.below hb2).below h2).below hW, hbw2.trans (hW.mono hbw2.size), (Box.fresh _ _ _).below hW⟩⟩
          have hg7 : w1.heap.size + 1 < w2.heap.size := by have := HSS.out.1.lt; omega
          clear hb2 h2 hsz2
          go_wp2_with (refine wpList_store_fresh rfl 110 (.tmp 7) (.tmp 39) rfl _ (u8s pe) w2.heap.size rfl rfl rfl HIP.out HPS.out HP1.out ?_)
          obtain ⟨wt, hwt⟩ : ∃ W, w2.alloc (.cells (u8s pe) 110) = W := ⟨_, rfl⟩
          have HRD := Kp.mk (HWT.out wt hwt)
          rw [hwt]
          clear HWT hwt
          have har := fun W : World => run_arrayAt (P := Try.prog) (w := W) 109 _ 64 (some ⟨w2.heap.size, 0, none⟩) 64 128 Try.underlying109 (Nat.le_refl _)
          have HSW : Kp (∀ W, Box W w1.heap.size 95 K0 → W.rangeAt w2.heap.size (0) (byteVals blk) → W.rangeAt w1.heap.size 0 K0.toList ∧ W.rangeAt w2.heap.size (0) (byteVals blk)) := ⟨fun W h1 h2 => ⟨row_range h1, h2⟩⟩
          go_wp2_with fail
          refine wp_region_noPanic ?_
          refine wp_region_held_drew (S := (fun W => W.rangeAt w1.heap.size 0 K0.toList ∧ W.rangeAt w2.heap.size (0) (byteVals blk))) (by kernel_rfl) ?_ (fun hHeld => ?_)
          · exact HSW.out _ (HRD.out _ (Below.refl _ _).drew).2.1 (HRB.out _ _ (HRD.out _ (Below.refl _ _).drew).2.2.2.2)
          refine wpAnyH_take (i := 1) (oi := ⟨some 42, _, _, _, _, _⟩) (v := .agg (K0.toList).toArray) rfl (by kernel_rfl) (by kernel_rfl) (by kernel_rfl) (fun _ _ _ h => h) (yieldsIf_load_mid (by rfl) 95 (.tmp 3) rfl w1.heap.size 0 rfl (K0.toList) _ (fun W hW => hW.1) Try.underlying95 rfl (by simpa using HIK.out)) hHeld ?_
          try simp only [Act.put, List.setIfInBounds_toArray, List.set_cons_zero, List.set_cons_succ, Array.toArray_toList]
          refine wpAnyH_take (i := 2) (oi := ⟨some 43, _, _, _, _, _⟩) (v := ?_) rfl (by kernel_rfl) (by kernel_rfl) (by kernel_rfl) (fun _ _ _ h => h) (Or.inl ⟨by rfl, ?_⟩) hHeld ?_
          rotate_left
          · (intro wx hSw; (try dsimp only at hSw); obtain _ := hSw; go_simp; try with_reducible rfl)
          try simp only [Act.put, List.setIfInBounds_toArray, List.set_cons_zero, List.set_cons_succ]
          refine wpAnyH_take (i := 3) (oi := ⟨some 44, _, _, _, _, _⟩) (v := ?_) rfl (by kernel_rfl) (by kernel_rfl) (by kernel_rfl) (fun _ _ _ h => h) (Or.inl ⟨by rfl, ?_⟩) hHeld ?_
          rotate_left
          · (intro wx hSw; (try dsimp only at hSw); obtain _ := hSw; go_simp; try with_reducible rfl)
          try simp only [Act.put, List.setIfInBounds_toArray, List.set_cons_zero, List.set_cons_succ]
          refine wpAnyH_take (i := 4) (oi := ⟨some 45, _, _, _, _, _⟩) (v := .agg (byteVals blk).toArray) rfl (by kernel_rfl) (by kernel_rfl) (by kernel_rfl) (fun _ _ _ h => h) (yieldsIf_load_mid (by rfl) 109 (.tmp 44) rfl w2.heap.size (0) rfl (byteVals blk) _ (fun W hW => hW.2) Try.underlying109 rfl (by rw [byteVals, List.length_map, HBL.out]; kernel_rfl)) hHeld ?_
          try simp only [Act.put, List.setIfInBounds_toArray, List.set_cons_zero, List.set_cons_succ, Array.toArray_toList]
          refine wpAnyH_ready (rs := [0]) (by kernel_rfl) (by simp) (AllReadyH.cons (o := ⟨some 41, _, _, _, _, _⟩) rfl (fun K hK => ?_) AllReadyH.nil)
          refine step_load8 rfl 97 (.tmp 4) rfl (w1.heap.size + 1) 0 rfl (u32s st.l).toList _ (row_range (HRD.out _ (Below.refl _ _).drew).1) Try.underlying97 rfl (by rw [show (u32s st.l).toList.length = 8 from rfl]; kernel_rfl) ?_
          rw [Array.toArray_toList]
          refine hK.out _ _ (HSW.out _ (HRD.out _ (Below.refl _ _).drew).2.1 (HRB.out _ _ (HRD.out _ (Below.refl _ _).drew).2.2.2.2)) (fun hHeld => ?_)
          clear hK K
          try simp only [Act.put, List.setIfInBounds_toArray, List.set_cons_zero, List.set_cons_succ]
          refine wpAnyH_ready (rs := [5]) (by kernel_rfl) (by simp) (AllReadyH.cons (o := ⟨some 46, _, _, _, _, _⟩) rfl (fun K hK => ?_) AllReadyH.nil)
          go_simp
          refine (HMX.out _).mono ?_
          rintro e w3 ⟨rfl, hb2⟩
          have hb02 := (Below.refl wt.heap.size wt).drew.trans hb2
          refine hK.out _ _ (HSW.out _ (HRD.out _ hb02).2.1 (HRB.out _ _ (HRD.out _ hb02).2.2.2.2)) (fun hHeld => ?_)
          clear hK K
          try simp only [Act.put, List.setIfInBounds_toArray, List.set_cons_zero, List.set_cons_succ]
          refine wpAnyH_ready (rs := [6]) (by kernel_rfl) (by simp) (AllReadyH.cons (o := ⟨none, _, _, _, _, _⟩) rfl (fun K hK => ?_) AllReadyH.nil)
          refine step_row rfl 97 (.tmp 4) (.tmp 46) rfl (w1.heap.size + 1) (u32s st2.l) rfl rfl 97 _ (HRD.out _ hb02).1 (by rw [u32s_size, s8_len]; kernel_rfl) (by rw [u32s_size, u32s_size, s8_len, s8_len]) (u32s_one _) ?_
          have hrw : Box (w3.setRow (w1.heap.size + 1) (u32s st2.l)) w1.heap.size 95 K0 := (setRow_other w3 _ _ _ (by omega)).trans (HRD.out _ hb02).2.1
          have hb7 : Box (w3.setRow (w1.heap.size + 1) (u32s st2.l)) w2.heap.size 110 (u8s pe) := (setRow_other w3 _ _ _ (by omega)).trans (HRD.out _ hb02).2.2.2.2
          have hbs := row_box (HRD.out _ hb02).1 (u32s st2.l)
          have hbr : Below w.heap.size w (w3.setRow (w1.heap.size + 1) (u32s st2.l)) := (HRD.out _ hb02).2.2.2.1.trans (row_below (by have := HSZ.out; omega) _)
          have hb0r : Box (w3.setRow (w1.heap.size + 1) (u32s st2.l)) w.heap.size 39 (u8s (List.replicate 32 0)) := (setRow_other w3 (w1.heap.size + 1) w.heap.size (u32s st2.l) (by have := HSZ.out; omega)).trans (HRD.out _ hb02).2.2.1
          refine hK.out _ _ (HSW.out _ hrw (HRB.out _ _ hb7)) (fun hHeld => ?_)
          clear hK K
          try simp only [Act.put, List.setIfInBounds_toArray, List.set_cons_zero, List.set_cons_succ]
          refine wpAnyH_done (by kernel_rfl) ?_ _
          refine NoPanic.normal ?_
          have HSF : Kp (R = joined st2.l) := ⟨by rw [← HRE.out]; exact HSH1.out (by omega)⟩
          have HSO := HST2
          obtain ⟨wv, hwv⟩ : ∃ W, w3.setRow (w1.heap.size + 1) (u32s st2.l) = W := ⟨_, rfl⟩
          rw [hwv] at hbs hb0r hbr ⊢
          have HBS := Kp.mk hbs
          have HB0 := Kp.mk hb0r
          have HBR := Kp.mk hbr
          have HJN : Kp (∀ W, Calls Try.prog 73 #[.agg (u32s st2.l)] W (Ans (.agg (u8s R)) W)) := ⟨fun W => by rw [HSF.out]; exact join_any W st2 HSO.out⟩
          have HRL2 : Kp (R.length = 32) := ⟨by rw [HSF.out, joined_len]; rfl⟩
          have HI32 : Kp ((Try.prog.info? 39).map (·.size) = some (u8s R).size) := ⟨by rw [u8s_size, HRL2.out]; kernel_rfl⟩
          have HS32 : Kp ((u8s (List.replicate 32 0)).size = (u8s R).size) := ⟨by rw [u8s_size, u8s_size, HRL2.out]; rfl⟩
          have HO32 := Kp.mk (u8s_one R)
          clear hbs hrw hb0r hbr hb7 hb02 hb2 hHeld hwv har
          go_wp2_with (refine wpList_load_row rfl 97 (.tmp 4) rfl (w1.heap.size + 1) rfl 97 (u32s st2.l) (0, 0) _ HBS.out Try.underlying97 rfl (by rw [u32s_size, s8_len]; kernel_rfl) ?_)
          refine (HJN.out _).mono ?_
          rintro e w5 ⟨rfl, hb5⟩
          have HB5 := Kp.mk (HB0.out.below hb5)
          have HF5 := Kp.mk (HBR.out.trans (hb5.mono HBR.out.size))
          clear hb5
          go_wp2_with (refine wpList_store_row rfl 39 (.tmp 2) (.tmp 55) rfl w.heap.size (u8s R) rfl rfl 39 _ HB5.out HI32.out HS32.out HO32.out ?_)
          exact bodyPost_ret (results_cell_row (by rfl) _ _ w.heap.size 39 (u8s R) _ _ rfl (row_box HB5.out _) Try.underlying39 rfl HI32.out) rfl ⟨by rw [HRE.out], HF5.out.trans (row_below (Nat.le_refl _) _)⟩
      · have h56d : decide (56 ≤ rs.length) = true := by simp; omega
        rw [h56d] at HPAD
        clear h56d
        by_cases hcF : c = p
        · obtain rfl : c = p := hcF
          have hcl : l.length - c = 0 := by omega
          have HX := HD
          rw [if_pos rfl, hcl, Nat.sub_self] at HX
          clear HD hcl
          go_wp2_with fail
          refine (HPAD.out _ HX.out).mono ?_
          rintro e w2 ⟨rfl, hb2⟩
          have h2 : Below w2.heap.size w2 (w2.alloc (.cells (u8s pe) 110)) := (Below.refl _ _).alloc (Nat.le_refl _) _
          have hsz2 : wr.heap.size ≤ w2.heap.size := hb2.size
          have HWT : Kp (∀ wt, w2.alloc (.cells (u8s pe) 110) = wt → ∀ W, Below wt.heap.size wt W → Box W (w1.heap.size + 1) 97 (u32s st.l) ∧ Box W w1.heap.size 95 K0 ∧ Box W w.heap.size 39 (u8s (List.replicate 32 0)) ∧ Below w.heap.size w W ∧ Box W w2.heap.size 110 (u8s pe)) := ⟨fun wt hwt W hW => by
            subst hwt
            have hx := HSS.out
            have hbw := (hx.2.2.2.trans (hb2.mono hx.2.2.2.size))
            have hbw2 := hbw.trans (h2.mono hbw.size)
            exact ⟨((hx.1.below hb2).below h2).below hW, ((hx.2.1.below hb2).below h2).below hW, ((hx.2.2.1.below hb2).below h2).below hW, hbw2.trans (hW.mono hbw2.size), (Box.fresh _ _ _).below hW⟩⟩
          have hg7 : w1.heap.size + 1 < w2.heap.size := by have := HSS.out.1.lt; omega
          clear hb2 h2 hsz2
          go_wp2_with (refine wpList_store_fresh rfl 110 (.tmp 7) (.tmp 39) rfl _ (u8s pe) w2.heap.size rfl rfl rfl HIP.out HPS.out HP1.out ?_)
          obtain ⟨wt, hwt⟩ : ∃ W, w2.alloc (.cells (u8s pe) 110) = W := ⟨_, rfl⟩
          have HRD := Kp.mk (HWT.out wt hwt)
          rw [hwt]
          clear HWT hwt
          have har := fun W : World => run_arrayAt (P := Try.prog) (w := W) 109 _ 64 (some ⟨w2.heap.size, 0, none⟩) 64 128 Try.underlying109 (Nat.le_refl _)
          have HSW : Kp (∀ W, Box W w1.heap.size 95 K0 → W.rangeAt w2.heap.size (0) (byteVals blk) → W.rangeAt w1.heap.size 0 K0.toList ∧ W.rangeAt w2.heap.size (0) (byteVals blk)) := ⟨fun W h1 h2 => ⟨row_range h1, h2⟩⟩
          go_wp2_with fail
          refine wp_region_noPanic ?_
          refine wp_region_held_drew (S := (fun W => W.rangeAt w1.heap.size 0 K0.toList ∧ W.rangeAt w2.heap.size (0) (byteVals blk))) (by kernel_rfl) ?_ (fun hHeld => ?_)
          · exact HSW.out _ (HRD.out _ (Below.refl _ _).drew).2.1 (HRB.out _ _ (HRD.out _ (Below.refl _ _).drew).2.2.2.2)
          refine wpAnyH_take (i := 1) (oi := ⟨some 42, _, _, _, _, _⟩) (v := .agg (K0.toList).toArray) rfl (by kernel_rfl) (by kernel_rfl) (by kernel_rfl) (fun _ _ _ h => h) (yieldsIf_load_mid (by rfl) 95 (.tmp 3) rfl w1.heap.size 0 rfl (K0.toList) _ (fun W hW => hW.1) Try.underlying95 rfl (by simpa using HIK.out)) hHeld ?_
          try simp only [Act.put, List.setIfInBounds_toArray, List.set_cons_zero, List.set_cons_succ, Array.toArray_toList]
          refine wpAnyH_take (i := 2) (oi := ⟨some 43, _, _, _, _, _⟩) (v := ?_) rfl (by kernel_rfl) (by kernel_rfl) (by kernel_rfl) (fun _ _ _ h => h) (Or.inl ⟨by rfl, ?_⟩) hHeld ?_
          rotate_left
          · (intro wx hSw; (try dsimp only at hSw); obtain _ := hSw; go_simp; try with_reducible rfl)
          try simp only [Act.put, List.setIfInBounds_toArray, List.set_cons_zero, List.set_cons_succ]
          refine wpAnyH_take (i := 3) (oi := ⟨some 44, _, _, _, _, _⟩) (v := ?_) rfl (by kernel_rfl) (by kernel_rfl) (by kernel_rfl) (fun _ _ _ h => h) (Or.inl ⟨by rfl, ?_⟩) hHeld ?_
          rotate_left
          · (intro wx hSw; (try dsimp only at hSw); obtain _ := hSw; go_simp; try with_reducible rfl)
          try simp only [Act.put, List.setIfInBounds_toArray, List.set_cons_zero, List.set_cons_succ]
          refine wpAnyH_take (i := 4) (oi := ⟨some 45, _, _, _, _, _⟩) (v := .agg (byteVals blk).toArray) rfl (by kernel_rfl) (by kernel_rfl) (by kernel_rfl) (fun _ _ _ h => h) (yieldsIf_load_mid (by rfl) 109 (.tmp 44) rfl w2.heap.size (0) rfl (byteVals blk) _ (fun W hW => hW.2) Try.underlying109 rfl (by rw [byteVals, List.length_map, HBL.out]; kernel_rfl)) hHeld ?_
          try simp only [Act.put, List.setIfInBounds_toArray, List.set_cons_zero, List.set_cons_succ, Array.toArray_toList]
          refine wpAnyH_ready (rs := [0]) (by kernel_rfl) (by simp) (AllReadyH.cons (o := ⟨some 41, _, _, _, _, _⟩) rfl (fun K hK => ?_) AllReadyH.nil)
          refine step_load8 rfl 97 (.tmp 4) rfl (w1.heap.size + 1) 0 rfl (u32s st.l).toList _ (row_range (HRD.out _ (Below.refl _ _).drew).1) Try.underlying97 rfl (by rw [show (u32s st.l).toList.length = 8 from rfl]; kernel_rfl) ?_
          rw [Array.toArray_toList]
          refine hK.out _ _ (HSW.out _ (HRD.out _ (Below.refl _ _).drew).2.1 (HRB.out _ _ (HRD.out _ (Below.refl _ _).drew).2.2.2.2)) (fun hHeld => ?_)
          clear hK K
          try simp only [Act.put, List.setIfInBounds_toArray, List.set_cons_zero, List.set_cons_succ]
          refine wpAnyH_ready (rs := [5]) (by kernel_rfl) (by simp) (AllReadyH.cons (o := ⟨some 46, _, _, _, _, _⟩) rfl (fun K hK => ?_) AllReadyH.nil)
          go_simp
          refine (HMX.out _).mono ?_
          rintro e w3 ⟨rfl, hb2⟩
          have hb02 := (Below.refl wt.heap.size wt).drew.trans hb2
          refine hK.out _ _ (HSW.out _ (HRD.out _ hb02).2.1 (HRB.out _ _ (HRD.out _ hb02).2.2.2.2)) (fun hHeld => ?_)
          clear hK K
          try simp only [Act.put, List.setIfInBounds_toArray, List.set_cons_zero, List.set_cons_succ]
          refine wpAnyH_ready (rs := [6]) (by kernel_rfl) (by simp) (AllReadyH.cons (o := ⟨none, _, _, _, _, _⟩) rfl (fun K hK => ?_) AllReadyH.nil)
          refine step_row rfl 97 (.tmp 4) (.tmp 46) rfl (w1.heap.size + 1) (u32s st2.l) rfl rfl 97 _ (HRD.out _ hb02).1 (by rw [u32s_size, s8_len]; kernel_rfl) (by rw [u32s_size, u32s_size, s8_len, s8_len]) (u32s_one _) ?_
          have hrw : Box (w3.setRow (w1.heap.size + 1) (u32s st2.l)) w1.heap.size 95 K0 := (setRow_other w3 _ _ _ (by omega)).trans (HRD.out _ hb02).2.1
          have hb7 : Box (w3.setRow (w1.heap.size + 1) (u32s st2.l)) w2.heap.size 110 (u8s pe) := (setRow_other w3 _ _ _ (by omega)).trans (HRD.out _ hb02).2.2.2.2
          have hbs := row_box (HRD.out _ hb02).1 (u32s st2.l)
          have hbr : Below w.heap.size w (w3.setRow (w1.heap.size + 1) (u32s st2.l)) := (HRD.out _ hb02).2.2.2.1.trans (row_below (by have := HSZ.out; omega) _)
          have hb0r : Box (w3.setRow (w1.heap.size + 1) (u32s st2.l)) w.heap.size 39 (u8s (List.replicate 32 0)) := (setRow_other w3 (w1.heap.size + 1) w.heap.size (u32s st2.l) (by have := HSZ.out; omega)).trans (HRD.out _ hb02).2.2.1
          refine hK.out _ _ (HSW.out _ hrw (HRB.out _ _ hb7)) (fun hHeld => ?_)
          clear hK K
          try simp only [Act.put, List.setIfInBounds_toArray, List.set_cons_zero, List.set_cons_succ]
          refine wpAnyH_done (by kernel_rfl) ?_ _
          refine NoPanic.normal ?_
          obtain ⟨wu, hwu⟩ : ∃ W, w3.setRow (w1.heap.size + 1) (u32s st2.l) = W := ⟨_, rfl⟩
          rw [hwu] at hbs hrw hb0r hbr hb7 ⊢
          have HSS2 := Kp.mk (And.intro hbs (And.intro hrw (And.intro hb0r (And.intro hbr hb7))))
          clear hbs hrw hb0r hbr hb7 hb02 hb2 HRD HSW HMX har hHeld hwu
          obtain ⟨st, rfl⟩ : ∃ s, s = st2 := ⟨_, rfl⟩
          obtain ⟨blk, rfl⟩ : ∃ s, s = bl2 := ⟨_, rfl⟩
          have HBLo := HBL2
          clear HBL
          have HBL := HBLo
          obtain ⟨st2, hst2⟩ : ∃ s, mixS st blk = s := ⟨_, rfl⟩
          have HMX : Kp (∀ W, Calls Try.prog 71 #[.agg (u32s st.l), .agg K0, .agg (u8s blk)] W (Ans (.agg (u32s st2.l)) W)) := ⟨fun W => hst2 ▸ HMIX2.out W st blk HST2.out HBB2.out HBL.out⟩
          have HSF : Kp (R = joined st2.l) := ⟨by rw [← hst2, ← HRE.out]; exact HSH2.out (by omega)⟩
          have HSO : Kp (S8.ok st2) := ⟨hst2 ▸ S8.plus_ok _ _⟩
          have HRD : Kp (∀ W, Below wu.heap.size wu W → Box W (w1.heap.size + 1) 97 (u32s st.l) ∧ Box W w1.heap.size 95 K0 ∧ Box W w.heap.size 39 (u8s (List.replicate 32 0)) ∧ Below w.heap.size w W ∧ Box W w2.heap.size 110 (u8s pe)) := ⟨fun W hW => ⟨HSS2.out.1.below hW, HSS2.out.2.1.below hW, HSS2.out.2.2.1.below hW, HSS2.out.2.2.2.1.trans (hW.mono HSS2.out.2.2.2.1.size), HSS2.out.2.2.2.2.below hW⟩⟩
          have har := fun W : World => run_arrayAt (P := Try.prog) (w := W) 109 _ 64 (some ⟨w2.heap.size, 64, none⟩) 64 64 Try.underlying109 (Nat.le_refl _)
          clear hst2
          have HSW : Kp (∀ W, Box W w1.heap.size 95 K0 → W.rangeAt w2.heap.size (64) (byteVals blk) → W.rangeAt w1.heap.size 0 K0.toList ∧ W.rangeAt w2.heap.size (64) (byteVals blk)) := ⟨fun W h1 h2 => ⟨row_range h1, h2⟩⟩
          go_wp2_with fail
          refine wp_region_noPanic ?_
          refine wp_region_held_drew (S := (fun W => W.rangeAt w1.heap.size 0 K0.toList ∧ W.rangeAt w2.heap.size (64) (byteVals blk))) (by kernel_rfl) ?_ (fun hHeld => ?_)
          · exact HSW.out _ (HRD.out _ (Below.refl _ _).drew).2.1 (HRB2.out _ _ (HRD.out _ (Below.refl _ _).drew).2.2.2.2)
          refine wpAnyH_take (i := 1) (oi := ⟨some 49, _, _, _, _, _⟩) (v := .agg (K0.toList).toArray) rfl (by kernel_rfl) (by kernel_rfl) (by kernel_rfl) (fun _ _ _ h => h) (yieldsIf_load_mid (by rfl) 95 (.tmp 3) rfl w1.heap.size 0 rfl (K0.toList) _ (fun W hW => hW.1) Try.underlying95 rfl (by simpa using HIK.out)) hHeld ?_
          try simp only [Act.put, List.setIfInBounds_toArray, List.set_cons_zero, List.set_cons_succ, Array.toArray_toList]
          refine wpAnyH_take (i := 2) (oi := ⟨some 50, _, _, _, _, _⟩) (v := ?_) rfl (by kernel_rfl) (by kernel_rfl) (by kernel_rfl) (fun _ _ _ h => h) (Or.inl ⟨by rfl, ?_⟩) hHeld ?_
          rotate_left
          · (intro wx hSw; (try dsimp only at hSw); obtain _ := hSw; go_simp; try with_reducible rfl)
          try simp only [Act.put, List.setIfInBounds_toArray, List.set_cons_zero, List.set_cons_succ]
          refine wpAnyH_take (i := 3) (oi := ⟨some 51, _, _, _, _, _⟩) (v := ?_) rfl (by kernel_rfl) (by kernel_rfl) (by kernel_rfl) (fun _ _ _ h => h) (Or.inl ⟨by rfl, ?_⟩) hHeld ?_
          rotate_left
          · (intro wx hSw; (try dsimp only at hSw); obtain _ := hSw; go_simp; try with_reducible rfl)
          try simp only [Act.put, List.setIfInBounds_toArray, List.set_cons_zero, List.set_cons_succ]
          refine wpAnyH_take (i := 4) (oi := ⟨some 52, _, _, _, _, _⟩) (v := .agg (byteVals blk).toArray) rfl (by kernel_rfl) (by kernel_rfl) (by kernel_rfl) (fun _ _ _ h => h) (yieldsIf_load_mid (by rfl) 109 (.tmp 51) rfl w2.heap.size (64) rfl (byteVals blk) _ (fun W hW => hW.2) Try.underlying109 rfl (by rw [byteVals, List.length_map, HBL.out]; kernel_rfl)) hHeld ?_
          try simp only [Act.put, List.setIfInBounds_toArray, List.set_cons_zero, List.set_cons_succ, Array.toArray_toList]
          refine wpAnyH_ready (rs := [0]) (by kernel_rfl) (by simp) (AllReadyH.cons (o := ⟨some 48, _, _, _, _, _⟩) rfl (fun K hK => ?_) AllReadyH.nil)
          refine step_load8 rfl 97 (.tmp 4) rfl (w1.heap.size + 1) 0 rfl (u32s st.l).toList _ (row_range (HRD.out _ (Below.refl _ _).drew).1) Try.underlying97 rfl (by rw [show (u32s st.l).toList.length = 8 from rfl]; kernel_rfl) ?_
          rw [Array.toArray_toList]
          refine hK.out _ _ (HSW.out _ (HRD.out _ (Below.refl _ _).drew).2.1 (HRB2.out _ _ (HRD.out _ (Below.refl _ _).drew).2.2.2.2)) (fun hHeld => ?_)
          clear hK K
          try simp only [Act.put, List.setIfInBounds_toArray, List.set_cons_zero, List.set_cons_succ]
          refine wpAnyH_ready (rs := [5]) (by kernel_rfl) (by simp) (AllReadyH.cons (o := ⟨some 53, _, _, _, _, _⟩) rfl (fun K hK => ?_) AllReadyH.nil)
          go_simp
          refine (HMX.out _).mono ?_
          rintro e w4 ⟨rfl, hb2⟩
          have hb02 := (Below.refl wu.heap.size wu).drew.trans hb2
          refine hK.out _ _ (HSW.out _ (HRD.out _ hb02).2.1 (HRB2.out _ _ (HRD.out _ hb02).2.2.2.2)) (fun hHeld => ?_)
          clear hK K
          try simp only [Act.put, List.setIfInBounds_toArray, List.set_cons_zero, List.set_cons_succ]
          refine wpAnyH_ready (rs := [6]) (by kernel_rfl) (by simp) (AllReadyH.cons (o := ⟨none, _, _, _, _, _⟩) rfl (fun K hK => ?_) AllReadyH.nil)
          refine step_row rfl 97 (.tmp 4) (.tmp 53) rfl (w1.heap.size + 1) (u32s st2.l) rfl rfl 97 _ (HRD.out _ hb02).1 (by rw [u32s_size, s8_len]; kernel_rfl) (by rw [u32s_size, u32s_size, s8_len, s8_len]) (u32s_one _) ?_
          have hrw : Box (w4.setRow (w1.heap.size + 1) (u32s st2.l)) w1.heap.size 95 K0 := (setRow_other w4 _ _ _ (by omega)).trans (HRD.out _ hb02).2.1
          have hb7 : Box (w4.setRow (w1.heap.size + 1) (u32s st2.l)) w2.heap.size 110 (u8s pe) := (setRow_other w4 _ _ _ (by omega)).trans (HRD.out _ hb02).2.2.2.2
          have hbs := row_box (HRD.out _ hb02).1 (u32s st2.l)
          have hbr : Below w.heap.size w (w4.setRow (w1.heap.size + 1) (u32s st2.l)) := (HRD.out _ hb02).2.2.2.1.trans (row_below (by have := HSZ.out; omega) _)
          have hb0r : Box (w4.setRow (w1.heap.size + 1) (u32s st2.l)) w.heap.size 39 (u8s (List.replicate 32 0)) := (setRow_other w4 (w1.heap.size + 1) w.heap.size (u32s st2.l) (by have := HSZ.out; omega)).trans (HRD.out _ hb02).2.2.1
          refine hK.out _ _ (HSW.out _ hrw (HRB2.out _ _ hb7)) (fun hHeld => ?_)
          clear hK K
          try simp only [Act.put, List.setIfInBounds_toArray, List.set_cons_zero, List.set_cons_succ]
          refine wpAnyH_done (by kernel_rfl) ?_ _
          refine NoPanic.normal ?_
          obtain ⟨wv, hwv⟩ : ∃ W, w4.setRow (w1.heap.size + 1) (u32s st2.l) = W := ⟨_, rfl⟩
          rw [hwv] at hbs hb0r hbr ⊢
          have HBS := Kp.mk hbs
          have HB0 := Kp.mk hb0r
          have HBR := Kp.mk hbr
          have HJN : Kp (∀ W, Calls Try.prog 73 #[.agg (u32s st2.l)] W (Ans (.agg (u8s R)) W)) := ⟨fun W => by rw [HSF.out]; exact join_any W st2 HSO.out⟩
          have HRL2 : Kp (R.length = 32) := ⟨by rw [HSF.out, joined_len]; rfl⟩
          have HI32 : Kp ((Try.prog.info? 39).map (·.size) = some (u8s R).size) := ⟨by rw [u8s_size, HRL2.out]; kernel_rfl⟩
          have HS32 : Kp ((u8s (List.replicate 32 0)).size = (u8s R).size) := ⟨by rw [u8s_size, u8s_size, HRL2.out]; rfl⟩
          have HO32 := Kp.mk (u8s_one R)
          clear hbs hrw hb0r hbr hb7 hb02 hb2 hHeld hwv har
          go_wp2_with (refine wpList_load_row rfl 97 (.tmp 4) rfl (w1.heap.size + 1) rfl 97 (u32s st2.l) (0, 0) _ HBS.out Try.underlying97 rfl (by rw [u32s_size, s8_len]; kernel_rfl) ?_)
          refine (HJN.out _).mono ?_
          rintro e w5 ⟨rfl, hb5⟩
          have HB5 := Kp.mk (HB0.out.below hb5)
          have HF5 := Kp.mk (HBR.out.trans (hb5.mono HBR.out.size))
          clear hb5
          go_wp2_with (refine wpList_store_row rfl 39 (.tmp 2) (.tmp 55) rfl w.heap.size (u8s R) rfl rfl 39 _ HB5.out HI32.out HS32.out HO32.out ?_)
          exact bodyPost_ret (results_cell_row (by rfl) _ _ w.heap.size 39 (u8s R) _ _ rfl (row_box HB5.out _) Try.underlying39 rfl HI32.out) rfl ⟨by rw [HRE.out], HF5.out.trans (row_below (Nat.le_refl _) _)⟩
        · have HX := HD
          rw [if_neg hcF] at HX
          clear HD
          go_wp2_with fail
          refine (HPAD.out _ HX.out).mono ?_
          rintro e w2 ⟨rfl, hb2⟩
          have h2 : Below w2.heap.size w2 (w2.alloc (.cells (u8s pe) 110)) := (Below.refl _ _).alloc (Nat.le_refl _) _
          have hsz2 : wr.heap.size ≤ w2.heap.size := hb2.size
          have HWT : Kp (∀ wt, w2.alloc (.cells (u8s pe) 110) = wt → ∀ W, Below wt.heap.size wt W → Box W (w1.heap.size + 1) 97 (u32s st.l) ∧ Box W w1.heap.size 95 K0 ∧ Box W w.heap.size 39 (u8s (List.replicate 32 0)) ∧ Below w.heap.size w W ∧ Box W w2.heap.size 110 (u8s pe)) := ⟨fun wt hwt W hW => by
            subst hwt
            have hx := HSS.out
            have hbw := (hx.2.2.2.trans (hb2.mono hx.2.2.2.size))
            have hbw2 := hbw.trans (h2.mono hbw.size)
            exact ⟨((hx.1.below hb2).below h2).below hW, ((hx.2.1.below hb2).below h2).below hW, ((hx.2.2.1.below hb2).below h2).below hW, hbw2.trans (hW.mono hbw2.size), (Box.fresh _ _ _).below hW⟩⟩
          have hg7 : w1.heap.size + 1 < w2.heap.size := by have := HSS.out.1.lt; omega
          clear hb2 h2 hsz2
          go_wp2_with (refine wpList_store_fresh rfl 110 (.tmp 7) (.tmp 39) rfl _ (u8s pe) w2.heap.size rfl rfl rfl HIP.out HPS.out HP1.out ?_)
          obtain ⟨wt, hwt⟩ : ∃ W, w2.alloc (.cells (u8s pe) 110) = W := ⟨_, rfl⟩
          have HRD := Kp.mk (HWT.out wt hwt)
          rw [hwt]
          clear HWT hwt
          have har := fun W : World => run_arrayAt (P := Try.prog) (w := W) 109 _ 64 (some ⟨w2.heap.size, 0, none⟩) 64 128 Try.underlying109 (Nat.le_refl _)
          have HSW : Kp (∀ W, Box W w1.heap.size 95 K0 → W.rangeAt w2.heap.size (0) (byteVals blk) → W.rangeAt w1.heap.size 0 K0.toList ∧ W.rangeAt w2.heap.size (0) (byteVals blk)) := ⟨fun W h1 h2 => ⟨row_range h1, h2⟩⟩
          go_wp2_with fail
          refine wp_region_noPanic ?_
          refine wp_region_held_drew (S := (fun W => W.rangeAt w1.heap.size 0 K0.toList ∧ W.rangeAt w2.heap.size (0) (byteVals blk))) (by kernel_rfl) ?_ (fun hHeld => ?_)
          · exact HSW.out _ (HRD.out _ (Below.refl _ _).drew).2.1 (HRB.out _ _ (HRD.out _ (Below.refl _ _).drew).2.2.2.2)
          refine wpAnyH_take (i := 1) (oi := ⟨some 42, _, _, _, _, _⟩) (v := .agg (K0.toList).toArray) rfl (by kernel_rfl) (by kernel_rfl) (by kernel_rfl) (fun _ _ _ h => h) (yieldsIf_load_mid (by rfl) 95 (.tmp 3) rfl w1.heap.size 0 rfl (K0.toList) _ (fun W hW => hW.1) Try.underlying95 rfl (by simpa using HIK.out)) hHeld ?_
          try simp only [Act.put, List.setIfInBounds_toArray, List.set_cons_zero, List.set_cons_succ, Array.toArray_toList]
          refine wpAnyH_take (i := 2) (oi := ⟨some 43, _, _, _, _, _⟩) (v := ?_) rfl (by kernel_rfl) (by kernel_rfl) (by kernel_rfl) (fun _ _ _ h => h) (Or.inl ⟨by rfl, ?_⟩) hHeld ?_
          rotate_left
          · (intro wx hSw; (try dsimp only at hSw); obtain _ := hSw; go_simp; try with_reducible rfl)
          try simp only [Act.put, List.setIfInBounds_toArray, List.set_cons_zero, List.set_cons_succ]
          refine wpAnyH_take (i := 3) (oi := ⟨some 44, _, _, _, _, _⟩) (v := ?_) rfl (by kernel_rfl) (by kernel_rfl) (by kernel_rfl) (fun _ _ _ h => h) (Or.inl ⟨by rfl, ?_⟩) hHeld ?_
          rotate_left
          · (intro wx hSw; (try dsimp only at hSw); obtain _ := hSw; go_simp; try with_reducible rfl)
          try simp only [Act.put, List.setIfInBounds_toArray, List.set_cons_zero, List.set_cons_succ]
          refine wpAnyH_take (i := 4) (oi := ⟨some 45, _, _, _, _, _⟩) (v := .agg (byteVals blk).toArray) rfl (by kernel_rfl) (by kernel_rfl) (by kernel_rfl) (fun _ _ _ h => h) (yieldsIf_load_mid (by rfl) 109 (.tmp 44) rfl w2.heap.size (0) rfl (byteVals blk) _ (fun W hW => hW.2) Try.underlying109 rfl (by rw [byteVals, List.length_map, HBL.out]; kernel_rfl)) hHeld ?_
          try simp only [Act.put, List.setIfInBounds_toArray, List.set_cons_zero, List.set_cons_succ, Array.toArray_toList]
          refine wpAnyH_ready (rs := [0]) (by kernel_rfl) (by simp) (AllReadyH.cons (o := ⟨some 41, _, _, _, _, _⟩) rfl (fun K hK => ?_) AllReadyH.nil)
          refine step_load8 rfl 97 (.tmp 4) rfl (w1.heap.size + 1) 0 rfl (u32s st.l).toList _ (row_range (HRD.out _ (Below.refl _ _).drew).1) Try.underlying97 rfl (by rw [show (u32s st.l).toList.length = 8 from rfl]; kernel_rfl) ?_
          rw [Array.toArray_toList]
          refine hK.out _ _ (HSW.out _ (HRD.out _ (Below.refl _ _).drew).2.1 (HRB.out _ _ (HRD.out _ (Below.refl _ _).drew).2.2.2.2)) (fun hHeld => ?_)
          clear hK K
          try simp only [Act.put, List.setIfInBounds_toArray, List.set_cons_zero, List.set_cons_succ]
          refine wpAnyH_ready (rs := [5]) (by kernel_rfl) (by simp) (AllReadyH.cons (o := ⟨some 46, _, _, _, _, _⟩) rfl (fun K hK => ?_) AllReadyH.nil)
          go_simp
          refine (HMX.out _).mono ?_
          rintro e w3 ⟨rfl, hb2⟩
          have hb02 := (Below.refl wt.heap.size wt).drew.trans hb2
          refine hK.out _ _ (HSW.out _ (HRD.out _ hb02).2.1 (HRB.out _ _ (HRD.out _ hb02).2.2.2.2)) (fun hHeld => ?_)
          clear hK K
          try simp only [Act.put, List.setIfInBounds_toArray, List.set_cons_zero, List.set_cons_succ]
          refine wpAnyH_ready (rs := [6]) (by kernel_rfl) (by simp) (AllReadyH.cons (o := ⟨none, _, _, _, _, _⟩) rfl (fun K hK => ?_) AllReadyH.nil)
          refine step_row rfl 97 (.tmp 4) (.tmp 46) rfl (w1.heap.size + 1) (u32s st2.l) rfl rfl 97 _ (HRD.out _ hb02).1 (by rw [u32s_size, s8_len]; kernel_rfl) (by rw [u32s_size, u32s_size, s8_len, s8_len]) (u32s_one _) ?_
          have hrw : Box (w3.setRow (w1.heap.size + 1) (u32s st2.l)) w1.heap.size 95 K0 := (setRow_other w3 _ _ _ (by omega)).trans (HRD.out _ hb02).2.1
          have hb7 : Box (w3.setRow (w1.heap.size + 1) (u32s st2.l)) w2.heap.size 110 (u8s pe) := (setRow_other w3 _ _ _ (by omega)).trans (HRD.out _ hb02).2.2.2.2
          have hbs := row_box (HRD.out _ hb02).1 (u32s st2.l)
          have hbr : Below w.heap.size w (w3.setRow (w1.heap.size + 1) (u32s st2.l)) := (HRD.out _ hb02).2.2.2.1.trans (row_below (by have := HSZ.out; omega) _)
          have hb0r : Box (w3.setRow (w1.heap.size + 1) (u32s st2.l)) w.heap.size 39 (u8s (List.replicate 32 0)) := (setRow_other w3 (w1.heap.size + 1) w.heap.size (u32s st2.l) (by have := HSZ.out; omega)).trans (HRD.out _ hb02).2.2.1
          refine hK.out _ _ (HSW.out _ hrw (HRB.out _ _ hb7)) (fun hHeld => ?_)
          clear hK K
          try simp only [Act.put, List.setIfInBounds_toArray, List.set_cons_zero, List.set_cons_succ]
          refine wpAnyH_done (by kernel_rfl) ?_ _
          refine NoPanic.normal ?_
          obtain ⟨wu, hwu⟩ : ∃ W, w3.setRow (w1.heap.size + 1) (u32s st2.l) = W := ⟨_, rfl⟩
          rw [hwu] at hbs hrw hb0r hbr hb7 ⊢
          have HSS2 := Kp.mk (And.intro hbs (And.intro hrw (And.intro hb0r (And.intro hbr hb7))))
          clear hbs hrw hb0r hbr hb7 hb02 hb2 HRD HSW HMX har hHeld hwu
          obtain ⟨st, rfl⟩ : ∃ s, s = st2 := ⟨_, rfl⟩
          obtain ⟨blk, rfl⟩ : ∃ s, s = bl2 := ⟨_, rfl⟩
          have HBLo := HBL2
          clear HBL
          have HBL := HBLo
          obtain ⟨st2, hst2⟩ : ∃ s, mixS st blk = s := ⟨_, rfl⟩
          have HMX : Kp (∀ W, Calls Try.prog 71 #[.agg (u32s st.l), .agg K0, .agg (u8s blk)] W (Ans (.agg (u32s st2.l)) W)) := ⟨fun W => hst2 ▸ HMIX2.out W st blk HST2.out HBB2.out HBL.out⟩
          have HSF : Kp (R = joined st2.l) := ⟨by rw [← hst2, ← HRE.out]; exact HSH2.out (by omega)⟩
          have HSO : Kp (S8.ok st2) := ⟨hst2 ▸ S8.plus_ok _ _⟩
          have HRD : Kp (∀ W, Below wu.heap.size wu W → Box W (w1.heap.size + 1) 97 (u32s st.l) ∧ Box W w1.heap.size 95 K0 ∧ Box W w.heap.size 39 (u8s (List.replicate 32 0)) ∧ Below w.heap.size w W ∧ Box W w2.heap.size 110 (u8s pe)) := ⟨fun W hW => ⟨HSS2.out.1.below hW, HSS2.out.2.1.below hW, HSS2.out.2.2.1.below hW, HSS2.out.2.2.2.1.trans (hW.mono HSS2.out.2.2.2.1.size), HSS2.out.2.2.2.2.below hW⟩⟩
          have har := fun W : World => run_arrayAt (P := Try.prog) (w := W) 109 _ 64 (some ⟨w2.heap.size, 64, none⟩) 64 64 Try.underlying109 (Nat.le_refl _)
          clear hst2
          have HSW : Kp (∀ W, Box W w1.heap.size 95 K0 → W.rangeAt w2.heap.size (64) (byteVals blk) → W.rangeAt w1.heap.size 0 K0.toList ∧ W.rangeAt w2.heap.size (64) (byteVals blk)) := ⟨fun W h1 h2 => ⟨row_range h1, h2⟩⟩
          go_wp2_with fail
          refine wp_region_noPanic ?_
          refine wp_region_held_drew (S := (fun W => W.rangeAt w1.heap.size 0 K0.toList ∧ W.rangeAt w2.heap.size (64) (byteVals blk))) (by kernel_rfl) ?_ (fun hHeld => ?_)
          · exact HSW.out _ (HRD.out _ (Below.refl _ _).drew).2.1 (HRB2.out _ _ (HRD.out _ (Below.refl _ _).drew).2.2.2.2)
          refine wpAnyH_take (i := 1) (oi := ⟨some 49, _, _, _, _, _⟩) (v := .agg (K0.toList).toArray) rfl (by kernel_rfl) (by kernel_rfl) (by kernel_rfl) (fun _ _ _ h => h) (yieldsIf_load_mid (by rfl) 95 (.tmp 3) rfl w1.heap.size 0 rfl (K0.toList) _ (fun W hW => hW.1) Try.underlying95 rfl (by simpa using HIK.out)) hHeld ?_
          try simp only [Act.put, List.setIfInBounds_toArray, List.set_cons_zero, List.set_cons_succ, Array.toArray_toList]
          refine wpAnyH_take (i := 2) (oi := ⟨some 50, _, _, _, _, _⟩) (v := ?_) rfl (by kernel_rfl) (by kernel_rfl) (by kernel_rfl) (fun _ _ _ h => h) (Or.inl ⟨by rfl, ?_⟩) hHeld ?_
          rotate_left
          · (intro wx hSw; (try dsimp only at hSw); obtain _ := hSw; go_simp; try with_reducible rfl)
          try simp only [Act.put, List.setIfInBounds_toArray, List.set_cons_zero, List.set_cons_succ]
          refine wpAnyH_take (i := 3) (oi := ⟨some 51, _, _, _, _, _⟩) (v := ?_) rfl (by kernel_rfl) (by kernel_rfl) (by kernel_rfl) (fun _ _ _ h => h) (Or.inl ⟨by rfl, ?_⟩) hHeld ?_
          rotate_left
          · (intro wx hSw; (try dsimp only at hSw); obtain _ := hSw; go_simp; try with_reducible rfl)
          try simp only [Act.put, List.setIfInBounds_toArray, List.set_cons_zero, List.set_cons_succ]
          refine wpAnyH_take (i := 4) (oi := ⟨some 52, _, _, _, _, _⟩) (v := .agg (byteVals blk).toArray) rfl (by kernel_rfl) (by kernel_rfl) (by kernel_rfl) (fun _ _ _ h => h) (yieldsIf_load_mid (by rfl) 109 (.tmp 51) rfl w2.heap.size (64) rfl (byteVals blk) _ (fun W hW => hW.2) Try.underlying109 rfl (by rw [byteVals, List.length_map, HBL.out]; kernel_rfl)) hHeld ?_
          try simp only [Act.put, List.setIfInBounds_toArray, List.set_cons_zero, List.set_cons_succ, Array.toArray_toList]
          refine wpAnyH_ready (rs := [0]) (by kernel_rfl) (by simp) (AllReadyH.cons (o := ⟨some 48, _, _, _, _, _⟩) rfl (fun K hK => ?_) AllReadyH.nil)
          refine step_load8 rfl 97 (.tmp 4) rfl (w1.heap.size + 1) 0 rfl (u32s st.l).toList _ (row_range (HRD.out _ (Below.refl _ _).drew).1) Try.underlying97 rfl (by rw [show (u32s st.l).toList.length = 8 from rfl]; kernel_rfl) ?_
          rw [Array.toArray_toList]
          refine hK.out _ _ (HSW.out _ (HRD.out _ (Below.refl _ _).drew).2.1 (HRB2.out _ _ (HRD.out _ (Below.refl _ _).drew).2.2.2.2)) (fun hHeld => ?_)
          clear hK K
          try simp only [Act.put, List.setIfInBounds_toArray, List.set_cons_zero, List.set_cons_succ]
          refine wpAnyH_ready (rs := [5]) (by kernel_rfl) (by simp) (AllReadyH.cons (o := ⟨some 53, _, _, _, _, _⟩) rfl (fun K hK => ?_) AllReadyH.nil)
          go_simp
          refine (HMX.out _).mono ?_
          rintro e w4 ⟨rfl, hb2⟩
          have hb02 := (Below.refl wu.heap.size wu).drew.trans hb2
          refine hK.out _ _ (HSW.out _ (HRD.out _ hb02).2.1 (HRB2.out _ _ (HRD.out _ hb02).2.2.2.2)) (fun hHeld => ?_)
          clear hK K
          try simp only [Act.put, List.setIfInBounds_toArray, List.set_cons_zero, List.set_cons_succ]
          refine wpAnyH_ready (rs := [6]) (by kernel_rfl) (by simp) (AllReadyH.cons (o := ⟨none, _, _, _, _, _⟩) rfl (fun K hK => ?_) AllReadyH.nil)
          refine step_row rfl 97 (.tmp 4) (.tmp 53) rfl (w1.heap.size + 1) (u32s st2.l) rfl rfl 97 _ (HRD.out _ hb02).1 (by rw [u32s_size, s8_len]; kernel_rfl) (by rw [u32s_size, u32s_size, s8_len, s8_len]) (u32s_one _) ?_
          have hrw : Box (w4.setRow (w1.heap.size + 1) (u32s st2.l)) w1.heap.size 95 K0 := (setRow_other w4 _ _ _ (by omega)).trans (HRD.out _ hb02).2.1
          have hb7 : Box (w4.setRow (w1.heap.size + 1) (u32s st2.l)) w2.heap.size 110 (u8s pe) := (setRow_other w4 _ _ _ (by omega)).trans (HRD.out _ hb02).2.2.2.2
          have hbs := row_box (HRD.out _ hb02).1 (u32s st2.l)
          have hbr : Below w.heap.size w (w4.setRow (w1.heap.size + 1) (u32s st2.l)) := (HRD.out _ hb02).2.2.2.1.trans (row_below (by have := HSZ.out; omega) _)
          have hb0r : Box (w4.setRow (w1.heap.size + 1) (u32s st2.l)) w.heap.size 39 (u8s (List.replicate 32 0)) := (setRow_other w4 (w1.heap.size + 1) w.heap.size (u32s st2.l) (by have := HSZ.out; omega)).trans (HRD.out _ hb02).2.2.1
          refine hK.out _ _ (HSW.out _ hrw (HRB2.out _ _ hb7)) (fun hHeld => ?_)
          clear hK K
          try simp only [Act.put, List.setIfInBounds_toArray, List.set_cons_zero, List.set_cons_succ]
          refine wpAnyH_done (by kernel_rfl) ?_ _
          refine NoPanic.normal ?_
          obtain ⟨wv, hwv⟩ : ∃ W, w4.setRow (w1.heap.size + 1) (u32s st2.l) = W := ⟨_, rfl⟩
          rw [hwv] at hbs hb0r hbr ⊢
          have HBS := Kp.mk hbs
          have HB0 := Kp.mk hb0r
          have HBR := Kp.mk hbr
          have HJN : Kp (∀ W, Calls Try.prog 73 #[.agg (u32s st2.l)] W (Ans (.agg (u8s R)) W)) := ⟨fun W => by rw [HSF.out]; exact join_any W st2 HSO.out⟩
          have HRL2 : Kp (R.length = 32) := ⟨by rw [HSF.out, joined_len]; rfl⟩
          have HI32 : Kp ((Try.prog.info? 39).map (·.size) = some (u8s R).size) := ⟨by rw [u8s_size, HRL2.out]; kernel_rfl⟩
          have HS32 : Kp ((u8s (List.replicate 32 0)).size = (u8s R).size) := ⟨by rw [u8s_size, u8s_size, HRL2.out]; rfl⟩
          have HO32 := Kp.mk (u8s_one R)
          clear hbs hrw hb0r hbr hb7 hb02 hb2 hHeld hwv har
          go_wp2_with (refine wpList_load_row rfl 97 (.tmp 4) rfl (w1.heap.size + 1) rfl 97 (u32s st2.l) (0, 0) _ HBS.out Try.underlying97 rfl (by rw [u32s_size, s8_len]; kernel_rfl) ?_)
          refine (HJN.out _).mono ?_
          rintro e w5 ⟨rfl, hb5⟩
          have HB5 := Kp.mk (HB0.out.below hb5)
          have HF5 := Kp.mk (HBR.out.trans (hb5.mono HBR.out.size))
          clear hb5
          go_wp2_with (refine wpList_store_row rfl 39 (.tmp 2) (.tmp 55) rfl w.heap.size (u8s R) rfl rfl 39 _ HB5.out HI32.out HS32.out HO32.out ?_)
          exact bodyPost_ret (results_cell_row (by rfl) _ _ w.heap.size 39 (u8s R) _ _ rfl (row_box HB5.out _) Try.underlying39 rfl HI32.out) rfl ⟨by rw [HRE.out], HF5.out.trans (row_below (Nat.le_refl _) _)⟩

set_option maxRecDepth 1000000 in
set_option maxHeartbeats 4000000 in
theorem twice_any (w : World) (v : Value) (l : List Int) (hs : Sl w w.heap.size v l) (hy : Bys l) (hm : l.length ≤ 140737488355328) :
    Calls Try.prog 40 #[v] w (Ans (.agg (u8s (twiceOf l))) w) := by
  have HD1 := Kp.mk (fun W hW => digest_any W v l hW hy hm)
  have HSL := Kp.mk hs
  have HD2 := Kp.mk (fun W v hW => digest_any W v (shaOf l) hW (shaOf_bys l) (by rw [shaOf_len]; omega))
  rw [show shaOf (shaOf l) = twiceOf l from rfl] at HD2
  have HL1 := Kp.mk (shaOf_len l)
  have HL2 : Kp ((twiceOf l).length = 32) := ⟨shaOf_len _⟩
  generalize twiceOf l = R at *
  generalize shaOf l = M at *
  have HI1 : Kp ((Try.prog.info? 39).map (·.size) = some (u8s M).size) := ⟨by rw [u8s_size, HL1.out]; kernel_rfl⟩
  have HS1 : Kp ((u8s (List.replicate 32 0)).size = (u8s M).size) := ⟨by rw [u8s_size, u8s_size, HL1.out]; rfl⟩
  have HO1 := Kp.mk (u8s_one M)
  have HI2 : Kp ((Try.prog.info? 39).map (·.size) = some (u8s R).size) := ⟨by rw [u8s_size, HL2.out]; kernel_rfl⟩
  have HS2 : Kp ((u8s (List.replicate 32 0)).size = (u8s R).size) := ⟨by rw [u8s_size, u8s_size, HL2.out]; rfl⟩
  have HO2 := Kp.mk (u8s_one R)
  clear hs hy hm
  go_enter Try.func40, Try.ntmps40
  go_wp2_with fail
  refine (HD1.out _ ((HSL.out.below ((Below.refl _ _).alloc (Nat.le_refl _) _)).free _ (Nat.le_refl _))).mono ?_
  rintro e w1 ⟨rfl, hb1⟩
  have hx0 : Box w1 w.heap.size 39 (u8s (List.replicate 32 0)) := (Box.new (w := w) rfl rfl).below hb1
  have hbw : Below w.heap.size w w1 := ((Below.refl _ _).alloc (Nat.le_refl _) _).trans (hb1.mono (by simp))
  have ha : Below w1.heap.size w1 (w1.alloc (.cells (u8s M) 39)) := (Below.refl _ _).alloc (Nat.le_refl _) _
  have HX0 := Kp.mk (hx0.below ha)
  have HBW := Kp.mk (hbw.trans (ha.mono hbw.size))
  have HSM : Kp (Sl (w1.alloc (.cells (u8s M) 39)) (w1.alloc (.cells (u8s M) 39)).heap.size (.slice (some ⟨w1.heap.size, 0, none⟩) 32 32) M) := ⟨⟨_, 32, by rw [HL1.out], by rw [HL1.out]; omega, (fun h => by cases h), fun _ => ⟨w1.heap.size, 0, rfl, by simp, by simp, fun i hi => by rw [Nat.zero_add, (Box.fresh w1 _ _).cell, u8s_at M i hi]⟩⟩⟩
  clear hx0 hbw ha hb1
  go_wp2_with (refine wpList_store_fresh rfl 39 (.tmp 3) (.tmp 5) rfl _ (u8s M) w1.heap.size rfl rfl rfl HI1.out HS1.out HO1.out ?_)
  refine (HD2.out _ _ HSM.out).mono ?_
  rintro e w2 ⟨rfl, hb2⟩
  have HX2 := Kp.mk (HX0.out.below hb2)
  have HB2 := Kp.mk (HBW.out.trans (hb2.mono HBW.out.size))
  clear hb2
  go_wp2_with (refine wpList_store_row rfl 39 (.tmp 2) (.tmp 7) rfl w.heap.size (u8s R) rfl rfl 39 _ HX2.out HI2.out HS2.out HO2.out ?_)
  exact bodyPost_ret (results_cell_row (by rfl) _ _ w.heap.size 39 (u8s R) _ _ rfl (row_box HX2.out _) Try.underlying39 rfl HI2.out) rfl ⟨rfl, HB2.out.trans (row_below (Nat.le_refl _) _)⟩
end Go.Proofs.Ytdemamipllfonaa
