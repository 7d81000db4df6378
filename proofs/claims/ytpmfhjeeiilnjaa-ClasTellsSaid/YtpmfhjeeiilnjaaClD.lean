/- Dust and Dusts, of the program and of the document. -/
import Derived.Test.YtpmfhjeeiilnjaaClC
import Derived.BigQuiet
namespace Go.Proofs.Ytpmfhjeeiilnjaa
open Go.RowKit

theorem below_drewN {B : Nat} {a w : World} (h : Below B a w) (n : Nat) : Below B a (w.drewN n) := ⟨h.os, h.tape, h.output, h.size, h.block⟩
def BoolP (b : Bool) (w : World) (e : Ending) (w' : World) : Prop := e = .returned (.bool b) ∧ Below w.heap.size w w'
/-- Is an output of such a value and script dust? -/
def dustB (x : Int) (l : List Int) : Bool := decide (x < (leastOf (kindOf l) : Int))

set_option maxRecDepth 100000 in
set_option maxHeartbeats 1000000 in
theorem dust_any (W : World) (x : Int) (sv : Value) (l : List Int) (h : Rb W sv l) : Calls Try.prog 12 #[.agg #[.int .u64 x, sv]] W (BoolP (dustB x l) W) := by
  have hb1 : Below W.heap.size W (W.alloc (.cells #[.int .u64 x, sv] 33)) := (Below.refl _ _).alloc (Nat.le_refl _) _
  have HB1 := Kp.mk hb1
  have T1 : Kp (∀ w3, Below W.heap.size W w3 → Calls Try.prog 8 #[sv] w3 fun e w' => e = .returned (.int .i64 (kindOf l)) ∧ w' = w3) := ⟨fun w3 hb => (kind_any w3 sv l (h.below hb)).mono fun e w' hh => ⟨hh.1, hh.2.symm⟩⟩
  have T2 : Kp (∀ w3, Calls Try.prog 11 #[.int .i64 (kindOf l)] w3 fun e w' => e = .returned (.int .u64 (leastOf (kindOf l))) ∧ w' = w3) := ⟨fun w3 => (least_any w3 (kindOf l)).mono fun e w' hh => ⟨hh.1, hh.2.symm⟩⟩
  have HE : Kp (dustB x l = decide (x < (leastOf (kindOf l) : Int))) := ⟨rfl⟩
  generalize leastOf (kindOf l) = q at *
  generalize kindOf l = k at *
  clear hb1 h
  go_enter Try.func12, Try.ntmps12
  go_wp2_with fail
  go_quiet ((first | (go_at_call 8; with_reducible exact Calls.quiet_of_same (T1.out _ (below_drewN HB1.out _))) | (go_at_call 11; with_reducible exact Calls.quiet_of_same (T2.out _))))
  go_wp2
  go_ret
  exact ⟨by rw [HE.out]; rfl, below_drewN HB1.out _⟩
set_option maxRecDepth 100000 in
set_option maxHeartbeats 1000000 in
theorem refdust_any (W : World) (x : Int) (sv : Value) (l : List Int) (h : Rb W sv l) : Calls Try.prog 13 #[.agg #[.int .u64 x, sv]] W (BoolP (dustB x l) W) := by
  have hb1 : Below W.heap.size W (W.alloc (.cells #[.int .u64 x, sv] 33)) := (Below.refl _ _).alloc (Nat.le_refl _) _
  have HB1 := Kp.mk hb1
  have T1 : Kp (∀ w3, Below W.heap.size W w3 → Calls Try.prog 14 #[sv] w3 fun e w' => e = .returned (.int .i64 (kindOf l)) ∧ w' = w3) := ⟨fun w3 hb => (refkind_any w3 sv l (h.below hb)).mono fun e w' hh => ⟨hh.1, hh.2.symm⟩⟩
  have T2 : Kp (∀ w3, Calls Try.prog 17 #[.int .i64 (kindOf l)] w3 fun e w' => e = .returned (.int .u64 (leastOf (kindOf l))) ∧ w' = w3) := ⟨fun w3 => (refleast_any w3 (kindOf l)).mono fun e w' hh => ⟨hh.1, hh.2.symm⟩⟩
  have HE : Kp (dustB x l = decide (x < (leastOf (kindOf l) : Int))) := ⟨rfl⟩
  generalize leastOf (kindOf l) = q at *
  generalize kindOf l = k at *
  clear hb1 h
  go_enter Try.func13, Try.ntmps13
  go_wp2_with fail
  go_quiet ((first | (go_at_call 14; with_reducible exact Calls.quiet_of_same (T1.out _ (below_drewN HB1.out _))) | (go_at_call 17; with_reducible exact Calls.quiet_of_same (T2.out _))))
  go_wp2
  go_ret
  exact ⟨by rw [HE.out]; rfl, below_drewN HB1.out _⟩
end Go.Proofs.Ytpmfhjeeiilnjaa
