/- awake of layer 6. -/
import Derived.Test.YtpmfhjeeiilnjaaClE
import Derived.Test.YtpmfhjeeiilnjaaClS
namespace Go.Proofs.Ytpmfhjeeiilnjaa
open Go.RowKit

def YesK (w : World) (e : Ending) (w' : World) : Prop := e = .returned (.bool true) ∧ Below w.heap.size w w'
theorem kind_anchor : kindOf [81, 2, 78, 115] = 1 := by decide
theorem kind_none : kindOf [] = 0 := by decide
theorem dust_239 : dustB 239 [81, 2, 78, 115] = true := by decide
theorem dust_240 : dustB 240 [81, 2, 78, 115] = false := by decide

set_option maxRecDepth 100000 in
set_option maxHeartbeats 1000000 in
theorem awake6_any (w : World) : Calls Try.prog 10 #[] w (YesK w) := by
  have kc := fun (w : World) (C : Array Value) (n c : Nat) => Lib.run_convert_bytes_const (P := Try.prog) w 30 5 C n c Try.underlying30 Try.underlying5
  have hr := (rbT_frozen w [81, 2, 78, 115] (by simp) (by unfold Bys; decide) #[.int .u8 81, .int .u8 2, .int .u8 78, .int .u8 115] rfl (4, 5)).1
  obtain ⟨W1, hW1⟩ : ∃ W1, w.alloc (.cells #[.int .u8 81, .int .u8 2, .int .u8 78, .int .u8 115] 5 (4, 5)) = W1 := ⟨_, rfl⟩
  have HB1 : Kp (Below w.heap.size w W1) := ⟨by rw [← hW1]; exact (Below.refl _ _).alloc (Nat.le_refl _) _⟩
  rw [hW1] at hr
  have HR := Kp.mk hr
  have HW1 := Kp.mk hW1
  have H1 := Kp.mk (kind_any W1 _ _ hr)
  have H2 : Kp (∀ W, Calls Try.prog 8 #[.slice none 0 0] W fun e w' => e = .returned (.int .i64 0) ∧ W = w') := ⟨fun W => kind_any W _ [] (Rb.nil W)⟩
  have H3 : Kp (∀ W, Calls Try.prog 11 #[.int .i64 1] W fun e w' => e = .returned (.int .u64 240) ∧ W = w') := ⟨fun W => least_any W 1⟩
  have H4 : Kp (∀ W, Calls Try.prog 11 #[.int .i64 5] W fun e w' => e = .returned (.int .u64 0) ∧ W = w') := ⟨fun W => least_any W 5⟩
  have H5 := Kp.mk (dust_any W1 239 _ _ hr)
  have H6 : Kp (∀ W, Below W1.heap.size W1 W → Calls Try.prog 12 #[.agg #[.int .u64 240, .slice (some ⟨w.heap.size, 0, none⟩) 4 4]] W (BoolP false W)) := ⟨fun W hb => by have := dust_any W 240 _ _ (HR.out.below hb); rw [dust_240] at this; exact this⟩
  rw [kind_anchor] at H1
  rw [dust_239] at H5
  clear hr hW1
  go_enter Try.func10, Try.ntmps10
  go_wp2_with fail
  rw [HW1.out]
  refine H1.out.mono ?_
  rintro e w' ⟨rfl, rfl⟩
  go_wp2_with fail
  refine (H2.out _).mono ?_
  rintro e w' ⟨rfl, rfl⟩
  go_wp2_with fail
  refine (H3.out _).mono ?_
  rintro e w' ⟨rfl, rfl⟩
  go_wp2_with fail
  refine (H4.out _).mono ?_
  rintro e w' ⟨rfl, rfl⟩
  go_wp2_with fail
  refine H5.out.mono ?_
  rintro e w2 ⟨rfl, hb2⟩
  go_wp2_with fail
  refine (H6.out _ hb2).mono ?_
  rintro e w3 ⟨rfl, hb3⟩
  go_wp2
  go_ret
  exact ⟨rfl, HB1.out.trans ((hb2.trans (hb3.mono hb2.size)).mono HB1.out.size)⟩
end Go.Proofs.Ytpmfhjeeiilnjaa
