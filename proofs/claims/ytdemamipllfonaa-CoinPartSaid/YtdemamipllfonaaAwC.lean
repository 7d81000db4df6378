/- awake of layer 3: what the document fixes. -/
import Derived.Test.YtdemamipllfonaaGe
namespace Go.Proofs.Ytdemamipllfonaa
open Go.RowKit

theorem t59_may : MayF (txOf 5 9) := (mayB_iff _).1 (by decide +kernel)
theorem t59_fit : TxFit (txOf 5 9) := by
  refine ⟨by decide +kernel, by decide +kernel, fun d hd => ?_, fun d hd => ?_⟩
  · have e : (txOf 5 9).ins = [inOf 9 0] := by decide +kernel
    rw [e, List.mem_singleton] at hd
    subst hd
    exact ⟨by decide +kernel, by unfold Bys; decide +kernel, by decide +kernel, by decide +kernel⟩
  · have e : (txOf 5 9).outs = [outOf 5 9 0] := by decide +kernel
    rw [e, List.mem_singleton] at hd
    subst hd
    decide +kernel
theorem t59_len : (bytesOf (txOf 5 9)).length ≤ 1000 := by decide +kernel
theorem t59_more : pParse (bytesOf (txOf 5 9) ++ [0]) = (noTx, false) := by
  have h := pTx_back (txOf 5 9) [0] t59_may t59_fit
  have hb : bytesOf (txOf 5 9) = encTx (txOf 5 9) (witT (txOf 5 9)) := if_pos ((mayB_iff _).2 t59_may)
  unfold pParse pRead
  rw [hb, h]
  rfl
theorem noTx_r (W : World) : TxR W (.agg #[.int .u32 0, .slice none 0 0, .slice none 0 0, .int .u32 0]) noTx := ⟨_, _, rfl, by decide, by decide, Many.nil _ _ _, Many.nil _ _ _⟩

end Go.Proofs.Ytdemamipllfonaa
