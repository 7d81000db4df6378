/-
  No cell of these rows narrows 'for every input' (looked for: loops, veiled, ifaces, maps, wideKeys, modest, calm, conditions, laid).
  DERIVED. THE GIVEN ROWS OF THIS SEAT. 4 by the template 'for every input the law returns true; each argument reads behind the call as it read before'; 0 by the template 'total and deterministic' (their statements: YtompcibcgfjpfaaTotals.lean).
  GIVEN WITH THE SEED: the statements are not yours to turn. If you find one false, say at which input.
  Laid BY PROGRAM, IN A SANDBOX (cutbox-rows.mjs): the forced cells as the released guide's own fill.sh prints them over the translation a79cfb5fae3079e0… (all of the seat's roots in one cut). By AI agents, Wed Nov 11 2026. No macro, syntax, notation, axiom, sorry.
-/
import Derived.Test.YtompcibcgfjpfaaChecked
import GoSem.Claim
import GoSem.ClaimJoined
import GoSem.ClaimMapViews
import Derived.JoinedTies
import Derived.KernelRfl
namespace Go.Proofs.Ytompcibcgfjpfaa
/- THE CELL 'sum', in the pinned program and in every row, IS THE sha256 OF THE DUMP (.gsa) THAT YtompcibcgfjpfaaProg.lean LOADS. Nothing in Lean hashes anything: it is a label: what it is worth is what the hold of that sum in a sandbox is worth. -/
noncomputable def Try.pinned : Pinned := { name := "ytompcibcgfjpfaa", sum := "a79cfb5fae3079e01c8b643dc830b8679a5100d378d44ba71ef82474f9a8ec34", checked := Try.checked }
namespace Rows
def none {H : Type} : Left H := { results := [], args := [] }

/-- 'lighteragelaw7.RateForms': WHATEVER THE INPUT: true; the input reads as it did. -/
def rateFormsSpec : ChangeSpec := { name := "rateForms", fn := fun _ => fun
  | [d] => { results := [.lit (.bool true)], args := [d] }
  | _ => none }
def rateFormsRow : OpenClaim := { program := "ytompcibcgfjpfaa", sum := "a79cfb5fae3079e01c8b643dc830b8679a5100d378d44ba71ef82474f9a8ec34", func := "lighterage/lighteragelaw7.RateForms", spec := "rateForms", named := ["math/bits.divideError", "math/bits.overflowError"], apart := false }
def RateFormsSaid : Prop := rateFormsRow.holds Try.pinned (OpenSpec.ofChange rateFormsSpec)

/-- ITS FALSE NEIGHBOUR: 'it returns false'. Refute it at one input. -/
def rateFormsWrong : ChangeSpec := { name := "rateForms", fn := fun _ => fun
  | [d] => { results := [.lit (.bool false)], args := [d] }
  | _ => none }
def RateFormsWrongFalsely : Prop := rateFormsRow.holds Try.pinned (OpenSpec.ofChange rateFormsWrong)

/-- 'lighteragelaw7.RateOrder': WHATEVER THE INPUT: true; the input reads as it did. -/
def rateOrderSpec : ChangeSpec := { name := "rateOrder", fn := fun _ => fun
  | [d1, d2, d3] => { results := [.lit (.bool true)], args := [d1, d2, d3] }
  | _ => none }
def rateOrderRow : OpenClaim := { program := "ytompcibcgfjpfaa", sum := "a79cfb5fae3079e01c8b643dc830b8679a5100d378d44ba71ef82474f9a8ec34", func := "lighterage/lighteragelaw7.RateOrder", spec := "rateOrder", named := ["math/bits.divideError", "math/bits.overflowError"], apart := false }
def RateOrderSaid : Prop := rateOrderRow.holds Try.pinned (OpenSpec.ofChange rateOrderSpec)

/-- ITS FALSE NEIGHBOUR: 'it returns false'. Refute it at one input. -/
def rateOrderWrong : ChangeSpec := { name := "rateOrder", fn := fun _ => fun
  | [d1, d2, d3] => { results := [.lit (.bool false)], args := [d1, d2, d3] }
  | _ => none }
def RateOrderWrongFalsely : Prop := rateOrderRow.holds Try.pinned (OpenSpec.ofChange rateOrderWrong)

/-- 'lighteragelaw7.RateTells': WHATEVER THE INPUT: true; the input reads as it did. -/
def rateTellsSpec : ChangeSpec := { name := "rateTells", fn := fun _ => fun
  | [d1, d2, d3, d4, d5] => { results := [.lit (.bool true)], args := [d1, d2, d3, d4, d5] }
  | _ => none }
def rateTellsRow : OpenClaim := { program := "ytompcibcgfjpfaa", sum := "a79cfb5fae3079e01c8b643dc830b8679a5100d378d44ba71ef82474f9a8ec34", func := "lighterage/lighteragelaw7.RateTells", spec := "rateTells", named := ["math/bits.divideError", "math/bits.overflowError"], apart := false }
def RateTellsSaid : Prop := rateTellsRow.holds Try.pinned (OpenSpec.ofChange rateTellsSpec)

/-- ITS FALSE NEIGHBOUR: 'it returns false'. Refute it at one input. -/
def rateTellsWrong : ChangeSpec := { name := "rateTells", fn := fun _ => fun
  | [d1, d2, d3, d4, d5] => { results := [.lit (.bool false)], args := [d1, d2, d3, d4, d5] }
  | _ => none }
def RateTellsWrongFalsely : Prop := rateTellsRow.holds Try.pinned (OpenSpec.ofChange rateTellsWrong)

/-- 'lighteragelaw7.RateMeans': WHATEVER THE INPUT: true; the input reads as it did. -/
def rateMeansSpec : ChangeSpec := { name := "rateMeans", fn := fun _ => fun
  | [d1, d2, d3, d4] => { results := [.lit (.bool true)], args := [d1, d2, d3, d4] }
  | _ => none }
def rateMeansRow : OpenClaim := { program := "ytompcibcgfjpfaa", sum := "a79cfb5fae3079e01c8b643dc830b8679a5100d378d44ba71ef82474f9a8ec34", func := "lighterage/lighteragelaw7.RateMeans", spec := "rateMeans", named := ["math/bits.divideError", "math/bits.overflowError"], apart := false }
def RateMeansSaid : Prop := rateMeansRow.holds Try.pinned (OpenSpec.ofChange rateMeansSpec)

/-- ITS FALSE NEIGHBOUR: 'it returns false'. Refute it at one input. -/
def rateMeansWrong : ChangeSpec := { name := "rateMeans", fn := fun _ => fun
  | [d1, d2, d3, d4] => { results := [.lit (.bool false)], args := [d1, d2, d3, d4] }
  | _ => none }
def RateMeansWrongFalsely : Prop := rateMeansRow.holds Try.pinned (OpenSpec.ofChange rateMeansWrong)

/- THE SECOND FORM. 'bulk': how many values and letters a reading holds, each counted each time it is reached (what is shared counts as often as it is met; a slice's spare places count too). A statement '..UptoSaid' is the law's where the arguments, and the package variables that the reading takes, are together of bulk at most 1048576: NARROWER than '..Said'. Prove '..Said' where nothing that the law and all that it calls make is longer than what came in: it says more and counts as full. Else prove '..UptoSaid'. A law counts once. -/
mutual
def uptoBulk {H : Type} : DataW H → Nat
  | .lit (.string bytes) => bytes.length + 1
  | .lit _ => 1
  | .nil => 1
  | .ptr d => uptoBulk d + 1
  | .slice elems spare => uptoBulkAll elems + uptoBulkAll spare + 1
  | .agg parts => uptoBulkAll parts + 1
  | .iface _ d => uptoBulk d + 1
  | .map entries => uptoBulkEntries entries + 1
  | .held _ => 1
def uptoBulkAll {H : Type} : List (DataW H) → Nat
  | [] => 0
  | d :: r => uptoBulk d + uptoBulkAll r
def uptoBulkEntries {H : Type} : List (Lit × DataW H) → Nat
  | [] => 0
  | x :: r => uptoBulkEntry x + uptoBulkEntries r
def uptoBulkEntry {H : Type} : Lit × DataW H → Nat
  | (.string bytes, d) => bytes.length + uptoBulk d + 1
  | (_, d) => uptoBulk d + 1
 end
def uptoSmall : (H : Type) → List (DataW H) → Bool := fun _ ds => decide (uptoBulkAll ds ≤ 1048576)
def OpenSpec.upto (s : _root_.Go.ChangeSpec) : _root_.Go.OpenSpec := { _root_.Go.OpenSpec.ofChange s with cond := some uptoSmall }

/-- 'lighteragelaw7.RateForms', WHERE WHAT IT READS IS OF BULK AT MOST 1048576: true; the input reads as it did. -/
def rateFormsUptoRow : OpenClaim := { program := "ytompcibcgfjpfaa", sum := "a79cfb5fae3079e01c8b643dc830b8679a5100d378d44ba71ef82474f9a8ec34", func := "lighterage/lighteragelaw7.RateForms", spec := "rateForms", named := ["math/bits.divideError", "math/bits.overflowError"], apart := false, narrowed := true }
def RateFormsUptoSaid : Prop := rateFormsUptoRow.holds Try.pinned (OpenSpec.upto rateFormsSpec)

/-- 'lighteragelaw7.RateOrder', WHERE WHAT IT READS IS OF BULK AT MOST 1048576: true; the input reads as it did. -/
def rateOrderUptoRow : OpenClaim := { program := "ytompcibcgfjpfaa", sum := "a79cfb5fae3079e01c8b643dc830b8679a5100d378d44ba71ef82474f9a8ec34", func := "lighterage/lighteragelaw7.RateOrder", spec := "rateOrder", named := ["math/bits.divideError", "math/bits.overflowError"], apart := false, narrowed := true }
def RateOrderUptoSaid : Prop := rateOrderUptoRow.holds Try.pinned (OpenSpec.upto rateOrderSpec)

/-- 'lighteragelaw7.RateTells', WHERE WHAT IT READS IS OF BULK AT MOST 1048576: true; the input reads as it did. -/
def rateTellsUptoRow : OpenClaim := { program := "ytompcibcgfjpfaa", sum := "a79cfb5fae3079e01c8b643dc830b8679a5100d378d44ba71ef82474f9a8ec34", func := "lighterage/lighteragelaw7.RateTells", spec := "rateTells", named := ["math/bits.divideError", "math/bits.overflowError"], apart := false, narrowed := true }
def RateTellsUptoSaid : Prop := rateTellsUptoRow.holds Try.pinned (OpenSpec.upto rateTellsSpec)

/-- 'lighteragelaw7.RateMeans', WHERE WHAT IT READS IS OF BULK AT MOST 1048576: true; the input reads as it did. -/
def rateMeansUptoRow : OpenClaim := { program := "ytompcibcgfjpfaa", sum := "a79cfb5fae3079e01c8b643dc830b8679a5100d378d44ba71ef82474f9a8ec34", func := "lighterage/lighteragelaw7.RateMeans", spec := "rateMeans", named := ["math/bits.divideError", "math/bits.overflowError"], apart := false, narrowed := true }
def RateMeansUptoSaid : Prop := rateMeansUptoRow.holds Try.pinned (OpenSpec.upto rateMeansSpec)

end Rows
end Go.Proofs.Ytompcibcgfjpfaa
