/-
  No cell of these rows narrows 'for every input' (looked for: loops, veiled, ifaces, maps, wideKeys, modest, calm, conditions, laid).
  DERIVED. THE GIVEN ROWS OF THIS SEAT. 3 by the template 'for every input the law returns true; each argument reads behind the call as it read before'; 0 by the template 'total and deterministic' (their statements: YtdemamipllfonaaTotals.lean).
  GIVEN WITH THE SEED: the statements are not yours to turn. If you find one false, say at which input.
  Laid BY PROGRAM, IN A SANDBOX (cutbox-rows.mjs): the forced cells as the released guide's own fill.sh prints them over the translation 535ded338b568167… (all of the seat's roots in one cut). By AI agents, Wed Nov 11 2026. No macro, syntax, notation, axiom, sorry.
-/
import Derived.Test.YtdemamipllfonaaChecked
import GoSem.Claim
import GoSem.ClaimJoined
import GoSem.ClaimMapViews
import Derived.JoinedTies
import Derived.KernelRfl
namespace Go.Proofs.Ytdemamipllfonaa
/- THE CELL 'sum', in the pinned program and in every row, IS THE sha256 OF THE DUMP (.gsa) THAT YtdemamipllfonaaProg.lean LOADS. Nothing in Lean hashes anything: it is a label: what it is worth is what the hold of that sum in a sandbox is worth. -/
noncomputable def Try.pinned : Pinned := { name := "ytdemamipllfonaa", sum := "535ded338b56816725205cc490f57c2c077dae1548f6cdadee15f34675e61794", checked := Try.checked }
namespace Rows
def none {H : Type} : Left H := { results := [], args := [] }

/-- 'lighteragelaw9.CoinBack': WHATEVER THE INPUT: true; the input reads as it did. -/
def coinBackSpec : ChangeSpec := { name := "coinBack", fn := fun _ => fun
  | [d] => { results := [.lit (.bool true)], args := [d] }
  | _ => none }
def coinBackRow : OpenClaim := { program := "ytdemamipllfonaa", sum := "535ded338b56816725205cc490f57c2c077dae1548f6cdadee15f34675e61794", func := "lighterage/lighteragelaw9.CoinBack", spec := "coinBack", inPlace := ["internal/bytealg.Compare"], unfollowed := true, recurses := true, plainKeys := false, apart := false }
def CoinBackSaid : Prop := coinBackRow.holds Try.pinned (OpenSpec.ofChange coinBackSpec)

/-- ITS FALSE NEIGHBOUR: 'it returns false'. Refute it at one input. -/
def coinBackWrong : ChangeSpec := { name := "coinBack", fn := fun _ => fun
  | [d] => { results := [.lit (.bool false)], args := [d] }
  | _ => none }
def CoinBackWrongFalsely : Prop := coinBackRow.holds Try.pinned (OpenSpec.ofChange coinBackWrong)

/-- 'lighteragelaw9.CoinPart': WHATEVER THE INPUT: true; the input reads as it did. -/
def coinPartSpec : ChangeSpec := { name := "coinPart", fn := fun _ => fun
  | [d1, d2, d3] => { results := [.lit (.bool true)], args := [d1, d2, d3] }
  | _ => none }
def coinPartRow : OpenClaim := { program := "ytdemamipllfonaa", sum := "535ded338b56816725205cc490f57c2c077dae1548f6cdadee15f34675e61794", func := "lighterage/lighteragelaw9.CoinPart", spec := "coinPart", inPlace := ["internal/bytealg.Compare"], unfollowed := true, recurses := true, plainKeys := false, apart := false }
def CoinPartSaid : Prop := coinPartRow.holds Try.pinned (OpenSpec.ofChange coinPartSpec)

/-- ITS FALSE NEIGHBOUR: 'it returns false'. Refute it at one input. -/
def coinPartWrong : ChangeSpec := { name := "coinPart", fn := fun _ => fun
  | [d1, d2, d3] => { results := [.lit (.bool false)], args := [d1, d2, d3] }
  | _ => none }
def CoinPartWrongFalsely : Prop := coinPartRow.holds Try.pinned (OpenSpec.ofChange coinPartWrong)

/-- 'lighteragelaw9.CoinRises': WHATEVER THE INPUT: true; the input reads as it did. -/
def coinRisesSpec : ChangeSpec := { name := "coinRises", fn := fun _ => fun
  | [d] => { results := [.lit (.bool true)], args := [d] }
  | _ => none }
def coinRisesRow : OpenClaim := { program := "ytdemamipllfonaa", sum := "535ded338b56816725205cc490f57c2c077dae1548f6cdadee15f34675e61794", func := "lighterage/lighteragelaw9.CoinRises", spec := "coinRises", inPlace := ["internal/bytealg.Compare"], unfollowed := true, recurses := true, plainKeys := false, apart := false }
def CoinRisesSaid : Prop := coinRisesRow.holds Try.pinned (OpenSpec.ofChange coinRisesSpec)

/-- ITS FALSE NEIGHBOUR: 'it returns false'. Refute it at one input. -/
def coinRisesWrong : ChangeSpec := { name := "coinRises", fn := fun _ => fun
  | [d] => { results := [.lit (.bool false)], args := [d] }
  | _ => none }
def CoinRisesWrongFalsely : Prop := coinRisesRow.holds Try.pinned (OpenSpec.ofChange coinRisesWrong)

/- THE SECOND FORM. 'bulk': how many values and letters a reading holds, each counted each time it is reached (what is shared counts as often as it is met; a slice's spare places count too). A statement '..UptoSaid' is the law's where the arguments, and the package variables that the reading takes, are together of bulk at most 1048576: NARROWER than '..Said'. Prove '..Said' where nothing that the law and all that it calls make is longer than what came in: it says more and counts as full. Else prove '..UptoSaid'. A law counts once. -/
mutual
def uptoBulk {H : Type} : DataW H → Nat
  | .lit (.string bytes) => bytes.length + 1
  | .lit _ => 1
  | .nil => 1
  | .ptr d => uptoBulk d + 1
  | .slice elems spare => uptoBulkAll elems + uptoBulkAll spare + 1
  | .agg parts => uptoBulkAll parts + 1
  | .iface _ d => uptoBulk d + 1
  | .map entries => uptoBulkEntries entries + 1
  | .held _ => 1
def uptoBulkAll {H : Type} : List (DataW H) → Nat
  | [] => 0
  | d :: r => uptoBulk d + uptoBulkAll r
def uptoBulkEntries {H : Type} : List (Lit × DataW H) → Nat
  | [] => 0
  | x :: r => uptoBulkEntry x + uptoBulkEntries r
def uptoBulkEntry {H : Type} : Lit × DataW H → Nat
  | (.string bytes, d) => bytes.length + uptoBulk d + 1
  | (_, d) => uptoBulk d + 1
 end
def uptoSmall : (H : Type) → List (DataW H) → Bool := fun _ ds => decide (uptoBulkAll ds ≤ 1048576)
def OpenSpec.upto (s : _root_.Go.ChangeSpec) : _root_.Go.OpenSpec := { _root_.Go.OpenSpec.ofChange s with cond := some uptoSmall }

/-- 'lighteragelaw9.CoinBack', WHERE WHAT IT READS IS OF BULK AT MOST 1048576: true; the input reads as it did. -/
def coinBackUptoRow : OpenClaim := { program := "ytdemamipllfonaa", sum := "535ded338b56816725205cc490f57c2c077dae1548f6cdadee15f34675e61794", func := "lighterage/lighteragelaw9.CoinBack", spec := "coinBack", inPlace := ["internal/bytealg.Compare"], unfollowed := true, recurses := true, plainKeys := false, apart := false, narrowed := true }
def CoinBackUptoSaid : Prop := coinBackUptoRow.holds Try.pinned (OpenSpec.upto coinBackSpec)

/-- 'lighteragelaw9.CoinPart', WHERE WHAT IT READS IS OF BULK AT MOST 1048576: true; the input reads as it did. -/
def coinPartUptoRow : OpenClaim := { program := "ytdemamipllfonaa", sum := "535ded338b56816725205cc490f57c2c077dae1548f6cdadee15f34675e61794", func := "lighterage/lighteragelaw9.CoinPart", spec := "coinPart", inPlace := ["internal/bytealg.Compare"], unfollowed := true, recurses := true, plainKeys := false, apart := false, narrowed := true }
def CoinPartUptoSaid : Prop := coinPartUptoRow.holds Try.pinned (OpenSpec.upto coinPartSpec)

/-- 'lighteragelaw9.CoinRises', WHERE WHAT IT READS IS OF BULK AT MOST 1048576: true; the input reads as it did. -/
def coinRisesUptoRow : OpenClaim := { program := "ytdemamipllfonaa", sum := "535ded338b56816725205cc490f57c2c077dae1548f6cdadee15f34675e61794", func := "lighterage/lighteragelaw9.CoinRises", spec := "coinRises", inPlace := ["internal/bytealg.Compare"], unfollowed := true, recurses := true, plainKeys := false, apart := false, narrowed := true }
def CoinRisesUptoSaid : Prop := coinRisesUptoRow.holds Try.pinned (OpenSpec.upto coinRisesSpec)

end Rows
end Go.Proofs.Ytdemamipllfonaa
