/-
  No cell of these rows narrows 'for every input' (looked for: loops, veiled, ifaces, maps, wideKeys, modest, calm, conditions, laid).
  DERIVED. THE GIVEN ROWS OF THIS SEAT. 4 by the template 'for every input the law returns true; each argument reads behind the call as it read before'; 0 by the template 'total and deterministic' (their statements: YtpmfhjeeiilnjaaTotals.lean).
  GIVEN WITH THE SEED: the statements are not yours to turn. If you find one false, say at which input.
  Laid BY PROGRAM, IN A SANDBOX (cutbox-rows.mjs): the forced cells as the released guide's own fill.sh prints them over the translation 6c43dcc22024f4c3… (all of the seat's roots in one cut). By AI agents, Wed Nov 11 2026. No macro, syntax, notation, axiom, sorry.
-/
import Derived.Test.YtpmfhjeeiilnjaaChecked
import GoSem.Claim
import GoSem.ClaimJoined
import GoSem.ClaimMapViews
import Derived.JoinedTies
import Derived.KernelRfl
namespace Go.Proofs.Ytpmfhjeeiilnjaa
/- THE CELL 'sum', in the pinned program and in every row, IS THE sha256 OF THE DUMP (.gsa) THAT YtpmfhjeeiilnjaaProg.lean LOADS. Nothing in Lean hashes anything: it is a label: what it is worth is what the hold of that sum in a sandbox is worth. -/
noncomputable def Try.pinned : Pinned := { name := "ytpmfhjeeiilnjaa", sum := "6c43dcc22024f4c3b1070271ad5e93fee16eacc8af3d525218fcb335ceba6b3b", checked := Try.checked }
namespace Rows
def none {H : Type} : Left H := { results := [], args := [] }

/-- 'lighteragelaw6.ClasDusts': WHATEVER THE INPUT: true; the input reads as it did. -/
def clasDustsSpec : ChangeSpec := { name := "clasDusts", fn := fun _ => fun
  | [d] => { results := [.lit (.bool true)], args := [d] }
  | _ => none }
def clasDustsRow : OpenClaim := { program := "ytpmfhjeeiilnjaa", sum := "6c43dcc22024f4c3b1070271ad5e93fee16eacc8af3d525218fcb335ceba6b3b", func := "lighterage/lighteragelaw6.ClasDusts", spec := "clasDusts", apart := false }
def ClasDustsSaid : Prop := clasDustsRow.holds Try.pinned (OpenSpec.ofChange clasDustsSpec)

/-- ITS FALSE NEIGHBOUR: 'it returns false'. Refute it at one input. -/
def clasDustsWrong : ChangeSpec := { name := "clasDusts", fn := fun _ => fun
  | [d] => { results := [.lit (.bool false)], args := [d] }
  | _ => none }
def ClasDustsWrongFalsely : Prop := clasDustsRow.holds Try.pinned (OpenSpec.ofChange clasDustsWrong)

/-- 'lighteragelaw6.ClasOwn': WHATEVER THE INPUT: true; the input reads as it did. -/
def clasOwnSpec : ChangeSpec := { name := "clasOwn", fn := fun _ => fun
  | [d1, d2] => { results := [.lit (.bool true)], args := [d1, d2] }
  | _ => none }
def clasOwnRow : OpenClaim := { program := "ytpmfhjeeiilnjaa", sum := "6c43dcc22024f4c3b1070271ad5e93fee16eacc8af3d525218fcb335ceba6b3b", func := "lighterage/lighteragelaw6.ClasOwn", spec := "clasOwn", apart := false }
def ClasOwnSaid : Prop := clasOwnRow.holds Try.pinned (OpenSpec.ofChange clasOwnSpec)

/-- ITS FALSE NEIGHBOUR: 'it returns false'. Refute it at one input. -/
def clasOwnWrong : ChangeSpec := { name := "clasOwn", fn := fun _ => fun
  | [d1, d2] => { results := [.lit (.bool false)], args := [d1, d2] }
  | _ => none }
def ClasOwnWrongFalsely : Prop := clasOwnRow.holds Try.pinned (OpenSpec.ofChange clasOwnWrong)

/-- 'lighteragelaw6.ClasTells': WHATEVER THE INPUT: true; the input reads as it did. -/
def clasTellsSpec : ChangeSpec := { name := "clasTells", fn := fun _ => fun
  | [d1, d2, d3, d4, d5, d6] => { results := [.lit (.bool true)], args := [d1, d2, d3, d4, d5, d6] }
  | _ => none }
def clasTellsRow : OpenClaim := { program := "ytpmfhjeeiilnjaa", sum := "6c43dcc22024f4c3b1070271ad5e93fee16eacc8af3d525218fcb335ceba6b3b", func := "lighterage/lighteragelaw6.ClasTells", spec := "clasTells", apart := false }
def ClasTellsSaid : Prop := clasTellsRow.holds Try.pinned (OpenSpec.ofChange clasTellsSpec)

/-- ITS FALSE NEIGHBOUR: 'it returns false'. Refute it at one input. -/
def clasTellsWrong : ChangeSpec := { name := "clasTells", fn := fun _ => fun
  | [d1, d2, d3, d4, d5, d6] => { results := [.lit (.bool false)], args := [d1, d2, d3, d4, d5, d6] }
  | _ => none }
def ClasTellsWrongFalsely : Prop := clasTellsRow.holds Try.pinned (OpenSpec.ofChange clasTellsWrong)

/-- 'lighteragelaw6.ClasForms': WHATEVER THE INPUT: true; the input reads as it did. -/
def clasFormsSpec : ChangeSpec := { name := "clasForms", fn := fun _ => fun
  | [d] => { results := [.lit (.bool true)], args := [d] }
  | _ => none }
def clasFormsRow : OpenClaim := { program := "ytpmfhjeeiilnjaa", sum := "6c43dcc22024f4c3b1070271ad5e93fee16eacc8af3d525218fcb335ceba6b3b", func := "lighterage/lighteragelaw6.ClasForms", spec := "clasForms", apart := false }
def ClasFormsSaid : Prop := clasFormsRow.holds Try.pinned (OpenSpec.ofChange clasFormsSpec)

/-- ITS FALSE NEIGHBOUR: 'it returns false'. Refute it at one input. -/
def clasFormsWrong : ChangeSpec := { name := "clasForms", fn := fun _ => fun
  | [d] => { results := [.lit (.bool false)], args := [d] }
  | _ => none }
def ClasFormsWrongFalsely : Prop := clasFormsRow.holds Try.pinned (OpenSpec.ofChange clasFormsWrong)

/- THE SECOND FORM. 'bulk': how many values and letters a reading holds, each counted each time it is reached (what is shared counts as often as it is met; a slice's spare places count too). A statement '..UptoSaid' is the law's where the arguments, and the package variables that the reading takes, are together of bulk at most 1048576: NARROWER than '..Said'. Prove '..Said' where nothing that the law and all that it calls make is longer than what came in: it says more and counts as full. Else prove '..UptoSaid'. A law counts once. -/
mutual
def uptoBulk {H : Type} : DataW H → Nat
  | .lit (.string bytes) => bytes.length + 1
  | .lit _ => 1
  | .nil => 1
  | .ptr d => uptoBulk d + 1
  | .slice elems spare => uptoBulkAll elems + uptoBulkAll spare + 1
  | .agg parts => uptoBulkAll parts + 1
  | .iface _ d => uptoBulk d + 1
  | .map entries => uptoBulkEntries entries + 1
  | .held _ => 1
def uptoBulkAll {H : Type} : List (DataW H) → Nat
  | [] => 0
  | d :: r => uptoBulk d + uptoBulkAll r
def uptoBulkEntries {H : Type} : List (Lit × DataW H) → Nat
  | [] => 0
  | x :: r => uptoBulkEntry x + uptoBulkEntries r
def uptoBulkEntry {H : Type} : Lit × DataW H → Nat
  | (.string bytes, d) => bytes.length + uptoBulk d + 1
  | (_, d) => uptoBulk d + 1
 end
def uptoSmall : (H : Type) → List (DataW H) → Bool := fun _ ds => decide (uptoBulkAll ds ≤ 1048576)
def OpenSpec.upto (s : _root_.Go.ChangeSpec) : _root_.Go.OpenSpec := { _root_.Go.OpenSpec.ofChange s with cond := some uptoSmall }

/-- 'lighteragelaw6.ClasDusts', WHERE WHAT IT READS IS OF BULK AT MOST 1048576: true; the input reads as it did. -/
def clasDustsUptoRow : OpenClaim := { program := "ytpmfhjeeiilnjaa", sum := "6c43dcc22024f4c3b1070271ad5e93fee16eacc8af3d525218fcb335ceba6b3b", func := "lighterage/lighteragelaw6.ClasDusts", spec := "clasDusts", apart := false, narrowed := true }
def ClasDustsUptoSaid : Prop := clasDustsUptoRow.holds Try.pinned (OpenSpec.upto clasDustsSpec)

/-- 'lighteragelaw6.ClasOwn', WHERE WHAT IT READS IS OF BULK AT MOST 1048576: true; the input reads as it did. -/
def clasOwnUptoRow : OpenClaim := { program := "ytpmfhjeeiilnjaa", sum := "6c43dcc22024f4c3b1070271ad5e93fee16eacc8af3d525218fcb335ceba6b3b", func := "lighterage/lighteragelaw6.ClasOwn", spec := "clasOwn", apart := false, narrowed := true }
def ClasOwnUptoSaid : Prop := clasOwnUptoRow.holds Try.pinned (OpenSpec.upto clasOwnSpec)

/-- 'lighteragelaw6.ClasTells', WHERE WHAT IT READS IS OF BULK AT MOST 1048576: true; the input reads as it did. -/
def clasTellsUptoRow : OpenClaim := { program := "ytpmfhjeeiilnjaa", sum := "6c43dcc22024f4c3b1070271ad5e93fee16eacc8af3d525218fcb335ceba6b3b", func := "lighterage/lighteragelaw6.ClasTells", spec := "clasTells", apart := false, narrowed := true }
def ClasTellsUptoSaid : Prop := clasTellsUptoRow.holds Try.pinned (OpenSpec.upto clasTellsSpec)

/-- 'lighteragelaw6.ClasForms', WHERE WHAT IT READS IS OF BULK AT MOST 1048576: true; the input reads as it did. -/
def clasFormsUptoRow : OpenClaim := { program := "ytpmfhjeeiilnjaa", sum := "6c43dcc22024f4c3b1070271ad5e93fee16eacc8af3d525218fcb335ceba6b3b", func := "lighterage/lighteragelaw6.ClasForms", spec := "clasForms", apart := false, narrowed := true }
def ClasFormsUptoSaid : Prop := clasFormsUptoRow.holds Try.pinned (OpenSpec.upto clasFormsSpec)

end Rows
end Go.Proofs.Ytpmfhjeeiilnjaa
