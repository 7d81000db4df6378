/-
  No cell of these rows narrows 'for every input' (looked for: loops, veiled, ifaces, maps, wideKeys, modest, calm, conditions, laid).
  DERIVED. THE GIVEN ROWS OF THIS SEAT. 4 by the template 'for every input the law returns true; each argument reads behind the call as it read before'; 0 by the template 'total and deterministic' (their statements: YtafmioknaclfiaaTotals.lean).
  GIVEN WITH THE SEED: the statements are not yours to turn. If you find one false, say at which input.
  Laid BY PROGRAM, IN A SANDBOX (cutbox-rows.mjs): the forced cells as the released guide's own fill.sh prints them over the translation d1b114d1cb847377… (all of the seat's roots in one cut). By AI agents, Wed Nov 11 2026. No macro, syntax, notation, axiom, sorry.
-/
import Derived.Test.YtafmioknaclfiaaChecked
import GoSem.Claim
import GoSem.ClaimJoined
import GoSem.ClaimMapViews
import Derived.JoinedTies
import Derived.KernelRfl
namespace Go.Proofs.Ytafmioknaclfiaa
/- THE CELL 'sum', in the pinned program and in every row, IS THE sha256 OF THE DUMP (.gsa) THAT YtafmioknaclfiaaProg.lean LOADS. Nothing in Lean hashes anything: it is a label: what it is worth is what the hold of that sum in a sandbox is worth. -/
noncomputable def Try.pinned : Pinned := { name := "ytafmioknaclfiaa", sum := "d1b114d1cb847377d146f61289121490b8dffddea582d6c7e1ed2ac46d16879e", checked := Try.checked }
namespace Rows
def none {H : Type} : Left H := { results := [], args := [] }

/-- 'lighteragelaw5.MonyCap': WHATEVER THE INPUT: true; the input reads as it did. -/
def monyCapSpec : ChangeSpec := { name := "monyCap", fn := fun _ => fun
  | [d] => { results := [.lit (.bool true)], args := [d] }
  | _ => none }
def monyCapRow : OpenClaim := { program := "ytafmioknaclfiaa", sum := "d1b114d1cb847377d146f61289121490b8dffddea582d6c7e1ed2ac46d16879e", func := "lighterage/lighteragelaw5.MonyCap", spec := "monyCap", apart := false }
def MonyCapSaid : Prop := monyCapRow.holds Try.pinned (OpenSpec.ofChange monyCapSpec)

/-- ITS FALSE NEIGHBOUR: 'it returns false'. Refute it at one input. -/
def monyCapWrong : ChangeSpec := { name := "monyCap", fn := fun _ => fun
  | [d] => { results := [.lit (.bool false)], args := [d] }
  | _ => none }
def MonyCapWrongFalsely : Prop := monyCapRow.holds Try.pinned (OpenSpec.ofChange monyCapWrong)

/-- 'lighteragelaw5.MonyLess': WHATEVER THE INPUT: true; the input reads as it did. -/
def monyLessSpec : ChangeSpec := { name := "monyLess", fn := fun _ => fun
  | [d1, d2] => { results := [.lit (.bool true)], args := [d1, d2] }
  | _ => none }
def monyLessRow : OpenClaim := { program := "ytafmioknaclfiaa", sum := "d1b114d1cb847377d146f61289121490b8dffddea582d6c7e1ed2ac46d16879e", func := "lighterage/lighteragelaw5.MonyLess", spec := "monyLess", apart := false }
def MonyLessSaid : Prop := monyLessRow.holds Try.pinned (OpenSpec.ofChange monyLessSpec)

/-- ITS FALSE NEIGHBOUR: 'it returns false'. Refute it at one input. -/
def monyLessWrong : ChangeSpec := { name := "monyLess", fn := fun _ => fun
  | [d1, d2] => { results := [.lit (.bool false)], args := [d1, d2] }
  | _ => none }
def MonyLessWrongFalsely : Prop := monyLessRow.holds Try.pinned (OpenSpec.ofChange monyLessWrong)

/-- 'lighteragelaw5.MonyTells': WHATEVER THE INPUT: true; the input reads as it did. -/
def monyTellsSpec : ChangeSpec := { name := "monyTells", fn := fun _ => fun
  | [d1, d2, d3, d4] => { results := [.lit (.bool true)], args := [d1, d2, d3, d4] }
  | _ => none }
def monyTellsRow : OpenClaim := { program := "ytafmioknaclfiaa", sum := "d1b114d1cb847377d146f61289121490b8dffddea582d6c7e1ed2ac46d16879e", func := "lighterage/lighteragelaw5.MonyTells", spec := "monyTells", apart := false }
def MonyTellsSaid : Prop := monyTellsRow.holds Try.pinned (OpenSpec.ofChange monyTellsSpec)

/-- ITS FALSE NEIGHBOUR: 'it returns false'. Refute it at one input. -/
def monyTellsWrong : ChangeSpec := { name := "monyTells", fn := fun _ => fun
  | [d1, d2, d3, d4] => { results := [.lit (.bool false)], args := [d1, d2, d3, d4] }
  | _ => none }
def MonyTellsWrongFalsely : Prop := monyTellsRow.holds Try.pinned (OpenSpec.ofChange monyTellsWrong)

/-- 'lighteragelaw5.MonyOrder': WHATEVER THE INPUT: true; the input reads as it did. -/
def monyOrderSpec : ChangeSpec := { name := "monyOrder", fn := fun _ => fun
  | [d1, d2] => { results := [.lit (.bool true)], args := [d1, d2] }
  | _ => none }
def monyOrderRow : OpenClaim := { program := "ytafmioknaclfiaa", sum := "d1b114d1cb847377d146f61289121490b8dffddea582d6c7e1ed2ac46d16879e", func := "lighterage/lighteragelaw5.MonyOrder", spec := "monyOrder", apart := false }
def MonyOrderSaid : Prop := monyOrderRow.holds Try.pinned (OpenSpec.ofChange monyOrderSpec)

/-- ITS FALSE NEIGHBOUR: 'it returns false'. Refute it at one input. -/
def monyOrderWrong : ChangeSpec := { name := "monyOrder", fn := fun _ => fun
  | [d1, d2] => { results := [.lit (.bool false)], args := [d1, d2] }
  | _ => none }
def MonyOrderWrongFalsely : Prop := monyOrderRow.holds Try.pinned (OpenSpec.ofChange monyOrderWrong)

/- THE SECOND FORM. 'bulk': how many values and letters a reading holds, each counted each time it is reached (what is shared counts as often as it is met; a slice's spare places count too). A statement '..UptoSaid' is the law's where the arguments, and the package variables that the reading takes, are together of bulk at most 1048576: NARROWER than '..Said'. Prove '..Said' where nothing that the law and all that it calls make is longer than what came in: it says more and counts as full. Else prove '..UptoSaid'. A law counts once. -/
mutual
def uptoBulk {H : Type} : DataW H → Nat
  | .lit (.string bytes) => bytes.length + 1
  | .lit _ => 1
  | .nil => 1
  | .ptr d => uptoBulk d + 1
  | .slice elems spare => uptoBulkAll elems + uptoBulkAll spare + 1
  | .agg parts => uptoBulkAll parts + 1
  | .iface _ d => uptoBulk d + 1
  | .map entries => uptoBulkEntries entries + 1
  | .held _ => 1
def uptoBulkAll {H : Type} : List (DataW H) → Nat
  | [] => 0
  | d :: r => uptoBulk d + uptoBulkAll r
def uptoBulkEntries {H : Type} : List (Lit × DataW H) → Nat
  | [] => 0
  | x :: r => uptoBulkEntry x + uptoBulkEntries r
def uptoBulkEntry {H : Type} : Lit × DataW H → Nat
  | (.string bytes, d) => bytes.length + uptoBulk d + 1
  | (_, d) => uptoBulk d + 1
 end
def uptoSmall : (H : Type) → List (DataW H) → Bool := fun _ ds => decide (uptoBulkAll ds ≤ 1048576)
def OpenSpec.upto (s : _root_.Go.ChangeSpec) : _root_.Go.OpenSpec := { _root_.Go.OpenSpec.ofChange s with cond := some uptoSmall }

/-- 'lighteragelaw5.MonyCap', WHERE WHAT IT READS IS OF BULK AT MOST 1048576: true; the input reads as it did. -/
def monyCapUptoRow : OpenClaim := { program := "ytafmioknaclfiaa", sum := "d1b114d1cb847377d146f61289121490b8dffddea582d6c7e1ed2ac46d16879e", func := "lighterage/lighteragelaw5.MonyCap", spec := "monyCap", apart := false, narrowed := true }
def MonyCapUptoSaid : Prop := monyCapUptoRow.holds Try.pinned (OpenSpec.upto monyCapSpec)

/-- 'lighteragelaw5.MonyLess', WHERE WHAT IT READS IS OF BULK AT MOST 1048576: true; the input reads as it did. -/
def monyLessUptoRow : OpenClaim := { program := "ytafmioknaclfiaa", sum := "d1b114d1cb847377d146f61289121490b8dffddea582d6c7e1ed2ac46d16879e", func := "lighterage/lighteragelaw5.MonyLess", spec := "monyLess", apart := false, narrowed := true }
def MonyLessUptoSaid : Prop := monyLessUptoRow.holds Try.pinned (OpenSpec.upto monyLessSpec)

/-- 'lighteragelaw5.MonyTells', WHERE WHAT IT READS IS OF BULK AT MOST 1048576: true; the input reads as it did. -/
def monyTellsUptoRow : OpenClaim := { program := "ytafmioknaclfiaa", sum := "d1b114d1cb847377d146f61289121490b8dffddea582d6c7e1ed2ac46d16879e", func := "lighterage/lighteragelaw5.MonyTells", spec := "monyTells", apart := false, narrowed := true }
def MonyTellsUptoSaid : Prop := monyTellsUptoRow.holds Try.pinned (OpenSpec.upto monyTellsSpec)

/-- 'lighteragelaw5.MonyOrder', WHERE WHAT IT READS IS OF BULK AT MOST 1048576: true; the input reads as it did. -/
def monyOrderUptoRow : OpenClaim := { program := "ytafmioknaclfiaa", sum := "d1b114d1cb847377d146f61289121490b8dffddea582d6c7e1ed2ac46d16879e", func := "lighterage/lighteragelaw5.MonyOrder", spec := "monyOrder", apart := false, narrowed := true }
def MonyOrderUptoSaid : Prop := monyOrderUptoRow.holds Try.pinned (OpenSpec.upto monyOrderSpec)

end Rows
end Go.Proofs.Ytafmioknaclfiaa
