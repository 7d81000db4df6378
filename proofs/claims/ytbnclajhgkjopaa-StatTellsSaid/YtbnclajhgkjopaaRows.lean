/-
  No cell of these rows narrows 'for every input' (looked for: loops, veiled, ifaces, maps, wideKeys, modest, calm, conditions, laid).
  DERIVED. THE GIVEN ROWS OF THIS SEAT. 3 by the template 'for every input the law returns true; each argument reads behind the call as it read before'; 0 by the template 'total and deterministic' (their statements: YtbnclajhgkjopaaTotals.lean).
  GIVEN WITH THE SEED: the statements are not yours to turn. If you find one false, say at which input.
  Laid BY PROGRAM, IN A SANDBOX (cutbox-rows.mjs): the forced cells as the released guide's own fill.sh prints them over the translation b96fcd20f53fe611… (all of the seat's roots in one cut). By AI agents, Wed Nov 11 2026. No macro, syntax, notation, axiom, sorry.
-/
import Derived.Test.YtbnclajhgkjopaaChecked
import GoSem.Claim
import GoSem.ClaimJoined
import GoSem.ClaimMapViews
import Derived.JoinedTies
import Derived.KernelRfl
namespace Go.Proofs.Ytbnclajhgkjopaa
/- THE CELL 'sum', in the pinned program and in every row, IS THE sha256 OF THE DUMP (.gsa) THAT YtbnclajhgkjopaaProg.lean LOADS. Nothing in Lean hashes anything: it is a label: what it is worth is what the hold of that sum in a sandbox is worth. -/
noncomputable def Try.pinned : Pinned := { name := "ytbnclajhgkjopaa", sum := "b96fcd20f53fe611384d250122382f74a5184e944c8ac20bbe0b9135d1750f16", checked := Try.checked }
namespace Rows
def none {H : Type} : Left H := { results := [], args := [] }

/-- 'lighteragelaw8.StatForms': WHATEVER THE INPUT: true; the input reads as it did. -/
def statFormsSpec : ChangeSpec := { name := "statForms", fn := fun _ => fun
  | [d1, d2, d3] => { results := [.lit (.bool true)], args := [d1, d2, d3] }
  | _ => none }
def statFormsRow : OpenClaim := { program := "ytbnclajhgkjopaa", sum := "b96fcd20f53fe611384d250122382f74a5184e944c8ac20bbe0b9135d1750f16", func := "lighterage/lighteragelaw8.StatForms", spec := "statForms", unfollowed := true, recurses := true, plainKeys := false, apart := false }
def StatFormsSaid : Prop := statFormsRow.holds Try.pinned (OpenSpec.ofChange statFormsSpec)

/-- ITS FALSE NEIGHBOUR: 'it returns false'. Refute it at one input. -/
def statFormsWrong : ChangeSpec := { name := "statForms", fn := fun _ => fun
  | [d1, d2, d3] => { results := [.lit (.bool false)], args := [d1, d2, d3] }
  | _ => none }
def StatFormsWrongFalsely : Prop := statFormsRow.holds Try.pinned (OpenSpec.ofChange statFormsWrong)

/-- 'lighteragelaw8.StatWeight': WHATEVER THE INPUT: true; the input reads as it did. -/
def statWeightSpec : ChangeSpec := { name := "statWeight", fn := fun _ => fun
  | [d1, d2, d3] => { results := [.lit (.bool true)], args := [d1, d2, d3] }
  | _ => none }
def statWeightRow : OpenClaim := { program := "ytbnclajhgkjopaa", sum := "b96fcd20f53fe611384d250122382f74a5184e944c8ac20bbe0b9135d1750f16", func := "lighterage/lighteragelaw8.StatWeight", spec := "statWeight", unfollowed := true, recurses := true, plainKeys := false, apart := false }
def StatWeightSaid : Prop := statWeightRow.holds Try.pinned (OpenSpec.ofChange statWeightSpec)

/-- ITS FALSE NEIGHBOUR: 'it returns false'. Refute it at one input. -/
def statWeightWrong : ChangeSpec := { name := "statWeight", fn := fun _ => fun
  | [d1, d2, d3] => { results := [.lit (.bool false)], args := [d1, d2, d3] }
  | _ => none }
def StatWeightWrongFalsely : Prop := statWeightRow.holds Try.pinned (OpenSpec.ofChange statWeightWrong)

/-- 'lighteragelaw8.StatTells': WHATEVER THE INPUT: true; the input reads as it did. -/
def statTellsSpec : ChangeSpec := { name := "statTells", fn := fun _ => fun
  | [d1, d2, d3, d4] => { results := [.lit (.bool true)], args := [d1, d2, d3, d4] }
  | _ => none }
def statTellsRow : OpenClaim := { program := "ytbnclajhgkjopaa", sum := "b96fcd20f53fe611384d250122382f74a5184e944c8ac20bbe0b9135d1750f16", func := "lighterage/lighteragelaw8.StatTells", spec := "statTells", unfollowed := true, recurses := true, plainKeys := false, apart := false }
def StatTellsSaid : Prop := statTellsRow.holds Try.pinned (OpenSpec.ofChange statTellsSpec)

/-- ITS FALSE NEIGHBOUR: 'it returns false'. Refute it at one input. -/
def statTellsWrong : ChangeSpec := { name := "statTells", fn := fun _ => fun
  | [d1, d2, d3, d4] => { results := [.lit (.bool false)], args := [d1, d2, d3, d4] }
  | _ => none }
def StatTellsWrongFalsely : Prop := statTellsRow.holds Try.pinned (OpenSpec.ofChange statTellsWrong)

/- THE SECOND FORM. 'bulk': how many values and letters a reading holds, each counted each time it is reached (what is shared counts as often as it is met; a slice's spare places count too). A statement '..UptoSaid' is the law's where the arguments, and the package variables that the reading takes, are together of bulk at most 1048576: NARROWER than '..Said'. Prove '..Said' where nothing that the law and all that it calls make is longer than what came in: it says more and counts as full. Else prove '..UptoSaid'. A law counts once. -/
mutual
def uptoBulk {H : Type} : DataW H → Nat
  | .lit (.string bytes) => bytes.length + 1
  | .lit _ => 1
  | .nil => 1
  | .ptr d => uptoBulk d + 1
  | .slice elems spare => uptoBulkAll elems + uptoBulkAll spare + 1
  | .agg parts => uptoBulkAll parts + 1
  | .iface _ d => uptoBulk d + 1
  | .map entries => uptoBulkEntries entries + 1
  | .held _ => 1
def uptoBulkAll {H : Type} : List (DataW H) → Nat
  | [] => 0
  | d :: r => uptoBulk d + uptoBulkAll r
def uptoBulkEntries {H : Type} : List (Lit × DataW H) → Nat
  | [] => 0
  | x :: r => uptoBulkEntry x + uptoBulkEntries r
def uptoBulkEntry {H : Type} : Lit × DataW H → Nat
  | (.string bytes, d) => bytes.length + uptoBulk d + 1
  | (_, d) => uptoBulk d + 1
 end
def uptoSmall : (H : Type) → List (DataW H) → Bool := fun _ ds => decide (uptoBulkAll ds ≤ 1048576)
def OpenSpec.upto (s : _root_.Go.ChangeSpec) : _root_.Go.OpenSpec := { _root_.Go.OpenSpec.ofChange s with cond := some uptoSmall }

/-- 'lighteragelaw8.StatForms', WHERE WHAT IT READS IS OF BULK AT MOST 1048576: true; the input reads as it did. -/
def statFormsUptoRow : OpenClaim := { program := "ytbnclajhgkjopaa", sum := "b96fcd20f53fe611384d250122382f74a5184e944c8ac20bbe0b9135d1750f16", func := "lighterage/lighteragelaw8.StatForms", spec := "statForms", unfollowed := true, recurses := true, plainKeys := false, apart := false, narrowed := true }
def StatFormsUptoSaid : Prop := statFormsUptoRow.holds Try.pinned (OpenSpec.upto statFormsSpec)

/-- 'lighteragelaw8.StatWeight', WHERE WHAT IT READS IS OF BULK AT MOST 1048576: true; the input reads as it did. -/
def statWeightUptoRow : OpenClaim := { program := "ytbnclajhgkjopaa", sum := "b96fcd20f53fe611384d250122382f74a5184e944c8ac20bbe0b9135d1750f16", func := "lighterage/lighteragelaw8.StatWeight", spec := "statWeight", unfollowed := true, recurses := true, plainKeys := false, apart := false, narrowed := true }
def StatWeightUptoSaid : Prop := statWeightUptoRow.holds Try.pinned (OpenSpec.upto statWeightSpec)

/-- 'lighteragelaw8.StatTells', WHERE WHAT IT READS IS OF BULK AT MOST 1048576: true; the input reads as it did. -/
def statTellsUptoRow : OpenClaim := { program := "ytbnclajhgkjopaa", sum := "b96fcd20f53fe611384d250122382f74a5184e944c8ac20bbe0b9135d1750f16", func := "lighterage/lighteragelaw8.StatTells", spec := "statTells", unfollowed := true, recurses := true, plainKeys := false, apart := false, narrowed := true }
def StatTellsUptoSaid : Prop := statTellsUptoRow.holds Try.pinned (OpenSpec.upto statTellsSpec)

end Rows
end Go.Proofs.Ytbnclajhgkjopaa
