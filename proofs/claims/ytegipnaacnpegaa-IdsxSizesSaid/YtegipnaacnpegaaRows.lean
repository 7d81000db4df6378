/-
  No cell of these rows narrows 'for every input' (looked for: loops, veiled, ifaces, maps, wideKeys, modest, calm, conditions, laid).
  DERIVED. THE GIVEN ROWS OF THIS SEAT. 7 by the template 'for every input the law returns true; each argument reads behind the call as it read before'; 0 by the template 'total and deterministic' (their statements: YtegipnaacnpegaaTotals.lean).
  GIVEN WITH THE SEED: the statements are not yours to turn. If you find one false, say at which input.
  Laid BY PROGRAM, IN A SANDBOX (cutbox-rows.mjs): the forced cells as the released guide's own fill.sh prints them over the translation 791dda788c861385… (all of the seat's roots in one cut). By AI agents, Wed Nov 11 2026. No macro, syntax, notation, axiom, sorry.
-/
import Derived.Test.YtegipnaacnpegaaChecked
import GoSem.Claim
import GoSem.ClaimJoined
import GoSem.ClaimMapViews
import Derived.JoinedTies
import Derived.KernelRfl
namespace Go.Proofs.Ytegipnaacnpegaa
/- THE CELL 'sum', in the pinned program and in every row, IS THE sha256 OF THE DUMP (.gsa) THAT YtegipnaacnpegaaProg.lean LOADS. Nothing in Lean hashes anything: it is a label: what it is worth is what the hold of that sum in a sandbox is worth. -/
noncomputable def Try.pinned : Pinned := { name := "ytegipnaacnpegaa", sum := "791dda788c8613858f9387fb7f7d03e32bb033b6f75b4a850804c311ac7937b3", checked := Try.checked }
namespace Rows
def none {H : Type} : Left H := { results := [], args := [] }

/-- 'lighteragelaw3.TxnsBounds': WHATEVER THE INPUT: true; the input reads as it did. -/
def txnsBoundsSpec : ChangeSpec := { name := "txnsBounds", fn := fun _ => fun
  | [d1, d2, d3, d4, d5] => { results := [.lit (.bool true)], args := [d1, d2, d3, d4, d5] }
  | _ => none }
def txnsBoundsRow : OpenClaim := { program := "ytegipnaacnpegaa", sum := "791dda788c8613858f9387fb7f7d03e32bb033b6f75b4a850804c311ac7937b3", func := "lighterage/lighteragelaw3.TxnsBounds", spec := "txnsBounds", unfollowed := true, recurses := true, apart := false }
def TxnsBoundsSaid : Prop := txnsBoundsRow.holds Try.pinned (OpenSpec.ofChange txnsBoundsSpec)

/-- ITS FALSE NEIGHBOUR: 'it returns false'. Refute it at one input. -/
def txnsBoundsWrong : ChangeSpec := { name := "txnsBounds", fn := fun _ => fun
  | [d1, d2, d3, d4, d5] => { results := [.lit (.bool false)], args := [d1, d2, d3, d4, d5] }
  | _ => none }
def TxnsBoundsWrongFalsely : Prop := txnsBoundsRow.holds Try.pinned (OpenSpec.ofChange txnsBoundsWrong)

/-- 'lighteragelaw3.TxnsOwn': WHATEVER THE INPUT: true; the input reads as it did. -/
def txnsOwnSpec : ChangeSpec := { name := "txnsOwn", fn := fun _ => fun
  | [d1, d2] => { results := [.lit (.bool true)], args := [d1, d2] }
  | _ => none }
def txnsOwnRow : OpenClaim := { program := "ytegipnaacnpegaa", sum := "791dda788c8613858f9387fb7f7d03e32bb033b6f75b4a850804c311ac7937b3", func := "lighterage/lighteragelaw3.TxnsOwn", spec := "txnsOwn", unfollowed := true, recurses := true, apart := false }
def TxnsOwnSaid : Prop := txnsOwnRow.holds Try.pinned (OpenSpec.ofChange txnsOwnSpec)

/-- ITS FALSE NEIGHBOUR: 'it returns false'. Refute it at one input. -/
def txnsOwnWrong : ChangeSpec := { name := "txnsOwn", fn := fun _ => fun
  | [d1, d2] => { results := [.lit (.bool false)], args := [d1, d2] }
  | _ => none }
def TxnsOwnWrongFalsely : Prop := txnsOwnRow.holds Try.pinned (OpenSpec.ofChange txnsOwnWrong)

/-- 'lighteragelaw3.TxnsSame': WHATEVER THE INPUT: true; the input reads as it did. -/
def txnsSameSpec : ChangeSpec := { name := "txnsSame", fn := fun _ => fun
  | [d1, d2, d3] => { results := [.lit (.bool true)], args := [d1, d2, d3] }
  | _ => none }
def txnsSameRow : OpenClaim := { program := "ytegipnaacnpegaa", sum := "791dda788c8613858f9387fb7f7d03e32bb033b6f75b4a850804c311ac7937b3", func := "lighterage/lighteragelaw3.TxnsSame", spec := "txnsSame", unfollowed := true, recurses := true, apart := false }
def TxnsSameSaid : Prop := txnsSameRow.holds Try.pinned (OpenSpec.ofChange txnsSameSpec)

/-- ITS FALSE NEIGHBOUR: 'it returns false'. Refute it at one input. -/
def txnsSameWrong : ChangeSpec := { name := "txnsSame", fn := fun _ => fun
  | [d1, d2, d3] => { results := [.lit (.bool false)], args := [d1, d2, d3] }
  | _ => none }
def TxnsSameWrongFalsely : Prop := txnsSameRow.holds Try.pinned (OpenSpec.ofChange txnsSameWrong)

/-- 'lighteragelaw3.TxnsTells': WHATEVER THE INPUT: true; the input reads as it did. -/
def txnsTellsSpec : ChangeSpec := { name := "txnsTells", fn := fun _ => fun
  | [d1, d2, d3, d4, d5, d6] => { results := [.lit (.bool true)], args := [d1, d2, d3, d4, d5, d6] }
  | _ => none }
def txnsTellsRow : OpenClaim := { program := "ytegipnaacnpegaa", sum := "791dda788c8613858f9387fb7f7d03e32bb033b6f75b4a850804c311ac7937b3", func := "lighterage/lighteragelaw3.TxnsTells", spec := "txnsTells", unfollowed := true, recurses := true, apart := false }
def TxnsTellsSaid : Prop := txnsTellsRow.holds Try.pinned (OpenSpec.ofChange txnsTellsSpec)

/-- ITS FALSE NEIGHBOUR: 'it returns false'. Refute it at one input. -/
def txnsTellsWrong : ChangeSpec := { name := "txnsTells", fn := fun _ => fun
  | [d1, d2, d3, d4, d5, d6] => { results := [.lit (.bool false)], args := [d1, d2, d3, d4, d5, d6] }
  | _ => none }
def TxnsTellsWrongFalsely : Prop := txnsTellsRow.holds Try.pinned (OpenSpec.ofChange txnsTellsWrong)

/-- 'lighteragelaw3.TxnsBack': WHATEVER THE INPUT: true; the input reads as it did. -/
def txnsBackSpec : ChangeSpec := { name := "txnsBack", fn := fun _ => fun
  | [d1, d2, d3, d4] => { results := [.lit (.bool true)], args := [d1, d2, d3, d4] }
  | _ => none }
def txnsBackRow : OpenClaim := { program := "ytegipnaacnpegaa", sum := "791dda788c8613858f9387fb7f7d03e32bb033b6f75b4a850804c311ac7937b3", func := "lighterage/lighteragelaw3.TxnsBack", spec := "txnsBack", unfollowed := true, recurses := true, apart := false }
def TxnsBackSaid : Prop := txnsBackRow.holds Try.pinned (OpenSpec.ofChange txnsBackSpec)

/-- ITS FALSE NEIGHBOUR: 'it returns false'. Refute it at one input. -/
def txnsBackWrong : ChangeSpec := { name := "txnsBack", fn := fun _ => fun
  | [d1, d2, d3, d4] => { results := [.lit (.bool false)], args := [d1, d2, d3, d4] }
  | _ => none }
def TxnsBackWrongFalsely : Prop := txnsBackRow.holds Try.pinned (OpenSpec.ofChange txnsBackWrong)

/-- 'lighteragelaw4.IdsxSizes': WHATEVER THE INPUT: true; the input reads as it did. -/
def idsxSizesSpec : ChangeSpec := { name := "idsxSizes", fn := fun _ => fun
  | [d1, d2] => { results := [.lit (.bool true)], args := [d1, d2] }
  | _ => none }
def idsxSizesRow : OpenClaim := { program := "ytegipnaacnpegaa", sum := "791dda788c8613858f9387fb7f7d03e32bb033b6f75b4a850804c311ac7937b3", func := "lighterage/lighteragelaw4.IdsxSizes", spec := "idsxSizes", unfollowed := true, recurses := true, apart := false }
def IdsxSizesSaid : Prop := idsxSizesRow.holds Try.pinned (OpenSpec.ofChange idsxSizesSpec)

/-- ITS FALSE NEIGHBOUR: 'it returns false'. Refute it at one input. -/
def idsxSizesWrong : ChangeSpec := { name := "idsxSizes", fn := fun _ => fun
  | [d1, d2] => { results := [.lit (.bool false)], args := [d1, d2] }
  | _ => none }
def IdsxSizesWrongFalsely : Prop := idsxSizesRow.holds Try.pinned (OpenSpec.ofChange idsxSizesWrong)

/-- 'lighteragelaw4.IdsxTells': WHATEVER THE INPUT: true; the input reads as it did. -/
def idsxTellsSpec : ChangeSpec := { name := "idsxTells", fn := fun _ => fun
  | [d1, d2, d3] => { results := [.lit (.bool true)], args := [d1, d2, d3] }
  | _ => none }
def idsxTellsRow : OpenClaim := { program := "ytegipnaacnpegaa", sum := "791dda788c8613858f9387fb7f7d03e32bb033b6f75b4a850804c311ac7937b3", func := "lighterage/lighteragelaw4.IdsxTells", spec := "idsxTells", unfollowed := true, recurses := true, apart := false }
def IdsxTellsSaid : Prop := idsxTellsRow.holds Try.pinned (OpenSpec.ofChange idsxTellsSpec)

/-- ITS FALSE NEIGHBOUR: 'it returns false'. Refute it at one input. -/
def idsxTellsWrong : ChangeSpec := { name := "idsxTells", fn := fun _ => fun
  | [d1, d2, d3] => { results := [.lit (.bool false)], args := [d1, d2, d3] }
  | _ => none }
def IdsxTellsWrongFalsely : Prop := idsxTellsRow.holds Try.pinned (OpenSpec.ofChange idsxTellsWrong)

/- THE SECOND FORM. 'bulk': how many values and letters a reading holds, each counted each time it is reached (what is shared counts as often as it is met; a slice's spare places count too). A statement '..UptoSaid' is the law's where the arguments, and the package variables that the reading takes, are together of bulk at most 1048576: NARROWER than '..Said'. Prove '..Said' where nothing that the law and all that it calls make is longer than what came in: it says more and counts as full. Else prove '..UptoSaid'. A law counts once. -/
mutual
def uptoBulk {H : Type} : DataW H → Nat
  | .lit (.string bytes) => bytes.length + 1
  | .lit _ => 1
  | .nil => 1
  | .ptr d => uptoBulk d + 1
  | .slice elems spare => uptoBulkAll elems + uptoBulkAll spare + 1
  | .agg parts => uptoBulkAll parts + 1
  | .iface _ d => uptoBulk d + 1
  | .map entries => uptoBulkEntries entries + 1
  | .held _ => 1
def uptoBulkAll {H : Type} : List (DataW H) → Nat
  | [] => 0
  | d :: r => uptoBulk d + uptoBulkAll r
def uptoBulkEntries {H : Type} : List (Lit × DataW H) → Nat
  | [] => 0
  | x :: r => uptoBulkEntry x + uptoBulkEntries r
def uptoBulkEntry {H : Type} : Lit × DataW H → Nat
  | (.string bytes, d) => bytes.length + uptoBulk d + 1
  | (_, d) => uptoBulk d + 1
 end
def uptoSmall : (H : Type) → List (DataW H) → Bool := fun _ ds => decide (uptoBulkAll ds ≤ 1048576)
def OpenSpec.upto (s : _root_.Go.ChangeSpec) : _root_.Go.OpenSpec := { _root_.Go.OpenSpec.ofChange s with cond := some uptoSmall }

/-- 'lighteragelaw3.TxnsBounds', WHERE WHAT IT READS IS OF BULK AT MOST 1048576: true; the input reads as it did. -/
def txnsBoundsUptoRow : OpenClaim := { program := "ytegipnaacnpegaa", sum := "791dda788c8613858f9387fb7f7d03e32bb033b6f75b4a850804c311ac7937b3", func := "lighterage/lighteragelaw3.TxnsBounds", spec := "txnsBounds", unfollowed := true, recurses := true, apart := false, narrowed := true }
def TxnsBoundsUptoSaid : Prop := txnsBoundsUptoRow.holds Try.pinned (OpenSpec.upto txnsBoundsSpec)

/-- 'lighteragelaw3.TxnsOwn', WHERE WHAT IT READS IS OF BULK AT MOST 1048576: true; the input reads as it did. -/
def txnsOwnUptoRow : OpenClaim := { program := "ytegipnaacnpegaa", sum := "791dda788c8613858f9387fb7f7d03e32bb033b6f75b4a850804c311ac7937b3", func := "lighterage/lighteragelaw3.TxnsOwn", spec := "txnsOwn", unfollowed := true, recurses := true, apart := false, narrowed := true }
def TxnsOwnUptoSaid : Prop := txnsOwnUptoRow.holds Try.pinned (OpenSpec.upto txnsOwnSpec)

/-- 'lighteragelaw3.TxnsSame', WHERE WHAT IT READS IS OF BULK AT MOST 1048576: true; the input reads as it did. -/
def txnsSameUptoRow : OpenClaim := { program := "ytegipnaacnpegaa", sum := "791dda788c8613858f9387fb7f7d03e32bb033b6f75b4a850804c311ac7937b3", func := "lighterage/lighteragelaw3.TxnsSame", spec := "txnsSame", unfollowed := true, recurses := true, apart := false, narrowed := true }
def TxnsSameUptoSaid : Prop := txnsSameUptoRow.holds Try.pinned (OpenSpec.upto txnsSameSpec)

/-- 'lighteragelaw3.TxnsTells', WHERE WHAT IT READS IS OF BULK AT MOST 1048576: true; the input reads as it did. -/
def txnsTellsUptoRow : OpenClaim := { program := "ytegipnaacnpegaa", sum := "791dda788c8613858f9387fb7f7d03e32bb033b6f75b4a850804c311ac7937b3", func := "lighterage/lighteragelaw3.TxnsTells", spec := "txnsTells", unfollowed := true, recurses := true, apart := false, narrowed := true }
def TxnsTellsUptoSaid : Prop := txnsTellsUptoRow.holds Try.pinned (OpenSpec.upto txnsTellsSpec)

/-- 'lighteragelaw3.TxnsBack', WHERE WHAT IT READS IS OF BULK AT MOST 1048576: true; the input reads as it did. -/
def txnsBackUptoRow : OpenClaim := { program := "ytegipnaacnpegaa", sum := "791dda788c8613858f9387fb7f7d03e32bb033b6f75b4a850804c311ac7937b3", func := "lighterage/lighteragelaw3.TxnsBack", spec := "txnsBack", unfollowed := true, recurses := true, apart := false, narrowed := true }
def TxnsBackUptoSaid : Prop := txnsBackUptoRow.holds Try.pinned (OpenSpec.upto txnsBackSpec)

/-- 'lighteragelaw4.IdsxSizes', WHERE WHAT IT READS IS OF BULK AT MOST 1048576: true; the input reads as it did. -/
def idsxSizesUptoRow : OpenClaim := { program := "ytegipnaacnpegaa", sum := "791dda788c8613858f9387fb7f7d03e32bb033b6f75b4a850804c311ac7937b3", func := "lighterage/lighteragelaw4.IdsxSizes", spec := "idsxSizes", unfollowed := true, recurses := true, apart := false, narrowed := true }
def IdsxSizesUptoSaid : Prop := idsxSizesUptoRow.holds Try.pinned (OpenSpec.upto idsxSizesSpec)

/-- 'lighteragelaw4.IdsxTells', WHERE WHAT IT READS IS OF BULK AT MOST 1048576: true; the input reads as it did. -/
def idsxTellsUptoRow : OpenClaim := { program := "ytegipnaacnpegaa", sum := "791dda788c8613858f9387fb7f7d03e32bb033b6f75b4a850804c311ac7937b3", func := "lighterage/lighteragelaw4.IdsxTells", spec := "idsxTells", unfollowed := true, recurses := true, apart := false, narrowed := true }
def IdsxTellsUptoSaid : Prop := idsxTellsUptoRow.holds Try.pinned (OpenSpec.upto idsxTellsSpec)

end Rows
end Go.Proofs.Ytegipnaacnpegaa
