/-
  NARROWER THAN 'FOR EVERY INPUT', by the rows' own cells (each row's printed sentence says how): NodeSorts: laid · NodeTexts: laid.
  DERIVED. THE GIVEN ROWS OF THIS SEAT. 2 by the template 'for every input the law returns true; each argument reads behind the call as it read before'; 0 by the template 'total and deterministic' (their statements: YtoilnommhkmioaaDoorTotals.lean).
  GIVEN WITH THE SEED: the statements are not yours to turn. If you find one false, say at which input.
  Laid BY PROGRAM, IN A SANDBOX (cutbox-rows.mjs): the forced cells as the released guide's own fill.sh prints them over the translation d7bb116a0655824f… (all of the seat's roots in one cut). By AI agents, Wed Nov 11 2026. No macro, syntax, notation, axiom, sorry.
-/
import Derived.Test.YtoilnommhkmioaaDoorChecked
import GoSem.Claim
import GoSem.ClaimJoined
import GoSem.ClaimMapViews
import Derived.JoinedTies
import Derived.KernelRfl
namespace Go.Proofs.YtoilnommhkmioaaDoor
/- THE CELL 'sum', in the pinned program and in every row, IS THE sha256 OF THE DUMP (.gsa) THAT YtoilnommhkmioaaDoorProg.lean LOADS. Nothing in Lean hashes anything: it is a label: what it is worth is what the hold of that sum in a sandbox is worth. -/
noncomputable def Tryd.pinned : Pinned := { name := "ytoilnommhkmioaadoor", sum := "d7bb116a0655824f048f25d25c9f93e9e9f171503374e2a6b7f2a89057f9558b", checked := Tryd.checked }
namespace Rows
def none {H : Type} : Left H := { results := [], args := [] }

/- WHAT THE LISTED PACKAGE-LEVEL VARIABLES READ AS WHEN THE CALL BEGINS. Each datum BY PROGRAM (the guide's laid-datum.mjs) off the statement by which the dump's own 'gosem.cut.vars' lays the variable. In a bare row this is a premise. The card (YtoilnommhkmioaaDoorCards.lean) ties it to the program's text. -/
def laid_witness_node_tags {H : Type} : DataW H := .agg [.lit (.int .u8 17), .lit (.int .u8 18), .lit (.int .u8 19), .lit (.int .u8 20), .lit (.int .u8 23)]

/-- 'witnesslaw7.NodeSorts': WHATEVER THE INPUT: true; the input reads as it did. -/
def nodeSortsSpec : ChangeSpec := { name := "nodeSorts", fn := fun _ => fun
  | [d1, d2, d3, d4, d5] => { results := [.lit (.bool true)], args := [d1, d2, d3, d4, d5] }
  | _ => none }
def nodeSortsRow : OpenClaim := { program := "ytoilnommhkmioaadoor", sum := "d7bb116a0655824f048f25d25c9f93e9e9f171503374e2a6b7f2a89057f9558b", func := "witness/witnesslaw7.NodeSorts", spec := "nodeSorts", named := ["witness/node.tags"], apart := false, laid := [("witness/node.tags", laid_witness_node_tags)] }
def NodeSortsSaid : Prop := nodeSortsRow.holds Tryd.pinned (OpenSpec.ofChange nodeSortsSpec)

/-- ITS FALSE NEIGHBOUR: 'it returns false'. Refute it at one input. -/
def nodeSortsWrong : ChangeSpec := { name := "nodeSorts", fn := fun _ => fun
  | [d1, d2, d3, d4, d5] => { results := [.lit (.bool false)], args := [d1, d2, d3, d4, d5] }
  | _ => none }
def NodeSortsWrongFalsely : Prop := nodeSortsRow.holds Tryd.pinned (OpenSpec.ofChange nodeSortsWrong)

/-- 'witnesslaw7.NodeTexts': WHATEVER THE INPUT: true; the input reads as it did. -/
def nodeTextsSpec : ChangeSpec := { name := "nodeTexts", fn := fun _ => fun
  | [d1, d2, d3, d4] => { results := [.lit (.bool true)], args := [d1, d2, d3, d4] }
  | _ => none }
def nodeTextsRow : OpenClaim := { program := "ytoilnommhkmioaadoor", sum := "d7bb116a0655824f048f25d25c9f93e9e9f171503374e2a6b7f2a89057f9558b", func := "witness/witnesslaw7.NodeTexts", spec := "nodeTexts", named := ["witness/node.tags"], apart := false, laid := [("witness/node.tags", laid_witness_node_tags)] }
def NodeTextsSaid : Prop := nodeTextsRow.holds Tryd.pinned (OpenSpec.ofChange nodeTextsSpec)

/-- ITS FALSE NEIGHBOUR: 'it returns false'. Refute it at one input. -/
def nodeTextsWrong : ChangeSpec := { name := "nodeTexts", fn := fun _ => fun
  | [d1, d2, d3, d4] => { results := [.lit (.bool false)], args := [d1, d2, d3, d4] }
  | _ => none }
def NodeTextsWrongFalsely : Prop := nodeTextsRow.holds Tryd.pinned (OpenSpec.ofChange nodeTextsWrong)

/- THE SECOND FORM. 'bulk': how many values and letters a reading holds, each counted each time it is reached (what is shared counts as often as it is met; a slice's spare places count too). A statement '..UptoSaid' is the law's where the arguments, and the package variables that the reading takes, are together of bulk at most 1048576: NARROWER than '..Said'. Prove '..Said' where nothing that the law and all that it calls make is longer than what came in: it says more and counts as full. Else prove '..UptoSaid'. A law counts once. -/
mutual
def uptoBulk {H : Type} : DataW H → Nat
  | .lit (.string bytes) => bytes.length + 1
  | .lit _ => 1
  | .nil => 1
  | .ptr d => uptoBulk d + 1
  | .slice elems spare => uptoBulkAll elems + uptoBulkAll spare + 1
  | .agg parts => uptoBulkAll parts + 1
  | .iface _ d => uptoBulk d + 1
  | .map entries => uptoBulkEntries entries + 1
  | .held _ => 1
def uptoBulkAll {H : Type} : List (DataW H) → Nat
  | [] => 0
  | d :: r => uptoBulk d + uptoBulkAll r
def uptoBulkEntries {H : Type} : List (Lit × DataW H) → Nat
  | [] => 0
  | x :: r => uptoBulkEntry x + uptoBulkEntries r
def uptoBulkEntry {H : Type} : Lit × DataW H → Nat
  | (.string bytes, d) => bytes.length + uptoBulk d + 1
  | (_, d) => uptoBulk d + 1
 end
def uptoSmall : (H : Type) → List (DataW H) → Bool := fun _ ds => decide (uptoBulkAll ds ≤ 1048576)
def OpenSpec.upto (s : _root_.Go.ChangeSpec) : _root_.Go.OpenSpec := { _root_.Go.OpenSpec.ofChange s with cond := some uptoSmall }

/-- 'witnesslaw7.NodeSorts', WHERE WHAT IT READS IS OF BULK AT MOST 1048576: true; the input reads as it did. -/
def nodeSortsUptoRow : OpenClaim := { program := "ytoilnommhkmioaadoor", sum := "d7bb116a0655824f048f25d25c9f93e9e9f171503374e2a6b7f2a89057f9558b", func := "witness/witnesslaw7.NodeSorts", spec := "nodeSorts", named := ["witness/node.tags"], apart := false, laid := [("witness/node.tags", laid_witness_node_tags)], narrowed := true }
def NodeSortsUptoSaid : Prop := nodeSortsUptoRow.holds Tryd.pinned (OpenSpec.upto nodeSortsSpec)

/-- 'witnesslaw7.NodeTexts', WHERE WHAT IT READS IS OF BULK AT MOST 1048576: true; the input reads as it did. -/
def nodeTextsUptoRow : OpenClaim := { program := "ytoilnommhkmioaadoor", sum := "d7bb116a0655824f048f25d25c9f93e9e9f171503374e2a6b7f2a89057f9558b", func := "witness/witnesslaw7.NodeTexts", spec := "nodeTexts", named := ["witness/node.tags"], apart := false, laid := [("witness/node.tags", laid_witness_node_tags)], narrowed := true }
def NodeTextsUptoSaid : Prop := nodeTextsUptoRow.holds Tryd.pinned (OpenSpec.upto nodeTextsSpec)

end Rows
end Go.Proofs.YtoilnommhkmioaaDoor
