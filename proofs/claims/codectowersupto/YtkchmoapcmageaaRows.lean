/-
  No cell of these rows narrows 'for every input' (looked for: loops, veiled, ifaces, maps, wideKeys, modest, calm, conditions, laid).
  DERIVED. THE GIVEN ROWS OF THIS SEAT. 6 by the template 'for every input the law returns true; each argument reads behind the call as it read before'; 0 by the template 'total and deterministic' (their statements: YtkchmoapcmageaaTotals.lean).
  GIVEN WITH THE SEED: the statements are not yours to turn. If you find one false, say at which input.
  Laid BY PROGRAM, IN A SANDBOX (cutbox-rows.mjs): the forced cells as the released guide's own fill.sh prints them over the translation aa93d930c9e7ab73… (all of the seat's roots in one cut). By AI agents, Wed Nov 11 2026. No macro, syntax, notation, axiom, sorry.
-/
import Derived.Test.YtkchmoapcmageaaChecked
import GoSem.Claim
import GoSem.ClaimJoined
import GoSem.ClaimMapViews
import Derived.JoinedTies
import Derived.KernelRfl
namespace Go.Proofs.Ytkchmoapcmageaa
/- THE CELL 'sum', in the pinned program and in every row, IS THE sha256 OF THE DUMP (.gsa) THAT YtkchmoapcmageaaProg.lean LOADS. Nothing in Lean hashes anything: it is a label: what it is worth is what the hold of that sum in a sandbox is worth. -/
noncomputable def Try.pinned : Pinned := { name := "ytkchmoapcmageaa", sum := "aa93d930c9e7ab738e80af1bdcf61b1158f5ade1d5e1cf81e3eea40338f8b632", checked := Try.checked }
namespace Rows
def none {H : Type} : Left H := { results := [], args := [] }

/-- 'witnesslaw2.CodecWrites': WHATEVER THE INPUT: true; the input reads as it did. -/
def codecWritesSpec : ChangeSpec := { name := "codecWrites", fn := fun _ => fun
  | [d] => { results := [.lit (.bool true)], args := [d] }
  | _ => none }
def codecWritesRow : OpenClaim := { program := "ytkchmoapcmageaa", sum := "aa93d930c9e7ab738e80af1bdcf61b1158f5ade1d5e1cf81e3eea40338f8b632", func := "witness/witnesslaw2.CodecWrites", spec := "codecWrites", recurses := true, apart := false }
def CodecWritesSaid : Prop := codecWritesRow.holds Try.pinned (OpenSpec.ofChange codecWritesSpec)

/-- ITS FALSE NEIGHBOUR: 'it returns false'. Refute it at one input. -/
def codecWritesWrong : ChangeSpec := { name := "codecWrites", fn := fun _ => fun
  | [d] => { results := [.lit (.bool false)], args := [d] }
  | _ => none }
def CodecWritesWrongFalsely : Prop := codecWritesRow.holds Try.pinned (OpenSpec.ofChange codecWritesWrong)

/-- 'witnesslaw2.CodecBackPage': WHATEVER THE INPUT: true; the input reads as it did. -/
def codecBackPageSpec : ChangeSpec := { name := "codecBackPage", fn := fun _ => fun
  | [d1, d2] => { results := [.lit (.bool true)], args := [d1, d2] }
  | _ => none }
def codecBackPageRow : OpenClaim := { program := "ytkchmoapcmageaa", sum := "aa93d930c9e7ab738e80af1bdcf61b1158f5ade1d5e1cf81e3eea40338f8b632", func := "witness/witnesslaw2.CodecBackPage", spec := "codecBackPage", unfollowed := true, recurses := true, apart := false }
def CodecBackPageSaid : Prop := codecBackPageRow.holds Try.pinned (OpenSpec.ofChange codecBackPageSpec)

/-- ITS FALSE NEIGHBOUR: 'it returns false'. Refute it at one input. -/
def codecBackPageWrong : ChangeSpec := { name := "codecBackPage", fn := fun _ => fun
  | [d1, d2] => { results := [.lit (.bool false)], args := [d1, d2] }
  | _ => none }
def CodecBackPageWrongFalsely : Prop := codecBackPageRow.holds Try.pinned (OpenSpec.ofChange codecBackPageWrong)

/-- 'witnesslaw2.CodecReads': WHATEVER THE INPUT: true; the input reads as it did. -/
def codecReadsSpec : ChangeSpec := { name := "codecReads", fn := fun _ => fun
  | [d1, d2, d3] => { results := [.lit (.bool true)], args := [d1, d2, d3] }
  | _ => none }
def codecReadsRow : OpenClaim := { program := "ytkchmoapcmageaa", sum := "aa93d930c9e7ab738e80af1bdcf61b1158f5ade1d5e1cf81e3eea40338f8b632", func := "witness/witnesslaw2.CodecReads", spec := "codecReads", apart := false }
def CodecReadsSaid : Prop := codecReadsRow.holds Try.pinned (OpenSpec.ofChange codecReadsSpec)

/-- ITS FALSE NEIGHBOUR: 'it returns false'. Refute it at one input. -/
def codecReadsWrong : ChangeSpec := { name := "codecReads", fn := fun _ => fun
  | [d1, d2, d3] => { results := [.lit (.bool false)], args := [d1, d2, d3] }
  | _ => none }
def CodecReadsWrongFalsely : Prop := codecReadsRow.holds Try.pinned (OpenSpec.ofChange codecReadsWrong)

/-- 'witnesslaw2.CodecBack': WHATEVER THE INPUT: true; the input reads as it did. -/
def codecBackSpec : ChangeSpec := { name := "codecBack", fn := fun _ => fun
  | [d1, d2, d3, d4, d5] => { results := [.lit (.bool true)], args := [d1, d2, d3, d4, d5] }
  | _ => none }
def codecBackRow : OpenClaim := { program := "ytkchmoapcmageaa", sum := "aa93d930c9e7ab738e80af1bdcf61b1158f5ade1d5e1cf81e3eea40338f8b632", func := "witness/witnesslaw2.CodecBack", spec := "codecBack", unfollowed := true, recurses := true, apart := false }
def CodecBackSaid : Prop := codecBackRow.holds Try.pinned (OpenSpec.ofChange codecBackSpec)

/-- ITS FALSE NEIGHBOUR: 'it returns false'. Refute it at one input. -/
def codecBackWrong : ChangeSpec := { name := "codecBack", fn := fun _ => fun
  | [d1, d2, d3, d4, d5] => { results := [.lit (.bool false)], args := [d1, d2, d3, d4, d5] }
  | _ => none }
def CodecBackWrongFalsely : Prop := codecBackRow.holds Try.pinned (OpenSpec.ofChange codecBackWrong)

/-- 'witnesslaw2.CodecApart': WHATEVER THE INPUT: true; the input reads as it did. -/
def codecApartSpec : ChangeSpec := { name := "codecApart", fn := fun _ => fun
  | [d1, d2, d3, d4] => { results := [.lit (.bool true)], args := [d1, d2, d3, d4] }
  | _ => none }
def codecApartRow : OpenClaim := { program := "ytkchmoapcmageaa", sum := "aa93d930c9e7ab738e80af1bdcf61b1158f5ade1d5e1cf81e3eea40338f8b632", func := "witness/witnesslaw2.CodecApart", spec := "codecApart", unfollowed := true, recurses := true, apart := false }
def CodecApartSaid : Prop := codecApartRow.holds Try.pinned (OpenSpec.ofChange codecApartSpec)

/-- ITS FALSE NEIGHBOUR: 'it returns false'. Refute it at one input. -/
def codecApartWrong : ChangeSpec := { name := "codecApart", fn := fun _ => fun
  | [d1, d2, d3, d4] => { results := [.lit (.bool false)], args := [d1, d2, d3, d4] }
  | _ => none }
def CodecApartWrongFalsely : Prop := codecApartRow.holds Try.pinned (OpenSpec.ofChange codecApartWrong)

/-- 'witnesslaw2.CodecTowers': WHATEVER THE INPUT: true; the input reads as it did. -/
def codecTowersSpec : ChangeSpec := { name := "codecTowers", fn := fun _ => fun
  | [d1, d2] => { results := [.lit (.bool true)], args := [d1, d2] }
  | _ => none }
def codecTowersRow : OpenClaim := { program := "ytkchmoapcmageaa", sum := "aa93d930c9e7ab738e80af1bdcf61b1158f5ade1d5e1cf81e3eea40338f8b632", func := "witness/witnesslaw2.CodecTowers", spec := "codecTowers", unfollowed := true, recurses := true, apart := false }
def CodecTowersSaid : Prop := codecTowersRow.holds Try.pinned (OpenSpec.ofChange codecTowersSpec)

/-- ITS FALSE NEIGHBOUR: 'it returns false'. Refute it at one input. -/
def codecTowersWrong : ChangeSpec := { name := "codecTowers", fn := fun _ => fun
  | [d1, d2] => { results := [.lit (.bool false)], args := [d1, d2] }
  | _ => none }
def CodecTowersWrongFalsely : Prop := codecTowersRow.holds Try.pinned (OpenSpec.ofChange codecTowersWrong)

/- THE SECOND FORM. 'bulk': how many values and letters a reading holds, each counted each time it is reached (what is shared counts as often as it is met; a slice's spare places count too). A statement '..UptoSaid' is the law's where the arguments, and the package variables that the reading takes, are together of bulk at most 1048576: NARROWER than '..Said'. Prove '..Said' where nothing that the law and all that it calls make is longer than what came in: it says more and counts as full. Else prove '..UptoSaid'. A law counts once. -/
mutual
def uptoBulk {H : Type} : DataW H → Nat
  | .lit (.string bytes) => bytes.length + 1
  | .lit _ => 1
  | .nil => 1
  | .ptr d => uptoBulk d + 1
  | .slice elems spare => uptoBulkAll elems + uptoBulkAll spare + 1
  | .agg parts => uptoBulkAll parts + 1
  | .iface _ d => uptoBulk d + 1
  | .map entries => uptoBulkEntries entries + 1
  | .held _ => 1
def uptoBulkAll {H : Type} : List (DataW H) → Nat
  | [] => 0
  | d :: r => uptoBulk d + uptoBulkAll r
def uptoBulkEntries {H : Type} : List (Lit × DataW H) → Nat
  | [] => 0
  | x :: r => uptoBulkEntry x + uptoBulkEntries r
def uptoBulkEntry {H : Type} : Lit × DataW H → Nat
  | (.string bytes, d) => bytes.length + uptoBulk d + 1
  | (_, d) => uptoBulk d + 1
 end
def uptoSmall : (H : Type) → List (DataW H) → Bool := fun _ ds => decide (uptoBulkAll ds ≤ 1048576)
def OpenSpec.upto (s : _root_.Go.ChangeSpec) : _root_.Go.OpenSpec := { _root_.Go.OpenSpec.ofChange s with cond := some uptoSmall }

/-- 'witnesslaw2.CodecWrites', WHERE WHAT IT READS IS OF BULK AT MOST 1048576: true; the input reads as it did. -/
def codecWritesUptoRow : OpenClaim := { program := "ytkchmoapcmageaa", sum := "aa93d930c9e7ab738e80af1bdcf61b1158f5ade1d5e1cf81e3eea40338f8b632", func := "witness/witnesslaw2.CodecWrites", spec := "codecWrites", recurses := true, apart := false, narrowed := true }
def CodecWritesUptoSaid : Prop := codecWritesUptoRow.holds Try.pinned (OpenSpec.upto codecWritesSpec)

/-- 'witnesslaw2.CodecBackPage', WHERE WHAT IT READS IS OF BULK AT MOST 1048576: true; the input reads as it did. -/
def codecBackPageUptoRow : OpenClaim := { program := "ytkchmoapcmageaa", sum := "aa93d930c9e7ab738e80af1bdcf61b1158f5ade1d5e1cf81e3eea40338f8b632", func := "witness/witnesslaw2.CodecBackPage", spec := "codecBackPage", unfollowed := true, recurses := true, apart := false, narrowed := true }
def CodecBackPageUptoSaid : Prop := codecBackPageUptoRow.holds Try.pinned (OpenSpec.upto codecBackPageSpec)

/-- 'witnesslaw2.CodecReads', WHERE WHAT IT READS IS OF BULK AT MOST 1048576: true; the input reads as it did. -/
def codecReadsUptoRow : OpenClaim := { program := "ytkchmoapcmageaa", sum := "aa93d930c9e7ab738e80af1bdcf61b1158f5ade1d5e1cf81e3eea40338f8b632", func := "witness/witnesslaw2.CodecReads", spec := "codecReads", apart := false, narrowed := true }
def CodecReadsUptoSaid : Prop := codecReadsUptoRow.holds Try.pinned (OpenSpec.upto codecReadsSpec)

/-- 'witnesslaw2.CodecBack', WHERE WHAT IT READS IS OF BULK AT MOST 1048576: true; the input reads as it did. -/
def codecBackUptoRow : OpenClaim := { program := "ytkchmoapcmageaa", sum := "aa93d930c9e7ab738e80af1bdcf61b1158f5ade1d5e1cf81e3eea40338f8b632", func := "witness/witnesslaw2.CodecBack", spec := "codecBack", unfollowed := true, recurses := true, apart := false, narrowed := true }
def CodecBackUptoSaid : Prop := codecBackUptoRow.holds Try.pinned (OpenSpec.upto codecBackSpec)

/-- 'witnesslaw2.CodecApart', WHERE WHAT IT READS IS OF BULK AT MOST 1048576: true; the input reads as it did. -/
def codecApartUptoRow : OpenClaim := { program := "ytkchmoapcmageaa", sum := "aa93d930c9e7ab738e80af1bdcf61b1158f5ade1d5e1cf81e3eea40338f8b632", func := "witness/witnesslaw2.CodecApart", spec := "codecApart", unfollowed := true, recurses := true, apart := false, narrowed := true }
def CodecApartUptoSaid : Prop := codecApartUptoRow.holds Try.pinned (OpenSpec.upto codecApartSpec)

/-- 'witnesslaw2.CodecTowers', WHERE WHAT IT READS IS OF BULK AT MOST 1048576: true; the input reads as it did. -/
def codecTowersUptoRow : OpenClaim := { program := "ytkchmoapcmageaa", sum := "aa93d930c9e7ab738e80af1bdcf61b1158f5ade1d5e1cf81e3eea40338f8b632", func := "witness/witnesslaw2.CodecTowers", spec := "codecTowers", unfollowed := true, recurses := true, apart := false, narrowed := true }
def CodecTowersUptoSaid : Prop := codecTowersUptoRow.holds Try.pinned (OpenSpec.upto codecTowersSpec)

end Rows
end Go.Proofs.Ytkchmoapcmageaa
