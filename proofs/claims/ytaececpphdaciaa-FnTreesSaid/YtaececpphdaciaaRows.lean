/-
  No cell of these rows narrows 'for every input' (looked for: loops, veiled, ifaces, maps, wideKeys, modest, calm, conditions, laid).
  DERIVED. THE GIVEN ROWS OF THIS SEAT. 10 by the template 'for every input the law returns true; each argument reads behind the call as it read before'; 0 by the template 'total and deterministic' (their statements: YtaececpphdaciaaTotals.lean).
  GIVEN WITH THE SEED: the statements are not yours to turn. If you find one false, say at which input.
  Laid BY PROGRAM, IN A SANDBOX (cutbox-rows.mjs): the forced cells as the released guide's own fill.sh prints them over the translation c9c77564a7c87e97… (all of the seat's roots in one cut). By AI agents, Wed Nov 11 2026. No macro, syntax, notation, axiom, sorry.
-/
import Derived.Test.YtaececpphdaciaaChecked
import GoSem.Claim
import GoSem.ClaimJoined
import GoSem.ClaimMapViews
import Derived.JoinedTies
import Derived.KernelRfl
namespace Go.Proofs.Ytaececpphdaciaa
/- THE CELL 'sum', in the pinned program and in every row, IS THE sha256 OF THE DUMP (.gsa) THAT YtaececpphdaciaaProg.lean LOADS. Nothing in Lean hashes anything: it is a label: what it is worth is what the hold of that sum in a sandbox is worth. -/
noncomputable def Try.pinned : Pinned := { name := "ytaececpphdaciaa", sum := "c9c77564a7c87e97f53381ed1074caa6d4222717e0c5b4ccc1bd2f541bb142af", checked := Try.checked }
namespace Rows
def none {H : Type} : Left H := { results := [], args := [] }

/-- 'laws.FnTrees': WHATEVER THE INPUT: true; the input reads as it did. -/
def fnTreesSpec : ChangeSpec := { name := "fnTrees", fn := fun _ => fun
  | [d] => { results := [.lit (.bool true)], args := [d] }
  | _ => none }
def fnTreesRow : OpenClaim := { program := "ytaececpphdaciaa", sum := "c9c77564a7c87e97f53381ed1074caa6d4222717e0c5b4ccc1bd2f541bb142af", func := "loop.example/g00859/laws.FnTrees", spec := "fnTrees", unfollowed := true, recurses := true, plainKeys := false, apart := false }
def FnTreesSaid : Prop := fnTreesRow.holds Try.pinned (OpenSpec.ofChange fnTreesSpec)

/-- ITS FALSE NEIGHBOUR: 'it returns false'. Refute it at one input. -/
def fnTreesWrong : ChangeSpec := { name := "fnTrees", fn := fun _ => fun
  | [d] => { results := [.lit (.bool false)], args := [d] }
  | _ => none }
def FnTreesWrongFalsely : Prop := fnTreesRow.holds Try.pinned (OpenSpec.ofChange fnTreesWrong)

/-- 'laws.FnSwitched': WHATEVER THE INPUT: true; the input reads as it did. -/
def fnSwitchedSpec : ChangeSpec := { name := "fnSwitched", fn := fun _ => fun
  | [d] => { results := [.lit (.bool true)], args := [d] }
  | _ => none }
def fnSwitchedRow : OpenClaim := { program := "ytaececpphdaciaa", sum := "c9c77564a7c87e97f53381ed1074caa6d4222717e0c5b4ccc1bd2f541bb142af", func := "loop.example/g00859/laws.FnSwitched", spec := "fnSwitched", unfollowed := true, recurses := true, plainKeys := false, apart := false }
def FnSwitchedSaid : Prop := fnSwitchedRow.holds Try.pinned (OpenSpec.ofChange fnSwitchedSpec)

/-- ITS FALSE NEIGHBOUR: 'it returns false'. Refute it at one input. -/
def fnSwitchedWrong : ChangeSpec := { name := "fnSwitched", fn := fun _ => fun
  | [d] => { results := [.lit (.bool false)], args := [d] }
  | _ => none }
def FnSwitchedWrongFalsely : Prop := fnSwitchedRow.holds Try.pinned (OpenSpec.ofChange fnSwitchedWrong)

/-- 'laws.FnRanges': WHATEVER THE INPUT: true; the input reads as it did. -/
def fnRangesSpec : ChangeSpec := { name := "fnRanges", fn := fun _ => fun
  | [d] => { results := [.lit (.bool true)], args := [d] }
  | _ => none }
def fnRangesRow : OpenClaim := { program := "ytaececpphdaciaa", sum := "c9c77564a7c87e97f53381ed1074caa6d4222717e0c5b4ccc1bd2f541bb142af", func := "loop.example/g00859/laws.FnRanges", spec := "fnRanges", unfollowed := true, recurses := true, plainKeys := false, apart := false }
def FnRangesSaid : Prop := fnRangesRow.holds Try.pinned (OpenSpec.ofChange fnRangesSpec)

/-- ITS FALSE NEIGHBOUR: 'it returns false'. Refute it at one input. -/
def fnRangesWrong : ChangeSpec := { name := "fnRanges", fn := fun _ => fun
  | [d] => { results := [.lit (.bool false)], args := [d] }
  | _ => none }
def FnRangesWrongFalsely : Prop := fnRangesRow.holds Try.pinned (OpenSpec.ofChange fnRangesWrong)

/-- 'laws.FnExactApplyFault': WHATEVER THE INPUT: true; the input reads as it did. -/
def fnExactApplyFaultSpec : ChangeSpec := { name := "fnExactApplyFault", fn := fun _ => fun
  | [d1, d2] => { results := [.lit (.bool true)], args := [d1, d2] }
  | _ => none }
def fnExactApplyFaultRow : OpenClaim := { program := "ytaececpphdaciaa", sum := "c9c77564a7c87e97f53381ed1074caa6d4222717e0c5b4ccc1bd2f541bb142af", func := "loop.example/g00859/laws.FnExactApplyFault", spec := "fnExactApplyFault", unfollowed := true, recurses := true, plainKeys := false, apart := false }
def FnExactApplyFaultSaid : Prop := fnExactApplyFaultRow.holds Try.pinned (OpenSpec.ofChange fnExactApplyFaultSpec)

/-- ITS FALSE NEIGHBOUR: 'it returns false'. Refute it at one input. -/
def fnExactApplyFaultWrong : ChangeSpec := { name := "fnExactApplyFault", fn := fun _ => fun
  | [d1, d2] => { results := [.lit (.bool false)], args := [d1, d2] }
  | _ => none }
def FnExactApplyFaultWrongFalsely : Prop := fnExactApplyFaultRow.holds Try.pinned (OpenSpec.ofChange fnExactApplyFaultWrong)

/-- 'laws.FnExactBlindWires': WHATEVER THE INPUT: true; the input reads as it did. -/
def fnExactBlindWiresSpec : ChangeSpec := { name := "fnExactBlindWires", fn := fun _ => fun
  | [d] => { results := [.lit (.bool true)], args := [d] }
  | _ => none }
def fnExactBlindWiresRow : OpenClaim := { program := "ytaececpphdaciaa", sum := "c9c77564a7c87e97f53381ed1074caa6d4222717e0c5b4ccc1bd2f541bb142af", func := "loop.example/g00859/laws.FnExactBlindWires", spec := "fnExactBlindWires", recurses := true, plainKeys := false, apart := false }
def FnExactBlindWiresSaid : Prop := fnExactBlindWiresRow.holds Try.pinned (OpenSpec.ofChange fnExactBlindWiresSpec)

/-- ITS FALSE NEIGHBOUR: 'it returns false'. Refute it at one input. -/
def fnExactBlindWiresWrong : ChangeSpec := { name := "fnExactBlindWires", fn := fun _ => fun
  | [d] => { results := [.lit (.bool false)], args := [d] }
  | _ => none }
def FnExactBlindWiresWrongFalsely : Prop := fnExactBlindWiresRow.holds Try.pinned (OpenSpec.ofChange fnExactBlindWiresWrong)

/-- 'laws.FnExactBoundsOk': WHATEVER THE INPUT: true; the input reads as it did. -/
def fnExactBoundsOkSpec : ChangeSpec := { name := "fnExactBoundsOk", fn := fun _ => fun
  | [d1, d2, d3] => { results := [.lit (.bool true)], args := [d1, d2, d3] }
  | _ => none }
def fnExactBoundsOkRow : OpenClaim := { program := "ytaececpphdaciaa", sum := "c9c77564a7c87e97f53381ed1074caa6d4222717e0c5b4ccc1bd2f541bb142af", func := "loop.example/g00859/laws.FnExactBoundsOk", spec := "fnExactBoundsOk", plainKeys := false, apart := false }
def FnExactBoundsOkSaid : Prop := fnExactBoundsOkRow.holds Try.pinned (OpenSpec.ofChange fnExactBoundsOkSpec)

/-- ITS FALSE NEIGHBOUR: 'it returns false'. Refute it at one input. -/
def fnExactBoundsOkWrong : ChangeSpec := { name := "fnExactBoundsOk", fn := fun _ => fun
  | [d1, d2, d3] => { results := [.lit (.bool false)], args := [d1, d2, d3] }
  | _ => none }
def FnExactBoundsOkWrongFalsely : Prop := fnExactBoundsOkRow.holds Try.pinned (OpenSpec.ofChange fnExactBoundsOkWrong)

/-- 'laws.FnExactResistanceRange': WHATEVER THE INPUT: true; the input reads as it did. -/
def fnExactResistanceRangeSpec : ChangeSpec := { name := "fnExactResistanceRange", fn := fun _ => fun
  | [d1, d2, d3, d4, d5] => { results := [.lit (.bool true)], args := [d1, d2, d3, d4, d5] }
  | _ => none }
def fnExactResistanceRangeRow : OpenClaim := { program := "ytaececpphdaciaa", sum := "c9c77564a7c87e97f53381ed1074caa6d4222717e0c5b4ccc1bd2f541bb142af", func := "loop.example/g00859/laws.FnExactResistanceRange", spec := "fnExactResistanceRange", unfollowed := true, recurses := true, plainKeys := false, apart := false }
def FnExactResistanceRangeSaid : Prop := fnExactResistanceRangeRow.holds Try.pinned (OpenSpec.ofChange fnExactResistanceRangeSpec)

/-- ITS FALSE NEIGHBOUR: 'it returns false'. Refute it at one input. -/
def fnExactResistanceRangeWrong : ChangeSpec := { name := "fnExactResistanceRange", fn := fun _ => fun
  | [d1, d2, d3, d4, d5] => { results := [.lit (.bool false)], args := [d1, d2, d3, d4, d5] }
  | _ => none }
def FnExactResistanceRangeWrongFalsely : Prop := fnExactResistanceRangeRow.holds Try.pinned (OpenSpec.ofChange fnExactResistanceRangeWrong)

/-- 'laws.FnExactIsSensitive': WHATEVER THE INPUT: true; the input reads as it did. -/
def fnExactIsSensitiveSpec : ChangeSpec := { name := "fnExactIsSensitive", fn := fun _ => fun
  | [d1, d2, d3, d4] => { results := [.lit (.bool true)], args := [d1, d2, d3, d4] }
  | _ => none }
def fnExactIsSensitiveRow : OpenClaim := { program := "ytaececpphdaciaa", sum := "c9c77564a7c87e97f53381ed1074caa6d4222717e0c5b4ccc1bd2f541bb142af", func := "loop.example/g00859/laws.FnExactIsSensitive", spec := "fnExactIsSensitive", unfollowed := true, recurses := true, plainKeys := false, apart := false }
def FnExactIsSensitiveSaid : Prop := fnExactIsSensitiveRow.holds Try.pinned (OpenSpec.ofChange fnExactIsSensitiveSpec)

/-- ITS FALSE NEIGHBOUR: 'it returns false'. Refute it at one input. -/
def fnExactIsSensitiveWrong : ChangeSpec := { name := "fnExactIsSensitive", fn := fun _ => fun
  | [d1, d2, d3, d4] => { results := [.lit (.bool false)], args := [d1, d2, d3, d4] }
  | _ => none }
def FnExactIsSensitiveWrongFalsely : Prop := fnExactIsSensitiveRow.holds Try.pinned (OpenSpec.ofChange fnExactIsSensitiveWrong)

/-- 'laws.FnExactCutWire': WHATEVER THE INPUT: true; the input reads as it did. -/
def fnExactCutWireSpec : ChangeSpec := { name := "fnExactCutWire", fn := fun _ => fun
  | [d1, d2] => { results := [.lit (.bool true)], args := [d1, d2] }
  | _ => none }
def fnExactCutWireRow : OpenClaim := { program := "ytaececpphdaciaa", sum := "c9c77564a7c87e97f53381ed1074caa6d4222717e0c5b4ccc1bd2f541bb142af", func := "loop.example/g00859/laws.FnExactCutWire", spec := "fnExactCutWire", unfollowed := true, recurses := true, plainKeys := false, apart := false }
def FnExactCutWireSaid : Prop := fnExactCutWireRow.holds Try.pinned (OpenSpec.ofChange fnExactCutWireSpec)

/-- ITS FALSE NEIGHBOUR: 'it returns false'. Refute it at one input. -/
def fnExactCutWireWrong : ChangeSpec := { name := "fnExactCutWire", fn := fun _ => fun
  | [d1, d2] => { results := [.lit (.bool false)], args := [d1, d2] }
  | _ => none }
def FnExactCutWireWrongFalsely : Prop := fnExactCutWireRow.holds Try.pinned (OpenSpec.ofChange fnExactCutWireWrong)

/-- 'laws.FnExactTriangleGap': WHATEVER THE INPUT: true; the input reads as it did. -/
def fnExactTriangleGapSpec : ChangeSpec := { name := "fnExactTriangleGap", fn := fun _ => fun
  | [d1, d2, d3, d4] => { results := [.lit (.bool true)], args := [d1, d2, d3, d4] }
  | _ => none }
def fnExactTriangleGapRow : OpenClaim := { program := "ytaececpphdaciaa", sum := "c9c77564a7c87e97f53381ed1074caa6d4222717e0c5b4ccc1bd2f541bb142af", func := "loop.example/g00859/laws.FnExactTriangleGap", spec := "fnExactTriangleGap", unfollowed := true, recurses := true, plainKeys := false, apart := false }
def FnExactTriangleGapSaid : Prop := fnExactTriangleGapRow.holds Try.pinned (OpenSpec.ofChange fnExactTriangleGapSpec)

/-- ITS FALSE NEIGHBOUR: 'it returns false'. Refute it at one input. -/
def fnExactTriangleGapWrong : ChangeSpec := { name := "fnExactTriangleGap", fn := fun _ => fun
  | [d1, d2, d3, d4] => { results := [.lit (.bool false)], args := [d1, d2, d3, d4] }
  | _ => none }
def FnExactTriangleGapWrongFalsely : Prop := fnExactTriangleGapRow.holds Try.pinned (OpenSpec.ofChange fnExactTriangleGapWrong)

/- THE SECOND FORM. 'bulk': how many values and letters a reading holds, each counted each time it is reached (what is shared counts as often as it is met; a slice's spare places count too). A statement '..UptoSaid' is the law's where the arguments, and the package variables that the reading takes, are together of bulk at most 1048576: NARROWER than '..Said'. Prove '..Said' where nothing that the law and all that it calls make is longer than what came in: it says more and counts as full. Else prove '..UptoSaid'. A law counts once. -/
mutual
def uptoBulk {H : Type} : DataW H → Nat
  | .lit (.string bytes) => bytes.length + 1
  | .lit _ => 1
  | .nil => 1
  | .ptr d => uptoBulk d + 1
  | .slice elems spare => uptoBulkAll elems + uptoBulkAll spare + 1
  | .agg parts => uptoBulkAll parts + 1
  | .iface _ d => uptoBulk d + 1
  | .map entries => uptoBulkEntries entries + 1
  | .held _ => 1
def uptoBulkAll {H : Type} : List (DataW H) → Nat
  | [] => 0
  | d :: r => uptoBulk d + uptoBulkAll r
def uptoBulkEntries {H : Type} : List (Lit × DataW H) → Nat
  | [] => 0
  | x :: r => uptoBulkEntry x + uptoBulkEntries r
def uptoBulkEntry {H : Type} : Lit × DataW H → Nat
  | (.string bytes, d) => bytes.length + uptoBulk d + 1
  | (_, d) => uptoBulk d + 1
 end
def uptoSmall : (H : Type) → List (DataW H) → Bool := fun _ ds => decide (uptoBulkAll ds ≤ 1048576)
def OpenSpec.upto (s : _root_.Go.ChangeSpec) : _root_.Go.OpenSpec := { _root_.Go.OpenSpec.ofChange s with cond := some uptoSmall }

/-- 'laws.FnTrees', WHERE WHAT IT READS IS OF BULK AT MOST 1048576: true; the input reads as it did. -/
def fnTreesUptoRow : OpenClaim := { program := "ytaececpphdaciaa", sum := "c9c77564a7c87e97f53381ed1074caa6d4222717e0c5b4ccc1bd2f541bb142af", func := "loop.example/g00859/laws.FnTrees", spec := "fnTrees", unfollowed := true, recurses := true, plainKeys := false, apart := false, narrowed := true }
def FnTreesUptoSaid : Prop := fnTreesUptoRow.holds Try.pinned (OpenSpec.upto fnTreesSpec)

/-- 'laws.FnSwitched', WHERE WHAT IT READS IS OF BULK AT MOST 1048576: true; the input reads as it did. -/
def fnSwitchedUptoRow : OpenClaim := { program := "ytaececpphdaciaa", sum := "c9c77564a7c87e97f53381ed1074caa6d4222717e0c5b4ccc1bd2f541bb142af", func := "loop.example/g00859/laws.FnSwitched", spec := "fnSwitched", unfollowed := true, recurses := true, plainKeys := false, apart := false, narrowed := true }
def FnSwitchedUptoSaid : Prop := fnSwitchedUptoRow.holds Try.pinned (OpenSpec.upto fnSwitchedSpec)

/-- 'laws.FnRanges', WHERE WHAT IT READS IS OF BULK AT MOST 1048576: true; the input reads as it did. -/
def fnRangesUptoRow : OpenClaim := { program := "ytaececpphdaciaa", sum := "c9c77564a7c87e97f53381ed1074caa6d4222717e0c5b4ccc1bd2f541bb142af", func := "loop.example/g00859/laws.FnRanges", spec := "fnRanges", unfollowed := true, recurses := true, plainKeys := false, apart := false, narrowed := true }
def FnRangesUptoSaid : Prop := fnRangesUptoRow.holds Try.pinned (OpenSpec.upto fnRangesSpec)

/-- 'laws.FnExactApplyFault', WHERE WHAT IT READS IS OF BULK AT MOST 1048576: true; the input reads as it did. -/
def fnExactApplyFaultUptoRow : OpenClaim := { program := "ytaececpphdaciaa", sum := "c9c77564a7c87e97f53381ed1074caa6d4222717e0c5b4ccc1bd2f541bb142af", func := "loop.example/g00859/laws.FnExactApplyFault", spec := "fnExactApplyFault", unfollowed := true, recurses := true, plainKeys := false, apart := false, narrowed := true }
def FnExactApplyFaultUptoSaid : Prop := fnExactApplyFaultUptoRow.holds Try.pinned (OpenSpec.upto fnExactApplyFaultSpec)

/-- 'laws.FnExactBlindWires', WHERE WHAT IT READS IS OF BULK AT MOST 1048576: true; the input reads as it did. -/
def fnExactBlindWiresUptoRow : OpenClaim := { program := "ytaececpphdaciaa", sum := "c9c77564a7c87e97f53381ed1074caa6d4222717e0c5b4ccc1bd2f541bb142af", func := "loop.example/g00859/laws.FnExactBlindWires", spec := "fnExactBlindWires", recurses := true, plainKeys := false, apart := false, narrowed := true }
def FnExactBlindWiresUptoSaid : Prop := fnExactBlindWiresUptoRow.holds Try.pinned (OpenSpec.upto fnExactBlindWiresSpec)

/-- 'laws.FnExactBoundsOk', WHERE WHAT IT READS IS OF BULK AT MOST 1048576: true; the input reads as it did. -/
def fnExactBoundsOkUptoRow : OpenClaim := { program := "ytaececpphdaciaa", sum := "c9c77564a7c87e97f53381ed1074caa6d4222717e0c5b4ccc1bd2f541bb142af", func := "loop.example/g00859/laws.FnExactBoundsOk", spec := "fnExactBoundsOk", plainKeys := false, apart := false, narrowed := true }
def FnExactBoundsOkUptoSaid : Prop := fnExactBoundsOkUptoRow.holds Try.pinned (OpenSpec.upto fnExactBoundsOkSpec)

/-- 'laws.FnExactResistanceRange', WHERE WHAT IT READS IS OF BULK AT MOST 1048576: true; the input reads as it did. -/
def fnExactResistanceRangeUptoRow : OpenClaim := { program := "ytaececpphdaciaa", sum := "c9c77564a7c87e97f53381ed1074caa6d4222717e0c5b4ccc1bd2f541bb142af", func := "loop.example/g00859/laws.FnExactResistanceRange", spec := "fnExactResistanceRange", unfollowed := true, recurses := true, plainKeys := false, apart := false, narrowed := true }
def FnExactResistanceRangeUptoSaid : Prop := fnExactResistanceRangeUptoRow.holds Try.pinned (OpenSpec.upto fnExactResistanceRangeSpec)

/-- 'laws.FnExactIsSensitive', WHERE WHAT IT READS IS OF BULK AT MOST 1048576: true; the input reads as it did. -/
def fnExactIsSensitiveUptoRow : OpenClaim := { program := "ytaececpphdaciaa", sum := "c9c77564a7c87e97f53381ed1074caa6d4222717e0c5b4ccc1bd2f541bb142af", func := "loop.example/g00859/laws.FnExactIsSensitive", spec := "fnExactIsSensitive", unfollowed := true, recurses := true, plainKeys := false, apart := false, narrowed := true }
def FnExactIsSensitiveUptoSaid : Prop := fnExactIsSensitiveUptoRow.holds Try.pinned (OpenSpec.upto fnExactIsSensitiveSpec)

/-- 'laws.FnExactCutWire', WHERE WHAT IT READS IS OF BULK AT MOST 1048576: true; the input reads as it did. -/
def fnExactCutWireUptoRow : OpenClaim := { program := "ytaececpphdaciaa", sum := "c9c77564a7c87e97f53381ed1074caa6d4222717e0c5b4ccc1bd2f541bb142af", func := "loop.example/g00859/laws.FnExactCutWire", spec := "fnExactCutWire", unfollowed := true, recurses := true, plainKeys := false, apart := false, narrowed := true }
def FnExactCutWireUptoSaid : Prop := fnExactCutWireUptoRow.holds Try.pinned (OpenSpec.upto fnExactCutWireSpec)

/-- 'laws.FnExactTriangleGap', WHERE WHAT IT READS IS OF BULK AT MOST 1048576: true; the input reads as it did. -/
def fnExactTriangleGapUptoRow : OpenClaim := { program := "ytaececpphdaciaa", sum := "c9c77564a7c87e97f53381ed1074caa6d4222717e0c5b4ccc1bd2f541bb142af", func := "loop.example/g00859/laws.FnExactTriangleGap", spec := "fnExactTriangleGap", unfollowed := true, recurses := true, plainKeys := false, apart := false, narrowed := true }
def FnExactTriangleGapUptoSaid : Prop := fnExactTriangleGapUptoRow.holds Try.pinned (OpenSpec.upto fnExactTriangleGapSpec)

end Rows
end Go.Proofs.Ytaececpphdaciaa
