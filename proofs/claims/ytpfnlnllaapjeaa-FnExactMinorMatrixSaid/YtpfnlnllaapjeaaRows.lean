/-
  No cell of these rows narrows 'for every input' (looked for: loops, veiled, ifaces, maps, wideKeys, modest, calm, conditions, laid).
  DERIVED. THE GIVEN ROWS OF THIS SEAT. 12 by the template 'for every input the law returns true; each argument reads behind the call as it read before'; 0 by the template 'total and deterministic' (their statements: YtpfnlnllaapjeaaTotals.lean).
  GIVEN WITH THE SEED: the statements are not yours to turn. If you find one false, say at which input.
  Laid BY PROGRAM, IN A SANDBOX (cutbox-rows.mjs): the forced cells as the released guide's own fill.sh prints them over the translation e8e96a2ddc7bfd6d… (all of the seat's roots in one cut). By AI agents, Wed Nov 11 2026. No macro, syntax, notation, axiom, sorry.
-/
import Derived.Test.YtpfnlnllaapjeaaChecked
import GoSem.Claim
import GoSem.ClaimJoined
import GoSem.ClaimMapViews
import Derived.JoinedTies
import Derived.KernelRfl
namespace Go.Proofs.Ytpfnlnllaapjeaa
/- THE CELL 'sum', in the pinned program and in every row, IS THE sha256 OF THE DUMP (.gsa) THAT YtpfnlnllaapjeaaProg.lean LOADS. Nothing in Lean hashes anything: it is a label: what it is worth is what the hold of that sum in a sandbox is worth. -/
noncomputable def Try.pinned : Pinned := { name := "ytpfnlnllaapjeaa", sum := "e8e96a2ddc7bfd6d92ceded9f1a07a8005ddcdc75524940c2c81c4344eb4c71d", checked := Try.checked }
namespace Rows
def none {H : Type} : Left H := { results := [], args := [] }

/-- 'laws.FnDisks': WHATEVER THE INPUT: true; the input reads as it did. -/
def fnDisksSpec : ChangeSpec := { name := "fnDisks", fn := fun _ => fun
  | [d] => { results := [.lit (.bool true)], args := [d] }
  | _ => none }
def fnDisksRow : OpenClaim := { program := "ytpfnlnllaapjeaa", sum := "e8e96a2ddc7bfd6d92ceded9f1a07a8005ddcdc75524940c2c81c4344eb4c71d", func := "loop.example/g00859/laws.FnDisks", spec := "fnDisks", inPlace := ["(*sync.WaitGroup).Add", "internal/race.ReleaseMerge", "internal/race.Disable", "internal/race.Enable", "internal/synctest.IsInBubble", "internal/synctest.Associate[sync.WaitGroup]", "sync.fatal", "sync/atomic.OrUint64", "sync/atomic.AddUint64", "internal/race.Read", "sync/atomic.LoadUint64", "sync/atomic.StoreUint64", "internal/synctest.Disassociate[sync.WaitGroup]", "sync.runtime_Semrelease", "(*sync.WaitGroup).Done", "(*sync.WaitGroup).Wait", "internal/race.Acquire", "internal/synctest.IsAssociated[sync.WaitGroup]", "sync/atomic.CompareAndSwapUint64", "internal/race.Write", "sync.runtime_SemacquireWaitGroup"], unfollowed := true, recurses := true, plainKeys := false, leaving := true, apart := false }
def FnDisksSaid : Prop := fnDisksRow.holds Try.pinned (OpenSpec.ofChange fnDisksSpec)

/-- ITS FALSE NEIGHBOUR: 'it returns false'. Refute it at one input. -/
def fnDisksWrong : ChangeSpec := { name := "fnDisks", fn := fun _ => fun
  | [d] => { results := [.lit (.bool false)], args := [d] }
  | _ => none }
def FnDisksWrongFalsely : Prop := fnDisksRow.holds Try.pinned (OpenSpec.ofChange fnDisksWrong)

/-- 'laws.FnExactPutWire': WHATEVER THE INPUT: true; the input reads as it did. -/
def fnExactPutWireSpec : ChangeSpec := { name := "fnExactPutWire", fn := fun _ => fun
  | [d1, d2, d3, d4] => { results := [.lit (.bool true)], args := [d1, d2, d3, d4] }
  | _ => none }
def fnExactPutWireRow : OpenClaim := { program := "ytpfnlnllaapjeaa", sum := "e8e96a2ddc7bfd6d92ceded9f1a07a8005ddcdc75524940c2c81c4344eb4c71d", func := "loop.example/g00859/laws.FnExactPutWire", spec := "fnExactPutWire", unfollowed := true, recurses := true, plainKeys := false, leaving := true, apart := false }
def FnExactPutWireSaid : Prop := fnExactPutWireRow.holds Try.pinned (OpenSpec.ofChange fnExactPutWireSpec)

/-- ITS FALSE NEIGHBOUR: 'it returns false'. Refute it at one input. -/
def fnExactPutWireWrong : ChangeSpec := { name := "fnExactPutWire", fn := fun _ => fun
  | [d1, d2, d3, d4] => { results := [.lit (.bool false)], args := [d1, d2, d3, d4] }
  | _ => none }
def FnExactPutWireWrongFalsely : Prop := fnExactPutWireRow.holds Try.pinned (OpenSpec.ofChange fnExactPutWireWrong)

/-- 'laws.FnExactJoinNodes': WHATEVER THE INPUT: true; the input reads as it did. -/
def fnExactJoinNodesSpec : ChangeSpec := { name := "fnExactJoinNodes", fn := fun _ => fun
  | [d1, d2, d3] => { results := [.lit (.bool true)], args := [d1, d2, d3] }
  | _ => none }
def fnExactJoinNodesRow : OpenClaim := { program := "ytpfnlnllaapjeaa", sum := "e8e96a2ddc7bfd6d92ceded9f1a07a8005ddcdc75524940c2c81c4344eb4c71d", func := "loop.example/g00859/laws.FnExactJoinNodes", spec := "fnExactJoinNodes", unfollowed := true, recurses := true, plainKeys := false, leaving := true, apart := false }
def FnExactJoinNodesSaid : Prop := fnExactJoinNodesRow.holds Try.pinned (OpenSpec.ofChange fnExactJoinNodesSpec)

/-- ITS FALSE NEIGHBOUR: 'it returns false'. Refute it at one input. -/
def fnExactJoinNodesWrong : ChangeSpec := { name := "fnExactJoinNodes", fn := fun _ => fun
  | [d1, d2, d3] => { results := [.lit (.bool false)], args := [d1, d2, d3] }
  | _ => none }
def FnExactJoinNodesWrongFalsely : Prop := fnExactJoinNodesRow.holds Try.pinned (OpenSpec.ofChange fnExactJoinNodesWrong)

/-- 'laws.FnExactSwapNodes': WHATEVER THE INPUT: true; the input reads as it did. -/
def fnExactSwapNodesSpec : ChangeSpec := { name := "fnExactSwapNodes", fn := fun _ => fun
  | [d1, d2, d3] => { results := [.lit (.bool true)], args := [d1, d2, d3] }
  | _ => none }
def fnExactSwapNodesRow : OpenClaim := { program := "ytpfnlnllaapjeaa", sum := "e8e96a2ddc7bfd6d92ceded9f1a07a8005ddcdc75524940c2c81c4344eb4c71d", func := "loop.example/g00859/laws.FnExactSwapNodes", spec := "fnExactSwapNodes", unfollowed := true, recurses := true, plainKeys := false, leaving := true, apart := false }
def FnExactSwapNodesSaid : Prop := fnExactSwapNodesRow.holds Try.pinned (OpenSpec.ofChange fnExactSwapNodesSpec)

/-- ITS FALSE NEIGHBOUR: 'it returns false'. Refute it at one input. -/
def fnExactSwapNodesWrong : ChangeSpec := { name := "fnExactSwapNodes", fn := fun _ => fun
  | [d1, d2, d3] => { results := [.lit (.bool false)], args := [d1, d2, d3] }
  | _ => none }
def FnExactSwapNodesWrongFalsely : Prop := fnExactSwapNodesRow.holds Try.pinned (OpenSpec.ofChange fnExactSwapNodesWrong)

/-- 'laws.FnExactStarWeights': WHATEVER THE INPUT: true; the input reads as it did. -/
def fnExactStarWeightsSpec : ChangeSpec := { name := "fnExactStarWeights", fn := fun _ => fun
  | [d] => { results := [.lit (.bool true)], args := [d] }
  | _ => none }
def fnExactStarWeightsRow : OpenClaim := { program := "ytpfnlnllaapjeaa", sum := "e8e96a2ddc7bfd6d92ceded9f1a07a8005ddcdc75524940c2c81c4344eb4c71d", func := "loop.example/g00859/laws.FnExactStarWeights", spec := "fnExactStarWeights", plainKeys := false, apart := false }
def FnExactStarWeightsSaid : Prop := fnExactStarWeightsRow.holds Try.pinned (OpenSpec.ofChange fnExactStarWeightsSpec)

/-- ITS FALSE NEIGHBOUR: 'it returns false'. Refute it at one input. -/
def fnExactStarWeightsWrong : ChangeSpec := { name := "fnExactStarWeights", fn := fun _ => fun
  | [d] => { results := [.lit (.bool false)], args := [d] }
  | _ => none }
def FnExactStarWeightsWrongFalsely : Prop := fnExactStarWeightsRow.holds Try.pinned (OpenSpec.ofChange fnExactStarWeightsWrong)

/-- 'laws.FnExactIsCircular': WHATEVER THE INPUT: true; the input reads as it did. -/
def fnExactIsCircularSpec : ChangeSpec := { name := "fnExactIsCircular", fn := fun _ => fun
  | [d1, d2, d3] => { results := [.lit (.bool true)], args := [d1, d2, d3] }
  | _ => none }
def fnExactIsCircularRow : OpenClaim := { program := "ytpfnlnllaapjeaa", sum := "e8e96a2ddc7bfd6d92ceded9f1a07a8005ddcdc75524940c2c81c4344eb4c71d", func := "loop.example/g00859/laws.FnExactIsCircular", spec := "fnExactIsCircular", unfollowed := true, recurses := true, plainKeys := false, leaving := true, apart := false }
def FnExactIsCircularSaid : Prop := fnExactIsCircularRow.holds Try.pinned (OpenSpec.ofChange fnExactIsCircularSpec)

/-- ITS FALSE NEIGHBOUR: 'it returns false'. Refute it at one input. -/
def fnExactIsCircularWrong : ChangeSpec := { name := "fnExactIsCircular", fn := fun _ => fun
  | [d1, d2, d3] => { results := [.lit (.bool false)], args := [d1, d2, d3] }
  | _ => none }
def FnExactIsCircularWrongFalsely : Prop := fnExactIsCircularRow.holds Try.pinned (OpenSpec.ofChange fnExactIsCircularWrong)

/-- 'laws.FnExactCircularPairs': WHATEVER THE INPUT: true; the input reads as it did. -/
def fnExactCircularPairsSpec : ChangeSpec := { name := "fnExactCircularPairs", fn := fun _ => fun
  | [d] => { results := [.lit (.bool true)], args := [d] }
  | _ => none }
def fnExactCircularPairsRow : OpenClaim := { program := "ytpfnlnllaapjeaa", sum := "e8e96a2ddc7bfd6d92ceded9f1a07a8005ddcdc75524940c2c81c4344eb4c71d", func := "loop.example/g00859/laws.FnExactCircularPairs", spec := "fnExactCircularPairs", unfollowed := true, recurses := true, plainKeys := false, leaving := true, apart := false }
def FnExactCircularPairsSaid : Prop := fnExactCircularPairsRow.holds Try.pinned (OpenSpec.ofChange fnExactCircularPairsSpec)

/-- ITS FALSE NEIGHBOUR: 'it returns false'. Refute it at one input. -/
def fnExactCircularPairsWrong : ChangeSpec := { name := "fnExactCircularPairs", fn := fun _ => fun
  | [d] => { results := [.lit (.bool false)], args := [d] }
  | _ => none }
def FnExactCircularPairsWrongFalsely : Prop := fnExactCircularPairsRow.holds Try.pinned (OpenSpec.ofChange fnExactCircularPairsWrong)

/-- 'laws.FnExactCircularMinor': WHATEVER THE INPUT: true; the input reads as it did. -/
def fnExactCircularMinorSpec : ChangeSpec := { name := "fnExactCircularMinor", fn := fun _ => fun
  | [d1, d2, d3] => { results := [.lit (.bool true)], args := [d1, d2, d3] }
  | _ => none }
def fnExactCircularMinorRow : OpenClaim := { program := "ytpfnlnllaapjeaa", sum := "e8e96a2ddc7bfd6d92ceded9f1a07a8005ddcdc75524940c2c81c4344eb4c71d", func := "loop.example/g00859/laws.FnExactCircularMinor", spec := "fnExactCircularMinor", inPlace := ["(*sync.WaitGroup).Add", "internal/race.ReleaseMerge", "internal/race.Disable", "internal/race.Enable", "internal/synctest.IsInBubble", "internal/synctest.Associate[sync.WaitGroup]", "sync.fatal", "sync/atomic.OrUint64", "sync/atomic.AddUint64", "internal/race.Read", "sync/atomic.LoadUint64", "sync/atomic.StoreUint64", "internal/synctest.Disassociate[sync.WaitGroup]", "sync.runtime_Semrelease", "(*sync.WaitGroup).Done", "(*sync.WaitGroup).Wait", "internal/race.Acquire", "internal/synctest.IsAssociated[sync.WaitGroup]", "sync/atomic.CompareAndSwapUint64", "internal/race.Write", "sync.runtime_SemacquireWaitGroup"], unfollowed := true, recurses := true, plainKeys := false, leaving := true, apart := false }
def FnExactCircularMinorSaid : Prop := fnExactCircularMinorRow.holds Try.pinned (OpenSpec.ofChange fnExactCircularMinorSpec)

/-- ITS FALSE NEIGHBOUR: 'it returns false'. Refute it at one input. -/
def fnExactCircularMinorWrong : ChangeSpec := { name := "fnExactCircularMinor", fn := fun _ => fun
  | [d1, d2, d3] => { results := [.lit (.bool false)], args := [d1, d2, d3] }
  | _ => none }
def FnExactCircularMinorWrongFalsely : Prop := fnExactCircularMinorRow.holds Try.pinned (OpenSpec.ofChange fnExactCircularMinorWrong)

/-- 'laws.FnExactIsWeightMatrix': WHATEVER THE INPUT: true; the input reads as it did. -/
def fnExactIsWeightMatrixSpec : ChangeSpec := { name := "fnExactIsWeightMatrix", fn := fun _ => fun
  | [d] => { results := [.lit (.bool true)], args := [d] }
  | _ => none }
def fnExactIsWeightMatrixRow : OpenClaim := { program := "ytpfnlnllaapjeaa", sum := "e8e96a2ddc7bfd6d92ceded9f1a07a8005ddcdc75524940c2c81c4344eb4c71d", func := "loop.example/g00859/laws.FnExactIsWeightMatrix", spec := "fnExactIsWeightMatrix", plainKeys := false, apart := false }
def FnExactIsWeightMatrixSaid : Prop := fnExactIsWeightMatrixRow.holds Try.pinned (OpenSpec.ofChange fnExactIsWeightMatrixSpec)

/-- ITS FALSE NEIGHBOUR: 'it returns false'. Refute it at one input. -/
def fnExactIsWeightMatrixWrong : ChangeSpec := { name := "fnExactIsWeightMatrix", fn := fun _ => fun
  | [d] => { results := [.lit (.bool false)], args := [d] }
  | _ => none }
def FnExactIsWeightMatrixWrongFalsely : Prop := fnExactIsWeightMatrixRow.holds Try.pinned (OpenSpec.ofChange fnExactIsWeightMatrixWrong)

/-- 'laws.FnExactMinorMatrix': WHATEVER THE INPUT: true; the input reads as it did. -/
def fnExactMinorMatrixSpec : ChangeSpec := { name := "fnExactMinorMatrix", fn := fun _ => fun
  | [d1, d2, d3] => { results := [.lit (.bool true)], args := [d1, d2, d3] }
  | _ => none }
def fnExactMinorMatrixRow : OpenClaim := { program := "ytpfnlnllaapjeaa", sum := "e8e96a2ddc7bfd6d92ceded9f1a07a8005ddcdc75524940c2c81c4344eb4c71d", func := "loop.example/g00859/laws.FnExactMinorMatrix", spec := "fnExactMinorMatrix", unfollowed := true, recurses := true, plainKeys := false, leaving := true, apart := false }
def FnExactMinorMatrixSaid : Prop := fnExactMinorMatrixRow.holds Try.pinned (OpenSpec.ofChange fnExactMinorMatrixSpec)

/-- ITS FALSE NEIGHBOUR: 'it returns false'. Refute it at one input. -/
def fnExactMinorMatrixWrong : ChangeSpec := { name := "fnExactMinorMatrix", fn := fun _ => fun
  | [d1, d2, d3] => { results := [.lit (.bool false)], args := [d1, d2, d3] }
  | _ => none }
def FnExactMinorMatrixWrongFalsely : Prop := fnExactMinorMatrixRow.holds Try.pinned (OpenSpec.ofChange fnExactMinorMatrixWrong)

/-- 'laws.FnExactPlanarReason': WHATEVER THE INPUT: true; the input reads as it did. -/
def fnExactPlanarReasonSpec : ChangeSpec := { name := "fnExactPlanarReason", fn := fun _ => fun
  | [d] => { results := [.lit (.bool true)], args := [d] }
  | _ => none }
def fnExactPlanarReasonRow : OpenClaim := { program := "ytpfnlnllaapjeaa", sum := "e8e96a2ddc7bfd6d92ceded9f1a07a8005ddcdc75524940c2c81c4344eb4c71d", func := "loop.example/g00859/laws.FnExactPlanarReason", spec := "fnExactPlanarReason", unfollowed := true, recurses := true, plainKeys := false, leaving := true, apart := false }
def FnExactPlanarReasonSaid : Prop := fnExactPlanarReasonRow.holds Try.pinned (OpenSpec.ofChange fnExactPlanarReasonSpec)

/-- ITS FALSE NEIGHBOUR: 'it returns false'. Refute it at one input. -/
def fnExactPlanarReasonWrong : ChangeSpec := { name := "fnExactPlanarReason", fn := fun _ => fun
  | [d] => { results := [.lit (.bool false)], args := [d] }
  | _ => none }
def FnExactPlanarReasonWrongFalsely : Prop := fnExactPlanarReasonRow.holds Try.pinned (OpenSpec.ofChange fnExactPlanarReasonWrong)

/-- 'laws.FnExactIsPlanarMatrix': WHATEVER THE INPUT: true; the input reads as it did. -/
def fnExactIsPlanarMatrixSpec : ChangeSpec := { name := "fnExactIsPlanarMatrix", fn := fun _ => fun
  | [d] => { results := [.lit (.bool true)], args := [d] }
  | _ => none }
def fnExactIsPlanarMatrixRow : OpenClaim := { program := "ytpfnlnllaapjeaa", sum := "e8e96a2ddc7bfd6d92ceded9f1a07a8005ddcdc75524940c2c81c4344eb4c71d", func := "loop.example/g00859/laws.FnExactIsPlanarMatrix", spec := "fnExactIsPlanarMatrix", unfollowed := true, recurses := true, plainKeys := false, leaving := true, apart := false }
def FnExactIsPlanarMatrixSaid : Prop := fnExactIsPlanarMatrixRow.holds Try.pinned (OpenSpec.ofChange fnExactIsPlanarMatrixSpec)

/-- ITS FALSE NEIGHBOUR: 'it returns false'. Refute it at one input. -/
def fnExactIsPlanarMatrixWrong : ChangeSpec := { name := "fnExactIsPlanarMatrix", fn := fun _ => fun
  | [d] => { results := [.lit (.bool false)], args := [d] }
  | _ => none }
def FnExactIsPlanarMatrixWrongFalsely : Prop := fnExactIsPlanarMatrixRow.holds Try.pinned (OpenSpec.ofChange fnExactIsPlanarMatrixWrong)

/- THE SECOND FORM. 'bulk': how many values and letters a reading holds, each counted each time it is reached (what is shared counts as often as it is met; a slice's spare places count too). A statement '..UptoSaid' is the law's where the arguments, and the package variables that the reading takes, are together of bulk at most 1048576: NARROWER than '..Said'. Prove '..Said' where nothing that the law and all that it calls make is longer than what came in: it says more and counts as full. Else prove '..UptoSaid'. A law counts once. -/
mutual
def uptoBulk {H : Type} : DataW H → Nat
  | .lit (.string bytes) => bytes.length + 1
  | .lit _ => 1
  | .nil => 1
  | .ptr d => uptoBulk d + 1
  | .slice elems spare => uptoBulkAll elems + uptoBulkAll spare + 1
  | .agg parts => uptoBulkAll parts + 1
  | .iface _ d => uptoBulk d + 1
  | .map entries => uptoBulkEntries entries + 1
  | .held _ => 1
def uptoBulkAll {H : Type} : List (DataW H) → Nat
  | [] => 0
  | d :: r => uptoBulk d + uptoBulkAll r
def uptoBulkEntries {H : Type} : List (Lit × DataW H) → Nat
  | [] => 0
  | x :: r => uptoBulkEntry x + uptoBulkEntries r
def uptoBulkEntry {H : Type} : Lit × DataW H → Nat
  | (.string bytes, d) => bytes.length + uptoBulk d + 1
  | (_, d) => uptoBulk d + 1
 end
def uptoSmall : (H : Type) → List (DataW H) → Bool := fun _ ds => decide (uptoBulkAll ds ≤ 1048576)
def OpenSpec.upto (s : _root_.Go.ChangeSpec) : _root_.Go.OpenSpec := { _root_.Go.OpenSpec.ofChange s with cond := some uptoSmall }

/-- 'laws.FnDisks', WHERE WHAT IT READS IS OF BULK AT MOST 1048576: true; the input reads as it did. -/
def fnDisksUptoRow : OpenClaim := { program := "ytpfnlnllaapjeaa", sum := "e8e96a2ddc7bfd6d92ceded9f1a07a8005ddcdc75524940c2c81c4344eb4c71d", func := "loop.example/g00859/laws.FnDisks", spec := "fnDisks", inPlace := ["(*sync.WaitGroup).Add", "internal/race.ReleaseMerge", "internal/race.Disable", "internal/race.Enable", "internal/synctest.IsInBubble", "internal/synctest.Associate[sync.WaitGroup]", "sync.fatal", "sync/atomic.OrUint64", "sync/atomic.AddUint64", "internal/race.Read", "sync/atomic.LoadUint64", "sync/atomic.StoreUint64", "internal/synctest.Disassociate[sync.WaitGroup]", "sync.runtime_Semrelease", "(*sync.WaitGroup).Done", "(*sync.WaitGroup).Wait", "internal/race.Acquire", "internal/synctest.IsAssociated[sync.WaitGroup]", "sync/atomic.CompareAndSwapUint64", "internal/race.Write", "sync.runtime_SemacquireWaitGroup"], unfollowed := true, recurses := true, plainKeys := false, leaving := true, apart := false, narrowed := true }
def FnDisksUptoSaid : Prop := fnDisksUptoRow.holds Try.pinned (OpenSpec.upto fnDisksSpec)

/-- 'laws.FnExactPutWire', WHERE WHAT IT READS IS OF BULK AT MOST 1048576: true; the input reads as it did. -/
def fnExactPutWireUptoRow : OpenClaim := { program := "ytpfnlnllaapjeaa", sum := "e8e96a2ddc7bfd6d92ceded9f1a07a8005ddcdc75524940c2c81c4344eb4c71d", func := "loop.example/g00859/laws.FnExactPutWire", spec := "fnExactPutWire", unfollowed := true, recurses := true, plainKeys := false, leaving := true, apart := false, narrowed := true }
def FnExactPutWireUptoSaid : Prop := fnExactPutWireUptoRow.holds Try.pinned (OpenSpec.upto fnExactPutWireSpec)

/-- 'laws.FnExactJoinNodes', WHERE WHAT IT READS IS OF BULK AT MOST 1048576: true; the input reads as it did. -/
def fnExactJoinNodesUptoRow : OpenClaim := { program := "ytpfnlnllaapjeaa", sum := "e8e96a2ddc7bfd6d92ceded9f1a07a8005ddcdc75524940c2c81c4344eb4c71d", func := "loop.example/g00859/laws.FnExactJoinNodes", spec := "fnExactJoinNodes", unfollowed := true, recurses := true, plainKeys := false, leaving := true, apart := false, narrowed := true }
def FnExactJoinNodesUptoSaid : Prop := fnExactJoinNodesUptoRow.holds Try.pinned (OpenSpec.upto fnExactJoinNodesSpec)

/-- 'laws.FnExactSwapNodes', WHERE WHAT IT READS IS OF BULK AT MOST 1048576: true; the input reads as it did. -/
def fnExactSwapNodesUptoRow : OpenClaim := { program := "ytpfnlnllaapjeaa", sum := "e8e96a2ddc7bfd6d92ceded9f1a07a8005ddcdc75524940c2c81c4344eb4c71d", func := "loop.example/g00859/laws.FnExactSwapNodes", spec := "fnExactSwapNodes", unfollowed := true, recurses := true, plainKeys := false, leaving := true, apart := false, narrowed := true }
def FnExactSwapNodesUptoSaid : Prop := fnExactSwapNodesUptoRow.holds Try.pinned (OpenSpec.upto fnExactSwapNodesSpec)

/-- 'laws.FnExactStarWeights', WHERE WHAT IT READS IS OF BULK AT MOST 1048576: true; the input reads as it did. -/
def fnExactStarWeightsUptoRow : OpenClaim := { program := "ytpfnlnllaapjeaa", sum := "e8e96a2ddc7bfd6d92ceded9f1a07a8005ddcdc75524940c2c81c4344eb4c71d", func := "loop.example/g00859/laws.FnExactStarWeights", spec := "fnExactStarWeights", plainKeys := false, apart := false, narrowed := true }
def FnExactStarWeightsUptoSaid : Prop := fnExactStarWeightsUptoRow.holds Try.pinned (OpenSpec.upto fnExactStarWeightsSpec)

/-- 'laws.FnExactIsCircular', WHERE WHAT IT READS IS OF BULK AT MOST 1048576: true; the input reads as it did. -/
def fnExactIsCircularUptoRow : OpenClaim := { program := "ytpfnlnllaapjeaa", sum := "e8e96a2ddc7bfd6d92ceded9f1a07a8005ddcdc75524940c2c81c4344eb4c71d", func := "loop.example/g00859/laws.FnExactIsCircular", spec := "fnExactIsCircular", unfollowed := true, recurses := true, plainKeys := false, leaving := true, apart := false, narrowed := true }
def FnExactIsCircularUptoSaid : Prop := fnExactIsCircularUptoRow.holds Try.pinned (OpenSpec.upto fnExactIsCircularSpec)

/-- 'laws.FnExactCircularPairs', WHERE WHAT IT READS IS OF BULK AT MOST 1048576: true; the input reads as it did. -/
def fnExactCircularPairsUptoRow : OpenClaim := { program := "ytpfnlnllaapjeaa", sum := "e8e96a2ddc7bfd6d92ceded9f1a07a8005ddcdc75524940c2c81c4344eb4c71d", func := "loop.example/g00859/laws.FnExactCircularPairs", spec := "fnExactCircularPairs", unfollowed := true, recurses := true, plainKeys := false, leaving := true, apart := false, narrowed := true }
def FnExactCircularPairsUptoSaid : Prop := fnExactCircularPairsUptoRow.holds Try.pinned (OpenSpec.upto fnExactCircularPairsSpec)

/-- 'laws.FnExactCircularMinor', WHERE WHAT IT READS IS OF BULK AT MOST 1048576: true; the input reads as it did. -/
def fnExactCircularMinorUptoRow : OpenClaim := { program := "ytpfnlnllaapjeaa", sum := "e8e96a2ddc7bfd6d92ceded9f1a07a8005ddcdc75524940c2c81c4344eb4c71d", func := "loop.example/g00859/laws.FnExactCircularMinor", spec := "fnExactCircularMinor", inPlace := ["(*sync.WaitGroup).Add", "internal/race.ReleaseMerge", "internal/race.Disable", "internal/race.Enable", "internal/synctest.IsInBubble", "internal/synctest.Associate[sync.WaitGroup]", "sync.fatal", "sync/atomic.OrUint64", "sync/atomic.AddUint64", "internal/race.Read", "sync/atomic.LoadUint64", "sync/atomic.StoreUint64", "internal/synctest.Disassociate[sync.WaitGroup]", "sync.runtime_Semrelease", "(*sync.WaitGroup).Done", "(*sync.WaitGroup).Wait", "internal/race.Acquire", "internal/synctest.IsAssociated[sync.WaitGroup]", "sync/atomic.CompareAndSwapUint64", "internal/race.Write", "sync.runtime_SemacquireWaitGroup"], unfollowed := true, recurses := true, plainKeys := false, leaving := true, apart := false, narrowed := true }
def FnExactCircularMinorUptoSaid : Prop := fnExactCircularMinorUptoRow.holds Try.pinned (OpenSpec.upto fnExactCircularMinorSpec)

/-- 'laws.FnExactIsWeightMatrix', WHERE WHAT IT READS IS OF BULK AT MOST 1048576: true; the input reads as it did. -/
def fnExactIsWeightMatrixUptoRow : OpenClaim := { program := "ytpfnlnllaapjeaa", sum := "e8e96a2ddc7bfd6d92ceded9f1a07a8005ddcdc75524940c2c81c4344eb4c71d", func := "loop.example/g00859/laws.FnExactIsWeightMatrix", spec := "fnExactIsWeightMatrix", plainKeys := false, apart := false, narrowed := true }
def FnExactIsWeightMatrixUptoSaid : Prop := fnExactIsWeightMatrixUptoRow.holds Try.pinned (OpenSpec.upto fnExactIsWeightMatrixSpec)

/-- 'laws.FnExactMinorMatrix', WHERE WHAT IT READS IS OF BULK AT MOST 1048576: true; the input reads as it did. -/
def fnExactMinorMatrixUptoRow : OpenClaim := { program := "ytpfnlnllaapjeaa", sum := "e8e96a2ddc7bfd6d92ceded9f1a07a8005ddcdc75524940c2c81c4344eb4c71d", func := "loop.example/g00859/laws.FnExactMinorMatrix", spec := "fnExactMinorMatrix", unfollowed := true, recurses := true, plainKeys := false, leaving := true, apart := false, narrowed := true }
def FnExactMinorMatrixUptoSaid : Prop := fnExactMinorMatrixUptoRow.holds Try.pinned (OpenSpec.upto fnExactMinorMatrixSpec)

/-- 'laws.FnExactPlanarReason', WHERE WHAT IT READS IS OF BULK AT MOST 1048576: true; the input reads as it did. -/
def fnExactPlanarReasonUptoRow : OpenClaim := { program := "ytpfnlnllaapjeaa", sum := "e8e96a2ddc7bfd6d92ceded9f1a07a8005ddcdc75524940c2c81c4344eb4c71d", func := "loop.example/g00859/laws.FnExactPlanarReason", spec := "fnExactPlanarReason", unfollowed := true, recurses := true, plainKeys := false, leaving := true, apart := false, narrowed := true }
def FnExactPlanarReasonUptoSaid : Prop := fnExactPlanarReasonUptoRow.holds Try.pinned (OpenSpec.upto fnExactPlanarReasonSpec)

/-- 'laws.FnExactIsPlanarMatrix', WHERE WHAT IT READS IS OF BULK AT MOST 1048576: true; the input reads as it did. -/
def fnExactIsPlanarMatrixUptoRow : OpenClaim := { program := "ytpfnlnllaapjeaa", sum := "e8e96a2ddc7bfd6d92ceded9f1a07a8005ddcdc75524940c2c81c4344eb4c71d", func := "loop.example/g00859/laws.FnExactIsPlanarMatrix", spec := "fnExactIsPlanarMatrix", unfollowed := true, recurses := true, plainKeys := false, leaving := true, apart := false, narrowed := true }
def FnExactIsPlanarMatrixUptoSaid : Prop := fnExactIsPlanarMatrixUptoRow.holds Try.pinned (OpenSpec.upto fnExactIsPlanarMatrixSpec)

end Rows
end Go.Proofs.Ytpfnlnllaapjeaa
