/-
  No cell of these rows narrows 'for every input' (looked for: loops, veiled, ifaces, maps, wideKeys, modest, calm, conditions, laid).
  DERIVED. THE GIVEN ROWS OF THIS SEAT. 6 by the template 'for every input the law returns true; each argument reads behind the call as it read before'; 0 by the template 'total and deterministic' (their statements: YthhnicbkldknlaaTotals.lean).
  GIVEN WITH THE SEED: the statements are not yours to turn. If you find one false, say at which input.
  Laid BY PROGRAM, IN A SANDBOX (cutbox-rows.mjs): the forced cells as the released guide's own fill.sh prints them over the translation 2e2b5de2937c335d… (all of the seat's roots in one cut). By AI agents, Wed Nov 11 2026. No macro, syntax, notation, axiom, sorry.
-/
import Derived.Test.YthhnicbkldknlaaChecked
import GoSem.Claim
import GoSem.ClaimJoined
import GoSem.ClaimMapViews
import Derived.JoinedTies
import Derived.KernelRfl
namespace Go.Proofs.Ythhnicbkldknlaa
/- THE CELL 'sum', in the pinned program and in every row, IS THE sha256 OF THE DUMP (.gsa) THAT YthhnicbkldknlaaProg.lean LOADS. Nothing in Lean hashes anything: it is a label: what it is worth is what the hold of that sum in a sandbox is worth. -/
noncomputable def Try.pinned : Pinned := { name := "ythhnicbkldknlaa", sum := "2e2b5de2937c335df0311cbb9d8267acb62a30ddd9c580e63028e9608793a0d0", checked := Try.checked }
namespace Rows
def none {H : Type} : Left H := { results := [], args := [] }

/-- 'laws.FnRecovered': WHATEVER THE INPUT: true; the input reads as it did. -/
def fnRecoveredSpec : ChangeSpec := { name := "fnRecovered", fn := fun _ => fun
  | [d] => { results := [.lit (.bool true)], args := [d] }
  | _ => none }
def fnRecoveredRow : OpenClaim := { program := "ythhnicbkldknlaa", sum := "2e2b5de2937c335df0311cbb9d8267acb62a30ddd9c580e63028e9608793a0d0", func := "loop.example/g00859/laws.FnRecovered", spec := "fnRecovered", inPlace := ["(*sync.WaitGroup).Add", "internal/race.ReleaseMerge", "internal/race.Disable", "internal/race.Enable", "internal/synctest.IsInBubble", "internal/synctest.Associate[sync.WaitGroup]", "sync.fatal", "sync/atomic.OrUint64", "sync/atomic.AddUint64", "internal/race.Read", "sync/atomic.LoadUint64", "sync/atomic.StoreUint64", "internal/synctest.Disassociate[sync.WaitGroup]", "sync.runtime_Semrelease", "(*sync.WaitGroup).Done", "(*sync.WaitGroup).Wait", "internal/race.Acquire", "internal/synctest.IsAssociated[sync.WaitGroup]", "sync/atomic.CompareAndSwapUint64", "internal/race.Write", "sync.runtime_SemacquireWaitGroup"], unfollowed := true, recurses := true, plainKeys := false, leaving := true, apart := false }
def FnRecoveredSaid : Prop := fnRecoveredRow.holds Try.pinned (OpenSpec.ofChange fnRecoveredSpec)

/-- ITS FALSE NEIGHBOUR: 'it returns false'. Refute it at one input. -/
def fnRecoveredWrong : ChangeSpec := { name := "fnRecovered", fn := fun _ => fun
  | [d] => { results := [.lit (.bool false)], args := [d] }
  | _ => none }
def FnRecoveredWrongFalsely : Prop := fnRecoveredRow.holds Try.pinned (OpenSpec.ofChange fnRecoveredWrong)

/-- 'laws.FnExactStarMesh': WHATEVER THE INPUT: true; the input reads as it did. -/
def fnExactStarMeshSpec : ChangeSpec := { name := "fnExactStarMesh", fn := fun _ => fun
  | [d1, d2] => { results := [.lit (.bool true)], args := [d1, d2] }
  | _ => none }
def fnExactStarMeshRow : OpenClaim := { program := "ythhnicbkldknlaa", sum := "2e2b5de2937c335df0311cbb9d8267acb62a30ddd9c580e63028e9608793a0d0", func := "loop.example/g00859/laws.FnExactStarMesh", spec := "fnExactStarMesh", unfollowed := true, recurses := true, plainKeys := false, leaving := true, apart := false }
def FnExactStarMeshSaid : Prop := fnExactStarMeshRow.holds Try.pinned (OpenSpec.ofChange fnExactStarMeshSpec)

/-- ITS FALSE NEIGHBOUR: 'it returns false'. Refute it at one input. -/
def fnExactStarMeshWrong : ChangeSpec := { name := "fnExactStarMesh", fn := fun _ => fun
  | [d1, d2] => { results := [.lit (.bool false)], args := [d1, d2] }
  | _ => none }
def FnExactStarMeshWrongFalsely : Prop := fnExactStarMeshRow.holds Try.pinned (OpenSpec.ofChange fnExactStarMeshWrong)

/-- 'laws.FnExactMeshAll': WHATEVER THE INPUT: true; the input reads as it did. -/
def fnExactMeshAllSpec : ChangeSpec := { name := "fnExactMeshAll", fn := fun _ => fun
  | [d] => { results := [.lit (.bool true)], args := [d] }
  | _ => none }
def fnExactMeshAllRow : OpenClaim := { program := "ythhnicbkldknlaa", sum := "2e2b5de2937c335df0311cbb9d8267acb62a30ddd9c580e63028e9608793a0d0", func := "loop.example/g00859/laws.FnExactMeshAll", spec := "fnExactMeshAll", unfollowed := true, recurses := true, plainKeys := false, leaving := true, apart := false }
def FnExactMeshAllSaid : Prop := fnExactMeshAllRow.holds Try.pinned (OpenSpec.ofChange fnExactMeshAllSpec)

/-- ITS FALSE NEIGHBOUR: 'it returns false'. Refute it at one input. -/
def fnExactMeshAllWrong : ChangeSpec := { name := "fnExactMeshAll", fn := fun _ => fun
  | [d] => { results := [.lit (.bool false)], args := [d] }
  | _ => none }
def FnExactMeshAllWrongFalsely : Prop := fnExactMeshAllRow.holds Try.pinned (OpenSpec.ofChange fnExactMeshAllWrong)

/-- 'laws.FnExactTriangleStar': WHATEVER THE INPUT: true; the input reads as it did. -/
def fnExactTriangleStarSpec : ChangeSpec := { name := "fnExactTriangleStar", fn := fun _ => fun
  | [d1, d2, d3, d4] => { results := [.lit (.bool true)], args := [d1, d2, d3, d4] }
  | _ => none }
def fnExactTriangleStarRow : OpenClaim := { program := "ythhnicbkldknlaa", sum := "2e2b5de2937c335df0311cbb9d8267acb62a30ddd9c580e63028e9608793a0d0", func := "loop.example/g00859/laws.FnExactTriangleStar", spec := "fnExactTriangleStar", unfollowed := true, recurses := true, plainKeys := false, leaving := true, apart := false }
def FnExactTriangleStarSaid : Prop := fnExactTriangleStarRow.holds Try.pinned (OpenSpec.ofChange fnExactTriangleStarSpec)

/-- ITS FALSE NEIGHBOUR: 'it returns false'. Refute it at one input. -/
def fnExactTriangleStarWrong : ChangeSpec := { name := "fnExactTriangleStar", fn := fun _ => fun
  | [d1, d2, d3, d4] => { results := [.lit (.bool false)], args := [d1, d2, d3, d4] }
  | _ => none }
def FnExactTriangleStarWrongFalsely : Prop := fnExactTriangleStarRow.holds Try.pinned (OpenSpec.ofChange fnExactTriangleStarWrong)

/-- 'laws.FnExactIsStarMatrix': WHATEVER THE INPUT: true; the input reads as it did. -/
def fnExactIsStarMatrixSpec : ChangeSpec := { name := "fnExactIsStarMatrix", fn := fun _ => fun
  | [d] => { results := [.lit (.bool true)], args := [d] }
  | _ => none }
def fnExactIsStarMatrixRow : OpenClaim := { program := "ythhnicbkldknlaa", sum := "2e2b5de2937c335df0311cbb9d8267acb62a30ddd9c580e63028e9608793a0d0", func := "loop.example/g00859/laws.FnExactIsStarMatrix", spec := "fnExactIsStarMatrix", plainKeys := false, apart := false }
def FnExactIsStarMatrixSaid : Prop := fnExactIsStarMatrixRow.holds Try.pinned (OpenSpec.ofChange fnExactIsStarMatrixSpec)

/-- ITS FALSE NEIGHBOUR: 'it returns false'. Refute it at one input. -/
def fnExactIsStarMatrixWrong : ChangeSpec := { name := "fnExactIsStarMatrix", fn := fun _ => fun
  | [d] => { results := [.lit (.bool false)], args := [d] }
  | _ => none }
def FnExactIsStarMatrixWrongFalsely : Prop := fnExactIsStarMatrixRow.holds Try.pinned (OpenSpec.ofChange fnExactIsStarMatrixWrong)

/-- 'laws.FnExactStarWeights': WHATEVER THE INPUT: true; the input reads as it did. -/
def fnExactStarWeightsSpec : ChangeSpec := { name := "fnExactStarWeights", fn := fun _ => fun
  | [d] => { results := [.lit (.bool true)], args := [d] }
  | _ => none }
def fnExactStarWeightsRow : OpenClaim := { program := "ythhnicbkldknlaa", sum := "2e2b5de2937c335df0311cbb9d8267acb62a30ddd9c580e63028e9608793a0d0", func := "loop.example/g00859/laws.FnExactStarWeights", spec := "fnExactStarWeights", plainKeys := false, apart := false }
def FnExactStarWeightsSaid : Prop := fnExactStarWeightsRow.holds Try.pinned (OpenSpec.ofChange fnExactStarWeightsSpec)

/-- ITS FALSE NEIGHBOUR: 'it returns false'. Refute it at one input. -/
def fnExactStarWeightsWrong : ChangeSpec := { name := "fnExactStarWeights", fn := fun _ => fun
  | [d] => { results := [.lit (.bool false)], args := [d] }
  | _ => none }
def FnExactStarWeightsWrongFalsely : Prop := fnExactStarWeightsRow.holds Try.pinned (OpenSpec.ofChange fnExactStarWeightsWrong)

/- THE SECOND FORM. 'bulk': how many values and letters a reading holds, each counted each time it is reached (what is shared counts as often as it is met; a slice's spare places count too). A statement '..UptoSaid' is the law's where the arguments, and the package variables that the reading takes, are together of bulk at most 1048576: NARROWER than '..Said'. Prove '..Said' where nothing that the law and all that it calls make is longer than what came in: it says more and counts as full. Else prove '..UptoSaid'. A law counts once. -/
mutual
def uptoBulk {H : Type} : DataW H → Nat
  | .lit (.string bytes) => bytes.length + 1
  | .lit _ => 1
  | .nil => 1
  | .ptr d => uptoBulk d + 1
  | .slice elems spare => uptoBulkAll elems + uptoBulkAll spare + 1
  | .agg parts => uptoBulkAll parts + 1
  | .iface _ d => uptoBulk d + 1
  | .map entries => uptoBulkEntries entries + 1
  | .held _ => 1
def uptoBulkAll {H : Type} : List (DataW H) → Nat
  | [] => 0
  | d :: r => uptoBulk d + uptoBulkAll r
def uptoBulkEntries {H : Type} : List (Lit × DataW H) → Nat
  | [] => 0
  | x :: r => uptoBulkEntry x + uptoBulkEntries r
def uptoBulkEntry {H : Type} : Lit × DataW H → Nat
  | (.string bytes, d) => bytes.length + uptoBulk d + 1
  | (_, d) => uptoBulk d + 1
 end
def uptoSmall : (H : Type) → List (DataW H) → Bool := fun _ ds => decide (uptoBulkAll ds ≤ 1048576)
def OpenSpec.upto (s : _root_.Go.ChangeSpec) : _root_.Go.OpenSpec := { _root_.Go.OpenSpec.ofChange s with cond := some uptoSmall }

/-- 'laws.FnRecovered', WHERE WHAT IT READS IS OF BULK AT MOST 1048576: true; the input reads as it did. -/
def fnRecoveredUptoRow : OpenClaim := { program := "ythhnicbkldknlaa", sum := "2e2b5de2937c335df0311cbb9d8267acb62a30ddd9c580e63028e9608793a0d0", func := "loop.example/g00859/laws.FnRecovered", spec := "fnRecovered", inPlace := ["(*sync.WaitGroup).Add", "internal/race.ReleaseMerge", "internal/race.Disable", "internal/race.Enable", "internal/synctest.IsInBubble", "internal/synctest.Associate[sync.WaitGroup]", "sync.fatal", "sync/atomic.OrUint64", "sync/atomic.AddUint64", "internal/race.Read", "sync/atomic.LoadUint64", "sync/atomic.StoreUint64", "internal/synctest.Disassociate[sync.WaitGroup]", "sync.runtime_Semrelease", "(*sync.WaitGroup).Done", "(*sync.WaitGroup).Wait", "internal/race.Acquire", "internal/synctest.IsAssociated[sync.WaitGroup]", "sync/atomic.CompareAndSwapUint64", "internal/race.Write", "sync.runtime_SemacquireWaitGroup"], unfollowed := true, recurses := true, plainKeys := false, leaving := true, apart := false, narrowed := true }
def FnRecoveredUptoSaid : Prop := fnRecoveredUptoRow.holds Try.pinned (OpenSpec.upto fnRecoveredSpec)

/-- 'laws.FnExactStarMesh', WHERE WHAT IT READS IS OF BULK AT MOST 1048576: true; the input reads as it did. -/
def fnExactStarMeshUptoRow : OpenClaim := { program := "ythhnicbkldknlaa", sum := "2e2b5de2937c335df0311cbb9d8267acb62a30ddd9c580e63028e9608793a0d0", func := "loop.example/g00859/laws.FnExactStarMesh", spec := "fnExactStarMesh", unfollowed := true, recurses := true, plainKeys := false, leaving := true, apart := false, narrowed := true }
def FnExactStarMeshUptoSaid : Prop := fnExactStarMeshUptoRow.holds Try.pinned (OpenSpec.upto fnExactStarMeshSpec)

/-- 'laws.FnExactMeshAll', WHERE WHAT IT READS IS OF BULK AT MOST 1048576: true; the input reads as it did. -/
def fnExactMeshAllUptoRow : OpenClaim := { program := "ythhnicbkldknlaa", sum := "2e2b5de2937c335df0311cbb9d8267acb62a30ddd9c580e63028e9608793a0d0", func := "loop.example/g00859/laws.FnExactMeshAll", spec := "fnExactMeshAll", unfollowed := true, recurses := true, plainKeys := false, leaving := true, apart := false, narrowed := true }
def FnExactMeshAllUptoSaid : Prop := fnExactMeshAllUptoRow.holds Try.pinned (OpenSpec.upto fnExactMeshAllSpec)

/-- 'laws.FnExactTriangleStar', WHERE WHAT IT READS IS OF BULK AT MOST 1048576: true; the input reads as it did. -/
def fnExactTriangleStarUptoRow : OpenClaim := { program := "ythhnicbkldknlaa", sum := "2e2b5de2937c335df0311cbb9d8267acb62a30ddd9c580e63028e9608793a0d0", func := "loop.example/g00859/laws.FnExactTriangleStar", spec := "fnExactTriangleStar", unfollowed := true, recurses := true, plainKeys := false, leaving := true, apart := false, narrowed := true }
def FnExactTriangleStarUptoSaid : Prop := fnExactTriangleStarUptoRow.holds Try.pinned (OpenSpec.upto fnExactTriangleStarSpec)

/-- 'laws.FnExactIsStarMatrix', WHERE WHAT IT READS IS OF BULK AT MOST 1048576: true; the input reads as it did. -/
def fnExactIsStarMatrixUptoRow : OpenClaim := { program := "ythhnicbkldknlaa", sum := "2e2b5de2937c335df0311cbb9d8267acb62a30ddd9c580e63028e9608793a0d0", func := "loop.example/g00859/laws.FnExactIsStarMatrix", spec := "fnExactIsStarMatrix", plainKeys := false, apart := false, narrowed := true }
def FnExactIsStarMatrixUptoSaid : Prop := fnExactIsStarMatrixUptoRow.holds Try.pinned (OpenSpec.upto fnExactIsStarMatrixSpec)

/-- 'laws.FnExactStarWeights', WHERE WHAT IT READS IS OF BULK AT MOST 1048576: true; the input reads as it did. -/
def fnExactStarWeightsUptoRow : OpenClaim := { program := "ythhnicbkldknlaa", sum := "2e2b5de2937c335df0311cbb9d8267acb62a30ddd9c580e63028e9608793a0d0", func := "loop.example/g00859/laws.FnExactStarWeights", spec := "fnExactStarWeights", plainKeys := false, apart := false, narrowed := true }
def FnExactStarWeightsUptoSaid : Prop := fnExactStarWeightsUptoRow.holds Try.pinned (OpenSpec.upto fnExactStarWeightsSpec)

end Rows
end Go.Proofs.Ythhnicbkldknlaa
