/-
  No cell of these rows narrows 'for every input' (looked for: loops, veiled, ifaces, maps, wideKeys, modest, calm, conditions, laid).
  DERIVED. THE GIVEN ROWS OF THIS SEAT. 11 by the template 'for every input the law returns true; each argument reads behind the call as it read before'; 0 by the template 'total and deterministic' (their statements: YtfpalnmblmjgjaaTotals.lean).
  GIVEN WITH THE SEED: the statements are not yours to turn. If you find one false, say at which input.
  Laid BY PROGRAM, IN A SANDBOX (cutbox-rows.mjs): the forced cells as the released guide's own fill.sh prints them over the translation 7695b3f2fa42a821… (all of the seat's roots in one cut). By AI agents, Wed Nov 11 2026. No macro, syntax, notation, axiom, sorry.
-/
import Derived.Test.YtfpalnmblmjgjaaChecked
import GoSem.Claim
import GoSem.ClaimJoined
import GoSem.ClaimMapViews
import Derived.JoinedTies
import Derived.KernelRfl
namespace Go.Proofs.Ytfpalnmblmjgjaa
/- THE CELL 'sum', in the pinned program and in every row, IS THE sha256 OF THE DUMP (.gsa) THAT YtfpalnmblmjgjaaProg.lean LOADS. Nothing in Lean hashes anything: it is a label: what it is worth is what the hold of that sum in a sandbox is worth. -/
noncomputable def Try.pinned : Pinned := { name := "ytfpalnmblmjgjaa", sum := "7695b3f2fa42a821016381644a2ad72602b98dfb82146fe6fbe1f68b2bdad123", checked := Try.checked }
namespace Rows
def none {H : Type} : Left H := { results := [], args := [] }

/-- 'laws.FnExactPutWire': WHATEVER THE INPUT: true; the input reads as it did. -/
def fnExactPutWireSpec : ChangeSpec := { name := "fnExactPutWire", fn := fun _ => fun
  | [d1, d2, d3, d4] => { results := [.lit (.bool true)], args := [d1, d2, d3, d4] }
  | _ => none }
def fnExactPutWireRow : OpenClaim := { program := "ytfpalnmblmjgjaa", sum := "7695b3f2fa42a821016381644a2ad72602b98dfb82146fe6fbe1f68b2bdad123", func := "loop.example/g00859/laws.FnExactPutWire", spec := "fnExactPutWire", unfollowed := true, recurses := true, plainKeys := false, leaving := true, apart := false }
def FnExactPutWireSaid : Prop := fnExactPutWireRow.holds Try.pinned (OpenSpec.ofChange fnExactPutWireSpec)

/-- ITS FALSE NEIGHBOUR: 'it returns false'. Refute it at one input. -/
def fnExactPutWireWrong : ChangeSpec := { name := "fnExactPutWire", fn := fun _ => fun
  | [d1, d2, d3, d4] => { results := [.lit (.bool false)], args := [d1, d2, d3, d4] }
  | _ => none }
def FnExactPutWireWrongFalsely : Prop := fnExactPutWireRow.holds Try.pinned (OpenSpec.ofChange fnExactPutWireWrong)

/-- 'laws.FnExactJoinNodes': WHATEVER THE INPUT: true; the input reads as it did. -/
def fnExactJoinNodesSpec : ChangeSpec := { name := "fnExactJoinNodes", fn := fun _ => fun
  | [d1, d2, d3] => { results := [.lit (.bool true)], args := [d1, d2, d3] }
  | _ => none }
def fnExactJoinNodesRow : OpenClaim := { program := "ytfpalnmblmjgjaa", sum := "7695b3f2fa42a821016381644a2ad72602b98dfb82146fe6fbe1f68b2bdad123", func := "loop.example/g00859/laws.FnExactJoinNodes", spec := "fnExactJoinNodes", unfollowed := true, recurses := true, plainKeys := false, leaving := true, apart := false }
def FnExactJoinNodesSaid : Prop := fnExactJoinNodesRow.holds Try.pinned (OpenSpec.ofChange fnExactJoinNodesSpec)

/-- ITS FALSE NEIGHBOUR: 'it returns false'. Refute it at one input. -/
def fnExactJoinNodesWrong : ChangeSpec := { name := "fnExactJoinNodes", fn := fun _ => fun
  | [d1, d2, d3] => { results := [.lit (.bool false)], args := [d1, d2, d3] }
  | _ => none }
def FnExactJoinNodesWrongFalsely : Prop := fnExactJoinNodesRow.holds Try.pinned (OpenSpec.ofChange fnExactJoinNodesWrong)

/-- 'laws.FnExactSwapNodes': WHATEVER THE INPUT: true; the input reads as it did. -/
def fnExactSwapNodesSpec : ChangeSpec := { name := "fnExactSwapNodes", fn := fun _ => fun
  | [d1, d2, d3] => { results := [.lit (.bool true)], args := [d1, d2, d3] }
  | _ => none }
def fnExactSwapNodesRow : OpenClaim := { program := "ytfpalnmblmjgjaa", sum := "7695b3f2fa42a821016381644a2ad72602b98dfb82146fe6fbe1f68b2bdad123", func := "loop.example/g00859/laws.FnExactSwapNodes", spec := "fnExactSwapNodes", unfollowed := true, recurses := true, plainKeys := false, leaving := true, apart := false }
def FnExactSwapNodesSaid : Prop := fnExactSwapNodesRow.holds Try.pinned (OpenSpec.ofChange fnExactSwapNodesSpec)

/-- ITS FALSE NEIGHBOUR: 'it returns false'. Refute it at one input. -/
def fnExactSwapNodesWrong : ChangeSpec := { name := "fnExactSwapNodes", fn := fun _ => fun
  | [d1, d2, d3] => { results := [.lit (.bool false)], args := [d1, d2, d3] }
  | _ => none }
def FnExactSwapNodesWrongFalsely : Prop := fnExactSwapNodesRow.holds Try.pinned (OpenSpec.ofChange fnExactSwapNodesWrong)

/-- 'laws.FnExactResponseOf': WHATEVER THE INPUT: true; the input reads as it did. -/
def fnExactResponseOfSpec : ChangeSpec := { name := "fnExactResponseOf", fn := fun _ => fun
  | [d] => { results := [.lit (.bool true)], args := [d] }
  | _ => none }
def fnExactResponseOfRow : OpenClaim := { program := "ytfpalnmblmjgjaa", sum := "7695b3f2fa42a821016381644a2ad72602b98dfb82146fe6fbe1f68b2bdad123", func := "loop.example/g00859/laws.FnExactResponseOf", spec := "fnExactResponseOf", inPlace := ["(*sync.WaitGroup).Add", "internal/race.ReleaseMerge", "internal/race.Disable", "internal/race.Enable", "internal/synctest.IsInBubble", "internal/synctest.Associate[sync.WaitGroup]", "sync.fatal", "sync/atomic.OrUint64", "sync/atomic.AddUint64", "internal/race.Read", "sync/atomic.LoadUint64", "sync/atomic.StoreUint64", "internal/synctest.Disassociate[sync.WaitGroup]", "sync.runtime_Semrelease", "(*sync.WaitGroup).Done", "(*sync.WaitGroup).Wait", "internal/race.Acquire", "internal/synctest.IsAssociated[sync.WaitGroup]", "sync/atomic.CompareAndSwapUint64", "internal/race.Write", "sync.runtime_SemacquireWaitGroup"], unfollowed := true, recurses := true, plainKeys := false, leaving := true, apart := false }
def FnExactResponseOfSaid : Prop := fnExactResponseOfRow.holds Try.pinned (OpenSpec.ofChange fnExactResponseOfSpec)

/-- ITS FALSE NEIGHBOUR: 'it returns false'. Refute it at one input. -/
def fnExactResponseOfWrong : ChangeSpec := { name := "fnExactResponseOf", fn := fun _ => fun
  | [d] => { results := [.lit (.bool false)], args := [d] }
  | _ => none }
def FnExactResponseOfWrongFalsely : Prop := fnExactResponseOfRow.holds Try.pinned (OpenSpec.ofChange fnExactResponseOfWrong)

/-- 'laws.FnExactCurrentsFor': WHATEVER THE INPUT: true; the input reads as it did. -/
def fnExactCurrentsForSpec : ChangeSpec := { name := "fnExactCurrentsFor", fn := fun _ => fun
  | [d1, d2] => { results := [.lit (.bool true)], args := [d1, d2] }
  | _ => none }
def fnExactCurrentsForRow : OpenClaim := { program := "ytfpalnmblmjgjaa", sum := "7695b3f2fa42a821016381644a2ad72602b98dfb82146fe6fbe1f68b2bdad123", func := "loop.example/g00859/laws.FnExactCurrentsFor", spec := "fnExactCurrentsFor", inPlace := ["(*sync.WaitGroup).Add", "internal/race.ReleaseMerge", "internal/race.Disable", "internal/race.Enable", "internal/synctest.IsInBubble", "internal/synctest.Associate[sync.WaitGroup]", "sync.fatal", "sync/atomic.OrUint64", "sync/atomic.AddUint64", "internal/race.Read", "sync/atomic.LoadUint64", "sync/atomic.StoreUint64", "internal/synctest.Disassociate[sync.WaitGroup]", "sync.runtime_Semrelease", "(*sync.WaitGroup).Done", "(*sync.WaitGroup).Wait", "internal/race.Acquire", "internal/synctest.IsAssociated[sync.WaitGroup]", "sync/atomic.CompareAndSwapUint64", "internal/race.Write", "sync.runtime_SemacquireWaitGroup"], unfollowed := true, recurses := true, plainKeys := false, leaving := true, apart := false }
def FnExactCurrentsForSaid : Prop := fnExactCurrentsForRow.holds Try.pinned (OpenSpec.ofChange fnExactCurrentsForSpec)

/-- ITS FALSE NEIGHBOUR: 'it returns false'. Refute it at one input. -/
def fnExactCurrentsForWrong : ChangeSpec := { name := "fnExactCurrentsFor", fn := fun _ => fun
  | [d1, d2] => { results := [.lit (.bool false)], args := [d1, d2] }
  | _ => none }
def FnExactCurrentsForWrongFalsely : Prop := fnExactCurrentsForRow.holds Try.pinned (OpenSpec.ofChange fnExactCurrentsForWrong)

/-- 'laws.FnExactWiresAt': WHATEVER THE INPUT: true; the input reads as it did. -/
def fnExactWiresAtSpec : ChangeSpec := { name := "fnExactWiresAt", fn := fun _ => fun
  | [d1, d2] => { results := [.lit (.bool true)], args := [d1, d2] }
  | _ => none }
def fnExactWiresAtRow : OpenClaim := { program := "ytfpalnmblmjgjaa", sum := "7695b3f2fa42a821016381644a2ad72602b98dfb82146fe6fbe1f68b2bdad123", func := "loop.example/g00859/laws.FnExactWiresAt", spec := "fnExactWiresAt", plainKeys := false, apart := false }
def FnExactWiresAtSaid : Prop := fnExactWiresAtRow.holds Try.pinned (OpenSpec.ofChange fnExactWiresAtSpec)

/-- ITS FALSE NEIGHBOUR: 'it returns false'. Refute it at one input. -/
def fnExactWiresAtWrong : ChangeSpec := { name := "fnExactWiresAt", fn := fun _ => fun
  | [d1, d2] => { results := [.lit (.bool false)], args := [d1, d2] }
  | _ => none }
def FnExactWiresAtWrongFalsely : Prop := fnExactWiresAtRow.holds Try.pinned (OpenSpec.ofChange fnExactWiresAtWrong)

/-- 'laws.FnExactLeafOf': WHATEVER THE INPUT: true; the input reads as it did. -/
def fnExactLeafOfSpec : ChangeSpec := { name := "fnExactLeafOf", fn := fun _ => fun
  | [d] => { results := [.lit (.bool true)], args := [d] }
  | _ => none }
def fnExactLeafOfRow : OpenClaim := { program := "ytfpalnmblmjgjaa", sum := "7695b3f2fa42a821016381644a2ad72602b98dfb82146fe6fbe1f68b2bdad123", func := "loop.example/g00859/laws.FnExactLeafOf", spec := "fnExactLeafOf", unfollowed := true, recurses := true, plainKeys := false, leaving := true, apart := false }
def FnExactLeafOfSaid : Prop := fnExactLeafOfRow.holds Try.pinned (OpenSpec.ofChange fnExactLeafOfSpec)

/-- ITS FALSE NEIGHBOUR: 'it returns false'. Refute it at one input. -/
def fnExactLeafOfWrong : ChangeSpec := { name := "fnExactLeafOf", fn := fun _ => fun
  | [d] => { results := [.lit (.bool false)], args := [d] }
  | _ => none }
def FnExactLeafOfWrongFalsely : Prop := fnExactLeafOfRow.holds Try.pinned (OpenSpec.ofChange fnExactLeafOfWrong)

/-- 'laws.FnExactSeriesOf': WHATEVER THE INPUT: true; the input reads as it did. -/
def fnExactSeriesOfSpec : ChangeSpec := { name := "fnExactSeriesOf", fn := fun _ => fun
  | [d] => { results := [.lit (.bool true)], args := [d] }
  | _ => none }
def fnExactSeriesOfRow : OpenClaim := { program := "ytfpalnmblmjgjaa", sum := "7695b3f2fa42a821016381644a2ad72602b98dfb82146fe6fbe1f68b2bdad123", func := "loop.example/g00859/laws.FnExactSeriesOf", spec := "fnExactSeriesOf", unfollowed := true, recurses := true, plainKeys := false, leaving := true, apart := false }
def FnExactSeriesOfSaid : Prop := fnExactSeriesOfRow.holds Try.pinned (OpenSpec.ofChange fnExactSeriesOfSpec)

/-- ITS FALSE NEIGHBOUR: 'it returns false'. Refute it at one input. -/
def fnExactSeriesOfWrong : ChangeSpec := { name := "fnExactSeriesOf", fn := fun _ => fun
  | [d] => { results := [.lit (.bool false)], args := [d] }
  | _ => none }
def FnExactSeriesOfWrongFalsely : Prop := fnExactSeriesOfRow.holds Try.pinned (OpenSpec.ofChange fnExactSeriesOfWrong)

/-- 'laws.FnExactDropNode': WHATEVER THE INPUT: true; the input reads as it did. -/
def fnExactDropNodeSpec : ChangeSpec := { name := "fnExactDropNode", fn := fun _ => fun
  | [d1, d2] => { results := [.lit (.bool true)], args := [d1, d2] }
  | _ => none }
def fnExactDropNodeRow : OpenClaim := { program := "ytfpalnmblmjgjaa", sum := "7695b3f2fa42a821016381644a2ad72602b98dfb82146fe6fbe1f68b2bdad123", func := "loop.example/g00859/laws.FnExactDropNode", spec := "fnExactDropNode", unfollowed := true, recurses := true, plainKeys := false, leaving := true, apart := false }
def FnExactDropNodeSaid : Prop := fnExactDropNodeRow.holds Try.pinned (OpenSpec.ofChange fnExactDropNodeSpec)

/-- ITS FALSE NEIGHBOUR: 'it returns false'. Refute it at one input. -/
def fnExactDropNodeWrong : ChangeSpec := { name := "fnExactDropNode", fn := fun _ => fun
  | [d1, d2] => { results := [.lit (.bool false)], args := [d1, d2] }
  | _ => none }
def FnExactDropNodeWrongFalsely : Prop := fnExactDropNodeRow.holds Try.pinned (OpenSpec.ofChange fnExactDropNodeWrong)

/-- 'laws.FnExactReduceAll': WHATEVER THE INPUT: true; the input reads as it did. -/
def fnExactReduceAllSpec : ChangeSpec := { name := "fnExactReduceAll", fn := fun _ => fun
  | [d] => { results := [.lit (.bool true)], args := [d] }
  | _ => none }
def fnExactReduceAllRow : OpenClaim := { program := "ytfpalnmblmjgjaa", sum := "7695b3f2fa42a821016381644a2ad72602b98dfb82146fe6fbe1f68b2bdad123", func := "loop.example/g00859/laws.FnExactReduceAll", spec := "fnExactReduceAll", unfollowed := true, recurses := true, plainKeys := false, leaving := true, apart := false }
def FnExactReduceAllSaid : Prop := fnExactReduceAllRow.holds Try.pinned (OpenSpec.ofChange fnExactReduceAllSpec)

/-- ITS FALSE NEIGHBOUR: 'it returns false'. Refute it at one input. -/
def fnExactReduceAllWrong : ChangeSpec := { name := "fnExactReduceAll", fn := fun _ => fun
  | [d] => { results := [.lit (.bool false)], args := [d] }
  | _ => none }
def FnExactReduceAllWrongFalsely : Prop := fnExactReduceAllRow.holds Try.pinned (OpenSpec.ofChange fnExactReduceAllWrong)

/-- 'laws.FnExactIsReducible': WHATEVER THE INPUT: true; the input reads as it did. -/
def fnExactIsReducibleSpec : ChangeSpec := { name := "fnExactIsReducible", fn := fun _ => fun
  | [d] => { results := [.lit (.bool true)], args := [d] }
  | _ => none }
def fnExactIsReducibleRow : OpenClaim := { program := "ytfpalnmblmjgjaa", sum := "7695b3f2fa42a821016381644a2ad72602b98dfb82146fe6fbe1f68b2bdad123", func := "loop.example/g00859/laws.FnExactIsReducible", spec := "fnExactIsReducible", unfollowed := true, recurses := true, plainKeys := false, leaving := true, apart := false }
def FnExactIsReducibleSaid : Prop := fnExactIsReducibleRow.holds Try.pinned (OpenSpec.ofChange fnExactIsReducibleSpec)

/-- ITS FALSE NEIGHBOUR: 'it returns false'. Refute it at one input. -/
def fnExactIsReducibleWrong : ChangeSpec := { name := "fnExactIsReducible", fn := fun _ => fun
  | [d] => { results := [.lit (.bool false)], args := [d] }
  | _ => none }
def FnExactIsReducibleWrongFalsely : Prop := fnExactIsReducibleRow.holds Try.pinned (OpenSpec.ofChange fnExactIsReducibleWrong)

/- THE SECOND FORM. 'bulk': how many values and letters a reading holds, each counted each time it is reached (what is shared counts as often as it is met; a slice's spare places count too). A statement '..UptoSaid' is the law's where the arguments, and the package variables that the reading takes, are together of bulk at most 1048576: NARROWER than '..Said'. Prove '..Said' where nothing that the law and all that it calls make is longer than what came in: it says more and counts as full. Else prove '..UptoSaid'. A law counts once. -/
mutual
def uptoBulk {H : Type} : DataW H → Nat
  | .lit (.string bytes) => bytes.length + 1
  | .lit _ => 1
  | .nil => 1
  | .ptr d => uptoBulk d + 1
  | .slice elems spare => uptoBulkAll elems + uptoBulkAll spare + 1
  | .agg parts => uptoBulkAll parts + 1
  | .iface _ d => uptoBulk d + 1
  | .map entries => uptoBulkEntries entries + 1
  | .held _ => 1
def uptoBulkAll {H : Type} : List (DataW H) → Nat
  | [] => 0
  | d :: r => uptoBulk d + uptoBulkAll r
def uptoBulkEntries {H : Type} : List (Lit × DataW H) → Nat
  | [] => 0
  | x :: r => uptoBulkEntry x + uptoBulkEntries r
def uptoBulkEntry {H : Type} : Lit × DataW H → Nat
  | (.string bytes, d) => bytes.length + uptoBulk d + 1
  | (_, d) => uptoBulk d + 1
 end
def uptoSmall : (H : Type) → List (DataW H) → Bool := fun _ ds => decide (uptoBulkAll ds ≤ 1048576)
def OpenSpec.upto (s : _root_.Go.ChangeSpec) : _root_.Go.OpenSpec := { _root_.Go.OpenSpec.ofChange s with cond := some uptoSmall }

/-- 'laws.FnExactPutWire', WHERE WHAT IT READS IS OF BULK AT MOST 1048576: true; the input reads as it did. -/
def fnExactPutWireUptoRow : OpenClaim := { program := "ytfpalnmblmjgjaa", sum := "7695b3f2fa42a821016381644a2ad72602b98dfb82146fe6fbe1f68b2bdad123", func := "loop.example/g00859/laws.FnExactPutWire", spec := "fnExactPutWire", unfollowed := true, recurses := true, plainKeys := false, leaving := true, apart := false, narrowed := true }
def FnExactPutWireUptoSaid : Prop := fnExactPutWireUptoRow.holds Try.pinned (OpenSpec.upto fnExactPutWireSpec)

/-- 'laws.FnExactJoinNodes', WHERE WHAT IT READS IS OF BULK AT MOST 1048576: true; the input reads as it did. -/
def fnExactJoinNodesUptoRow : OpenClaim := { program := "ytfpalnmblmjgjaa", sum := "7695b3f2fa42a821016381644a2ad72602b98dfb82146fe6fbe1f68b2bdad123", func := "loop.example/g00859/laws.FnExactJoinNodes", spec := "fnExactJoinNodes", unfollowed := true, recurses := true, plainKeys := false, leaving := true, apart := false, narrowed := true }
def FnExactJoinNodesUptoSaid : Prop := fnExactJoinNodesUptoRow.holds Try.pinned (OpenSpec.upto fnExactJoinNodesSpec)

/-- 'laws.FnExactSwapNodes', WHERE WHAT IT READS IS OF BULK AT MOST 1048576: true; the input reads as it did. -/
def fnExactSwapNodesUptoRow : OpenClaim := { program := "ytfpalnmblmjgjaa", sum := "7695b3f2fa42a821016381644a2ad72602b98dfb82146fe6fbe1f68b2bdad123", func := "loop.example/g00859/laws.FnExactSwapNodes", spec := "fnExactSwapNodes", unfollowed := true, recurses := true, plainKeys := false, leaving := true, apart := false, narrowed := true }
def FnExactSwapNodesUptoSaid : Prop := fnExactSwapNodesUptoRow.holds Try.pinned (OpenSpec.upto fnExactSwapNodesSpec)

/-- 'laws.FnExactResponseOf', WHERE WHAT IT READS IS OF BULK AT MOST 1048576: true; the input reads as it did. -/
def fnExactResponseOfUptoRow : OpenClaim := { program := "ytfpalnmblmjgjaa", sum := "7695b3f2fa42a821016381644a2ad72602b98dfb82146fe6fbe1f68b2bdad123", func := "loop.example/g00859/laws.FnExactResponseOf", spec := "fnExactResponseOf", inPlace := ["(*sync.WaitGroup).Add", "internal/race.ReleaseMerge", "internal/race.Disable", "internal/race.Enable", "internal/synctest.IsInBubble", "internal/synctest.Associate[sync.WaitGroup]", "sync.fatal", "sync/atomic.OrUint64", "sync/atomic.AddUint64", "internal/race.Read", "sync/atomic.LoadUint64", "sync/atomic.StoreUint64", "internal/synctest.Disassociate[sync.WaitGroup]", "sync.runtime_Semrelease", "(*sync.WaitGroup).Done", "(*sync.WaitGroup).Wait", "internal/race.Acquire", "internal/synctest.IsAssociated[sync.WaitGroup]", "sync/atomic.CompareAndSwapUint64", "internal/race.Write", "sync.runtime_SemacquireWaitGroup"], unfollowed := true, recurses := true, plainKeys := false, leaving := true, apart := false, narrowed := true }
def FnExactResponseOfUptoSaid : Prop := fnExactResponseOfUptoRow.holds Try.pinned (OpenSpec.upto fnExactResponseOfSpec)

/-- 'laws.FnExactCurrentsFor', WHERE WHAT IT READS IS OF BULK AT MOST 1048576: true; the input reads as it did. -/
def fnExactCurrentsForUptoRow : OpenClaim := { program := "ytfpalnmblmjgjaa", sum := "7695b3f2fa42a821016381644a2ad72602b98dfb82146fe6fbe1f68b2bdad123", func := "loop.example/g00859/laws.FnExactCurrentsFor", spec := "fnExactCurrentsFor", inPlace := ["(*sync.WaitGroup).Add", "internal/race.ReleaseMerge", "internal/race.Disable", "internal/race.Enable", "internal/synctest.IsInBubble", "internal/synctest.Associate[sync.WaitGroup]", "sync.fatal", "sync/atomic.OrUint64", "sync/atomic.AddUint64", "internal/race.Read", "sync/atomic.LoadUint64", "sync/atomic.StoreUint64", "internal/synctest.Disassociate[sync.WaitGroup]", "sync.runtime_Semrelease", "(*sync.WaitGroup).Done", "(*sync.WaitGroup).Wait", "internal/race.Acquire", "internal/synctest.IsAssociated[sync.WaitGroup]", "sync/atomic.CompareAndSwapUint64", "internal/race.Write", "sync.runtime_SemacquireWaitGroup"], unfollowed := true, recurses := true, plainKeys := false, leaving := true, apart := false, narrowed := true }
def FnExactCurrentsForUptoSaid : Prop := fnExactCurrentsForUptoRow.holds Try.pinned (OpenSpec.upto fnExactCurrentsForSpec)

/-- 'laws.FnExactWiresAt', WHERE WHAT IT READS IS OF BULK AT MOST 1048576: true; the input reads as it did. -/
def fnExactWiresAtUptoRow : OpenClaim := { program := "ytfpalnmblmjgjaa", sum := "7695b3f2fa42a821016381644a2ad72602b98dfb82146fe6fbe1f68b2bdad123", func := "loop.example/g00859/laws.FnExactWiresAt", spec := "fnExactWiresAt", plainKeys := false, apart := false, narrowed := true }
def FnExactWiresAtUptoSaid : Prop := fnExactWiresAtUptoRow.holds Try.pinned (OpenSpec.upto fnExactWiresAtSpec)

/-- 'laws.FnExactLeafOf', WHERE WHAT IT READS IS OF BULK AT MOST 1048576: true; the input reads as it did. -/
def fnExactLeafOfUptoRow : OpenClaim := { program := "ytfpalnmblmjgjaa", sum := "7695b3f2fa42a821016381644a2ad72602b98dfb82146fe6fbe1f68b2bdad123", func := "loop.example/g00859/laws.FnExactLeafOf", spec := "fnExactLeafOf", unfollowed := true, recurses := true, plainKeys := false, leaving := true, apart := false, narrowed := true }
def FnExactLeafOfUptoSaid : Prop := fnExactLeafOfUptoRow.holds Try.pinned (OpenSpec.upto fnExactLeafOfSpec)

/-- 'laws.FnExactSeriesOf', WHERE WHAT IT READS IS OF BULK AT MOST 1048576: true; the input reads as it did. -/
def fnExactSeriesOfUptoRow : OpenClaim := { program := "ytfpalnmblmjgjaa", sum := "7695b3f2fa42a821016381644a2ad72602b98dfb82146fe6fbe1f68b2bdad123", func := "loop.example/g00859/laws.FnExactSeriesOf", spec := "fnExactSeriesOf", unfollowed := true, recurses := true, plainKeys := false, leaving := true, apart := false, narrowed := true }
def FnExactSeriesOfUptoSaid : Prop := fnExactSeriesOfUptoRow.holds Try.pinned (OpenSpec.upto fnExactSeriesOfSpec)

/-- 'laws.FnExactDropNode', WHERE WHAT IT READS IS OF BULK AT MOST 1048576: true; the input reads as it did. -/
def fnExactDropNodeUptoRow : OpenClaim := { program := "ytfpalnmblmjgjaa", sum := "7695b3f2fa42a821016381644a2ad72602b98dfb82146fe6fbe1f68b2bdad123", func := "loop.example/g00859/laws.FnExactDropNode", spec := "fnExactDropNode", unfollowed := true, recurses := true, plainKeys := false, leaving := true, apart := false, narrowed := true }
def FnExactDropNodeUptoSaid : Prop := fnExactDropNodeUptoRow.holds Try.pinned (OpenSpec.upto fnExactDropNodeSpec)

/-- 'laws.FnExactReduceAll', WHERE WHAT IT READS IS OF BULK AT MOST 1048576: true; the input reads as it did. -/
def fnExactReduceAllUptoRow : OpenClaim := { program := "ytfpalnmblmjgjaa", sum := "7695b3f2fa42a821016381644a2ad72602b98dfb82146fe6fbe1f68b2bdad123", func := "loop.example/g00859/laws.FnExactReduceAll", spec := "fnExactReduceAll", unfollowed := true, recurses := true, plainKeys := false, leaving := true, apart := false, narrowed := true }
def FnExactReduceAllUptoSaid : Prop := fnExactReduceAllUptoRow.holds Try.pinned (OpenSpec.upto fnExactReduceAllSpec)

/-- 'laws.FnExactIsReducible', WHERE WHAT IT READS IS OF BULK AT MOST 1048576: true; the input reads as it did. -/
def fnExactIsReducibleUptoRow : OpenClaim := { program := "ytfpalnmblmjgjaa", sum := "7695b3f2fa42a821016381644a2ad72602b98dfb82146fe6fbe1f68b2bdad123", func := "loop.example/g00859/laws.FnExactIsReducible", spec := "fnExactIsReducible", unfollowed := true, recurses := true, plainKeys := false, leaving := true, apart := false, narrowed := true }
def FnExactIsReducibleUptoSaid : Prop := fnExactIsReducibleUptoRow.holds Try.pinned (OpenSpec.upto fnExactIsReducibleSpec)

end Rows
end Go.Proofs.Ytfpalnmblmjgjaa
