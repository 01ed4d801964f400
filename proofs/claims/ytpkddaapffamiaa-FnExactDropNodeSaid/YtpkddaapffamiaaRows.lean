/-
  No cell of these rows narrows 'for every input' (looked for: loops, veiled, ifaces, maps, wideKeys, modest, calm, conditions, laid).
  DERIVED. THE GIVEN ROWS OF THIS SEAT. 11 by the template 'for every input the law returns true; each argument reads behind the call as it read before'; 0 by the template 'total and deterministic' (their statements: YtpkddaapffamiaaTotals.lean).
  GIVEN WITH THE SEED: the statements are not yours to turn. If you find one false, say at which input.
  Laid BY PROGRAM, IN A SANDBOX (cutbox-rows.mjs): the forced cells as the released guide's own fill.sh prints them over the translation 6c599a0533462879… (all of the seat's roots in one cut). By AI agents, Wed Nov 11 2026. No macro, syntax, notation, axiom, sorry.
-/
import Derived.Test.YtpkddaapffamiaaChecked
import GoSem.Claim
import GoSem.ClaimJoined
import GoSem.ClaimMapViews
import Derived.JoinedTies
import Derived.KernelRfl
namespace Go.Proofs.Ytpkddaapffamiaa
/- THE CELL 'sum', in the pinned program and in every row, IS THE sha256 OF THE DUMP (.gsa) THAT YtpkddaapffamiaaProg.lean LOADS. Nothing in Lean hashes anything: it is a label: what it is worth is what the hold of that sum in a sandbox is worth. -/
noncomputable def Try.pinned : Pinned := { name := "ytpkddaapffamiaa", sum := "6c599a053346287975260c44f78b75bf9841a6e40fb5e26090ce9788b615408f", checked := Try.checked }
namespace Rows
def none {H : Type} : Left H := { results := [], args := [] }

/-- 'laws.FnKirchhoff': WHATEVER THE INPUT: true; the input reads as it did. -/
def fnKirchhoffSpec : ChangeSpec := { name := "fnKirchhoff", fn := fun _ => fun
  | [d] => { results := [.lit (.bool true)], args := [d] }
  | _ => none }
def fnKirchhoffRow : OpenClaim := { program := "ytpkddaapffamiaa", sum := "6c599a053346287975260c44f78b75bf9841a6e40fb5e26090ce9788b615408f", func := "loop.example/g00859/laws.FnKirchhoff", spec := "fnKirchhoff", unfollowed := true, recurses := true, plainKeys := false, apart := false }
def FnKirchhoffSaid : Prop := fnKirchhoffRow.holds Try.pinned (OpenSpec.ofChange fnKirchhoffSpec)

/-- ITS FALSE NEIGHBOUR: 'it returns false'. Refute it at one input. -/
def fnKirchhoffWrong : ChangeSpec := { name := "fnKirchhoff", fn := fun _ => fun
  | [d] => { results := [.lit (.bool false)], args := [d] }
  | _ => none }
def FnKirchhoffWrongFalsely : Prop := fnKirchhoffRow.holds Try.pinned (OpenSpec.ofChange fnKirchhoffWrong)

/-- 'laws.FnPower': WHATEVER THE INPUT: true; the input reads as it did. -/
def fnPowerSpec : ChangeSpec := { name := "fnPower", fn := fun _ => fun
  | [d] => { results := [.lit (.bool true)], args := [d] }
  | _ => none }
def fnPowerRow : OpenClaim := { program := "ytpkddaapffamiaa", sum := "6c599a053346287975260c44f78b75bf9841a6e40fb5e26090ce9788b615408f", func := "loop.example/g00859/laws.FnPower", spec := "fnPower", unfollowed := true, recurses := true, plainKeys := false, apart := false }
def FnPowerSaid : Prop := fnPowerRow.holds Try.pinned (OpenSpec.ofChange fnPowerSpec)

/-- ITS FALSE NEIGHBOUR: 'it returns false'. Refute it at one input. -/
def fnPowerWrong : ChangeSpec := { name := "fnPower", fn := fun _ => fun
  | [d] => { results := [.lit (.bool false)], args := [d] }
  | _ => none }
def FnPowerWrongFalsely : Prop := fnPowerRow.holds Try.pinned (OpenSpec.ofChange fnPowerWrong)

/-- 'laws.FnExactTreeSum': WHATEVER THE INPUT: true; the input reads as it did. -/
def fnExactTreeSumSpec : ChangeSpec := { name := "fnExactTreeSum", fn := fun _ => fun
  | [d] => { results := [.lit (.bool true)], args := [d] }
  | _ => none }
def fnExactTreeSumRow : OpenClaim := { program := "ytpkddaapffamiaa", sum := "6c599a053346287975260c44f78b75bf9841a6e40fb5e26090ce9788b615408f", func := "loop.example/g00859/laws.FnExactTreeSum", spec := "fnExactTreeSum", unfollowed := true, recurses := true, plainKeys := false, apart := false }
def FnExactTreeSumSaid : Prop := fnExactTreeSumRow.holds Try.pinned (OpenSpec.ofChange fnExactTreeSumSpec)

/-- ITS FALSE NEIGHBOUR: 'it returns false'. Refute it at one input. -/
def fnExactTreeSumWrong : ChangeSpec := { name := "fnExactTreeSum", fn := fun _ => fun
  | [d] => { results := [.lit (.bool false)], args := [d] }
  | _ => none }
def FnExactTreeSumWrongFalsely : Prop := fnExactTreeSumRow.holds Try.pinned (OpenSpec.ofChange fnExactTreeSumWrong)

/-- 'laws.FnExactForestSum': WHATEVER THE INPUT: true; the input reads as it did. -/
def fnExactForestSumSpec : ChangeSpec := { name := "fnExactForestSum", fn := fun _ => fun
  | [d1, d2, d3] => { results := [.lit (.bool true)], args := [d1, d2, d3] }
  | _ => none }
def fnExactForestSumRow : OpenClaim := { program := "ytpkddaapffamiaa", sum := "6c599a053346287975260c44f78b75bf9841a6e40fb5e26090ce9788b615408f", func := "loop.example/g00859/laws.FnExactForestSum", spec := "fnExactForestSum", unfollowed := true, recurses := true, plainKeys := false, apart := false }
def FnExactForestSumSaid : Prop := fnExactForestSumRow.holds Try.pinned (OpenSpec.ofChange fnExactForestSumSpec)

/-- ITS FALSE NEIGHBOUR: 'it returns false'. Refute it at one input. -/
def fnExactForestSumWrong : ChangeSpec := { name := "fnExactForestSum", fn := fun _ => fun
  | [d1, d2, d3] => { results := [.lit (.bool false)], args := [d1, d2, d3] }
  | _ => none }
def FnExactForestSumWrongFalsely : Prop := fnExactForestSumRow.holds Try.pinned (OpenSpec.ofChange fnExactForestSumWrong)

/-- 'laws.FnExactCrossSum': WHATEVER THE INPUT: true; the input reads as it did. -/
def fnExactCrossSumSpec : ChangeSpec := { name := "fnExactCrossSum", fn := fun _ => fun
  | [d1, d2, d3, d4, d5] => { results := [.lit (.bool true)], args := [d1, d2, d3, d4, d5] }
  | _ => none }
def fnExactCrossSumRow : OpenClaim := { program := "ytpkddaapffamiaa", sum := "6c599a053346287975260c44f78b75bf9841a6e40fb5e26090ce9788b615408f", func := "loop.example/g00859/laws.FnExactCrossSum", spec := "fnExactCrossSum", unfollowed := true, recurses := true, plainKeys := false, apart := false }
def FnExactCrossSumSaid : Prop := fnExactCrossSumRow.holds Try.pinned (OpenSpec.ofChange fnExactCrossSumSpec)

/-- ITS FALSE NEIGHBOUR: 'it returns false'. Refute it at one input. -/
def fnExactCrossSumWrong : ChangeSpec := { name := "fnExactCrossSum", fn := fun _ => fun
  | [d1, d2, d3, d4, d5] => { results := [.lit (.bool false)], args := [d1, d2, d3, d4, d5] }
  | _ => none }
def FnExactCrossSumWrongFalsely : Prop := fnExactCrossSumRow.holds Try.pinned (OpenSpec.ofChange fnExactCrossSumWrong)

/-- 'laws.FnExactCountTrees': WHATEVER THE INPUT: true; the input reads as it did. -/
def fnExactCountTreesSpec : ChangeSpec := { name := "fnExactCountTrees", fn := fun _ => fun
  | [d] => { results := [.lit (.bool true)], args := [d] }
  | _ => none }
def fnExactCountTreesRow : OpenClaim := { program := "ytpkddaapffamiaa", sum := "6c599a053346287975260c44f78b75bf9841a6e40fb5e26090ce9788b615408f", func := "loop.example/g00859/laws.FnExactCountTrees", spec := "fnExactCountTrees", unfollowed := true, recurses := true, plainKeys := false, apart := false }
def FnExactCountTreesSaid : Prop := fnExactCountTreesRow.holds Try.pinned (OpenSpec.ofChange fnExactCountTreesSpec)

/-- ITS FALSE NEIGHBOUR: 'it returns false'. Refute it at one input. -/
def fnExactCountTreesWrong : ChangeSpec := { name := "fnExactCountTrees", fn := fun _ => fun
  | [d] => { results := [.lit (.bool false)], args := [d] }
  | _ => none }
def FnExactCountTreesWrongFalsely : Prop := fnExactCountTreesRow.holds Try.pinned (OpenSpec.ofChange fnExactCountTreesWrong)

/-- 'laws.FnExactResistanceOf': WHATEVER THE INPUT: true; the input reads as it did. -/
def fnExactResistanceOfSpec : ChangeSpec := { name := "fnExactResistanceOf", fn := fun _ => fun
  | [d1, d2, d3] => { results := [.lit (.bool true)], args := [d1, d2, d3] }
  | _ => none }
def fnExactResistanceOfRow : OpenClaim := { program := "ytpkddaapffamiaa", sum := "6c599a053346287975260c44f78b75bf9841a6e40fb5e26090ce9788b615408f", func := "loop.example/g00859/laws.FnExactResistanceOf", spec := "fnExactResistanceOf", unfollowed := true, recurses := true, plainKeys := false, apart := false }
def FnExactResistanceOfSaid : Prop := fnExactResistanceOfRow.holds Try.pinned (OpenSpec.ofChange fnExactResistanceOfSpec)

/-- ITS FALSE NEIGHBOUR: 'it returns false'. Refute it at one input. -/
def fnExactResistanceOfWrong : ChangeSpec := { name := "fnExactResistanceOf", fn := fun _ => fun
  | [d1, d2, d3] => { results := [.lit (.bool false)], args := [d1, d2, d3] }
  | _ => none }
def FnExactResistanceOfWrongFalsely : Prop := fnExactResistanceOfRow.holds Try.pinned (OpenSpec.ofChange fnExactResistanceOfWrong)

/-- 'laws.FnExactPotentialsOf': WHATEVER THE INPUT: true; the input reads as it did. -/
def fnExactPotentialsOfSpec : ChangeSpec := { name := "fnExactPotentialsOf", fn := fun _ => fun
  | [d1, d2, d3] => { results := [.lit (.bool true)], args := [d1, d2, d3] }
  | _ => none }
def fnExactPotentialsOfRow : OpenClaim := { program := "ytpkddaapffamiaa", sum := "6c599a053346287975260c44f78b75bf9841a6e40fb5e26090ce9788b615408f", func := "loop.example/g00859/laws.FnExactPotentialsOf", spec := "fnExactPotentialsOf", unfollowed := true, recurses := true, plainKeys := false, apart := false }
def FnExactPotentialsOfSaid : Prop := fnExactPotentialsOfRow.holds Try.pinned (OpenSpec.ofChange fnExactPotentialsOfSpec)

/-- ITS FALSE NEIGHBOUR: 'it returns false'. Refute it at one input. -/
def fnExactPotentialsOfWrong : ChangeSpec := { name := "fnExactPotentialsOf", fn := fun _ => fun
  | [d1, d2, d3] => { results := [.lit (.bool false)], args := [d1, d2, d3] }
  | _ => none }
def FnExactPotentialsOfWrongFalsely : Prop := fnExactPotentialsOfRow.holds Try.pinned (OpenSpec.ofChange fnExactPotentialsOfWrong)

/-- 'laws.FnExactCurrentOn': WHATEVER THE INPUT: true; the input reads as it did. -/
def fnExactCurrentOnSpec : ChangeSpec := { name := "fnExactCurrentOn", fn := fun _ => fun
  | [d1, d2, d3, d4, d5] => { results := [.lit (.bool true)], args := [d1, d2, d3, d4, d5] }
  | _ => none }
def fnExactCurrentOnRow : OpenClaim := { program := "ytpkddaapffamiaa", sum := "6c599a053346287975260c44f78b75bf9841a6e40fb5e26090ce9788b615408f", func := "loop.example/g00859/laws.FnExactCurrentOn", spec := "fnExactCurrentOn", unfollowed := true, recurses := true, plainKeys := false, apart := false }
def FnExactCurrentOnSaid : Prop := fnExactCurrentOnRow.holds Try.pinned (OpenSpec.ofChange fnExactCurrentOnSpec)

/-- ITS FALSE NEIGHBOUR: 'it returns false'. Refute it at one input. -/
def fnExactCurrentOnWrong : ChangeSpec := { name := "fnExactCurrentOn", fn := fun _ => fun
  | [d1, d2, d3, d4, d5] => { results := [.lit (.bool false)], args := [d1, d2, d3, d4, d5] }
  | _ => none }
def FnExactCurrentOnWrongFalsely : Prop := fnExactCurrentOnRow.holds Try.pinned (OpenSpec.ofChange fnExactCurrentOnWrong)

/-- 'laws.FnExactPowerOf': WHATEVER THE INPUT: true; the input reads as it did. -/
def fnExactPowerOfSpec : ChangeSpec := { name := "fnExactPowerOf", fn := fun _ => fun
  | [d1, d2] => { results := [.lit (.bool true)], args := [d1, d2] }
  | _ => none }
def fnExactPowerOfRow : OpenClaim := { program := "ytpkddaapffamiaa", sum := "6c599a053346287975260c44f78b75bf9841a6e40fb5e26090ce9788b615408f", func := "loop.example/g00859/laws.FnExactPowerOf", spec := "fnExactPowerOf", plainKeys := false, apart := false }
def FnExactPowerOfSaid : Prop := fnExactPowerOfRow.holds Try.pinned (OpenSpec.ofChange fnExactPowerOfSpec)

/-- ITS FALSE NEIGHBOUR: 'it returns false'. Refute it at one input. -/
def fnExactPowerOfWrong : ChangeSpec := { name := "fnExactPowerOf", fn := fun _ => fun
  | [d1, d2] => { results := [.lit (.bool false)], args := [d1, d2] }
  | _ => none }
def FnExactPowerOfWrongFalsely : Prop := fnExactPowerOfRow.holds Try.pinned (OpenSpec.ofChange fnExactPowerOfWrong)

/-- 'laws.FnExactDropNode': WHATEVER THE INPUT: true; the input reads as it did. -/
def fnExactDropNodeSpec : ChangeSpec := { name := "fnExactDropNode", fn := fun _ => fun
  | [d1, d2] => { results := [.lit (.bool true)], args := [d1, d2] }
  | _ => none }
def fnExactDropNodeRow : OpenClaim := { program := "ytpkddaapffamiaa", sum := "6c599a053346287975260c44f78b75bf9841a6e40fb5e26090ce9788b615408f", func := "loop.example/g00859/laws.FnExactDropNode", spec := "fnExactDropNode", unfollowed := true, recurses := true, plainKeys := false, apart := false }
def FnExactDropNodeSaid : Prop := fnExactDropNodeRow.holds Try.pinned (OpenSpec.ofChange fnExactDropNodeSpec)

/-- ITS FALSE NEIGHBOUR: 'it returns false'. Refute it at one input. -/
def fnExactDropNodeWrong : ChangeSpec := { name := "fnExactDropNode", fn := fun _ => fun
  | [d1, d2] => { results := [.lit (.bool false)], args := [d1, d2] }
  | _ => none }
def FnExactDropNodeWrongFalsely : Prop := fnExactDropNodeRow.holds Try.pinned (OpenSpec.ofChange fnExactDropNodeWrong)

/- THE SECOND FORM. 'bulk': how many values and letters a reading holds, each counted each time it is reached (what is shared counts as often as it is met; a slice's spare places count too). A statement '..UptoSaid' is the law's where the arguments, and the package variables that the reading takes, are together of bulk at most 1048576: NARROWER than '..Said'. Prove '..Said' where nothing that the law and all that it calls make is longer than what came in: it says more and counts as full. Else prove '..UptoSaid'. A law counts once. -/
mutual
def uptoBulk {H : Type} : DataW H → Nat
  | .lit (.string bytes) => bytes.length + 1
  | .lit _ => 1
  | .nil => 1
  | .ptr d => uptoBulk d + 1
  | .slice elems spare => uptoBulkAll elems + uptoBulkAll spare + 1
  | .agg parts => uptoBulkAll parts + 1
  | .iface _ d => uptoBulk d + 1
  | .map entries => uptoBulkEntries entries + 1
  | .held _ => 1
def uptoBulkAll {H : Type} : List (DataW H) → Nat
  | [] => 0
  | d :: r => uptoBulk d + uptoBulkAll r
def uptoBulkEntries {H : Type} : List (Lit × DataW H) → Nat
  | [] => 0
  | x :: r => uptoBulkEntry x + uptoBulkEntries r
def uptoBulkEntry {H : Type} : Lit × DataW H → Nat
  | (.string bytes, d) => bytes.length + uptoBulk d + 1
  | (_, d) => uptoBulk d + 1
 end
def uptoSmall : (H : Type) → List (DataW H) → Bool := fun _ ds => decide (uptoBulkAll ds ≤ 1048576)
def OpenSpec.upto (s : _root_.Go.ChangeSpec) : _root_.Go.OpenSpec := { _root_.Go.OpenSpec.ofChange s with cond := some uptoSmall }

/-- 'laws.FnKirchhoff', WHERE WHAT IT READS IS OF BULK AT MOST 1048576: true; the input reads as it did. -/
def fnKirchhoffUptoRow : OpenClaim := { program := "ytpkddaapffamiaa", sum := "6c599a053346287975260c44f78b75bf9841a6e40fb5e26090ce9788b615408f", func := "loop.example/g00859/laws.FnKirchhoff", spec := "fnKirchhoff", unfollowed := true, recurses := true, plainKeys := false, apart := false, narrowed := true }
def FnKirchhoffUptoSaid : Prop := fnKirchhoffUptoRow.holds Try.pinned (OpenSpec.upto fnKirchhoffSpec)

/-- 'laws.FnPower', WHERE WHAT IT READS IS OF BULK AT MOST 1048576: true; the input reads as it did. -/
def fnPowerUptoRow : OpenClaim := { program := "ytpkddaapffamiaa", sum := "6c599a053346287975260c44f78b75bf9841a6e40fb5e26090ce9788b615408f", func := "loop.example/g00859/laws.FnPower", spec := "fnPower", unfollowed := true, recurses := true, plainKeys := false, apart := false, narrowed := true }
def FnPowerUptoSaid : Prop := fnPowerUptoRow.holds Try.pinned (OpenSpec.upto fnPowerSpec)

/-- 'laws.FnExactTreeSum', WHERE WHAT IT READS IS OF BULK AT MOST 1048576: true; the input reads as it did. -/
def fnExactTreeSumUptoRow : OpenClaim := { program := "ytpkddaapffamiaa", sum := "6c599a053346287975260c44f78b75bf9841a6e40fb5e26090ce9788b615408f", func := "loop.example/g00859/laws.FnExactTreeSum", spec := "fnExactTreeSum", unfollowed := true, recurses := true, plainKeys := false, apart := false, narrowed := true }
def FnExactTreeSumUptoSaid : Prop := fnExactTreeSumUptoRow.holds Try.pinned (OpenSpec.upto fnExactTreeSumSpec)

/-- 'laws.FnExactForestSum', WHERE WHAT IT READS IS OF BULK AT MOST 1048576: true; the input reads as it did. -/
def fnExactForestSumUptoRow : OpenClaim := { program := "ytpkddaapffamiaa", sum := "6c599a053346287975260c44f78b75bf9841a6e40fb5e26090ce9788b615408f", func := "loop.example/g00859/laws.FnExactForestSum", spec := "fnExactForestSum", unfollowed := true, recurses := true, plainKeys := false, apart := false, narrowed := true }
def FnExactForestSumUptoSaid : Prop := fnExactForestSumUptoRow.holds Try.pinned (OpenSpec.upto fnExactForestSumSpec)

/-- 'laws.FnExactCrossSum', WHERE WHAT IT READS IS OF BULK AT MOST 1048576: true; the input reads as it did. -/
def fnExactCrossSumUptoRow : OpenClaim := { program := "ytpkddaapffamiaa", sum := "6c599a053346287975260c44f78b75bf9841a6e40fb5e26090ce9788b615408f", func := "loop.example/g00859/laws.FnExactCrossSum", spec := "fnExactCrossSum", unfollowed := true, recurses := true, plainKeys := false, apart := false, narrowed := true }
def FnExactCrossSumUptoSaid : Prop := fnExactCrossSumUptoRow.holds Try.pinned (OpenSpec.upto fnExactCrossSumSpec)

/-- 'laws.FnExactCountTrees', WHERE WHAT IT READS IS OF BULK AT MOST 1048576: true; the input reads as it did. -/
def fnExactCountTreesUptoRow : OpenClaim := { program := "ytpkddaapffamiaa", sum := "6c599a053346287975260c44f78b75bf9841a6e40fb5e26090ce9788b615408f", func := "loop.example/g00859/laws.FnExactCountTrees", spec := "fnExactCountTrees", unfollowed := true, recurses := true, plainKeys := false, apart := false, narrowed := true }
def FnExactCountTreesUptoSaid : Prop := fnExactCountTreesUptoRow.holds Try.pinned (OpenSpec.upto fnExactCountTreesSpec)

/-- 'laws.FnExactResistanceOf', WHERE WHAT IT READS IS OF BULK AT MOST 1048576: true; the input reads as it did. -/
def fnExactResistanceOfUptoRow : OpenClaim := { program := "ytpkddaapffamiaa", sum := "6c599a053346287975260c44f78b75bf9841a6e40fb5e26090ce9788b615408f", func := "loop.example/g00859/laws.FnExactResistanceOf", spec := "fnExactResistanceOf", unfollowed := true, recurses := true, plainKeys := false, apart := false, narrowed := true }
def FnExactResistanceOfUptoSaid : Prop := fnExactResistanceOfUptoRow.holds Try.pinned (OpenSpec.upto fnExactResistanceOfSpec)

/-- 'laws.FnExactPotentialsOf', WHERE WHAT IT READS IS OF BULK AT MOST 1048576: true; the input reads as it did. -/
def fnExactPotentialsOfUptoRow : OpenClaim := { program := "ytpkddaapffamiaa", sum := "6c599a053346287975260c44f78b75bf9841a6e40fb5e26090ce9788b615408f", func := "loop.example/g00859/laws.FnExactPotentialsOf", spec := "fnExactPotentialsOf", unfollowed := true, recurses := true, plainKeys := false, apart := false, narrowed := true }
def FnExactPotentialsOfUptoSaid : Prop := fnExactPotentialsOfUptoRow.holds Try.pinned (OpenSpec.upto fnExactPotentialsOfSpec)

/-- 'laws.FnExactCurrentOn', WHERE WHAT IT READS IS OF BULK AT MOST 1048576: true; the input reads as it did. -/
def fnExactCurrentOnUptoRow : OpenClaim := { program := "ytpkddaapffamiaa", sum := "6c599a053346287975260c44f78b75bf9841a6e40fb5e26090ce9788b615408f", func := "loop.example/g00859/laws.FnExactCurrentOn", spec := "fnExactCurrentOn", unfollowed := true, recurses := true, plainKeys := false, apart := false, narrowed := true }
def FnExactCurrentOnUptoSaid : Prop := fnExactCurrentOnUptoRow.holds Try.pinned (OpenSpec.upto fnExactCurrentOnSpec)

/-- 'laws.FnExactPowerOf', WHERE WHAT IT READS IS OF BULK AT MOST 1048576: true; the input reads as it did. -/
def fnExactPowerOfUptoRow : OpenClaim := { program := "ytpkddaapffamiaa", sum := "6c599a053346287975260c44f78b75bf9841a6e40fb5e26090ce9788b615408f", func := "loop.example/g00859/laws.FnExactPowerOf", spec := "fnExactPowerOf", plainKeys := false, apart := false, narrowed := true }
def FnExactPowerOfUptoSaid : Prop := fnExactPowerOfUptoRow.holds Try.pinned (OpenSpec.upto fnExactPowerOfSpec)

/-- 'laws.FnExactDropNode', WHERE WHAT IT READS IS OF BULK AT MOST 1048576: true; the input reads as it did. -/
def fnExactDropNodeUptoRow : OpenClaim := { program := "ytpkddaapffamiaa", sum := "6c599a053346287975260c44f78b75bf9841a6e40fb5e26090ce9788b615408f", func := "loop.example/g00859/laws.FnExactDropNode", spec := "fnExactDropNode", unfollowed := true, recurses := true, plainKeys := false, apart := false, narrowed := true }
def FnExactDropNodeUptoSaid : Prop := fnExactDropNodeUptoRow.holds Try.pinned (OpenSpec.upto fnExactDropNodeSpec)

end Rows
end Go.Proofs.Ytpkddaapffamiaa
