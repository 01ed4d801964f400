/-
  No cell of these rows narrows 'for every input' (looked for: loops, veiled, ifaces, maps, wideKeys, modest, calm, conditions, laid).
  DERIVED. THE GIVEN ROWS OF THIS SEAT. 6 by the template 'for every input the law returns true; each argument reads behind the call as it read before'; 0 by the template 'total and deterministic' (their statements: YtidgggdgblfanaaTotals.lean).
  GIVEN WITH THE SEED: the statements are not yours to turn. If you find one false, say at which input.
  Laid BY PROGRAM, IN A SANDBOX (cutbox-rows.mjs): the forced cells as the released guide's own fill.sh prints them over the translation 592fb9a12f7b3af3… (all of the seat's roots in one cut). By AI agents, Wed Nov 11 2026. No macro, syntax, notation, axiom, sorry.
-/
import Derived.Test.YtidgggdgblfanaaChecked
import GoSem.Claim
import GoSem.ClaimJoined
import GoSem.ClaimMapViews
import Derived.JoinedTies
import Derived.KernelRfl
namespace Go.Proofs.Ytidgggdgblfanaa
/- THE CELL 'sum', in the pinned program and in every row, IS THE sha256 OF THE DUMP (.gsa) THAT YtidgggdgblfanaaProg.lean LOADS. Nothing in Lean hashes anything: it is a label: what it is worth is what the hold of that sum in a sandbox is worth. -/
noncomputable def Try.pinned : Pinned := { name := "ytidgggdgblfanaa", sum := "592fb9a12f7b3af3b4770b3c8463b3ec25efa95b39feb00dac6d0ba67dfb3837", checked := Try.checked }
namespace Rows
def none {H : Type} : Left H := { results := [], args := [] }

/-- 'laws.FnExactLaplacianOf': WHATEVER THE INPUT: true; the input reads as it did. -/
def fnExactLaplacianOfSpec : ChangeSpec := { name := "fnExactLaplacianOf", fn := fun _ => fun
  | [d] => { results := [.lit (.bool true)], args := [d] }
  | _ => none }
def fnExactLaplacianOfRow : OpenClaim := { program := "ytidgggdgblfanaa", sum := "592fb9a12f7b3af3b4770b3c8463b3ec25efa95b39feb00dac6d0ba67dfb3837", func := "loop.example/g00859/laws.FnExactLaplacianOf", spec := "fnExactLaplacianOf", apart := false }
def FnExactLaplacianOfSaid : Prop := fnExactLaplacianOfRow.holds Try.pinned (OpenSpec.ofChange fnExactLaplacianOfSpec)

/-- ITS FALSE NEIGHBOUR: 'it returns false'. Refute it at one input. -/
def fnExactLaplacianOfWrong : ChangeSpec := { name := "fnExactLaplacianOf", fn := fun _ => fun
  | [d] => { results := [.lit (.bool false)], args := [d] }
  | _ => none }
def FnExactLaplacianOfWrongFalsely : Prop := fnExactLaplacianOfRow.holds Try.pinned (OpenSpec.ofChange fnExactLaplacianOfWrong)

/-- 'laws.FnExactMinorOf': WHATEVER THE INPUT: true; the input reads as it did. -/
def fnExactMinorOfSpec : ChangeSpec := { name := "fnExactMinorOf", fn := fun _ => fun
  | [d1, d2, d3] => { results := [.lit (.bool true)], args := [d1, d2, d3] }
  | _ => none }
def fnExactMinorOfRow : OpenClaim := { program := "ytidgggdgblfanaa", sum := "592fb9a12f7b3af3b4770b3c8463b3ec25efa95b39feb00dac6d0ba67dfb3837", func := "loop.example/g00859/laws.FnExactMinorOf", spec := "fnExactMinorOf", unfollowed := true, recurses := true, apart := false }
def FnExactMinorOfSaid : Prop := fnExactMinorOfRow.holds Try.pinned (OpenSpec.ofChange fnExactMinorOfSpec)

/-- ITS FALSE NEIGHBOUR: 'it returns false'. Refute it at one input. -/
def fnExactMinorOfWrong : ChangeSpec := { name := "fnExactMinorOf", fn := fun _ => fun
  | [d1, d2, d3] => { results := [.lit (.bool false)], args := [d1, d2, d3] }
  | _ => none }
def FnExactMinorOfWrongFalsely : Prop := fnExactMinorOfRow.holds Try.pinned (OpenSpec.ofChange fnExactMinorOfWrong)

/-- 'laws.FnExactTreeSum': WHATEVER THE INPUT: true; the input reads as it did. -/
def fnExactTreeSumSpec : ChangeSpec := { name := "fnExactTreeSum", fn := fun _ => fun
  | [d] => { results := [.lit (.bool true)], args := [d] }
  | _ => none }
def fnExactTreeSumRow : OpenClaim := { program := "ytidgggdgblfanaa", sum := "592fb9a12f7b3af3b4770b3c8463b3ec25efa95b39feb00dac6d0ba67dfb3837", func := "loop.example/g00859/laws.FnExactTreeSum", spec := "fnExactTreeSum", unfollowed := true, recurses := true, apart := false }
def FnExactTreeSumSaid : Prop := fnExactTreeSumRow.holds Try.pinned (OpenSpec.ofChange fnExactTreeSumSpec)

/-- ITS FALSE NEIGHBOUR: 'it returns false'. Refute it at one input. -/
def fnExactTreeSumWrong : ChangeSpec := { name := "fnExactTreeSum", fn := fun _ => fun
  | [d] => { results := [.lit (.bool false)], args := [d] }
  | _ => none }
def FnExactTreeSumWrongFalsely : Prop := fnExactTreeSumRow.holds Try.pinned (OpenSpec.ofChange fnExactTreeSumWrong)

/-- 'laws.FnExactForestSum': WHATEVER THE INPUT: true; the input reads as it did. -/
def fnExactForestSumSpec : ChangeSpec := { name := "fnExactForestSum", fn := fun _ => fun
  | [d1, d2, d3] => { results := [.lit (.bool true)], args := [d1, d2, d3] }
  | _ => none }
def fnExactForestSumRow : OpenClaim := { program := "ytidgggdgblfanaa", sum := "592fb9a12f7b3af3b4770b3c8463b3ec25efa95b39feb00dac6d0ba67dfb3837", func := "loop.example/g00859/laws.FnExactForestSum", spec := "fnExactForestSum", unfollowed := true, recurses := true, apart := false }
def FnExactForestSumSaid : Prop := fnExactForestSumRow.holds Try.pinned (OpenSpec.ofChange fnExactForestSumSpec)

/-- ITS FALSE NEIGHBOUR: 'it returns false'. Refute it at one input. -/
def fnExactForestSumWrong : ChangeSpec := { name := "fnExactForestSum", fn := fun _ => fun
  | [d1, d2, d3] => { results := [.lit (.bool false)], args := [d1, d2, d3] }
  | _ => none }
def FnExactForestSumWrongFalsely : Prop := fnExactForestSumRow.holds Try.pinned (OpenSpec.ofChange fnExactForestSumWrong)

/-- 'laws.FnExactCrossSum': WHATEVER THE INPUT: true; the input reads as it did. -/
def fnExactCrossSumSpec : ChangeSpec := { name := "fnExactCrossSum", fn := fun _ => fun
  | [d1, d2, d3, d4, d5] => { results := [.lit (.bool true)], args := [d1, d2, d3, d4, d5] }
  | _ => none }
def fnExactCrossSumRow : OpenClaim := { program := "ytidgggdgblfanaa", sum := "592fb9a12f7b3af3b4770b3c8463b3ec25efa95b39feb00dac6d0ba67dfb3837", func := "loop.example/g00859/laws.FnExactCrossSum", spec := "fnExactCrossSum", unfollowed := true, recurses := true, apart := false }
def FnExactCrossSumSaid : Prop := fnExactCrossSumRow.holds Try.pinned (OpenSpec.ofChange fnExactCrossSumSpec)

/-- ITS FALSE NEIGHBOUR: 'it returns false'. Refute it at one input. -/
def fnExactCrossSumWrong : ChangeSpec := { name := "fnExactCrossSum", fn := fun _ => fun
  | [d1, d2, d3, d4, d5] => { results := [.lit (.bool false)], args := [d1, d2, d3, d4, d5] }
  | _ => none }
def FnExactCrossSumWrongFalsely : Prop := fnExactCrossSumRow.holds Try.pinned (OpenSpec.ofChange fnExactCrossSumWrong)

/-- 'laws.FnExactCountTrees': WHATEVER THE INPUT: true; the input reads as it did. -/
def fnExactCountTreesSpec : ChangeSpec := { name := "fnExactCountTrees", fn := fun _ => fun
  | [d] => { results := [.lit (.bool true)], args := [d] }
  | _ => none }
def fnExactCountTreesRow : OpenClaim := { program := "ytidgggdgblfanaa", sum := "592fb9a12f7b3af3b4770b3c8463b3ec25efa95b39feb00dac6d0ba67dfb3837", func := "loop.example/g00859/laws.FnExactCountTrees", spec := "fnExactCountTrees", unfollowed := true, recurses := true, apart := false }
def FnExactCountTreesSaid : Prop := fnExactCountTreesRow.holds Try.pinned (OpenSpec.ofChange fnExactCountTreesSpec)

/-- ITS FALSE NEIGHBOUR: 'it returns false'. Refute it at one input. -/
def fnExactCountTreesWrong : ChangeSpec := { name := "fnExactCountTrees", fn := fun _ => fun
  | [d] => { results := [.lit (.bool false)], args := [d] }
  | _ => none }
def FnExactCountTreesWrongFalsely : Prop := fnExactCountTreesRow.holds Try.pinned (OpenSpec.ofChange fnExactCountTreesWrong)

/- THE SECOND FORM. 'bulk': how many values and letters a reading holds, each counted each time it is reached (what is shared counts as often as it is met; a slice's spare places count too). A statement '..UptoSaid' is the law's where the arguments, and the package variables that the reading takes, are together of bulk at most 1048576: NARROWER than '..Said'. Prove '..Said' where nothing that the law and all that it calls make is longer than what came in: it says more and counts as full. Else prove '..UptoSaid'. A law counts once. -/
mutual
def uptoBulk {H : Type} : DataW H → Nat
  | .lit (.string bytes) => bytes.length + 1
  | .lit _ => 1
  | .nil => 1
  | .ptr d => uptoBulk d + 1
  | .slice elems spare => uptoBulkAll elems + uptoBulkAll spare + 1
  | .agg parts => uptoBulkAll parts + 1
  | .iface _ d => uptoBulk d + 1
  | .map entries => uptoBulkEntries entries + 1
  | .held _ => 1
def uptoBulkAll {H : Type} : List (DataW H) → Nat
  | [] => 0
  | d :: r => uptoBulk d + uptoBulkAll r
def uptoBulkEntries {H : Type} : List (Lit × DataW H) → Nat
  | [] => 0
  | x :: r => uptoBulkEntry x + uptoBulkEntries r
def uptoBulkEntry {H : Type} : Lit × DataW H → Nat
  | (.string bytes, d) => bytes.length + uptoBulk d + 1
  | (_, d) => uptoBulk d + 1
 end
def uptoSmall : (H : Type) → List (DataW H) → Bool := fun _ ds => decide (uptoBulkAll ds ≤ 1048576)
def OpenSpec.upto (s : _root_.Go.ChangeSpec) : _root_.Go.OpenSpec := { _root_.Go.OpenSpec.ofChange s with cond := some uptoSmall }

/-- 'laws.FnExactLaplacianOf', WHERE WHAT IT READS IS OF BULK AT MOST 1048576: true; the input reads as it did. -/
def fnExactLaplacianOfUptoRow : OpenClaim := { program := "ytidgggdgblfanaa", sum := "592fb9a12f7b3af3b4770b3c8463b3ec25efa95b39feb00dac6d0ba67dfb3837", func := "loop.example/g00859/laws.FnExactLaplacianOf", spec := "fnExactLaplacianOf", apart := false, narrowed := true }
def FnExactLaplacianOfUptoSaid : Prop := fnExactLaplacianOfUptoRow.holds Try.pinned (OpenSpec.upto fnExactLaplacianOfSpec)

/-- 'laws.FnExactMinorOf', WHERE WHAT IT READS IS OF BULK AT MOST 1048576: true; the input reads as it did. -/
def fnExactMinorOfUptoRow : OpenClaim := { program := "ytidgggdgblfanaa", sum := "592fb9a12f7b3af3b4770b3c8463b3ec25efa95b39feb00dac6d0ba67dfb3837", func := "loop.example/g00859/laws.FnExactMinorOf", spec := "fnExactMinorOf", unfollowed := true, recurses := true, apart := false, narrowed := true }
def FnExactMinorOfUptoSaid : Prop := fnExactMinorOfUptoRow.holds Try.pinned (OpenSpec.upto fnExactMinorOfSpec)

/-- 'laws.FnExactTreeSum', WHERE WHAT IT READS IS OF BULK AT MOST 1048576: true; the input reads as it did. -/
def fnExactTreeSumUptoRow : OpenClaim := { program := "ytidgggdgblfanaa", sum := "592fb9a12f7b3af3b4770b3c8463b3ec25efa95b39feb00dac6d0ba67dfb3837", func := "loop.example/g00859/laws.FnExactTreeSum", spec := "fnExactTreeSum", unfollowed := true, recurses := true, apart := false, narrowed := true }
def FnExactTreeSumUptoSaid : Prop := fnExactTreeSumUptoRow.holds Try.pinned (OpenSpec.upto fnExactTreeSumSpec)

/-- 'laws.FnExactForestSum', WHERE WHAT IT READS IS OF BULK AT MOST 1048576: true; the input reads as it did. -/
def fnExactForestSumUptoRow : OpenClaim := { program := "ytidgggdgblfanaa", sum := "592fb9a12f7b3af3b4770b3c8463b3ec25efa95b39feb00dac6d0ba67dfb3837", func := "loop.example/g00859/laws.FnExactForestSum", spec := "fnExactForestSum", unfollowed := true, recurses := true, apart := false, narrowed := true }
def FnExactForestSumUptoSaid : Prop := fnExactForestSumUptoRow.holds Try.pinned (OpenSpec.upto fnExactForestSumSpec)

/-- 'laws.FnExactCrossSum', WHERE WHAT IT READS IS OF BULK AT MOST 1048576: true; the input reads as it did. -/
def fnExactCrossSumUptoRow : OpenClaim := { program := "ytidgggdgblfanaa", sum := "592fb9a12f7b3af3b4770b3c8463b3ec25efa95b39feb00dac6d0ba67dfb3837", func := "loop.example/g00859/laws.FnExactCrossSum", spec := "fnExactCrossSum", unfollowed := true, recurses := true, apart := false, narrowed := true }
def FnExactCrossSumUptoSaid : Prop := fnExactCrossSumUptoRow.holds Try.pinned (OpenSpec.upto fnExactCrossSumSpec)

/-- 'laws.FnExactCountTrees', WHERE WHAT IT READS IS OF BULK AT MOST 1048576: true; the input reads as it did. -/
def fnExactCountTreesUptoRow : OpenClaim := { program := "ytidgggdgblfanaa", sum := "592fb9a12f7b3af3b4770b3c8463b3ec25efa95b39feb00dac6d0ba67dfb3837", func := "loop.example/g00859/laws.FnExactCountTrees", spec := "fnExactCountTrees", unfollowed := true, recurses := true, apart := false, narrowed := true }
def FnExactCountTreesUptoSaid : Prop := fnExactCountTreesUptoRow.holds Try.pinned (OpenSpec.upto fnExactCountTreesSpec)

end Rows
end Go.Proofs.Ytidgggdgblfanaa
