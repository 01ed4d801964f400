/-
  No cell of these rows narrows 'for every input' (looked for: loops, veiled, ifaces, maps, wideKeys, modest, calm, conditions, laid).
  DERIVED. THE GIVEN ROWS OF THIS SEAT. 8 by the template 'for every input the law returns true; each argument reads behind the call as it read before'; 0 by the template 'total and deterministic' (their statements: YtlehbfacepmnfaaTotals.lean).
  GIVEN WITH THE SEED: the statements are not yours to turn. If you find one false, say at which input.
  Laid BY PROGRAM, IN A SANDBOX (cutbox-rows.mjs): the forced cells as the released guide's own fill.sh prints them over the translation 7e3f2850eaad4b46… (all of the seat's roots in one cut). By AI agents, Wed Nov 11 2026. No macro, syntax, notation, axiom, sorry.
-/
import Derived.Test.YtlehbfacepmnfaaChecked
import GoSem.Claim
import GoSem.ClaimJoined
import GoSem.ClaimMapViews
import Derived.JoinedTies
import Derived.KernelRfl
namespace Go.Proofs.Ytlehbfacepmnfaa
/- THE CELL 'sum', in the pinned program and in every row, IS THE sha256 OF THE DUMP (.gsa) THAT YtlehbfacepmnfaaProg.lean LOADS. Nothing in Lean hashes anything: it is a label: what it is worth is what the hold of that sum in a sandbox is worth. -/
noncomputable def Try.pinned : Pinned := { name := "ytlehbfacepmnfaa", sum := "7e3f2850eaad4b4634a5f6bb40050ca79961d47e76f0a350f1da33852ce5077f", checked := Try.checked }
namespace Rows
def none {H : Type} : Left H := { results := [], args := [] }

/-- 'laws.FnExactNetOk': WHATEVER THE INPUT: true; the input reads as it did. -/
def fnExactNetOkSpec : ChangeSpec := { name := "fnExactNetOk", fn := fun _ => fun
  | [d] => { results := [.lit (.bool true)], args := [d] }
  | _ => none }
def fnExactNetOkRow : OpenClaim := { program := "ytlehbfacepmnfaa", sum := "7e3f2850eaad4b4634a5f6bb40050ca79961d47e76f0a350f1da33852ce5077f", func := "loop.example/g00859/laws.FnExactNetOk", spec := "fnExactNetOk", plainKeys := false, apart := false }
def FnExactNetOkSaid : Prop := fnExactNetOkRow.holds Try.pinned (OpenSpec.ofChange fnExactNetOkSpec)

/-- ITS FALSE NEIGHBOUR: 'it returns false'. Refute it at one input. -/
def fnExactNetOkWrong : ChangeSpec := { name := "fnExactNetOk", fn := fun _ => fun
  | [d] => { results := [.lit (.bool false)], args := [d] }
  | _ => none }
def FnExactNetOkWrongFalsely : Prop := fnExactNetOkRow.holds Try.pinned (OpenSpec.ofChange fnExactNetOkWrong)

/-- 'laws.FnExactWeightBetween': WHATEVER THE INPUT: true; the input reads as it did. -/
def fnExactWeightBetweenSpec : ChangeSpec := { name := "fnExactWeightBetween", fn := fun _ => fun
  | [d1, d2, d3] => { results := [.lit (.bool true)], args := [d1, d2, d3] }
  | _ => none }
def fnExactWeightBetweenRow : OpenClaim := { program := "ytlehbfacepmnfaa", sum := "7e3f2850eaad4b4634a5f6bb40050ca79961d47e76f0a350f1da33852ce5077f", func := "loop.example/g00859/laws.FnExactWeightBetween", spec := "fnExactWeightBetween", plainKeys := false, apart := false }
def FnExactWeightBetweenSaid : Prop := fnExactWeightBetweenRow.holds Try.pinned (OpenSpec.ofChange fnExactWeightBetweenSpec)

/-- ITS FALSE NEIGHBOUR: 'it returns false'. Refute it at one input. -/
def fnExactWeightBetweenWrong : ChangeSpec := { name := "fnExactWeightBetween", fn := fun _ => fun
  | [d1, d2, d3] => { results := [.lit (.bool false)], args := [d1, d2, d3] }
  | _ => none }
def FnExactWeightBetweenWrongFalsely : Prop := fnExactWeightBetweenRow.holds Try.pinned (OpenSpec.ofChange fnExactWeightBetweenWrong)

/-- 'laws.FnExactWeightAt': WHATEVER THE INPUT: true; the input reads as it did. -/
def fnExactWeightAtSpec : ChangeSpec := { name := "fnExactWeightAt", fn := fun _ => fun
  | [d1, d2] => { results := [.lit (.bool true)], args := [d1, d2] }
  | _ => none }
def fnExactWeightAtRow : OpenClaim := { program := "ytlehbfacepmnfaa", sum := "7e3f2850eaad4b4634a5f6bb40050ca79961d47e76f0a350f1da33852ce5077f", func := "loop.example/g00859/laws.FnExactWeightAt", spec := "fnExactWeightAt", plainKeys := false, apart := false }
def FnExactWeightAtSaid : Prop := fnExactWeightAtRow.holds Try.pinned (OpenSpec.ofChange fnExactWeightAtSpec)

/-- ITS FALSE NEIGHBOUR: 'it returns false'. Refute it at one input. -/
def fnExactWeightAtWrong : ChangeSpec := { name := "fnExactWeightAt", fn := fun _ => fun
  | [d1, d2] => { results := [.lit (.bool false)], args := [d1, d2] }
  | _ => none }
def FnExactWeightAtWrongFalsely : Prop := fnExactWeightAtRow.holds Try.pinned (OpenSpec.ofChange fnExactWeightAtWrong)

/-- 'laws.FnExactPutWire': WHATEVER THE INPUT: true; the input reads as it did. -/
def fnExactPutWireSpec : ChangeSpec := { name := "fnExactPutWire", fn := fun _ => fun
  | [d1, d2, d3, d4] => { results := [.lit (.bool true)], args := [d1, d2, d3, d4] }
  | _ => none }
def fnExactPutWireRow : OpenClaim := { program := "ytlehbfacepmnfaa", sum := "7e3f2850eaad4b4634a5f6bb40050ca79961d47e76f0a350f1da33852ce5077f", func := "loop.example/g00859/laws.FnExactPutWire", spec := "fnExactPutWire", unfollowed := true, recurses := true, plainKeys := false, apart := false }
def FnExactPutWireSaid : Prop := fnExactPutWireRow.holds Try.pinned (OpenSpec.ofChange fnExactPutWireSpec)

/-- ITS FALSE NEIGHBOUR: 'it returns false'. Refute it at one input. -/
def fnExactPutWireWrong : ChangeSpec := { name := "fnExactPutWire", fn := fun _ => fun
  | [d1, d2, d3, d4] => { results := [.lit (.bool false)], args := [d1, d2, d3, d4] }
  | _ => none }
def FnExactPutWireWrongFalsely : Prop := fnExactPutWireRow.holds Try.pinned (OpenSpec.ofChange fnExactPutWireWrong)

/-- 'laws.FnExactCanonNet': WHATEVER THE INPUT: true; the input reads as it did. -/
def fnExactCanonNetSpec : ChangeSpec := { name := "fnExactCanonNet", fn := fun _ => fun
  | [d] => { results := [.lit (.bool true)], args := [d] }
  | _ => none }
def fnExactCanonNetRow : OpenClaim := { program := "ytlehbfacepmnfaa", sum := "7e3f2850eaad4b4634a5f6bb40050ca79961d47e76f0a350f1da33852ce5077f", func := "loop.example/g00859/laws.FnExactCanonNet", spec := "fnExactCanonNet", plainKeys := false, apart := false }
def FnExactCanonNetSaid : Prop := fnExactCanonNetRow.holds Try.pinned (OpenSpec.ofChange fnExactCanonNetSpec)

/-- ITS FALSE NEIGHBOUR: 'it returns false'. Refute it at one input. -/
def fnExactCanonNetWrong : ChangeSpec := { name := "fnExactCanonNet", fn := fun _ => fun
  | [d] => { results := [.lit (.bool false)], args := [d] }
  | _ => none }
def FnExactCanonNetWrongFalsely : Prop := fnExactCanonNetRow.holds Try.pinned (OpenSpec.ofChange fnExactCanonNetWrong)

/-- 'laws.FnExactSameNet': WHATEVER THE INPUT: true; the input reads as it did. -/
def fnExactSameNetSpec : ChangeSpec := { name := "fnExactSameNet", fn := fun _ => fun
  | [d1, d2] => { results := [.lit (.bool true)], args := [d1, d2] }
  | _ => none }
def fnExactSameNetRow : OpenClaim := { program := "ytlehbfacepmnfaa", sum := "7e3f2850eaad4b4634a5f6bb40050ca79961d47e76f0a350f1da33852ce5077f", func := "loop.example/g00859/laws.FnExactSameNet", spec := "fnExactSameNet", plainKeys := false, apart := false }
def FnExactSameNetSaid : Prop := fnExactSameNetRow.holds Try.pinned (OpenSpec.ofChange fnExactSameNetSpec)

/-- ITS FALSE NEIGHBOUR: 'it returns false'. Refute it at one input. -/
def fnExactSameNetWrong : ChangeSpec := { name := "fnExactSameNet", fn := fun _ => fun
  | [d1, d2] => { results := [.lit (.bool false)], args := [d1, d2] }
  | _ => none }
def FnExactSameNetWrongFalsely : Prop := fnExactSameNetRow.holds Try.pinned (OpenSpec.ofChange fnExactSameNetWrong)

/-- 'laws.FnExactJoinNodes': WHATEVER THE INPUT: true; the input reads as it did. -/
def fnExactJoinNodesSpec : ChangeSpec := { name := "fnExactJoinNodes", fn := fun _ => fun
  | [d1, d2, d3] => { results := [.lit (.bool true)], args := [d1, d2, d3] }
  | _ => none }
def fnExactJoinNodesRow : OpenClaim := { program := "ytlehbfacepmnfaa", sum := "7e3f2850eaad4b4634a5f6bb40050ca79961d47e76f0a350f1da33852ce5077f", func := "loop.example/g00859/laws.FnExactJoinNodes", spec := "fnExactJoinNodes", unfollowed := true, recurses := true, plainKeys := false, apart := false }
def FnExactJoinNodesSaid : Prop := fnExactJoinNodesRow.holds Try.pinned (OpenSpec.ofChange fnExactJoinNodesSpec)

/-- ITS FALSE NEIGHBOUR: 'it returns false'. Refute it at one input. -/
def fnExactJoinNodesWrong : ChangeSpec := { name := "fnExactJoinNodes", fn := fun _ => fun
  | [d1, d2, d3] => { results := [.lit (.bool false)], args := [d1, d2, d3] }
  | _ => none }
def FnExactJoinNodesWrongFalsely : Prop := fnExactJoinNodesRow.holds Try.pinned (OpenSpec.ofChange fnExactJoinNodesWrong)

/-- 'laws.FnExactSwapNodes': WHATEVER THE INPUT: true; the input reads as it did. -/
def fnExactSwapNodesSpec : ChangeSpec := { name := "fnExactSwapNodes", fn := fun _ => fun
  | [d1, d2, d3] => { results := [.lit (.bool true)], args := [d1, d2, d3] }
  | _ => none }
def fnExactSwapNodesRow : OpenClaim := { program := "ytlehbfacepmnfaa", sum := "7e3f2850eaad4b4634a5f6bb40050ca79961d47e76f0a350f1da33852ce5077f", func := "loop.example/g00859/laws.FnExactSwapNodes", spec := "fnExactSwapNodes", unfollowed := true, recurses := true, plainKeys := false, apart := false }
def FnExactSwapNodesSaid : Prop := fnExactSwapNodesRow.holds Try.pinned (OpenSpec.ofChange fnExactSwapNodesSpec)

/-- ITS FALSE NEIGHBOUR: 'it returns false'. Refute it at one input. -/
def fnExactSwapNodesWrong : ChangeSpec := { name := "fnExactSwapNodes", fn := fun _ => fun
  | [d1, d2, d3] => { results := [.lit (.bool false)], args := [d1, d2, d3] }
  | _ => none }
def FnExactSwapNodesWrongFalsely : Prop := fnExactSwapNodesRow.holds Try.pinned (OpenSpec.ofChange fnExactSwapNodesWrong)

/- THE SECOND FORM. 'bulk': how many values and letters a reading holds, each counted each time it is reached (what is shared counts as often as it is met; a slice's spare places count too). A statement '..UptoSaid' is the law's where the arguments, and the package variables that the reading takes, are together of bulk at most 1048576: NARROWER than '..Said'. Prove '..Said' where nothing that the law and all that it calls make is longer than what came in: it says more and counts as full. Else prove '..UptoSaid'. A law counts once. -/
mutual
def uptoBulk {H : Type} : DataW H → Nat
  | .lit (.string bytes) => bytes.length + 1
  | .lit _ => 1
  | .nil => 1
  | .ptr d => uptoBulk d + 1
  | .slice elems spare => uptoBulkAll elems + uptoBulkAll spare + 1
  | .agg parts => uptoBulkAll parts + 1
  | .iface _ d => uptoBulk d + 1
  | .map entries => uptoBulkEntries entries + 1
  | .held _ => 1
def uptoBulkAll {H : Type} : List (DataW H) → Nat
  | [] => 0
  | d :: r => uptoBulk d + uptoBulkAll r
def uptoBulkEntries {H : Type} : List (Lit × DataW H) → Nat
  | [] => 0
  | x :: r => uptoBulkEntry x + uptoBulkEntries r
def uptoBulkEntry {H : Type} : Lit × DataW H → Nat
  | (.string bytes, d) => bytes.length + uptoBulk d + 1
  | (_, d) => uptoBulk d + 1
 end
def uptoSmall : (H : Type) → List (DataW H) → Bool := fun _ ds => decide (uptoBulkAll ds ≤ 1048576)
def OpenSpec.upto (s : _root_.Go.ChangeSpec) : _root_.Go.OpenSpec := { _root_.Go.OpenSpec.ofChange s with cond := some uptoSmall }

/-- 'laws.FnExactNetOk', WHERE WHAT IT READS IS OF BULK AT MOST 1048576: true; the input reads as it did. -/
def fnExactNetOkUptoRow : OpenClaim := { program := "ytlehbfacepmnfaa", sum := "7e3f2850eaad4b4634a5f6bb40050ca79961d47e76f0a350f1da33852ce5077f", func := "loop.example/g00859/laws.FnExactNetOk", spec := "fnExactNetOk", plainKeys := false, apart := false, narrowed := true }
def FnExactNetOkUptoSaid : Prop := fnExactNetOkUptoRow.holds Try.pinned (OpenSpec.upto fnExactNetOkSpec)

/-- 'laws.FnExactWeightBetween', WHERE WHAT IT READS IS OF BULK AT MOST 1048576: true; the input reads as it did. -/
def fnExactWeightBetweenUptoRow : OpenClaim := { program := "ytlehbfacepmnfaa", sum := "7e3f2850eaad4b4634a5f6bb40050ca79961d47e76f0a350f1da33852ce5077f", func := "loop.example/g00859/laws.FnExactWeightBetween", spec := "fnExactWeightBetween", plainKeys := false, apart := false, narrowed := true }
def FnExactWeightBetweenUptoSaid : Prop := fnExactWeightBetweenUptoRow.holds Try.pinned (OpenSpec.upto fnExactWeightBetweenSpec)

/-- 'laws.FnExactWeightAt', WHERE WHAT IT READS IS OF BULK AT MOST 1048576: true; the input reads as it did. -/
def fnExactWeightAtUptoRow : OpenClaim := { program := "ytlehbfacepmnfaa", sum := "7e3f2850eaad4b4634a5f6bb40050ca79961d47e76f0a350f1da33852ce5077f", func := "loop.example/g00859/laws.FnExactWeightAt", spec := "fnExactWeightAt", plainKeys := false, apart := false, narrowed := true }
def FnExactWeightAtUptoSaid : Prop := fnExactWeightAtUptoRow.holds Try.pinned (OpenSpec.upto fnExactWeightAtSpec)

/-- 'laws.FnExactPutWire', WHERE WHAT IT READS IS OF BULK AT MOST 1048576: true; the input reads as it did. -/
def fnExactPutWireUptoRow : OpenClaim := { program := "ytlehbfacepmnfaa", sum := "7e3f2850eaad4b4634a5f6bb40050ca79961d47e76f0a350f1da33852ce5077f", func := "loop.example/g00859/laws.FnExactPutWire", spec := "fnExactPutWire", unfollowed := true, recurses := true, plainKeys := false, apart := false, narrowed := true }
def FnExactPutWireUptoSaid : Prop := fnExactPutWireUptoRow.holds Try.pinned (OpenSpec.upto fnExactPutWireSpec)

/-- 'laws.FnExactCanonNet', WHERE WHAT IT READS IS OF BULK AT MOST 1048576: true; the input reads as it did. -/
def fnExactCanonNetUptoRow : OpenClaim := { program := "ytlehbfacepmnfaa", sum := "7e3f2850eaad4b4634a5f6bb40050ca79961d47e76f0a350f1da33852ce5077f", func := "loop.example/g00859/laws.FnExactCanonNet", spec := "fnExactCanonNet", plainKeys := false, apart := false, narrowed := true }
def FnExactCanonNetUptoSaid : Prop := fnExactCanonNetUptoRow.holds Try.pinned (OpenSpec.upto fnExactCanonNetSpec)

/-- 'laws.FnExactSameNet', WHERE WHAT IT READS IS OF BULK AT MOST 1048576: true; the input reads as it did. -/
def fnExactSameNetUptoRow : OpenClaim := { program := "ytlehbfacepmnfaa", sum := "7e3f2850eaad4b4634a5f6bb40050ca79961d47e76f0a350f1da33852ce5077f", func := "loop.example/g00859/laws.FnExactSameNet", spec := "fnExactSameNet", plainKeys := false, apart := false, narrowed := true }
def FnExactSameNetUptoSaid : Prop := fnExactSameNetUptoRow.holds Try.pinned (OpenSpec.upto fnExactSameNetSpec)

/-- 'laws.FnExactJoinNodes', WHERE WHAT IT READS IS OF BULK AT MOST 1048576: true; the input reads as it did. -/
def fnExactJoinNodesUptoRow : OpenClaim := { program := "ytlehbfacepmnfaa", sum := "7e3f2850eaad4b4634a5f6bb40050ca79961d47e76f0a350f1da33852ce5077f", func := "loop.example/g00859/laws.FnExactJoinNodes", spec := "fnExactJoinNodes", unfollowed := true, recurses := true, plainKeys := false, apart := false, narrowed := true }
def FnExactJoinNodesUptoSaid : Prop := fnExactJoinNodesUptoRow.holds Try.pinned (OpenSpec.upto fnExactJoinNodesSpec)

/-- 'laws.FnExactSwapNodes', WHERE WHAT IT READS IS OF BULK AT MOST 1048576: true; the input reads as it did. -/
def fnExactSwapNodesUptoRow : OpenClaim := { program := "ytlehbfacepmnfaa", sum := "7e3f2850eaad4b4634a5f6bb40050ca79961d47e76f0a350f1da33852ce5077f", func := "loop.example/g00859/laws.FnExactSwapNodes", spec := "fnExactSwapNodes", unfollowed := true, recurses := true, plainKeys := false, apart := false, narrowed := true }
def FnExactSwapNodesUptoSaid : Prop := fnExactSwapNodesUptoRow.holds Try.pinned (OpenSpec.upto fnExactSwapNodesSpec)

end Rows
end Go.Proofs.Ytlehbfacepmnfaa
