/-
  No cell of these rows narrows 'for every input' (looked for: loops, veiled, ifaces, maps, wideKeys, modest, calm, conditions, laid).
  DERIVED. THE GIVEN ROWS OF THIS SEAT. 5 by the template 'for every input the law returns true; each argument reads behind the call as it read before'; 0 by the template 'total and deterministic' (their statements: YtalonncjdohejaaTotals.lean).
  GIVEN WITH THE SEED: the statements are not yours to turn. If you find one false, say at which input.
  Laid BY PROGRAM, IN A SANDBOX (cutbox-rows.mjs): the forced cells as the released guide's own fill.sh prints them over the translation 825ac94d6187a401… (all of the seat's roots in one cut). By AI agents, Wed Nov 11 2026. No macro, syntax, notation, axiom, sorry.
-/
import Derived.Test.YtalonncjdohejaaChecked
import GoSem.Claim
import GoSem.ClaimJoined
import GoSem.ClaimMapViews
import Derived.JoinedTies
import Derived.KernelRfl
namespace Go.Proofs.Ytalonncjdohejaa
/- THE CELL 'sum', in the pinned program and in every row, IS THE sha256 OF THE DUMP (.gsa) THAT YtalonncjdohejaaProg.lean LOADS. Nothing in Lean hashes anything: it is a label: what it is worth is what the hold of that sum in a sandbox is worth. -/
noncomputable def Try.pinned : Pinned := { name := "ytalonncjdohejaa", sum := "825ac94d6187a401738f23c2c3a7d280f065c2a0dbfb9468d036588f619be5f4", checked := Try.checked }
namespace Rows
def none {H : Type} : Left H := { results := [], args := [] }

/-- 'laws.FnExactCircularPairs': WHATEVER THE INPUT: true; the input reads as it did. -/
def fnExactCircularPairsSpec : ChangeSpec := { name := "fnExactCircularPairs", fn := fun _ => fun
  | [d] => { results := [.lit (.bool true)], args := [d] }
  | _ => none }
def fnExactCircularPairsRow : OpenClaim := { program := "ytalonncjdohejaa", sum := "825ac94d6187a401738f23c2c3a7d280f065c2a0dbfb9468d036588f619be5f4", func := "loop.example/g00859/laws.FnExactCircularPairs", spec := "fnExactCircularPairs", unfollowed := true, recurses := true, plainKeys := false, apart := false }
def FnExactCircularPairsSaid : Prop := fnExactCircularPairsRow.holds Try.pinned (OpenSpec.ofChange fnExactCircularPairsSpec)

/-- ITS FALSE NEIGHBOUR: 'it returns false'. Refute it at one input. -/
def fnExactCircularPairsWrong : ChangeSpec := { name := "fnExactCircularPairs", fn := fun _ => fun
  | [d] => { results := [.lit (.bool false)], args := [d] }
  | _ => none }
def FnExactCircularPairsWrongFalsely : Prop := fnExactCircularPairsRow.holds Try.pinned (OpenSpec.ofChange fnExactCircularPairsWrong)

/-- 'laws.FnExactPlanarReason': WHATEVER THE INPUT: true; the input reads as it did. -/
def fnExactPlanarReasonSpec : ChangeSpec := { name := "fnExactPlanarReason", fn := fun _ => fun
  | [d] => { results := [.lit (.bool true)], args := [d] }
  | _ => none }
def fnExactPlanarReasonRow : OpenClaim := { program := "ytalonncjdohejaa", sum := "825ac94d6187a401738f23c2c3a7d280f065c2a0dbfb9468d036588f619be5f4", func := "loop.example/g00859/laws.FnExactPlanarReason", spec := "fnExactPlanarReason", unfollowed := true, recurses := true, plainKeys := false, apart := false }
def FnExactPlanarReasonSaid : Prop := fnExactPlanarReasonRow.holds Try.pinned (OpenSpec.ofChange fnExactPlanarReasonSpec)

/-- ITS FALSE NEIGHBOUR: 'it returns false'. Refute it at one input. -/
def fnExactPlanarReasonWrong : ChangeSpec := { name := "fnExactPlanarReason", fn := fun _ => fun
  | [d] => { results := [.lit (.bool false)], args := [d] }
  | _ => none }
def FnExactPlanarReasonWrongFalsely : Prop := fnExactPlanarReasonRow.holds Try.pinned (OpenSpec.ofChange fnExactPlanarReasonWrong)

/-- 'laws.FnExactIsPlanarMatrix': WHATEVER THE INPUT: true; the input reads as it did. -/
def fnExactIsPlanarMatrixSpec : ChangeSpec := { name := "fnExactIsPlanarMatrix", fn := fun _ => fun
  | [d] => { results := [.lit (.bool true)], args := [d] }
  | _ => none }
def fnExactIsPlanarMatrixRow : OpenClaim := { program := "ytalonncjdohejaa", sum := "825ac94d6187a401738f23c2c3a7d280f065c2a0dbfb9468d036588f619be5f4", func := "loop.example/g00859/laws.FnExactIsPlanarMatrix", spec := "fnExactIsPlanarMatrix", unfollowed := true, recurses := true, plainKeys := false, apart := false }
def FnExactIsPlanarMatrixSaid : Prop := fnExactIsPlanarMatrixRow.holds Try.pinned (OpenSpec.ofChange fnExactIsPlanarMatrixSpec)

/-- ITS FALSE NEIGHBOUR: 'it returns false'. Refute it at one input. -/
def fnExactIsPlanarMatrixWrong : ChangeSpec := { name := "fnExactIsPlanarMatrix", fn := fun _ => fun
  | [d] => { results := [.lit (.bool false)], args := [d] }
  | _ => none }
def FnExactIsPlanarMatrixWrongFalsely : Prop := fnExactIsPlanarMatrixRow.holds Try.pinned (OpenSpec.ofChange fnExactIsPlanarMatrixWrong)

/-- 'laws.FnExactApplyFault': WHATEVER THE INPUT: true; the input reads as it did. -/
def fnExactApplyFaultSpec : ChangeSpec := { name := "fnExactApplyFault", fn := fun _ => fun
  | [d1, d2] => { results := [.lit (.bool true)], args := [d1, d2] }
  | _ => none }
def fnExactApplyFaultRow : OpenClaim := { program := "ytalonncjdohejaa", sum := "825ac94d6187a401738f23c2c3a7d280f065c2a0dbfb9468d036588f619be5f4", func := "loop.example/g00859/laws.FnExactApplyFault", spec := "fnExactApplyFault", unfollowed := true, recurses := true, plainKeys := false, apart := false }
def FnExactApplyFaultSaid : Prop := fnExactApplyFaultRow.holds Try.pinned (OpenSpec.ofChange fnExactApplyFaultSpec)

/-- ITS FALSE NEIGHBOUR: 'it returns false'. Refute it at one input. -/
def fnExactApplyFaultWrong : ChangeSpec := { name := "fnExactApplyFault", fn := fun _ => fun
  | [d1, d2] => { results := [.lit (.bool false)], args := [d1, d2] }
  | _ => none }
def FnExactApplyFaultWrongFalsely : Prop := fnExactApplyFaultRow.holds Try.pinned (OpenSpec.ofChange fnExactApplyFaultWrong)

/-- 'laws.FnExactBlindWires': WHATEVER THE INPUT: true; the input reads as it did. -/
def fnExactBlindWiresSpec : ChangeSpec := { name := "fnExactBlindWires", fn := fun _ => fun
  | [d] => { results := [.lit (.bool true)], args := [d] }
  | _ => none }
def fnExactBlindWiresRow : OpenClaim := { program := "ytalonncjdohejaa", sum := "825ac94d6187a401738f23c2c3a7d280f065c2a0dbfb9468d036588f619be5f4", func := "loop.example/g00859/laws.FnExactBlindWires", spec := "fnExactBlindWires", recurses := true, plainKeys := false, apart := false }
def FnExactBlindWiresSaid : Prop := fnExactBlindWiresRow.holds Try.pinned (OpenSpec.ofChange fnExactBlindWiresSpec)

/-- ITS FALSE NEIGHBOUR: 'it returns false'. Refute it at one input. -/
def fnExactBlindWiresWrong : ChangeSpec := { name := "fnExactBlindWires", fn := fun _ => fun
  | [d] => { results := [.lit (.bool false)], args := [d] }
  | _ => none }
def FnExactBlindWiresWrongFalsely : Prop := fnExactBlindWiresRow.holds Try.pinned (OpenSpec.ofChange fnExactBlindWiresWrong)

/- THE SECOND FORM. 'bulk': how many values and letters a reading holds, each counted each time it is reached (what is shared counts as often as it is met; a slice's spare places count too). A statement '..UptoSaid' is the law's where the arguments, and the package variables that the reading takes, are together of bulk at most 1048576: NARROWER than '..Said'. Prove '..Said' where nothing that the law and all that it calls make is longer than what came in: it says more and counts as full. Else prove '..UptoSaid'. A law counts once. -/
mutual
def uptoBulk {H : Type} : DataW H → Nat
  | .lit (.string bytes) => bytes.length + 1
  | .lit _ => 1
  | .nil => 1
  | .ptr d => uptoBulk d + 1
  | .slice elems spare => uptoBulkAll elems + uptoBulkAll spare + 1
  | .agg parts => uptoBulkAll parts + 1
  | .iface _ d => uptoBulk d + 1
  | .map entries => uptoBulkEntries entries + 1
  | .held _ => 1
def uptoBulkAll {H : Type} : List (DataW H) → Nat
  | [] => 0
  | d :: r => uptoBulk d + uptoBulkAll r
def uptoBulkEntries {H : Type} : List (Lit × DataW H) → Nat
  | [] => 0
  | x :: r => uptoBulkEntry x + uptoBulkEntries r
def uptoBulkEntry {H : Type} : Lit × DataW H → Nat
  | (.string bytes, d) => bytes.length + uptoBulk d + 1
  | (_, d) => uptoBulk d + 1
 end
def uptoSmall : (H : Type) → List (DataW H) → Bool := fun _ ds => decide (uptoBulkAll ds ≤ 1048576)
def OpenSpec.upto (s : _root_.Go.ChangeSpec) : _root_.Go.OpenSpec := { _root_.Go.OpenSpec.ofChange s with cond := some uptoSmall }

/-- 'laws.FnExactCircularPairs', WHERE WHAT IT READS IS OF BULK AT MOST 1048576: true; the input reads as it did. -/
def fnExactCircularPairsUptoRow : OpenClaim := { program := "ytalonncjdohejaa", sum := "825ac94d6187a401738f23c2c3a7d280f065c2a0dbfb9468d036588f619be5f4", func := "loop.example/g00859/laws.FnExactCircularPairs", spec := "fnExactCircularPairs", unfollowed := true, recurses := true, plainKeys := false, apart := false, narrowed := true }
def FnExactCircularPairsUptoSaid : Prop := fnExactCircularPairsUptoRow.holds Try.pinned (OpenSpec.upto fnExactCircularPairsSpec)

/-- 'laws.FnExactPlanarReason', WHERE WHAT IT READS IS OF BULK AT MOST 1048576: true; the input reads as it did. -/
def fnExactPlanarReasonUptoRow : OpenClaim := { program := "ytalonncjdohejaa", sum := "825ac94d6187a401738f23c2c3a7d280f065c2a0dbfb9468d036588f619be5f4", func := "loop.example/g00859/laws.FnExactPlanarReason", spec := "fnExactPlanarReason", unfollowed := true, recurses := true, plainKeys := false, apart := false, narrowed := true }
def FnExactPlanarReasonUptoSaid : Prop := fnExactPlanarReasonUptoRow.holds Try.pinned (OpenSpec.upto fnExactPlanarReasonSpec)

/-- 'laws.FnExactIsPlanarMatrix', WHERE WHAT IT READS IS OF BULK AT MOST 1048576: true; the input reads as it did. -/
def fnExactIsPlanarMatrixUptoRow : OpenClaim := { program := "ytalonncjdohejaa", sum := "825ac94d6187a401738f23c2c3a7d280f065c2a0dbfb9468d036588f619be5f4", func := "loop.example/g00859/laws.FnExactIsPlanarMatrix", spec := "fnExactIsPlanarMatrix", unfollowed := true, recurses := true, plainKeys := false, apart := false, narrowed := true }
def FnExactIsPlanarMatrixUptoSaid : Prop := fnExactIsPlanarMatrixUptoRow.holds Try.pinned (OpenSpec.upto fnExactIsPlanarMatrixSpec)

/-- 'laws.FnExactApplyFault', WHERE WHAT IT READS IS OF BULK AT MOST 1048576: true; the input reads as it did. -/
def fnExactApplyFaultUptoRow : OpenClaim := { program := "ytalonncjdohejaa", sum := "825ac94d6187a401738f23c2c3a7d280f065c2a0dbfb9468d036588f619be5f4", func := "loop.example/g00859/laws.FnExactApplyFault", spec := "fnExactApplyFault", unfollowed := true, recurses := true, plainKeys := false, apart := false, narrowed := true }
def FnExactApplyFaultUptoSaid : Prop := fnExactApplyFaultUptoRow.holds Try.pinned (OpenSpec.upto fnExactApplyFaultSpec)

/-- 'laws.FnExactBlindWires', WHERE WHAT IT READS IS OF BULK AT MOST 1048576: true; the input reads as it did. -/
def fnExactBlindWiresUptoRow : OpenClaim := { program := "ytalonncjdohejaa", sum := "825ac94d6187a401738f23c2c3a7d280f065c2a0dbfb9468d036588f619be5f4", func := "loop.example/g00859/laws.FnExactBlindWires", spec := "fnExactBlindWires", recurses := true, plainKeys := false, apart := false, narrowed := true }
def FnExactBlindWiresUptoSaid : Prop := fnExactBlindWiresUptoRow.holds Try.pinned (OpenSpec.upto fnExactBlindWiresSpec)

end Rows
end Go.Proofs.Ytalonncjdohejaa
