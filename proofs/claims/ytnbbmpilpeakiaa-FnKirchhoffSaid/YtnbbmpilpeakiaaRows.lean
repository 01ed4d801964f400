/-
  No cell of these rows narrows 'for every input' (looked for: loops, veiled, ifaces, maps, wideKeys, modest, calm, conditions, laid).
  DERIVED. THE GIVEN ROWS OF THIS SEAT. 11 by the template 'for every input the law returns true; each argument reads behind the call as it read before'; 0 by the template 'total and deterministic' (their statements: YtnbbmpilpeakiaaTotals.lean).
  GIVEN WITH THE SEED: the statements are not yours to turn. If you find one false, say at which input.
  Laid BY PROGRAM, IN A SANDBOX (cutbox-rows.mjs): the forced cells as the released guide's own fill.sh prints them over the translation 57e31352a7de0d8e… (all of the seat's roots in one cut). By AI agents, Wed Nov 11 2026. No macro, syntax, notation, axiom, sorry.
-/
import Derived.Test.YtnbbmpilpeakiaaChecked
import GoSem.Claim
import GoSem.ClaimJoined
import GoSem.ClaimMapViews
import Derived.JoinedTies
import Derived.KernelRfl
namespace Go.Proofs.Ytnbbmpilpeakiaa
/- THE CELL 'sum', in the pinned program and in every row, IS THE sha256 OF THE DUMP (.gsa) THAT YtnbbmpilpeakiaaProg.lean LOADS. Nothing in Lean hashes anything: it is a label: what it is worth is what the hold of that sum in a sandbox is worth. -/
noncomputable def Try.pinned : Pinned := { name := "ytnbbmpilpeakiaa", sum := "57e31352a7de0d8e89dda40936ef98dbe617eceae4abb0613aeeb64056424370", checked := Try.checked }
namespace Rows
def none {H : Type} : Left H := { results := [], args := [] }

/-- 'laws.FnRatios': WHATEVER THE INPUT: true; the input reads as it did. -/
def fnRatiosSpec : ChangeSpec := { name := "fnRatios", fn := fun _ => fun
  | [d] => { results := [.lit (.bool true)], args := [d] }
  | _ => none }
def fnRatiosRow : OpenClaim := { program := "ytnbbmpilpeakiaa", sum := "57e31352a7de0d8e89dda40936ef98dbe617eceae4abb0613aeeb64056424370", func := "loop.example/g00859/laws.FnRatios", spec := "fnRatios", apart := false }
def FnRatiosSaid : Prop := fnRatiosRow.holds Try.pinned (OpenSpec.ofChange fnRatiosSpec)

/-- ITS FALSE NEIGHBOUR: 'it returns false'. Refute it at one input. -/
def fnRatiosWrong : ChangeSpec := { name := "fnRatios", fn := fun _ => fun
  | [d] => { results := [.lit (.bool false)], args := [d] }
  | _ => none }
def FnRatiosWrongFalsely : Prop := fnRatiosRow.holds Try.pinned (OpenSpec.ofChange fnRatiosWrong)

/-- 'laws.FnKirchhoff': WHATEVER THE INPUT: true; the input reads as it did. -/
def fnKirchhoffSpec : ChangeSpec := { name := "fnKirchhoff", fn := fun _ => fun
  | [d] => { results := [.lit (.bool true)], args := [d] }
  | _ => none }
def fnKirchhoffRow : OpenClaim := { program := "ytnbbmpilpeakiaa", sum := "57e31352a7de0d8e89dda40936ef98dbe617eceae4abb0613aeeb64056424370", func := "loop.example/g00859/laws.FnKirchhoff", spec := "fnKirchhoff", unfollowed := true, recurses := true, apart := false }
def FnKirchhoffSaid : Prop := fnKirchhoffRow.holds Try.pinned (OpenSpec.ofChange fnKirchhoffSpec)

/-- ITS FALSE NEIGHBOUR: 'it returns false'. Refute it at one input. -/
def fnKirchhoffWrong : ChangeSpec := { name := "fnKirchhoff", fn := fun _ => fun
  | [d] => { results := [.lit (.bool false)], args := [d] }
  | _ => none }
def FnKirchhoffWrongFalsely : Prop := fnKirchhoffRow.holds Try.pinned (OpenSpec.ofChange fnKirchhoffWrong)

/-- 'laws.FnPower': WHATEVER THE INPUT: true; the input reads as it did. -/
def fnPowerSpec : ChangeSpec := { name := "fnPower", fn := fun _ => fun
  | [d] => { results := [.lit (.bool true)], args := [d] }
  | _ => none }
def fnPowerRow : OpenClaim := { program := "ytnbbmpilpeakiaa", sum := "57e31352a7de0d8e89dda40936ef98dbe617eceae4abb0613aeeb64056424370", func := "loop.example/g00859/laws.FnPower", spec := "fnPower", unfollowed := true, recurses := true, apart := false }
def FnPowerSaid : Prop := fnPowerRow.holds Try.pinned (OpenSpec.ofChange fnPowerSpec)

/-- ITS FALSE NEIGHBOUR: 'it returns false'. Refute it at one input. -/
def fnPowerWrong : ChangeSpec := { name := "fnPower", fn := fun _ => fun
  | [d] => { results := [.lit (.bool false)], args := [d] }
  | _ => none }
def FnPowerWrongFalsely : Prop := fnPowerRow.holds Try.pinned (OpenSpec.ofChange fnPowerWrong)

/-- 'laws.FnExactRatioSum': WHATEVER THE INPUT: true; the input reads as it did. -/
def fnExactRatioSumSpec : ChangeSpec := { name := "fnExactRatioSum", fn := fun _ => fun
  | [d1, d2] => { results := [.lit (.bool true)], args := [d1, d2] }
  | _ => none }
def fnExactRatioSumRow : OpenClaim := { program := "ytnbbmpilpeakiaa", sum := "57e31352a7de0d8e89dda40936ef98dbe617eceae4abb0613aeeb64056424370", func := "loop.example/g00859/laws.FnExactRatioSum", spec := "fnExactRatioSum", apart := false }
def FnExactRatioSumSaid : Prop := fnExactRatioSumRow.holds Try.pinned (OpenSpec.ofChange fnExactRatioSumSpec)

/-- ITS FALSE NEIGHBOUR: 'it returns false'. Refute it at one input. -/
def fnExactRatioSumWrong : ChangeSpec := { name := "fnExactRatioSum", fn := fun _ => fun
  | [d1, d2] => { results := [.lit (.bool false)], args := [d1, d2] }
  | _ => none }
def FnExactRatioSumWrongFalsely : Prop := fnExactRatioSumRow.holds Try.pinned (OpenSpec.ofChange fnExactRatioSumWrong)

/-- 'laws.FnExactRatioDiff': WHATEVER THE INPUT: true; the input reads as it did. -/
def fnExactRatioDiffSpec : ChangeSpec := { name := "fnExactRatioDiff", fn := fun _ => fun
  | [d1, d2] => { results := [.lit (.bool true)], args := [d1, d2] }
  | _ => none }
def fnExactRatioDiffRow : OpenClaim := { program := "ytnbbmpilpeakiaa", sum := "57e31352a7de0d8e89dda40936ef98dbe617eceae4abb0613aeeb64056424370", func := "loop.example/g00859/laws.FnExactRatioDiff", spec := "fnExactRatioDiff", apart := false }
def FnExactRatioDiffSaid : Prop := fnExactRatioDiffRow.holds Try.pinned (OpenSpec.ofChange fnExactRatioDiffSpec)

/-- ITS FALSE NEIGHBOUR: 'it returns false'. Refute it at one input. -/
def fnExactRatioDiffWrong : ChangeSpec := { name := "fnExactRatioDiff", fn := fun _ => fun
  | [d1, d2] => { results := [.lit (.bool false)], args := [d1, d2] }
  | _ => none }
def FnExactRatioDiffWrongFalsely : Prop := fnExactRatioDiffRow.holds Try.pinned (OpenSpec.ofChange fnExactRatioDiffWrong)

/-- 'laws.FnExactRatioTimes': WHATEVER THE INPUT: true; the input reads as it did. -/
def fnExactRatioTimesSpec : ChangeSpec := { name := "fnExactRatioTimes", fn := fun _ => fun
  | [d1, d2] => { results := [.lit (.bool true)], args := [d1, d2] }
  | _ => none }
def fnExactRatioTimesRow : OpenClaim := { program := "ytnbbmpilpeakiaa", sum := "57e31352a7de0d8e89dda40936ef98dbe617eceae4abb0613aeeb64056424370", func := "loop.example/g00859/laws.FnExactRatioTimes", spec := "fnExactRatioTimes", apart := false }
def FnExactRatioTimesSaid : Prop := fnExactRatioTimesRow.holds Try.pinned (OpenSpec.ofChange fnExactRatioTimesSpec)

/-- ITS FALSE NEIGHBOUR: 'it returns false'. Refute it at one input. -/
def fnExactRatioTimesWrong : ChangeSpec := { name := "fnExactRatioTimes", fn := fun _ => fun
  | [d1, d2] => { results := [.lit (.bool false)], args := [d1, d2] }
  | _ => none }
def FnExactRatioTimesWrongFalsely : Prop := fnExactRatioTimesRow.holds Try.pinned (OpenSpec.ofChange fnExactRatioTimesWrong)

/-- 'laws.FnExactRatioInverse': WHATEVER THE INPUT: true; the input reads as it did. -/
def fnExactRatioInverseSpec : ChangeSpec := { name := "fnExactRatioInverse", fn := fun _ => fun
  | [d] => { results := [.lit (.bool true)], args := [d] }
  | _ => none }
def fnExactRatioInverseRow : OpenClaim := { program := "ytnbbmpilpeakiaa", sum := "57e31352a7de0d8e89dda40936ef98dbe617eceae4abb0613aeeb64056424370", func := "loop.example/g00859/laws.FnExactRatioInverse", spec := "fnExactRatioInverse", apart := false }
def FnExactRatioInverseSaid : Prop := fnExactRatioInverseRow.holds Try.pinned (OpenSpec.ofChange fnExactRatioInverseSpec)

/-- ITS FALSE NEIGHBOUR: 'it returns false'. Refute it at one input. -/
def fnExactRatioInverseWrong : ChangeSpec := { name := "fnExactRatioInverse", fn := fun _ => fun
  | [d] => { results := [.lit (.bool false)], args := [d] }
  | _ => none }
def FnExactRatioInverseWrongFalsely : Prop := fnExactRatioInverseRow.holds Try.pinned (OpenSpec.ofChange fnExactRatioInverseWrong)

/-- 'laws.FnExactResistanceOf': WHATEVER THE INPUT: true; the input reads as it did. -/
def fnExactResistanceOfSpec : ChangeSpec := { name := "fnExactResistanceOf", fn := fun _ => fun
  | [d1, d2, d3] => { results := [.lit (.bool true)], args := [d1, d2, d3] }
  | _ => none }
def fnExactResistanceOfRow : OpenClaim := { program := "ytnbbmpilpeakiaa", sum := "57e31352a7de0d8e89dda40936ef98dbe617eceae4abb0613aeeb64056424370", func := "loop.example/g00859/laws.FnExactResistanceOf", spec := "fnExactResistanceOf", unfollowed := true, recurses := true, apart := false }
def FnExactResistanceOfSaid : Prop := fnExactResistanceOfRow.holds Try.pinned (OpenSpec.ofChange fnExactResistanceOfSpec)

/-- ITS FALSE NEIGHBOUR: 'it returns false'. Refute it at one input. -/
def fnExactResistanceOfWrong : ChangeSpec := { name := "fnExactResistanceOf", fn := fun _ => fun
  | [d1, d2, d3] => { results := [.lit (.bool false)], args := [d1, d2, d3] }
  | _ => none }
def FnExactResistanceOfWrongFalsely : Prop := fnExactResistanceOfRow.holds Try.pinned (OpenSpec.ofChange fnExactResistanceOfWrong)

/-- 'laws.FnExactPotentialsOf': WHATEVER THE INPUT: true; the input reads as it did. -/
def fnExactPotentialsOfSpec : ChangeSpec := { name := "fnExactPotentialsOf", fn := fun _ => fun
  | [d1, d2, d3] => { results := [.lit (.bool true)], args := [d1, d2, d3] }
  | _ => none }
def fnExactPotentialsOfRow : OpenClaim := { program := "ytnbbmpilpeakiaa", sum := "57e31352a7de0d8e89dda40936ef98dbe617eceae4abb0613aeeb64056424370", func := "loop.example/g00859/laws.FnExactPotentialsOf", spec := "fnExactPotentialsOf", unfollowed := true, recurses := true, apart := false }
def FnExactPotentialsOfSaid : Prop := fnExactPotentialsOfRow.holds Try.pinned (OpenSpec.ofChange fnExactPotentialsOfSpec)

/-- ITS FALSE NEIGHBOUR: 'it returns false'. Refute it at one input. -/
def fnExactPotentialsOfWrong : ChangeSpec := { name := "fnExactPotentialsOf", fn := fun _ => fun
  | [d1, d2, d3] => { results := [.lit (.bool false)], args := [d1, d2, d3] }
  | _ => none }
def FnExactPotentialsOfWrongFalsely : Prop := fnExactPotentialsOfRow.holds Try.pinned (OpenSpec.ofChange fnExactPotentialsOfWrong)

/-- 'laws.FnExactCurrentOn': WHATEVER THE INPUT: true; the input reads as it did. -/
def fnExactCurrentOnSpec : ChangeSpec := { name := "fnExactCurrentOn", fn := fun _ => fun
  | [d1, d2, d3, d4, d5] => { results := [.lit (.bool true)], args := [d1, d2, d3, d4, d5] }
  | _ => none }
def fnExactCurrentOnRow : OpenClaim := { program := "ytnbbmpilpeakiaa", sum := "57e31352a7de0d8e89dda40936ef98dbe617eceae4abb0613aeeb64056424370", func := "loop.example/g00859/laws.FnExactCurrentOn", spec := "fnExactCurrentOn", unfollowed := true, recurses := true, apart := false }
def FnExactCurrentOnSaid : Prop := fnExactCurrentOnRow.holds Try.pinned (OpenSpec.ofChange fnExactCurrentOnSpec)

/-- ITS FALSE NEIGHBOUR: 'it returns false'. Refute it at one input. -/
def fnExactCurrentOnWrong : ChangeSpec := { name := "fnExactCurrentOn", fn := fun _ => fun
  | [d1, d2, d3, d4, d5] => { results := [.lit (.bool false)], args := [d1, d2, d3, d4, d5] }
  | _ => none }
def FnExactCurrentOnWrongFalsely : Prop := fnExactCurrentOnRow.holds Try.pinned (OpenSpec.ofChange fnExactCurrentOnWrong)

/-- 'laws.FnExactPowerOf': WHATEVER THE INPUT: true; the input reads as it did. -/
def fnExactPowerOfSpec : ChangeSpec := { name := "fnExactPowerOf", fn := fun _ => fun
  | [d1, d2] => { results := [.lit (.bool true)], args := [d1, d2] }
  | _ => none }
def fnExactPowerOfRow : OpenClaim := { program := "ytnbbmpilpeakiaa", sum := "57e31352a7de0d8e89dda40936ef98dbe617eceae4abb0613aeeb64056424370", func := "loop.example/g00859/laws.FnExactPowerOf", spec := "fnExactPowerOf", apart := false }
def FnExactPowerOfSaid : Prop := fnExactPowerOfRow.holds Try.pinned (OpenSpec.ofChange fnExactPowerOfSpec)

/-- ITS FALSE NEIGHBOUR: 'it returns false'. Refute it at one input. -/
def fnExactPowerOfWrong : ChangeSpec := { name := "fnExactPowerOf", fn := fun _ => fun
  | [d1, d2] => { results := [.lit (.bool false)], args := [d1, d2] }
  | _ => none }
def FnExactPowerOfWrongFalsely : Prop := fnExactPowerOfRow.holds Try.pinned (OpenSpec.ofChange fnExactPowerOfWrong)

/- THE SECOND FORM. 'bulk': how many values and letters a reading holds, each counted each time it is reached (what is shared counts as often as it is met; a slice's spare places count too). A statement '..UptoSaid' is the law's where the arguments, and the package variables that the reading takes, are together of bulk at most 1048576: NARROWER than '..Said'. Prove '..Said' where nothing that the law and all that it calls make is longer than what came in: it says more and counts as full. Else prove '..UptoSaid'. A law counts once. -/
mutual
def uptoBulk {H : Type} : DataW H → Nat
  | .lit (.string bytes) => bytes.length + 1
  | .lit _ => 1
  | .nil => 1
  | .ptr d => uptoBulk d + 1
  | .slice elems spare => uptoBulkAll elems + uptoBulkAll spare + 1
  | .agg parts => uptoBulkAll parts + 1
  | .iface _ d => uptoBulk d + 1
  | .map entries => uptoBulkEntries entries + 1
  | .held _ => 1
def uptoBulkAll {H : Type} : List (DataW H) → Nat
  | [] => 0
  | d :: r => uptoBulk d + uptoBulkAll r
def uptoBulkEntries {H : Type} : List (Lit × DataW H) → Nat
  | [] => 0
  | x :: r => uptoBulkEntry x + uptoBulkEntries r
def uptoBulkEntry {H : Type} : Lit × DataW H → Nat
  | (.string bytes, d) => bytes.length + uptoBulk d + 1
  | (_, d) => uptoBulk d + 1
 end
def uptoSmall : (H : Type) → List (DataW H) → Bool := fun _ ds => decide (uptoBulkAll ds ≤ 1048576)
def OpenSpec.upto (s : _root_.Go.ChangeSpec) : _root_.Go.OpenSpec := { _root_.Go.OpenSpec.ofChange s with cond := some uptoSmall }

/-- 'laws.FnRatios', WHERE WHAT IT READS IS OF BULK AT MOST 1048576: true; the input reads as it did. -/
def fnRatiosUptoRow : OpenClaim := { program := "ytnbbmpilpeakiaa", sum := "57e31352a7de0d8e89dda40936ef98dbe617eceae4abb0613aeeb64056424370", func := "loop.example/g00859/laws.FnRatios", spec := "fnRatios", apart := false, narrowed := true }
def FnRatiosUptoSaid : Prop := fnRatiosUptoRow.holds Try.pinned (OpenSpec.upto fnRatiosSpec)

/-- 'laws.FnKirchhoff', WHERE WHAT IT READS IS OF BULK AT MOST 1048576: true; the input reads as it did. -/
def fnKirchhoffUptoRow : OpenClaim := { program := "ytnbbmpilpeakiaa", sum := "57e31352a7de0d8e89dda40936ef98dbe617eceae4abb0613aeeb64056424370", func := "loop.example/g00859/laws.FnKirchhoff", spec := "fnKirchhoff", unfollowed := true, recurses := true, apart := false, narrowed := true }
def FnKirchhoffUptoSaid : Prop := fnKirchhoffUptoRow.holds Try.pinned (OpenSpec.upto fnKirchhoffSpec)

/-- 'laws.FnPower', WHERE WHAT IT READS IS OF BULK AT MOST 1048576: true; the input reads as it did. -/
def fnPowerUptoRow : OpenClaim := { program := "ytnbbmpilpeakiaa", sum := "57e31352a7de0d8e89dda40936ef98dbe617eceae4abb0613aeeb64056424370", func := "loop.example/g00859/laws.FnPower", spec := "fnPower", unfollowed := true, recurses := true, apart := false, narrowed := true }
def FnPowerUptoSaid : Prop := fnPowerUptoRow.holds Try.pinned (OpenSpec.upto fnPowerSpec)

/-- 'laws.FnExactRatioSum', WHERE WHAT IT READS IS OF BULK AT MOST 1048576: true; the input reads as it did. -/
def fnExactRatioSumUptoRow : OpenClaim := { program := "ytnbbmpilpeakiaa", sum := "57e31352a7de0d8e89dda40936ef98dbe617eceae4abb0613aeeb64056424370", func := "loop.example/g00859/laws.FnExactRatioSum", spec := "fnExactRatioSum", apart := false, narrowed := true }
def FnExactRatioSumUptoSaid : Prop := fnExactRatioSumUptoRow.holds Try.pinned (OpenSpec.upto fnExactRatioSumSpec)

/-- 'laws.FnExactRatioDiff', WHERE WHAT IT READS IS OF BULK AT MOST 1048576: true; the input reads as it did. -/
def fnExactRatioDiffUptoRow : OpenClaim := { program := "ytnbbmpilpeakiaa", sum := "57e31352a7de0d8e89dda40936ef98dbe617eceae4abb0613aeeb64056424370", func := "loop.example/g00859/laws.FnExactRatioDiff", spec := "fnExactRatioDiff", apart := false, narrowed := true }
def FnExactRatioDiffUptoSaid : Prop := fnExactRatioDiffUptoRow.holds Try.pinned (OpenSpec.upto fnExactRatioDiffSpec)

/-- 'laws.FnExactRatioTimes', WHERE WHAT IT READS IS OF BULK AT MOST 1048576: true; the input reads as it did. -/
def fnExactRatioTimesUptoRow : OpenClaim := { program := "ytnbbmpilpeakiaa", sum := "57e31352a7de0d8e89dda40936ef98dbe617eceae4abb0613aeeb64056424370", func := "loop.example/g00859/laws.FnExactRatioTimes", spec := "fnExactRatioTimes", apart := false, narrowed := true }
def FnExactRatioTimesUptoSaid : Prop := fnExactRatioTimesUptoRow.holds Try.pinned (OpenSpec.upto fnExactRatioTimesSpec)

/-- 'laws.FnExactRatioInverse', WHERE WHAT IT READS IS OF BULK AT MOST 1048576: true; the input reads as it did. -/
def fnExactRatioInverseUptoRow : OpenClaim := { program := "ytnbbmpilpeakiaa", sum := "57e31352a7de0d8e89dda40936ef98dbe617eceae4abb0613aeeb64056424370", func := "loop.example/g00859/laws.FnExactRatioInverse", spec := "fnExactRatioInverse", apart := false, narrowed := true }
def FnExactRatioInverseUptoSaid : Prop := fnExactRatioInverseUptoRow.holds Try.pinned (OpenSpec.upto fnExactRatioInverseSpec)

/-- 'laws.FnExactResistanceOf', WHERE WHAT IT READS IS OF BULK AT MOST 1048576: true; the input reads as it did. -/
def fnExactResistanceOfUptoRow : OpenClaim := { program := "ytnbbmpilpeakiaa", sum := "57e31352a7de0d8e89dda40936ef98dbe617eceae4abb0613aeeb64056424370", func := "loop.example/g00859/laws.FnExactResistanceOf", spec := "fnExactResistanceOf", unfollowed := true, recurses := true, apart := false, narrowed := true }
def FnExactResistanceOfUptoSaid : Prop := fnExactResistanceOfUptoRow.holds Try.pinned (OpenSpec.upto fnExactResistanceOfSpec)

/-- 'laws.FnExactPotentialsOf', WHERE WHAT IT READS IS OF BULK AT MOST 1048576: true; the input reads as it did. -/
def fnExactPotentialsOfUptoRow : OpenClaim := { program := "ytnbbmpilpeakiaa", sum := "57e31352a7de0d8e89dda40936ef98dbe617eceae4abb0613aeeb64056424370", func := "loop.example/g00859/laws.FnExactPotentialsOf", spec := "fnExactPotentialsOf", unfollowed := true, recurses := true, apart := false, narrowed := true }
def FnExactPotentialsOfUptoSaid : Prop := fnExactPotentialsOfUptoRow.holds Try.pinned (OpenSpec.upto fnExactPotentialsOfSpec)

/-- 'laws.FnExactCurrentOn', WHERE WHAT IT READS IS OF BULK AT MOST 1048576: true; the input reads as it did. -/
def fnExactCurrentOnUptoRow : OpenClaim := { program := "ytnbbmpilpeakiaa", sum := "57e31352a7de0d8e89dda40936ef98dbe617eceae4abb0613aeeb64056424370", func := "loop.example/g00859/laws.FnExactCurrentOn", spec := "fnExactCurrentOn", unfollowed := true, recurses := true, apart := false, narrowed := true }
def FnExactCurrentOnUptoSaid : Prop := fnExactCurrentOnUptoRow.holds Try.pinned (OpenSpec.upto fnExactCurrentOnSpec)

/-- 'laws.FnExactPowerOf', WHERE WHAT IT READS IS OF BULK AT MOST 1048576: true; the input reads as it did. -/
def fnExactPowerOfUptoRow : OpenClaim := { program := "ytnbbmpilpeakiaa", sum := "57e31352a7de0d8e89dda40936ef98dbe617eceae4abb0613aeeb64056424370", func := "loop.example/g00859/laws.FnExactPowerOf", spec := "fnExactPowerOf", apart := false, narrowed := true }
def FnExactPowerOfUptoSaid : Prop := fnExactPowerOfUptoRow.holds Try.pinned (OpenSpec.upto fnExactPowerOfSpec)

end Rows
end Go.Proofs.Ytnbbmpilpeakiaa
