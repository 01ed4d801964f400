/-
  DERIVED. GIVEN WITH THE SEED: THE CARDS: each row of YtlggmlojmdaggaaDoorRows.lean that lists a variable, with what it lists TIED to the program's text (the seventh form; the later family's looks); each row that meets fmt, with fmt's text TOLD by the authors' own Lean function (tested against real Go, not proved from fmt's source: count such statements apart). THE CARD IS WHAT COUNTS. Prove the row's statement (the work); the ties are given (YtlggmlojmdaggaaDoorTie.lean); close each card by the builder's one call (the guide's Derived/Test/ToyasCard.lean, 'card_holds'). Laid BY PROGRAM, IN A SANDBOX (cutbox-door.mjs). By AI agents, Wed Nov 11 2026. No macro, syntax, notation, axiom, sorry.
-/
import Derived.Test.YtlggmlojmdaggaaDoorRows
import GoSem.ClaimSeven
namespace Go.Proofs.YtlggmlojmdaggaaDoor
namespace Rows

/-- THE TIED CARD OF 'laws.FnExactFormatRatio'. -/
def fnExactFormatRatioCard : Claim7 := { stood := { row := fnExactFormatRatioRow, standIns := [], harness := (true, "56d09914610f3b626bce693c80bffe85f7835da67dd3df7e5ae94de618cbb339"), looks := true }, kinds := [], alts := [], laidByText := true, laidKinds := [.data, .data, .data], laidTests := true, laidLooks := .later }
def FnExactFormatRatioCardSaid : Prop := Claim7.holds Tryd.pinned (.plain (OpenSpec.ofChange fnExactFormatRatioSpec)) fnExactFormatRatioCard

/-- THE TIED CARD OF 'laws.FnExactParseRatio'. -/
def fnExactParseRatioCard : Claim7 := { stood := { row := fnExactParseRatioRow, standIns := [], harness := (true, "56d09914610f3b626bce693c80bffe85f7835da67dd3df7e5ae94de618cbb339"), looks := true }, kinds := [], alts := [], laidByText := true, laidKinds := [.data, .data, .data, .sentinel, .sentinel], laidTests := true, laidLooks := .later }
def FnExactParseRatioCardSaid : Prop := Claim7.holds Tryd.pinned (.plain (OpenSpec.ofChange fnExactParseRatioSpec)) fnExactParseRatioCard

/-- THE SECOND FORM's CARD OF 'laws.FnExactFormatRatio'. -/
def fnExactFormatRatioUptoCard : Claim7 := { stood := { row := fnExactFormatRatioUptoRow, standIns := [], harness := (true, "56d09914610f3b626bce693c80bffe85f7835da67dd3df7e5ae94de618cbb339"), looks := true }, kinds := [], alts := [], laidByText := true, laidKinds := [.data, .data, .data], laidTests := true, laidLooks := .later }
def FnExactFormatRatioUptoCardSaid : Prop := Claim7.holds Tryd.pinned (.plain (OpenSpec.upto fnExactFormatRatioSpec)) fnExactFormatRatioUptoCard

/-- THE SECOND FORM's CARD OF 'laws.FnExactParseRatio'. -/
def fnExactParseRatioUptoCard : Claim7 := { stood := { row := fnExactParseRatioUptoRow, standIns := [], harness := (true, "56d09914610f3b626bce693c80bffe85f7835da67dd3df7e5ae94de618cbb339"), looks := true }, kinds := [], alts := [], laidByText := true, laidKinds := [.data, .data, .data, .sentinel, .sentinel], laidTests := true, laidLooks := .later }
def FnExactParseRatioUptoCardSaid : Prop := Claim7.holds Tryd.pinned (.plain (OpenSpec.upto fnExactParseRatioSpec)) fnExactParseRatioUptoCard
end Rows
end Go.Proofs.YtlggmlojmdaggaaDoor
