/-
  DERIVED. GIVEN WITH THE SEED: THE CARDS: each row of YtcpbfefgjpimiaaDoorRows.lean that lists a variable, with what it lists TIED to the program's text (the seventh form; the later family's looks); each row that meets fmt, with fmt's text TOLD by the authors' own Lean function (tested against real Go, not proved from fmt's source: count such statements apart). THE CARD IS WHAT COUNTS. Prove the row's statement (the work); the ties are given (YtcpbfefgjpimiaaDoorTie.lean); close each card by the builder's one call (the guide's Derived/Test/ToyasCard.lean, 'card_holds'). Laid BY PROGRAM, IN A SANDBOX (cutbox-door.mjs). By AI agents, Wed Nov 11 2026. No macro, syntax, notation, axiom, sorry.
-/
import Derived.Test.YtcpbfefgjpimiaaDoorRows
import GoSem.ClaimSeven
namespace Go.Proofs.YtcpbfefgjpimiaaDoor
namespace Rows

/-- THE TIED CARD OF 'laws.FnExactFormatAffine'. -/
def fnExactFormatAffineCard : Claim7 := { stood := { row := fnExactFormatAffineRow, standIns := [], harness := (true, "94cd0f14629c95f5a035e1f072a8ab58e75948f0f22c2a20b0e68adcef8c1b6f"), looks := false }, kinds := [], alts := [], laidByText := true, laidKinds := [.data, .data, .data], laidTests := true, laidLooks := .later }
def FnExactFormatAffineCardSaid : Prop := Claim7.holds Tryd.pinned (.plain (OpenSpec.ofChange fnExactFormatAffineSpec)) fnExactFormatAffineCard

/-- THE TIED CARD OF 'laws.FnAffineSame'. -/
def fnAffineSameCard : Claim7 := { stood := { row := fnAffineSameRow, standIns := [], harness := (true, "94cd0f14629c95f5a035e1f072a8ab58e75948f0f22c2a20b0e68adcef8c1b6f"), looks := false }, kinds := [], alts := [], laidByText := true, laidKinds := [.data, .data, .data], laidTests := true, laidLooks := .later }
def FnAffineSameCardSaid : Prop := Claim7.holds Tryd.pinned (.plain (OpenSpec.ofChange fnAffineSameSpec)) fnAffineSameCard

/-- THE TIED CARD OF 'laws.FnScaleAffine'. -/
def fnScaleAffineCard : Claim7 := { stood := { row := fnScaleAffineRow, standIns := [], harness := (true, "94cd0f14629c95f5a035e1f072a8ab58e75948f0f22c2a20b0e68adcef8c1b6f"), looks := false }, kinds := [], alts := [], laidByText := true, laidKinds := [.data, .data, .data], laidTests := true, laidLooks := .later }
def FnScaleAffineCardSaid : Prop := Claim7.holds Tryd.pinned (.plain (OpenSpec.ofChange fnScaleAffineSpec)) fnScaleAffineCard

/-- THE TIED CARD OF 'laws.FnExactFormatNest'. -/
def fnExactFormatNestCard : Claim7 := { stood := { row := fnExactFormatNestRow, standIns := [], harness := (true, "94cd0f14629c95f5a035e1f072a8ab58e75948f0f22c2a20b0e68adcef8c1b6f"), looks := false }, kinds := [], alts := [], laidByText := true, laidKinds := [.data, .data, .data], laidTests := true, laidLooks := .later }
def FnExactFormatNestCardSaid : Prop := Claim7.holds Tryd.pinned (.plain (OpenSpec.ofChange fnExactFormatNestSpec)) fnExactFormatNestCard

/-- THE SECOND FORM's CARD OF 'laws.FnExactFormatAffine'. -/
def fnExactFormatAffineUptoCard : Claim7 := { stood := { row := fnExactFormatAffineUptoRow, standIns := [], harness := (true, "94cd0f14629c95f5a035e1f072a8ab58e75948f0f22c2a20b0e68adcef8c1b6f"), looks := false }, kinds := [], alts := [], laidByText := true, laidKinds := [.data, .data, .data], laidTests := true, laidLooks := .later }
def FnExactFormatAffineUptoCardSaid : Prop := Claim7.holds Tryd.pinned (.plain (OpenSpec.upto fnExactFormatAffineSpec)) fnExactFormatAffineUptoCard

/-- THE SECOND FORM's CARD OF 'laws.FnAffineSame'. -/
def fnAffineSameUptoCard : Claim7 := { stood := { row := fnAffineSameUptoRow, standIns := [], harness := (true, "94cd0f14629c95f5a035e1f072a8ab58e75948f0f22c2a20b0e68adcef8c1b6f"), looks := false }, kinds := [], alts := [], laidByText := true, laidKinds := [.data, .data, .data], laidTests := true, laidLooks := .later }
def FnAffineSameUptoCardSaid : Prop := Claim7.holds Tryd.pinned (.plain (OpenSpec.upto fnAffineSameSpec)) fnAffineSameUptoCard

/-- THE SECOND FORM's CARD OF 'laws.FnScaleAffine'. -/
def fnScaleAffineUptoCard : Claim7 := { stood := { row := fnScaleAffineUptoRow, standIns := [], harness := (true, "94cd0f14629c95f5a035e1f072a8ab58e75948f0f22c2a20b0e68adcef8c1b6f"), looks := false }, kinds := [], alts := [], laidByText := true, laidKinds := [.data, .data, .data], laidTests := true, laidLooks := .later }
def FnScaleAffineUptoCardSaid : Prop := Claim7.holds Tryd.pinned (.plain (OpenSpec.upto fnScaleAffineSpec)) fnScaleAffineUptoCard

/-- THE SECOND FORM's CARD OF 'laws.FnExactFormatNest'. -/
def fnExactFormatNestUptoCard : Claim7 := { stood := { row := fnExactFormatNestUptoRow, standIns := [], harness := (true, "94cd0f14629c95f5a035e1f072a8ab58e75948f0f22c2a20b0e68adcef8c1b6f"), looks := false }, kinds := [], alts := [], laidByText := true, laidKinds := [.data, .data, .data], laidTests := true, laidLooks := .later }
def FnExactFormatNestUptoCardSaid : Prop := Claim7.holds Tryd.pinned (.plain (OpenSpec.upto fnExactFormatNestSpec)) fnExactFormatNestUptoCard
end Rows
end Go.Proofs.YtcpbfefgjpimiaaDoor
