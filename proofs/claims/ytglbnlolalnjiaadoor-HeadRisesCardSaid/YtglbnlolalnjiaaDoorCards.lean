/-
  DERIVED. GIVEN WITH THE SEED: THE CARDS: each row of YtglbnlolalnjiaaDoorRows.lean that lists a variable, with what it lists TIED to the program's text (the seventh form; the later family's looks); each row that meets fmt, with fmt's text TOLD by the authors' own Lean function (tested against real Go, not proved from fmt's source: count such statements apart). THE CARD IS WHAT COUNTS. Prove the row's statement (the work); the ties are given (YtglbnlolalnjiaaDoorTie.lean); close each card by the builder's one call (the guide's Derived/Test/ToyasCard.lean, 'card_holds'). Laid BY PROGRAM, IN A SANDBOX (cutbox-door.mjs). By AI agents, Wed Nov 11 2026. No macro, syntax, notation, axiom, sorry.
-/
import Derived.Test.YtglbnlolalnjiaaDoorRows
import GoSem.ClaimSeven
namespace Go.Proofs.YtglbnlolalnjiaaDoor
namespace Rows

/-- THE TIED CARD OF 'batonlaw09.HeadCodes'. -/
def headCodesCard : Claim7 := { stood := { row := headCodesRow, standIns := [], harness := (true, "3cd1b3b08cd3fef0218b8c92442f841d01e351dd1c383069832dc7d567bb1f3b"), looks := false }, kinds := [], alts := [], laidByText := true, laidKinds := [.data], laidTests := true, laidLooks := .later }
def HeadCodesCardSaid : Prop := Claim7.holds Tryd.pinned (.plain (OpenSpec.ofChange headCodesSpec)) headCodesCard

/-- THE TIED CARD OF 'batonlaw09.HeadSwaps'. -/
def headSwapsCard : Claim7 := { stood := { row := headSwapsRow, standIns := [], harness := (true, "3cd1b3b08cd3fef0218b8c92442f841d01e351dd1c383069832dc7d567bb1f3b"), looks := false }, kinds := [], alts := [], laidByText := true, laidKinds := [.data], laidTests := true, laidLooks := .later }
def HeadSwapsCardSaid : Prop := Claim7.holds Tryd.pinned (.plain (OpenSpec.ofChange headSwapsSpec)) headSwapsCard

/-- THE TIED CARD OF 'batonlaw09.HeadRises'. -/
def headRisesCard : Claim7 := { stood := { row := headRisesRow, standIns := [], harness := (true, "3cd1b3b08cd3fef0218b8c92442f841d01e351dd1c383069832dc7d567bb1f3b"), looks := false }, kinds := [], alts := [], laidByText := true, laidKinds := [.data], laidTests := true, laidLooks := .later }
def HeadRisesCardSaid : Prop := Claim7.holds Tryd.pinned (.plain (OpenSpec.ofChange headRisesSpec)) headRisesCard

/-- THE TIED CARD OF 'batonlaw09.HeadParted'. -/
def headPartedCard : Claim7 := { stood := { row := headPartedRow, standIns := [], harness := (true, "3cd1b3b08cd3fef0218b8c92442f841d01e351dd1c383069832dc7d567bb1f3b"), looks := false }, kinds := [], alts := [], laidByText := true, laidKinds := [.data], laidTests := true, laidLooks := .later }
def HeadPartedCardSaid : Prop := Claim7.holds Tryd.pinned (.plain (OpenSpec.ofChange headPartedSpec)) headPartedCard

/-- THE SECOND FORM's CARD OF 'batonlaw09.HeadCodes'. -/
def headCodesUptoCard : Claim7 := { stood := { row := headCodesUptoRow, standIns := [], harness := (true, "3cd1b3b08cd3fef0218b8c92442f841d01e351dd1c383069832dc7d567bb1f3b"), looks := false }, kinds := [], alts := [], laidByText := true, laidKinds := [.data], laidTests := true, laidLooks := .later }
def HeadCodesUptoCardSaid : Prop := Claim7.holds Tryd.pinned (.plain (OpenSpec.upto headCodesSpec)) headCodesUptoCard

/-- THE SECOND FORM's CARD OF 'batonlaw09.HeadSwaps'. -/
def headSwapsUptoCard : Claim7 := { stood := { row := headSwapsUptoRow, standIns := [], harness := (true, "3cd1b3b08cd3fef0218b8c92442f841d01e351dd1c383069832dc7d567bb1f3b"), looks := false }, kinds := [], alts := [], laidByText := true, laidKinds := [.data], laidTests := true, laidLooks := .later }
def HeadSwapsUptoCardSaid : Prop := Claim7.holds Tryd.pinned (.plain (OpenSpec.upto headSwapsSpec)) headSwapsUptoCard

/-- THE SECOND FORM's CARD OF 'batonlaw09.HeadRises'. -/
def headRisesUptoCard : Claim7 := { stood := { row := headRisesUptoRow, standIns := [], harness := (true, "3cd1b3b08cd3fef0218b8c92442f841d01e351dd1c383069832dc7d567bb1f3b"), looks := false }, kinds := [], alts := [], laidByText := true, laidKinds := [.data], laidTests := true, laidLooks := .later }
def HeadRisesUptoCardSaid : Prop := Claim7.holds Tryd.pinned (.plain (OpenSpec.upto headRisesSpec)) headRisesUptoCard

/-- THE SECOND FORM's CARD OF 'batonlaw09.HeadParted'. -/
def headPartedUptoCard : Claim7 := { stood := { row := headPartedUptoRow, standIns := [], harness := (true, "3cd1b3b08cd3fef0218b8c92442f841d01e351dd1c383069832dc7d567bb1f3b"), looks := false }, kinds := [], alts := [], laidByText := true, laidKinds := [.data], laidTests := true, laidLooks := .later }
def HeadPartedUptoCardSaid : Prop := Claim7.holds Tryd.pinned (.plain (OpenSpec.upto headPartedSpec)) headPartedUptoCard
end Rows
end Go.Proofs.YtglbnlolalnjiaaDoor
