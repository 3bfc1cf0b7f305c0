/-
  DERIVED. GIVEN WITH THE SEED: THE CARDS: each row of YtmegolkpnmpbiaaDoorRows.lean that lists a variable, with what it lists TIED to the program's text (the seventh form; the later family's looks); each row that meets fmt, with fmt's text TOLD by the authors' own Lean function (tested against real Go, not proved from fmt's source: count such statements apart). THE CARD IS WHAT COUNTS. Prove the row's statement (the work); the ties are given (YtmegolkpnmpbiaaDoorTie.lean); close each card by the builder's one call (the guide's Derived/Test/ToyasCard.lean, 'card_holds'). Laid BY PROGRAM, IN A SANDBOX (cutbox-door.mjs). By AI agents, Wed Nov 11 2026. No macro, syntax, notation, axiom, sorry.
-/
import Derived.Test.YtmegolkpnmpbiaaDoorRows
import GoSem.ClaimSeven
namespace Go.Proofs.YtmegolkpnmpbiaaDoor
namespace Rows

/-- THE TIED CARD OF 'laws.FnExactListText'. -/
def fnExactListTextCard : Claim7 := { stood := { row := fnExactListTextRow, standIns := [], harness := (true, "858cfcb7ec83c19b0bf9d321d151d80d78a40fd26c062138fb70594bbde0cf0e"), looks := false }, kinds := [], alts := [], laidByText := true, laidKinds := [.data, .data, .data], laidTests := true, laidLooks := .later }
def FnExactListTextCardSaid : Prop := Claim7.holds Tryd.pinned (.plain (OpenSpec.ofChange fnExactListTextSpec)) fnExactListTextCard

/-- THE TIED CARD OF 'laws.FnExactNumbersText'. -/
def fnExactNumbersTextCard : Claim7 := { stood := { row := fnExactNumbersTextRow, standIns := [], harness := (true, "858cfcb7ec83c19b0bf9d321d151d80d78a40fd26c062138fb70594bbde0cf0e"), looks := false }, kinds := [], alts := [], laidByText := true, laidKinds := [.data, .data, .data], laidTests := true, laidLooks := .later }
def FnExactNumbersTextCardSaid : Prop := Claim7.holds Tryd.pinned (.plain (OpenSpec.ofChange fnExactNumbersTextSpec)) fnExactNumbersTextCard

/-- THE TIED CARD OF 'laws.FnExactVectorText'. -/
def fnExactVectorTextCard : Claim7 := { stood := { row := fnExactVectorTextRow, standIns := [], harness := (true, "858cfcb7ec83c19b0bf9d321d151d80d78a40fd26c062138fb70594bbde0cf0e"), looks := false }, kinds := [], alts := [], laidByText := true, laidKinds := [.data, .data, .data], laidTests := true, laidLooks := .later }
def FnExactVectorTextCardSaid : Prop := Claim7.holds Tryd.pinned (.plain (OpenSpec.ofChange fnExactVectorTextSpec)) fnExactVectorTextCard

/-- THE TIED CARD OF 'laws.FnExactBallText'. -/
def fnExactBallTextCard : Claim7 := { stood := { row := fnExactBallTextRow, standIns := [], harness := (true, "858cfcb7ec83c19b0bf9d321d151d80d78a40fd26c062138fb70594bbde0cf0e"), looks := false }, kinds := [], alts := [], laidByText := true, laidKinds := [.data, .data, .data], laidTests := true, laidLooks := .later }
def FnExactBallTextCardSaid : Prop := Claim7.holds Tryd.pinned (.plain (OpenSpec.ofChange fnExactBallTextSpec)) fnExactBallTextCard

/-- THE TIED CARD OF 'laws.FnExactOrbitText'. -/
def fnExactOrbitTextCard : Claim7 := { stood := { row := fnExactOrbitTextRow, standIns := [], harness := (true, "858cfcb7ec83c19b0bf9d321d151d80d78a40fd26c062138fb70594bbde0cf0e"), looks := false }, kinds := [], alts := [], laidByText := true, laidKinds := [.data, .data, .data], laidTests := true, laidLooks := .later }
def FnExactOrbitTextCardSaid : Prop := Claim7.holds Tryd.pinned (.plain (OpenSpec.ofChange fnExactOrbitTextSpec)) fnExactOrbitTextCard

/-- THE SECOND FORM's CARD OF 'laws.FnExactListText'. -/
def fnExactListTextUptoCard : Claim7 := { stood := { row := fnExactListTextUptoRow, standIns := [], harness := (true, "858cfcb7ec83c19b0bf9d321d151d80d78a40fd26c062138fb70594bbde0cf0e"), looks := false }, kinds := [], alts := [], laidByText := true, laidKinds := [.data, .data, .data], laidTests := true, laidLooks := .later }
def FnExactListTextUptoCardSaid : Prop := Claim7.holds Tryd.pinned (.plain (OpenSpec.upto fnExactListTextSpec)) fnExactListTextUptoCard

/-- THE SECOND FORM's CARD OF 'laws.FnExactNumbersText'. -/
def fnExactNumbersTextUptoCard : Claim7 := { stood := { row := fnExactNumbersTextUptoRow, standIns := [], harness := (true, "858cfcb7ec83c19b0bf9d321d151d80d78a40fd26c062138fb70594bbde0cf0e"), looks := false }, kinds := [], alts := [], laidByText := true, laidKinds := [.data, .data, .data], laidTests := true, laidLooks := .later }
def FnExactNumbersTextUptoCardSaid : Prop := Claim7.holds Tryd.pinned (.plain (OpenSpec.upto fnExactNumbersTextSpec)) fnExactNumbersTextUptoCard

/-- THE SECOND FORM's CARD OF 'laws.FnExactVectorText'. -/
def fnExactVectorTextUptoCard : Claim7 := { stood := { row := fnExactVectorTextUptoRow, standIns := [], harness := (true, "858cfcb7ec83c19b0bf9d321d151d80d78a40fd26c062138fb70594bbde0cf0e"), looks := false }, kinds := [], alts := [], laidByText := true, laidKinds := [.data, .data, .data], laidTests := true, laidLooks := .later }
def FnExactVectorTextUptoCardSaid : Prop := Claim7.holds Tryd.pinned (.plain (OpenSpec.upto fnExactVectorTextSpec)) fnExactVectorTextUptoCard

/-- THE SECOND FORM's CARD OF 'laws.FnExactBallText'. -/
def fnExactBallTextUptoCard : Claim7 := { stood := { row := fnExactBallTextUptoRow, standIns := [], harness := (true, "858cfcb7ec83c19b0bf9d321d151d80d78a40fd26c062138fb70594bbde0cf0e"), looks := false }, kinds := [], alts := [], laidByText := true, laidKinds := [.data, .data, .data], laidTests := true, laidLooks := .later }
def FnExactBallTextUptoCardSaid : Prop := Claim7.holds Tryd.pinned (.plain (OpenSpec.upto fnExactBallTextSpec)) fnExactBallTextUptoCard

/-- THE SECOND FORM's CARD OF 'laws.FnExactOrbitText'. -/
def fnExactOrbitTextUptoCard : Claim7 := { stood := { row := fnExactOrbitTextUptoRow, standIns := [], harness := (true, "858cfcb7ec83c19b0bf9d321d151d80d78a40fd26c062138fb70594bbde0cf0e"), looks := false }, kinds := [], alts := [], laidByText := true, laidKinds := [.data, .data, .data], laidTests := true, laidLooks := .later }
def FnExactOrbitTextUptoCardSaid : Prop := Claim7.holds Tryd.pinned (.plain (OpenSpec.upto fnExactOrbitTextSpec)) fnExactOrbitTextUptoCard
end Rows
end Go.Proofs.YtmegolkpnmpbiaaDoor
