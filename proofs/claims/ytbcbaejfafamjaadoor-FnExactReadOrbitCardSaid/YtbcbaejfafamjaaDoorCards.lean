/-
  DERIVED. GIVEN WITH THE SEED: THE CARDS: each row of YtbcbaejfafamjaaDoorRows.lean that lists a variable, with what it lists TIED to the program's text (the seventh form; the later family's looks); each row that meets fmt, with fmt's text TOLD by the authors' own Lean function (tested against real Go, not proved from fmt's source: count such statements apart). THE CARD IS WHAT COUNTS. Prove the row's statement (the work); the ties are given (YtbcbaejfafamjaaDoorTie.lean); close each card by the builder's one call (the guide's Derived/Test/ToyasCard.lean, 'card_holds'). Laid BY PROGRAM, IN A SANDBOX (cutbox-door.mjs). By AI agents, Wed Nov 11 2026. No macro, syntax, notation, axiom, sorry.
-/
import Derived.Test.YtbcbaejfafamjaaDoorRows
import GoSem.ClaimSeven
namespace Go.Proofs.YtbcbaejfafamjaaDoor
namespace Rows

/-- THE TIED CARD OF 'laws.FnExactReadList'. -/
def fnExactReadListCard : Claim7 := { stood := { row := fnExactReadListRow, standIns := [], harness := (true, "cbd3bf5620931c78e0954e6012ac6c13c86a0b49cd53519d7cc46cc954454a26"), looks := true }, kinds := [], alts := [], laidByText := true, laidKinds := [.data, .data, .data, .data, .sentinel, .sentinel, .pinned], laidTests := true, laidLooks := .later }
def FnExactReadListCardSaid : Prop := Claim7.holds Tryd.pinned (.plain (OpenSpec.ofChange fnExactReadListSpec)) fnExactReadListCard

/-- THE TIED CARD OF 'laws.FnExactReadNumbers'. -/
def fnExactReadNumbersCard : Claim7 := { stood := { row := fnExactReadNumbersRow, standIns := [], harness := (true, "cbd3bf5620931c78e0954e6012ac6c13c86a0b49cd53519d7cc46cc954454a26"), looks := true }, kinds := [], alts := [], laidByText := true, laidKinds := [.data, .data, .data, .data, .sentinel, .sentinel, .pinned], laidTests := true, laidLooks := .later }
def FnExactReadNumbersCardSaid : Prop := Claim7.holds Tryd.pinned (.plain (OpenSpec.ofChange fnExactReadNumbersSpec)) fnExactReadNumbersCard

/-- THE TIED CARD OF 'laws.FnExactReadVector'. -/
def fnExactReadVectorCard : Claim7 := { stood := { row := fnExactReadVectorRow, standIns := [], harness := (true, "cbd3bf5620931c78e0954e6012ac6c13c86a0b49cd53519d7cc46cc954454a26"), looks := true }, kinds := [], alts := [], laidByText := true, laidKinds := [.data, .data, .data, .data, .sentinel, .sentinel, .pinned], laidTests := true, laidLooks := .later }
def FnExactReadVectorCardSaid : Prop := Claim7.holds Tryd.pinned (.plain (OpenSpec.ofChange fnExactReadVectorSpec)) fnExactReadVectorCard

/-- THE TIED CARD OF 'laws.FnExactReadBall'. -/
def fnExactReadBallCard : Claim7 := { stood := { row := fnExactReadBallRow, standIns := [], harness := (true, "cbd3bf5620931c78e0954e6012ac6c13c86a0b49cd53519d7cc46cc954454a26"), looks := true }, kinds := [], alts := [], laidByText := true, laidKinds := [.data, .data, .data, .data, .sentinel, .sentinel, .pinned], laidTests := true, laidLooks := .later }
def FnExactReadBallCardSaid : Prop := Claim7.holds Tryd.pinned (.plain (OpenSpec.ofChange fnExactReadBallSpec)) fnExactReadBallCard

/-- THE TIED CARD OF 'laws.FnExactReadOrbit'. -/
def fnExactReadOrbitCard : Claim7 := { stood := { row := fnExactReadOrbitRow, standIns := [], harness := (true, "cbd3bf5620931c78e0954e6012ac6c13c86a0b49cd53519d7cc46cc954454a26"), looks := true }, kinds := [], alts := [], laidByText := true, laidKinds := [.data, .data, .data, .data, .sentinel, .sentinel, .pinned], laidTests := true, laidLooks := .later }
def FnExactReadOrbitCardSaid : Prop := Claim7.holds Tryd.pinned (.plain (OpenSpec.ofChange fnExactReadOrbitSpec)) fnExactReadOrbitCard

/-- THE SECOND FORM's CARD OF 'laws.FnExactReadList'. -/
def fnExactReadListUptoCard : Claim7 := { stood := { row := fnExactReadListUptoRow, standIns := [], harness := (true, "cbd3bf5620931c78e0954e6012ac6c13c86a0b49cd53519d7cc46cc954454a26"), looks := true }, kinds := [], alts := [], laidByText := true, laidKinds := [.data, .data, .data, .data, .sentinel, .sentinel, .pinned], laidTests := true, laidLooks := .later }
def FnExactReadListUptoCardSaid : Prop := Claim7.holds Tryd.pinned (.plain (OpenSpec.upto fnExactReadListSpec)) fnExactReadListUptoCard

/-- THE SECOND FORM's CARD OF 'laws.FnExactReadNumbers'. -/
def fnExactReadNumbersUptoCard : Claim7 := { stood := { row := fnExactReadNumbersUptoRow, standIns := [], harness := (true, "cbd3bf5620931c78e0954e6012ac6c13c86a0b49cd53519d7cc46cc954454a26"), looks := true }, kinds := [], alts := [], laidByText := true, laidKinds := [.data, .data, .data, .data, .sentinel, .sentinel, .pinned], laidTests := true, laidLooks := .later }
def FnExactReadNumbersUptoCardSaid : Prop := Claim7.holds Tryd.pinned (.plain (OpenSpec.upto fnExactReadNumbersSpec)) fnExactReadNumbersUptoCard

/-- THE SECOND FORM's CARD OF 'laws.FnExactReadVector'. -/
def fnExactReadVectorUptoCard : Claim7 := { stood := { row := fnExactReadVectorUptoRow, standIns := [], harness := (true, "cbd3bf5620931c78e0954e6012ac6c13c86a0b49cd53519d7cc46cc954454a26"), looks := true }, kinds := [], alts := [], laidByText := true, laidKinds := [.data, .data, .data, .data, .sentinel, .sentinel, .pinned], laidTests := true, laidLooks := .later }
def FnExactReadVectorUptoCardSaid : Prop := Claim7.holds Tryd.pinned (.plain (OpenSpec.upto fnExactReadVectorSpec)) fnExactReadVectorUptoCard

/-- THE SECOND FORM's CARD OF 'laws.FnExactReadBall'. -/
def fnExactReadBallUptoCard : Claim7 := { stood := { row := fnExactReadBallUptoRow, standIns := [], harness := (true, "cbd3bf5620931c78e0954e6012ac6c13c86a0b49cd53519d7cc46cc954454a26"), looks := true }, kinds := [], alts := [], laidByText := true, laidKinds := [.data, .data, .data, .data, .sentinel, .sentinel, .pinned], laidTests := true, laidLooks := .later }
def FnExactReadBallUptoCardSaid : Prop := Claim7.holds Tryd.pinned (.plain (OpenSpec.upto fnExactReadBallSpec)) fnExactReadBallUptoCard

/-- THE SECOND FORM's CARD OF 'laws.FnExactReadOrbit'. -/
def fnExactReadOrbitUptoCard : Claim7 := { stood := { row := fnExactReadOrbitUptoRow, standIns := [], harness := (true, "cbd3bf5620931c78e0954e6012ac6c13c86a0b49cd53519d7cc46cc954454a26"), looks := true }, kinds := [], alts := [], laidByText := true, laidKinds := [.data, .data, .data, .data, .sentinel, .sentinel, .pinned], laidTests := true, laidLooks := .later }
def FnExactReadOrbitUptoCardSaid : Prop := Claim7.holds Tryd.pinned (.plain (OpenSpec.upto fnExactReadOrbitSpec)) fnExactReadOrbitUptoCard
end Rows
end Go.Proofs.YtbcbaejfafamjaaDoor
