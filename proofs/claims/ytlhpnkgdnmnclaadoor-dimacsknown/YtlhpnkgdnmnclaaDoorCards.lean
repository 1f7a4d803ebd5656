/-
  DERIVED. GIVEN WITH THE SEED: THE CARDS: each row of YtlhpnkgdnmnclaaDoorRows.lean that lists a variable, with what it lists TIED to the program's text (the seventh form; the later family's looks); each row that meets fmt, with fmt's text TOLD by the authors' own Lean function (tested against real Go, not proved from fmt's source: count such statements apart). THE CARD IS WHAT COUNTS. Prove the row's statement (the work); the ties are given (YtlhpnkgdnmnclaaDoorTie.lean); close each card by the builder's one call (the guide's Derived/Test/ToyasCard.lean, 'card_holds'). Laid BY PROGRAM, IN A SANDBOX (cutbox-door.mjs). By AI agents, Wed Nov 11 2026. No macro, syntax, notation, axiom, sorry.
-/
import Derived.Test.YtlhpnkgdnmnclaaDoorRows
import GoSem.ClaimSeven
namespace Go.Proofs.YtlhpnkgdnmnclaaDoor
namespace Rows

/-- THE TIED CARD OF 'threshinglaw02.DimacsParses'. -/
def dimacsParsesCard : Claim7 := { stood := { row := dimacsParsesRow, standIns := [], harness := (true, "f55b8764c5814d8350465577222eb02ede8c04749d0110e9a8aeffe5a903877d"), looks := false }, kinds := [], alts := [], laidByText := true, laidKinds := [.data, .data, .data], laidTests := true, laidLooks := .later }
def DimacsParsesCardSaid : Prop := Claim7.holds Tryd.pinned (.plain (OpenSpec.ofChange dimacsParsesSpec)) dimacsParsesCard

/-- THE TIED CARD OF 'threshinglaw02.DimacsPrints'. -/
def dimacsPrintsCard : Claim7 := { stood := { row := dimacsPrintsRow, standIns := [], harness := (true, "f55b8764c5814d8350465577222eb02ede8c04749d0110e9a8aeffe5a903877d"), looks := false }, kinds := [], alts := [], laidByText := true, laidKinds := [.data, .data, .data], laidTests := true, laidLooks := .later }
def DimacsPrintsCardSaid : Prop := Claim7.holds Tryd.pinned (.plain (OpenSpec.ofChange dimacsPrintsSpec)) dimacsPrintsCard

/-- THE TIED CARD OF 'threshinglaw02.DimacsModels'. -/
def dimacsModelsCard : Claim7 := { stood := { row := dimacsModelsRow, standIns := [], harness := (true, "f55b8764c5814d8350465577222eb02ede8c04749d0110e9a8aeffe5a903877d"), looks := false }, kinds := [], alts := [], laidByText := true, laidKinds := [.data, .data, .data], laidTests := true, laidLooks := .later }
def DimacsModelsCardSaid : Prop := Claim7.holds Tryd.pinned (.plain (OpenSpec.ofChange dimacsModelsSpec)) dimacsModelsCard

/-- THE TIED CARD OF 'threshinglaw02.DimacsReturns'. -/
def dimacsReturnsCard : Claim7 := { stood := { row := dimacsReturnsRow, standIns := [], harness := (true, "f55b8764c5814d8350465577222eb02ede8c04749d0110e9a8aeffe5a903877d"), looks := false }, kinds := [], alts := [], laidByText := true, laidKinds := [.data, .data, .data], laidTests := true, laidLooks := .later }
def DimacsReturnsCardSaid : Prop := Claim7.holds Tryd.pinned (.plain (OpenSpec.ofChange dimacsReturnsSpec)) dimacsReturnsCard

/-- THE TIED CARD OF 'threshinglaw02.DimacsBlanks'. -/
def dimacsBlanksCard : Claim7 := { stood := { row := dimacsBlanksRow, standIns := [], harness := (true, "f55b8764c5814d8350465577222eb02ede8c04749d0110e9a8aeffe5a903877d"), looks := false }, kinds := [], alts := [], laidByText := true, laidKinds := [.data, .data, .data], laidTests := true, laidLooks := .later }
def DimacsBlanksCardSaid : Prop := Claim7.holds Tryd.pinned (.plain (OpenSpec.ofChange dimacsBlanksSpec)) dimacsBlanksCard

/-- THE TIED CARD OF 'threshinglaw02.DimacsKnown'. -/
def dimacsKnownCard : Claim7 := { stood := { row := dimacsKnownRow, standIns := [], harness := (true, "f55b8764c5814d8350465577222eb02ede8c04749d0110e9a8aeffe5a903877d"), looks := false }, kinds := [], alts := [], laidByText := true, laidKinds := [.data, .data, .data], laidTests := true, laidLooks := .later }
def DimacsKnownCardSaid : Prop := Claim7.holds Tryd.pinned (.plain (OpenSpec.ofChange dimacsKnownSpec)) dimacsKnownCard

/-- THE SECOND FORM's CARD OF 'threshinglaw02.DimacsParses'. -/
def dimacsParsesUptoCard : Claim7 := { stood := { row := dimacsParsesUptoRow, standIns := [], harness := (true, "f55b8764c5814d8350465577222eb02ede8c04749d0110e9a8aeffe5a903877d"), looks := false }, kinds := [], alts := [], laidByText := true, laidKinds := [.data, .data, .data], laidTests := true, laidLooks := .later }
def DimacsParsesUptoCardSaid : Prop := Claim7.holds Tryd.pinned (.plain (OpenSpec.upto dimacsParsesSpec)) dimacsParsesUptoCard

/-- THE SECOND FORM's CARD OF 'threshinglaw02.DimacsPrints'. -/
def dimacsPrintsUptoCard : Claim7 := { stood := { row := dimacsPrintsUptoRow, standIns := [], harness := (true, "f55b8764c5814d8350465577222eb02ede8c04749d0110e9a8aeffe5a903877d"), looks := false }, kinds := [], alts := [], laidByText := true, laidKinds := [.data, .data, .data], laidTests := true, laidLooks := .later }
def DimacsPrintsUptoCardSaid : Prop := Claim7.holds Tryd.pinned (.plain (OpenSpec.upto dimacsPrintsSpec)) dimacsPrintsUptoCard

/-- THE SECOND FORM's CARD OF 'threshinglaw02.DimacsModels'. -/
def dimacsModelsUptoCard : Claim7 := { stood := { row := dimacsModelsUptoRow, standIns := [], harness := (true, "f55b8764c5814d8350465577222eb02ede8c04749d0110e9a8aeffe5a903877d"), looks := false }, kinds := [], alts := [], laidByText := true, laidKinds := [.data, .data, .data], laidTests := true, laidLooks := .later }
def DimacsModelsUptoCardSaid : Prop := Claim7.holds Tryd.pinned (.plain (OpenSpec.upto dimacsModelsSpec)) dimacsModelsUptoCard

/-- THE SECOND FORM's CARD OF 'threshinglaw02.DimacsReturns'. -/
def dimacsReturnsUptoCard : Claim7 := { stood := { row := dimacsReturnsUptoRow, standIns := [], harness := (true, "f55b8764c5814d8350465577222eb02ede8c04749d0110e9a8aeffe5a903877d"), looks := false }, kinds := [], alts := [], laidByText := true, laidKinds := [.data, .data, .data], laidTests := true, laidLooks := .later }
def DimacsReturnsUptoCardSaid : Prop := Claim7.holds Tryd.pinned (.plain (OpenSpec.upto dimacsReturnsSpec)) dimacsReturnsUptoCard

/-- THE SECOND FORM's CARD OF 'threshinglaw02.DimacsBlanks'. -/
def dimacsBlanksUptoCard : Claim7 := { stood := { row := dimacsBlanksUptoRow, standIns := [], harness := (true, "f55b8764c5814d8350465577222eb02ede8c04749d0110e9a8aeffe5a903877d"), looks := false }, kinds := [], alts := [], laidByText := true, laidKinds := [.data, .data, .data], laidTests := true, laidLooks := .later }
def DimacsBlanksUptoCardSaid : Prop := Claim7.holds Tryd.pinned (.plain (OpenSpec.upto dimacsBlanksSpec)) dimacsBlanksUptoCard

/-- THE SECOND FORM's CARD OF 'threshinglaw02.DimacsKnown'. -/
def dimacsKnownUptoCard : Claim7 := { stood := { row := dimacsKnownUptoRow, standIns := [], harness := (true, "f55b8764c5814d8350465577222eb02ede8c04749d0110e9a8aeffe5a903877d"), looks := false }, kinds := [], alts := [], laidByText := true, laidKinds := [.data, .data, .data], laidTests := true, laidLooks := .later }
def DimacsKnownUptoCardSaid : Prop := Claim7.holds Tryd.pinned (.plain (OpenSpec.upto dimacsKnownSpec)) dimacsKnownUptoCard
end Rows
end Go.Proofs.YtlhpnkgdnmnclaaDoor
