/-
  DERIVED. GIVEN WITH THE SEED: THE CARDS: each row of YtmoplmjfnjgcaaaDoorRows.lean that lists a variable, with what it lists TIED to the program's text (the seventh form; the later family's looks); each row that meets fmt, with fmt's text TOLD by the authors' own Lean function (tested against real Go, not proved from fmt's source: count such statements apart). THE CARD IS WHAT COUNTS. Prove the row's statement (the work); the ties are given (YtmoplmjfnjgcaaaDoorTie.lean); close each card by the builder's one call (the guide's Derived/Test/ToyasCard.lean, 'card_holds'). Laid BY PROGRAM, IN A SANDBOX (cutbox-door.mjs). By AI agents, Wed Nov 11 2026. No macro, syntax, notation, axiom, sorry.
-/
import Derived.Test.YtmoplmjfnjgcaaaDoorRows
import GoSem.ClaimSeven
namespace Go.Proofs.YtmoplmjfnjgcaaaDoor
namespace Rows

/-- THE TIED CARD OF 'bedlaw1.TokensMatch'. -/
def tokensMatchCard : Claim7 := { stood := { row := tokensMatchRow, standIns := [], harness := (true, "96554a6c530abddc8403bd8acf217a80915ad58446a8576d9670e2607e13325a"), looks := false }, kinds := [], alts := [], laidByText := true, laidKinds := [.data, .pinned], laidTests := true, laidLooks := .later }
def TokensMatchCardSaid : Prop := Claim7.holds Tryd.pinned (.plain (OpenSpec.ofChange tokensMatchSpec)) tokensMatchCard

/-- THE TIED CARD OF 'bedlaw1.ErrorsAreBounded'. -/
def errorsAreBoundedCard : Claim7 := { stood := { row := errorsAreBoundedRow, standIns := [], harness := (true, "96554a6c530abddc8403bd8acf217a80915ad58446a8576d9670e2607e13325a"), looks := false }, kinds := [], alts := [], laidByText := true, laidKinds := [.data, .pinned], laidTests := true, laidLooks := .later }
def ErrorsAreBoundedCardSaid : Prop := Claim7.holds Tryd.pinned (.plain (OpenSpec.ofChange errorsAreBoundedSpec)) errorsAreBoundedCard

/-- THE SECOND FORM's CARD OF 'bedlaw1.TokensMatch'. -/
def tokensMatchUptoCard : Claim7 := { stood := { row := tokensMatchUptoRow, standIns := [], harness := (true, "96554a6c530abddc8403bd8acf217a80915ad58446a8576d9670e2607e13325a"), looks := false }, kinds := [], alts := [], laidByText := true, laidKinds := [.data, .pinned], laidTests := true, laidLooks := .later }
def TokensMatchUptoCardSaid : Prop := Claim7.holds Tryd.pinned (.plain (OpenSpec.upto tokensMatchSpec)) tokensMatchUptoCard

/-- THE SECOND FORM's CARD OF 'bedlaw1.ErrorsAreBounded'. -/
def errorsAreBoundedUptoCard : Claim7 := { stood := { row := errorsAreBoundedUptoRow, standIns := [], harness := (true, "96554a6c530abddc8403bd8acf217a80915ad58446a8576d9670e2607e13325a"), looks := false }, kinds := [], alts := [], laidByText := true, laidKinds := [.data, .pinned], laidTests := true, laidLooks := .later }
def ErrorsAreBoundedUptoCardSaid : Prop := Claim7.holds Tryd.pinned (.plain (OpenSpec.upto errorsAreBoundedSpec)) errorsAreBoundedUptoCard
end Rows
end Go.Proofs.YtmoplmjfnjgcaaaDoor
