/-
  DERIVED. GIVEN WITH THE SEED: THE CARDS: each row of YtmloidgeolgpdaaDoorRows.lean that lists a variable, with what it lists TIED to the program's text (the seventh form; the later family's looks); each row that meets fmt, with fmt's text TOLD by the authors' own Lean function (tested against real Go, not proved from fmt's source: count such statements apart). THE CARD IS WHAT COUNTS. Prove the row's statement (the work); the ties are given (YtmloidgeolgpdaaDoorTie.lean); close each card by the builder's one call (the guide's Derived/Test/ToyasCard.lean, 'card_holds'). Laid BY PROGRAM, IN A SANDBOX (cutbox-door.mjs). By AI agents, Wed Nov 11 2026. No macro, syntax, notation, axiom, sorry.
-/
import Derived.Test.YtmloidgeolgpdaaDoorRows
import GoSem.ClaimSeven
namespace Go.Proofs.YtmloidgeolgpdaaDoor
namespace Rows

/-- THE TIED CARD OF 'bedlaw2.EANsMatch'. -/
def eANsMatchCard : Claim7 := { stood := { row := eANsMatchRow, standIns := [], harness := (true, "0b372e2ba2478b56d219f7cba4a144fff4392d7759180debf876ee6ebd8fb67e"), looks := false }, kinds := [], alts := [], laidByText := true, laidKinds := [.data, .listed, .data, .data, .data, .pinned], laidTests := true, laidLooks := .later }
def EANsMatchCardSaid : Prop := Claim7.holds Tryd.pinned (.plain (OpenSpec.ofChange eANsMatchSpec)) eANsMatchCard

/-- THE TIED CARD OF 'bedlaw2.VotesMatch'. -/
def votesMatchCard : Claim7 := { stood := { row := votesMatchRow, standIns := [], harness := (true, "0b372e2ba2478b56d219f7cba4a144fff4392d7759180debf876ee6ebd8fb67e"), looks := false }, kinds := [], alts := [], laidByText := true, laidKinds := [.data, .pinned], laidTests := true, laidLooks := .later }
def VotesMatchCardSaid : Prop := Claim7.holds Tryd.pinned (.plain (OpenSpec.ofChange votesMatchSpec)) votesMatchCard

/-- THE SECOND FORM's CARD OF 'bedlaw2.EANsMatch'. -/
def eANsMatchUptoCard : Claim7 := { stood := { row := eANsMatchUptoRow, standIns := [], harness := (true, "0b372e2ba2478b56d219f7cba4a144fff4392d7759180debf876ee6ebd8fb67e"), looks := false }, kinds := [], alts := [], laidByText := true, laidKinds := [.data, .listed, .data, .data, .data, .pinned], laidTests := true, laidLooks := .later }
def EANsMatchUptoCardSaid : Prop := Claim7.holds Tryd.pinned (.plain (OpenSpec.upto eANsMatchSpec)) eANsMatchUptoCard

/-- THE SECOND FORM's CARD OF 'bedlaw2.VotesMatch'. -/
def votesMatchUptoCard : Claim7 := { stood := { row := votesMatchUptoRow, standIns := [], harness := (true, "0b372e2ba2478b56d219f7cba4a144fff4392d7759180debf876ee6ebd8fb67e"), looks := false }, kinds := [], alts := [], laidByText := true, laidKinds := [.data, .pinned], laidTests := true, laidLooks := .later }
def VotesMatchUptoCardSaid : Prop := Claim7.holds Tryd.pinned (.plain (OpenSpec.upto votesMatchSpec)) votesMatchUptoCard
end Rows
end Go.Proofs.YtmloidgeolgpdaaDoor
