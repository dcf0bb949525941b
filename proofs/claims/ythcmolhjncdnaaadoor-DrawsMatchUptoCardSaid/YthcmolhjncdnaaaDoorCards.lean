/-
  DERIVED. GIVEN WITH THE SEED: THE CARDS: each row of YthcmolhjncdnaaaDoorRows.lean that lists a variable, with what it lists TIED to the program's text (the seventh form; the later family's looks); each row that meets fmt, with fmt's text TOLD by the authors' own Lean function (tested against real Go, not proved from fmt's source: count such statements apart). THE CARD IS WHAT COUNTS. Prove the row's statement (the work); the ties are given (YthcmolhjncdnaaaDoorTie.lean); close each card by the builder's one call (the guide's Derived/Test/ToyasCard.lean, 'card_holds'). Laid BY PROGRAM, IN A SANDBOX (cutbox-door.mjs). By AI agents, Wed Nov 11 2026. No macro, syntax, notation, axiom, sorry.
-/
import Derived.Test.YthcmolhjncdnaaaDoorRows
import GoSem.ClaimSeven
namespace Go.Proofs.YthcmolhjncdnaaaDoor
namespace Rows

/-- THE TIED CARD OF 'bedlaw2.DrawsMatch'. -/
def drawsMatchCard : Claim7 := { stood := { row := drawsMatchRow, standIns := [], harness := (true, "ded6c37c0b6f12d70b360d30e5020ae37fb11656b742955d26ba300aa43b0bed"), looks := false }, kinds := [], alts := [], laidByText := true, laidKinds := [.data, .pinned], laidTests := true, laidLooks := .later }
def DrawsMatchCardSaid : Prop := Claim7.holds Tryd.pinned (.plain (OpenSpec.ofChange drawsMatchSpec)) drawsMatchCard

/-- THE SECOND FORM's CARD OF 'bedlaw2.DrawsMatch'. -/
def drawsMatchUptoCard : Claim7 := { stood := { row := drawsMatchUptoRow, standIns := [], harness := (true, "ded6c37c0b6f12d70b360d30e5020ae37fb11656b742955d26ba300aa43b0bed"), looks := false }, kinds := [], alts := [], laidByText := true, laidKinds := [.data, .pinned], laidTests := true, laidLooks := .later }
def DrawsMatchUptoCardSaid : Prop := Claim7.holds Tryd.pinned (.plain (OpenSpec.upto drawsMatchSpec)) drawsMatchUptoCard
end Rows
end Go.Proofs.YthcmolhjncdnaaaDoor
