/-
  DERIVED. GIVEN WITH THE SEED: THE CARDS: each row of YtbfnplagidhaeaaDoorRows.lean that lists a variable, with what it lists TIED to the program's text (the seventh form; the later family's looks); each row that meets fmt, with fmt's text TOLD by the authors' own Lean function (tested against real Go, not proved from fmt's source: count such statements apart). THE CARD IS WHAT COUNTS. Prove the row's statement (the work); the ties are given (YtbfnplagidhaeaaDoorTie.lean); close each card by the builder's one call (the guide's Derived/Test/ToyasCard.lean, 'card_holds'). Laid BY PROGRAM, IN A SANDBOX (cutbox-door.mjs). By AI agents, Wed Nov 11 2026. No macro, syntax, notation, axiom, sorry.
-/
import Derived.Test.YtbfnplagidhaeaaDoorRows
import GoSem.ClaimSeven
namespace Go.Proofs.YtbfnplagidhaeaaDoor
namespace Rows

/-- THE TIED CARD OF 'bedlaw1.GammasMatch'. -/
def gammasMatchCard : Claim7 := { stood := { row := gammasMatchRow, standIns := [], harness := (true, "03389760aed491264fd8b463d5290dfb7c3966671b6f399b59ced411ae3fb6b6"), looks := true }, kinds := [], alts := [], laidByText := true, laidKinds := [.data, .data, .data, .data, .sentinel, .sentinel, .pinned], laidTests := true, laidLooks := .later }
def GammasMatchCardSaid : Prop := Claim7.holds Tryd.pinned (.plain (OpenSpec.ofChange gammasMatchSpec)) gammasMatchCard

/-- THE SECOND FORM's CARD OF 'bedlaw1.GammasMatch'. -/
def gammasMatchUptoCard : Claim7 := { stood := { row := gammasMatchUptoRow, standIns := [], harness := (true, "03389760aed491264fd8b463d5290dfb7c3966671b6f399b59ced411ae3fb6b6"), looks := true }, kinds := [], alts := [], laidByText := true, laidKinds := [.data, .data, .data, .data, .sentinel, .sentinel, .pinned], laidTests := true, laidLooks := .later }
def GammasMatchUptoCardSaid : Prop := Claim7.holds Tryd.pinned (.plain (OpenSpec.upto gammasMatchSpec)) gammasMatchUptoCard
end Rows
end Go.Proofs.YtbfnplagidhaeaaDoor
