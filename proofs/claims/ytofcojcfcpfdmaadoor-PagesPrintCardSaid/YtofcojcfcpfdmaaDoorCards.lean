/-
  DERIVED. GIVEN WITH THE SEED: THE CARDS: each row of YtofcojcfcpfdmaaDoorRows.lean that lists a variable, with what it lists TIED to the program's text (the seventh form; the later family's looks); each row that meets fmt, with fmt's text TOLD by the authors' own Lean function (tested against real Go, not proved from fmt's source: count such statements apart). THE CARD IS WHAT COUNTS. Prove the row's statement (the work); the ties are given (YtofcojcfcpfdmaaDoorTie.lean); close each card by the builder's one call (the guide's Derived/Test/ToyasCard.lean, 'card_holds'). Laid BY PROGRAM, IN A SANDBOX (cutbox-door.mjs). By AI agents, Wed Nov 11 2026. No macro, syntax, notation, axiom, sorry.
-/
import Derived.Test.YtofcojcfcpfdmaaDoorRows
import GoSem.ClaimSeven
namespace Go.Proofs.YtofcojcfcpfdmaaDoor
namespace Rows

/-- THE TIED CARD OF 'bedlaw2.PagesPrint'. -/
def pagesPrintCard : Claim7 := { stood := { row := pagesPrintRow, standIns := [], harness := (true, "5b7c9becff7dae5cafe9e3a1d5052166c831b4df99a2b71bf0e220b959ac49d3"), looks := false }, kinds := [], alts := [], laidByText := true, laidKinds := [.data, .pinned], laidTests := true, laidLooks := .later }
def PagesPrintCardSaid : Prop := Claim7.holds Tryd.pinned (.plain (OpenSpec.ofChange pagesPrintSpec)) pagesPrintCard

/-- THE TIED CARD OF 'bedlaw1.PagesCheck'. -/
def pagesCheckCard : Claim7 := { stood := { row := pagesCheckRow, standIns := [], harness := (true, "5b7c9becff7dae5cafe9e3a1d5052166c831b4df99a2b71bf0e220b959ac49d3"), looks := false }, kinds := [], alts := [], laidByText := true, laidKinds := [.data], laidTests := true, laidLooks := .later }
def PagesCheckCardSaid : Prop := Claim7.holds Tryd.pinned (.plain (OpenSpec.ofChange pagesCheckSpec)) pagesCheckCard

/-- THE SECOND FORM's CARD OF 'bedlaw2.PagesPrint'. -/
def pagesPrintUptoCard : Claim7 := { stood := { row := pagesPrintUptoRow, standIns := [], harness := (true, "5b7c9becff7dae5cafe9e3a1d5052166c831b4df99a2b71bf0e220b959ac49d3"), looks := false }, kinds := [], alts := [], laidByText := true, laidKinds := [.data, .pinned], laidTests := true, laidLooks := .later }
def PagesPrintUptoCardSaid : Prop := Claim7.holds Tryd.pinned (.plain (OpenSpec.upto pagesPrintSpec)) pagesPrintUptoCard

/-- THE SECOND FORM's CARD OF 'bedlaw1.PagesCheck'. -/
def pagesCheckUptoCard : Claim7 := { stood := { row := pagesCheckUptoRow, standIns := [], harness := (true, "5b7c9becff7dae5cafe9e3a1d5052166c831b4df99a2b71bf0e220b959ac49d3"), looks := false }, kinds := [], alts := [], laidByText := true, laidKinds := [.data], laidTests := true, laidLooks := .later }
def PagesCheckUptoCardSaid : Prop := Claim7.holds Tryd.pinned (.plain (OpenSpec.upto pagesCheckSpec)) pagesCheckUptoCard
end Rows
end Go.Proofs.YtofcojcfcpfdmaaDoor
