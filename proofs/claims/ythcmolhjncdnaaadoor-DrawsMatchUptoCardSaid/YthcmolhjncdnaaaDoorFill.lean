/-
  The contract of page.Fill at int: w by h values, row by row, as the function value tells them; the function value may make memory of its own, and turns nothing that was there.
-/
import Derived.Test.YthcmolhjncdnaaaDoorBase
namespace Go.Proofs.YthcmolhjncdnaaaDoor
open Go.RowKit
set_option linter.unusedSimpArgs false
set_option linter.unusedVariables false

end Go.Proofs.YthcmolhjncdnaaaDoor
