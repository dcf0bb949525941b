/-
  Contracts of Blank and pages; no conditions but those named.
-/
import Derived.Test.YthcmolhjncdnaaaDoorBase
namespace Go.Proofs.YthcmolhjncdnaaaDoor
open Go.RowKit
set_option linter.unusedSimpArgs false
set_option linter.unusedVariables false

end Go.Proofs.YthcmolhjncdnaaaDoor
