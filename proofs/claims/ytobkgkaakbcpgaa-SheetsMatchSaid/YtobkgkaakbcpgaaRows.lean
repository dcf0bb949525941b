/-
  No cell of these rows narrows 'for every input' (looked for: loops, veiled, ifaces, maps, wideKeys, modest, calm, conditions, laid).
  DERIVED. THE GIVEN ROWS OF THIS SEAT. 7 by the template 'for every input the law returns true; each argument reads behind the call as it read before'; 0 by the template 'total and deterministic' (their statements: YtobkgkaakbcpgaaTotals.lean).
  GIVEN WITH THE SEED: the statements are not yours to turn. If you find one false, say at which input.
  Laid BY PROGRAM, IN A SANDBOX (cutbox-rows.mjs): the forced cells as the released guide's own fill.sh prints them over the translation 0ddef38347e4540e… (all of the seat's roots in one cut). By AI agents, Wed Nov 11 2026. No macro, syntax, notation, axiom, sorry.
-/
import Derived.Test.YtobkgkaakbcpgaaChecked
import GoSem.Claim
import GoSem.ClaimJoined
import GoSem.ClaimMapViews
import Derived.JoinedTies
import Derived.KernelRfl
namespace Go.Proofs.Ytobkgkaakbcpgaa
/- THE CELL 'sum', in the pinned program and in every row, IS THE sha256 OF THE DUMP (.gsa) THAT YtobkgkaakbcpgaaProg.lean LOADS. Nothing in Lean hashes anything: it is a label: what it is worth is what the hold of that sum in a sandbox is worth. -/
noncomputable def Try.pinned : Pinned := { name := "ytobkgkaakbcpgaa", sum := "0ddef38347e4540e6f494fcc80614bfbc2c6e4285ef3da3fff76be04d7343154", checked := Try.checked }
namespace Rows
def none {H : Type} : Left H := { results := [], args := [] }

/-- 'bedtop.TopStraight': WHATEVER THE INPUT: true; the input reads as it did. -/
def topStraightSpec : ChangeSpec := { name := "topStraight", fn := fun _ => fun
  | [d1, d2, d3, d4] => { results := [.lit (.bool true)], args := [d1, d2, d3, d4] }
  | _ => none }
def topStraightRow : OpenClaim := { program := "ytobkgkaakbcpgaa", sum := "0ddef38347e4540e6f494fcc80614bfbc2c6e4285ef3da3fff76be04d7343154", func := "flatbed/bedtop.TopStraight", spec := "topStraight", unfollowed := true, recurses := true, apart := false }
def TopStraightSaid : Prop := topStraightRow.holds Try.pinned (OpenSpec.ofChange topStraightSpec)

/-- ITS FALSE NEIGHBOUR: 'it returns false'. Refute it at one input. -/
def topStraightWrong : ChangeSpec := { name := "topStraight", fn := fun _ => fun
  | [d1, d2, d3, d4] => { results := [.lit (.bool false)], args := [d1, d2, d3, d4] }
  | _ => none }
def TopStraightWrongFalsely : Prop := topStraightRow.holds Try.pinned (OpenSpec.ofChange topStraightWrong)

/-- 'bedlaw2.FindsMatch': WHATEVER THE INPUT: true; the input reads as it did. -/
def findsMatchSpec : ChangeSpec := { name := "findsMatch", fn := fun _ => fun
  | [d1, d2] => { results := [.lit (.bool true)], args := [d1, d2] }
  | _ => none }
def findsMatchRow : OpenClaim := { program := "ytobkgkaakbcpgaa", sum := "0ddef38347e4540e6f494fcc80614bfbc2c6e4285ef3da3fff76be04d7343154", func := "flatbed/bedlaw2.FindsMatch", spec := "findsMatch", unfollowed := true, recurses := true, apart := false }
def FindsMatchSaid : Prop := findsMatchRow.holds Try.pinned (OpenSpec.ofChange findsMatchSpec)

/-- ITS FALSE NEIGHBOUR: 'it returns false'. Refute it at one input. -/
def findsMatchWrong : ChangeSpec := { name := "findsMatch", fn := fun _ => fun
  | [d1, d2] => { results := [.lit (.bool false)], args := [d1, d2] }
  | _ => none }
def FindsMatchWrongFalsely : Prop := findsMatchRow.holds Try.pinned (OpenSpec.ofChange findsMatchWrong)

/-- 'bedlaw2.SheetsMatch': WHATEVER THE INPUT: true; the input reads as it did. -/
def sheetsMatchSpec : ChangeSpec := { name := "sheetsMatch", fn := fun _ => fun
  | [d1, d2, d3, d4, d5, d6] => { results := [.lit (.bool true)], args := [d1, d2, d3, d4, d5, d6] }
  | _ => none }
def sheetsMatchRow : OpenClaim := { program := "ytobkgkaakbcpgaa", sum := "0ddef38347e4540e6f494fcc80614bfbc2c6e4285ef3da3fff76be04d7343154", func := "flatbed/bedlaw2.SheetsMatch", spec := "sheetsMatch", unfollowed := true, recurses := true, apart := false }
def SheetsMatchSaid : Prop := sheetsMatchRow.holds Try.pinned (OpenSpec.ofChange sheetsMatchSpec)

/-- ITS FALSE NEIGHBOUR: 'it returns false'. Refute it at one input. -/
def sheetsMatchWrong : ChangeSpec := { name := "sheetsMatch", fn := fun _ => fun
  | [d1, d2, d3, d4, d5, d6] => { results := [.lit (.bool false)], args := [d1, d2, d3, d4, d5, d6] }
  | _ => none }
def SheetsMatchWrongFalsely : Prop := sheetsMatchRow.holds Try.pinned (OpenSpec.ofChange sheetsMatchWrong)

/-- 'bedlaw2.AlignsMatch': WHATEVER THE INPUT: true; the input reads as it did. -/
def alignsMatchSpec : ChangeSpec := { name := "alignsMatch", fn := fun _ => fun
  | [d1, d2, d3] => { results := [.lit (.bool true)], args := [d1, d2, d3] }
  | _ => none }
def alignsMatchRow : OpenClaim := { program := "ytobkgkaakbcpgaa", sum := "0ddef38347e4540e6f494fcc80614bfbc2c6e4285ef3da3fff76be04d7343154", func := "flatbed/bedlaw2.AlignsMatch", spec := "alignsMatch", unfollowed := true, recurses := true, apart := false }
def AlignsMatchSaid : Prop := alignsMatchRow.holds Try.pinned (OpenSpec.ofChange alignsMatchSpec)

/-- ITS FALSE NEIGHBOUR: 'it returns false'. Refute it at one input. -/
def alignsMatchWrong : ChangeSpec := { name := "alignsMatch", fn := fun _ => fun
  | [d1, d2, d3] => { results := [.lit (.bool false)], args := [d1, d2, d3] }
  | _ => none }
def AlignsMatchWrongFalsely : Prop := alignsMatchRow.holds Try.pinned (OpenSpec.ofChange alignsMatchWrong)

/-- 'bedlaw1.BoxesMatch': WHATEVER THE INPUT: true; the input reads as it did. -/
def boxesMatchSpec : ChangeSpec := { name := "boxesMatch", fn := fun _ => fun
  | [d1, d2, d3] => { results := [.lit (.bool true)], args := [d1, d2, d3] }
  | _ => none }
def boxesMatchRow : OpenClaim := { program := "ytobkgkaakbcpgaa", sum := "0ddef38347e4540e6f494fcc80614bfbc2c6e4285ef3da3fff76be04d7343154", func := "flatbed/bedlaw1.BoxesMatch", spec := "boxesMatch", unfollowed := true, recurses := true, apart := false }
def BoxesMatchSaid : Prop := boxesMatchRow.holds Try.pinned (OpenSpec.ofChange boxesMatchSpec)

/-- ITS FALSE NEIGHBOUR: 'it returns false'. Refute it at one input. -/
def boxesMatchWrong : ChangeSpec := { name := "boxesMatch", fn := fun _ => fun
  | [d1, d2, d3] => { results := [.lit (.bool false)], args := [d1, d2, d3] }
  | _ => none }
def BoxesMatchWrongFalsely : Prop := boxesMatchRow.holds Try.pinned (OpenSpec.ofChange boxesMatchWrong)

/-- 'bedlaw1.OrdersMatch': WHATEVER THE INPUT: true; the input reads as it did. -/
def ordersMatchSpec : ChangeSpec := { name := "ordersMatch", fn := fun _ => fun
  | [d1, d2, d3, d4] => { results := [.lit (.bool true)], args := [d1, d2, d3, d4] }
  | _ => none }
def ordersMatchRow : OpenClaim := { program := "ytobkgkaakbcpgaa", sum := "0ddef38347e4540e6f494fcc80614bfbc2c6e4285ef3da3fff76be04d7343154", func := "flatbed/bedlaw1.OrdersMatch", spec := "ordersMatch", unfollowed := true, recurses := true, apart := false }
def OrdersMatchSaid : Prop := ordersMatchRow.holds Try.pinned (OpenSpec.ofChange ordersMatchSpec)

/-- ITS FALSE NEIGHBOUR: 'it returns false'. Refute it at one input. -/
def ordersMatchWrong : ChangeSpec := { name := "ordersMatch", fn := fun _ => fun
  | [d1, d2, d3, d4] => { results := [.lit (.bool false)], args := [d1, d2, d3, d4] }
  | _ => none }
def OrdersMatchWrongFalsely : Prop := ordersMatchRow.holds Try.pinned (OpenSpec.ofChange ordersMatchWrong)

/-- 'bedlaw1.SplitsMatch': WHATEVER THE INPUT: true; the input reads as it did. -/
def splitsMatchSpec : ChangeSpec := { name := "splitsMatch", fn := fun _ => fun
  | [d1, d2, d3, d4] => { results := [.lit (.bool true)], args := [d1, d2, d3, d4] }
  | _ => none }
def splitsMatchRow : OpenClaim := { program := "ytobkgkaakbcpgaa", sum := "0ddef38347e4540e6f494fcc80614bfbc2c6e4285ef3da3fff76be04d7343154", func := "flatbed/bedlaw1.SplitsMatch", spec := "splitsMatch", unfollowed := true, recurses := true, apart := false }
def SplitsMatchSaid : Prop := splitsMatchRow.holds Try.pinned (OpenSpec.ofChange splitsMatchSpec)

/-- ITS FALSE NEIGHBOUR: 'it returns false'. Refute it at one input. -/
def splitsMatchWrong : ChangeSpec := { name := "splitsMatch", fn := fun _ => fun
  | [d1, d2, d3, d4] => { results := [.lit (.bool false)], args := [d1, d2, d3, d4] }
  | _ => none }
def SplitsMatchWrongFalsely : Prop := splitsMatchRow.holds Try.pinned (OpenSpec.ofChange splitsMatchWrong)

/- THE SECOND FORM. 'bulk': how many values and letters a reading holds, each counted each time it is reached (what is shared counts as often as it is met; a slice's spare places count too). A statement '..UptoSaid' is the law's where the arguments, and the package variables that the reading takes, are together of bulk at most 1048576: NARROWER than '..Said'. Prove '..Said' where nothing that the law and all that it calls make is longer than what came in: it says more and counts as full. Else prove '..UptoSaid'. A law counts once. -/
mutual
def uptoBulk {H : Type} : DataW H → Nat
  | .lit (.string bytes) => bytes.length + 1
  | .lit _ => 1
  | .nil => 1
  | .ptr d => uptoBulk d + 1
  | .slice elems spare => uptoBulkAll elems + uptoBulkAll spare + 1
  | .agg parts => uptoBulkAll parts + 1
  | .iface _ d => uptoBulk d + 1
  | .map entries => uptoBulkEntries entries + 1
  | .held _ => 1
def uptoBulkAll {H : Type} : List (DataW H) → Nat
  | [] => 0
  | d :: r => uptoBulk d + uptoBulkAll r
def uptoBulkEntries {H : Type} : List (Lit × DataW H) → Nat
  | [] => 0
  | x :: r => uptoBulkEntry x + uptoBulkEntries r
def uptoBulkEntry {H : Type} : Lit × DataW H → Nat
  | (.string bytes, d) => bytes.length + uptoBulk d + 1
  | (_, d) => uptoBulk d + 1
 end
def uptoSmall : (H : Type) → List (DataW H) → Bool := fun _ ds => decide (uptoBulkAll ds ≤ 1048576)
def OpenSpec.upto (s : _root_.Go.ChangeSpec) : _root_.Go.OpenSpec := { _root_.Go.OpenSpec.ofChange s with cond := some uptoSmall }

/-- 'bedtop.TopStraight', WHERE WHAT IT READS IS OF BULK AT MOST 1048576: true; the input reads as it did. -/
def topStraightUptoRow : OpenClaim := { program := "ytobkgkaakbcpgaa", sum := "0ddef38347e4540e6f494fcc80614bfbc2c6e4285ef3da3fff76be04d7343154", func := "flatbed/bedtop.TopStraight", spec := "topStraight", unfollowed := true, recurses := true, apart := false, narrowed := true }
def TopStraightUptoSaid : Prop := topStraightUptoRow.holds Try.pinned (OpenSpec.upto topStraightSpec)

/-- 'bedlaw2.FindsMatch', WHERE WHAT IT READS IS OF BULK AT MOST 1048576: true; the input reads as it did. -/
def findsMatchUptoRow : OpenClaim := { program := "ytobkgkaakbcpgaa", sum := "0ddef38347e4540e6f494fcc80614bfbc2c6e4285ef3da3fff76be04d7343154", func := "flatbed/bedlaw2.FindsMatch", spec := "findsMatch", unfollowed := true, recurses := true, apart := false, narrowed := true }
def FindsMatchUptoSaid : Prop := findsMatchUptoRow.holds Try.pinned (OpenSpec.upto findsMatchSpec)

/-- 'bedlaw2.SheetsMatch', WHERE WHAT IT READS IS OF BULK AT MOST 1048576: true; the input reads as it did. -/
def sheetsMatchUptoRow : OpenClaim := { program := "ytobkgkaakbcpgaa", sum := "0ddef38347e4540e6f494fcc80614bfbc2c6e4285ef3da3fff76be04d7343154", func := "flatbed/bedlaw2.SheetsMatch", spec := "sheetsMatch", unfollowed := true, recurses := true, apart := false, narrowed := true }
def SheetsMatchUptoSaid : Prop := sheetsMatchUptoRow.holds Try.pinned (OpenSpec.upto sheetsMatchSpec)

/-- 'bedlaw2.AlignsMatch', WHERE WHAT IT READS IS OF BULK AT MOST 1048576: true; the input reads as it did. -/
def alignsMatchUptoRow : OpenClaim := { program := "ytobkgkaakbcpgaa", sum := "0ddef38347e4540e6f494fcc80614bfbc2c6e4285ef3da3fff76be04d7343154", func := "flatbed/bedlaw2.AlignsMatch", spec := "alignsMatch", unfollowed := true, recurses := true, apart := false, narrowed := true }
def AlignsMatchUptoSaid : Prop := alignsMatchUptoRow.holds Try.pinned (OpenSpec.upto alignsMatchSpec)

/-- 'bedlaw1.BoxesMatch', WHERE WHAT IT READS IS OF BULK AT MOST 1048576: true; the input reads as it did. -/
def boxesMatchUptoRow : OpenClaim := { program := "ytobkgkaakbcpgaa", sum := "0ddef38347e4540e6f494fcc80614bfbc2c6e4285ef3da3fff76be04d7343154", func := "flatbed/bedlaw1.BoxesMatch", spec := "boxesMatch", unfollowed := true, recurses := true, apart := false, narrowed := true }
def BoxesMatchUptoSaid : Prop := boxesMatchUptoRow.holds Try.pinned (OpenSpec.upto boxesMatchSpec)

/-- 'bedlaw1.OrdersMatch', WHERE WHAT IT READS IS OF BULK AT MOST 1048576: true; the input reads as it did. -/
def ordersMatchUptoRow : OpenClaim := { program := "ytobkgkaakbcpgaa", sum := "0ddef38347e4540e6f494fcc80614bfbc2c6e4285ef3da3fff76be04d7343154", func := "flatbed/bedlaw1.OrdersMatch", spec := "ordersMatch", unfollowed := true, recurses := true, apart := false, narrowed := true }
def OrdersMatchUptoSaid : Prop := ordersMatchUptoRow.holds Try.pinned (OpenSpec.upto ordersMatchSpec)

/-- 'bedlaw1.SplitsMatch', WHERE WHAT IT READS IS OF BULK AT MOST 1048576: true; the input reads as it did. -/
def splitsMatchUptoRow : OpenClaim := { program := "ytobkgkaakbcpgaa", sum := "0ddef38347e4540e6f494fcc80614bfbc2c6e4285ef3da3fff76be04d7343154", func := "flatbed/bedlaw1.SplitsMatch", spec := "splitsMatch", unfollowed := true, recurses := true, apart := false, narrowed := true }
def SplitsMatchUptoSaid : Prop := splitsMatchUptoRow.holds Try.pinned (OpenSpec.upto splitsMatchSpec)

end Rows
end Go.Proofs.Ytobkgkaakbcpgaa
