/-
  No cell of these rows narrows 'for every input' (looked for: loops, veiled, ifaces, maps, wideKeys, modest, calm, conditions, laid).
  DERIVED. THE GIVEN ROWS OF THIS SEAT. 4 by the template 'for every input the law returns true; each argument reads behind the call as it read before'; 0 by the template 'total and deterministic' (their statements: YtofcojcfcpfdmaaTotals.lean).
  GIVEN WITH THE SEED: the statements are not yours to turn. If you find one false, say at which input.
  Laid BY PROGRAM, IN A SANDBOX (cutbox-rows.mjs): the forced cells as the released guide's own fill.sh prints them over the translation 2c93992ceec76b30… (all of the seat's roots in one cut). By AI agents, Wed Nov 11 2026. No macro, syntax, notation, axiom, sorry.
-/
import Derived.Test.YtofcojcfcpfdmaaChecked
import GoSem.Claim
import GoSem.ClaimJoined
import GoSem.ClaimMapViews
import Derived.JoinedTies
import Derived.KernelRfl
namespace Go.Proofs.Ytofcojcfcpfdmaa
/- THE CELL 'sum', in the pinned program and in every row, IS THE sha256 OF THE DUMP (.gsa) THAT YtofcojcfcpfdmaaProg.lean LOADS. Nothing in Lean hashes anything: it is a label: what it is worth is what the hold of that sum in a sandbox is worth. -/
noncomputable def Try.pinned : Pinned := { name := "ytofcojcfcpfdmaa", sum := "2c93992ceec76b3020f0dbf02f2a0227dbfb130552d3637608e9fa0e4eb7f97b", checked := Try.checked }
namespace Rows
def none {H : Type} : Left H := { results := [], args := [] }

/-- 'bedlaw1.GreysMatch': WHATEVER THE INPUT: true; the input reads as it did. -/
def greysMatchSpec : ChangeSpec := { name := "greysMatch", fn := fun _ => fun
  | [d1, d2, d3, d4, d5] => { results := [.lit (.bool true)], args := [d1, d2, d3, d4, d5] }
  | _ => none }
def greysMatchRow : OpenClaim := { program := "ytofcojcfcpfdmaa", sum := "2c93992ceec76b3020f0dbf02f2a0227dbfb130552d3637608e9fa0e4eb7f97b", func := "flatbed/bedlaw1.GreysMatch", spec := "greysMatch", unfollowed := true, recurses := true, plainKeys := false, apart := false }
def GreysMatchSaid : Prop := greysMatchRow.holds Try.pinned (OpenSpec.ofChange greysMatchSpec)

/-- ITS FALSE NEIGHBOUR: 'it returns false'. Refute it at one input. -/
def greysMatchWrong : ChangeSpec := { name := "greysMatch", fn := fun _ => fun
  | [d1, d2, d3, d4, d5] => { results := [.lit (.bool false)], args := [d1, d2, d3, d4, d5] }
  | _ => none }
def GreysMatchWrongFalsely : Prop := greysMatchRow.holds Try.pinned (OpenSpec.ofChange greysMatchWrong)

/-- 'bedtop.TopStraight': WHATEVER THE INPUT: true; the input reads as it did. -/
def topStraightSpec : ChangeSpec := { name := "topStraight", fn := fun _ => fun
  | [d1, d2, d3, d4] => { results := [.lit (.bool true)], args := [d1, d2, d3, d4] }
  | _ => none }
def topStraightRow : OpenClaim := { program := "ytofcojcfcpfdmaa", sum := "2c93992ceec76b3020f0dbf02f2a0227dbfb130552d3637608e9fa0e4eb7f97b", func := "flatbed/bedtop.TopStraight", spec := "topStraight", unfollowed := true, recurses := true, plainKeys := false, apart := false }
def TopStraightSaid : Prop := topStraightRow.holds Try.pinned (OpenSpec.ofChange topStraightSpec)

/-- ITS FALSE NEIGHBOUR: 'it returns false'. Refute it at one input. -/
def topStraightWrong : ChangeSpec := { name := "topStraight", fn := fun _ => fun
  | [d1, d2, d3, d4] => { results := [.lit (.bool false)], args := [d1, d2, d3, d4] }
  | _ => none }
def TopStraightWrongFalsely : Prop := topStraightRow.holds Try.pinned (OpenSpec.ofChange topStraightWrong)

/-- 'bedlaw2.LeansMatch': WHATEVER THE INPUT: true; the input reads as it did. -/
def leansMatchSpec : ChangeSpec := { name := "leansMatch", fn := fun _ => fun
  | [d1, d2] => { results := [.lit (.bool true)], args := [d1, d2] }
  | _ => none }
def leansMatchRow : OpenClaim := { program := "ytofcojcfcpfdmaa", sum := "2c93992ceec76b3020f0dbf02f2a0227dbfb130552d3637608e9fa0e4eb7f97b", func := "flatbed/bedlaw2.LeansMatch", spec := "leansMatch", unfollowed := true, recurses := true, plainKeys := false, apart := false }
def LeansMatchSaid : Prop := leansMatchRow.holds Try.pinned (OpenSpec.ofChange leansMatchSpec)

/-- ITS FALSE NEIGHBOUR: 'it returns false'. Refute it at one input. -/
def leansMatchWrong : ChangeSpec := { name := "leansMatch", fn := fun _ => fun
  | [d1, d2] => { results := [.lit (.bool false)], args := [d1, d2] }
  | _ => none }
def LeansMatchWrongFalsely : Prop := leansMatchRow.holds Try.pinned (OpenSpec.ofChange leansMatchWrong)

/-- 'bedlaw2.SheetsMatch': WHATEVER THE INPUT: true; the input reads as it did. -/
def sheetsMatchSpec : ChangeSpec := { name := "sheetsMatch", fn := fun _ => fun
  | [d1, d2, d3, d4, d5, d6] => { results := [.lit (.bool true)], args := [d1, d2, d3, d4, d5, d6] }
  | _ => none }
def sheetsMatchRow : OpenClaim := { program := "ytofcojcfcpfdmaa", sum := "2c93992ceec76b3020f0dbf02f2a0227dbfb130552d3637608e9fa0e4eb7f97b", func := "flatbed/bedlaw2.SheetsMatch", spec := "sheetsMatch", unfollowed := true, recurses := true, plainKeys := false, apart := false }
def SheetsMatchSaid : Prop := sheetsMatchRow.holds Try.pinned (OpenSpec.ofChange sheetsMatchSpec)

/-- ITS FALSE NEIGHBOUR: 'it returns false'. Refute it at one input. -/
def sheetsMatchWrong : ChangeSpec := { name := "sheetsMatch", fn := fun _ => fun
  | [d1, d2, d3, d4, d5, d6] => { results := [.lit (.bool false)], args := [d1, d2, d3, d4, d5, d6] }
  | _ => none }
def SheetsMatchWrongFalsely : Prop := sheetsMatchRow.holds Try.pinned (OpenSpec.ofChange sheetsMatchWrong)

/- THE SECOND FORM. 'bulk': how many values and letters a reading holds, each counted each time it is reached (what is shared counts as often as it is met; a slice's spare places count too). A statement '..UptoSaid' is the law's where the arguments, and the package variables that the reading takes, are together of bulk at most 1048576: NARROWER than '..Said'. Prove '..Said' where nothing that the law and all that it calls make is longer than what came in: it says more and counts as full. Else prove '..UptoSaid'. A law counts once. -/
mutual
def uptoBulk {H : Type} : DataW H → Nat
  | .lit (.string bytes) => bytes.length + 1
  | .lit _ => 1
  | .nil => 1
  | .ptr d => uptoBulk d + 1
  | .slice elems spare => uptoBulkAll elems + uptoBulkAll spare + 1
  | .agg parts => uptoBulkAll parts + 1
  | .iface _ d => uptoBulk d + 1
  | .map entries => uptoBulkEntries entries + 1
  | .held _ => 1
def uptoBulkAll {H : Type} : List (DataW H) → Nat
  | [] => 0
  | d :: r => uptoBulk d + uptoBulkAll r
def uptoBulkEntries {H : Type} : List (Lit × DataW H) → Nat
  | [] => 0
  | x :: r => uptoBulkEntry x + uptoBulkEntries r
def uptoBulkEntry {H : Type} : Lit × DataW H → Nat
  | (.string bytes, d) => bytes.length + uptoBulk d + 1
  | (_, d) => uptoBulk d + 1
 end
def uptoSmall : (H : Type) → List (DataW H) → Bool := fun _ ds => decide (uptoBulkAll ds ≤ 1048576)
def OpenSpec.upto (s : _root_.Go.ChangeSpec) : _root_.Go.OpenSpec := { _root_.Go.OpenSpec.ofChange s with cond := some uptoSmall }

/-- 'bedlaw1.GreysMatch', WHERE WHAT IT READS IS OF BULK AT MOST 1048576: true; the input reads as it did. -/
def greysMatchUptoRow : OpenClaim := { program := "ytofcojcfcpfdmaa", sum := "2c93992ceec76b3020f0dbf02f2a0227dbfb130552d3637608e9fa0e4eb7f97b", func := "flatbed/bedlaw1.GreysMatch", spec := "greysMatch", unfollowed := true, recurses := true, plainKeys := false, apart := false, narrowed := true }
def GreysMatchUptoSaid : Prop := greysMatchUptoRow.holds Try.pinned (OpenSpec.upto greysMatchSpec)

/-- 'bedtop.TopStraight', WHERE WHAT IT READS IS OF BULK AT MOST 1048576: true; the input reads as it did. -/
def topStraightUptoRow : OpenClaim := { program := "ytofcojcfcpfdmaa", sum := "2c93992ceec76b3020f0dbf02f2a0227dbfb130552d3637608e9fa0e4eb7f97b", func := "flatbed/bedtop.TopStraight", spec := "topStraight", unfollowed := true, recurses := true, plainKeys := false, apart := false, narrowed := true }
def TopStraightUptoSaid : Prop := topStraightUptoRow.holds Try.pinned (OpenSpec.upto topStraightSpec)

/-- 'bedlaw2.LeansMatch', WHERE WHAT IT READS IS OF BULK AT MOST 1048576: true; the input reads as it did. -/
def leansMatchUptoRow : OpenClaim := { program := "ytofcojcfcpfdmaa", sum := "2c93992ceec76b3020f0dbf02f2a0227dbfb130552d3637608e9fa0e4eb7f97b", func := "flatbed/bedlaw2.LeansMatch", spec := "leansMatch", unfollowed := true, recurses := true, plainKeys := false, apart := false, narrowed := true }
def LeansMatchUptoSaid : Prop := leansMatchUptoRow.holds Try.pinned (OpenSpec.upto leansMatchSpec)

/-- 'bedlaw2.SheetsMatch', WHERE WHAT IT READS IS OF BULK AT MOST 1048576: true; the input reads as it did. -/
def sheetsMatchUptoRow : OpenClaim := { program := "ytofcojcfcpfdmaa", sum := "2c93992ceec76b3020f0dbf02f2a0227dbfb130552d3637608e9fa0e4eb7f97b", func := "flatbed/bedlaw2.SheetsMatch", spec := "sheetsMatch", unfollowed := true, recurses := true, plainKeys := false, apart := false, narrowed := true }
def SheetsMatchUptoSaid : Prop := sheetsMatchUptoRow.holds Try.pinned (OpenSpec.upto sheetsMatchSpec)

end Rows
end Go.Proofs.Ytofcojcfcpfdmaa
