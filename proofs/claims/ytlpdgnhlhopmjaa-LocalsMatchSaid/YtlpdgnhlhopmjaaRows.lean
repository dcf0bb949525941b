/-
  No cell of these rows narrows 'for every input' (looked for: loops, veiled, ifaces, maps, wideKeys, modest, calm, conditions, laid).
  DERIVED. THE GIVEN ROWS OF THIS SEAT. 3 by the template 'for every input the law returns true; each argument reads behind the call as it read before'; 0 by the template 'total and deterministic' (their statements: YtlpdgnhlhopmjaaTotals.lean).
  GIVEN WITH THE SEED: the statements are not yours to turn. If you find one false, say at which input.
  Laid BY PROGRAM, IN A SANDBOX (cutbox-rows.mjs): the forced cells as the released guide's own fill.sh prints them over the translation e97ffa369c62f92d… (all of the seat's roots in one cut). By AI agents, Wed Nov 11 2026. No macro, syntax, notation, axiom, sorry.
-/
import Derived.Test.YtlpdgnhlhopmjaaChecked
import GoSem.Claim
import GoSem.ClaimJoined
import GoSem.ClaimMapViews
import Derived.JoinedTies
import Derived.KernelRfl
namespace Go.Proofs.Ytlpdgnhlhopmjaa
/- THE CELL 'sum', in the pinned program and in every row, IS THE sha256 OF THE DUMP (.gsa) THAT YtlpdgnhlhopmjaaProg.lean LOADS. Nothing in Lean hashes anything: it is a label: what it is worth is what the hold of that sum in a sandbox is worth. -/
noncomputable def Try.pinned : Pinned := { name := "ytlpdgnhlhopmjaa", sum := "e97ffa369c62f92df6cbb4860203f7ef4598c8d2a19cfb830f7562dad15c5180", checked := Try.checked }
namespace Rows
def none {H : Type} : Left H := { results := [], args := [] }

/-- 'bedlaw2.MeansMatch': WHATEVER THE INPUT: true; the input reads as it did. -/
def meansMatchSpec : ChangeSpec := { name := "meansMatch", fn := fun _ => fun
  | [d1, d2] => { results := [.lit (.bool true)], args := [d1, d2] }
  | _ => none }
def meansMatchRow : OpenClaim := { program := "ytlpdgnhlhopmjaa", sum := "e97ffa369c62f92df6cbb4860203f7ef4598c8d2a19cfb830f7562dad15c5180", func := "flatbed/bedlaw2.MeansMatch", spec := "meansMatch", unfollowed := true, recurses := true, apart := false }
def MeansMatchSaid : Prop := meansMatchRow.holds Try.pinned (OpenSpec.ofChange meansMatchSpec)

/-- ITS FALSE NEIGHBOUR: 'it returns false'. Refute it at one input. -/
def meansMatchWrong : ChangeSpec := { name := "meansMatch", fn := fun _ => fun
  | [d1, d2] => { results := [.lit (.bool false)], args := [d1, d2] }
  | _ => none }
def MeansMatchWrongFalsely : Prop := meansMatchRow.holds Try.pinned (OpenSpec.ofChange meansMatchWrong)

/-- 'bedlaw1.LocalsMatch': WHATEVER THE INPUT: true; the input reads as it did. -/
def localsMatchSpec : ChangeSpec := { name := "localsMatch", fn := fun _ => fun
  | [d1, d2, d3] => { results := [.lit (.bool true)], args := [d1, d2, d3] }
  | _ => none }
def localsMatchRow : OpenClaim := { program := "ytlpdgnhlhopmjaa", sum := "e97ffa369c62f92df6cbb4860203f7ef4598c8d2a19cfb830f7562dad15c5180", func := "flatbed/bedlaw1.LocalsMatch", spec := "localsMatch", unfollowed := true, recurses := true, apart := false }
def LocalsMatchSaid : Prop := localsMatchRow.holds Try.pinned (OpenSpec.ofChange localsMatchSpec)

/-- ITS FALSE NEIGHBOUR: 'it returns false'. Refute it at one input. -/
def localsMatchWrong : ChangeSpec := { name := "localsMatch", fn := fun _ => fun
  | [d1, d2, d3] => { results := [.lit (.bool false)], args := [d1, d2, d3] }
  | _ => none }
def LocalsMatchWrongFalsely : Prop := localsMatchRow.holds Try.pinned (OpenSpec.ofChange localsMatchWrong)

/-- 'bedlaw1.InkSpreads': WHATEVER THE INPUT: true; the input reads as it did. -/
def inkSpreadsSpec : ChangeSpec := { name := "inkSpreads", fn := fun _ => fun
  | [d1, d2] => { results := [.lit (.bool true)], args := [d1, d2] }
  | _ => none }
def inkSpreadsRow : OpenClaim := { program := "ytlpdgnhlhopmjaa", sum := "e97ffa369c62f92df6cbb4860203f7ef4598c8d2a19cfb830f7562dad15c5180", func := "flatbed/bedlaw1.InkSpreads", spec := "inkSpreads", unfollowed := true, recurses := true, apart := false }
def InkSpreadsSaid : Prop := inkSpreadsRow.holds Try.pinned (OpenSpec.ofChange inkSpreadsSpec)

/-- ITS FALSE NEIGHBOUR: 'it returns false'. Refute it at one input. -/
def inkSpreadsWrong : ChangeSpec := { name := "inkSpreads", fn := fun _ => fun
  | [d1, d2] => { results := [.lit (.bool false)], args := [d1, d2] }
  | _ => none }
def InkSpreadsWrongFalsely : Prop := inkSpreadsRow.holds Try.pinned (OpenSpec.ofChange inkSpreadsWrong)

/- THE SECOND FORM. 'bulk': how many values and letters a reading holds, each counted each time it is reached (what is shared counts as often as it is met; a slice's spare places count too). A statement '..UptoSaid' is the law's where the arguments, and the package variables that the reading takes, are together of bulk at most 1048576: NARROWER than '..Said'. Prove '..Said' where nothing that the law and all that it calls make is longer than what came in: it says more and counts as full. Else prove '..UptoSaid'. A law counts once. -/
mutual
def uptoBulk {H : Type} : DataW H → Nat
  | .lit (.string bytes) => bytes.length + 1
  | .lit _ => 1
  | .nil => 1
  | .ptr d => uptoBulk d + 1
  | .slice elems spare => uptoBulkAll elems + uptoBulkAll spare + 1
  | .agg parts => uptoBulkAll parts + 1
  | .iface _ d => uptoBulk d + 1
  | .map entries => uptoBulkEntries entries + 1
  | .held _ => 1
def uptoBulkAll {H : Type} : List (DataW H) → Nat
  | [] => 0
  | d :: r => uptoBulk d + uptoBulkAll r
def uptoBulkEntries {H : Type} : List (Lit × DataW H) → Nat
  | [] => 0
  | x :: r => uptoBulkEntry x + uptoBulkEntries r
def uptoBulkEntry {H : Type} : Lit × DataW H → Nat
  | (.string bytes, d) => bytes.length + uptoBulk d + 1
  | (_, d) => uptoBulk d + 1
 end
def uptoSmall : (H : Type) → List (DataW H) → Bool := fun _ ds => decide (uptoBulkAll ds ≤ 1048576)
def OpenSpec.upto (s : _root_.Go.ChangeSpec) : _root_.Go.OpenSpec := { _root_.Go.OpenSpec.ofChange s with cond := some uptoSmall }

/-- 'bedlaw2.MeansMatch', WHERE WHAT IT READS IS OF BULK AT MOST 1048576: true; the input reads as it did. -/
def meansMatchUptoRow : OpenClaim := { program := "ytlpdgnhlhopmjaa", sum := "e97ffa369c62f92df6cbb4860203f7ef4598c8d2a19cfb830f7562dad15c5180", func := "flatbed/bedlaw2.MeansMatch", spec := "meansMatch", unfollowed := true, recurses := true, apart := false, narrowed := true }
def MeansMatchUptoSaid : Prop := meansMatchUptoRow.holds Try.pinned (OpenSpec.upto meansMatchSpec)

/-- 'bedlaw1.LocalsMatch', WHERE WHAT IT READS IS OF BULK AT MOST 1048576: true; the input reads as it did. -/
def localsMatchUptoRow : OpenClaim := { program := "ytlpdgnhlhopmjaa", sum := "e97ffa369c62f92df6cbb4860203f7ef4598c8d2a19cfb830f7562dad15c5180", func := "flatbed/bedlaw1.LocalsMatch", spec := "localsMatch", unfollowed := true, recurses := true, apart := false, narrowed := true }
def LocalsMatchUptoSaid : Prop := localsMatchUptoRow.holds Try.pinned (OpenSpec.upto localsMatchSpec)

/-- 'bedlaw1.InkSpreads', WHERE WHAT IT READS IS OF BULK AT MOST 1048576: true; the input reads as it did. -/
def inkSpreadsUptoRow : OpenClaim := { program := "ytlpdgnhlhopmjaa", sum := "e97ffa369c62f92df6cbb4860203f7ef4598c8d2a19cfb830f7562dad15c5180", func := "flatbed/bedlaw1.InkSpreads", spec := "inkSpreads", unfollowed := true, recurses := true, apart := false, narrowed := true }
def InkSpreadsUptoSaid : Prop := inkSpreadsUptoRow.holds Try.pinned (OpenSpec.upto inkSpreadsSpec)

end Rows
end Go.Proofs.Ytlpdgnhlhopmjaa
