/-
  No cell of these rows narrows 'for every input' (looked for: loops, veiled, ifaces, maps, wideKeys, modest, calm, conditions, laid).
  DERIVED. THE GIVEN ROWS OF THIS SEAT. 6 by the template 'for every input the law returns true; each argument reads behind the call as it read before'; 0 by the template 'total and deterministic' (their statements: YtcpgnfbjdokdcaaTotals.lean).
  GIVEN WITH THE SEED: the statements are not yours to turn. If you find one false, say at which input.
  Laid BY PROGRAM, IN A SANDBOX (cutbox-rows.mjs): the forced cells as the released guide's own fill.sh prints them over the translation d5594083be23287e… (all of the seat's roots in one cut). By AI agents, Wed Nov 11 2026. No macro, syntax, notation, axiom, sorry.
-/
import Derived.Test.YtcpgnfbjdokdcaaChecked
import GoSem.Claim
import GoSem.ClaimJoined
import GoSem.ClaimMapViews
import Derived.JoinedTies
import Derived.KernelRfl
namespace Go.Proofs.Ytcpgnfbjdokdcaa
/- THE CELL 'sum', in the pinned program and in every row, IS THE sha256 OF THE DUMP (.gsa) THAT YtcpgnfbjdokdcaaProg.lean LOADS. Nothing in Lean hashes anything: it is a label: what it is worth is what the hold of that sum in a sandbox is worth. -/
noncomputable def Try.pinned : Pinned := { name := "ytcpgnfbjdokdcaa", sum := "d5594083be23287e3f38615f0c4d316f2cb07308499101af98201244ddd3a27d", checked := Try.checked }
namespace Rows
def none {H : Type} : Left H := { results := [], args := [] }

/-- 'bedlaw2.CutsMatch': WHATEVER THE INPUT: true; the input reads as it did. -/
def cutsMatchSpec : ChangeSpec := { name := "cutsMatch", fn := fun _ => fun
  | [d1, d2, d3, d4, d5, d6] => { results := [.lit (.bool true)], args := [d1, d2, d3, d4, d5, d6] }
  | _ => none }
def cutsMatchRow : OpenClaim := { program := "ytcpgnfbjdokdcaa", sum := "d5594083be23287e3f38615f0c4d316f2cb07308499101af98201244ddd3a27d", func := "flatbed/bedlaw2.CutsMatch", spec := "cutsMatch", unfollowed := true, recurses := true, apart := false }
def CutsMatchSaid : Prop := cutsMatchRow.holds Try.pinned (OpenSpec.ofChange cutsMatchSpec)

/-- ITS FALSE NEIGHBOUR: 'it returns false'. Refute it at one input. -/
def cutsMatchWrong : ChangeSpec := { name := "cutsMatch", fn := fun _ => fun
  | [d1, d2, d3, d4, d5, d6] => { results := [.lit (.bool false)], args := [d1, d2, d3, d4, d5, d6] }
  | _ => none }
def CutsMatchWrongFalsely : Prop := cutsMatchRow.holds Try.pinned (OpenSpec.ofChange cutsMatchWrong)

/-- 'bedlaw2.TurnsMatch': WHATEVER THE INPUT: true; the input reads as it did. -/
def turnsMatchSpec : ChangeSpec := { name := "turnsMatch", fn := fun _ => fun
  | [d1, d2, d3, d4] => { results := [.lit (.bool true)], args := [d1, d2, d3, d4] }
  | _ => none }
def turnsMatchRow : OpenClaim := { program := "ytcpgnfbjdokdcaa", sum := "d5594083be23287e3f38615f0c4d316f2cb07308499101af98201244ddd3a27d", func := "flatbed/bedlaw2.TurnsMatch", spec := "turnsMatch", unfollowed := true, recurses := true, apart := false }
def TurnsMatchSaid : Prop := turnsMatchRow.holds Try.pinned (OpenSpec.ofChange turnsMatchSpec)

/-- ITS FALSE NEIGHBOUR: 'it returns false'. Refute it at one input. -/
def turnsMatchWrong : ChangeSpec := { name := "turnsMatch", fn := fun _ => fun
  | [d1, d2, d3, d4] => { results := [.lit (.bool false)], args := [d1, d2, d3, d4] }
  | _ => none }
def TurnsMatchWrongFalsely : Prop := turnsMatchRow.holds Try.pinned (OpenSpec.ofChange turnsMatchWrong)

/-- 'bedlaw2.MixesMatch': WHATEVER THE INPUT: true; the input reads as it did. -/
def mixesMatchSpec : ChangeSpec := { name := "mixesMatch", fn := fun _ => fun
  | [d1, d2, d3, d4, d5] => { results := [.lit (.bool true)], args := [d1, d2, d3, d4, d5] }
  | _ => none }
def mixesMatchRow : OpenClaim := { program := "ytcpgnfbjdokdcaa", sum := "d5594083be23287e3f38615f0c4d316f2cb07308499101af98201244ddd3a27d", func := "flatbed/bedlaw2.MixesMatch", spec := "mixesMatch", unfollowed := true, recurses := true, apart := false }
def MixesMatchSaid : Prop := mixesMatchRow.holds Try.pinned (OpenSpec.ofChange mixesMatchSpec)

/-- ITS FALSE NEIGHBOUR: 'it returns false'. Refute it at one input. -/
def mixesMatchWrong : ChangeSpec := { name := "mixesMatch", fn := fun _ => fun
  | [d1, d2, d3, d4, d5] => { results := [.lit (.bool false)], args := [d1, d2, d3, d4, d5] }
  | _ => none }
def MixesMatchWrongFalsely : Prop := mixesMatchRow.holds Try.pinned (OpenSpec.ofChange mixesMatchWrong)

/-- 'bedlaw2.CountsMatch': WHATEVER THE INPUT: true; the input reads as it did. -/
def countsMatchSpec : ChangeSpec := { name := "countsMatch", fn := fun _ => fun
  | [d1, d2, d3, d4, d5] => { results := [.lit (.bool true)], args := [d1, d2, d3, d4, d5] }
  | _ => none }
def countsMatchRow : OpenClaim := { program := "ytcpgnfbjdokdcaa", sum := "d5594083be23287e3f38615f0c4d316f2cb07308499101af98201244ddd3a27d", func := "flatbed/bedlaw2.CountsMatch", spec := "countsMatch", unfollowed := true, recurses := true, apart := false }
def CountsMatchSaid : Prop := countsMatchRow.holds Try.pinned (OpenSpec.ofChange countsMatchSpec)

/-- ITS FALSE NEIGHBOUR: 'it returns false'. Refute it at one input. -/
def countsMatchWrong : ChangeSpec := { name := "countsMatch", fn := fun _ => fun
  | [d1, d2, d3, d4, d5] => { results := [.lit (.bool false)], args := [d1, d2, d3, d4, d5] }
  | _ => none }
def CountsMatchWrongFalsely : Prop := countsMatchRow.holds Try.pinned (OpenSpec.ofChange countsMatchWrong)

/-- 'bedlaw1.LevelsMatch': WHATEVER THE INPUT: true; the input reads as it did. -/
def levelsMatchSpec : ChangeSpec := { name := "levelsMatch", fn := fun _ => fun
  | [d] => { results := [.lit (.bool true)], args := [d] }
  | _ => none }
def levelsMatchRow : OpenClaim := { program := "ytcpgnfbjdokdcaa", sum := "d5594083be23287e3f38615f0c4d316f2cb07308499101af98201244ddd3a27d", func := "flatbed/bedlaw1.LevelsMatch", spec := "levelsMatch", unfollowed := true, recurses := true, apart := false }
def LevelsMatchSaid : Prop := levelsMatchRow.holds Try.pinned (OpenSpec.ofChange levelsMatchSpec)

/-- ITS FALSE NEIGHBOUR: 'it returns false'. Refute it at one input. -/
def levelsMatchWrong : ChangeSpec := { name := "levelsMatch", fn := fun _ => fun
  | [d] => { results := [.lit (.bool false)], args := [d] }
  | _ => none }
def LevelsMatchWrongFalsely : Prop := levelsMatchRow.holds Try.pinned (OpenSpec.ofChange levelsMatchWrong)

/-- 'bedlaw2.FindsMatch': WHATEVER THE INPUT: true; the input reads as it did. -/
def findsMatchSpec : ChangeSpec := { name := "findsMatch", fn := fun _ => fun
  | [d1, d2] => { results := [.lit (.bool true)], args := [d1, d2] }
  | _ => none }
def findsMatchRow : OpenClaim := { program := "ytcpgnfbjdokdcaa", sum := "d5594083be23287e3f38615f0c4d316f2cb07308499101af98201244ddd3a27d", func := "flatbed/bedlaw2.FindsMatch", spec := "findsMatch", unfollowed := true, recurses := true, apart := false }
def FindsMatchSaid : Prop := findsMatchRow.holds Try.pinned (OpenSpec.ofChange findsMatchSpec)

/-- ITS FALSE NEIGHBOUR: 'it returns false'. Refute it at one input. -/
def findsMatchWrong : ChangeSpec := { name := "findsMatch", fn := fun _ => fun
  | [d1, d2] => { results := [.lit (.bool false)], args := [d1, d2] }
  | _ => none }
def FindsMatchWrongFalsely : Prop := findsMatchRow.holds Try.pinned (OpenSpec.ofChange findsMatchWrong)

/- THE SECOND FORM. 'bulk': how many values and letters a reading holds, each counted each time it is reached (what is shared counts as often as it is met; a slice's spare places count too). A statement '..UptoSaid' is the law's where the arguments, and the package variables that the reading takes, are together of bulk at most 1048576: NARROWER than '..Said'. Prove '..Said' where nothing that the law and all that it calls make is longer than what came in: it says more and counts as full. Else prove '..UptoSaid'. A law counts once. -/
mutual
def uptoBulk {H : Type} : DataW H → Nat
  | .lit (.string bytes) => bytes.length + 1
  | .lit _ => 1
  | .nil => 1
  | .ptr d => uptoBulk d + 1
  | .slice elems spare => uptoBulkAll elems + uptoBulkAll spare + 1
  | .agg parts => uptoBulkAll parts + 1
  | .iface _ d => uptoBulk d + 1
  | .map entries => uptoBulkEntries entries + 1
  | .held _ => 1
def uptoBulkAll {H : Type} : List (DataW H) → Nat
  | [] => 0
  | d :: r => uptoBulk d + uptoBulkAll r
def uptoBulkEntries {H : Type} : List (Lit × DataW H) → Nat
  | [] => 0
  | x :: r => uptoBulkEntry x + uptoBulkEntries r
def uptoBulkEntry {H : Type} : Lit × DataW H → Nat
  | (.string bytes, d) => bytes.length + uptoBulk d + 1
  | (_, d) => uptoBulk d + 1
 end
def uptoSmall : (H : Type) → List (DataW H) → Bool := fun _ ds => decide (uptoBulkAll ds ≤ 1048576)
def OpenSpec.upto (s : _root_.Go.ChangeSpec) : _root_.Go.OpenSpec := { _root_.Go.OpenSpec.ofChange s with cond := some uptoSmall }

/-- 'bedlaw2.CutsMatch', WHERE WHAT IT READS IS OF BULK AT MOST 1048576: true; the input reads as it did. -/
def cutsMatchUptoRow : OpenClaim := { program := "ytcpgnfbjdokdcaa", sum := "d5594083be23287e3f38615f0c4d316f2cb07308499101af98201244ddd3a27d", func := "flatbed/bedlaw2.CutsMatch", spec := "cutsMatch", unfollowed := true, recurses := true, apart := false, narrowed := true }
def CutsMatchUptoSaid : Prop := cutsMatchUptoRow.holds Try.pinned (OpenSpec.upto cutsMatchSpec)

/-- 'bedlaw2.TurnsMatch', WHERE WHAT IT READS IS OF BULK AT MOST 1048576: true; the input reads as it did. -/
def turnsMatchUptoRow : OpenClaim := { program := "ytcpgnfbjdokdcaa", sum := "d5594083be23287e3f38615f0c4d316f2cb07308499101af98201244ddd3a27d", func := "flatbed/bedlaw2.TurnsMatch", spec := "turnsMatch", unfollowed := true, recurses := true, apart := false, narrowed := true }
def TurnsMatchUptoSaid : Prop := turnsMatchUptoRow.holds Try.pinned (OpenSpec.upto turnsMatchSpec)

/-- 'bedlaw2.MixesMatch', WHERE WHAT IT READS IS OF BULK AT MOST 1048576: true; the input reads as it did. -/
def mixesMatchUptoRow : OpenClaim := { program := "ytcpgnfbjdokdcaa", sum := "d5594083be23287e3f38615f0c4d316f2cb07308499101af98201244ddd3a27d", func := "flatbed/bedlaw2.MixesMatch", spec := "mixesMatch", unfollowed := true, recurses := true, apart := false, narrowed := true }
def MixesMatchUptoSaid : Prop := mixesMatchUptoRow.holds Try.pinned (OpenSpec.upto mixesMatchSpec)

/-- 'bedlaw2.CountsMatch', WHERE WHAT IT READS IS OF BULK AT MOST 1048576: true; the input reads as it did. -/
def countsMatchUptoRow : OpenClaim := { program := "ytcpgnfbjdokdcaa", sum := "d5594083be23287e3f38615f0c4d316f2cb07308499101af98201244ddd3a27d", func := "flatbed/bedlaw2.CountsMatch", spec := "countsMatch", unfollowed := true, recurses := true, apart := false, narrowed := true }
def CountsMatchUptoSaid : Prop := countsMatchUptoRow.holds Try.pinned (OpenSpec.upto countsMatchSpec)

/-- 'bedlaw1.LevelsMatch', WHERE WHAT IT READS IS OF BULK AT MOST 1048576: true; the input reads as it did. -/
def levelsMatchUptoRow : OpenClaim := { program := "ytcpgnfbjdokdcaa", sum := "d5594083be23287e3f38615f0c4d316f2cb07308499101af98201244ddd3a27d", func := "flatbed/bedlaw1.LevelsMatch", spec := "levelsMatch", unfollowed := true, recurses := true, apart := false, narrowed := true }
def LevelsMatchUptoSaid : Prop := levelsMatchUptoRow.holds Try.pinned (OpenSpec.upto levelsMatchSpec)

/-- 'bedlaw2.FindsMatch', WHERE WHAT IT READS IS OF BULK AT MOST 1048576: true; the input reads as it did. -/
def findsMatchUptoRow : OpenClaim := { program := "ytcpgnfbjdokdcaa", sum := "d5594083be23287e3f38615f0c4d316f2cb07308499101af98201244ddd3a27d", func := "flatbed/bedlaw2.FindsMatch", spec := "findsMatch", unfollowed := true, recurses := true, apart := false, narrowed := true }
def FindsMatchUptoSaid : Prop := findsMatchUptoRow.holds Try.pinned (OpenSpec.upto findsMatchSpec)

end Rows
end Go.Proofs.Ytcpgnfbjdokdcaa
