/-
  No cell of these rows narrows 'for every input' (looked for: loops, veiled, ifaces, maps, wideKeys, modest, calm, conditions, laid).
  DERIVED. THE GIVEN ROWS OF THIS SEAT. 3 by the template 'for every input the law returns true; each argument reads behind the call as it read before'; 0 by the template 'total and deterministic' (their statements: YtmoplmjfnjgcaaaTotals.lean).
  GIVEN WITH THE SEED: the statements are not yours to turn. If you find one false, say at which input.
  Laid BY PROGRAM, IN A SANDBOX (cutbox-rows.mjs): the forced cells as the released guide's own fill.sh prints them over the translation 8cecfb53c71ce7de… (all of the seat's roots in one cut). By AI agents, Wed Nov 11 2026. No macro, syntax, notation, axiom, sorry.
-/
import Derived.Test.YtmoplmjfnjgcaaaChecked
import GoSem.Claim
import GoSem.ClaimJoined
import GoSem.ClaimMapViews
import Derived.JoinedTies
import Derived.KernelRfl
namespace Go.Proofs.Ytmoplmjfnjgcaaa
/- THE CELL 'sum', in the pinned program and in every row, IS THE sha256 OF THE DUMP (.gsa) THAT YtmoplmjfnjgcaaaProg.lean LOADS. Nothing in Lean hashes anything: it is a label: what it is worth is what the hold of that sum in a sandbox is worth. -/
noncomputable def Try.pinned : Pinned := { name := "ytmoplmjfnjgcaaa", sum := "8cecfb53c71ce7deed9814fa6d2af6228ea03153b7f6e5e85da9dcc8f6393245", checked := Try.checked }
namespace Rows
def none {H : Type} : Left H := { results := [], args := [] }

/-- 'bedlaw1.DistancesMatch': WHATEVER THE INPUT: true; the input reads as it did. -/
def distancesMatchSpec : ChangeSpec := { name := "distancesMatch", fn := fun _ => fun
  | [d1, d2, d3, d4] => { results := [.lit (.bool true)], args := [d1, d2, d3, d4] }
  | _ => none }
def distancesMatchRow : OpenClaim := { program := "ytmoplmjfnjgcaaa", sum := "8cecfb53c71ce7deed9814fa6d2af6228ea03153b7f6e5e85da9dcc8f6393245", func := "flatbed/bedlaw1.DistancesMatch", spec := "distancesMatch", inPlace := ["internal/bytealg.IndexByteString", "internal/bytealg.IndexString"], unfollowed := true, recurses := true, named := ["internal/bytealg.MaxLen"], plainKeys := false, apart := false }
def DistancesMatchSaid : Prop := distancesMatchRow.holds Try.pinned (OpenSpec.ofChange distancesMatchSpec)

/-- ITS FALSE NEIGHBOUR: 'it returns false'. Refute it at one input. -/
def distancesMatchWrong : ChangeSpec := { name := "distancesMatch", fn := fun _ => fun
  | [d1, d2, d3, d4] => { results := [.lit (.bool false)], args := [d1, d2, d3, d4] }
  | _ => none }
def DistancesMatchWrongFalsely : Prop := distancesMatchRow.holds Try.pinned (OpenSpec.ofChange distancesMatchWrong)

/-- 'bedlaw1.DictsMatch': WHATEVER THE INPUT: true; the input reads as it did. -/
def dictsMatchSpec : ChangeSpec := { name := "dictsMatch", fn := fun _ => fun
  | [d1, d2, d3] => { results := [.lit (.bool true)], args := [d1, d2, d3] }
  | _ => none }
def dictsMatchRow : OpenClaim := { program := "ytmoplmjfnjgcaaa", sum := "8cecfb53c71ce7deed9814fa6d2af6228ea03153b7f6e5e85da9dcc8f6393245", func := "flatbed/bedlaw1.DictsMatch", spec := "dictsMatch", inPlace := ["internal/bytealg.abigen_runtime_cmpstring"], unfollowed := true, recurses := true, plainKeys := false, apart := false }
def DictsMatchSaid : Prop := dictsMatchRow.holds Try.pinned (OpenSpec.ofChange dictsMatchSpec)

/-- ITS FALSE NEIGHBOUR: 'it returns false'. Refute it at one input. -/
def dictsMatchWrong : ChangeSpec := { name := "dictsMatch", fn := fun _ => fun
  | [d1, d2, d3] => { results := [.lit (.bool false)], args := [d1, d2, d3] }
  | _ => none }
def DictsMatchWrongFalsely : Prop := dictsMatchRow.holds Try.pinned (OpenSpec.ofChange dictsMatchWrong)

/-- 'bedlaw1.ParagraphsMatch': WHATEVER THE INPUT: true; the input reads as it did. -/
def paragraphsMatchSpec : ChangeSpec := { name := "paragraphsMatch", fn := fun _ => fun
  | [d1, d2, d3] => { results := [.lit (.bool true)], args := [d1, d2, d3] }
  | _ => none }
def paragraphsMatchRow : OpenClaim := { program := "ytmoplmjfnjgcaaa", sum := "8cecfb53c71ce7deed9814fa6d2af6228ea03153b7f6e5e85da9dcc8f6393245", func := "flatbed/bedlaw1.ParagraphsMatch", spec := "paragraphsMatch", unfollowed := true, recurses := true, plainKeys := false, apart := false }
def ParagraphsMatchSaid : Prop := paragraphsMatchRow.holds Try.pinned (OpenSpec.ofChange paragraphsMatchSpec)

/-- ITS FALSE NEIGHBOUR: 'it returns false'. Refute it at one input. -/
def paragraphsMatchWrong : ChangeSpec := { name := "paragraphsMatch", fn := fun _ => fun
  | [d1, d2, d3] => { results := [.lit (.bool false)], args := [d1, d2, d3] }
  | _ => none }
def ParagraphsMatchWrongFalsely : Prop := paragraphsMatchRow.holds Try.pinned (OpenSpec.ofChange paragraphsMatchWrong)

/- THE SECOND FORM. 'bulk': how many values and letters a reading holds, each counted each time it is reached (what is shared counts as often as it is met; a slice's spare places count too). A statement '..UptoSaid' is the law's where the arguments, and the package variables that the reading takes, are together of bulk at most 1048576: NARROWER than '..Said'. Prove '..Said' where nothing that the law and all that it calls make is longer than what came in: it says more and counts as full. Else prove '..UptoSaid'. A law counts once. -/
mutual
def uptoBulk {H : Type} : DataW H → Nat
  | .lit (.string bytes) => bytes.length + 1
  | .lit _ => 1
  | .nil => 1
  | .ptr d => uptoBulk d + 1
  | .slice elems spare => uptoBulkAll elems + uptoBulkAll spare + 1
  | .agg parts => uptoBulkAll parts + 1
  | .iface _ d => uptoBulk d + 1
  | .map entries => uptoBulkEntries entries + 1
  | .held _ => 1
def uptoBulkAll {H : Type} : List (DataW H) → Nat
  | [] => 0
  | d :: r => uptoBulk d + uptoBulkAll r
def uptoBulkEntries {H : Type} : List (Lit × DataW H) → Nat
  | [] => 0
  | x :: r => uptoBulkEntry x + uptoBulkEntries r
def uptoBulkEntry {H : Type} : Lit × DataW H → Nat
  | (.string bytes, d) => bytes.length + uptoBulk d + 1
  | (_, d) => uptoBulk d + 1
 end
def uptoSmall : (H : Type) → List (DataW H) → Bool := fun _ ds => decide (uptoBulkAll ds ≤ 1048576)
def OpenSpec.upto (s : _root_.Go.ChangeSpec) : _root_.Go.OpenSpec := { _root_.Go.OpenSpec.ofChange s with cond := some uptoSmall }

/-- 'bedlaw1.DistancesMatch', WHERE WHAT IT READS IS OF BULK AT MOST 1048576: true; the input reads as it did. -/
def distancesMatchUptoRow : OpenClaim := { program := "ytmoplmjfnjgcaaa", sum := "8cecfb53c71ce7deed9814fa6d2af6228ea03153b7f6e5e85da9dcc8f6393245", func := "flatbed/bedlaw1.DistancesMatch", spec := "distancesMatch", inPlace := ["internal/bytealg.IndexByteString", "internal/bytealg.IndexString"], unfollowed := true, recurses := true, named := ["internal/bytealg.MaxLen"], plainKeys := false, apart := false, narrowed := true }
def DistancesMatchUptoSaid : Prop := distancesMatchUptoRow.holds Try.pinned (OpenSpec.upto distancesMatchSpec)

/-- 'bedlaw1.DictsMatch', WHERE WHAT IT READS IS OF BULK AT MOST 1048576: true; the input reads as it did. -/
def dictsMatchUptoRow : OpenClaim := { program := "ytmoplmjfnjgcaaa", sum := "8cecfb53c71ce7deed9814fa6d2af6228ea03153b7f6e5e85da9dcc8f6393245", func := "flatbed/bedlaw1.DictsMatch", spec := "dictsMatch", inPlace := ["internal/bytealg.abigen_runtime_cmpstring"], unfollowed := true, recurses := true, plainKeys := false, apart := false, narrowed := true }
def DictsMatchUptoSaid : Prop := dictsMatchUptoRow.holds Try.pinned (OpenSpec.upto dictsMatchSpec)

/-- 'bedlaw1.ParagraphsMatch', WHERE WHAT IT READS IS OF BULK AT MOST 1048576: true; the input reads as it did. -/
def paragraphsMatchUptoRow : OpenClaim := { program := "ytmoplmjfnjgcaaa", sum := "8cecfb53c71ce7deed9814fa6d2af6228ea03153b7f6e5e85da9dcc8f6393245", func := "flatbed/bedlaw1.ParagraphsMatch", spec := "paragraphsMatch", unfollowed := true, recurses := true, plainKeys := false, apart := false, narrowed := true }
def ParagraphsMatchUptoSaid : Prop := paragraphsMatchUptoRow.holds Try.pinned (OpenSpec.upto paragraphsMatchSpec)

end Rows
end Go.Proofs.Ytmoplmjfnjgcaaa
