/-
  No cell of these rows narrows 'for every input' (looked for: loops, veiled, ifaces, maps, wideKeys, modest, calm, conditions, laid).
  DERIVED. THE GIVEN ROWS OF THIS SEAT. 4 by the template 'for every input the law returns true; each argument reads behind the call as it read before'; 0 by the template 'total and deterministic' (their statements: YtljjbdfpegjmcaaTotals.lean).
  GIVEN WITH THE SEED: the statements are not yours to turn. If you find one false, say at which input.
  Laid BY PROGRAM, IN A SANDBOX (cutbox-rows.mjs): the forced cells as the released guide's own fill.sh prints them over the translation d3c9bc3707448d6d… (all of the seat's roots in one cut). By AI agents, Wed Nov 11 2026. No macro, syntax, notation, axiom, sorry.
-/
import Derived.Test.YtljjbdfpegjmcaaChecked
import GoSem.Claim
import GoSem.ClaimJoined
import GoSem.ClaimMapViews
import Derived.JoinedTies
import Derived.KernelRfl
namespace Go.Proofs.Ytljjbdfpegjmcaa
/- THE CELL 'sum', in the pinned program and in every row, IS THE sha256 OF THE DUMP (.gsa) THAT YtljjbdfpegjmcaaProg.lean LOADS. Nothing in Lean hashes anything: it is a label: what it is worth is what the hold of that sum in a sandbox is worth. -/
noncomputable def Try.pinned : Pinned := { name := "ytljjbdfpegjmcaa", sum := "d3c9bc3707448d6d3a66b80ab9b990c3e656eb469fe343efa22f4d421613c1f3", checked := Try.checked }
namespace Rows
def none {H : Type} : Left H := { results := [], args := [] }

/-- 'bedlaw1.BoxesMatch': WHATEVER THE INPUT: true; the input reads as it did. -/
def boxesMatchSpec : ChangeSpec := { name := "boxesMatch", fn := fun _ => fun
  | [d1, d2, d3] => { results := [.lit (.bool true)], args := [d1, d2, d3] }
  | _ => none }
def boxesMatchRow : OpenClaim := { program := "ytljjbdfpegjmcaa", sum := "d3c9bc3707448d6d3a66b80ab9b990c3e656eb469fe343efa22f4d421613c1f3", func := "flatbed/bedlaw1.BoxesMatch", spec := "boxesMatch", unfollowed := true, recurses := true, apart := false }
def BoxesMatchSaid : Prop := boxesMatchRow.holds Try.pinned (OpenSpec.ofChange boxesMatchSpec)

/-- ITS FALSE NEIGHBOUR: 'it returns false'. Refute it at one input. -/
def boxesMatchWrong : ChangeSpec := { name := "boxesMatch", fn := fun _ => fun
  | [d1, d2, d3] => { results := [.lit (.bool false)], args := [d1, d2, d3] }
  | _ => none }
def BoxesMatchWrongFalsely : Prop := boxesMatchRow.holds Try.pinned (OpenSpec.ofChange boxesMatchWrong)

/-- 'bedlaw2.ShapesMatch': WHATEVER THE INPUT: true; the input reads as it did. -/
def shapesMatchSpec : ChangeSpec := { name := "shapesMatch", fn := fun _ => fun
  | [d1, d2, d3, d4] => { results := [.lit (.bool true)], args := [d1, d2, d3, d4] }
  | _ => none }
def shapesMatchRow : OpenClaim := { program := "ytljjbdfpegjmcaa", sum := "d3c9bc3707448d6d3a66b80ab9b990c3e656eb469fe343efa22f4d421613c1f3", func := "flatbed/bedlaw2.ShapesMatch", spec := "shapesMatch", unfollowed := true, recurses := true, apart := false }
def ShapesMatchSaid : Prop := shapesMatchRow.holds Try.pinned (OpenSpec.ofChange shapesMatchSpec)

/-- ITS FALSE NEIGHBOUR: 'it returns false'. Refute it at one input. -/
def shapesMatchWrong : ChangeSpec := { name := "shapesMatch", fn := fun _ => fun
  | [d1, d2, d3, d4] => { results := [.lit (.bool false)], args := [d1, d2, d3, d4] }
  | _ => none }
def ShapesMatchWrongFalsely : Prop := shapesMatchRow.holds Try.pinned (OpenSpec.ofChange shapesMatchWrong)

/-- 'bedlaw2.ReadsMatch': WHATEVER THE INPUT: true; the input reads as it did. -/
def readsMatchSpec : ChangeSpec := { name := "readsMatch", fn := fun _ => fun
  | [d1, d2, d3, d4] => { results := [.lit (.bool true)], args := [d1, d2, d3, d4] }
  | _ => none }
def readsMatchRow : OpenClaim := { program := "ytljjbdfpegjmcaa", sum := "d3c9bc3707448d6d3a66b80ab9b990c3e656eb469fe343efa22f4d421613c1f3", func := "flatbed/bedlaw2.ReadsMatch", spec := "readsMatch", inPlace := ["internal/abi.NoEscape"], unfollowed := true, recurses := true, apart := false }
def ReadsMatchSaid : Prop := readsMatchRow.holds Try.pinned (OpenSpec.ofChange readsMatchSpec)

/-- ITS FALSE NEIGHBOUR: 'it returns false'. Refute it at one input. -/
def readsMatchWrong : ChangeSpec := { name := "readsMatch", fn := fun _ => fun
  | [d1, d2, d3, d4] => { results := [.lit (.bool false)], args := [d1, d2, d3, d4] }
  | _ => none }
def ReadsMatchWrongFalsely : Prop := readsMatchRow.holds Try.pinned (OpenSpec.ofChange readsMatchWrong)

/-- 'bedlaw2.NoisesMatch': WHATEVER THE INPUT: true; the input reads as it did. -/
def noisesMatchSpec : ChangeSpec := { name := "noisesMatch", fn := fun _ => fun
  | [d1, d2, d3, d4, d5, d6] => { results := [.lit (.bool true)], args := [d1, d2, d3, d4, d5, d6] }
  | _ => none }
def noisesMatchRow : OpenClaim := { program := "ytljjbdfpegjmcaa", sum := "d3c9bc3707448d6d3a66b80ab9b990c3e656eb469fe343efa22f4d421613c1f3", func := "flatbed/bedlaw2.NoisesMatch", spec := "noisesMatch", unfollowed := true, recurses := true, apart := false }
def NoisesMatchSaid : Prop := noisesMatchRow.holds Try.pinned (OpenSpec.ofChange noisesMatchSpec)

/-- ITS FALSE NEIGHBOUR: 'it returns false'. Refute it at one input. -/
def noisesMatchWrong : ChangeSpec := { name := "noisesMatch", fn := fun _ => fun
  | [d1, d2, d3, d4, d5, d6] => { results := [.lit (.bool false)], args := [d1, d2, d3, d4, d5, d6] }
  | _ => none }
def NoisesMatchWrongFalsely : Prop := noisesMatchRow.holds Try.pinned (OpenSpec.ofChange noisesMatchWrong)

/- THE SECOND FORM. 'bulk': how many values and letters a reading holds, each counted each time it is reached (what is shared counts as often as it is met; a slice's spare places count too). A statement '..UptoSaid' is the law's where the arguments, and the package variables that the reading takes, are together of bulk at most 1048576: NARROWER than '..Said'. Prove '..Said' where nothing that the law and all that it calls make is longer than what came in: it says more and counts as full. Else prove '..UptoSaid'. A law counts once. -/
mutual
def uptoBulk {H : Type} : DataW H → Nat
  | .lit (.string bytes) => bytes.length + 1
  | .lit _ => 1
  | .nil => 1
  | .ptr d => uptoBulk d + 1
  | .slice elems spare => uptoBulkAll elems + uptoBulkAll spare + 1
  | .agg parts => uptoBulkAll parts + 1
  | .iface _ d => uptoBulk d + 1
  | .map entries => uptoBulkEntries entries + 1
  | .held _ => 1
def uptoBulkAll {H : Type} : List (DataW H) → Nat
  | [] => 0
  | d :: r => uptoBulk d + uptoBulkAll r
def uptoBulkEntries {H : Type} : List (Lit × DataW H) → Nat
  | [] => 0
  | x :: r => uptoBulkEntry x + uptoBulkEntries r
def uptoBulkEntry {H : Type} : Lit × DataW H → Nat
  | (.string bytes, d) => bytes.length + uptoBulk d + 1
  | (_, d) => uptoBulk d + 1
 end
def uptoSmall : (H : Type) → List (DataW H) → Bool := fun _ ds => decide (uptoBulkAll ds ≤ 1048576)
def OpenSpec.upto (s : _root_.Go.ChangeSpec) : _root_.Go.OpenSpec := { _root_.Go.OpenSpec.ofChange s with cond := some uptoSmall }

/-- 'bedlaw1.BoxesMatch', WHERE WHAT IT READS IS OF BULK AT MOST 1048576: true; the input reads as it did. -/
def boxesMatchUptoRow : OpenClaim := { program := "ytljjbdfpegjmcaa", sum := "d3c9bc3707448d6d3a66b80ab9b990c3e656eb469fe343efa22f4d421613c1f3", func := "flatbed/bedlaw1.BoxesMatch", spec := "boxesMatch", unfollowed := true, recurses := true, apart := false, narrowed := true }
def BoxesMatchUptoSaid : Prop := boxesMatchUptoRow.holds Try.pinned (OpenSpec.upto boxesMatchSpec)

/-- 'bedlaw2.ShapesMatch', WHERE WHAT IT READS IS OF BULK AT MOST 1048576: true; the input reads as it did. -/
def shapesMatchUptoRow : OpenClaim := { program := "ytljjbdfpegjmcaa", sum := "d3c9bc3707448d6d3a66b80ab9b990c3e656eb469fe343efa22f4d421613c1f3", func := "flatbed/bedlaw2.ShapesMatch", spec := "shapesMatch", unfollowed := true, recurses := true, apart := false, narrowed := true }
def ShapesMatchUptoSaid : Prop := shapesMatchUptoRow.holds Try.pinned (OpenSpec.upto shapesMatchSpec)

/-- 'bedlaw2.ReadsMatch', WHERE WHAT IT READS IS OF BULK AT MOST 1048576: true; the input reads as it did. -/
def readsMatchUptoRow : OpenClaim := { program := "ytljjbdfpegjmcaa", sum := "d3c9bc3707448d6d3a66b80ab9b990c3e656eb469fe343efa22f4d421613c1f3", func := "flatbed/bedlaw2.ReadsMatch", spec := "readsMatch", inPlace := ["internal/abi.NoEscape"], unfollowed := true, recurses := true, apart := false, narrowed := true }
def ReadsMatchUptoSaid : Prop := readsMatchUptoRow.holds Try.pinned (OpenSpec.upto readsMatchSpec)

/-- 'bedlaw2.NoisesMatch', WHERE WHAT IT READS IS OF BULK AT MOST 1048576: true; the input reads as it did. -/
def noisesMatchUptoRow : OpenClaim := { program := "ytljjbdfpegjmcaa", sum := "d3c9bc3707448d6d3a66b80ab9b990c3e656eb469fe343efa22f4d421613c1f3", func := "flatbed/bedlaw2.NoisesMatch", spec := "noisesMatch", unfollowed := true, recurses := true, apart := false, narrowed := true }
def NoisesMatchUptoSaid : Prop := noisesMatchUptoRow.holds Try.pinned (OpenSpec.upto noisesMatchSpec)

end Rows
end Go.Proofs.Ytljjbdfpegjmcaa
