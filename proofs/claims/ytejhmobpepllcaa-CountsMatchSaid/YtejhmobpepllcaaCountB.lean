/-
  What the walk of CountsMatch leans on.
-/
import Derived.Test.YtejhmobpepllcaaBnds
import Derived.Test.YtejhmobpepllcaaToG
import Derived.Test.YtejhmobpepllcaaDiff
import Derived.Test.YtejhmobpepllcaaMixA
namespace Go.Proofs.Ytejhmobpepllcaa
open Go.RowKit
set_option linter.unusedSimpArgs false
set_option linter.unusedVariables false

/-- The arguments that lie in boxes. -/
def BoxesC (B : Nat) (a1 b1 : Int) (s1 : Option Addr) (n1 c1 : Nat) (a2 b2 : Int) (s2 : Option Addr) (n2 c2 : Nat) (a3 b3 : Int) (s3 : Option Addr) (n3 c3 : Nat) (lv X Y bw bh : Int) (w : World) : Prop :=
  (w.cell? ⟨B, 0, none⟩ = some (.int .i64 a1) ∧ w.cell? ⟨B, 1, none⟩ = some (.int .i64 b1) ∧ w.cell? ⟨B, 2, none⟩ = some (.slice s1 n1 c1)) ∧
  (w.cell? ⟨B + 1, 0, none⟩ = some (.int .i64 a2) ∧ w.cell? ⟨B + 1, 1, none⟩ = some (.int .i64 b2) ∧ w.cell? ⟨B + 1, 2, none⟩ = some (.slice s2 n2 c2)) ∧
  (w.cell? ⟨B + 2, 0, none⟩ = some (.int .i64 a3) ∧ w.cell? ⟨B + 2, 1, none⟩ = some (.int .i64 b3) ∧ w.cell? ⟨B + 2, 2, none⟩ = some (.slice s3 n3 c3)) ∧
  w.cell? ⟨B + 3, 0, none⟩ = some (.int .i64 lv) ∧
  w.cell? ⟨B + 4, 0, none⟩ = some (.int .i64 X) ∧ w.cell? ⟨B + 4, 1, none⟩ = some (.int .i64 Y) ∧ w.cell? ⟨B + 4, 2, none⟩ = some (.int .i64 bw) ∧ w.cell? ⟨B + 4, 3, none⟩ = some (.int .i64 bh)

theorem BoxesC.later {B : Nat} {a1 b1 : Int} {s1 : Option Addr} {n1 c1 : Nat} {a2 b2 : Int} {s2 : Option Addr} {n2 c2 : Nat} {a3 b3 : Int} {s3 : Option Addr} {n3 c3 : Nat} {lv X Y bw bh : Int} {w w' : World} (h : BoxesC B a1 b1 s1 n1 c1 a2 b2 s2 n2 c2 a3 b3 s3 n3 c3 lv X Y bw bh w) (hb : Below w.heap.size w w') :
    BoxesC B a1 b1 s1 n1 c1 a2 b2 s2 n2 c2 a3 b3 s3 n3 c3 lv X Y bw bh w' := by
  obtain ⟨⟨k0, k1, k2⟩, ⟨k3, k4, k5⟩, ⟨k6, k7, k8⟩, k9, l0, l1, l2, l3⟩ := h
  exact ⟨⟨cell_later hb k0, cell_later hb k1, cell_later hb k2⟩, ⟨cell_later hb k3, cell_later hb k4, cell_later hb k5⟩, ⟨cell_later hb k6, cell_later hb k7, cell_later hb k8⟩, cell_later hb k9, cell_later hb l0, cell_later hb l1, cell_later hb l2, cell_later hb l3⟩

/-- In, behind a name. -/
def inB (n a b : Int) : Bool := decide (a ≤ n ∧ n ≤ b)
theorem inB_any (n a b : Int) (w : World) : Calls Try.prog 50 #[.int .i64 n, .int .i64 a, .int .i64 b] w fun r w' => r = .returned (.bool (inB n a b)) ∧ w = w' := in_any n a b w

/-- What is wanted of Differ. -/
theorem want_diff {a b a2 b2 : Int} {n n2 : Nat} {q : Bool} (hq : q = !decide (a = a2 ∧ b = b2)) : orI (pageErr a b n) (orI (pageErr a2 b2 n2) (whenI q 11)) = diffErr a b n a2 b2 n2 := by
  unfold orI diffErr whenI
  subst hq
  by_cases h : pageErr a b n = 0
  · by_cases h2 : pageErr a2 b2 n2 = 0
    · by_cases h3 : a = a2 ∧ b = b2 <;> simp [h, h2, h3]
    · simp [h, h2]
  · simp [h]

end Go.Proofs.Ytejhmobpepllcaa
