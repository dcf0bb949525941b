/-
  SameBits where it answers true: of equal pages, and of two pages that hold nothing.
-/
import Derived.Test.YtejhmobpepllcaaDoorEqB
import Derived.Test.YtejhmobpepllcaaDoorTextM
namespace Go.Proofs.YtejhmobpepllcaaDoor
open Go.RowKit
set_option linter.unusedSimpArgs false
set_option linter.unusedVariables false

theorem equalBool_nil (w : World) : Calls Tryd.prog 35 #[.slice none 0 0, .slice none 0 0] w fun e w' => e = .returned (.bool true) ∧ w' = w := by
  go_enter Tryd.func35, Tryd.ntmps35
  go_wp2_with fail
  go_loopw [13] (fun i wr => i = .int .i64 0 ∧ wr = w) (fun i _ => 0)
  case atStart => exact ⟨rfl, rfl⟩
  case round =>
    obtain ⟨rfl, hww⟩ := hrel
    go_wp2_with fail
    go_ret
    exact ⟨rfl, by first | exact hww | rfl⟩

theorem sameBits_true (W H : Int) (g1 o1 g2 o2 n c1 c2 : Nat) (z : Nat → Bool) (w : World) (hn : n ≤ 100000000)
    (h1 : ∀ j, j < n → w.cell? ⟨g1, o1 + j, none⟩ = some (.bool (z j))) (h2 : ∀ j, j < n → w.cell? ⟨g2, o2 + j, none⟩ = some (.bool (z j))) :
    Calls Tryd.prog 12 #[.agg #[.int .i64 W, .int .i64 H, .slice (some ⟨g1, o1, none⟩) n c1], .agg #[.int .i64 W, .int .i64 H, .slice (some ⟨g2, o2, none⟩) n c2]] w fun e w' => e = .returned (.bool true) ∧ Below w.heap.size w w' := by
  have HE := Lib.hid (equalBool_true g1 o1 g2 o2 n c1 c2 z ((w.alloc (.cells #[.int .i64 W, .int .i64 H, .slice (some ⟨g1, o1, none⟩) n c1] 24)).alloc (.cells #[.int .i64 W, .int .i64 H, .slice (some ⟨g2, o2, none⟩) n c2] 24)) hn
    (fun j hj => cell_later (below_alloc (new_below _ _) _) (h1 j hj)) (fun j hj => cell_later (below_alloc (new_below _ _) _) (h2 j hj)))
  clear h1 h2
  go_enter Tryd.func12, Tryd.ntmps12
  go_wp2_with (go_at_call 35; refine HE.out.mono ?_; rintro e w1 ⟨rfl, q, rfl⟩)
  go_ret
  exact ⟨rfl, below_drewN (below_alloc (new_below _ _) _) q⟩

theorem sameBits_zero (w : World) : Calls Tryd.prog 12 #[.agg #[.int .i64 0, .int .i64 0, .slice none 0 0], .agg #[.int .i64 0, .int .i64 0, .slice none 0 0]] w fun e w' => e = .returned (.bool true) ∧ Below w.heap.size w w' := by
  go_enter Tryd.func12, Tryd.ntmps12
  go_wp2_with (go_at_call 35; refine (equalBool_nil _).mono ?_; rintro e w1 ⟨rfl, rfl⟩)
  go_ret
  exact ⟨rfl, below_alloc (new_below _ _) _⟩

/-- Two pages that functions return with one answer are the same. -/
theorem samePg {E : Int} {a b : Nat} {f : Nat → Nat → Bool} {w : World} {i j i' j' : Int} {sl sl' : Option Addr} {n c n' c' : Nat} (hab : E = 0 → a * b ≤ 100000000) (h1 : PgIs E a b f w i j sl n c) (h2 : PgIs E a b f w i' j' sl' n' c') :
    Calls Tryd.prog 12 #[.agg #[.int .i64 i, .int .i64 j, .slice sl n c], .agg #[.int .i64 i', .int .i64 j', .slice sl' n' c']] w fun e w' => e = .returned (.bool true) ∧ Below w.heap.size w w' := by
  rcases h1 with ⟨e1, rfl, rfl, rfl, rfl, rfl⟩ | ⟨e1, rfl, rfl, rfl, g, rfl, hc⟩
  · rcases h2 with ⟨e2, rfl, rfl, rfl, rfl, rfl⟩ | ⟨e2, _⟩
    · exact sameBits_zero w
    · exact absurd e2 e1
  · rcases h2 with ⟨e2, _⟩ | ⟨e2, rfl, rfl, rfl, g', rfl, hc'⟩
    · exact absurd e1 e2
    · exact sameBits_true a b g 0 g' 0 _ c c' (fun k => f (k % a) (k / a)) w (hab e1) hc hc'

theorem PgIs.later {E : Int} {a b : Nat} {f : Nat → Nat → Bool} {w w' : World} {i j : Int} {sl : Option Addr} {n c : Nat} (h : PgIs E a b f w i j sl n c) (hb : Below w.heap.size w w') : PgIs E a b f w' i j sl n c := by
  rcases h with h | ⟨e1, e2, e3, e4, g, e5, hc⟩
  · exact .inl h
  · exact .inr ⟨e1, e2, e3, e4, g, e5, fun k hk => cell_later hb (hc k hk)⟩

end Go.Proofs.YtejhmobpepllcaaDoor
