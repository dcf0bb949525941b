/-
  Contracts of slices.Clone at bool, and of page.overlap.
-/
import Derived.Test.YtejhmobpepllcaaCutsA
import Derived.Lib.MinMax
namespace Go.Proofs.Ytejhmobpepllcaa
open Go.RowKit
set_option linter.unusedSimpArgs false
set_option linter.unusedVariables false

set_option maxRecDepth 100000 in
theorem clone_any (g o n c : Nat) (z : Nat → Bool) (w : World) (hn : 1 ≤ n) (hn' : n ≤ 1048576) (hc : ∀ j, j < n → w.cell? ⟨g, o + j, none⟩ = some (.bool (z j))) :
    Calls Try.prog 121 #[.slice (some ⟨g, o, none⟩) n c] w fun e w' =>
      ∃ v, e = .returned v ∧ w'.ownsRow w.heap.size 4 1 v n ((List.range n).map fun k => Value.bool (z k)) ∧ Below w.heap.size w w' := by
  have qT : ∀ (w : World) (a : Option Addr) (n c n' c' : Nat), (binOp .eql 22 (.slice a n c) (.slice none n' c')).run Try.prog w = .ok (.bool a.isNone) w := fun w a n c n' c' => Lib.run_eql_slice_nil w _ _ a n c n' c' Try.underlying22
  obtain ⟨i0, hi, hz0, hz1, hz2⟩ := info_parts info_bool
  have HC := Lib.hid hc
  clear hc
  go_enter Try.func121, Try.ntmps121
  have hown : (w.alloc (.cells #[] 4)).ownsRow w.heap.size 4 1 (.slice (some ⟨w.heap.size, 0, none⟩) 0 0) 0 [] := World.ownsRow_made w #[] 0 (Nat.le_refl _) (by unfold maxLen; omega) rfl
  have HN := Lib.hid (show ∀ j u, ((List.range n).map fun k => Value.bool (z k))[j]? = some u → (w.alloc (.cells #[] 4)).cell? ((⟨g, o, none⟩ : Addr).add j) = some u by
    intro j u hu
    rw [List.getElem?_map] at hu
    by_cases hj : j < n
    · rw [List.getElem?_range hj] at hu
      simp at hu
      subst hu
      rw [Addr.add_lit]
      exact cell_later (new_below _ _) (HC.out j hj)
    · rw [List.getElem?_eq_none (by simpa using hj)] at hu
      simp at hu)
  have HO := Lib.hid hown
  clear hown
  go_wp2_with (at_builtin; refine wpList_append_own _ rfl _ _ 22 rfl w.heap.size 4 i0 (.bool false) 1 1 Try.underlying22 hi hz0 hz1 hz2 rfl (by decide) _ _ _ rfl HO.out ⟨g, o, none⟩ n c ((List.range n).map fun k => Value.bool (z k)) rfl ?c0 HN.out ?c2 ?c3 ?c4 ?c5 ?_)
  case c0 => simp
  case c2 => intro u hu; simp at hu; obtain ⟨k, _, rfl⟩ := hu; rfl
  case c3 => unfold maxLen; omega
  case c4 => omega
  case c5 => simp
  · intro v' w2 hown2 hgr2 _
    have B2 : Below w.heap.size w w2 := (new_below w (.cells #[] 4)).grown hgr2 (by simp) (fun k hk => by simp [Value.ownBlock] at hk; omega)
    have H2 := Lib.hid hown2
    clear hown2 hgr2
    go_wp2_with fail
    go_ret
    exact ⟨v', rfl, H2.out, B2⟩

theorem overlap_far (W S x : Int) (w : World) (hW : 1 ≤ W ∧ W ≤ 4000) (hS : 1 ≤ S ∧ S ≤ 4000) (h : W ≤ x ∨ x ≤ - S) :
    Calls Try.prog 122 #[.int .i64 W, .int .i64 S, .int .i64 x] w fun e w' => e = .returned (.tuple #[.int .i64 0, .int .i64 0]) ∧ w = w' := by
  by_cases h1 : W ≤ x
  · clear h
    go_enter Try.func122, Try.ntmps122
    go_wp2_with fail
    go_ret2
    exact ⟨rfl, rfl⟩
  · have h2 : x ≤ - S := by omega
    clear h
    go_enter Try.func122, Try.ntmps122
    go_wp2_with fail
    go_ret2
    exact ⟨rfl, rfl⟩

theorem overlap_near (W S x : Int) (w : World) (hW : 1 ≤ W ∧ W ≤ 4000) (hS : 1 ≤ S ∧ S ≤ 4000) (h1 : x < W) (h2 : - S < x) :
    Calls Try.prog 122 #[.int .i64 W, .int .i64 S, .int .i64 x] w fun e w' => e = .returned (.tuple #[.int .i64 (max (-x) 0), .int .i64 (min S (W - x))]) ∧ w = w' := by
  go_enter Try.func122, Try.ntmps122
  go_wp2_with fail
  go_ret2
  exact ⟨rfl, rfl⟩

end Go.Proofs.Ytejhmobpepllcaa
