/-
  What the laws of chapter 2 make of a raw page in black and white: fit.
-/
import Derived.Test.YtejhmobpepllcaaFit
import Derived.Test.YtejhmobpepllcaaCutsA
namespace Go.Proofs.Ytejhmobpepllcaa
open Go.RowKit
set_option linter.unusedSimpArgs false
set_option linter.unusedVariables false

/-- The ink of a fitted page at a place. -/
def fitB (B : Nat → Bool) (n w x y : Nat) : Bool := if n = 0 then false else B ((y * w + x) % n)

set_option maxHeartbeats 800000 in
theorem fit1_any (x y W n gb wb : Nat) (s : Option Addr) (c : Nat) (B : Nat → Bool) (w : World) (hW : W ≤ 32) (hx : x < W) (hy : y < 32) (hn : n ≤ 9223372036854775807) (hs : IsBools w s n c B)
    (h2 : w.cell? ⟨gb, 2, none⟩ = some (.slice s n c)) (h3 : w.cell? ⟨wb, 0, none⟩ = some (.int .i64 W)) :
    Calls Try.prog 156 #[.int .i64 x, .int .i64 y, .pointer (some ⟨gb, 0, none⟩), .pointer (some ⟨wb, 0, none⟩)] w fun e w' => e = .returned (.bool (fitB B n W x y)) ∧ Below w.heap.size w w' := by
  by_cases h0 : n = 0
  · subst h0
    go_enter Try.func156, Try.ntmps156
    go_wp2
    go_quiet (fail)
    go_wp2
    go_ret
    exact ⟨rfl, below_drewN (Below.refl _ _) _⟩
  · obtain ⟨pb, po, rfl, hc⟩ := isBools_cells hs (by omega)
    have hlt := Nat.mod_lt (y * W + x) (show 0 < n by omega)
    have hcell := hc _ hlt
    have hN := Nat.mul_le_mul (show y ≤ 32 by omega) hW
    have x0 : (0 : Int) ≤ (y : Int) * (W : Int) := Int.mul_nonneg (by omega) (by omega)
    have x1 : (y : Int) * (W : Int) ≤ 1024 := by rw [← Int.natCast_mul]; omega
    have hm : ((y : Int) * (W : Int) + (x : Int)) % (n : Int) = (((y * W + x) % n : Nat) : Int) := by simp [Int.natCast_mul]
    have hF := Lib.hid (show fitB B n W x y = B ((y * W + x) % n) by unfold fitB; rw [if_neg h0])
    have h1 : 1 ≤ n := by omega
    obtain ⟨q, hq⟩ : ∃ q, q = (y * W + x) % n := ⟨_, rfl⟩
    rw [← hq] at hcell hm hlt hF
    obtain ⟨p, hp⟩ : ∃ p, p = B q := ⟨_, rfl⟩
    rw [← hp] at hcell hF
    have e0 : 0 < n := by omega
    have e1 : decide (0 < n) = true := decide_eq_true e0
    have e2 : decide ((0 : Int) < (n : Int)) = true := decide_eq_true (by omega)
    have HQ := Lib.hid hq
    have HP := Lib.hid hp
    clear hq hp hN hc hs h0
    go_enter Try.func156, Try.ntmps156
    go_wp2
    go_quiet (fail)
    go_wp2
    go_ret
    exact ⟨by rw [hF.out]; rfl, below_drewN (Below.refl _ _) _⟩

/-- What fit returns: a right page of at most 32 by 32 pixels. -/
def FittedB (w : World) (e : Ending) (w' : World) : Prop :=
  ∃ (W H g c : Nat) (z : Nat → Bool), e = .returned (.agg #[.int .i64 W, .int .i64 H, .slice (some ⟨g, 0, none⟩) (W * H) c]) ∧ (1 ≤ W ∧ W ≤ 32 ∧ 1 ≤ H ∧ H ≤ 32) ∧
    (∀ j, j < W * H → w'.cell? ⟨g, 0 + j, none⟩ = some (.bool (z j))) ∧ w.heap.size ≤ g ∧ Below w.heap.size w w'

set_option maxHeartbeats 800000 in
set_option maxRecDepth 100000 in
theorem fit_any (a b : Int) (s : Option Addr) (n c : Nat) (B : Nat → Bool) (w : World) (hn : n ≤ 9223372036854775807) (hs : IsBools w s n c B) :
    Calls Try.prog 95 #[.agg #[.int .i64 a, .int .i64 b, .slice s n c]] w (FittedB w) := by
  have hmf : ∀ (fn : Fn) (first cap : Array Value) (w : World), (Instr.makeFunc fn first cap).run Try.prog w = .ok (.func fn first cap) w := fun _ _ _ _ => rfl
  obtain ⟨A, hA, eA⟩ := mask_nat a 31 (by decide)
  obtain ⟨C, hC, eC⟩ := mask_nat b 31 (by decide)
  have eA' : bits .and .i64 a 31 = (A : Int) := eA
  have eC' : bits .and .i64 b 31 = (C : Int) := eC
  obtain ⟨W, hW⟩ : ∃ W : Nat, (1 : Int) + (A : Int) = (W : Int) := ⟨1 + A, by omega⟩
  obtain ⟨H, hH⟩ : ∃ H : Nat, (1 : Int) + (C : Int) = (H : Int) := ⟨1 + C, by omega⟩
  have bW : 1 ≤ W ∧ W ≤ 32 := by omega
  have bH : 1 ≤ H ∧ H ≤ 32 := by omega
  have hN := Nat.mul_le_mul bW.2 bH.2
  have HS := Lib.hid hs
  have HN := Lib.hid hN
  clear hs eA eC hN
  go_enter Try.func95, Try.ntmps95
  go_wp2_with fail
  go_region
  go_wp2_with fail
  obtain ⟨w1, hw1⟩ : ∃ w1, w1 = (((w.alloc (.cells #[.int .i64 a, .int .i64 b, .slice s n c] 24)).alloc (.cells #[.int .i64 0, .int .i64 0, .slice none 0 0] 24)).alloc (.cells #[.int .i64 W] 3)).drew := ⟨_, rfl⟩
  have B1 : Below w.heap.size w w1 := by rw [hw1]; exact (below_alloc (below_alloc (new_below _ _) _) _).drew
  have q2 : w1.cell? ⟨w.heap.size, 2, none⟩ = some (.slice s n c) := by rw [hw1]; go_simp
  have q3 : w1.cell? ⟨w.heap.size + 1 + 1, 0, none⟩ = some (.int .i64 W) := by rw [hw1]; go_simp
  have qb : w1.heap[w.heap.size + 1]? = some (.cells #[.int .i64 0, .int .i64 0, .slice none 0 0] 24 (0, 0)) := by
    rw [hw1, (show ∀ u : World, u.drew.heap = u.heap from fun _ => rfl), Below.heap_alloc _ _ _ (by simp)]
    simpa using heap_alloc_new (w.alloc (.cells #[.int .i64 a, .int .i64 b, .slice s n c] 24)) (.cells #[.int .i64 0, .int .i64 0, .slice none 0 0] 24)
  rw [← hw1]
  clear hw1
  have LQ := Lib.hid (Array.getElem?_eq_some_iff.1 qb).1
  refine (made_any W H 156 _ (fitB B n W) w1 (by omega) (by omega) (by omega) (by have := HN.out; omega) (Go.Proofs.enters_of Try.func156 (by kernel_rfl) rfl) ?_).mono ?_
  · intro x y wx hx hy hbx
    exact fit1_any x y W n w.heap.size (w.heap.size + 1 + 1) s c B wx (by omega) hx (by omega) hn (isBools_later HS.out (below_step B1 hbx)) (cell_later hbx q2) (cell_later hbx q3)
  · rintro e w5 ⟨v, rfl, hown, hb5⟩
    have hpos := Nat.mul_pos bW.1 bH.1
    obtain ⟨g, cc, rfl, hg, hcell⟩ := owns_pageB hown hpos
    obtain ⟨j0, j1, j2, r0, r1, r2⟩ := block3 (below_block hb5 qb)
    have F := Lib.hid hcell
    have G := Lib.hid hb5
    have B2 := Lib.hid B1
    clear hown hb5 hcell hW hH eA' eC' q2 q3 B1
    go_wp2_with fail
    refine bodyPost_ret (v := .agg #[.int .i64 W, .int .i64 H, .slice (some ⟨g, 0, none⟩) (W * H) cc]) (by simp [results, Try.results95, go_sem, j0, j1, j2]) rfl ?_
    have hl := LQ.out
    refine ⟨W, H, g, cc, fun j => fitB B n W (j % W) (j / W), rfl, ⟨bW.1, bW.2, bH.1, bH.2⟩, ?_, Nat.le_trans B2.out.size hg, ?_⟩
    · intro j hj
      exact cell_far3 (by simp; omega) (F.out j hj)
    · exact below_far3 (below_step B2.out G.out) (by omega)

end Go.Proofs.Ytejhmobpepllcaa
