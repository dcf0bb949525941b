/-
  Contracts of the reference's CutOf, of slices.Contains where nothing is true, and of the closures of CutsMatch.
-/
import Derived.Test.YtejhmobpepllcaaCut
import Derived.Test.YtejhmobpepllcaaCutG
import Derived.Test.YtejhmobpepllcaaSame
import Derived.Test.YtejhmobpepllcaaSameY
import Derived.Test.YtejhmobpepllcaaMadeY
namespace Go.Proofs.Ytejhmobpepllcaa
open Go.RowKit
set_option linter.unusedSimpArgs false
set_option linter.unusedVariables false

theorem index_none (g n c : Nat) (w : World) (hn : n ≤ 100000000) (h1 : ∀ j, j < n → w.cell? ⟨g, 0 + j, none⟩ = some (.bool false)) :
    Calls Try.prog 104 #[.slice (some ⟨g, 0, none⟩) n c, .bool true] w fun e w' => e = .returned (.int .i64 (-1)) ∧ w = w' := by
  have H1 := Lib.hid h1
  clear h1
  go_enter Try.func104, Try.ntmps104
  go_wp2
  go_loop [8] (fun i => ∃ k : Nat, k ≤ n ∧ i = .int .i64 k) (fun i => n - (intOf i).toNat)
  case atStart => exact ⟨0, Nat.zero_le _, rfl⟩
  case round =>
    obtain ⟨k, hk, rfl⟩ := hrel
    by_cases hlt : k < n
    · have e1 := H1.out k hlt
      rw [Nat.zero_add] at e1
      have i1 : (k : Int) < (n : Int) := by omega
      go_wp2
      go_round
      case rel => exact ⟨k + 1, by omega, by go_num⟩
      case measure => simp [intOf]; omega
    · go_wp2
      go_ret
      exact ⟨rfl, rfl⟩

theorem contains_no (g n c : Nat) (w : World) (hn : n ≤ 100000000) (h1 : ∀ j, j < n → w.cell? ⟨g, 0 + j, none⟩ = some (.bool false)) :
    Calls Try.prog 22 #[.slice (some ⟨g, 0, none⟩) n c, .bool true] w fun e w' => e = .returned (.bool false) ∧ w = w' := by
  have H1 := Lib.hid (index_none g n c w hn h1)
  clear h1
  go_enter Try.func22, Try.ntmps22
  go_wp2_with (go_at_call 104; refine H1.out.mono ?_; rintro e w1 ⟨rfl, rfl⟩)
  go_ret
  exact ⟨rfl, rfl⟩

set_option maxRecDepth 100000 in
theorem cutOf1_any (W H X Y bw bh x y pb xb g o n c : Nat) (q : Bool) (w : World) (hW : W ≤ 4000) (hH : H ≤ 4000) (hX : X + bw ≤ W) (hY : Y + bh ≤ H) (hx : x < bw) (hy : y < bh) (hn : n = W * H)
    (c1 : w.cell? ⟨pb, 0, none⟩ = some (.int .i64 W)) (c1' : w.cell? ⟨pb, 1, none⟩ = some (.int .i64 H)) (c1'' : w.cell? ⟨pb, 2, none⟩ = some (.slice (some ⟨g, o, none⟩) n c)) (c2 : w.cell? ⟨xb, 0, none⟩ = some (.int .i64 X)) (c3 : w.cell? ⟨xb, 1, none⟩ = some (.int .i64 Y))
    (hc : w.cell? ⟨g, o + ((Y + y) * W + X + x), none⟩ = some (.bool q)) :
    Calls Try.prog 107 #[.int .i64 x, .int .i64 y, .pointer (some ⟨pb, 0, none⟩), .pointer (some ⟨xb, 0, none⟩)] w fun e w' => e = .returned (.bool q) ∧ Below w.heap.size w w' := by
  subst hn
  have hA := at_in W H g o c (X + x) (Y + y) q w (by omega) (by omega) (by omega) (by omega) (by rw [show o + ((Y + y) * W + (X + x)) = o + ((Y + y) * W + X + x) by omega]; exact hc)
  rw [show ((X + x : Nat) : Int) = (X : Int) + (x : Int) by omega, show ((Y + y : Nat) : Int) = (Y : Int) + (y : Int) by omega] at hA
  have HA := Lib.hid hA
  clear hA hc
  go_enter Try.func107, Try.ntmps107
  go_wp2_with (go_at_call 44; refine HA.out.mono ?_; rintro e w1 ⟨rfl, hb1⟩)
  go_ret
  exact ⟨rfl, hb1⟩

set_option maxHeartbeats 400000 in
set_option maxRecDepth 100000 in
theorem cutOf_any (W H X Y bw bh g o n c : Nat) (z : Nat → Bool) (w : World) (hW : W ≤ 4000) (hH : H ≤ 4000) (hX : X + bw ≤ W) (hY : Y + bh ≤ H) (hb1 : 1 ≤ bw) (hb2 : 1 ≤ bh) (hn : n = W * H) (hN : n ≤ 1048576)
    (hc : ∀ j, j < n → w.cell? ⟨g, o + j, none⟩ = some (.bool (z j))) :
    Calls Try.prog 29 #[.agg #[.int .i64 W, .int .i64 H, .slice (some ⟨g, o, none⟩) n c], .agg #[.int .i64 X, .int .i64 Y, .int .i64 bw, .int .i64 bh]] w fun e w' =>
      ∃ v, e = .returned (.agg #[.int .i64 bw, .int .i64 bh, v]) ∧ w'.ownsRow w.heap.size 4 1 v (bw * bh) ((places bw (fun x y => z ((Y + y) * W + X + x)) (bw * bh)).map Value.bool) ∧ Below w.heap.size w w' := by
  have hmf : ∀ (fn : Fn) (first cap : Array Value) (w : World), (Instr.makeFunc fn first cap).run Try.prog w = .ok (.func fn first cap) w := fun _ _ _ _ => rfl
  have HC := Lib.hid hc
  have HN := Lib.hid hn
  clear hc hn
  go_enter Try.func29, Try.ntmps29
  go_wp2_with fail
  obtain ⟨w1, hw1⟩ : ∃ w1, w1 = ((w.alloc (.cells #[.int .i64 W, .int .i64 H, .slice (some ⟨g, o, none⟩) n c] 24)).alloc (.cells #[.int .i64 X, .int .i64 Y, .int .i64 bw, .int .i64 bh] 29)).alloc (.cells #[.int .i64 0, .int .i64 0, .slice none 0 0] 24) := ⟨_, rfl⟩
  have B1 : Below w.heap.size w w1 := by rw [hw1]; exact below_alloc (below_alloc (new_below _ _) _) _
  have q0 : w1.cell? ⟨w.heap.size, 0, none⟩ = some (.int .i64 W) := by rw [hw1]; go_simp
  have q1 : w1.cell? ⟨w.heap.size, 1, none⟩ = some (.int .i64 H) := by rw [hw1]; go_simp
  have q2 : w1.cell? ⟨w.heap.size, 2, none⟩ = some (.slice (some ⟨g, o, none⟩) n c) := by rw [hw1]; go_simp
  have q3 : w1.cell? ⟨w.heap.size + 1, 0, none⟩ = some (.int .i64 X) := by rw [hw1]; go_simp
  have q4 : w1.cell? ⟨w.heap.size + 1, 1, none⟩ = some (.int .i64 Y) := by rw [hw1]; go_simp
  have qb : w1.heap[w.heap.size + 1 + 1]? = some (.cells #[.int .i64 0, .int .i64 0, .slice none 0 0] 24 (0, 0)) := by
    rw [hw1]
    simpa using heap_alloc_new ((w.alloc (.cells #[.int .i64 W, .int .i64 H, .slice (some ⟨g, o, none⟩) n c] 24)).alloc (.cells #[.int .i64 X, .int .i64 Y, .int .i64 bw, .int .i64 bh] 29)) (.cells #[.int .i64 0, .int .i64 0, .slice none 0 0] 24)
  rw [← hw1]
  clear hw1
  have lt3 := (Array.getElem?_eq_some_iff.1 qb).1
  have hbb := Nat.mul_le_mul (show bw ≤ W by omega) (show bh ≤ H by omega)
  rw [← HN.out] at hbb
  refine (made_any bw bh 107 _ (fun x y => z ((Y + y) * W + X + x)) w1 hb1 (by omega) (by omega) (by omega) (Go.Proofs.enters_of Try.func107 (by kernel_rfl) rfl) ?_).mono ?_
  · intro x y wx hx hy hbx
    have hlt := in_page_lt hX hY hx hy
    rw [← HN.out] at hlt
    exact cutOf1_any W H X Y bw bh x y w.heap.size (w.heap.size + 1) g o n c _ wx hW hH hX hY hx hy HN.out (cell_later hbx q0) (cell_later hbx q1) (cell_later hbx q2) (cell_later hbx q3) (cell_later hbx q4) (cell_later hbx (cell_later B1 (HC.out _ hlt)))
  · rintro e w5 ⟨v, rfl, hown, hb5⟩
    obtain ⟨j0, j1, j2, r0, r1, r2⟩ := block3 (below_block hb5 qb)
    obtain ⟨va, vn, vc, rfl⟩ := owns_shape hown
    have F := Lib.hid hown
    have G := Lib.hid hb5
    have L := Lib.hid lt3
    clear hown hb5 hbb lt3 q0 q1 q2 q3 q4
    go_wp2_with fail
    refine bodyPost_ret (v := .agg #[.int .i64 bw, .int .i64 bh, .slice va vn vc]) (by simp [results, Try.results29, go_sem, j0, j1, j2]) rfl ⟨_, rfl, owns_far3 F.out L.out B1.size, below_far3 (below_step B1 G.out) (by omega)⟩

end Go.Proofs.Ytejhmobpepllcaa
