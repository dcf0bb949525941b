/-
  Invert as a whole, and the closures of TurnsMatch that make a page mirrored and inverted.
-/
import Derived.Test.YtejhmobpepllcaaTurnM
import Derived.Test.YtejhmobpepllcaaCutOf
namespace Go.Proofs.Ytejhmobpepllcaa
open Go.RowKit
set_option linter.unusedSimpArgs false
set_option linter.unusedVariables false

theorem invert_badPage (a b : Int) (p : Option Addr) (n c : Nat) (w : World) (h : pageErr a b n ≠ 0) :
    Calls Try.prog 39 #[.agg #[.int .i64 a, .int .i64 b, .slice p n c]] w fun e w' => e = .returned (.tuple #[.agg #[.int .i64 0, .int .i64 0, .slice none 0 0], .int .i64 (pageErr a b n)]) ∧ Below w.heap.size w w' := by
  have h' : (pageErr a b n != 0) = true := by simpa using h
  clear h
  go_enter Try.func39, Try.ntmps39
  go_wp2_with ((go_at_call 16; refine (checkBits_any _ _ _ _ _ _).mono ?_; rintro e w' ⟨rfl, rfl⟩))
  refine bodyPost_ret (v := .tuple #[.agg #[.int .i64 0, .int .i64 0, .slice none 0 0], .int .i64 (pageErr a b n)]) (by simp [results, Try.results39, go_sem]) rfl ⟨rfl, below_alloc (below_alloc (new_below _ _) _) _⟩

set_option maxHeartbeats 400000 in
set_option maxRecDepth 100000 in
theorem invert_ok (W H g o c : Nat) (z : Nat → Bool) (w : World) (he : sizeErr W H = 0)
    (hp : ∀ j, j < W * H → w.cell? ⟨g, o + j, none⟩ = some (.bool (z j))) :
    Calls Try.prog 39 #[.agg #[.int .i64 W, .int .i64 H, .slice (some ⟨g, o, none⟩) (W * H) c]] w fun e w' =>
      ∃ v, e = .returned (.tuple #[.agg #[.int .i64 W, .int .i64 H, v], .int .i64 0]) ∧ w'.ownsRow w.heap.size 4 1 v (W * H) ((places W (fun x y => !z (y * W + x)) (W * H)).map Value.bool) ∧ Below w.heap.size w w' := by
  have hmf : ∀ (fn : Fn) (first cap : Array Value) (w : World), (Instr.makeFunc fn first cap).run Try.prog w = .ok (.func fn first cap) w := fun _ _ _ _ => rfl
  obtain ⟨⟨a1, a2, a3, a4⟩, z0, z1⟩ := sizeErr_zero he
  have hN : W * H ≤ 1048576 := by rw [← Int.natCast_mul] at z1; omega
  have hpe : pageErr W H (W * H) = 0 := by unfold pageErr; rw [if_pos he, if_pos (by simp [Int.natCast_mul])]
  have HC := Lib.hid hp
  clear hp he z0 z1
  go_enter Try.func39, Try.ntmps39
  go_wp2_with ((go_at_call 16; refine (checkBits_any _ _ _ _ _ _).mono ?_; rintro e w' ⟨rfl, rfl⟩))
  obtain ⟨w1, hw1⟩ : ∃ w1, w1 = (((w.alloc (.cells #[.int .i64 W, .int .i64 H, .slice (some ⟨g, o, none⟩) (W * H) c] 24)).alloc (.cells #[.int .i64 0, .int .i64 0, .slice none 0 0] 24)).alloc (.cells #[.int .i64 W, .int .i64 H, .slice (some ⟨g, o, none⟩) (W * H) c] 24)) := ⟨_, rfl⟩
  have B1 : Below w.heap.size w w1 := by rw [hw1]; exact below_alloc (below_alloc (new_below _ _) _) _
  have q0 : w1.cell? ⟨w.heap.size, 0, none⟩ = some (.int .i64 W) := by rw [hw1]; go_simp
  have q1 : w1.cell? ⟨w.heap.size, 1, none⟩ = some (.int .i64 H) := by rw [hw1]; go_simp
  have q2 : w1.cell? ⟨w.heap.size, 2, none⟩ = some (.slice (some ⟨g, o, none⟩) (W * H) c) := by rw [hw1]; go_simp
  have qb : w1.heap[w.heap.size + 1]? = some (.cells #[.int .i64 0, .int .i64 0, .slice none 0 0] 24 (0, 0)) := by
    rw [hw1, Below.heap_alloc _ _ _ (by simp)]
    simpa using heap_alloc_new (w.alloc (.cells #[.int .i64 W, .int .i64 H, .slice (some ⟨g, o, none⟩) (W * H) c] 24)) (.cells #[.int .i64 0, .int .i64 0, .slice none 0 0] 24)
  rw [← hw1]
  clear hw1
  have lt1 := (Array.getElem?_eq_some_iff.1 qb).1
  refine (fillBool_any W H 114 _ (fun x y => !z (y * W + x)) w1 (by omega) (by omega) (by omega) (by omega) (Go.Proofs.enters_of Try.func114 (by kernel_rfl) rfl) ?_).mono ?_
  · intro x y wx hx hy hbx
    have hfit := row_fits hy (show x + 1 ≤ W by omega)
    refine (invert1_any W H x y w.heap.size g o (W * H) c _ _ wx (by omega) (by omega) hx hy rfl rfl (cell_later hbx q0) (cell_later hbx q2) (cell_later hbx (cell_later B1 (HC.out _ (by omega))))).mono ?_
    rintro e wy ⟨rfl, rfl⟩
    exact ⟨rfl, Below.refl _ _⟩
  · rintro e w5 ⟨v, rfl, hown, hb5⟩
    obtain ⟨j0, j1, j2, r0, r1, r2⟩ := block3 (below_block hb5 qb)
    obtain ⟨va, vn, vc, rfl⟩ := owns_shape hown
    have k0 := cell_later hb5 q0
    have k1 := cell_later hb5 q1
    have F := Lib.hid hown
    have G := Lib.hid hb5
    have L := Lib.hid lt1
    clear hown hb5 lt1 q0 q1 q2
    go_wp2_with fail
    refine bodyPost_ret (v := .tuple #[.agg #[.int .i64 W, .int .i64 H, .slice va vn vc], .int .i64 0]) (by simp [results, Try.results39, go_sem, j0, j1, j2]) rfl ⟨_, rfl, owns_far3 F.out L.out B1.size, below_far3 (below_step B1 G.out) (by omega)⟩

theorem invert_any (a b : Int) (s : Option Addr) (n c : Nat) (z : Nat → Bool) (w : World) (hs : IsBools w s n c z) :
    Calls Try.prog 39 #[.agg #[.int .i64 a, .int .i64 b, .slice s n c]] w fun e w' =>
      ∃ i j sl n' c', e = .returned (.tuple #[.agg #[.int .i64 i, .int .i64 j, .slice sl n' c'], .int .i64 (pageErr a b n)]) ∧ PageIs (pageErr a b n) a b (fun x y => !z (y * a.toNat + x)) w.heap.size w' i j sl n' c' ∧ Below w.heap.size w w' := by
  by_cases h : pageErr a b n = 0
  · obtain ⟨W, H, rfl, rfl, hn, w1, w2, h1, h2, hN, he⟩ := page_nat h
    obtain ⟨g, o, rfl, hc⟩ := isBools_cells hs (by rw [hn]; exact Nat.mul_pos w1 h1)
    subst hn
    refine (invert_ok W H g o c z w he hc).mono ?_
    rintro e w' ⟨v, rfl, hown, hbel⟩
    obtain ⟨g', c', rfl, hg', hz⟩ := owns_pageB hown (Nat.mul_pos w1 h1)
    exact ⟨_, _, _, _, _, by rw [h], .inr ⟨h, rfl, rfl, by simp, g', hg', rfl, by simpa using hz⟩, hbel⟩
  · refine (invert_badPage a b s n c w h).mono ?_
    rintro e w' ⟨rfl, hbel⟩
    exact ⟨0, 0, none, 0, 0, rfl, .inl ⟨h, rfl, rfl, rfl, rfl, rfl⟩, hbel⟩


set_option maxRecDepth 100000 in
theorem turns2i_any (W H x y pb g o c : Nat) (z : Nat → Bool) (w : World) (hW : W ≤ 4000) (hH : H ≤ 4000) (hx : x < W) (hy : y < H)
    (c0 : w.cell? ⟨pb, 0, none⟩ = some (.int .i64 W)) (c1 : w.cell? ⟨pb, 1, none⟩ = some (.int .i64 H)) (c2 : w.cell? ⟨pb, 2, none⟩ = some (.slice (some ⟨g, o, none⟩) (W * H) c))
    (hp : ∀ j, j < W * H → w.cell? ⟨g, o + j, none⟩ = some (.bool (z j))) :
    Calls Try.prog 43 #[.int .i64 x, .int .i64 y, .pointer (some ⟨pb, 0, none⟩)] w fun e w' => e = .returned (.bool (z (y * W + (W - 1 - x)))) ∧ Below w.heap.size w w' := by
  have hfit := row_fits hy (show (W - 1 - x) + 1 ≤ W by omega)
  obtain ⟨t, ht⟩ : ∃ t : Nat, (W - 1 - x) = t := ⟨_, rfl⟩
  have e1 : (W : Int) - 1 - (x : Int) = (t : Int) := by omega
  rw [ht] at hfit ⊢
  have HA := Lib.hid (at_in W H g o c t y (z (y * W + t)) w (by omega) (by omega) (by omega) hy (hp _ (by omega)))
  obtain ⟨q, hq⟩ : ∃ q, q = z (y * W + t) := ⟨_, rfl⟩
  rw [← hq] at HA ⊢
  clear hp hq hfit ht
  go_enter Try.func43, Try.ntmps43
  go_wp2_with (go_at_call 44; refine HA.out.mono ?_; rintro e w1 ⟨rfl, hb1⟩)
  go_ret
  exact ⟨rfl, hb1⟩

set_option maxHeartbeats 400000 in
set_option maxRecDepth 100000 in
theorem turns2_any (W H pb g o c : Nat) (z : Nat → Bool) (w : World) (hW : 1 ≤ W ∧ W ≤ 4000) (hH : 1 ≤ H ∧ H ≤ 4000) (hN : W * H ≤ 1048576)
    (c0 : w.cell? ⟨pb, 0, none⟩ = some (.int .i64 W)) (c1 : w.cell? ⟨pb, 1, none⟩ = some (.int .i64 H)) (c2 : w.cell? ⟨pb, 2, none⟩ = some (.slice (some ⟨g, o, none⟩) (W * H) c))
    (hp : ∀ j, j < W * H → w.cell? ⟨g, o + j, none⟩ = some (.bool (z j))) :
    Calls Try.prog 41 #[.pointer (some ⟨pb, 0, none⟩)] w fun e w' => ∃ v, e = .returned v ∧ PageB w' v W H (W * H) (fun k => z (k / W * W + (W - 1 - k % W))) ∧ Below w.heap.size w w' := by
  have hmf : ∀ (fn : Fn) (first cap : Array Value) (w : World), (Instr.makeFunc fn first cap).run Try.prog w = .ok (.func fn first cap) w := fun _ _ _ _ => rfl
  have lb := World.block_lt_of_cell? _ _ c0
  simp only at lb
  obtain ⟨w1, hw1⟩ : ∃ w1, w1 = w.alloc (.cells #[.int .i64 0, .int .i64 0, .slice none 0 0] 24) := ⟨_, rfl⟩
  have B1 : Below w.heap.size w w1 := by rw [hw1]; exact new_below _ _
  have qb : w1.heap[w.heap.size]? = some (.cells #[.int .i64 0, .int .i64 0, .slice none 0 0] 24 (0, 0)) := by rw [hw1]; exact heap_alloc_new _ _
  have HC := Lib.hid hp
  have k0 := cell_later B1 c0
  have k1 := cell_later B1 c1
  have k2 := cell_later B1 c2
  have L := Lib.hid (Array.getElem?_eq_some_iff.1 qb).1
  clear hp c2
  go_enter Try.func41, Try.ntmps41
  go_wp2_with fail
  rw [← hw1]
  clear hw1
  refine (made_any W H 43 _ (fun x y => z (y * W + (W - 1 - x))) w1 hW.1 (by omega) (by omega) (by omega) (Go.Proofs.enters_of Try.func43 (by kernel_rfl) rfl) ?_).mono ?_
  · intro x y wx hx hy hbx
    exact turns2i_any W H x y pb g o c z wx hW.2 hH.2 hx hy (cell_later hbx k0) (cell_later hbx k1) (cell_later hbx k2) (fun j hj => cell_later hbx (cell_later B1 (HC.out j hj)))
  · rintro e w5 ⟨v, rfl, hown, hb5⟩
    obtain ⟨j0, j1, j2, r0, r1, r2⟩ := block3 (below_block hb5 qb)
    obtain ⟨g', c', rfl, hgb, hz⟩ := owns_pageB hown (Nat.mul_pos hW.1 hH.1)
    have ZC := Lib.hid hz
    have G := Lib.hid hb5
    clear hown hb5 hz qb c0 c1 k0 k1 k2
    go_wp2_with fail
    refine bodyPost_ret (v := .agg #[.int .i64 W, .int .i64 H, .slice (some ⟨g', 0, none⟩) (W * H) c']) (by simp [results, Try.results41, go_sem, j0, j1, j2]) rfl ⟨_, rfl, ⟨g', 0, c', rfl, fun j hj => ?_⟩, below_far3 (below_step B1 G.out) (Nat.le_refl _)⟩
    exact cell_far3 (show g' ≠ w.heap.size by have := L.out; omega) (ZC.out j hj)

set_option maxRecDepth 100000 in
theorem turns3i_any (W H x y pb g o c : Nat) (z : Nat → Bool) (w : World) (hW : W ≤ 4000) (hH : H ≤ 4000) (hx : x < W) (hy : y < H)
    (c0 : w.cell? ⟨pb, 0, none⟩ = some (.int .i64 W)) (c1 : w.cell? ⟨pb, 1, none⟩ = some (.int .i64 H)) (c2 : w.cell? ⟨pb, 2, none⟩ = some (.slice (some ⟨g, o, none⟩) (W * H) c))
    (hp : ∀ j, j < W * H → w.cell? ⟨g, o + j, none⟩ = some (.bool (z j))) :
    Calls Try.prog 46 #[.int .i64 x, .int .i64 y, .pointer (some ⟨pb, 0, none⟩)] w fun e w' => e = .returned (.bool (!z (y * W + x))) ∧ Below w.heap.size w w' := by
  have hfit := row_fits hy (show x + 1 ≤ W by omega)
  obtain ⟨t, ht⟩ : ∃ t : Nat, x = t := ⟨_, rfl⟩
  have e1 : (x : Int) = (t : Int) := by omega
  rw [ht] at hfit ⊢
  have HA := Lib.hid (at_in W H g o c t y (z (y * W + t)) w (by omega) (by omega) (by omega) hy (hp _ (by omega)))
  obtain ⟨q, hq⟩ : ∃ q, q = z (y * W + t) := ⟨_, rfl⟩
  rw [← hq] at HA ⊢
  clear hp hq hfit ht
  go_enter Try.func46, Try.ntmps46
  go_wp2_with (go_at_call 44; refine HA.out.mono ?_; rintro e w1 ⟨rfl, hb1⟩)
  go_ret
  exact ⟨rfl, hb1⟩

set_option maxHeartbeats 400000 in
set_option maxRecDepth 100000 in
theorem turns3_any (W H pb g o c : Nat) (z : Nat → Bool) (w : World) (hW : 1 ≤ W ∧ W ≤ 4000) (hH : 1 ≤ H ∧ H ≤ 4000) (hN : W * H ≤ 1048576)
    (c0 : w.cell? ⟨pb, 0, none⟩ = some (.int .i64 W)) (c1 : w.cell? ⟨pb, 1, none⟩ = some (.int .i64 H)) (c2 : w.cell? ⟨pb, 2, none⟩ = some (.slice (some ⟨g, o, none⟩) (W * H) c))
    (hp : ∀ j, j < W * H → w.cell? ⟨g, o + j, none⟩ = some (.bool (z j))) :
    Calls Try.prog 45 #[.pointer (some ⟨pb, 0, none⟩)] w fun e w' => ∃ v, e = .returned v ∧ PageB w' v W H (W * H) (fun k => !z (k / W * W + k % W)) ∧ Below w.heap.size w w' := by
  have hmf : ∀ (fn : Fn) (first cap : Array Value) (w : World), (Instr.makeFunc fn first cap).run Try.prog w = .ok (.func fn first cap) w := fun _ _ _ _ => rfl
  have lb := World.block_lt_of_cell? _ _ c0
  simp only at lb
  obtain ⟨w1, hw1⟩ : ∃ w1, w1 = w.alloc (.cells #[.int .i64 0, .int .i64 0, .slice none 0 0] 24) := ⟨_, rfl⟩
  have B1 : Below w.heap.size w w1 := by rw [hw1]; exact new_below _ _
  have qb : w1.heap[w.heap.size]? = some (.cells #[.int .i64 0, .int .i64 0, .slice none 0 0] 24 (0, 0)) := by rw [hw1]; exact heap_alloc_new _ _
  have HC := Lib.hid hp
  have k0 := cell_later B1 c0
  have k1 := cell_later B1 c1
  have k2 := cell_later B1 c2
  have L := Lib.hid (Array.getElem?_eq_some_iff.1 qb).1
  clear hp c2
  go_enter Try.func45, Try.ntmps45
  go_wp2_with fail
  rw [← hw1]
  clear hw1
  refine (made_any W H 46 _ (fun x y => !z (y * W + x)) w1 hW.1 (by omega) (by omega) (by omega) (Go.Proofs.enters_of Try.func46 (by kernel_rfl) rfl) ?_).mono ?_
  · intro x y wx hx hy hbx
    exact turns3i_any W H x y pb g o c z wx hW.2 hH.2 hx hy (cell_later hbx k0) (cell_later hbx k1) (cell_later hbx k2) (fun j hj => cell_later hbx (cell_later B1 (HC.out j hj)))
  · rintro e w5 ⟨v, rfl, hown, hb5⟩
    obtain ⟨j0, j1, j2, r0, r1, r2⟩ := block3 (below_block hb5 qb)
    obtain ⟨g', c', rfl, hgb, hz⟩ := owns_pageB hown (Nat.mul_pos hW.1 hH.1)
    have ZC := Lib.hid hz
    have G := Lib.hid hb5
    clear hown hb5 hz qb c0 c1 k0 k1 k2
    go_wp2_with fail
    refine bodyPost_ret (v := .agg #[.int .i64 W, .int .i64 H, .slice (some ⟨g', 0, none⟩) (W * H) c']) (by simp [results, Try.results45, go_sem, j0, j1, j2]) rfl ⟨_, rfl, ⟨g', 0, c', rfl, fun j hj => ?_⟩, below_far3 (below_step B1 G.out) (Nat.le_refl _)⟩
    exact cell_far3 (show g' ≠ w.heap.size by have := L.out; omega) (ZC.out j hj)

end Go.Proofs.Ytejhmobpepllcaa
