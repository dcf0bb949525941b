/-
  Turn as a whole, and the reference's TurnOf.
-/
import Derived.Test.YtejhmobpepllcaaTurnI
import Derived.Test.YtejhmobpepllcaaTurnA
namespace Go.Proofs.Ytejhmobpepllcaa
open Go.RowKit
set_option linter.unusedSimpArgs false
set_option linter.unusedVariables false

theorem turn_badPage (a b : Int) (p : Option Addr) (n c : Nat) (qt : Int) (w : World) (h : pageErr a b n ≠ 0) :
    Calls Try.prog 37 #[.agg #[.int .i64 a, .int .i64 b, .slice p n c], .int .i64 qt] w fun e w' => e = .returned (.tuple #[.agg #[.int .i64 0, .int .i64 0, .slice none 0 0], .int .i64 (pageErr a b n)]) ∧ Below w.heap.size w w' := by
  have h' : (pageErr a b n != 0) = true := by simpa using h
  clear h
  go_enter Try.func37, Try.ntmps37
  go_wp2_with ((go_at_call 16; refine (checkBits_any _ _ _ _ _ _).mono ?_; rintro e w' ⟨rfl, rfl⟩))
  refine bodyPost_ret (v := .tuple #[.agg #[.int .i64 0, .int .i64 0, .slice none 0 0], .int .i64 (pageErr a b n)]) (by simp [results, Try.results37, go_sem]) rfl ⟨rfl, below_alloc (below_alloc (new_below _ _) _) _⟩

theorem turnW_pos {W H k : Nat} (hW : 1 ≤ W ∧ W ≤ 4000) (hH : 1 ≤ H ∧ H ≤ 4000) : 1 ≤ turnW W H k ∧ turnW W H k ≤ 4000 := by
  unfold turnW; split <;> assumption
theorem turnW_mul (W H k : Nat) : turnW W H k * turnW H W k = W * H := by
  unfold turnW; split
  · exact Nat.mul_comm _ _
  · rfl

set_option maxHeartbeats 400000 in
set_option maxRecDepth 100000 in
theorem turn_ok (W H g o c k : Nat) (qt : Int) (z : Nat → Bool) (w : World) (he : sizeErr W H = 0) (hk : (qt.tmod 4 + 4).tmod 4 = (k : Int))
    (hp : ∀ j, j < W * H → w.cell? ⟨g, o + j, none⟩ = some (.bool (z j))) :
    Calls Try.prog 37 #[.agg #[.int .i64 W, .int .i64 H, .slice (some ⟨g, o, none⟩) (W * H) c], .int .i64 qt] w fun e w' =>
      ∃ v, e = .returned (.tuple #[.agg #[.int .i64 (turnW W H k), .int .i64 (turnW H W k), v], .int .i64 0]) ∧ w'.ownsRow w.heap.size 4 1 v (W * H) ((places (turnW W H k) (turnAt W H k z) (W * H)).map Value.bool) ∧ Below w.heap.size w w' := by
  obtain ⟨⟨a1, a2, a3, a4⟩, z0, z1⟩ := sizeErr_zero he
  have hN : W * H ≤ 1048576 := by rw [← Int.natCast_mul] at z1; omega
  have hpe : pageErr W H (W * H) = 0 := by unfold pageErr; rw [if_pos he, if_pos (by simp [Int.natCast_mul])]
  have HC := Lib.hid hp
  have HK := Lib.hid hk
  clear hp he z0 z1 hk
  go_enter Try.func37, Try.ntmps37
  go_wp2_with ((go_at_call 16; refine (checkBits_any _ _ _ _ _ _).mono ?_; rintro e w' ⟨rfl, rfl⟩))
  obtain ⟨w1, hw1⟩ : ∃ w1, w1 = (((w.alloc (.cells #[.int .i64 W, .int .i64 H, .slice (some ⟨g, o, none⟩) (W * H) c] 24)).alloc (.cells #[.int .i64 0, .int .i64 0, .slice none 0 0] 24)).alloc (.cells #[.int .i64 W, .int .i64 H, .slice (some ⟨g, o, none⟩) (W * H) c] 24)) := ⟨_, rfl⟩
  have B1 : Below w.heap.size w w1 := by rw [hw1]; exact below_alloc (below_alloc (new_below _ _) _) _
  have qb : w1.heap[w.heap.size + 1]? = some (.cells #[.int .i64 0, .int .i64 0, .slice none 0 0] 24 (0, 0)) := by
    rw [hw1, Below.heap_alloc _ _ _ (by simp)]
    simpa using heap_alloc_new (w.alloc (.cells #[.int .i64 W, .int .i64 H, .slice (some ⟨g, o, none⟩) (W * H) c] 24)) (.cells #[.int .i64 0, .int .i64 0, .slice none 0 0] 24)
  rw [← hw1]
  clear hw1
  have lt1 := (Array.getElem?_eq_some_iff.1 qb).1
  refine (turnB_any W H g o (W * H) c k qt z w1 ⟨by omega, by omega⟩ ⟨by omega, by omega⟩ rfl hN HK.out (fun j hj => cell_later B1 (HC.out j hj))).mono ?_
  rintro e w5 ⟨v, rfl, hown, hb5⟩
  obtain ⟨j0, j1, j2, r0, r1, r2⟩ := block3 (below_block hb5 qb)
  obtain ⟨va, vn, vc, rfl⟩ := owns_shape hown
  have F := Lib.hid hown
  have G := Lib.hid hb5
  have L := Lib.hid lt1
  clear hown hb5 lt1
  go_wp2_with fail
  refine bodyPost_ret (v := .tuple #[.agg #[.int .i64 (turnW W H k), .int .i64 (turnW H W k), .slice va vn vc], .int .i64 0]) (by simp [results, Try.results37, go_sem, j0, j1, j2]) rfl ⟨_, rfl, owns_far3 F.out L.out B1.size, below_far3 (below_step B1 G.out) (by omega)⟩

/-- The number of quarters to the right. -/
theorem quart_some (qt : Int) : ∃ k : Nat, (qt.tmod 4 + 4).tmod 4 = (k : Int) ∧ k ≤ 3 := by
  have t1 := Int.tmod_lt_of_pos qt (show (0:Int) < 4 by decide)
  have t0 := Int.lt_tmod_of_pos qt (show (0:Int) < 4 by decide)
  have h0 := Int.tmod_nonneg 4 (show 0 ≤ qt.tmod 4 + 4 by omega)
  have h1 := Int.tmod_lt_of_pos (qt.tmod 4 + 4) (show (0:Int) < 4 by decide)
  obtain ⟨k, hk⟩ := Int.eq_ofNat_of_zero_le h0
  exact ⟨k, hk, by omega⟩

theorem turn_any (a b : Int) (s : Option Addr) (n c k : Nat) (qt : Int) (z : Nat → Bool) (w : World) (hs : IsBools w s n c z) (hk : (qt.tmod 4 + 4).tmod 4 = (k : Int)) :
    Calls Try.prog 37 #[.agg #[.int .i64 a, .int .i64 b, .slice s n c], .int .i64 qt] w fun e w' =>
      ∃ i j sl n' c', e = .returned (.tuple #[.agg #[.int .i64 i, .int .i64 j, .slice sl n' c'], .int .i64 (pageErr a b n)]) ∧ PageIs (pageErr a b n) (turnW a.toNat b.toNat k) (turnW b.toNat a.toNat k) (turnAt a.toNat b.toNat k z) w.heap.size w' i j sl n' c' ∧ Below w.heap.size w w' := by
  by_cases h : pageErr a b n = 0
  · obtain ⟨W, H, rfl, rfl, hn, w1, w2, h1, h2, hN, he⟩ := page_nat h
    obtain ⟨g, o, rfl, hc⟩ := isBools_cells hs (by rw [hn]; exact Nat.mul_pos w1 h1)
    subst hn
    refine (turn_ok W H g o c k qt z w he hk hc).mono ?_
    rintro e w' ⟨v, rfl, hown, hbel⟩
    obtain ⟨g', c', rfl, hg', hz⟩ := owns_pageB hown (Nat.mul_pos w1 h1)
    exact ⟨_, _, _, _, _, by rw [h], .inr ⟨h, by simp, by simp, by simp [turnW_mul], g', hg', rfl, by simpa using hz⟩, hbel⟩
  · refine (turn_badPage a b s n c qt w h).mono ?_
    rintro e w' ⟨rfl, hbel⟩
    exact ⟨0, 0, none, 0, 0, rfl, .inl ⟨h, rfl, rfl, rfl, rfl, rfl⟩, hbel⟩

set_option maxRecDepth 100000 in
theorem turnOf1_any (W H x y pb g o c : Nat) (z : Nat → Bool) (w : World) (hW : W ≤ 4000) (hH : H ≤ 4000) (hx : x < H) (hy : y < W)
    (c0 : w.cell? ⟨pb, 0, none⟩ = some (.int .i64 W)) (c1 : w.cell? ⟨pb, 1, none⟩ = some (.int .i64 H)) (c2 : w.cell? ⟨pb, 2, none⟩ = some (.slice (some ⟨g, o, none⟩) (W * H) c))
    (hp : ∀ j, j < W * H → w.cell? ⟨g, o + j, none⟩ = some (.bool (z j))) :
    Calls Try.prog 110 #[.int .i64 x, .int .i64 y, .pointer (some ⟨pb, 0, none⟩)] w fun e w' => e = .returned (.bool (z ((H - 1 - x) * W + y))) ∧ Below w.heap.size w w' := by
  have hfit := row_fits (y := H - 1 - x) (h := H) (by omega) (show y + 1 ≤ W by omega)
  obtain ⟨t, ht⟩ : ∃ t : Nat, H - 1 - x = t := ⟨_, rfl⟩
  have e1 : (H : Int) - 1 - (x : Int) = (t : Int) := by omega
  rw [ht] at hfit ⊢
  have HA := Lib.hid (at_in W H g o c y t (z (t * W + y)) w (by omega) (by omega) hy (by omega) (hp _ (by omega)))
  obtain ⟨q, hq⟩ : ∃ q, q = z (t * W + y) := ⟨_, rfl⟩
  rw [← hq] at HA ⊢
  clear hp hq hfit ht
  go_enter Try.func110, Try.ntmps110
  go_wp2_with (go_at_call 44; refine HA.out.mono ?_; rintro e w1 ⟨rfl, hb1⟩)
  go_ret
  exact ⟨rfl, hb1⟩

set_option maxHeartbeats 400000 in
set_option maxRecDepth 100000 in
theorem turnOf_any (W H g o c : Nat) (z : Nat → Bool) (w : World) (hW : 1 ≤ W ∧ W ≤ 4000) (hH : 1 ≤ H ∧ H ≤ 4000) (hN : W * H ≤ 1048576)
    (hp : ∀ j, j < W * H → w.cell? ⟨g, o + j, none⟩ = some (.bool (z j))) :
    Calls Try.prog 36 #[.agg #[.int .i64 W, .int .i64 H, .slice (some ⟨g, o, none⟩) (W * H) c]] w fun e w' =>
      ∃ g' c', e = .returned (.agg #[.int .i64 H, .int .i64 W, .slice (some ⟨g', 0, none⟩) (H * W) c']) ∧ w.heap.size ≤ g' ∧ (∀ j, j < H * W → w'.cell? ⟨g', 0 + j, none⟩ = some (.bool (z ((H - 1 - j % H) * W + j / H)))) ∧ Below w.heap.size w w' := by
  have hmf : ∀ (fn : Fn) (first cap : Array Value) (w : World), (Instr.makeFunc fn first cap).run Try.prog w = .ok (.func fn first cap) w := fun _ _ _ _ => rfl
  have HC := Lib.hid hp
  clear hp
  go_enter Try.func36, Try.ntmps36
  go_wp2_with fail
  obtain ⟨w1, hw1⟩ : ∃ w1, w1 = (w.alloc (.cells #[.int .i64 W, .int .i64 H, .slice (some ⟨g, o, none⟩) (W * H) c] 24)).alloc (.cells #[.int .i64 0, .int .i64 0, .slice none 0 0] 24) := ⟨_, rfl⟩
  have B1 : Below w.heap.size w w1 := by rw [hw1]; exact below_alloc (new_below _ _) _
  have q0 : w1.cell? ⟨w.heap.size, 0, none⟩ = some (.int .i64 W) := by rw [hw1]; go_simp
  have q1 : w1.cell? ⟨w.heap.size, 1, none⟩ = some (.int .i64 H) := by rw [hw1]; go_simp
  have q2 : w1.cell? ⟨w.heap.size, 2, none⟩ = some (.slice (some ⟨g, o, none⟩) (W * H) c) := by rw [hw1]; go_simp
  have qb : w1.heap[w.heap.size + 1]? = some (.cells #[.int .i64 0, .int .i64 0, .slice none 0 0] 24 (0, 0)) := by
    rw [hw1]
    simpa using heap_alloc_new (w.alloc (.cells #[.int .i64 W, .int .i64 H, .slice (some ⟨g, o, none⟩) (W * H) c] 24)) (.cells #[.int .i64 0, .int .i64 0, .slice none 0 0] 24)
  rw [← hw1]
  clear hw1
  have lt1 := (Array.getElem?_eq_some_iff.1 qb).1
  refine (made_any H W 110 _ (fun x y => z ((H - 1 - x) * W + y)) w1 hH.1 (by omega) (by omega) (by rw [Nat.mul_comm]; omega) (Go.Proofs.enters_of Try.func110 (by kernel_rfl) rfl) ?_).mono ?_
  · intro x y wx hx hy hbx
    exact turnOf1_any W H x y w.heap.size g o c z wx hW.2 hH.2 hx hy (cell_later hbx q0) (cell_later hbx q1) (cell_later hbx q2) (fun j hj => cell_later hbx (cell_later B1 (HC.out j hj)))
  · rintro e w5 ⟨v, rfl, hown, hb5⟩
    obtain ⟨j0, j1, j2, r0, r1, r2⟩ := block3 (below_block hb5 qb)
    obtain ⟨g', c', rfl, hg', hz⟩ := owns_pageB hown (Nat.mul_pos hH.1 hW.1)
    have ZC := Lib.hid hz
    have G := Lib.hid hb5
    have L := Lib.hid lt1
    clear hown hb5 lt1 q0 q1 q2 hz
    go_wp2_with fail
    refine bodyPost_ret (v := .agg #[.int .i64 H, .int .i64 W, .slice (some ⟨g', 0, none⟩) (H * W) c']) (by simp [results, Try.results36, go_sem, j0, j1, j2]) rfl ⟨_, _, rfl, Nat.le_trans B1.size hg', fun j hj => ?_, below_far3 (below_step B1 G.out) (by omega)⟩
    exact cell_far3 (show g' ≠ w.heap.size + 1 by have := L.out; omega) (ZC.out j hj)

/-- A page turned k times and once more. -/
theorem turn_more {α : Type} (W H k j : Nat) (z : Nat → α) (hW : 1 ≤ W) (hH : 1 ≤ H) (hk : k ≤ 2) (hj : j < W * H) :
    turnAt W H k z (((turnW H W k - 1 - j % turnW H W k) * turnW W H k + j / turnW H W k) % turnW W H k) (((turnW H W k - 1 - j % turnW H W k) * turnW W H k + j / turnW H W k) / turnW W H k) = turnAt W H (k + 1) z (j % turnW W H (k + 1)) (j / turnW W H (k + 1)) := by
  have hk' : k = 0 ∨ k = 1 ∨ k = 2 := by omega
  have d1 : j / H < W := Nat.div_lt_of_lt_mul (by rw [Nat.mul_comm]; exact hj)
  have d2 : j / W < H := Nat.div_lt_of_lt_mul hj
  have m1 : j % H < H := Nat.mod_lt _ hH
  have m2 : j % W < W := Nat.mod_lt _ hW
  have e1 : ∀ a, (a * W + j / H) % W = j / H := fun a => by rw [Nat.add_comm, Nat.add_mul_mod_self_right, Nat.mod_eq_of_lt d1]
  have e2 : ∀ a, (a * W + j / H) / W = a := fun a => by rw [Nat.add_comm, Nat.add_mul_div_right _ _ hW, Nat.div_eq_of_lt d1, Nat.zero_add]
  have e3 : ∀ a, (a * H + j / W) % H = j / W := fun a => by rw [Nat.add_comm, Nat.add_mul_mod_self_right, Nat.mod_eq_of_lt d2]
  have e4 : ∀ a, (a * H + j / W) / H = a := fun a => by rw [Nat.add_comm, Nat.add_mul_div_right _ _ hH, Nat.div_eq_of_lt d2, Nat.zero_add]
  rcases hk' with rfl | rfl | rfl
  · simp [turnAt, turnW, e1, e2]
  · simp [turnAt, turnW, e3, e4]
  · have e5 : H - 1 - (H - 1 - j % H) = j % H := by omega
    simp [turnAt, turnW, e1, e2, e5]

end Go.Proofs.Ytejhmobpepllcaa
