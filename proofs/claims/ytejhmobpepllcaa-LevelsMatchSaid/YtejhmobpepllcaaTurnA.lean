/-
  Turning a row of pixels by quarters, at bool.
-/
import Derived.Test.YtejhmobpepllcaaTurnM
import Derived.Test.YtejhmobpepllcaaPasteA
namespace Go.Proofs.Ytejhmobpepllcaa
open Go.RowKit
set_option linter.unusedSimpArgs false
set_option linter.unusedVariables false

/-- The pixel at a place of a page turned k times. -/
def turnAt {α : Type} (W H k : Nat) (z : Nat → α) (x y : Nat) : α :=
  if k = 1 then z ((H - 1 - x) * W + y) else if k = 2 then z ((H - 1 - y) * W + (W - 1 - x)) else if k = 3 then z (x * W + (W - 1 - y)) else z (y * W + x)
def turnW (W H k : Nat) : Nat := if k = 1 ∨ k = 3 then H else W

set_option maxRecDepth 100000 in
theorem turnB1_any (W H x y pb wb hb g o n c t : Nat) (q : Bool) (w : World) (hW : W ≤ 4000) (hH : H ≤ 4000) (hx : x < H) (hy : y < W) (hn : n = W * H) (ht : t = (H - 1 - x) * W + y)
    (c0 : w.cell? ⟨pb, 0, none⟩ = some (.slice (some ⟨g, o, none⟩) n c)) (c1 : w.cell? ⟨hb, 0, none⟩ = some (.int .i64 H)) (c2 : w.cell? ⟨wb, 0, none⟩ = some (.int .i64 W)) (hc : w.cell? ⟨g, o + t, none⟩ = some (.bool q)) :
    Calls Try.prog 163 #[.int .i64 x, .int .i64 y, .pointer (some ⟨pb, 0, none⟩), .pointer (some ⟨hb, 0, none⟩), .pointer (some ⟨wb, 0, none⟩)] w fun e w' => e = .returned (.bool q) ∧ w = w' := by
  obtain ⟨A, hA⟩ : ∃ A, A = H - 1 - x := ⟨_, rfl⟩
  have e0 : (H : Int) - 1 - (x : Int) = (A : Int) := by omega
  rw [← hA] at ht
  obtain ⟨r1, r2⟩ := row_prod (y := A) hW hH (by omega)
  obtain ⟨P, hP⟩ : ∃ P, P = A * W := ⟨_, rfl⟩
  have e1 : (A : Int) * (W : Int) = (P : Int) := by rw [hP, Int.natCast_mul]
  rw [← hP] at r1 r2 ht
  have htn : (t : Int) < (n : Int) := by rw [hn, Nat.mul_comm W H]; omega
  have e2 : (P : Int) + (y : Int) = (t : Int) := by omega
  clear hP ht hn r2 hA
  go_enter Try.func163, Try.ntmps163
  go_wp2
  go_ret
  exact ⟨rfl, rfl⟩

set_option maxRecDepth 100000 in
theorem turnB2_any (W H x y pb wb hb g o n c t : Nat) (q : Bool) (w : World) (hW : W ≤ 4000) (hH : H ≤ 4000) (hx : x < W) (hy : y < H) (hn : n = W * H) (ht : t = (H - 1 - y) * W + (W - 1 - x))
    (c0 : w.cell? ⟨pb, 0, none⟩ = some (.slice (some ⟨g, o, none⟩) n c)) (c1 : w.cell? ⟨hb, 0, none⟩ = some (.int .i64 H)) (c2 : w.cell? ⟨wb, 0, none⟩ = some (.int .i64 W)) (hc : w.cell? ⟨g, o + t, none⟩ = some (.bool q)) :
    Calls Try.prog 164 #[.int .i64 x, .int .i64 y, .pointer (some ⟨pb, 0, none⟩), .pointer (some ⟨hb, 0, none⟩), .pointer (some ⟨wb, 0, none⟩)] w fun e w' => e = .returned (.bool q) ∧ w = w' := by
  obtain ⟨A, hA⟩ : ∃ A, A = H - 1 - y := ⟨_, rfl⟩
  have e0 : (H : Int) - 1 - (y : Int) = (A : Int) := by omega
  rw [← hA] at ht
  obtain ⟨r1, r2⟩ := row_prod (y := A) hW hH (by omega)
  obtain ⟨P, hP⟩ : ∃ P, P = A * W := ⟨_, rfl⟩
  have e1 : (A : Int) * (W : Int) = (P : Int) := by rw [hP, Int.natCast_mul]
  rw [← hP] at r1 r2 ht
  have htn : (t : Int) < (n : Int) := by rw [hn, Nat.mul_comm W H]; omega
  have e2 : (P : Int) + (W : Int) - 1 - (x : Int) = (t : Int) := by omega
  clear hP ht hn r2 hA
  go_enter Try.func164, Try.ntmps164
  go_wp2
  go_ret
  exact ⟨rfl, rfl⟩

set_option maxRecDepth 100000 in
theorem turnB3_any (W H x y pb wb g o n c t : Nat) (q : Bool) (w : World) (hW : W ≤ 4000) (hH : H ≤ 4000) (hx : x < H) (hy : y < W) (hn : n = W * H) (ht : t = x * W + (W - 1 - y))
    (c0 : w.cell? ⟨pb, 0, none⟩ = some (.slice (some ⟨g, o, none⟩) n c)) (c2 : w.cell? ⟨wb, 0, none⟩ = some (.int .i64 W)) (hc : w.cell? ⟨g, o + t, none⟩ = some (.bool q)) :
    Calls Try.prog 165 #[.int .i64 x, .int .i64 y, .pointer (some ⟨pb, 0, none⟩), .pointer (some ⟨wb, 0, none⟩)] w fun e w' => e = .returned (.bool q) ∧ w = w' := by
  obtain ⟨r1, r2⟩ := row_prod (y := x) hW hH hx
  obtain ⟨P, hP⟩ : ∃ P, P = x * W := ⟨_, rfl⟩
  have e1 : (x : Int) * (W : Int) = (P : Int) := by rw [hP, Int.natCast_mul]
  rw [← hP] at r1 r2 ht
  have htn : (t : Int) < (n : Int) := by rw [hn, Nat.mul_comm W H]; omega
  have e2 : (P : Int) + (W : Int) - 1 - (y : Int) = (t : Int) := by omega
  clear hP ht hn r2
  go_enter Try.func165, Try.ntmps165
  go_wp2
  go_ret
  exact ⟨rfl, rfl⟩

set_option maxHeartbeats 4000000 in
set_option maxRecDepth 100000 in
theorem turnB_any (W H g o n c k : Nat) (qt : Int) (z : Nat → Bool) (w : World) (hW : 1 ≤ W ∧ W ≤ 4000) (hH : 1 ≤ H ∧ H ≤ 4000) (hn : n = W * H) (hN : n ≤ 1048576) (hk : (qt.tmod 4 + 4).tmod 4 = (k : Int))
    (hp : ∀ j, j < n → w.cell? ⟨g, o + j, none⟩ = some (.bool (z j))) :
    Calls Try.prog 111 #[.slice (some ⟨g, o, none⟩) n c, .int .i64 W, .int .i64 H, .int .i64 qt] w fun e w' =>
      ∃ v, e = .returned (.tuple #[.int .i64 (turnW W H k), .int .i64 (turnW H W k), v]) ∧ w'.ownsRow w.heap.size 4 1 v n ((places (turnW W H k) (turnAt W H k z) n).map Value.bool) ∧ Below w.heap.size w w' := by
  have hmf : ∀ (fn : Fn) (first cap : Array Value) (w : World), (Instr.makeFunc fn first cap).run Try.prog w = .ok (.func fn first cap) w := fun _ _ _ _ => rfl
  have t1 : qt.tmod 4 ≤ 3 := by have := Int.tmod_lt_of_pos qt (show (0:Int) < 4 by decide); omega
  have t0 : -3 ≤ qt.tmod 4 := by have := Int.lt_tmod_of_pos qt (show (0:Int) < 4 by decide); omega
  have hk4 : k ≤ 3 := by have := Int.tmod_lt_of_pos (qt.tmod 4 + 4) (show (0:Int) < 4 by decide); omega
  obtain ⟨w1, hw1⟩ : ∃ w1, w1 = (((w.alloc (.cells #[.slice (some ⟨g, o, none⟩) n c] 22)).alloc (.cells #[.int .i64 W] 3)).alloc (.cells #[.int .i64 H] 3)) := ⟨_, rfl⟩
  have B1 : Below w.heap.size w w1 := by rw [hw1]; exact below_alloc (below_alloc (new_below _ _) _) _
  have q0 : w1.cell? ⟨w.heap.size, 0, none⟩ = some (.slice (some ⟨g, o, none⟩) n c) := by rw [hw1]; go_simp
  have q1 : w1.cell? ⟨w.heap.size + 1, 0, none⟩ = some (.int .i64 W) := by rw [hw1]; go_simp
  have q2 : w1.cell? ⟨w.heap.size + 1 + 1, 0, none⟩ = some (.int .i64 H) := by rw [hw1]; go_simp
  have HC := Lib.hid hp
  have HN := Lib.hid hn
  have HW := Lib.hid hw1
  clear hp hn hw1
  have hk' : k = 0 ∨ k = 1 ∨ k = 2 ∨ k = 3 := by omega
  rcases hk' with rfl | rfl | rfl | rfl
  · have HF := Lib.hid (clone_any g o n c z w1.drew (by rw [HN.out]; exact Nat.mul_pos hW.1 hH.1) hN (fun j hj => cell_later B1.drew (HC.out j hj)))
    have hpl : (List.range n).map (fun k => Value.bool (z k)) = (places W (turnAt W H 0 z) n).map Value.bool := by
      simp only [places, List.map_map]
      refine List.map_congr_left fun k _ => ?_
      simp only [turnAt, Function.comp]
      rw [if_neg (by decide), if_neg (by decide), if_neg (by decide), Nat.mul_comm, Nat.div_add_mod]
    go_enter Try.func111, Try.ntmps111
    go_wp2_with fail
    rw [← HW.out]
    go_region_held3 (fun w' => w'.cell? ⟨w.heap.size, 0, none⟩ = some (.slice (some ⟨g, o, none⟩) n c) ∧ w'.cell? ⟨w.heap.size + 1, 0, none⟩ = some (.int .i64 W) ∧ w'.cell? ⟨w.heap.size + 1 + 1, 0, none⟩ = some (.int .i64 H))
      (first | (go_keep; done) | (go_split_ands; exact ⟨cell_later hb5 (by assumption), cell_later hb5 (by assumption), cell_later hb5 (by assumption)⟩))
      ((first | (go_at_call 121; with_reducible refine HF.out.mono ?_; rintro e w5 ⟨v, rfl, hown, hb5⟩)))
    all_goals go_wp2_with fail
    all_goals refine bodyPost_ret (v := .tuple #[.int .i64 (turnW W H 0), .int .i64 (turnW H W 0), v]) (by simp [results, Try.results111, go_sem, turnW]) rfl ⟨_, rfl, by have h := owns_base hown B1.size; rw [hpl] at h; exact h, below_step B1.drew hb5⟩
  · have HF := Lib.hid (fillBool_any H W 163 #[.pointer (some ⟨w.heap.size, 0, none⟩), .pointer (some ⟨w.heap.size + 1 + 1, 0, none⟩), .pointer (some ⟨w.heap.size + 1, 0, none⟩)] (turnAt W H 1 z) w1.drew (by omega) (by omega) (by omega) (by have := HN.out; rw [Nat.mul_comm] at this; first | omega | (rw [Nat.mul_comm] at this; omega)) (Go.Proofs.enters_of Try.func163 (by kernel_rfl) rfl) (fun x y wx hx hy hbx => by
      have hb := below_step (Below.refl w1.heap.size w1).drew hbx
      have hfit := row_fits (y := H - 1 - x) (h := H) (by omega) (show y + 1 ≤ W by omega)
      refine (turnB1_any W H x y w.heap.size (w.heap.size + 1) (w.heap.size + 1 + 1) g o n c _ (turnAt W H 1 z x y) wx hW.2 hH.2 hx hy HN.out rfl (cell_later hb q0) (cell_later hb q2) (cell_later hb q1) (cell_later hb (cell_later B1 (HC.out _ (by rw [HN.out]; omega))))).mono ?_
      rintro e wy ⟨rfl, rfl⟩
      exact ⟨rfl, Below.refl _ _⟩))
    go_enter Try.func111, Try.ntmps111
    go_wp2_with fail
    rw [← HW.out]
    go_region_held3 (fun w' => w'.cell? ⟨w.heap.size, 0, none⟩ = some (.slice (some ⟨g, o, none⟩) n c) ∧ w'.cell? ⟨w.heap.size + 1, 0, none⟩ = some (.int .i64 W) ∧ w'.cell? ⟨w.heap.size + 1 + 1, 0, none⟩ = some (.int .i64 H))
      (first | (go_keep; done) | (go_split_ands; exact ⟨cell_later hb5 (by assumption), cell_later hb5 (by assumption), cell_later hb5 (by assumption)⟩))
      ((first | (go_at_call 112; with_reducible refine HF.out.mono ?_; rintro e w5 ⟨v, rfl, hown, hb5⟩)))
    all_goals go_wp2_with fail
    all_goals refine bodyPost_ret (v := .tuple #[.int .i64 (turnW W H 1), .int .i64 (turnW H W 1), v]) (by simp [results, Try.results111, go_sem, turnW]) rfl ⟨_, rfl, by have h := owns_base hown B1.size; have e := HN.out; rw [Nat.mul_comm] at e; rw [← e] at h; exact h, below_step B1.drew hb5⟩
  · have HF := Lib.hid (fillBool_any W H 164 #[.pointer (some ⟨w.heap.size, 0, none⟩), .pointer (some ⟨w.heap.size + 1 + 1, 0, none⟩), .pointer (some ⟨w.heap.size + 1, 0, none⟩)] (turnAt W H 2 z) w1.drew (by omega) (by omega) (by omega) (by have := HN.out; rw [Nat.mul_comm] at this; first | omega | (rw [Nat.mul_comm] at this; omega)) (Go.Proofs.enters_of Try.func164 (by kernel_rfl) rfl) (fun x y wx hx hy hbx => by
      have hb := below_step (Below.refl w1.heap.size w1).drew hbx
      have hfit := row_fits (y := H - 1 - y) (h := H) (by omega) (show (W - 1 - x) + 1 ≤ W by omega)
      refine (turnB2_any W H x y w.heap.size (w.heap.size + 1) (w.heap.size + 1 + 1) g o n c _ (turnAt W H 2 z x y) wx hW.2 hH.2 hx hy HN.out rfl (cell_later hb q0) (cell_later hb q2) (cell_later hb q1) (cell_later hb (cell_later B1 (HC.out _ (by rw [HN.out]; omega))))).mono ?_
      rintro e wy ⟨rfl, rfl⟩
      exact ⟨rfl, Below.refl _ _⟩))
    go_enter Try.func111, Try.ntmps111
    go_wp2_with fail
    rw [← HW.out]
    go_region_held3 (fun w' => w'.cell? ⟨w.heap.size, 0, none⟩ = some (.slice (some ⟨g, o, none⟩) n c) ∧ w'.cell? ⟨w.heap.size + 1, 0, none⟩ = some (.int .i64 W) ∧ w'.cell? ⟨w.heap.size + 1 + 1, 0, none⟩ = some (.int .i64 H))
      (first | (go_keep; done) | (go_split_ands; exact ⟨cell_later hb5 (by assumption), cell_later hb5 (by assumption), cell_later hb5 (by assumption)⟩))
      ((first | (go_at_call 112; with_reducible refine HF.out.mono ?_; rintro e w5 ⟨v, rfl, hown, hb5⟩)))
    all_goals go_wp2_with fail
    all_goals refine bodyPost_ret (v := .tuple #[.int .i64 (turnW W H 2), .int .i64 (turnW H W 2), v]) (by simp [results, Try.results111, go_sem, turnW]) rfl ⟨_, rfl, by have h := owns_base hown B1.size; have e := HN.out; rw [← e] at h; exact h, below_step B1.drew hb5⟩
  · have HF := Lib.hid (fillBool_any H W 165 #[.pointer (some ⟨w.heap.size, 0, none⟩), .pointer (some ⟨w.heap.size + 1, 0, none⟩)] (turnAt W H 3 z) w1.drew (by omega) (by omega) (by omega) (by have := HN.out; rw [Nat.mul_comm] at this; first | omega | (rw [Nat.mul_comm] at this; omega)) (Go.Proofs.enters_of Try.func165 (by kernel_rfl) rfl) (fun x y wx hx hy hbx => by
      have hb := below_step (Below.refl w1.heap.size w1).drew hbx
      have hfit := row_fits (y := x) (h := H) (by omega) (show (W - 1 - y) + 1 ≤ W by omega)
      refine (turnB3_any W H x y w.heap.size (w.heap.size + 1) g o n c _ (turnAt W H 3 z x y) wx hW.2 hH.2 hx hy HN.out rfl (cell_later hb q0) (cell_later hb q1) (cell_later hb (cell_later B1 (HC.out _ (by rw [HN.out]; omega))))).mono ?_
      rintro e wy ⟨rfl, rfl⟩
      exact ⟨rfl, Below.refl _ _⟩))
    go_enter Try.func111, Try.ntmps111
    go_wp2_with fail
    rw [← HW.out]
    go_region_held3 (fun w' => w'.cell? ⟨w.heap.size, 0, none⟩ = some (.slice (some ⟨g, o, none⟩) n c) ∧ w'.cell? ⟨w.heap.size + 1, 0, none⟩ = some (.int .i64 W) ∧ w'.cell? ⟨w.heap.size + 1 + 1, 0, none⟩ = some (.int .i64 H))
      (first | (go_keep; done) | (go_split_ands; exact ⟨cell_later hb5 (by assumption), cell_later hb5 (by assumption), cell_later hb5 (by assumption)⟩))
      ((first | (go_at_call 112; with_reducible refine HF.out.mono ?_; rintro e w5 ⟨v, rfl, hown, hb5⟩)))
    all_goals go_wp2_with fail
    all_goals refine bodyPost_ret (v := .tuple #[.int .i64 (turnW W H 3), .int .i64 (turnW H W 3), v]) (by simp [results, Try.results111, go_sem, turnW]) rfl ⟨_, rfl, by have h := owns_base hown B1.size; have e := HN.out; rw [Nat.mul_comm] at e; rw [← e] at h; exact h, below_step B1.drew hb5⟩

end Go.Proofs.Ytejhmobpepllcaa
