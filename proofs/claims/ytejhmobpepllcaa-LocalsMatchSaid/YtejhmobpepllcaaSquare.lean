/-
  The reference's square, Spread and ShrinkInk.
-/
import Derived.Test.YtejhmobpepllcaaSqM
import Derived.Test.YtejhmobpepllcaaMade
namespace Go.Proofs.Ytejhmobpepllcaa
open Go.RowKit
set_option linter.unusedSimpArgs false
set_option linter.unusedVariables false

theorem at_any (W H g o c : Nat) (x y : Int) (z : Nat → Bool) (w : World) (hW : W ≤ 10000) (hH : H ≤ 10000) (hc : ∀ j, j < W * H → w.cell? ⟨g, o + j, none⟩ = some (.bool (z j))) :
    Calls Try.prog 44 #[.agg #[.int .i64 W, .int .i64 H, .slice (some ⟨g, o, none⟩) (W * H) c], .int .i64 x, .int .i64 y] w fun e w' => e = .returned (.bool (atB W H z x y)) ∧ Below w.heap.size w w' := by
  by_cases h : (0 ≤ x ∧ x ≤ (W : Int) - 1) ∧ (0 ≤ y ∧ y ≤ (H : Int) - 1)
  · obtain ⟨X, rfl⟩ := Int.eq_ofNat_of_zero_le h.1.1
    obtain ⟨Y, rfl⟩ := Int.eq_ofNat_of_zero_le h.2.1
    have hx : X < W := by omega
    have hy : Y < H := by omega
    have hfit := row_fits hy (show X + 1 ≤ W by omega)
    refine (at_in W H g o c X Y (z (Y * W + X)) w hW hH hx hy (hc _ (by omega))).mono ?_
    rintro e w1 ⟨rfl, hb⟩
    exact ⟨by rw [atB_nat W H z X Y hx hy], hb⟩
  · refine (at_out W H g o (W * H) c x y (some ⟨g, o, none⟩) w hW hH h).mono ?_
    rintro e w1 ⟨rfl, hb⟩
    exact ⟨by unfold atB; rw [if_neg h], hb⟩

set_option maxHeartbeats 1000000 in
set_option maxRecDepth 100000 in
theorem square_any (W H g o c x y r : Nat) (z : Nat → Bool) (w : World) (hW : W ≤ 10000) (hH : H ≤ 10000) (hx : x ≤ 10000) (hy : y ≤ 10000) (hr : r ≤ 50) (hc : ∀ j, j < W * H → w.cell? ⟨g, o + j, none⟩ = some (.bool (z j))) :
    Calls Try.prog 159 #[.agg #[.int .i64 W, .int .i64 H, .slice (some ⟨g, o, none⟩) (W * H) c], .int .i64 x, .int .i64 y, .int .i64 r] w fun e w' => e = .returned (.tuple #[.bool (spreadB W H z r x y), .bool (shrinkB W H z r x y)]) ∧ Below w.heap.size w w' := by
  have HC := Lib.hid hc
  clear hc
  go_enter Try.func159, Try.ntmps159
  go_wp2_with fail
  obtain ⟨w1, hw1⟩ : ∃ w1, w1 = w.alloc (.cells #[.int .i64 W, .int .i64 H, .slice (some ⟨g, o, none⟩) (W * H) c] 24) := ⟨_, rfl⟩
  have B1 : Below w.heap.size w w1 := by rw [hw1]; exact new_below _ _
  obtain ⟨k0, k1, k2, _, _, _⟩ := block3 (w := w1) (b := w.heap.size) (x := .int .i64 W) (y := .int .i64 H) (z := .slice (some ⟨g, o, none⟩) (W * H) c) (t := 24) (by rw [hw1]; exact heap_alloc_new _ _)
  rw [← hw1]
  clear hw1
  have HB1 := Lib.hid B1
  clear B1
  go_loopw [8, 9, 10] (fun s a j wr => ∃ (k : Nat) (sb ab : Bool), k ≤ 2 * r + 1 ∧ j = .int .i64 ((y : Int) - (r : Int) + (k : Int)) ∧ s = .bool sb ∧ a = .bool ab ∧ Hid (sb = sqSome W H z ((y : Int) - (r : Int)) ((x : Int) - (r : Int)) (2 * r + 1) k ∧ ab = sqAll W H z ((y : Int) - (r : Int)) ((x : Int) - (r : Int)) (2 * r + 1) k) ∧ Below w1.heap.size w1 wr) (fun _ _ j _ => ((y : Int) + (r : Int) + 1 - intOf j).toNat)
  case atStart => exact ⟨0, false, true, by omega, by go_num, rfl, rfl, Lib.hid ⟨rfl, rfl⟩, Below.refl _ _⟩
  case round =>
    obtain ⟨k, sb, ab, hk, rfl, rfl, rfl, hs, hb⟩ := hrel
    have c0 := cell_later hb k0
    have c1 := cell_later hb k1
    have c2 := cell_later hb k2
    by_cases hlt : k < 2 * r + 1
    · obtain ⟨wo, rfl⟩ : ∃ wo : World, wo = wr := ⟨_, rfl⟩
      have HB := Lib.hid hb
      have hd : decide ((y : Int) - (r : Int) + (k : Int) ≤ (y : Int) + (r : Int)) = true := decide_eq_true (by omega)
      clear hb c0 c1 c2
      go_wp2_with fail
      go_loopw [8, 9, 11] (fun s a i wr => ∃ (l : Nat) (sv av : Bool), l ≤ 2 * r + 1 ∧ i = .int .i64 ((x : Int) - (r : Int) + (l : Int)) ∧ s = .bool sv ∧ a = .bool av ∧ Hid (sv = (sb || rowSome W H z ((y : Int) - (r : Int) + (k : Int)) ((x : Int) - (r : Int)) l) ∧ av = (ab && rowAll W H z ((y : Int) - (r : Int) + (k : Int)) ((x : Int) - (r : Int)) l)) ∧ Below w1.heap.size w1 wr) (fun _ _ i _ => ((x : Int) + (r : Int) + 1 - intOf i).toNat)
      case atStart => exact ⟨0, sb, ab, by omega, by go_num, rfl, rfl, Lib.hid ⟨by simp [rowSome], by simp [rowAll]⟩, HB.out⟩
      case round =>
        obtain ⟨l, sv, av, hl, rfl, rfl, rfl, hv, hbr⟩ := hrel
        have c0 := cell_later hbr k0
        have c1 := cell_later hbr k1
        have c2 := cell_later hbr k2
        have HBR := Lib.hid hbr
        clear hbr
        by_cases hlti : l < 2 * r + 1
        · have CA : ∀ (W' : World), Below w1.heap.size w1 W' → Calls Try.prog 44 #[.agg #[.int .i64 W, .int .i64 H, .slice (some ⟨g, o, none⟩) (W * H) c], .int .i64 ((x : Int) - (r : Int) + (l : Int)), .int .i64 ((y : Int) - (r : Int) + (k : Int))] W' fun e w' => e = .returned (.bool (atB W H z ((x : Int) - (r : Int) + (l : Int)) ((y : Int) - (r : Int) + (k : Int)))) ∧ Below W'.heap.size W' w' :=
            fun W' hb' => at_any W H g o c _ _ z W' hW hH (fun j hj => cell_later (below_step HB1.out hb') (HC.out j hj))
          obtain ⟨q, hq⟩ : ∃ q, q = atB W H z ((x : Int) - (r : Int) + (l : Int)) ((y : Int) - (r : Int) + (k : Int)) := ⟨_, rfl⟩
          rw [← hq] at CA
          have HCA := Lib.hid CA
          have hR : Hid ((sv || q) = (sb || rowSome W H z ((y : Int) - (r : Int) + (k : Int)) ((x : Int) - (r : Int)) (l + 1)) ∧ (av && q) = (ab && rowAll W H z ((y : Int) - (r : Int) + (k : Int)) ((x : Int) - (r : Int)) (l + 1))) :=
            Lib.hid ⟨by rw [hv.out.1, hq, rowSome, Bool.or_assoc], by rw [hv.out.2, hq, rowAll, Bool.and_assoc]⟩
          clear CA hq hv hs
          cases sv <;> cases av <;> cases q
          all_goals
            go_wp2_with (go_at_call 44; refine (HCA.out _ HBR.out).mono ?_; rintro e w2 ⟨rfl, hb2⟩; have HB2 := Lib.hid hb2; clear hb2)
            go_roundw
            case rel => exact ⟨l + 1, _, _, by omega, by go_num, rfl, rfl, hR, below_step HBR.out HB2.out⟩
            case measure => simp [intOf]; omega
        · have hle := Lib.hid (show l = 2 * r + 1 by omega)
          go_wp2_with fail
          go_roundw
          case rel => exact ⟨k + 1, sv, av, by omega, by go_num, rfl, rfl, Lib.hid ⟨by rw [hv.out.1, hs.out.1, hle.out, sqSome], by rw [hv.out.2, hs.out.2, hle.out, sqAll]⟩, HBR.out⟩
          case measure => simp [intOf]; omega
    · have hke := Lib.hid (show k = 2 * r + 1 by omega)
      have HB := Lib.hid hb
      clear hb
      go_wp2_with fail
      go_ret2
      refine ⟨?_, below_step HB1.out HB.out⟩
      rw [hs.out.1, hs.out.2, hke.out]
      rfl


theorem spread1_any (W H g o c x y r gb rb : Nat) (z : Nat → Bool) (w : World) (hW : W ≤ 10000) (hH : H ≤ 10000) (hx : x ≤ 10000) (hy : y ≤ 10000) (hr : r ≤ 50) (hc : ∀ j, j < W * H → w.cell? ⟨g, o + j, none⟩ = some (.bool (z j)))
    (h0 : w.cell? ⟨gb, 0, none⟩ = some (.int .i64 W)) (h1 : w.cell? ⟨gb, 1, none⟩ = some (.int .i64 H)) (h2 : w.cell? ⟨gb, 2, none⟩ = some (.slice (some ⟨g, o, none⟩) (W * H) c)) (h3 : w.cell? ⟨rb, 0, none⟩ = some (.int .i64 r)) :
    Calls Try.prog 158 #[.int .i64 x, .int .i64 y, .pointer (some ⟨gb, 0, none⟩), .pointer (some ⟨rb, 0, none⟩)] w fun e w' => e = .returned (.bool (spreadB W H z r x y)) ∧ Below w.heap.size w w' := by
  have HC := Lib.hid hc
  clear hc
  go_enter Try.func158, Try.ntmps158
  go_wp2_with (go_at_call 159; refine (square_any W H g o c x y r z w hW hH hx hy hr HC.out).mono ?_; rintro e w1 ⟨rfl, hb⟩)
  go_ret
  exact ⟨rfl, hb⟩

theorem shrink1_any (W H g o c x y r gb rb : Nat) (z : Nat → Bool) (w : World) (hW : W ≤ 10000) (hH : H ≤ 10000) (hx : x ≤ 10000) (hy : y ≤ 10000) (hr : r ≤ 50) (hc : ∀ j, j < W * H → w.cell? ⟨g, o + j, none⟩ = some (.bool (z j)))
    (h0 : w.cell? ⟨gb, 0, none⟩ = some (.int .i64 W)) (h1 : w.cell? ⟨gb, 1, none⟩ = some (.int .i64 H)) (h2 : w.cell? ⟨gb, 2, none⟩ = some (.slice (some ⟨g, o, none⟩) (W * H) c)) (h3 : w.cell? ⟨rb, 0, none⟩ = some (.int .i64 r)) :
    Calls Try.prog 160 #[.int .i64 x, .int .i64 y, .pointer (some ⟨gb, 0, none⟩), .pointer (some ⟨rb, 0, none⟩)] w fun e w' => e = .returned (.bool (shrinkB W H z r x y)) ∧ Below w.heap.size w w' := by
  have HC := Lib.hid hc
  clear hc
  go_enter Try.func160, Try.ntmps160
  go_wp2_with (go_at_call 159; refine (square_any W H g o c x y r z w hW hH hx hy hr HC.out).mono ?_; rintro e w1 ⟨rfl, hb⟩)
  go_ret
  exact ⟨rfl, hb⟩

set_option maxHeartbeats 400000 in
set_option maxRecDepth 100000 in
theorem spreadR_any (W H g o c r : Nat) (z : Nat → Bool) (w : World) (hW : 1 ≤ W ∧ W ≤ 4000) (hH : 1 ≤ H ∧ H ≤ 4000) (hN : W * H ≤ 1048576) (hr : r ≤ 50) (hc : ∀ j, j < W * H → w.cell? ⟨g, o + j, none⟩ = some (.bool (z j))) :
    Calls Try.prog 98 #[.agg #[.int .i64 W, .int .i64 H, .slice (some ⟨g, o, none⟩) (W * H) c], .int .i64 r] w fun e w' =>
      ∃ g' c', e = .returned (.agg #[.int .i64 W, .int .i64 H, .slice (some ⟨g', 0, none⟩) (W * H) c']) ∧ (∀ j, j < W * H → w'.cell? ⟨g', 0 + j, none⟩ = some (.bool (spreadB W H z r (j % W) (j / W)))) ∧ Below w.heap.size w w' := by
  have hmf : ∀ (fn : Fn) (first cap : Array Value) (w : World), (Instr.makeFunc fn first cap).run Try.prog w = .ok (.func fn first cap) w := fun _ _ _ _ => rfl
  have HC := Lib.hid hc
  clear hc
  obtain ⟨hW1, hW2⟩ := hW
  obtain ⟨hH1, hH2⟩ := hH
  go_enter Try.func98, Try.ntmps98
  go_wp2_with fail
  obtain ⟨w3, hw3⟩ : ∃ w3, w3 = (((w.alloc (.cells #[.int .i64 W, .int .i64 H, .slice (some ⟨g, o, none⟩) (W * H) c] 24)).alloc (.cells #[.int .i64 r] 3)).alloc (.cells #[.int .i64 0, .int .i64 0, .slice none 0 0] 24)) := ⟨_, rfl⟩
  have B3 : Below w.heap.size w w3 := by rw [hw3]; exact below_alloc (below_alloc (new_below _ _) _) _
  have q0 : w3.cell? ⟨w.heap.size, 0, none⟩ = some (.int .i64 W) := by rw [hw3]; go_simp
  have q1 : w3.cell? ⟨w.heap.size, 1, none⟩ = some (.int .i64 H) := by rw [hw3]; go_simp
  have q2 : w3.cell? ⟨w.heap.size, 2, none⟩ = some (.slice (some ⟨g, o, none⟩) (W * H) c) := by rw [hw3]; go_simp
  have q3 : w3.cell? ⟨w.heap.size + 1, 0, none⟩ = some (.int .i64 r) := by rw [hw3]; go_simp
  have qb : w3.heap[w.heap.size + 1 + 1]? = some (.cells #[.int .i64 0, .int .i64 0, .slice none 0 0] 24 (0, 0)) := by
    rw [hw3]
    simpa using heap_alloc_new ((w.alloc (.cells #[.int .i64 W, .int .i64 H, .slice (some ⟨g, o, none⟩) (W * H) c] 24)).alloc (.cells #[.int .i64 r] 3)) (.cells #[.int .i64 0, .int .i64 0, .slice none 0 0] 24)
  rw [← hw3]
  clear hw3
  have LQ := Lib.hid (Array.getElem?_eq_some_iff.1 qb).1
  refine (made_any W H 158 _ (spreadB W H z r) w3 (by omega) (by omega) (by omega) (by omega) (Go.Proofs.enters_of Try.func158 (by kernel_rfl) rfl) ?_).mono ?_
  · intro x y wx hx hy hbx
    exact spread1_any W H g o c x y r w.heap.size (w.heap.size + 1) z wx (by omega) (by omega) (by omega) (by omega) hr (fun j hj => cell_later hbx (cell_later B3 (HC.out j hj))) (cell_later hbx q0) (cell_later hbx q1) (cell_later hbx q2) (cell_later hbx q3)
  · rintro e w5 ⟨v, rfl, hown, hb5⟩
    obtain ⟨j0, j1, j2, r0, r1, r2⟩ := block3 (below_block hb5 qb)
    obtain ⟨g', c', rfl, hg', hz⟩ := owns_pageB hown (Nat.mul_pos hW1 hH1)
    have F := Lib.hid hz
    have G := Lib.hid hb5
    have B := Lib.hid B3
    clear hown hb5 q0 q1 q2 q3 qb B3 hz
    go_wp2_with fail
    refine bodyPost_ret (v := .agg #[.int .i64 W, .int .i64 H, .slice (some ⟨g', 0, none⟩) (W * H) c']) (by simp [results, Try.results98, go_sem, j0, j1, j2]) rfl ?_
    have hl := LQ.out
    exact ⟨g', c', rfl, fun j hj => cell_far3 (by simp; omega) (F.out j hj), below_far3 (below_step B.out G.out) (by omega)⟩

set_option maxHeartbeats 400000 in
set_option maxRecDepth 100000 in
theorem shrinkR_any (W H g o c r : Nat) (z : Nat → Bool) (w : World) (hW : 1 ≤ W ∧ W ≤ 4000) (hH : 1 ≤ H ∧ H ≤ 4000) (hN : W * H ≤ 1048576) (hr : r ≤ 50) (hc : ∀ j, j < W * H → w.cell? ⟨g, o + j, none⟩ = some (.bool (z j))) :
    Calls Try.prog 99 #[.agg #[.int .i64 W, .int .i64 H, .slice (some ⟨g, o, none⟩) (W * H) c], .int .i64 r] w fun e w' =>
      ∃ g' c', e = .returned (.agg #[.int .i64 W, .int .i64 H, .slice (some ⟨g', 0, none⟩) (W * H) c']) ∧ (∀ j, j < W * H → w'.cell? ⟨g', 0 + j, none⟩ = some (.bool (shrinkB W H z r (j % W) (j / W)))) ∧ Below w.heap.size w w' := by
  have hmf : ∀ (fn : Fn) (first cap : Array Value) (w : World), (Instr.makeFunc fn first cap).run Try.prog w = .ok (.func fn first cap) w := fun _ _ _ _ => rfl
  have HC := Lib.hid hc
  clear hc
  obtain ⟨hW1, hW2⟩ := hW
  obtain ⟨hH1, hH2⟩ := hH
  go_enter Try.func99, Try.ntmps99
  go_wp2_with fail
  obtain ⟨w3, hw3⟩ : ∃ w3, w3 = (((w.alloc (.cells #[.int .i64 W, .int .i64 H, .slice (some ⟨g, o, none⟩) (W * H) c] 24)).alloc (.cells #[.int .i64 r] 3)).alloc (.cells #[.int .i64 0, .int .i64 0, .slice none 0 0] 24)) := ⟨_, rfl⟩
  have B3 : Below w.heap.size w w3 := by rw [hw3]; exact below_alloc (below_alloc (new_below _ _) _) _
  have q0 : w3.cell? ⟨w.heap.size, 0, none⟩ = some (.int .i64 W) := by rw [hw3]; go_simp
  have q1 : w3.cell? ⟨w.heap.size, 1, none⟩ = some (.int .i64 H) := by rw [hw3]; go_simp
  have q2 : w3.cell? ⟨w.heap.size, 2, none⟩ = some (.slice (some ⟨g, o, none⟩) (W * H) c) := by rw [hw3]; go_simp
  have q3 : w3.cell? ⟨w.heap.size + 1, 0, none⟩ = some (.int .i64 r) := by rw [hw3]; go_simp
  have qb : w3.heap[w.heap.size + 1 + 1]? = some (.cells #[.int .i64 0, .int .i64 0, .slice none 0 0] 24 (0, 0)) := by
    rw [hw3]
    simpa using heap_alloc_new ((w.alloc (.cells #[.int .i64 W, .int .i64 H, .slice (some ⟨g, o, none⟩) (W * H) c] 24)).alloc (.cells #[.int .i64 r] 3)) (.cells #[.int .i64 0, .int .i64 0, .slice none 0 0] 24)
  rw [← hw3]
  clear hw3
  have LQ := Lib.hid (Array.getElem?_eq_some_iff.1 qb).1
  refine (made_any W H 160 _ (shrinkB W H z r) w3 (by omega) (by omega) (by omega) (by omega) (Go.Proofs.enters_of Try.func160 (by kernel_rfl) rfl) ?_).mono ?_
  · intro x y wx hx hy hbx
    exact shrink1_any W H g o c x y r w.heap.size (w.heap.size + 1) z wx (by omega) (by omega) (by omega) (by omega) hr (fun j hj => cell_later hbx (cell_later B3 (HC.out j hj))) (cell_later hbx q0) (cell_later hbx q1) (cell_later hbx q2) (cell_later hbx q3)
  · rintro e w5 ⟨v, rfl, hown, hb5⟩
    obtain ⟨j0, j1, j2, r0, r1, r2⟩ := block3 (below_block hb5 qb)
    obtain ⟨g', c', rfl, hg', hz⟩ := owns_pageB hown (Nat.mul_pos hW1 hH1)
    have F := Lib.hid hz
    have G := Lib.hid hb5
    have B := Lib.hid B3
    clear hown hb5 q0 q1 q2 q3 qb B3 hz
    go_wp2_with fail
    refine bodyPost_ret (v := .agg #[.int .i64 W, .int .i64 H, .slice (some ⟨g', 0, none⟩) (W * H) c']) (by simp [results, Try.results99, go_sem, j0, j1, j2]) rfl ?_
    have hl := LQ.out
    exact ⟨g', c', rfl, fun j hj => cell_far3 (by simp; omega) (F.out j hj), below_far3 (below_step B.out G.out) (by omega)⟩

end Go.Proofs.Ytejhmobpepllcaa
