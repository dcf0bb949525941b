/-
  InkSpreads returns true for every page in black and white and every radius, and each argument reads afterwards as it read before. No conditions.
-/
import Derived.Test.YtlpdgnhlhopmjaaRows
import Derived.WalkKit
import Derived.WalkSpells
import Derived.WalkLawsBesides
import Derived.Lib.Hide
import Derived.Deep.RegionHeld3
import Derived.Shelf.Abstract
import Derived.Lib.MinMax
import Derived.Deep.QuietTactic
import Derived.BigQuiet
import Derived.Deep.CutRange
import Derived.Deep.DeepCutAuto
import Derived.Laws.EntriesVeiled
import Derived.StillTailTactics
import Derived.Deep.AppendLies
import Derived.Deep.DrawnRows
import Derived.Deep.RegionLaw
import Derived.ProofKit
import Derived.OpenShut
import Derived.ShutString
import Derived.ChangeOld
import Derived.Lib.SmallJoins
import Derived.Deep.Grids
import Derived.RegionTactic
import Derived.ChangeAlike
import Derived.BigRegion
import Derived.Test.YtlpdgnhlhopmjaaCInk2
namespace Go.Proofs.Ytlpdgnhlhopmjaa
open Go.RowKit
set_option linter.unusedSimpArgs false
set_option linter.unusedVariables false

theorem at_any (W H g o c : Nat) (x y : Int) (z : Nat → Bool) (w : World) (hW : W ≤ 10000) (hH : H ≤ 10000) (hc : ∀ j, j < W * H → w.cell? ⟨g, o + j, none⟩ = some (.bool (z j))) :
    Calls Try.prog 59 #[.agg #[.int .i64 W, .int .i64 H, .slice (some ⟨g, o, none⟩) (W * H) c], .int .i64 x, .int .i64 y] w fun e w' => e = .returned (.bool (atB W H z x y)) ∧ Below w.heap.size w w' := by
  by_cases h : (0 ≤ x ∧ x ≤ (W : Int) - 1) ∧ (0 ≤ y ∧ y ≤ (H : Int) - 1)
  · obtain ⟨X, rfl⟩ := Int.eq_ofNat_of_zero_le h.1.1
    obtain ⟨Y, rfl⟩ := Int.eq_ofNat_of_zero_le h.2.1
    have hx : X < W := by omega
    have hy : Y < H := by omega
    have hfit := row_fits hy (show X + 1 ≤ W by omega)
    refine (at_in W H g o c X Y (z (Y * W + X)) w hW hH hx hy (hc _ (by omega))).mono ?_
    rintro e w1 ⟨rfl, hb⟩
    exact ⟨by rw [atB_nat W H z X Y hx hy], hb⟩
  · refine (at_out W H g o (W * H) c x y (some ⟨g, o, none⟩) w hW hH h).mono ?_
    rintro e w1 ⟨rfl, hb⟩
    exact ⟨by unfold atB; rw [if_neg h], hb⟩

set_option maxHeartbeats 1000000 in
set_option maxRecDepth 100000 in
theorem square_any (W H g o c x y r : Nat) (z : Nat → Bool) (w : World) (hW : W ≤ 10000) (hH : H ≤ 10000) (hx : x ≤ 10000) (hy : y ≤ 10000) (hr : r ≤ 50) (hc : ∀ j, j < W * H → w.cell? ⟨g, o + j, none⟩ = some (.bool (z j))) :
    Calls Try.prog 47 #[.agg #[.int .i64 W, .int .i64 H, .slice (some ⟨g, o, none⟩) (W * H) c], .int .i64 x, .int .i64 y, .int .i64 r] w fun e w' => e = .returned (.tuple #[.bool (spreadB W H z r x y), .bool (shrinkB W H z r x y)]) ∧ Below w.heap.size w w' := by
  have HC := Lib.hid hc
  clear hc
  go_enter Try.func47, Try.ntmps47
  go_wp2_with fail
  obtain ⟨w1, hw1⟩ : ∃ w1, w1 = w.alloc (.cells #[.int .i64 W, .int .i64 H, .slice (some ⟨g, o, none⟩) (W * H) c] 40) := ⟨_, rfl⟩
  have B1 : Below w.heap.size w w1 := by rw [hw1]; exact new_below _ _
  obtain ⟨k0, k1, k2, _, _, _⟩ := block3 (w := w1) (b := w.heap.size) (x := .int .i64 W) (y := .int .i64 H) (z := .slice (some ⟨g, o, none⟩) (W * H) c) (t := 40) (by rw [hw1]; exact heap_alloc_new _ _)
  rw [← hw1]
  clear hw1
  have HB1 := Lib.hid B1
  clear B1
  go_loopw [8, 9, 10] (fun s a j wr => ∃ (k : Nat) (sb ab : Bool), k ≤ 2 * r + 1 ∧ j = .int .i64 ((y : Int) - (r : Int) + (k : Int)) ∧ s = .bool sb ∧ a = .bool ab ∧ Hid (sb = sqSome W H z ((y : Int) - (r : Int)) ((x : Int) - (r : Int)) (2 * r + 1) k ∧ ab = sqAll W H z ((y : Int) - (r : Int)) ((x : Int) - (r : Int)) (2 * r + 1) k) ∧ Below w1.heap.size w1 wr) (fun _ _ j _ => ((y : Int) + (r : Int) + 1 - intOf j).toNat)
  case atStart => exact ⟨0, false, true, by omega, by go_num, rfl, rfl, Lib.hid ⟨rfl, rfl⟩, Below.refl _ _⟩
  case round =>
    obtain ⟨k, sb, ab, hk, rfl, rfl, rfl, hs, hb⟩ := hrel
    have c0 := cell_later hb k0
    have c1 := cell_later hb k1
    have c2 := cell_later hb k2
    by_cases hlt : k < 2 * r + 1
    · obtain ⟨wo, rfl⟩ : ∃ wo : World, wo = wr := ⟨_, rfl⟩
      have HB := Lib.hid hb
      have hd : decide ((y : Int) - (r : Int) + (k : Int) ≤ (y : Int) + (r : Int)) = true := decide_eq_true (by omega)
      clear hb c0 c1 c2
      go_wp2_with fail
      go_loopw [8, 9, 11] (fun s a i wr => ∃ (l : Nat) (sv av : Bool), l ≤ 2 * r + 1 ∧ i = .int .i64 ((x : Int) - (r : Int) + (l : Int)) ∧ s = .bool sv ∧ a = .bool av ∧ Hid (sv = (sb || rowSome W H z ((y : Int) - (r : Int) + (k : Int)) ((x : Int) - (r : Int)) l) ∧ av = (ab && rowAll W H z ((y : Int) - (r : Int) + (k : Int)) ((x : Int) - (r : Int)) l)) ∧ Below w1.heap.size w1 wr) (fun _ _ i _ => ((x : Int) + (r : Int) + 1 - intOf i).toNat)
      case atStart => exact ⟨0, sb, ab, by omega, by go_num, rfl, rfl, Lib.hid ⟨by simp [rowSome], by simp [rowAll]⟩, HB.out⟩
      case round =>
        obtain ⟨l, sv, av, hl, rfl, rfl, rfl, hv, hbr⟩ := hrel
        have c0 := cell_later hbr k0
        have c1 := cell_later hbr k1
        have c2 := cell_later hbr k2
        have HBR := Lib.hid hbr
        clear hbr
        by_cases hlti : l < 2 * r + 1
        · have CA : ∀ (W' : World), Below w1.heap.size w1 W' → Calls Try.prog 59 #[.agg #[.int .i64 W, .int .i64 H, .slice (some ⟨g, o, none⟩) (W * H) c], .int .i64 ((x : Int) - (r : Int) + (l : Int)), .int .i64 ((y : Int) - (r : Int) + (k : Int))] W' fun e w' => e = .returned (.bool (atB W H z ((x : Int) - (r : Int) + (l : Int)) ((y : Int) - (r : Int) + (k : Int)))) ∧ Below W'.heap.size W' w' :=
            fun W' hb' => at_any W H g o c _ _ z W' hW hH (fun j hj => cell_later (below_step HB1.out hb') (HC.out j hj))
          obtain ⟨q, hq⟩ : ∃ q, q = atB W H z ((x : Int) - (r : Int) + (l : Int)) ((y : Int) - (r : Int) + (k : Int)) := ⟨_, rfl⟩
          rw [← hq] at CA
          have HCA := Lib.hid CA
          have hR : Hid ((sv || q) = (sb || rowSome W H z ((y : Int) - (r : Int) + (k : Int)) ((x : Int) - (r : Int)) (l + 1)) ∧ (av && q) = (ab && rowAll W H z ((y : Int) - (r : Int) + (k : Int)) ((x : Int) - (r : Int)) (l + 1))) :=
            Lib.hid ⟨by rw [hv.out.1, hq, rowSome, Bool.or_assoc], by rw [hv.out.2, hq, rowAll, Bool.and_assoc]⟩
          clear CA hq hv hs
          cases sv <;> cases av <;> cases q
          all_goals
            go_wp2_with (go_at_call 59; refine (HCA.out _ HBR.out).mono ?_; rintro e w2 ⟨rfl, hb2⟩; have HB2 := Lib.hid hb2; clear hb2)
            go_roundw
            case rel => exact ⟨l + 1, _, _, by omega, by go_num, rfl, rfl, hR, below_step HBR.out HB2.out⟩
            case measure => simp [intOf]; omega
        · have hle := Lib.hid (show l = 2 * r + 1 by omega)
          go_wp2_with fail
          go_roundw
          case rel => exact ⟨k + 1, sv, av, by omega, by go_num, rfl, rfl, Lib.hid ⟨by rw [hv.out.1, hs.out.1, hle.out, sqSome], by rw [hv.out.2, hs.out.2, hle.out, sqAll]⟩, HBR.out⟩
          case measure => simp [intOf]; omega
    · have hke := Lib.hid (show k = 2 * r + 1 by omega)
      have HB := Lib.hid hb
      clear hb
      go_wp2_with fail
      go_ret2
      refine ⟨?_, below_step HB1.out HB.out⟩
      rw [hs.out.1, hs.out.2, hke.out]
      rfl

theorem spread1_any (W H g o c x y r gb rb : Nat) (z : Nat → Bool) (w : World) (hW : W ≤ 10000) (hH : H ≤ 10000) (hx : x ≤ 10000) (hy : y ≤ 10000) (hr : r ≤ 50) (hc : ∀ j, j < W * H → w.cell? ⟨g, o + j, none⟩ = some (.bool (z j)))
    (h0 : w.cell? ⟨gb, 0, none⟩ = some (.int .i64 W)) (h1 : w.cell? ⟨gb, 1, none⟩ = some (.int .i64 H)) (h2 : w.cell? ⟨gb, 2, none⟩ = some (.slice (some ⟨g, o, none⟩) (W * H) c)) (h3 : w.cell? ⟨rb, 0, none⟩ = some (.int .i64 r)) :
    Calls Try.prog 46 #[.int .i64 x, .int .i64 y, .pointer (some ⟨gb, 0, none⟩), .pointer (some ⟨rb, 0, none⟩)] w fun e w' => e = .returned (.bool (spreadB W H z r x y)) ∧ Below w.heap.size w w' := by
  have HC := Lib.hid hc
  clear hc
  go_enter Try.func46, Try.ntmps46
  go_wp2_with (go_at_call 47; refine (square_any W H g o c x y r z w hW hH hx hy hr HC.out).mono ?_; rintro e w1 ⟨rfl, hb⟩)
  go_ret
  exact ⟨rfl, hb⟩

theorem shrink1_any (W H g o c x y r gb rb : Nat) (z : Nat → Bool) (w : World) (hW : W ≤ 10000) (hH : H ≤ 10000) (hx : x ≤ 10000) (hy : y ≤ 10000) (hr : r ≤ 50) (hc : ∀ j, j < W * H → w.cell? ⟨g, o + j, none⟩ = some (.bool (z j)))
    (h0 : w.cell? ⟨gb, 0, none⟩ = some (.int .i64 W)) (h1 : w.cell? ⟨gb, 1, none⟩ = some (.int .i64 H)) (h2 : w.cell? ⟨gb, 2, none⟩ = some (.slice (some ⟨g, o, none⟩) (W * H) c)) (h3 : w.cell? ⟨rb, 0, none⟩ = some (.int .i64 r)) :
    Calls Try.prog 48 #[.int .i64 x, .int .i64 y, .pointer (some ⟨gb, 0, none⟩), .pointer (some ⟨rb, 0, none⟩)] w fun e w' => e = .returned (.bool (shrinkB W H z r x y)) ∧ Below w.heap.size w w' := by
  have HC := Lib.hid hc
  clear hc
  go_enter Try.func48, Try.ntmps48
  go_wp2_with (go_at_call 47; refine (square_any W H g o c x y r z w hW hH hx hy hr HC.out).mono ?_; rintro e w1 ⟨rfl, hb⟩)
  go_ret
  exact ⟨rfl, hb⟩

set_option maxHeartbeats 400000 in
set_option maxRecDepth 100000 in
theorem spreadR_any (W H g o c r : Nat) (z : Nat → Bool) (w : World) (hW : 1 ≤ W ∧ W ≤ 4000) (hH : 1 ≤ H ∧ H ≤ 4000) (hN : W * H ≤ 1048576) (hr : r ≤ 50) (hc : ∀ j, j < W * H → w.cell? ⟨g, o + j, none⟩ = some (.bool (z j))) :
    Calls Try.prog 22 #[.agg #[.int .i64 W, .int .i64 H, .slice (some ⟨g, o, none⟩) (W * H) c], .int .i64 r] w fun e w' =>
      ∃ g' c', e = .returned (.agg #[.int .i64 W, .int .i64 H, .slice (some ⟨g', 0, none⟩) (W * H) c']) ∧ (∀ j, j < W * H → w'.cell? ⟨g', 0 + j, none⟩ = some (.bool (spreadB W H z r (j % W) (j / W)))) ∧ Below w.heap.size w w' := by
  have hmf : ∀ (fn : Fn) (first cap : Array Value) (w : World), (Instr.makeFunc fn first cap).run Try.prog w = .ok (.func fn first cap) w := fun _ _ _ _ => rfl
  have HC := Lib.hid hc
  clear hc
  obtain ⟨hW1, hW2⟩ := hW
  obtain ⟨hH1, hH2⟩ := hH
  go_enter Try.func22, Try.ntmps22
  go_wp2_with fail
  obtain ⟨w3, hw3⟩ : ∃ w3, w3 = (((w.alloc (.cells #[.int .i64 W, .int .i64 H, .slice (some ⟨g, o, none⟩) (W * H) c] 40)).alloc (.cells #[.int .i64 r] 3)).alloc (.cells #[.int .i64 0, .int .i64 0, .slice none 0 0] 40)) := ⟨_, rfl⟩
  have B3 : Below w.heap.size w w3 := by rw [hw3]; exact below_alloc (below_alloc (new_below _ _) _) _
  have q0 : w3.cell? ⟨w.heap.size, 0, none⟩ = some (.int .i64 W) := by rw [hw3]; go_simp
  have q1 : w3.cell? ⟨w.heap.size, 1, none⟩ = some (.int .i64 H) := by rw [hw3]; go_simp
  have q2 : w3.cell? ⟨w.heap.size, 2, none⟩ = some (.slice (some ⟨g, o, none⟩) (W * H) c) := by rw [hw3]; go_simp
  have q3 : w3.cell? ⟨w.heap.size + 1, 0, none⟩ = some (.int .i64 r) := by rw [hw3]; go_simp
  have qb : w3.heap[w.heap.size + 1 + 1]? = some (.cells #[.int .i64 0, .int .i64 0, .slice none 0 0] 40 (0, 0)) := by
    rw [hw3]
    simpa using heap_alloc_new ((w.alloc (.cells #[.int .i64 W, .int .i64 H, .slice (some ⟨g, o, none⟩) (W * H) c] 40)).alloc (.cells #[.int .i64 r] 3)) (.cells #[.int .i64 0, .int .i64 0, .slice none 0 0] 40)
  rw [← hw3]
  clear hw3
  have LQ := Lib.hid (Array.getElem?_eq_some_iff.1 qb).1
  refine (made_any W H 46 _ (spreadB W H z r) w3 (by omega) (by omega) (by omega) (by omega) (Go.Proofs.enters_of Try.func46 (by kernel_rfl) rfl) ?_).mono ?_
  · intro x y wx hx hy hbx
    exact spread1_any W H g o c x y r w.heap.size (w.heap.size + 1) z wx (by omega) (by omega) (by omega) (by omega) hr (fun j hj => cell_later hbx (cell_later B3 (HC.out j hj))) (cell_later hbx q0) (cell_later hbx q1) (cell_later hbx q2) (cell_later hbx q3)
  · rintro e w5 ⟨v, rfl, hown, hb5⟩
    obtain ⟨j0, j1, j2, r0, r1, r2⟩ := block3 (below_block hb5 qb)
    obtain ⟨g', c', rfl, hg', hz⟩ := owns_pageB hown (Nat.mul_pos hW1 hH1)
    have F := Lib.hid hz
    have G := Lib.hid hb5
    have B := Lib.hid B3
    clear hown hb5 q0 q1 q2 q3 qb B3 hz
    go_wp2_with fail
    refine bodyPost_ret (v := .agg #[.int .i64 W, .int .i64 H, .slice (some ⟨g', 0, none⟩) (W * H) c']) (by simp [results, Try.results22, go_sem, j0, j1, j2]) rfl ?_
    have hl := LQ.out
    exact ⟨g', c', rfl, fun j hj => cell_far3 (by simp; omega) (F.out j hj), below_far3 (below_step B.out G.out) (by omega)⟩

set_option maxHeartbeats 400000 in
set_option maxRecDepth 100000 in
theorem shrinkR_any (W H g o c r : Nat) (z : Nat → Bool) (w : World) (hW : 1 ≤ W ∧ W ≤ 4000) (hH : 1 ≤ H ∧ H ≤ 4000) (hN : W * H ≤ 1048576) (hr : r ≤ 50) (hc : ∀ j, j < W * H → w.cell? ⟨g, o + j, none⟩ = some (.bool (z j))) :
    Calls Try.prog 23 #[.agg #[.int .i64 W, .int .i64 H, .slice (some ⟨g, o, none⟩) (W * H) c], .int .i64 r] w fun e w' =>
      ∃ g' c', e = .returned (.agg #[.int .i64 W, .int .i64 H, .slice (some ⟨g', 0, none⟩) (W * H) c']) ∧ (∀ j, j < W * H → w'.cell? ⟨g', 0 + j, none⟩ = some (.bool (shrinkB W H z r (j % W) (j / W)))) ∧ Below w.heap.size w w' := by
  have hmf : ∀ (fn : Fn) (first cap : Array Value) (w : World), (Instr.makeFunc fn first cap).run Try.prog w = .ok (.func fn first cap) w := fun _ _ _ _ => rfl
  have HC := Lib.hid hc
  clear hc
  obtain ⟨hW1, hW2⟩ := hW
  obtain ⟨hH1, hH2⟩ := hH
  go_enter Try.func23, Try.ntmps23
  go_wp2_with fail
  obtain ⟨w3, hw3⟩ : ∃ w3, w3 = (((w.alloc (.cells #[.int .i64 W, .int .i64 H, .slice (some ⟨g, o, none⟩) (W * H) c] 40)).alloc (.cells #[.int .i64 r] 3)).alloc (.cells #[.int .i64 0, .int .i64 0, .slice none 0 0] 40)) := ⟨_, rfl⟩
  have B3 : Below w.heap.size w w3 := by rw [hw3]; exact below_alloc (below_alloc (new_below _ _) _) _
  have q0 : w3.cell? ⟨w.heap.size, 0, none⟩ = some (.int .i64 W) := by rw [hw3]; go_simp
  have q1 : w3.cell? ⟨w.heap.size, 1, none⟩ = some (.int .i64 H) := by rw [hw3]; go_simp
  have q2 : w3.cell? ⟨w.heap.size, 2, none⟩ = some (.slice (some ⟨g, o, none⟩) (W * H) c) := by rw [hw3]; go_simp
  have q3 : w3.cell? ⟨w.heap.size + 1, 0, none⟩ = some (.int .i64 r) := by rw [hw3]; go_simp
  have qb : w3.heap[w.heap.size + 1 + 1]? = some (.cells #[.int .i64 0, .int .i64 0, .slice none 0 0] 40 (0, 0)) := by
    rw [hw3]
    simpa using heap_alloc_new ((w.alloc (.cells #[.int .i64 W, .int .i64 H, .slice (some ⟨g, o, none⟩) (W * H) c] 40)).alloc (.cells #[.int .i64 r] 3)) (.cells #[.int .i64 0, .int .i64 0, .slice none 0 0] 40)
  rw [← hw3]
  clear hw3
  have LQ := Lib.hid (Array.getElem?_eq_some_iff.1 qb).1
  refine (made_any W H 48 _ (shrinkB W H z r) w3 (by omega) (by omega) (by omega) (by omega) (Go.Proofs.enters_of Try.func48 (by kernel_rfl) rfl) ?_).mono ?_
  · intro x y wx hx hy hbx
    exact shrink1_any W H g o c x y r w.heap.size (w.heap.size + 1) z wx (by omega) (by omega) (by omega) (by omega) hr (fun j hj => cell_later hbx (cell_later B3 (HC.out j hj))) (cell_later hbx q0) (cell_later hbx q1) (cell_later hbx q2) (cell_later hbx q3)
  · rintro e w5 ⟨v, rfl, hown, hb5⟩
    obtain ⟨j0, j1, j2, r0, r1, r2⟩ := block3 (below_block hb5 qb)
    obtain ⟨g', c', rfl, hg', hz⟩ := owns_pageB hown (Nat.mul_pos hW1 hH1)
    have F := Lib.hid hz
    have G := Lib.hid hb5
    have B := Lib.hid B3
    clear hown hb5 q0 q1 q2 q3 qb B3 hz
    go_wp2_with fail
    refine bodyPost_ret (v := .agg #[.int .i64 W, .int .i64 H, .slice (some ⟨g', 0, none⟩) (W * H) c']) (by simp [results, Try.results23, go_sem, j0, j1, j2]) rfl ?_
    have hl := LQ.out
    exact ⟨g', c', rfl, fun j hj => cell_far3 (by simp; omega) (F.out j hj), below_far3 (below_step B.out G.out) (by omega)⟩

end Go.Proofs.Ytlpdgnhlhopmjaa
namespace Go.Proofs.Ytlpdgnhlhopmjaa
open Go.RowKit
set_option linter.unusedSimpArgs false
set_option linter.unusedVariables false
attribute [local go_sem ↓] Go.wp_at_zero Go.wp_at_succ

theorem spread_badRadius (a b r : Int) (p : Option Addr) (n c : Nat) (w : World) (h : pageErr a b n = 0) (hr : ¬ (0 ≤ r ∧ r ≤ 50)) :
    Calls Try.prog 20 #[.agg #[.int .i64 a, .int .i64 b, .slice p n c], .int .i64 r] w fun e w' => e = .returned (.tuple #[.agg #[.int .i64 0, .int .i64 0, .slice none 0 0], .int .i64 3]) ∧ Below w.heap.size w w' := by
  have HR := Lib.hid hr
  have HP := Lib.hid h
  clear hr h
  go_enter Try.func20, Try.ntmps20
  go_wp2_with fail
  obtain ⟨w1, hw1⟩ : ∃ w1, w1 = ((w.alloc (.cells #[.int .i64 a, .int .i64 b, .slice p n c] 40)).alloc (.cells #[.int .i64 0, .int .i64 0, .slice none 0 0] 40)) := ⟨_, rfl⟩
  have B1 : Below w.heap.size w w1 := by rw [hw1]; exact below_alloc (new_below _ _) _
  have qb : w1.heap[w.heap.size + 1]? = some (.cells #[.int .i64 0, .int .i64 0, .slice none 0 0] 40 (0, 0)) := by
    rw [hw1]
    simpa using heap_alloc_new (w.alloc (.cells #[.int .i64 a, .int .i64 b, .slice p n c] 40)) (.cells #[.int .i64 0, .int .i64 0, .slice none 0 0] 40)
  rw [← hw1]
  clear hw1
  refine (byInk_badRadius a b r _ p n c w1 HP.out HR.out).mono ?_
  rintro e w2 ⟨rfl, hb⟩
  obtain ⟨j0, j1, j2, r0, r1, r2⟩ := block3 (below_block hb qb)
  have hl := (Array.getElem?_eq_some_iff.1 (below_block hb qb)).1
  have G := Lib.hid hb
  have B := Lib.hid B1
  clear hb qb B1
  go_wp2_with fail
  refine bodyPost_ret (v := .tuple #[.agg #[.int .i64 0, .int .i64 0, .slice none 0 0], .int .i64 3]) (by simp [results, Try.results20, go_sem, j0, j1, j2]) rfl ⟨rfl, below_far3 (below_step B.out G.out) (by omega)⟩

theorem shrink_badRadius (a b r : Int) (p : Option Addr) (n c : Nat) (w : World) (h : pageErr a b n = 0) (hr : ¬ (0 ≤ r ∧ r ≤ 50)) :
    Calls Try.prog 21 #[.agg #[.int .i64 a, .int .i64 b, .slice p n c], .int .i64 r] w fun e w' => e = .returned (.tuple #[.agg #[.int .i64 0, .int .i64 0, .slice none 0 0], .int .i64 3]) ∧ Below w.heap.size w w' := by
  have HR := Lib.hid hr
  have HP := Lib.hid h
  clear hr h
  go_enter Try.func21, Try.ntmps21
  go_wp2_with fail
  obtain ⟨w1, hw1⟩ : ∃ w1, w1 = ((w.alloc (.cells #[.int .i64 a, .int .i64 b, .slice p n c] 40)).alloc (.cells #[.int .i64 0, .int .i64 0, .slice none 0 0] 40)) := ⟨_, rfl⟩
  have B1 : Below w.heap.size w w1 := by rw [hw1]; exact below_alloc (new_below _ _) _
  have qb : w1.heap[w.heap.size + 1]? = some (.cells #[.int .i64 0, .int .i64 0, .slice none 0 0] 40 (0, 0)) := by
    rw [hw1]
    simpa using heap_alloc_new (w.alloc (.cells #[.int .i64 a, .int .i64 b, .slice p n c] 40)) (.cells #[.int .i64 0, .int .i64 0, .slice none 0 0] 40)
  rw [← hw1]
  clear hw1
  refine (byInk_badRadius a b r _ p n c w1 HP.out HR.out).mono ?_
  rintro e w2 ⟨rfl, hb⟩
  obtain ⟨j0, j1, j2, r0, r1, r2⟩ := block3 (below_block hb qb)
  have hl := (Array.getElem?_eq_some_iff.1 (below_block hb qb)).1
  have G := Lib.hid hb
  have B := Lib.hid B1
  clear hb qb B1
  go_wp2_with fail
  refine bodyPost_ret (v := .tuple #[.agg #[.int .i64 0, .int .i64 0, .slice none 0 0], .int .i64 3]) (by simp [results, Try.results21, go_sem, j0, j1, j2]) rfl ⟨rfl, below_far3 (below_step B.out G.out) (by omega)⟩

theorem places_cell {W H j : Nat} (hW : 1 ≤ W) (hj : j < W * H) : j % W < W ∧ j / W < H :=
  ⟨Nat.mod_lt _ hW, Nat.div_lt_of_lt_mul hj⟩

set_option maxHeartbeats 400000 in
set_option maxRecDepth 100000 in
theorem spread_ok (W H g o c r : Nat) (z : Nat → Bool) (w : World) (he : sizeErr W H = 0) (hr : r ≤ 50) (hc : ∀ j, j < W * H → w.cell? ⟨g, o + j, none⟩ = some (.bool (z j))) :
    Calls Try.prog 20 #[.agg #[.int .i64 W, .int .i64 H, .slice (some ⟨g, o, none⟩) (W * H) c], .int .i64 r] w fun e w' =>
      ∃ g' c', e = .returned (.tuple #[.agg #[.int .i64 W, .int .i64 H, .slice (some ⟨g', 0, none⟩) (W * H) c'], .int .i64 0]) ∧ (∀ j, j < W * H → w'.cell? ⟨g', 0 + j, none⟩ = some (.bool (spreadB W H z r (j % W) (j / W)))) ∧ Below w.heap.size w w' := by
  obtain ⟨⟨a1, a2, a3, a4⟩, a5, a6⟩ := sizeErr_zero he
  have HE := Lib.hid he
  have HC := Lib.hid hc
  clear hc he a5 a6
  go_enter Try.func20, Try.ntmps20
  go_wp2_with fail
  obtain ⟨w1, hw1⟩ : ∃ w1, w1 = ((w.alloc (.cells #[.int .i64 W, .int .i64 H, .slice (some ⟨g, o, none⟩) (W * H) c] 40)).alloc (.cells #[.int .i64 0, .int .i64 0, .slice none 0 0] 40)) := ⟨_, rfl⟩
  have B1 : Below w.heap.size w w1 := by rw [hw1]; exact below_alloc (new_below _ _) _
  have qb : w1.heap[w.heap.size + 1]? = some (.cells #[.int .i64 0, .int .i64 0, .slice none 0 0] 40 (0, 0)) := by
    rw [hw1]
    simpa using heap_alloc_new (w.alloc (.cells #[.int .i64 W, .int .i64 H, .slice (some ⟨g, o, none⟩) (W * H) c] 40)) (.cells #[.int .i64 0, .int .i64 0, .slice none 0 0] 40)
  rw [← hw1]
  clear hw1
  refine (byInk_ok W H g o c r 1 z w1 HE.out hr (fun j hj => cell_later B1 (HC.out j hj))).mono ?_
  rintro e w2 ⟨v, rfl, hown, hb⟩
  obtain ⟨j0, j1, j2, r0, r1, r2⟩ := block3 (below_block hb qb)
  have hl := (Array.getElem?_eq_some_iff.1 qb).1
  obtain ⟨g', c', rfl, hg', hz⟩ := owns_pageB hown (Nat.mul_pos (by omega) (by omega))
  have F := Lib.hid hz
  have G := Lib.hid hb
  have B := Lib.hid B1
  have L := Lib.hid hl
  clear hb qb B1 hown hz hl
  go_wp2_with fail
  refine bodyPost_ret (v := .tuple #[.agg #[.int .i64 W, .int .i64 H, .slice (some ⟨g', 0, none⟩) (W * H) c'], .int .i64 0]) (by simp [results, Try.results20, go_sem, j0, j1, j2]) rfl ?_
  have hl := L.out
  refine ⟨g', c', rfl, fun j hj => ?_, below_far3 (below_step B.out G.out) (by omega)⟩
  obtain ⟨p1, p2⟩ := places_cell (show 1 ≤ W by omega) hj
  rw [← spread_sum W H z r _ _ p1 p2]
  exact cell_far3 (by simp; omega) (F.out j hj)

set_option maxHeartbeats 400000 in
set_option maxRecDepth 100000 in
theorem shrink_ok (W H g o c r : Nat) (z : Nat → Bool) (w : World) (he : sizeErr W H = 0) (hr : r ≤ 50) (hc : ∀ j, j < W * H → w.cell? ⟨g, o + j, none⟩ = some (.bool (z j))) :
    Calls Try.prog 21 #[.agg #[.int .i64 W, .int .i64 H, .slice (some ⟨g, o, none⟩) (W * H) c], .int .i64 r] w fun e w' =>
      ∃ g' c', e = .returned (.tuple #[.agg #[.int .i64 W, .int .i64 H, .slice (some ⟨g', 0, none⟩) (W * H) c'], .int .i64 0]) ∧ (∀ j, j < W * H → w'.cell? ⟨g', 0 + j, none⟩ = some (.bool (shrinkB W H z r (j % W) (j / W)))) ∧ Below w.heap.size w w' := by
  obtain ⟨⟨a1, a2, a3, a4⟩, a5, a6⟩ := sizeErr_zero he
  have HE := Lib.hid he
  have HC := Lib.hid hc
  have hm := Nat.mul_le_mul (show 2 * r + 1 ≤ 101 by omega) (show 2 * r + 1 ≤ 101 by omega)
  have e1 : (0 : Int) ≤ (2 * (r : Int) + 1) * (2 * (r : Int) + 1) := Int.mul_nonneg (by omega) (by omega)
  have e2 : (2 * (r : Int) + 1) * (2 * (r : Int) + 1) ≤ 10201 := by
    have : (2 * (r : Int) + 1) * (2 * (r : Int) + 1) = (((2 * r + 1) * (2 * r + 1) : Nat) : Int) := by simp [Int.natCast_mul]
    omega
  clear hc he a5 a6 hm
  go_enter Try.func21, Try.ntmps21
  go_wp2_with fail
  obtain ⟨w1, hw1⟩ : ∃ w1, w1 = ((w.alloc (.cells #[.int .i64 W, .int .i64 H, .slice (some ⟨g, o, none⟩) (W * H) c] 40)).alloc (.cells #[.int .i64 0, .int .i64 0, .slice none 0 0] 40)) := ⟨_, rfl⟩
  have B1 : Below w.heap.size w w1 := by rw [hw1]; exact below_alloc (new_below _ _) _
  have qb : w1.heap[w.heap.size + 1]? = some (.cells #[.int .i64 0, .int .i64 0, .slice none 0 0] 40 (0, 0)) := by
    rw [hw1]
    simpa using heap_alloc_new (w.alloc (.cells #[.int .i64 W, .int .i64 H, .slice (some ⟨g, o, none⟩) (W * H) c] 40)) (.cells #[.int .i64 0, .int .i64 0, .slice none 0 0] 40)
  rw [← hw1]
  clear hw1
  refine (byInk_ok W H g o c r ((2 * (r : Int) + 1) * (2 * (r : Int) + 1)) z w1 HE.out hr (fun j hj => cell_later B1 (HC.out j hj))).mono ?_
  rintro e w2 ⟨v, rfl, hown, hb⟩
  obtain ⟨j0, j1, j2, r0, r1, r2⟩ := block3 (below_block hb qb)
  have hl := (Array.getElem?_eq_some_iff.1 qb).1
  obtain ⟨g', c', rfl, hg', hz⟩ := owns_pageB hown (Nat.mul_pos (by omega) (by omega))
  have F := Lib.hid hz
  have G := Lib.hid hb
  have B := Lib.hid B1
  have L := Lib.hid hl
  clear hb qb B1 hown hz hl
  go_wp2_with fail
  refine bodyPost_ret (v := .tuple #[.agg #[.int .i64 W, .int .i64 H, .slice (some ⟨g', 0, none⟩) (W * H) c'], .int .i64 0]) (by simp [results, Try.results21, go_sem, j0, j1, j2]) rfl ?_
  have hl := L.out
  refine ⟨g', c', rfl, fun j hj => ?_, below_far3 (below_step B.out G.out) (by omega)⟩
  obtain ⟨p1, p2⟩ := places_cell (show 1 ≤ W by omega) hj
  rw [← shrink_sum W H z r _ _ p1 p2]
  exact cell_far3 (by simp; omega) (F.out j hj)

theorem alike_err (e1 : Int) (a b : Int) (s : Option Addr) (n c : Nat) (w : World) (h : e1 ≠ 0) :
    Calls Try.prog 17 #[.agg #[.int .i64 0, .int .i64 0, .slice none 0 0], .int .i64 e1, .agg #[.int .i64 a, .int .i64 b, .slice s n c], .int .i64 e1] w fun e w' => e = .returned (.bool true) ∧ Below w.heap.size w w' := by
  have h' : (e1 != 0) = true := by simpa using h
  clear h
  go_enter Try.func17, Try.ntmps17
  go_wp2
  go_ret
  exact ⟨rfl, below_alloc (new_below _ _) _⟩

theorem alike_ok (W H : Int) (g1 o1 g2 o2 n c1 c2 : Nat) (z : Nat → Bool) (w : World) (hn : n ≤ 100000000)
    (h1 : ∀ j, j < n → w.cell? ⟨g1, o1 + j, none⟩ = some (.bool (z j))) (h2 : ∀ j, j < n → w.cell? ⟨g2, o2 + j, none⟩ = some (.bool (z j))) :
    Calls Try.prog 17 #[.agg #[.int .i64 W, .int .i64 H, .slice (some ⟨g1, o1, none⟩) n c1], .int .i64 0, .agg #[.int .i64 W, .int .i64 H, .slice (some ⟨g2, o2, none⟩) n c2], .int .i64 0] w fun e w' => e = .returned (.bool true) ∧ Below w.heap.size w w' := by
  have H1 := Lib.hid h1
  have H2 := Lib.hid h2
  clear h1 h2
  go_enter Try.func17, Try.ntmps17
  go_wp2_with fail
  have B1 := below_alloc (new_below w (.cells #[.int .i64 W, .int .i64 H, .slice (some ⟨g1, o1, none⟩) n c1] 40)) (.cells #[.int .i64 W, .int .i64 H, .slice (some ⟨g2, o2, none⟩) n c2] 40)
  refine (sameBits_true W H g1 o1 g2 o2 n c1 c2 z _ hn (fun j hj => cell_later B1 (H1.out j hj)) (fun j hj => cell_later B1 (H2.out j hj))).mono ?_
  rintro e w1 ⟨rfl, hb⟩
  go_wp2_with fail
  go_ret
  exact ⟨rfl, below_step B1 hb⟩

end Go.Proofs.Ytlpdgnhlhopmjaa
namespace Go.Proofs.Ytlpdgnhlhopmjaa
open Go.RowKit
set_option linter.unusedSimpArgs false
set_option linter.unusedVariables false

theorem small_size {W H : Nat} (hW : 1 ≤ W ∧ W ≤ 32) (hH : 1 ≤ H ∧ H ≤ 32) : sizeErr W H = 0 ∧ pageErr W H (W * H) = 0 ∧ 1 ≤ W * H ∧ W * H ≤ 1024 := by
  have h1 := Nat.mul_le_mul hW.2 hH.2
  have h2 := Nat.mul_pos hW.1 hH.1
  have he : sizeErr W H = 0 := by
    unfold sizeErr
    rw [if_neg (by omega), if_neg (by rw [← Int.natCast_mul]; omega)]
  exact ⟨he, by unfold pageErr; rw [if_pos he, if_pos (by simp [Int.natCast_mul])], h2, h1⟩

/-- Three cells of a block that are written anew. -/
theorem far3_same {w : World} {b : Nat} {x y z x' y' z' : Value} {t : TypeId} (h : w.heap[b]? = some (.cells #[x, y, z] t (0, 0))) :
    (((w.setCell ⟨b, 0, none⟩ x').setCell ⟨b, 1, none⟩ y').setCell ⟨b, 2, none⟩ z').heap[b]? = some (.cells #[x', y', z'] t (0, 0)) := by
  have h1 := heap_setCell_same w b 0 #[x, y, z] t x' h
  have h2 := heap_setCell_same _ b 1 _ t y' h1
  have h3 := heap_setCell_same _ b 2 _ t z' h2
  simpa using h3

end Go.Proofs.Ytlpdgnhlhopmjaa
namespace Go.Proofs.Ytlpdgnhlhopmjaa
open Go.RowKit
set_option linter.unusedSimpArgs false
set_option linter.unusedVariables false
attribute [local go_sem ↓] Go.wp_at_zero Go.wp_at_succ

set_option maxHeartbeats 4000000 in
set_option maxRecDepth 100000 in
theorem inkSpreads_any (a b r : Int) (s : Option Addr) (n c : Nat) (B : Nat → Bool) (w : World) (hn : n ≤ 9223372036854775807) (hs : IsBools w s n c B) :
    Calls Try.prog 5 #[.agg #[.int .i64 a, .int .i64 b, .slice s n c], .int .i64 r] w fun e w' => e = .returned (.bool true) ∧ Below w.heap.size w w' := by
  have HS := Lib.hid hs
  clear hs
  go_enter Try.func5, Try.ntmps5
  go_wp2_with ((go_at_call 14; refine (landed_any _).mono ?_; rintro e w' ⟨rfl, rfl⟩))
  obtain ⟨w1, hw1⟩ : ∃ w1, w1 = w.alloc (.cells #[.int .i64 a, .int .i64 b, .slice s n c] 40) := ⟨_, rfl⟩
  have B1 : Below w.heap.size w w1 := by rw [hw1]; exact new_below _ _
  have qb : w1.heap[w.heap.size]? = some (.cells #[.int .i64 a, .int .i64 b, .slice s n c] 40 (0, 0)) := by rw [hw1]; exact heap_alloc_new _ _
  rw [← hw1]
  clear hw1
  refine (fit_any a b s n c B w1 hn (isBools_later HS.out B1)).mono ?_
  rintro e w2 ⟨W, H, g, cc, z, rfl, ⟨hW1, hW2, hH1, hH2⟩, hz, hg, hb2⟩
  obtain ⟨j0, j1, j2, r0, r1, r2⟩ := block3 (below_block hb2 qb)
  have l1 := Lib.hid (Array.getElem?_eq_some_iff.1 qb).1
  have B2 := Lib.hid (below_step B1 hb2)
  have QB := Lib.hid (below_block hb2 qb)
  have HZ := Lib.hid hz
  have hg' := Lib.hid hg
  clear hz hb2 B1 qb hg
  go_wp2_with fail
  obtain ⟨w3, hw3⟩ : ∃ w3, w3 = (((w2.setCell ⟨w.heap.size, 0, none⟩ (.int .i64 W)).setCell ⟨w.heap.size, 1, none⟩ (.int .i64 H)).setCell ⟨w.heap.size, 2, none⟩ (.slice (some ⟨g, 0, none⟩) (W * H) cc)) := ⟨_, rfl⟩
  have B3 : Below w.heap.size w w3 := by rw [hw3]; exact below_far3 B2.out (Nat.le_refl _)
  have qb : w3.heap[w.heap.size]? = some (.cells #[.int .i64 W, .int .i64 H, .slice (some ⟨g, 0, none⟩) (W * H) cc] 40 (0, 0)) := by rw [hw3]; exact far3_same QB.out
  have hz3 : ∀ j, j < W * H → w3.cell? ⟨g, 0 + j, none⟩ = some (.bool (z j)) := fun j hj => by
    rw [hw3]
    exact cell_far3 (by have := l1.out; have := hg'.out; simp; omega) (HZ.out j hj)
  obtain ⟨q0, q1, q2, _, _, _⟩ := block3 qb
  rw [← hw3]
  clear hw3 j0 j1 j2 r0 r1 r2
  obtain ⟨he, hpe, hN1, hN2⟩ := small_size ⟨hW1, hW2⟩ ⟨hH1, hH2⟩
  have HE := Lib.hid he
  have HPE := Lib.hid hpe
  have HZ3 := Lib.hid hz3
  have HB3 := Lib.hid B3
  clear he hpe hz3 B3 HZ QB qb
  by_cases hr : 0 ≤ r ∧ r ≤ 50
  · obtain ⟨R, rfl⟩ := Int.eq_ofNat_of_zero_le hr.1
    have hR : R ≤ 50 := by omega
    have hd0 : decide ((R : Int) < 0) = false := decide_eq_false (by omega)
    have hd1 : decide (50 < (R : Int)) = false := decide_eq_false (by omega)
    clear hr
    refine (spread_ok W H g 0 cc R z w3 HE.out hR HZ3.out).mono ?_
    rintro e w4 ⟨g4, c4, rfl, hz4, hb4⟩
    have k0 := cell_later hb4 q0
    have k1 := cell_later hb4 q1
    have k2 := cell_later hb4 q2
    have l0 := World.block_lt_of_cell? _ _ k0
    simp only at l0
    have HB4 := Lib.hid hb4
    have HZ4 := Lib.hid hz4
    clear hb4 hz4 q0 q1 q2
    go_wp2_with fail
    obtain ⟨w5, hw5⟩ : ∃ w5, w5 = w4.alloc (.cells #[.int .i64 W, .int .i64 H, .slice (some ⟨g4, 0, none⟩) (W * H) c4] 40) := ⟨_, rfl⟩
    have B5 : Below w4.heap.size w4 w5 := by rw [hw5]; exact new_below _ _
    obtain ⟨a0, a1, a2, _, _, _⟩ := block3 (w := w5) (b := w4.heap.size) (x := .int .i64 W) (y := .int .i64 H) (z := .slice (some ⟨g4, 0, none⟩) (W * H) c4) (t := 40) (by rw [hw5]; exact heap_alloc_new _ _)
    have q0 := cell_later B5 k0
    have q1 := cell_later B5 k1
    have q2 := cell_later B5 k2
    rw [← hw5]
    clear hw5 k0 k1 k2
    refine (shrink_ok W H g 0 cc R z w5 HE.out hR (fun j hj => cell_later (below_step HB4.out B5) (HZ3.out j hj))).mono ?_
    rintro e w6 ⟨g6, c6, rfl, hz6, hb6⟩
    have k0 := cell_later hb6 q0
    have k1 := cell_later hb6 q1
    have k2 := cell_later hb6 q2
    have b0 := cell_later hb6 a0
    have b1 := cell_later hb6 a1
    have b2 := cell_later hb6 a2
    have l1 := World.block_lt_of_cell? _ _ b0
    simp only at l1
    have l0' : w.heap.size < w6.heap.size := by have := B5.size; have := hb6.size; omega
    have HB6 := Lib.hid (below_step B5 hb6)
    have HZ6 := Lib.hid hz6
    clear hb6 q0 q1 q2 a0 a1 a2 B5 l0 hz6
    go_wp2_with fail
    obtain ⟨w7, hw7⟩ : ∃ w7, w7 = w6.alloc (.cells #[.int .i64 W, .int .i64 H, .slice (some ⟨g6, 0, none⟩) (W * H) c6] 40) := ⟨_, rfl⟩
    have B7 : Below w6.heap.size w6 w7 := by rw [hw7]; exact new_below _ _
    obtain ⟨a0, a1, a2, _, _, _⟩ := block3 (w := w7) (b := w6.heap.size) (x := .int .i64 W) (y := .int .i64 H) (z := .slice (some ⟨g6, 0, none⟩) (W * H) c6) (t := 40) (by rw [hw7]; exact heap_alloc_new _ _)
    have q0 := cell_later B7 k0
    have q1 := cell_later B7 k1
    have q2 := cell_later B7 k2
    have p0 := cell_later B7 b0
    have p1 := cell_later B7 b1
    have p2 := cell_later B7 b2
    rw [← hw7]
    clear hw7 k0 k1 k2 b0 b1 b2
    have HB7 := Lib.hid B7
    clear B7
    have B7 := HB7.out
    have z7 := Lib.hid (fun j (hj : j < W * H) => cell_later (below_step (below_step HB4.out HB6.out) B7) (HZ3.out j hj))
    have s7 := Lib.hid (fun j (hj : j < W * H) => cell_later (below_step HB6.out B7) (HZ4.out j hj))
    have t7 := Lib.hid (fun j (hj : j < W * H) => cell_later B7 (HZ6.out j hj))
    go_region_held3 (fun w' => w'.cell? ⟨w.heap.size, 0, none⟩ = some (.int .i64 W) ∧ w'.cell? ⟨w.heap.size, 1, none⟩ = some (.int .i64 H) ∧ w'.cell? ⟨w.heap.size, 2, none⟩ = some (.slice (some ⟨g, 0, none⟩) (W * H) cc) ∧
        w'.cell? ⟨w4.heap.size, 0, none⟩ = some (.int .i64 W) ∧ w'.cell? ⟨w4.heap.size, 1, none⟩ = some (.int .i64 H) ∧ w'.cell? ⟨w4.heap.size, 2, none⟩ = some (.slice (some ⟨g4, 0, none⟩) (W * H) c4) ∧
        w'.cell? ⟨w6.heap.size, 0, none⟩ = some (.int .i64 W) ∧ w'.cell? ⟨w6.heap.size, 1, none⟩ = some (.int .i64 H) ∧ w'.cell? ⟨w6.heap.size, 2, none⟩ = some (.slice (some ⟨g6, 0, none⟩) (W * H) c6))
      (first | (go_keep; done) | (go_split_ands; exact ⟨cell_later hb8 (by assumption), cell_later hb8 (by assumption), cell_later hb8 (by assumption), cell_later hb8 (by assumption), cell_later hb8 (by assumption), cell_later hb8 (by assumption), cell_later hb8 (by assumption), cell_later hb8 (by assumption), cell_later hb8 (by assumption)⟩) | (go_split_ands; exact ⟨cell_later hb9 (by assumption), cell_later hb9 (by assumption), cell_later hb9 (by assumption), cell_later hb9 (by assumption), cell_later hb9 (by assumption), cell_later hb9 (by assumption), cell_later hb9 (by assumption), cell_later hb9 (by assumption), cell_later hb9 (by assumption)⟩) | (go_split_ands; exact ⟨cell_later hb10 (by assumption), cell_later hb10 (by assumption), cell_later hb10 (by assumption), cell_later hb10 (by assumption), cell_later hb10 (by assumption), cell_later hb10 (by assumption), cell_later hb10 (by assumption), cell_later hb10 (by assumption), cell_later hb10 (by assumption)⟩) | (go_split_ands; exact ⟨cell_later hb11 (by assumption), cell_later hb11 (by assumption), cell_later hb11 (by assumption), cell_later hb11 (by assumption), cell_later hb11 (by assumption), cell_later hb11 (by assumption), cell_later hb11 (by assumption), cell_later hb11 (by assumption), cell_later hb11 (by assumption)⟩))
      ((first | (go_at_call 22; (with_reducible refine (spreadR_any W H g 0 cc R z _ ⟨hW1, by omega⟩ ⟨hH1, by omega⟩ (by omega) hR (fun j hj => cell_later (Below.refl _ _).drew (z7.out j hj))).mono ?_); rintro e w8 ⟨g8, c8, rfl, hz8, hb8⟩; have Z8 := Lib.hid hz8; clear hz8) | (go_at_call 17; (with_reducible refine (alike_ok W H g4 0 g8 0 (W * H) c4 c8 (fun j => spreadB W H z R (j % W) (j / W)) w8 (by omega) (fun j hj => cell_later (below_step (Below.refl _ _).drew hb8) (s7.out j hj)) Z8.out).mono ?_); rintro e w9 ⟨rfl, hb9⟩) | (go_at_call 23; (with_reducible refine (shrinkR_any W H g 0 cc R z w9 ⟨hW1, by omega⟩ ⟨hH1, by omega⟩ (by omega) hR (fun j hj => cell_later (below_step (below_step (Below.refl _ _).drew hb8) hb9) (z7.out j hj))).mono ?_); rintro e w10 ⟨g10, c10, rfl, hz10, hb10⟩; have Z10 := Lib.hid hz10; clear hz10) | (go_at_call 17; (with_reducible refine (alike_ok W H g6 0 g10 0 (W * H) c6 c10 (fun j => shrinkB W H z R (j % W) (j / W)) w10 (by omega) (fun j hj => cell_later (below_step (below_step (below_step (Below.refl _ _).drew hb8) hb9) hb10) (t7.out j hj)) Z10.out).mono ?_); rintro e w11 ⟨rfl, hb11⟩)))
    have B11 : Below w7.heap.size w7 w11 := below_step (below_step (below_step (below_step (Below.refl _ _).drew hb8) hb9) hb10) hb11
    have B7' : Below w.heap.size w w7 := below_step (below_step (below_step HB3.out HB4.out) HB6.out) (by assumption)
    have k0 := cell_later B11 q0
    have k1 := cell_later B11 q1
    have k2 := cell_later B11 q2
    have m0 := cell_later B11 a0
    have m1 := cell_later B11 a1
    have m2 := cell_later B11 a2
    have n0 := cell_later B11 p0
    have n1 := cell_later B11 p1
    have n2 := cell_later B11 p2
    have z11 := Lib.hid (fun j (hj : j < W * H) => cell_later B11 (z7.out j hj))
    have s11 := Lib.hid (fun j (hj : j < W * H) => cell_later B11 (s7.out j hj))
    have t11 := Lib.hid (fun j (hj : j < W * H) => cell_later B11 (t7.out j hj))
    have HB11 := Lib.hid (below_step B7' B11)
    clear hb8 hb9 hb10 hb11 Z8 Z10 q0 q1 q2 a0 a1 a2 p0 p1 p2 B11 B7' z7 s7 t7 HB4 HB6 HZ4 HZ6 HZ3
    go_wp2_with fail
    refine (spread_ok W H g6 0 c6 R (fun k => shrinkB W H z R (k % W) (k / W)) w11 HE.out hR t11.out).mono ?_
    rintro e w12 ⟨g12, c12, rfl, hz12, hb12⟩
    have q0 := cell_later hb12 k0
    have q1 := cell_later hb12 k1
    have q2 := cell_later hb12 k2
    have a0 := cell_later hb12 n0
    have a1 := cell_later hb12 n1
    have a2 := cell_later hb12 n2
    have l2 := World.block_lt_of_cell? _ _ a0
    have l3 := World.block_lt_of_cell? _ _ q0
    simp only at l2 l3
    have z12 := Lib.hid (fun j (hj : j < W * H) => cell_later hb12 (z11.out j hj))
    have s12 := Lib.hid (fun j (hj : j < W * H) => cell_later hb12 (s11.out j hj))
    have HB12 := Lib.hid (below_step HB11.out hb12)
    have Z12 := Lib.hid hz12
    clear k0 k1 k2 m0 m1 m2 n0 n1 n2 z11 s11 t11 hb12 hz12 HB11 HB7 l0' l1
    go_wp2_with fail
    obtain ⟨w13, hw13⟩ : ∃ w13, w13 = w12.alloc (.cells #[.int .i64 W, .int .i64 H, .slice (some ⟨g12, 0, none⟩) (W * H) c12] 40) := ⟨_, rfl⟩
    have B13 : Below w12.heap.size w12 w13 := by rw [hw13]; exact new_below _ _
    obtain ⟨o0, o1, o2, _, _, _⟩ := block3 (w := w13) (b := w12.heap.size) (x := .int .i64 W) (y := .int .i64 H) (z := .slice (some ⟨g12, 0, none⟩) (W * H) c12) (t := 40) (by rw [hw13]; exact heap_alloc_new _ _)
    rw [← hw13]
    clear hw13
    refine (shrink_ok W H g4 0 c4 R (fun k => spreadB W H z R (k % W) (k / W)) w13 HE.out hR (fun j hj => cell_later B13 (s12.out j hj))).mono ?_
    rintro e w14 ⟨g14, c14, rfl, hz14, hb14⟩
    have k0 := cell_later (below_step B13 hb14) q0
    have k1 := cell_later (below_step B13 hb14) q1
    have k2 := cell_later (below_step B13 hb14) q2
    have p0 := cell_later hb14 o0
    have p1 := cell_later hb14 o1
    have p2 := cell_later hb14 o2
    have l4 := World.block_lt_of_cell? _ _ p0
    have l5 := World.block_lt_of_cell? _ _ k0
    simp only at l4 l5
    have z14 := Lib.hid (fun j (hj : j < W * H) => cell_later (below_step B13 hb14) (z12.out j hj))
    have o14 := Lib.hid (fun j (hj : j < W * H) => cell_later (below_step B13 hb14) (Z12.out j hj))
    have HB14 := Lib.hid (below_step HB12.out (below_step B13 hb14))
    have Z14 := Lib.hid hz14
    clear q0 q1 q2 a0 a1 a2 o0 o1 o2 z12 s12 Z12 hb14 hz14 HB12 B13 l2 l3
    have N0 : (0 : Int) ≤ (W : Int) * (H : Int) := Int.mul_nonneg (by omega) (by omega)
    have N1 : (W : Int) * (H : Int) ≤ 1024 := by rw [← Int.natCast_mul]; omega
    go_wp2_with fail
    obtain ⟨w15, hw15⟩ : ∃ w15, w15 = w14.alloc (.cells #[.int .i64 W, .int .i64 H, .slice (some ⟨g14, 0, none⟩) (W * H) c14] 40) := ⟨_, rfl⟩
    have B15 : Below w14.heap.size w14 w15 := by rw [hw15]; exact new_below _ _
    obtain ⟨u0, u1, u2, _, _, _⟩ := block3 (w := w15) (b := w14.heap.size) (x := .int .i64 W) (y := .int .i64 H) (z := .slice (some ⟨g14, 0, none⟩) (W * H) c14) (t := 40) (by rw [hw15]; exact heap_alloc_new _ _)
    have q0 := cell_later B15 k0
    have q1 := cell_later B15 k1
    have q2 := cell_later B15 k2
    have o0 := cell_later B15 p0
    have o1 := cell_later B15 p1
    have o2 := cell_later B15 p2
    have zF := Lib.hid (fun j (hj : j < W * H) => cell_later B15 (z14.out j hj))
    have oF := Lib.hid (fun j (hj : j < W * H) => cell_later B15 (o14.out j hj))
    have uF := Lib.hid (fun j (hj : j < W * H) => cell_later B15 (Z14.out j hj))
    have HB15 := Lib.hid (below_step HB14.out B15)
    rw [← hw15]
    clear hw15 k0 k1 k2 p0 p1 p2 z14 o14 Z14 HB14 B15 l4 l5
    go_loopw [85] (fun i wr => ∃ k : Nat, k ≤ W * H ∧ i = .int .i64 k ∧ Below w15.heap.size w15 wr) (fun i _ => W * H - (intOf i).toNat)
    case atStart => exact ⟨0, Nat.zero_le _, rfl, Below.refl _ _⟩
    case round =>
      obtain ⟨k, hk, rfl, hb⟩ := hrel
      have HB := Lib.hid hb
      by_cases hlt : k < W * H
      · have k0 := cell_later hb q0
        have k1 := cell_later hb q1
        have k2 := cell_later hb q2
        have p2 := cell_later hb o2
        have v2 := cell_later hb u2
        have zc := cell_later hb (zF.out k hlt)
        have oc := cell_later hb (oF.out k hlt)
        have uc := cell_later hb (uF.out k hlt)
        rw [Nat.zero_add] at zc oc uc
        obtain ⟨pX, pY⟩ := places_cell hW1 hlt
        have hXY := Nat.div_add_mod k W
        obtain ⟨X, hX⟩ : ∃ X, X = k % W := ⟨_, rfl⟩
        obtain ⟨Y, hY⟩ : ∃ Y, Y = k / W := ⟨_, rfl⟩
        have eX : (k : Int) % (W : Int) = (X : Int) := by rw [hX]; omega
        have eY : (k : Int) / (W : Int) = (Y : Int) := by rw [hY]; omega
        rw [← hX, ← hY] at oc uc hXY
        rw [← hX] at pX
        rw [← hY] at pY
        have hk' : k = Y * W + X := by rw [Nat.mul_comm]; exact hXY.symm
        rw [hk'] at zc
        have hop := Lib.hid (fun h => open_less W H z R X Y pX h)
        have hsh := Lib.hid (fun h1 h2 h => shut_more W H z R X Y h1 h2 h)
        obtain ⟨zk, hzk⟩ : ∃ zk, zk = z (Y * W + X) := ⟨_, rfl⟩
        obtain ⟨ok, hok⟩ : ∃ ok, ok = spreadB W H (fun k => shrinkB W H z R (k % W) (k / W)) R X Y := ⟨_, rfl⟩
        obtain ⟨uk, huk⟩ : ∃ uk, uk = shrinkB W H (fun k => spreadB W H z R (k % W) (k / W)) R X Y := ⟨_, rfl⟩
        rw [← hzk] at zc hop hsh
        rw [← hok] at oc hop
        rw [← huk] at uc hsh
        rw [← hk'] at zc
        have W0 : ((W : Int) == 0) = false := by simp; omega
        clear hb hzk hok huk hk' hXY hX hY
        rcases (by omega : X < R ∨ (R ≤ X ∧ Y < R) ∨ (R ≤ X ∧ R ≤ Y ∧ W ≤ X + R) ∨ (R ≤ X ∧ R ≤ Y ∧ X + R < W ∧ H ≤ Y + R) ∨ (R ≤ X ∧ R ≤ Y ∧ X + R < W ∧ Y + R < H)) with g1 | ⟨g1, g2⟩ | ⟨g1, g2, g3⟩ | ⟨g1, g2, g3, g4⟩ | ⟨g1, g2, g3, g4⟩
        · cases zk
          · obtain rfl : ok = false := by
              cases ok
              · rfl
              · exact absurd (hop.out rfl) (by decide)
            all_goals
              go_wp2_with fail
              go_quiet (fail)
              go_wp2_with fail
              go_roundw
              case rel => exact ⟨k + 1, by omega, by go_num, below_drewN HB.out _⟩
              case measure => simp [intOf]; omega
          · cases ok
            all_goals
              go_wp2_with fail
              go_quiet (fail)
              go_wp2_with fail
              go_roundw
              case rel => exact ⟨k + 1, by omega, by go_num, below_drewN HB.out _⟩
              case measure => simp [intOf]; omega
        · cases zk
          · obtain rfl : ok = false := by
              cases ok
              · rfl
              · exact absurd (hop.out rfl) (by decide)
            all_goals
              go_wp2_with fail
              go_quiet (fail)
              go_wp2_with fail
              go_roundw
              case rel => exact ⟨k + 1, by omega, by go_num, below_drewN HB.out _⟩
              case measure => simp [intOf]; omega
          · cases ok
            all_goals
              go_wp2_with fail
              go_quiet (fail)
              go_wp2_with fail
              go_roundw
              case rel => exact ⟨k + 1, by omega, by go_num, below_drewN HB.out _⟩
              case measure => simp [intOf]; omega
        · cases zk
          · obtain rfl : ok = false := by
              cases ok
              · rfl
              · exact absurd (hop.out rfl) (by decide)
            all_goals
              go_wp2_with fail
              go_quiet (fail)
              go_wp2_with fail
              go_roundw
              case rel => exact ⟨k + 1, by omega, by go_num, below_drewN HB.out _⟩
              case measure => simp [intOf]; omega
          · cases ok
            all_goals
              go_wp2_with fail
              go_quiet (fail)
              go_wp2_with fail
              go_roundw
              case rel => exact ⟨k + 1, by omega, by go_num, below_drewN HB.out _⟩
              case measure => simp [intOf]; omega
        · cases zk
          · obtain rfl : ok = false := by
              cases ok
              · rfl
              · exact absurd (hop.out rfl) (by decide)
            all_goals
              go_wp2_with fail
              go_quiet (fail)
              go_wp2_with fail
              go_roundw
              case rel => exact ⟨k + 1, by omega, by go_num, below_drewN HB.out _⟩
              case measure => simp [intOf]; omega
          · cases ok
            all_goals
              go_wp2_with fail
              go_quiet (fail)
              go_wp2_with fail
              go_roundw
              case rel => exact ⟨k + 1, by omega, by go_num, below_drewN HB.out _⟩
              case measure => simp [intOf]; omega
        · cases zk
          · obtain rfl : ok = false := by
              cases ok
              · rfl
              · exact absurd (hop.out rfl) (by decide)
            all_goals
              go_wp2_with fail
              go_quiet (fail)
              go_wp2_with fail
              go_roundw
              case rel => exact ⟨k + 1, by omega, by go_num, below_drewN HB.out _⟩
              case measure => simp [intOf]; omega
          · obtain rfl : uk = true := hsh.out ⟨g1, g3⟩ ⟨g2, g4⟩ rfl
            cases ok
            all_goals
              go_wp2_with fail
              go_quiet (fail)
              go_wp2_with fail
              go_roundw
              case rel => exact ⟨k + 1, by omega, by go_num, below_drewN HB.out _⟩
              case measure => simp [intOf]; omega
      · have hke := Lib.hid (show k = W * H by omega)
        clear hb
        go_wp2_with fail
        go_ret
        exact ⟨rfl, below_step HB15.out HB.out⟩
  · have HR := Lib.hid hr
    have hd : (decide (r < 0) || decide (50 < r)) = true := by simp; omega
    refine (spread_badRadius W H r _ (W * H) cc w3 HPE.out HR.out).mono ?_
    rintro e w4 ⟨rfl, hb4⟩
    have k0 := cell_later hb4 q0
    have k1 := cell_later hb4 q1
    have k2 := cell_later hb4 q2
    have l0 := World.block_lt_of_cell? _ _ k0
    simp only at l0
    have HB4 := Lib.hid hb4
    clear hb4 q0 q1 q2
    go_wp2_with fail
    obtain ⟨w5, hw5⟩ : ∃ w5, w5 = w4.alloc (.cells #[.int .i64 0, .int .i64 0, .slice none 0 0] 40) := ⟨_, rfl⟩
    have B5 : Below w4.heap.size w4 w5 := by rw [hw5]; exact new_below _ _
    obtain ⟨a0, a1, a2, _, _, _⟩ := block3 (w := w5) (b := w4.heap.size) (x := .int .i64 0) (y := .int .i64 0) (z := .slice none 0 0) (t := 40) (by rw [hw5]; exact heap_alloc_new _ _)
    have q0 := cell_later B5 k0
    have q1 := cell_later B5 k1
    have q2 := cell_later B5 k2
    rw [← hw5]
    clear hw5 k0 k1 k2
    refine (shrink_badRadius W H r _ (W * H) cc w5 HPE.out HR.out).mono ?_
    rintro e w6 ⟨rfl, hb6⟩
    have k0 := cell_later hb6 q0
    have k1 := cell_later hb6 q1
    have k2 := cell_later hb6 q2
    have b0 := cell_later hb6 a0
    have b1 := cell_later hb6 a1
    have b2 := cell_later hb6 a2
    have l1 := World.block_lt_of_cell? _ _ b0
    simp only at l1
    have l0' : w.heap.size < w6.heap.size := by have := B5.size; have := hb6.size; omega
    have HB6 := Lib.hid (below_step B5 hb6)
    clear hb6 q0 q1 q2 a0 a1 a2 B5 l0
    clear hr
    by_cases h1 : r < 0
    all_goals
      (first | (have h2 : 50 < r := by omega) | skip)
      go_wp2_with fail
      obtain ⟨w7, hw7⟩ : ∃ w7, w7 = w6.alloc (.cells #[.int .i64 0, .int .i64 0, .slice none 0 0] 40) := ⟨_, rfl⟩
      have B7 : Below w6.heap.size w6 w7 := by rw [hw7]; exact new_below _ _
      obtain ⟨a0, a1, a2, _, _, _⟩ := block3 (w := w7) (b := w6.heap.size) (x := .int .i64 0) (y := .int .i64 0) (z := .slice none 0 0) (t := 40) (by rw [hw7]; exact heap_alloc_new _ _)
      have q0 := cell_later B7 k0
      have q1 := cell_later B7 k1
      have q2 := cell_later B7 k2
      rw [← hw7]
      clear hw7
      refine (alike_err 3 _ _ _ _ _ w7 (by decide)).mono ?_
      rintro e w8 ⟨rfl, hb8⟩
      have p0 := cell_later hb8 q0
      have p1 := cell_later hb8 q1
      have p2 := cell_later hb8 q2
      have c0 := cell_later hb8 a0
      have c1 := cell_later hb8 a1
      have c2 := cell_later hb8 a2
      have HB8 := Lib.hid (below_step B7 hb8)
      clear hb8 q0 q1 q2 a0 a1 a2 B7
      go_wp2_with (go_at_call 17; refine (alike_err 3 _ _ _ _ _ w8 (by decide)).mono ?_; rintro e w9 ⟨rfl, hb9⟩)
      go_ret
      exact ⟨rfl, below_step (below_step (below_step (below_step HB3.out HB4.out) HB6.out) HB8.out) hb9⟩

end Go.Proofs.Ytlpdgnhlhopmjaa
namespace Go.Proofs.Ytlpdgnhlhopmjaa
open Go.ChangeShapes Go.WideShapes Go.ChangeAt Go.RowKit Go.Joins
open Go.ChangeMaps (open_string shut_string)
set_option linter.unusedVariables false

set_option maxRecDepth 100000 in
/-- A page in black and white by value, opened. -/
theorem open_bitsN {W : World} {H : Type} {enc : TypeId × Value → H} {base : Nat} {held : Bool} {r : Reach} {b0 : Nat} {v : Value} {d : DataW H} {p : List MemPlace}
    (hv : Value.okWide Try.prog W r b0 40 v) (h : DataW.Trod enc Try.prog W base (fun _ => true) held 40 v d p) :
    ∃ a b s n c B, v = .agg #[.int .i64 a, .int .i64 b, .slice s n c] ∧ IsBools W s n c B ∧ n ≤ 9223372036854775807 := by
  obtain ⟨c0, c1, c2, y0, y1, y2, m, rfl, rfl, rfl, hy0, hy1, hy2⟩ := open_agg3 Try.underlying40 (by kernel_rfl) cellsBits hv h
  obtain ⟨a, e0, rfl, wa⟩ := DataW.trod_int Try.underlying3 hy0
  obtain ⟨b, e1, rfl, wb⟩ := DataW.trod_int Try.underlying3 hy1
  simp at e0 e1
  subst e0 e1
  rcases Go.Deep.open_bools Try.underlying38 Try.underlying4 cellsBool hy2 with ⟨hcs, _⟩ | ⟨x, l, c, B, hcs, _, hl, hm, _, hcell⟩
  · simp at hcs
    subst hcs
    exact ⟨a, b, none, 0, 0, fun _ => false, rfl, .inl ⟨rfl, rfl, rfl⟩, by decide⟩
  · simp at hcs
    subst hcs
    exact ⟨a, b, some x, l, c, B, rfl, .inr ⟨x, rfl, fun i hi => hcell i (by omega)⟩, by unfold maxLen at hm; omega⟩

end Go.Proofs.Ytlpdgnhlhopmjaa
namespace Go.Proofs.Ytlpdgnhlhopmjaa
open Go.ChangeShapes Go.WideShapes Go.ChangeAt Go.RowKit Go.Joins
open Go.ChangeMaps (open_string shut_string)
set_option linter.unusedVariables false

set_option maxRecDepth 100000 in
theorem inkSpreads_lifted (os : Os) (started : os.Started) (H : Type) (enc : TypeId × Value → H) :
    ReturnsInHanded {} Try.checked os 5 .any (Rows.inkSpreadsSpec.pre6 enc Try.prog Try.f5 Rows.inkSpreadsRow.domain false) (Rows.inkSpreadsSpec.post enc Try.prog Try.f5 false true false false) := by
  refine returnsInHanded_of_change (C := Try.checked) own started (by kernel_rfl) Try.func5
    (ChangeSpec.witness6 (enc := enc) (C := Try.checked) false ⟨#[], #[.agg #[.int .i64 0, .int .i64 0, .slice none 0 0], .int .i64 0], []⟩ 8 (by kernel_rfl) (by kernel_rfl) (by kernel_rfl) (by kernel_rfl)) ?_
  intro W base args ds gs before hval0 hW hcnd _
  have hval : ∀ (j : Nat) t v, Try.f5.params[j]? = some t → args[j]? = some v → Value.okWide Try.prog W .any base t v := hval0
  have hW' := hW
  obtain ⟨p, q, hA0, hV, rfl, hfz, hnd⟩ := hW
  have hA : DataW.TrodAll enc Try.prog W 0 (fun _ => true) true Try.f5.params.toList args.toList ds p := hA0
  rw [Try.params5] at hA hval
  obtain ⟨v0, vs0, d0, ds0, p0, q0, hargs, rfl, rfl, h0, r0⟩ := trodAll_cons hA
  obtain ⟨v1, vs1, d1, ds1, p1, q1, rfl, rfl, rfl, h1, r1⟩ := trodAll_cons r0
  obtain ⟨rfl, rfl, rfl⟩ := trodAll_nil r1
  obtain rfl : args = #[v0, v1] := by cases args; simp_all
  obtain ⟨rfl, rfl⟩ := trodVars_none hV
  have k0 := h0
  have lt0 : ∀ x ∈ p0, x.block < W.heap.size := by obtain ⟨m, hm⟩ := k0; exact DataW.trod_lt m _ _ _ hm
  obtain ⟨a, b, s, n, c, B, rfl, hs, hn⟩ := open_bitsN (hval 0 40 v0 rfl rfl) h0
  obtain ⟨a1, rfl, rfl, rfl, w1⟩ := open_int Try.underlying3 (hval 1 3 v1 rfl rfl) h1
  clear hA0 hval0
  refine (inkSpreads_any a b a1 s n c B W hn hs).mono fun e W' ⟨he, bel⟩ => ?_
  subst he
  exact ⟨_, rfl, _, _, _, [], _, [], hW', trodAll_mk1 (shut_bool Try.underlying4 _), (trodAll_cons_mk (Below.trod laidOut (by kernel_rfl) (of_decide_eq_true (by kernel_rfl)) k0 bel lt0) (trodAll_cons_mk (shut_int Try.underlying3 w1) trodAll_mk0)), rfl, bel.frame _, fun h => by cases h⟩

theorem inkSpreads_over : Rows.inkSpreadsRow.holds Try.pinned (OpenSpec.ofChange Rows.inkSpreadsSpec) :=
  OpenClaim.holds_of_wide 5 Try.f5 rfl rfl rfl rfl rfl rfl rfl ⟨rfl, rfl, rfl, rfl, rfl⟩ rfl rfl rfl rfl rfl (by kernel_rfl) Try.func5 (by kernel_rfl)
    (of_decide_eq_true (by kernel_rfl)) (by unfold Func.isWrapper; first | (rw [if_pos (by decide +kernel)]; kernel_rfl) | (rw [if_neg (by decide +kernel)]; exact ⟨rfl, rfl⟩))
    (fun os started H enc _ => inkSpreads_lifted os started H enc)

theorem inkSpreads_holds : Rows.InkSpreadsSaid := inkSpreads_over
end Go.Proofs.Ytlpdgnhlhopmjaa
