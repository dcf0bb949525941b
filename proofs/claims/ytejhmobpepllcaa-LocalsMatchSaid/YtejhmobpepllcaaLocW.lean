/-
  The walk of the law LocalsMatch: it returns true, and turns nothing that was there.
-/
import Derived.Test.YtejhmobpepllcaaLocR
import Derived.Test.YtejhmobpepllcaaInkW
import Derived.Deep.RegionHeld3
namespace Go.Proofs.Ytejhmobpepllcaa
open Go.RowKit
set_option linter.unusedSimpArgs false
set_option linter.unusedVariables false
attribute [local go_sem ↓] Go.wp_at_zero Go.wp_at_succ

theorem small_size16 {W H : Nat} (hW : 1 ≤ W ∧ W ≤ 16) (hH : 1 ≤ H ∧ H ≤ 16) : sizeErr W H = 0 ∧ pageErr W H (W * H) = 0 ∧ 1 ≤ W * H ∧ W * H ≤ 256 := by
  have h := small_size (W := W) (H := H) ⟨hW.1, by omega⟩ ⟨hH.1, by omega⟩
  have h1 := Nat.mul_le_mul hW.2 hH.2
  exact ⟨h.1, h.2.1, h.2.2.1, h1⟩

/-- The Bool of the law's test. -/
theorem local_test {r part : Int} : (decide (r < 1) || decide (100 < r) || decide (part < 0) || decide (1000 < part)) = !(decide ((1 ≤ r ∧ r ≤ 100) ∧ (0 ≤ part ∧ part ≤ 1000))) := by
  rw [Bool.eq_iff_iff]; simp; omega

set_option maxHeartbeats 4000000 in
set_option maxRecDepth 100000 in
theorem locals_any (a b r part : Int) (s : Option Addr) (n c : Nat) (zs : List Int) (w : World) (hn : n ≤ 9223372036854775807) (hs : IsBytes w s n c zs) :
    Calls Try.prog 9 #[.agg #[.int .i64 a, .int .i64 b, .slice s n c], .int .i64 r, .int .i64 part] w fun e w' => e = .returned (.bool true) ∧ Below w.heap.size w w' := by
  have HS := Lib.hid hs
  clear hs
  go_enter Try.func9, Try.ntmps9
  go_wp2_with ((go_at_call 77; refine (landed_any _).mono ?_; rintro e w' ⟨rfl, rfl⟩))
  obtain ⟨w1, hw1⟩ : ∃ w1, w1 = w.alloc (.cells #[.int .i64 a, .int .i64 b, .slice s n c] 27) := ⟨_, rfl⟩
  have B1 : Below w.heap.size w w1 := by rw [hw1]; exact new_below _ _
  have qb : w1.heap[w.heap.size]? = some (.cells #[.int .i64 a, .int .i64 b, .slice s n c] 27 (0, 0)) := by rw [hw1]; exact heap_alloc_new _ _
  rw [← hw1]
  clear hw1
  refine (fitGray_any a b s n c zs w1 hn (isBytes_later HS.out B1)).mono ?_
  rintro e w2 ⟨W, H, g, cc, z, rfl, ⟨hW1, hW2, hH1, hH2⟩, hzb, hz, hg, hb2⟩
  obtain ⟨j0, j1, j2, r0, r1, r2⟩ := block3 (below_block hb2 qb)
  have l1 := Lib.hid (Array.getElem?_eq_some_iff.1 qb).1
  have B2 := Lib.hid (below_step B1 hb2)
  have QB := Lib.hid (below_block hb2 qb)
  have HZ := Lib.hid hz
  have HZB := Lib.hid hzb
  have hg' := Lib.hid hg
  clear hz hzb hb2 B1 qb hg
  go_wp2_with fail
  obtain ⟨w3, hw3⟩ : ∃ w3, w3 = (((w2.setCell ⟨w.heap.size, 0, none⟩ (.int .i64 W)).setCell ⟨w.heap.size, 1, none⟩ (.int .i64 H)).setCell ⟨w.heap.size, 2, none⟩ (.slice (some ⟨g, 0, none⟩) (W * H) cc)) := ⟨_, rfl⟩
  have B3 : Below w.heap.size w w3 := by rw [hw3]; exact below_far3 B2.out (Nat.le_refl _)
  have qb : w3.heap[w.heap.size]? = some (.cells #[.int .i64 W, .int .i64 H, .slice (some ⟨g, 0, none⟩) (W * H) cc] 27 (0, 0)) := by rw [hw3]; exact far3_same QB.out
  have hz3 : ∀ j, j < W * H → w3.cell? ⟨g, 0 + j, none⟩ = some (.int .u8 (z j)) := fun j hj => by
    rw [hw3]
    exact cell_far3 (by have := l1.out; have := hg'.out; simp; omega) (HZ.out j hj)
  obtain ⟨q0, q1, q2, _, _, _⟩ := block3 qb
  rw [← hw3]
  clear hw3 j0 j1 j2 r0 r1 r2
  obtain ⟨he, hpe, hN1, hN2⟩ := small_size16 ⟨hW1, hW2⟩ ⟨hH1, hH2⟩
  have HE := Lib.hid he
  have HPE := Lib.hid hpe
  have HZ3 := Lib.hid hz3
  have HB3 := Lib.hid B3
  clear he hpe hz3 B3 HZ QB qb
  by_cases hr : (1 ≤ r ∧ r ≤ 100) ∧ (0 ≤ part ∧ part ≤ 1000)
  · obtain ⟨⟨hr1, hr2⟩, hp1, hp2⟩ := hr
    obtain ⟨R, rfl⟩ := Int.eq_ofNat_of_zero_le (by omega : 0 ≤ r)
    have hR : 1 ≤ R ∧ R ≤ 100 := by omega
    have hw0 : whenI (decide ((R : Int) < 1) || decide (100 < (R : Int)) || decide (part < 0) || decide (1000 < part)) 3 = 0 := by rw [local_test, decide_eq_true ⟨⟨hr1, hr2⟩, hp1, hp2⟩]; rfl
    have HR := Lib.hid hR
    have HT := Lib.hid (show 0 ≤ part ∧ part ≤ 1000 from ⟨hp1, hp2⟩)
    clear hR
    refine (local_ok W H g 0 cc R part z w3 HE.out HR.out HT.out HZB.out HZ3.out).mono ?_
    rintro e w4 ⟨v, rfl, hown, hb4⟩
    obtain ⟨g4, c4, rfl, hg4, hz4⟩ := owns_pageB hown (by omega)
    have k0 := cell_later hb4 q0
    have k1 := cell_later hb4 q1
    have k2 := cell_later hb4 q2
    have l0 := World.block_lt_of_cell? _ _ k0
    simp only at l0
    have HB4 := Lib.hid hb4
    have HZ4 := Lib.hid hz4
    clear hb4 hz4 q0 q1 q2 hown
    go_wp2_with ((go_at_call 26; refine (when_any _ _ _).mono ?_; rintro e w' ⟨rfl, rfl⟩))
    obtain ⟨w5, hw5⟩ : ∃ w5, w5 = w4.alloc (.cells #[.int .i64 W, .int .i64 H, .slice (some ⟨g4, 0, none⟩) (W * H) c4] 24) := ⟨_, rfl⟩
    have B5 : Below w4.heap.size w4 w5 := by rw [hw5]; exact new_below _ _
    obtain ⟨a0, a1, a2, _, _, _⟩ := block3 (w := w5) (b := w4.heap.size) (x := .int .i64 W) (y := .int .i64 H) (z := .slice (some ⟨g4, 0, none⟩) (W * H) c4) (t := 24) (by rw [hw5]; exact heap_alloc_new _ _)
    have q0 := cell_later B5 k0
    have q1 := cell_later B5 k1
    have q2 := cell_later B5 k2
    rw [← hw5]
    clear hw5 k0 k1 k2
    have z5 := Lib.hid (fun j (hj : j < W * H) => cell_later (below_step HB4.out B5) (HZ3.out j hj))
    have s5 := Lib.hid (fun j (hj : j < W * H) => cell_later B5 (HZ4.out j hj))
    have HB5 := Lib.hid (below_step (below_step HB3.out HB4.out) B5)
    clear B5
    go_region_held3 (fun w' => w'.cell? ⟨w.heap.size, 0, none⟩ = some (.int .i64 W) ∧ w'.cell? ⟨w.heap.size, 1, none⟩ = some (.int .i64 H) ∧ w'.cell? ⟨w.heap.size, 2, none⟩ = some (.slice (some ⟨g, 0, none⟩) (W * H) cc) ∧
        w'.cell? ⟨w4.heap.size, 0, none⟩ = some (.int .i64 W) ∧ w'.cell? ⟨w4.heap.size, 1, none⟩ = some (.int .i64 H) ∧ w'.cell? ⟨w4.heap.size, 2, none⟩ = some (.slice (some ⟨g4, 0, none⟩) (W * H) c4))
      (first | (go_keep; done) | (go_split_ands; exact ⟨cell_later hb8 (by assumption), cell_later hb8 (by assumption), cell_later hb8 (by assumption), cell_later hb8 (by assumption), cell_later hb8 (by assumption), cell_later hb8 (by assumption)⟩) | (go_split_ands; exact ⟨cell_later hb9 (by assumption), cell_later hb9 (by assumption), cell_later hb9 (by assumption), cell_later hb9 (by assumption), cell_later hb9 (by assumption), cell_later hb9 (by assumption)⟩))
      ((first | (go_at_call 86; (with_reducible refine (localR_any W H g 0 cc R part z _ HZB.out ⟨hW1, by omega⟩ ⟨hH1, by omega⟩ (by omega) (by have := HR.out; omega) HT.out (fun j hj => cell_later (Below.refl _ _).drew (z5.out j hj))).mono ?_); rintro e w8 ⟨g8, c8, rfl, hz8, hb8⟩; have Z8 := Lib.hid hz8; clear hz8) | (go_at_call 85; (with_reducible refine (alike_ok W H g4 0 g8 0 (W * H) c4 c8 (fun j => localB z W H R part (j % W) (j / W)) w8 (by omega) (fun j hj => cell_later (below_step (Below.refl _ _).drew hb8) (s5.out j hj)) Z8.out).mono ?_); rintro e w9 ⟨rfl, hb9⟩)))
    go_wp2_with fail
    go_ret
    exact ⟨rfl, below_step (below_step (below_step HB5.out (Below.refl _ _).drew) hb8) hb9⟩
  · have HR := Lib.hid hr
    have hw0 : whenI (decide (r < 1) || decide (100 < r) || decide (part < 0) || decide (1000 < part)) 3 = 3 := by rw [local_test, decide_eq_false hr]; rfl
    clear hr
    refine (local_bad W H r part _ (W * H) cc w3 HPE.out HR.out).mono ?_
    rintro e w4 ⟨rfl, hb4⟩
    have k0 := cell_later hb4 q0
    have k1 := cell_later hb4 q1
    have k2 := cell_later hb4 q2
    have l0 := World.block_lt_of_cell? _ _ k0
    simp only at l0
    have HB4 := Lib.hid hb4
    clear hb4 q0 q1 q2
    go_wp2_with (first | (go_at_call 26; refine (when_any _ _ _).mono ?_; rintro e w' ⟨rfl, rfl⟩))
    all_goals
      obtain ⟨w5, hw5⟩ : ∃ w5, w5 = w4.alloc (.cells #[.int .i64 0, .int .i64 0, .slice none 0 0] 24) := ⟨_, rfl⟩
      have B5 : Below w4.heap.size w4 w5 := by rw [hw5]; exact new_below _ _
      rw [← hw5]
      clear hw5
      refine (alike_err 3 _ _ _ _ _ w5 (by decide)).mono ?_
      rintro e w8 ⟨rfl, hb8⟩
      go_wp2_with fail
      go_ret
      exact ⟨rfl, below_step (below_step (below_step HB3.out HB4.out) B5) hb8⟩

end Go.Proofs.Ytejhmobpepllcaa
