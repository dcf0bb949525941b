/-
  clean.Auto of a right page; the walk of the law LevelsMatch: it returns true, and turns nothing that was there.
-/
import Derived.Test.YtejhmobpepllcaaLevR
import Derived.Test.YtejhmobpepllcaaFit
import Derived.Test.YtejhmobpepllcaaSame
import Derived.Test.YtejhmobpepllcaaCutsA
import Derived.Test.YtejhmobpepllcaaSz
namespace Go.Proofs.Ytejhmobpepllcaa
open Go.RowKit
set_option linter.unusedSimpArgs false
set_option linter.unusedVariables false
attribute [local go_sem ↓] Go.wp_at_zero Go.wp_at_succ

theorem start_bounds {z : Nat → Int} {n : Nat} {mn mx : Int} (hz : ∀ j, 0 ≤ z j ∧ z j ≤ 255) (h1 : IsMin z n mn) (h2 : IsMax z n mx) : 0 ≤ (mn + mx + 1) / 2 ∧ (mn + mx + 1) / 2 ≤ 255 := by
  obtain ⟨j, _, e⟩ := h1.1
  obtain ⟨i, _, e'⟩ := h2.1
  have := hz j
  have := hz i
  omega

theorem row_back (j W : Nat) : j / W * W + j % W = j := by rw [Nat.mul_comm]; exact Nat.div_add_mod j W

set_option maxHeartbeats 400000 in
set_option maxRecDepth 100000 in
theorem auto_ok (W H g o c : Nat) (mn mx : Int) (z : Nat → Int) (w : World) (hs : sizeErr W H = 0) (hzb : ∀ j, 0 ≤ z j ∧ z j ≤ 255) (hmn : IsMin z (W * H) mn) (hmx : IsMax z (W * H) mx)
    (hp : ∀ j, j < W * H → w.cell? ⟨g, o + j, none⟩ = some (.int .u8 (z j))) :
    Calls Try.prog 80 #[.agg #[.int .i64 W, .int .i64 H, .slice (some ⟨g, o, none⟩) (W * H) c]] w fun e w' =>
      ∃ g' c', e = .returned (.tuple #[.agg #[.int .i64 W, .int .i64 H, .slice (some ⟨g', 0, none⟩) (W * H) c'], .int .i64 0]) ∧ (∀ j, j < W * H → w'.cell? ⟨g', 0 + j, none⟩ = some (.bool (decide (z j < levelGo z (W * H) 100 ((mn + mx + 1) / 2))))) ∧ Below w.heap.size w w' := by
  obtain ⟨⟨a1, a2, a3, a4⟩, z0, z1⟩ := sizeErr_zero hs
  have HS := Lib.hid hs
  have HZ := Lib.hid hzb
  have HC := Lib.hid hp
  have HMN := Lib.hid hmn
  have HMX := Lib.hid hmx
  have hlb := levelGo_bounds z hzb (W * H) 100 _ (start_bounds hzb hmn hmx)
  obtain ⟨L, hL⟩ : ∃ L, L = levelGo z (W * H) 100 ((mn + mx + 1) / 2) := ⟨_, rfl⟩
  rw [← hL] at hlb ⊢
  have HL := Lib.hid hL
  clear hs hzb hp z0 z1 hmn hmx hL
  go_enter Try.func80, Try.ntmps80
  go_wp2_with fail
  obtain ⟨w1, hw1⟩ : ∃ w1, w1 = ((w.alloc (.cells #[.int .i64 W, .int .i64 H, .slice (some ⟨g, o, none⟩) (W * H) c] 27)).alloc (.cells #[.int .i64 0, .int .i64 0, .slice none 0 0] 24)) := ⟨_, rfl⟩
  have B1 : Below w.heap.size w w1 := by rw [hw1]; exact below_alloc (new_below _ _) _
  have q0 : w1.cell? ⟨w.heap.size, 0, none⟩ = some (.int .i64 W) := by rw [hw1]; go_simp
  have q1 : w1.cell? ⟨w.heap.size, 1, none⟩ = some (.int .i64 H) := by rw [hw1]; go_simp
  have q2 : w1.cell? ⟨w.heap.size, 2, none⟩ = some (.slice (some ⟨g, o, none⟩) (W * H) c) := by rw [hw1]; go_simp
  have qb : w1.heap[w.heap.size + 1]? = some (.cells #[.int .i64 0, .int .i64 0, .slice none 0 0] 24 (0, 0)) := by
    rw [hw1]
    simpa using heap_alloc_new (w.alloc (.cells #[.int .i64 W, .int .i64 H, .slice (some ⟨g, o, none⟩) (W * H) c] 27)) (.cells #[.int .i64 0, .int .i64 0, .slice none 0 0] 24)
  rw [← hw1]
  clear hw1
  have LQ := Lib.hid (Array.getElem?_eq_some_iff.1 qb).1
  have HB1 := Lib.hid B1
  refine (level_ok W H g o (W * H) c z w1 HS.out rfl HZ.out (fun j hj => cell_later B1 (HC.out j hj))).mono ?_
  rintro e w2 ⟨mn', mx', h1, h2, rfl, hb2⟩
  obtain rfl := h1.one HMN.out
  obtain rfl := h2.one HMX.out
  rw [← HL.out]
  have k0 := cell_later hb2 q0
  have k1 := cell_later hb2 q1
  have k2 := cell_later hb2 q2
  have kb := below_block hb2 qb
  have HB2 := Lib.hid (below_step B1 hb2)
  have L2 := Lib.hid (Nat.lt_of_lt_of_le LQ.out hb2.size)
  clear q0 q1 q2 qb hb2 B1 h1 h2
  go_wp2_with fail
  refine (toBits_ok W H g o c L z w2 HS.out ⟨hlb.1, by omega⟩ HZ.out (fun j hj => cell_later HB2.out (HC.out j hj))).mono ?_
  rintro e w3 ⟨v, rfl, hown, hb3⟩
  obtain ⟨g', c', rfl, hg', hz⟩ := owns_pageB hown (Nat.mul_pos (by omega) (by omega))
  obtain ⟨j0, j1, j2, r0, r1, r2⟩ := block3 (below_block hb3 kb)
  have F := Lib.hid hz
  have G := Lib.hid hb3
  have HG := Lib.hid hg'
  clear k0 k1 k2 kb hown hz hb3 hg'
  go_wp2_with fail
  refine bodyPost_ret (v := .tuple #[.agg #[.int .i64 W, .int .i64 H, .slice (some ⟨g', 0, none⟩) (W * H) c'], .int .i64 0]) (by simp [results, Try.results80, go_sem, j0, j1, j2]) rfl ?_
  have hl := L2.out
  have hg := HG.out
  refine ⟨g', c', rfl, fun j hj => ?_, below_far3 (below_step HB2.out G.out) (by omega)⟩
  have := F.out j hj
  rw [row_back] at this
  exact cell_far3 (by simp; omega) this

set_option maxHeartbeats 400000 in
set_option maxRecDepth 100000 in
theorem levels1_any (W H x y gb tb pb po c : Nat) (P : Nat → Int) (t : Int) (w : World) (hW : W ≤ 4000) (hH : H ≤ 4000) (hx : x < W) (hy : y < H) (hP : 0 ≤ P (y * W + x) ∧ P (y * W + x) ≤ 255)
    (h0 : w.cell? ⟨gb, 0, none⟩ = some (.int .i64 W)) (h2 : w.cell? ⟨gb, 2, none⟩ = some (.slice (some ⟨pb, po, none⟩) (W * H) c)) (h3 : w.cell? ⟨tb, 0, none⟩ = some (.int .i64 t)) (hp : w.cell? ⟨pb, po + (y * W + x), none⟩ = some (.int .u8 (P (y * W + x)))) :
    Calls Try.prog 82 #[.int .i64 x, .int .i64 y, .pointer (some ⟨gb, 0, none⟩), .pointer (some ⟨tb, 0, none⟩)] w fun e w' => e = .returned (.bool (decide (P (y * W + x) < t))) ∧ Below w.heap.size w w' := by
  have hfit := row_fits hy (show x + 1 ≤ W by omega)
  have hN := Nat.mul_le_mul hW hH
  have x0 : (0 : Int) ≤ (y : Int) * (W : Int) := Int.mul_nonneg (by omega) (by omega)
  have x1 : (y : Int) * (W : Int) + (x : Int) < ((W * H : Nat) : Int) := by rw [← Int.natCast_mul]; omega
  have x3 : (y : Int) * (W : Int) + (x : Int) < (W : Int) * (H : Int) := by rw [← Int.natCast_mul, ← Int.natCast_mul]; omega
  have x2 : ((W * H : Nat) : Int) ≤ 16000000 := by omega
  obtain ⟨p, hpe⟩ : ∃ p, p = P (y * W + x) := ⟨_, rfl⟩
  rw [← hpe] at hp hP ⊢
  clear hfit hN hpe
  go_enter Try.func82, Try.ntmps82
  go_wp2_with fail
  go_quiet (fail)
  go_wp2
  go_ret
  exact ⟨rfl, below_drewN (Below.refl _ _) _⟩

set_option maxHeartbeats 2000000 in
set_option maxRecDepth 100000 in
theorem levels_any (a b : Int) (s : Option Addr) (n c : Nat) (zs : List Int) (w : World) (hn : n ≤ 9223372036854775807) (hs : IsBytes w s n c zs) :
    Calls Try.prog 8 #[.agg #[.int .i64 a, .int .i64 b, .slice s n c]] w fun e w' => e = .returned (.bool true) ∧ Below w.heap.size w w' := by
  have hmf : ∀ (fn : Fn) (first cap : Array Value) (w : World), (Instr.makeFunc fn first cap).run Try.prog w = .ok (.func fn first cap) w := fun _ _ _ _ => rfl
  have HS := Lib.hid hs
  clear hs
  go_enter Try.func8, Try.ntmps8
  go_wp2_with ((go_at_call 77; refine (landed_any _).mono ?_; rintro e w' ⟨rfl, rfl⟩))
  obtain ⟨w1, hw1⟩ : ∃ w1, w1 = w.alloc (.cells #[.int .i64 a, .int .i64 b, .slice s n c] 27) := ⟨_, rfl⟩
  have B1 : Below w.heap.size w w1 := by rw [hw1]; exact new_below _ _
  have qb : w1.heap[w.heap.size]? = some (.cells #[.int .i64 a, .int .i64 b, .slice s n c] 27 (0, 0)) := by rw [hw1]; exact heap_alloc_new _ _
  rw [← hw1]
  clear hw1
  refine (fitGray_any a b s n c zs w1 hn (isBytes_later HS.out B1)).mono ?_
  rintro e w2 ⟨W, H, g, cc, z, rfl, ⟨hW1, hW2, hH1, hH2⟩, hzb, hz, hg, hb2⟩
  obtain ⟨j0, j1, j2, r0, r1, r2⟩ := block3 (below_block hb2 qb)
  have l1 := Lib.hid (Array.getElem?_eq_some_iff.1 qb).1
  have B2 := Lib.hid (below_step B1 hb2)
  have QB := Lib.hid (below_block hb2 qb)
  have HZ := Lib.hid hz
  have HZB := Lib.hid hzb
  have hg' := Lib.hid hg
  clear hz hzb hb2 B1 qb hg
  go_wp2_with fail
  obtain ⟨w3, hw3⟩ : ∃ w3, w3 = (((w2.setCell ⟨w.heap.size, 0, none⟩ (.int .i64 W)).setCell ⟨w.heap.size, 1, none⟩ (.int .i64 H)).setCell ⟨w.heap.size, 2, none⟩ (.slice (some ⟨g, 0, none⟩) (W * H) cc)) := ⟨_, rfl⟩
  have B3 : Below w.heap.size w w3 := by rw [hw3]; exact below_far3 B2.out (Nat.le_refl _)
  have qb : w3.heap[w.heap.size]? = some (.cells #[.int .i64 W, .int .i64 H, .slice (some ⟨g, 0, none⟩) (W * H) cc] 27 (0, 0)) := by rw [hw3]; exact far3_same QB.out
  have hz3 : ∀ j, j < W * H → w3.cell? ⟨g, 0 + j, none⟩ = some (.int .u8 (z j)) := fun j hj => by
    rw [hw3]
    exact cell_far3 (by have := l1.out; have := hg'.out; simp; omega) (HZ.out j hj)
  obtain ⟨q0, q1, q2, _, _, _⟩ := block3 qb
  rw [← hw3]
  clear hw3 j0 j1 j2 r0 r1 r2
  obtain ⟨he, hpe, hN1, hN2⟩ := small_size16 ⟨hW1, hW2⟩ ⟨hH1, hH2⟩
  have HE := Lib.hid he
  have HZ3 := Lib.hid hz3
  have HB3 := Lib.hid B3
  clear he hpe hz3 B3 HZ QB qb
  refine (level_ok W H g 0 (W * H) cc z w3 HE.out rfl HZB.out HZ3.out).mono ?_
  rintro e w4 ⟨mn, mx, hmn, hmx, rfl, hb4⟩
  have HMN := Lib.hid hmn
  have HMX := Lib.hid hmx
  have k0 := cell_later hb4 q0
  have k1 := cell_later hb4 q1
  have k2 := cell_later hb4 q2
  have HB4 := Lib.hid hb4
  obtain ⟨L, hL⟩ : ∃ L, L = levelGo z (W * H) 100 ((mn + mx + 1) / 2) := ⟨_, rfl⟩
  rw [← hL]
  have HL := Lib.hid hL
  clear hmn hmx q0 q1 q2 hb4 hL
  go_wp2_with fail
  refine (auto_ok W H g 0 cc mn mx z w4 HE.out HZB.out HMN.out HMX.out (fun j hj => cell_later HB4.out (HZ3.out j hj))).mono ?_
  rintro e w5 ⟨g5, c5, rfl, hz5, hb5⟩
  rw [← HL.out] at hz5
  have q0 := cell_later hb5 k0
  have q1 := cell_later hb5 k1
  have q2 := cell_later hb5 k2
  have l0 := World.block_lt_of_cell? _ _ q0
  simp only at l0
  have HB5 := Lib.hid hb5
  have HZ5 := Lib.hid hz5
  clear k0 k1 k2 hb5 hz5
  go_wp2_with fail
  obtain ⟨w6, hw6⟩ : ∃ w6, w6 = w5.alloc (.cells #[.int .i64 W, .int .i64 H, .slice (some ⟨g5, 0, none⟩) (W * H) c5] 24) := ⟨_, rfl⟩
  have B6 : Below w5.heap.size w5 w6 := by rw [hw6]; exact new_below _ _
  obtain ⟨a0, a1, a2, _, _, _⟩ := block3 (w := w6) (b := w5.heap.size) (x := .int .i64 W) (y := .int .i64 H) (z := .slice (some ⟨g5, 0, none⟩) (W * H) c5) (t := 24) (by rw [hw6]; exact heap_alloc_new _ _)
  have k0 := cell_later B6 q0
  have k1 := cell_later B6 q1
  have k2 := cell_later B6 q2
  rw [← hw6]
  clear hw6 q0 q1 q2
  have z6 := Lib.hid (fun j (hj : j < W * H) => cell_later (below_step (below_step HB4.out HB5.out) B6) (HZ3.out j hj))
  have s6 := Lib.hid (fun j (hj : j < W * H) => cell_later B6 (HZ5.out j hj))
  have HB6 := Lib.hid (below_step (below_step (below_step HB3.out HB4.out) HB5.out) B6)
  clear B6 HB4 HB5 HZ3 HZ5
  refine (levelR_any W H mn mx g 0 (W * H) cc z w6 hN1 (by omega) HZB.out HMN.out HMX.out z6.out).mono ?_
  rintro e w7 ⟨rfl, hb7⟩
  rw [← HL.out]
  have q0 := cell_later hb7 k0
  have q1 := cell_later hb7 k1
  have q2 := cell_later hb7 k2
  have b0 := cell_later hb7 a0
  have b1 := cell_later hb7 a1
  have b2 := cell_later hb7 a2
  have l0' := World.block_lt_of_cell? _ _ q0
  have l1' := World.block_lt_of_cell? _ _ b0
  simp only at l0' l1'
  have z7 := Lib.hid (fun j (hj : j < W * H) => cell_later hb7 (z6.out j hj))
  have s7 := Lib.hid (fun j (hj : j < W * H) => cell_later hb7 (s6.out j hj))
  have HB7 := Lib.hid (below_step HB6.out hb7)
  clear k0 k1 k2 a0 a1 a2 hb7 z6 s6 HB6 l0
  go_wp2_with fail
  obtain ⟨w8, hw8⟩ : ∃ w8, w8 = w7.alloc (.cells #[.int .i64 L] 3) := ⟨_, rfl⟩
  have B8 : Below w7.heap.size w7 w8 := by rw [hw8]; exact new_below _ _
  have t0 : w8.cell? ⟨w7.heap.size, 0, none⟩ = some (.int .i64 L) := by rw [hw8]; go_simp
  have k0 := cell_later B8 q0
  have k1 := cell_later B8 q1
  have k2 := cell_later B8 q2
  have a0 := cell_later B8 b0
  have a1 := cell_later B8 b1
  have a2 := cell_later B8 b2
  rw [← hw8]
  clear hw8 q0 q1 q2 b0 b1 b2
  have z8 := Lib.hid (fun j (hj : j < W * H) => cell_later B8 (z7.out j hj))
  have s8 := Lib.hid (fun j (hj : j < W * H) => cell_later B8 (s7.out j hj))
  have HB8 := Lib.hid (below_step HB7.out B8)
  clear B8 z7 s7 HB7
  refine (made_any W H 82 _ (fun x y => decide (z (y * W + x) < L)) w8 (by omega) (by omega) (by omega) (by omega) (Go.Proofs.enters_of Try.func82 (by kernel_rfl) rfl) ?_).mono ?_
  · intro x y wx hx hy hbx
    have hfit := row_fits hy (show x + 1 ≤ W by omega)
    exact levels1_any W H x y w.heap.size w7.heap.size g 0 cc z L wx (by omega) (by omega) hx hy (HZB.out _) (cell_later hbx k0) (cell_later hbx k2) (cell_later hbx t0) (cell_later hbx (z8.out _ (by omega)))
  · rintro e w9 ⟨v, rfl, hown, hb9⟩
    obtain ⟨g9, c9, rfl, hg9, hz9⟩ := owns_pageB hown (by omega)
    have q0 := cell_later hb9 a0
    have q1 := cell_later hb9 a1
    have q2 := cell_later hb9 a2
    have tt := cell_later hb9 t0
    have m0 := World.block_lt_of_cell? _ _ tt
    have m1 := World.block_lt_of_cell? _ _ q0
    simp only at m0 m1
    have z9 : ∀ j, j < W * H → w9.cell? ⟨g9, 0 + j, none⟩ = some (.bool (decide (z j < L))) := fun j hj => by have := hz9 j hj; rwa [row_back] at this
    have Z9 := Lib.hid z9
    have S9 := Lib.hid (fun j (hj : j < W * H) => cell_later hb9 (s8.out j hj))
    have HB9 := Lib.hid (below_step HB8.out hb9)
    clear hown hb9 hz9 z9 a0 a1 a2 t0 k0 k1 k2 s8 z8 HB8 hg9 l0' l1'
    go_wp2_with fail
    obtain ⟨w10, hw10⟩ : ∃ w10, w10 = w9.alloc (.cells #[.int .i64 W, .int .i64 H, .slice (some ⟨g9, 0, none⟩) (W * H) c9] 24) := ⟨_, rfl⟩
    have B10 : Below w9.heap.size w9 w10 := by rw [hw10]; exact new_below _ _
    rw [← hw10]
    clear hw10
    refine (sameBits_true W H g5 0 g9 0 (W * H) c5 c9 (fun j => decide (z j < L)) w10 (by omega) (fun j hj => cell_later B10 (S9.out j hj)) (fun j hj => cell_later B10 (Z9.out j hj))).mono ?_
    rintro e w11 ⟨rfl, hb11⟩
    go_wp2_with fail
    go_ret
    exact ⟨rfl, below_step (below_step HB9.out B10) hb11⟩

end Go.Proofs.Ytejhmobpepllcaa
