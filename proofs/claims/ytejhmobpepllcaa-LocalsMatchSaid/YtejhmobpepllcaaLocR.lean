/-
  The reference's Local.
-/
import Derived.Test.YtejhmobpepllcaaArl
import Derived.Test.YtejhmobpepllcaaLoc
import Derived.Test.YtejhmobpepllcaaMade
namespace Go.Proofs.Ytejhmobpepllcaa
open Go.RowKit
set_option linter.unusedSimpArgs false
set_option linter.unusedVariables false

/-- The sum of the first k of a list. -/
def headSum (xs : List Int) (k : Nat) : Int := (xs.take k).sum
theorem headSum_succ (xs : List Int) (k : Nat) (h : k < xs.length) : headSum xs (k + 1) = headSum xs k + xs.getD k 0 := by
  unfold headSum
  rw [List.take_succ_eq_append_getElem h, List.sum_append, List.getD_eq_getElem?_getD, List.getElem?_eq_getElem h]
  simp
theorem headSum_bounds (xs : List Int) (hx : ∀ v ∈ xs, 0 ≤ v ∧ v ≤ 255) (k : Nat) (h : k ≤ xs.length) : 0 ≤ headSum xs k ∧ headSum xs k ≤ 255 * k := by
  induction k with
  | zero => simp [headSum]
  | succ k ih =>
    have hm : xs.getD k 0 ∈ xs := by rw [List.getD_eq_getElem?_getD, List.getElem?_eq_getElem (by omega)]; exact List.getElem_mem _
    have := hx _ hm
    have := ih (by omega)
    rw [headSum_succ xs k (by omega)]
    omega

set_option maxHeartbeats 1000000 in
set_option maxRecDepth 100000 in
theorem localR1_any (W H pb po c x y r gb rb tb : Nat) (part : Int) (P : Nat → Int) (w : World) (hP : ∀ j, 0 ≤ P j ∧ P j ≤ 255) (hW : W ≤ 4000) (hH : H ≤ 4000) (hN : W * H ≤ 1048576) (hx : x < W) (hy : y < H) (hr : r ≤ 1000) (hpt : 0 ≤ part ∧ part ≤ 1000)
    (h0 : w.cell? ⟨gb, 0, none⟩ = some (.int .i64 W)) (h1 : w.cell? ⟨gb, 1, none⟩ = some (.int .i64 H)) (h2 : w.cell? ⟨gb, 2, none⟩ = some (.slice (some ⟨pb, po, none⟩) (W * H) c)) (h3 : w.cell? ⟨rb, 0, none⟩ = some (.int .i64 r)) (h4 : w.cell? ⟨tb, 0, none⟩ = some (.int .i64 part))
    (hp : ∀ j, j < W * H → w.cell? ⟨pb, po + j, none⟩ = some (.int .u8 (P j))) :
    Calls Try.prog 146 #[.int .i64 x, .int .i64 y, .pointer (some ⟨gb, 0, none⟩), .pointer (some ⟨rb, 0, none⟩), .pointer (some ⟨tb, 0, none⟩)] w fun e w' => e = .returned (.bool (localB P W H r part x y)) ∧ Below w.heap.size w w' := by
  have HA := Lib.hid (aroundR_any W H pb po c x y r P w hP hW hH hN hx hy hr hp)
  have hfit := row_fits hy (show x + 1 ≤ W by omega)
  have hc := hp (y * W + x) (by omega)
  have hpv := hP (y * W + x)
  obtain ⟨nx, hnx⟩ : ∃ nx, nx = min (x + r + 1) W - (x - r) := ⟨_, rfl⟩
  obtain ⟨ny, hny⟩ : ∃ ny, ny = min (y + r + 1) H - (y - r) := ⟨_, rfl⟩
  have hmx := Nat.mul_le_mul (show nx ≤ W by omega) (show ny ≤ H by omega)
  have hpos := Nat.mul_pos (show 0 < nx by omega) (show 0 < ny by omega)
  have hmany : squareMany W H r x y = ((nx * ny : Nat) : Int) := by
    unfold squareMany
    rw [Int.natCast_mul, show (nx : Int) = ((min (x + r + 1) W : Nat) : Int) - ((x - r : Nat) : Int) by omega, show (ny : Int) = ((min (y + r + 1) H : Nat) : Int) - ((y - r : Nat) : Int) by omega]
  obtain ⟨xs, hxs⟩ : ∃ xs, xs = rectVals P W (y - r) (x - r) nx ny := ⟨_, rfl⟩
  rw [← hnx, ← hny, ← hxs] at HA
  have hlen : xs.length = nx * ny := by rw [hxs, rectVals_length]
  have hsum : squareSum P W H r x y = headSum xs (nx * ny) := by
    unfold squareSum headSum
    rw [← hnx, ← hny, ← rectVals_sum, ← hxs, List.take_of_length_le (by omega)]
  have hbx : ∀ v ∈ xs, 0 ≤ v ∧ v ≤ 255 := by rw [hxs]; exact rectVals_bounds P hP W _ _ nx ny
  obtain ⟨n, hn⟩ : ∃ n, n = nx * ny := ⟨_, rfl⟩
  rw [← hn] at HA hmx hpos hmany hlen hsum
  have hn' : n ≤ 1048576 := by omega
  have hsb := headSum_bounds xs hbx n (by omega)
  obtain ⟨p, hpe⟩ : ∃ p, p = P (y * W + x) := ⟨_, rfl⟩
  have hout : localB P W H r part x y = decide (p * (n : Int) * 1000 < headSum xs n * (1000 - part)) := by unfold localB; rw [← hpe, hmany, hsum]
  rw [← hpe] at hc hpv
  have HOUT := Lib.hid hout
  have HLEN := Lib.hid hlen
  have HBX := Lib.hid hbx
  have x0 : (0 : Int) ≤ (y : Int) * (W : Int) := Int.mul_nonneg (by omega) (by omega)
  have x1 : (y : Int) * (W : Int) + (x : Int) < ((W * H : Nat) : Int) := by rw [← Int.natCast_mul]; omega
  have x3 : (y : Int) * (W : Int) + (x : Int) < (W : Int) * (H : Int) := by rw [← Int.natCast_mul, ← Int.natCast_mul]; omega
  have x2 : ((W * H : Nat) : Int) ≤ 1048576 := by omega
  obtain ⟨t0, t1⟩ := mul_small' hpv.1 (by omega : (0 : Int) ≤ (n : Int)) hpv.2 (by omega : (n : Int) ≤ 1048576)
  obtain ⟨S, hS⟩ : ∃ S, S = headSum xs n := ⟨_, rfl⟩
  rw [← hS] at hsb HOUT
  obtain ⟨s0, s1⟩ := mul_small' hsb.1 (by omega : 0 ≤ 1000 - part) (by omega : S ≤ 300000000) (by omega : 1000 - part ≤ 1000)
  have HS := Lib.hid hS
  have hS2 : S ≤ 300000000 := by omega
  clear hp hP hfit hnx hny hmany hxs hlen hsum hbx hn hout hpe hS hmx
  go_enter Try.func146, Try.ntmps146
  go_wp2_with fail
  refine HA.out.mono ?_
  rintro e w1 ⟨v, rfl, hown, hb⟩
  obtain ⟨gl, cl, rfl⟩ : ∃ g cap, v = .slice (some ⟨g, 0, none⟩) n cap := by
    rcases hown.2 with ⟨_, h0⟩ | ⟨g, cap, cur, rfl, _⟩
    · omega
    · exact ⟨g, cap, rfl⟩
  have hcell : ∀ j, j < n → w1.cell? ⟨gl, j, none⟩ = some (.int .i64 (xs.getD j 0)) := fun j hj => by
    rw [hown.cellAt j (by omega), List.getElem?_map, List.getD_eq_getElem?_getD, List.getElem?_eq_getElem (by rw [HLEN.out]; omega)]
    rfl
  have HCELL := Lib.hid hcell
  have k0 := cell_later hb h0
  have k2 := cell_later hb h2
  have k4 := cell_later hb h4
  have kc := cell_later hb hc
  have HB := Lib.hid hb
  clear hcell hown hb h0 h1 h2 h3 h4 hc
  go_wp2_with fail
  go_loop [9, 19] (fun s i => ∃ (k : Nat) (sv : Int), k ≤ n ∧ i = .int .i64 k ∧ s = .int .i64 sv ∧ 0 ≤ sv ∧ sv ≤ 300000000 ∧ Hid (sv = headSum xs k)) (fun _ i => n - (intOf i).toNat)
  case atStart => exact ⟨0, 0, Nat.zero_le _, rfl, rfl, by omega, by omega, Lib.hid (by simp [headSum])⟩
  case round =>
    obtain ⟨k, sv, hk, rfl, rfl, v0, v1, hv⟩ := hrel
    by_cases hlt : k < n
    · have hck := HCELL.out k hlt
      have hs := headSum_succ xs k (by rw [HLEN.out]; omega)
      have hb1 := headSum_bounds xs HBX.out (k + 1) (by rw [HLEN.out]; omega)
      have hb2 := headSum_bounds xs HBX.out k (by rw [HLEN.out]; omega)
      have hqb := HBX.out (xs.getD k 0) (by rw [List.getD_eq_getElem?_getD, List.getElem?_eq_getElem (by rw [HLEN.out]; omega)]; exact List.getElem_mem _)
      obtain ⟨q, hq⟩ : ∃ q, q = xs.getD k 0 := ⟨_, rfl⟩
      rw [← hq] at hck hs hqb
      have HS1 := Lib.hid hs
      have e1 : sv + q ≤ 300000000 := by have := hv.out; omega
      have HN := Lib.hid (show sv + q = headSum xs (k + 1) by rw [hs, hv.out])
      clear hq hs hb1 hb2
      go_wp2_with fail
      go_round
      case rel => exact ⟨k + 1, sv + q, by omega, by go_num, rfl, by omega, e1, HN⟩
      case measure => simp [intOf]; omega
    · obtain rfl : k = n := by omega
      have hvs : sv = S := by rw [hv.out, HS.out]
      subst hvs
      have HV := Lib.hid hv
      clear hv
      go_wp2_with fail
      go_quiet (fail)
      go_wp2
      go_ret
      exact ⟨by rw [HOUT.out]; rfl, below_drewN HB.out _⟩

set_option maxHeartbeats 400000 in
set_option maxRecDepth 100000 in
theorem localR_any (W H g o c r : Nat) (part : Int) (P : Nat → Int) (w : World) (hP : ∀ j, 0 ≤ P j ∧ P j ≤ 255) (hW : 1 ≤ W ∧ W ≤ 4000) (hH : 1 ≤ H ∧ H ≤ 4000) (hN : W * H ≤ 1048576) (hr : r ≤ 1000) (hpt : 0 ≤ part ∧ part ≤ 1000) (hc : ∀ j, j < W * H → w.cell? ⟨g, o + j, none⟩ = some (.int .u8 (P j))) :
    Calls Try.prog 86 #[.agg #[.int .i64 W, .int .i64 H, .slice (some ⟨g, o, none⟩) (W * H) c], .int .i64 r, .int .i64 part] w fun e w' =>
      ∃ g' c', e = .returned (.agg #[.int .i64 W, .int .i64 H, .slice (some ⟨g', 0, none⟩) (W * H) c']) ∧ (∀ j, j < W * H → w'.cell? ⟨g', 0 + j, none⟩ = some (.bool (localB P W H r part (j % W) (j / W)))) ∧ Below w.heap.size w w' := by
  have hmf : ∀ (fn : Fn) (first cap : Array Value) (w : World), (Instr.makeFunc fn first cap).run Try.prog w = .ok (.func fn first cap) w := fun _ _ _ _ => rfl
  have HC := Lib.hid hc
  have HP := Lib.hid hP
  have HT := Lib.hid hpt
  clear hc hP hpt
  obtain ⟨hW1, hW2⟩ := hW
  obtain ⟨hH1, hH2⟩ := hH
  go_enter Try.func86, Try.ntmps86
  go_wp2_with fail
  obtain ⟨w3, hw3⟩ : ∃ w3, w3 = ((((w.alloc (.cells #[.int .i64 W, .int .i64 H, .slice (some ⟨g, o, none⟩) (W * H) c] 27)).alloc (.cells #[.int .i64 r] 3)).alloc (.cells #[.int .i64 part] 3)).alloc (.cells #[.int .i64 0, .int .i64 0, .slice none 0 0] 24)) := ⟨_, rfl⟩
  have B3 : Below w.heap.size w w3 := by rw [hw3]; exact below_alloc (below_alloc (below_alloc (new_below _ _) _) _) _
  have q0 : w3.cell? ⟨w.heap.size, 0, none⟩ = some (.int .i64 W) := by rw [hw3]; go_simp
  have q1 : w3.cell? ⟨w.heap.size, 1, none⟩ = some (.int .i64 H) := by rw [hw3]; go_simp
  have q2 : w3.cell? ⟨w.heap.size, 2, none⟩ = some (.slice (some ⟨g, o, none⟩) (W * H) c) := by rw [hw3]; go_simp
  have q3 : w3.cell? ⟨w.heap.size + 1, 0, none⟩ = some (.int .i64 r) := by rw [hw3]; go_simp
  have q4 : w3.cell? ⟨w.heap.size + 1 + 1, 0, none⟩ = some (.int .i64 part) := by rw [hw3]; go_simp
  have qb : w3.heap[w.heap.size + 1 + 1 + 1]? = some (.cells #[.int .i64 0, .int .i64 0, .slice none 0 0] 24 (0, 0)) := by
    rw [hw3]
    simpa using heap_alloc_new (((w.alloc (.cells #[.int .i64 W, .int .i64 H, .slice (some ⟨g, o, none⟩) (W * H) c] 27)).alloc (.cells #[.int .i64 r] 3)).alloc (.cells #[.int .i64 part] 3)) (.cells #[.int .i64 0, .int .i64 0, .slice none 0 0] 24)
  rw [← hw3]
  clear hw3
  have LQ := Lib.hid (Array.getElem?_eq_some_iff.1 qb).1
  refine (made_any W H 146 _ (localB P W H r part) w3 (by omega) (by omega) (by omega) (by omega) (Go.Proofs.enters_of Try.func146 (by kernel_rfl) rfl) ?_).mono ?_
  · intro x y wx hx hy hbx
    exact localR1_any W H g o c x y r w.heap.size (w.heap.size + 1) (w.heap.size + 1 + 1) part P wx HP.out (by omega) (by omega) hN hx hy hr HT.out (cell_later hbx q0) (cell_later hbx q1) (cell_later hbx q2) (cell_later hbx q3) (cell_later hbx q4) (fun j hj => cell_later hbx (cell_later B3 (HC.out j hj)))
  · rintro e w5 ⟨v, rfl, hown, hb5⟩
    obtain ⟨j0, j1, j2, r0, r1, r2⟩ := block3 (below_block hb5 qb)
    obtain ⟨g', c', rfl, hg', hz⟩ := owns_pageB hown (Nat.mul_pos hW1 hH1)
    have F := Lib.hid hz
    have G := Lib.hid hb5
    have B := Lib.hid B3
    clear hown hb5 q0 q1 q2 q3 q4 qb B3 hz
    go_wp2_with fail
    refine bodyPost_ret (v := .agg #[.int .i64 W, .int .i64 H, .slice (some ⟨g', 0, none⟩) (W * H) c']) (by simp [results, Try.results86, go_sem, j0, j1, j2]) rfl ?_
    have hl := LQ.out
    exact ⟨g', c', rfl, fun j hj => cell_far3 (by simp; omega) (F.out j hj), below_far3 (below_step B.out G.out) (by omega)⟩

end Go.Proofs.Ytejhmobpepllcaa
