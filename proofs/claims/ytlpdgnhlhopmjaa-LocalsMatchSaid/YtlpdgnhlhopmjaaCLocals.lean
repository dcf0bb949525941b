/-
  LocalsMatch returns true for every page in grey, every radius and every part, and each argument reads afterwards as it read before. No conditions.
-/
import Derived.Test.YtlpdgnhlhopmjaaRows
import Derived.WalkKit
import Derived.WalkSpells
import Derived.WalkLawsBesides
import Derived.Lib.Hide
import Derived.Deep.RegionHeld3
import Derived.Shelf.Abstract
import Derived.Lib.MinMax
import Derived.Deep.QuietTactic
import Derived.BigQuiet
import Derived.Deep.CutRange
import Derived.Deep.DeepCutAuto
import Derived.Laws.EntriesVeiled
import Derived.StillTailTactics
import Derived.Deep.AppendLies
import Derived.Deep.DrawnRows
import Derived.Deep.RegionLaw
import Derived.ProofKit
import Derived.OpenShut
import Derived.ShutString
import Derived.ChangeOld
import Derived.Lib.SmallJoins
import Derived.Deep.Grids
import Derived.RegionTactic
import Derived.ChangeAlike
import Derived.BigRegion
import Derived.Test.YtlpdgnhlhopmjaaCLocals2
namespace Go.Proofs.Ytlpdgnhlhopmjaa
open Go.RowKit
set_option linter.unusedSimpArgs false
set_option linter.unusedVariables false

/-- The sum of the first k of a list. -/
def headSum (xs : List Int) (k : Nat) : Int := (xs.take k).sum
theorem headSum_succ (xs : List Int) (k : Nat) (h : k < xs.length) : headSum xs (k + 1) = headSum xs k + xs.getD k 0 := by
  unfold headSum
  rw [List.take_succ_eq_append_getElem h, List.sum_append, List.getD_eq_getElem?_getD, List.getElem?_eq_getElem h]
  simp
theorem headSum_bounds (xs : List Int) (hx : ∀ v ∈ xs, 0 ≤ v ∧ v ≤ 255) (k : Nat) (h : k ≤ xs.length) : 0 ≤ headSum xs k ∧ headSum xs k ≤ 255 * k := by
  induction k with
  | zero => simp [headSum]
  | succ k ih =>
    have hm : xs.getD k 0 ∈ xs := by rw [List.getD_eq_getElem?_getD, List.getElem?_eq_getElem (by omega)]; exact List.getElem_mem _
    have := hx _ hm
    have := ih (by omega)
    rw [headSum_succ xs k (by omega)]
    omega

set_option maxHeartbeats 1000000 in
set_option maxRecDepth 100000 in
theorem localR1_any (W H pb po c x y r gb rb tb : Nat) (part : Int) (P : Nat → Int) (w : World) (hP : ∀ j, 0 ≤ P j ∧ P j ≤ 255) (hW : W ≤ 4000) (hH : H ≤ 4000) (hN : W * H ≤ 1048576) (hx : x < W) (hy : y < H) (hr : r ≤ 1000) (hpt : 0 ≤ part ∧ part ≤ 1000)
    (h0 : w.cell? ⟨gb, 0, none⟩ = some (.int .i64 W)) (h1 : w.cell? ⟨gb, 1, none⟩ = some (.int .i64 H)) (h2 : w.cell? ⟨gb, 2, none⟩ = some (.slice (some ⟨pb, po, none⟩) (W * H) c)) (h3 : w.cell? ⟨rb, 0, none⟩ = some (.int .i64 r)) (h4 : w.cell? ⟨tb, 0, none⟩ = some (.int .i64 part))
    (hp : ∀ j, j < W * H → w.cell? ⟨pb, po + j, none⟩ = some (.int .u8 (P j))) :
    Calls Try.prog 42 #[.int .i64 x, .int .i64 y, .pointer (some ⟨gb, 0, none⟩), .pointer (some ⟨rb, 0, none⟩), .pointer (some ⟨tb, 0, none⟩)] w fun e w' => e = .returned (.bool (localB P W H r part x y)) ∧ Below w.heap.size w w' := by
  have HA := Lib.hid (aroundR_any W H pb po c x y r P w hP hW hH hN hx hy hr hp)
  have hfit := row_fits hy (show x + 1 ≤ W by omega)
  have hc := hp (y * W + x) (by omega)
  have hpv := hP (y * W + x)
  obtain ⟨nx, hnx⟩ : ∃ nx, nx = min (x + r + 1) W - (x - r) := ⟨_, rfl⟩
  obtain ⟨ny, hny⟩ : ∃ ny, ny = min (y + r + 1) H - (y - r) := ⟨_, rfl⟩
  have hmx := Nat.mul_le_mul (show nx ≤ W by omega) (show ny ≤ H by omega)
  have hpos := Nat.mul_pos (show 0 < nx by omega) (show 0 < ny by omega)
  have hmany : squareMany W H r x y = ((nx * ny : Nat) : Int) := by
    unfold squareMany
    rw [Int.natCast_mul, show (nx : Int) = ((min (x + r + 1) W : Nat) : Int) - ((x - r : Nat) : Int) by omega, show (ny : Int) = ((min (y + r + 1) H : Nat) : Int) - ((y - r : Nat) : Int) by omega]
  obtain ⟨xs, hxs⟩ : ∃ xs, xs = rectVals P W (y - r) (x - r) nx ny := ⟨_, rfl⟩
  rw [← hnx, ← hny, ← hxs] at HA
  have hlen : xs.length = nx * ny := by rw [hxs, rectVals_length]
  have hsum : squareSum P W H r x y = headSum xs (nx * ny) := by
    unfold squareSum headSum
    rw [← hnx, ← hny, ← rectVals_sum, ← hxs, List.take_of_length_le (by omega)]
  have hbx : ∀ v ∈ xs, 0 ≤ v ∧ v ≤ 255 := by rw [hxs]; exact rectVals_bounds P hP W _ _ nx ny
  obtain ⟨n, hn⟩ : ∃ n, n = nx * ny := ⟨_, rfl⟩
  rw [← hn] at HA hmx hpos hmany hlen hsum
  have hn' : n ≤ 1048576 := by omega
  have hsb := headSum_bounds xs hbx n (by omega)
  obtain ⟨p, hpe⟩ : ∃ p, p = P (y * W + x) := ⟨_, rfl⟩
  have hout : localB P W H r part x y = decide (p * (n : Int) * 1000 < headSum xs n * (1000 - part)) := by unfold localB; rw [← hpe, hmany, hsum]
  rw [← hpe] at hc hpv
  have HOUT := Lib.hid hout
  have HLEN := Lib.hid hlen
  have HBX := Lib.hid hbx
  have x0 : (0 : Int) ≤ (y : Int) * (W : Int) := Int.mul_nonneg (by omega) (by omega)
  have x1 : (y : Int) * (W : Int) + (x : Int) < ((W * H : Nat) : Int) := by rw [← Int.natCast_mul]; omega
  have x3 : (y : Int) * (W : Int) + (x : Int) < (W : Int) * (H : Int) := by rw [← Int.natCast_mul, ← Int.natCast_mul]; omega
  have x2 : ((W * H : Nat) : Int) ≤ 1048576 := by omega
  obtain ⟨t0, t1⟩ := mul_small' hpv.1 (by omega : (0 : Int) ≤ (n : Int)) hpv.2 (by omega : (n : Int) ≤ 1048576)
  obtain ⟨S, hS⟩ : ∃ S, S = headSum xs n := ⟨_, rfl⟩
  rw [← hS] at hsb HOUT
  obtain ⟨s0, s1⟩ := mul_small' hsb.1 (by omega : 0 ≤ 1000 - part) (by omega : S ≤ 300000000) (by omega : 1000 - part ≤ 1000)
  have HS := Lib.hid hS
  have hS2 : S ≤ 300000000 := by omega
  clear hp hP hfit hnx hny hmany hxs hlen hsum hbx hn hout hpe hS hmx
  go_enter Try.func42, Try.ntmps42
  go_wp2_with fail
  refine HA.out.mono ?_
  rintro e w1 ⟨v, rfl, hown, hb⟩
  obtain ⟨gl, cl, rfl⟩ : ∃ g cap, v = .slice (some ⟨g, 0, none⟩) n cap := by
    rcases hown.2 with ⟨_, h0⟩ | ⟨g, cap, cur, rfl, _⟩
    · omega
    · exact ⟨g, cap, rfl⟩
  have hcell : ∀ j, j < n → w1.cell? ⟨gl, j, none⟩ = some (.int .i64 (xs.getD j 0)) := fun j hj => by
    rw [hown.cellAt j (by omega), List.getElem?_map, List.getD_eq_getElem?_getD, List.getElem?_eq_getElem (by rw [HLEN.out]; omega)]
    rfl
  have HCELL := Lib.hid hcell
  have k0 := cell_later hb h0
  have k2 := cell_later hb h2
  have k4 := cell_later hb h4
  have kc := cell_later hb hc
  have HB := Lib.hid hb
  clear hcell hown hb h0 h1 h2 h3 h4 hc
  go_wp2_with fail
  go_loop [9, 19] (fun s i => ∃ (k : Nat) (sv : Int), k ≤ n ∧ i = .int .i64 k ∧ s = .int .i64 sv ∧ 0 ≤ sv ∧ sv ≤ 300000000 ∧ Hid (sv = headSum xs k)) (fun _ i => n - (intOf i).toNat)
  case atStart => exact ⟨0, 0, Nat.zero_le _, rfl, rfl, by omega, by omega, Lib.hid (by simp [headSum])⟩
  case round =>
    obtain ⟨k, sv, hk, rfl, rfl, v0, v1, hv⟩ := hrel
    by_cases hlt : k < n
    · have hck := HCELL.out k hlt
      have hs := headSum_succ xs k (by rw [HLEN.out]; omega)
      have hb1 := headSum_bounds xs HBX.out (k + 1) (by rw [HLEN.out]; omega)
      have hb2 := headSum_bounds xs HBX.out k (by rw [HLEN.out]; omega)
      have hqb := HBX.out (xs.getD k 0) (by rw [List.getD_eq_getElem?_getD, List.getElem?_eq_getElem (by rw [HLEN.out]; omega)]; exact List.getElem_mem _)
      obtain ⟨q, hq⟩ : ∃ q, q = xs.getD k 0 := ⟨_, rfl⟩
      rw [← hq] at hck hs hqb
      have HS1 := Lib.hid hs
      have e1 : sv + q ≤ 300000000 := by have := hv.out; omega
      have HN := Lib.hid (show sv + q = headSum xs (k + 1) by rw [hs, hv.out])
      clear hq hs hb1 hb2
      go_wp2_with fail
      go_round
      case rel => exact ⟨k + 1, sv + q, by omega, by go_num, rfl, by omega, e1, HN⟩
      case measure => simp [intOf]; omega
    · obtain rfl : k = n := by omega
      have hvs : sv = S := by rw [hv.out, HS.out]
      subst hvs
      have HV := Lib.hid hv
      clear hv
      go_wp2_with fail
      go_quiet (fail)
      go_wp2
      go_ret
      exact ⟨by rw [HOUT.out]; rfl, below_drewN HB.out _⟩

set_option maxHeartbeats 400000 in
set_option maxRecDepth 100000 in
theorem localR_any (W H g o c r : Nat) (part : Int) (P : Nat → Int) (w : World) (hP : ∀ j, 0 ≤ P j ∧ P j ≤ 255) (hW : 1 ≤ W ∧ W ≤ 4000) (hH : 1 ≤ H ∧ H ≤ 4000) (hN : W * H ≤ 1048576) (hr : r ≤ 1000) (hpt : 0 ≤ part ∧ part ≤ 1000) (hc : ∀ j, j < W * H → w.cell? ⟨g, o + j, none⟩ = some (.int .u8 (P j))) :
    Calls Try.prog 18 #[.agg #[.int .i64 W, .int .i64 H, .slice (some ⟨g, o, none⟩) (W * H) c], .int .i64 r, .int .i64 part] w fun e w' =>
      ∃ g' c', e = .returned (.agg #[.int .i64 W, .int .i64 H, .slice (some ⟨g', 0, none⟩) (W * H) c']) ∧ (∀ j, j < W * H → w'.cell? ⟨g', 0 + j, none⟩ = some (.bool (localB P W H r part (j % W) (j / W)))) ∧ Below w.heap.size w w' := by
  have hmf : ∀ (fn : Fn) (first cap : Array Value) (w : World), (Instr.makeFunc fn first cap).run Try.prog w = .ok (.func fn first cap) w := fun _ _ _ _ => rfl
  have HC := Lib.hid hc
  have HP := Lib.hid hP
  have HT := Lib.hid hpt
  clear hc hP hpt
  obtain ⟨hW1, hW2⟩ := hW
  obtain ⟨hH1, hH2⟩ := hH
  go_enter Try.func18, Try.ntmps18
  go_wp2_with fail
  obtain ⟨w3, hw3⟩ : ∃ w3, w3 = ((((w.alloc (.cells #[.int .i64 W, .int .i64 H, .slice (some ⟨g, o, none⟩) (W * H) c] 24)).alloc (.cells #[.int .i64 r] 3)).alloc (.cells #[.int .i64 part] 3)).alloc (.cells #[.int .i64 0, .int .i64 0, .slice none 0 0] 40)) := ⟨_, rfl⟩
  have B3 : Below w.heap.size w w3 := by rw [hw3]; exact below_alloc (below_alloc (below_alloc (new_below _ _) _) _) _
  have q0 : w3.cell? ⟨w.heap.size, 0, none⟩ = some (.int .i64 W) := by rw [hw3]; go_simp
  have q1 : w3.cell? ⟨w.heap.size, 1, none⟩ = some (.int .i64 H) := by rw [hw3]; go_simp
  have q2 : w3.cell? ⟨w.heap.size, 2, none⟩ = some (.slice (some ⟨g, o, none⟩) (W * H) c) := by rw [hw3]; go_simp
  have q3 : w3.cell? ⟨w.heap.size + 1, 0, none⟩ = some (.int .i64 r) := by rw [hw3]; go_simp
  have q4 : w3.cell? ⟨w.heap.size + 1 + 1, 0, none⟩ = some (.int .i64 part) := by rw [hw3]; go_simp
  have qb : w3.heap[w.heap.size + 1 + 1 + 1]? = some (.cells #[.int .i64 0, .int .i64 0, .slice none 0 0] 40 (0, 0)) := by
    rw [hw3]
    simpa using heap_alloc_new (((w.alloc (.cells #[.int .i64 W, .int .i64 H, .slice (some ⟨g, o, none⟩) (W * H) c] 24)).alloc (.cells #[.int .i64 r] 3)).alloc (.cells #[.int .i64 part] 3)) (.cells #[.int .i64 0, .int .i64 0, .slice none 0 0] 40)
  rw [← hw3]
  clear hw3
  have LQ := Lib.hid (Array.getElem?_eq_some_iff.1 qb).1
  refine (made_any W H 42 _ (localB P W H r part) w3 (by omega) (by omega) (by omega) (by omega) (Go.Proofs.enters_of Try.func42 (by kernel_rfl) rfl) ?_).mono ?_
  · intro x y wx hx hy hbx
    exact localR1_any W H g o c x y r w.heap.size (w.heap.size + 1) (w.heap.size + 1 + 1) part P wx HP.out (by omega) (by omega) hN hx hy hr HT.out (cell_later hbx q0) (cell_later hbx q1) (cell_later hbx q2) (cell_later hbx q3) (cell_later hbx q4) (fun j hj => cell_later hbx (cell_later B3 (HC.out j hj)))
  · rintro e w5 ⟨v, rfl, hown, hb5⟩
    obtain ⟨j0, j1, j2, r0, r1, r2⟩ := block3 (below_block hb5 qb)
    obtain ⟨g', c', rfl, hg', hz⟩ := owns_pageB hown (Nat.mul_pos hW1 hH1)
    have F := Lib.hid hz
    have G := Lib.hid hb5
    have B := Lib.hid B3
    clear hown hb5 q0 q1 q2 q3 q4 qb B3 hz
    go_wp2_with fail
    refine bodyPost_ret (v := .agg #[.int .i64 W, .int .i64 H, .slice (some ⟨g', 0, none⟩) (W * H) c']) (by simp [results, Try.results18, go_sem, j0, j1, j2]) rfl ?_
    have hl := LQ.out
    exact ⟨g', c', rfl, fun j hj => cell_far3 (by simp; omega) (F.out j hj), below_far3 (below_step B.out G.out) (by omega)⟩

end Go.Proofs.Ytlpdgnhlhopmjaa
namespace Go.Proofs.Ytlpdgnhlhopmjaa
open Go.RowKit
set_option linter.unusedSimpArgs false
set_option linter.unusedVariables false
attribute [local go_sem ↓] Go.wp_at_zero Go.wp_at_succ

theorem alike_err (e1 : Int) (a b : Int) (s : Option Addr) (n c : Nat) (w : World) (h : e1 ≠ 0) :
    Calls Try.prog 17 #[.agg #[.int .i64 0, .int .i64 0, .slice none 0 0], .int .i64 e1, .agg #[.int .i64 a, .int .i64 b, .slice s n c], .int .i64 e1] w fun e w' => e = .returned (.bool true) ∧ Below w.heap.size w w' := by
  have h' : (e1 != 0) = true := by simpa using h
  clear h
  go_enter Try.func17, Try.ntmps17
  go_wp2
  go_ret
  exact ⟨rfl, below_alloc (new_below _ _) _⟩

theorem alike_ok (W H : Int) (g1 o1 g2 o2 n c1 c2 : Nat) (z : Nat → Bool) (w : World) (hn : n ≤ 100000000)
    (h1 : ∀ j, j < n → w.cell? ⟨g1, o1 + j, none⟩ = some (.bool (z j))) (h2 : ∀ j, j < n → w.cell? ⟨g2, o2 + j, none⟩ = some (.bool (z j))) :
    Calls Try.prog 17 #[.agg #[.int .i64 W, .int .i64 H, .slice (some ⟨g1, o1, none⟩) n c1], .int .i64 0, .agg #[.int .i64 W, .int .i64 H, .slice (some ⟨g2, o2, none⟩) n c2], .int .i64 0] w fun e w' => e = .returned (.bool true) ∧ Below w.heap.size w w' := by
  have H1 := Lib.hid h1
  have H2 := Lib.hid h2
  clear h1 h2
  go_enter Try.func17, Try.ntmps17
  go_wp2_with fail
  have B1 := below_alloc (new_below w (.cells #[.int .i64 W, .int .i64 H, .slice (some ⟨g1, o1, none⟩) n c1] 40)) (.cells #[.int .i64 W, .int .i64 H, .slice (some ⟨g2, o2, none⟩) n c2] 40)
  refine (sameBits_true W H g1 o1 g2 o2 n c1 c2 z _ hn (fun j hj => cell_later B1 (H1.out j hj)) (fun j hj => cell_later B1 (H2.out j hj))).mono ?_
  rintro e w1 ⟨rfl, hb⟩
  go_wp2_with fail
  go_ret
  exact ⟨rfl, below_step B1 hb⟩

end Go.Proofs.Ytlpdgnhlhopmjaa
namespace Go.Proofs.Ytlpdgnhlhopmjaa
open Go.RowKit
set_option linter.unusedSimpArgs false
set_option linter.unusedVariables false

theorem small_size {W H : Nat} (hW : 1 ≤ W ∧ W ≤ 32) (hH : 1 ≤ H ∧ H ≤ 32) : sizeErr W H = 0 ∧ pageErr W H (W * H) = 0 ∧ 1 ≤ W * H ∧ W * H ≤ 1024 := by
  have h1 := Nat.mul_le_mul hW.2 hH.2
  have h2 := Nat.mul_pos hW.1 hH.1
  have he : sizeErr W H = 0 := by
    unfold sizeErr
    rw [if_neg (by omega), if_neg (by rw [← Int.natCast_mul]; omega)]
  exact ⟨he, by unfold pageErr; rw [if_pos he, if_pos (by simp [Int.natCast_mul])], h2, h1⟩

theorem small_size16 {W H : Nat} (hW : 1 ≤ W ∧ W ≤ 16) (hH : 1 ≤ H ∧ H ≤ 16) : sizeErr W H = 0 ∧ pageErr W H (W * H) = 0 ∧ 1 ≤ W * H ∧ W * H ≤ 256 := by
  have h := small_size (W := W) (H := H) ⟨hW.1, by omega⟩ ⟨hH.1, by omega⟩
  have h1 := Nat.mul_le_mul hW.2 hH.2
  exact ⟨h.1, h.2.1, h.2.2.1, h1⟩

/-- Three cells of a block that are written anew. -/
theorem far3_same {w : World} {b : Nat} {x y z x' y' z' : Value} {t : TypeId} (h : w.heap[b]? = some (.cells #[x, y, z] t (0, 0))) :
    (((w.setCell ⟨b, 0, none⟩ x').setCell ⟨b, 1, none⟩ y').setCell ⟨b, 2, none⟩ z').heap[b]? = some (.cells #[x', y', z'] t (0, 0)) := by
  have h1 := heap_setCell_same w b 0 #[x, y, z] t x' h
  have h2 := heap_setCell_same _ b 1 _ t y' h1
  have h3 := heap_setCell_same _ b 2 _ t z' h2
  simpa using h3

end Go.Proofs.Ytlpdgnhlhopmjaa
namespace Go.Proofs.Ytlpdgnhlhopmjaa
open Go.RowKit
set_option linter.unusedSimpArgs false
set_option linter.unusedVariables false
attribute [local go_sem ↓] Go.wp_at_zero Go.wp_at_succ

/-- The Bool of the law's test. -/
theorem local_test {r part : Int} : (decide (r < 1) || decide (100 < r) || decide (part < 0) || decide (1000 < part)) = !(decide ((1 ≤ r ∧ r ≤ 100) ∧ (0 ≤ part ∧ part ≤ 1000))) := by
  rw [Bool.eq_iff_iff]; simp; omega

set_option maxHeartbeats 4000000 in
set_option maxRecDepth 100000 in
theorem locals_any (a b r part : Int) (s : Option Addr) (n c : Nat) (zs : List Int) (w : World) (hn : n ≤ 9223372036854775807) (hs : IsBytes w s n c zs) :
    Calls Try.prog 4 #[.agg #[.int .i64 a, .int .i64 b, .slice s n c], .int .i64 r, .int .i64 part] w fun e w' => e = .returned (.bool true) ∧ Below w.heap.size w w' := by
  have HS := Lib.hid hs
  clear hs
  go_enter Try.func4, Try.ntmps4
  go_wp2_with ((go_at_call 14; refine (landed_any _).mono ?_; rintro e w' ⟨rfl, rfl⟩))
  obtain ⟨w1, hw1⟩ : ∃ w1, w1 = w.alloc (.cells #[.int .i64 a, .int .i64 b, .slice s n c] 24) := ⟨_, rfl⟩
  have B1 : Below w.heap.size w w1 := by rw [hw1]; exact new_below _ _
  have qb : w1.heap[w.heap.size]? = some (.cells #[.int .i64 a, .int .i64 b, .slice s n c] 24 (0, 0)) := by rw [hw1]; exact heap_alloc_new _ _
  rw [← hw1]
  clear hw1
  refine (fitGray_any a b s n c zs w1 hn (isBytes_later HS.out B1)).mono ?_
  rintro e w2 ⟨W, H, g, cc, z, rfl, ⟨hW1, hW2, hH1, hH2⟩, hzb, hz, hg, hb2⟩
  obtain ⟨j0, j1, j2, r0, r1, r2⟩ := block3 (below_block hb2 qb)
  have l1 := Lib.hid (Array.getElem?_eq_some_iff.1 qb).1
  have B2 := Lib.hid (below_step B1 hb2)
  have QB := Lib.hid (below_block hb2 qb)
  have HZ := Lib.hid hz
  have HZB := Lib.hid hzb
  have hg' := Lib.hid hg
  clear hz hzb hb2 B1 qb hg
  go_wp2_with fail
  obtain ⟨w3, hw3⟩ : ∃ w3, w3 = (((w2.setCell ⟨w.heap.size, 0, none⟩ (.int .i64 W)).setCell ⟨w.heap.size, 1, none⟩ (.int .i64 H)).setCell ⟨w.heap.size, 2, none⟩ (.slice (some ⟨g, 0, none⟩) (W * H) cc)) := ⟨_, rfl⟩
  have B3 : Below w.heap.size w w3 := by rw [hw3]; exact below_far3 B2.out (Nat.le_refl _)
  have qb : w3.heap[w.heap.size]? = some (.cells #[.int .i64 W, .int .i64 H, .slice (some ⟨g, 0, none⟩) (W * H) cc] 24 (0, 0)) := by rw [hw3]; exact far3_same QB.out
  have hz3 : ∀ j, j < W * H → w3.cell? ⟨g, 0 + j, none⟩ = some (.int .u8 (z j)) := fun j hj => by
    rw [hw3]
    exact cell_far3 (by have := l1.out; have := hg'.out; simp; omega) (HZ.out j hj)
  obtain ⟨q0, q1, q2, _, _, _⟩ := block3 qb
  rw [← hw3]
  clear hw3 j0 j1 j2 r0 r1 r2
  obtain ⟨he, hpe, hN1, hN2⟩ := small_size16 ⟨hW1, hW2⟩ ⟨hH1, hH2⟩
  have HE := Lib.hid he
  have HPE := Lib.hid hpe
  have HZ3 := Lib.hid hz3
  have HB3 := Lib.hid B3
  clear he hpe hz3 B3 HZ QB qb
  by_cases hr : (1 ≤ r ∧ r ≤ 100) ∧ (0 ≤ part ∧ part ≤ 1000)
  · obtain ⟨⟨hr1, hr2⟩, hp1, hp2⟩ := hr
    obtain ⟨R, rfl⟩ := Int.eq_ofNat_of_zero_le (by omega : 0 ≤ r)
    have hR : 1 ≤ R ∧ R ≤ 100 := by omega
    have hw0 : whenI (decide ((R : Int) < 1) || decide (100 < (R : Int)) || decide (part < 0) || decide (1000 < part)) 3 = 0 := by rw [local_test, decide_eq_true ⟨⟨hr1, hr2⟩, hp1, hp2⟩]; rfl
    have HR := Lib.hid hR
    have HT := Lib.hid (show 0 ≤ part ∧ part ≤ 1000 from ⟨hp1, hp2⟩)
    clear hR
    refine (local_ok W H g 0 cc R part z w3 HE.out HR.out HT.out HZB.out HZ3.out).mono ?_
    rintro e w4 ⟨v, rfl, hown, hb4⟩
    obtain ⟨g4, c4, rfl, hg4, hz4⟩ := owns_pageB hown (by omega)
    have k0 := cell_later hb4 q0
    have k1 := cell_later hb4 q1
    have k2 := cell_later hb4 q2
    have l0 := World.block_lt_of_cell? _ _ k0
    simp only at l0
    have HB4 := Lib.hid hb4
    have HZ4 := Lib.hid hz4
    clear hb4 hz4 q0 q1 q2 hown
    go_wp2_with ((go_at_call 9; refine (when_any _ _ _).mono ?_; rintro e w' ⟨rfl, rfl⟩))
    obtain ⟨w5, hw5⟩ : ∃ w5, w5 = w4.alloc (.cells #[.int .i64 W, .int .i64 H, .slice (some ⟨g4, 0, none⟩) (W * H) c4] 40) := ⟨_, rfl⟩
    have B5 : Below w4.heap.size w4 w5 := by rw [hw5]; exact new_below _ _
    obtain ⟨a0, a1, a2, _, _, _⟩ := block3 (w := w5) (b := w4.heap.size) (x := .int .i64 W) (y := .int .i64 H) (z := .slice (some ⟨g4, 0, none⟩) (W * H) c4) (t := 40) (by rw [hw5]; exact heap_alloc_new _ _)
    have q0 := cell_later B5 k0
    have q1 := cell_later B5 k1
    have q2 := cell_later B5 k2
    rw [← hw5]
    clear hw5 k0 k1 k2
    have z5 := Lib.hid (fun j (hj : j < W * H) => cell_later (below_step HB4.out B5) (HZ3.out j hj))
    have s5 := Lib.hid (fun j (hj : j < W * H) => cell_later B5 (HZ4.out j hj))
    have HB5 := Lib.hid (below_step (below_step HB3.out HB4.out) B5)
    clear B5
    go_region_held3 (fun w' => w'.cell? ⟨w.heap.size, 0, none⟩ = some (.int .i64 W) ∧ w'.cell? ⟨w.heap.size, 1, none⟩ = some (.int .i64 H) ∧ w'.cell? ⟨w.heap.size, 2, none⟩ = some (.slice (some ⟨g, 0, none⟩) (W * H) cc) ∧
        w'.cell? ⟨w4.heap.size, 0, none⟩ = some (.int .i64 W) ∧ w'.cell? ⟨w4.heap.size, 1, none⟩ = some (.int .i64 H) ∧ w'.cell? ⟨w4.heap.size, 2, none⟩ = some (.slice (some ⟨g4, 0, none⟩) (W * H) c4))
      (first | (go_keep; done) | (go_split_ands; exact ⟨cell_later hb8 (by assumption), cell_later hb8 (by assumption), cell_later hb8 (by assumption), cell_later hb8 (by assumption), cell_later hb8 (by assumption), cell_later hb8 (by assumption)⟩) | (go_split_ands; exact ⟨cell_later hb9 (by assumption), cell_later hb9 (by assumption), cell_later hb9 (by assumption), cell_later hb9 (by assumption), cell_later hb9 (by assumption), cell_later hb9 (by assumption)⟩))
      ((first | (go_at_call 18; (with_reducible refine (localR_any W H g 0 cc R part z _ HZB.out ⟨hW1, by omega⟩ ⟨hH1, by omega⟩ (by omega) (by have := HR.out; omega) HT.out (fun j hj => cell_later (Below.refl _ _).drew (z5.out j hj))).mono ?_); rintro e w8 ⟨g8, c8, rfl, hz8, hb8⟩; have Z8 := Lib.hid hz8; clear hz8) | (go_at_call 17; (with_reducible refine (alike_ok W H g4 0 g8 0 (W * H) c4 c8 (fun j => localB z W H R part (j % W) (j / W)) w8 (by omega) (fun j hj => cell_later (below_step (Below.refl _ _).drew hb8) (s5.out j hj)) Z8.out).mono ?_); rintro e w9 ⟨rfl, hb9⟩)))
    go_wp2_with fail
    go_ret
    exact ⟨rfl, below_step (below_step (below_step HB5.out (Below.refl _ _).drew) hb8) hb9⟩
  · have HR := Lib.hid hr
    have hw0 : whenI (decide (r < 1) || decide (100 < r) || decide (part < 0) || decide (1000 < part)) 3 = 3 := by rw [local_test, decide_eq_false hr]; rfl
    clear hr
    refine (local_bad W H r part _ (W * H) cc w3 HPE.out HR.out).mono ?_
    rintro e w4 ⟨rfl, hb4⟩
    have k0 := cell_later hb4 q0
    have k1 := cell_later hb4 q1
    have k2 := cell_later hb4 q2
    have l0 := World.block_lt_of_cell? _ _ k0
    simp only at l0
    have HB4 := Lib.hid hb4
    clear hb4 q0 q1 q2
    go_wp2_with (first | (go_at_call 9; refine (when_any _ _ _).mono ?_; rintro e w' ⟨rfl, rfl⟩))
    all_goals
      obtain ⟨w5, hw5⟩ : ∃ w5, w5 = w4.alloc (.cells #[.int .i64 0, .int .i64 0, .slice none 0 0] 40) := ⟨_, rfl⟩
      have B5 : Below w4.heap.size w4 w5 := by rw [hw5]; exact new_below _ _
      rw [← hw5]
      clear hw5
      refine (alike_err 3 _ _ _ _ _ w5 (by decide)).mono ?_
      rintro e w8 ⟨rfl, hb8⟩
      go_wp2_with fail
      go_ret
      exact ⟨rfl, below_step (below_step (below_step HB3.out HB4.out) B5) hb8⟩

end Go.Proofs.Ytlpdgnhlhopmjaa
namespace Go.Proofs.Ytlpdgnhlhopmjaa
open Go.ChangeShapes Go.WideShapes Go.ChangeAt Go.RowKit Go.Joins
open Go.ChangeMaps (open_string shut_string)
set_option linter.unusedVariables false

set_option maxRecDepth 100000 in
/-- A page in grey by value, opened. -/
theorem open_grayN {W : World} {H : Type} {enc : TypeId × Value → H} {base : Nat} {held : Bool} {r : Reach} {b0 : Nat} {v : Value} {d : DataW H} {p : List MemPlace}
    (hv : Value.okWide Try.prog W r b0 24 v) (h : DataW.Trod enc Try.prog W base (fun _ => true) held 24 v d p) :
    ∃ a b s n c zs, v = .agg #[.int .i64 a, .int .i64 b, .slice s n c] ∧ IsBytes W s n c zs ∧ n ≤ 9223372036854775807 := by
  obtain ⟨c0, c1, c2, y0, y1, y2, m, rfl, rfl, rfl, hy0, hy1, hy2⟩ := open_agg3 Try.underlying24 (by kernel_rfl) cellsGray hv h
  obtain ⟨a, e0, rfl, wa⟩ := DataW.trod_int Try.underlying3 hy0
  obtain ⟨b, e1, rfl, wb⟩ := DataW.trod_int Try.underlying3 hy1
  simp at e0 e1
  subst e0 e1
  rcases open_ints Try.underlying22 Try.underlying5 cellsByte hy2 with ⟨hcs, _⟩ | ⟨x, l, c, zs, hcs, _, hl, hm, hz, _, hcell, hwz⟩
  · simp at hcs
    subst hcs
    exact ⟨a, b, none, 0, 0, [], rfl, .inl ⟨rfl, rfl, rfl, rfl⟩, by decide⟩
  · simp at hcs
    subst hcs
    exact ⟨a, b, some x, l, c, zs, rfl, .inr ⟨x, rfl, hl, by simpa using hz, hcell, hwz⟩, by unfold maxLen at hm; omega⟩

end Go.Proofs.Ytlpdgnhlhopmjaa
namespace Go.Proofs.Ytlpdgnhlhopmjaa
open Go.ChangeShapes Go.WideShapes Go.ChangeAt Go.RowKit Go.Joins
open Go.ChangeMaps (open_string shut_string)
set_option linter.unusedVariables false

set_option maxRecDepth 100000 in
theorem locals_lifted (os : Os) (started : os.Started) (H : Type) (enc : TypeId × Value → H) :
    ReturnsInHanded {} Try.checked os 4 .any (Rows.localsMatchSpec.pre6 enc Try.prog Try.f4 Rows.localsMatchRow.domain false) (Rows.localsMatchSpec.post enc Try.prog Try.f4 false true false false) := by
  refine returnsInHanded_of_change (C := Try.checked) own started (by kernel_rfl) Try.func4
    (ChangeSpec.witness6 (enc := enc) (C := Try.checked) false ⟨#[], #[.agg #[.int .i64 0, .int .i64 0, .slice none 0 0], .int .i64 0, .int .i64 0], []⟩ 8 (by kernel_rfl) (by kernel_rfl) (by kernel_rfl) (by kernel_rfl)) ?_
  intro W base args ds gs before hval0 hW hcnd _
  have hval : ∀ (j : Nat) t v, Try.f4.params[j]? = some t → args[j]? = some v → Value.okWide Try.prog W .any base t v := hval0
  have hW' := hW
  obtain ⟨p, q, hA0, hV, rfl, hfz, hnd⟩ := hW
  have hA : DataW.TrodAll enc Try.prog W 0 (fun _ => true) true Try.f4.params.toList args.toList ds p := hA0
  rw [Try.params4] at hA hval
  obtain ⟨v0, vs0, d0, ds0, p0, q0, hargs, rfl, rfl, h0, r0⟩ := trodAll_cons hA
  obtain ⟨v1, vs1, d1, ds1, p1, q1, rfl, rfl, rfl, h1, r1⟩ := trodAll_cons r0
  obtain ⟨v2, vs2, d2, ds2, p2, q2, rfl, rfl, rfl, h2, r2⟩ := trodAll_cons r1
  obtain ⟨rfl, rfl, rfl⟩ := trodAll_nil r2
  obtain rfl : args = #[v0, v1, v2] := by cases args; simp_all
  obtain ⟨rfl, rfl⟩ := trodVars_none hV
  have k0 := h0
  have lt0 : ∀ x ∈ p0, x.block < W.heap.size := by obtain ⟨m, hm⟩ := k0; exact DataW.trod_lt m _ _ _ hm
  obtain ⟨a, b, s, n, c, zs, rfl, hs, hn⟩ := open_grayN (hval 0 24 v0 rfl rfl) h0
  obtain ⟨a1, rfl, rfl, rfl, w1⟩ := open_int Try.underlying3 (hval 1 3 v1 rfl rfl) h1
  obtain ⟨a2, rfl, rfl, rfl, w2⟩ := open_int Try.underlying3 (hval 2 3 v2 rfl rfl) h2
  clear hA0 hval0
  refine (locals_any a b a1 a2 s n c zs W hn hs).mono fun e W' ⟨he, bel⟩ => ?_
  subst he
  exact ⟨_, rfl, _, _, _, [], _, [], hW', trodAll_mk1 (shut_bool Try.underlying4 _), (trodAll_cons_mk (Below.trod laidOut (by kernel_rfl) (of_decide_eq_true (by kernel_rfl)) k0 bel lt0) (trodAll_cons_mk (shut_int Try.underlying3 w1) (trodAll_cons_mk (shut_int Try.underlying3 w2) trodAll_mk0))), rfl, bel.frame _, fun h => by cases h⟩

theorem locals_over : Rows.localsMatchRow.holds Try.pinned (OpenSpec.ofChange Rows.localsMatchSpec) :=
  OpenClaim.holds_of_wide 4 Try.f4 rfl rfl rfl rfl rfl rfl rfl ⟨rfl, rfl, rfl, rfl, rfl⟩ rfl rfl rfl rfl rfl (by kernel_rfl) Try.func4 (by kernel_rfl)
    (of_decide_eq_true (by kernel_rfl)) (by unfold Func.isWrapper; first | (rw [if_pos (by decide +kernel)]; kernel_rfl) | (rw [if_neg (by decide +kernel)]; exact ⟨rfl, rfl⟩))
    (fun os started H enc _ => locals_lifted os started H enc)

theorem locals_holds : Rows.LocalsMatchSaid := locals_over
end Go.Proofs.Ytlpdgnhlhopmjaa
