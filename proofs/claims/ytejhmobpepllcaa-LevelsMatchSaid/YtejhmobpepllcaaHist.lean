/-
  page.Histogram: how many pixels have each value.
  The closures of ToBits and of what it is compared with: is a value less than the level?
-/
import Derived.Test.YtejhmobpepllcaaRowsOf
import Derived.Test.YtejhmobpepllcaaTurnG
import Derived.Deep.QuietTactic
import Derived.BigQuiet
namespace Go.Proofs.Ytejhmobpepllcaa
open Go.RowKit
set_option linter.unusedSimpArgs false
set_option linter.unusedVariables false

/-- How many of the first n numbers are v. -/
def histN (zs : Nat → Int) (n v : Nat) : Nat := sumN (fun j => if zs j = (v : Int) then 1 else 0) n
theorem histN_le (zs : Nat → Int) (n v : Nat) : histN zs n v ≤ n := by
  have := sumN_le (fun j => if zs j = (v : Int) then 1 else 0) 1 (fun j => by split <;> omega) n
  unfold histN
  omega
theorem histN_hit (zs : Nat → Int) (n v : Nat) (h : zs n = (v : Int)) : histN zs (n + 1) v = histN zs n v + 1 := by simp [histN, sumN, h]
theorem histN_miss (zs : Nat → Int) (n v u : Nat) (h : zs n = (v : Int)) (hu : u ≠ v) : histN zs (n + 1) u = histN zs n u := by
  simp only [histN, sumN, h]
  rw [if_neg (by omega)]; rfl

theorem hist_step {w : World} {base g n v c : Nat} {zs : Nat → Int} (h : w.ownsRow base 3 1 (.slice (some ⟨g, 0, none⟩) 256 c) 256 (numsOf (histN zs n) 256)) (hz : zs n = (v : Int)) (hv : v < 256) :
    (w.setCell ⟨g, v, none⟩ (.int .i64 ((histN zs n v + 1 : Nat) : Int))).ownsRow base 3 1 (.slice (some ⟨g, 0, none⟩) 256 c) 256 (numsOf (histN zs (n + 1)) 256) := by
  have := (h.stored v (.int .i64 ((histN zs n v + 1 : Nat) : Int))).1
  rw [numsOf_set (g := histN zs (n + 1)) hv (histN_hit zs n v hz) fun i _ hi => histN_miss zs n v i hz hi] at this
  exact this

theorem histogram_badPage (a b : Int) (p : Option Addr) (n c : Nat) (w : World) (h : pageErr a b n ≠ 0) :
    Calls Try.prog 62 #[.agg #[.int .i64 a, .int .i64 b, .slice p n c]] w fun e w' => e = .returned (.tuple #[.slice none 0 0, .int .i64 (pageErr a b n)]) ∧ Below w.heap.size w w' := by
  have h' : (pageErr a b n != 0) = true := by simpa using h
  clear h
  go_enter Try.func62, Try.ntmps62
  go_wp2_with ((go_at_call 17; refine (checkGray_any _ _ _ _ _ _).mono ?_; rintro e w' ⟨rfl, rfl⟩))
  go_ret2
  exact ⟨rfl, below_alloc (new_below _ _) _⟩

set_option maxHeartbeats 1000000 in
set_option maxRecDepth 100000 in
theorem histogram_ok (W H g o n c : Nat) (z : Nat → Int) (w : World) (hs : sizeErr W H = 0) (hn : n = W * H) (hzb : ∀ j, 0 ≤ z j ∧ z j ≤ 255)
    (hp : ∀ j, j < n → w.cell? ⟨g, o + j, none⟩ = some (.int .u8 (z j))) :
    Calls Try.prog 62 #[.agg #[.int .i64 W, .int .i64 H, .slice (some ⟨g, o, none⟩) n c]] w fun e w' =>
      ∃ v, e = .returned (.tuple #[v, .int .i64 0]) ∧ w'.ownsRow w.heap.size 3 1 v 256 (numsOf (histN z n) 256) ∧ Below w.heap.size w w' := by
  obtain ⟨i0, hi, hz0, hz1, hz2⟩ := info_parts info_int
  obtain ⟨⟨a1, a2, a3, a4⟩, z0, z1⟩ := sizeErr_zero hs
  have hN : n ≤ 1048576 := by rw [hn]; rw [← Int.natCast_mul] at z1; omega
  have hpe : pageErr W H n = 0 := by unfold pageErr; rw [if_pos hs, if_pos (by rw [hn]; simp [Int.natCast_mul])]
  have HC := Lib.hid hp
  have HZ := Lib.hid hzb
  clear hp hs z0 z1 hn hzb
  go_enter Try.func62, Try.ntmps62
  go_wp2_with (first | (go_at_call 17; refine (checkGray_any _ _ _ _ _ _).mono ?_; rintro e w' ⟨rfl, rfl⟩) | (at_make; refine wpList_make_full _ rfl _ _ 69 rfl (w.heap.size + 2) 3 i0 (.int .i64 0) 1 Try.underlying69 hi hz0 hz1 _ _ _ _ 256 rfl rfl rfl rfl (by rw [hz2]; omega) (by unfold maxLen; omega) (by simp) ?_))
  intro w1 hown1 hgrow1
  rw [toList_madeCells_one, numsOf_zero] at hown1
  have hb1 := (Below.refl (w.heap.size + 2) _).grown hgrow1 (by simp) (by simp)
  have B1 := (below_alloc (new_below w (.cells #[.int .i64 W, .int .i64 H, .slice (some ⟨g, o, none⟩) n c] 27)) (.cells #[.int .i64 W, .int .i64 H, .slice (some ⟨g, o, none⟩) n c] 27)).trans (hb1.mono (show w.heap.size ≤ w.heap.size + 2 by omega))
  have k2 : w1.cell? ⟨w.heap.size, 2, none⟩ = some (.slice (some ⟨g, o, none⟩) n c) := (hb1.cell (p := ⟨w.heap.size, 2, none⟩) (by simp)).trans (by go_simp)
  have HB1 := Lib.hid B1
  have hst : w1.ownsRow (w.heap.size + 2) 3 1 (.slice (some ⟨w.heap.size + 1 + 1, 0, none⟩) 256 256) 256 (numsOf (histN z 0) 256) := by
    rw [← numsOf_congr (f := fun _ => 0) (g := histN z 0) (fun j _ => rfl)]; exact hown1
  have HST := Lib.hid hst
  have HC1 := Lib.hid (fun j hj => cell_later B1 (HC.out j hj))
  have HL := Lib.hid (fun j (hj : j < n) => show g < w.heap.size + 2 from by have := World.block_lt_of_cell? _ _ (HC.out j hj); simp at this; omega)
  clear hgrow1 hb1 hown1 B1 hst
  go_wp2_with fail
  go_loopw [17] (fun i wr => ∃ j : Nat, j ≤ n ∧ i = .int .i64 j ∧ wr.ownsRow (w.heap.size + 2) 3 1 (.slice (some ⟨w.heap.size + 1 + 1, 0, none⟩) 256 256) 256 (numsOf (histN z j) 256) ∧ Below (w.heap.size + 2) w1 wr) (fun i _ => n - (intOf i).toNat)
  case atStart => exact ⟨0, Nat.zero_le _, rfl, HST.out, Below.refl _ _⟩
  case round =>
    obtain ⟨j, hj, rfl, hown, hb⟩ := hrel
    by_cases hlt : j < n
    · have hpx := (hb.cell (p := ⟨g, o + j, none⟩) (HL.out j hlt)).trans (HC1.out j hlt)
      obtain ⟨v, hv⟩ := Int.eq_ofNat_of_zero_le (HZ.out j).1
      have hv2 : v < 256 := by have := (HZ.out j).2; omega
      rw [hv] at hpx
      have hcell := hown.cellAt v (by omega)
      rw [numsOf_get _ _ _ hv2] at hcell
      have hfz := hown.frozenAt v
      have hle := histN_le z j v
      have HS := Lib.hid (hist_step hown hv hv2)
      obtain ⟨k, hk⟩ : ∃ k, k = histN z j v := ⟨_, rfl⟩
      rw [← hk] at hcell hle HS
      have HB := Lib.hid hb
      have i1 : (j : Int) < (n : Int) := by omega
      have i2 : (v : Int) < 256 := by omega
      clear hk hown hb hv
      go_wp2_with fail
      go_roundw
      case rel => exact ⟨j + 1, by omega, by go_num, by have := HS.out; rw [show ((k + 1 : Nat) : Int) = (k : Int) + 1 by omega] at this; exact this, HB.out.setCell (by simp) _⟩
      case measure => simp [intOf]; omega
    · obtain rfl : j = n := by omega
      have HO := Lib.hid hown
      have HB := Lib.hid hb
      clear hown hb
      go_wp2_with fail
      go_ret2
      exact ⟨_, rfl, owns_base HO.out (by omega), HB1.out.trans (HB.out.mono (by omega))⟩

theorem histogram_any (a b : Int) (s : Option Addr) (n c : Nat) (zs : List Int) (w : World) (hs : IsBytes w s n c zs) :
    Calls Try.prog 62 #[.agg #[.int .i64 a, .int .i64 b, .slice s n c]] w fun e w' =>
      ∃ sl n' c', e = .returned (.tuple #[.slice sl n' c', .int .i64 (pageErr a b n)]) ∧ ListIs (pageErr a b n) (histN (fun j => zs.getD j 0) n) 256 w.heap.size w' sl n' c' ∧ Below w.heap.size w w' := by
  by_cases h : pageErr a b n = 0
  · obtain ⟨W, H, rfl, rfl, hn, w1, w2, h1, h2, hN, he⟩ := page_nat h
    obtain ⟨g, o, rfl, hc, hzb⟩ := isBytes_cells hs (by rw [hn]; exact Nat.mul_pos w1 h1)
    refine (histogram_ok W H g o n c _ w he hn hzb hc).mono ?_
    rintro e w' ⟨v, rfl, hown, hbel⟩
    obtain ⟨g', c', rfl, hg', hz⟩ := owns_nums hown (by omega)
    exact ⟨some ⟨g', 0, none⟩, 256, c', by rw [h], .inr ⟨h, rfl, g', hg', rfl, hz⟩, hbel⟩
  · refine (histogram_badPage a b s n c w h).mono ?_
    rintro e w' ⟨rfl, hbel⟩
    exact ⟨none, 0, 0, rfl, .inl ⟨h, rfl, rfl, rfl⟩, hbel⟩

end Go.Proofs.Ytejhmobpepllcaa

namespace Go.Proofs.Ytejhmobpepllcaa
open Go.RowKit
set_option linter.unusedSimpArgs false
set_option linter.unusedVariables false

set_option maxRecDepth 100000 in
theorem toBits1_any (W H x y pb lb g o n c t : Nat) (q lv : Int) (w : World) (hW : W ≤ 4000) (hH : H ≤ 4000) (hx : x < W) (hy : y < H) (hn : n = W * H) (ht : t = y * W + x) (hq : 0 ≤ q ∧ q ≤ 255)
    (c0 : w.cell? ⟨pb, 0, none⟩ = some (.int .i64 W)) (c2 : w.cell? ⟨pb, 2, none⟩ = some (.slice (some ⟨g, o, none⟩) n c)) (c3 : w.cell? ⟨lb, 0, none⟩ = some (.int .i64 lv)) (hc : w.cell? ⟨g, o + t, none⟩ = some (.int .u8 q)) :
    Calls Try.prog 124 #[.int .i64 x, .int .i64 y, .pointer (some ⟨pb, 0, none⟩), .pointer (some ⟨lb, 0, none⟩)] w fun e w' => e = .returned (.bool (decide (q < lv))) ∧ ∃ k, w' = w.drewN k := by
  obtain ⟨r1, r2⟩ := row_prod hW hH hy
  obtain ⟨P, hP⟩ : ∃ P, P = y * W := ⟨_, rfl⟩
  have e0 : IntKind.i64.wrap ((y : Int) * (W : Int)) = (P : Int) := by rw [← Int.natCast_mul, ← hP]; exact IntWalk.i64_in _ (by omega)
  rw [← hP] at r1 r2 ht
  have htn : (t : Int) < (n : Int) := by rw [hn, Nat.mul_comm W H]; omega
  have htn' : t < n := by omega
  have e1 : IntKind.i64.wrap ((P : Int) + (x : Int)) = (t : Int) := by rw [show (P : Int) + (x : Int) = (t : Int) by omega]; exact IntWalk.i64_in _ (by omega)
  have t0 : (0 : Int) ≤ (t : Int) := by omega
  have e2 : IntKind.i64.wrap q = q := IntWalk.i64_in _ (by omega)
  clear hP ht hn r2
  go_enter Try.func124, Try.ntmps124
  go_wp2_with fail
  go_quiet (fail)
  go_wp2_with fail
  go_ret
  exact ⟨rfl, _, rfl⟩

set_option maxRecDepth 100000 in
theorem counts1i_any (W H x y pb lb g o n c t : Nat) (q lv : Int) (w : World) (hW : W ≤ 4000) (hH : H ≤ 4000) (hx : x < W) (hy : y < H) (hn : n = W * H) (ht : t = y * W + x) (hq : 0 ≤ q ∧ q ≤ 255)
    (c0 : w.cell? ⟨pb, 0, none⟩ = some (.int .i64 W)) (c2 : w.cell? ⟨pb, 2, none⟩ = some (.slice (some ⟨g, o, none⟩) n c)) (c3 : w.cell? ⟨lb, 0, none⟩ = some (.int .i64 lv)) (hc : w.cell? ⟨g, o + t, none⟩ = some (.int .u8 q)) :
    Calls Try.prog 61 #[.int .i64 x, .int .i64 y, .pointer (some ⟨pb, 0, none⟩), .pointer (some ⟨lb, 0, none⟩)] w fun e w' => e = .returned (.bool (decide (q < lv))) ∧ ∃ k, w' = w.drewN k := by
  obtain ⟨r1, r2⟩ := row_prod hW hH hy
  obtain ⟨P, hP⟩ : ∃ P, P = y * W := ⟨_, rfl⟩
  have e0 : IntKind.i64.wrap ((y : Int) * (W : Int)) = (P : Int) := by rw [← Int.natCast_mul, ← hP]; exact IntWalk.i64_in _ (by omega)
  rw [← hP] at r1 r2 ht
  have htn : (t : Int) < (n : Int) := by rw [hn, Nat.mul_comm W H]; omega
  have htn' : t < n := by omega
  have e1 : IntKind.i64.wrap ((P : Int) + (x : Int)) = (t : Int) := by rw [show (P : Int) + (x : Int) = (t : Int) by omega]; exact IntWalk.i64_in _ (by omega)
  have t0 : (0 : Int) ≤ (t : Int) := by omega
  have e2 : IntKind.i64.wrap q = q := IntWalk.i64_in _ (by omega)
  clear hP ht hn r2
  go_enter Try.func61, Try.ntmps61
  go_wp2_with fail
  go_quiet (fail)
  go_wp2_with fail
  go_ret
  exact ⟨rfl, _, rfl⟩

end Go.Proofs.Ytejhmobpepllcaa
