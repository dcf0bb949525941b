/-
  TurnsMatch returns true for all arguments, and each argument reads afterwards as it read before. No conditions.
-/
import Derived.Test.YtcpgnfbjdokdcaaRows
import Derived.WalkKit
import Derived.WalkSpells
import Derived.WalkLawsBesides
import Derived.Lib.Hide
import Derived.Deep.RegionHeld3
import Derived.Shelf.Abstract
import Derived.Deep.AppendLies
import Derived.Deep.DrawnRows
import Derived.Deep.RegionLaw
import Derived.Deep.QuietTactic
import Derived.BigQuiet
import Derived.ProofKit
import Derived.OpenShut
import Derived.ShutString
import Derived.ChangeOld
import Derived.Lib.SmallJoins
import Derived.Deep.Grids
import Derived.Lib.MinMax
import Derived.Deep.CutRange
import Derived.Deep.DeepCutAuto
import Derived.Laws.EntriesVeiled
import Derived.StillTailTactics
import Derived.Test.YtcpgnfbjdokdcaaCTurns3
namespace Go.Proofs.Ytcpgnfbjdokdcaa
open Go.RowKit
set_option linter.unusedSimpArgs false
set_option linter.unusedVariables false

theorem turnW_next (W H k : Nat) (hk : k ≤ 2) : turnW W H (k + 1) = turnW H W k := by
  have hk' : k = 0 ∨ k = 1 ∨ k = 2 := by omega
  rcases hk' with rfl | rfl | rfl <;> simp [turnW]

/-- A page turned k times, in the box tb. -/
def TurnedOk (W H : Nat) (z : Nat → Bool) (k tb : Nat) (w : World) : Prop :=
  ∃ g o c, w.heap[tb]? = some (.cells #[.int .i64 (turnW W H k), .int .i64 (turnW H W k), .slice (some ⟨g, o, none⟩) (turnW W H k * turnW H W k) c] 24 (0, 0)) ∧ g ≠ tb ∧
    ∀ m, m < turnW W H k * turnW H W k → w.cell? ⟨g, o + m, none⟩ = some (.bool (turnAt W H k z (m % turnW W H k) (m / turnW W H k)))

theorem TurnedOk.later {W H : Nat} {z : Nat → Bool} {k tb : Nat} {w w' : World} (h : TurnedOk W H z k tb w) (hb : Below w.heap.size w w') : TurnedOk W H z k tb w' := by
  obtain ⟨g, o, c, h1, h2, h3⟩ := h
  exact ⟨g, o, c, below_block hb h1, h2, fun m hm => cell_later hb (h3 m hm)⟩

theorem TurnedOk.next {W H k tb g' c' : Nat} {z : Nat → Bool} {wo : World} {x0 y0 s0 : Value} (hk : k ≤ 2) (hW : 1 ≤ W) (hH : 1 ≤ H) (hblk : wo.heap[tb]? = some (.cells #[x0, y0, s0] 24 (0, 0))) (hg : tb < g')
    (hz : ∀ j, j < turnW H W k * turnW W H k → wo.cell? ⟨g', 0 + j, none⟩ = some (.bool ((fun m => turnAt W H k z (m % turnW W H k) (m / turnW W H k)) ((turnW H W k - 1 - j % turnW H W k) * turnW W H k + j / turnW H W k)))) :
    TurnedOk W H z (k + 1) tb (((wo.setCell ⟨tb, 0, none⟩ (.int .i64 (turnW H W k))).setCell ⟨tb, 1, none⟩ (.int .i64 (turnW W H k))).setCell ⟨tb, 2, none⟩ (.slice (some ⟨g', 0, none⟩) (turnW H W k * turnW W H k) c')) := by
  have hm : turnW H W k * turnW W H k = W * H := by rw [turnW_mul, Nat.mul_comm]
  refine ⟨g', 0, c', ?_, by omega, fun m hm' => ?_⟩
  · rw [turnW_next W H k hk, turnW_next H W k hk]
    exact heap_setCell_same _ tb 2 #[.int .i64 (turnW H W k), .int .i64 (turnW W H k), s0] 24 _ (heap_setCell_same _ tb 1 #[.int .i64 (turnW H W k), y0, s0] 24 _ (heap_setCell_same _ tb 0 #[x0, y0, s0] 24 _ hblk))
  · rw [turnW_next W H k hk, turnW_next H W k hk] at hm'
    refine cell_far3 (show g' ≠ tb by omega) ?_
    rw [hz m hm']
    have e := turn_more W H k m z hW hH hk (by omega)
    simp only [e]

end Go.Proofs.Ytcpgnfbjdokdcaa
namespace Go.Proofs.Ytcpgnfbjdokdcaa
open Go.RowKit
set_option linter.unusedSimpArgs false
set_option linter.unusedVariables false

/-- A page turned k times, in the box tb. -/
def TurnedOkY (W H : Nat) (z : Nat → Int) (k tb : Nat) (w : World) : Prop :=
  ∃ g o c, w.heap[tb]? = some (.cells #[.int .i64 (turnW W H k), .int .i64 (turnW H W k), .slice (some ⟨g, o, none⟩) (turnW W H k * turnW H W k) c] 27 (0, 0)) ∧ g ≠ tb ∧
    ∀ m, m < turnW W H k * turnW H W k → w.cell? ⟨g, o + m, none⟩ = some (.int .u8 (turnAt W H k z (m % turnW W H k) (m / turnW W H k)))

theorem TurnedOkY.later {W H : Nat} {z : Nat → Int} {k tb : Nat} {w w' : World} (h : TurnedOkY W H z k tb w) (hb : Below w.heap.size w w') : TurnedOkY W H z k tb w' := by
  obtain ⟨g, o, c, h1, h2, h3⟩ := h
  exact ⟨g, o, c, below_block hb h1, h2, fun m hm => cell_later hb (h3 m hm)⟩

theorem TurnedOkY.next {W H k tb g' c' : Nat} {z : Nat → Int} {wo : World} {x0 y0 s0 : Value} (hk : k ≤ 2) (hW : 1 ≤ W) (hH : 1 ≤ H) (hblk : wo.heap[tb]? = some (.cells #[x0, y0, s0] 27 (0, 0))) (hg : tb < g')
    (hz : ∀ j, j < turnW H W k * turnW W H k → wo.cell? ⟨g', 0 + j, none⟩ = some (.int .u8 ((fun m => turnAt W H k z (m % turnW W H k) (m / turnW W H k)) ((turnW H W k - 1 - j % turnW H W k) * turnW W H k + j / turnW H W k)))) :
    TurnedOkY W H z (k + 1) tb (((wo.setCell ⟨tb, 0, none⟩ (.int .i64 (turnW H W k))).setCell ⟨tb, 1, none⟩ (.int .i64 (turnW W H k))).setCell ⟨tb, 2, none⟩ (.slice (some ⟨g', 0, none⟩) (turnW H W k * turnW W H k) c')) := by
  have hm : turnW H W k * turnW W H k = W * H := by rw [turnW_mul, Nat.mul_comm]
  refine ⟨g', 0, c', ?_, by omega, fun m hm' => ?_⟩
  · rw [turnW_next W H k hk, turnW_next H W k hk]
    exact heap_setCell_same _ tb 2 #[.int .i64 (turnW H W k), .int .i64 (turnW W H k), s0] 27 _ (heap_setCell_same _ tb 1 #[.int .i64 (turnW H W k), y0, s0] 27 _ (heap_setCell_same _ tb 0 #[x0, y0, s0] 27 _ hblk))
  · rw [turnW_next W H k hk, turnW_next H W k hk] at hm'
    refine cell_far3 (show g' ≠ tb by omega) ?_
    rw [hz m hm']
    have e := turn_more W H k m z hW hH hk (by omega)
    simp only [e]

end Go.Proofs.Ytcpgnfbjdokdcaa
namespace Go.Proofs.Ytcpgnfbjdokdcaa
open Go.RowKit
set_option linter.unusedSimpArgs false
set_option linter.unusedVariables false

theorem bitsIs_turned (a b i j : Int) (n k tb B n' c' : Nat) (z : Nat → Bool) (sl : Option Addr) (w : World) (hI : PageIs (pageErr a b n) (turnW a.toNat b.toNat k) (turnW b.toNat a.toNat k) (turnAt a.toNat b.toNat k z) B w i j sl n' c')
    (hU : pageErr a b n = 0 → TurnedOk a.toNat b.toNat z k tb w) :
    Calls Try.prog 21 #[.agg #[.int .i64 i, .int .i64 j, .slice sl n' c'], .int .i64 (pageErr a b n), .int .i64 (pageErr a b n), .func (.func 37) #[] #[.pointer (some ⟨tb, 0, none⟩)]] w fun e w' => e = .returned (.bool true) ∧ Below w.heap.size w w' := by
  refine bitsIs_page _ _ _ i j _ sl n' c' B 37 _ w hI (Go.Proofs.enters_of Try.func37 (by kernel_rfl) rfl) ?_
  intro hE
  obtain ⟨W, H, rfl, rfl, hn, w1, w2, h1, h2, hN, he⟩ := page_nat hE
  obtain ⟨g, o, c, hblk, _, hz⟩ := hU hE
  simp only [Int.toNat_natCast] at hblk hz ⊢
  refine ⟨turnW W H k, turnW H W k, rfl, rfl, by rw [turnW_mul]; omega, fun wx hbx => ?_⟩
  obtain ⟨j0, j1, j2, _, _, _⟩ := block3 (below_block hbx hblk)
  refine (turns1_any _ _ _ _ _ tb wx j0 j1 j2).mono ?_
  rintro e w' ⟨rfl, hb⟩
  exact ⟨_, rfl, ⟨g, o, c, rfl, fun m hm => cell_later hb (cell_later hbx (hz m hm))⟩, hb⟩

theorem bitsIs_mirror (a b i j : Int) (n c pb B n' c' : Nat) (z : Nat → Bool) (s sl : Option Addr) (w : World) (hI : PageIs (pageErr a b n) a b (fun x y => z (y * a.toNat + (a.toNat - 1 - x))) B w i j sl n' c') (hs : IsBools w s n c z)
    (c0 : w.cell? ⟨pb, 0, none⟩ = some (.int .i64 a)) (c1 : w.cell? ⟨pb, 1, none⟩ = some (.int .i64 b)) (c2 : w.cell? ⟨pb, 2, none⟩ = some (.slice s n c)) :
    Calls Try.prog 21 #[.agg #[.int .i64 i, .int .i64 j, .slice sl n' c'], .int .i64 (pageErr a b n), .int .i64 (pageErr a b n), .func (.func 38) #[] #[.pointer (some ⟨pb, 0, none⟩)]] w fun e w' => e = .returned (.bool true) ∧ Below w.heap.size w w' := by
  refine bitsIs_page _ _ _ i j _ sl n' c' B 38 _ w hI (Go.Proofs.enters_of Try.func38 (by kernel_rfl) rfl) ?_
  intro hE
  obtain ⟨W, H, rfl, rfl, hn, w1, w2, h1, h2, hN, he⟩ := page_nat hE
  obtain ⟨g, o, rfl, hc⟩ := isBools_cells hs (by rw [hn]; exact Nat.mul_pos w1 h1)
  subst hn
  refine ⟨W, H, rfl, rfl, by omega, fun wx hbx => ?_⟩
  simp only [Int.toNat_natCast]
  exact turns2_any W H pb g o c z wx ⟨w1, w2⟩ ⟨h1, h2⟩ hN (cell_later hbx c0) (cell_later hbx c1) (cell_later hbx c2) (fun m hm => cell_later hbx (hc m hm))

theorem bitsIs_invert (a b i j : Int) (n c pb B n' c' : Nat) (z : Nat → Bool) (s sl : Option Addr) (w : World) (hI : PageIs (pageErr a b n) a b (fun x y => !z (y * a.toNat + x)) B w i j sl n' c') (hs : IsBools w s n c z)
    (c0 : w.cell? ⟨pb, 0, none⟩ = some (.int .i64 a)) (c1 : w.cell? ⟨pb, 1, none⟩ = some (.int .i64 b)) (c2 : w.cell? ⟨pb, 2, none⟩ = some (.slice s n c)) :
    Calls Try.prog 21 #[.agg #[.int .i64 i, .int .i64 j, .slice sl n' c'], .int .i64 (pageErr a b n), .int .i64 (pageErr a b n), .func (.func 42) #[] #[.pointer (some ⟨pb, 0, none⟩)]] w fun e w' => e = .returned (.bool true) ∧ Below w.heap.size w w' := by
  refine bitsIs_page _ _ _ i j _ sl n' c' B 42 _ w hI (Go.Proofs.enters_of Try.func42 (by kernel_rfl) rfl) ?_
  intro hE
  obtain ⟨W, H, rfl, rfl, hn, w1, w2, h1, h2, hN, he⟩ := page_nat hE
  obtain ⟨g, o, rfl, hc⟩ := isBools_cells hs (by rw [hn]; exact Nat.mul_pos w1 h1)
  subst hn
  refine ⟨W, H, rfl, rfl, by omega, fun wx hbx => ?_⟩
  simp only [Int.toNat_natCast]
  exact turns3_any W H pb g o c z wx ⟨w1, w2⟩ ⟨h1, h2⟩ hN (cell_later hbx c0) (cell_later hbx c1) (cell_later hbx c2) (fun m hm => cell_later hbx (hc m hm))

theorem growErr_zero {a b t : Int} {n : Nat} (h : growErr a b n t = 0) : pageErr a b n = 0 ∧ (1 ≤ t ∧ t ≤ 16) ∧ sizeErr (a * t) (b * t) = 0 := by
  unfold growErr at h
  by_cases h1 : pageErr a b n = 0
  · rw [if_pos h1] at h
    by_cases h2 : 1 ≤ t ∧ t ≤ 16
    · rw [if_pos h2] at h; exact ⟨h1, h2, h⟩
    · rw [if_neg h2] at h; simp at h
  · rw [if_neg h1] at h; exact absurd h h1

theorem bitsIs_grow (a b i j t : Int) (n c pb qb B n' c' : Nat) (z : Nat → Bool) (s sl : Option Addr) (w : World) (hI : PageIs (growErr a b n t) (a * t) (b * t) (fun x y => z (y / t.toNat * a.toNat + x / t.toNat)) B w i j sl n' c') (hs : IsBools w s n c z)
    (c0 : w.cell? ⟨pb, 0, none⟩ = some (.int .i64 a)) (c1 : w.cell? ⟨pb, 1, none⟩ = some (.int .i64 b)) (c2 : w.cell? ⟨pb, 2, none⟩ = some (.slice s n c)) (c3 : w.cell? ⟨qb, 0, none⟩ = some (.int .i64 t)) :
    Calls Try.prog 21 #[.agg #[.int .i64 i, .int .i64 j, .slice sl n' c'], .int .i64 (growErr a b n t), .int .i64 (growErr a b n t), .func (.func 48) #[] #[.pointer (some ⟨pb, 0, none⟩), .pointer (some ⟨qb, 0, none⟩)]] w fun e w' => e = .returned (.bool true) ∧ Below w.heap.size w w' := by
  refine bitsIs_page _ _ _ i j _ sl n' c' B 48 _ w hI (Go.Proofs.enters_of Try.func48 (by kernel_rfl) rfl) ?_
  intro hE
  obtain ⟨hp, ht, hsz⟩ := growErr_zero hE
  obtain ⟨W, H, rfl, rfl, hn, w1, w2, h1, h2, hN, he⟩ := page_nat hp
  obtain ⟨k, rfl⟩ := Int.eq_ofNat_of_zero_le (show 0 ≤ t by omega)
  obtain ⟨g, o, rfl, hc⟩ := isBools_cells hs (by rw [hn]; exact Nat.mul_pos w1 h1)
  subst hn
  have hsz' : sizeErr ((W * k : Nat) : Int) ((H * k : Nat) : Int) = 0 := by rw [Int.natCast_mul, Int.natCast_mul]; exact hsz
  obtain ⟨⟨b1, b2, b3, b4⟩, y0, y1⟩ := sizeErr_zero hsz'
  have hN2 : W * k * (H * k) ≤ 1048576 := by rw [← Int.natCast_mul] at y1; omega
  refine ⟨W * k, H * k, by rw [Int.natCast_mul], by rw [Int.natCast_mul], by omega, fun wx hbx => ?_⟩
  simp only [Int.toNat_natCast, Int.ofNat_eq_natCast]
  exact turns5_any W H k _ _ pb qb g o c z wx ⟨w1, w2⟩ ⟨h1, h2⟩ (by omega) (by omega) rfl rfl ⟨by omega, by omega⟩ ⟨by omega, by omega⟩ hN2 (cell_later hbx c0) (cell_later hbx c1) (cell_later hbx c2) (cell_later hbx c3) (fun m hm => cell_later hbx (hc m hm))

/-- Whatever was wanted of growing. -/
theorem want_grow {a b t : Int} {n : Nat} (h : orI (pageErr a b n) (whenI (!decide (1 ≤ t ∧ t ≤ 16)) 3) ≠ 0) : orI (pageErr a b n) (whenI (!decide (1 ≤ t ∧ t ≤ 16)) 3) = growErr a b n t := by
  unfold orI whenI growErr at *
  by_cases h1 : pageErr a b n = 0
  · by_cases h2 : 1 ≤ t ∧ t ≤ 16
    · simp [h1, h2] at h
    · simp [h1, h2]
  · simp [h1]
theorem want_grow0 {a b t : Int} {n : Nat} (h : orI (pageErr a b n) (whenI (!decide (1 ≤ t ∧ t ≤ 16)) 3) = 0) : pageErr a b n = 0 ∧ (1 ≤ t ∧ t ≤ 16) ∧ sizeErr (a * t) (b * t) = growErr a b n t := by
  unfold orI whenI at h
  unfold growErr
  by_cases h1 : pageErr a b n = 0
  · by_cases h2 : 1 ≤ t ∧ t ≤ 16
    · exact ⟨h1, h2, by rw [if_pos h1, if_pos h2]⟩
    · simp [h1, h2] at h
  · simp [h1] at h

end Go.Proofs.Ytcpgnfbjdokdcaa
namespace Go.Proofs.Ytcpgnfbjdokdcaa
set_option linter.unusedSimpArgs false
set_option linter.unusedVariables false

/-- The sum of n values from k on. -/
def rowSum (P : Nat → Int) (k : Nat) : Nat → Int
  | 0 => 0
  | n + 1 => rowSum P k n + P (k + n)

/-- The sum of a rectangle of a page that is W wide: from (x, y) on, nx wide and ny high. -/
def rectSum (P : Nat → Int) (W y x nx : Nat) : Nat → Int
  | 0 => 0
  | n + 1 => rectSum P W y x nx n + rowSum P ((y + n) * W + x) nx

end Go.Proofs.Ytcpgnfbjdokdcaa
namespace Go.Proofs.Ytcpgnfbjdokdcaa
open Go.RowKit
set_option linter.unusedSimpArgs false
set_option linter.unusedVariables false

/-- The mean of the pixels of a square of two by two from (2x, 2y) on, as far as they are there. -/
def mean4 (P : Nat → Int) (W H x y : Nat) : Int :=
  (2 * rectSum P W (2 * y) (2 * x) (min (2 * x + 2) W - 2 * x) (min (2 * y + 2) H - 2 * y) + (((min (2 * x + 2) W - 2 * x) * (min (2 * y + 2) H - 2 * y) : Nat) : Int)) / (2 * (((min (2 * x + 2) W - 2 * x) * (min (2 * y + 2) H - 2 * y) : Nat) : Int))

end Go.Proofs.Ytcpgnfbjdokdcaa
namespace Go.Proofs.Ytcpgnfbjdokdcaa
open Go.RowKit
set_option linter.unusedSimpArgs false
set_option linter.unusedVariables false

/-- The place (a, b) lies in the other page. -/
def InC (Wc Hc : Nat) (x y : Int) (a b : Nat) : Prop := (0 ≤ (a : Int) - x ∧ (a : Int) - x < Wc) ∧ (0 ≤ (b : Int) - y ∧ (b : Int) - y < Hc)
instance (Wc Hc : Nat) (x y : Int) (a b : Nat) : Decidable (InC Wc Hc x y a b) := by unfold InC; infer_instance

/-- A place of the page with the other one pasted. -/
def pasteAt (W Wc Hc : Nat) (x y : Int) (z1 z2 : Nat → Bool) (a b : Nat) : Bool :=
  z1 (b * W + a) || (decide (InC Wc Hc x y a b) && z2 (((b : Int) - y).toNat * Wc + ((a : Int) - x).toNat))

end Go.Proofs.Ytcpgnfbjdokdcaa
namespace Go.Proofs.Ytcpgnfbjdokdcaa
open Go.RowKit
set_option linter.unusedSimpArgs false
set_option linter.unusedVariables false

theorem small_any (a b : Int) (w : World) (h : sizeErr a b = 0) : Calls Try.prog 32 #[.int .i64 a, .int .i64 b] w fun e w' => ∃ q, e = .returned (.bool q) ∧ w = w' := by
  obtain ⟨_, z0, z1⟩ := sizeErr_zero h
  have hw : wrap64 (a * b) = a * b := by unfold wrap64; omega
  clear h
  by_cases h1 : a ≤ 200
  · by_cases h2 : b ≤ 200
    · go_enter Try.func32, Try.ntmps32
      go_wp2_with ((go_at_call 47; refine (in_yes _ _ _ _ (by omega)).mono ?_; rintro e w' ⟨rfl, rfl⟩))
      go_ret
      exact ⟨_, rfl, rfl⟩
    · go_enter Try.func32, Try.ntmps32
      go_wp2_with (first | (go_at_call 47; refine (in_yes _ _ _ _ (by omega)).mono ?_; rintro e w' ⟨rfl, rfl⟩) | (go_at_call 47; refine (in_no _ _ _ _ (by omega)).mono ?_; rintro e w' ⟨rfl, rfl⟩))
      go_ret
      exact ⟨_, rfl, rfl⟩
  · go_enter Try.func32, Try.ntmps32
    go_wp2_with (first | (go_at_call 47; refine (in_no _ _ _ _ (by omega)).mono ?_; rintro e w' ⟨rfl, rfl⟩))
    go_ret
    exact ⟨_, rfl, rfl⟩

/-- What a halved page is, in memory: nothing with an error; else the means. -/
def HalveIs (a b : Int) (n : Nat) (z : Nat → Int) (B : Nat) (w : World) (i j : Int) (sl : Option Addr) (n' c' : Nat) : Prop :=
  (pageErr a b n ≠ 0 ∧ i = 0 ∧ j = 0 ∧ sl = none ∧ n' = 0 ∧ c' = 0) ∨
  (pageErr a b n = 0 ∧ i = (((a.toNat + 1) / 2 : Nat) : Int) ∧ j = (((b.toNat + 1) / 2 : Nat) : Int) ∧ n' = (a.toNat + 1) / 2 * ((b.toNat + 1) / 2) ∧ ∃ g, B ≤ g ∧ sl = some ⟨g, 0, none⟩ ∧ ∀ k, k < n' → w.cell? ⟨g, 0 + k, none⟩ = some (.int .u8 (mean4 z a.toNat b.toNat (k % ((a.toNat + 1) / 2)) (k / ((a.toNat + 1) / 2)))))

theorem HalveIs.later {a b : Int} {n : Nat} {z : Nat → Int} {B : Nat} {w w' : World} {i j : Int} {sl : Option Addr} {n' c' : Nat} (h : HalveIs a b n z B w i j sl n' c') (hb : Below w.heap.size w w') : HalveIs a b n z B w' i j sl n' c' := by
  rcases h with h | ⟨h1, h2, h3, h4, g, h5, h6, h7⟩
  · exact .inl h
  · exact .inr ⟨h1, h2, h3, h4, g, h5, h6, fun k hk => cell_later hb (h7 k hk)⟩

/-- The error of pasting. -/
def pasteErr (a1 b1 : Int) (n1 : Nat) (a2 b2 : Int) (n2 : Nat) : Int := orI (pageErr a1 b1 n1) (pageErr a2 b2 n2)

/-- What a pasted page is, in memory. -/
def PasteIs (a1 b1 : Int) (n1 : Nat) (a2 b2 : Int) (n2 : Nat) (x y : Int) (z1 z2 : Nat → Bool) (B : Nat) (w : World) (i j : Int) (sl : Option Addr) (n' c' : Nat) : Prop :=
  (pasteErr a1 b1 n1 a2 b2 n2 ≠ 0 ∧ i = 0 ∧ j = 0 ∧ sl = none ∧ n' = 0 ∧ c' = 0) ∨
  (pasteErr a1 b1 n1 a2 b2 n2 = 0 ∧ i = a1 ∧ j = b1 ∧ n' = n1 ∧ ∃ g, B ≤ g ∧ sl = some ⟨g, 0, none⟩ ∧ ∀ k, k < n' → w.cell? ⟨g, 0 + k, none⟩ = some (.bool (pasteAt a1.toNat a2.toNat b2.toNat x y z1 z2 (k % a1.toNat) (k / a1.toNat))))

theorem PasteIs.later {a1 b1 : Int} {n1 : Nat} {a2 b2 : Int} {n2 : Nat} {x y : Int} {z1 z2 : Nat → Bool} {B : Nat} {w w' : World} {i j : Int} {sl : Option Addr} {n' c' : Nat} (h : PasteIs a1 b1 n1 a2 b2 n2 x y z1 z2 B w i j sl n' c') (hb : Below w.heap.size w w') : PasteIs a1 b1 n1 a2 b2 n2 x y z1 z2 B w' i j sl n' c' := by
  rcases h with h | ⟨h1, h2, h3, h4, g, h5, h6, h7⟩
  · exact .inl h
  · exact .inr ⟨h1, h2, h3, h4, g, h5, h6, fun k hk => cell_later hb (h7 k hk)⟩

end Go.Proofs.Ytcpgnfbjdokdcaa
namespace Go.Proofs.Ytcpgnfbjdokdcaa
open Go.RowKit
set_option linter.unusedSimpArgs false
set_option linter.unusedVariables false

/-- The arguments that lie in boxes. -/
def BoxesT (B : Nat) (a1 b1 : Int) (s1 : Option Addr) (n1 c1 : Nat) (a2 b2 : Int) (s2 : Option Addr) (n2 c2 : Nat) (tm : Int) (w : World) : Prop :=
  (w.cell? ⟨B, 0, none⟩ = some (.int .i64 a1) ∧ w.cell? ⟨B, 1, none⟩ = some (.int .i64 b1) ∧ w.cell? ⟨B, 2, none⟩ = some (.slice s1 n1 c1)) ∧
  (w.cell? ⟨B + 1, 0, none⟩ = some (.int .i64 a2) ∧ w.cell? ⟨B + 1, 1, none⟩ = some (.int .i64 b2) ∧ w.cell? ⟨B + 1, 2, none⟩ = some (.slice s2 n2 c2)) ∧
  w.cell? ⟨B + 2, 0, none⟩ = some (.int .i64 tm)

theorem BoxesT.laterB {B base : Nat} {a1 b1 : Int} {s1 : Option Addr} {n1 c1 : Nat} {a2 b2 : Int} {s2 : Option Addr} {n2 c2 : Nat} {tm : Int} {w w' : World} (h : BoxesT B a1 b1 s1 n1 c1 a2 b2 s2 n2 c2 tm w) (hb : Below base w w') (hB : B + 2 < base) :
    BoxesT B a1 b1 s1 n1 c1 a2 b2 s2 n2 c2 tm w' := by
  obtain ⟨⟨k0, k1, k2⟩, ⟨m0, m1, m2⟩, e0⟩ := h
  exact ⟨⟨(hb.cell (p := ⟨B, 0, none⟩) (by simp; omega)).trans k0, (hb.cell (p := ⟨B, 1, none⟩) (by simp; omega)).trans k1, (hb.cell (p := ⟨B, 2, none⟩) (by simp; omega)).trans k2⟩, ⟨(hb.cell (p := ⟨B + 1, 0, none⟩) (by simp; omega)).trans m0, (hb.cell (p := ⟨B + 1, 1, none⟩) (by simp; omega)).trans m1, (hb.cell (p := ⟨B + 1, 2, none⟩) (by simp; omega)).trans m2⟩, (hb.cell (p := ⟨B + 2, 0, none⟩) (by simp; omega)).trans e0⟩

theorem BoxesT.lt {B : Nat} {a1 b1 : Int} {s1 : Option Addr} {n1 c1 : Nat} {a2 b2 : Int} {s2 : Option Addr} {n2 c2 : Nat} {tm : Int} {w : World} (h : BoxesT B a1 b1 s1 n1 c1 a2 b2 s2 n2 c2 tm w) : B + 2 < w.heap.size := World.block_lt_of_cell? _ _ h.2.2

theorem BoxesT.later {B : Nat} {a1 b1 : Int} {s1 : Option Addr} {n1 c1 : Nat} {a2 b2 : Int} {s2 : Option Addr} {n2 c2 : Nat} {tm : Int} {w w' : World} (h : BoxesT B a1 b1 s1 n1 c1 a2 b2 s2 n2 c2 tm w) (hb : Below w.heap.size w w') :
    BoxesT B a1 b1 s1 n1 c1 a2 b2 s2 n2 c2 tm w' := h.laterB hb h.lt

set_option maxHeartbeats 2500000 in
set_option maxRecDepth 100000 in
theorem turn_walk (a1 b1 : Int) (s1 : Option Addr) (n1 c1 : Nat) (z : Nat → Bool) (a2 b2 : Int) (s2 : Option Addr) (n2 c2 : Nat) (zs : List Int) (qt tm : Int) (w : World) (hs1 : IsBools w s1 n1 c1 z) (hs2 : IsBytes w s2 n2 c2 zs) :
    Calls Try.prog 4 #[.agg #[.int .i64 a1, .int .i64 b1, .slice s1 n1 c1], .agg #[.int .i64 a2, .int .i64 b2, .slice s2 n2 c2], .int .i64 qt, .int .i64 tm] w fun e w' => e = .returned (.bool true) ∧ Below w.heap.size w w' := by
  obtain ⟨k, hk, hk3⟩ := quart_some qt
  have t1 : qt.tmod 4 ≤ 3 := by have := Int.tmod_lt_of_pos qt (show (0:Int) < 4 by decide); omega
  have t0 : -3 ≤ qt.tmod 4 := by have := Int.lt_tmod_of_pos qt (show (0:Int) < 4 by decide); omega
  have HKK := Lib.hid hk
  have HS1 := Lib.hid hs1
  have HS2 := Lib.hid hs2
  clear hs1 hs2
  go_enter Try.func4, Try.ntmps4
  go_wp2_with fail
  obtain ⟨w0, hw0⟩ : ∃ w0, w0 = ((w.alloc (.cells #[.int .i64 a1, .int .i64 b1, .slice s1 n1 c1] 24)).alloc (.cells #[.int .i64 a2, .int .i64 b2, .slice s2 n2 c2] 27)).alloc (.cells #[.int .i64 tm] 3) := ⟨_, rfl⟩
  have B0 : Below w.heap.size w w0 := by rw [hw0]; exact below_alloc (below_alloc (new_below _ _) _) _
  have T0 : BoxesT w.heap.size a1 b1 s1 n1 c1 a2 b2 s2 n2 c2 tm w0 := by
    rw [hw0]
    refine ⟨⟨?_, ?_, ?_⟩, ⟨?_, ?_, ?_⟩, ?_⟩ <;> go_simp
  rw [← hw0]
  clear hw0
  refine (bitsError_any a1 b1 s1 n1 c1 _).mono ?_
  rintro e wa ⟨rfl, hba⟩
  have HTa := Lib.hid (T0.later hba)
  have BA := Lib.hid (below_step B0 hba)
  clear hba B0 T0
  go_upto_region 2 with fail
  go_cut [47] from 23 (fun t wx => ∃ q, t = .bool q ∧ Hid (BoxesT w.heap.size a1 b1 s1 n1 c1 a2 b2 s2 n2 c2 tm wx ∧ Below w.heap.size w wx))
  case first =>
    obtain ⟨⟨k0, k1, k2⟩, ⟨m0, m1, m2⟩, e0⟩ := HTa.out
    have l0 := World.block_lt_of_cell? _ _ k0
    have l1 := World.block_lt_of_cell? _ _ m0
    simp only at l0 l1
    by_cases hE1 : pageErr a1 b1 n1 = 0
    · have hsz := (page_parts hE1).1
      have hE1b : (pageErr a1 b1 n1 == 0) = true := by simpa using hE1
      clear hE1
      go_wp2_with fail
      refine (small_any a1 b1 _ hsz).mono ?_
      rintro e wq ⟨q, rfl, rfl⟩
      cases q
      · go_wp2_with fail
        go_meet
        case rel => exact ⟨_, rfl, Lib.hid ⟨HTa.out, BA.out⟩⟩
      · go_wp2_with fail
        refine (grayError_any a2 b2 s2 n2 c2 _).mono ?_
        rintro e wb ⟨rfl, hbb⟩
        have HTb := Lib.hid (HTa.out.later hbb)
        have BB := Lib.hid (below_step BA.out hbb)
        clear hbb k0 k1 k2 m0 m1 m2 e0 l0 l1
        obtain ⟨⟨k0, k1, k2⟩, ⟨m0, m1, m2⟩, e0⟩ := HTb.out
        have l0 := World.block_lt_of_cell? _ _ k0
        have l1 := World.block_lt_of_cell? _ _ m0
        simp only at l0 l1
        by_cases hE2 : pageErr a2 b2 n2 = 0
        · have hsz2 := (page_parts hE2).1
          have hE2b : (pageErr a2 b2 n2 == 0) = true := by simpa using hE2
          clear hE2
          go_wp2_with fail
          refine (small_any a2 b2 _ hsz2).mono ?_
          rintro e wq ⟨q, rfl, rfl⟩
          cases q
          · go_wp2_with fail
            go_meet
            case rel => exact ⟨_, rfl, Lib.hid ⟨HTb.out, BB.out⟩⟩
          · go_wp2_with fail
            go_meet
            case rel => exact ⟨_, rfl, Lib.hid ⟨HTb.out, BB.out⟩⟩
        · have hE2b : (pageErr a2 b2 n2 == 0) = false := by simpa using hE2
          clear hE2
          go_wp2_with fail
          go_meet
          case rel => exact ⟨_, rfl, Lib.hid ⟨HTb.out, BB.out⟩⟩
    · have hE1b : (pageErr a1 b1 n1 == 0) = false := by simpa using hE1
      clear hE1
      go_wp2_with fail
      refine (grayError_any a2 b2 s2 n2 c2 _).mono ?_
      rintro e wb ⟨rfl, hbb⟩
      have HTb := Lib.hid (HTa.out.later hbb)
      have BB := Lib.hid (below_step BA.out hbb)
      clear hbb k0 k1 k2 m0 m1 m2 e0 l0 l1
      obtain ⟨⟨k0, k1, k2⟩, ⟨m0, m1, m2⟩, e0⟩ := HTb.out
      have l0 := World.block_lt_of_cell? _ _ k0
      have l1 := World.block_lt_of_cell? _ _ m0
      simp only at l0 l1
      by_cases hE2 : pageErr a2 b2 n2 = 0
      · have hsz2 := (page_parts hE2).1
        have hE2b : (pageErr a2 b2 n2 == 0) = true := by simpa using hE2
        clear hE2
        go_wp2_with fail
        refine (small_any a2 b2 _ hsz2).mono ?_
        rintro e wq ⟨q, rfl, rfl⟩
        cases q
        · go_wp2_with fail
          go_meet
          case rel => exact ⟨_, rfl, Lib.hid ⟨HTb.out, BB.out⟩⟩
        · go_wp2_with fail
          go_meet
          case rel => exact ⟨_, rfl, Lib.hid ⟨HTb.out, BB.out⟩⟩
      · have hE2b : (pageErr a2 b2 n2 == 0) = false := by simpa using hE2
        clear hE2
        go_wp2_with fail
        go_meet
        case rel => exact ⟨_, rfl, Lib.hid ⟨HTb.out, BB.out⟩⟩
  case rest =>
    obtain ⟨q, rfl, HF⟩ := hcut
    obtain ⟨wf, rfl⟩ : ∃ wf, wf = wc := ⟨_, rfl⟩
    have HTf := Lib.hid HF.out.1
    have BF := Lib.hid HF.out.2
    clear HF HTa BA
    cases q
    case true =>
      go_wp2_with fail
      refine (pages_any _).mono ?_
      rintro e wp ⟨rfl, hbp⟩
      go_wp2_with fail
      go_ret
      exact ⟨rfl, below_step BF.out hbp⟩
    case false =>
      obtain ⟨⟨k0, k1, k2⟩, ⟨m0, m1, m2⟩, e0⟩ := HTf.out
      have l0 := World.block_lt_of_cell? _ _ k0
      simp only at l0
      go_upto_if 55 with fail
      have hq0 := heap_alloc_new wf (.cells #[.int .i64 a1, .int .i64 b1, .slice s1 n1 c1] 24)
      have hb0 := new_below wf (.cells #[.int .i64 a1, .int .i64 b1, .slice s1 n1 c1] 24)
      obtain ⟨tb, htb⟩ : ∃ tb, tb = wf.heap.size := ⟨_, rfl⟩
      obtain ⟨wt, hwt⟩ : ∃ wt, wt = wf.alloc (.cells #[.int .i64 a1, .int .i64 b1, .slice s1 n1 c1] 24) := ⟨_, rfl⟩
      rw [← hwt] at hq0 hb0 ⊢
      rw [← htb] at hq0 ⊢
      have HTt := Lib.hid (HTf.out.later hb0)
      have BT := Lib.hid (below_step BF.out hb0)
      have HQ := Lib.hid hq0
      have hlt := HTf.out.lt
      have LT := Lib.hid (show w.heap.size + 2 < tb by omega)
      have SZ := Lib.hid (show wt.heap.size = tb + 1 by rw [hwt, htb]; simp)
      clear hq0 hb0 k0 k1 k2 m0 m1 m2 e0 l0 HTf BF hlt hwt htb
      go_cut [] from 54 (fun wx => Hid (BoxesT w.heap.size a1 b1 s1 n1 c1 a2 b2 s2 n2 c2 tm wx ∧ Below w.heap.size w wx ∧ tb < wx.heap.size ∧ (pageErr a1 b1 n1 = 0 → TurnedOk a1.toNat b1.toNat z k tb wx)))
      case first =>
        obtain ⟨bb, hbb⟩ : ∃ bb, bb = (pageErr a1 b1 n1 == 0) := ⟨_, rfl⟩
        rw [← hbb]
        by_cases hE1 : pageErr a1 b1 n1 = 0
        · obtain rfl : bb = true := by rw [hbb]; simpa using hE1
          clear hbb
          obtain ⟨W, H, rfl, rfl, hn, w1, w2, h1, h2, hN, he⟩ := page_nat hE1
          have hpos : 1 ≤ n1 := by rw [hn]; exact Nat.mul_pos w1 h1
          have hWH : W * H ≤ 1048576 := by omega
          obtain ⟨g, o, rfl, hc0⟩ := isBools_cells HS1.out hpos
          have hgw := World.block_lt_of_cell? _ _ (hc0 0 (by omega))
          have hgt : g < tb := by have := LT.out; simp only at hgw; omega
          have hc := fun j hj => cell_later BT.out (hc0 j hj)
          have TO : TurnedOk W H z 0 tb wt := ⟨g, o, c1, by rw [show turnW W H 0 * turnW H W 0 = n1 by rw [hn]; rfl]; exact HQ.out, by omega, fun m hm => by
            have e : turnAt W H 0 z (m % turnW W H 0) (m / turnW W H 0) = z m := by
              simp only [turnAt, turnW]
              rw [if_neg (by decide), if_neg (by decide), if_neg (by decide), if_neg (by decide), Nat.mul_comm, Nat.div_add_mod]
            rw [e]
            exact hc m (by rw [hn]; exact hm)⟩
          have HTO := Lib.hid TO
          clear hE1 TO hc hc0 hn hgw
          go_wp2_with fail
          go_loopw [57] (fun i wr => ∃ m : Nat, m ≤ k ∧ i = .int .i64 m ∧ TurnedOk W H z m tb wr ∧ Below tb wt wr) (fun i _ => k - (intOf i).toNat)
          case atStart => exact ⟨0, Nat.zero_le _, rfl, HTO.out, Below.refl _ _⟩
          case round =>
            obtain ⟨m, hmk, rfl, hTO, hbr⟩ := hrel
            by_cases hlt : m < k
            · obtain ⟨g2, o2, c2', hblk, hg2, hz2⟩ := hTO
              obtain ⟨j0, j1, j2, r0, r1, r2⟩ := block3 hblk
              have lj := World.block_lt_of_cell? _ _ j0
              simp only at lj
              have HZ2 := Lib.hid hz2
              have HBR := Lib.hid hbr
              have HBK := Lib.hid hblk
              clear hz2 hbr hblk
              go_wp2_with fail
              refine (turnOf_any (turnW W H m) (turnW H W m) g2 o2 c2' _ wr (turnW_pos ⟨w1, w2⟩ ⟨h1, h2⟩) (turnW_pos ⟨h1, h2⟩ ⟨w1, w2⟩) (by rw [turnW_mul]; omega) HZ2.out).mono ?_
              rintro e wo ⟨g3, c3, rfl, hg3, hz3, hbo⟩
              have hblk := below_block hbo HBK.out
              have HZ3 := Lib.hid hz3
              have HBO := Lib.hid hbo
              clear j0 j1 j2 r0 r1 r2 hz3 hbo
              obtain ⟨j0, j1, j2, r0, r1, r2⟩ := block3 hblk
              have HBK2 := Lib.hid hblk
              clear hblk
              go_wp2_with fail
              go_roundw
              case rel =>
                refine ⟨m + 1, by omega, ?_, ?_, ?_⟩
                · go_num
                · exact TurnedOk.next (by omega) w1 h1 HBK2.out (by omega) HZ3.out
                · exact (((HBR.out.trans (HBO.out.mono (by omega))).setCell (by simp) _).setCell (by simp) _).setCell (by simp) _
              case measure => simp [intOf]; omega
            · have HTk := Lib.hid (show TurnedOk W H z k tb wr by rw [show k = m by omega]; exact hTO)
              have HBR := Lib.hid hbr
              clear hTO hbr
              go_wp2_with fail
              go_meet
              case rel =>
                have hlw := LT.out
                obtain ⟨_, _, _, hbk, _⟩ := HTk.out
                exact Lib.hid ⟨HTt.out.laterB HBR.out hlw, BT.out.trans (HBR.out.mono (by omega)), (Array.getElem?_eq_some_iff.1 hbk).1, fun _ => by simpa using HTk.out⟩
        · obtain rfl : bb = false := by rw [hbb]; simpa using hE1
          clear hbb
          go_wp2_with fail
          go_meet
          case rel => exact Lib.hid ⟨HTt.out, BT.out, by have := SZ.out; omega, fun h => absurd h hE1⟩
      case rest =>
        obtain ⟨wg, rfl⟩ : ∃ wg, wg = wc := ⟨_, rfl⟩
        have HF := hcut
        clear hcut HTt BT HQ SZ
        obtain ⟨⟨k0, k1, k2⟩, ⟨m0, m1, m2⟩, e0⟩ := HF.out.1
        have BG := Lib.hid HF.out.2.1
        go_wp2_with fail
        refine (turn_any a1 b1 s1 n1 c1 k qt z wg (isBools_later HS1.out BG.out) HKK.out).mono ?_
        rintro e wh ⟨ti, tj, ts, tn, tc, rfl, hI, hbh⟩
        have hnh := new_below wh (.cells #[.int .i64 ti, .int .i64 tj, .slice ts tn tc] 24)
        have hbn := below_step hbh hnh
        obtain ⟨wi, hwi⟩ : ∃ wi, wi = wh.alloc (.cells #[.int .i64 ti, .int .i64 tj, .slice ts tn tc] 24) := ⟨_, rfl⟩
        have HTi := Lib.hid (HF.out.1.later hbn)
        have BI := Lib.hid (below_step BG.out hbn)
        have HQi := Lib.hid (heap_alloc_new wh (.cells #[.int .i64 ti, .int .i64 tj, .slice ts tn tc] 24))
        have HIi := Lib.hid (hI.later hnh)
        have HUi := Lib.hid (show tb < wh.heap.size ∧ (pageErr a1 b1 n1 = 0 → TurnedOk a1.toNat b1.toNat z k tb wi) from ⟨Nat.lt_of_lt_of_le HF.out.2.2.1 hbh.size, fun h => hwi ▸ (HF.out.2.2.2 h).later hbn⟩)
        rw [← hwi] at HTi BI HQi HIi
        have LH := Lib.hid (show w.heap.size + 2 < wh.heap.size by have h1 := LT.out; have h2 := HUi.out.1; omega)
        clear hI hbh hnh hbn HF BG k0 k1 k2 m0 m1 m2 e0
        obtain ⟨⟨k0, k1, k2⟩, ⟨m0, m1, m2⟩, e0⟩ := HTi.out
        rw [hwi] at k0 k1 k2
        go_wp2_with fail
        rw [← hwi]
        have HWS := Lib.hid (show wi.heap.size = wh.heap.size + 1 by rw [hwi]; simp)
        clear hwi k0 k1 k2 m0 m1 m2 e0
        refine (mirror_any a1 b1 s1 n1 c1 z wi (isBools_later HS1.out BI.out)).mono ?_
        rintro e wj ⟨mi, mj, ms, mn, mc, rfl, hI, hbh⟩
        have hnh := new_below wj (.cells #[.int .i64 mi, .int .i64 mj, .slice ms mn mc] 24)
        have hbn := below_step hbh hnh
        obtain ⟨wk, hwk⟩ : ∃ wk, wk = wj.alloc (.cells #[.int .i64 mi, .int .i64 mj, .slice ms mn mc] 24) := ⟨_, rfl⟩
        have HTk := Lib.hid (HTi.out.later hbn)
        have BK := Lib.hid (below_step BI.out hbn)
        have HQk := Lib.hid (heap_alloc_new wj (.cells #[.int .i64 mi, .int .i64 mj, .slice ms mn mc] 24))
        have HQik := Lib.hid (below_block hbn HQi.out)
        have HIk := Lib.hid (hI.later hnh)
        have HIik := Lib.hid (HIi.out.later hbn)
        have HUk := Lib.hid (show tb < wj.heap.size ∧ (pageErr a1 b1 n1 = 0 → TurnedOk a1.toNat b1.toNat z k tb wk) from ⟨Nat.lt_of_lt_of_le (Nat.lt_of_lt_of_le HUi.out.1 (by rw [show wi.heap.size = wh.heap.size + 1 from HWS.out]; omega)) hbh.size, fun h => hwk ▸ (HUi.out.2 h).later hbn⟩)
        rw [← hwk] at HTk BK HQk HQik HIk HIik
        clear hI hbh hnh hbn HIi HQi BI HTi HUi
        obtain ⟨⟨k0, k1, k2⟩, ⟨m0, m1, m2⟩, e0⟩ := HTk.out
        rw [hwk] at k0 k1 k2
        go_wp2_with fail
        rw [← hwk]
        have HWK := Lib.hid (show wk.heap.size = wj.heap.size + 1 by rw [hwk]; simp)
        clear hwk k0 k1 k2 m0 m1 m2 e0
        refine (invert_any a1 b1 s1 n1 c1 z wk (isBools_later HS1.out BK.out)).mono ?_
        rintro e wl ⟨vi, vj, vs, vn, vc, rfl, hI, hbh⟩
        have hnh := new_below wl (.cells #[.int .i64 vi, .int .i64 vj, .slice vs vn vc] 24)
        have hbn := below_step hbh hnh
        obtain ⟨wm, hwm⟩ : ∃ wm, wm = wl.alloc (.cells #[.int .i64 vi, .int .i64 vj, .slice vs vn vc] 24) := ⟨_, rfl⟩
        have HTm := Lib.hid (HTk.out.later hbn)
        have BM := Lib.hid (below_step BK.out hbn)
        have HQm := Lib.hid (heap_alloc_new wl (.cells #[.int .i64 vi, .int .i64 vj, .slice vs vn vc] 24))
        have HQkm := Lib.hid (below_block hbn HQk.out)
        have HQim := Lib.hid (below_block hbn HQik.out)
        have HIm := Lib.hid (hI.later hnh)
        have HIkm := Lib.hid (HIk.out.later hbn)
        have HIim := Lib.hid (HIik.out.later hbn)
        have HUm := Lib.hid (show pageErr a1 b1 n1 = 0 → TurnedOk a1.toNat b1.toNat z k tb wm from fun h => hwm ▸ (HUk.out.2 h).later hbn)
        rw [← hwm] at HTm BM HQm HQkm HQim HIm HIkm HIim
        clear hI hbh hnh hbn HIk HIik HQk HQik BK HTk HUk
        go_wp2_with fail
        rw [← hwm]
        clear hwm
        refine (pages_any wm).mono ?_
        rintro e wn ⟨rfl, hbn⟩
        have HTn := Lib.hid (HTm.out.later hbn)
        have BN := Lib.hid (below_step BM.out hbn)
        have Q12 := Lib.hid (below_block hbn HQim.out)
        have Q14 := Lib.hid (below_block hbn HQkm.out)
        have Q16 := Lib.hid (below_block hbn HQm.out)
        have I12 := Lib.hid (HIim.out.later hbn)
        have I14 := Lib.hid (HIkm.out.later hbn)
        have I16 := Lib.hid (HIm.out.later hbn)
        have HUn := Lib.hid (fun h => (HUm.out h).later hbn)
        clear hbn HTm BM HQm HQkm HQim HIm HIkm HIim HUm
        obtain ⟨p0, p1, p2, pr0, pr1, pr2⟩ := block3 Q12.out
        have lp := World.block_lt_of_cell? _ _ p0
        simp only at lp
        clear pr0 pr1 pr2
        go_wp2_with fail
        refine (bitsIs_turned a1 b1 ti tj n1 k tb _ tn tc z ts wn I12.out HUn.out).mono ?_
        rintro e wo ⟨rfl, hbo⟩
        have HTo := Lib.hid (HTn.out.later hbo)
        have BO := Lib.hid (below_step BN.out hbo)
        have Q12o := Lib.hid (below_block hbo Q12.out)
        have Q14o := Lib.hid (below_block hbo Q14.out)
        have Q16o := Lib.hid (below_block hbo Q16.out)
        have I14o := Lib.hid (I14.out.later hbo)
        have I16o := Lib.hid (I16.out.later hbo)
        clear hbo p0 p1 p2 lp HTn BN Q12 Q14 Q16 I12 I14 I16 HUn
        obtain ⟨p0, p1, p2, pr0, pr1, pr2⟩ := block3 Q14o.out
        have lp := World.block_lt_of_cell? _ _ p0
        simp only at lp
        clear pr0 pr1 pr2
        go_wp2_with fail
        refine (bitsIs_mirror a1 b1 mi mj n1 c1 w.heap.size _ mn mc z s1 ms wo I14o.out (isBools_later HS1.out BO.out) HTo.out.1.1 HTo.out.1.2.1 HTo.out.1.2.2).mono ?_
        rintro e wp ⟨rfl, hbp⟩
        have HTp := Lib.hid (HTo.out.later hbp)
        have BP := Lib.hid (below_step BO.out hbp)
        have Q12p := Lib.hid (below_block hbp Q12o.out)
        have Q16p := Lib.hid (below_block hbp Q16o.out)
        have I16p := Lib.hid (I16o.out.later hbp)
        clear hbp p0 p1 p2 lp HTo BO Q12o Q14o Q16o I14o I16o
        obtain ⟨p0, p1, p2, pr0, pr1, pr2⟩ := block3 Q16p.out
        have lp := World.block_lt_of_cell? _ _ p0
        simp only at lp
        clear pr0 pr1 pr2
        go_wp2_with fail
        refine (bitsIs_invert a1 b1 vi vj n1 c1 w.heap.size _ vn vc z s1 vs wp I16p.out (isBools_later HS1.out BP.out) HTp.out.1.1 HTp.out.1.2.1 HTp.out.1.2.2).mono ?_
        rintro e wq ⟨rfl, hbq⟩
        have HTq := Lib.hid (HTp.out.later hbq)
        have BQ := Lib.hid (below_step BP.out hbq)
        have Q12q := Lib.hid (below_block hbq Q12p.out)
        clear hbq p0 p1 p2 lp HTp BP Q12p Q16p I16p
        obtain ⟨-, ⟨m0, m1, m2⟩, -⟩ := HTq.out
        have l1 := World.block_lt_of_cell? _ _ m0
        simp only at l1
        go_wp2_with fail
        refine (turnGray_any a2 b2 s2 n2 c2 k qt zs wq (isBytes_later HS2.out BQ.out) HKK.out).mono ?_
        rintro e wG ⟨gi, gj, gs, gn, gc, rfl, hI, hbh⟩
        have hnh := new_below wG (.cells #[.int .i64 gi, .int .i64 gj, .slice gs gn gc] 27)
        have hbn := below_step hbh hnh
        obtain ⟨ws, hws⟩ : ∃ ws, ws = wG.alloc (.cells #[.int .i64 gi, .int .i64 gj, .slice gs gn gc] 27) := ⟨_, rfl⟩
        have HTs := Lib.hid (HTq.out.later hbn)
        have BS := Lib.hid (below_step BQ.out hbn)
        have Q18 := Lib.hid (heap_alloc_new wG (.cells #[.int .i64 gi, .int .i64 gj, .slice gs gn gc] 27))
        have Q12s := Lib.hid (below_block hbn Q12q.out)
        have I18 := Lib.hid (hI.later hnh)
        rw [← hws] at HTs BS Q18 Q12s I18
        have HSZ := Lib.hid (show wh.heap.size < ws.heap.size from (Array.getElem?_eq_some_iff.1 Q12s.out).1)
        clear hI hbh hnh hbn HTq BQ Q12q m0 m1 m2 l1
        obtain ⟨-, ⟨m0, m1, m2⟩, -⟩ := HTs.out
        rw [hws] at m0 m1 m2
        go_wp2_with fail
        rw [← hws]
        clear hws m0 m1 m2
        refine (grayError_any a2 b2 s2 n2 c2 ws).mono ?_
        rintro e wu ⟨rfl, hbu⟩
        have HTu := Lib.hid (HTs.out.later hbu)
        have BU := Lib.hid (below_step BS.out hbu)
        have Q18u := Lib.hid (below_block hbu Q18.out)
        have Q12u := Lib.hid (below_block hbu Q12s.out)
        have I18u := Lib.hid (I18.out.later hbu)
        clear hbu HTs BS Q18 Q12s I18 HSZ
        go_upto_if 113 with fail
        go_cut [13, 19] from 23 (fun _ _ wx => Hid (BoxesT w.heap.size a1 b1 s1 n1 c1 a2 b2 s2 n2 c2 tm wx ∧ Below w.heap.size w wx ∧ wx.heap[wh.heap.size]? = some (.cells #[.int .i64 ti, .int .i64 tj, .slice ts tn tc] 24 (0, 0))))
        case first =>
          obtain ⟨bb, hbb⟩ : ∃ bb, bb = (pageErr a2 b2 n2 != 0) := ⟨_, rfl⟩
          rw [← hbb]
          obtain ⟨p0, p1, p2, pr0, pr1, pr2⟩ := block3 Q18u.out
          have lp := World.block_lt_of_cell? _ _ p0
          simp only at lp
          clear pr0 pr1 pr2
          by_cases hE2 : pageErr a2 b2 n2 = 0
          · obtain rfl : bb = false := by rw [hbb]; simpa using hE2
            clear hbb
            obtain ⟨W, H, rfl, rfl, hn, w1, w2, h1, h2, hN, he⟩ := page_nat hE2
            rcases I18u.out with ⟨h0, _⟩ | ⟨h00, hi, hj, hn', g', _, rfl, hz⟩
            · exact absurd hE2 h0
            simp only [Int.toNat_natCast] at hi hj hn' hz
            have HZ := Lib.hid hz
            have HN' := Lib.hid hn'
            subst hi hj
            have hpos : 1 ≤ n2 := by rw [hn]; exact Nat.mul_pos w1 h1
            have hWH : W * H ≤ 1048576 := by omega
            obtain ⟨g, o, rfl, hc0, _⟩ := isBytes_cells HS2.out hpos
            have hgw := World.block_lt_of_cell? _ _ (hc0 0 (by omega))
            simp only at hgw
            obtain ⟨-, ⟨m0, m1, m2⟩, -⟩ := HTu.out
            have lm := World.block_lt_of_cell? _ _ m0
            simp only at lm
            have hE2b : (pageErr W H n2 != 0) = false := by simpa using hE2
            have HE2b := Lib.hid hE2b
            have HNN := Lib.hid hn
            clear hz hn' hE2 hE2b hn h00
            go_wp2_with fail
            obtain ⟨zb, hzb⟩ : ∃ zb, zb = wu.heap.size := ⟨_, rfl⟩
            obtain ⟨wv, hwv⟩ : ∃ wv, wv = wu.alloc (.cells #[.int .i64 W, .int .i64 H, .slice (some ⟨g, o, none⟩) n2 c2] 27) := ⟨_, rfl⟩
            have hq0 := heap_alloc_new wu (.cells #[.int .i64 W, .int .i64 H, .slice (some ⟨g, o, none⟩) n2 c2] 27)
            have hb0 := new_below wu (.cells #[.int .i64 W, .int .i64 H, .slice (some ⟨g, o, none⟩) n2 c2] 27)
            rw [← hwv] at hq0 hb0 ⊢
            rw [← hzb] at hq0 ⊢
            have HTv := Lib.hid (HTu.out.later hb0)
            have BV := Lib.hid (below_step BU.out hb0)
            have Q18v := Lib.hid (below_block hb0 Q18u.out)
            have Q12v := Lib.hid (below_block hb0 Q12u.out)
            have hTlt := HTu.out.lt
            have L18 : wG.heap.size < zb := by rw [hzb]; exact lp
            have L12 : wh.heap.size < zb := by rw [hzb]; exact (Array.getElem?_eq_some_iff.1 Q12u.out).1
            have LBZ : w.heap.size + 2 < zb := by rw [hzb]; exact hTlt
            have LG : g' < zb := by
              rw [hzb]
              have := World.block_lt_of_cell? _ _ (HZ.out 0 (by rw [HN'.out, turnW_mul]; exact Nat.mul_pos w1 h1))
              simpa using this
            have SZv : zb < wv.heap.size := by rw [hwv, hzb]; simp
            have HZv := Lib.hid (fun m hm => cell_later hb0 (HZ.out m hm))
            have TO : TurnedOkY W H (fun j => zs.getD j 0) 0 zb wv := ⟨g, o, c2, by rw [show turnW W H 0 * turnW H W 0 = n2 by rw [HNN.out]; rfl]; exact hq0, by omega, fun m hm => by
              have e : turnAt W H 0 (fun j => zs.getD j 0) (m % turnW W H 0) (m / turnW W H 0) = zs.getD m 0 := by
                simp only [turnAt, turnW]
                rw [if_neg (by decide), if_neg (by decide), if_neg (by decide), if_neg (by decide), Nat.mul_comm, Nat.div_add_mod]
              rw [e]
              exact cell_later BV.out (hc0 m (by rw [HNN.out]; exact hm))⟩
            have HTO := Lib.hid TO
            clear TO hc0 hq0 hb0 hwv hzb m0 m1 m2 lm p0 p1 p2 lp HTu BU Q18u Q12u hTlt hgw
            go_loopw [21, 124] (fun _ i wy => ∃ m : Nat, m ≤ k ∧ i = .int .i64 m ∧ TurnedOkY W H (fun j => zs.getD j 0) m zb wy ∧ Below zb wv wy) (fun _ i _ => k - (intOf i).toNat)
            case atStart => exact ⟨0, Nat.zero_le _, rfl, HTO.out, Below.refl _ _⟩
            case round =>
              obtain ⟨m, hmk, rfl, hTO, hbr⟩ := hrel
              by_cases hlt : m < k
              · obtain ⟨g2, o2, c2', hblk, hg2, hz2⟩ := hTO
                obtain ⟨j0, j1, j2, r0, r1, r2⟩ := block3 hblk
                have lj := World.block_lt_of_cell? _ _ j0
                simp only at lj
                have HZ2 := Lib.hid hz2
                have HBR := Lib.hid hbr
                have HBK := Lib.hid hblk
                clear hz2 hbr hblk
                go_wp2_with fail
                obtain ⟨wu2, hwu2⟩ : ∃ wu2, wu2 = wr.alloc (.cells #[.int .i64 (turnW W H m), .int .i64 (turnW H W m), .slice (some ⟨g2, o2, none⟩) (turnW W H m * turnW H W m) c2'] 27) := ⟨_, rfl⟩
                have hq0 := heap_alloc_new wr (.cells #[.int .i64 (turnW W H m), .int .i64 (turnW H W m), .slice (some ⟨g2, o2, none⟩) (turnW W H m * turnW H W m) c2'] 27)
                have hb0 := new_below wr (.cells #[.int .i64 (turnW W H m), .int .i64 (turnW H W m), .slice (some ⟨g2, o2, none⟩) (turnW W H m * turnW H W m) c2'] 27)
                rw [← hwu2] at hq0 hb0 ⊢
                obtain ⟨y0, y1, y2, -, -, -⟩ := block3 hq0
                refine (madeTurn_any (turnW W H m) (turnW H W m) wr.heap.size g2 o2 c2' _ wu2 (turnW_pos ⟨w1, w2⟩ ⟨h1, h2⟩) (turnW_pos ⟨h1, h2⟩ ⟨w1, w2⟩) (by rw [turnW_mul]; omega) y0 y1 y2 (fun j hj => cell_later hb0 (HZ2.out j hj))).mono ?_
                rintro e wo ⟨g3, c3, rfl, hg3, hz3, hbo⟩
                have hblk := below_block (below_step hb0 hbo) HBK.out
                have HZ3 := Lib.hid hz3
                have HBO := Lib.hid (below_step hb0 hbo)
                have HG3 : zb < g3 := by have := hb0.size; omega
                clear j0 j1 j2 r0 r1 r2 hz3 hbo hb0 hq0 y0 y1 y2 hwu2
                obtain ⟨j0, j1, j2, r0, r1, r2⟩ := block3 hblk
                have HBK2 := Lib.hid hblk
                clear hblk
                go_wp2_with fail
                go_roundw
                case rel =>
                  refine ⟨m + 1, by omega, ?_, ?_, ?_⟩
                  · go_num
                  · exact TurnedOkY.next (by omega) w1 h1 HBK2.out HG3 HZ3.out
                  · exact (((HBR.out.trans (HBO.out.mono (by omega))).setCell (by simp) _).setCell (by simp) _).setCell (by simp) _
                case measure => simp [intOf]; omega
              · obtain rfl : m = k := by omega
                obtain ⟨g2, o2, c2', hblk, hg2, hz2⟩ := hTO
                have Q18r := (hbr.block _ L18).trans Q18v.out
                obtain ⟨p0, p1, p2, pr0, pr1, pr2⟩ := block3 Q18r
                have lp := World.block_lt_of_cell? _ _ p0
                simp only at lp
                obtain ⟨j0, j1, j2, r0, r1, r2⟩ := block3 hblk
                have lj := World.block_lt_of_cell? _ _ j0
                simp only at lj
                have HZ2 := Lib.hid hz2
                have HBR := Lib.hid hbr
                have HB := HE2b.out
                clear hz2 hbr hblk Q18r pr0 pr1 pr2 r0 r1 r2
                go_wp2_with fail
                have hWHp := Nat.mul_pos w1 h1
                have HSG := Lib.hid (sameGray_true (turnW W H m) (turnW H W m) g' 0 g2 o2 (turnW W H m * turnW H W m) gc c2' (fun j => turnAt W H m (fun j => zs.getD j 0) (j % turnW W H m) (j / turnW W H m)) wr (by rw [turnW_mul]; omega) (fun j hj => (HBR.out.cell (p := ⟨g', 0 + j, none⟩) LG).trans (HZv.out j (by rw [HN'.out]; exact hj))) HZ2.out)
                rw [HN'.out]
                with_reducible refine HSG.out.mono ?_
                rintro e wz ⟨rfl, hbz⟩
                go_wp2_with fail
                go_meet
                case rel => exact Lib.hid ⟨(HTv.out.laterB HBR.out LBZ).later hbz, (BV.out.trans (HBR.out.mono (by omega))).trans (hbz.mono (by omega)), below_block hbz ((HBR.out.block _ L12).trans Q12v.out)⟩
          · obtain rfl : bb = true := by rw [hbb]; simpa using hE2
            rcases I18u.out with ⟨_, y1, y2, y3, y4, y5⟩ | ⟨h0, _⟩
            · subst y1 y2 y3 y4 y5
              clear hbb hE2
              go_wp2_with (first | (go_at_call 28; refine (noGray_zero _).mono ?_; rintro e wz ⟨rfl, hbz⟩))
              go_meet
              case rel => exact Lib.hid ⟨HTu.out.later hbz, below_step BU.out hbz, below_block hbz Q12u.out⟩
            · exact absurd h0 hE2
        case rest =>
          have HF := hcut
          obtain ⟨wv, rfl⟩ : ∃ wv, wv = wc := ⟨_, rfl⟩
          clear hcut HTu BU Q18u Q12u I18u
          have HTv := Lib.hid HF.out.1
          have BV := Lib.hid HF.out.2.1
          have Q12v := Lib.hid HF.out.2.2
          clear HF
          obtain ⟨⟨k0, k1, k2⟩, -, e0⟩ := HTv.out
          have l0 := World.block_lt_of_cell? _ _ k0
          simp only at l0
          go_wp2_with fail
          refine (grow_any a1 b1 s1 n1 c1 tm z wv (isBools_later HS1.out BV.out)).mono ?_
          rintro e wx ⟨gi', gj', gs', gn', gc', rfl, hI, hbx⟩
          have hblk := below_block hbx Q12v.out
          have HTx := Lib.hid (HTv.out.later hbx)
          have BX := Lib.hid (below_step BV.out hbx)
          have HBX := Lib.hid hbx
          have HI := Lib.hid hI
          have L12 := Lib.hid (Array.getElem?_eq_some_iff.1 Q12v.out).1
          have HBK := Lib.hid hblk
          have hLL := HTv.out.lt
          clear hI hbx k0 k1 k2 e0 l0
          obtain ⟨p0, p1, p2, pr0, pr1, pr2⟩ := block3 hblk
          clear hblk
          go_upto_region 30 with fail
          obtain ⟨wy, hwy⟩ : ∃ wy, wy = ((wx.setCell ⟨wh.heap.size, 0, none⟩ (.int .i64 gi')).setCell ⟨wh.heap.size, 1, none⟩ (.int .i64 gj')).setCell ⟨wh.heap.size, 2, none⟩ (.slice gs' gn' gc') := ⟨_, rfl⟩
          have HTy := Lib.hid (show BoxesT w.heap.size a1 b1 s1 n1 c1 a2 b2 s2 n2 c2 tm wy by rw [hwy]; exact HTx.out.laterB (below_far3 (Below.refl wh.heap.size wx) (Nat.le_refl _)) LH.out)
          have BY := Lib.hid (show Below w.heap.size w wy by rw [hwy]; exact below_far3 BX.out (by have := LH.out; omega))
          have HIy := Lib.hid (show PageIs (growErr a1 b1 n1 tm) (a1 * tm) (b1 * tm) (fun x y => z (y / tm.toNat * a1.toNat + x / tm.toNat)) wv.heap.size wy gi' gj' gs' gn' gc' by rw [hwy]; exact HI.out.far3 L12.out _ _ _)
          have HBy := Lib.hid (show wy.heap[wh.heap.size]? = some (.cells #[.int .i64 gi', .int .i64 gj', .slice gs' gn' gc'] 24 (0, 0)) by rw [hwy]; exact heap_setCell_same _ _ 2 #[.int .i64 gi', .int .i64 gj', .slice ts tn tc] 24 _ (heap_setCell_same _ _ 1 #[.int .i64 gi', .int .i64 tj, .slice ts tn tc] 24 _ (heap_setCell_same _ _ 0 #[.int .i64 ti, .int .i64 tj, .slice ts tn tc] 24 _ HBK.out)))
          rw [← hwy]
          clear hwy p0 p1 p2 pr0 pr1 pr2 HBK L12 HTx BX HI
          obtain ⟨⟨k0, k1, k2⟩, -, e0⟩ := HTy.out
          have l0 := World.block_lt_of_cell? _ _ e0
          have l1 := World.block_lt_of_cell? _ _ k0
          simp only at l0 l1
          go_upto_region 31 with (first | (go_at_call 47; refine (in_any _ _ _ _).mono ?_; rintro e w' ⟨rfl, rfl⟩) | (go_at_call 23; refine (when_any _ _ _).mono ?_; rintro e w' ⟨rfl, rfl⟩) | (go_at_call 22; refine (first2_new _ _ _).mono ?_; rintro e w' ⟨rfl, rfl⟩))
          obtain ⟨WI, hWI⟩ : ∃ WI, WI = whenI (!decide (1 ≤ tm) || !decide (tm ≤ 16)) 3 := ⟨_, rfl⟩
          obtain ⟨OR, hOR⟩ : ∃ OR, OR = orI (pageErr a1 b1 n1) WI := ⟨_, rfl⟩
          rw [← hWI, ← hOR]
          have hsp : (!decide (1 ≤ tm) || !decide (tm ≤ 16)) = !decide (1 ≤ tm ∧ tm ≤ 16) := by rw [Bool.decide_and, Bool.not_and]
          rw [hWI, hsp] at hOR
          clear hWI hsp
          by_cases hW : orI (pageErr a1 b1 n1) (whenI (!decide (1 ≤ tm ∧ tm ≤ 16)) 3) = 0
          · obtain ⟨hp, ht, hsz⟩ := want_grow0 hW
            obtain ⟨⟨p1, p2, p3, p4⟩, y0, y1⟩ := sizeErr_zero (page_parts hp).1
            have q0 : 0 ≤ a1 * tm := Int.mul_nonneg (by omega) (by omega)
            have q1 : a1 * tm ≤ 4000 * 16 := Int.mul_le_mul p2 ht.2 (by omega) (by omega)
            have q2 : 0 ≤ b1 * tm := Int.mul_nonneg (by omega) (by omega)
            have q3 : b1 * tm ≤ 4000 * 16 := Int.mul_le_mul p4 ht.2 (by omega) (by omega)
            have HSZ := Lib.hid hsz
            have hWb : (OR == 0) = true := by rw [hOR]; simpa using hW
            clear hsz hp ht p1 p2 p3 p4 y0 y1 hW hOR
            go_wp2_with fail
            refine (sizeError_any _ _ _).mono ?_
            rintro e wz ⟨rfl, hbz⟩
            rw [HSZ.out]
            have hbz2 := below_step (new_below _ _) hbz
            have HTz := Lib.hid (HTy.out.later hbz2)
            have BZ := Lib.hid (below_step BY.out hbz2)
            have HIz := Lib.hid (HIy.out.later hbz2)
            have hblk := below_block hbz2 HBy.out
            clear hbz hbz2 k0 k1 k2 e0 l0 l1 q0 q1 q2 q3 HSZ hWb
            obtain ⟨j0, j1, j2, r0, r1, r2⟩ := block3 hblk
            have lj := World.block_lt_of_cell? _ _ j0
            simp only at lj
            go_wp2_with fail
            refine (bitsIs_grow a1 b1 gi' gj' tm n1 c1 w.heap.size (w.heap.size + 2) _ gn' gc' z s1 gs' wz HIz.out (isBools_later HS1.out BZ.out) HTz.out.1.1 HTz.out.1.2.1 HTz.out.1.2.2 HTz.out.2.2).mono ?_
            rintro e wq ⟨rfl, hbq⟩
            go_wp2_with fail
            go_ret
            exact ⟨rfl, below_step BZ.out hbq⟩
          · have HW := Lib.hid (hOR.trans (want_grow hW))
            clear k0 k1 k2 e0 l0
            obtain ⟨j0, j1, j2, r0, r1, r2⟩ := block3 HBy.out
            have lj := World.block_lt_of_cell? _ _ j0
            simp only at lj
            have hW' : (OR == 0) = false := by rw [hOR]; simpa using hW
            clear hW hOR
            have hal := new_below wy (.cells #[.int .i64 (pageErr a1 b1 n1), .int .i64 WI] 30)
            have HAL := Lib.hid hal
            clear hal
            go_wp2_with fail
            rw [HW.out]
            refine (bitsIs_grow a1 b1 gi' gj' tm n1 c1 w.heap.size (w.heap.size + 2) _ gn' gc' z s1 gs' _ (HIy.out.later HAL.out) (isBools_later HS1.out (below_step BY.out HAL.out)) (HTy.out.later HAL.out).1.1 (HTy.out.later HAL.out).1.2.1 (HTy.out.later HAL.out).1.2.2 (HTy.out.later HAL.out).2.2).mono ?_
            rintro e wq ⟨rfl, hbq⟩
            go_wp2_with fail
            go_ret
            exact ⟨rfl, below_step (below_step BY.out HAL.out) hbq⟩

end Go.Proofs.Ytcpgnfbjdokdcaa
namespace Go.Proofs.Ytcpgnfbjdokdcaa
open Go.ChangeShapes Go.WideShapes Go.ChangeAt Go.RowKit Go.Joins
set_option linter.unusedVariables false

set_option maxRecDepth 100000 in
theorem turns_lifted (os : Os) (started : os.Started) (H : Type) (enc : TypeId × Value → H) :
    ReturnsInHanded {} Try.checked os 4 .any (Rows.turnsMatchSpec.pre6 enc Try.prog Try.f4 Rows.turnsMatchRow.domain false) (Rows.turnsMatchSpec.post enc Try.prog Try.f4 false true false false) := by
  refine returnsInHanded_of_change (C := Try.checked) own started (by kernel_rfl) Try.func4
    (ChangeSpec.witness6 (enc := enc) (C := Try.checked) false ⟨#[], #[.agg #[.int .i64 0, .int .i64 0, .slice none 0 0], .agg #[.int .i64 0, .int .i64 0, .slice none 0 0], .int .i64 0, .int .i64 0], []⟩ 8 (by kernel_rfl) (by kernel_rfl) (by kernel_rfl) (by kernel_rfl)) ?_
  intro W base args ds gs before hval0 hW hcnd _
  have hval : ∀ (j : Nat) t v, Try.f4.params[j]? = some t → args[j]? = some v → Value.okWide Try.prog W .any base t v := hval0
  have hW' := hW
  obtain ⟨p, q, hA0, hV, rfl, hfz, hnd⟩ := hW
  have hA : DataW.TrodAll enc Try.prog W 0 (fun _ => true) true Try.f4.params.toList args.toList ds p := hA0
  rw [Try.params4] at hA hval
  obtain ⟨v0, vs0, d0, ds0, p0, q0, hargs, rfl, rfl, h0, r0⟩ := trodAll_cons hA
  obtain ⟨v1, vs1, d1, ds1, p1, q1, rfl, rfl, rfl, h1, r1⟩ := trodAll_cons r0
  obtain ⟨v2, vs2, d2, ds2, p2, q2, rfl, rfl, rfl, h2, r2⟩ := trodAll_cons r1
  obtain ⟨v3, vs3, d3, ds3, p3, q3, rfl, rfl, rfl, h3, r3⟩ := trodAll_cons r2
  obtain ⟨rfl, rfl, rfl⟩ := trodAll_nil r3
  obtain rfl : args = #[v0, v1, v2, v3] := by cases args; simp_all
  obtain ⟨rfl, rfl⟩ := trodVars_none hV
  have k0 := h0
  have k1 := h1
  have lt0 : ∀ x ∈ p0, x.block < W.heap.size := by obtain ⟨m, hm⟩ := k0; exact DataW.trod_lt m _ _ _ hm
  have lt1 : ∀ x ∈ p1, x.block < W.heap.size := by obtain ⟨m, hm⟩ := k1; exact DataW.trod_lt m _ _ _ hm
  obtain ⟨a0, b0, s0, n0, c0, z0, rfl, hs0⟩ := open_bits (hval 0 24 v0 rfl rfl) h0
  obtain ⟨a1, b1, s1, n1, c1, zs, rfl, hs1⟩ := open_gray (hval 1 27 v1 rfl rfl) h1
  obtain ⟨m2, rfl, rfl, rfl, w2⟩ := open_int Try.underlying3 (hval 2 3 v2 rfl rfl) h2
  obtain ⟨m3, rfl, rfl, rfl, w3⟩ := open_int Try.underlying3 (hval 3 3 v3 rfl rfl) h3
  clear hA0 hval0
  refine (turn_walk a0 b0 s0 n0 c0 z0 a1 b1 s1 n1 c1 zs m2 m3 W hs0 hs1).mono fun e W' ⟨he, bel⟩ => ?_
  subst he
  exact ⟨_, rfl, _, _, _, [], _, [], hW', trodAll_mk1 (shut_bool Try.underlying4 _), (trodAll_cons_mk (Below.trod laidOut (by kernel_rfl) (of_decide_eq_true (by kernel_rfl)) k0 bel lt0) (trodAll_cons_mk (Below.trod laidOut (by kernel_rfl) (of_decide_eq_true (by kernel_rfl)) k1 bel lt1) (trodAll_cons_mk (shut_int Try.underlying3 w2) (trodAll_cons_mk (shut_int Try.underlying3 w3) trodAll_mk0)))), rfl, bel.frame _, fun h => by cases h⟩

theorem turns_over : Rows.turnsMatchRow.holds Try.pinned (OpenSpec.ofChange Rows.turnsMatchSpec) :=
  OpenClaim.holds_of_wide 4 Try.f4 rfl rfl rfl rfl rfl rfl rfl ⟨rfl, rfl, rfl, rfl, rfl⟩ rfl rfl rfl rfl rfl (by kernel_rfl) Try.func4 (by kernel_rfl)
    (of_decide_eq_true (by kernel_rfl)) (by unfold Func.isWrapper; first | (rw [if_pos (by decide +kernel)]; kernel_rfl) | (rw [if_neg (by decide +kernel)]; exact ⟨rfl, rfl⟩))
    (fun os started H enc _ => turns_lifted os started H enc)

theorem turns_holds : Rows.TurnsMatchSaid := turns_over
end Go.Proofs.Ytcpgnfbjdokdcaa
