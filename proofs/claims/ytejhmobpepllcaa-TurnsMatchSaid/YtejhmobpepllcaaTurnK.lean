/-
  The comparisons of TurnsMatch: turned, mirrored, inverted, grown.
-/
import Derived.Test.YtejhmobpepllcaaTurnSY
namespace Go.Proofs.Ytejhmobpepllcaa
open Go.RowKit
set_option linter.unusedSimpArgs false
set_option linter.unusedVariables false

theorem bitsIs_turned (a b i j : Int) (n k tb B n' c' : Nat) (z : Nat → Bool) (sl : Option Addr) (w : World) (hI : PageIs (pageErr a b n) (turnW a.toNat b.toNat k) (turnW b.toNat a.toNat k) (turnAt a.toNat b.toNat k z) B w i j sl n' c')
    (hU : pageErr a b n = 0 → TurnedOk a.toNat b.toNat z k tb w) :
    Calls Try.prog 24 #[.agg #[.int .i64 i, .int .i64 j, .slice sl n' c'], .int .i64 (pageErr a b n), .int .i64 (pageErr a b n), .func (.func 40) #[] #[.pointer (some ⟨tb, 0, none⟩)]] w fun e w' => e = .returned (.bool true) ∧ Below w.heap.size w w' := by
  refine bitsIs_page _ _ _ i j _ sl n' c' B 40 _ w hI (Go.Proofs.enters_of Try.func40 (by kernel_rfl) rfl) ?_
  intro hE
  obtain ⟨W, H, rfl, rfl, hn, w1, w2, h1, h2, hN, he⟩ := page_nat hE
  obtain ⟨g, o, c, hblk, _, hz⟩ := hU hE
  simp only [Int.toNat_natCast] at hblk hz ⊢
  refine ⟨turnW W H k, turnW H W k, rfl, rfl, by rw [turnW_mul]; omega, fun wx hbx => ?_⟩
  obtain ⟨j0, j1, j2, _, _, _⟩ := block3 (below_block hbx hblk)
  refine (turns1_any _ _ _ _ _ tb wx j0 j1 j2).mono ?_
  rintro e w' ⟨rfl, hb⟩
  exact ⟨_, rfl, ⟨g, o, c, rfl, fun m hm => cell_later hb (cell_later hbx (hz m hm))⟩, hb⟩

theorem bitsIs_mirror (a b i j : Int) (n c pb B n' c' : Nat) (z : Nat → Bool) (s sl : Option Addr) (w : World) (hI : PageIs (pageErr a b n) a b (fun x y => z (y * a.toNat + (a.toNat - 1 - x))) B w i j sl n' c') (hs : IsBools w s n c z)
    (c0 : w.cell? ⟨pb, 0, none⟩ = some (.int .i64 a)) (c1 : w.cell? ⟨pb, 1, none⟩ = some (.int .i64 b)) (c2 : w.cell? ⟨pb, 2, none⟩ = some (.slice s n c)) :
    Calls Try.prog 24 #[.agg #[.int .i64 i, .int .i64 j, .slice sl n' c'], .int .i64 (pageErr a b n), .int .i64 (pageErr a b n), .func (.func 41) #[] #[.pointer (some ⟨pb, 0, none⟩)]] w fun e w' => e = .returned (.bool true) ∧ Below w.heap.size w w' := by
  refine bitsIs_page _ _ _ i j _ sl n' c' B 41 _ w hI (Go.Proofs.enters_of Try.func41 (by kernel_rfl) rfl) ?_
  intro hE
  obtain ⟨W, H, rfl, rfl, hn, w1, w2, h1, h2, hN, he⟩ := page_nat hE
  obtain ⟨g, o, rfl, hc⟩ := isBools_cells hs (by rw [hn]; exact Nat.mul_pos w1 h1)
  subst hn
  refine ⟨W, H, rfl, rfl, by omega, fun wx hbx => ?_⟩
  simp only [Int.toNat_natCast]
  exact turns2_any W H pb g o c z wx ⟨w1, w2⟩ ⟨h1, h2⟩ hN (cell_later hbx c0) (cell_later hbx c1) (cell_later hbx c2) (fun m hm => cell_later hbx (hc m hm))

theorem bitsIs_invert (a b i j : Int) (n c pb B n' c' : Nat) (z : Nat → Bool) (s sl : Option Addr) (w : World) (hI : PageIs (pageErr a b n) a b (fun x y => !z (y * a.toNat + x)) B w i j sl n' c') (hs : IsBools w s n c z)
    (c0 : w.cell? ⟨pb, 0, none⟩ = some (.int .i64 a)) (c1 : w.cell? ⟨pb, 1, none⟩ = some (.int .i64 b)) (c2 : w.cell? ⟨pb, 2, none⟩ = some (.slice s n c)) :
    Calls Try.prog 24 #[.agg #[.int .i64 i, .int .i64 j, .slice sl n' c'], .int .i64 (pageErr a b n), .int .i64 (pageErr a b n), .func (.func 45) #[] #[.pointer (some ⟨pb, 0, none⟩)]] w fun e w' => e = .returned (.bool true) ∧ Below w.heap.size w w' := by
  refine bitsIs_page _ _ _ i j _ sl n' c' B 45 _ w hI (Go.Proofs.enters_of Try.func45 (by kernel_rfl) rfl) ?_
  intro hE
  obtain ⟨W, H, rfl, rfl, hn, w1, w2, h1, h2, hN, he⟩ := page_nat hE
  obtain ⟨g, o, rfl, hc⟩ := isBools_cells hs (by rw [hn]; exact Nat.mul_pos w1 h1)
  subst hn
  refine ⟨W, H, rfl, rfl, by omega, fun wx hbx => ?_⟩
  simp only [Int.toNat_natCast]
  exact turns3_any W H pb g o c z wx ⟨w1, w2⟩ ⟨h1, h2⟩ hN (cell_later hbx c0) (cell_later hbx c1) (cell_later hbx c2) (fun m hm => cell_later hbx (hc m hm))

theorem growErr_zero {a b t : Int} {n : Nat} (h : growErr a b n t = 0) : pageErr a b n = 0 ∧ (1 ≤ t ∧ t ≤ 16) ∧ sizeErr (a * t) (b * t) = 0 := by
  unfold growErr at h
  by_cases h1 : pageErr a b n = 0
  · rw [if_pos h1] at h
    by_cases h2 : 1 ≤ t ∧ t ≤ 16
    · rw [if_pos h2] at h; exact ⟨h1, h2, h⟩
    · rw [if_neg h2] at h; simp at h
  · rw [if_neg h1] at h; exact absurd h h1

theorem bitsIs_grow (a b i j t : Int) (n c pb qb B n' c' : Nat) (z : Nat → Bool) (s sl : Option Addr) (w : World) (hI : PageIs (growErr a b n t) (a * t) (b * t) (fun x y => z (y / t.toNat * a.toNat + x / t.toNat)) B w i j sl n' c') (hs : IsBools w s n c z)
    (c0 : w.cell? ⟨pb, 0, none⟩ = some (.int .i64 a)) (c1 : w.cell? ⟨pb, 1, none⟩ = some (.int .i64 b)) (c2 : w.cell? ⟨pb, 2, none⟩ = some (.slice s n c)) (c3 : w.cell? ⟨qb, 0, none⟩ = some (.int .i64 t)) :
    Calls Try.prog 24 #[.agg #[.int .i64 i, .int .i64 j, .slice sl n' c'], .int .i64 (growErr a b n t), .int .i64 (growErr a b n t), .func (.func 51) #[] #[.pointer (some ⟨pb, 0, none⟩), .pointer (some ⟨qb, 0, none⟩)]] w fun e w' => e = .returned (.bool true) ∧ Below w.heap.size w w' := by
  refine bitsIs_page _ _ _ i j _ sl n' c' B 51 _ w hI (Go.Proofs.enters_of Try.func51 (by kernel_rfl) rfl) ?_
  intro hE
  obtain ⟨hp, ht, hsz⟩ := growErr_zero hE
  obtain ⟨W, H, rfl, rfl, hn, w1, w2, h1, h2, hN, he⟩ := page_nat hp
  obtain ⟨k, rfl⟩ := Int.eq_ofNat_of_zero_le (show 0 ≤ t by omega)
  obtain ⟨g, o, rfl, hc⟩ := isBools_cells hs (by rw [hn]; exact Nat.mul_pos w1 h1)
  subst hn
  have hsz' : sizeErr ((W * k : Nat) : Int) ((H * k : Nat) : Int) = 0 := by rw [Int.natCast_mul, Int.natCast_mul]; exact hsz
  obtain ⟨⟨b1, b2, b3, b4⟩, y0, y1⟩ := sizeErr_zero hsz'
  have hN2 : W * k * (H * k) ≤ 1048576 := by rw [← Int.natCast_mul] at y1; omega
  refine ⟨W * k, H * k, by rw [Int.natCast_mul], by rw [Int.natCast_mul], by omega, fun wx hbx => ?_⟩
  simp only [Int.toNat_natCast, Int.ofNat_eq_natCast]
  exact turns5_any W H k _ _ pb qb g o c z wx ⟨w1, w2⟩ ⟨h1, h2⟩ (by omega) (by omega) rfl rfl ⟨by omega, by omega⟩ ⟨by omega, by omega⟩ hN2 (cell_later hbx c0) (cell_later hbx c1) (cell_later hbx c2) (cell_later hbx c3) (fun m hm => cell_later hbx (hc m hm))

/-- Whatever was wanted of growing. -/
theorem want_grow {a b t : Int} {n : Nat} (h : orI (pageErr a b n) (whenI (!decide (1 ≤ t ∧ t ≤ 16)) 3) ≠ 0) : orI (pageErr a b n) (whenI (!decide (1 ≤ t ∧ t ≤ 16)) 3) = growErr a b n t := by
  unfold orI whenI growErr at *
  by_cases h1 : pageErr a b n = 0
  · by_cases h2 : 1 ≤ t ∧ t ≤ 16
    · simp [h1, h2] at h
    · simp [h1, h2]
  · simp [h1]
theorem want_grow0 {a b t : Int} {n : Nat} (h : orI (pageErr a b n) (whenI (!decide (1 ≤ t ∧ t ≤ 16)) 3) = 0) : pageErr a b n = 0 ∧ (1 ≤ t ∧ t ≤ 16) ∧ sizeErr (a * t) (b * t) = growErr a b n t := by
  unfold orI whenI at h
  unfold growErr
  by_cases h1 : pageErr a b n = 0
  · by_cases h2 : 1 ≤ t ∧ t ≤ 16
    · exact ⟨h1, h2, by rw [if_pos h1, if_pos h2]⟩
    · simp [h1, h2] at h
  · simp [h1] at h

end Go.Proofs.Ytejhmobpepllcaa
