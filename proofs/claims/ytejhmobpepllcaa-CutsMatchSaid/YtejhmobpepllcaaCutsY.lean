/-
  CutGray as a whole, and what CutsMatch compares it with.
-/
import Derived.Test.YtejhmobpepllcaaCutsB
namespace Go.Proofs.Ytejhmobpepllcaa
open Go.RowKit
set_option linter.unusedSimpArgs false
set_option linter.unusedVariables false

/-- What a cut is, in memory: nothing with an error; else the places of the box. -/
def CutIsY (a b : Int) (n : Nat) (X Y bw bh : Int) (z : Nat → Int) (B : Nat) (w : World) (i j : Int) (sl : Option Addr) (n' c' : Nat) : Prop :=
  (cutErr a b n X Y bw bh ≠ 0 ∧ i = 0 ∧ j = 0 ∧ sl = none ∧ n' = 0 ∧ c' = 0) ∨
  (cutErr a b n X Y bw bh = 0 ∧ i = bw ∧ j = bh ∧ n' = bw.toNat * bh.toNat ∧ ∃ g, B ≤ g ∧ sl = some ⟨g, 0, none⟩ ∧ ∀ k, k < n' → w.cell? ⟨g, 0 + k, none⟩ = some (.int .u8 (z ((Y.toNat + k / bw.toNat) * a.toNat + X.toNat + k % bw.toNat))))

theorem CutIsY.later {a b : Int} {n : Nat} {X Y bw bh : Int} {z : Nat → Int} {B : Nat} {w w' : World} {i j : Int} {sl : Option Addr} {n' c' : Nat} (h : CutIsY a b n X Y bw bh z B w i j sl n' c') (hb : Below w.heap.size w w') : CutIsY a b n X Y bw bh z B w' i j sl n' c' := by
  rcases h with h | ⟨h1, h2, h3, h4, g, h5, h6, h7⟩
  · exact .inl h
  · exact .inr ⟨h1, h2, h3, h4, g, h5, h6, fun k hk => cell_later hb (h7 k hk)⟩
theorem CutIsY.far3 {a b : Int} {n : Nat} {X Y bw bh : Int} {z : Nat → Int} {B N : Nat} {w : World} {i j : Int} {sl : Option Addr} {n' c' : Nat} (h : CutIsY a b n X Y bw bh z B w i j sl n' c') (hN : N < B) (x y u : Value) : CutIsY a b n X Y bw bh z B (((w.setCell ⟨N, 0, none⟩ x).setCell ⟨N, 1, none⟩ y).setCell ⟨N, 2, none⟩ u) i j sl n' c' := by
  rcases h with h | ⟨h1, h2, h3, h4, g, h5, h6, h7⟩
  · exact .inl h
  · exact .inr ⟨h1, h2, h3, h4, g, h5, h6, fun k hk => cell_far3 (show g ≠ N by omega) (h7 k hk)⟩

theorem cutGray_any (a b X Y bw bh : Int) (s : Option Addr) (n c : Nat) (zs : List Int) (w : World) (hs : IsBytes w s n c zs) :
    Calls Try.prog 30 #[.agg #[.int .i64 a, .int .i64 b, .slice s n c], .agg #[.int .i64 X, .int .i64 Y, .int .i64 bw, .int .i64 bh]] w fun e w' =>
      ∃ i j sl n' c', e = .returned (.tuple #[.agg #[.int .i64 i, .int .i64 j, .slice sl n' c'], .int .i64 (cutErr a b n X Y bw bh)]) ∧ CutIsY a b n X Y bw bh (fun j => zs.getD j 0) w.heap.size w' i j sl n' c' ∧ Below w.heap.size w w' := by
  by_cases h : pageErr a b n = 0
  · obtain ⟨W, H, rfl, rfl, hn, w1, w2, h1, h2, hN, he⟩ := page_nat h
    by_cases hb : InP X Y bw bh W H
    · have hE : cutErr W H n X Y bw bh = 0 := by unfold cutErr; rw [if_pos h, if_pos hb]
      obtain ⟨x, y, p, q, rfl, rfl, rfl, rfl, e1, e2, e3, e4⟩ := box_nat hb
      obtain ⟨g, o, rfl, hc, _⟩ := isBytes_cells hs (by rw [hn]; exact Nat.mul_pos w1 h1)
      refine (cutGray_ok W H x y p q g o n c (fun j => zs.getD j 0) w he hn e1 e2 e3 e4 hc).mono ?_
      rintro e w' ⟨v, rfl, hown, hbel⟩
      obtain ⟨g', c', rfl, hg', hz⟩ := owns_pageY hown (Nat.mul_pos e3 e4)
      exact ⟨_, _, _, _, _, by rw [hE], .inr ⟨hE, rfl, rfl, by simp, g', hg', rfl, by simpa using hz⟩, hbel⟩
    · have hE : cutErr W H n X Y bw bh = 13 := by unfold cutErr; rw [if_pos h, if_neg hb]
      refine (cutGray_badBox W H X Y bw bh s n c w h he hb).mono ?_
      rintro e w' ⟨rfl, hbel⟩
      exact ⟨0, 0, none, 0, 0, by rw [hE], .inl ⟨by rw [hE]; decide, rfl, rfl, rfl, rfl, rfl⟩, hbel⟩
  · have hE : cutErr a b n X Y bw bh = pageErr a b n := by unfold cutErr; rw [if_neg h]
    refine (cutGray_badPage a b X Y bw bh s n c w h).mono ?_
    rintro e w' ⟨rfl, hbel⟩
    exact ⟨0, 0, none, 0, 0, by rw [hE], .inl ⟨by rw [hE]; exact h, rfl, rfl, rfl, rfl, rfl⟩, hbel⟩


/-- The page that is made for comparison has what was cut. -/
theorem made_cut (a b X Y bw bh i j : Int) (sl s : Option Addr) (n' c' n c pb xb B : Nat) (zs : List Int) (w : World) (hI : CutIsY a b n X Y bw bh (fun j => zs.getD j 0) B w i j sl n' c') (hE : cutErr a b n X Y bw bh = 0) (hs : IsBytes w s n c zs)
    (c0 : w.cell? ⟨pb, 0, none⟩ = some (.int .i64 a)) (c2 : w.cell? ⟨pb, 2, none⟩ = some (.slice s n c))
    (d0 : w.cell? ⟨xb, 0, none⟩ = some (.int .i64 X)) (d1 : w.cell? ⟨xb, 1, none⟩ = some (.int .i64 Y)) :
    i = bw ∧ j = bh ∧ n' ≤ 100000000 ∧ ∃ (g' : Nat) (zc : Nat → Int), sl = some ⟨g', 0, none⟩ ∧ (∀ k, k < n' → w.cell? ⟨g', 0 + k, none⟩ = some (.int .u8 (zc k))) ∧
    Calls Try.prog 33 #[.int .i64 bw, .int .i64 bh, .func (.func 34) #[] #[.pointer (some ⟨pb, 0, none⟩), .pointer (some ⟨xb, 0, none⟩)]] w fun e w' =>
      ∃ g2 c2, e = .returned (.agg #[.int .i64 bw, .int .i64 bh, .slice (some ⟨g2, 0, none⟩) n' c2]) ∧ (∀ k, k < n' → w'.cell? ⟨g2, 0 + k, none⟩ = some (.int .u8 (zc k))) ∧ Below w.heap.size w w' := by
  rcases hI with ⟨hE', _⟩ | ⟨_, rfl, rfl, hn', g', _, rfl, hz⟩
  · exact absurd hE hE'
  · have hp : pageErr a b n = 0 := by
      unfold cutErr at hE
      by_cases h : pageErr a b n = 0
      · exact h
      · rw [if_neg h] at hE; exact absurd hE h
    obtain ⟨W, H, rfl, rfl, hn, w1, w2, h1, h2, hN, he⟩ := page_nat hp
    have hb : InP X Y i j W H := by
      unfold cutErr at hE
      rw [if_pos hp] at hE
      by_cases hb : InP X Y i j W H
      · exact hb
      · rw [if_neg hb] at hE; simp at hE
    obtain ⟨x, y, p, q, rfl, rfl, rfl, rfl, e1, e2, e3, e4⟩ := box_nat hb
    obtain ⟨g, o, rfl, hc, _⟩ := isBytes_cells hs (by rw [hn]; exact Nat.mul_pos w1 h1)
    simp only [Int.toNat_natCast] at hn' hz
    have hpq := Nat.mul_le_mul (show p ≤ W by omega) (show q ≤ H by omega)
    rw [← hn] at hpq
    refine ⟨rfl, rfl, by omega, g', _, rfl, hz, ?_⟩
    refine (madeGray_any p q 34 _ (fun i j => zs.getD ((y + j) * W + x + i) 0) w e3 (by omega) (by omega) (by omega) (Go.Proofs.enters_of Try.func34 (by kernel_rfl) rfl) ?_).mono ?_
    · intro k l wx hk hl hbx
      have hlt := in_page_lt e1 e2 hk hl
      rw [← hn] at hlt
      refine (cuts2_any W H x y p q k l pb xb g o n c _ wx w2 h2 e1 e2 hk hl hn (cell_later hbx c0) (cell_later hbx c2) (cell_later hbx d0) (cell_later hbx d1) (cell_later hbx (hc _ hlt))).mono ?_
      rintro e wy ⟨rfl, rfl⟩
      exact ⟨rfl, Below.refl _ _⟩
    · rintro e w5 ⟨v, rfl, hown, hb5⟩
      obtain ⟨g2, c2, rfl, _, hz2⟩ := owns_pageY hown (Nat.mul_pos e3 e4)
      rw [hn']
      exact ⟨g2, c2, rfl, fun k hk => by rw [hz2 k hk], hb5⟩

end Go.Proofs.Ytejhmobpepllcaa
