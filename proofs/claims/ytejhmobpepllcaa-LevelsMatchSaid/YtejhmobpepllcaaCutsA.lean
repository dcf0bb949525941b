/-
  Cut and CutGray as a whole, and what CutsMatch compares them with.
-/
import Derived.Test.YtejhmobpepllcaaCutOf
import Derived.Test.YtejhmobpepllcaaFrame
namespace Go.Proofs.Ytejhmobpepllcaa
open Go.RowKit
set_option linter.unusedSimpArgs false
set_option linter.unusedVariables false

instance (X Y bw bh W H : Int) : Decidable (InP X Y bw bh W H) := by unfold InP; infer_instance

/-- The error of a cut: of the page, else of the box. -/
def cutErr (a b : Int) (n : Nat) (X Y bw bh : Int) : Int := if pageErr a b n = 0 then (if InP X Y bw bh a b then 0 else 13) else pageErr a b n

theorem page_parts {a b : Int} {n : Nat} (h : pageErr a b n = 0) : sizeErr a b = 0 ∧ (n : Int) = a * b := by
  unfold pageErr at h
  by_cases h0 : sizeErr a b = 0
  · rw [if_pos h0] at h
    by_cases h1 : (n : Int) = a * b
    · exact ⟨h0, h1⟩
    · rw [if_neg h1] at h; simp at h
  · rw [if_neg h0] at h; exact absurd h h0

/-- The numbers of a right page. -/
theorem page_nat {a b : Int} {n : Nat} (h : pageErr a b n = 0) : ∃ W H : Nat, a = W ∧ b = H ∧ n = W * H ∧ 1 ≤ W ∧ W ≤ 4000 ∧ 1 ≤ H ∧ H ≤ 4000 ∧ n ≤ 1048576 ∧ sizeErr (W : Int) (H : Int) = 0 := by
  obtain ⟨he, hn⟩ := page_parts h
  obtain ⟨⟨a1, a2, a3, a4⟩, z0, z1⟩ := sizeErr_zero he
  obtain ⟨W, rfl⟩ := Int.eq_ofNat_of_zero_le (by omega : 0 ≤ a)
  obtain ⟨H, rfl⟩ := Int.eq_ofNat_of_zero_le (by omega : 0 ≤ b)
  refine ⟨W, H, rfl, rfl, ?_, by omega, by omega, by omega, by omega, by omega, he⟩
  have : (n : Int) = ((W * H : Nat) : Int) := by rw [hn, Int.natCast_mul]
  omega

/-- The numbers of a box in a right page. -/
theorem box_nat {X Y bw bh : Int} {W H : Nat} (h : InP X Y bw bh W H) : ∃ x y p q : Nat, X = x ∧ Y = y ∧ bw = p ∧ bh = q ∧ x + p ≤ W ∧ y + q ≤ H ∧ 1 ≤ p ∧ 1 ≤ q := by
  obtain ⟨h1, h2, h3, h4⟩ := h
  obtain ⟨x, rfl⟩ := Int.eq_ofNat_of_zero_le h1.1
  obtain ⟨y, rfl⟩ := Int.eq_ofNat_of_zero_le h2.1
  obtain ⟨p, rfl⟩ := Int.eq_ofNat_of_zero_le (by omega : 0 ≤ bw)
  obtain ⟨q, rfl⟩ := Int.eq_ofNat_of_zero_le (by omega : 0 ≤ bh)
  exact ⟨x, y, p, q, rfl, rfl, rfl, rfl, by omega, by omega, by omega, by omega⟩

theorem owns_pageB {w : World} {base : Nat} {v : Value} {N bw : Nat} {f : Nat → Nat → Bool} (h : w.ownsRow base 4 1 v N ((places bw f N).map Value.bool)) (hN : 1 ≤ N) :
    ∃ g c, v = .slice (some ⟨g, 0, none⟩) N c ∧ base ≤ g ∧ ∀ j, j < N → w.cell? ⟨g, 0 + j, none⟩ = some (.bool (f (j % bw) (j / bw))) := by
  rcases h.2 with ⟨_, h0⟩ | ⟨g, c, cur, rfl, hg, _⟩
  · omega
  · exact ⟨g, c, rfl, hg, fun j hj => by rw [Nat.zero_add, h.cellAt j (by omega)]; simp [places, List.getElem?_range hj]⟩

theorem owns_pageY {w : World} {base : Nat} {v : Value} {N bw : Nat} {f : Nat → Nat → Int} (h : w.ownsRow base 5 1 v N ((places bw f N).map (Value.int .u8))) (hN : 1 ≤ N) :
    ∃ g c, v = .slice (some ⟨g, 0, none⟩) N c ∧ base ≤ g ∧ ∀ j, j < N → w.cell? ⟨g, 0 + j, none⟩ = some (.int .u8 (f (j % bw) (j / bw))) := by
  rcases h.2 with ⟨_, h0⟩ | ⟨g, c, cur, rfl, hg, _⟩
  · omega
  · exact ⟨g, c, rfl, hg, fun j hj => by rw [Nat.zero_add, h.cellAt j (by omega)]; simp [places, List.getElem?_range hj]⟩

/-- What a cut is, in memory: nothing with an error; else the places of the box. -/
def CutIs (a b : Int) (n : Nat) (X Y bw bh : Int) (z : Nat → Bool) (B : Nat) (w : World) (i j : Int) (sl : Option Addr) (n' c' : Nat) : Prop :=
  (cutErr a b n X Y bw bh ≠ 0 ∧ i = 0 ∧ j = 0 ∧ sl = none ∧ n' = 0 ∧ c' = 0) ∨
  (cutErr a b n X Y bw bh = 0 ∧ i = bw ∧ j = bh ∧ n' = bw.toNat * bh.toNat ∧ ∃ g, B ≤ g ∧ sl = some ⟨g, 0, none⟩ ∧ ∀ k, k < n' → w.cell? ⟨g, 0 + k, none⟩ = some (.bool (z ((Y.toNat + k / bw.toNat) * a.toNat + X.toNat + k % bw.toNat))))

theorem CutIs.later {a b : Int} {n : Nat} {X Y bw bh : Int} {z : Nat → Bool} {B : Nat} {w w' : World} {i j : Int} {sl : Option Addr} {n' c' : Nat} (h : CutIs a b n X Y bw bh z B w i j sl n' c') (hb : Below w.heap.size w w') : CutIs a b n X Y bw bh z B w' i j sl n' c' := by
  rcases h with h | ⟨h1, h2, h3, h4, g, h5, h6, h7⟩
  · exact .inl h
  · exact .inr ⟨h1, h2, h3, h4, g, h5, h6, fun k hk => cell_later hb (h7 k hk)⟩
theorem CutIs.far3 {a b : Int} {n : Nat} {X Y bw bh : Int} {z : Nat → Bool} {B N : Nat} {w : World} {i j : Int} {sl : Option Addr} {n' c' : Nat} (h : CutIs a b n X Y bw bh z B w i j sl n' c') (hN : N < B) (x y u : Value) : CutIs a b n X Y bw bh z B (((w.setCell ⟨N, 0, none⟩ x).setCell ⟨N, 1, none⟩ y).setCell ⟨N, 2, none⟩ u) i j sl n' c' := by
  rcases h with h | ⟨h1, h2, h3, h4, g, h5, h6, h7⟩
  · exact .inl h
  · exact .inr ⟨h1, h2, h3, h4, g, h5, h6, fun k hk => cell_far3 (show g ≠ N by omega) (h7 k hk)⟩

theorem cut_any (a b X Y bw bh : Int) (s : Option Addr) (n c : Nat) (z : Nat → Bool) (w : World) (hs : IsBools w s n c z) :
    Calls Try.prog 23 #[.agg #[.int .i64 a, .int .i64 b, .slice s n c], .agg #[.int .i64 X, .int .i64 Y, .int .i64 bw, .int .i64 bh]] w fun e w' =>
      ∃ i j sl n' c', e = .returned (.tuple #[.agg #[.int .i64 i, .int .i64 j, .slice sl n' c'], .int .i64 (cutErr a b n X Y bw bh)]) ∧ CutIs a b n X Y bw bh z w.heap.size w' i j sl n' c' ∧ Below w.heap.size w w' := by
  by_cases h : pageErr a b n = 0
  · obtain ⟨W, H, rfl, rfl, hn, w1, w2, h1, h2, hN, he⟩ := page_nat h
    by_cases hb : InP X Y bw bh W H
    · have hE : cutErr W H n X Y bw bh = 0 := by unfold cutErr; rw [if_pos h, if_pos hb]
      obtain ⟨x, y, p, q, rfl, rfl, rfl, rfl, e1, e2, e3, e4⟩ := box_nat hb
      obtain ⟨g, o, rfl, hc⟩ := isBools_cells hs (by rw [hn]; exact Nat.mul_pos w1 h1)
      refine (cut_ok W H x y p q g o n c z w he hn e1 e2 e3 e4 hc).mono ?_
      rintro e w' ⟨v, rfl, hown, hbel⟩
      obtain ⟨g', c', rfl, hg', hz⟩ := owns_pageB hown (Nat.mul_pos e3 e4)
      exact ⟨_, _, _, _, _, by rw [hE], .inr ⟨hE, rfl, rfl, by simp, g', hg', rfl, by simpa using hz⟩, hbel⟩
    · have hE : cutErr W H n X Y bw bh = 13 := by unfold cutErr; rw [if_pos h, if_neg hb]
      refine (cut_badBox W H X Y bw bh s n c w h he hb).mono ?_
      rintro e w' ⟨rfl, hbel⟩
      exact ⟨0, 0, none, 0, 0, by rw [hE], .inl ⟨by rw [hE]; decide, rfl, rfl, rfl, rfl, rfl⟩, hbel⟩
  · have hE : cutErr a b n X Y bw bh = pageErr a b n := by unfold cutErr; rw [if_neg h]
    refine (cut_badPage a b X Y bw bh s n c w h).mono ?_
    rintro e w' ⟨rfl, hbel⟩
    exact ⟨0, 0, none, 0, 0, by rw [hE], .inl ⟨by rw [hE]; exact h, rfl, rfl, rfl, rfl, rfl⟩, hbel⟩

/-- InPage, for whatever page. -/
theorem inPage_any (X Y bw bh a b : Int) (w : World) :
    Calls Try.prog 27 #[.agg #[.int .i64 X, .int .i64 Y, .int .i64 bw, .int .i64 bh], .int .i64 a, .int .i64 b] w fun e w' => ∃ q, e = .returned (.bool q) ∧ (sizeErr a b = 0 → q = decide (InP X Y bw bh a b)) ∧ Below w.heap.size w w' := by
  by_cases h : sizeErr a b = 0
  · have hz := (sizeErr_zero h).1
    by_cases hb : InP X Y bw bh a b
    · refine (inPage_yes X Y bw bh a b w (by omega) (by omega) hb).mono ?_
      rintro e w' ⟨rfl, hbel⟩
      exact ⟨true, rfl, fun _ => (decide_eq_true hb).symm, hbel⟩
    · refine (inPage_no X Y bw bh a b w (by omega) (by omega) hb).mono ?_
      rintro e w' ⟨rfl, hbel⟩
      exact ⟨false, rfl, fun _ => (decide_eq_false hb).symm, hbel⟩
  · refine (inPage_some X Y bw bh a b w).mono ?_
    rintro e w' ⟨⟨q, rfl⟩, hbel⟩
    exact ⟨q, rfl, fun k => absurd k h, hbel⟩

theorem want_cut {a b X Y bw bh : Int} {n : Nat} {q : Bool} (hq : sizeErr a b = 0 → q = decide (InP X Y bw bh a b)) : orI (pageErr a b n) (whenI (!q) 13) = cutErr a b n X Y bw bh := by
  unfold orI cutErr whenI
  by_cases h : pageErr a b n = 0
  · rw [if_pos h, if_pos h, hq (page_parts h).1]
    by_cases hb : InP X Y bw bh a b <;> simp [hb]
  · rw [if_neg h, if_neg h]

end Go.Proofs.Ytejhmobpepllcaa
