/-
  Halve and Paste as wholes, and what MixesMatch compares them with.
-/
import Derived.Test.YtejhmobpepllcaaHalve
import Derived.Test.YtejhmobpepllcaaPasteO
import Derived.Test.YtejhmobpepllcaaCutsB
namespace Go.Proofs.Ytejhmobpepllcaa
open Go.RowKit
set_option linter.unusedSimpArgs false
set_option linter.unusedVariables false

theorem small_any (a b : Int) (w : World) (h : sizeErr a b = 0) : Calls Try.prog 35 #[.int .i64 a, .int .i64 b] w fun e w' => ∃ q, e = .returned (.bool q) ∧ w = w' := by
  obtain ⟨_, z0, z1⟩ := sizeErr_zero h
  have hw : wrap64 (a * b) = a * b := by unfold wrap64; omega
  clear h
  by_cases h1 : a ≤ 200
  · by_cases h2 : b ≤ 200
    · go_enter Try.func35, Try.ntmps35
      go_wp2_with ((go_at_call 50; refine (in_yes _ _ _ _ (by omega)).mono ?_; rintro e w' ⟨rfl, rfl⟩))
      go_ret
      exact ⟨_, rfl, rfl⟩
    · go_enter Try.func35, Try.ntmps35
      go_wp2_with (first | (go_at_call 50; refine (in_yes _ _ _ _ (by omega)).mono ?_; rintro e w' ⟨rfl, rfl⟩) | (go_at_call 50; refine (in_no _ _ _ _ (by omega)).mono ?_; rintro e w' ⟨rfl, rfl⟩))
      go_ret
      exact ⟨_, rfl, rfl⟩
  · go_enter Try.func35, Try.ntmps35
    go_wp2_with (first | (go_at_call 50; refine (in_no _ _ _ _ (by omega)).mono ?_; rintro e w' ⟨rfl, rfl⟩))
    go_ret
    exact ⟨_, rfl, rfl⟩

/-- What a halved page is, in memory: nothing with an error; else the means. -/
def HalveIs (a b : Int) (n : Nat) (z : Nat → Int) (B : Nat) (w : World) (i j : Int) (sl : Option Addr) (n' c' : Nat) : Prop :=
  (pageErr a b n ≠ 0 ∧ i = 0 ∧ j = 0 ∧ sl = none ∧ n' = 0 ∧ c' = 0) ∨
  (pageErr a b n = 0 ∧ i = (((a.toNat + 1) / 2 : Nat) : Int) ∧ j = (((b.toNat + 1) / 2 : Nat) : Int) ∧ n' = (a.toNat + 1) / 2 * ((b.toNat + 1) / 2) ∧ ∃ g, B ≤ g ∧ sl = some ⟨g, 0, none⟩ ∧ ∀ k, k < n' → w.cell? ⟨g, 0 + k, none⟩ = some (.int .u8 (mean4 z a.toNat b.toNat (k % ((a.toNat + 1) / 2)) (k / ((a.toNat + 1) / 2)))))

theorem HalveIs.later {a b : Int} {n : Nat} {z : Nat → Int} {B : Nat} {w w' : World} {i j : Int} {sl : Option Addr} {n' c' : Nat} (h : HalveIs a b n z B w i j sl n' c') (hb : Below w.heap.size w w') : HalveIs a b n z B w' i j sl n' c' := by
  rcases h with h | ⟨h1, h2, h3, h4, g, h5, h6, h7⟩
  · exact .inl h
  · exact .inr ⟨h1, h2, h3, h4, g, h5, h6, fun k hk => cell_later hb (h7 k hk)⟩

theorem halve_any (a b : Int) (s : Option Addr) (n c : Nat) (zs : List Int) (w : World) (hs : IsBytes w s n c zs) :
    Calls Try.prog 53 #[.agg #[.int .i64 a, .int .i64 b, .slice s n c]] w fun e w' =>
      ∃ i j sl n' c', e = .returned (.tuple #[.agg #[.int .i64 i, .int .i64 j, .slice sl n' c'], .int .i64 (pageErr a b n)]) ∧ HalveIs a b n (fun j => zs.getD j 0) w.heap.size w' i j sl n' c' ∧ Below w.heap.size w w' := by
  by_cases h : pageErr a b n = 0
  · obtain ⟨W, H, rfl, rfl, hn, w1, w2, h1, h2, hN, he⟩ := page_nat h
    obtain ⟨g, o, rfl, hc, hr⟩ := isBytes_cells hs (by rw [hn]; exact Nat.mul_pos w1 h1)
    subst hn
    refine (halve_ok W H _ _ g o c (fun j => zs.getD j 0) w he rfl rfl hr hc).mono ?_
    rintro e w' ⟨v, rfl, hown, hbel⟩
    obtain ⟨g', c', rfl, hg', hz⟩ := owns_pageY hown (Nat.mul_pos (by omega) (by omega))
    exact ⟨_, _, _, _, _, by rw [h], .inr ⟨h, by simp, by simp, by simp, g', hg', rfl, by simpa using hz⟩, hbel⟩
  · refine (halve_badPage a b s n c w h).mono ?_
    rintro e w' ⟨rfl, hbel⟩
    exact ⟨0, 0, none, 0, 0, rfl, .inl ⟨h, rfl, rfl, rfl, rfl, rfl⟩, hbel⟩

/-- The page that is made for comparison has what was halved. -/
theorem made_halve (W H : Nat) (w2 h2 i j : Int) (sl s : Option Addr) (n' c' n c gb B : Nat) (zs : List Int) (w : World) (hI : HalveIs W H n (fun j => zs.getD j 0) B w i j sl n' c') (hE : pageErr W H n = 0) (hs : IsBytes w s n c zs)
    (hw2 : w2 = ((W : Int) + 1) / 2) (hh2 : h2 = ((H : Int) + 1) / 2)
    (c0 : w.cell? ⟨gb, 0, none⟩ = some (.int .i64 W)) (c1 : w.cell? ⟨gb, 1, none⟩ = some (.int .i64 H)) (c2 : w.cell? ⟨gb, 2, none⟩ = some (.slice s n c)) :
    i = w2 ∧ j = h2 ∧ n' ≤ 100000000 ∧ ∃ (g' : Nat) (zc : Nat → Int), sl = some ⟨g', 0, none⟩ ∧ (∀ k, k < n' → w.cell? ⟨g', 0 + k, none⟩ = some (.int .u8 (zc k))) ∧
    Calls Try.prog 33 #[.int .i64 w2, .int .i64 h2, .func (.func 54) #[] #[.pointer (some ⟨gb, 0, none⟩)]] w fun e w' =>
      ∃ g2 c2, e = .returned (.agg #[.int .i64 w2, .int .i64 h2, .slice (some ⟨g2, 0, none⟩) n' c2]) ∧ (∀ k, k < n' → w'.cell? ⟨g2, 0 + k, none⟩ = some (.int .u8 (zc k))) ∧ Below w.heap.size w w' := by
  rcases hI with ⟨hE', _⟩ | ⟨_, hi, hj, hn', g', _, rfl, hz⟩
  · exact absurd hE hE'
  · obtain ⟨W', H', eW, eH, hn, w1, w2', h1, h2', hN, he⟩ := page_nat hE
    obtain rfl : W = W' := by omega
    obtain rfl : H = H' := by omega
    obtain ⟨g, o, rfl, hc, hr⟩ := isBytes_cells hs (by rw [hn]; exact Nat.mul_pos w1 h1)
    simp only [Int.toNat_natCast] at hn' hz hi hj
    obtain ⟨p, hp⟩ : ∃ p, p = (W + 1) / 2 := ⟨_, rfl⟩
    obtain ⟨q, hq⟩ : ∃ q, q = (H + 1) / 2 := ⟨_, rfl⟩
    rw [← hp] at hn' hz hi
    rw [← hq] at hn' hj
    obtain rfl : w2 = (p : Int) := by omega
    obtain rfl : h2 = (q : Int) := by omega
    have hpq := Nat.mul_le_mul (show p ≤ W by omega) (show q ≤ H by omega)
    subst hn
    refine ⟨hi, hj, by omega, g', _, rfl, hz, ?_⟩
    refine (madeGray_any p q 54 _ (mean4 (fun j => zs.getD j 0) W H) w (by omega) (by omega) (by omega) (by omega) (Go.Proofs.enters_of Try.func54 (by kernel_rfl) rfl) ?_).mono ?_
    · intro k l wx hk hl hbx
      refine (mixes1_any W H k l gb g o c (fun j => zs.getD j 0) wx w2' h2' hN (by omega) (by omega) hr (cell_later hbx c0) (cell_later hbx c1) (cell_later hbx c2) (fun j hj => cell_later hbx (hc j hj))).mono ?_
      rintro e wy ⟨rfl, rfl⟩
      exact ⟨rfl, Below.refl _ _⟩
    · rintro e w5 ⟨v, rfl, hown, hb5⟩
      obtain ⟨g2, c2, rfl, _, hz2⟩ := owns_pageY hown (Nat.mul_pos (by omega) (by omega))
      rw [hn']
      exact ⟨g2, c2, rfl, fun k hk => by rw [hz2 k hk], hb5⟩

/-- The error of pasting. -/
def pasteErr (a1 b1 : Int) (n1 : Nat) (a2 b2 : Int) (n2 : Nat) : Int := orI (pageErr a1 b1 n1) (pageErr a2 b2 n2)

theorem pasteErr_zero {a1 b1 : Int} {n1 : Nat} {a2 b2 : Int} {n2 : Nat} (h : pasteErr a1 b1 n1 a2 b2 n2 = 0) : pageErr a1 b1 n1 = 0 ∧ pageErr a2 b2 n2 = 0 := by
  unfold pasteErr orI at h
  by_cases h1 : pageErr a1 b1 n1 = 0
  · rw [if_pos h1] at h; exact ⟨h1, h⟩
  · rw [if_neg h1] at h; exact absurd h h1

/-- What a pasted page is, in memory. -/
def PasteIs (a1 b1 : Int) (n1 : Nat) (a2 b2 : Int) (n2 : Nat) (x y : Int) (z1 z2 : Nat → Bool) (B : Nat) (w : World) (i j : Int) (sl : Option Addr) (n' c' : Nat) : Prop :=
  (pasteErr a1 b1 n1 a2 b2 n2 ≠ 0 ∧ i = 0 ∧ j = 0 ∧ sl = none ∧ n' = 0 ∧ c' = 0) ∨
  (pasteErr a1 b1 n1 a2 b2 n2 = 0 ∧ i = a1 ∧ j = b1 ∧ n' = n1 ∧ ∃ g, B ≤ g ∧ sl = some ⟨g, 0, none⟩ ∧ ∀ k, k < n' → w.cell? ⟨g, 0 + k, none⟩ = some (.bool (pasteAt a1.toNat a2.toNat b2.toNat x y z1 z2 (k % a1.toNat) (k / a1.toNat))))

theorem PasteIs.later {a1 b1 : Int} {n1 : Nat} {a2 b2 : Int} {n2 : Nat} {x y : Int} {z1 z2 : Nat → Bool} {B : Nat} {w w' : World} {i j : Int} {sl : Option Addr} {n' c' : Nat} (h : PasteIs a1 b1 n1 a2 b2 n2 x y z1 z2 B w i j sl n' c') (hb : Below w.heap.size w w') : PasteIs a1 b1 n1 a2 b2 n2 x y z1 z2 B w' i j sl n' c' := by
  rcases h with h | ⟨h1, h2, h3, h4, g, h5, h6, h7⟩
  · exact .inl h
  · exact .inr ⟨h1, h2, h3, h4, g, h5, h6, fun k hk => cell_later hb (h7 k hk)⟩

theorem paste_any (a1 b1 : Int) (s1 : Option Addr) (n1 c1 : Nat) (a2 b2 : Int) (s2 : Option Addr) (n2 c2 : Nat) (x y : Int) (z1 z2 : Nat → Bool) (w : World) (hs1 : IsBools w s1 n1 c1 z1) (hs2 : IsBools w s2 n2 c2 z2) :
    Calls Try.prog 56 #[.agg #[.int .i64 a1, .int .i64 b1, .slice s1 n1 c1], .agg #[.int .i64 a2, .int .i64 b2, .slice s2 n2 c2], .int .i64 x, .int .i64 y] w fun e w' =>
      ∃ i j sl n' c', e = .returned (.tuple #[.agg #[.int .i64 i, .int .i64 j, .slice sl n' c'], .int .i64 (pasteErr a1 b1 n1 a2 b2 n2)]) ∧ PasteIs a1 b1 n1 a2 b2 n2 x y z1 z2 w.heap.size w' i j sl n' c' ∧ Below w.heap.size w w' := by
  by_cases h : pageErr a1 b1 n1 = 0
  · by_cases h' : pageErr a2 b2 n2 = 0
    · have hE : pasteErr a1 b1 n1 a2 b2 n2 = 0 := by unfold pasteErr orI; rw [if_pos h, h']
      obtain ⟨W, H, rfl, rfl, hn, w1, w2, h1, h2, hN, he⟩ := page_nat h
      obtain ⟨Wc, Hc, rfl, rfl, hn', v1, v2, k1, k2, hN', he'⟩ := page_nat h'
      obtain ⟨g, o, rfl, hc⟩ := isBools_cells hs1 (by rw [hn]; exact Nat.mul_pos w1 h1)
      obtain ⟨g', o', rfl, hc'⟩ := isBools_cells hs2 (by rw [hn']; exact Nat.mul_pos v1 k1)
      refine (paste_ok W H Wc Hc n1 n2 g o c1 g' o' c2 x y z1 z2 w he he' hn hn' hc hc').mono ?_
      rintro e w' ⟨g3, c3, rfl, hg3, hz, hbel⟩
      exact ⟨_, _, _, _, _, by rw [hE], .inr ⟨hE, rfl, rfl, rfl, g3, hg3, rfl, by simpa using hz⟩, hbel⟩
    · have hE : pasteErr a1 b1 n1 a2 b2 n2 = pageErr a2 b2 n2 := by unfold pasteErr orI; rw [if_pos h]
      refine (paste_bad2 a1 b1 s1 n1 c1 a2 b2 s2 n2 c2 x y w h h').mono ?_
      rintro e w' ⟨rfl, hbel⟩
      exact ⟨0, 0, none, 0, 0, by rw [hE], .inl ⟨by rw [hE]; exact h', rfl, rfl, rfl, rfl, rfl⟩, hbel⟩
  · have hE : pasteErr a1 b1 n1 a2 b2 n2 = pageErr a1 b1 n1 := by unfold pasteErr orI; rw [if_neg h]
    refine (paste_bad1 a1 b1 s1 n1 c1 a2 b2 s2 n2 c2 x y w h).mono ?_
    rintro e w' ⟨rfl, hbel⟩
    exact ⟨0, 0, none, 0, 0, by rw [hE], .inl ⟨by rw [hE]; exact h, rfl, rfl, rfl, rfl, rfl⟩, hbel⟩

/-- What was pasted is what is wanted. -/
theorem bitsIs_paste (a1 b1 : Int) (s1 : Option Addr) (n1 c1 : Nat) (a2 b2 : Int) (s2 : Option Addr) (n2 c2 : Nat) (x y i j : Int) (sl : Option Addr) (n' c' bb cb xb yb B : Nat) (z1 z2 : Nat → Bool) (w : World) (hI : PasteIs a1 b1 n1 a2 b2 n2 x y z1 z2 B w i j sl n' c') (hs1 : IsBools w s1 n1 c1 z1) (hs2 : IsBools w s2 n2 c2 z2)
    (kb0 : w.cell? ⟨bb, 0, none⟩ = some (.int .i64 a1)) (kb1 : w.cell? ⟨bb, 1, none⟩ = some (.int .i64 b1)) (kb2 : w.cell? ⟨bb, 2, none⟩ = some (.slice s1 n1 c1))
    (kc0 : w.cell? ⟨cb, 0, none⟩ = some (.int .i64 a2)) (kc1 : w.cell? ⟨cb, 1, none⟩ = some (.int .i64 b2)) (kc2 : w.cell? ⟨cb, 2, none⟩ = some (.slice s2 n2 c2))
    (kx : w.cell? ⟨xb, 0, none⟩ = some (.int .i64 x)) (ky : w.cell? ⟨yb, 0, none⟩ = some (.int .i64 y)) :
    Calls Try.prog 24 #[.agg #[.int .i64 i, .int .i64 j, .slice sl n' c'], .int .i64 (pasteErr a1 b1 n1 a2 b2 n2), .int .i64 (pasteErr a1 b1 n1 a2 b2 n2), .func (.func 57) #[] #[.pointer (some ⟨bb, 0, none⟩), .pointer (some ⟨cb, 0, none⟩), .pointer (some ⟨xb, 0, none⟩), .pointer (some ⟨yb, 0, none⟩)]] w fun e w' => e = .returned (.bool true) ∧ Below w.heap.size w w' := by
  rcases hI with ⟨hE, rfl, rfl, rfl, rfl, rfl⟩ | ⟨hE, rfl, rfl, rfl, g', _, rfl, hz⟩
  · exact bitsIs_err _ _ w hE
  · rw [hE]
    obtain ⟨h, h'⟩ := pasteErr_zero hE
    obtain ⟨W, H, rfl, rfl, hn, w1, w2, h1, h2, hN, he⟩ := page_nat h
    obtain ⟨Wc, Hc, rfl, rfl, hn', v1, v2, k1, k2, hN', he'⟩ := page_nat h'
    obtain ⟨g, o, rfl, hc⟩ := isBools_cells hs1 (by rw [hn]; exact Nat.mul_pos w1 h1)
    obtain ⟨g3, o3, rfl, hc'⟩ := isBools_cells hs2 (by rw [hn']; exact Nat.mul_pos v1 k1)
    simp only [Int.toNat_natCast] at hz
    subst hn hn'
    refine bitsIs_ok W H g' 0 (W * H) c' 57 _ _ w (by omega) (Go.Proofs.enters_of Try.func57 (by kernel_rfl) rfl) hz ?_
    intro wx hbx
    exact mixes2_any W H Wc Hc g o c1 g3 o3 c2 bb cb xb yb x y z1 z2 wx ⟨w1, w2⟩ ⟨h1, h2⟩ ⟨v1, v2⟩ ⟨k1, k2⟩ hN (cell_later hbx kx) (cell_later hbx ky) (cell_later hbx kb0) (cell_later hbx kb1) (cell_later hbx kb2) (cell_later hbx kc0) (cell_later hbx kc1) (cell_later hbx kc2) (fun k hk => cell_later hbx (hc k hk)) (fun k hk => cell_later hbx (hc' k hk))

end Go.Proofs.Ytejhmobpepllcaa
