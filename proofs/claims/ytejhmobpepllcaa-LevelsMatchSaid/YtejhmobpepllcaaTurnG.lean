/-
  TurnGray as a whole, and what TurnsMatch compares it with.
-/
import Derived.Test.YtejhmobpepllcaaTurnT
import Derived.Test.YtejhmobpepllcaaTurnY
import Derived.Test.YtejhmobpepllcaaMadeY
import Derived.Test.YtejhmobpepllcaaSameY
namespace Go.Proofs.Ytejhmobpepllcaa
open Go.RowKit
set_option linter.unusedSimpArgs false
set_option linter.unusedVariables false

/-- What a page is that was made by places, in memory: nothing with an error; else its places. -/
def PageIsY (E : Int) (a b : Int) (f : Nat → Nat → Int) (B : Nat) (w : World) (i j : Int) (sl : Option Addr) (n' c' : Nat) : Prop :=
  (E ≠ 0 ∧ i = 0 ∧ j = 0 ∧ sl = none ∧ n' = 0 ∧ c' = 0) ∨
  (E = 0 ∧ i = a ∧ j = b ∧ n' = a.toNat * b.toNat ∧ ∃ g, B ≤ g ∧ sl = some ⟨g, 0, none⟩ ∧ ∀ k, k < n' → w.cell? ⟨g, 0 + k, none⟩ = some (.int .u8 (f (k % a.toNat) (k / a.toNat))))

theorem PageIsY.later {E a b : Int} {f : Nat → Nat → Int} {B : Nat} {w w' : World} {i j : Int} {sl : Option Addr} {n' c' : Nat} (h : PageIsY E a b f B w i j sl n' c') (hb : Below w.heap.size w w') : PageIsY E a b f B w' i j sl n' c' := by
  rcases h with h | ⟨h1, h2, h3, h4, g, h5, h6, h7⟩
  · exact .inl h
  · exact .inr ⟨h1, h2, h3, h4, g, h5, h6, fun k hk => cell_later hb (h7 k hk)⟩
theorem PageIsY.far3 {E a b : Int} {f : Nat → Nat → Int} {B N : Nat} {w : World} {i j : Int} {sl : Option Addr} {n' c' : Nat} (h : PageIsY E a b f B w i j sl n' c') (hN : N < B) (x y u : Value) : PageIsY E a b f B (((w.setCell ⟨N, 0, none⟩ x).setCell ⟨N, 1, none⟩ y).setCell ⟨N, 2, none⟩ u) i j sl n' c' := by
  rcases h with h | ⟨h1, h2, h3, h4, g, h5, h6, h7⟩
  · exact .inl h
  · exact .inr ⟨h1, h2, h3, h4, g, h5, h6, fun k hk => cell_far3 (show g ≠ N by omega) (h7 k hk)⟩

theorem turnGray_badPage (a b : Int) (p : Option Addr) (n c : Nat) (qt : Int) (w : World) (h : pageErr a b n ≠ 0) :
    Calls Try.prog 47 #[.agg #[.int .i64 a, .int .i64 b, .slice p n c], .int .i64 qt] w fun e w' => e = .returned (.tuple #[.agg #[.int .i64 0, .int .i64 0, .slice none 0 0], .int .i64 (pageErr a b n)]) ∧ Below w.heap.size w w' := by
  have h' : (pageErr a b n != 0) = true := by simpa using h
  clear h
  go_enter Try.func47, Try.ntmps47
  go_wp2_with ((go_at_call 17; refine (checkGray_any _ _ _ _ _ _).mono ?_; rintro e w' ⟨rfl, rfl⟩))
  refine bodyPost_ret (v := .tuple #[.agg #[.int .i64 0, .int .i64 0, .slice none 0 0], .int .i64 (pageErr a b n)]) (by simp [results, Try.results47, go_sem]) rfl ⟨rfl, below_alloc (below_alloc (new_below _ _) _) _⟩

set_option maxHeartbeats 400000 in
set_option maxRecDepth 100000 in
theorem turnGray_ok (W H g o c k : Nat) (qt : Int) (z : Nat → Int) (w : World) (he : sizeErr W H = 0) (hk : (qt.tmod 4 + 4).tmod 4 = (k : Int))
    (hp : ∀ j, j < W * H → w.cell? ⟨g, o + j, none⟩ = some (.int .u8 (z j))) :
    Calls Try.prog 47 #[.agg #[.int .i64 W, .int .i64 H, .slice (some ⟨g, o, none⟩) (W * H) c], .int .i64 qt] w fun e w' =>
      ∃ v, e = .returned (.tuple #[.agg #[.int .i64 (turnW W H k), .int .i64 (turnW H W k), v], .int .i64 0]) ∧ w'.ownsRow w.heap.size 5 1 v (W * H) ((places (turnW W H k) (turnAt W H k z) (W * H)).map (Value.int .u8)) ∧ Below w.heap.size w w' := by
  obtain ⟨⟨a1, a2, a3, a4⟩, z0, z1⟩ := sizeErr_zero he
  have hN : W * H ≤ 1048576 := by rw [← Int.natCast_mul] at z1; omega
  have hpe : pageErr W H (W * H) = 0 := by unfold pageErr; rw [if_pos he, if_pos (by simp [Int.natCast_mul])]
  have HC := Lib.hid hp
  have HK := Lib.hid hk
  clear hp he z0 z1 hk
  go_enter Try.func47, Try.ntmps47
  go_wp2_with ((go_at_call 17; refine (checkGray_any _ _ _ _ _ _).mono ?_; rintro e w' ⟨rfl, rfl⟩))
  obtain ⟨w1, hw1⟩ : ∃ w1, w1 = (((w.alloc (.cells #[.int .i64 W, .int .i64 H, .slice (some ⟨g, o, none⟩) (W * H) c] 27)).alloc (.cells #[.int .i64 0, .int .i64 0, .slice none 0 0] 27)).alloc (.cells #[.int .i64 W, .int .i64 H, .slice (some ⟨g, o, none⟩) (W * H) c] 27)) := ⟨_, rfl⟩
  have B1 : Below w.heap.size w w1 := by rw [hw1]; exact below_alloc (below_alloc (new_below _ _) _) _
  have qb : w1.heap[w.heap.size + 1]? = some (.cells #[.int .i64 0, .int .i64 0, .slice none 0 0] 27 (0, 0)) := by
    rw [hw1, Below.heap_alloc _ _ _ (by simp)]
    simpa using heap_alloc_new (w.alloc (.cells #[.int .i64 W, .int .i64 H, .slice (some ⟨g, o, none⟩) (W * H) c] 27)) (.cells #[.int .i64 0, .int .i64 0, .slice none 0 0] 27)
  rw [← hw1]
  clear hw1
  have lt1 := (Array.getElem?_eq_some_iff.1 qb).1
  refine (turnY_any W H g o (W * H) c k qt z w1 ⟨by omega, by omega⟩ ⟨by omega, by omega⟩ rfl hN HK.out (fun j hj => cell_later B1 (HC.out j hj))).mono ?_
  rintro e w5 ⟨v, rfl, hown, hb5⟩
  obtain ⟨j0, j1, j2, r0, r1, r2⟩ := block3 (below_block hb5 qb)
  obtain ⟨va, vn, vc, rfl⟩ := owns_shape hown
  have F := Lib.hid hown
  have G := Lib.hid hb5
  have L := Lib.hid lt1
  clear hown hb5 lt1
  go_wp2_with fail
  refine bodyPost_ret (v := .tuple #[.agg #[.int .i64 (turnW W H k), .int .i64 (turnW H W k), .slice va vn vc], .int .i64 0]) (by simp [results, Try.results47, go_sem, j0, j1, j2]) rfl ⟨_, rfl, owns_far3 F.out L.out B1.size, below_far3 (below_step B1 G.out) (by omega)⟩

theorem turnGray_any (a b : Int) (s : Option Addr) (n c k : Nat) (qt : Int) (zs : List Int) (w : World) (hs : IsBytes w s n c zs) (hk : (qt.tmod 4 + 4).tmod 4 = (k : Int)) :
    Calls Try.prog 47 #[.agg #[.int .i64 a, .int .i64 b, .slice s n c], .int .i64 qt] w fun e w' =>
      ∃ i j sl n' c', e = .returned (.tuple #[.agg #[.int .i64 i, .int .i64 j, .slice sl n' c'], .int .i64 (pageErr a b n)]) ∧ PageIsY (pageErr a b n) (turnW a.toNat b.toNat k) (turnW b.toNat a.toNat k) (turnAt a.toNat b.toNat k (fun j => zs.getD j 0)) w.heap.size w' i j sl n' c' ∧ Below w.heap.size w w' := by
  by_cases h : pageErr a b n = 0
  · obtain ⟨W, H, rfl, rfl, hn, w1, w2, h1, h2, hN, he⟩ := page_nat h
    obtain ⟨g, o, rfl, hc, _⟩ := isBytes_cells hs (by rw [hn]; exact Nat.mul_pos w1 h1)
    subst hn
    refine (turnGray_ok W H g o c k qt (fun j => zs.getD j 0) w he hk hc).mono ?_
    rintro e w' ⟨v, rfl, hown, hbel⟩
    obtain ⟨g', c', rfl, hg', hz⟩ := owns_pageY hown (Nat.mul_pos w1 h1)
    exact ⟨_, _, _, _, _, by rw [h], .inr ⟨h, by simp, by simp, by simp [turnW_mul], g', hg', rfl, by simpa using hz⟩, hbel⟩
  · refine (turnGray_badPage a b s n c qt w h).mono ?_
    rintro e w' ⟨rfl, hbel⟩
    exact ⟨0, 0, none, 0, 0, rfl, .inl ⟨h, rfl, rfl, rfl, rfl, rfl⟩, hbel⟩


set_option maxRecDepth 100000 in
theorem turns4_any (W H x y pb g o n c t : Nat) (q : Int) (w : World) (hW : W ≤ 4000) (hH : H ≤ 4000) (hx : x < H) (hy : y < W) (hn : n = W * H) (ht : t = (H - 1 - x) * W + y)
    (c0 : w.cell? ⟨pb, 0, none⟩ = some (.int .i64 W)) (c1 : w.cell? ⟨pb, 1, none⟩ = some (.int .i64 H)) (c2 : w.cell? ⟨pb, 2, none⟩ = some (.slice (some ⟨g, o, none⟩) n c)) (hc : w.cell? ⟨g, o + t, none⟩ = some (.int .u8 q)) :
    Calls Try.prog 48 #[.int .i64 x, .int .i64 y, .pointer (some ⟨pb, 0, none⟩)] w fun e w' => e = .returned (.int .u8 q) ∧ w = w' := by
  obtain ⟨A, hA⟩ : ∃ A, A = H - 1 - x := ⟨_, rfl⟩
  have e0 : (H : Int) - 1 - (x : Int) = (A : Int) := by omega
  rw [← hA] at ht
  obtain ⟨r1, r2⟩ := row_prod (y := A) hW hH (by omega)
  obtain ⟨P, hP⟩ : ∃ P, P = A * W := ⟨_, rfl⟩
  have e1 : (A : Int) * (W : Int) = (P : Int) := by rw [hP, Int.natCast_mul]
  rw [← hP] at r1 r2 ht
  have htn : (t : Int) < (n : Int) := by rw [hn, Nat.mul_comm W H]; omega
  have e2 : (P : Int) + (y : Int) = (t : Int) := by omega
  clear hP ht hn r2 hA
  go_enter Try.func48, Try.ntmps48
  go_wp2
  go_ret
  exact ⟨rfl, rfl⟩

/-- The page that is made for comparison: turned once more. -/
theorem madeTurn_any (W H pb g o c : Nat) (z : Nat → Int) (w : World) (hW : 1 ≤ W ∧ W ≤ 4000) (hH : 1 ≤ H ∧ H ≤ 4000) (hN : W * H ≤ 1048576)
    (c0 : w.cell? ⟨pb, 0, none⟩ = some (.int .i64 W)) (c1 : w.cell? ⟨pb, 1, none⟩ = some (.int .i64 H)) (c2 : w.cell? ⟨pb, 2, none⟩ = some (.slice (some ⟨g, o, none⟩) (W * H) c))
    (hp : ∀ j, j < W * H → w.cell? ⟨g, o + j, none⟩ = some (.int .u8 (z j))) :
    Calls Try.prog 33 #[.int .i64 H, .int .i64 W, .func (.func 48) #[] #[.pointer (some ⟨pb, 0, none⟩)]] w fun e w' =>
      ∃ g' c', e = .returned (.agg #[.int .i64 H, .int .i64 W, .slice (some ⟨g', 0, none⟩) (H * W) c']) ∧ w.heap.size ≤ g' ∧ (∀ j, j < H * W → w'.cell? ⟨g', 0 + j, none⟩ = some (.int .u8 (z ((H - 1 - j % H) * W + j / H)))) ∧ Below w.heap.size w w' := by
  refine (madeGray_any H W 48 _ (fun x y => z ((H - 1 - x) * W + y)) w hH.1 (by omega) (by omega) (by rw [Nat.mul_comm]; omega) (Go.Proofs.enters_of Try.func48 (by kernel_rfl) rfl) ?_).mono ?_
  · intro x y wx hx hy hbx
    have hfit := row_fits (y := H - 1 - x) (h := H) (by omega) (show y + 1 ≤ W by omega)
    refine (turns4_any W H x y pb g o (W * H) c _ _ wx hW.2 hH.2 hx hy rfl rfl (cell_later hbx c0) (cell_later hbx c1) (cell_later hbx c2) (cell_later hbx (hp _ (by omega)))).mono ?_
    rintro e wy ⟨rfl, rfl⟩
    exact ⟨rfl, Below.refl _ _⟩
  · rintro e w5 ⟨v, rfl, hown, hb5⟩
    obtain ⟨g', c', rfl, hg', hz⟩ := owns_pageY hown (Nat.mul_pos hH.1 hW.1)
    exact ⟨g', c', rfl, hg', hz, hb5⟩

end Go.Proofs.Ytejhmobpepllcaa
