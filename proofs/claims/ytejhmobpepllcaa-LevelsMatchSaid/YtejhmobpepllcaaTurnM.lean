/-
  Mirror and Invert as wholes, and what TurnsMatch compares them with.
-/
import Derived.Test.YtejhmobpepllcaaCutsB
namespace Go.Proofs.Ytejhmobpepllcaa
open Go.RowKit
set_option linter.unusedSimpArgs false
set_option linter.unusedVariables false

/-- What a page is that was made by places, in memory: nothing with an error; else its places. -/
def PageIs (E : Int) (a b : Int) (f : Nat → Nat → Bool) (B : Nat) (w : World) (i j : Int) (sl : Option Addr) (n' c' : Nat) : Prop :=
  (E ≠ 0 ∧ i = 0 ∧ j = 0 ∧ sl = none ∧ n' = 0 ∧ c' = 0) ∨
  (E = 0 ∧ i = a ∧ j = b ∧ n' = a.toNat * b.toNat ∧ ∃ g, B ≤ g ∧ sl = some ⟨g, 0, none⟩ ∧ ∀ k, k < n' → w.cell? ⟨g, 0 + k, none⟩ = some (.bool (f (k % a.toNat) (k / a.toNat))))

theorem PageIs.later {E a b : Int} {f : Nat → Nat → Bool} {B : Nat} {w w' : World} {i j : Int} {sl : Option Addr} {n' c' : Nat} (h : PageIs E a b f B w i j sl n' c') (hb : Below w.heap.size w w') : PageIs E a b f B w' i j sl n' c' := by
  rcases h with h | ⟨h1, h2, h3, h4, g, h5, h6, h7⟩
  · exact .inl h
  · exact .inr ⟨h1, h2, h3, h4, g, h5, h6, fun k hk => cell_later hb (h7 k hk)⟩
theorem PageIs.far3 {E a b : Int} {f : Nat → Nat → Bool} {B N : Nat} {w : World} {i j : Int} {sl : Option Addr} {n' c' : Nat} (h : PageIs E a b f B w i j sl n' c') (hN : N < B) (x y u : Value) : PageIs E a b f B (((w.setCell ⟨N, 0, none⟩ x).setCell ⟨N, 1, none⟩ y).setCell ⟨N, 2, none⟩ u) i j sl n' c' := by
  rcases h with h | ⟨h1, h2, h3, h4, g, h5, h6, h7⟩
  · exact .inl h
  · exact .inr ⟨h1, h2, h3, h4, g, h5, h6, fun k hk => cell_far3 (show g ≠ N by omega) (h7 k hk)⟩

/-- A page that was made by places is what is wanted, where the closure makes it by the same places. -/
theorem bitsIs_page (E a b i j : Int) (f : Nat → Nat → Bool) (sl : Option Addr) (n' c' B cl : Nat) (capt : Array Value) (w : World) (hI : PageIs E a b f B w i j sl n' c')
    (eg : ∀ (args : Array Value) (W : World), (callFunc cl args).run Try.prog W = .ok (.enter cl args) W)
    (hc : E = 0 → ∃ W H : Nat, a = W ∧ b = H ∧ W * H ≤ 100000000 ∧ ∀ wx, Below w.heap.size w wx → Calls Try.prog cl capt wx fun e w' => ∃ v, e = .returned v ∧ PageB w' v W H (W * H) (fun k => f (k % W) (k / W)) ∧ Below wx.heap.size wx w') :
    Calls Try.prog 24 #[.agg #[.int .i64 i, .int .i64 j, .slice sl n' c'], .int .i64 E, .int .i64 E, .func (.func cl) #[] capt] w fun e w' => e = .returned (.bool true) ∧ Below w.heap.size w w' := by
  rcases hI with ⟨hE, rfl, rfl, rfl, rfl, rfl⟩ | ⟨hE, rfl, rfl, hn', g', _, rfl, hz⟩
  · exact bitsIs_err _ _ w hE
  · obtain ⟨W, H, rfl, rfl, hN, hcl⟩ := hc hE
    rw [hE]
    simp only [Int.toNat_natCast] at hn' hz
    subst hn'
    exact bitsIs_ok W H g' 0 (W * H) c' cl capt (fun k => f (k % W) (k / W)) w hN eg hz hcl

theorem row_prod {W H y : Nat} (hW : W ≤ 4000) (hH : H ≤ 4000) (hy : y < H) : y * W ≤ 16000000 ∧ y * W + W ≤ H * W := by
  have h1 := Nat.mul_le_mul (show y ≤ 4000 by omega) hW
  have h2 := Nat.mul_le_mul_right W (show y + 1 ≤ H by omega)
  rw [Nat.add_mul, Nat.one_mul] at h2
  exact ⟨h1, h2⟩

set_option maxRecDepth 100000 in
theorem mirror1_any (W H x y pb g o n c t : Nat) (q : Bool) (w : World) (hW : W ≤ 4000) (hH : H ≤ 4000) (hx : x < W) (hy : y < H) (hn : n = W * H) (ht : t = y * W + (W - 1 - x))
    (c0 : w.cell? ⟨pb, 0, none⟩ = some (.int .i64 W)) (c2 : w.cell? ⟨pb, 2, none⟩ = some (.slice (some ⟨g, o, none⟩) n c)) (hc : w.cell? ⟨g, o + t, none⟩ = some (.bool q)) :
    Calls Try.prog 113 #[.int .i64 x, .int .i64 y, .pointer (some ⟨pb, 0, none⟩)] w fun e w' => e = .returned (.bool q) ∧ w = w' := by
  obtain ⟨r1, r2⟩ := row_prod hW hH hy
  obtain ⟨P, hP⟩ : ∃ P, P = y * W := ⟨_, rfl⟩
  have e0 : (y : Int) * (W : Int) = (P : Int) := by rw [hP, Int.natCast_mul]
  rw [← hP] at r1 r2 ht
  have htn : (t : Int) < (n : Int) := by rw [hn, Nat.mul_comm W H]; omega
  have e1 : (P : Int) + (W : Int) - 1 - (x : Int) = (t : Int) := by omega
  clear hP ht hn r2
  go_enter Try.func113, Try.ntmps113
  go_wp2
  go_ret
  exact ⟨rfl, rfl⟩

set_option maxRecDepth 100000 in
theorem invert1_any (W H x y pb g o n c t : Nat) (q : Bool) (w : World) (hW : W ≤ 4000) (hH : H ≤ 4000) (hx : x < W) (hy : y < H) (hn : n = W * H) (ht : t = y * W + x)
    (c0 : w.cell? ⟨pb, 0, none⟩ = some (.int .i64 W)) (c2 : w.cell? ⟨pb, 2, none⟩ = some (.slice (some ⟨g, o, none⟩) n c)) (hc : w.cell? ⟨g, o + t, none⟩ = some (.bool q)) :
    Calls Try.prog 114 #[.int .i64 x, .int .i64 y, .pointer (some ⟨pb, 0, none⟩)] w fun e w' => e = .returned (.bool (!q)) ∧ w = w' := by
  obtain ⟨r1, r2⟩ := row_prod hW hH hy
  obtain ⟨P, hP⟩ : ∃ P, P = y * W := ⟨_, rfl⟩
  have e0 : (y : Int) * (W : Int) = (P : Int) := by rw [hP, Int.natCast_mul]
  rw [← hP] at r1 r2 ht
  have htn : (t : Int) < (n : Int) := by rw [hn, Nat.mul_comm W H]; omega
  have e1 : (P : Int) + (x : Int) = (t : Int) := by omega
  clear hP ht hn r2
  go_enter Try.func114, Try.ntmps114
  go_wp2
  go_ret
  exact ⟨rfl, rfl⟩

theorem mirror_badPage (a b : Int) (p : Option Addr) (n c : Nat) (w : World) (h : pageErr a b n ≠ 0) :
    Calls Try.prog 38 #[.agg #[.int .i64 a, .int .i64 b, .slice p n c]] w fun e w' => e = .returned (.tuple #[.agg #[.int .i64 0, .int .i64 0, .slice none 0 0], .int .i64 (pageErr a b n)]) ∧ Below w.heap.size w w' := by
  have h' : (pageErr a b n != 0) = true := by simpa using h
  clear h
  go_enter Try.func38, Try.ntmps38
  go_wp2_with ((go_at_call 16; refine (checkBits_any _ _ _ _ _ _).mono ?_; rintro e w' ⟨rfl, rfl⟩))
  refine bodyPost_ret (v := .tuple #[.agg #[.int .i64 0, .int .i64 0, .slice none 0 0], .int .i64 (pageErr a b n)]) (by simp [results, Try.results38, go_sem]) rfl ⟨rfl, below_alloc (below_alloc (new_below _ _) _) _⟩

set_option maxHeartbeats 400000 in
set_option maxRecDepth 100000 in
theorem mirror_ok (W H g o c : Nat) (z : Nat → Bool) (w : World) (he : sizeErr W H = 0)
    (hp : ∀ j, j < W * H → w.cell? ⟨g, o + j, none⟩ = some (.bool (z j))) :
    Calls Try.prog 38 #[.agg #[.int .i64 W, .int .i64 H, .slice (some ⟨g, o, none⟩) (W * H) c]] w fun e w' =>
      ∃ v, e = .returned (.tuple #[.agg #[.int .i64 W, .int .i64 H, v], .int .i64 0]) ∧ w'.ownsRow w.heap.size 4 1 v (W * H) ((places W (fun x y => z (y * W + (W - 1 - x))) (W * H)).map Value.bool) ∧ Below w.heap.size w w' := by
  have hmf : ∀ (fn : Fn) (first cap : Array Value) (w : World), (Instr.makeFunc fn first cap).run Try.prog w = .ok (.func fn first cap) w := fun _ _ _ _ => rfl
  obtain ⟨⟨a1, a2, a3, a4⟩, z0, z1⟩ := sizeErr_zero he
  have hN : W * H ≤ 1048576 := by rw [← Int.natCast_mul] at z1; omega
  have hpe : pageErr W H (W * H) = 0 := by unfold pageErr; rw [if_pos he, if_pos (by simp [Int.natCast_mul])]
  have HC := Lib.hid hp
  clear hp he z0 z1
  go_enter Try.func38, Try.ntmps38
  go_wp2_with ((go_at_call 16; refine (checkBits_any _ _ _ _ _ _).mono ?_; rintro e w' ⟨rfl, rfl⟩))
  obtain ⟨w1, hw1⟩ : ∃ w1, w1 = (((w.alloc (.cells #[.int .i64 W, .int .i64 H, .slice (some ⟨g, o, none⟩) (W * H) c] 24)).alloc (.cells #[.int .i64 0, .int .i64 0, .slice none 0 0] 24)).alloc (.cells #[.int .i64 W, .int .i64 H, .slice (some ⟨g, o, none⟩) (W * H) c] 24)) := ⟨_, rfl⟩
  have B1 : Below w.heap.size w w1 := by rw [hw1]; exact below_alloc (below_alloc (new_below _ _) _) _
  have q0 : w1.cell? ⟨w.heap.size, 0, none⟩ = some (.int .i64 W) := by rw [hw1]; go_simp
  have q1 : w1.cell? ⟨w.heap.size, 1, none⟩ = some (.int .i64 H) := by rw [hw1]; go_simp
  have q2 : w1.cell? ⟨w.heap.size, 2, none⟩ = some (.slice (some ⟨g, o, none⟩) (W * H) c) := by rw [hw1]; go_simp
  have qb : w1.heap[w.heap.size + 1]? = some (.cells #[.int .i64 0, .int .i64 0, .slice none 0 0] 24 (0, 0)) := by
    rw [hw1, Below.heap_alloc _ _ _ (by simp)]
    simpa using heap_alloc_new (w.alloc (.cells #[.int .i64 W, .int .i64 H, .slice (some ⟨g, o, none⟩) (W * H) c] 24)) (.cells #[.int .i64 0, .int .i64 0, .slice none 0 0] 24)
  rw [← hw1]
  clear hw1
  have lt1 := (Array.getElem?_eq_some_iff.1 qb).1
  refine (fillBool_any W H 113 _ (fun x y => z (y * W + (W - 1 - x))) w1 (by omega) (by omega) (by omega) (by omega) (Go.Proofs.enters_of Try.func113 (by kernel_rfl) rfl) ?_).mono ?_
  · intro x y wx hx hy hbx
    have hfit := row_fits hy (show (W - 1 - x) + 1 ≤ W by omega)
    refine (mirror1_any W H x y w.heap.size g o (W * H) c _ _ wx (by omega) (by omega) hx hy rfl rfl (cell_later hbx q0) (cell_later hbx q2) (cell_later hbx (cell_later B1 (HC.out _ (by omega))))).mono ?_
    rintro e wy ⟨rfl, rfl⟩
    exact ⟨rfl, Below.refl _ _⟩
  · rintro e w5 ⟨v, rfl, hown, hb5⟩
    obtain ⟨j0, j1, j2, r0, r1, r2⟩ := block3 (below_block hb5 qb)
    obtain ⟨va, vn, vc, rfl⟩ := owns_shape hown
    have k0 := cell_later hb5 q0
    have k1 := cell_later hb5 q1
    have F := Lib.hid hown
    have G := Lib.hid hb5
    have L := Lib.hid lt1
    clear hown hb5 lt1 q0 q1 q2
    go_wp2_with fail
    refine bodyPost_ret (v := .tuple #[.agg #[.int .i64 W, .int .i64 H, .slice va vn vc], .int .i64 0]) (by simp [results, Try.results38, go_sem, j0, j1, j2]) rfl ⟨_, rfl, owns_far3 F.out L.out B1.size, below_far3 (below_step B1 G.out) (by omega)⟩

theorem mirror_any (a b : Int) (s : Option Addr) (n c : Nat) (z : Nat → Bool) (w : World) (hs : IsBools w s n c z) :
    Calls Try.prog 38 #[.agg #[.int .i64 a, .int .i64 b, .slice s n c]] w fun e w' =>
      ∃ i j sl n' c', e = .returned (.tuple #[.agg #[.int .i64 i, .int .i64 j, .slice sl n' c'], .int .i64 (pageErr a b n)]) ∧ PageIs (pageErr a b n) a b (fun x y => z (y * a.toNat + (a.toNat - 1 - x))) w.heap.size w' i j sl n' c' ∧ Below w.heap.size w w' := by
  by_cases h : pageErr a b n = 0
  · obtain ⟨W, H, rfl, rfl, hn, w1, w2, h1, h2, hN, he⟩ := page_nat h
    obtain ⟨g, o, rfl, hc⟩ := isBools_cells hs (by rw [hn]; exact Nat.mul_pos w1 h1)
    subst hn
    refine (mirror_ok W H g o c z w he hc).mono ?_
    rintro e w' ⟨v, rfl, hown, hbel⟩
    obtain ⟨g', c', rfl, hg', hz⟩ := owns_pageB hown (Nat.mul_pos w1 h1)
    exact ⟨_, _, _, _, _, by rw [h], .inr ⟨h, rfl, rfl, by simp, g', hg', rfl, by simpa using hz⟩, hbel⟩
  · refine (mirror_badPage a b s n c w h).mono ?_
    rintro e w' ⟨rfl, hbel⟩
    exact ⟨0, 0, none, 0, 0, rfl, .inl ⟨h, rfl, rfl, rfl, rfl, rfl⟩, hbel⟩

end Go.Proofs.Ytejhmobpepllcaa
