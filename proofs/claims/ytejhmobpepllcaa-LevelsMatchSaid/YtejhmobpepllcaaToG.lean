/-
  ToBits and ToGray as wholes, and what CountsMatch compares them with.
-/
import Derived.Test.YtejhmobpepllcaaHist
import Derived.Test.YtejhmobpepllcaaTurnI
namespace Go.Proofs.Ytejhmobpepllcaa
open Go.RowKit
set_option linter.unusedSimpArgs false
set_option linter.unusedVariables false

/-- The error of ToBits. -/
def tbErr (a b : Int) (n : Nat) (lv : Int) : Int := if pageErr a b n = 0 then (if 0 ≤ lv ∧ lv ≤ 256 then 0 else 3) else pageErr a b n

theorem toBits_badPage (a b lv : Int) (p : Option Addr) (n c : Nat) (w : World) (h : pageErr a b n ≠ 0) :
    Calls Try.prog 59 #[.agg #[.int .i64 a, .int .i64 b, .slice p n c], .int .i64 lv] w fun e w' => e = .returned (.tuple #[.agg #[.int .i64 0, .int .i64 0, .slice none 0 0], .int .i64 (pageErr a b n)]) ∧ Below w.heap.size w w' := by
  have h' : (pageErr a b n != 0) = true := by simpa using h
  clear h
  go_enter Try.func59, Try.ntmps59
  go_wp2_with ((go_at_call 17; refine (checkGray_any _ _ _ _ _ _).mono ?_; rintro e w' ⟨rfl, rfl⟩))
  refine bodyPost_ret (v := .tuple #[.agg #[.int .i64 0, .int .i64 0, .slice none 0 0], .int .i64 (pageErr a b n)]) (by simp [results, Try.results59, go_sem]) rfl ⟨rfl, below_alloc (below_alloc (below_alloc (new_below _ _) _) _) _⟩

theorem toBits_badLevel (a b lv : Int) (p : Option Addr) (n c : Nat) (w : World) (h : pageErr a b n = 0) (hl : ¬ (0 ≤ lv ∧ lv ≤ 256)) :
    Calls Try.prog 59 #[.agg #[.int .i64 a, .int .i64 b, .slice p n c], .int .i64 lv] w fun e w' => e = .returned (.tuple #[.agg #[.int .i64 0, .int .i64 0, .slice none 0 0], .int .i64 3]) ∧ Below w.heap.size w w' := by
  by_cases h1 : lv < 0
  · clear hl
    go_enter Try.func59, Try.ntmps59
    go_wp2_with ((go_at_call 17; refine (checkGray_any _ _ _ _ _ _).mono ?_; rintro e w' ⟨rfl, rfl⟩))
    refine bodyPost_ret (v := .tuple #[.agg #[.int .i64 0, .int .i64 0, .slice none 0 0], .int .i64 3]) (by simp [results, Try.results59, go_sem]) rfl ⟨rfl, below_alloc (below_alloc (below_alloc (new_below _ _) _) _) _⟩
  · have h2 : 256 < lv := by omega
    have h1' : ¬ lv < 0 := h1
    clear hl h1
    go_enter Try.func59, Try.ntmps59
    go_wp2_with ((go_at_call 17; refine (checkGray_any _ _ _ _ _ _).mono ?_; rintro e w' ⟨rfl, rfl⟩))
    refine bodyPost_ret (v := .tuple #[.agg #[.int .i64 0, .int .i64 0, .slice none 0 0], .int .i64 3]) (by simp [results, Try.results59, go_sem]) rfl ⟨rfl, below_alloc (below_alloc (below_alloc (new_below _ _) _) _) _⟩

set_option maxHeartbeats 400000 in
set_option maxRecDepth 100000 in
theorem toBits_ok (W H g o c : Nat) (lv : Int) (z : Nat → Int) (w : World) (he : sizeErr W H = 0) (hl : 0 ≤ lv ∧ lv ≤ 256) (hzb : ∀ j, 0 ≤ z j ∧ z j ≤ 255)
    (hp : ∀ j, j < W * H → w.cell? ⟨g, o + j, none⟩ = some (.int .u8 (z j))) :
    Calls Try.prog 59 #[.agg #[.int .i64 W, .int .i64 H, .slice (some ⟨g, o, none⟩) (W * H) c], .int .i64 lv] w fun e w' =>
      ∃ v, e = .returned (.tuple #[.agg #[.int .i64 W, .int .i64 H, v], .int .i64 0]) ∧ w'.ownsRow w.heap.size 4 1 v (W * H) ((places W (fun x y => decide (z (y * W + x) < lv)) (W * H)).map Value.bool) ∧ Below w.heap.size w w' := by
  have hmf : ∀ (fn : Fn) (first cap : Array Value) (w : World), (Instr.makeFunc fn first cap).run Try.prog w = .ok (.func fn first cap) w := fun _ _ _ _ => rfl
  obtain ⟨⟨a1, a2, a3, a4⟩, z0, z1⟩ := sizeErr_zero he
  have hN : W * H ≤ 1048576 := by rw [← Int.natCast_mul] at z1; omega
  have hpe : pageErr W H (W * H) = 0 := by unfold pageErr; rw [if_pos he, if_pos (by simp [Int.natCast_mul])]
  obtain ⟨w1, hw1⟩ : ∃ w1, w1 = ((((w.alloc (.cells #[.int .i64 W, .int .i64 H, .slice (some ⟨g, o, none⟩) (W * H) c] 27)).alloc (.cells #[.int .i64 lv] 3)).alloc (.cells #[.int .i64 0, .int .i64 0, .slice none 0 0] 24)).alloc (.cells #[.int .i64 W, .int .i64 H, .slice (some ⟨g, o, none⟩) (W * H) c] 27)) := ⟨_, rfl⟩
  have B1 : Below w.heap.size w w1 := by rw [hw1]; exact below_alloc (below_alloc (below_alloc (new_below _ _) _) _) _
  have q0 : w1.cell? ⟨w.heap.size, 0, none⟩ = some (.int .i64 W) := by rw [hw1]; go_simp
  have q1 : w1.cell? ⟨w.heap.size, 1, none⟩ = some (.int .i64 H) := by rw [hw1]; go_simp
  have q2 : w1.cell? ⟨w.heap.size, 2, none⟩ = some (.slice (some ⟨g, o, none⟩) (W * H) c) := by rw [hw1]; go_simp
  have q3 : w1.cell? ⟨w.heap.size + 1, 0, none⟩ = some (.int .i64 lv) := by rw [hw1]; go_simp
  have qb : w1.heap[w.heap.size + 1 + 1]? = some (.cells #[.int .i64 0, .int .i64 0, .slice none 0 0] 24 (0, 0)) := by
    rw [hw1, Below.heap_alloc _ _ _ (by simp)]
    simpa using heap_alloc_new ((w.alloc (.cells #[.int .i64 W, .int .i64 H, .slice (some ⟨g, o, none⟩) (W * H) c] 27)).alloc (.cells #[.int .i64 lv] 3)) (.cells #[.int .i64 0, .int .i64 0, .slice none 0 0] 24)
  have HC := Lib.hid hp
  have HZ := Lib.hid hzb
  clear hp he z0 z1 hzb
  go_enter Try.func59, Try.ntmps59
  go_wp2_with ((go_at_call 17; refine (checkGray_any _ _ _ _ _ _).mono ?_; rintro e w' ⟨rfl, rfl⟩))
  rw [← hw1]
  clear hw1
  have lt1 := (Array.getElem?_eq_some_iff.1 qb).1
  refine (fillBool_any W H 124 _ (fun x y => decide (z (y * W + x) < lv)) w1 (by omega) (by omega) (by omega) (by omega) (Go.Proofs.enters_of Try.func124 (by kernel_rfl) rfl) ?_).mono ?_
  · intro x y wx hx hy hbx
    have hfit := row_fits hy (show x + 1 ≤ W by omega)
    refine (toBits1_any W H x y w.heap.size (w.heap.size + 1) g o (W * H) c _ _ lv wx (by omega) (by omega) hx hy rfl rfl (HZ.out _) (cell_later hbx q0) (cell_later hbx q2) (cell_later hbx q3) (cell_later hbx (cell_later B1 (HC.out _ (by omega))))).mono ?_
    rintro e wy ⟨rfl, k, rfl⟩
    exact ⟨rfl, below_drewN (Below.refl _ _) k⟩
  · rintro e w5 ⟨v, rfl, hown, hb5⟩
    obtain ⟨j0, j1, j2, r0, r1, r2⟩ := block3 (below_block hb5 qb)
    obtain ⟨va, vn, vc, rfl⟩ := owns_shape hown
    have k0 := cell_later hb5 q0
    have k1 := cell_later hb5 q1
    have F := Lib.hid hown
    have G := Lib.hid hb5
    have L := Lib.hid lt1
    clear hown hb5 lt1 q0 q1 q2 q3
    go_wp2_with fail
    refine bodyPost_ret (v := .tuple #[.agg #[.int .i64 W, .int .i64 H, .slice va vn vc], .int .i64 0]) (by simp [results, Try.results59, go_sem, j0, j1, j2]) rfl ⟨_, rfl, owns_far3 F.out L.out B1.size, below_far3 (below_step B1 G.out) (by omega)⟩

theorem toBits_any (a b lv : Int) (s : Option Addr) (n c : Nat) (zs : List Int) (w : World) (hs : IsBytes w s n c zs) :
    Calls Try.prog 59 #[.agg #[.int .i64 a, .int .i64 b, .slice s n c], .int .i64 lv] w fun e w' =>
      ∃ i j sl n' c', e = .returned (.tuple #[.agg #[.int .i64 i, .int .i64 j, .slice sl n' c'], .int .i64 (tbErr a b n lv)]) ∧ PageIs (tbErr a b n lv) a b (fun x y => decide (zs.getD (y * a.toNat + x) 0 < lv)) w.heap.size w' i j sl n' c' ∧ Below w.heap.size w w' := by
  by_cases h : pageErr a b n = 0
  · by_cases hl : 0 ≤ lv ∧ lv ≤ 256
    · have hE : tbErr a b n lv = 0 := by unfold tbErr; rw [if_pos h, if_pos hl]
      obtain ⟨W, H, rfl, rfl, hn, w1, w2, h1, h2, hN, he⟩ := page_nat h
      obtain ⟨g, o, rfl, hc, hzb⟩ := isBytes_cells hs (by rw [hn]; exact Nat.mul_pos w1 h1)
      subst hn
      refine (toBits_ok W H g o c lv _ w he hl hzb hc).mono ?_
      rintro e w' ⟨v, rfl, hown, hbel⟩
      obtain ⟨g', c', rfl, hg', hz⟩ := owns_pageB hown (Nat.mul_pos w1 h1)
      exact ⟨_, _, _, _, _, by rw [hE], .inr ⟨hE, rfl, rfl, by simp, g', hg', rfl, by simpa using hz⟩, hbel⟩
    · have hE : tbErr a b n lv = 3 := by unfold tbErr; rw [if_pos h, if_neg hl]
      refine (toBits_badLevel a b lv s n c w h hl).mono ?_
      rintro e w' ⟨rfl, hbel⟩
      exact ⟨0, 0, none, 0, 0, by rw [hE], .inl ⟨by rw [hE]; decide, rfl, rfl, rfl, rfl, rfl⟩, hbel⟩
  · have hE : tbErr a b n lv = pageErr a b n := by unfold tbErr; rw [if_neg h]
    refine (toBits_badPage a b lv s n c w h).mono ?_
    rintro e w' ⟨rfl, hbel⟩
    exact ⟨0, 0, none, 0, 0, by rw [hE], .inl ⟨by rw [hE]; exact h, rfl, rfl, rfl, rfl, rfl⟩, hbel⟩

set_option maxHeartbeats 400000 in
set_option maxRecDepth 100000 in
theorem counts1_any (W H pb lb g o c : Nat) (lv : Int) (z : Nat → Int) (w : World) (hW : 1 ≤ W ∧ W ≤ 4000) (hH : 1 ≤ H ∧ H ≤ 4000) (hN : W * H ≤ 1048576) (hzb : ∀ j, 0 ≤ z j ∧ z j ≤ 255)
    (c0 : w.cell? ⟨pb, 0, none⟩ = some (.int .i64 W)) (c1 : w.cell? ⟨pb, 1, none⟩ = some (.int .i64 H)) (c2 : w.cell? ⟨pb, 2, none⟩ = some (.slice (some ⟨g, o, none⟩) (W * H) c)) (c3 : w.cell? ⟨lb, 0, none⟩ = some (.int .i64 lv))
    (hp : ∀ j, j < W * H → w.cell? ⟨g, o + j, none⟩ = some (.int .u8 (z j))) :
    Calls Try.prog 60 #[.pointer (some ⟨pb, 0, none⟩), .pointer (some ⟨lb, 0, none⟩)] w fun e w' => ∃ v, e = .returned v ∧ PageB w' v W H (W * H) (fun k => decide (z (k / W * W + k % W) < lv)) ∧ Below w.heap.size w w' := by
  have hmf : ∀ (fn : Fn) (first cap : Array Value) (w : World), (Instr.makeFunc fn first cap).run Try.prog w = .ok (.func fn first cap) w := fun _ _ _ _ => rfl
  have lb0 := World.block_lt_of_cell? _ _ c0
  simp only at lb0
  obtain ⟨w1, hw1⟩ : ∃ w1, w1 = w.alloc (.cells #[.int .i64 0, .int .i64 0, .slice none 0 0] 24) := ⟨_, rfl⟩
  have B1 : Below w.heap.size w w1 := by rw [hw1]; exact new_below _ _
  have qb : w1.heap[w.heap.size]? = some (.cells #[.int .i64 0, .int .i64 0, .slice none 0 0] 24 (0, 0)) := by rw [hw1]; exact heap_alloc_new _ _
  have HC := Lib.hid hp
  have HZ := Lib.hid hzb
  have k0 := cell_later B1 c0
  have k1 := cell_later B1 c1
  have k2 := cell_later B1 c2
  have k3 := cell_later B1 c3
  have L := Lib.hid (Array.getElem?_eq_some_iff.1 qb).1
  clear hp c2 c3 hzb
  go_enter Try.func60, Try.ntmps60
  go_wp2_with fail
  rw [← hw1]
  clear hw1
  refine (made_any W H 61 _ (fun x y => decide (z (y * W + x) < lv)) w1 hW.1 (by omega) (by omega) (by omega) (Go.Proofs.enters_of Try.func61 (by kernel_rfl) rfl) ?_).mono ?_
  · intro x y wx hx hy hbx
    have hfit := row_fits hy (show x + 1 ≤ W by omega)
    refine (counts1i_any W H x y pb lb g o (W * H) c _ _ lv wx hW.2 hH.2 hx hy rfl rfl (HZ.out _) (cell_later hbx k0) (cell_later hbx k2) (cell_later hbx k3) (cell_later hbx (cell_later B1 (HC.out _ (by omega))))).mono ?_
    rintro e wy ⟨rfl, k, rfl⟩
    exact ⟨rfl, below_drewN (Below.refl _ _) k⟩
  · rintro e w5 ⟨v, rfl, hown, hb5⟩
    obtain ⟨j0, j1, j2, r0, r1, r2⟩ := block3 (below_block hb5 qb)
    obtain ⟨g', c', rfl, hgb, hz⟩ := owns_pageB hown (Nat.mul_pos hW.1 hH.1)
    have ZC := Lib.hid hz
    have G := Lib.hid hb5
    clear hown hb5 hz qb c0 c1 k0 k1 k2 k3
    go_wp2_with fail
    refine bodyPost_ret (v := .agg #[.int .i64 W, .int .i64 H, .slice (some ⟨g', 0, none⟩) (W * H) c']) (by simp [results, Try.results60, go_sem, j0, j1, j2]) rfl ⟨_, rfl, ⟨g', 0, c', rfl, fun j hj => ?_⟩, below_far3 (below_step B1 G.out) (Nat.le_refl _)⟩
    exact cell_far3 (show g' ≠ w.heap.size by have := L.out; omega) (ZC.out j hj)

theorem bitsIs_toBits (a b i j lv : Int) (n c pb lb B n' c' : Nat) (zs : List Int) (s sl : Option Addr) (w : World) (hI : PageIs (tbErr a b n lv) a b (fun x y => decide (zs.getD (y * a.toNat + x) 0 < lv)) B w i j sl n' c') (hs : IsBytes w s n c zs)
    (c0 : w.cell? ⟨pb, 0, none⟩ = some (.int .i64 a)) (c1 : w.cell? ⟨pb, 1, none⟩ = some (.int .i64 b)) (c2 : w.cell? ⟨pb, 2, none⟩ = some (.slice s n c)) (c3 : w.cell? ⟨lb, 0, none⟩ = some (.int .i64 lv)) :
    Calls Try.prog 24 #[.agg #[.int .i64 i, .int .i64 j, .slice sl n' c'], .int .i64 (tbErr a b n lv), .int .i64 (tbErr a b n lv), .func (.func 60) #[] #[.pointer (some ⟨pb, 0, none⟩), .pointer (some ⟨lb, 0, none⟩)]] w fun e w' => e = .returned (.bool true) ∧ Below w.heap.size w w' := by
  refine bitsIs_page _ _ _ i j _ sl n' c' B 60 _ w hI (Go.Proofs.enters_of Try.func60 (by kernel_rfl) rfl) ?_
  intro hE
  have hp : pageErr a b n = 0 := by
    unfold tbErr at hE
    by_cases h : pageErr a b n = 0
    · exact h
    · rw [if_neg h] at hE; exact absurd hE h
  obtain ⟨W, H, rfl, rfl, hn, w1, w2, h1, h2, hN, he⟩ := page_nat hp
  obtain ⟨g, o, rfl, hc, hzb⟩ := isBytes_cells hs (by rw [hn]; exact Nat.mul_pos w1 h1)
  subst hn
  refine ⟨W, H, rfl, rfl, by omega, fun wx hbx => ?_⟩
  simp only [Int.toNat_natCast]
  exact counts1_any W H pb lb g o c lv _ wx ⟨w1, w2⟩ ⟨h1, h2⟩ hN hzb (cell_later hbx c0) (cell_later hbx c1) (cell_later hbx c2) (cell_later hbx c3) (fun m hm => cell_later hbx (hc m hm))

theorem want_toBits (a b lv : Int) (n : Nat) : orI (pageErr a b n) (whenI (!decide (0 ≤ lv ∧ lv ≤ 256)) 3) = tbErr a b n lv := by
  unfold orI whenI tbErr
  by_cases h1 : pageErr a b n = 0
  · by_cases h2 : 0 ≤ lv ∧ lv ≤ 256 <;> simp [h1, h2]
  · simp [h1]

/-- Black where ink is. -/
def blackIf (b : Bool) : Int := if b then 0 else 255

set_option maxRecDepth 100000 in
theorem toGray1_any (W H x y pb g o n c t : Nat) (q : Bool) (w : World) (hW : W ≤ 4000) (hH : H ≤ 4000) (hx : x < W) (hy : y < H) (hn : n = W * H) (ht : t = y * W + x)
    (c0 : w.cell? ⟨pb, 0, none⟩ = some (.int .i64 W)) (c2 : w.cell? ⟨pb, 2, none⟩ = some (.slice (some ⟨g, o, none⟩) n c)) (hc : w.cell? ⟨g, o + t, none⟩ = some (.bool q)) :
    Calls Try.prog 125 #[.int .i64 x, .int .i64 y, .pointer (some ⟨pb, 0, none⟩)] w fun e w' => e = .returned (.int .u8 (blackIf q)) ∧ w = w' := by
  obtain ⟨r1, r2⟩ := row_prod hW hH hy
  obtain ⟨P, hP⟩ : ∃ P, P = y * W := ⟨_, rfl⟩
  have e0 : (y : Int) * (W : Int) = (P : Int) := by rw [hP, Int.natCast_mul]
  rw [← hP] at r1 r2 ht
  have htn : (t : Int) < (n : Int) := by rw [hn, Nat.mul_comm W H]; omega
  have e1 : (P : Int) + (x : Int) = (t : Int) := by omega
  clear hP ht hn r2
  cases q
  all_goals
    go_enter Try.func125, Try.ntmps125
    go_wp2
    go_ret
    exact ⟨rfl, rfl⟩

theorem counts2_any (W H x y pb g o c : Nat) (z : Nat → Bool) (w : World) (hW : W ≤ 4000) (hH : H ≤ 4000) (hx : x < W) (hy : y < H)
    (c0 : w.cell? ⟨pb, 0, none⟩ = some (.int .i64 W)) (c1 : w.cell? ⟨pb, 1, none⟩ = some (.int .i64 H)) (c2 : w.cell? ⟨pb, 2, none⟩ = some (.slice (some ⟨g, o, none⟩) (W * H) c))
    (hp : ∀ j, j < W * H → w.cell? ⟨g, o + j, none⟩ = some (.bool (z j))) :
    Calls Try.prog 68 #[.int .i64 x, .int .i64 y, .pointer (some ⟨pb, 0, none⟩)] w fun e w' => e = .returned (.int .u8 (blackIf (z (y * W + x)))) ∧ Below w.heap.size w w' := by
  have hfit := row_fits hy (show x + 1 ≤ W by omega)
  have HA := Lib.hid (at_in W H g o c x y (z (y * W + x)) w (by omega) (by omega) hx hy (hp _ (by omega)))
  obtain ⟨q, hq⟩ : ∃ q, q = z (y * W + x) := ⟨_, rfl⟩
  rw [← hq] at HA ⊢
  clear hp hq hfit
  cases q
  all_goals
    go_enter Try.func68, Try.ntmps68
    go_wp2_with (go_at_call 44; refine HA.out.mono ?_; rintro e w1 ⟨rfl, hb1⟩)
    go_ret
    exact ⟨rfl, hb1⟩

theorem toGray_badPage (a b : Int) (p : Option Addr) (n c : Nat) (w : World) (h : pageErr a b n ≠ 0) :
    Calls Try.prog 64 #[.agg #[.int .i64 a, .int .i64 b, .slice p n c]] w fun e w' => e = .returned (.tuple #[.agg #[.int .i64 0, .int .i64 0, .slice none 0 0], .int .i64 (pageErr a b n)]) ∧ Below w.heap.size w w' := by
  have h' : (pageErr a b n != 0) = true := by simpa using h
  clear h
  go_enter Try.func64, Try.ntmps64
  go_wp2_with ((go_at_call 16; refine (checkBits_any _ _ _ _ _ _).mono ?_; rintro e w' ⟨rfl, rfl⟩))
  refine bodyPost_ret (v := .tuple #[.agg #[.int .i64 0, .int .i64 0, .slice none 0 0], .int .i64 (pageErr a b n)]) (by simp [results, Try.results64, go_sem]) rfl ⟨rfl, below_alloc (below_alloc (new_below _ _) _) _⟩

set_option maxHeartbeats 400000 in
set_option maxRecDepth 100000 in
theorem toGray_ok (W H g o c : Nat) (z : Nat → Bool) (w : World) (he : sizeErr W H = 0)
    (hp : ∀ j, j < W * H → w.cell? ⟨g, o + j, none⟩ = some (.bool (z j))) :
    Calls Try.prog 64 #[.agg #[.int .i64 W, .int .i64 H, .slice (some ⟨g, o, none⟩) (W * H) c]] w fun e w' =>
      ∃ v, e = .returned (.tuple #[.agg #[.int .i64 W, .int .i64 H, v], .int .i64 0]) ∧ w'.ownsRow w.heap.size 5 1 v (W * H) ((places W (fun x y => blackIf (z (y * W + x))) (W * H)).map (Value.int .u8)) ∧ Below w.heap.size w w' := by
  have hmf : ∀ (fn : Fn) (first cap : Array Value) (w : World), (Instr.makeFunc fn first cap).run Try.prog w = .ok (.func fn first cap) w := fun _ _ _ _ => rfl
  obtain ⟨⟨a1, a2, a3, a4⟩, z0, z1⟩ := sizeErr_zero he
  have hN : W * H ≤ 1048576 := by rw [← Int.natCast_mul] at z1; omega
  have hpe : pageErr W H (W * H) = 0 := by unfold pageErr; rw [if_pos he, if_pos (by simp [Int.natCast_mul])]
  have HC := Lib.hid hp
  clear hp he z0 z1
  go_enter Try.func64, Try.ntmps64
  go_wp2_with ((go_at_call 16; refine (checkBits_any _ _ _ _ _ _).mono ?_; rintro e w' ⟨rfl, rfl⟩))
  obtain ⟨w1, hw1⟩ : ∃ w1, w1 = (((w.alloc (.cells #[.int .i64 W, .int .i64 H, .slice (some ⟨g, o, none⟩) (W * H) c] 24)).alloc (.cells #[.int .i64 0, .int .i64 0, .slice none 0 0] 27)).alloc (.cells #[.int .i64 W, .int .i64 H, .slice (some ⟨g, o, none⟩) (W * H) c] 24)) := ⟨_, rfl⟩
  have B1 : Below w.heap.size w w1 := by rw [hw1]; exact below_alloc (below_alloc (new_below _ _) _) _
  have q0 : w1.cell? ⟨w.heap.size, 0, none⟩ = some (.int .i64 W) := by rw [hw1]; go_simp
  have q1 : w1.cell? ⟨w.heap.size, 1, none⟩ = some (.int .i64 H) := by rw [hw1]; go_simp
  have q2 : w1.cell? ⟨w.heap.size, 2, none⟩ = some (.slice (some ⟨g, o, none⟩) (W * H) c) := by rw [hw1]; go_simp
  have qb : w1.heap[w.heap.size + 1]? = some (.cells #[.int .i64 0, .int .i64 0, .slice none 0 0] 27 (0, 0)) := by
    rw [hw1, Below.heap_alloc _ _ _ (by simp)]
    simpa using heap_alloc_new (w.alloc (.cells #[.int .i64 W, .int .i64 H, .slice (some ⟨g, o, none⟩) (W * H) c] 24)) (.cells #[.int .i64 0, .int .i64 0, .slice none 0 0] 27)
  rw [← hw1]
  clear hw1
  have lt1 := (Array.getElem?_eq_some_iff.1 qb).1
  refine (fillByte_any W H 125 _ (fun x y => blackIf (z (y * W + x))) w1 (by omega) (by omega) (by omega) (by omega) (Go.Proofs.enters_of Try.func125 (by kernel_rfl) rfl) ?_).mono ?_
  · intro x y wx hx hy hbx
    have hfit := row_fits hy (show x + 1 ≤ W by omega)
    refine (toGray1_any W H x y w.heap.size g o (W * H) c _ _ wx (by omega) (by omega) hx hy rfl rfl (cell_later hbx q0) (cell_later hbx q2) (cell_later hbx (cell_later B1 (HC.out _ (by omega))))).mono ?_
    rintro e wy ⟨rfl, rfl⟩
    exact ⟨rfl, Below.refl _ _⟩
  · rintro e w5 ⟨v, rfl, hown, hb5⟩
    obtain ⟨j0, j1, j2, r0, r1, r2⟩ := block3 (below_block hb5 qb)
    obtain ⟨va, vn, vc, rfl⟩ := owns_shape hown
    have k0 := cell_later hb5 q0
    have k1 := cell_later hb5 q1
    have F := Lib.hid hown
    have G := Lib.hid hb5
    have L := Lib.hid lt1
    clear hown hb5 lt1 q0 q1 q2
    go_wp2_with fail
    refine bodyPost_ret (v := .tuple #[.agg #[.int .i64 W, .int .i64 H, .slice va vn vc], .int .i64 0]) (by simp [results, Try.results64, go_sem, j0, j1, j2]) rfl ⟨_, rfl, owns_far3 F.out L.out B1.size, below_far3 (below_step B1 G.out) (by omega)⟩

theorem toGray_any (a b : Int) (s : Option Addr) (n c : Nat) (z : Nat → Bool) (w : World) (hs : IsBools w s n c z) :
    Calls Try.prog 64 #[.agg #[.int .i64 a, .int .i64 b, .slice s n c]] w fun e w' =>
      ∃ i j sl n' c', e = .returned (.tuple #[.agg #[.int .i64 i, .int .i64 j, .slice sl n' c'], .int .i64 (pageErr a b n)]) ∧ PageIsY (pageErr a b n) a b (fun x y => blackIf (z (y * a.toNat + x))) w.heap.size w' i j sl n' c' ∧ Below w.heap.size w w' := by
  by_cases h : pageErr a b n = 0
  · obtain ⟨W, H, rfl, rfl, hn, w1, w2, h1, h2, hN, he⟩ := page_nat h
    obtain ⟨g, o, rfl, hc⟩ := isBools_cells hs (by rw [hn]; exact Nat.mul_pos w1 h1)
    subst hn
    refine (toGray_ok W H g o c z w he hc).mono ?_
    rintro e w' ⟨v, rfl, hown, hbel⟩
    obtain ⟨g', c', rfl, hg', hz⟩ := owns_pageY hown (Nat.mul_pos w1 h1)
    exact ⟨_, _, _, _, _, by rw [h], .inr ⟨h, rfl, rfl, by simp, g', hg', rfl, by simpa using hz⟩, hbel⟩
  · refine (toGray_badPage a b s n c w h).mono ?_
    rintro e w' ⟨rfl, hbel⟩
    exact ⟨0, 0, none, 0, 0, rfl, .inl ⟨h, rfl, rfl, rfl, rfl, rfl⟩, hbel⟩

theorem made_black (W H pb g o c : Nat) (z : Nat → Bool) (w : World) (hW : 1 ≤ W ∧ W ≤ 4000) (hH : 1 ≤ H ∧ H ≤ 4000) (hN : W * H ≤ 1048576)
    (c0 : w.cell? ⟨pb, 0, none⟩ = some (.int .i64 W)) (c1 : w.cell? ⟨pb, 1, none⟩ = some (.int .i64 H)) (c2 : w.cell? ⟨pb, 2, none⟩ = some (.slice (some ⟨g, o, none⟩) (W * H) c))
    (hp : ∀ j, j < W * H → w.cell? ⟨g, o + j, none⟩ = some (.bool (z j))) :
    Calls Try.prog 33 #[.int .i64 W, .int .i64 H, .func (.func 68) #[] #[.pointer (some ⟨pb, 0, none⟩)]] w fun e w' =>
      ∃ g' c', e = .returned (.agg #[.int .i64 W, .int .i64 H, .slice (some ⟨g', 0, none⟩) (W * H) c']) ∧ (∀ j, j < W * H → w'.cell? ⟨g', 0 + j, none⟩ = some (.int .u8 (blackIf (z (j / W * W + j % W))))) ∧ Below w.heap.size w w' := by
  refine (madeGray_any W H 68 _ (fun x y => blackIf (z (y * W + x))) w hW.1 (by omega) (by omega) (by omega) (Go.Proofs.enters_of Try.func68 (by kernel_rfl) rfl) ?_).mono ?_
  · intro x y wx hx hy hbx
    exact counts2_any W H x y pb g o c z wx hW.2 hH.2 hx hy (cell_later hbx c0) (cell_later hbx c1) (cell_later hbx c2) (fun j hj => cell_later hbx (hp j hj))
  · rintro e w5 ⟨v, rfl, hown, hb5⟩
    obtain ⟨g', c', rfl, hg', hz⟩ := owns_pageY hown (Nat.mul_pos hW.1 hH.1)
    exact ⟨g', c', rfl, hz, hb5⟩

end Go.Proofs.Ytejhmobpepllcaa
