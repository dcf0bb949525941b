/-
  Grow as a whole, and what TurnsMatch compares it with.
-/
import Derived.Test.YtejhmobpepllcaaTurnI
namespace Go.Proofs.Ytejhmobpepllcaa
open Go.RowKit
set_option linter.unusedSimpArgs false
set_option linter.unusedVariables false

/-- The error of growing. -/
def growErr (a b : Int) (n : Nat) (t : Int) : Int := if pageErr a b n = 0 then (if 1 ≤ t ∧ t ≤ 16 then sizeErr (a * t) (b * t) else 3) else pageErr a b n

theorem grow_badPage (a b : Int) (p : Option Addr) (n c : Nat) (t : Int) (w : World) (h : pageErr a b n ≠ 0) :
    Calls Try.prog 49 #[.agg #[.int .i64 a, .int .i64 b, .slice p n c], .int .i64 t] w fun e w' => e = .returned (.tuple #[.agg #[.int .i64 0, .int .i64 0, .slice none 0 0], .int .i64 (pageErr a b n)]) ∧ Below w.heap.size w w' := by
  have h' : (pageErr a b n != 0) = true := by simpa using h
  clear h
  go_enter Try.func49, Try.ntmps49
  go_wp2_with ((go_at_call 16; refine (checkBits_any _ _ _ _ _ _).mono ?_; rintro e w' ⟨rfl, rfl⟩))
  refine bodyPost_ret (v := .tuple #[.agg #[.int .i64 0, .int .i64 0, .slice none 0 0], .int .i64 (pageErr a b n)]) (by simp [results, Try.results49, go_sem]) rfl ⟨rfl, below_alloc (below_alloc (below_alloc (new_below _ _) _) _) _⟩

theorem grow_badTimes (a b : Int) (p : Option Addr) (n c : Nat) (t : Int) (w : World) (hp : pageErr a b n = 0) (h : ¬ (1 ≤ t ∧ t ≤ 16)) :
    Calls Try.prog 49 #[.agg #[.int .i64 a, .int .i64 b, .slice p n c], .int .i64 t] w fun e w' => e = .returned (.tuple #[.agg #[.int .i64 0, .int .i64 0, .slice none 0 0], .int .i64 3]) ∧ Below w.heap.size w w' := by
  by_cases h1 : 1 ≤ t
  · have h2 : 16 < t := by omega
    clear h
    go_enter Try.func49, Try.ntmps49
    go_wp2_with ((go_at_call 16; refine (checkBits_any _ _ _ _ _ _).mono ?_; rintro e w' ⟨rfl, rfl⟩))
    refine bodyPost_ret (v := .tuple #[.agg #[.int .i64 0, .int .i64 0, .slice none 0 0], .int .i64 3]) (by simp [results, Try.results49, go_sem]) rfl ⟨rfl, below_alloc (below_alloc (below_alloc (new_below _ _) _) _) _⟩
  · clear h
    go_enter Try.func49, Try.ntmps49
    go_wp2_with ((go_at_call 16; refine (checkBits_any _ _ _ _ _ _).mono ?_; rintro e w' ⟨rfl, rfl⟩))
    refine bodyPost_ret (v := .tuple #[.agg #[.int .i64 0, .int .i64 0, .slice none 0 0], .int .i64 3]) (by simp [results, Try.results49, go_sem]) rfl ⟨rfl, below_alloc (below_alloc (below_alloc (new_below _ _) _) _) _⟩

theorem grow_badSize (W H t W2 H2 : Nat) (p : Option Addr) (n c : Nat) (w : World) (hp : pageErr W H n = 0) (h1 : 1 ≤ t) (h2 : t ≤ 16) (hw : 1 ≤ W ∧ W ≤ 4000) (hh : 1 ≤ H ∧ H ≤ 4000) (hW2 : (W : Int) * (t : Int) = W2) (hH2 : (H : Int) * (t : Int) = H2) (hs : W2 ≤ 64000 ∧ H2 ≤ 64000) (h : sizeErr W2 H2 ≠ 0) :
    Calls Try.prog 49 #[.agg #[.int .i64 W, .int .i64 H, .slice p n c], .int .i64 t] w fun e w' => e = .returned (.tuple #[.agg #[.int .i64 0, .int .i64 0, .slice none 0 0], .int .i64 (sizeErr W2 H2)]) ∧ Below w.heap.size w w' := by
  have h' : (sizeErr W2 H2 != 0) = true := by simpa using h
  obtain ⟨s1, s2⟩ := hs
  clear h
  go_enter Try.func49, Try.ntmps49
  go_wp2_with ((go_at_call 16; refine (checkBits_any _ _ _ _ _ _).mono ?_; rintro e w' ⟨rfl, rfl⟩))
  go_quiet (fail)
  go_wp2_with ((go_at_call 100; refine (checkSize_any _ _ _).mono ?_; rintro e w' ⟨rfl, rfl⟩))
  refine bodyPost_ret (v := .tuple #[.agg #[.int .i64 0, .int .i64 0, .slice none 0 0], .int .i64 (sizeErr W2 H2)]) (by simp [results, Try.results49, go_sem]) rfl ⟨rfl, ?_⟩
  exact below_far3 (below_drewN (below_alloc (below_alloc (below_alloc (new_below _ _) _) _) _) _) (by omega)

/-- The place that a pixel of a grown page comes from. -/
theorem grown_place {W H t x y : Nat} (ht : 1 ≤ t) (hx : x < W * t) (hy : y < H * t) : x / t < W ∧ y / t < H :=
  ⟨Nat.div_lt_of_lt_mul (by rw [Nat.mul_comm]; exact hx), Nat.div_lt_of_lt_mul (by rw [Nat.mul_comm]; exact hy)⟩

set_option maxRecDepth 100000 in
theorem grow1_any (W H x y a b d t pb tb g o n c : Nat) (q : Bool) (w : World) (hW : W ≤ 4000) (hH : H ≤ 4000) (ht : 1 ≤ t) (ha : x / t = a) (hb : y / t = b) (hx : a < W) (hy : b < H) (hn : n = W * H) (hd : d = b * W + a) (hx' : x ≤ 64000) (hy' : y ≤ 64000)
    (c0 : w.cell? ⟨pb, 0, none⟩ = some (.int .i64 W)) (c2 : w.cell? ⟨pb, 2, none⟩ = some (.slice (some ⟨g, o, none⟩) n c)) (c3 : w.cell? ⟨tb, 0, none⟩ = some (.int .i64 t)) (hc : w.cell? ⟨g, o + d, none⟩ = some (.bool q)) :
    Calls Try.prog 116 #[.int .i64 x, .int .i64 y, .pointer (some ⟨pb, 0, none⟩), .pointer (some ⟨tb, 0, none⟩)] w fun e w' => e = .returned (.bool q) ∧ Below w.heap.size w w' := by
  obtain ⟨r1, r2⟩ := row_prod hW hH hy
  obtain ⟨P, hP⟩ : ∃ P, P = b * W := ⟨_, rfl⟩
  have e1 : (b : Int) * (W : Int) = (P : Int) := by rw [hP, Int.natCast_mul]
  rw [← hP] at r1 r2 hd
  have hdn : (d : Int) < (n : Int) := by rw [hn, Nat.mul_comm W H]; omega
  have e2 : (P : Int) + (a : Int) = (d : Int) := by omega
  have d1 : (x : Int) / (t : Int) = (a : Int) := by rw [← ha]; simp
  have d2 : (y : Int) / (t : Int) = (b : Int) := by rw [← hb]; simp
  clear hP hd hn r2 ha hb
  go_enter Try.func116, Try.ntmps116
  go_wp2
  go_quiet (fail)
  go_wp2
  go_ret
  exact ⟨rfl, below_drewN (Below.refl _ _) _⟩

set_option maxHeartbeats 800000 in
set_option maxRecDepth 100000 in
theorem grow_ok (W H t W2 H2 g o c : Nat) (z : Nat → Bool) (w : World) (he : sizeErr W H = 0) (h1 : 1 ≤ t) (h2 : t ≤ 16) (hW2 : W2 = W * t) (hH2 : H2 = H * t) (h : sizeErr W2 H2 = 0)
    (hp : ∀ j, j < W * H → w.cell? ⟨g, o + j, none⟩ = some (.bool (z j))) :
    Calls Try.prog 49 #[.agg #[.int .i64 W, .int .i64 H, .slice (some ⟨g, o, none⟩) (W * H) c], .int .i64 t] w fun e w' =>
      ∃ v, e = .returned (.tuple #[.agg #[.int .i64 W2, .int .i64 H2, v], .int .i64 0]) ∧ w'.ownsRow w.heap.size 4 1 v (W2 * H2) ((places W2 (fun x y => z (y / t * W + x / t)) (W2 * H2)).map Value.bool) ∧ Below w.heap.size w w' := by
  have hmf : ∀ (fn : Fn) (first cap : Array Value) (w : World), (Instr.makeFunc fn first cap).run Try.prog w = .ok (.func fn first cap) w := fun _ _ _ _ => rfl
  obtain ⟨⟨a1, a2, a3, a4⟩, z0, z1⟩ := sizeErr_zero he
  obtain ⟨⟨b1, b2, b3, b4⟩, y0, y1⟩ := sizeErr_zero h
  have hN2 : W2 * H2 ≤ 1048576 := by rw [← Int.natCast_mul] at y1; omega
  have hpe : pageErr W H (W * H) = 0 := by unfold pageErr; rw [if_pos he, if_pos (by simp [Int.natCast_mul])]
  have f1 : (W : Int) * (t : Int) = (W2 : Int) := by rw [hW2, Int.natCast_mul]
  have f2 : (H : Int) * (t : Int) = (H2 : Int) := by rw [hH2, Int.natCast_mul]
  have HC := Lib.hid hp
  have HW2 := Lib.hid hW2
  have HH2 := Lib.hid hH2
  clear hp he z0 z1 y0 y1 hW2 hH2
  go_enter Try.func49, Try.ntmps49
  go_wp2_with ((go_at_call 16; refine (checkBits_any _ _ _ _ _ _).mono ?_; rintro e w' ⟨rfl, rfl⟩))
  go_quiet (fail)
  go_wp2_with ((go_at_call 100; refine (checkSize_any _ _ _).mono ?_; rintro e w' ⟨rfl, rfl⟩))
  obtain ⟨w1, hw1⟩ : ∃ w1, w1 = (((((w.alloc (.cells #[.int .i64 W, .int .i64 H, .slice (some ⟨g, o, none⟩) (W * H) c] 24)).alloc (.cells #[.int .i64 t] 3)).alloc (.cells #[.int .i64 0, .int .i64 0, .slice none 0 0] 24)).alloc (.cells #[.int .i64 W, .int .i64 H, .slice (some ⟨g, o, none⟩) (W * H) c] 24)).drewN nq) := ⟨_, rfl⟩
  have B1 : Below w.heap.size w w1 := by rw [hw1]; exact below_drewN (below_alloc (below_alloc (below_alloc (new_below _ _) _) _) _) _
  have q0 : w1.cell? ⟨w.heap.size, 0, none⟩ = some (.int .i64 W) := by rw [hw1]; go_simp
  have q2 : w1.cell? ⟨w.heap.size, 2, none⟩ = some (.slice (some ⟨g, o, none⟩) (W * H) c) := by rw [hw1]; go_simp
  have q3 : w1.cell? ⟨w.heap.size + 1, 0, none⟩ = some (.int .i64 t) := by rw [hw1]; go_simp
  have qb : w1.heap[w.heap.size + 1 + 1]? = some (.cells #[.int .i64 0, .int .i64 0, .slice none 0 0] 24 (0, 0)) := by
    rw [hw1]
    show ((((w.alloc _).alloc _).alloc _).alloc _).heap[w.heap.size + 1 + 1]? = _
    rw [Below.heap_alloc _ _ _ (by simp)]
    simpa using heap_alloc_new ((w.alloc (.cells #[.int .i64 W, .int .i64 H, .slice (some ⟨g, o, none⟩) (W * H) c] 24)).alloc (.cells #[.int .i64 t] 3)) (.cells #[.int .i64 0, .int .i64 0, .slice none 0 0] 24)
  rw [← hw1]
  clear hw1
  have lt1 := (Array.getElem?_eq_some_iff.1 qb).1
  refine (fillBool_any W2 H2 116 _ (fun x y => z (y / t * W + x / t)) w1 (by omega) (by omega) (by omega) (by omega) (Go.Proofs.enters_of Try.func116 (by kernel_rfl) rfl) ?_).mono ?_
  · intro x y wx hx hy hbx
    obtain ⟨p1, p2⟩ := grown_place h1 (show x < W * t by rw [← HW2.out]; exact hx) (show y < H * t by rw [← HH2.out]; exact hy)
    have hfit := row_fits p2 (show x / t + 1 ≤ W by omega)
    exact grow1_any W H x y _ _ _ t w.heap.size (w.heap.size + 1) g o (W * H) c _ wx (by omega) (by omega) h1 rfl rfl p1 p2 rfl rfl (by omega) (by omega) (cell_later hbx q0) (cell_later hbx q2) (cell_later hbx q3) (cell_later hbx (cell_later B1 (HC.out _ (by omega))))
  · rintro e w5 ⟨v, rfl, hown, hb5⟩
    obtain ⟨j0, j1, j2, r0, r1, r2⟩ := block3 (below_block hb5 qb)
    obtain ⟨va, vn, vc, rfl⟩ := owns_shape hown
    have F := Lib.hid hown
    have G := Lib.hid hb5
    have L := Lib.hid lt1
    clear hown hb5 lt1 q0 q2 q3
    go_wp2_with fail
    refine bodyPost_ret (v := .tuple #[.agg #[.int .i64 W2, .int .i64 H2, .slice va vn vc], .int .i64 0]) (by simp [results, Try.results49, go_sem, j0, j1, j2]) rfl ⟨_, rfl, owns_far3 F.out L.out B1.size, below_far3 (below_step B1 G.out) (by omega)⟩

theorem grow_any (a b : Int) (s : Option Addr) (n c : Nat) (t : Int) (z : Nat → Bool) (w : World) (hs : IsBools w s n c z) :
    Calls Try.prog 49 #[.agg #[.int .i64 a, .int .i64 b, .slice s n c], .int .i64 t] w fun e w' =>
      ∃ i j sl n' c', e = .returned (.tuple #[.agg #[.int .i64 i, .int .i64 j, .slice sl n' c'], .int .i64 (growErr a b n t)]) ∧ PageIs (growErr a b n t) (a * t) (b * t) (fun x y => z (y / t.toNat * a.toNat + x / t.toNat)) w.heap.size w' i j sl n' c' ∧ Below w.heap.size w w' := by
  by_cases h : pageErr a b n = 0
  · obtain ⟨W, H, rfl, rfl, hn, w1, w2, h1, h2, hN, he⟩ := page_nat h
    by_cases ht : 1 ≤ t ∧ t ≤ 16
    · obtain ⟨k, rfl⟩ := Int.eq_ofNat_of_zero_le (show 0 ≤ t by omega)
      have m1 := Nat.mul_le_mul w2 (show k ≤ 16 by omega)
      have m2 := Nat.mul_le_mul h2 (show k ≤ 16 by omega)
      have hE : growErr W H n k = sizeErr ((W * k : Nat) : Int) ((H * k : Nat) : Int) := by unfold growErr; rw [if_pos h, if_pos ht]; simp [Int.natCast_mul]
      by_cases hz : sizeErr ((W * k : Nat) : Int) ((H * k : Nat) : Int) = 0
      · obtain ⟨⟨b1, b2, b3, b4⟩, _⟩ := sizeErr_zero hz
        obtain ⟨g, o, rfl, hc⟩ := isBools_cells hs (by rw [hn]; exact Nat.mul_pos w1 h1)
        subst hn
        refine (grow_ok W H k _ _ g o c z w he (by omega) (by omega) rfl rfl hz hc).mono ?_
        rintro e w' ⟨v, rfl, hown, hbel⟩
        obtain ⟨g', c', rfl, hg', hz'⟩ := owns_pageB hown (Nat.mul_pos (by omega) (by omega))
        have r1 : ((W : Int) * (k : Int)).toNat = W * k := by rw [← Int.natCast_mul]; exact Int.toNat_natCast _
        have r2 : ((H : Int) * (k : Int)).toNat = H * k := by rw [← Int.natCast_mul]; exact Int.toNat_natCast _
        refine ⟨_, _, _, _, _, by rw [hE, hz], .inr ⟨by rw [hE, hz], by simp [Int.natCast_mul], by simp [Int.natCast_mul], by rw [r1, r2], g', hg', rfl, ?_⟩, hbel⟩
        intro j hj
        rw [hz' j hj, r1]
        simp
      · refine (grow_badSize W H k (W * k) (H * k) s n c w h (by omega) (by omega) ⟨w1, w2⟩ ⟨h1, h2⟩ (by rw [Int.natCast_mul]) (by rw [Int.natCast_mul]) ⟨by omega, by omega⟩ hz).mono ?_
        rintro e w' ⟨rfl, hbel⟩
        exact ⟨0, 0, none, 0, 0, by rw [hE], .inl ⟨by rw [hE]; exact hz, rfl, rfl, rfl, rfl, rfl⟩, hbel⟩
    · have hE : growErr W H n t = 3 := by unfold growErr; rw [if_pos h, if_neg ht]
      refine (grow_badTimes W H s n c t w h ht).mono ?_
      rintro e w' ⟨rfl, hbel⟩
      exact ⟨0, 0, none, 0, 0, by rw [hE], .inl ⟨by rw [hE]; decide, rfl, rfl, rfl, rfl, rfl⟩, hbel⟩
  · have hE : growErr a b n t = pageErr a b n := by unfold growErr; rw [if_neg h]
    refine (grow_badPage a b s n c t w h).mono ?_
    rintro e w' ⟨rfl, hbel⟩
    exact ⟨0, 0, none, 0, 0, by rw [hE], .inl ⟨by rw [hE]; exact h, rfl, rfl, rfl, rfl, rfl⟩, hbel⟩

end Go.Proofs.Ytejhmobpepllcaa
