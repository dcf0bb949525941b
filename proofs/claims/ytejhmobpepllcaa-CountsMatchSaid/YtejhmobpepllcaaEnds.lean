/-
  Ends and BoundsOf: the first and the last place of a list that is not 0; the least box that has all ink.
  BoundsOf: the least box that has all ink.
-/
import Derived.Test.YtejhmobpepllcaaRowsOf
namespace Go.Proofs.Ytejhmobpepllcaa
open Go.RowKit
set_option linter.unusedSimpArgs false
set_option linter.unusedVariables false

theorem ends1_any (n : Nat) (w : World) : Calls Try.prog 171 #[.int .i64 n] w fun e w' => e = .returned (.bool (decide (0 < n))) ∧ w = w' := by
  go_enter Try.func171, Try.ntmps171
  go_wp2
  go_ret
  exact ⟨ret_bool (by simp), rfl⟩

/-- The first place that is not 0, or -1. -/
def FirstIs (f : Nat → Nat) (n : Nat) (i : Int) : Prop := (i = -1 ∧ ∀ k, k < n → f k = 0) ∨ ∃ a : Nat, i = a ∧ a < n ∧ 0 < f a ∧ ∀ k, k < a → f k = 0

def EndInt (P : Int → Prop) (w : World) (e : Ending) (w' : World) : Prop := ∃ i : Int, P i ∧ e = .returned (.int .i64 i) ∧ w = w'

set_option maxHeartbeats 400000 in
theorem indexPos_any (g n c : Nat) (f : Nat → Nat) (w : World) (hn : n ≤ 100000) (hc : ∀ k, k < n → w.cell? ⟨g, 0 + k, none⟩ = some (.int .i64 ((f k : Nat) : Int))) :
    Calls Try.prog 170 #[.slice (some ⟨g, 0, none⟩) n c, .func (.func 171) #[] #[]] w (EndInt (FirstIs f n) w) := by
  have HC := Lib.hid hc
  clear hc
  go_enter Try.func170, Try.ntmps170
  go_wp2_with fail
  go_loop [8] (fun i => ∃ k : Nat, k ≤ n ∧ i = .int .i64 k ∧ Hid (∀ j, j < k → f j = 0)) (fun i => n - (intOf i).toNat)
  case atStart => exact ⟨0, Nat.zero_le _, rfl, Lib.hid (fun j hj => by omega)⟩
  case round =>
    obtain ⟨k, hk, rfl, H0⟩ := hrel
    by_cases hlt : k < n
    · have hx := HC.out k hlt
      rw [Nat.zero_add] at hx
      obtain ⟨v, hv⟩ : ∃ v, v = f k := ⟨_, rfl⟩
      rw [← hv] at hx
      have HV := Lib.hid hv
      have i1 : (k : Int) < (n : Int) := by omega
      clear hv
      by_cases hp : 0 < v
      · have hd : decide (0 < v) = true := by simpa using hp
        go_wp2_with (go_at_call 171; refine (ends1_any v _).mono ?_; rintro e w' ⟨rfl, rfl⟩)
        go_ret
        exact ⟨k, .inr ⟨k, rfl, hlt, by rw [← HV.out]; exact hp, H0.out⟩, rfl, rfl⟩
      · have hd : decide (0 < v) = false := by simpa using hp
        go_wp2_with (go_at_call 171; refine (ends1_any v _).mono ?_; rintro e w' ⟨rfl, rfl⟩)
        go_round
        case rel => exact ⟨k + 1, by omega, by go_num, Lib.hid fun j hj => by
          by_cases e : j = k
          · rw [e, ← HV.out]; omega
          · exact H0.out j (by omega)⟩
        case measure => simp [intOf]; omega
    · obtain rfl : k = n := by omega
      go_wp2_with fail
      go_ret
      exact ⟨-1, .inl ⟨rfl, H0.out⟩, rfl, rfl⟩

/-- The ends of a list. -/
def EndsIs (f : Nat → Nat) (n : Nat) (i j : Int) (q : Bool) : Prop :=
  (q = false ∧ i = 0 ∧ j = 0 ∧ ∀ k, k < n → f k = 0) ∨ (q = true ∧ ∃ a b : Nat, i = a ∧ j = b ∧ a < n ∧ b < n ∧ 0 < f a ∧ 0 < f b ∧ (∀ k, k < a → f k = 0) ∧ ∀ k, b < k → k < n → f k = 0)

def EndTwo (P : Int → Int → Bool → Prop) (w : World) (e : Ending) (w' : World) : Prop := ∃ (i j : Int) (q : Bool), P i j q ∧ e = .returned (.tuple #[.int .i64 i, .int .i64 j, .bool q]) ∧ w = w'

set_option maxHeartbeats 400000 in
theorem ends_any (g n c : Nat) (f : Nat → Nat) (w : World) (hn : n ≤ 100000) (hn1 : 1 ≤ n) (hc : ∀ k, k < n → w.cell? ⟨g, 0 + k, none⟩ = some (.int .i64 ((f k : Nat) : Int))) :
    Calls Try.prog 130 #[.slice (some ⟨g, 0, none⟩) n c] w (EndTwo (EndsIs f n) w) := by
  have HI := Lib.hid (indexPos_any g n c f w hn hc)
  have HC := Lib.hid hc
  clear hc
  go_enter Try.func130, Try.ntmps130
  go_wp2_with fail
  refine HI.out.mono ?_
  rintro e w' ⟨i, hi, rfl, rfl⟩
  rcases hi with ⟨rfl, h0⟩ | ⟨a, rfl, ha, hfa, hlo⟩
  · have H0 := Lib.hid h0
    clear h0
    go_wp2_with fail
    refine bodyPost_ret (v := .tuple #[.int .i64 0, .int .i64 0, .bool false]) (by simp [results, Try.results130, go_sem]) rfl ⟨0, 0, false, .inl ⟨rfl, rfl, rfl, H0.out⟩, rfl, rfl⟩
  · have HA := Lib.hid hfa
    have HL := Lib.hid hlo
    clear hfa hlo
    go_wp2_with fail
    go_loop [6] (fun i => ∃ k : Nat, a ≤ k ∧ k < n ∧ i = .int .i64 k ∧ Hid (∀ j, k < j → j < n → f j = 0)) (fun i => (intOf i).toNat)
    case atStart => exact ⟨n - 1, by omega, by omega, by rw [show ((n - 1 : Nat) : Int) = (n : Int) - 1 by omega], Lib.hid (fun j hj hj' => by omega)⟩
    case round =>
      obtain ⟨k, hk1, hk2, rfl, H0⟩ := hrel
      have hx := HC.out k hk2
      rw [Nat.zero_add] at hx
      obtain ⟨v, hv⟩ : ∃ v, v = f k := ⟨_, rfl⟩
      rw [← hv] at hx
      have HV := Lib.hid hv
      have i1 : (k : Int) < (n : Int) := by omega
      clear hv
      by_cases hp : v = 0
      · have hka : k ≠ a := by intro e; have := HA.out; rw [← e, ← HV.out] at this; omega
        subst hp
        go_wp2_with fail
        go_round
        case rel => exact ⟨k - 1, by omega, by omega, by rw [show ((k - 1 : Nat) : Int) = (k : Int) - 1 by omega], Lib.hid fun j hj hj' => by
          by_cases e : j = k
          · rw [e, ← HV.out]
          · exact H0.out j (by omega) hj'⟩
        case measure => simp [intOf]; omega
      · have hvb : ((v : Int) == 0) = false := by simpa using hp
        go_wp2_with fail
        refine bodyPost_ret (v := .tuple #[.int .i64 a, .int .i64 k, .bool true]) (by simp [results, Try.results130, go_sem]) rfl ⟨a, k, true, .inr ⟨rfl, a, k, rfl, rfl, ha, hk2, HA.out, by rw [← HV.out]; omega, HL.out, H0.out⟩, rfl, rfl⟩

end Go.Proofs.Ytejhmobpepllcaa

namespace Go.Proofs.Ytejhmobpepllcaa
open Go.RowKit
set_option linter.unusedSimpArgs false
set_option linter.unusedVariables false

/-- The least box that has all ink. -/
def Bound (z : Nat → Bool) (W H L T R B : Nat) : Prop :=
  (∀ i j, i < W → j < H → z (j * W + i) = true → (L ≤ i ∧ i ≤ R) ∧ T ≤ j ∧ j ≤ B) ∧ ((∃ j, j < H ∧ z (j * W + L) = true) ∧ L < W) ∧ ((∃ j, j < H ∧ z (j * W + R) = true) ∧ R < W) ∧ ((∃ i, i < W ∧ z (T * W + i) = true) ∧ T < H) ∧ ((∃ i, i < W ∧ z (B * W + i) = true) ∧ B < H)

theorem bound_uniq {z : Nat → Bool} {W H L T R B L' T' R' B' : Nat} (h : Bound z W H L T R B) (h' : Bound z W H L' T' R' B') : (L = L' ∧ T = T') ∧ R = R' ∧ B = B' := by
  obtain ⟨a, ⟨⟨j1, l1, m1⟩, n1⟩, ⟨⟨j2, l2, m2⟩, n2⟩, ⟨⟨i3, l3, m3⟩, n3⟩, ⟨i4, l4, m4⟩, n4⟩ := h
  obtain ⟨a', ⟨⟨j1', l1', m1'⟩, n1'⟩, ⟨⟨j2', l2', m2'⟩, n2'⟩, ⟨⟨i3', l3', m3'⟩, n3'⟩, ⟨i4', l4', m4'⟩, n4'⟩ := h'
  have e1 := a' _ _ n1 l1 m1
  have e2 := a' _ _ n2 l2 m2
  have e3 := a' _ _ l3 n3 m3
  have e4 := a' _ _ l4 n4 m4
  have f1 := a _ _ n1' l1' m1'
  have f2 := a _ _ n2' l2' m2'
  have f3 := a _ _ l3' n3' m3'
  have f4 := a _ _ l4' n4' m4'
  omega

theorem toNat_pos {b : Bool} (h : 0 < b.toNat) : b = true := by cases b <;> simp_all
theorem col_pos {z : Nat → Bool} {W H x : Nat} (h : 0 < inkB z W x 0 1 H) : ∃ j, j < H ∧ z (j * W + x) = true := by
  obtain ⟨j, hj, h1⟩ := sumN_pos h
  simp [ink1, sumN] at h1
  exact ⟨j, hj, toNat_pos h1⟩
theorem col_zero {z : Nat → Bool} {W H x j : Nat} (h : inkB z W x 0 1 H = 0) (hj : j < H) : z (j * W + x) = false := by
  have := sumN_ge (f := fun j => ink1 z W x (0 + j) 1) hj
  unfold inkB at h
  rw [h] at this
  simp [ink1, sumN] at this
  cases e : z (j * W + x) <;> simp_all
theorem row_pos {z : Nat → Bool} {W y : Nat} (h : 0 < inkB z W 0 y W 1) : ∃ i, i < W ∧ z (y * W + i) = true := by
  simp only [inkB, sumN, Nat.zero_add, Nat.add_zero] at h
  obtain ⟨i, hi, h1⟩ := sumN_pos h
  simp only [Nat.zero_add] at h1
  exact ⟨i, hi, toNat_pos h1⟩
theorem row_zero {z : Nat → Bool} {W y i : Nat} (h : inkB z W 0 y W 1 = 0) (hi : i < W) : z (y * W + i) = false := by
  simp only [inkB, sumN, Nat.zero_add, Nat.add_zero] at h
  have := sumN_ge (f := fun i => (z (y * W + (0 + i))).toNat) hi
  unfold ink1 at h
  rw [h] at this
  simp at this
  exact this

/-- The least box, as four numbers; whether there is one. -/
def BoxIs (z : Nat → Bool) (W H : Nat) (X Y bw bh : Int) (q : Bool) : Prop :=
  (q = false ∧ X = 0 ∧ Y = 0 ∧ bw = 0 ∧ bh = 0 ∧ ∀ i j, i < W → j < H → z (j * W + i) = false) ∨
  (q = true ∧ ∃ L T R B : Nat, X = L ∧ Y = T ∧ bw = (R : Int) - (L : Int) + 1 ∧ bh = (B : Int) - (T : Int) + 1 ∧ Bound z W H L T R B)

theorem box_uniq {z : Nat → Bool} {W H : Nat} {X Y bw bh X' Y' bw' bh' : Int} {q q' : Bool} (h : BoxIs z W H X Y bw bh q) (h' : BoxIs z W H X' Y' bw' bh' q') : X = X' ∧ Y = Y' ∧ bw = bw' ∧ bh = bh' ∧ q = q' := by
  rcases h with ⟨rfl, rfl, rfl, rfl, rfl, h0⟩ | ⟨rfl, L, T, R, B, rfl, rfl, rfl, rfl, hb⟩ <;> rcases h' with ⟨rfl, rfl, rfl, rfl, rfl, h0'⟩ | ⟨rfl, L', T', R', B', rfl, rfl, rfl, rfl, hb'⟩
  · exact ⟨rfl, rfl, rfl, rfl, rfl⟩
  · obtain ⟨⟨j, l, m⟩, n⟩ := hb'.2.1
    rw [h0 _ _ n l] at m; cases m
  · obtain ⟨⟨j, l, m⟩, n⟩ := hb.2.1
    rw [h0' _ _ n l] at m; cases m
  · obtain ⟨⟨rfl, rfl⟩, rfl, rfl⟩ := bound_uniq hb hb'
    exact ⟨rfl, rfl, rfl, rfl, rfl⟩

theorem box_of_ends {z : Nat → Bool} {W H : Nat} {i j k l : Int} {q : Bool} (h1 : EndsIs (fun x => inkB z W x 0 1 H) W i j true) (h2 : EndsIs (fun y => inkB z W 0 y W 1) H k l q) : BoxIs z W H i k (j - i + 1) (l - k + 1) true := by
  rcases h1 with ⟨h, _⟩ | ⟨_, a, b, rfl, rfl, ha, hb, pa, pb, la, lb⟩
  · cases h
  obtain ⟨jj, hj, hz⟩ := col_pos pa
  rcases h2 with ⟨_, _, _, h0⟩ | ⟨_, c, d, rfl, rfl, hc, hd, pc, pd, lc, ld⟩
  · have := row_zero (h0 jj hj) ha
    rw [hz] at this; cases this
  · refine .inr ⟨rfl, a, c, b, d, rfl, rfl, rfl, rfl, fun x y hx hy hzz => ?_, ⟨⟨jj, hj, hz⟩, ha⟩, ⟨col_pos pb, hb⟩, ⟨row_pos pc, hc⟩, row_pos pd, hd⟩
    refine ⟨⟨?_, ?_⟩, ?_, ?_⟩
    · refine Nat.le_of_not_lt fun e => ?_
      have := col_zero (la x e) hy
      rw [hzz] at this; cases this
    · refine Nat.le_of_not_lt fun e => ?_
      have := col_zero (lb x e hx) hy
      rw [hzz] at this; cases this
    · refine Nat.le_of_not_lt fun e => ?_
      have := row_zero (lc y e) hx
      rw [hzz] at this; cases this
    · refine Nat.le_of_not_lt fun e => ?_
      have := row_zero (ld y e hy) hx
      rw [hzz] at this; cases this

theorem box_none {z : Nat → Bool} {W H : Nat} {i j : Int} (h : EndsIs (fun x => inkB z W x 0 1 H) W i j false) : BoxIs z W H 0 0 0 0 false := by
  rcases h with ⟨_, _, _, h0⟩ | ⟨h, _⟩
  · exact .inl ⟨rfl, rfl, rfl, rfl, rfl, fun x y hx hy => col_zero (h0 x hx) hy⟩
  · cases h

theorem endsIs_bound {f : Nat → Nat} {n : Nat} {i j : Int} {q : Bool} (h : EndsIs f n i j q) : (0 ≤ i ∧ i ≤ n) ∧ 0 ≤ j ∧ j ≤ n := by
  rcases h with ⟨_, rfl, rfl, _⟩ | ⟨_, a, b, rfl, rfl, ha, hb, _⟩ <;> omega

theorem block4 {w : World} {b : Nat} {x y z u : Value} {t : TypeId} (h : w.heap[b]? = some (.cells #[x, y, z, u] t (0, 0))) :
    (w.cell? ⟨b, 0, none⟩ = some x ∧ w.cell? ⟨b, 1, none⟩ = some y ∧ w.cell? ⟨b, 2, none⟩ = some z ∧ w.cell? ⟨b, 3, none⟩ = some u) ∧ w.frozen? ⟨b, 0, none⟩ = false ∧ w.frozen? ⟨b, 1, none⟩ = false ∧ w.frozen? ⟨b, 2, none⟩ = false ∧ w.frozen? ⟨b, 3, none⟩ = false := by
  exact ⟨⟨by rw [cell_of_row w b 0 _ t (0, 0) h]; rfl, by rw [cell_of_row w b 1 _ t (0, 0) h]; rfl, by rw [cell_of_row w b 2 _ t (0, 0) h]; rfl, by rw [cell_of_row w b 3 _ t (0, 0) h]; rfl⟩, frozen_of_row w b 0 _ t h, frozen_of_row w b 1 _ t h, frozen_of_row w b 2 _ t h, frozen_of_row w b 3 _ t h⟩

set_option maxHeartbeats 1000000 in
set_option maxRecDepth 100000 in
theorem boundsOf_any (W H g o c : Nat) (z : Nat → Bool) (w : World) (hW : 1 ≤ W ∧ W ≤ 4000) (hH : 1 ≤ H ∧ H ≤ 4000)
    (hp : ∀ j, j < W * H → w.cell? ⟨g, o + j, none⟩ = some (.bool (z j))) :
    Calls Try.prog 71 #[.agg #[.int .i64 W, .int .i64 H, .slice (some ⟨g, o, none⟩) (W * H) c]] w fun e w' =>
      ∃ X Y bw bh q, e = .returned (.tuple #[.agg #[.int .i64 X, .int .i64 Y, .int .i64 bw, .int .i64 bh], .bool q]) ∧ BoxIs z W H X Y bw bh q ∧ Below w.heap.size w w' := by
  obtain ⟨w1, hw1⟩ : ∃ w1, w1 = (w.alloc (.cells #[.int .i64 W, .int .i64 H, .slice (some ⟨g, o, none⟩) (W * H) c] 24)).alloc (.cells #[.int .i64 0, .int .i64 0, .int .i64 0, .int .i64 0] 29) := ⟨_, rfl⟩
  have B1 : Below w.heap.size w w1 := by rw [hw1]; exact below_alloc (new_below _ _) _
  have q0 : w1.cell? ⟨w.heap.size, 0, none⟩ = some (.int .i64 W) := by rw [hw1]; go_simp
  have q1 : w1.cell? ⟨w.heap.size, 1, none⟩ = some (.int .i64 H) := by rw [hw1]; go_simp
  have q2 : w1.cell? ⟨w.heap.size, 2, none⟩ = some (.slice (some ⟨g, o, none⟩) (W * H) c) := by rw [hw1]; go_simp
  have qb : w1.heap[w.heap.size + 1]? = some (.cells #[.int .i64 0, .int .i64 0, .int .i64 0, .int .i64 0] 29 (0, 0)) := by
    rw [hw1]
    simpa using heap_alloc_new (w.alloc (.cells #[.int .i64 W, .int .i64 H, .slice (some ⟨g, o, none⟩) (W * H) c] 24)) (.cells #[.int .i64 0, .int .i64 0, .int .i64 0, .int .i64 0] 29)
  have HC := Lib.hid (fun j hj => cell_later B1 (hp j hj))
  have HB1 := Lib.hid B1
  have HQB := Lib.hid qb
  clear hp B1 qb
  go_enter Try.func71, Try.ntmps71
  go_upto_region 1 with fail
  rw [← hw1]
  clear hw1
  go_wp2_with fail
  refine (columnsOf_any W H g o c z w1 hW hH HC.out).mono ?_
  rintro e w2 ⟨v, rfl, hown, hb2⟩
  obtain ⟨g2, c2, rfl, hg2, hz2⟩ := owns_nums hown hW.1
  have HZ2 := Lib.hid hz2
  have HB2 := Lib.hid hb2
  have k0 := cell_later hb2 q0
  have k1 := cell_later hb2 q1
  have k2 := cell_later hb2 q2
  clear hown hz2 hb2 q0 q1 q2
  go_wp2_with fail
  refine (ends_any g2 W c2 (fun x => inkB z W x 0 1 H) w2 (by omega) hW.1 HZ2.out).mono ?_
  rintro e w' ⟨i, j, q, hi, rfl, rfl⟩
  have HI := Lib.hid hi
  have hbi := endsIs_bound hi
  obtain ⟨⟨bi0, bi1⟩, bj0, bj1⟩ := hbi
  clear hi
  have HBW := Lib.hid (below_step HB1.out HB2.out)
  have lb := (Array.getElem?_eq_some_iff.1 HQB.out).1
  cases q
  · obtain ⟨⟨j0, j1, j2, j3⟩, r0, r1, r2, r3⟩ := block4 (below_block HB2.out HQB.out)
    go_wp2_with fail
    refine bodyPost_ret (v := .tuple #[.agg #[.int .i64 0, .int .i64 0, .int .i64 0, .int .i64 0], .bool false]) (by simp [results, Try.results71, go_sem, j0, j1, j2, j3]) rfl ⟨0, 0, 0, 0, false, rfl, box_none HI.out, ?_⟩
    exact (((HBW.out.setCell (by simp) _).setCell (by simp) _).setCell (by simp) _).setCell (by simp) _
  · go_wp2_with fail
    refine (rowsOf_any W H g o c z w2 hW hH (fun j hj => cell_later HB2.out (HC.out j hj))).mono ?_
    rintro e w3 ⟨v, rfl, hown, hb3⟩
    obtain ⟨g3, c3, rfl, hg3, hz3⟩ := owns_nums hown hH.1
    have HZ3 := Lib.hid hz3
    have HB3 := Lib.hid hb3
    clear hown hz3 hb3 k0 k1 k2
    go_wp2_with fail
    refine (ends_any g3 H c3 (fun y => inkB z W 0 y W 1) w3 (by omega) hH.1 HZ3.out).mono ?_
    rintro e w' ⟨k, l, q, hk, rfl, rfl⟩
    have HK := Lib.hid hk
    have hbk := endsIs_bound hk
    obtain ⟨⟨bk0, bk1⟩, bl0, bl1⟩ := hbk
    clear hk
    obtain ⟨⟨j0, j1, j2, j3⟩, r0, r1, r2, r3⟩ := block4 (below_block HB3.out (below_block HB2.out HQB.out))
    go_wp2_with fail
    refine bodyPost_ret (v := .tuple #[.agg #[.int .i64 i, .int .i64 k, .int .i64 (j - i + 1), .int .i64 (l - k + 1)], .bool true]) (by simp [results, Try.results71, go_sem, j0, j1, j2, j3]) rfl ⟨_, _, _, _, true, rfl, box_of_ends HI.out HK.out, ?_⟩
    exact ((((below_step HBW.out HB3.out).setCell (by simp) _).setCell (by simp) _).setCell (by simp) _).setCell (by simp) _

end Go.Proofs.Ytejhmobpepllcaa
