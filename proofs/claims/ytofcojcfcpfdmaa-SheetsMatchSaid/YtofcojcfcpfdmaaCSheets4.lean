/-
  What sheets_holds leans on: contracts of the functions that it calls.
-/
import Derived.Test.YtofcojcfcpfdmaaRows
import Derived.WalkKit
import Derived.WalkSpells
import Derived.WalkLawsBesides
import Derived.Lib.Hide
import Derived.Deep.RegionHeld3
import Derived.Shelf.Abstract
import Derived.Deep.AppendLies
import Derived.Deep.DrawnRows
import Derived.Deep.RegionLaw
import Derived.Deep.QuietTactic
import Derived.BigQuiet
import Derived.ProofKit
import Derived.OpenShut
import Derived.ShutString
import Derived.ChangeOld
import Derived.Lib.SmallJoins
import Derived.Deep.Grids
import Derived.Deep.DeepCutAuto
import Derived.Lib.MinMax
import Derived.Deep.CutRange
import Derived.Laws.EntriesVeiled
import Derived.StillTailTactics
import Derived.RegionTactic
import Derived.ChangeAlike
import Derived.BigRegion
import Derived.Test.YtofcojcfcpfdmaaCSheets3
namespace Go.Proofs.Ytofcojcfcpfdmaa
open Go.RowKit
set_option linter.unusedSimpArgs false
set_option linter.unusedVariables false

theorem ends1_any (n : Nat) (w : World) : Calls Try.prog 124 #[.int .i64 n] w fun e w' => e = .returned (.bool (decide (0 < n))) ∧ w = w' := by
  go_enter Try.func124, Try.ntmps124
  go_wp2
  go_ret
  exact ⟨ret_bool (by simp), rfl⟩

/-- The first place that is not 0, or -1. -/
def FirstIs (f : Nat → Nat) (n : Nat) (i : Int) : Prop := (i = -1 ∧ ∀ k, k < n → f k = 0) ∨ ∃ a : Nat, i = a ∧ a < n ∧ 0 < f a ∧ ∀ k, k < a → f k = 0

def EndInt (P : Int → Prop) (w : World) (e : Ending) (w' : World) : Prop := ∃ i : Int, P i ∧ e = .returned (.int .i64 i) ∧ w = w'

set_option maxHeartbeats 400000 in
theorem indexPos_any (g n c : Nat) (f : Nat → Nat) (w : World) (hn : n ≤ 100000) (hc : ∀ k, k < n → w.cell? ⟨g, 0 + k, none⟩ = some (.int .i64 ((f k : Nat) : Int))) :
    Calls Try.prog 123 #[.slice (some ⟨g, 0, none⟩) n c, .func (.func 124) #[] #[]] w (EndInt (FirstIs f n) w) := by
  have HC := Lib.hid hc
  clear hc
  go_enter Try.func123, Try.ntmps123
  go_wp2_with fail
  go_loop [8] (fun i => ∃ k : Nat, k ≤ n ∧ i = .int .i64 k ∧ Hid (∀ j, j < k → f j = 0)) (fun i => n - (intOf i).toNat)
  case atStart => exact ⟨0, Nat.zero_le _, rfl, Lib.hid (fun j hj => by omega)⟩
  case round =>
    obtain ⟨k, hk, rfl, H0⟩ := hrel
    by_cases hlt : k < n
    · have hx := HC.out k hlt
      rw [Nat.zero_add] at hx
      obtain ⟨v, hv⟩ : ∃ v, v = f k := ⟨_, rfl⟩
      rw [← hv] at hx
      have HV := Lib.hid hv
      have i1 : (k : Int) < (n : Int) := by omega
      clear hv
      by_cases hp : 0 < v
      · have hd : decide (0 < v) = true := by simpa using hp
        go_wp2_with (go_at_call 124; refine (ends1_any v _).mono ?_; rintro e w' ⟨rfl, rfl⟩)
        go_ret
        exact ⟨k, .inr ⟨k, rfl, hlt, by rw [← HV.out]; exact hp, H0.out⟩, rfl, rfl⟩
      · have hd : decide (0 < v) = false := by simpa using hp
        go_wp2_with (go_at_call 124; refine (ends1_any v _).mono ?_; rintro e w' ⟨rfl, rfl⟩)
        go_round
        case rel => exact ⟨k + 1, by omega, by go_num, Lib.hid fun j hj => by
          by_cases e : j = k
          · rw [e, ← HV.out]; omega
          · exact H0.out j (by omega)⟩
        case measure => simp [intOf]; omega
    · obtain rfl : k = n := by omega
      go_wp2_with fail
      go_ret
      exact ⟨-1, .inl ⟨rfl, H0.out⟩, rfl, rfl⟩

/-- The ends of a list. -/
def EndsIs (f : Nat → Nat) (n : Nat) (i j : Int) (q : Bool) : Prop :=
  (q = false ∧ i = 0 ∧ j = 0 ∧ ∀ k, k < n → f k = 0) ∨ (q = true ∧ ∃ a b : Nat, i = a ∧ j = b ∧ a < n ∧ b < n ∧ 0 < f a ∧ 0 < f b ∧ (∀ k, k < a → f k = 0) ∧ ∀ k, b < k → k < n → f k = 0)

def EndTwo (P : Int → Int → Bool → Prop) (w : World) (e : Ending) (w' : World) : Prop := ∃ (i j : Int) (q : Bool), P i j q ∧ e = .returned (.tuple #[.int .i64 i, .int .i64 j, .bool q]) ∧ w = w'

set_option maxHeartbeats 400000 in
theorem ends_any (g n c : Nat) (f : Nat → Nat) (w : World) (hn : n ≤ 100000) (hn1 : 1 ≤ n) (hc : ∀ k, k < n → w.cell? ⟨g, 0 + k, none⟩ = some (.int .i64 ((f k : Nat) : Int))) :
    Calls Try.prog 98 #[.slice (some ⟨g, 0, none⟩) n c] w (EndTwo (EndsIs f n) w) := by
  have HI := Lib.hid (indexPos_any g n c f w hn hc)
  have HC := Lib.hid hc
  clear hc
  go_enter Try.func98, Try.ntmps98
  go_wp2_with fail
  refine HI.out.mono ?_
  rintro e w' ⟨i, hi, rfl, rfl⟩
  rcases hi with ⟨rfl, h0⟩ | ⟨a, rfl, ha, hfa, hlo⟩
  · have H0 := Lib.hid h0
    clear h0
    go_wp2_with fail
    refine bodyPost_ret (v := .tuple #[.int .i64 0, .int .i64 0, .bool false]) (by simp [results, Try.results98, go_sem]) rfl ⟨0, 0, false, .inl ⟨rfl, rfl, rfl, H0.out⟩, rfl, rfl⟩
  · have HA := Lib.hid hfa
    have HL := Lib.hid hlo
    clear hfa hlo
    go_wp2_with fail
    go_loop [6] (fun i => ∃ k : Nat, a ≤ k ∧ k < n ∧ i = .int .i64 k ∧ Hid (∀ j, k < j → j < n → f j = 0)) (fun i => (intOf i).toNat)
    case atStart => exact ⟨n - 1, by omega, by omega, by rw [show ((n - 1 : Nat) : Int) = (n : Int) - 1 by omega], Lib.hid (fun j hj hj' => by omega)⟩
    case round =>
      obtain ⟨k, hk1, hk2, rfl, H0⟩ := hrel
      have hx := HC.out k hk2
      rw [Nat.zero_add] at hx
      obtain ⟨v, hv⟩ : ∃ v, v = f k := ⟨_, rfl⟩
      rw [← hv] at hx
      have HV := Lib.hid hv
      have i1 : (k : Int) < (n : Int) := by omega
      clear hv
      by_cases hp : v = 0
      · have hka : k ≠ a := by intro e; have := HA.out; rw [← e, ← HV.out] at this; omega
        subst hp
        go_wp2_with fail
        go_round
        case rel => exact ⟨k - 1, by omega, by omega, by rw [show ((k - 1 : Nat) : Int) = (k : Int) - 1 by omega], Lib.hid fun j hj hj' => by
          by_cases e : j = k
          · rw [e, ← HV.out]
          · exact H0.out j (by omega) hj'⟩
        case measure => simp [intOf]; omega
      · have hvb : ((v : Int) == 0) = false := by simpa using hp
        go_wp2_with fail
        refine bodyPost_ret (v := .tuple #[.int .i64 a, .int .i64 k, .bool true]) (by simp [results, Try.results98, go_sem]) rfl ⟨a, k, true, .inr ⟨rfl, a, k, rfl, rfl, ha, hk2, HA.out, by rw [← HV.out]; omega, HL.out, H0.out⟩, rfl, rfl⟩

end Go.Proofs.Ytofcojcfcpfdmaa

namespace Go.Proofs.Ytofcojcfcpfdmaa
open Go.RowKit
set_option linter.unusedSimpArgs false
set_option linter.unusedVariables false

/-- The least box that has all ink. -/
def Bound (z : Nat → Bool) (W H L T R B : Nat) : Prop :=
  (∀ i j, i < W → j < H → z (j * W + i) = true → (L ≤ i ∧ i ≤ R) ∧ T ≤ j ∧ j ≤ B) ∧ ((∃ j, j < H ∧ z (j * W + L) = true) ∧ L < W) ∧ ((∃ j, j < H ∧ z (j * W + R) = true) ∧ R < W) ∧ ((∃ i, i < W ∧ z (T * W + i) = true) ∧ T < H) ∧ ((∃ i, i < W ∧ z (B * W + i) = true) ∧ B < H)

theorem bound_uniq {z : Nat → Bool} {W H L T R B L' T' R' B' : Nat} (h : Bound z W H L T R B) (h' : Bound z W H L' T' R' B') : (L = L' ∧ T = T') ∧ R = R' ∧ B = B' := by
  obtain ⟨a, ⟨⟨j1, l1, m1⟩, n1⟩, ⟨⟨j2, l2, m2⟩, n2⟩, ⟨⟨i3, l3, m3⟩, n3⟩, ⟨i4, l4, m4⟩, n4⟩ := h
  obtain ⟨a', ⟨⟨j1', l1', m1'⟩, n1'⟩, ⟨⟨j2', l2', m2'⟩, n2'⟩, ⟨⟨i3', l3', m3'⟩, n3'⟩, ⟨i4', l4', m4'⟩, n4'⟩ := h'
  have e1 := a' _ _ n1 l1 m1
  have e2 := a' _ _ n2 l2 m2
  have e3 := a' _ _ l3 n3 m3
  have e4 := a' _ _ l4 n4 m4
  have f1 := a _ _ n1' l1' m1'
  have f2 := a _ _ n2' l2' m2'
  have f3 := a _ _ l3' n3' m3'
  have f4 := a _ _ l4' n4' m4'
  omega

theorem toNat_pos {b : Bool} (h : 0 < b.toNat) : b = true := by cases b <;> simp_all
theorem col_pos {z : Nat → Bool} {W H x : Nat} (h : 0 < inkB z W x 0 1 H) : ∃ j, j < H ∧ z (j * W + x) = true := by
  obtain ⟨j, hj, h1⟩ := sumN_pos h
  simp [ink1, sumN] at h1
  exact ⟨j, hj, toNat_pos h1⟩
theorem col_zero {z : Nat → Bool} {W H x j : Nat} (h : inkB z W x 0 1 H = 0) (hj : j < H) : z (j * W + x) = false := by
  have := sumN_ge (f := fun j => ink1 z W x (0 + j) 1) hj
  unfold inkB at h
  rw [h] at this
  simp [ink1, sumN] at this
  cases e : z (j * W + x) <;> simp_all
theorem row_pos {z : Nat → Bool} {W y : Nat} (h : 0 < inkB z W 0 y W 1) : ∃ i, i < W ∧ z (y * W + i) = true := by
  simp only [inkB, sumN, Nat.zero_add, Nat.add_zero] at h
  obtain ⟨i, hi, h1⟩ := sumN_pos h
  simp only [Nat.zero_add] at h1
  exact ⟨i, hi, toNat_pos h1⟩
theorem row_zero {z : Nat → Bool} {W y i : Nat} (h : inkB z W 0 y W 1 = 0) (hi : i < W) : z (y * W + i) = false := by
  simp only [inkB, sumN, Nat.zero_add, Nat.add_zero] at h
  have := sumN_ge (f := fun i => (z (y * W + (0 + i))).toNat) hi
  unfold ink1 at h
  rw [h] at this
  simp at this
  exact this

/-- The least box, as four numbers; whether there is one. -/
def BoxIs (z : Nat → Bool) (W H : Nat) (X Y bw bh : Int) (q : Bool) : Prop :=
  (q = false ∧ X = 0 ∧ Y = 0 ∧ bw = 0 ∧ bh = 0 ∧ ∀ i j, i < W → j < H → z (j * W + i) = false) ∨
  (q = true ∧ ∃ L T R B : Nat, X = L ∧ Y = T ∧ bw = (R : Int) - (L : Int) + 1 ∧ bh = (B : Int) - (T : Int) + 1 ∧ Bound z W H L T R B)

theorem box_uniq {z : Nat → Bool} {W H : Nat} {X Y bw bh X' Y' bw' bh' : Int} {q q' : Bool} (h : BoxIs z W H X Y bw bh q) (h' : BoxIs z W H X' Y' bw' bh' q') : X = X' ∧ Y = Y' ∧ bw = bw' ∧ bh = bh' ∧ q = q' := by
  rcases h with ⟨rfl, rfl, rfl, rfl, rfl, h0⟩ | ⟨rfl, L, T, R, B, rfl, rfl, rfl, rfl, hb⟩ <;> rcases h' with ⟨rfl, rfl, rfl, rfl, rfl, h0'⟩ | ⟨rfl, L', T', R', B', rfl, rfl, rfl, rfl, hb'⟩
  · exact ⟨rfl, rfl, rfl, rfl, rfl⟩
  · obtain ⟨⟨j, l, m⟩, n⟩ := hb'.2.1
    rw [h0 _ _ n l] at m; cases m
  · obtain ⟨⟨j, l, m⟩, n⟩ := hb.2.1
    rw [h0' _ _ n l] at m; cases m
  · obtain ⟨⟨rfl, rfl⟩, rfl, rfl⟩ := bound_uniq hb hb'
    exact ⟨rfl, rfl, rfl, rfl, rfl⟩

theorem box_of_ends {z : Nat → Bool} {W H : Nat} {i j k l : Int} {q : Bool} (h1 : EndsIs (fun x => inkB z W x 0 1 H) W i j true) (h2 : EndsIs (fun y => inkB z W 0 y W 1) H k l q) : BoxIs z W H i k (j - i + 1) (l - k + 1) true := by
  rcases h1 with ⟨h, _⟩ | ⟨_, a, b, rfl, rfl, ha, hb, pa, pb, la, lb⟩
  · cases h
  obtain ⟨jj, hj, hz⟩ := col_pos pa
  rcases h2 with ⟨_, _, _, h0⟩ | ⟨_, c, d, rfl, rfl, hc, hd, pc, pd, lc, ld⟩
  · have := row_zero (h0 jj hj) ha
    rw [hz] at this; cases this
  · refine .inr ⟨rfl, a, c, b, d, rfl, rfl, rfl, rfl, fun x y hx hy hzz => ?_, ⟨⟨jj, hj, hz⟩, ha⟩, ⟨col_pos pb, hb⟩, ⟨row_pos pc, hc⟩, row_pos pd, hd⟩
    refine ⟨⟨?_, ?_⟩, ?_, ?_⟩
    · refine Nat.le_of_not_lt fun e => ?_
      have := col_zero (la x e) hy
      rw [hzz] at this; cases this
    · refine Nat.le_of_not_lt fun e => ?_
      have := col_zero (lb x e hx) hy
      rw [hzz] at this; cases this
    · refine Nat.le_of_not_lt fun e => ?_
      have := row_zero (lc y e) hx
      rw [hzz] at this; cases this
    · refine Nat.le_of_not_lt fun e => ?_
      have := row_zero (ld y e hy) hx
      rw [hzz] at this; cases this

theorem box_none {z : Nat → Bool} {W H : Nat} {i j : Int} (h : EndsIs (fun x => inkB z W x 0 1 H) W i j false) : BoxIs z W H 0 0 0 0 false := by
  rcases h with ⟨_, _, _, h0⟩ | ⟨h, _⟩
  · exact .inl ⟨rfl, rfl, rfl, rfl, rfl, fun x y hx hy => col_zero (h0 x hx) hy⟩
  · cases h

theorem endsIs_bound {f : Nat → Nat} {n : Nat} {i j : Int} {q : Bool} (h : EndsIs f n i j q) : (0 ≤ i ∧ i ≤ n) ∧ 0 ≤ j ∧ j ≤ n := by
  rcases h with ⟨_, rfl, rfl, _⟩ | ⟨_, a, b, rfl, rfl, ha, hb, _⟩ <;> omega

theorem block4 {w : World} {b : Nat} {x y z u : Value} {t : TypeId} (h : w.heap[b]? = some (.cells #[x, y, z, u] t (0, 0))) :
    (w.cell? ⟨b, 0, none⟩ = some x ∧ w.cell? ⟨b, 1, none⟩ = some y ∧ w.cell? ⟨b, 2, none⟩ = some z ∧ w.cell? ⟨b, 3, none⟩ = some u) ∧ w.frozen? ⟨b, 0, none⟩ = false ∧ w.frozen? ⟨b, 1, none⟩ = false ∧ w.frozen? ⟨b, 2, none⟩ = false ∧ w.frozen? ⟨b, 3, none⟩ = false := by
  exact ⟨⟨by rw [cell_of_row w b 0 _ t (0, 0) h]; rfl, by rw [cell_of_row w b 1 _ t (0, 0) h]; rfl, by rw [cell_of_row w b 2 _ t (0, 0) h]; rfl, by rw [cell_of_row w b 3 _ t (0, 0) h]; rfl⟩, frozen_of_row w b 0 _ t h, frozen_of_row w b 1 _ t h, frozen_of_row w b 2 _ t h, frozen_of_row w b 3 _ t h⟩

set_option maxHeartbeats 1000000 in
set_option maxRecDepth 100000 in
theorem boundsOf_any (W H g o c : Nat) (z : Nat → Bool) (w : World) (hW : 1 ≤ W ∧ W ≤ 4000) (hH : 1 ≤ H ∧ H ≤ 4000)
    (hp : ∀ j, j < W * H → w.cell? ⟨g, o + j, none⟩ = some (.bool (z j))) :
    Calls Try.prog 46 #[.agg #[.int .i64 W, .int .i64 H, .slice (some ⟨g, o, none⟩) (W * H) c]] w fun e w' =>
      ∃ X Y bw bh q, e = .returned (.tuple #[.agg #[.int .i64 X, .int .i64 Y, .int .i64 bw, .int .i64 bh], .bool q]) ∧ BoxIs z W H X Y bw bh q ∧ Below w.heap.size w w' := by
  obtain ⟨w1, hw1⟩ : ∃ w1, w1 = (w.alloc (.cells #[.int .i64 W, .int .i64 H, .slice (some ⟨g, o, none⟩) (W * H) c] 40)).alloc (.cells #[.int .i64 0, .int .i64 0, .int .i64 0, .int .i64 0] 65) := ⟨_, rfl⟩
  have B1 : Below w.heap.size w w1 := by rw [hw1]; exact below_alloc (new_below _ _) _
  have q0 : w1.cell? ⟨w.heap.size, 0, none⟩ = some (.int .i64 W) := by rw [hw1]; go_simp
  have q1 : w1.cell? ⟨w.heap.size, 1, none⟩ = some (.int .i64 H) := by rw [hw1]; go_simp
  have q2 : w1.cell? ⟨w.heap.size, 2, none⟩ = some (.slice (some ⟨g, o, none⟩) (W * H) c) := by rw [hw1]; go_simp
  have qb : w1.heap[w.heap.size + 1]? = some (.cells #[.int .i64 0, .int .i64 0, .int .i64 0, .int .i64 0] 65 (0, 0)) := by
    rw [hw1]
    simpa using heap_alloc_new (w.alloc (.cells #[.int .i64 W, .int .i64 H, .slice (some ⟨g, o, none⟩) (W * H) c] 40)) (.cells #[.int .i64 0, .int .i64 0, .int .i64 0, .int .i64 0] 65)
  have HC := Lib.hid (fun j hj => cell_later B1 (hp j hj))
  have HB1 := Lib.hid B1
  have HQB := Lib.hid qb
  clear hp B1 qb
  go_enter Try.func46, Try.ntmps46
  go_upto_region 1 with fail
  rw [← hw1]
  clear hw1
  go_wp2_with fail
  refine (columnsOf_any W H g o c z w1 hW hH HC.out).mono ?_
  rintro e w2 ⟨v, rfl, hown, hb2⟩
  obtain ⟨g2, c2, rfl, hg2, hz2⟩ := owns_nums hown hW.1
  have HZ2 := Lib.hid hz2
  have HB2 := Lib.hid hb2
  have k0 := cell_later hb2 q0
  have k1 := cell_later hb2 q1
  have k2 := cell_later hb2 q2
  clear hown hz2 hb2 q0 q1 q2
  go_wp2_with fail
  refine (ends_any g2 W c2 (fun x => inkB z W x 0 1 H) w2 (by omega) hW.1 HZ2.out).mono ?_
  rintro e w' ⟨i, j, q, hi, rfl, rfl⟩
  have HI := Lib.hid hi
  have hbi := endsIs_bound hi
  obtain ⟨⟨bi0, bi1⟩, bj0, bj1⟩ := hbi
  clear hi
  have HBW := Lib.hid (below_step HB1.out HB2.out)
  have lb := (Array.getElem?_eq_some_iff.1 HQB.out).1
  cases q
  · obtain ⟨⟨j0, j1, j2, j3⟩, r0, r1, r2, r3⟩ := block4 (below_block HB2.out HQB.out)
    go_wp2_with fail
    refine bodyPost_ret (v := .tuple #[.agg #[.int .i64 0, .int .i64 0, .int .i64 0, .int .i64 0], .bool false]) (by simp [results, Try.results46, go_sem, j0, j1, j2, j3]) rfl ⟨0, 0, 0, 0, false, rfl, box_none HI.out, ?_⟩
    exact (((HBW.out.setCell (by simp) _).setCell (by simp) _).setCell (by simp) _).setCell (by simp) _
  · go_wp2_with fail
    refine (rowsOf_any W H g o c z w2 hW hH (fun j hj => cell_later HB2.out (HC.out j hj))).mono ?_
    rintro e w3 ⟨v, rfl, hown, hb3⟩
    obtain ⟨g3, c3, rfl, hg3, hz3⟩ := owns_nums hown hH.1
    have HZ3 := Lib.hid hz3
    have HB3 := Lib.hid hb3
    clear hown hz3 hb3 k0 k1 k2
    go_wp2_with fail
    refine (ends_any g3 H c3 (fun y => inkB z W 0 y W 1) w3 (by omega) hH.1 HZ3.out).mono ?_
    rintro e w' ⟨k, l, q, hk, rfl, rfl⟩
    have HK := Lib.hid hk
    have hbk := endsIs_bound hk
    obtain ⟨⟨bk0, bk1⟩, bl0, bl1⟩ := hbk
    clear hk
    obtain ⟨⟨j0, j1, j2, j3⟩, r0, r1, r2, r3⟩ := block4 (below_block HB3.out (below_block HB2.out HQB.out))
    go_wp2_with fail
    refine bodyPost_ret (v := .tuple #[.agg #[.int .i64 i, .int .i64 k, .int .i64 (j - i + 1), .int .i64 (l - k + 1)], .bool true]) (by simp [results, Try.results46, go_sem, j0, j1, j2, j3]) rfl ⟨_, _, _, _, true, rfl, box_of_ends HI.out HK.out, ?_⟩
    exact ((((below_step HBW.out HB3.out).setCell (by simp) _).setCell (by simp) _).setCell (by simp) _).setCell (by simp) _

end Go.Proofs.Ytofcojcfcpfdmaa
namespace Go.Proofs.Ytofcojcfcpfdmaa
open Go.RowKit
set_option linter.unusedSimpArgs false
set_option linter.unusedVariables false

theorem block1 {w : World} {b : Nat} {x : Value} {t : TypeId} (h : w.heap[b]? = some (.cells #[x] t (0, 0))) : w.cell? ⟨b, 0, none⟩ = some x ∧ w.frozen? ⟨b, 0, none⟩ = false :=
  ⟨by rw [cell_of_row w b 0 _ t (0, 0) h]; rfl, frozen_of_row w b 0 _ t h⟩

/-- The four numbers in their boxes. -/
def Four (lb tb rb bb : Nat) (l t r b : Int) (w : World) : Prop :=
  w.heap[lb]? = some (.cells #[.int .i64 l] 3 (0, 0)) ∧ w.heap[tb]? = some (.cells #[.int .i64 t] 3 (0, 0)) ∧ w.heap[rb]? = some (.cells #[.int .i64 r] 3 (0, 0)) ∧ w.heap[bb]? = some (.cells #[.int .i64 b] 3 (0, 0))

/-- Four different blocks from N on. -/
def Apart4 (N a b c d : Nat) : Prop := (N ≤ a ∧ N ≤ b ∧ N ≤ c ∧ N ≤ d) ∧ (a ≠ b ∧ a ≠ c ∧ a ≠ d) ∧ (b ≠ c ∧ b ≠ d) ∧ c ≠ d

set_option maxHeartbeats 1000000 in
set_option maxRecDepth 100000 in
theorem bounds1_any (x y N lb tb rb bb : Nat) (l t r b : Int) (w : World) (hd : Apart4 N lb tb rb bb) (h : Four lb tb rb bb l t r b w) :
    Calls Try.prog 126 #[.int .i64 x, .int .i64 y, .pointer (some ⟨lb, 0, none⟩), .pointer (some ⟨rb, 0, none⟩), .pointer (some ⟨tb, 0, none⟩), .pointer (some ⟨bb, 0, none⟩)] w fun e w' =>
      e = .returned (.tuple #[]) ∧ Four lb tb rb bb (min l x) (min t y) (max r x) (max b y) w' ∧ Below N w w' ∧ ∀ k, k ≠ lb ∧ k ≠ tb ∧ k ≠ rb ∧ k ≠ bb → w'.heap[k]? = w.heap[k]? := by
  obtain ⟨h1, h2, h3, h4⟩ := h
  obtain ⟨c1, f1⟩ := block1 h1
  obtain ⟨c2, f2⟩ := block1 h2
  obtain ⟨c3, f3⟩ := block1 h3
  obtain ⟨c4, f4⟩ := block1 h4
  have HD := Lib.hid hd
  obtain ⟨-, ⟨n1, n2, n3⟩, ⟨n4, n5⟩, n6⟩ := hd
  have m1 := n1.symm
  have m2 := n2.symm
  have m3 := n3.symm
  have m4 := n4.symm
  have m5 := n5.symm
  have m6 := n6.symm
  have H1 := Lib.hid h1
  have H2 := Lib.hid h2
  have H3 := Lib.hid h3
  have H4 := Lib.hid h4
  clear h1 h2 h3 h4
  go_enter Try.func126, Try.ntmps126
  go_wp2_with fail
  go_region
  go_wp2_with fail
  go_region
  go_wp2_with fail
  go_end0
  obtain ⟨⟨g1, g2, g3, g4⟩, -⟩ := HD.out
  refine ⟨rfl, ⟨?_, ?_, ?_, ?_⟩, (((((Below.refl N w).setCell g1 _).setCell g3 _).setCell g2 _).setCell g4 _).drew.drew, fun k hk => ?_⟩
  · show ((((w.setCell ⟨lb, 0, none⟩ _).setCell ⟨rb, 0, none⟩ _).setCell ⟨tb, 0, none⟩ _).setCell ⟨bb, 0, none⟩ _).heap[lb]? = _
    rw [Below.heap_setCell _ _ _ _ n3, Below.heap_setCell _ _ _ _ n1, Below.heap_setCell _ _ _ _ n2]
    exact heap_setCell_same w lb 0 #[.int .i64 l] 3 _ H1.out
  · show ((((w.setCell ⟨lb, 0, none⟩ _).setCell ⟨rb, 0, none⟩ _).setCell ⟨tb, 0, none⟩ _).setCell ⟨bb, 0, none⟩ _).heap[tb]? = _
    rw [Below.heap_setCell _ _ _ _ n5]
    exact heap_setCell_same _ tb 0 #[.int .i64 t] 3 _ (by rw [Below.heap_setCell _ _ _ _ n4, Below.heap_setCell _ _ _ _ m1]; exact H2.out)
  · show ((((w.setCell ⟨lb, 0, none⟩ _).setCell ⟨rb, 0, none⟩ _).setCell ⟨tb, 0, none⟩ _).setCell ⟨bb, 0, none⟩ _).heap[rb]? = _
    rw [Below.heap_setCell _ _ _ _ n6, Below.heap_setCell _ _ _ _ m4]
    exact heap_setCell_same _ rb 0 #[.int .i64 r] 3 _ (by rw [Below.heap_setCell _ _ _ _ m2]; exact H3.out)
  · show ((((w.setCell ⟨lb, 0, none⟩ _).setCell ⟨rb, 0, none⟩ _).setCell ⟨tb, 0, none⟩ _).setCell ⟨bb, 0, none⟩ _).heap[bb]? = _
    exact heap_setCell_same _ bb 0 #[.int .i64 b] 3 _ (by rw [Below.heap_setCell _ _ _ _ m5, Below.heap_setCell _ _ _ _ m6, Below.heap_setCell _ _ _ _ m3]; exact H4.out)
  · show ((((w.setCell ⟨lb, 0, none⟩ _).setCell ⟨rb, 0, none⟩ _).setCell ⟨tb, 0, none⟩ _).setCell ⟨bb, 0, none⟩ _).heap[k]? = _
    rw [Below.heap_setCell _ _ _ _ hk.2.2.2, Below.heap_setCell _ _ _ _ hk.2.1, Below.heap_setCell _ _ _ _ hk.2.2.1, Below.heap_setCell _ _ _ _ hk.1]

/-- The least and greatest places of what was seen. -/
def BndP (S : Nat → Nat → Prop) (W H : Nat) (l t r b : Int) : Prop :=
  (l = W ∧ t = H ∧ r = -1 ∧ b = -1 ∧ ∀ i j, ¬ S i j) ∨ (∃ L T R B : Nat, l = L ∧ t = T ∧ r = R ∧ b = B ∧ (∀ i j, S i j → (L ≤ i ∧ i ≤ R) ∧ T ≤ j ∧ j ≤ B) ∧ (∃ j, S L j) ∧ (∃ j, S R j) ∧ (∃ i, S i T) ∧ ∃ i, S i B)
/-- The ink that was seen ahead of a pixel. -/
def Seen (z : Nat → Bool) (W y x i j : Nat) : Prop := i < W ∧ (j < y ∨ (j = y ∧ i < x)) ∧ z (j * W + i) = true

theorem bndP_congr {S S' : Nat → Nat → Prop} {W H : Nat} {l t r b : Int} (h : BndP S W H l t r b) (e : ∀ i j, S i j ↔ S' i j) : BndP S' W H l t r b := by
  have e' : S = S' := funext fun i => funext fun j => propext (e i j)
  rw [← e']; exact h

theorem bndP_step {S S' : Nat → Nat → Prop} {W H x y : Nat} {l t r b : Int} (hx : x < W) (hy : y < H) (h : BndP S W H l t r b) (e : ∀ i j, S' i j ↔ S i j ∨ (i = x ∧ j = y)) : BndP S' W H (min l x) (min t y) (max r x) (max b y) := by
  rcases h with ⟨rfl, rfl, rfl, rfl, h0⟩ | ⟨L, T, R, B, rfl, rfl, rfl, rfl, hb, ⟨j1, h1⟩, ⟨j2, h2⟩, ⟨i3, h3⟩, i4, h4⟩
  · have hs : S' x y := (e x y).2 (.inr ⟨rfl, rfl⟩)
    refine .inr ⟨x, y, x, y, by omega, by omega, by omega, by omega, fun i j h => ?_, ⟨y, hs⟩, ⟨y, hs⟩, ⟨x, hs⟩, x, hs⟩
    rcases (e i j).1 h with h | ⟨rfl, rfl⟩
    · exact absurd h (h0 i j)
    · exact ⟨⟨Nat.le_refl _, Nat.le_refl _⟩, Nat.le_refl _, Nat.le_refl _⟩
  · have hs : S' x y := (e x y).2 (.inr ⟨rfl, rfl⟩)
    have up : ∀ i j, S i j → S' i j := fun i j h => (e i j).2 (.inl h)
    refine .inr ⟨min L x, min T y, max R x, max B y, by omega, by omega, by omega, by omega, fun i j h => ?_, ?_, ?_, ?_, ?_⟩
    · rcases (e i j).1 h with h | ⟨rfl, rfl⟩
      · have := hb i j h; omega
      · omega
    · by_cases c : L ≤ x
      · rw [Nat.min_eq_left c]; exact ⟨j1, up _ _ h1⟩
      · rw [Nat.min_eq_right (by omega)]; exact ⟨y, hs⟩
    · by_cases c : x ≤ R
      · rw [Nat.max_eq_left c]; exact ⟨j2, up _ _ h2⟩
      · rw [Nat.max_eq_right (by omega)]; exact ⟨y, hs⟩
    · by_cases c : T ≤ y
      · rw [Nat.min_eq_left c]; exact ⟨i3, up _ _ h3⟩
      · rw [Nat.min_eq_right (by omega)]; exact ⟨x, hs⟩
    · by_cases c : y ≤ B
      · rw [Nat.max_eq_left c]; exact ⟨i4, up _ _ h4⟩
      · rw [Nat.max_eq_right (by omega)]; exact ⟨x, hs⟩

theorem seen_row (z : Nat → Bool) (W y i j : Nat) : Seen z W y W i j ↔ Seen z W (y + 1) 0 i j := by
  unfold Seen
  constructor
  · rintro ⟨h1, h2, h3⟩; exact ⟨h1, by omega, h3⟩
  · rintro ⟨h1, h2, h3⟩; exact ⟨h1, by omega, h3⟩
theorem seen_no (z : Nat → Bool) (W y x i j : Nat) (h : z (y * W + x) = false) : Seen z W y x i j ↔ Seen z W y (x + 1) i j := by
  unfold Seen
  constructor
  · rintro ⟨h1, h2, h3⟩; exact ⟨h1, by omega, h3⟩
  · rintro ⟨h1, h2, h3⟩
    refine ⟨h1, ?_, h3⟩
    rcases h2 with h2 | ⟨rfl, h2⟩
    · exact .inl h2
    · by_cases e : i = x
      · subst e; rw [h] at h3; cases h3
      · exact .inr ⟨rfl, by omega⟩
theorem seen_yes (z : Nat → Bool) (W y x i j : Nat) (hx : x < W) (h : z (y * W + x) = true) : Seen z W y (x + 1) i j ↔ Seen z W y x i j ∨ (i = x ∧ j = y) := by
  unfold Seen
  constructor
  · rintro ⟨h1, h2, h3⟩
    by_cases e : i = x ∧ j = y
    · exact .inr e
    · exact .inl ⟨h1, by omega, h3⟩
  · rintro (⟨h1, h2, h3⟩ | ⟨rfl, rfl⟩)
    · exact ⟨h1, by omega, h3⟩
    · exact ⟨hx, .inr ⟨rfl, by omega⟩, h⟩

theorem bndP_end {z : Nat → Bool} {W H : Nat} {l t r b : Int} (h : BndP (Seen z W H 0) W H l t r b) :
    (r < 0 ∧ BoxIs z W H 0 0 0 0 false) ∨ (0 ≤ r ∧ BoxIs z W H l t (r - l + 1) (b - t + 1) true) := by
  rcases h with ⟨rfl, rfl, rfl, rfl, h0⟩ | ⟨L, T, R, B, rfl, rfl, rfl, rfl, hb, ⟨j1, h1⟩, ⟨j2, h2⟩, ⟨i3, h3⟩, i4, h4⟩
  · refine .inl ⟨by omega, .inl ⟨rfl, rfl, rfl, rfl, rfl, fun i j hi hj => ?_⟩⟩
    cases e : z (j * W + i)
    · rfl
    · exact absurd ⟨hi, .inl hj, e⟩ (h0 i j)
  · refine .inr ⟨by omega, .inr ⟨rfl, L, T, R, B, rfl, rfl, rfl, rfl, fun i j hi hj hz => hb i j ⟨hi, .inl hj, hz⟩, ⟨⟨j1, ?_, h1.2.2⟩, h1.1⟩, ⟨⟨j2, ?_, h2.2.2⟩, h2.1⟩, ⟨⟨i3, h3.1, h3.2.2⟩, ?_⟩, ⟨i4, h4.1, h4.2.2⟩, ?_⟩⟩
    · rcases h1.2.1 with e | ⟨_, e⟩ <;> omega
    · rcases h2.2.1 with e | ⟨_, e⟩ <;> omega
    · rcases h3.2.1 with e | ⟨_, e⟩ <;> omega
    · rcases h4.2.1 with e | ⟨_, e⟩ <;> omega

theorem four_new (w : World) (A0 A1 A2 A3 : Obj) :
    ((((w.alloc A0).alloc A1).alloc A2).alloc A3).drew.heap[w.heap.size]? = some A0 ∧ ((((w.alloc A0).alloc A1).alloc A2).alloc A3).drew.heap[w.heap.size + 1]? = some A1 ∧
    ((((w.alloc A0).alloc A1).alloc A2).alloc A3).drew.heap[w.heap.size + 1 + 1]? = some A2 ∧ ((((w.alloc A0).alloc A1).alloc A2).alloc A3).drew.heap[w.heap.size + 1 + 1 + 1]? = some A3 := by
  refine ⟨?_, ?_, ?_, ?_⟩
  · show ((((w.alloc A0).alloc A1).alloc A2).alloc A3).heap[w.heap.size]? = some A0
    rw [Below.heap_alloc _ _ _ (by simp <;> omega), Below.heap_alloc _ _ _ (by simp <;> omega), Below.heap_alloc _ _ _ (by simp)]
    exact heap_alloc_new _ _
  · show ((((w.alloc A0).alloc A1).alloc A2).alloc A3).heap[w.heap.size + 1]? = some A1
    rw [Below.heap_alloc _ _ _ (by simp <;> omega), Below.heap_alloc _ _ _ (by simp)]
    simpa using heap_alloc_new (w.alloc A0) A1
  · show ((((w.alloc A0).alloc A1).alloc A2).alloc A3).heap[w.heap.size + 1 + 1]? = some A2
    rw [Below.heap_alloc _ _ _ (by simp)]
    simpa using heap_alloc_new ((w.alloc A0).alloc A1) A2
  · show ((((w.alloc A0).alloc A1).alloc A2).alloc A3).heap[w.heap.size + 1 + 1 + 1]? = some A3
    simpa using heap_alloc_new (((w.alloc A0).alloc A1).alloc A2) A3

theorem box_range {z : Nat → Bool} {W H : Nat} {l t r b : Int} (h : BoxIs z W H l t (r - l + 1) (b - t + 1) true) : (0 ≤ l ∧ l < W ∧ 0 ≤ r ∧ r < W) ∧ 0 ≤ t ∧ t < H ∧ 0 ≤ b ∧ b < H := by
  rcases h with ⟨h, _⟩ | ⟨_, L, T, R, B, rfl, rfl, h1, h2, hb⟩
  · cases h
  · have := hb.2.1.2
    have := hb.2.2.1.2
    have := hb.2.2.2.1.2
    have := hb.2.2.2.2.2
    omega

theorem bounds_badPage (a b : Int) (p : Option Addr) (n c : Nat) (w : World) (h : pageErr a b n ≠ 0) :
    Calls Try.prog 99 #[.agg #[.int .i64 a, .int .i64 b, .slice p n c]] w fun e w' => e = .returned (.tuple #[.agg #[.int .i64 0, .int .i64 0, .int .i64 0, .int .i64 0], .int .i64 (pageErr a b n)]) ∧ Below w.heap.size w w' := by
  have h' : (pageErr a b n != 0) = true := by simpa using h
  clear h
  go_enter Try.func99, Try.ntmps99
  go_wp2_with ((go_at_call 25; refine (checkBits_any _ _ _ _ _ _).mono ?_; rintro e w' ⟨rfl, rfl⟩))
  refine bodyPost_ret (v := .tuple #[.agg #[.int .i64 0, .int .i64 0, .int .i64 0, .int .i64 0], .int .i64 (pageErr a b n)]) (by simp [results, Try.results99, go_sem]) rfl ⟨rfl, below_alloc (below_alloc (new_below _ _) _) _⟩

set_option maxHeartbeats 1000000 in
set_option maxRecDepth 100000 in
theorem bounds_ok (W H g o c : Nat) (z : Nat → Bool) (w : World) (hs : sizeErr W H = 0)
    (hp : ∀ j, j < W * H → w.cell? ⟨g, o + j, none⟩ = some (.bool (z j))) :
    Calls Try.prog 99 #[.agg #[.int .i64 W, .int .i64 H, .slice (some ⟨g, o, none⟩) (W * H) c]] w fun e w' =>
      ∃ X Y bw bh q, e = .returned (.tuple #[.agg #[.int .i64 X, .int .i64 Y, .int .i64 bw, .int .i64 bh], .int .i64 (if q then 0 else 10)]) ∧ BoxIs z W H X Y bw bh q ∧ Below w.heap.size w w' := by
  have hmf : ∀ (fn : Fn) (first cap : Array Value) (w : World), (Instr.makeFunc fn first cap).run Try.prog w = .ok (.func fn first cap) w := fun _ _ _ _ => rfl
  obtain ⟨⟨a1, a2, a3, a4⟩, z0, z1⟩ := sizeErr_zero hs
  have hpe : pageErr W H (W * H) = 0 := by unfold pageErr; rw [if_pos hs, if_pos (by simp [Int.natCast_mul])]
  have hgw : g < w.heap.size := by
    have := World.block_lt_of_cell? _ _ (hp 0 (Nat.mul_pos (by omega) (by omega)))
    simpa using this
  have HC := Lib.hid hp
  clear hp hs z0 z1
  go_enter Try.func99, Try.ntmps99
  go_upto_region 4 with ((go_at_call 25; refine (checkBits_any _ _ _ _ _ _).mono ?_; rintro e w' ⟨rfl, rfl⟩))
  obtain ⟨w3, hw3⟩ : ∃ w3, w3 = ((w.alloc (.cells #[.int .i64 W, .int .i64 H, .slice (some ⟨g, o, none⟩) (W * H) c] 40)).alloc (.cells #[.int .i64 0, .int .i64 0, .int .i64 0, .int .i64 0] 65)).alloc (.cells #[.int .i64 W, .int .i64 H, .slice (some ⟨g, o, none⟩) (W * H) c] 40) := ⟨_, rfl⟩
  have B3 : Below w.heap.size w w3 := by rw [hw3]; exact below_alloc (below_alloc (new_below _ _) _) _
  have q0 : w3.cell? ⟨w.heap.size, 0, none⟩ = some (.int .i64 W) := by rw [hw3]; go_simp
  have q1 : w3.cell? ⟨w.heap.size, 1, none⟩ = some (.int .i64 H) := by rw [hw3]; go_simp
  have q2 : w3.cell? ⟨w.heap.size, 2, none⟩ = some (.slice (some ⟨g, o, none⟩) (W * H) c) := by rw [hw3]; go_simp
  have qb : w3.heap[w.heap.size + 1]? = some (.cells #[.int .i64 0, .int .i64 0, .int .i64 0, .int .i64 0] 65 (0, 0)) := by
    rw [hw3, Below.heap_alloc _ _ _ (by simp)]
    simpa using heap_alloc_new (w.alloc (.cells #[.int .i64 W, .int .i64 H, .slice (some ⟨g, o, none⟩) (W * H) c] 40)) (.cells #[.int .i64 0, .int .i64 0, .int .i64 0, .int .i64 0] 65)
  have hsz : w3.heap.size = w.heap.size + 3 := by rw [hw3]; simp
  have l0 : w.heap.size < w3.heap.size := by omega
  have l1 : w.heap.size < w3.heap.size + 1 := by omega
  have l2 : w.heap.size < w3.heap.size + 1 + 1 := by omega
  have l3 : w.heap.size < w3.heap.size + 1 + 1 + 1 := by omega
  rw [← hw3]
  clear hw3 hpe
  have HB3 := Lib.hid B3
  have HQB := Lib.hid qb
  have HSZ := Lib.hid hsz
  clear B3 qb hsz
  go_cut [5, 6, 7, 8] from 9 (fun t5 t6 t7 t8 wx => ∃ lb tb rb bb : Nat, t5 = .pointer (some ⟨lb, 0, none⟩) ∧ t6 = .pointer (some ⟨tb, 0, none⟩) ∧ t7 = .pointer (some ⟨rb, 0, none⟩) ∧ t8 = .pointer (some ⟨bb, 0, none⟩) ∧ Hid (Apart4 w3.heap.size lb tb rb bb ∧ Four lb tb rb bb W H (-1) (-1) wx ∧ Below w3.heap.size w3 wx))
  case first =>
    go_region
    all_goals
      go_wp2_with fail
      go_meet
      case rel =>
        refine ⟨_, _, _, _, rfl, rfl, rfl, rfl, Lib.hid ⟨⟨⟨?_, ?_, ?_, ?_⟩, ⟨?_, ?_, ?_⟩, ⟨?_, ?_⟩, ?_⟩, ?_, (below_alloc (below_alloc (below_alloc (new_below _ _) _) _) _).drew⟩⟩
        all_goals first | omega | skip
        obtain ⟨f0, f1, f2, f3⟩ := four_new w3 _ _ _ _
        refine ⟨?_, ?_, ?_, ?_⟩
        all_goals with_reducible first | exact f0 | exact f1 | exact f2 | exact f3
  case rest =>
    obtain ⟨w4, rfl⟩ : ∃ w4, w4 = wc := ⟨_, rfl⟩
    obtain ⟨lb, tb, rb, bb, rfl, rfl, rfl, rfl, HF⟩ := hcut
    have HA := Lib.hid HF.out.1
    have HB4 := Lib.hid HF.out.2.2
    have HFo := Lib.hid HF.out.2.1
    clear HF
    have k0 := cell_later HB4.out q0
    have k1 := cell_later HB4.out q1
    have k2 := cell_later HB4.out q2
    clear q0 q1 q2
    go_wp2_with fail
    refine (eachInk_any W H g o c 126 #[.pointer (some ⟨lb, 0, none⟩), .pointer (some ⟨rb, 0, none⟩), .pointer (some ⟨tb, 0, none⟩), .pointer (some ⟨bb, 0, none⟩)] z (fun y x wx => ∃ l t r b : Int, Four lb tb rb bb l t r b wx ∧ BndP (Seen z W y x) W H l t r b ∧ Below w3.heap.size w4 wx) (fun k => k ≠ lb ∧ k ≠ tb ∧ k ≠ rb ∧ k ≠ bb) w4 ⟨by omega, by omega⟩ ⟨by omega, by omega⟩ (Go.Proofs.enters_of Try.func126 (by kernel_rfl) rfl) (fun j hj => cell_later HB4.out (cell_later HB3.out (HC.out j hj))) ?_ ?_ ?_ ?_ ?_ ?_).mono ?_
    · obtain ⟨⟨g1, g2, g3, g4⟩, -⟩ := HA.out
      omega
    · obtain ⟨e1, e2, e3, e4⟩ := HFo.out
      have b1 := (Array.getElem?_eq_some_iff.1 e1).1
      have b2 := (Array.getElem?_eq_some_iff.1 e2).1
      have b3 := (Array.getElem?_eq_some_iff.1 e3).1
      have b4 := (Array.getElem?_eq_some_iff.1 e4).1
      omega
    · obtain ⟨e1, e2, e3, e4⟩ := HFo.out
      have nb := new_below w4 (.cells #[.int .i64 W, .int .i64 H, .slice (some ⟨g, o, none⟩) (W * H) c] 40)
      refine ⟨W, H, -1, -1, ⟨below_block nb e1, below_block nb e2, below_block nb e3, below_block nb e4⟩, .inl ⟨rfl, rfl, rfl, rfl, fun i j h => ?_⟩, (Below.refl _ _).alloc HB4.out.size _⟩
      obtain ⟨-, h, -⟩ := h
      omega
    · rintro y wx hy ⟨l, t, r, b, h1, h2, h3⟩
      exact ⟨l, t, r, b, h1, bndP_congr h2 (seen_row z W y), h3⟩
    · rintro y x wx hx hy hz ⟨l, t, r, b, h1, h2, h3⟩
      exact ⟨l, t, r, b, h1, bndP_congr h2 fun i j => seen_no z W y x i j hz, h3⟩
    · rintro y x wx hx hy hz ⟨l, t, r, b, h1, h2, h3⟩
      refine (bounds1_any x y w3.heap.size lb tb rb bb l t r b wx HA.out h1).mono ?_
      rintro e w' ⟨rfl, h1', hb', hk'⟩
      exact ⟨rfl, ⟨_, _, _, _, h1', bndP_step hx hy h2 fun i j => seen_yes z W y x i j hx hz, h3.trans hb'⟩, hk'⟩
    · rintro e w5 ⟨rfl, l, t, r, b, h1, h2, h3⟩
      have hend := bndP_end h2
      obtain ⟨c1, f1⟩ := block1 h1.1
      obtain ⟨c2, f2⟩ := block1 h1.2.1
      obtain ⟨c3, f3⟩ := block1 h1.2.2.1
      obtain ⟨c4, f4⟩ := block1 h1.2.2.2
      have qb5 : w5.heap[w.heap.size + 1]? = _ := (h3.block _ (by have := HSZ.out; omega)).trans ((HB4.out.block _ (by have := HSZ.out; omega)).trans HQB.out)
      obtain ⟨⟨j0, j1, j2, j3⟩, r0, r1, r2, r3⟩ := block4 qb5
      have lb5 := (Array.getElem?_eq_some_iff.1 qb5).1
      have HB5 := Lib.hid ((HB3.out.trans (HB4.out.mono (by omega))).trans (h3.mono (by omega)))
      have hd := HA.out
      clear qb5 h1 h2 h3 k0 k1 k2
      obtain ⟨⟨g1, g2, g3, g4⟩, -⟩ := hd
      have hsz := HSZ.out
      have n1 : lb ≠ w.heap.size + 1 := by omega
      have n2 : tb ≠ w.heap.size + 1 := by omega
      have n3 : rb ≠ w.heap.size + 1 := by omega
      have n4 : bb ≠ w.heap.size + 1 := by omega
      clear hsz
      rcases hend with ⟨hr, hB⟩ | ⟨hr, hB⟩
      · have HE := Lib.hid hB
        clear hB
        go_wp2_with fail
        refine bodyPost_ret (v := .tuple #[.agg #[.int .i64 0, .int .i64 0, .int .i64 0, .int .i64 0], .int .i64 10]) (by simp [results, Try.results99, go_sem, j0, j1, j2, j3]) rfl ⟨0, 0, 0, 0, false, rfl, HE.out, ?_⟩
        exact (((HB5.out.setCell (by simp) _).setCell (by simp) _).setCell (by simp) _).setCell (by simp) _
      · have HE := Lib.hid hB
        obtain ⟨⟨v1, v2, v3, v4⟩, v5, v6, v7, v8⟩ := box_range hB
        clear hB
        go_wp2_with fail
        refine bodyPost_ret (v := .tuple #[.agg #[.int .i64 l, .int .i64 t, .int .i64 (r - l + 1), .int .i64 (b - t + 1)], .int .i64 0]) (by simp [results, Try.results99, go_sem, j0, j1, j2, j3]) rfl ⟨_, _, _, _, true, rfl, HE.out, ?_⟩
        exact (((HB5.out.setCell (by simp) _).setCell (by simp) _).setCell (by simp) _).setCell (by simp) _

/-- The error of Bounds. -/
def bndErr (E : Int) (q : Bool) : Int := if E = 0 then (if q then 0 else 10) else E

theorem bounds_any (a b : Int) (s : Option Addr) (n c : Nat) (z : Nat → Bool) (w : World) (hs : IsBools w s n c z) :
    Calls Try.prog 99 #[.agg #[.int .i64 a, .int .i64 b, .slice s n c]] w fun e w' =>
      ∃ X Y bw bh q, e = .returned (.tuple #[.agg #[.int .i64 X, .int .i64 Y, .int .i64 bw, .int .i64 bh], .int .i64 (bndErr (pageErr a b n) q)]) ∧ ((pageErr a b n ≠ 0 ∧ X = 0 ∧ Y = 0 ∧ bw = 0 ∧ bh = 0) ∨ (pageErr a b n = 0 ∧ BoxIs z a.toNat b.toNat X Y bw bh q)) ∧ Below w.heap.size w w' := by
  by_cases h : pageErr a b n = 0
  · obtain ⟨W, H, rfl, rfl, hn, w1, w2, h1, h2, hN, he⟩ := page_nat h
    obtain ⟨g, o, rfl, hc⟩ := isBools_cells hs (by rw [hn]; exact Nat.mul_pos w1 h1)
    subst hn
    refine (bounds_ok W H g o c z w he hc).mono ?_
    rintro e w' ⟨X, Y, bw, bh, q, rfl, hB, hbel⟩
    exact ⟨X, Y, bw, bh, q, by rw [h]; rfl, .inr ⟨h, hB⟩, hbel⟩
  · refine (bounds_badPage a b s n c w h).mono ?_
    rintro e w' ⟨rfl, hbel⟩
    exact ⟨0, 0, 0, 0, false, by unfold bndErr; rw [if_neg h], .inl ⟨h, rfl, rfl, rfl, rfl⟩, hbel⟩

end Go.Proofs.Ytofcojcfcpfdmaa
namespace Go.Proofs.Ytofcojcfcpfdmaa
open Go.RowKit
set_option linter.unusedSimpArgs false
set_option linter.unusedVariables false

/-- Whether there is ink. -/
def anyInk (z : Nat → Bool) (n : Nat) : Bool := (List.range n).any z
theorem anyInk_true {z : Nat → Bool} {n k : Nat} (hk : k < n) (h : z k = true) : anyInk z n = true := by
  unfold anyInk; rw [List.any_eq_true]; exact ⟨k, List.mem_range.2 hk, h⟩
theorem anyInk_false {z : Nat → Bool} {n : Nat} (h : ∀ k, k < n → z k = false) : anyInk z n = false := by
  unfold anyInk; rw [List.any_eq_false]; intro x hx; rw [h x (List.mem_range.1 hx)]; simp
theorem box_any {z : Nat → Bool} {W H : Nat} {X Y bw bh : Int} {q : Bool} (hW : 1 ≤ W) (h : BoxIs z W H X Y bw bh q) : q = anyInk z (W * H) := by
  rcases h with ⟨rfl, _, _, _, _, h⟩ | ⟨rfl, L, T, R, B, _, _, _, _, hb⟩
  · rw [anyInk_false]
    intro k hk
    have h1 := h (k % W) (k / W) (Nat.mod_lt _ (by omega)) (Nat.div_lt_of_lt_mul hk)
    rw [Nat.mul_comm, Nat.div_add_mod] at h1
    exact h1
  · obtain ⟨_, ⟨⟨j, hj, hz⟩, hL⟩, _⟩ := hb
    have hfit := row_fits hj (show L + 1 ≤ W by omega)
    rw [anyInk_true (k := j * W + L) (by omega) hz]

end Go.Proofs.Ytofcojcfcpfdmaa
namespace Go.Proofs.Ytofcojcfcpfdmaa
open Go.ChangeShapes Go.WideShapes Go.ChangeAt Go.RowKit Go.Joins
open Go.ChangeMaps (open_string shut_string)
set_option linter.unusedVariables false

set_option maxRecDepth 100000 in
/-- A page in grey by value, opened. -/
theorem open_grayN {W : World} {H : Type} {enc : TypeId × Value → H} {base : Nat} {held : Bool} {r : Reach} {b0 : Nat} {v : Value} {d : DataW H} {p : List MemPlace}
    (hv : Value.okWide Try.prog W r b0 24 v) (h : DataW.Trod enc Try.prog W base (fun _ => true) held 24 v d p) :
    ∃ a b s n c zs, v = .agg #[.int .i64 a, .int .i64 b, .slice s n c] ∧ IsBytes W s n c zs ∧ n ≤ 9223372036854775807 := by
  obtain ⟨c0, c1, c2, y0, y1, y2, m, rfl, rfl, rfl, hy0, hy1, hy2⟩ := open_agg3 Try.underlying24 (by kernel_rfl) cellsGray hv h
  obtain ⟨a, e0, rfl, wa⟩ := DataW.trod_int Try.underlying3 hy0
  obtain ⟨b, e1, rfl, wb⟩ := DataW.trod_int Try.underlying3 hy1
  simp at e0 e1
  subst e0 e1
  rcases open_ints Try.underlying22 Try.underlying5 cellsByte hy2 with ⟨hcs, _⟩ | ⟨x, l, c, zs, hcs, _, hl, hm, hz, _, hcell, hwz⟩
  · simp at hcs
    subst hcs
    exact ⟨a, b, none, 0, 0, [], rfl, .inl ⟨rfl, rfl, rfl, rfl⟩, by decide⟩
  · simp at hcs
    subst hcs
    exact ⟨a, b, some x, l, c, zs, rfl, .inr ⟨x, rfl, hl, by simpa using hz, hcell, hwz⟩, by unfold maxLen at hm; omega⟩

set_option maxRecDepth 100000 in
/-- A page in black and white by value, opened. -/
theorem open_bitsN {W : World} {H : Type} {enc : TypeId × Value → H} {base : Nat} {held : Bool} {r : Reach} {b0 : Nat} {v : Value} {d : DataW H} {p : List MemPlace}
    (hv : Value.okWide Try.prog W r b0 40 v) (h : DataW.Trod enc Try.prog W base (fun _ => true) held 40 v d p) :
    ∃ a b s n c B, v = .agg #[.int .i64 a, .int .i64 b, .slice s n c] ∧ IsBools W s n c B ∧ n ≤ 9223372036854775807 := by
  obtain ⟨c0, c1, c2, y0, y1, y2, m, rfl, rfl, rfl, hy0, hy1, hy2⟩ := open_agg3 Try.underlying40 (by kernel_rfl) cellsBits hv h
  obtain ⟨a, e0, rfl, wa⟩ := DataW.trod_int Try.underlying3 hy0
  obtain ⟨b, e1, rfl, wb⟩ := DataW.trod_int Try.underlying3 hy1
  simp at e0 e1
  subst e0 e1
  rcases Go.Deep.open_bools Try.underlying38 Try.underlying4 cellsBool hy2 with ⟨hcs, _⟩ | ⟨x, l, c, B, hcs, _, hl, hm, _, hcell⟩
  · simp at hcs
    subst hcs
    exact ⟨a, b, none, 0, 0, fun _ => false, rfl, .inl ⟨rfl, rfl, rfl⟩, by decide⟩
  · simp at hcs
    subst hcs
    exact ⟨a, b, some x, l, c, B, rfl, .inr ⟨x, rfl, fun i hi => hcell i (by omega)⟩, by unfold maxLen at hm; omega⟩

end Go.Proofs.Ytofcojcfcpfdmaa
namespace Go.Proofs.Ytofcojcfcpfdmaa
open Go.RowKit
set_option linter.unusedSimpArgs false
set_option linter.unusedVariables false

/-- The mean of the pixels of a square of two by two from (2x, 2y) on, as far as they are there. -/
def mean4 (P : Nat → Int) (W H x y : Nat) : Int :=
  (2 * rectSum P W (2 * y) (2 * x) (min (2 * x + 2) W - 2 * x) (min (2 * y + 2) H - 2 * y) + (((min (2 * x + 2) W - 2 * x) * (min (2 * y + 2) H - 2 * y) : Nat) : Int)) / (2 * (((min (2 * x + 2) W - 2 * x) * (min (2 * y + 2) H - 2 * y) : Nat) : Int))

end Go.Proofs.Ytofcojcfcpfdmaa
namespace Go.Proofs.Ytofcojcfcpfdmaa
open Go.RowKit
set_option linter.unusedSimpArgs false
set_option linter.unusedVariables false

set_option maxRecDepth 100000 in
theorem clone_any (g o n c : Nat) (z : Nat → Bool) (w : World) (hn : 1 ≤ n) (hn' : n ≤ 1048576) (hc : ∀ j, j < n → w.cell? ⟨g, o + j, none⟩ = some (.bool (z j))) :
    Calls Try.prog 80 #[.slice (some ⟨g, o, none⟩) n c] w fun e w' =>
      ∃ v, e = .returned v ∧ w'.ownsRow w.heap.size 4 1 v n ((List.range n).map fun k => Value.bool (z k)) ∧ Below w.heap.size w w' := by
  have qT : ∀ (w : World) (a : Option Addr) (n c n' c' : Nat), (binOp .eql 38 (.slice a n c) (.slice none n' c')).run Try.prog w = .ok (.bool a.isNone) w := fun w a n c n' c' => Lib.run_eql_slice_nil w _ _ a n c n' c' Try.underlying38
  obtain ⟨i0, hi, hz0, hz1, hz2⟩ := info_parts info_bool
  have HC := Lib.hid hc
  clear hc
  go_enter Try.func80, Try.ntmps80
  have hown : (w.alloc (.cells #[] 4)).ownsRow w.heap.size 4 1 (.slice (some ⟨w.heap.size, 0, none⟩) 0 0) 0 [] := World.ownsRow_made w #[] 0 (Nat.le_refl _) (by unfold maxLen; omega) rfl
  have HN := Lib.hid (show ∀ j u, ((List.range n).map fun k => Value.bool (z k))[j]? = some u → (w.alloc (.cells #[] 4)).cell? ((⟨g, o, none⟩ : Addr).add j) = some u by
    intro j u hu
    rw [List.getElem?_map] at hu
    by_cases hj : j < n
    · rw [List.getElem?_range hj] at hu
      simp at hu
      subst hu
      rw [Addr.add_lit]
      exact cell_later (new_below _ _) (HC.out j hj)
    · rw [List.getElem?_eq_none (by simpa using hj)] at hu
      simp at hu)
  have HO := Lib.hid hown
  clear hown
  go_wp2_with (at_builtin; refine wpList_append_own _ rfl _ _ 38 rfl w.heap.size 4 i0 (.bool false) 1 1 Try.underlying38 hi hz0 hz1 hz2 rfl (by decide) _ _ _ rfl HO.out ⟨g, o, none⟩ n c ((List.range n).map fun k => Value.bool (z k)) rfl ?c0 HN.out ?c2 ?c3 ?c4 ?c5 ?_)
  case c0 => simp
  case c2 => intro u hu; simp at hu; obtain ⟨k, _, rfl⟩ := hu; rfl
  case c3 => unfold maxLen; omega
  case c4 => omega
  case c5 => simp
  · intro v' w2 hown2 hgr2 _
    have B2 : Below w.heap.size w w2 := (new_below w (.cells #[] 4)).grown hgr2 (by simp) (fun k hk => by simp [Value.ownBlock] at hk; omega)
    have H2 := Lib.hid hown2
    clear hown2 hgr2
    go_wp2_with fail
    go_ret
    exact ⟨v', rfl, H2.out, B2⟩

theorem overlap_far (W S x : Int) (w : World) (hW : 1 ≤ W ∧ W ≤ 4000) (hS : 1 ≤ S ∧ S ≤ 4000) (h : W ≤ x ∨ x ≤ - S) :
    Calls Try.prog 81 #[.int .i64 W, .int .i64 S, .int .i64 x] w fun e w' => e = .returned (.tuple #[.int .i64 0, .int .i64 0]) ∧ w = w' := by
  by_cases h1 : W ≤ x
  · clear h
    go_enter Try.func81, Try.ntmps81
    go_wp2_with fail
    go_ret2
    exact ⟨rfl, rfl⟩
  · have h2 : x ≤ - S := by omega
    clear h
    go_enter Try.func81, Try.ntmps81
    go_wp2_with fail
    go_ret2
    exact ⟨rfl, rfl⟩

theorem overlap_near (W S x : Int) (w : World) (hW : 1 ≤ W ∧ W ≤ 4000) (hS : 1 ≤ S ∧ S ≤ 4000) (h1 : x < W) (h2 : - S < x) :
    Calls Try.prog 81 #[.int .i64 W, .int .i64 S, .int .i64 x] w fun e w' => e = .returned (.tuple #[.int .i64 (max (-x) 0), .int .i64 (min S (W - x))]) ∧ w = w' := by
  go_enter Try.func81, Try.ntmps81
  go_wp2_with fail
  go_ret2
  exact ⟨rfl, rfl⟩

end Go.Proofs.Ytofcojcfcpfdmaa
namespace Go.Proofs.Ytofcojcfcpfdmaa
open Go.RowKit
set_option linter.unusedSimpArgs false
set_option linter.unusedVariables false

/-- From f to t a side of length S that begins at x lies in a side of length W, and nothing else of it does. -/
def OvOK (W S : Nat) (x : Int) (f t : Nat) : Prop :=
  f ≤ t ∧ t ≤ 4000 ∧ (∀ i : Nat, f ≤ i → i < t → i < S ∧ 0 ≤ x + i ∧ x + i < W) ∧ ∀ a : Nat, a < W → 0 ≤ (a : Int) - x → (a : Int) - x < S → (f : Int) ≤ a - x ∧ (a : Int) - x < t

theorem overlap_any (W S : Nat) (x : Int) (w : World) (hW : 1 ≤ W ∧ W ≤ 4000) (hS : 1 ≤ S ∧ S ≤ 4000) :
    Calls Try.prog 81 #[.int .i64 W, .int .i64 S, .int .i64 x] w fun e w' => ∃ f t : Nat, e = .returned (.tuple #[.int .i64 f, .int .i64 t]) ∧ OvOK W S x f t ∧ w = w' := by
  by_cases h : (W : Int) ≤ x ∨ x ≤ - (S : Int)
  · refine (overlap_far W S x w (by omega) (by omega) h).mono ?_
    rintro e w' ⟨rfl, rfl⟩
    refine ⟨0, 0, rfl, ⟨Nat.le_refl _, by omega, fun i h1 h2 => by omega, fun a h1 h2 h3 => by omega⟩, rfl⟩
  · refine (overlap_near W S x w (by omega) (by omega) (by omega) (by omega)).mono ?_
    rintro e w' ⟨rfl, rfl⟩
    obtain ⟨f, hf⟩ := Int.eq_ofNat_of_zero_le (show 0 ≤ max (-x) 0 by omega)
    obtain ⟨t, ht⟩ := Int.eq_ofNat_of_zero_le (show 0 ≤ min (S : Int) (W - x) by omega)
    refine ⟨f, t, by rw [hf, ht], ⟨by omega, by omega, fun i h1 h2 => by omega, fun a h1 h2 h3 => by omega⟩, rfl⟩

/-- The place (a, b) lies in the other page. -/
def InC (Wc Hc : Nat) (x y : Int) (a b : Nat) : Prop := (0 ≤ (a : Int) - x ∧ (a : Int) - x < Wc) ∧ (0 ≤ (b : Int) - y ∧ (b : Int) - y < Hc)
instance (Wc Hc : Nat) (x y : Int) (a b : Nat) : Decidable (InC Wc Hc x y a b) := by unfold InC; infer_instance

/-- A place of the page with the other one pasted. -/
def pasteAt (W Wc Hc : Nat) (x y : Int) (z1 z2 : Nat → Bool) (a b : Nat) : Bool :=
  z1 (b * W + a) || (decide (InC Wc Hc x y a b) && z2 (((b : Int) - y).toNat * Wc + ((a : Int) - x).toNat))

/-- .. when rows before j and places before i of row j have been pasted. -/
def pasteVal (W Wc Hc : Nat) (x y : Int) (z1 z2 : Nat → Bool) (j i k : Nat) : Bool :=
  z1 k || (decide (InC Wc Hc x y (k % W) (k / W) ∧ ((((k / W : Nat) : Int) - y < j) ∨ (((k / W : Nat) : Int) - y = j ∧ ((k % W : Nat) : Int) - x < i))) && z2 ((((k / W : Nat) : Int) - y).toNat * Wc + (((k % W : Nat) : Int) - x).toNat))

def pasteList (W n Wc Hc : Nat) (x y : Int) (z1 z2 : Nat → Bool) (j i : Nat) : List Value := (List.range n).map fun k => Value.bool (pasteVal W Wc Hc x y z1 z2 j i k)

theorem divmod_wh {W H k : Nat} (hW : 1 ≤ W) (hk : k < W * H) : k % W < W ∧ k / W < H :=
  ⟨Nat.mod_lt _ (by omega), Nat.div_lt_of_lt_mul hk⟩

theorem pasteList_start (W H Wc Hc : Nat) (x y : Int) (z1 z2 : Nat → Bool) (fx tx fy ty : Nat) (hW : 1 ≤ W) (hx : OvOK W Wc x fx tx) (hy : OvOK H Hc y fy ty) :
    pasteList W (W * H) Wc Hc x y z1 z2 fy fx = (List.range (W * H)).map fun k => Value.bool (z1 k) := by
  unfold pasteList
  apply List.map_congr_left
  intro k hk
  have hk' : k < W * H := by simpa using hk
  obtain ⟨m1, m2⟩ := divmod_wh hW hk'
  have : ¬ (InC Wc Hc x y (k % W) (k / W) ∧ ((((k / W : Nat) : Int) - y < fy) ∨ (((k / W : Nat) : Int) - y = fy ∧ ((k % W : Nat) : Int) - x < fx))) := by
    rintro ⟨⟨⟨c1, c2⟩, ⟨c3, c4⟩⟩, h⟩
    have h1 := hx.2.2.2 _ m1 c1 c2
    have h2 := hy.2.2.2 _ m2 c3 c4
    omega
  unfold pasteVal
  rw [decide_eq_false this]
  simp

theorem pasteList_row (W H Wc Hc : Nat) (x y : Int) (z1 z2 : Nat → Bool) (fx tx j : Nat) (hW : 1 ≤ W) (hx : OvOK W Wc x fx tx) :
    pasteList W (W * H) Wc Hc x y z1 z2 j tx = pasteList W (W * H) Wc Hc x y z1 z2 (j + 1) fx := by
  unfold pasteList
  apply List.map_congr_left
  intro k hk
  have hk' : k < W * H := by simpa using hk
  obtain ⟨m1, m2⟩ := divmod_wh hW hk'
  have : (InC Wc Hc x y (k % W) (k / W) ∧ ((((k / W : Nat) : Int) - y < j) ∨ (((k / W : Nat) : Int) - y = j ∧ ((k % W : Nat) : Int) - x < tx))) ↔ (InC Wc Hc x y (k % W) (k / W) ∧ ((((k / W : Nat) : Int) - y < (j + 1 : Nat)) ∨ (((k / W : Nat) : Int) - y = (j + 1 : Nat) ∧ ((k % W : Nat) : Int) - x < fx))) := by
    constructor
    · rintro ⟨hc, h⟩
      exact ⟨hc, by omega⟩
    · rintro ⟨hc, h⟩
      have h1 := hx.2.2.2 _ m1 hc.1.1 hc.1.2
      exact ⟨hc, by omega⟩
  unfold pasteVal
  rw [decide_eq_decide.2 this]

theorem pasteList_end (W H Wc Hc : Nat) (x y : Int) (z1 z2 : Nat → Bool) (fx fy ty : Nat) (hW : 1 ≤ W) (hy : OvOK H Hc y fy ty) (k : Nat) (hk : k < W * H) :
    pasteVal W Wc Hc x y z1 z2 ty fx k = pasteAt W Wc Hc x y z1 z2 (k % W) (k / W) := by
  obtain ⟨m1, m2⟩ := divmod_wh hW hk
  have : (InC Wc Hc x y (k % W) (k / W) ∧ ((((k / W : Nat) : Int) - y < ty) ∨ (((k / W : Nat) : Int) - y = ty ∧ ((k % W : Nat) : Int) - x < fx))) ↔ InC Wc Hc x y (k % W) (k / W) := by
    constructor
    · exact fun h => h.1
    · intro hc
      have h2 := hy.2.2.2 _ m2 hc.2.1 hc.2.2
      exact ⟨hc, by omega⟩
  unfold pasteVal pasteAt
  rw [decide_eq_decide.2 this, show k / W * W + k % W = k by rw [Nat.mul_comm]; exact Nat.div_add_mod k W]

theorem pasteList_step (W H Wc Hc : Nat) (x y : Int) (z1 z2 : Nat → Bool) (j i a b : Nat) (hW : 1 ≤ W) (ha : (a : Int) = x + i) (hb : (b : Int) = y + j) (haW : a < W) (hbH : b < H) (hi : i < Wc) (hj : j < Hc) :
    pasteList W (W * H) Wc Hc x y z1 z2 j (i + 1) = if z2 (j * Wc + i) = true then (pasteList W (W * H) Wc Hc x y z1 z2 j i).set (b * W + a) (.bool true) else pasteList W (W * H) Wc Hc x y z1 z2 j i := by
  have hdm : (b * W + a) / W = b ∧ (b * W + a) % W = a := by
    rw [Nat.mul_comm]
    exact ⟨by rw [Nat.mul_add_div (by omega), Nat.div_eq_of_lt haW, Nat.add_zero], by rw [Nat.mul_add_mod, Nat.mod_eq_of_lt haW]⟩
  have key : ∀ k, k < W * H → pasteVal W Wc Hc x y z1 z2 j (i + 1) k = if k = b * W + a then (pasteVal W Wc Hc x y z1 z2 j i k || z2 (j * Wc + i)) else pasteVal W Wc Hc x y z1 z2 j i k := by
    intro k hk
    obtain ⟨m1, m2⟩ := divmod_wh hW hk
    by_cases hkk : k = b * W + a
    · rw [if_pos hkk]
      subst hkk
      unfold pasteVal
      rw [hdm.1, hdm.2]
      have c1 : InC Wc Hc x y a b ∧ (((b : Int) - y < j) ∨ ((b : Int) - y = j ∧ (a : Int) - x < (i + 1 : Nat))) := ⟨⟨⟨by omega, by omega⟩, ⟨by omega, by omega⟩⟩, by omega⟩
      have c2 : ¬ (InC Wc Hc x y a b ∧ (((b : Int) - y < j) ∨ ((b : Int) - y = j ∧ (a : Int) - x < (i : Nat)))) := by rintro ⟨_, h⟩; omega
      rw [decide_eq_true c1, decide_eq_false c2, show ((b : Int) - y).toNat = j by omega, show ((a : Int) - x).toNat = i by omega]
      simp
    · rw [if_neg hkk]
      have : (InC Wc Hc x y (k % W) (k / W) ∧ ((((k / W : Nat) : Int) - y < j) ∨ (((k / W : Nat) : Int) - y = j ∧ ((k % W : Nat) : Int) - x < (i + 1 : Nat)))) ↔ (InC Wc Hc x y (k % W) (k / W) ∧ ((((k / W : Nat) : Int) - y < j) ∨ (((k / W : Nat) : Int) - y = j ∧ ((k % W : Nat) : Int) - x < i))) := by
        constructor
        · rintro ⟨hc, h⟩
          refine ⟨hc, ?_⟩
          rcases h with h | ⟨h1, h2⟩
          · exact .inl h
          · by_cases h3 : ((k % W : Nat) : Int) - x < i
            · exact .inr ⟨h1, h3⟩
            · exfalso
              apply hkk
              have e1 : k / W = b := by omega
              have e2 : k % W = a := by omega
              have := Nat.div_add_mod k W
              rw [e1, e2, Nat.mul_comm] at this
              omega
        · rintro ⟨hc, h⟩
          exact ⟨hc, by omega⟩
      unfold pasteVal
      rw [decide_eq_decide.2 this]
  by_cases hz : z2 (j * Wc + i) = true
  · rw [if_pos hz]
    apply List.ext_getElem
    · simp [pasteList]
    · intro k h1 h2
      have hk : k < W * H := by simpa [pasteList] using h1
      rw [List.getElem_set]
      simp only [pasteList, List.getElem_map, List.getElem_range]
      rw [key k hk]
      by_cases hkk : k = b * W + a
      · rw [if_pos hkk, if_pos hkk.symm, hz]; simp
      · rw [if_neg hkk, if_neg (fun e => hkk e.symm)]
  · rw [if_neg hz]
    have hz' : z2 (j * Wc + i) = false := by simpa using hz
    unfold pasteList
    apply List.map_congr_left
    intro k hk
    rw [key k (by simpa using hk)]
    by_cases hkk : k = b * W + a
    · rw [if_pos hkk, hz', Bool.or_false]
    · rw [if_neg hkk]

end Go.Proofs.Ytofcojcfcpfdmaa
