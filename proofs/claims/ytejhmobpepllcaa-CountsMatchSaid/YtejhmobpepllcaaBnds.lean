/-
  page.Bounds: the least box that has all ink, or an error.
-/
import Derived.Test.YtejhmobpepllcaaEnds
import Derived.Lib.MinMax
import Derived.Deep.RegionHeld3
import Derived.Deep.DeepCutAuto
namespace Go.Proofs.Ytejhmobpepllcaa
open Go.RowKit
set_option linter.unusedSimpArgs false
set_option linter.unusedVariables false

theorem block1 {w : World} {b : Nat} {x : Value} {t : TypeId} (h : w.heap[b]? = some (.cells #[x] t (0, 0))) : w.cell? ⟨b, 0, none⟩ = some x ∧ w.frozen? ⟨b, 0, none⟩ = false :=
  ⟨by rw [cell_of_row w b 0 _ t (0, 0) h]; rfl, frozen_of_row w b 0 _ t h⟩

/-- The four numbers in their boxes. -/
def Four (lb tb rb bb : Nat) (l t r b : Int) (w : World) : Prop :=
  w.heap[lb]? = some (.cells #[.int .i64 l] 3 (0, 0)) ∧ w.heap[tb]? = some (.cells #[.int .i64 t] 3 (0, 0)) ∧ w.heap[rb]? = some (.cells #[.int .i64 r] 3 (0, 0)) ∧ w.heap[bb]? = some (.cells #[.int .i64 b] 3 (0, 0))

/-- Four different blocks from N on. -/
def Apart4 (N a b c d : Nat) : Prop := (N ≤ a ∧ N ≤ b ∧ N ≤ c ∧ N ≤ d) ∧ (a ≠ b ∧ a ≠ c ∧ a ≠ d) ∧ (b ≠ c ∧ b ≠ d) ∧ c ≠ d

set_option maxHeartbeats 1000000 in
set_option maxRecDepth 100000 in
theorem bounds1_any (x y N lb tb rb bb : Nat) (l t r b : Int) (w : World) (hd : Apart4 N lb tb rb bb) (h : Four lb tb rb bb l t r b w) :
    Calls Try.prog 129 #[.int .i64 x, .int .i64 y, .pointer (some ⟨lb, 0, none⟩), .pointer (some ⟨rb, 0, none⟩), .pointer (some ⟨tb, 0, none⟩), .pointer (some ⟨bb, 0, none⟩)] w fun e w' =>
      e = .returned (.tuple #[]) ∧ Four lb tb rb bb (min l x) (min t y) (max r x) (max b y) w' ∧ Below N w w' ∧ ∀ k, k ≠ lb ∧ k ≠ tb ∧ k ≠ rb ∧ k ≠ bb → w'.heap[k]? = w.heap[k]? := by
  obtain ⟨h1, h2, h3, h4⟩ := h
  obtain ⟨c1, f1⟩ := block1 h1
  obtain ⟨c2, f2⟩ := block1 h2
  obtain ⟨c3, f3⟩ := block1 h3
  obtain ⟨c4, f4⟩ := block1 h4
  have HD := Lib.hid hd
  obtain ⟨-, ⟨n1, n2, n3⟩, ⟨n4, n5⟩, n6⟩ := hd
  have m1 := n1.symm
  have m2 := n2.symm
  have m3 := n3.symm
  have m4 := n4.symm
  have m5 := n5.symm
  have m6 := n6.symm
  have H1 := Lib.hid h1
  have H2 := Lib.hid h2
  have H3 := Lib.hid h3
  have H4 := Lib.hid h4
  clear h1 h2 h3 h4
  go_enter Try.func129, Try.ntmps129
  go_wp2_with fail
  go_region
  go_wp2_with fail
  go_region
  go_wp2_with fail
  go_end0
  obtain ⟨⟨g1, g2, g3, g4⟩, -⟩ := HD.out
  refine ⟨rfl, ⟨?_, ?_, ?_, ?_⟩, (((((Below.refl N w).setCell g1 _).setCell g3 _).setCell g2 _).setCell g4 _).drew.drew, fun k hk => ?_⟩
  · show ((((w.setCell ⟨lb, 0, none⟩ _).setCell ⟨rb, 0, none⟩ _).setCell ⟨tb, 0, none⟩ _).setCell ⟨bb, 0, none⟩ _).heap[lb]? = _
    rw [Below.heap_setCell _ _ _ _ n3, Below.heap_setCell _ _ _ _ n1, Below.heap_setCell _ _ _ _ n2]
    exact heap_setCell_same w lb 0 #[.int .i64 l] 3 _ H1.out
  · show ((((w.setCell ⟨lb, 0, none⟩ _).setCell ⟨rb, 0, none⟩ _).setCell ⟨tb, 0, none⟩ _).setCell ⟨bb, 0, none⟩ _).heap[tb]? = _
    rw [Below.heap_setCell _ _ _ _ n5]
    exact heap_setCell_same _ tb 0 #[.int .i64 t] 3 _ (by rw [Below.heap_setCell _ _ _ _ n4, Below.heap_setCell _ _ _ _ m1]; exact H2.out)
  · show ((((w.setCell ⟨lb, 0, none⟩ _).setCell ⟨rb, 0, none⟩ _).setCell ⟨tb, 0, none⟩ _).setCell ⟨bb, 0, none⟩ _).heap[rb]? = _
    rw [Below.heap_setCell _ _ _ _ n6, Below.heap_setCell _ _ _ _ m4]
    exact heap_setCell_same _ rb 0 #[.int .i64 r] 3 _ (by rw [Below.heap_setCell _ _ _ _ m2]; exact H3.out)
  · show ((((w.setCell ⟨lb, 0, none⟩ _).setCell ⟨rb, 0, none⟩ _).setCell ⟨tb, 0, none⟩ _).setCell ⟨bb, 0, none⟩ _).heap[bb]? = _
    exact heap_setCell_same _ bb 0 #[.int .i64 b] 3 _ (by rw [Below.heap_setCell _ _ _ _ m5, Below.heap_setCell _ _ _ _ m6, Below.heap_setCell _ _ _ _ m3]; exact H4.out)
  · show ((((w.setCell ⟨lb, 0, none⟩ _).setCell ⟨rb, 0, none⟩ _).setCell ⟨tb, 0, none⟩ _).setCell ⟨bb, 0, none⟩ _).heap[k]? = _
    rw [Below.heap_setCell _ _ _ _ hk.2.2.2, Below.heap_setCell _ _ _ _ hk.2.1, Below.heap_setCell _ _ _ _ hk.2.2.1, Below.heap_setCell _ _ _ _ hk.1]

/-- The least and greatest places of what was seen. -/
def BndP (S : Nat → Nat → Prop) (W H : Nat) (l t r b : Int) : Prop :=
  (l = W ∧ t = H ∧ r = -1 ∧ b = -1 ∧ ∀ i j, ¬ S i j) ∨ (∃ L T R B : Nat, l = L ∧ t = T ∧ r = R ∧ b = B ∧ (∀ i j, S i j → (L ≤ i ∧ i ≤ R) ∧ T ≤ j ∧ j ≤ B) ∧ (∃ j, S L j) ∧ (∃ j, S R j) ∧ (∃ i, S i T) ∧ ∃ i, S i B)
/-- The ink that was seen ahead of a pixel. -/
def Seen (z : Nat → Bool) (W y x i j : Nat) : Prop := i < W ∧ (j < y ∨ (j = y ∧ i < x)) ∧ z (j * W + i) = true

theorem bndP_congr {S S' : Nat → Nat → Prop} {W H : Nat} {l t r b : Int} (h : BndP S W H l t r b) (e : ∀ i j, S i j ↔ S' i j) : BndP S' W H l t r b := by
  have e' : S = S' := funext fun i => funext fun j => propext (e i j)
  rw [← e']; exact h

theorem bndP_step {S S' : Nat → Nat → Prop} {W H x y : Nat} {l t r b : Int} (hx : x < W) (hy : y < H) (h : BndP S W H l t r b) (e : ∀ i j, S' i j ↔ S i j ∨ (i = x ∧ j = y)) : BndP S' W H (min l x) (min t y) (max r x) (max b y) := by
  rcases h with ⟨rfl, rfl, rfl, rfl, h0⟩ | ⟨L, T, R, B, rfl, rfl, rfl, rfl, hb, ⟨j1, h1⟩, ⟨j2, h2⟩, ⟨i3, h3⟩, i4, h4⟩
  · have hs : S' x y := (e x y).2 (.inr ⟨rfl, rfl⟩)
    refine .inr ⟨x, y, x, y, by omega, by omega, by omega, by omega, fun i j h => ?_, ⟨y, hs⟩, ⟨y, hs⟩, ⟨x, hs⟩, x, hs⟩
    rcases (e i j).1 h with h | ⟨rfl, rfl⟩
    · exact absurd h (h0 i j)
    · exact ⟨⟨Nat.le_refl _, Nat.le_refl _⟩, Nat.le_refl _, Nat.le_refl _⟩
  · have hs : S' x y := (e x y).2 (.inr ⟨rfl, rfl⟩)
    have up : ∀ i j, S i j → S' i j := fun i j h => (e i j).2 (.inl h)
    refine .inr ⟨min L x, min T y, max R x, max B y, by omega, by omega, by omega, by omega, fun i j h => ?_, ?_, ?_, ?_, ?_⟩
    · rcases (e i j).1 h with h | ⟨rfl, rfl⟩
      · have := hb i j h; omega
      · omega
    · by_cases c : L ≤ x
      · rw [Nat.min_eq_left c]; exact ⟨j1, up _ _ h1⟩
      · rw [Nat.min_eq_right (by omega)]; exact ⟨y, hs⟩
    · by_cases c : x ≤ R
      · rw [Nat.max_eq_left c]; exact ⟨j2, up _ _ h2⟩
      · rw [Nat.max_eq_right (by omega)]; exact ⟨y, hs⟩
    · by_cases c : T ≤ y
      · rw [Nat.min_eq_left c]; exact ⟨i3, up _ _ h3⟩
      · rw [Nat.min_eq_right (by omega)]; exact ⟨x, hs⟩
    · by_cases c : y ≤ B
      · rw [Nat.max_eq_left c]; exact ⟨i4, up _ _ h4⟩
      · rw [Nat.max_eq_right (by omega)]; exact ⟨x, hs⟩

theorem seen_row (z : Nat → Bool) (W y i j : Nat) : Seen z W y W i j ↔ Seen z W (y + 1) 0 i j := by
  unfold Seen
  constructor
  · rintro ⟨h1, h2, h3⟩; exact ⟨h1, by omega, h3⟩
  · rintro ⟨h1, h2, h3⟩; exact ⟨h1, by omega, h3⟩
theorem seen_no (z : Nat → Bool) (W y x i j : Nat) (h : z (y * W + x) = false) : Seen z W y x i j ↔ Seen z W y (x + 1) i j := by
  unfold Seen
  constructor
  · rintro ⟨h1, h2, h3⟩; exact ⟨h1, by omega, h3⟩
  · rintro ⟨h1, h2, h3⟩
    refine ⟨h1, ?_, h3⟩
    rcases h2 with h2 | ⟨rfl, h2⟩
    · exact .inl h2
    · by_cases e : i = x
      · subst e; rw [h] at h3; cases h3
      · exact .inr ⟨rfl, by omega⟩
theorem seen_yes (z : Nat → Bool) (W y x i j : Nat) (hx : x < W) (h : z (y * W + x) = true) : Seen z W y (x + 1) i j ↔ Seen z W y x i j ∨ (i = x ∧ j = y) := by
  unfold Seen
  constructor
  · rintro ⟨h1, h2, h3⟩
    by_cases e : i = x ∧ j = y
    · exact .inr e
    · exact .inl ⟨h1, by omega, h3⟩
  · rintro (⟨h1, h2, h3⟩ | ⟨rfl, rfl⟩)
    · exact ⟨h1, by omega, h3⟩
    · exact ⟨hx, .inr ⟨rfl, by omega⟩, h⟩

theorem bndP_end {z : Nat → Bool} {W H : Nat} {l t r b : Int} (h : BndP (Seen z W H 0) W H l t r b) :
    (r < 0 ∧ BoxIs z W H 0 0 0 0 false) ∨ (0 ≤ r ∧ BoxIs z W H l t (r - l + 1) (b - t + 1) true) := by
  rcases h with ⟨rfl, rfl, rfl, rfl, h0⟩ | ⟨L, T, R, B, rfl, rfl, rfl, rfl, hb, ⟨j1, h1⟩, ⟨j2, h2⟩, ⟨i3, h3⟩, i4, h4⟩
  · refine .inl ⟨by omega, .inl ⟨rfl, rfl, rfl, rfl, rfl, fun i j hi hj => ?_⟩⟩
    cases e : z (j * W + i)
    · rfl
    · exact absurd ⟨hi, .inl hj, e⟩ (h0 i j)
  · refine .inr ⟨by omega, .inr ⟨rfl, L, T, R, B, rfl, rfl, rfl, rfl, fun i j hi hj hz => hb i j ⟨hi, .inl hj, hz⟩, ⟨⟨j1, ?_, h1.2.2⟩, h1.1⟩, ⟨⟨j2, ?_, h2.2.2⟩, h2.1⟩, ⟨⟨i3, h3.1, h3.2.2⟩, ?_⟩, ⟨i4, h4.1, h4.2.2⟩, ?_⟩⟩
    · rcases h1.2.1 with e | ⟨_, e⟩ <;> omega
    · rcases h2.2.1 with e | ⟨_, e⟩ <;> omega
    · rcases h3.2.1 with e | ⟨_, e⟩ <;> omega
    · rcases h4.2.1 with e | ⟨_, e⟩ <;> omega

theorem four_new (w : World) (A0 A1 A2 A3 : Obj) :
    ((((w.alloc A0).alloc A1).alloc A2).alloc A3).drew.heap[w.heap.size]? = some A0 ∧ ((((w.alloc A0).alloc A1).alloc A2).alloc A3).drew.heap[w.heap.size + 1]? = some A1 ∧
    ((((w.alloc A0).alloc A1).alloc A2).alloc A3).drew.heap[w.heap.size + 1 + 1]? = some A2 ∧ ((((w.alloc A0).alloc A1).alloc A2).alloc A3).drew.heap[w.heap.size + 1 + 1 + 1]? = some A3 := by
  refine ⟨?_, ?_, ?_, ?_⟩
  · show ((((w.alloc A0).alloc A1).alloc A2).alloc A3).heap[w.heap.size]? = some A0
    rw [Below.heap_alloc _ _ _ (by simp <;> omega), Below.heap_alloc _ _ _ (by simp <;> omega), Below.heap_alloc _ _ _ (by simp)]
    exact heap_alloc_new _ _
  · show ((((w.alloc A0).alloc A1).alloc A2).alloc A3).heap[w.heap.size + 1]? = some A1
    rw [Below.heap_alloc _ _ _ (by simp <;> omega), Below.heap_alloc _ _ _ (by simp)]
    simpa using heap_alloc_new (w.alloc A0) A1
  · show ((((w.alloc A0).alloc A1).alloc A2).alloc A3).heap[w.heap.size + 1 + 1]? = some A2
    rw [Below.heap_alloc _ _ _ (by simp)]
    simpa using heap_alloc_new ((w.alloc A0).alloc A1) A2
  · show ((((w.alloc A0).alloc A1).alloc A2).alloc A3).heap[w.heap.size + 1 + 1 + 1]? = some A3
    simpa using heap_alloc_new (((w.alloc A0).alloc A1).alloc A2) A3

theorem box_range {z : Nat → Bool} {W H : Nat} {l t r b : Int} (h : BoxIs z W H l t (r - l + 1) (b - t + 1) true) : (0 ≤ l ∧ l < W ∧ 0 ≤ r ∧ r < W) ∧ 0 ≤ t ∧ t < H ∧ 0 ≤ b ∧ b < H := by
  rcases h with ⟨h, _⟩ | ⟨_, L, T, R, B, rfl, rfl, h1, h2, hb⟩
  · cases h
  · have := hb.2.1.2
    have := hb.2.2.1.2
    have := hb.2.2.2.1.2
    have := hb.2.2.2.2.2
    omega

theorem bounds_badPage (a b : Int) (p : Option Addr) (n c : Nat) (w : World) (h : pageErr a b n ≠ 0) :
    Calls Try.prog 67 #[.agg #[.int .i64 a, .int .i64 b, .slice p n c]] w fun e w' => e = .returned (.tuple #[.agg #[.int .i64 0, .int .i64 0, .int .i64 0, .int .i64 0], .int .i64 (pageErr a b n)]) ∧ Below w.heap.size w w' := by
  have h' : (pageErr a b n != 0) = true := by simpa using h
  clear h
  go_enter Try.func67, Try.ntmps67
  go_wp2_with ((go_at_call 16; refine (checkBits_any _ _ _ _ _ _).mono ?_; rintro e w' ⟨rfl, rfl⟩))
  refine bodyPost_ret (v := .tuple #[.agg #[.int .i64 0, .int .i64 0, .int .i64 0, .int .i64 0], .int .i64 (pageErr a b n)]) (by simp [results, Try.results67, go_sem]) rfl ⟨rfl, below_alloc (below_alloc (new_below _ _) _) _⟩

set_option maxHeartbeats 1000000 in
set_option maxRecDepth 100000 in
theorem bounds_ok (W H g o c : Nat) (z : Nat → Bool) (w : World) (hs : sizeErr W H = 0)
    (hp : ∀ j, j < W * H → w.cell? ⟨g, o + j, none⟩ = some (.bool (z j))) :
    Calls Try.prog 67 #[.agg #[.int .i64 W, .int .i64 H, .slice (some ⟨g, o, none⟩) (W * H) c]] w fun e w' =>
      ∃ X Y bw bh q, e = .returned (.tuple #[.agg #[.int .i64 X, .int .i64 Y, .int .i64 bw, .int .i64 bh], .int .i64 (if q then 0 else 10)]) ∧ BoxIs z W H X Y bw bh q ∧ Below w.heap.size w w' := by
  have hmf : ∀ (fn : Fn) (first cap : Array Value) (w : World), (Instr.makeFunc fn first cap).run Try.prog w = .ok (.func fn first cap) w := fun _ _ _ _ => rfl
  obtain ⟨⟨a1, a2, a3, a4⟩, z0, z1⟩ := sizeErr_zero hs
  have hpe : pageErr W H (W * H) = 0 := by unfold pageErr; rw [if_pos hs, if_pos (by simp [Int.natCast_mul])]
  have hgw : g < w.heap.size := by
    have := World.block_lt_of_cell? _ _ (hp 0 (Nat.mul_pos (by omega) (by omega)))
    simpa using this
  have HC := Lib.hid hp
  clear hp hs z0 z1
  go_enter Try.func67, Try.ntmps67
  go_upto_region 4 with ((go_at_call 16; refine (checkBits_any _ _ _ _ _ _).mono ?_; rintro e w' ⟨rfl, rfl⟩))
  obtain ⟨w3, hw3⟩ : ∃ w3, w3 = ((w.alloc (.cells #[.int .i64 W, .int .i64 H, .slice (some ⟨g, o, none⟩) (W * H) c] 24)).alloc (.cells #[.int .i64 0, .int .i64 0, .int .i64 0, .int .i64 0] 29)).alloc (.cells #[.int .i64 W, .int .i64 H, .slice (some ⟨g, o, none⟩) (W * H) c] 24) := ⟨_, rfl⟩
  have B3 : Below w.heap.size w w3 := by rw [hw3]; exact below_alloc (below_alloc (new_below _ _) _) _
  have q0 : w3.cell? ⟨w.heap.size, 0, none⟩ = some (.int .i64 W) := by rw [hw3]; go_simp
  have q1 : w3.cell? ⟨w.heap.size, 1, none⟩ = some (.int .i64 H) := by rw [hw3]; go_simp
  have q2 : w3.cell? ⟨w.heap.size, 2, none⟩ = some (.slice (some ⟨g, o, none⟩) (W * H) c) := by rw [hw3]; go_simp
  have qb : w3.heap[w.heap.size + 1]? = some (.cells #[.int .i64 0, .int .i64 0, .int .i64 0, .int .i64 0] 29 (0, 0)) := by
    rw [hw3, Below.heap_alloc _ _ _ (by simp)]
    simpa using heap_alloc_new (w.alloc (.cells #[.int .i64 W, .int .i64 H, .slice (some ⟨g, o, none⟩) (W * H) c] 24)) (.cells #[.int .i64 0, .int .i64 0, .int .i64 0, .int .i64 0] 29)
  have hsz : w3.heap.size = w.heap.size + 3 := by rw [hw3]; simp
  have l0 : w.heap.size < w3.heap.size := by omega
  have l1 : w.heap.size < w3.heap.size + 1 := by omega
  have l2 : w.heap.size < w3.heap.size + 1 + 1 := by omega
  have l3 : w.heap.size < w3.heap.size + 1 + 1 + 1 := by omega
  rw [← hw3]
  clear hw3 hpe
  have HB3 := Lib.hid B3
  have HQB := Lib.hid qb
  have HSZ := Lib.hid hsz
  clear B3 qb hsz
  go_cut [5, 6, 7, 8] from 9 (fun t5 t6 t7 t8 wx => ∃ lb tb rb bb : Nat, t5 = .pointer (some ⟨lb, 0, none⟩) ∧ t6 = .pointer (some ⟨tb, 0, none⟩) ∧ t7 = .pointer (some ⟨rb, 0, none⟩) ∧ t8 = .pointer (some ⟨bb, 0, none⟩) ∧ Hid (Apart4 w3.heap.size lb tb rb bb ∧ Four lb tb rb bb W H (-1) (-1) wx ∧ Below w3.heap.size w3 wx))
  case first =>
    go_region
    all_goals
      go_wp2_with fail
      go_meet
      case rel =>
        refine ⟨_, _, _, _, rfl, rfl, rfl, rfl, Lib.hid ⟨⟨⟨?_, ?_, ?_, ?_⟩, ⟨?_, ?_, ?_⟩, ⟨?_, ?_⟩, ?_⟩, ?_, (below_alloc (below_alloc (below_alloc (new_below _ _) _) _) _).drew⟩⟩
        all_goals first | omega | skip
        obtain ⟨f0, f1, f2, f3⟩ := four_new w3 _ _ _ _
        refine ⟨?_, ?_, ?_, ?_⟩
        all_goals with_reducible first | exact f0 | exact f1 | exact f2 | exact f3
  case rest =>
    obtain ⟨w4, rfl⟩ : ∃ w4, w4 = wc := ⟨_, rfl⟩
    obtain ⟨lb, tb, rb, bb, rfl, rfl, rfl, rfl, HF⟩ := hcut
    have HA := Lib.hid HF.out.1
    have HB4 := Lib.hid HF.out.2.2
    have HFo := Lib.hid HF.out.2.1
    clear HF
    have k0 := cell_later HB4.out q0
    have k1 := cell_later HB4.out q1
    have k2 := cell_later HB4.out q2
    clear q0 q1 q2
    go_wp2_with fail
    refine (eachInk_any W H g o c 129 #[.pointer (some ⟨lb, 0, none⟩), .pointer (some ⟨rb, 0, none⟩), .pointer (some ⟨tb, 0, none⟩), .pointer (some ⟨bb, 0, none⟩)] z (fun y x wx => ∃ l t r b : Int, Four lb tb rb bb l t r b wx ∧ BndP (Seen z W y x) W H l t r b ∧ Below w3.heap.size w4 wx) (fun k => k ≠ lb ∧ k ≠ tb ∧ k ≠ rb ∧ k ≠ bb) w4 ⟨by omega, by omega⟩ ⟨by omega, by omega⟩ (Go.Proofs.enters_of Try.func129 (by kernel_rfl) rfl) (fun j hj => cell_later HB4.out (cell_later HB3.out (HC.out j hj))) ?_ ?_ ?_ ?_ ?_ ?_).mono ?_
    · obtain ⟨⟨g1, g2, g3, g4⟩, -⟩ := HA.out
      omega
    · obtain ⟨e1, e2, e3, e4⟩ := HFo.out
      have b1 := (Array.getElem?_eq_some_iff.1 e1).1
      have b2 := (Array.getElem?_eq_some_iff.1 e2).1
      have b3 := (Array.getElem?_eq_some_iff.1 e3).1
      have b4 := (Array.getElem?_eq_some_iff.1 e4).1
      omega
    · obtain ⟨e1, e2, e3, e4⟩ := HFo.out
      have nb := new_below w4 (.cells #[.int .i64 W, .int .i64 H, .slice (some ⟨g, o, none⟩) (W * H) c] 24)
      refine ⟨W, H, -1, -1, ⟨below_block nb e1, below_block nb e2, below_block nb e3, below_block nb e4⟩, .inl ⟨rfl, rfl, rfl, rfl, fun i j h => ?_⟩, (Below.refl _ _).alloc HB4.out.size _⟩
      obtain ⟨-, h, -⟩ := h
      omega
    · rintro y wx hy ⟨l, t, r, b, h1, h2, h3⟩
      exact ⟨l, t, r, b, h1, bndP_congr h2 (seen_row z W y), h3⟩
    · rintro y x wx hx hy hz ⟨l, t, r, b, h1, h2, h3⟩
      exact ⟨l, t, r, b, h1, bndP_congr h2 fun i j => seen_no z W y x i j hz, h3⟩
    · rintro y x wx hx hy hz ⟨l, t, r, b, h1, h2, h3⟩
      refine (bounds1_any x y w3.heap.size lb tb rb bb l t r b wx HA.out h1).mono ?_
      rintro e w' ⟨rfl, h1', hb', hk'⟩
      exact ⟨rfl, ⟨_, _, _, _, h1', bndP_step hx hy h2 fun i j => seen_yes z W y x i j hx hz, h3.trans hb'⟩, hk'⟩
    · rintro e w5 ⟨rfl, l, t, r, b, h1, h2, h3⟩
      have hend := bndP_end h2
      obtain ⟨c1, f1⟩ := block1 h1.1
      obtain ⟨c2, f2⟩ := block1 h1.2.1
      obtain ⟨c3, f3⟩ := block1 h1.2.2.1
      obtain ⟨c4, f4⟩ := block1 h1.2.2.2
      have qb5 : w5.heap[w.heap.size + 1]? = _ := (h3.block _ (by have := HSZ.out; omega)).trans ((HB4.out.block _ (by have := HSZ.out; omega)).trans HQB.out)
      obtain ⟨⟨j0, j1, j2, j3⟩, r0, r1, r2, r3⟩ := block4 qb5
      have lb5 := (Array.getElem?_eq_some_iff.1 qb5).1
      have HB5 := Lib.hid ((HB3.out.trans (HB4.out.mono (by omega))).trans (h3.mono (by omega)))
      have hd := HA.out
      clear qb5 h1 h2 h3 k0 k1 k2
      obtain ⟨⟨g1, g2, g3, g4⟩, -⟩ := hd
      have hsz := HSZ.out
      have n1 : lb ≠ w.heap.size + 1 := by omega
      have n2 : tb ≠ w.heap.size + 1 := by omega
      have n3 : rb ≠ w.heap.size + 1 := by omega
      have n4 : bb ≠ w.heap.size + 1 := by omega
      clear hsz
      rcases hend with ⟨hr, hB⟩ | ⟨hr, hB⟩
      · have HE := Lib.hid hB
        clear hB
        go_wp2_with fail
        refine bodyPost_ret (v := .tuple #[.agg #[.int .i64 0, .int .i64 0, .int .i64 0, .int .i64 0], .int .i64 10]) (by simp [results, Try.results67, go_sem, j0, j1, j2, j3]) rfl ⟨0, 0, 0, 0, false, rfl, HE.out, ?_⟩
        exact (((HB5.out.setCell (by simp) _).setCell (by simp) _).setCell (by simp) _).setCell (by simp) _
      · have HE := Lib.hid hB
        obtain ⟨⟨v1, v2, v3, v4⟩, v5, v6, v7, v8⟩ := box_range hB
        clear hB
        go_wp2_with fail
        refine bodyPost_ret (v := .tuple #[.agg #[.int .i64 l, .int .i64 t, .int .i64 (r - l + 1), .int .i64 (b - t + 1)], .int .i64 0]) (by simp [results, Try.results67, go_sem, j0, j1, j2, j3]) rfl ⟨_, _, _, _, true, rfl, HE.out, ?_⟩
        exact (((HB5.out.setCell (by simp) _).setCell (by simp) _).setCell (by simp) _).setCell (by simp) _

/-- The error of Bounds. -/
def bndErr (E : Int) (q : Bool) : Int := if E = 0 then (if q then 0 else 10) else E

theorem bounds_any (a b : Int) (s : Option Addr) (n c : Nat) (z : Nat → Bool) (w : World) (hs : IsBools w s n c z) :
    Calls Try.prog 67 #[.agg #[.int .i64 a, .int .i64 b, .slice s n c]] w fun e w' =>
      ∃ X Y bw bh q, e = .returned (.tuple #[.agg #[.int .i64 X, .int .i64 Y, .int .i64 bw, .int .i64 bh], .int .i64 (bndErr (pageErr a b n) q)]) ∧ ((pageErr a b n ≠ 0 ∧ X = 0 ∧ Y = 0 ∧ bw = 0 ∧ bh = 0) ∨ (pageErr a b n = 0 ∧ BoxIs z a.toNat b.toNat X Y bw bh q)) ∧ Below w.heap.size w w' := by
  by_cases h : pageErr a b n = 0
  · obtain ⟨W, H, rfl, rfl, hn, w1, w2, h1, h2, hN, he⟩ := page_nat h
    obtain ⟨g, o, rfl, hc⟩ := isBools_cells hs (by rw [hn]; exact Nat.mul_pos w1 h1)
    subst hn
    refine (bounds_ok W H g o c z w he hc).mono ?_
    rintro e w' ⟨X, Y, bw, bh, q, rfl, hB, hbel⟩
    exact ⟨X, Y, bw, bh, q, by rw [h]; rfl, .inr ⟨h, hB⟩, hbel⟩
  · refine (bounds_badPage a b s n c w h).mono ?_
    rintro e w' ⟨rfl, hbel⟩
    exact ⟨0, 0, 0, 0, false, by unfold bndErr; rw [if_neg h], .inl ⟨h, rfl, rfl, rfl, rfl⟩, hbel⟩

end Go.Proofs.Ytejhmobpepllcaa
