/-
  What counts_holds leans on: contracts of the functions that it calls.
-/
import Derived.Test.YtcpgnfbjdokdcaaRows
import Derived.WalkKit
import Derived.WalkSpells
import Derived.WalkLawsBesides
import Derived.Lib.Hide
import Derived.Deep.RegionHeld3
import Derived.Shelf.Abstract
import Derived.Deep.AppendLies
import Derived.Deep.DrawnRows
import Derived.Deep.RegionLaw
import Derived.Deep.QuietTactic
import Derived.BigQuiet
import Derived.ProofKit
import Derived.OpenShut
import Derived.ShutString
import Derived.ChangeOld
import Derived.Lib.SmallJoins
import Derived.Deep.Grids
import Derived.Deep.DeepCutAuto
import Derived.Lib.MinMax
import Derived.Deep.CutRange
import Derived.Laws.EntriesVeiled
import Derived.StillTailTactics
import Derived.Test.YtcpgnfbjdokdcaaCCounts3
namespace Go.Proofs.Ytcpgnfbjdokdcaa
open Go.RowKit
set_option linter.unusedSimpArgs false
set_option linter.unusedVariables false

theorem block1 {w : World} {b : Nat} {x : Value} {t : TypeId} (h : w.heap[b]? = some (.cells #[x] t (0, 0))) : w.cell? ⟨b, 0, none⟩ = some x ∧ w.frozen? ⟨b, 0, none⟩ = false :=
  ⟨by rw [cell_of_row w b 0 _ t (0, 0) h]; rfl, frozen_of_row w b 0 _ t h⟩

/-- The four numbers in their boxes. -/
def Four (lb tb rb bb : Nat) (l t r b : Int) (w : World) : Prop :=
  w.heap[lb]? = some (.cells #[.int .i64 l] 3 (0, 0)) ∧ w.heap[tb]? = some (.cells #[.int .i64 t] 3 (0, 0)) ∧ w.heap[rb]? = some (.cells #[.int .i64 r] 3 (0, 0)) ∧ w.heap[bb]? = some (.cells #[.int .i64 b] 3 (0, 0))

/-- Four different blocks from N on. -/
def Apart4 (N a b c d : Nat) : Prop := (N ≤ a ∧ N ≤ b ∧ N ≤ c ∧ N ≤ d) ∧ (a ≠ b ∧ a ≠ c ∧ a ≠ d) ∧ (b ≠ c ∧ b ≠ d) ∧ c ≠ d

set_option maxHeartbeats 1000000 in
set_option maxRecDepth 100000 in
theorem bounds1_any (x y N lb tb rb bb : Nat) (l t r b : Int) (w : World) (hd : Apart4 N lb tb rb bb) (h : Four lb tb rb bb l t r b w) :
    Calls Try.prog 121 #[.int .i64 x, .int .i64 y, .pointer (some ⟨lb, 0, none⟩), .pointer (some ⟨rb, 0, none⟩), .pointer (some ⟨tb, 0, none⟩), .pointer (some ⟨bb, 0, none⟩)] w fun e w' =>
      e = .returned (.tuple #[]) ∧ Four lb tb rb bb (min l x) (min t y) (max r x) (max b y) w' ∧ Below N w w' ∧ ∀ k, k ≠ lb ∧ k ≠ tb ∧ k ≠ rb ∧ k ≠ bb → w'.heap[k]? = w.heap[k]? := by
  obtain ⟨h1, h2, h3, h4⟩ := h
  obtain ⟨c1, f1⟩ := block1 h1
  obtain ⟨c2, f2⟩ := block1 h2
  obtain ⟨c3, f3⟩ := block1 h3
  obtain ⟨c4, f4⟩ := block1 h4
  have HD := Lib.hid hd
  obtain ⟨-, ⟨n1, n2, n3⟩, ⟨n4, n5⟩, n6⟩ := hd
  have m1 := n1.symm
  have m2 := n2.symm
  have m3 := n3.symm
  have m4 := n4.symm
  have m5 := n5.symm
  have m6 := n6.symm
  have H1 := Lib.hid h1
  have H2 := Lib.hid h2
  have H3 := Lib.hid h3
  have H4 := Lib.hid h4
  clear h1 h2 h3 h4
  go_enter Try.func121, Try.ntmps121
  go_wp2_with fail
  go_region
  go_wp2_with fail
  go_region
  go_wp2_with fail
  go_end0
  obtain ⟨⟨g1, g2, g3, g4⟩, -⟩ := HD.out
  refine ⟨rfl, ⟨?_, ?_, ?_, ?_⟩, (((((Below.refl N w).setCell g1 _).setCell g3 _).setCell g2 _).setCell g4 _).drew.drew, fun k hk => ?_⟩
  · show ((((w.setCell ⟨lb, 0, none⟩ _).setCell ⟨rb, 0, none⟩ _).setCell ⟨tb, 0, none⟩ _).setCell ⟨bb, 0, none⟩ _).heap[lb]? = _
    rw [Below.heap_setCell _ _ _ _ n3, Below.heap_setCell _ _ _ _ n1, Below.heap_setCell _ _ _ _ n2]
    exact heap_setCell_same w lb 0 #[.int .i64 l] 3 _ H1.out
  · show ((((w.setCell ⟨lb, 0, none⟩ _).setCell ⟨rb, 0, none⟩ _).setCell ⟨tb, 0, none⟩ _).setCell ⟨bb, 0, none⟩ _).heap[tb]? = _
    rw [Below.heap_setCell _ _ _ _ n5]
    exact heap_setCell_same _ tb 0 #[.int .i64 t] 3 _ (by rw [Below.heap_setCell _ _ _ _ n4, Below.heap_setCell _ _ _ _ m1]; exact H2.out)
  · show ((((w.setCell ⟨lb, 0, none⟩ _).setCell ⟨rb, 0, none⟩ _).setCell ⟨tb, 0, none⟩ _).setCell ⟨bb, 0, none⟩ _).heap[rb]? = _
    rw [Below.heap_setCell _ _ _ _ n6, Below.heap_setCell _ _ _ _ m4]
    exact heap_setCell_same _ rb 0 #[.int .i64 r] 3 _ (by rw [Below.heap_setCell _ _ _ _ m2]; exact H3.out)
  · show ((((w.setCell ⟨lb, 0, none⟩ _).setCell ⟨rb, 0, none⟩ _).setCell ⟨tb, 0, none⟩ _).setCell ⟨bb, 0, none⟩ _).heap[bb]? = _
    exact heap_setCell_same _ bb 0 #[.int .i64 b] 3 _ (by rw [Below.heap_setCell _ _ _ _ m5, Below.heap_setCell _ _ _ _ m6, Below.heap_setCell _ _ _ _ m3]; exact H4.out)
  · show ((((w.setCell ⟨lb, 0, none⟩ _).setCell ⟨rb, 0, none⟩ _).setCell ⟨tb, 0, none⟩ _).setCell ⟨bb, 0, none⟩ _).heap[k]? = _
    rw [Below.heap_setCell _ _ _ _ hk.2.2.2, Below.heap_setCell _ _ _ _ hk.2.1, Below.heap_setCell _ _ _ _ hk.2.2.1, Below.heap_setCell _ _ _ _ hk.1]

/-- The least and greatest places of what was seen. -/
def BndP (S : Nat → Nat → Prop) (W H : Nat) (l t r b : Int) : Prop :=
  (l = W ∧ t = H ∧ r = -1 ∧ b = -1 ∧ ∀ i j, ¬ S i j) ∨ (∃ L T R B : Nat, l = L ∧ t = T ∧ r = R ∧ b = B ∧ (∀ i j, S i j → (L ≤ i ∧ i ≤ R) ∧ T ≤ j ∧ j ≤ B) ∧ (∃ j, S L j) ∧ (∃ j, S R j) ∧ (∃ i, S i T) ∧ ∃ i, S i B)
/-- The ink that was seen ahead of a pixel. -/
def Seen (z : Nat → Bool) (W y x i j : Nat) : Prop := i < W ∧ (j < y ∨ (j = y ∧ i < x)) ∧ z (j * W + i) = true

theorem bndP_congr {S S' : Nat → Nat → Prop} {W H : Nat} {l t r b : Int} (h : BndP S W H l t r b) (e : ∀ i j, S i j ↔ S' i j) : BndP S' W H l t r b := by
  have e' : S = S' := funext fun i => funext fun j => propext (e i j)
  rw [← e']; exact h

theorem bndP_step {S S' : Nat → Nat → Prop} {W H x y : Nat} {l t r b : Int} (hx : x < W) (hy : y < H) (h : BndP S W H l t r b) (e : ∀ i j, S' i j ↔ S i j ∨ (i = x ∧ j = y)) : BndP S' W H (min l x) (min t y) (max r x) (max b y) := by
  rcases h with ⟨rfl, rfl, rfl, rfl, h0⟩ | ⟨L, T, R, B, rfl, rfl, rfl, rfl, hb, ⟨j1, h1⟩, ⟨j2, h2⟩, ⟨i3, h3⟩, i4, h4⟩
  · have hs : S' x y := (e x y).2 (.inr ⟨rfl, rfl⟩)
    refine .inr ⟨x, y, x, y, by omega, by omega, by omega, by omega, fun i j h => ?_, ⟨y, hs⟩, ⟨y, hs⟩, ⟨x, hs⟩, x, hs⟩
    rcases (e i j).1 h with h | ⟨rfl, rfl⟩
    · exact absurd h (h0 i j)
    · exact ⟨⟨Nat.le_refl _, Nat.le_refl _⟩, Nat.le_refl _, Nat.le_refl _⟩
  · have hs : S' x y := (e x y).2 (.inr ⟨rfl, rfl⟩)
    have up : ∀ i j, S i j → S' i j := fun i j h => (e i j).2 (.inl h)
    refine .inr ⟨min L x, min T y, max R x, max B y, by omega, by omega, by omega, by omega, fun i j h => ?_, ?_, ?_, ?_, ?_⟩
    · rcases (e i j).1 h with h | ⟨rfl, rfl⟩
      · have := hb i j h; omega
      · omega
    · by_cases c : L ≤ x
      · rw [Nat.min_eq_left c]; exact ⟨j1, up _ _ h1⟩
      · rw [Nat.min_eq_right (by omega)]; exact ⟨y, hs⟩
    · by_cases c : x ≤ R
      · rw [Nat.max_eq_left c]; exact ⟨j2, up _ _ h2⟩
      · rw [Nat.max_eq_right (by omega)]; exact ⟨y, hs⟩
    · by_cases c : T ≤ y
      · rw [Nat.min_eq_left c]; exact ⟨i3, up _ _ h3⟩
      · rw [Nat.min_eq_right (by omega)]; exact ⟨x, hs⟩
    · by_cases c : y ≤ B
      · rw [Nat.max_eq_left c]; exact ⟨i4, up _ _ h4⟩
      · rw [Nat.max_eq_right (by omega)]; exact ⟨x, hs⟩

theorem seen_row (z : Nat → Bool) (W y i j : Nat) : Seen z W y W i j ↔ Seen z W (y + 1) 0 i j := by
  unfold Seen
  constructor
  · rintro ⟨h1, h2, h3⟩; exact ⟨h1, by omega, h3⟩
  · rintro ⟨h1, h2, h3⟩; exact ⟨h1, by omega, h3⟩
theorem seen_no (z : Nat → Bool) (W y x i j : Nat) (h : z (y * W + x) = false) : Seen z W y x i j ↔ Seen z W y (x + 1) i j := by
  unfold Seen
  constructor
  · rintro ⟨h1, h2, h3⟩; exact ⟨h1, by omega, h3⟩
  · rintro ⟨h1, h2, h3⟩
    refine ⟨h1, ?_, h3⟩
    rcases h2 with h2 | ⟨rfl, h2⟩
    · exact .inl h2
    · by_cases e : i = x
      · subst e; rw [h] at h3; cases h3
      · exact .inr ⟨rfl, by omega⟩
theorem seen_yes (z : Nat → Bool) (W y x i j : Nat) (hx : x < W) (h : z (y * W + x) = true) : Seen z W y (x + 1) i j ↔ Seen z W y x i j ∨ (i = x ∧ j = y) := by
  unfold Seen
  constructor
  · rintro ⟨h1, h2, h3⟩
    by_cases e : i = x ∧ j = y
    · exact .inr e
    · exact .inl ⟨h1, by omega, h3⟩
  · rintro (⟨h1, h2, h3⟩ | ⟨rfl, rfl⟩)
    · exact ⟨h1, by omega, h3⟩
    · exact ⟨hx, .inr ⟨rfl, by omega⟩, h⟩

theorem bndP_end {z : Nat → Bool} {W H : Nat} {l t r b : Int} (h : BndP (Seen z W H 0) W H l t r b) :
    (r < 0 ∧ BoxIs z W H 0 0 0 0 false) ∨ (0 ≤ r ∧ BoxIs z W H l t (r - l + 1) (b - t + 1) true) := by
  rcases h with ⟨rfl, rfl, rfl, rfl, h0⟩ | ⟨L, T, R, B, rfl, rfl, rfl, rfl, hb, ⟨j1, h1⟩, ⟨j2, h2⟩, ⟨i3, h3⟩, i4, h4⟩
  · refine .inl ⟨by omega, .inl ⟨rfl, rfl, rfl, rfl, rfl, fun i j hi hj => ?_⟩⟩
    cases e : z (j * W + i)
    · rfl
    · exact absurd ⟨hi, .inl hj, e⟩ (h0 i j)
  · refine .inr ⟨by omega, .inr ⟨rfl, L, T, R, B, rfl, rfl, rfl, rfl, fun i j hi hj hz => hb i j ⟨hi, .inl hj, hz⟩, ⟨⟨j1, ?_, h1.2.2⟩, h1.1⟩, ⟨⟨j2, ?_, h2.2.2⟩, h2.1⟩, ⟨⟨i3, h3.1, h3.2.2⟩, ?_⟩, ⟨i4, h4.1, h4.2.2⟩, ?_⟩⟩
    · rcases h1.2.1 with e | ⟨_, e⟩ <;> omega
    · rcases h2.2.1 with e | ⟨_, e⟩ <;> omega
    · rcases h3.2.1 with e | ⟨_, e⟩ <;> omega
    · rcases h4.2.1 with e | ⟨_, e⟩ <;> omega

theorem four_new (w : World) (A0 A1 A2 A3 : Obj) :
    ((((w.alloc A0).alloc A1).alloc A2).alloc A3).drew.heap[w.heap.size]? = some A0 ∧ ((((w.alloc A0).alloc A1).alloc A2).alloc A3).drew.heap[w.heap.size + 1]? = some A1 ∧
    ((((w.alloc A0).alloc A1).alloc A2).alloc A3).drew.heap[w.heap.size + 1 + 1]? = some A2 ∧ ((((w.alloc A0).alloc A1).alloc A2).alloc A3).drew.heap[w.heap.size + 1 + 1 + 1]? = some A3 := by
  refine ⟨?_, ?_, ?_, ?_⟩
  · show ((((w.alloc A0).alloc A1).alloc A2).alloc A3).heap[w.heap.size]? = some A0
    rw [Below.heap_alloc _ _ _ (by simp <;> omega), Below.heap_alloc _ _ _ (by simp <;> omega), Below.heap_alloc _ _ _ (by simp)]
    exact heap_alloc_new _ _
  · show ((((w.alloc A0).alloc A1).alloc A2).alloc A3).heap[w.heap.size + 1]? = some A1
    rw [Below.heap_alloc _ _ _ (by simp <;> omega), Below.heap_alloc _ _ _ (by simp)]
    simpa using heap_alloc_new (w.alloc A0) A1
  · show ((((w.alloc A0).alloc A1).alloc A2).alloc A3).heap[w.heap.size + 1 + 1]? = some A2
    rw [Below.heap_alloc _ _ _ (by simp)]
    simpa using heap_alloc_new ((w.alloc A0).alloc A1) A2
  · show ((((w.alloc A0).alloc A1).alloc A2).alloc A3).heap[w.heap.size + 1 + 1 + 1]? = some A3
    simpa using heap_alloc_new (((w.alloc A0).alloc A1).alloc A2) A3

theorem box_range {z : Nat → Bool} {W H : Nat} {l t r b : Int} (h : BoxIs z W H l t (r - l + 1) (b - t + 1) true) : (0 ≤ l ∧ l < W ∧ 0 ≤ r ∧ r < W) ∧ 0 ≤ t ∧ t < H ∧ 0 ≤ b ∧ b < H := by
  rcases h with ⟨h, _⟩ | ⟨_, L, T, R, B, rfl, rfl, h1, h2, hb⟩
  · cases h
  · have := hb.2.1.2
    have := hb.2.2.1.2
    have := hb.2.2.2.1.2
    have := hb.2.2.2.2.2
    omega

theorem bounds_badPage (a b : Int) (p : Option Addr) (n c : Nat) (w : World) (h : pageErr a b n ≠ 0) :
    Calls Try.prog 64 #[.agg #[.int .i64 a, .int .i64 b, .slice p n c]] w fun e w' => e = .returned (.tuple #[.agg #[.int .i64 0, .int .i64 0, .int .i64 0, .int .i64 0], .int .i64 (pageErr a b n)]) ∧ Below w.heap.size w w' := by
  have h' : (pageErr a b n != 0) = true := by simpa using h
  clear h
  go_enter Try.func64, Try.ntmps64
  go_wp2_with ((go_at_call 13; refine (checkBits_any _ _ _ _ _ _).mono ?_; rintro e w' ⟨rfl, rfl⟩))
  refine bodyPost_ret (v := .tuple #[.agg #[.int .i64 0, .int .i64 0, .int .i64 0, .int .i64 0], .int .i64 (pageErr a b n)]) (by simp [results, Try.results64, go_sem]) rfl ⟨rfl, below_alloc (below_alloc (new_below _ _) _) _⟩

set_option maxHeartbeats 1000000 in
set_option maxRecDepth 100000 in
theorem bounds_ok (W H g o c : Nat) (z : Nat → Bool) (w : World) (hs : sizeErr W H = 0)
    (hp : ∀ j, j < W * H → w.cell? ⟨g, o + j, none⟩ = some (.bool (z j))) :
    Calls Try.prog 64 #[.agg #[.int .i64 W, .int .i64 H, .slice (some ⟨g, o, none⟩) (W * H) c]] w fun e w' =>
      ∃ X Y bw bh q, e = .returned (.tuple #[.agg #[.int .i64 X, .int .i64 Y, .int .i64 bw, .int .i64 bh], .int .i64 (if q then 0 else 10)]) ∧ BoxIs z W H X Y bw bh q ∧ Below w.heap.size w w' := by
  have hmf : ∀ (fn : Fn) (first cap : Array Value) (w : World), (Instr.makeFunc fn first cap).run Try.prog w = .ok (.func fn first cap) w := fun _ _ _ _ => rfl
  obtain ⟨⟨a1, a2, a3, a4⟩, z0, z1⟩ := sizeErr_zero hs
  have hpe : pageErr W H (W * H) = 0 := by unfold pageErr; rw [if_pos hs, if_pos (by simp [Int.natCast_mul])]
  have hgw : g < w.heap.size := by
    have := World.block_lt_of_cell? _ _ (hp 0 (Nat.mul_pos (by omega) (by omega)))
    simpa using this
  have HC := Lib.hid hp
  clear hp hs z0 z1
  go_enter Try.func64, Try.ntmps64
  go_upto_region 4 with ((go_at_call 13; refine (checkBits_any _ _ _ _ _ _).mono ?_; rintro e w' ⟨rfl, rfl⟩))
  obtain ⟨w3, hw3⟩ : ∃ w3, w3 = ((w.alloc (.cells #[.int .i64 W, .int .i64 H, .slice (some ⟨g, o, none⟩) (W * H) c] 24)).alloc (.cells #[.int .i64 0, .int .i64 0, .int .i64 0, .int .i64 0] 29)).alloc (.cells #[.int .i64 W, .int .i64 H, .slice (some ⟨g, o, none⟩) (W * H) c] 24) := ⟨_, rfl⟩
  have B3 : Below w.heap.size w w3 := by rw [hw3]; exact below_alloc (below_alloc (new_below _ _) _) _
  have q0 : w3.cell? ⟨w.heap.size, 0, none⟩ = some (.int .i64 W) := by rw [hw3]; go_simp
  have q1 : w3.cell? ⟨w.heap.size, 1, none⟩ = some (.int .i64 H) := by rw [hw3]; go_simp
  have q2 : w3.cell? ⟨w.heap.size, 2, none⟩ = some (.slice (some ⟨g, o, none⟩) (W * H) c) := by rw [hw3]; go_simp
  have qb : w3.heap[w.heap.size + 1]? = some (.cells #[.int .i64 0, .int .i64 0, .int .i64 0, .int .i64 0] 29 (0, 0)) := by
    rw [hw3, Below.heap_alloc _ _ _ (by simp)]
    simpa using heap_alloc_new (w.alloc (.cells #[.int .i64 W, .int .i64 H, .slice (some ⟨g, o, none⟩) (W * H) c] 24)) (.cells #[.int .i64 0, .int .i64 0, .int .i64 0, .int .i64 0] 29)
  have hsz : w3.heap.size = w.heap.size + 3 := by rw [hw3]; simp
  have l0 : w.heap.size < w3.heap.size := by omega
  have l1 : w.heap.size < w3.heap.size + 1 := by omega
  have l2 : w.heap.size < w3.heap.size + 1 + 1 := by omega
  have l3 : w.heap.size < w3.heap.size + 1 + 1 + 1 := by omega
  rw [← hw3]
  clear hw3 hpe
  have HB3 := Lib.hid B3
  have HQB := Lib.hid qb
  have HSZ := Lib.hid hsz
  clear B3 qb hsz
  go_cut [5, 6, 7, 8] from 9 (fun t5 t6 t7 t8 wx => ∃ lb tb rb bb : Nat, t5 = .pointer (some ⟨lb, 0, none⟩) ∧ t6 = .pointer (some ⟨tb, 0, none⟩) ∧ t7 = .pointer (some ⟨rb, 0, none⟩) ∧ t8 = .pointer (some ⟨bb, 0, none⟩) ∧ Hid (Apart4 w3.heap.size lb tb rb bb ∧ Four lb tb rb bb W H (-1) (-1) wx ∧ Below w3.heap.size w3 wx))
  case first =>
    go_region
    all_goals
      go_wp2_with fail
      go_meet
      case rel =>
        refine ⟨_, _, _, _, rfl, rfl, rfl, rfl, Lib.hid ⟨⟨⟨?_, ?_, ?_, ?_⟩, ⟨?_, ?_, ?_⟩, ⟨?_, ?_⟩, ?_⟩, ?_, (below_alloc (below_alloc (below_alloc (new_below _ _) _) _) _).drew⟩⟩
        all_goals first | omega | skip
        obtain ⟨f0, f1, f2, f3⟩ := four_new w3 _ _ _ _
        refine ⟨?_, ?_, ?_, ?_⟩
        all_goals with_reducible first | exact f0 | exact f1 | exact f2 | exact f3
  case rest =>
    obtain ⟨w4, rfl⟩ : ∃ w4, w4 = wc := ⟨_, rfl⟩
    obtain ⟨lb, tb, rb, bb, rfl, rfl, rfl, rfl, HF⟩ := hcut
    have HA := Lib.hid HF.out.1
    have HB4 := Lib.hid HF.out.2.2
    have HFo := Lib.hid HF.out.2.1
    clear HF
    have k0 := cell_later HB4.out q0
    have k1 := cell_later HB4.out q1
    have k2 := cell_later HB4.out q2
    clear q0 q1 q2
    go_wp2_with fail
    refine (eachInk_any W H g o c 121 #[.pointer (some ⟨lb, 0, none⟩), .pointer (some ⟨rb, 0, none⟩), .pointer (some ⟨tb, 0, none⟩), .pointer (some ⟨bb, 0, none⟩)] z (fun y x wx => ∃ l t r b : Int, Four lb tb rb bb l t r b wx ∧ BndP (Seen z W y x) W H l t r b ∧ Below w3.heap.size w4 wx) (fun k => k ≠ lb ∧ k ≠ tb ∧ k ≠ rb ∧ k ≠ bb) w4 ⟨by omega, by omega⟩ ⟨by omega, by omega⟩ (Go.Proofs.enters_of Try.func121 (by kernel_rfl) rfl) (fun j hj => cell_later HB4.out (cell_later HB3.out (HC.out j hj))) ?_ ?_ ?_ ?_ ?_ ?_).mono ?_
    · obtain ⟨⟨g1, g2, g3, g4⟩, -⟩ := HA.out
      omega
    · obtain ⟨e1, e2, e3, e4⟩ := HFo.out
      have b1 := (Array.getElem?_eq_some_iff.1 e1).1
      have b2 := (Array.getElem?_eq_some_iff.1 e2).1
      have b3 := (Array.getElem?_eq_some_iff.1 e3).1
      have b4 := (Array.getElem?_eq_some_iff.1 e4).1
      omega
    · obtain ⟨e1, e2, e3, e4⟩ := HFo.out
      have nb := new_below w4 (.cells #[.int .i64 W, .int .i64 H, .slice (some ⟨g, o, none⟩) (W * H) c] 24)
      refine ⟨W, H, -1, -1, ⟨below_block nb e1, below_block nb e2, below_block nb e3, below_block nb e4⟩, .inl ⟨rfl, rfl, rfl, rfl, fun i j h => ?_⟩, (Below.refl _ _).alloc HB4.out.size _⟩
      obtain ⟨-, h, -⟩ := h
      omega
    · rintro y wx hy ⟨l, t, r, b, h1, h2, h3⟩
      exact ⟨l, t, r, b, h1, bndP_congr h2 (seen_row z W y), h3⟩
    · rintro y x wx hx hy hz ⟨l, t, r, b, h1, h2, h3⟩
      exact ⟨l, t, r, b, h1, bndP_congr h2 fun i j => seen_no z W y x i j hz, h3⟩
    · rintro y x wx hx hy hz ⟨l, t, r, b, h1, h2, h3⟩
      refine (bounds1_any x y w3.heap.size lb tb rb bb l t r b wx HA.out h1).mono ?_
      rintro e w' ⟨rfl, h1', hb', hk'⟩
      exact ⟨rfl, ⟨_, _, _, _, h1', bndP_step hx hy h2 fun i j => seen_yes z W y x i j hx hz, h3.trans hb'⟩, hk'⟩
    · rintro e w5 ⟨rfl, l, t, r, b, h1, h2, h3⟩
      have hend := bndP_end h2
      obtain ⟨c1, f1⟩ := block1 h1.1
      obtain ⟨c2, f2⟩ := block1 h1.2.1
      obtain ⟨c3, f3⟩ := block1 h1.2.2.1
      obtain ⟨c4, f4⟩ := block1 h1.2.2.2
      have qb5 : w5.heap[w.heap.size + 1]? = _ := (h3.block _ (by have := HSZ.out; omega)).trans ((HB4.out.block _ (by have := HSZ.out; omega)).trans HQB.out)
      obtain ⟨⟨j0, j1, j2, j3⟩, r0, r1, r2, r3⟩ := block4 qb5
      have lb5 := (Array.getElem?_eq_some_iff.1 qb5).1
      have HB5 := Lib.hid ((HB3.out.trans (HB4.out.mono (by omega))).trans (h3.mono (by omega)))
      have hd := HA.out
      clear qb5 h1 h2 h3 k0 k1 k2
      obtain ⟨⟨g1, g2, g3, g4⟩, -⟩ := hd
      have hsz := HSZ.out
      have n1 : lb ≠ w.heap.size + 1 := by omega
      have n2 : tb ≠ w.heap.size + 1 := by omega
      have n3 : rb ≠ w.heap.size + 1 := by omega
      have n4 : bb ≠ w.heap.size + 1 := by omega
      clear hsz
      rcases hend with ⟨hr, hB⟩ | ⟨hr, hB⟩
      · have HE := Lib.hid hB
        clear hB
        go_wp2_with fail
        refine bodyPost_ret (v := .tuple #[.agg #[.int .i64 0, .int .i64 0, .int .i64 0, .int .i64 0], .int .i64 10]) (by simp [results, Try.results64, go_sem, j0, j1, j2, j3]) rfl ⟨0, 0, 0, 0, false, rfl, HE.out, ?_⟩
        exact (((HB5.out.setCell (by simp) _).setCell (by simp) _).setCell (by simp) _).setCell (by simp) _
      · have HE := Lib.hid hB
        obtain ⟨⟨v1, v2, v3, v4⟩, v5, v6, v7, v8⟩ := box_range hB
        clear hB
        go_wp2_with fail
        refine bodyPost_ret (v := .tuple #[.agg #[.int .i64 l, .int .i64 t, .int .i64 (r - l + 1), .int .i64 (b - t + 1)], .int .i64 0]) (by simp [results, Try.results64, go_sem, j0, j1, j2, j3]) rfl ⟨_, _, _, _, true, rfl, HE.out, ?_⟩
        exact (((HB5.out.setCell (by simp) _).setCell (by simp) _).setCell (by simp) _).setCell (by simp) _

/-- The error of Bounds. -/
def bndErr (E : Int) (q : Bool) : Int := if E = 0 then (if q then 0 else 10) else E

theorem bounds_any (a b : Int) (s : Option Addr) (n c : Nat) (z : Nat → Bool) (w : World) (hs : IsBools w s n c z) :
    Calls Try.prog 64 #[.agg #[.int .i64 a, .int .i64 b, .slice s n c]] w fun e w' =>
      ∃ X Y bw bh q, e = .returned (.tuple #[.agg #[.int .i64 X, .int .i64 Y, .int .i64 bw, .int .i64 bh], .int .i64 (bndErr (pageErr a b n) q)]) ∧ ((pageErr a b n ≠ 0 ∧ X = 0 ∧ Y = 0 ∧ bw = 0 ∧ bh = 0) ∨ (pageErr a b n = 0 ∧ BoxIs z a.toNat b.toNat X Y bw bh q)) ∧ Below w.heap.size w w' := by
  by_cases h : pageErr a b n = 0
  · obtain ⟨W, H, rfl, rfl, hn, w1, w2, h1, h2, hN, he⟩ := page_nat h
    obtain ⟨g, o, rfl, hc⟩ := isBools_cells hs (by rw [hn]; exact Nat.mul_pos w1 h1)
    subst hn
    refine (bounds_ok W H g o c z w he hc).mono ?_
    rintro e w' ⟨X, Y, bw, bh, q, rfl, hB, hbel⟩
    exact ⟨X, Y, bw, bh, q, by rw [h]; rfl, .inr ⟨h, hB⟩, hbel⟩
  · refine (bounds_badPage a b s n c w h).mono ?_
    rintro e w' ⟨rfl, hbel⟩
    exact ⟨0, 0, 0, 0, false, by unfold bndErr; rw [if_neg h], .inl ⟨h, rfl, rfl, rfl, rfl⟩, hbel⟩

end Go.Proofs.Ytcpgnfbjdokdcaa
namespace Go.Proofs.Ytcpgnfbjdokdcaa
open Go.RowKit
set_option linter.unusedSimpArgs false
set_option linter.unusedVariables false

/-- What a page is that was made by places, in memory: nothing with an error; else its places. -/
def PageIs (E : Int) (a b : Int) (f : Nat → Nat → Bool) (B : Nat) (w : World) (i j : Int) (sl : Option Addr) (n' c' : Nat) : Prop :=
  (E ≠ 0 ∧ i = 0 ∧ j = 0 ∧ sl = none ∧ n' = 0 ∧ c' = 0) ∨
  (E = 0 ∧ i = a ∧ j = b ∧ n' = a.toNat * b.toNat ∧ ∃ g, B ≤ g ∧ sl = some ⟨g, 0, none⟩ ∧ ∀ k, k < n' → w.cell? ⟨g, 0 + k, none⟩ = some (.bool (f (k % a.toNat) (k / a.toNat))))

theorem PageIs.later {E a b : Int} {f : Nat → Nat → Bool} {B : Nat} {w w' : World} {i j : Int} {sl : Option Addr} {n' c' : Nat} (h : PageIs E a b f B w i j sl n' c') (hb : Below w.heap.size w w') : PageIs E a b f B w' i j sl n' c' := by
  rcases h with h | ⟨h1, h2, h3, h4, g, h5, h6, h7⟩
  · exact .inl h
  · exact .inr ⟨h1, h2, h3, h4, g, h5, h6, fun k hk => cell_later hb (h7 k hk)⟩
/-- A page that was made by places is what is wanted, where the closure makes it by the same places. -/
theorem bitsIs_page (E a b i j : Int) (f : Nat → Nat → Bool) (sl : Option Addr) (n' c' B cl : Nat) (capt : Array Value) (w : World) (hI : PageIs E a b f B w i j sl n' c')
    (eg : ∀ (args : Array Value) (W : World), (callFunc cl args).run Try.prog W = .ok (.enter cl args) W)
    (hc : E = 0 → ∃ W H : Nat, a = W ∧ b = H ∧ W * H ≤ 100000000 ∧ ∀ wx, Below w.heap.size w wx → Calls Try.prog cl capt wx fun e w' => ∃ v, e = .returned v ∧ PageB w' v W H (W * H) (fun k => f (k % W) (k / W)) ∧ Below wx.heap.size wx w') :
    Calls Try.prog 21 #[.agg #[.int .i64 i, .int .i64 j, .slice sl n' c'], .int .i64 E, .int .i64 E, .func (.func cl) #[] capt] w fun e w' => e = .returned (.bool true) ∧ Below w.heap.size w w' := by
  rcases hI with ⟨hE, rfl, rfl, rfl, rfl, rfl⟩ | ⟨hE, rfl, rfl, hn', g', _, rfl, hz⟩
  · exact bitsIs_err _ _ w hE
  · obtain ⟨W, H, rfl, rfl, hN, hcl⟩ := hc hE
    rw [hE]
    simp only [Int.toNat_natCast] at hn' hz
    subst hn'
    exact bitsIs_ok W H g' 0 (W * H) c' cl capt (fun k => f (k % W) (k / W)) w hN eg hz hcl

theorem row_prod {W H y : Nat} (hW : W ≤ 4000) (hH : H ≤ 4000) (hy : y < H) : y * W ≤ 16000000 ∧ y * W + W ≤ H * W := by
  have h1 := Nat.mul_le_mul (show y ≤ 4000 by omega) hW
  have h2 := Nat.mul_le_mul_right W (show y + 1 ≤ H by omega)
  rw [Nat.add_mul, Nat.one_mul] at h2
  exact ⟨h1, h2⟩

end Go.Proofs.Ytcpgnfbjdokdcaa
namespace Go.Proofs.Ytcpgnfbjdokdcaa
open Go.RowKit
set_option linter.unusedSimpArgs false
set_option linter.unusedVariables false

/-- What a page is that was made by places, in memory: nothing with an error; else its places. -/
def PageIsY (E : Int) (a b : Int) (f : Nat → Nat → Int) (B : Nat) (w : World) (i j : Int) (sl : Option Addr) (n' c' : Nat) : Prop :=
  (E ≠ 0 ∧ i = 0 ∧ j = 0 ∧ sl = none ∧ n' = 0 ∧ c' = 0) ∨
  (E = 0 ∧ i = a ∧ j = b ∧ n' = a.toNat * b.toNat ∧ ∃ g, B ≤ g ∧ sl = some ⟨g, 0, none⟩ ∧ ∀ k, k < n' → w.cell? ⟨g, 0 + k, none⟩ = some (.int .u8 (f (k % a.toNat) (k / a.toNat))))

theorem PageIsY.later {E a b : Int} {f : Nat → Nat → Int} {B : Nat} {w w' : World} {i j : Int} {sl : Option Addr} {n' c' : Nat} (h : PageIsY E a b f B w i j sl n' c') (hb : Below w.heap.size w w') : PageIsY E a b f B w' i j sl n' c' := by
  rcases h with h | ⟨h1, h2, h3, h4, g, h5, h6, h7⟩
  · exact .inl h
  · exact .inr ⟨h1, h2, h3, h4, g, h5, h6, fun k hk => cell_later hb (h7 k hk)⟩
end Go.Proofs.Ytcpgnfbjdokdcaa
namespace Go.Proofs.Ytcpgnfbjdokdcaa
open Go.RowKit
set_option linter.unusedSimpArgs false
set_option linter.unusedVariables false

/-- How many of the first n numbers are v. -/
def histN (zs : Nat → Int) (n v : Nat) : Nat := sumN (fun j => if zs j = (v : Int) then 1 else 0) n
theorem histN_le (zs : Nat → Int) (n v : Nat) : histN zs n v ≤ n := by
  have := sumN_le (fun j => if zs j = (v : Int) then 1 else 0) 1 (fun j => by split <;> omega) n
  unfold histN
  omega
theorem histN_hit (zs : Nat → Int) (n v : Nat) (h : zs n = (v : Int)) : histN zs (n + 1) v = histN zs n v + 1 := by simp [histN, sumN, h]
theorem histN_miss (zs : Nat → Int) (n v u : Nat) (h : zs n = (v : Int)) (hu : u ≠ v) : histN zs (n + 1) u = histN zs n u := by
  simp only [histN, sumN, h]
  rw [if_neg (by omega)]; rfl

theorem hist_step {w : World} {base g n v c : Nat} {zs : Nat → Int} (h : w.ownsRow base 3 1 (.slice (some ⟨g, 0, none⟩) 256 c) 256 (numsOf (histN zs n) 256)) (hz : zs n = (v : Int)) (hv : v < 256) :
    (w.setCell ⟨g, v, none⟩ (.int .i64 ((histN zs n v + 1 : Nat) : Int))).ownsRow base 3 1 (.slice (some ⟨g, 0, none⟩) 256 c) 256 (numsOf (histN zs (n + 1)) 256) := by
  have := (h.stored v (.int .i64 ((histN zs n v + 1 : Nat) : Int))).1
  rw [numsOf_set (g := histN zs (n + 1)) hv (histN_hit zs n v hz) fun i _ hi => histN_miss zs n v i hz hi] at this
  exact this

theorem histogram_badPage (a b : Int) (p : Option Addr) (n c : Nat) (w : World) (h : pageErr a b n ≠ 0) :
    Calls Try.prog 59 #[.agg #[.int .i64 a, .int .i64 b, .slice p n c]] w fun e w' => e = .returned (.tuple #[.slice none 0 0, .int .i64 (pageErr a b n)]) ∧ Below w.heap.size w w' := by
  have h' : (pageErr a b n != 0) = true := by simpa using h
  clear h
  go_enter Try.func59, Try.ntmps59
  go_wp2_with ((go_at_call 14; refine (checkGray_any _ _ _ _ _ _).mono ?_; rintro e w' ⟨rfl, rfl⟩))
  go_ret2
  exact ⟨rfl, below_alloc (new_below _ _) _⟩

set_option maxHeartbeats 1000000 in
set_option maxRecDepth 100000 in
theorem histogram_ok (W H g o n c : Nat) (z : Nat → Int) (w : World) (hs : sizeErr W H = 0) (hn : n = W * H) (hzb : ∀ j, 0 ≤ z j ∧ z j ≤ 255)
    (hp : ∀ j, j < n → w.cell? ⟨g, o + j, none⟩ = some (.int .u8 (z j))) :
    Calls Try.prog 59 #[.agg #[.int .i64 W, .int .i64 H, .slice (some ⟨g, o, none⟩) n c]] w fun e w' =>
      ∃ v, e = .returned (.tuple #[v, .int .i64 0]) ∧ w'.ownsRow w.heap.size 3 1 v 256 (numsOf (histN z n) 256) ∧ Below w.heap.size w w' := by
  obtain ⟨i0, hi, hz0, hz1, hz2⟩ := info_parts info_int
  obtain ⟨⟨a1, a2, a3, a4⟩, z0, z1⟩ := sizeErr_zero hs
  have hN : n ≤ 1048576 := by rw [hn]; rw [← Int.natCast_mul] at z1; omega
  have hpe : pageErr W H n = 0 := by unfold pageErr; rw [if_pos hs, if_pos (by rw [hn]; simp [Int.natCast_mul])]
  have HC := Lib.hid hp
  have HZ := Lib.hid hzb
  clear hp hs z0 z1 hn hzb
  go_enter Try.func59, Try.ntmps59
  go_wp2_with (first | (go_at_call 14; refine (checkGray_any _ _ _ _ _ _).mono ?_; rintro e w' ⟨rfl, rfl⟩) | (at_make; refine wpList_make_full _ rfl _ _ 69 rfl (w.heap.size + 2) 3 i0 (.int .i64 0) 1 Try.underlying69 hi hz0 hz1 _ _ _ _ 256 rfl rfl rfl rfl (by rw [hz2]; omega) (by unfold maxLen; omega) (by simp) ?_))
  intro w1 hown1 hgrow1
  rw [toList_madeCells_one, numsOf_zero] at hown1
  have hb1 := (Below.refl (w.heap.size + 2) _).grown hgrow1 (by simp) (by simp)
  have B1 := (below_alloc (new_below w (.cells #[.int .i64 W, .int .i64 H, .slice (some ⟨g, o, none⟩) n c] 27)) (.cells #[.int .i64 W, .int .i64 H, .slice (some ⟨g, o, none⟩) n c] 27)).trans (hb1.mono (show w.heap.size ≤ w.heap.size + 2 by omega))
  have k2 : w1.cell? ⟨w.heap.size, 2, none⟩ = some (.slice (some ⟨g, o, none⟩) n c) := (hb1.cell (p := ⟨w.heap.size, 2, none⟩) (by simp)).trans (by go_simp)
  have HB1 := Lib.hid B1
  have hst : w1.ownsRow (w.heap.size + 2) 3 1 (.slice (some ⟨w.heap.size + 1 + 1, 0, none⟩) 256 256) 256 (numsOf (histN z 0) 256) := by
    rw [← numsOf_congr (f := fun _ => 0) (g := histN z 0) (fun j _ => rfl)]; exact hown1
  have HST := Lib.hid hst
  have HC1 := Lib.hid (fun j hj => cell_later B1 (HC.out j hj))
  have HL := Lib.hid (fun j (hj : j < n) => show g < w.heap.size + 2 from by have := World.block_lt_of_cell? _ _ (HC.out j hj); simp at this; omega)
  clear hgrow1 hb1 hown1 B1 hst
  go_wp2_with fail
  go_loopw [17] (fun i wr => ∃ j : Nat, j ≤ n ∧ i = .int .i64 j ∧ wr.ownsRow (w.heap.size + 2) 3 1 (.slice (some ⟨w.heap.size + 1 + 1, 0, none⟩) 256 256) 256 (numsOf (histN z j) 256) ∧ Below (w.heap.size + 2) w1 wr) (fun i _ => n - (intOf i).toNat)
  case atStart => exact ⟨0, Nat.zero_le _, rfl, HST.out, Below.refl _ _⟩
  case round =>
    obtain ⟨j, hj, rfl, hown, hb⟩ := hrel
    by_cases hlt : j < n
    · have hpx := (hb.cell (p := ⟨g, o + j, none⟩) (HL.out j hlt)).trans (HC1.out j hlt)
      obtain ⟨v, hv⟩ := Int.eq_ofNat_of_zero_le (HZ.out j).1
      have hv2 : v < 256 := by have := (HZ.out j).2; omega
      rw [hv] at hpx
      have hcell := hown.cellAt v (by omega)
      rw [numsOf_get _ _ _ hv2] at hcell
      have hfz := hown.frozenAt v
      have hle := histN_le z j v
      have HS := Lib.hid (hist_step hown hv hv2)
      obtain ⟨k, hk⟩ : ∃ k, k = histN z j v := ⟨_, rfl⟩
      rw [← hk] at hcell hle HS
      have HB := Lib.hid hb
      have i1 : (j : Int) < (n : Int) := by omega
      have i2 : (v : Int) < 256 := by omega
      clear hk hown hb hv
      go_wp2_with fail
      go_roundw
      case rel => exact ⟨j + 1, by omega, by go_num, by have := HS.out; rw [show ((k + 1 : Nat) : Int) = (k : Int) + 1 by omega] at this; exact this, HB.out.setCell (by simp) _⟩
      case measure => simp [intOf]; omega
    · obtain rfl : j = n := by omega
      have HO := Lib.hid hown
      have HB := Lib.hid hb
      clear hown hb
      go_wp2_with fail
      go_ret2
      exact ⟨_, rfl, owns_base HO.out (by omega), HB1.out.trans (HB.out.mono (by omega))⟩

theorem histogram_any (a b : Int) (s : Option Addr) (n c : Nat) (zs : List Int) (w : World) (hs : IsBytes w s n c zs) :
    Calls Try.prog 59 #[.agg #[.int .i64 a, .int .i64 b, .slice s n c]] w fun e w' =>
      ∃ sl n' c', e = .returned (.tuple #[.slice sl n' c', .int .i64 (pageErr a b n)]) ∧ ListIs (pageErr a b n) (histN (fun j => zs.getD j 0) n) 256 w.heap.size w' sl n' c' ∧ Below w.heap.size w w' := by
  by_cases h : pageErr a b n = 0
  · obtain ⟨W, H, rfl, rfl, hn, w1, w2, h1, h2, hN, he⟩ := page_nat h
    obtain ⟨g, o, rfl, hc, hzb⟩ := isBytes_cells hs (by rw [hn]; exact Nat.mul_pos w1 h1)
    refine (histogram_ok W H g o n c _ w he hn hzb hc).mono ?_
    rintro e w' ⟨v, rfl, hown, hbel⟩
    obtain ⟨g', c', rfl, hg', hz⟩ := owns_nums hown (by omega)
    exact ⟨some ⟨g', 0, none⟩, 256, c', by rw [h], .inr ⟨h, rfl, g', hg', rfl, hz⟩, hbel⟩
  · refine (histogram_badPage a b s n c w h).mono ?_
    rintro e w' ⟨rfl, hbel⟩
    exact ⟨none, 0, 0, rfl, .inl ⟨h, rfl, rfl, rfl⟩, hbel⟩

end Go.Proofs.Ytcpgnfbjdokdcaa

namespace Go.Proofs.Ytcpgnfbjdokdcaa
open Go.RowKit
set_option linter.unusedSimpArgs false
set_option linter.unusedVariables false

set_option maxRecDepth 100000 in
theorem toBits1_any (W H x y pb lb g o n c t : Nat) (q lv : Int) (w : World) (hW : W ≤ 4000) (hH : H ≤ 4000) (hx : x < W) (hy : y < H) (hn : n = W * H) (ht : t = y * W + x) (hq : 0 ≤ q ∧ q ≤ 255)
    (c0 : w.cell? ⟨pb, 0, none⟩ = some (.int .i64 W)) (c2 : w.cell? ⟨pb, 2, none⟩ = some (.slice (some ⟨g, o, none⟩) n c)) (c3 : w.cell? ⟨lb, 0, none⟩ = some (.int .i64 lv)) (hc : w.cell? ⟨g, o + t, none⟩ = some (.int .u8 q)) :
    Calls Try.prog 116 #[.int .i64 x, .int .i64 y, .pointer (some ⟨pb, 0, none⟩), .pointer (some ⟨lb, 0, none⟩)] w fun e w' => e = .returned (.bool (decide (q < lv))) ∧ ∃ k, w' = w.drewN k := by
  obtain ⟨r1, r2⟩ := row_prod hW hH hy
  obtain ⟨P, hP⟩ : ∃ P, P = y * W := ⟨_, rfl⟩
  have e0 : IntKind.i64.wrap ((y : Int) * (W : Int)) = (P : Int) := by rw [← Int.natCast_mul, ← hP]; exact IntWalk.i64_in _ (by omega)
  rw [← hP] at r1 r2 ht
  have htn : (t : Int) < (n : Int) := by rw [hn, Nat.mul_comm W H]; omega
  have htn' : t < n := by omega
  have e1 : IntKind.i64.wrap ((P : Int) + (x : Int)) = (t : Int) := by rw [show (P : Int) + (x : Int) = (t : Int) by omega]; exact IntWalk.i64_in _ (by omega)
  have t0 : (0 : Int) ≤ (t : Int) := by omega
  have e2 : IntKind.i64.wrap q = q := IntWalk.i64_in _ (by omega)
  clear hP ht hn r2
  go_enter Try.func116, Try.ntmps116
  go_wp2_with fail
  go_quiet (fail)
  go_wp2_with fail
  go_ret
  exact ⟨rfl, _, rfl⟩

set_option maxRecDepth 100000 in
theorem counts1i_any (W H x y pb lb g o n c t : Nat) (q lv : Int) (w : World) (hW : W ≤ 4000) (hH : H ≤ 4000) (hx : x < W) (hy : y < H) (hn : n = W * H) (ht : t = y * W + x) (hq : 0 ≤ q ∧ q ≤ 255)
    (c0 : w.cell? ⟨pb, 0, none⟩ = some (.int .i64 W)) (c2 : w.cell? ⟨pb, 2, none⟩ = some (.slice (some ⟨g, o, none⟩) n c)) (c3 : w.cell? ⟨lb, 0, none⟩ = some (.int .i64 lv)) (hc : w.cell? ⟨g, o + t, none⟩ = some (.int .u8 q)) :
    Calls Try.prog 58 #[.int .i64 x, .int .i64 y, .pointer (some ⟨pb, 0, none⟩), .pointer (some ⟨lb, 0, none⟩)] w fun e w' => e = .returned (.bool (decide (q < lv))) ∧ ∃ k, w' = w.drewN k := by
  obtain ⟨r1, r2⟩ := row_prod hW hH hy
  obtain ⟨P, hP⟩ : ∃ P, P = y * W := ⟨_, rfl⟩
  have e0 : IntKind.i64.wrap ((y : Int) * (W : Int)) = (P : Int) := by rw [← Int.natCast_mul, ← hP]; exact IntWalk.i64_in _ (by omega)
  rw [← hP] at r1 r2 ht
  have htn : (t : Int) < (n : Int) := by rw [hn, Nat.mul_comm W H]; omega
  have htn' : t < n := by omega
  have e1 : IntKind.i64.wrap ((P : Int) + (x : Int)) = (t : Int) := by rw [show (P : Int) + (x : Int) = (t : Int) by omega]; exact IntWalk.i64_in _ (by omega)
  have t0 : (0 : Int) ≤ (t : Int) := by omega
  have e2 : IntKind.i64.wrap q = q := IntWalk.i64_in _ (by omega)
  clear hP ht hn r2
  go_enter Try.func58, Try.ntmps58
  go_wp2_with fail
  go_quiet (fail)
  go_wp2_with fail
  go_ret
  exact ⟨rfl, _, rfl⟩

end Go.Proofs.Ytcpgnfbjdokdcaa
namespace Go.Proofs.Ytcpgnfbjdokdcaa
open Go.RowKit
set_option linter.unusedSimpArgs false
set_option linter.unusedVariables false

/-- The error of ToBits. -/
def tbErr (a b : Int) (n : Nat) (lv : Int) : Int := if pageErr a b n = 0 then (if 0 ≤ lv ∧ lv ≤ 256 then 0 else 3) else pageErr a b n

theorem toBits_badPage (a b lv : Int) (p : Option Addr) (n c : Nat) (w : World) (h : pageErr a b n ≠ 0) :
    Calls Try.prog 56 #[.agg #[.int .i64 a, .int .i64 b, .slice p n c], .int .i64 lv] w fun e w' => e = .returned (.tuple #[.agg #[.int .i64 0, .int .i64 0, .slice none 0 0], .int .i64 (pageErr a b n)]) ∧ Below w.heap.size w w' := by
  have h' : (pageErr a b n != 0) = true := by simpa using h
  clear h
  go_enter Try.func56, Try.ntmps56
  go_wp2_with ((go_at_call 14; refine (checkGray_any _ _ _ _ _ _).mono ?_; rintro e w' ⟨rfl, rfl⟩))
  refine bodyPost_ret (v := .tuple #[.agg #[.int .i64 0, .int .i64 0, .slice none 0 0], .int .i64 (pageErr a b n)]) (by simp [results, Try.results56, go_sem]) rfl ⟨rfl, below_alloc (below_alloc (below_alloc (new_below _ _) _) _) _⟩

theorem toBits_badLevel (a b lv : Int) (p : Option Addr) (n c : Nat) (w : World) (h : pageErr a b n = 0) (hl : ¬ (0 ≤ lv ∧ lv ≤ 256)) :
    Calls Try.prog 56 #[.agg #[.int .i64 a, .int .i64 b, .slice p n c], .int .i64 lv] w fun e w' => e = .returned (.tuple #[.agg #[.int .i64 0, .int .i64 0, .slice none 0 0], .int .i64 3]) ∧ Below w.heap.size w w' := by
  have H1 := Lib.hid hl
  clear hl
  go_enter Try.func56, Try.ntmps56
  go_wp2_with (first | (go_at_call 14; refine (checkGray_any _ _ _ _ _ _).mono ?_; rintro e w' ⟨rfl, rfl⟩) | (go_at_call 107; refine (outside_yes _ _ _ _ H1.out).mono ?_; rintro e w' ⟨rfl, rfl⟩))
  refine bodyPost_ret (v := .tuple #[.agg #[.int .i64 0, .int .i64 0, .slice none 0 0], .int .i64 3]) (by simp [results, Try.results56, go_sem]) rfl ⟨rfl, below_alloc (below_alloc (below_alloc (new_below _ _) _) _) _⟩

set_option maxHeartbeats 400000 in
set_option maxRecDepth 100000 in
theorem toBits_ok (W H g o c : Nat) (lv : Int) (z : Nat → Int) (w : World) (he : sizeErr W H = 0) (hl : 0 ≤ lv ∧ lv ≤ 256) (hzb : ∀ j, 0 ≤ z j ∧ z j ≤ 255)
    (hp : ∀ j, j < W * H → w.cell? ⟨g, o + j, none⟩ = some (.int .u8 (z j))) :
    Calls Try.prog 56 #[.agg #[.int .i64 W, .int .i64 H, .slice (some ⟨g, o, none⟩) (W * H) c], .int .i64 lv] w fun e w' =>
      ∃ v, e = .returned (.tuple #[.agg #[.int .i64 W, .int .i64 H, v], .int .i64 0]) ∧ w'.ownsRow w.heap.size 4 1 v (W * H) ((places W (fun x y => decide (z (y * W + x) < lv)) (W * H)).map Value.bool) ∧ Below w.heap.size w w' := by
  have hmf : ∀ (fn : Fn) (first cap : Array Value) (w : World), (Instr.makeFunc fn first cap).run Try.prog w = .ok (.func fn first cap) w := fun _ _ _ _ => rfl
  obtain ⟨⟨a1, a2, a3, a4⟩, z0, z1⟩ := sizeErr_zero he
  have hN : W * H ≤ 1048576 := by rw [← Int.natCast_mul] at z1; omega
  have hpe : pageErr W H (W * H) = 0 := by unfold pageErr; rw [if_pos he, if_pos (by simp [Int.natCast_mul])]
  obtain ⟨w1, hw1⟩ : ∃ w1, w1 = ((((w.alloc (.cells #[.int .i64 W, .int .i64 H, .slice (some ⟨g, o, none⟩) (W * H) c] 27)).alloc (.cells #[.int .i64 lv] 3)).alloc (.cells #[.int .i64 0, .int .i64 0, .slice none 0 0] 24)).alloc (.cells #[.int .i64 W, .int .i64 H, .slice (some ⟨g, o, none⟩) (W * H) c] 27)) := ⟨_, rfl⟩
  have B1 : Below w.heap.size w w1 := by rw [hw1]; exact below_alloc (below_alloc (below_alloc (new_below _ _) _) _) _
  have q0 : w1.cell? ⟨w.heap.size, 0, none⟩ = some (.int .i64 W) := by rw [hw1]; go_simp
  have q1 : w1.cell? ⟨w.heap.size, 1, none⟩ = some (.int .i64 H) := by rw [hw1]; go_simp
  have q2 : w1.cell? ⟨w.heap.size, 2, none⟩ = some (.slice (some ⟨g, o, none⟩) (W * H) c) := by rw [hw1]; go_simp
  have q3 : w1.cell? ⟨w.heap.size + 1, 0, none⟩ = some (.int .i64 lv) := by rw [hw1]; go_simp
  have qb : w1.heap[w.heap.size + 1 + 1]? = some (.cells #[.int .i64 0, .int .i64 0, .slice none 0 0] 24 (0, 0)) := by
    rw [hw1, Below.heap_alloc _ _ _ (by simp)]
    simpa using heap_alloc_new ((w.alloc (.cells #[.int .i64 W, .int .i64 H, .slice (some ⟨g, o, none⟩) (W * H) c] 27)).alloc (.cells #[.int .i64 lv] 3)) (.cells #[.int .i64 0, .int .i64 0, .slice none 0 0] 24)
  have HL1 := Lib.hid hl
  have HC := Lib.hid hp
  have HZ := Lib.hid hzb
  clear hp he z0 z1 hzb
  go_enter Try.func56, Try.ntmps56
  go_wp2_with (first | (go_at_call 14; refine (checkGray_any _ _ _ _ _ _).mono ?_; rintro e w' ⟨rfl, rfl⟩) | (go_at_call 107; refine (outside_no _ _ _ _ HL1.out).mono ?_; rintro e w' ⟨rfl, rfl⟩))
  rw [← hw1]
  clear hw1
  have lt1 := (Array.getElem?_eq_some_iff.1 qb).1
  refine (fillBool_any W H 116 _ (fun x y => decide (z (y * W + x) < lv)) w1 (by omega) (by omega) (by omega) (by omega) (Go.Proofs.enters_of Try.func116 (by kernel_rfl) rfl) ?_).mono ?_
  · intro x y wx hx hy hbx
    have hfit := row_fits hy (show x + 1 ≤ W by omega)
    refine (toBits1_any W H x y w.heap.size (w.heap.size + 1) g o (W * H) c _ _ lv wx (by omega) (by omega) hx hy rfl rfl (HZ.out _) (cell_later hbx q0) (cell_later hbx q2) (cell_later hbx q3) (cell_later hbx (cell_later B1 (HC.out _ (by omega))))).mono ?_
    rintro e wy ⟨rfl, k, rfl⟩
    exact ⟨rfl, below_drewN (Below.refl _ _) k⟩
  · rintro e w5 ⟨v, rfl, hown, hb5⟩
    obtain ⟨j0, j1, j2, r0, r1, r2⟩ := block3 (below_block hb5 qb)
    obtain ⟨va, vn, vc, rfl⟩ := owns_shape hown
    have k0 := cell_later hb5 q0
    have k1 := cell_later hb5 q1
    have F := Lib.hid hown
    have G := Lib.hid hb5
    have L := Lib.hid lt1
    clear hown hb5 lt1 q0 q1 q2 q3
    go_wp2_with fail
    refine bodyPost_ret (v := .tuple #[.agg #[.int .i64 W, .int .i64 H, .slice va vn vc], .int .i64 0]) (by simp [results, Try.results56, go_sem, j0, j1, j2]) rfl ⟨_, rfl, owns_far3 F.out L.out B1.size, below_far3 (below_step B1 G.out) (by omega)⟩

theorem toBits_any (a b lv : Int) (s : Option Addr) (n c : Nat) (zs : List Int) (w : World) (hs : IsBytes w s n c zs) :
    Calls Try.prog 56 #[.agg #[.int .i64 a, .int .i64 b, .slice s n c], .int .i64 lv] w fun e w' =>
      ∃ i j sl n' c', e = .returned (.tuple #[.agg #[.int .i64 i, .int .i64 j, .slice sl n' c'], .int .i64 (tbErr a b n lv)]) ∧ PageIs (tbErr a b n lv) a b (fun x y => decide (zs.getD (y * a.toNat + x) 0 < lv)) w.heap.size w' i j sl n' c' ∧ Below w.heap.size w w' := by
  by_cases h : pageErr a b n = 0
  · by_cases hl : 0 ≤ lv ∧ lv ≤ 256
    · have hE : tbErr a b n lv = 0 := by unfold tbErr; rw [if_pos h, if_pos hl]
      obtain ⟨W, H, rfl, rfl, hn, w1, w2, h1, h2, hN, he⟩ := page_nat h
      obtain ⟨g, o, rfl, hc, hzb⟩ := isBytes_cells hs (by rw [hn]; exact Nat.mul_pos w1 h1)
      subst hn
      refine (toBits_ok W H g o c lv _ w he hl hzb hc).mono ?_
      rintro e w' ⟨v, rfl, hown, hbel⟩
      obtain ⟨g', c', rfl, hg', hz⟩ := owns_pageB hown (Nat.mul_pos w1 h1)
      exact ⟨_, _, _, _, _, by rw [hE], .inr ⟨hE, rfl, rfl, by simp, g', hg', rfl, by simpa using hz⟩, hbel⟩
    · have hE : tbErr a b n lv = 3 := by unfold tbErr; rw [if_pos h, if_neg hl]
      refine (toBits_badLevel a b lv s n c w h hl).mono ?_
      rintro e w' ⟨rfl, hbel⟩
      exact ⟨0, 0, none, 0, 0, by rw [hE], .inl ⟨by rw [hE]; decide, rfl, rfl, rfl, rfl, rfl⟩, hbel⟩
  · have hE : tbErr a b n lv = pageErr a b n := by unfold tbErr; rw [if_neg h]
    refine (toBits_badPage a b lv s n c w h).mono ?_
    rintro e w' ⟨rfl, hbel⟩
    exact ⟨0, 0, none, 0, 0, by rw [hE], .inl ⟨by rw [hE]; exact h, rfl, rfl, rfl, rfl, rfl⟩, hbel⟩

set_option maxHeartbeats 400000 in
set_option maxRecDepth 100000 in
theorem counts1_any (W H pb lb g o c : Nat) (lv : Int) (z : Nat → Int) (w : World) (hW : 1 ≤ W ∧ W ≤ 4000) (hH : 1 ≤ H ∧ H ≤ 4000) (hN : W * H ≤ 1048576) (hzb : ∀ j, 0 ≤ z j ∧ z j ≤ 255)
    (c0 : w.cell? ⟨pb, 0, none⟩ = some (.int .i64 W)) (c1 : w.cell? ⟨pb, 1, none⟩ = some (.int .i64 H)) (c2 : w.cell? ⟨pb, 2, none⟩ = some (.slice (some ⟨g, o, none⟩) (W * H) c)) (c3 : w.cell? ⟨lb, 0, none⟩ = some (.int .i64 lv))
    (hp : ∀ j, j < W * H → w.cell? ⟨g, o + j, none⟩ = some (.int .u8 (z j))) :
    Calls Try.prog 57 #[.pointer (some ⟨pb, 0, none⟩), .pointer (some ⟨lb, 0, none⟩)] w fun e w' => ∃ v, e = .returned v ∧ PageB w' v W H (W * H) (fun k => decide (z (k / W * W + k % W) < lv)) ∧ Below w.heap.size w w' := by
  have hmf : ∀ (fn : Fn) (first cap : Array Value) (w : World), (Instr.makeFunc fn first cap).run Try.prog w = .ok (.func fn first cap) w := fun _ _ _ _ => rfl
  have lb0 := World.block_lt_of_cell? _ _ c0
  simp only at lb0
  obtain ⟨w1, hw1⟩ : ∃ w1, w1 = w.alloc (.cells #[.int .i64 0, .int .i64 0, .slice none 0 0] 24) := ⟨_, rfl⟩
  have B1 : Below w.heap.size w w1 := by rw [hw1]; exact new_below _ _
  have qb : w1.heap[w.heap.size]? = some (.cells #[.int .i64 0, .int .i64 0, .slice none 0 0] 24 (0, 0)) := by rw [hw1]; exact heap_alloc_new _ _
  have HC := Lib.hid hp
  have HZ := Lib.hid hzb
  have k0 := cell_later B1 c0
  have k1 := cell_later B1 c1
  have k2 := cell_later B1 c2
  have k3 := cell_later B1 c3
  have L := Lib.hid (Array.getElem?_eq_some_iff.1 qb).1
  clear hp c2 c3 hzb
  go_enter Try.func57, Try.ntmps57
  go_wp2_with fail
  rw [← hw1]
  clear hw1
  refine (made_any W H 58 _ (fun x y => decide (z (y * W + x) < lv)) w1 hW.1 (by omega) (by omega) (by omega) (Go.Proofs.enters_of Try.func58 (by kernel_rfl) rfl) ?_).mono ?_
  · intro x y wx hx hy hbx
    have hfit := row_fits hy (show x + 1 ≤ W by omega)
    refine (counts1i_any W H x y pb lb g o (W * H) c _ _ lv wx hW.2 hH.2 hx hy rfl rfl (HZ.out _) (cell_later hbx k0) (cell_later hbx k2) (cell_later hbx k3) (cell_later hbx (cell_later B1 (HC.out _ (by omega))))).mono ?_
    rintro e wy ⟨rfl, k, rfl⟩
    exact ⟨rfl, below_drewN (Below.refl _ _) k⟩
  · rintro e w5 ⟨v, rfl, hown, hb5⟩
    obtain ⟨j0, j1, j2, r0, r1, r2⟩ := block3 (below_block hb5 qb)
    obtain ⟨g', c', rfl, hgb, hz⟩ := owns_pageB hown (Nat.mul_pos hW.1 hH.1)
    have ZC := Lib.hid hz
    have G := Lib.hid hb5
    clear hown hb5 hz qb c0 c1 k0 k1 k2 k3
    go_wp2_with fail
    refine bodyPost_ret (v := .agg #[.int .i64 W, .int .i64 H, .slice (some ⟨g', 0, none⟩) (W * H) c']) (by simp [results, Try.results57, go_sem, j0, j1, j2]) rfl ⟨_, rfl, ⟨g', 0, c', rfl, fun j hj => ?_⟩, below_far3 (below_step B1 G.out) (Nat.le_refl _)⟩
    exact cell_far3 (show g' ≠ w.heap.size by have := L.out; omega) (ZC.out j hj)

theorem bitsIs_toBits (a b i j lv : Int) (n c pb lb B n' c' : Nat) (zs : List Int) (s sl : Option Addr) (w : World) (hI : PageIs (tbErr a b n lv) a b (fun x y => decide (zs.getD (y * a.toNat + x) 0 < lv)) B w i j sl n' c') (hs : IsBytes w s n c zs)
    (c0 : w.cell? ⟨pb, 0, none⟩ = some (.int .i64 a)) (c1 : w.cell? ⟨pb, 1, none⟩ = some (.int .i64 b)) (c2 : w.cell? ⟨pb, 2, none⟩ = some (.slice s n c)) (c3 : w.cell? ⟨lb, 0, none⟩ = some (.int .i64 lv)) :
    Calls Try.prog 21 #[.agg #[.int .i64 i, .int .i64 j, .slice sl n' c'], .int .i64 (tbErr a b n lv), .int .i64 (tbErr a b n lv), .func (.func 57) #[] #[.pointer (some ⟨pb, 0, none⟩), .pointer (some ⟨lb, 0, none⟩)]] w fun e w' => e = .returned (.bool true) ∧ Below w.heap.size w w' := by
  refine bitsIs_page _ _ _ i j _ sl n' c' B 57 _ w hI (Go.Proofs.enters_of Try.func57 (by kernel_rfl) rfl) ?_
  intro hE
  have hp : pageErr a b n = 0 := by
    unfold tbErr at hE
    by_cases h : pageErr a b n = 0
    · exact h
    · rw [if_neg h] at hE; exact absurd hE h
  obtain ⟨W, H, rfl, rfl, hn, w1, w2, h1, h2, hN, he⟩ := page_nat hp
  obtain ⟨g, o, rfl, hc, hzb⟩ := isBytes_cells hs (by rw [hn]; exact Nat.mul_pos w1 h1)
  subst hn
  refine ⟨W, H, rfl, rfl, by omega, fun wx hbx => ?_⟩
  simp only [Int.toNat_natCast]
  exact counts1_any W H pb lb g o c lv _ wx ⟨w1, w2⟩ ⟨h1, h2⟩ hN hzb (cell_later hbx c0) (cell_later hbx c1) (cell_later hbx c2) (cell_later hbx c3) (fun m hm => cell_later hbx (hc m hm))

theorem want_toBits (a b lv : Int) (n : Nat) : orI (pageErr a b n) (whenI (!decide (0 ≤ lv ∧ lv ≤ 256)) 3) = tbErr a b n lv := by
  unfold orI whenI tbErr
  by_cases h1 : pageErr a b n = 0
  · by_cases h2 : 0 ≤ lv ∧ lv ≤ 256 <;> simp [h1, h2]
  · simp [h1]

/-- Black where ink is. -/
def blackIf (b : Bool) : Int := if b then 0 else 255

set_option maxRecDepth 100000 in
theorem toGray1_any (W H x y pb g o n c t : Nat) (q : Bool) (w : World) (hW : W ≤ 4000) (hH : H ≤ 4000) (hx : x < W) (hy : y < H) (hn : n = W * H) (ht : t = y * W + x)
    (c0 : w.cell? ⟨pb, 0, none⟩ = some (.int .i64 W)) (c2 : w.cell? ⟨pb, 2, none⟩ = some (.slice (some ⟨g, o, none⟩) n c)) (hc : w.cell? ⟨g, o + t, none⟩ = some (.bool q)) :
    Calls Try.prog 117 #[.int .i64 x, .int .i64 y, .pointer (some ⟨pb, 0, none⟩)] w fun e w' => e = .returned (.int .u8 (blackIf q)) ∧ w = w' := by
  obtain ⟨r1, r2⟩ := row_prod hW hH hy
  obtain ⟨P, hP⟩ : ∃ P, P = y * W := ⟨_, rfl⟩
  have e0 : (y : Int) * (W : Int) = (P : Int) := by rw [hP, Int.natCast_mul]
  rw [← hP] at r1 r2 ht
  have htn : (t : Int) < (n : Int) := by rw [hn, Nat.mul_comm W H]; omega
  have e1 : (P : Int) + (x : Int) = (t : Int) := by omega
  clear hP ht hn r2
  cases q
  all_goals
    go_enter Try.func117, Try.ntmps117
    go_wp2
    go_ret
    exact ⟨rfl, rfl⟩

theorem counts2_any (W H x y pb g o c : Nat) (z : Nat → Bool) (w : World) (hW : W ≤ 4000) (hH : H ≤ 4000) (hx : x < W) (hy : y < H)
    (c0 : w.cell? ⟨pb, 0, none⟩ = some (.int .i64 W)) (c1 : w.cell? ⟨pb, 1, none⟩ = some (.int .i64 H)) (c2 : w.cell? ⟨pb, 2, none⟩ = some (.slice (some ⟨g, o, none⟩) (W * H) c))
    (hp : ∀ j, j < W * H → w.cell? ⟨g, o + j, none⟩ = some (.bool (z j))) :
    Calls Try.prog 65 #[.int .i64 x, .int .i64 y, .pointer (some ⟨pb, 0, none⟩)] w fun e w' => e = .returned (.int .u8 (blackIf (z (y * W + x)))) ∧ Below w.heap.size w w' := by
  have hfit := row_fits hy (show x + 1 ≤ W by omega)
  have HA := Lib.hid (at_in W H g o c x y (z (y * W + x)) w (by omega) (by omega) hx hy (hp _ (by omega)))
  obtain ⟨q, hq⟩ : ∃ q, q = z (y * W + x) := ⟨_, rfl⟩
  rw [← hq] at HA ⊢
  clear hp hq hfit
  cases q
  all_goals
    go_enter Try.func65, Try.ntmps65
    go_wp2_with (go_at_call 41; refine HA.out.mono ?_; rintro e w1 ⟨rfl, hb1⟩)
    go_ret
    exact ⟨rfl, hb1⟩

theorem toGray_badPage (a b : Int) (p : Option Addr) (n c : Nat) (w : World) (h : pageErr a b n ≠ 0) :
    Calls Try.prog 61 #[.agg #[.int .i64 a, .int .i64 b, .slice p n c]] w fun e w' => e = .returned (.tuple #[.agg #[.int .i64 0, .int .i64 0, .slice none 0 0], .int .i64 (pageErr a b n)]) ∧ Below w.heap.size w w' := by
  have h' : (pageErr a b n != 0) = true := by simpa using h
  clear h
  go_enter Try.func61, Try.ntmps61
  go_wp2_with ((go_at_call 13; refine (checkBits_any _ _ _ _ _ _).mono ?_; rintro e w' ⟨rfl, rfl⟩))
  refine bodyPost_ret (v := .tuple #[.agg #[.int .i64 0, .int .i64 0, .slice none 0 0], .int .i64 (pageErr a b n)]) (by simp [results, Try.results61, go_sem]) rfl ⟨rfl, below_alloc (below_alloc (new_below _ _) _) _⟩

set_option maxHeartbeats 400000 in
set_option maxRecDepth 100000 in
theorem toGray_ok (W H g o c : Nat) (z : Nat → Bool) (w : World) (he : sizeErr W H = 0)
    (hp : ∀ j, j < W * H → w.cell? ⟨g, o + j, none⟩ = some (.bool (z j))) :
    Calls Try.prog 61 #[.agg #[.int .i64 W, .int .i64 H, .slice (some ⟨g, o, none⟩) (W * H) c]] w fun e w' =>
      ∃ v, e = .returned (.tuple #[.agg #[.int .i64 W, .int .i64 H, v], .int .i64 0]) ∧ w'.ownsRow w.heap.size 5 1 v (W * H) ((places W (fun x y => blackIf (z (y * W + x))) (W * H)).map (Value.int .u8)) ∧ Below w.heap.size w w' := by
  have hmf : ∀ (fn : Fn) (first cap : Array Value) (w : World), (Instr.makeFunc fn first cap).run Try.prog w = .ok (.func fn first cap) w := fun _ _ _ _ => rfl
  obtain ⟨⟨a1, a2, a3, a4⟩, z0, z1⟩ := sizeErr_zero he
  have hN : W * H ≤ 1048576 := by rw [← Int.natCast_mul] at z1; omega
  have hpe : pageErr W H (W * H) = 0 := by unfold pageErr; rw [if_pos he, if_pos (by simp [Int.natCast_mul])]
  have HC := Lib.hid hp
  clear hp he z0 z1
  go_enter Try.func61, Try.ntmps61
  go_wp2_with ((go_at_call 13; refine (checkBits_any _ _ _ _ _ _).mono ?_; rintro e w' ⟨rfl, rfl⟩))
  obtain ⟨w1, hw1⟩ : ∃ w1, w1 = (((w.alloc (.cells #[.int .i64 W, .int .i64 H, .slice (some ⟨g, o, none⟩) (W * H) c] 24)).alloc (.cells #[.int .i64 0, .int .i64 0, .slice none 0 0] 27)).alloc (.cells #[.int .i64 W, .int .i64 H, .slice (some ⟨g, o, none⟩) (W * H) c] 24)) := ⟨_, rfl⟩
  have B1 : Below w.heap.size w w1 := by rw [hw1]; exact below_alloc (below_alloc (new_below _ _) _) _
  have q0 : w1.cell? ⟨w.heap.size, 0, none⟩ = some (.int .i64 W) := by rw [hw1]; go_simp
  have q1 : w1.cell? ⟨w.heap.size, 1, none⟩ = some (.int .i64 H) := by rw [hw1]; go_simp
  have q2 : w1.cell? ⟨w.heap.size, 2, none⟩ = some (.slice (some ⟨g, o, none⟩) (W * H) c) := by rw [hw1]; go_simp
  have qb : w1.heap[w.heap.size + 1]? = some (.cells #[.int .i64 0, .int .i64 0, .slice none 0 0] 27 (0, 0)) := by
    rw [hw1, Below.heap_alloc _ _ _ (by simp)]
    simpa using heap_alloc_new (w.alloc (.cells #[.int .i64 W, .int .i64 H, .slice (some ⟨g, o, none⟩) (W * H) c] 24)) (.cells #[.int .i64 0, .int .i64 0, .slice none 0 0] 27)
  rw [← hw1]
  clear hw1
  have lt1 := (Array.getElem?_eq_some_iff.1 qb).1
  refine (fillByte_any W H 117 _ (fun x y => blackIf (z (y * W + x))) w1 (by omega) (by omega) (by omega) (by omega) (Go.Proofs.enters_of Try.func117 (by kernel_rfl) rfl) ?_).mono ?_
  · intro x y wx hx hy hbx
    have hfit := row_fits hy (show x + 1 ≤ W by omega)
    refine (toGray1_any W H x y w.heap.size g o (W * H) c _ _ wx (by omega) (by omega) hx hy rfl rfl (cell_later hbx q0) (cell_later hbx q2) (cell_later hbx (cell_later B1 (HC.out _ (by omega))))).mono ?_
    rintro e wy ⟨rfl, rfl⟩
    exact ⟨rfl, Below.refl _ _⟩
  · rintro e w5 ⟨v, rfl, hown, hb5⟩
    obtain ⟨j0, j1, j2, r0, r1, r2⟩ := block3 (below_block hb5 qb)
    obtain ⟨va, vn, vc, rfl⟩ := owns_shape hown
    have k0 := cell_later hb5 q0
    have k1 := cell_later hb5 q1
    have F := Lib.hid hown
    have G := Lib.hid hb5
    have L := Lib.hid lt1
    clear hown hb5 lt1 q0 q1 q2
    go_wp2_with fail
    refine bodyPost_ret (v := .tuple #[.agg #[.int .i64 W, .int .i64 H, .slice va vn vc], .int .i64 0]) (by simp [results, Try.results61, go_sem, j0, j1, j2]) rfl ⟨_, rfl, owns_far3 F.out L.out B1.size, below_far3 (below_step B1 G.out) (by omega)⟩

theorem toGray_any (a b : Int) (s : Option Addr) (n c : Nat) (z : Nat → Bool) (w : World) (hs : IsBools w s n c z) :
    Calls Try.prog 61 #[.agg #[.int .i64 a, .int .i64 b, .slice s n c]] w fun e w' =>
      ∃ i j sl n' c', e = .returned (.tuple #[.agg #[.int .i64 i, .int .i64 j, .slice sl n' c'], .int .i64 (pageErr a b n)]) ∧ PageIsY (pageErr a b n) a b (fun x y => blackIf (z (y * a.toNat + x))) w.heap.size w' i j sl n' c' ∧ Below w.heap.size w w' := by
  by_cases h : pageErr a b n = 0
  · obtain ⟨W, H, rfl, rfl, hn, w1, w2, h1, h2, hN, he⟩ := page_nat h
    obtain ⟨g, o, rfl, hc⟩ := isBools_cells hs (by rw [hn]; exact Nat.mul_pos w1 h1)
    subst hn
    refine (toGray_ok W H g o c z w he hc).mono ?_
    rintro e w' ⟨v, rfl, hown, hbel⟩
    obtain ⟨g', c', rfl, hg', hz⟩ := owns_pageY hown (Nat.mul_pos w1 h1)
    exact ⟨_, _, _, _, _, by rw [h], .inr ⟨h, rfl, rfl, by simp, g', hg', rfl, by simpa using hz⟩, hbel⟩
  · refine (toGray_badPage a b s n c w h).mono ?_
    rintro e w' ⟨rfl, hbel⟩
    exact ⟨0, 0, none, 0, 0, rfl, .inl ⟨h, rfl, rfl, rfl, rfl, rfl⟩, hbel⟩

theorem made_black (W H pb g o c : Nat) (z : Nat → Bool) (w : World) (hW : 1 ≤ W ∧ W ≤ 4000) (hH : 1 ≤ H ∧ H ≤ 4000) (hN : W * H ≤ 1048576)
    (c0 : w.cell? ⟨pb, 0, none⟩ = some (.int .i64 W)) (c1 : w.cell? ⟨pb, 1, none⟩ = some (.int .i64 H)) (c2 : w.cell? ⟨pb, 2, none⟩ = some (.slice (some ⟨g, o, none⟩) (W * H) c))
    (hp : ∀ j, j < W * H → w.cell? ⟨g, o + j, none⟩ = some (.bool (z j))) :
    Calls Try.prog 30 #[.int .i64 W, .int .i64 H, .func (.func 65) #[] #[.pointer (some ⟨pb, 0, none⟩)]] w fun e w' =>
      ∃ g' c', e = .returned (.agg #[.int .i64 W, .int .i64 H, .slice (some ⟨g', 0, none⟩) (W * H) c']) ∧ (∀ j, j < W * H → w'.cell? ⟨g', 0 + j, none⟩ = some (.int .u8 (blackIf (z (j / W * W + j % W))))) ∧ Below w.heap.size w w' := by
  refine (madeGray_any W H 65 _ (fun x y => blackIf (z (y * W + x))) w hW.1 (by omega) (by omega) (by omega) (Go.Proofs.enters_of Try.func65 (by kernel_rfl) rfl) ?_).mono ?_
  · intro x y wx hx hy hbx
    exact counts2_any W H x y pb g o c z wx hW.2 hH.2 hx hy (cell_later hbx c0) (cell_later hbx c1) (cell_later hbx c2) (fun j hj => cell_later hbx (hp j hj))
  · rintro e w5 ⟨v, rfl, hown, hb5⟩
    obtain ⟨g', c', rfl, hg', hz⟩ := owns_pageY hown (Nat.mul_pos hW.1 hH.1)
    exact ⟨g', c', rfl, hz, hb5⟩

end Go.Proofs.Ytcpgnfbjdokdcaa
