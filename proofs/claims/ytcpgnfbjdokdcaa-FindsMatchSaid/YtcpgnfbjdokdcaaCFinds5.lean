/-
  What finds_holds leans on: contracts of the functions that it calls.
-/
import Derived.Test.YtcpgnfbjdokdcaaRows
import Derived.WalkKit
import Derived.WalkSpells
import Derived.WalkLawsBesides
import Derived.Lib.Hide
import Derived.Deep.RegionHeld3
import Derived.Shelf.Abstract
import Derived.Deep.AppendLies
import Derived.Deep.DrawnRows
import Derived.Deep.RegionLaw
import Derived.Deep.QuietTactic
import Derived.BigQuiet
import Derived.ProofKit
import Derived.OpenShut
import Derived.ShutString
import Derived.ChangeOld
import Derived.Lib.SmallJoins
import Derived.Deep.Grids
import Derived.Deep.DeepCutAuto
import Derived.Lib.MinMax
import Derived.Deep.CutRange
import Derived.Laws.EntriesVeiled
import Derived.StillTailTactics
import Derived.RegionTactic
import Derived.ChangeAlike
import Derived.BigRegion
import Derived.Test.YtcpgnfbjdokdcaaCFinds4
namespace Go.Proofs.Ytcpgnfbjdokdcaa
open Go.RowKit
set_option linter.unusedSimpArgs false
set_option linter.unusedVariables false

theorem block1 {w : World} {b : Nat} {x : Value} {t : TypeId} (h : w.heap[b]? = some (.cells #[x] t (0, 0))) : w.cell? ⟨b, 0, none⟩ = some x ∧ w.frozen? ⟨b, 0, none⟩ = false :=
  ⟨by rw [cell_of_row w b 0 _ t (0, 0) h]; rfl, frozen_of_row w b 0 _ t h⟩

/-- The four numbers in their boxes. -/
def Four (lb tb rb bb : Nat) (l t r b : Int) (w : World) : Prop :=
  w.heap[lb]? = some (.cells #[.int .i64 l] 3 (0, 0)) ∧ w.heap[tb]? = some (.cells #[.int .i64 t] 3 (0, 0)) ∧ w.heap[rb]? = some (.cells #[.int .i64 r] 3 (0, 0)) ∧ w.heap[bb]? = some (.cells #[.int .i64 b] 3 (0, 0))

/-- Four different blocks from N on. -/
def Apart4 (N a b c d : Nat) : Prop := (N ≤ a ∧ N ≤ b ∧ N ≤ c ∧ N ≤ d) ∧ (a ≠ b ∧ a ≠ c ∧ a ≠ d) ∧ (b ≠ c ∧ b ≠ d) ∧ c ≠ d

set_option maxHeartbeats 1000000 in
set_option maxRecDepth 100000 in
theorem bounds1_any (x y N lb tb rb bb : Nat) (l t r b : Int) (w : World) (hd : Apart4 N lb tb rb bb) (h : Four lb tb rb bb l t r b w) :
    Calls Try.prog 121 #[.int .i64 x, .int .i64 y, .pointer (some ⟨lb, 0, none⟩), .pointer (some ⟨rb, 0, none⟩), .pointer (some ⟨tb, 0, none⟩), .pointer (some ⟨bb, 0, none⟩)] w fun e w' =>
      e = .returned (.tuple #[]) ∧ Four lb tb rb bb (min l x) (min t y) (max r x) (max b y) w' ∧ Below N w w' ∧ ∀ k, k ≠ lb ∧ k ≠ tb ∧ k ≠ rb ∧ k ≠ bb → w'.heap[k]? = w.heap[k]? := by
  obtain ⟨h1, h2, h3, h4⟩ := h
  obtain ⟨c1, f1⟩ := block1 h1
  obtain ⟨c2, f2⟩ := block1 h2
  obtain ⟨c3, f3⟩ := block1 h3
  obtain ⟨c4, f4⟩ := block1 h4
  have HD := Lib.hid hd
  obtain ⟨-, ⟨n1, n2, n3⟩, ⟨n4, n5⟩, n6⟩ := hd
  have m1 := n1.symm
  have m2 := n2.symm
  have m3 := n3.symm
  have m4 := n4.symm
  have m5 := n5.symm
  have m6 := n6.symm
  have H1 := Lib.hid h1
  have H2 := Lib.hid h2
  have H3 := Lib.hid h3
  have H4 := Lib.hid h4
  clear h1 h2 h3 h4
  go_enter Try.func121, Try.ntmps121
  go_wp2_with fail
  go_region
  go_wp2_with fail
  go_region
  go_wp2_with fail
  go_end0
  obtain ⟨⟨g1, g2, g3, g4⟩, -⟩ := HD.out
  refine ⟨rfl, ⟨?_, ?_, ?_, ?_⟩, (((((Below.refl N w).setCell g1 _).setCell g3 _).setCell g2 _).setCell g4 _).drew.drew, fun k hk => ?_⟩
  · show ((((w.setCell ⟨lb, 0, none⟩ _).setCell ⟨rb, 0, none⟩ _).setCell ⟨tb, 0, none⟩ _).setCell ⟨bb, 0, none⟩ _).heap[lb]? = _
    rw [Below.heap_setCell _ _ _ _ n3, Below.heap_setCell _ _ _ _ n1, Below.heap_setCell _ _ _ _ n2]
    exact heap_setCell_same w lb 0 #[.int .i64 l] 3 _ H1.out
  · show ((((w.setCell ⟨lb, 0, none⟩ _).setCell ⟨rb, 0, none⟩ _).setCell ⟨tb, 0, none⟩ _).setCell ⟨bb, 0, none⟩ _).heap[tb]? = _
    rw [Below.heap_setCell _ _ _ _ n5]
    exact heap_setCell_same _ tb 0 #[.int .i64 t] 3 _ (by rw [Below.heap_setCell _ _ _ _ n4, Below.heap_setCell _ _ _ _ m1]; exact H2.out)
  · show ((((w.setCell ⟨lb, 0, none⟩ _).setCell ⟨rb, 0, none⟩ _).setCell ⟨tb, 0, none⟩ _).setCell ⟨bb, 0, none⟩ _).heap[rb]? = _
    rw [Below.heap_setCell _ _ _ _ n6, Below.heap_setCell _ _ _ _ m4]
    exact heap_setCell_same _ rb 0 #[.int .i64 r] 3 _ (by rw [Below.heap_setCell _ _ _ _ m2]; exact H3.out)
  · show ((((w.setCell ⟨lb, 0, none⟩ _).setCell ⟨rb, 0, none⟩ _).setCell ⟨tb, 0, none⟩ _).setCell ⟨bb, 0, none⟩ _).heap[bb]? = _
    exact heap_setCell_same _ bb 0 #[.int .i64 b] 3 _ (by rw [Below.heap_setCell _ _ _ _ m5, Below.heap_setCell _ _ _ _ m6, Below.heap_setCell _ _ _ _ m3]; exact H4.out)
  · show ((((w.setCell ⟨lb, 0, none⟩ _).setCell ⟨rb, 0, none⟩ _).setCell ⟨tb, 0, none⟩ _).setCell ⟨bb, 0, none⟩ _).heap[k]? = _
    rw [Below.heap_setCell _ _ _ _ hk.2.2.2, Below.heap_setCell _ _ _ _ hk.2.1, Below.heap_setCell _ _ _ _ hk.2.2.1, Below.heap_setCell _ _ _ _ hk.1]

/-- The least and greatest places of what was seen. -/
def BndP (S : Nat → Nat → Prop) (W H : Nat) (l t r b : Int) : Prop :=
  (l = W ∧ t = H ∧ r = -1 ∧ b = -1 ∧ ∀ i j, ¬ S i j) ∨ (∃ L T R B : Nat, l = L ∧ t = T ∧ r = R ∧ b = B ∧ (∀ i j, S i j → (L ≤ i ∧ i ≤ R) ∧ T ≤ j ∧ j ≤ B) ∧ (∃ j, S L j) ∧ (∃ j, S R j) ∧ (∃ i, S i T) ∧ ∃ i, S i B)
/-- The ink that was seen ahead of a pixel. -/
def Seen (z : Nat → Bool) (W y x i j : Nat) : Prop := i < W ∧ (j < y ∨ (j = y ∧ i < x)) ∧ z (j * W + i) = true

theorem bndP_congr {S S' : Nat → Nat → Prop} {W H : Nat} {l t r b : Int} (h : BndP S W H l t r b) (e : ∀ i j, S i j ↔ S' i j) : BndP S' W H l t r b := by
  have e' : S = S' := funext fun i => funext fun j => propext (e i j)
  rw [← e']; exact h

theorem bndP_step {S S' : Nat → Nat → Prop} {W H x y : Nat} {l t r b : Int} (hx : x < W) (hy : y < H) (h : BndP S W H l t r b) (e : ∀ i j, S' i j ↔ S i j ∨ (i = x ∧ j = y)) : BndP S' W H (min l x) (min t y) (max r x) (max b y) := by
  rcases h with ⟨rfl, rfl, rfl, rfl, h0⟩ | ⟨L, T, R, B, rfl, rfl, rfl, rfl, hb, ⟨j1, h1⟩, ⟨j2, h2⟩, ⟨i3, h3⟩, i4, h4⟩
  · have hs : S' x y := (e x y).2 (.inr ⟨rfl, rfl⟩)
    refine .inr ⟨x, y, x, y, by omega, by omega, by omega, by omega, fun i j h => ?_, ⟨y, hs⟩, ⟨y, hs⟩, ⟨x, hs⟩, x, hs⟩
    rcases (e i j).1 h with h | ⟨rfl, rfl⟩
    · exact absurd h (h0 i j)
    · exact ⟨⟨Nat.le_refl _, Nat.le_refl _⟩, Nat.le_refl _, Nat.le_refl _⟩
  · have hs : S' x y := (e x y).2 (.inr ⟨rfl, rfl⟩)
    have up : ∀ i j, S i j → S' i j := fun i j h => (e i j).2 (.inl h)
    refine .inr ⟨min L x, min T y, max R x, max B y, by omega, by omega, by omega, by omega, fun i j h => ?_, ?_, ?_, ?_, ?_⟩
    · rcases (e i j).1 h with h | ⟨rfl, rfl⟩
      · have := hb i j h; omega
      · omega
    · by_cases c : L ≤ x
      · rw [Nat.min_eq_left c]; exact ⟨j1, up _ _ h1⟩
      · rw [Nat.min_eq_right (by omega)]; exact ⟨y, hs⟩
    · by_cases c : x ≤ R
      · rw [Nat.max_eq_left c]; exact ⟨j2, up _ _ h2⟩
      · rw [Nat.max_eq_right (by omega)]; exact ⟨y, hs⟩
    · by_cases c : T ≤ y
      · rw [Nat.min_eq_left c]; exact ⟨i3, up _ _ h3⟩
      · rw [Nat.min_eq_right (by omega)]; exact ⟨x, hs⟩
    · by_cases c : y ≤ B
      · rw [Nat.max_eq_left c]; exact ⟨i4, up _ _ h4⟩
      · rw [Nat.max_eq_right (by omega)]; exact ⟨x, hs⟩

theorem seen_row (z : Nat → Bool) (W y i j : Nat) : Seen z W y W i j ↔ Seen z W (y + 1) 0 i j := by
  unfold Seen
  constructor
  · rintro ⟨h1, h2, h3⟩; exact ⟨h1, by omega, h3⟩
  · rintro ⟨h1, h2, h3⟩; exact ⟨h1, by omega, h3⟩
theorem seen_no (z : Nat → Bool) (W y x i j : Nat) (h : z (y * W + x) = false) : Seen z W y x i j ↔ Seen z W y (x + 1) i j := by
  unfold Seen
  constructor
  · rintro ⟨h1, h2, h3⟩; exact ⟨h1, by omega, h3⟩
  · rintro ⟨h1, h2, h3⟩
    refine ⟨h1, ?_, h3⟩
    rcases h2 with h2 | ⟨rfl, h2⟩
    · exact .inl h2
    · by_cases e : i = x
      · subst e; rw [h] at h3; cases h3
      · exact .inr ⟨rfl, by omega⟩
theorem seen_yes (z : Nat → Bool) (W y x i j : Nat) (hx : x < W) (h : z (y * W + x) = true) : Seen z W y (x + 1) i j ↔ Seen z W y x i j ∨ (i = x ∧ j = y) := by
  unfold Seen
  constructor
  · rintro ⟨h1, h2, h3⟩
    by_cases e : i = x ∧ j = y
    · exact .inr e
    · exact .inl ⟨h1, by omega, h3⟩
  · rintro (⟨h1, h2, h3⟩ | ⟨rfl, rfl⟩)
    · exact ⟨h1, by omega, h3⟩
    · exact ⟨hx, .inr ⟨rfl, by omega⟩, h⟩

theorem bndP_end {z : Nat → Bool} {W H : Nat} {l t r b : Int} (h : BndP (Seen z W H 0) W H l t r b) :
    (r < 0 ∧ BoxIs z W H 0 0 0 0 false) ∨ (0 ≤ r ∧ BoxIs z W H l t (r - l + 1) (b - t + 1) true) := by
  rcases h with ⟨rfl, rfl, rfl, rfl, h0⟩ | ⟨L, T, R, B, rfl, rfl, rfl, rfl, hb, ⟨j1, h1⟩, ⟨j2, h2⟩, ⟨i3, h3⟩, i4, h4⟩
  · refine .inl ⟨by omega, .inl ⟨rfl, rfl, rfl, rfl, rfl, fun i j hi hj => ?_⟩⟩
    cases e : z (j * W + i)
    · rfl
    · exact absurd ⟨hi, .inl hj, e⟩ (h0 i j)
  · refine .inr ⟨by omega, .inr ⟨rfl, L, T, R, B, rfl, rfl, rfl, rfl, fun i j hi hj hz => hb i j ⟨hi, .inl hj, hz⟩, ⟨⟨j1, ?_, h1.2.2⟩, h1.1⟩, ⟨⟨j2, ?_, h2.2.2⟩, h2.1⟩, ⟨⟨i3, h3.1, h3.2.2⟩, ?_⟩, ⟨i4, h4.1, h4.2.2⟩, ?_⟩⟩
    · rcases h1.2.1 with e | ⟨_, e⟩ <;> omega
    · rcases h2.2.1 with e | ⟨_, e⟩ <;> omega
    · rcases h3.2.1 with e | ⟨_, e⟩ <;> omega
    · rcases h4.2.1 with e | ⟨_, e⟩ <;> omega

theorem four_new (w : World) (A0 A1 A2 A3 : Obj) :
    ((((w.alloc A0).alloc A1).alloc A2).alloc A3).drew.heap[w.heap.size]? = some A0 ∧ ((((w.alloc A0).alloc A1).alloc A2).alloc A3).drew.heap[w.heap.size + 1]? = some A1 ∧
    ((((w.alloc A0).alloc A1).alloc A2).alloc A3).drew.heap[w.heap.size + 1 + 1]? = some A2 ∧ ((((w.alloc A0).alloc A1).alloc A2).alloc A3).drew.heap[w.heap.size + 1 + 1 + 1]? = some A3 := by
  refine ⟨?_, ?_, ?_, ?_⟩
  · show ((((w.alloc A0).alloc A1).alloc A2).alloc A3).heap[w.heap.size]? = some A0
    rw [Below.heap_alloc _ _ _ (by simp <;> omega), Below.heap_alloc _ _ _ (by simp <;> omega), Below.heap_alloc _ _ _ (by simp)]
    exact heap_alloc_new _ _
  · show ((((w.alloc A0).alloc A1).alloc A2).alloc A3).heap[w.heap.size + 1]? = some A1
    rw [Below.heap_alloc _ _ _ (by simp <;> omega), Below.heap_alloc _ _ _ (by simp)]
    simpa using heap_alloc_new (w.alloc A0) A1
  · show ((((w.alloc A0).alloc A1).alloc A2).alloc A3).heap[w.heap.size + 1 + 1]? = some A2
    rw [Below.heap_alloc _ _ _ (by simp)]
    simpa using heap_alloc_new ((w.alloc A0).alloc A1) A2
  · show ((((w.alloc A0).alloc A1).alloc A2).alloc A3).heap[w.heap.size + 1 + 1 + 1]? = some A3
    simpa using heap_alloc_new (((w.alloc A0).alloc A1).alloc A2) A3

theorem box_range {z : Nat → Bool} {W H : Nat} {l t r b : Int} (h : BoxIs z W H l t (r - l + 1) (b - t + 1) true) : (0 ≤ l ∧ l < W ∧ 0 ≤ r ∧ r < W) ∧ 0 ≤ t ∧ t < H ∧ 0 ≤ b ∧ b < H := by
  rcases h with ⟨h, _⟩ | ⟨_, L, T, R, B, rfl, rfl, h1, h2, hb⟩
  · cases h
  · have := hb.2.1.2
    have := hb.2.2.1.2
    have := hb.2.2.2.1.2
    have := hb.2.2.2.2.2
    omega

theorem bounds_badPage (a b : Int) (p : Option Addr) (n c : Nat) (w : World) (h : pageErr a b n ≠ 0) :
    Calls Try.prog 64 #[.agg #[.int .i64 a, .int .i64 b, .slice p n c]] w fun e w' => e = .returned (.tuple #[.agg #[.int .i64 0, .int .i64 0, .int .i64 0, .int .i64 0], .int .i64 (pageErr a b n)]) ∧ Below w.heap.size w w' := by
  have h' : (pageErr a b n != 0) = true := by simpa using h
  clear h
  go_enter Try.func64, Try.ntmps64
  go_wp2_with ((go_at_call 13; refine (checkBits_any _ _ _ _ _ _).mono ?_; rintro e w' ⟨rfl, rfl⟩))
  refine bodyPost_ret (v := .tuple #[.agg #[.int .i64 0, .int .i64 0, .int .i64 0, .int .i64 0], .int .i64 (pageErr a b n)]) (by simp [results, Try.results64, go_sem]) rfl ⟨rfl, below_alloc (below_alloc (new_below _ _) _) _⟩

set_option maxHeartbeats 1000000 in
set_option maxRecDepth 100000 in
theorem bounds_ok (W H g o c : Nat) (z : Nat → Bool) (w : World) (hs : sizeErr W H = 0)
    (hp : ∀ j, j < W * H → w.cell? ⟨g, o + j, none⟩ = some (.bool (z j))) :
    Calls Try.prog 64 #[.agg #[.int .i64 W, .int .i64 H, .slice (some ⟨g, o, none⟩) (W * H) c]] w fun e w' =>
      ∃ X Y bw bh q, e = .returned (.tuple #[.agg #[.int .i64 X, .int .i64 Y, .int .i64 bw, .int .i64 bh], .int .i64 (if q then 0 else 10)]) ∧ BoxIs z W H X Y bw bh q ∧ Below w.heap.size w w' := by
  have hmf : ∀ (fn : Fn) (first cap : Array Value) (w : World), (Instr.makeFunc fn first cap).run Try.prog w = .ok (.func fn first cap) w := fun _ _ _ _ => rfl
  obtain ⟨⟨a1, a2, a3, a4⟩, z0, z1⟩ := sizeErr_zero hs
  have hpe : pageErr W H (W * H) = 0 := by unfold pageErr; rw [if_pos hs, if_pos (by simp [Int.natCast_mul])]
  have hgw : g < w.heap.size := by
    have := World.block_lt_of_cell? _ _ (hp 0 (Nat.mul_pos (by omega) (by omega)))
    simpa using this
  have HC := Lib.hid hp
  clear hp hs z0 z1
  go_enter Try.func64, Try.ntmps64
  go_upto_region 4 with ((go_at_call 13; refine (checkBits_any _ _ _ _ _ _).mono ?_; rintro e w' ⟨rfl, rfl⟩))
  obtain ⟨w3, hw3⟩ : ∃ w3, w3 = ((w.alloc (.cells #[.int .i64 W, .int .i64 H, .slice (some ⟨g, o, none⟩) (W * H) c] 24)).alloc (.cells #[.int .i64 0, .int .i64 0, .int .i64 0, .int .i64 0] 29)).alloc (.cells #[.int .i64 W, .int .i64 H, .slice (some ⟨g, o, none⟩) (W * H) c] 24) := ⟨_, rfl⟩
  have B3 : Below w.heap.size w w3 := by rw [hw3]; exact below_alloc (below_alloc (new_below _ _) _) _
  have q0 : w3.cell? ⟨w.heap.size, 0, none⟩ = some (.int .i64 W) := by rw [hw3]; go_simp
  have q1 : w3.cell? ⟨w.heap.size, 1, none⟩ = some (.int .i64 H) := by rw [hw3]; go_simp
  have q2 : w3.cell? ⟨w.heap.size, 2, none⟩ = some (.slice (some ⟨g, o, none⟩) (W * H) c) := by rw [hw3]; go_simp
  have qb : w3.heap[w.heap.size + 1]? = some (.cells #[.int .i64 0, .int .i64 0, .int .i64 0, .int .i64 0] 29 (0, 0)) := by
    rw [hw3, Below.heap_alloc _ _ _ (by simp)]
    simpa using heap_alloc_new (w.alloc (.cells #[.int .i64 W, .int .i64 H, .slice (some ⟨g, o, none⟩) (W * H) c] 24)) (.cells #[.int .i64 0, .int .i64 0, .int .i64 0, .int .i64 0] 29)
  have hsz : w3.heap.size = w.heap.size + 3 := by rw [hw3]; simp
  have l0 : w.heap.size < w3.heap.size := by omega
  have l1 : w.heap.size < w3.heap.size + 1 := by omega
  have l2 : w.heap.size < w3.heap.size + 1 + 1 := by omega
  have l3 : w.heap.size < w3.heap.size + 1 + 1 + 1 := by omega
  rw [← hw3]
  clear hw3 hpe
  have HB3 := Lib.hid B3
  have HQB := Lib.hid qb
  have HSZ := Lib.hid hsz
  clear B3 qb hsz
  go_cut [5, 6, 7, 8] from 9 (fun t5 t6 t7 t8 wx => ∃ lb tb rb bb : Nat, t5 = .pointer (some ⟨lb, 0, none⟩) ∧ t6 = .pointer (some ⟨tb, 0, none⟩) ∧ t7 = .pointer (some ⟨rb, 0, none⟩) ∧ t8 = .pointer (some ⟨bb, 0, none⟩) ∧ Hid (Apart4 w3.heap.size lb tb rb bb ∧ Four lb tb rb bb W H (-1) (-1) wx ∧ Below w3.heap.size w3 wx))
  case first =>
    go_region
    all_goals
      go_wp2_with fail
      go_meet
      case rel =>
        refine ⟨_, _, _, _, rfl, rfl, rfl, rfl, Lib.hid ⟨⟨⟨?_, ?_, ?_, ?_⟩, ⟨?_, ?_, ?_⟩, ⟨?_, ?_⟩, ?_⟩, ?_, (below_alloc (below_alloc (below_alloc (new_below _ _) _) _) _).drew⟩⟩
        all_goals first | omega | skip
        obtain ⟨f0, f1, f2, f3⟩ := four_new w3 _ _ _ _
        refine ⟨?_, ?_, ?_, ?_⟩
        all_goals with_reducible first | exact f0 | exact f1 | exact f2 | exact f3
  case rest =>
    obtain ⟨w4, rfl⟩ : ∃ w4, w4 = wc := ⟨_, rfl⟩
    obtain ⟨lb, tb, rb, bb, rfl, rfl, rfl, rfl, HF⟩ := hcut
    have HA := Lib.hid HF.out.1
    have HB4 := Lib.hid HF.out.2.2
    have HFo := Lib.hid HF.out.2.1
    clear HF
    have k0 := cell_later HB4.out q0
    have k1 := cell_later HB4.out q1
    have k2 := cell_later HB4.out q2
    clear q0 q1 q2
    go_wp2_with fail
    refine (eachInk_any W H g o c 121 #[.pointer (some ⟨lb, 0, none⟩), .pointer (some ⟨rb, 0, none⟩), .pointer (some ⟨tb, 0, none⟩), .pointer (some ⟨bb, 0, none⟩)] z (fun y x wx => ∃ l t r b : Int, Four lb tb rb bb l t r b wx ∧ BndP (Seen z W y x) W H l t r b ∧ Below w3.heap.size w4 wx) (fun k => k ≠ lb ∧ k ≠ tb ∧ k ≠ rb ∧ k ≠ bb) w4 ⟨by omega, by omega⟩ ⟨by omega, by omega⟩ (Go.Proofs.enters_of Try.func121 (by kernel_rfl) rfl) (fun j hj => cell_later HB4.out (cell_later HB3.out (HC.out j hj))) ?_ ?_ ?_ ?_ ?_ ?_).mono ?_
    · obtain ⟨⟨g1, g2, g3, g4⟩, -⟩ := HA.out
      omega
    · obtain ⟨e1, e2, e3, e4⟩ := HFo.out
      have b1 := (Array.getElem?_eq_some_iff.1 e1).1
      have b2 := (Array.getElem?_eq_some_iff.1 e2).1
      have b3 := (Array.getElem?_eq_some_iff.1 e3).1
      have b4 := (Array.getElem?_eq_some_iff.1 e4).1
      omega
    · obtain ⟨e1, e2, e3, e4⟩ := HFo.out
      have nb := new_below w4 (.cells #[.int .i64 W, .int .i64 H, .slice (some ⟨g, o, none⟩) (W * H) c] 24)
      refine ⟨W, H, -1, -1, ⟨below_block nb e1, below_block nb e2, below_block nb e3, below_block nb e4⟩, .inl ⟨rfl, rfl, rfl, rfl, fun i j h => ?_⟩, (Below.refl _ _).alloc HB4.out.size _⟩
      obtain ⟨-, h, -⟩ := h
      omega
    · rintro y wx hy ⟨l, t, r, b, h1, h2, h3⟩
      exact ⟨l, t, r, b, h1, bndP_congr h2 (seen_row z W y), h3⟩
    · rintro y x wx hx hy hz ⟨l, t, r, b, h1, h2, h3⟩
      exact ⟨l, t, r, b, h1, bndP_congr h2 fun i j => seen_no z W y x i j hz, h3⟩
    · rintro y x wx hx hy hz ⟨l, t, r, b, h1, h2, h3⟩
      refine (bounds1_any x y w3.heap.size lb tb rb bb l t r b wx HA.out h1).mono ?_
      rintro e w' ⟨rfl, h1', hb', hk'⟩
      exact ⟨rfl, ⟨_, _, _, _, h1', bndP_step hx hy h2 fun i j => seen_yes z W y x i j hx hz, h3.trans hb'⟩, hk'⟩
    · rintro e w5 ⟨rfl, l, t, r, b, h1, h2, h3⟩
      have hend := bndP_end h2
      obtain ⟨c1, f1⟩ := block1 h1.1
      obtain ⟨c2, f2⟩ := block1 h1.2.1
      obtain ⟨c3, f3⟩ := block1 h1.2.2.1
      obtain ⟨c4, f4⟩ := block1 h1.2.2.2
      have qb5 : w5.heap[w.heap.size + 1]? = _ := (h3.block _ (by have := HSZ.out; omega)).trans ((HB4.out.block _ (by have := HSZ.out; omega)).trans HQB.out)
      obtain ⟨⟨j0, j1, j2, j3⟩, r0, r1, r2, r3⟩ := block4 qb5
      have lb5 := (Array.getElem?_eq_some_iff.1 qb5).1
      have HB5 := Lib.hid ((HB3.out.trans (HB4.out.mono (by omega))).trans (h3.mono (by omega)))
      have hd := HA.out
      clear qb5 h1 h2 h3 k0 k1 k2
      obtain ⟨⟨g1, g2, g3, g4⟩, -⟩ := hd
      have hsz := HSZ.out
      have n1 : lb ≠ w.heap.size + 1 := by omega
      have n2 : tb ≠ w.heap.size + 1 := by omega
      have n3 : rb ≠ w.heap.size + 1 := by omega
      have n4 : bb ≠ w.heap.size + 1 := by omega
      clear hsz
      rcases hend with ⟨hr, hB⟩ | ⟨hr, hB⟩
      · have HE := Lib.hid hB
        clear hB
        go_wp2_with fail
        refine bodyPost_ret (v := .tuple #[.agg #[.int .i64 0, .int .i64 0, .int .i64 0, .int .i64 0], .int .i64 10]) (by simp [results, Try.results64, go_sem, j0, j1, j2, j3]) rfl ⟨0, 0, 0, 0, false, rfl, HE.out, ?_⟩
        exact (((HB5.out.setCell (by simp) _).setCell (by simp) _).setCell (by simp) _).setCell (by simp) _
      · have HE := Lib.hid hB
        obtain ⟨⟨v1, v2, v3, v4⟩, v5, v6, v7, v8⟩ := box_range hB
        clear hB
        go_wp2_with fail
        refine bodyPost_ret (v := .tuple #[.agg #[.int .i64 l, .int .i64 t, .int .i64 (r - l + 1), .int .i64 (b - t + 1)], .int .i64 0]) (by simp [results, Try.results64, go_sem, j0, j1, j2, j3]) rfl ⟨_, _, _, _, true, rfl, HE.out, ?_⟩
        exact (((HB5.out.setCell (by simp) _).setCell (by simp) _).setCell (by simp) _).setCell (by simp) _

/-- The error of Bounds. -/
def bndErr (E : Int) (q : Bool) : Int := if E = 0 then (if q then 0 else 10) else E

theorem bounds_any (a b : Int) (s : Option Addr) (n c : Nat) (z : Nat → Bool) (w : World) (hs : IsBools w s n c z) :
    Calls Try.prog 64 #[.agg #[.int .i64 a, .int .i64 b, .slice s n c]] w fun e w' =>
      ∃ X Y bw bh q, e = .returned (.tuple #[.agg #[.int .i64 X, .int .i64 Y, .int .i64 bw, .int .i64 bh], .int .i64 (bndErr (pageErr a b n) q)]) ∧ ((pageErr a b n ≠ 0 ∧ X = 0 ∧ Y = 0 ∧ bw = 0 ∧ bh = 0) ∨ (pageErr a b n = 0 ∧ BoxIs z a.toNat b.toNat X Y bw bh q)) ∧ Below w.heap.size w w' := by
  by_cases h : pageErr a b n = 0
  · obtain ⟨W, H, rfl, rfl, hn, w1, w2, h1, h2, hN, he⟩ := page_nat h
    obtain ⟨g, o, rfl, hc⟩ := isBools_cells hs (by rw [hn]; exact Nat.mul_pos w1 h1)
    subst hn
    refine (bounds_ok W H g o c z w he hc).mono ?_
    rintro e w' ⟨X, Y, bw, bh, q, rfl, hB, hbel⟩
    exact ⟨X, Y, bw, bh, q, by rw [h]; rfl, .inr ⟨h, hB⟩, hbel⟩
  · refine (bounds_badPage a b s n c w h).mono ?_
    rintro e w' ⟨rfl, hbel⟩
    exact ⟨0, 0, 0, 0, false, by unfold bndErr; rw [if_neg h], .inl ⟨h, rfl, rfl, rfl, rfl⟩, hbel⟩

end Go.Proofs.Ytcpgnfbjdokdcaa
namespace Go.Proofs.Ytcpgnfbjdokdcaa
open Go.RowKit
set_option linter.unusedSimpArgs false
set_option linter.unusedVariables false

/-- Whether there is ink. -/
def anyInk (z : Nat → Bool) (n : Nat) : Bool := (List.range n).any z
theorem anyInk_true {z : Nat → Bool} {n k : Nat} (hk : k < n) (h : z k = true) : anyInk z n = true := by
  unfold anyInk; rw [List.any_eq_true]; exact ⟨k, List.mem_range.2 hk, h⟩
theorem anyInk_false {z : Nat → Bool} {n : Nat} (h : ∀ k, k < n → z k = false) : anyInk z n = false := by
  unfold anyInk; rw [List.any_eq_false]; intro x hx; rw [h x (List.mem_range.1 hx)]; simp
theorem box_any {z : Nat → Bool} {W H : Nat} {X Y bw bh : Int} {q : Bool} (hW : 1 ≤ W) (h : BoxIs z W H X Y bw bh q) : q = anyInk z (W * H) := by
  rcases h with ⟨rfl, _, _, _, _, h⟩ | ⟨rfl, L, T, R, B, _, _, _, _, hb⟩
  · rw [anyInk_false]
    intro k hk
    have h1 := h (k % W) (k / W) (Nat.mod_lt _ (by omega)) (Nat.div_lt_of_lt_mul hk)
    rw [Nat.mul_comm, Nat.div_add_mod] at h1
    exact h1
  · obtain ⟨_, ⟨⟨j, hj, hz⟩, hL⟩, _⟩ := hb
    have hfit := row_fits hj (show L + 1 ≤ W by omega)
    rw [anyInk_true (k := j * W + L) (by omega) hz]

def inkErr (q : Bool) : Int := if q then 0 else 10
def findErr (E most : Int) (q : Bool) : Int := if E = 0 then (if 0 ≤ most ∧ most ≤ 256 then (if q then 0 else 10) else 3) else E

theorem checkFind_any (a b most : Int) (s : Option Addr) (k c : Nat) (z : Nat → Bool) (w : World) (hs : IsBools w s k c z) :
    Calls Try.prog 130 #[.agg #[.int .i64 a, .int .i64 b, .slice s k c], .int .i64 most] w fun e w' => e = .returned (.int .i64 (findErr (pageErr a b k) most (anyInk z k))) ∧ Below w.heap.size w w' := by
  by_cases hp : pageErr a b k = 0
  · have t1 : (pageErr a b k != 0) = false := by simpa using hp
    by_cases hn : 0 ≤ most ∧ most ≤ 256
    · have H1 := Lib.hid hn
      have e : findErr (pageErr a b k) most (anyInk z k) = inkErr (anyInk z k) := by unfold findErr; rw [if_pos hp, if_pos hn]; rfl
      rw [e]
      have HS := Lib.hid hs
      have HPE := Lib.hid hp
      clear hn e hp hs
      go_enter Try.func130, Try.ntmps130
      go_wp2_with (first | (go_at_call 13; refine (checkBits_any _ _ _ _ _ _).mono ?_; rintro e w' ⟨rfl, rfl⟩) | (go_at_call 107; refine (outsideS_no _ _ _ _ H1.out).mono ?_; rintro e w' ⟨rfl, rfl⟩))
      obtain ⟨w1, hw1⟩ : ∃ w1, w1 = (w.alloc (.cells #[.int .i64 a, .int .i64 b, .slice s k c] 24)).alloc (.cells #[.int .i64 a, .int .i64 b, .slice s k c] 24) := ⟨_, rfl⟩
      have B1 := Lib.hid (show Below w.heap.size w w1 by rw [hw1]; exact below_alloc (new_below _ _) _)
      rw [← hw1]
      clear hw1
      refine (bounds_any a b s k c z w1 (isBools_later HS.out B1.out)).mono ?_
      rintro e w2 ⟨X, Y, bw, bh, q, rfl, hb, hb2⟩
      have hq : bndErr (pageErr a b k) q = inkErr (anyInk z k) := by
        obtain ⟨W, H, rfl, rfl, hn, w1, _, _, _, _, _⟩ := page_nat HPE.out
        rcases hb with h | ⟨_, h⟩
        · exact absurd HPE.out h.1
        · rw [Int.toNat_natCast, Int.toNat_natCast] at h
          unfold bndErr
          rw [if_pos HPE.out, box_any w1 h, ← hn]; rfl
      rw [hq]
      have G := Lib.hid (below_step B1.out hb2)
      obtain ⟨v, hv⟩ : ∃ v : Int, v = inkErr (anyInk z k) := ⟨_, rfl⟩
      rw [← hv]
      have HV := Lib.hid hv
      clear hb hb2 hq hv
      go_wp2_with fail
      go_ret
      exact ⟨ret_int HV.out, below_alloc G.out _⟩
    · have H1 := Lib.hid hn
      have e : findErr (pageErr a b k) most (anyInk z k) = 3 := by unfold findErr; rw [if_pos hp, if_neg hn]
      rw [e]
      clear hn e hp
      go_enter Try.func130, Try.ntmps130
      go_wp2_with (first | (go_at_call 13; refine (checkBits_any _ _ _ _ _ _).mono ?_; rintro e w' ⟨rfl, rfl⟩) | (go_at_call 107; refine (outsideS_yes _ _ _ _ H1.out).mono ?_; rintro e w' ⟨rfl, rfl⟩))
      go_ret
      exact ⟨rfl, below_alloc (new_below _ _) _⟩
  · have t1 : (pageErr a b k != 0) = true := by simpa using hp
    have e : findErr (pageErr a b k) most (anyInk z k) = pageErr a b k := by unfold findErr; rw [if_neg hp]
    rw [e]
    clear e hp
    go_enter Try.func130, Try.ntmps130
    go_wp2_with (first | (go_at_call 13; refine (checkBits_any _ _ _ _ _ _).mono ?_; rintro e w' ⟨rfl, rfl⟩))
    go_ret
    exact ⟨rfl, below_alloc (new_below _ _) _⟩

/-- The score of a number: the squares of the profile behind leaning back. -/
def scoreV (q : Nat → Nat → Bool) (W h : Nat) (n : Int) : Int := (sqSum (profV q W h (-n)) (2 * h) : Int)

theorem find1_any (W h pb hb wb cb bb ab M : Nat) (n : Int) (q : Nat → Nat → Bool) (w : World) (hW : 1 ≤ W ∧ W ≤ 4000) (hh : 1 ≤ h ∧ h ≤ 4000) (hN : W * h ≤ 1048576) (hM : M = (W + 1) * h) (hn : -256 ≤ n ∧ n ≤ 256)
    (h0 : w.cell? ⟨pb, 0, none⟩ = some (.func (.func 169) #[] #[.pointer (some ⟨hb, 0, none⟩), .pointer (some ⟨wb, 0, none⟩), .pointer (some ⟨cb, 0, none⟩)])) (hP : Prof W h q hb wb cb bb ab M w) :
    Calls Try.prog 133 #[.int .i64 n, .pointer (some ⟨pb, 0, none⟩)] w fun e w' => e = .returned (.int .i64 (scoreV q W h n)) ∧ Below w.heap.size w w' := by
  have HC := Lib.hid (profile_any W h hb wb cb bb ab M (-n) q w hW hh hN hM (by omega) hP)
  obtain ⟨s, hs⟩ : ∃ s, s = scoreV q W h n := ⟨_, rfl⟩
  rw [← hs]
  obtain ⟨n1, n2⟩ := hn
  have HS := Lib.hid hs
  clear hs hP hM
  go_enter Try.func133, Try.ntmps133
  go_wp2_with fail
  refine HC.out.mono ?_
  rintro e w2 ⟨v, rfl, hown, hb2⟩
  obtain ⟨pg, pc, rfl, _, hcell⟩ := owns_ints hown (by omega)
  have HCE := Lib.hid hcell
  have G := Lib.hid hb2
  clear hb2 hown hcell
  go_wp2_with fail
  refine (squares_any (2 * h) pg 0 pc (profV q W h (-n)) w2 (by omega) (fun j => Nat.le_trans (profUp_le _ _ _ _ _ _) hW.2) HCE.out).mono ?_
  rintro e w3 ⟨rfl, rfl⟩
  rw [show ((sqSum (profV q W h (-n)) (2 * h) : Nat) : Int) = s from HS.out.symm]
  go_wp2_with fail
  go_ret
  exact ⟨rfl, G.out⟩

theorem find_bad (a b most : Int) (s : Option Addr) (k c : Nat) (z : Nat → Bool) (w : World) (hs : IsBools w s k c z) (h : findErr (pageErr a b k) most (anyInk z k) ≠ 0) :
    Calls Try.prog 82 #[.agg #[.int .i64 a, .int .i64 b, .slice s k c], .int .i64 most] w fun e w' => e = .returned (.tuple #[.int .i64 0, .int .i64 (findErr (pageErr a b k) most (anyInk z k))]) ∧ Below w.heap.size w w' := by
  have HC := Lib.hid (checkFind_any a b most s k c z (w.alloc (.cells #[.int .i64 a, .int .i64 b, .slice s k c] 24)) (isBools_later hs (new_below _ _)))
  obtain ⟨q, hq⟩ : ∃ q, q = findErr (pageErr a b k) most (anyInk z k) := ⟨_, rfl⟩
  rw [← hq] at h HC ⊢
  have t1 : (q != 0) = true := by simpa using h
  clear h hq hs
  go_enter Try.func82, Try.ntmps82
  go_wp2_with fail
  have B1 := Lib.hid (new_below w (.cells #[.int .i64 a, .int .i64 b, .slice s k c] 24))
  refine HC.out.mono ?_
  rintro e w2 ⟨rfl, hb2⟩
  have G := Lib.hid (below_step B1.out hb2)
  clear hb2
  go_wp2_with fail
  go_ret2
  exact ⟨rfl, G.out⟩

set_option maxHeartbeats 800000 in
theorem find_ok (W H g o c most : Nat) (z : Nat → Bool) (w : World) (hs : sizeErr W H = 0) (hm : most ≤ 256) (hi : anyInk z (W * H) = true) (hp : ∀ j, j < W * H → w.cell? ⟨g, o + j, none⟩ = some (.bool (z j))) (hB : IsBools w (some ⟨g, o, none⟩) (W * H) c z) :
    Calls Try.prog 82 #[.agg #[.int .i64 W, .int .i64 H, .slice (some ⟨g, o, none⟩) (W * H) c], .int .i64 most] w fun e w' =>
      e = .returned (.tuple #[.int .i64 (bestUp (scoreV (inkQ z W) W H) most).1, .int .i64 0]) ∧ Below w.heap.size w w' := by
  have hmf : ∀ (fn : Fn) (first cap : Array Value) (w : World), (Instr.makeFunc fn first cap).run Try.prog w = .ok (.func fn first cap) w := fun _ _ _ _ => rfl
  obtain ⟨⟨a1, a2, a3, a4⟩, a5, a6⟩ := sizeErr_zero hs
  have hpe : pageErr W H (W * H) = 0 := by unfold pageErr; rw [if_pos hs, if_pos (by simp [Int.natCast_mul])]
  have hN : W * H ≤ 1048576 := by rw [← Int.natCast_mul] at a6; omega
  have hq : findErr (pageErr W H (W * H)) most (anyInk z (W * H)) = 0 := by unfold findErr; rw [if_pos hpe, if_pos (by omega), if_pos hi]
  have HQ := Lib.hid hq
  have HC := Lib.hid hp
  have HB := Lib.hid hB
  have bW : 1 ≤ W ∧ W ≤ 4000 := by omega
  have bH : 1 ≤ H ∧ H ≤ 4000 := by omega
  clear hp hq hpe a5 a6 hs hi hB
  go_enter Try.func82, Try.ntmps82
  go_wp2_with fail
  obtain ⟨w1, hw1⟩ : ∃ w1, w1 = w.alloc (.cells #[.int .i64 W, .int .i64 H, .slice (some ⟨g, o, none⟩) (W * H) c] 24) := ⟨_, rfl⟩
  have B1 : Below w.heap.size w w1 := by rw [hw1]; exact new_below _ _
  have q0 : w1.heap[w.heap.size]? = some (.cells #[.int .i64 W, .int .i64 H, .slice (some ⟨g, o, none⟩) (W * H) c] 24 (0, 0)) := by rw [hw1]; exact heap_alloc_new _ _
  rw [← hw1]
  clear hw1
  refine (checkFind_any W H most (some ⟨g, o, none⟩) (W * H) c z w1 (isBools_later HB.out B1)).mono ?_
  rintro e w2 ⟨rfl, hb2⟩
  rw [HQ.out]
  obtain ⟨p0, p1, p2, _, _, _⟩ := block3 (below_block hb2 q0)
  have G2 := Lib.hid (below_step B1 hb2)
  clear hb2 B1 q0
  go_wp2_with fail
  refine (rowProfiles_any W H g o c z w2 bW bH hN (fun j hj => cell_later G2.out (HC.out j hj))).mono ?_
  rintro e w3 ⟨hb, wb, cb, bb, ab, rfl, hP, hb3⟩
  have P3 := Lib.hid hP
  have G3 := Lib.hid (below_step G2.out hb3)
  clear hP hb3 p0 p1 p2
  go_upto_region 5 with (fail)
  obtain ⟨w4, hw4⟩ : ∃ w4, w4 = w3.alloc (.cells #[.func (.func 169) #[] #[.pointer (some ⟨hb, 0, none⟩), .pointer (some ⟨wb, 0, none⟩), .pointer (some ⟨cb, 0, none⟩)]] 128) := ⟨_, rfl⟩
  have B4 : Below w3.heap.size w3 w4 := by rw [hw4]; exact new_below _ _
  have k0 : w4.cell? ⟨w3.heap.size, 0, none⟩ = some (.func (.func 169) #[] #[.pointer (some ⟨hb, 0, none⟩), .pointer (some ⟨wb, 0, none⟩), .pointer (some ⟨cb, 0, none⟩)]) := by rw [hw4]; go_simp
  rw [← hw4]
  clear hw4
  have K0 := Lib.hid k0
  have P4 := Lib.hid (P3.out.later B4)
  have G4 := Lib.hid (below_step G3.out B4)
  clear k0 B4
  go_wp2_with fail
  refine (best_any most 133 _ (scoreV (inkQ z W) W H) w4 hm (Go.Proofs.enters_of Try.func133 (by kernel_rfl) rfl) ?_).mono ?_
  · intro n wx h1 h2 hbx
    exact find1_any W H w3.heap.size hb wb cb bb ab _ n (inkQ z W) wx bW bH hN rfl (by omega) (cell_later hbx K0.out) (P4.out.later hbx)
  · rintro e w5 ⟨rfl, hb5⟩
    obtain ⟨F, hF⟩ : ∃ F, F = (bestUp (scoreV (inkQ z W) W H) most).1 := ⟨_, rfl⟩
    rw [← hF]
    have G5 := Lib.hid (below_step G4.out hb5)
    have HF := Lib.hid hF
    clear hb5 hF
    go_wp2_with fail
    go_ret2
    exact ⟨by rw [HF.out]; rfl, G5.out⟩

end Go.Proofs.Ytcpgnfbjdokdcaa
namespace Go.Proofs.Ytcpgnfbjdokdcaa
open Go.ChangeShapes Go.WideShapes Go.ChangeAt Go.RowKit Go.Joins
open Go.ChangeMaps (open_string shut_string)
set_option linter.unusedVariables false

set_option maxRecDepth 100000 in
/-- A page in black and white by value, opened. -/
theorem open_bitsN {W : World} {H : Type} {enc : TypeId × Value → H} {base : Nat} {held : Bool} {r : Reach} {b0 : Nat} {v : Value} {d : DataW H} {p : List MemPlace}
    (hv : Value.okWide Try.prog W r b0 24 v) (h : DataW.Trod enc Try.prog W base (fun _ => true) held 24 v d p) :
    ∃ a b s n c B, v = .agg #[.int .i64 a, .int .i64 b, .slice s n c] ∧ IsBools W s n c B ∧ n ≤ 9223372036854775807 := by
  obtain ⟨c0, c1, c2, y0, y1, y2, m, rfl, rfl, rfl, hy0, hy1, hy2⟩ := open_agg3 Try.underlying24 (by kernel_rfl) cellsBits hv h
  obtain ⟨a, e0, rfl, wa⟩ := DataW.trod_int Try.underlying3 hy0
  obtain ⟨b, e1, rfl, wb⟩ := DataW.trod_int Try.underlying3 hy1
  simp at e0 e1
  subst e0 e1
  rcases Go.Deep.open_bools Try.underlying22 Try.underlying4 cellsBool hy2 with ⟨hcs, _⟩ | ⟨x, l, c, B, hcs, _, hl, hm, _, hcell⟩
  · simp at hcs
    subst hcs
    exact ⟨a, b, none, 0, 0, fun _ => false, rfl, .inl ⟨rfl, rfl, rfl⟩, by decide⟩
  · simp at hcs
    subst hcs
    exact ⟨a, b, some x, l, c, B, rfl, .inr ⟨x, rfl, fun i hi => hcell i (by omega)⟩, by unfold maxLen at hm; omega⟩

end Go.Proofs.Ytcpgnfbjdokdcaa
namespace Go.Proofs.Ytcpgnfbjdokdcaa
open Go.RowKit
set_option linter.unusedSimpArgs false
set_option linter.unusedVariables false

/-- The mean of the pixels of a square of two by two from (2x, 2y) on, as far as they are there. -/
def mean4 (P : Nat → Int) (W H x y : Nat) : Int :=
  (2 * rectSum P W (2 * y) (2 * x) (min (2 * x + 2) W - 2 * x) (min (2 * y + 2) H - 2 * y) + (((min (2 * x + 2) W - 2 * x) * (min (2 * y + 2) H - 2 * y) : Nat) : Int)) / (2 * (((min (2 * x + 2) W - 2 * x) * (min (2 * y + 2) H - 2 * y) : Nat) : Int))

end Go.Proofs.Ytcpgnfbjdokdcaa
namespace Go.Proofs.Ytcpgnfbjdokdcaa
open Go.RowKit
set_option linter.unusedSimpArgs false
set_option linter.unusedVariables false

/-- The place (a, b) lies in the other page. -/
def InC (Wc Hc : Nat) (x y : Int) (a b : Nat) : Prop := (0 ≤ (a : Int) - x ∧ (a : Int) - x < Wc) ∧ (0 ≤ (b : Int) - y ∧ (b : Int) - y < Hc)
instance (Wc Hc : Nat) (x y : Int) (a b : Nat) : Decidable (InC Wc Hc x y a b) := by unfold InC; infer_instance

/-- A place of the page with the other one pasted. -/
def pasteAt (W Wc Hc : Nat) (x y : Int) (z1 z2 : Nat → Bool) (a b : Nat) : Bool :=
  z1 (b * W + a) || (decide (InC Wc Hc x y a b) && z2 (((b : Int) - y).toNat * Wc + ((a : Int) - x).toNat))

end Go.Proofs.Ytcpgnfbjdokdcaa
namespace Go.Proofs.Ytcpgnfbjdokdcaa
open Go.RowKit
set_option linter.unusedSimpArgs false
set_option linter.unusedVariables false

theorem small_any (a b : Int) (w : World) (h : sizeErr a b = 0) : Calls Try.prog 32 #[.int .i64 a, .int .i64 b] w fun e w' => ∃ q, e = .returned (.bool q) ∧ w = w' := by
  obtain ⟨_, z0, z1⟩ := sizeErr_zero h
  have hw : wrap64 (a * b) = a * b := by unfold wrap64; omega
  clear h
  by_cases h1 : a ≤ 200
  · by_cases h2 : b ≤ 200
    · go_enter Try.func32, Try.ntmps32
      go_wp2_with ((go_at_call 47; refine (in_yes _ _ _ _ (by omega)).mono ?_; rintro e w' ⟨rfl, rfl⟩))
      go_ret
      exact ⟨_, rfl, rfl⟩
    · go_enter Try.func32, Try.ntmps32
      go_wp2_with (first | (go_at_call 47; refine (in_yes _ _ _ _ (by omega)).mono ?_; rintro e w' ⟨rfl, rfl⟩) | (go_at_call 47; refine (in_no _ _ _ _ (by omega)).mono ?_; rintro e w' ⟨rfl, rfl⟩))
      go_ret
      exact ⟨_, rfl, rfl⟩
  · go_enter Try.func32, Try.ntmps32
    go_wp2_with (first | (go_at_call 47; refine (in_no _ _ _ _ (by omega)).mono ?_; rintro e w' ⟨rfl, rfl⟩))
    go_ret
    exact ⟨_, rfl, rfl⟩

/-- What a halved page is, in memory: nothing with an error; else the means. -/
def HalveIs (a b : Int) (n : Nat) (z : Nat → Int) (B : Nat) (w : World) (i j : Int) (sl : Option Addr) (n' c' : Nat) : Prop :=
  (pageErr a b n ≠ 0 ∧ i = 0 ∧ j = 0 ∧ sl = none ∧ n' = 0 ∧ c' = 0) ∨
  (pageErr a b n = 0 ∧ i = (((a.toNat + 1) / 2 : Nat) : Int) ∧ j = (((b.toNat + 1) / 2 : Nat) : Int) ∧ n' = (a.toNat + 1) / 2 * ((b.toNat + 1) / 2) ∧ ∃ g, B ≤ g ∧ sl = some ⟨g, 0, none⟩ ∧ ∀ k, k < n' → w.cell? ⟨g, 0 + k, none⟩ = some (.int .u8 (mean4 z a.toNat b.toNat (k % ((a.toNat + 1) / 2)) (k / ((a.toNat + 1) / 2)))))

theorem HalveIs.later {a b : Int} {n : Nat} {z : Nat → Int} {B : Nat} {w w' : World} {i j : Int} {sl : Option Addr} {n' c' : Nat} (h : HalveIs a b n z B w i j sl n' c') (hb : Below w.heap.size w w') : HalveIs a b n z B w' i j sl n' c' := by
  rcases h with h | ⟨h1, h2, h3, h4, g, h5, h6, h7⟩
  · exact .inl h
  · exact .inr ⟨h1, h2, h3, h4, g, h5, h6, fun k hk => cell_later hb (h7 k hk)⟩

/-- The error of pasting. -/
def pasteErr (a1 b1 : Int) (n1 : Nat) (a2 b2 : Int) (n2 : Nat) : Int := orI (pageErr a1 b1 n1) (pageErr a2 b2 n2)

/-- What a pasted page is, in memory. -/
def PasteIs (a1 b1 : Int) (n1 : Nat) (a2 b2 : Int) (n2 : Nat) (x y : Int) (z1 z2 : Nat → Bool) (B : Nat) (w : World) (i j : Int) (sl : Option Addr) (n' c' : Nat) : Prop :=
  (pasteErr a1 b1 n1 a2 b2 n2 ≠ 0 ∧ i = 0 ∧ j = 0 ∧ sl = none ∧ n' = 0 ∧ c' = 0) ∨
  (pasteErr a1 b1 n1 a2 b2 n2 = 0 ∧ i = a1 ∧ j = b1 ∧ n' = n1 ∧ ∃ g, B ≤ g ∧ sl = some ⟨g, 0, none⟩ ∧ ∀ k, k < n' → w.cell? ⟨g, 0 + k, none⟩ = some (.bool (pasteAt a1.toNat a2.toNat b2.toNat x y z1 z2 (k % a1.toNat) (k / a1.toNat))))

theorem PasteIs.later {a1 b1 : Int} {n1 : Nat} {a2 b2 : Int} {n2 : Nat} {x y : Int} {z1 z2 : Nat → Bool} {B : Nat} {w w' : World} {i j : Int} {sl : Option Addr} {n' c' : Nat} (h : PasteIs a1 b1 n1 a2 b2 n2 x y z1 z2 B w i j sl n' c') (hb : Below w.heap.size w w') : PasteIs a1 b1 n1 a2 b2 n2 x y z1 z2 B w' i j sl n' c' := by
  rcases h with h | ⟨h1, h2, h3, h4, g, h5, h6, h7⟩
  · exact .inl h
  · exact .inr ⟨h1, h2, h3, h4, g, h5, h6, fun k hk => cell_later hb (h7 k hk)⟩

end Go.Proofs.Ytcpgnfbjdokdcaa
namespace Go.Proofs.Ytcpgnfbjdokdcaa
open Go.RowKit
set_option linter.unusedSimpArgs false
set_option linter.unusedVariables false

theorem leanError_any (n low : Int) (w : World) : Calls Try.prog 81 #[.int .i64 n, .int .i64 low] w fun e w' => e = .returned (.int .i64 (leanErr n low)) ∧ w = w' := by
  by_cases h : low ≤ n ∧ n ≤ 256
  · have e1 : leanErr n low = 0 := by unfold leanErr; rw [if_pos h]
    have H1 := Lib.hid h
    rw [e1]
    clear h e1
    go_enter Try.func81, Try.ntmps81
    go_wp2_with (first | (go_at_call 47; refine (in_yes _ _ _ _ H1.out).mono ?_; rintro e w' ⟨rfl, rfl⟩) | (go_at_call 23; refine (when_any _ _ _).mono ?_; rintro e w' ⟨rfl, rfl⟩))
    go_ret
    exact ⟨rfl, rfl⟩
  · have e1 : leanErr n low = 3 := by unfold leanErr; rw [if_neg h]
    have H1 := Lib.hid h
    rw [e1]
    clear h e1
    go_enter Try.func81, Try.ntmps81
    go_wp2_with (first | (go_at_call 47; refine (in_no _ _ _ _ H1.out).mono ?_; rintro e w' ⟨rfl, rfl⟩) | (go_at_call 23; refine (when_any _ _ _).mono ?_; rintro e w' ⟨rfl, rfl⟩))
    go_ret
    exact ⟨rfl, rfl⟩

theorem one_score : sqSum (profV (inkQ (fun _ => true) 1) 1 1 0) (2 * 1) = 1 := by decide

theorem skews_any (w : World) : Calls Try.prog 85 #[] w fun e w' => e = .returned (.bool true) ∧ Below w.heap.size w w' := by
  have hcell : ∀ j, j < 1 * 1 → (w.alloc (.cells #[.bool true] 4)).cell? ⟨w.heap.size, 0 + j, none⟩ = some (.bool ((fun _ => true) j)) := fun j hj => by
    have : j = 0 := by omega
    subst this
    go_simp
  have HS := Lib.hid (score_ok 1 1 w.heap.size 0 1 0 (fun _ => true) (w.alloc (.cells #[.bool true] 4)) (by decide) (by omega) hcell)
  clear hcell
  rw [one_score] at HS
  go_enter Try.func85, Try.ntmps85
  go_wp2_with fail
  refine HS.out.mono ?_
  rintro e w2 ⟨rfl, hb2⟩
  have G := Lib.hid (below_step (new_below w _) hb2)
  clear hb2
  go_wp2_with fail
  go_ret
  exact ⟨rfl, G.out⟩

def leanZ (W H : Nat) (z : Nat → Bool) (n : Int) (j : Nat) : Bool := atB W H z ((j % W : Nat) : Int) (((j / W : Nat) : Int) - fallV W n (j % W))
def slantZ (W H : Nat) (z : Nat → Bool) (n : Int) (j : Nat) : Bool := atB W H z (((j % W : Nat) : Int) - fallV H (-n) (j / W)) ((j / W : Nat) : Int)
theorem leanS_any (W H g o c : Nat) (n : Int) (z : Nat → Bool) (w : World) (hs : sizeErr W H = 0) (hn : -256 ≤ n ∧ n ≤ 256) (hp : ∀ j, j < W * H → w.cell? ⟨g, o + j, none⟩ = some (.bool (z j))) :
    Calls Try.prog 135 #[.agg #[.int .i64 W, .int .i64 H, .slice (some ⟨g, o, none⟩) (W * H) c], .int .i64 n] w fun e w' =>
      ∃ g' c', e = .returned (.tuple #[.agg #[.int .i64 W, .int .i64 H, .slice (some ⟨g', 0, none⟩) (W * H) c'], .int .i64 0]) ∧ (∀ j, j < W * H → w'.cell? ⟨g', 0 + j, none⟩ = some (.bool (leanZ W H z n j))) ∧ Below w.heap.size w w' := by
  obtain ⟨⟨a1, a2, a3, a4⟩, _, _⟩ := sizeErr_zero hs
  refine (lean_ok W H g o c n z w hs hn hp).mono ?_
  rintro e w' ⟨v, rfl, ho, hb⟩
  obtain ⟨g', c', rfl, _, hz⟩ := owns_pageB ho (Nat.mul_pos (by omega) (by omega))
  exact ⟨g', c', rfl, hz, hb⟩
theorem leanRf_any (W H g o c : Nat) (n : Int) (z : Nat → Bool) (w : World) (bW : 1 ≤ W ∧ W ≤ 4000) (bH : 1 ≤ H ∧ H ≤ 4000) (hN : W * H ≤ 1048576) (hn : -256 ≤ n ∧ n ≤ 256) (hp : ∀ j, j < W * H → w.cell? ⟨g, o + j, none⟩ = some (.bool (z j))) :
    Calls Try.prog 87 #[.agg #[.int .i64 W, .int .i64 H, .slice (some ⟨g, o, none⟩) (W * H) c], .int .i64 n] w fun e w' =>
      ∃ g' c', e = .returned (.agg #[.int .i64 W, .int .i64 H, .slice (some ⟨g', 0, none⟩) (W * H) c']) ∧ (∀ j, j < W * H → w'.cell? ⟨g', 0 + j, none⟩ = some (.bool (leanZ W H z n j))) ∧ Below w.heap.size w w' := by
  refine (leanR_ok W H g o c n z w bW bH hN hn hp).mono ?_
  rintro e w' ⟨v, rfl, ho, hb⟩
  obtain ⟨g', c', rfl, _, hz⟩ := owns_pageB ho (Nat.mul_pos (by omega) (by omega))
  exact ⟨g', c', rfl, hz, hb⟩
theorem slantRf_any (W H g o c : Nat) (n : Int) (z : Nat → Bool) (w : World) (bW : 1 ≤ W ∧ W ≤ 4000) (bH : 1 ≤ H ∧ H ≤ 4000) (hN : W * H ≤ 1048576) (hn : -256 ≤ n ∧ n ≤ 256) (hp : ∀ j, j < W * H → w.cell? ⟨g, o + j, none⟩ = some (.bool (z j))) :
    Calls Try.prog 146 #[.agg #[.int .i64 W, .int .i64 H, .slice (some ⟨g, o, none⟩) (W * H) c], .int .i64 n] w fun e w' =>
      ∃ g' c', e = .returned (.agg #[.int .i64 W, .int .i64 H, .slice (some ⟨g', 0, none⟩) (W * H) c']) ∧ (∀ j, j < W * H → w'.cell? ⟨g', 0 + j, none⟩ = some (.bool (slantZ W H z n j))) ∧ Below w.heap.size w w' := by
  refine (slantR_ok W H g o c n z w bW bH hN hn hp).mono ?_
  rintro e w' ⟨v, rfl, ho, hb⟩
  obtain ⟨g', c', rfl, _, hz⟩ := owns_pageB ho (Nat.mul_pos (by omega) (by omega))
  exact ⟨g', c', rfl, hz, hb⟩

end Go.Proofs.Ytcpgnfbjdokdcaa
namespace Go.Proofs.Ytcpgnfbjdokdcaa
open Go.RowKit
set_option linter.unusedSimpArgs false
set_option linter.unusedVariables false

theorem bestUp_range (sc : Int → Int) (k : Nat) : -(k : Int) ≤ (bestUp sc k).1 ∧ (bestUp sc k).1 ≤ k := by
  induction k with
  | zero => exact ⟨by simp [bestUp], by simp [bestUp]⟩
  | succ k ih =>
    have step : ∀ p : Int × Int, ∀ n : Int, (stepV sc p n).1 = n ∨ (stepV sc p n).1 = p.1 := fun p n => by unfold stepV; split <;> simp
    rw [bestUp]
    rcases step (stepV sc (bestUp sc k) ((k + 1 : Nat) : Int)) (-((k + 1 : Nat) : Int)) with h | h <;> rw [h]
    · omega
    · rcases step (bestUp sc k) ((k + 1 : Nat) : Int) with h2 | h2 <;> rw [h2] <;> omega

theorem straight_bad (a b most : Int) (s : Option Addr) (k c : Nat) (z : Nat → Bool) (w : World) (hs : IsBools w s k c z) (h : findErr (pageErr a b k) most (anyInk z k) ≠ 0) :
    Calls Try.prog 83 #[.agg #[.int .i64 a, .int .i64 b, .slice s k c], .int .i64 most] w fun e w' => e = .returned (.tuple #[.agg #[.int .i64 0, .int .i64 0, .slice none 0 0], .int .i64 0, .int .i64 (findErr (pageErr a b k) most (anyInk z k))]) ∧ Below w.heap.size w w' := by
  obtain ⟨w1, hw1⟩ : ∃ w1, w1 = (w.alloc (.cells #[.int .i64 a, .int .i64 b, .slice s k c] 24)).alloc (.cells #[.int .i64 0, .int .i64 0, .slice none 0 0] 24) := ⟨_, rfl⟩
  have B1 : Below w.heap.size w w1 := by rw [hw1]; exact below_alloc (new_below _ _) _
  have qb : w1.heap[w.heap.size + 1]? = some (.cells #[.int .i64 0, .int .i64 0, .slice none 0 0] 24 (0, 0)) := by
    rw [hw1]; simpa using heap_alloc_new (w.alloc (.cells #[.int .i64 a, .int .i64 b, .slice s k c] 24)) (.cells #[.int .i64 0, .int .i64 0, .slice none 0 0] 24)
  have HC := Lib.hid (find_bad a b most s k c z w1 (isBools_later hs B1) h)
  obtain ⟨q, hq⟩ : ∃ q, q = findErr (pageErr a b k) most (anyInk z k) := ⟨_, rfl⟩
  rw [← hq] at h HC ⊢
  have t1 : (q != 0) = true := by simpa using h
  have HW := Lib.hid hw1
  have HB1 := Lib.hid B1
  have HQB := Lib.hid qb
  clear h hq hs hw1 B1 qb
  go_enter Try.func83, Try.ntmps83
  go_wp2_with fail
  rw [← HW.out]
  refine HC.out.mono ?_
  rintro e w2 ⟨rfl, hb2⟩
  obtain ⟨j0, j1, j2, r0, r1, r2⟩ := block3 (below_block hb2 HQB.out)
  have G := Lib.hid (below_step HB1.out hb2)
  clear hb2
  go_wp2_with fail
  exact bodyPost_ret (v := .tuple #[.agg #[.int .i64 0, .int .i64 0, .slice none 0 0], .int .i64 0, .int .i64 q]) (by simp [results, Try.results83, go_sem, j0, j1, j2]) rfl ⟨rfl, below_far3 G.out (by omega)⟩

set_option maxHeartbeats 800000 in
theorem straight_ok (W H g o c most : Nat) (z : Nat → Bool) (w : World) (hs : sizeErr W H = 0) (hm : most ≤ 256) (hi : anyInk z (W * H) = true) (hp : ∀ j, j < W * H → w.cell? ⟨g, o + j, none⟩ = some (.bool (z j))) (hB : IsBools w (some ⟨g, o, none⟩) (W * H) c z) :
    Calls Try.prog 83 #[.agg #[.int .i64 W, .int .i64 H, .slice (some ⟨g, o, none⟩) (W * H) c], .int .i64 most] w fun e w' =>
      ∃ g' c', e = .returned (.tuple #[.agg #[.int .i64 W, .int .i64 H, .slice (some ⟨g', 0, none⟩) (W * H) c'], .int .i64 (bestUp (scoreV (inkQ z W) W H) most).1, .int .i64 0]) ∧
        (∀ j, j < W * H → w'.cell? ⟨g', 0 + j, none⟩ = some (.bool (leanZ W H z (-(bestUp (scoreV (inkQ z W) W H) most).1) j))) ∧ Below w.heap.size w w' := by
  obtain ⟨w1, hw1⟩ : ∃ w1, w1 = (w.alloc (.cells #[.int .i64 W, .int .i64 H, .slice (some ⟨g, o, none⟩) (W * H) c] 24)).alloc (.cells #[.int .i64 0, .int .i64 0, .slice none 0 0] 24) := ⟨_, rfl⟩
  have B1 : Below w.heap.size w w1 := by rw [hw1]; exact below_alloc (new_below _ _) _
  have q1 : w1.heap[w.heap.size]? = some (.cells #[.int .i64 W, .int .i64 H, .slice (some ⟨g, o, none⟩) (W * H) c] 24 (0, 0)) := by
    rw [hw1, Below.heap_alloc _ _ _ (by simp)]; exact heap_alloc_new _ _
  have qb : w1.heap[w.heap.size + 1]? = some (.cells #[.int .i64 0, .int .i64 0, .slice none 0 0] 24 (0, 0)) := by
    rw [hw1]; simpa using heap_alloc_new (w.alloc (.cells #[.int .i64 W, .int .i64 H, .slice (some ⟨g, o, none⟩) (W * H) c] 24)) (.cells #[.int .i64 0, .int .i64 0, .slice none 0 0] 24)
  have HC := Lib.hid (find_ok W H g o c most z w1 hs hm hi (fun j hj => cell_later B1 (hp j hj)) (isBools_later hB B1))
  obtain ⟨F, hF⟩ : ∃ F, F = (bestUp (scoreV (inkQ z W) W H) most).1 := ⟨_, rfl⟩
  have hr := bestUp_range (scoreV (inkQ z W) W H) most
  rw [← hF] at HC hr ⊢
  obtain ⟨r1', r2'⟩ := hr
  have HW := Lib.hid hw1
  have HB1 := Lib.hid B1
  have HQ1 := Lib.hid q1
  have HQB := Lib.hid qb
  have HP := Lib.hid hp
  have HSZ := Lib.hid hs
  have hF2 : -256 ≤ F := by omega
  have hF3 : F ≤ 256 := by omega
  clear hs hw1 B1 q1 qb hF hp hB hi
  go_enter Try.func83, Try.ntmps83
  go_wp2_with fail
  rw [← HW.out]
  refine HC.out.mono ?_
  rintro e w2 ⟨rfl, hb2⟩
  have Q2 := Lib.hid (below_block hb2 HQ1.out)
  have QB2 := Lib.hid (below_block hb2 HQB.out)
  have G2 := Lib.hid (below_step HB1.out hb2)
  clear hb2
  obtain ⟨p0, p1, p2, _, _, _⟩ := block3 Q2.out
  go_wp2_with fail
  refine (leanS_any W H g o c (-F) z w2 HSZ.out (by omega) (fun j hj => cell_later G2.out (HP.out j hj))).mono ?_
  rintro e w3 ⟨g', c', rfl, hz3, hb3⟩
  have QB3 := Lib.hid (below_block hb3 QB2.out)
  have G3 := Lib.hid (below_step G2.out hb3)
  have Z3 := Lib.hid hz3
  have lt3 : w.heap.size + 1 < w3.heap.size := (Array.getElem?_eq_some_iff.1 QB3.out).1
  have HLT := Lib.hid lt3
  clear hb3 hz3 p0 p1 p2 Q2 QB2 lt3
  obtain ⟨j0, j1, j2, r0, r1, r2⟩ := block3 QB3.out
  have HL := Lib.hid (fun j (hj : j < W * H) => show g' < w3.heap.size from by have := World.block_lt_of_cell? _ _ (Z3.out j hj); simpa using this)
  go_upto_region 5 with (fail)
  obtain ⟨w4, hw4⟩ : ∃ w4, w4 = w3.alloc (.cells #[.int .i64 W, .int .i64 H, .slice (some ⟨g', 0, none⟩) (W * H) c'] 24) := ⟨_, rfl⟩
  have B4 : Below w3.heap.size w3 w4 := by rw [hw4]; exact new_below _ _
  obtain ⟨k0, k1, k2, _, _, _⟩ := block3 (w := w4) (b := w3.heap.size) (x := .int .i64 W) (y := .int .i64 H) (z := .slice (some ⟨g', 0, none⟩) (W * H) c') (t := 24) (by rw [hw4]; exact heap_alloc_new _ _)
  have QB4 := Lib.hid (below_block B4 QB3.out)
  have G4 := Lib.hid (below_step G3.out B4)
  have Z4 := Lib.hid (fun j hj => cell_later B4 (Z3.out j hj))
  rw [← hw4]
  clear hw4 B4 j0 j1 j2 r0 r1 r2
  obtain ⟨j0, j1, j2, r0, r1, r2⟩ := block3 QB4.out
  go_wp2_with fail
  refine bodyPost_ret (v := .tuple #[.agg #[.int .i64 W, .int .i64 H, .slice (some ⟨g', 0, none⟩) (W * H) c'], .int .i64 F, .int .i64 0]) (by simp [results, Try.results83, go_sem, j0, j1, j2]) rfl ⟨g', c', rfl, fun j hj => ?_, below_far3 G4.out (by omega)⟩
  refine cell_far3 ?_ (Z4.out j hj)
  have e0 := Z4.out 0 (by omega)
  intro h
  have h' : g' = w.heap.size + 1 := h
  rw [h', Nat.add_zero, (block3 QB4.out).1] at e0
  cases e0

end Go.Proofs.Ytcpgnfbjdokdcaa
namespace Go.Proofs.Ytcpgnfbjdokdcaa
open Go.RowKit
set_option linter.unusedSimpArgs false
set_option linter.unusedVariables false

/-- The ink of a page by rows and columns. -/
def inkT (z : Nat → Bool) (W x y : Nat) : Bool := z (x * W + y)
/-- The score of a number when rows are moved. -/
def slantV (z : Nat → Bool) (W H : Nat) (n : Int) : Int := (sqSum (fun j => profV (inkT z W) H W n (W / 2 + j)) W : Int)

theorem findSlant1_any (W H x y gb pb po c : Nat) (z : Nat → Bool) (w : World) (hW : W ≤ 4000) (hH : H ≤ 4000) (hx : x < H) (hy : y < W)
    (h0 : w.cell? ⟨gb, 0, none⟩ = some (.int .i64 W)) (h2 : w.cell? ⟨gb, 2, none⟩ = some (.slice (some ⟨pb, po, none⟩) (W * H) c)) (hp : w.cell? ⟨pb, po + (x * W + y), none⟩ = some (.bool (z (x * W + y)))) :
    Calls Try.prog 137 #[.int .i64 x, .int .i64 y, .pointer (some ⟨gb, 0, none⟩)] w fun e w' => e = .returned (.bool (inkT z W x y)) ∧ Below w.heap.size w w' := by
  have hfit := row_fits hx (show y + 1 ≤ W by omega)
  have hN := Nat.mul_le_mul hW hH
  have x0 : (0 : Int) ≤ (x : Int) * (W : Int) := Int.mul_nonneg (by omega) (by omega)
  have x1 : (x : Int) * (W : Int) + (y : Int) < ((W * H : Nat) : Int) := by rw [← Int.natCast_mul]; omega
  have x3 : (x : Int) * (W : Int) + (y : Int) < (W : Int) * (H : Int) := by rw [← Int.natCast_mul, ← Int.natCast_mul]; omega
  have x2 : ((W * H : Nat) : Int) ≤ 16000000 := by omega
  obtain ⟨p, hpe⟩ : ∃ p, p = z (x * W + y) := ⟨_, rfl⟩
  rw [show inkT z W x y = p from hpe.symm]
  rw [← hpe] at hp
  clear hfit hN hpe
  go_enter Try.func137, Try.ntmps137
  go_wp2_with fail
  go_ret
  exact ⟨rfl, Below.refl _ _⟩

theorem owns_cap {w : World} {base n g c : Nat} {f : Nat → Int} (h : w.ownsRow base 3 1 (.slice (some ⟨g, 0, none⟩) n c) n (intsOf f n)) : n ≤ c ∧ c ≤ 9223372036854775807 := by
  rcases h.2 with ⟨h0, _⟩ | ⟨g', cap, cur, h0, _, _, h1, h2, _⟩
  · cases h0
  · cases h0; unfold maxLen at h2; exact ⟨h1, h2⟩

set_option maxHeartbeats 800000 in
theorem findSlant2_any (W H pb fb gb hb wb cb bb ab M : Nat) (n : Int) (z : Nat → Bool) (w : World) (hW : 1 ≤ W ∧ W ≤ 4000) (hH : 1 ≤ H ∧ H ≤ 4000) (hN : W * H ≤ 1048576) (hM : M = (H + 1) * W) (hn : -256 ≤ n ∧ n ≤ 256)
    (h0 : w.cell? ⟨pb, 0, none⟩ = some (.func (.func 169) #[] #[.pointer (some ⟨hb, 0, none⟩), .pointer (some ⟨wb, 0, none⟩), .pointer (some ⟨cb, 0, none⟩)])) (h1 : w.cell? ⟨fb, 0, none⟩ = some (.int .i64 ((W / 2 : Nat) : Int))) (h2 : w.cell? ⟨gb, 0, none⟩ = some (.int .i64 W)) (hP : Prof H W (inkT z W) hb wb cb bb ab M w) :
    Calls Try.prog 138 #[.int .i64 n, .pointer (some ⟨pb, 0, none⟩), .pointer (some ⟨fb, 0, none⟩), .pointer (some ⟨gb, 0, none⟩)] w fun e w' => e = .returned (.int .i64 (slantV z W H n)) ∧ Below w.heap.size w w' := by
  have HC := Lib.hid (profile_any H W hb wb cb bb ab M n (inkT z W) w.drew hH hW (by rw [Nat.mul_comm]; exact hN) hM hn (hP.later (Below.refl _ _).drew))
  obtain ⟨s, hs⟩ : ∃ s, s = slantV z W H n := ⟨_, rfl⟩
  rw [← hs]
  obtain ⟨f, hf⟩ : ∃ f, f = W / 2 := ⟨_, rfl⟩
  rw [← hf] at h1
  obtain ⟨m, hm⟩ : ∃ m, m = 2 * W := ⟨_, rfl⟩
  rw [← hm] at HC
  have hfm : f + W ≤ m := by omega
  have hW2 := hW.2
  have GG := Lib.hid (fun (pc : Nat) (h : m ≤ pc) => show (f : Int) + (W : Int) ≤ (pc : Int) ∧ (f : Int) < (pc : Int) ∧ f < pc from ⟨by omega, by omega, by omega⟩)
  have g2 : (f : Int) ≤ (f : Int) + (W : Int) := by omega
  have e1 : IntKind.i64.wrap ((f : Int) + (W : Int)) = (f : Int) + (W : Int) := IntWalk.i64_in _ (by omega)
  have e2 : (0 : Int) ≤ (f : Int) + (W : Int) := by omega
  have e3 : ((f : Int) + (W : Int)).toNat = f + W := by omega
  have e4 : (0 : Int) ≤ (f : Int) := by omega
  have HS := Lib.hid (show s = (sqSum (fun j => profV (inkT z W) H W n (f + j)) W : Int) from by rw [hs, hf]; rfl)
  have HM2 := Lib.hid hm
  clear hs hP hM hf hm
  go_enter Try.func138, Try.ntmps138
  go_wp2_with fail
  go_region_held3 (fun w' => w'.cell? ⟨pb, 0, none⟩ = some (.func (.func 169) #[] #[.pointer (some ⟨hb, 0, none⟩), .pointer (some ⟨wb, 0, none⟩), .pointer (some ⟨cb, 0, none⟩)]) ∧ w'.cell? ⟨fb, 0, none⟩ = some (.int .i64 (f : Int)) ∧ w'.cell? ⟨gb, 0, none⟩ = some (.int .i64 W))
    (first | (go_keep; done) | (go_split_ands; exact ⟨cell_later hb5 (by assumption), cell_later hb5 (by assumption), cell_later hb5 (by assumption)⟩))
    ((first | ((first | go_at_call 169 | go_at_fn 169); ((with_reducible refine HC.out.mono ?_); rintro e w5 ⟨v, rfl, hown5, hb5⟩; have ho5 := owns_ints hown5 (by omega); obtain ⟨pg, pc, hv5, hpg5, hcell5⟩ := ho5; subst hv5; have hcap := GG.out pc (owns_cap hown5).1; obtain ⟨g1, g3, g4⟩ := hcap; have HCE := Lib.hid hcell5; clear hcell5 hown5)) | (go_at_call 134; ((rw [if_neg (Nat.ne_of_gt g4)]); (with_reducible refine (squares_any W pg f (pc - f) (fun j => profV (inkT z W) H W n (f + j)) w5 (by omega) (fun j => Nat.le_trans (profUp_le _ _ _ _ _ _) hH.2) (fun j hj => by have h5 := HCE.out (f + j) (by omega); rw [Nat.zero_add] at h5; exact h5)).mono ?_); rw [← HS.out]; rintro e w6 ⟨rfl, rfl⟩))))
  go_wp2_with fail
  go_ret
  exact ⟨rfl, below_step (Below.refl _ _).drew hb5⟩

theorem findSlant_bad (a b most : Int) (s : Option Addr) (k c : Nat) (z : Nat → Bool) (w : World) (hs : IsBools w s k c z) (h : findErr (pageErr a b k) most (anyInk z k) ≠ 0) :
    Calls Try.prog 84 #[.agg #[.int .i64 a, .int .i64 b, .slice s k c], .int .i64 most] w fun e w' => e = .returned (.tuple #[.int .i64 0, .int .i64 (findErr (pageErr a b k) most (anyInk z k))]) ∧ Below w.heap.size w w' := by
  have HC := Lib.hid (checkFind_any a b most s k c z (w.alloc (.cells #[.int .i64 a, .int .i64 b, .slice s k c] 24)) (isBools_later hs (new_below _ _)))
  obtain ⟨q, hq⟩ : ∃ q, q = findErr (pageErr a b k) most (anyInk z k) := ⟨_, rfl⟩
  rw [← hq] at h HC ⊢
  have t1 : (q != 0) = true := by simpa using h
  clear h hq hs
  go_enter Try.func84, Try.ntmps84
  go_wp2_with fail
  have B1 := Lib.hid (new_below w (.cells #[.int .i64 a, .int .i64 b, .slice s k c] 24))
  refine HC.out.mono ?_
  rintro e w2 ⟨rfl, hb2⟩
  have G := Lib.hid (below_step B1.out hb2)
  clear hb2
  go_wp2_with fail
  go_ret2
  exact ⟨rfl, G.out⟩

set_option maxHeartbeats 800000 in
theorem findSlant_ok (W H g o c most : Nat) (z : Nat → Bool) (w : World) (hs : sizeErr W H = 0) (hm : most ≤ 256) (hi : anyInk z (W * H) = true) (hp : ∀ j, j < W * H → w.cell? ⟨g, o + j, none⟩ = some (.bool (z j))) (hB : IsBools w (some ⟨g, o, none⟩) (W * H) c z) :
    Calls Try.prog 84 #[.agg #[.int .i64 W, .int .i64 H, .slice (some ⟨g, o, none⟩) (W * H) c], .int .i64 most] w fun e w' =>
      e = .returned (.tuple #[.int .i64 (bestUp (slantV z W H) most).1, .int .i64 0]) ∧ Below w.heap.size w w' := by
  have hmf : ∀ (fn : Fn) (first cap : Array Value) (w : World), (Instr.makeFunc fn first cap).run Try.prog w = .ok (.func fn first cap) w := fun _ _ _ _ => rfl
  obtain ⟨⟨a1, a2, a3, a4⟩, a5, a6⟩ := sizeErr_zero hs
  have hpe : pageErr W H (W * H) = 0 := by unfold pageErr; rw [if_pos hs, if_pos (by simp [Int.natCast_mul])]
  have hN : W * H ≤ 1048576 := by rw [← Int.natCast_mul] at a6; omega
  have hq : findErr (pageErr W H (W * H)) most (anyInk z (W * H)) = 0 := by unfold findErr; rw [if_pos hpe, if_pos (by omega), if_pos hi]
  have HQ := Lib.hid hq
  have HC := Lib.hid hp
  have HB := Lib.hid hB
  have bW : 1 ≤ W ∧ W ≤ 4000 := by omega
  have bH : 1 ≤ H ∧ H ≤ 4000 := by omega
  clear hp hq hpe a5 a6 hs hi hB
  go_enter Try.func84, Try.ntmps84
  go_wp2_with fail
  obtain ⟨w1, hw1⟩ : ∃ w1, w1 = w.alloc (.cells #[.int .i64 W, .int .i64 H, .slice (some ⟨g, o, none⟩) (W * H) c] 24) := ⟨_, rfl⟩
  have B1 : Below w.heap.size w w1 := by rw [hw1]; exact new_below _ _
  have q0 : w1.heap[w.heap.size]? = some (.cells #[.int .i64 W, .int .i64 H, .slice (some ⟨g, o, none⟩) (W * H) c] 24 (0, 0)) := by rw [hw1]; exact heap_alloc_new _ _
  rw [← hw1]
  clear hw1
  refine (checkFind_any W H most (some ⟨g, o, none⟩) (W * H) c z w1 (isBools_later HB.out B1)).mono ?_
  rintro e w2 ⟨rfl, hb2⟩
  rw [HQ.out]
  obtain ⟨p0, p1, p2, _, _, _⟩ := block3 (below_block hb2 q0)
  have G2 := Lib.hid (below_step B1 hb2)
  clear hb2 B1 q0
  go_wp2_with fail
  refine (profiles_any H W 137 _ (inkT z W) w2 bH bW (by rw [Nat.mul_comm]; exact hN) (Go.Proofs.enters_of Try.func137 (by kernel_rfl) rfl) ?_).mono ?_
  · intro x y wx hx hy hbx
    have hfit := row_fits hx (show y + 1 ≤ W by omega)
    exact findSlant1_any W H x y w.heap.size g o c z wx bW.2 bH.2 hx hy (cell_later hbx p0) (cell_later hbx p2) (cell_later (below_step G2.out hbx) (HC.out _ (by omega)))
  rintro e w3 ⟨hb, wb, cb, bb, ab, rfl, hP, hb3⟩
  have P3 := Lib.hid hP
  have G3 := Lib.hid (below_step G2.out hb3)
  have r0 := cell_later hb3 p0
  clear hP hb3 p0 p1 p2
  go_upto_region 5 with (fail)
  obtain ⟨w4, hw4⟩ : ∃ w4, w4 = w3.alloc (.cells #[.func (.func 169) #[] #[.pointer (some ⟨hb, 0, none⟩), .pointer (some ⟨wb, 0, none⟩), .pointer (some ⟨cb, 0, none⟩)]] 128) := ⟨_, rfl⟩
  have B4 : Below w3.heap.size w3 w4 := by rw [hw4]; exact new_below _ _
  have k0 : w4.cell? ⟨w3.heap.size, 0, none⟩ = some (.func (.func 169) #[] #[.pointer (some ⟨hb, 0, none⟩), .pointer (some ⟨wb, 0, none⟩), .pointer (some ⟨cb, 0, none⟩)]) := by rw [hw4]; go_simp
  rw [← hw4]
  clear hw4
  have r1 := cell_later B4 r0
  have K0 := Lib.hid k0
  have P4 := Lib.hid (P3.out.later B4)
  have G4 := Lib.hid (below_step G3.out B4)
  clear k0 B4 r0
  obtain ⟨f, hf⟩ : ∃ f, f = W / 2 := ⟨_, rfl⟩
  have ef : (W : Int) / 2 = (f : Int) := by omega
  have HFF := Lib.hid hf
  clear hf
  go_upto_region 6 with (fail)
  obtain ⟨w5, hw5⟩ : ∃ w5, w5 = w4.alloc (.cells #[.int .i64 (f : Int)] 3) := ⟨_, rfl⟩
  have B5 : Below w4.heap.size w4 w5 := by rw [hw5]; exact new_below _ _
  have k5 : w5.cell? ⟨w4.heap.size, 0, none⟩ = some (.int .i64 (f : Int)) := by rw [hw5]; go_simp
  rw [← hw5]
  clear hw5
  rw [HFF.out] at k5
  have K1 := Lib.hid (show _ ∧ _ ∧ _ from ⟨cell_later B5 K0.out, k5, cell_later B5 r1⟩)
  have P5 := Lib.hid (P4.out.later B5)
  have G5 := Lib.hid (below_step G4.out B5)
  clear k5 B5 r1 ef
  go_wp2_with fail
  refine (best_any most 138 _ (slantV z W H) w5 hm (Go.Proofs.enters_of Try.func138 (by kernel_rfl) rfl) ?_).mono ?_
  · intro n wx h1 h2 hbx
    exact findSlant2_any W H w3.heap.size w4.heap.size w.heap.size hb wb cb bb ab _ n z wx bW bH hN rfl (by omega) (cell_later hbx K1.out.1) (cell_later hbx K1.out.2.1) (cell_later hbx K1.out.2.2) (P5.out.later hbx)
  · rintro e w6 ⟨rfl, hb6⟩
    obtain ⟨F, hF⟩ : ∃ F, F = (bestUp (slantV z W H) most).1 := ⟨_, rfl⟩
    rw [← hF]
    have G6 := Lib.hid (below_step G5.out hb6)
    have HF := Lib.hid hF
    clear hb6 hF
    go_wp2_with fail
    go_ret2
    exact ⟨by rw [HF.out]; rfl, G6.out⟩

end Go.Proofs.Ytcpgnfbjdokdcaa
