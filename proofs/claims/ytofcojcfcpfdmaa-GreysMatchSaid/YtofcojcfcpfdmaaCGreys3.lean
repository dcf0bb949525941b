/-
  What greys_holds leans on: contracts of the functions that it calls.
-/
import Derived.Test.YtofcojcfcpfdmaaRows
import Derived.WalkKit
import Derived.WalkSpells
import Derived.WalkLawsBesides
import Derived.Lib.Hide
import Derived.Deep.RegionHeld3
import Derived.Shelf.Abstract
import Derived.Lib.MinMax
import Derived.Deep.QuietTactic
import Derived.BigQuiet
import Derived.Deep.CutRange
import Derived.Deep.DeepCutAuto
import Derived.Laws.EntriesVeiled
import Derived.StillTailTactics
import Derived.Deep.AppendLies
import Derived.Deep.DrawnRows
import Derived.Deep.RegionLaw
import Derived.ProofKit
import Derived.OpenShut
import Derived.ShutString
import Derived.ChangeOld
import Derived.Lib.SmallJoins
import Derived.Deep.Grids
import Derived.RegionTactic
import Derived.ChangeAlike
import Derived.BigRegion
import Derived.Shelf.Sort.Plain
import Derived.Test.YtofcojcfcpfdmaaProg
import Derived.Test.YtofcojcfcpfdmaaCGreys2
namespace Go.Proofs.Ytofcojcfcpfdmaa
open Go.RowKit
set_option linter.unusedSimpArgs false
set_option linter.unusedVariables false

def midOf (l : List Int) : Int := (l.mergeSort fun x y => decide (x ≤ y)).getD ((l.length - 1) / 2) 0
/-- The middle value around a pixel. -/
def midV (P : Nat → Int) (W H r x y : Nat) : Int := midOf (rectVals P W (y - r) (x - r) (min (x + r + 1) W - (x - r)) (min (y + r + 1) H - (y - r)))

theorem midOf_is (l : List Int) (h : 0 < l.length) : IsMid l (midOf l) := by
  unfold midOf
  refine mid_sorted (List.mergeSort_perm _ _).symm ?_ h
  have := List.pairwise_mergeSort (le := fun x y : Int => decide (x ≤ y)) (by intro a b c; simp; omega) (by intro a b; simp; omega) l
  exact this.imp (by simp)

theorem not_row {w : World} {base e b n size : Nat} {v : Value} {xs : List Value} {arr : Array Value} {t : TypeId} {fr : Nat × Nat} (h : w.ownsRow base e size v n xs) (hb : w.heap[b]? = some (.cells arr t fr)) (ht : t ≠ e) : v.ownBlock ≠ some b := by
  rcases h.2 with ⟨rfl, _⟩ | ⟨g, cap, cur, rfl, _, hg, _⟩
  · simp [Value.ownBlock]
  · intro k
    simp [Value.ownBlock] at k
    subst k
    rw [hb] at hg
    injection hg with hg
    injection hg with _ hg
    exact ht hg

/-- How often a value stands in a column, which may lie beyond the page. -/
def colZ (P : Nat → Int) (W t k : Nat) (X u : Int) : Nat := if 0 ≤ X ∧ X ≤ (W : Int) - 1 then colCnt P W t X.toNat u k else 0
def rowZ (W k : Nat) (X : Int) : Nat := if 0 ≤ X ∧ X ≤ (W : Int) - 1 then k else 0

theorem colZ_le (P : Nat → Int) (W t k : Nat) (X u : Int) : colZ P W t k X u ≤ k := by
  unfold colZ
  split
  · exact colCnt_le _ _ _ _ _ _
  · omega
theorem rowZ_le (W k : Nat) (X : Int) : rowZ W k X ≤ k := by
  unfold rowZ
  split <;> omega

theorem count_any (W H t k gb tb bb cb nb pb po c : Nat) (X d n : Int) (P : Nat → Int) (S : Nat → Int) (w : World) (hW : W ≤ 4000) (hH : H ≤ 4000) (hN : W * H ≤ 1048576) (hk : t + k ≤ H) (hd : -1 ≤ d ∧ d ≤ 1) (hP : ∀ j, 0 ≤ P j ∧ P j ≤ 255)
    (hn : -100000000 ≤ n ∧ n ≤ 100000000) (hS : ∀ u, -100000000 ≤ S u ∧ S u ≤ 100000000) (hne : cb ≠ nb) (hg : gb ≠ cb ∧ gb ≠ nb) (ht : tb ≠ cb ∧ tb ≠ nb) (hb : bb ≠ cb ∧ bb ≠ nb) (hpb : pb ≠ cb ∧ pb ≠ nb)
    (h0 : w.cell? ⟨gb, 0, none⟩ = some (.int .i64 W)) (h2 : w.cell? ⟨gb, 2, none⟩ = some (.slice (some ⟨pb, po, none⟩) (W * H) c)) (h3 : w.cell? ⟨tb, 0, none⟩ = some (.int .i64 (t : Int))) (h4 : w.cell? ⟨bb, 0, none⟩ = some (.int .i64 ((t + k : Nat) : Int)))
    (hp : ∀ j, j < W * H → w.cell? ⟨pb, po + j, none⟩ = some (.int .u8 (P j))) (hst : CountSt cb nb S n w) :
    Calls Try.prog 109 #[.int .i64 X, .int .i64 d, .pointer (some ⟨gb, 0, none⟩), .pointer (some ⟨tb, 0, none⟩), .pointer (some ⟨bb, 0, none⟩), .pointer (some ⟨cb, 0, none⟩), .pointer (some ⟨nb, 0, none⟩)] w fun e w' =>
      e = .returned (.tuple #[]) ∧ CountSt cb nb (fun u => S u + d * (colZ P W t k X u : Int)) (n + d * (rowZ W k X : Int)) w' ∧ Kept cb nb w w' := by
  by_cases hX : 0 ≤ X ∧ X ≤ (W : Int) - 1
  · obtain ⟨x, rfl⟩ : ∃ x : Nat, X = (x : Int) := ⟨X.toNat, by omega⟩
    have e1 : ∀ u, colZ P W t k (x : Int) u = colCnt P W t x u k := fun u => by rw [colZ, if_pos hX, Int.toNat_natCast]
    have e2 : rowZ W k (x : Int) = k := by rw [rowZ, if_pos hX]
    simp only [e1, e2]
    exact count_in W H x t k gb tb bb cb nb pb po c d n P S w hW hH hN (by omega) hk hd hP hn hS hne hg ht hb hpb h0 h2 h3 h4 hp hst
  · have e1 : ∀ u, colZ P W t k X u = 0 := fun u => by rw [colZ, if_neg hX]
    have e2 : rowZ W k X = 0 := by rw [rowZ, if_neg hX]
    simp only [e1, e2]
    refine (count_out X d gb tb bb cb nb W w hW hX h0).mono ?_
    rintro e w' ⟨rfl, rfl⟩
    exact ⟨rfl, by simpa using hst, Kept.refl _ _ _⟩

/-- What stays while a row is made. -/
structure MidFr (gb tb db base : Nat) (w : World) (og ot od : Obj) (wr : World) : Prop where
  g : wr.heap[gb]? = some og
  t : wr.heap[tb]? = some ot
  d : wr.heap[db]? = some od
  b : Below base w wr
theorem MidFr.kept {gb tb db base cb nb : Nat} {w wr w' : World} {og ot od : Obj} (h : MidFr gb tb db base w og ot od wr) (k : Kept cb nb wr w') (hg : gb ≠ cb ∧ gb ≠ nb) (ht : tb ≠ cb ∧ tb ≠ nb) (hd : db ≠ cb ∧ db ≠ nb) (h1 : base ≤ cb) (h2 : base ≤ nb) : MidFr gb tb db base w og ot od w' :=
  ⟨(k.block _ hg.1 hg.2).trans h.g, (k.block _ ht.1 ht.2).trans h.t, (k.block _ hd.1 hd.2).trans h.d, h.b.trans (k.below h1 h2)⟩
theorem MidFr.grown {gb tb db base : Nat} {w wr w' : World} {og ot od : Obj} {row : Option Nat} (h : MidFr gb tb db base w og ot od wr) (k : wr.grownBy w' row) (hg : row ≠ some gb) (ht : row ≠ some tb) (hd : row ≠ some db) (hb : base ≤ wr.heap.size) (hr : ∀ i, row = some i → base ≤ i) : MidFr gb tb db base w og ot od w' :=
  ⟨grown_block k h.g (Ne.symm hg), grown_block k h.t (Ne.symm ht), grown_block k h.d (Ne.symm hd), h.b.grown k hb hr⟩
theorem CountSt.grown {cb nb : Nat} {S : Nat → Int} {n : Int} {w w' : World} {row : Option Nat} (h : CountSt cb nb S n w) (k : w.grownBy w' row) (h1 : row ≠ some cb) (h2 : row ≠ some nb) : CountSt cb nb S n w' := by
  obtain ⟨⟨arr, t, g1, g2, g3, g4⟩, g5⟩ := h
  exact ⟨⟨arr, t, grown_block k g1 (Ne.symm h1), g2, g3, g4⟩, grown_block k g5 (Ne.symm h2)⟩
theorem owns_kept {w w' : World} {base e n size cb nb : Nat} {v : Value} {xs : List Value} (h : w.ownsRow base e size v n xs) (k : Kept cb nb w w') (h1 : v.ownBlock ≠ some cb) (h2 : v.ownBlock ≠ some nb) : w'.ownsRow base e size v n xs := by
  refine ⟨h.1, ?_⟩
  rcases h.2 with h0 | ⟨g, cap, cur, rfl, hb, hg, hr⟩
  · exact .inl h0
  · refine .inr ⟨g, cap, cur, rfl, hb, ?_, hr⟩
    rw [k.block g (by simpa [Value.ownBlock] using h1) (by simpa [Value.ownBlock] using h2)]
    exact hg

theorem CountSt.conv {cb nb : Nat} {S S' : Nat → Int} {n n' : Int} {w : World} (h : CountSt cb nb S n w) (hS : ∀ u, S u = S' u) (hn : n = n') : CountSt cb nb S' n' w := by
  subst hn; exact h.congr fun u _ => hS u
theorem zero_cells : Try.zeroCells124 = Array.replicate 256 (.int .i64 0) := by kernel_rfl

theorem row_more {W : Nat} (f : Nat → Nat → Int) {y i : Nat} (hi : i < W) : (places W f (y * W + (i + 1))).map (Value.int .u8) = (places W f (y * W + i)).map (Value.int .u8) ++ [.int .u8 (f i y)] := by
  rw [← Nat.add_assoc, places_succ W f i y hi, List.map_append]; rfl

/-- What stands in the counts when the columns before i have come and gone. -/
def cntS (P : Nat → Int) (W T k r i u : Nat) : Nat := colsCnt P W T k (i - 1 - r) (u : Int) (min (i + r) W - (i - 1 - r))
def cntN (W k r i : Nat) : Nat := (min (i + r) W - (i - 1 - r)) * k
def cntS' (P : Nat → Int) (W T k r i u : Nat) : Nat := colsCnt P W T k (i - r) (u : Int) (min (i + r + 1) W - (i - r))
def cntN' (W k r i : Nat) : Nat := (min (i + r + 1) W - (i - r)) * k

theorem cntS_move (P : Nat → Int) (W T k r i u : Nat) (hi : i < W) : (cntS P W T k r i u : Int) + 1 * (colZ P W T k ((i : Int) + (r : Int)) u : Int) + -1 * (colZ P W T k ((i : Int) - (r : Int) - 1) u : Int) = (cntS' P W T k r i u : Int) := by
  have h := cols_move P W T k r i (u : Int) hi
  have e1 : colZ P W T k ((i : Int) + (r : Int)) u = if i + r < W then colCnt P W T (i + r) u k else 0 := by
    unfold colZ
    by_cases h1 : i + r < W
    · rw [if_pos (by omega), if_pos h1]; congr 1
    · rw [if_neg (by omega), if_neg h1]
  have e2 : colZ P W T k ((i : Int) - (r : Int) - 1) u = if r + 1 ≤ i then colCnt P W T (i - r - 1) u k else 0 := by
    unfold colZ
    by_cases h1 : r + 1 ≤ i
    · rw [if_pos (by omega), if_pos h1]; congr 1; omega
    · rw [if_neg (by omega), if_neg h1]
  rw [e1, e2]
  unfold cntS cntS'
  omega
theorem cntN_move (W k r i : Nat) (hi : i < W) : (cntN W k r i : Int) + 1 * (rowZ W k ((i : Int) + (r : Int)) : Int) + -1 * (rowZ W k ((i : Int) - (r : Int) - 1) : Int) = (cntN' W k r i : Int) := by
  have e1 : rowZ W k ((i : Int) + (r : Int)) = (if i + r < W then 1 else 0) * k := by
    unfold rowZ
    by_cases h1 : i + r < W
    · rw [if_pos (by omega), if_pos h1, Nat.one_mul]
    · rw [if_neg (by omega), if_neg h1, Nat.zero_mul]
  have e2 : rowZ W k ((i : Int) - (r : Int) - 1) = (if r + 1 ≤ i then 1 else 0) * k := by
    unfold rowZ
    by_cases h1 : r + 1 ≤ i
    · rw [if_pos (by omega), if_pos h1, Nat.one_mul]
    · rw [if_neg (by omega), if_neg h1, Nat.zero_mul]
  have h : cntN W k r i + (if i + r < W then 1 else 0) * k = cntN' W k r i + (if r + 1 ≤ i then 1 else 0) * k := by
    unfold cntN cntN'
    rw [← Nat.add_mul, ← Nat.add_mul]
    congr 1
    split <;> split <;> omega
  rw [e1, e2]
  omega
theorem cntS_next (P : Nat → Int) (W T k r i u : Nat) : cntS' P W T k r i u = cntS P W T k r (i + 1) u := by
  unfold cntS cntS'
  rw [show i + 1 - 1 - r = i - r by omega, show i + 1 + r = i + r + 1 by omega]
theorem cntN_next (W k r i : Nat) : cntN' W k r i = cntN W k r (i + 1) := by
  unfold cntN cntN'
  rw [show i + 1 - 1 - r = i - r by omega, show i + 1 + r = i + r + 1 by omega]
theorem colsCnt_le (P : Nat → Int) (W y ny x : Nat) (u : Int) (n : Nat) : colsCnt P W y ny x u n ≤ n * ny := by
  induction n with
  | zero => simp [colsCnt]
  | succ n ih => rw [colsCnt, Nat.add_mul, Nat.one_mul]; have := colCnt_le P W y (x + n) u ny; omega
theorem first_step (P : Nat → Int) (W T k i : Nat) (u : Int) : (colsCnt P W T k 0 u (min i W) : Int) + 1 * (colZ P W T k (i : Int) u : Int) = (colsCnt P W T k 0 u (min (i + 1) W) : Int) := by
  unfold colZ
  by_cases h : i < W
  · rw [if_pos (by omega), show min i W = i by omega, show min (i + 1) W = i + 1 by omega, colsCnt, Nat.zero_add, Int.toNat_natCast]; omega
  · rw [if_neg (by omega), show min i W = W by omega, show min (i + 1) W = W by omega]; omega
theorem first_stepN (W k i : Nat) : ((min i W * k : Nat) : Int) + 1 * (rowZ W k (i : Int) : Int) = ((min (i + 1) W * k : Nat) : Int) := by
  unfold rowZ
  by_cases h : i < W
  · rw [if_pos (by omega), show min i W = i by omega, show min (i + 1) W = i + 1 by omega, Nat.add_mul]; omega
  · rw [if_neg (by omega), show min i W = W by omega, show min (i + 1) W = W by omega]; omega

theorem mid_found (P : Nat → Int) (hP : ∀ j, 0 ≤ P j ∧ P j ≤ 255) (W H r x y : Nat) (hx : x < W) (hy : y < H) (v : Nat)
    (h1 : sumTo (cntS' P W (y - r) (min (y + r + 1) H - (y - r)) r x) v ≤ (cntN' W (min (y + r + 1) H - (y - r)) r x - 1) / 2)
    (h2 : (cntN' W (min (y + r + 1) H - (y - r)) r x - 1) / 2 < sumTo (cntS' P W (y - r) (min (y + r + 1) H - (y - r)) r x) (v + 1)) (hv : v < 256) : (v : Int) = midV P W H r x y := by
  have hb := rectVals_bounds P hP W (y - r) (x - r) (min (x + r + 1) W - (x - r)) (min (y + r + 1) H - (y - r))
  have hl := rectVals_length P W (y - r) (x - r) (min (x + r + 1) W - (x - r)) (min (y + r + 1) H - (y - r))
  have hpos : 0 < (rectVals P W (y - r) (x - r) (min (x + r + 1) W - (x - r)) (min (y + r + 1) H - (y - r))).length := by
    rw [hl]; exact Nat.mul_pos (by omega) (by omega)
  have hS : ∀ u, u < 256 → cntS' P W (y - r) (min (y + r + 1) H - (y - r)) r x u = times (u : Int) (rectVals P W (y - r) (x - r) (min (x + r + 1) W - (x - r)) (min (y + r + 1) H - (y - r))) := fun u _ => by
    rw [times_rect]; rfl
  refine IsMid.one (l := rectVals P W (y - r) (x - r) (min (x + r + 1) W - (x - r)) (min (y + r + 1) H - (y - r))) ⟨?_, ?_⟩ (midOf_is _ hpos)
  · rw [← sumTo_fewer _ hb _ hS v (by omega), hl]; exact h1
  · rw [show (v : Int) + 1 = ((v + 1 : Nat) : Int) by omega, ← sumTo_fewer _ hb _ hS (v + 1) (by omega), hl]; exact h2
theorem mid_total (P : Nat → Int) (hP : ∀ j, 0 ≤ P j ∧ P j ≤ 255) (W H r x y : Nat) (hx : x < W) (hy : y < H) :
    (cntN' W (min (y + r + 1) H - (y - r)) r x - 1) / 2 < sumTo (cntS' P W (y - r) (min (y + r + 1) H - (y - r)) r x) 256 := by
  have hb := rectVals_bounds P hP W (y - r) (x - r) (min (x + r + 1) W - (x - r)) (min (y + r + 1) H - (y - r))
  have hl := rectVals_length P W (y - r) (x - r) (min (x + r + 1) W - (x - r)) (min (y + r + 1) H - (y - r))
  have hpos : 0 < (min (x + r + 1) W - (x - r)) * (min (y + r + 1) H - (y - r)) := Nat.mul_pos (by omega) (by omega)
  have hS : ∀ u, u < 256 → cntS' P W (y - r) (min (y + r + 1) H - (y - r)) r x u = times (u : Int) (rectVals P W (y - r) (x - r) (min (x + r + 1) W - (x - r)) (min (y + r + 1) H - (y - r))) := fun u _ => by
    rw [times_rect]; rfl
  rw [sumTo_fewer _ hb _ hS 256 (by omega), show ((256 : Nat) : Int) = 256 from rfl, fewer_all _ hb, hl]
  unfold cntN'
  omega

set_option maxHeartbeats 1000000 in
set_option maxRecDepth 100000 in
theorem appendMiddles_any (W H pb po c r y base : Nat) (P : Nat → Int) (v : Value) (w : World) (hW : 1 ≤ W ∧ W ≤ 4000) (hH : H ≤ 4000) (hN : W * H ≤ 1048576) (hy : y < H) (hr : r ≤ 5) (hP : ∀ j, 0 ≤ P j ∧ P j ≤ 255) (hbase : base ≤ w.heap.size) (hpb : pb < base)
    (hown : w.ownsRow base 5 1 v (y * W) ((places W (midV P W H r) (y * W)).map (Value.int .u8)))
    (hp : ∀ j, j < W * H → w.cell? ⟨pb, po + j, none⟩ = some (.int .u8 (P j))) :
    Calls Try.prog 63 #[v, .agg #[.int .i64 W, .int .i64 H, .slice (some ⟨pb, po, none⟩) (W * H) c], .int .i64 y, .int .i64 r] w fun e w' =>
      ∃ v', e = .returned v' ∧ w'.ownsRow base 5 1 v' ((y + 1) * W) ((places W (midV P W H r) ((y + 1) * W)).map (Value.int .u8)) ∧ Below base w w' := by
  have hmf : ∀ (fn : Fn) (first cap : Array Value) (w : World), (Instr.makeFunc fn first cap).run Try.prog w = .ok (.func fn first cap) w := fun _ _ _ _ => rfl
  have HP := Lib.hid hP
  have HC := Lib.hid hp
  have HO := Lib.hid hown
  clear hP hp hown
  obtain ⟨i0, hi0, hz0, hz1, hz2⟩ := info_parts info_byte
  go_enter Try.func63, Try.ntmps63
  go_upto_region 3 with (fail)
  obtain ⟨w3, hw3⟩ : ∃ w3, w3 = (((w.alloc (.cells #[.int .i64 W, .int .i64 H, .slice (some ⟨pb, po, none⟩) (W * H) c] 24)).alloc (.cells Try.zeroCells124 124)).alloc (.cells #[.int .i64 0] 3)) := ⟨_, rfl⟩
  have B3 : Below w.heap.size w w3 := by rw [hw3]; exact below_alloc (below_alloc (new_below _ _) _) _
  have b0 : w3.heap[w.heap.size]? = some (.cells #[.int .i64 W, .int .i64 H, .slice (some ⟨pb, po, none⟩) (W * H) c] 24 (0, 0)) := by
    rw [hw3, Below.heap_alloc _ _ _ (by simp; omega), Below.heap_alloc _ _ _ (by simp)]
    exact heap_alloc_new w _
  have b1 : w3.heap[w.heap.size + 1]? = some (.cells Try.zeroCells124 124 (0, 0)) := by
    rw [hw3, Below.heap_alloc _ _ _ (by simp)]
    simpa using heap_alloc_new (w.alloc (.cells #[.int .i64 W, .int .i64 H, .slice (some ⟨pb, po, none⟩) (W * H) c] 24)) (.cells Try.zeroCells124 124)
  have b2 : w3.heap[w.heap.size + 1 + 1]? = some (.cells #[.int .i64 0] 3 (0, 0)) := by
    rw [hw3]
    simpa using heap_alloc_new ((w.alloc (.cells #[.int .i64 W, .int .i64 H, .slice (some ⟨pb, po, none⟩) (W * H) c] 24)).alloc (.cells Try.zeroCells124 124)) (.cells #[.int .i64 0] 3)
  have hsz : w3.heap.size = w.heap.size + 3 := by rw [hw3]; simp
  rw [← hw3]
  clear hw3
  obtain ⟨q0, q1, q2, _, _, _⟩ := block3 b0
  have l0 := World.block_lt_of_cell? _ _ q0
  simp only at l0
  have e1 : max ((y : Int) - (r : Int)) 0 = ((y - r : Nat) : Int) := by omega
  have e2 : min ((y : Int) + (r : Int) + 1) (H : Int) = ((min (y + r + 1) H : Nat) : Int) := by omega
  obtain ⟨T, hT⟩ : ∃ T, T = y - r := ⟨_, rfl⟩
  obtain ⟨D, hD⟩ : ∃ D, D = min (y + r + 1) H := ⟨_, rfl⟩
  rw [← hT] at e1
  rw [← hD] at e2
  have B0 := Lib.hid b0
  have B1 := Lib.hid b1
  have B2 := Lib.hid b2
  have HB3 := Lib.hid B3
  have HSZ := Lib.hid hsz
  have HT := Lib.hid hT
  have HD := Lib.hid hD
  clear b0 b1 b2 B3 hsz hT hD
  go_cut [11, 12] from 16 to 26 (fun t d wx => ∃ tb db : Nat, t = .pointer (some ⟨tb, 0, none⟩) ∧ d = .pointer (some ⟨db, 0, none⟩) ∧ Hid (w3.heap.size ≤ tb ∧ w3.heap.size ≤ db ∧ tb ≠ db ∧ wx.heap[tb]? = some (.cells #[.int .i64 (T : Int)] 3 (0, 0)) ∧ wx.heap[db]? = some (.cells #[.int .i64 (D : Int)] 3 (0, 0)) ∧ Below w3.heap.size w3 wx))
  case first =>
    go_region
    all_goals
      go_wp2_with fail
      go_meet
      case rel =>
        first
          | exact ⟨w3.heap.size, _, rfl, rfl, Lib.hid ⟨by omega, by omega, by omega, (two_new w3 _ _ _ _).1, (two_new w3 _ _ _ _).2, (below_alloc (new_below _ _) _).drew⟩⟩
          | exact ⟨w3.heap.size + 1, _, rfl, rfl, Lib.hid ⟨by omega, by omega, by omega, (two_new w3 _ _ _ _).2, (two_new w3 _ _ _ _).1, (below_alloc (new_below _ _) _).drew⟩⟩
  case rest =>
    obtain ⟨w4, rfl⟩ : ∃ w4, w4 = wc := ⟨_, rfl⟩
    obtain ⟨tb, db, rfl, rfl, HF⟩ := hcut
    obtain ⟨f1, f2, f3, f4, f5, f6⟩ := HF.out
    have hs3 := HSZ.out
    obtain ⟨k, hk⟩ : ∃ k, D = T + k := ⟨D - T, by have := HT.out; have := HD.out; omega⟩
    subst hk
    have hkD : k = min (y + r + 1) H - (y - r) := by have := HT.out; have := HD.out; omega
    have hTk : T + k ≤ H := by have := HD.out; omega
    have hk11 : k ≤ 11 := by have := HT.out; have := HD.out; omega
    have MF : MidFr w.heap.size tb db base w (.cells #[.int .i64 W, .int .i64 H, .slice (some ⟨pb, po, none⟩) (W * H) c] 24 (0, 0)) (.cells #[.int .i64 (T : Int)] 3 (0, 0)) (.cells #[.int .i64 ((T + k : Nat) : Int)] 3 (0, 0)) w4 :=
      ⟨below_block f6 B0.out, f4, f5, (below_step HB3.out f6).mono hbase⟩
    have CS : CountSt (w.heap.size + 1) (w.heap.size + 1 + 1) (fun u => (colsCnt P W T k 0 (u : Int) (min 0 W) : Int)) ((min 0 W * k : Nat) : Int) w4 :=
      ⟨⟨_, _, below_block f6 B1.out, by decide, by rw [zero_cells]; simp, fun u hu => by rw [zero_cells]; simp [hu, colsCnt]⟩, by have := below_block f6 B2.out; simpa using this⟩
    have OW := below_owns (below_owns HO.out HB3.out) f6
    have a1 : w.heap.size + 1 ≠ w.heap.size + 1 + 1 := by omega
    have a2 : w.heap.size ≠ w.heap.size + 1 ∧ w.heap.size ≠ w.heap.size + 1 + 1 := by omega
    have a3 : tb ≠ w.heap.size + 1 ∧ tb ≠ w.heap.size + 1 + 1 := by omega
    have a4 : db ≠ w.heap.size + 1 ∧ db ≠ w.heap.size + 1 + 1 := by omega
    have a5 : pb ≠ w.heap.size + 1 ∧ pb ≠ w.heap.size + 1 + 1 := by omega
    have A1 := Lib.hid a1
    have A2 := Lib.hid a2
    have A3 := Lib.hid a3
    have A4 := Lib.hid a4
    have A5 := Lib.hid a5
    have HKD := Lib.hid hkD
    have R0 := Lib.hid (show _ ∧ _ ∧ _ from ⟨CS, MF, OW⟩)
    -- a column is counted
    have CNT : Hid (∀ (X d n : Int) (S : Nat → Int) (wr : World), (-1 ≤ d ∧ d ≤ 1) → (-100000000 ≤ n ∧ n ≤ 100000000) → (∀ u, -100000000 ≤ S u ∧ S u ≤ 100000000) →
        CountSt (w.heap.size + 1) (w.heap.size + 1 + 1) S n wr → MidFr w.heap.size tb db base w (.cells #[.int .i64 W, .int .i64 H, .slice (some ⟨pb, po, none⟩) (W * H) c] 24 (0, 0)) (.cells #[.int .i64 (T : Int)] 3 (0, 0)) (.cells #[.int .i64 ((T + k : Nat) : Int)] 3 (0, 0)) wr →
        Calls Try.prog 109 #[.int .i64 X, .int .i64 d, .pointer (some ⟨w.heap.size, 0, none⟩), .pointer (some ⟨tb, 0, none⟩), .pointer (some ⟨db, 0, none⟩), .pointer (some ⟨w.heap.size + 1, 0, none⟩), .pointer (some ⟨w.heap.size + 1 + 1, 0, none⟩)] wr fun e w' =>
          e = .returned (.tuple #[]) ∧ CountSt (w.heap.size + 1) (w.heap.size + 1 + 1) (fun u => S u + d * (colZ P W T k X u : Int)) (n + d * (rowZ W k X : Int)) w' ∧ Kept (w.heap.size + 1) (w.heap.size + 1 + 1) wr w') :=
      Lib.hid fun X d n S wr hd hn hS hst hm =>
        count_any W H T k w.heap.size tb db (w.heap.size + 1) (w.heap.size + 1 + 1) pb po c X d n P S wr hW.2 hH hN hTk hd HP.out hn hS a1 a2 a3 a4 a5
          (block3 hm.g).1 (block3 hm.g).2.2.1 (box1 hm.t).1 (box1 hm.d).1
          (fun j hj => (hm.b.cell (p := ⟨pb, po + j, none⟩) hpb).trans (HC.out j hj)) hst
    clear HF f1 f2 f3 f4 f5 f6 q0 q1 q2 e1 e2 MF CS OW a1 a2 a3 a4 a5 l0 hkD
    go_wp2_with fail
    go_loopw [29] (fun i wr => ∃ n : Nat, n ≤ r ∧ i = .int .i64 n ∧ Hid (CountSt (w.heap.size + 1) (w.heap.size + 1 + 1) (fun u => (colsCnt P W T k 0 (u : Int) (min n W) : Int)) ((min n W * k : Nat) : Int) wr ∧ MidFr w.heap.size tb db base w (.cells #[.int .i64 W, .int .i64 H, .slice (some ⟨pb, po, none⟩) (W * H) c] 24 (0, 0)) (.cells #[.int .i64 (T : Int)] 3 (0, 0)) (.cells #[.int .i64 ((T + k : Nat) : Int)] 3 (0, 0)) wr ∧ wr.ownsRow base 5 1 v (y * W) ((places W (midV P W H r) (y * W)).map (Value.int .u8)))) (fun i _ => r - (intOf i).toNat)
    case atStart => exact ⟨0, Nat.zero_le _, rfl, R0⟩
    case round =>
      obtain ⟨n, hn, rfl, HR⟩ := hrel
      clear R0
      by_cases hlt : n < r
      · go_wp2_with fail
        refine (CNT.out _ _ _ _ _ (by omega) ?_ ?_ HR.out.1 HR.out.2.1).mono ?_
        · have : min n W * k ≤ 4000 * 11 := Nat.mul_le_mul (by omega) hk11
          omega
        · intro u
          have := colsCnt_le P W T k 0 (u : Int) (min n W)
          have : min n W * k ≤ 4000 * 11 := Nat.mul_le_mul (by omega) hk11
          omega
        rintro e w2 ⟨rfl, s2, k2⟩
        have s3 := Lib.hid (s2.conv (fun u => first_step P W T k n u) (first_stepN W k n))
        have k3 := Lib.hid k2
        clear s2 k2
        go_wp2_with fail
        go_roundw
        case rel =>
          obtain ⟨r1, r2, r3⟩ := HR.out
          refine ⟨n + 1, by omega, by go_num, Lib.hid ⟨s3.out, r2.kept k3.out A2.out A3.out A4.out (by omega) (by omega), owns_kept r3 k3.out (not_row r3 r1.1.choose_spec.choose_spec.1 r1.1.choose_spec.choose_spec.2.1) (not_row r3 r1.2 (by decide))⟩⟩
        case measure => simp [intOf]; omega
      · have hnr : n = r := by omega
        subst hnr
        have g0 := block3 HR.out.2.1.g
        obtain ⟨q0, q1, q2, _, _, _⟩ := g0
        have R1 := Lib.hid (show _ ∧ _ ∧ _ from ⟨HR.out.1.conv (S' := fun u => (cntS P W T k n 0 u : Int)) (n' := ((cntN W k n 0 : Nat) : Int)) (fun u => by unfold cntS; simp) (by unfold cntN; simp), HR.out.2.1, HR.out.2.2⟩)
        obtain ⟨wo, rfl⟩ : ∃ wo : World, wo = wr := ⟨_, rfl⟩
        clear HR
        go_wp2_with fail
        go_loopw [0, 38] (fun v i wr => ∃ x : Nat, x ≤ W ∧ i = .int .i64 x ∧ Hid (CountSt (w.heap.size + 1) (w.heap.size + 1 + 1) (fun u => (cntS P W T k n x u : Int)) ((cntN W k n x : Nat) : Int) wr ∧ MidFr w.heap.size tb db base w (.cells #[.int .i64 W, .int .i64 H, .slice (some ⟨pb, po, none⟩) (W * H) c] 24 (0, 0)) (.cells #[.int .i64 (T : Int)] 3 (0, 0)) (.cells #[.int .i64 ((T + k : Nat) : Int)] 3 (0, 0)) wr ∧ wr.ownsRow base 5 1 v (y * W + x) ((places W (midV P W H n) (y * W + x)).map (Value.int .u8)))) (fun _ i _ => W - (intOf i).toNat)
        case atStart => exact ⟨0, Nat.zero_le _, rfl, by simpa using R1⟩
        case round =>
          obtain ⟨x, hx, rfl, HR⟩ := hrel
          clear R1 q0 q1 q2
          by_cases hltx : x < W
          · have hfit := row_fits hy (show x + 1 ≤ W by omega)
            have cb := fun u => colsCnt_le P W T k (x - 1 - n) u (min (x + n) W - (x - 1 - n))
            have cb2 : (min (x + n) W - (x - 1 - n)) * k ≤ 4000 * 11 := Nat.mul_le_mul (by omega) hk11
            have cn2 : (min (x + n + 1) W - (x - n)) * k ≤ 4000 * 11 := Nat.mul_le_mul (by omega) hk11
            have cn3 : 0 < (min (x + n + 1) W - (x - n)) * k := Nat.mul_pos (by omega) (by have := HKD.out; omega)
            have cs2 := fun u => colsCnt_le P W T k (x - n) u (min (x + n + 1) W - (x - n))
            have bc : ∀ u, colZ P W T k ((x : Int) + (n : Int)) u ≤ 11 := fun u => Nat.le_trans (colZ_le P W T k _ u) hk11
            have bn : rowZ W k ((x : Int) + (n : Int)) ≤ 11 := Nat.le_trans (rowZ_le W k _) hk11
            have CN := Lib.hid (show (min (x + n) W - (x - 1 - n)) * k ≤ 4000 * 11 from cb2)
            have HB := Lib.hid (show (∀ u, cntS P W T k n x u ≤ 44000) ∧ cntN W k n x ≤ 44000 ∧ (∀ u, cntS' P W T k n x u ≤ 44000) ∧ cntN' W k n x ≤ 44000 ∧ 1 ≤ cntN' W k n x from ⟨fun u => by have := cb (u : Int); unfold cntS; omega, by unfold cntN; omega, fun u => by have := cs2 (u : Int); unfold cntS'; omega, by unfold cntN'; omega, by unfold cntN'; omega⟩)
            have BC := Lib.hid bc
            have BN := Lib.hid bn
            have hT' := HT.out
            have HMT := Lib.hid (mid_total P HP.out W H n x y hltx hy)
            clear cb cb2 cn2 cn3 cs2 bc bn CN
            go_wp2_with fail
            refine (CNT.out _ _ _ _ _ (by omega) (by have := HB.out.2.1; omega) (fun u => by have := HB.out.1 u; omega) HR.out.1 HR.out.2.1).mono ?_
            rintro e w2 ⟨rfl, s2, k2⟩
            have S2 := Lib.hid s2
            have M2 := Lib.hid (HR.out.2.1.kept k2 A2.out A3.out A4.out (by omega) (by omega))
            have O2 := Lib.hid (owns_kept HR.out.2.2 k2 (not_row HR.out.2.2 HR.out.1.1.choose_spec.choose_spec.1 HR.out.1.1.choose_spec.choose_spec.2.1) (not_row HR.out.2.2 HR.out.1.2 (by decide)))
            clear s2 k2 HR
            go_wp2_with fail
            refine (CNT.out _ _ _ _ _ (by omega) (by have := HB.out.2.1; have := BN.out; omega) (fun u => by have := HB.out.1 u; have := BC.out u; omega) S2.out M2.out).mono ?_
            rintro e w3' ⟨rfl, s3, k3⟩
            have S3 := Lib.hid (s3.conv (S' := fun u => (cntS' P W T k n x u : Int)) (n' := ((cntN' W k n x : Nat) : Int)) (fun u => cntS_move P W T k n x u hltx) (cntN_move W k n x hltx))
            have M3 := Lib.hid (M2.out.kept k3 A2.out A3.out A4.out (by omega) (by omega))
            have O3 := Lib.hid (owns_kept O2.out k3 (not_row O2.out S2.out.1.choose_spec.choose_spec.1 S2.out.1.choose_spec.choose_spec.2.1) (not_row O2.out S2.out.2 (by decide)))
            clear s3 k3 S2 M2 O2
            obtain ⟨nc, nf⟩ := S3.out.all
            obtain ⟨N, hN2⟩ : ∃ N, N = cntN' W k n x := ⟨_, rfl⟩
            obtain ⟨K, hK⟩ : ∃ K, K = (N - 1) / 2 := ⟨_, rfl⟩
            rw [← hN2] at nc
            have bN : 1 ≤ N ∧ N ≤ 44000 := by rw [hN2]; exact ⟨HB.out.2.2.2.2, HB.out.2.2.2.1⟩
            have e3 : ((N : Int) - 1) / 2 = (K : Int) := by omega
            have bK : K ≤ 1000000 := by omega
            have HN2 := Lib.hid hN2
            have HK := Lib.hid hK
            clear hN2 hK hT'
            go_wp2_with fail
            refine (valueAt_any (w.heap.size + 1) K (cntS' P W T k n x) _ (by have h := HMT.out; rw [← HKD.out, ← HT.out, ← HN2.out, ← HK.out] at h; exact h) bK (fun u => by have := HB.out.2.2.1 u; omega) (fun u hu => (S3.out.get hu).1)).mono ?_
            rintro e w' ⟨⟨m, hm, hm1, hm2, rfl⟩, rfl⟩
            have hmv := mid_found P HP.out W H n x y hltx hy m (by rw [← HKD.out, ← HT.out, ← HN2.out, ← HK.out]; exact hm1) (by rw [← HKD.out, ← HT.out, ← HN2.out, ← HK.out]; exact hm2) hm
            have HMV := Lib.hid hmv
            clear hm1 hm2 hmv nc nf e3
            have hsz3 : w.heap.size ≤ w3'.heap.size := M3.out.b.size
            go_wp2_with (at_builtin; refine wpList_append_own _ rfl _ _ 22 rfl base 5 i0 (.int .u8 0) 1 1 Try.underlying22 hi0 hz0 hz1 hz2 rfl (by decide) _ _ _ rfl (O3.out.alloc _) ⟨w3'.heap.size, 0, none⟩ 1 1 [.int .u8 (m : Int)] rfl rfl ?c1 ?c2 ?c3 ?c4 ?c5 ?_)
            case c1 => exact cell_one_new _ _ _
            case c2 => intro u hu; simp at hu; subst hu; rfl
            case c3 => unfold maxLen; omega
            case c4 => omega
            case c5 => simp; omega
            intro v' w5 hown5 hgr5 _
            have na := World.grownBy_alloc w3' (.cells #[.int .u8 (m : Int)] 5)
            obtain ⟨c1, c2, c3⟩ := S3.out.1.choose_spec.choose_spec
            have r1 := not_row O3.out c1 c2
            have r2 := not_row O3.out S3.out.2 (by decide)
            have r3 := not_row O3.out M3.out.g (by decide)
            have r4 := not_row O3.out M3.out.t (by decide)
            have r5 := not_row O3.out M3.out.d (by decide)
            have S5 := Lib.hid (((S3.out.grown (na none) (by simp) (by simp)).grown hgr5 r1 r2).conv (S' := fun u => (cntS P W T k n (x + 1) u : Int)) (n' := ((cntN W k n (x + 1) : Nat) : Int)) (fun u => by rw [cntS_next]) (by rw [cntN_next]))
            have M5 := Lib.hid ((M3.out.grown (na none) (by simp) (by simp) (by simp) (by omega) (by simp)).grown hgr5 r3 r4 r5 (by simp; omega) (fun i hi => (O3.out.lt i hi).1))
            have O5 := Lib.hid (show w5.ownsRow base 5 1 v' (y * W + (x + 1)) ((places W (midV P W H n) (y * W + (x + 1))).map (Value.int .u8)) by rw [row_more _ hltx, ← Nat.add_assoc, ← HMV.out]; exact hown5)
            clear hown5 hgr5 na c1 c2 c3 r1 r2 r3 r4 r5 hsz3
            go_wp2_with fail
            go_roundw
            case rel => exact ⟨x + 1, by omega, by go_num, Lib.hid ⟨S5.out, M5.out, O5.out⟩⟩
            case measure => simp [intOf]; omega
          · have hxW : x = W := by omega
            subst hxW
            go_wp2_with fail
            go_ret
            exact ⟨_, rfl, by rw [Nat.add_mul, Nat.one_mul]; exact HR.out.2.2, HR.out.2.1.b⟩

end Go.Proofs.Ytofcojcfcpfdmaa
namespace Go.Proofs
open Go.Shelf
def Try.lays189_ren : Go.Shelf.Ren := ⟨fun | 189 => 66 | 125 => 112 | 257 => 111 | 128 => 141 | 129 => 142 | 294 => 132 | 295 => 133 | 296 => 134 | 297 => 135 | 298 => 136 | 299 => 137 | 216 => 138 | 300 => 139 | 301 => 140 | 328 => 153 | 329 => 154 | 330 => 155 | 331 => 156 | 332 => 157 | 215 => 158 | 343 => 159 | n => n, fun | 28 => 52 | 3 => 3 | 46 => 130 | 0 => 0 | 51 => 149 | 53 => 151 | 4 => 4 | 183 => 142 | 182 => 141 | 131 => 146 | 5 => 5 | 9 => 9 | 218 => 157 | 222 => 161 | 228 => 163 | 229 => 103 | n => n, fun | n => n⟩
theorem Try.lays189 : Go.Proofs.Lays.n189 Try.prog Try.lays189_ren := {
  mixed := by kernel_rfl
  f125 := Try.func112.trans (congrArg some (by kernel_rfl))
  f128 := Try.func141.trans (congrArg some (by kernel_rfl))
  f129 := Try.func142.trans (congrArg some (by kernel_rfl))
  f189 := Try.func66.trans (congrArg some (by kernel_rfl))
  f215 := Try.func158.trans (congrArg some (by kernel_rfl))
  f216 := Try.func138.trans (congrArg some (by kernel_rfl))
  f257 := Try.func111.trans (congrArg some (by kernel_rfl))
  f294 := Try.func132.trans (congrArg some (by kernel_rfl))
  f295 := Try.func133.trans (congrArg some (by kernel_rfl))
  f296 := Try.func134.trans (congrArg some (by kernel_rfl))
  f297 := Try.func135.trans (congrArg some (by kernel_rfl))
  f298 := Try.func136.trans (congrArg some (by kernel_rfl))
  f299 := Try.func137.trans (congrArg some (by kernel_rfl))
  f300 := Try.func139.trans (congrArg some (by kernel_rfl))
  f301 := Try.func140.trans (congrArg some (by kernel_rfl))
  f328 := Try.func153.trans (congrArg some (by kernel_rfl))
  f329 := Try.func154.trans (congrArg some (by kernel_rfl))
  f330 := Try.func155.trans (congrArg some (by kernel_rfl))
  f331 := Try.func156.trans (congrArg some (by kernel_rfl))
  f332 := Try.func157.trans (congrArg some (by kernel_rfl))
  f343 := Try.func159.trans (congrArg some (by kernel_rfl))
  t0 := Try.underlying0
  a0 := Try.isAgg0
  z0 := Try.sizeOf0
  v0 := Try.zeroValue0
  t3 := Try.underlying3
  a3 := Try.isAgg3
  z3 := Try.sizeOf3
  v3 := Try.zeroValue3
  t4 := Try.underlying4
  a4 := Try.isAgg4
  z4 := Try.sizeOf4
  v4 := Try.zeroValue4
  t5 := Try.underlying5
  a5 := Try.isAgg5
  z5 := Try.sizeOf5
  v5 := Try.zeroValue5
  t9 := Try.underlying9
  a9 := Try.isAgg9
  z9 := Try.sizeOf9
  v9 := Try.zeroValue9
  t28 := Try.underlying52
  a28 := Try.isAgg52
  z28 := Try.sizeOf52
  v28 := Try.zeroValue52
  t46 := Try.underlying130
  a46 := Try.isAgg130
  z46 := Try.sizeOf130
  v46 := Try.zeroValue130
  t51 := Try.underlying149
  a51 := Try.isAgg149
  z51 := Try.sizeOf149
  v51 := Try.zeroValue149
  t53 := Try.underlying151
  a53 := Try.isAgg151
  z53 := Try.sizeOf151
  v53 := Try.zeroValue151
  t131 := Try.underlying146
  a131 := Try.isAgg146
  z131 := Try.sizeOf146
  v131 := Try.zeroValue146
  t182 := Try.underlying141
  a182 := Try.isAgg141
  z182 := Try.sizeOf141
  v182 := Try.zeroValue141
  t183 := Try.underlying142
  a183 := Try.isAgg142
  z183 := Try.sizeOf142
  v183 := Try.zeroValue142
  t218 := Try.underlying157
  a218 := Try.isAgg157
  z218 := Try.sizeOf157
  v218 := Try.zeroValue157
  t222 := Try.underlying161
  a222 := Try.isAgg161
  z222 := Try.sizeOf161
  v222 := Try.zeroValue161
  t228 := Try.underlying163
  a228 := Try.isAgg163
  z228 := Try.sizeOf163
  v228 := Try.zeroValue163
  t229 := Try.underlying103
  a229 := Try.isAgg103
  z229 := Try.sizeOf103
  v229 := Try.zeroValue103 }
open Go.Sort Go.RowKit in
theorem Try.slices_Sort_int (blk off cap : Nat) (zs : List Int) (w : World) (hH : Holds (Value.int .i64) w blk off zs.toArray) (hblk : blk < w.heap.size) (hsz : zs.length < 4611686018427387904) :
    Calls Try.prog 66 #[.slice (some ⟨blk, off, none⟩) zs.length cap] w fun e w' =>
      e = .returned (.tuple #[]) ∧ ∃ n os, w' = grow (putRow (Value.int .i64) (Sort.ahead w n) blk off (zs.mergeSort fun x y => decide (x ≤ y)).toArray) os := Any.slices_Sort_int Try.lays189 blk off cap zs w hH hblk hsz
end Go.Proofs
namespace Go.Proofs.Ytofcojcfcpfdmaa
open Go.RowKit
set_option linter.unusedSimpArgs false
set_option linter.unusedVariables false

theorem midV_bounds (P : Nat → Int) (hP : ∀ j, 0 ≤ P j ∧ P j ≤ 255) (W H r x y : Nat) (hx : x < W) (hy : y < H) : 0 ≤ midV P W H r x y ∧ midV P W H r x y ≤ 255 := by
  have hb := rectVals_bounds P hP W (y - r) (x - r) (min (x + r + 1) W - (x - r)) (min (y + r + 1) H - (y - r))
  have hpos : 0 < (rectVals P W (y - r) (x - r) (min (x + r + 1) W - (x - r)) (min (y + r + 1) H - (y - r))).length := by
    rw [rectVals_length]; exact Nat.mul_pos (by omega) (by omega)
  exact (midOf_is _ hpos).bounds hb hpos

theorem sort_world {blk n : Nat} {xs s : List Int} {w : World} (os : Array Obj) (hH : Go.Sort.Holds (Value.int .i64) w blk 0 xs.toArray) (hblk : blk < w.heap.size) (hl : s.length = xs.length) :
    (∀ j, j < xs.length → (Go.Sort.grow (Go.Sort.putRow (Value.int .i64) (Go.Sort.ahead w n) blk 0 s.toArray) os).cell? ⟨blk, 0 + j, none⟩ = some (.int .i64 (s.getD j 0))) ∧
      ∀ B, B ≤ blk → Below B w (Go.Sort.grow (Go.Sort.putRow (Value.int .i64) (Go.Sort.ahead w n) blk 0 s.toArray) os) := by
  have hsz : (Go.Sort.putRow (Value.int .i64) (Go.Sort.ahead w n) blk 0 s.toArray).heap.size = w.heap.size := by simp [Go.Sort.putRow, Go.Sort.mapBlock, Go.Sort.ahead]
  refine ⟨fun j hj => ?_, fun B hB => ⟨rfl, rfl, rfl, ?_, fun k hk => ?_⟩⟩
  · rw [Go.Sort.cell?_grow _ _ _ (by rw [hsz]; exact hblk), Go.Sort.cell?_putRow (Value.int .i64) (Go.Sort.ahead w n) blk 0 xs.toArray s.toArray (Go.Sort.holds_ahead _ _ _ _ _ _ hH) (by simp [hl]) j (by simp [hl]; exact hj)]
    simp [List.getD, hl, hj]
  · simp only [Go.Sort.grow, Array.size_append]; omega
  · rw [Go.Sort.heap_grow_old _ _ (by rw [hsz]; omega)]
    simp only [Go.Sort.putRow, Go.Sort.mapBlock, Go.Sort.ahead, Array.getElem?_modify]
    rw [if_neg (by omega)]

theorem owns_holds {w : World} {base g c : Nat} {xs : List Int} (h : w.ownsRow base 3 1 (.slice (some ⟨g, 0, none⟩) xs.length c) xs.length (xs.map (Value.int .i64))) : Go.Sort.Holds (Value.int .i64) w g 0 xs.toArray ∧ g < w.heap.size ∧ base ≤ g := by
  rcases h.2 with ⟨h0, _⟩ | ⟨g', cap, cur, h0, hb, hg, h1, h2, h3, h4⟩
  · cases h0
  · cases h0
    refine ⟨fun j hj => ?_, (Array.getElem?_eq_some_iff.1 hg).1, hb⟩
    have hj' : j < xs.length := by simpa using hj
    refine ⟨?_, by simp [World.frozen?, hg]⟩
    have : cur.toList[j]? = some (.int .i64 xs[j]) := by
      have h5 : (cur.toList.take (xs.length * 1))[j]? = (xs.map (Value.int .i64))[j]? := by rw [h4]
      rw [List.getElem?_take, if_pos (by omega)] at h5
      rw [h5]; simp [hj']
    simp [World.cell?, hg, hj']
    simpa using this

set_option maxHeartbeats 800000 in
set_option maxRecDepth 100000 in
theorem middleR1_any (W H pb po c x y r gb rb : Nat) (P : Nat → Int) (w : World) (hP : ∀ j, 0 ≤ P j ∧ P j ≤ 255) (hW : W ≤ 4000) (hH : H ≤ 4000) (hN : W * H ≤ 1048576) (hx : x < W) (hy : y < H) (hr : r ≤ 5)
    (h0 : w.cell? ⟨gb, 0, none⟩ = some (.int .i64 W)) (h1 : w.cell? ⟨gb, 1, none⟩ = some (.int .i64 H)) (h2 : w.cell? ⟨gb, 2, none⟩ = some (.slice (some ⟨pb, po, none⟩) (W * H) c)) (h3 : w.cell? ⟨rb, 0, none⟩ = some (.int .i64 r))
    (hp : ∀ j, j < W * H → w.cell? ⟨pb, po + j, none⟩ = some (.int .u8 (P j))) :
    Calls Try.prog 64 #[.int .i64 x, .int .i64 y, .pointer (some ⟨gb, 0, none⟩), .pointer (some ⟨rb, 0, none⟩)] w fun e w' => e = .returned (.int .u8 (midV P W H r x y)) ∧ Below w.heap.size w w' := by
  have HA := Lib.hid (aroundR_any W H pb po c x y r P w hP hW hH hN hx hy (by omega) hp)
  have hmb := midV_bounds P hP W H r x y hx hy
  obtain ⟨nx, hnx⟩ : ∃ nx, nx = min (x + r + 1) W - (x - r) := ⟨_, rfl⟩
  obtain ⟨ny, hny⟩ : ∃ ny, ny = min (y + r + 1) H - (y - r) := ⟨_, rfl⟩
  have hmv : midV P W H r x y = midOf (rectVals P W (y - r) (x - r) nx ny) := by unfold midV; rw [← hnx, ← hny]
  have hmx := Nat.mul_le_mul (show nx ≤ W by omega) (show ny ≤ H by omega)
  have hpos := Nat.mul_pos (show 0 < nx by omega) (show 0 < ny by omega)
  obtain ⟨xs, hxs⟩ : ∃ xs, xs = rectVals P W (y - r) (x - r) nx ny := ⟨_, rfl⟩
  have hlen : nx * ny = xs.length := by rw [hxs, rectVals_length]
  rw [← hnx, ← hny, ← hxs, hlen] at HA
  rw [hlen] at hpos hmx
  rw [← hxs] at hmv
  rw [hmv] at hmb ⊢
  obtain ⟨k, hk⟩ : ∃ k, k = (xs.length - 1) / 2 := ⟨_, rfl⟩
  have hm2 : midOf xs = (xs.mergeSort fun x y => decide (x ≤ y)).getD k 0 := by unfold midOf; rw [← hk]
  obtain ⟨m, hm⟩ : ∃ m, m = midOf xs := ⟨_, rfl⟩
  rw [← hm] at hmb hm2 ⊢
  have e1 : ((xs.length : Int) - 1) / 2 = (k : Int) := by omega
  have hk2 : k < xs.length := by omega
  have HM := Lib.hid hm2
  obtain ⟨hmb0, hmb1⟩ := hmb
  have k1 : (k : Int) < (xs.length : Int) := by omega
  clear hp hP hnx hny hxs hlen hmv hk hm hm2
  go_enter Try.func64, Try.ntmps64
  go_wp2_with fail
  refine HA.out.mono ?_
  rintro e w1 ⟨v, rfl, hown, hb⟩
  obtain ⟨gl, cl, rfl⟩ : ∃ g cap, v = .slice (some ⟨g, 0, none⟩) xs.length cap := by
    rcases hown.2 with ⟨_, h0⟩ | ⟨g, cap, cur, rfl, _⟩
    · omega
    · exact ⟨_, _, rfl⟩
  obtain ⟨o1, o2, o3⟩ := owns_holds hown
  have O := Lib.hid o1
  have HB := Lib.hid hb
  have O3 := Lib.hid o3
  clear hown hb o1
  go_wp2_with fail
  refine (Try.slices_Sort_int gl 0 cl xs w1 O.out o2 (by omega)).mono ?_
  rintro e w2 ⟨rfl, n, os, hw2⟩
  obtain ⟨s1, s2⟩ := sort_world os (n := n) O.out o2 (s := xs.mergeSort fun x y => decide (x ≤ y)) (List.length_mergeSort _)
  have B2 := Lib.hid (s2 w.heap.size O3.out)
  have c1 := s1 k hk2
  rw [← HM.out] at c1
  rw [← hw2] at c1 B2
  rw [Nat.zero_add] at c1
  clear s1 s2 hw2
  go_wp2_with fail
  go_ret
  exact ⟨rfl, HB.out.trans B2.out⟩

set_option maxHeartbeats 800000 in
set_option maxRecDepth 100000 in
theorem middleR_ok (W H pb po c r : Nat) (P : Nat → Int) (w : World) (a1 : 1 ≤ W) (a2 : W ≤ 4000) (a4 : H ≤ 4000) (hN : W * H ≤ 1048576) (hr : r ≤ 5) (hP : ∀ j, 0 ≤ P j ∧ P j ≤ 255)
    (hp : ∀ j, j < W * H → w.cell? ⟨pb, po + j, none⟩ = some (.int .u8 (P j))) :
    Calls Try.prog 16 #[.agg #[.int .i64 W, .int .i64 H, .slice (some ⟨pb, po, none⟩) (W * H) c], .int .i64 r] w fun e w' =>
      ∃ v, e = .returned (.agg #[.int .i64 W, .int .i64 H, v]) ∧ w'.ownsRow w.heap.size 5 1 v (W * H) ((places W (midV P W H r) (W * H)).map (Value.int .u8)) ∧ Below w.heap.size w w' := by
  have hmf : ∀ (fn : Fn) (first cap : Array Value) (w : World), (Instr.makeFunc fn first cap).run Try.prog w = .ok (.func fn first cap) w := fun _ _ _ _ => rfl
  have HP := Lib.hid hP
  have HC := Lib.hid hp
  clear hp hP
  go_enter Try.func16, Try.ntmps16
  go_wp2_with fail
  obtain ⟨w3, hw3⟩ : ∃ w3, w3 = ((w.alloc (.cells #[.int .i64 W, .int .i64 H, .slice (some ⟨pb, po, none⟩) (W * H) c] 24)).alloc (.cells #[.int .i64 r] 3)).alloc (.cells #[.int .i64 0, .int .i64 0, .slice none 0 0] 24) := ⟨_, rfl⟩
  have B3 : Below w.heap.size w w3 := by rw [hw3]; exact below_alloc (below_alloc (new_below _ _) _) _
  have q0 : w3.cell? ⟨w.heap.size, 0, none⟩ = some (.int .i64 W) := by rw [hw3]; go_simp
  have q1 : w3.cell? ⟨w.heap.size, 1, none⟩ = some (.int .i64 H) := by rw [hw3]; go_simp
  have q2 : w3.cell? ⟨w.heap.size, 2, none⟩ = some (.slice (some ⟨pb, po, none⟩) (W * H) c) := by rw [hw3]; go_simp
  have q3 : w3.cell? ⟨w.heap.size + 1, 0, none⟩ = some (.int .i64 r) := by rw [hw3]; go_simp
  have qb : w3.heap[w.heap.size + 1 + 1]? = some (.cells #[.int .i64 0, .int .i64 0, .slice none 0 0] 24 (0, 0)) := by
    rw [hw3]
    simpa using heap_alloc_new ((w.alloc (.cells #[.int .i64 W, .int .i64 H, .slice (some ⟨pb, po, none⟩) (W * H) c] 24)).alloc (.cells #[.int .i64 r] 3)) (.cells #[.int .i64 0, .int .i64 0, .slice none 0 0] 24)
  rw [← hw3]
  clear hw3
  have lt1 := Lib.hid (Array.getElem?_eq_some_iff.1 qb).1
  refine (madeGray_any W H 64 _ (midV P W H r) w3 (by omega) (by omega) (by omega) (by omega) (Go.Proofs.enters_of Try.func64 (by kernel_rfl) rfl) ?_).mono ?_
  · intro x y wx hx hy hbx
    exact middleR1_any W H pb po c x y r w.heap.size (w.heap.size + 1) P wx HP.out a2 a4 hN hx hy hr (cell_later hbx q0) (cell_later hbx q1) (cell_later hbx q2) (cell_later hbx q3) (fun j hj => cell_later hbx (cell_later B3 (HC.out j hj)))
  · rintro e w5 ⟨v, rfl, hown, hb5⟩
    obtain ⟨j0, j1, j2, r0, r1, r2⟩ := block3 (below_block hb5 qb)
    obtain ⟨va, vn, vc, rfl⟩ := owns_shape hown
    have F := Lib.hid hown
    have G := Lib.hid (below_step B3 hb5)
    clear hown hb5 q0 q1 q2 q3 qb
    go_wp2_with fail
    refine bodyPost_ret (v := .agg #[.int .i64 W, .int .i64 H, .slice va vn vc]) (by simp [results, Try.results16, go_sem, j0, j1, j2]) rfl ⟨_, rfl, owns_far3 F.out lt1.out B3.size, below_far3 G.out (by omega)⟩

end Go.Proofs.Ytofcojcfcpfdmaa
namespace Go.Proofs.Ytofcojcfcpfdmaa
open Go.RowKit
set_option linter.unusedSimpArgs false
set_option linter.unusedVariables false

/-- A value of a stretched page. -/
def strV (p low high : Int) : Int := (2 * ((min (max p low) high - low) * 255) + (high - low)) / (2 * (high - low))

theorem strV_bounds {p low high : Int} (h : low < high) : 0 ≤ strV p low high ∧ strV p low high ≤ 255 := by
  unfold strV
  have e0 : 0 ≤ min (max p low) high - low := by omega
  have e1 : min (max p low) high - low ≤ high - low := by omega
  refine ⟨Int.ediv_nonneg (by omega) (by omega), ?_⟩
  exact Int.le_of_lt_add_one (Int.ediv_lt_of_lt_mul (by omega) (by omega))

set_option maxHeartbeats 800000 in
set_option maxRecDepth 100000 in
theorem stretch1_any (W H x y gb pb po c lb ub : Nat) (low high p : Int) (w : World) (hW : W ≤ 4000) (hH : H ≤ 4000) (hx : x < W) (hy : y < H) (hl0 : 0 ≤ low) (hlh : low < high) (hh : high ≤ 255)
    (h0 : w.cell? ⟨gb, 0, none⟩ = some (.int .i64 W)) (h2 : w.cell? ⟨gb, 2, none⟩ = some (.slice (some ⟨pb, po, none⟩) (W * H) c)) (h3 : w.cell? ⟨lb, 0, none⟩ = some (.int .i64 low)) (h4 : w.cell? ⟨ub, 0, none⟩ = some (.int .i64 high))
    (hp : w.cell? ⟨pb, po + (y * W + x), none⟩ = some (.int .u8 p)) (hP0 : 0 ≤ p) (hP1 : p ≤ 255) :
    Calls Try.prog 58 #[.int .i64 x, .int .i64 y, .pointer (some ⟨gb, 0, none⟩), .pointer (some ⟨lb, 0, none⟩), .pointer (some ⟨ub, 0, none⟩)] w fun e w' => e = .returned (.int .u8 (strV p low high)) ∧ Below w.heap.size w w' := by
  have hfit := row_fits hy (show x + 1 ≤ W by omega)
  have hN := Nat.mul_le_mul hW hH
  have x0 : (0 : Int) ≤ (y : Int) * (W : Int) := Int.mul_nonneg (by omega) (by omega)
  have x1 : (y : Int) * (W : Int) + (x : Int) < ((W * H : Nat) : Int) := by rw [← Int.natCast_mul]; omega
  have x3 : (y : Int) * (W : Int) + (x : Int) < (W : Int) * (H : Int) := by rw [← Int.natCast_mul, ← Int.natCast_mul]; omega
  have x2 : ((W * H : Nat) : Int) ≤ 16000000 := by omega
  obtain ⟨s0, s1⟩ := strV_bounds hlh (p := p)
  obtain ⟨q, hq⟩ : ∃ q, q = strV p low high := ⟨_, rfl⟩
  rw [← hq] at s0 s1 ⊢
  have hqe : (2 * ((min (max p low) high - low) * 255) + (high - low)) / (2 * (high - low)) = q := hq.symm
  obtain ⟨v, hv⟩ : ∃ v, v = min (max p low) high := ⟨_, rfl⟩
  have hv0 : low ≤ v := by omega
  have hv1 : v ≤ high := by omega
  rw [← hv] at hqe
  have hve : min (max p low) high = v := hv.symm
  clear hfit hN hq hv
  go_enter Try.func58, Try.ntmps58
  go_wp2_with fail
  go_region
  all_goals
    go_wp2_with (go_at_call 59; refine (rounded_any _ _ _ (by omega) (by omega) (by omega) (by omega)).mono ?_; rintro e wq ⟨rfl, rfl⟩)
    go_ret
    exact ⟨by first | rfl | (congr 1), by first | exact Below.refl _ _ | exact (Below.refl _ _).drew⟩

set_option maxHeartbeats 800000 in
set_option maxRecDepth 100000 in
theorem stretchR1_any (W H x y gb pb po c lb ub : Nat) (low high p : Int) (w : World) (hW : W ≤ 4000) (hH : H ≤ 4000) (hx : x < W) (hy : y < H) (hl0 : 0 ≤ low) (hlh : low < high) (hh : high ≤ 255)
    (h0 : w.cell? ⟨gb, 0, none⟩ = some (.int .i64 W)) (h2 : w.cell? ⟨gb, 2, none⟩ = some (.slice (some ⟨pb, po, none⟩) (W * H) c)) (h3 : w.cell? ⟨lb, 0, none⟩ = some (.int .i64 low)) (h4 : w.cell? ⟨ub, 0, none⟩ = some (.int .i64 high))
    (hp : w.cell? ⟨pb, po + (y * W + x), none⟩ = some (.int .u8 p)) (hP0 : 0 ≤ p) (hP1 : p ≤ 255) :
    Calls Try.prog 60 #[.int .i64 x, .int .i64 y, .pointer (some ⟨gb, 0, none⟩), .pointer (some ⟨lb, 0, none⟩), .pointer (some ⟨ub, 0, none⟩)] w fun e w' => e = .returned (.int .u8 (strV p low high)) ∧ Below w.heap.size w w' := by
  have hfit := row_fits hy (show x + 1 ≤ W by omega)
  have hN := Nat.mul_le_mul hW hH
  have x0 : (0 : Int) ≤ (y : Int) * (W : Int) := Int.mul_nonneg (by omega) (by omega)
  have x1 : (y : Int) * (W : Int) + (x : Int) < ((W * H : Nat) : Int) := by rw [← Int.natCast_mul]; omega
  have x3 : (y : Int) * (W : Int) + (x : Int) < (W : Int) * (H : Int) := by rw [← Int.natCast_mul, ← Int.natCast_mul]; omega
  have x2 : ((W * H : Nat) : Int) ≤ 16000000 := by omega
  obtain ⟨s0, s1⟩ := strV_bounds hlh (p := p)
  obtain ⟨q, hq⟩ : ∃ q, q = strV p low high := ⟨_, rfl⟩
  rw [← hq] at s0 s1 ⊢
  have hqe : (2 * ((min (max p low) high - low) * 255) + (high - low)) / (2 * (high - low)) = q := hq.symm
  obtain ⟨v, hv⟩ : ∃ v, v = min (max p low) high := ⟨_, rfl⟩
  have hv0 : low ≤ v := by omega
  have hv1 : v ≤ high := by omega
  rw [← hv] at hqe
  have hve : min (max p low) high = v := hv.symm
  clear hfit hN hq hv
  go_enter Try.func60, Try.ntmps60
  go_wp2_with fail
  go_region
  all_goals
    go_wp2_with (go_at_call 61; refine (round_any _ _ _ (by omega) (by omega) (by omega) (by omega)).mono ?_; rintro e wq ⟨rfl, rfl⟩)
    go_ret
    exact ⟨by first | rfl | (congr 1), by first | exact Below.refl _ _ | exact (Below.refl _ _).drew⟩

end Go.Proofs.Ytofcojcfcpfdmaa
namespace Go.Proofs.Ytofcojcfcpfdmaa
open Go.RowKit
set_option linter.unusedSimpArgs false
set_option linter.unusedVariables false

theorem stretch_range (a b low high : Int) (p : Option Addr) (n c : Nat) (w : World) (h : pageErr a b n = 0) (hr : ¬ ((0 ≤ low ∧ low ≤ 255) ∧ (0 ≤ high ∧ high ≤ 255))) :
    Calls Try.prog 9 #[.agg #[.int .i64 a, .int .i64 b, .slice p n c], .int .i64 low, .int .i64 high] w fun e w' => e = .returned (.tuple #[.agg #[.int .i64 0, .int .i64 0, .slice none 0 0], .int .i64 3]) ∧ Below w.heap.size w w' := by
  by_cases h1 : 0 ≤ low ∧ low ≤ 255
  · have H1 := Lib.hid h1
    have H2 := Lib.hid (show ¬ (0 ≤ high ∧ high ≤ 255) from fun k => hr ⟨h1, k⟩)
    clear hr h1
    go_enter Try.func9, Try.ntmps9
    go_wp2_with (first | (go_at_call 55; refine (checkGray_any _ _ _ _ _ _).mono ?_; rintro e w' ⟨rfl, rfl⟩) | (go_at_call 56; (with_reducible refine (outside_no low 0 255 _ H1.out).mono ?_); rintro e w' ⟨rfl, rfl⟩) | (go_at_call 56; (with_reducible refine (outside_yes high 0 255 _ H2.out).mono ?_); rintro e w' ⟨rfl, rfl⟩))
    refine bodyPost_ret (v := .tuple #[.agg #[.int .i64 0, .int .i64 0, .slice none 0 0], .int .i64 3]) (by simp [results, Try.results9, go_sem]) rfl ⟨rfl, below_alloc (below_alloc (below_alloc (below_alloc (new_below _ _) _) _) _) _⟩
  · have H1 := Lib.hid h1
    clear hr h1
    go_enter Try.func9, Try.ntmps9
    go_wp2_with (first | (go_at_call 55; refine (checkGray_any _ _ _ _ _ _).mono ?_; rintro e w' ⟨rfl, rfl⟩) | (go_at_call 56; (with_reducible refine (outside_yes low 0 255 _ H1.out).mono ?_); rintro e w' ⟨rfl, rfl⟩))
    refine bodyPost_ret (v := .tuple #[.agg #[.int .i64 0, .int .i64 0, .slice none 0 0], .int .i64 3]) (by simp [results, Try.results9, go_sem]) rfl ⟨rfl, below_alloc (below_alloc (below_alloc (below_alloc (new_below _ _) _) _) _) _⟩

theorem stretch_order (a b low high : Int) (p : Option Addr) (n c : Nat) (w : World) (h : pageErr a b n = 0) (h1 : 0 ≤ low ∧ low ≤ 255) (h2 : 0 ≤ high ∧ high ≤ 255) (h3 : high ≤ low) :
    Calls Try.prog 9 #[.agg #[.int .i64 a, .int .i64 b, .slice p n c], .int .i64 low, .int .i64 high] w fun e w' => e = .returned (.tuple #[.agg #[.int .i64 0, .int .i64 0, .slice none 0 0], .int .i64 7]) ∧ Below w.heap.size w w' := by
  have H1 := Lib.hid h1
  have H2 := Lib.hid h2
  clear h1 h2
  go_enter Try.func9, Try.ntmps9
  go_wp2_with (first | (go_at_call 55; refine (checkGray_any _ _ _ _ _ _).mono ?_; rintro e w' ⟨rfl, rfl⟩) | (go_at_call 56; (with_reducible refine (outside_no low 0 255 _ H1.out).mono ?_); rintro e w' ⟨rfl, rfl⟩) | (go_at_call 56; (with_reducible refine (outside_no high 0 255 _ H2.out).mono ?_); rintro e w' ⟨rfl, rfl⟩))
  refine bodyPost_ret (v := .tuple #[.agg #[.int .i64 0, .int .i64 0, .slice none 0 0], .int .i64 7]) (by simp [results, Try.results9, go_sem]) rfl ⟨rfl, below_alloc (below_alloc (below_alloc (below_alloc (new_below _ _) _) _) _) _⟩

set_option maxHeartbeats 800000 in
set_option maxRecDepth 100000 in
theorem stretch_ok (W H pb po c : Nat) (low high : Int) (P : Nat → Int) (w : World) (he : sizeErr W H = 0) (hl0 : 0 ≤ low) (hlh : low < high) (hh : high ≤ 255) (hP : ∀ j, 0 ≤ P j ∧ P j ≤ 255)
    (hp : ∀ j, j < W * H → w.cell? ⟨pb, po + j, none⟩ = some (.int .u8 (P j))) :
    Calls Try.prog 9 #[.agg #[.int .i64 W, .int .i64 H, .slice (some ⟨pb, po, none⟩) (W * H) c], .int .i64 low, .int .i64 high] w fun e w' =>
      ∃ v, e = .returned (.tuple #[.agg #[.int .i64 W, .int .i64 H, v], .int .i64 0]) ∧ w'.ownsRow w.heap.size 5 1 v (W * H) ((places W (fun x y => strV (P (y * W + x)) low high) (W * H)).map (Value.int .u8)) ∧ Below w.heap.size w w' := by
  have hmf : ∀ (fn : Fn) (first cap : Array Value) (w : World), (Instr.makeFunc fn first cap).run Try.prog w = .ok (.func fn first cap) w := fun _ _ _ _ => rfl
  obtain ⟨⟨a1, a2, a3, a4⟩, a5, a6⟩ := sizeErr_zero he
  have hpe : pageErr W H (W * H) = 0 := by unfold pageErr; rw [if_pos he, if_pos (by simp [Int.natCast_mul])]
  have hN : W * H ≤ 1048576 := by rw [← Int.natCast_mul] at a6; omega
  clear a5 a6 he
  have HP := Lib.hid hP
  have HC := Lib.hid hp
  have H1 := Lib.hid (show 0 ≤ low ∧ low ≤ 255 by omega)
  have H2 := Lib.hid (show 0 ≤ high ∧ high ≤ 255 by omega)
  clear hp hP
  go_enter Try.func9, Try.ntmps9
  go_wp2_with (first | (go_at_call 55; refine (checkGray_any _ _ _ _ _ _).mono ?_; rintro e w' ⟨rfl, rfl⟩) | (go_at_call 56; (with_reducible refine (outside_no low 0 255 _ H1.out).mono ?_); rintro e w' ⟨rfl, rfl⟩) | (go_at_call 56; (with_reducible refine (outside_no high 0 255 _ H2.out).mono ?_); rintro e w' ⟨rfl, rfl⟩))
  obtain ⟨w3, hw3⟩ : ∃ w3, w3 = ((((w.alloc (.cells #[.int .i64 W, .int .i64 H, .slice (some ⟨pb, po, none⟩) (W * H) c] 24)).alloc (.cells #[.int .i64 low] 3)).alloc (.cells #[.int .i64 high] 3)).alloc (.cells #[.int .i64 0, .int .i64 0, .slice none 0 0] 24)).alloc (.cells #[.int .i64 W, .int .i64 H, .slice (some ⟨pb, po, none⟩) (W * H) c] 24) := ⟨_, rfl⟩
  have B3 : Below w.heap.size w w3 := by rw [hw3]; exact below_alloc (below_alloc (below_alloc (below_alloc (new_below _ _) _) _) _) _
  have q0 : w3.cell? ⟨w.heap.size, 0, none⟩ = some (.int .i64 W) := by rw [hw3]; go_simp
  have q1 : w3.cell? ⟨w.heap.size, 1, none⟩ = some (.int .i64 H) := by rw [hw3]; go_simp
  have q2 : w3.cell? ⟨w.heap.size, 2, none⟩ = some (.slice (some ⟨pb, po, none⟩) (W * H) c) := by rw [hw3]; go_simp
  have q3 : w3.cell? ⟨w.heap.size + 1, 0, none⟩ = some (.int .i64 low) := by rw [hw3]; go_simp
  have q4 : w3.cell? ⟨w.heap.size + 1 + 1, 0, none⟩ = some (.int .i64 high) := by rw [hw3]; go_simp
  have qb : w3.heap[w.heap.size + 1 + 1 + 1]? = some (.cells #[.int .i64 0, .int .i64 0, .slice none 0 0] 24 (0, 0)) := by
    rw [hw3, Below.heap_alloc _ _ _ (by simp)]
    simpa using heap_alloc_new (((w.alloc (.cells #[.int .i64 W, .int .i64 H, .slice (some ⟨pb, po, none⟩) (W * H) c] 24)).alloc (.cells #[.int .i64 low] 3)).alloc (.cells #[.int .i64 high] 3)) (.cells #[.int .i64 0, .int .i64 0, .slice none 0 0] 24)
  rw [← hw3]
  clear hw3
  have lt1 := Lib.hid (Array.getElem?_eq_some_iff.1 qb).1
  refine (fillByte_any W H 58 _ (fun x y => strV (P (y * W + x)) low high) w3 (by omega) (by omega) (by omega) (by omega) (Go.Proofs.enters_of Try.func58 (by kernel_rfl) rfl) ?_).mono ?_
  · intro x y wx hx hy hbx
    have hfit := row_fits hy (show x + 1 ≤ W by omega)
    exact stretch1_any W H x y w.heap.size pb po c (w.heap.size + 1) (w.heap.size + 1 + 1) low high _ wx (by omega) (by omega) hx hy hl0 hlh hh (cell_later hbx q0) (cell_later hbx q2) (cell_later hbx q3) (cell_later hbx q4) (cell_later hbx (cell_later B3 (HC.out _ (by omega)))) (HP.out _).1 (HP.out _).2
  · rintro e w5 ⟨v, rfl, hown, hb5⟩
    obtain ⟨j0, j1, j2, r0, r1, r2⟩ := block3 (below_block hb5 qb)
    obtain ⟨va, vn, vc, rfl⟩ := owns_shape hown
    have k0 := cell_later hb5 q0
    have k1 := cell_later hb5 q1
    have F := Lib.hid hown
    have G := Lib.hid (below_step B3 hb5)
    clear hown hb5 q0 q1 q2 q3 q4 qb
    go_wp2_with fail
    refine bodyPost_ret (v := .tuple #[.agg #[.int .i64 W, .int .i64 H, .slice va vn vc], .int .i64 0]) (by simp [results, Try.results9, go_sem, j0, j1, j2]) rfl ⟨_, rfl, owns_far3 F.out lt1.out B3.size, below_far3 G.out (by omega)⟩

set_option maxHeartbeats 800000 in
set_option maxRecDepth 100000 in
theorem stretchR_ok (W H pb po c : Nat) (low high : Int) (P : Nat → Int) (w : World) (a1 : 1 ≤ W) (a2 : W ≤ 4000) (a4 : H ≤ 4000) (hN : W * H ≤ 1048576) (hl0 : 0 ≤ low) (hlh : low < high) (hh : high ≤ 255) (hP : ∀ j, 0 ≤ P j ∧ P j ≤ 255)
    (hp : ∀ j, j < W * H → w.cell? ⟨pb, po + j, none⟩ = some (.int .u8 (P j))) :
    Calls Try.prog 13 #[.agg #[.int .i64 W, .int .i64 H, .slice (some ⟨pb, po, none⟩) (W * H) c], .int .i64 low, .int .i64 high] w fun e w' =>
      ∃ v, e = .returned (.agg #[.int .i64 W, .int .i64 H, v]) ∧ w'.ownsRow w.heap.size 5 1 v (W * H) ((places W (fun x y => strV (P (y * W + x)) low high) (W * H)).map (Value.int .u8)) ∧ Below w.heap.size w w' := by
  have hmf : ∀ (fn : Fn) (first cap : Array Value) (w : World), (Instr.makeFunc fn first cap).run Try.prog w = .ok (.func fn first cap) w := fun _ _ _ _ => rfl
  have HP := Lib.hid hP
  have HC := Lib.hid hp
  clear hp hP
  go_enter Try.func13, Try.ntmps13
  go_wp2_with fail
  obtain ⟨w3, hw3⟩ : ∃ w3, w3 = (((w.alloc (.cells #[.int .i64 W, .int .i64 H, .slice (some ⟨pb, po, none⟩) (W * H) c] 24)).alloc (.cells #[.int .i64 low] 3)).alloc (.cells #[.int .i64 high] 3)).alloc (.cells #[.int .i64 0, .int .i64 0, .slice none 0 0] 24) := ⟨_, rfl⟩
  have B3 : Below w.heap.size w w3 := by rw [hw3]; exact below_alloc (below_alloc (below_alloc (new_below _ _) _) _) _
  have q0 : w3.cell? ⟨w.heap.size, 0, none⟩ = some (.int .i64 W) := by rw [hw3]; go_simp
  have q1 : w3.cell? ⟨w.heap.size, 1, none⟩ = some (.int .i64 H) := by rw [hw3]; go_simp
  have q2 : w3.cell? ⟨w.heap.size, 2, none⟩ = some (.slice (some ⟨pb, po, none⟩) (W * H) c) := by rw [hw3]; go_simp
  have q3 : w3.cell? ⟨w.heap.size + 1, 0, none⟩ = some (.int .i64 low) := by rw [hw3]; go_simp
  have q4 : w3.cell? ⟨w.heap.size + 1 + 1, 0, none⟩ = some (.int .i64 high) := by rw [hw3]; go_simp
  have qb : w3.heap[w.heap.size + 1 + 1 + 1]? = some (.cells #[.int .i64 0, .int .i64 0, .slice none 0 0] 24 (0, 0)) := by
    rw [hw3]
    simpa using heap_alloc_new (((w.alloc (.cells #[.int .i64 W, .int .i64 H, .slice (some ⟨pb, po, none⟩) (W * H) c] 24)).alloc (.cells #[.int .i64 low] 3)).alloc (.cells #[.int .i64 high] 3)) (.cells #[.int .i64 0, .int .i64 0, .slice none 0 0] 24)
  rw [← hw3]
  clear hw3
  have lt1 := Lib.hid (Array.getElem?_eq_some_iff.1 qb).1
  refine (madeGray_any W H 60 _ (fun x y => strV (P (y * W + x)) low high) w3 (by omega) (by omega) (by omega) (by omega) (Go.Proofs.enters_of Try.func60 (by kernel_rfl) rfl) ?_).mono ?_
  · intro x y wx hx hy hbx
    have hfit := row_fits hy (show x + 1 ≤ W by omega)
    exact stretchR1_any W H x y w.heap.size pb po c (w.heap.size + 1) (w.heap.size + 1 + 1) low high _ wx (by omega) (by omega) hx hy hl0 hlh hh (cell_later hbx q0) (cell_later hbx q2) (cell_later hbx q3) (cell_later hbx q4) (cell_later hbx (cell_later B3 (HC.out _ (by omega)))) (HP.out _).1 (HP.out _).2
  · rintro e w5 ⟨v, rfl, hown, hb5⟩
    obtain ⟨j0, j1, j2, r0, r1, r2⟩ := block3 (below_block hb5 qb)
    obtain ⟨va, vn, vc, rfl⟩ := owns_shape hown
    have F := Lib.hid hown
    have G := Lib.hid (below_step B3 hb5)
    clear hown hb5 q0 q1 q2 q3 q4 qb
    go_wp2_with fail
    refine bodyPost_ret (v := .agg #[.int .i64 W, .int .i64 H, .slice va vn vc]) (by simp [results, Try.results13, go_sem, j0, j1, j2]) rfl ⟨_, rfl, owns_far3 F.out lt1.out B3.size, below_far3 G.out (by omega)⟩

end Go.Proofs.Ytofcojcfcpfdmaa
