/-
  What votes_holds leans on: contracts of the functions that it calls.
-/
import Derived.Test.YtmloidgeolgpdaaDoorRows
import Derived.WalkKit
import Derived.WalkSpells
import Derived.WalkLawsBesides
import Derived.Lib.Hide
import Derived.Deep.RegionHeld3
import Derived.Shelf.Abstract
import Derived.ProofKit
import Derived.OpenShut
import Derived.ShutString
import Derived.ChangeOld
import Derived.Lib.SmallJoins
import Derived.Deep.Grids
import Derived.Maps.OwnOps
import Derived.Maps.OwnSet
import Derived.DeepKeys4
import Derived.Deep.OwnRows
import Derived.Deep.CutBlock
import Derived.Lib.MinMax
import Derived.Deep.QuietTactic
import Derived.BigQuiet
import Derived.Deep.CutRange
import Derived.Deep.DeepCutAuto
import Derived.Laws.EntriesVeiled
import Derived.StillTailTactics
import Derived.Lib.Bytealg
import Derived.Lib.Small
import Derived.Sort.Grow
import Derived.Shelf.Strings.SlTrimAscii
import Derived.Shelf.Small.Strs
import Derived.Shelf.Small.Wraps
import Derived.Shelf.SlicesQ.Equal
import Derived.Ground.SlgqProg
import Derived.Shelf.SlicesQ.IndexFunc
import Derived.Ground.SlgfProg
import Derived.Test.YtmloidgeolgpdaaDoorProg
import Derived.Shelf.SlSortCmp.NoneTotal
import Derived.Ground.SlsfProg
import Derived.Test.YtmloidgeolgpdaaDoorCVotes1
namespace Go.Proofs.YtmloidgeolgpdaaDoor
open Go.RowKit Go.Sort
set_option linter.unusedSimpArgs false
set_option linter.unusedVariables false

set_option maxRecDepth 100000 in
theorem voteR_any (a b : Cd) (W : World) (ha : 0 ≤ a.y ∧ a.y ≤ 100000 ∧ 0 ≤ a.x ∧ a.x ≤ 100000 ∧ 0 ≤ a.k ∧ a.k ≤ 100000) (hb : 0 ≤ b.y ∧ b.y ≤ 100000 ∧ 0 ≤ b.x ∧ b.x ≤ 100000 ∧ 0 ≤ b.k ∧ b.k ≤ 100000) :
    Calls Tryd.prog 41 #[.agg (cdV a).toArray, .agg (cdV b).toArray] W fun e w' => e = .returned (.int .i64 (cdR a b)) ∧ ∃ q os', w' = grow (W.drewN q) os' := by
  obtain ⟨k, t, x, y, u, c⟩ := a
  obtain ⟨k2, t2, x2, y2, u2, c2⟩ := b
  have HV := Lib.hid (show cdR ⟨k, t, x, y, u, c⟩ ⟨k2, t2, x2, y2, u2, c2⟩ = or4 (y - y2) (x - x2) (cbs t t2) (k - k2) from rfl)
  rw [HV.out]
  unfold cdV
  have C3 := Lib.hid (fun w => Tryd.strings_Compare t t2 w)
  rw [cs_cb] at C3
  simp only at ha hb
  have n1 : IntKind.i64.wrap (y - y2) = y - y2 := IntWalk.i64_in _ (by omega)
  have n2 : IntKind.i64.wrap (x - x2) = x - x2 := IntWalk.i64_in _ (by omega)
  have n3 : IntKind.i64.wrap (k - k2) = k - k2 := IntWalk.i64_in _ (by omega)
  clear ha hb
  clear HV
  generalize cbs t t2 = r3 at *
  go_enter Tryd.func41, Tryd.ntmps41
  go_upto_region 1 with (fail)
  obtain ⟨w1, hw1⟩ : ∃ w1, w1 = (W.alloc (.cells #[.int .i64 k, .string t, .int .i64 x, .int .i64 y, .int .i64 u, .int .i64 c] 40)).alloc (.cells #[.int .i64 k2, .string t2, .int .i64 x2, .int .i64 y2, .int .i64 u2, .int .i64 c2] 40) := ⟨_, rfl⟩
  have a0 : w1.cell? ⟨W.heap.size, 0, none⟩ = some (.int .i64 k) := by rw [hw1]; go_simp
  have a1 : w1.cell? ⟨W.heap.size, 1, none⟩ = some (.string t) := by rw [hw1]; go_simp
  have a2 : w1.cell? ⟨W.heap.size, 2, none⟩ = some (.int .i64 x) := by rw [hw1]; go_simp
  have a3 : w1.cell? ⟨W.heap.size, 3, none⟩ = some (.int .i64 y) := by rw [hw1]; go_simp
  have b0 : w1.cell? ⟨W.heap.size + 1, 0, none⟩ = some (.int .i64 k2) := by rw [hw1]; go_simp
  have b1 : w1.cell? ⟨W.heap.size + 1, 1, none⟩ = some (.string t2) := by rw [hw1]; go_simp
  have b2 : w1.cell? ⟨W.heap.size + 1, 2, none⟩ = some (.int .i64 x2) := by rw [hw1]; go_simp
  have b3 : w1.cell? ⟨W.heap.size + 1, 3, none⟩ = some (.int .i64 y2) := by rw [hw1]; go_simp
  have HW := Lib.hid hw1
  rw [← hw1]
  clear hw1
  refine wp_region_still_tail 20 (by kernel_rfl) (by kernel_rfl) ?_
  simp only [List.take_succ_cons, List.take_zero, List.drop_succ_cons, List.drop_zero]
  still_step; still_step; still_step; still_step; still_step
  still_step; still_step; still_step; still_step; still_step
  still_step; still_step; still_step; still_step
  still_call (C3.out _).mono (fun _ _ h => ⟨h.1, h.2⟩)
  still_step; still_step; still_step; still_step; still_step
  refine wpStill_nil ?_
  change wpList _ _ _ _ _ w1.drew
  obtain ⟨w2, hw2⟩ : ∃ w2, w2 = w1.drew := ⟨_, rfl⟩
  have HW2 := Lib.hid hw2
  rw [← hw2]
  clear hw2
  go_wp2_with (first | (go_at_call 35; (with_reducible refine (or4_new _ _ _ _ _).mono ?_); rintro e w' ⟨rfl, rfl⟩))
  go_ret
  exact ⟨rfl, 1, _, by rw [HW2.out, HW.out]; exact grow3 _ _ _ _⟩

end Go.Proofs.YtmloidgeolgpdaaDoor
namespace Go.Proofs
open Go.Shelf
def Tryd.sortC_ren : Go.Shelf.Ren := ⟨fun | 6 => 33 | 15 => 61 | 14 => 60 | 28 => 90 | 29 => 91 | 20 => 82 | 21 => 83 | 22 => 84 | 23 => 85 | 24 => 86 | 25 => 87 | 26 => 88 | 27 => 89 | 46 => 103 | 47 => 104 | 48 => 105 | 49 => 106 | 50 => 107 | 57 => 117 | n => n, fun | 22 => 34 | 24 => 40 | 25 => 62 | 3 => 3 | 39 => 83 | 0 => 0 | 53 => 119 | 55 => 121 | 4 => 4 | 46 => 113 | 45 => 112 | 50 => 56 | 5 => 5 | 9 => 9 | 66 => 130 | 70 => 134 | 76 => 155 | 77 => 156 | n => n, fun | n => n⟩
theorem Tryd.sortC : Go.Proofs.SlLaysF0.n6 Tryd.prog Tryd.sortC_ren := {
  mixed := by kernel_rfl
  f6 := ⟨Tryd.f33.name, by decide, Tryd.func33.trans (congrArg some (by kernel_rfl))⟩
  f14 := ⟨Tryd.f60.name, by decide, Tryd.func60.trans (congrArg some (by kernel_rfl))⟩
  f15 := Tryd.func61.trans (congrArg some (by kernel_rfl))
  f20 := ⟨Tryd.f82.name, by decide, Tryd.func82.trans (congrArg some (by kernel_rfl))⟩
  f21 := ⟨Tryd.f83.name, by decide, Tryd.func83.trans (congrArg some (by kernel_rfl))⟩
  f22 := ⟨Tryd.f84.name, by decide, Tryd.func84.trans (congrArg some (by kernel_rfl))⟩
  f23 := ⟨Tryd.f85.name, by decide, Tryd.func85.trans (congrArg some (by kernel_rfl))⟩
  f24 := ⟨Tryd.f86.name, by decide, Tryd.func86.trans (congrArg some (by kernel_rfl))⟩
  f25 := ⟨Tryd.f87.name, by decide, Tryd.func87.trans (congrArg some (by kernel_rfl))⟩
  f26 := ⟨Tryd.f88.name, by decide, Tryd.func88.trans (congrArg some (by kernel_rfl))⟩
  f27 := ⟨Tryd.f89.name, by decide, Tryd.func89.trans (congrArg some (by kernel_rfl))⟩
  f28 := Tryd.func90.trans (congrArg some (by kernel_rfl))
  f29 := Tryd.func91.trans (congrArg some (by kernel_rfl))
  f46 := ⟨Tryd.f103.name, by decide, Tryd.func103.trans (congrArg some (by kernel_rfl))⟩
  f47 := Tryd.func104.trans (congrArg some (by kernel_rfl))
  f48 := Tryd.func105.trans (congrArg some (by kernel_rfl))
  f49 := ⟨Tryd.f106.name, by decide, Tryd.func106.trans (congrArg some (by kernel_rfl))⟩
  f50 := ⟨Tryd.f107.name, by decide, Tryd.func107.trans (congrArg some (by kernel_rfl))⟩
  f57 := ⟨Tryd.f117.name, by decide, Tryd.func117.trans (congrArg some (by kernel_rfl))⟩
  t0 := Tryd.underlying0
  a0 := Tryd.isAgg0
  z0 := Tryd.sizeOf0
  v0 := Tryd.zeroValue0
  t3 := Tryd.underlying3
  a3 := Tryd.isAgg3
  z3 := Tryd.sizeOf3
  v3 := Tryd.zeroValue3
  t4 := Tryd.underlying4
  a4 := Tryd.isAgg4
  z4 := Tryd.sizeOf4
  v4 := Tryd.zeroValue4
  t5 := Tryd.underlying5
  a5 := Tryd.isAgg5
  z5 := Tryd.sizeOf5
  v5 := Tryd.zeroValue5
  t9 := Tryd.underlying9
  a9 := Tryd.isAgg9
  z9 := Tryd.sizeOf9
  v9 := Tryd.zeroValue9
  t22 := Tryd.underlying34
  a22 := Tryd.isAgg34
  z22 := Tryd.sizeOf34
  v22 := Tryd.zeroValue34
  t25 := Tryd.underlying62
  a25 := Tryd.isAgg62
  z25 := Tryd.sizeOf62
  v25 := Tryd.zeroValue62
  t39 := Tryd.underlying83
  a39 := Tryd.isAgg83
  z39 := Tryd.sizeOf83
  v39 := Tryd.zeroValue83
  t45 := Tryd.underlying112
  a45 := Tryd.isAgg112
  z45 := Tryd.sizeOf112
  v45 := Tryd.zeroValue112
  t46 := Tryd.underlying113
  a46 := Tryd.isAgg113
  z46 := Tryd.sizeOf113
  v46 := Tryd.zeroValue113
  t50 := Tryd.underlying56
  a50 := Tryd.isAgg56
  z50 := Tryd.sizeOf56
  v50 := Tryd.zeroValue56
  t53 := Tryd.underlying119
  a53 := Tryd.isAgg119
  z53 := Tryd.sizeOf119
  v53 := Tryd.zeroValue119
  t55 := Tryd.underlying121
  a55 := Tryd.isAgg121
  z55 := Tryd.sizeOf121
  v55 := Tryd.zeroValue121
  t66 := Tryd.underlying130
  a66 := Tryd.isAgg130
  z66 := Tryd.sizeOf130
  v66 := Tryd.zeroValue130
  t70 := Tryd.underlying134
  a70 := Tryd.isAgg134
  z70 := Tryd.sizeOf134
  v70 := Tryd.zeroValue134
  t76 := Tryd.underlying155
  a76 := Tryd.isAgg155
  z76 := Tryd.sizeOf155
  v76 := Tryd.zeroValue155
  t77 := Tryd.underlying156
  a77 := Tryd.isAgg156
  z77 := Tryd.sizeOf156
  v77 := Tryd.zeroValue156 }
end Go.Proofs
namespace Go.Proofs.YtmloidgeolgpdaaDoor
open Go.RowKit Go.Maps Go.Sort Go.Lib
set_option linter.unusedSimpArgs false
set_option linter.unusedVariables false

/-- Which of two codes comes first. -/
def ltC (a b : Cd) : Bool := decide (cdP a b < 0)
theorem or4_lt (a b c d a' b' d' : Int) (ha : (a < 0 ↔ a' < 0) ∧ (a = 0 ↔ a' = 0)) (hb : (b < 0 ↔ b' < 0) ∧ (b = 0 ↔ b' = 0)) (hd : (d < 0 ↔ d' < 0) ∧ (d = 0 ↔ d' = 0)) : decide (or4 a b c d < 0) = decide (or4 a' b' c d' < 0) := by
  unfold or4 firstOf firstOf firstOf firstOf firstOf
  by_cases h1 : a = 0
  · rw [if_pos h1, if_pos (ha.2.1 h1)]
    by_cases h2 : b = 0
    · rw [if_pos h2, if_pos (hb.2.1 h2)]
      by_cases h3 : c = 0
      · rw [if_pos h3, if_pos h3]
        by_cases h4 : d = 0
        · rw [if_pos h4, if_pos (hd.2.1 h4)]
        · rw [if_neg h4, if_neg (fun k => h4 (hd.2.2 k))]; exact decide_eq_decide.2 hd.1
      · rw [if_neg h3, if_neg h3]
    · rw [if_neg h2, if_neg (fun k => h2 (hb.2.2 k))]; exact decide_eq_decide.2 hb.1
  · rw [if_neg h1, if_neg (fun k => h1 (ha.2.2 k))]; exact decide_eq_decide.2 ha.1
theorem cmpI (a b : Int) : (Lib.compareInt a b < 0 ↔ a - b < 0) ∧ (Lib.compareInt a b = 0 ↔ a - b = 0) := by
  unfold Lib.compareInt
  split
  · omega
  · split <;> omega
theorem cdR_lt (a b : Cd) : decide (cdR a b < 0) = ltC a b := (or4_lt _ _ _ _ _ _ _ (cmpI _ _) (cmpI _ _) (cmpI _ _)).symm

theorem cbs_lt (a b : ByteArray) : (cbs a b < 0 ↔ Op.bytesLess a.data.toList b.data.toList = true) := by
  unfold cbs
  split
  · simpa
  · split <;> simp_all
theorem cbs_eq (a b : ByteArray) : (cbs a b = 0 ↔ a = b) := by
  unfold cbs
  constructor
  · intro h
    split at h
    · cases h
    · split at h
      · cases h
      · exact WideShapes.bytes_inj (bs_total _ _ (by simpa using ‹¬ Op.bytesLess a.data.toList b.data.toList = true›) (by simpa using ‹¬ Op.bytesLess b.data.toList a.data.toList = true›))
  · rintro rfl
    rw [bs_irrefl]; rfl
theorem cmpJ (a b : Int) : (Lib.compareInt a b < 0 ↔ a < b) ∧ (Lib.compareInt a b = 0 ↔ a = b) := by
  have := cmpI a b
  omega
/-- In words. -/
def LtC (a b : Cd) : Prop := a.y < b.y ∨ (a.y = b.y ∧ (a.x < b.x ∨ (a.x = b.x ∧ (Op.bytesLess a.t.data.toList b.t.data.toList = true ∨ (a.t = b.t ∧ a.k < b.k)))))
theorem ltC_iff (a b : Cd) : ltC a b = true ↔ LtC a b := by
  unfold ltC LtC cdP
  rw [decide_eq_true_eq]
  unfold or4 firstOf firstOf firstOf firstOf firstOf
  have h1 := cmpJ a.y b.y
  have h2 := cmpJ a.x b.x
  have h3 := cbs_lt a.t b.t
  have h3' := cbs_eq a.t b.t
  have h4 := cmpJ a.k b.k
  have h5 : Op.bytesLess a.t.data.toList b.t.data.toList = true → a.t ≠ b.t := fun h e => by rw [e, bs_irrefl] at h; cases h
  by_cases e1 : a.y = b.y
  · rw [if_pos (h1.2.2 e1)]
    by_cases e2 : a.x = b.x
    · rw [if_pos (h2.2.2 e2)]
      by_cases e3 : a.t = b.t
      · rw [if_pos (h3'.2 e3)]
        have : ¬ Op.bytesLess a.t.data.toList b.t.data.toList = true := fun h => h5 h e3
        by_cases e4 : a.k = b.k
        · rw [if_pos (h4.2.2 e4)]; simp [e1, e2, e3, e4, bs_irrefl]
        · rw [if_neg (fun k => e4 (h4.2.1 k)), h4.1]; simp [e1, e2, e3, bs_irrefl]
      · rw [if_neg (fun k => e3 (h3'.1 k)), h3]; simp [e1, e2, e3]
    · rw [if_neg (fun k => e2 (h2.2.1 k)), h2.1]; simp [e1, e2]
  · rw [if_neg (fun k => e1 (h1.2.1 k)), h1.1]; simp [e1]

theorem LtC.trans {a b c : Cd} (h : LtC a b) (k : LtC b c) : LtC a c := by
  unfold LtC at *
  rcases h with h | ⟨h, h' | ⟨h', h'' | ⟨h'', h3⟩⟩⟩ <;> rcases k with k | ⟨k, k' | ⟨k', k'' | ⟨k'', k3⟩⟩⟩
  all_goals first
    | (left; omega)
    | (right; refine ⟨by omega, ?_⟩; first
        | (left; omega)
        | (right; refine ⟨by omega, ?_⟩; first
            | exact .inl (bs_trans _ _ _ ‹_› ‹_›)
            | (left; first | (rw [h'']; exact k'') | (rw [← k'']; exact h''))
            | (right; exact ⟨h''.trans k'', by omega⟩)))
theorem LtC.irrefl (a : Cd) : ¬ LtC a a := by
  unfold LtC
  rintro (h | ⟨_, h | ⟨_, h | ⟨_, h⟩⟩⟩)
  · omega
  · omega
  · rw [bs_irrefl] at h; cases h
  · omega
theorem LtC.total {a b : Cd} (h : ¬ LtC a b) (k : ¬ LtC b a) : a.y = b.y ∧ a.x = b.x ∧ a.t = b.t ∧ a.k = b.k := by
  unfold LtC at h k
  have e1 : a.y = b.y := by
    have h1 : ¬ a.y < b.y := fun x => h (.inl x)
    have h2 : ¬ b.y < a.y := fun x => k (.inl x)
    omega
  have e2 : a.x = b.x := by
    have h1 : ¬ a.x < b.x := fun x => h (.inr ⟨e1, .inl x⟩)
    have h2 : ¬ b.x < a.x := fun x => k (.inr ⟨e1.symm, .inl x⟩)
    omega
  have e3 : a.t = b.t := by
    have h1 : ¬ Op.bytesLess a.t.data.toList b.t.data.toList = true := fun x => h (.inr ⟨e1, .inr ⟨e2, .inl x⟩⟩)
    have h2 : ¬ Op.bytesLess b.t.data.toList a.t.data.toList = true := fun x => k (.inr ⟨e1.symm, .inr ⟨e2.symm, .inl x⟩⟩)
    exact WideShapes.bytes_inj (bs_total _ _ (by simpa using h1) (by simpa using h2))
  have e4 : a.k = b.k := by
    have h1 : ¬ a.k < b.k := fun x => h (.inr ⟨e1, .inr ⟨e2, .inr ⟨e3, x⟩⟩⟩)
    have h2 : ¬ b.k < a.k := fun x => k (.inr ⟨e1.symm, .inr ⟨e2.symm, .inr ⟨e3.symm, x⟩⟩⟩)
    omega
  exact ⟨e1, e2, e3, e4⟩

/-- Places. -/
def finC (m : Nat) : List (Fin (m + 1)) := List.ofFn fun i : Fin (m + 1) => i
theorem finC_len (m : Nat) : (finC m).length = m + 1 := by simp [finC]
def cfP (T : List Cd) (m : Nat) (i j : Fin (m + 1)) : Int := cdP (T.getD i.1 default) (T.getD j.1 default)
def cfR (T : List Cd) (m : Nat) (i j : Fin (m + 1)) : Int := cdR (T.getD i.1 default) (T.getD j.1 default)
theorem cfP_lt (T : List Cd) (m : Nat) (i j : Fin (m + 1)) : ltOf (cfP T m) i j = ltC (T.getD i.1 default) (T.getD j.1 default) := rfl
theorem cfR_lt (T : List Cd) (m : Nat) : ltOf (cfR T m) = ltOf (cfP T m) := by funext i j; exact cdR_lt _ _
theorem cfP_swo (T : List Cd) (m : Nat) : SWO (ltOf (cfP T m)) where
  irrefl x := by rw [cfP_lt]; cases h : ltC (T.getD x.1 default) (T.getD x.1 default); rfl; exact absurd ((ltC_iff _ _).1 h) (LtC.irrefl _)
  trans x y z h1 h2 := by rw [cfP_lt, ltC_iff] at *; exact h1.trans h2
  ntrans x y z h1 h2 := by
    rw [cfP_lt] at *
    apply Classical.byContradiction
    intro h
    have h : LtC (T.getD x.1 default) (T.getD z.1 default) := (ltC_iff _ _).1 (by simpa using h)
    have h1 : ¬ LtC (T.getD x.1 default) (T.getD y.1 default) := fun k => by rw [(ltC_iff _ _).2 k] at h1; cases h1
    have h2 : ¬ LtC (T.getD y.1 default) (T.getD z.1 default) := fun k => by rw [(ltC_iff _ _).2 k] at h2; cases h2
    by_cases e : LtC (T.getD y.1 default) (T.getD x.1 default)
    · exact h2 (e.trans h)
    · obtain ⟨e1, e2, e3, e4⟩ := LtC.total h1 e
      apply h2
      unfold LtC at h ⊢
      rw [e1, e2, e3, e4] at h
      exact h
def ordC (T : List Cd) (m : Nat) : List (Fin (m + 1)) := (finC m).mergeSort fun x y => !(ltOf (cfP T m)) y x
theorem ordC_len (T : List Cd) (m : Nat) : (ordC T m).length = m + 1 := by rw [ordC, List.length_mergeSort, finC_len]
def sortedC (T : List Cd) (m i : Nat) : Cd := T.getD ((ordC T m).toArray[i]!).1 default
/-- A row in order. -/
def SortedRow (w : World) (T : List Cd) (v : Value) : Prop := (T = [] ∧ v = .slice none 0 0) ∨ ∃ m g c, T.length = m + 1 ∧ v = .slice (some ⟨g, 0, none⟩) T.length c ∧ CodesAt w g 0 T.length (sortedC T m)

def encC (T : List Cd) (m : Nat) (i : Fin (m + 1)) : List Value := cdV (T.getD i.1 default)

theorem cdRow_holds {w : World} {N g c m : Nat} {T : List Cd} (hT : T.length = m + 1) (h : CdRow w N T (.slice (some ⟨g, 0, none⟩) T.length c)) :
    HoldsK (encC T m) 6 w g 0 (finC m).toArray ∧ g < w.heap.size ∧ N ≤ g := by
  obtain ⟨cur, hb⟩ := h.block
  refine ⟨fun j hj => ?_, (Array.getElem?_eq_some_iff.1 hb).1, (h.lt g rfl).1⟩
  have hj' : j < (m + 1) * 6 := by simpa [finC_len] using hj
  refine ⟨?_, by simp [World.frozen?, hb]⟩
  rw [get_flatK _ _ _ _ (by simpa [finC_len] using hj')]
  have hk : j / 6 < m + 1 := by omega
  have hi : (((finC m).toArray[j / 6]!).1 : Nat) = j / 6 := by
    have hl : j / 6 < (finC m).length := by rw [finC_len]; exact hk
    have h5 : (finC m)[j / 6] = ⟨j / 6, hk⟩ := by simp only [finC, List.getElem_ofFn]
    simp [hl, h5]
  have e := (World.ownsRow.cellAt h (j / 6 * 6 + j % 6) (by rw [hT]; omega)).trans (flatC_get T (j / 6) (j % 6) (by rw [hT]; omega) (by omega))
  rw [show j / 6 * 6 + j % 6 = j by omega] at e
  rw [Nat.zero_add, e]
  unfold encC
  rw [hi]
  have hlen : j % 6 < (cdV (T.getD (j / 6) default)).length := by simp [cdV]; omega
  rw [List.getElem?_eq_getElem hlen]
  simp only [List.getElem!_eq_getElem?_getD, List.getElem?_eq_getElem hlen, Option.getD_some]
  rfl

theorem sortC_world {blk n m : Nat} {T : List Cd} {d s : Array (Fin (m + 1))} {w : World} (os : Array Obj) (hH : HoldsK (encC T m) 6 w blk 0 d) (hblk : blk < w.heap.size) (hl : s.size = d.size) :
    CodesAt (sortWorldK (encC T m) 6 w blk 0 n s os) blk 0 d.size (fun i => T.getD (s[i]!).1 default) ∧ w.grownBy (sortWorldK (encC T m) 6 w blk 0 n s os) (some blk) := by
  have hsz : (putRowK (encC T m) 6 (Sort.ahead w n) blk 0 s).heap.size = w.heap.size := by simp [putRowK, Go.Sort.putRow, Go.Sort.mapBlock, Go.Sort.ahead]
  have hK : HoldsK (encC T m) 6 (sortWorldK (encC T m) 6 w blk 0 n s os) blk 0 s := by
    unfold sortWorldK
    exact holdsK_grow _ _ _ _ _ _ _ (by rw [hsz]; exact hblk) (holdsK_putRowK _ _ _ _ _ d s (holdsK_ahead _ _ _ _ _ _ _ hH) hl)
  refine ⟨fun i hi => ?_, rfl, rfl, rfl, ?_, fun k hk hne => ?_⟩
  · have c0 := (hK.cell (i := i) (c := 0) (by rw [hl]; exact hi) (by decide)).1
    have c1 := (hK.cell (i := i) (c := 1) (by rw [hl]; exact hi) (by decide)).1
    have c2 := (hK.cell (i := i) (c := 2) (by rw [hl]; exact hi) (by decide)).1
    have c3 := (hK.cell (i := i) (c := 3) (by rw [hl]; exact hi) (by decide)).1
    have c4 := (hK.cell (i := i) (c := 4) (by rw [hl]; exact hi) (by decide)).1
    have c5 := (hK.cell (i := i) (c := 5) (by rw [hl]; exact hi) (by decide)).1
    exact ⟨c0, c1, c2, c3, c4, c5⟩
  · simp only [sortWorldK, Go.Sort.grow, Array.size_append]; omega
  · unfold sortWorldK
    rw [Go.Sort.heap_grow_old _ _ (by rw [hsz]; omega)]
    simp only [putRowK, Go.Sort.putRow, Go.Sort.mapBlock, Go.Sort.ahead, Array.getElem?_modify]
    rw [if_neg (fun e => hne (by rw [e]))]

theorem encC_one (T : List Cd) (m : Nat) (x : Fin (m + 1)) : ∀ v ∈ encC T m x, v.oneCell' = true := fun v hv => by
  simp [encC, cdV] at hv
  rcases hv with rfl | rfl | rfl | rfl | rfl | rfl <;> rfl
theorem cfP_tot (T : List Cd) (m n : Nat) (hT : T.length = m + 1) (hg : GoodC n T) : ∀ x y, ltOf (cfP T m) x y = false → ltOf (cfP T m) y x = false → x = y := fun x y h1 h2 => by
  have a1 : ¬ LtC (T.getD x.1 default) (T.getD y.1 default) := fun k => by rw [cfP_lt, (ltC_iff _ _).2 k] at h1; cases h1
  have a2 : ¬ LtC (T.getD y.1 default) (T.getD x.1 default) := fun k => by rw [cfP_lt, (ltC_iff _ _).2 k] at h2; cases h2
  obtain ⟨_, _, e3, e4⟩ := LtC.total a1 a2
  exact Fin.ext (hg.dif x.1 y.1 (by rw [hT]; exact x.2) (by rw [hT]; exact y.2) e4 e3)

/-- slices.SortFunc, with the program's order. -/
theorem sortP_any (m n g c N : Nat) (T : List Cd) (w : World) (hT : T.length = m + 1) (hn : n ≤ 10000) (hg : GoodC n T) (h : CdRow w N T (.slice (some ⟨g, 0, none⟩) T.length c)) (hb : N ≤ w.heap.size) :
    Calls Tryd.prog 33 #[.slice (some ⟨g, 0, none⟩) T.length c, .func (.func 34) #[] #[]] w fun e w' =>
      e = .returned (.tuple #[]) ∧ CodesAt w' g 0 T.length (sortedC T m) ∧ Below N w w' := by
  obtain ⟨o1, o2, o3⟩ := cdRow_holds hT h
  have eg : ∀ args w, (callFunc 34 args).run Tryd.prog w = .ok (.enter 34 args) w := enters_of Tryd.func34 (by kernel_rfl) rfl
  have hcmp : CmpLays Tryd.prog 34 #[] (encC T m) 6 (cfP T m) g 0 (finC m).toArray.size w := fun _ _ _ _ x y => voteP_any _ _ _
  have hcon := AnyQ.slices_SortFunc_total Tryd.sortC 6 Tryd.isAgg40 Tryd.sizeOf40 (encC T m) (fun _ => rfl) (encC_one T m) (cfP T m) (cfP_swo T m) 34 #[] g 0 c (finC m).toArray w eg hcmp o1 o2 (by have := hg.len; simp [finC_len]; omega) (cfP_tot T m n hT hg)
  rw [show (finC m).toArray.size = T.length by simp [finC_len, hT]] at hcon
  refine Calls.mono hcon ?_
  rintro e w' ⟨rfl, n, os, rfl⟩
  obtain ⟨s1, s2⟩ := sortC_world (n := n) os o1 o2 (s := (ordC T m).toArray) (by simp [ordC_len, finC_len])
  rw [show (finC m).toArray.size = T.length by simp [finC_len, hT]] at s1
  exact ⟨rfl, s1, (Below.refl N w).grown s2 hb (fun j hj => by cases hj; exact o3)⟩
/-- .. with the reference's. -/
theorem sortR_any (m n g c N : Nat) (T : List Cd) (w : World) (hT : T.length = m + 1) (hn : n ≤ 10000) (hg : GoodC n T) (h : CdRow w N T (.slice (some ⟨g, 0, none⟩) T.length c)) (hb : N ≤ w.heap.size) :
    Calls Tryd.prog 33 #[.slice (some ⟨g, 0, none⟩) T.length c, .func (.func 41) #[] #[]] w fun e w' =>
      e = .returned (.tuple #[]) ∧ CodesAt w' g 0 T.length (sortedC T m) ∧ Below N w w' := by
  obtain ⟨o1, o2, o3⟩ := cdRow_holds hT h
  have fit : ∀ i : Fin (m + 1), 0 ≤ (T.getD i.1 default).y ∧ (T.getD i.1 default).y ≤ 100000 ∧ 0 ≤ (T.getD i.1 default).x ∧ (T.getD i.1 default).x ≤ 100000 ∧ 0 ≤ (T.getD i.1 default).k ∧ (T.getD i.1 default).k ≤ 100000 := fun i => by
    obtain ⟨f1, f2, f3, _⟩ := hg.fit i.1 (by rw [hT]; exact i.2)
    omega
  have eg : ∀ args w, (callFunc 41 args).run Tryd.prog w = .ok (.enter 41 args) w := enters_of Tryd.func41 (by kernel_rfl) rfl
  have hcmp : CmpLays Tryd.prog 41 #[] (encC T m) 6 (cfR T m) g 0 (finC m).toArray.size w := fun _ _ _ _ x y => voteR_any _ _ _ (fit x) (fit y)
  have hcon := AnyQ.slices_SortFunc_total Tryd.sortC 6 Tryd.isAgg40 Tryd.sizeOf40 (encC T m) (fun _ => rfl) (encC_one T m) (cfR T m) (by rw [cfR_lt]; exact cfP_swo T m) 41 #[] g 0 c (finC m).toArray w eg hcmp o1 o2 (by have := hg.len; simp [finC_len]; omega) (by rw [cfR_lt]; exact cfP_tot T m n hT hg)
  rw [show (finC m).toArray.size = T.length by simp [finC_len, hT], cfR_lt] at hcon
  refine Calls.mono hcon ?_
  rintro e w' ⟨rfl, n, os, rfl⟩
  obtain ⟨s1, s2⟩ := sortC_world (n := n) os o1 o2 (s := (ordC T m).toArray) (by simp [ordC_len, finC_len])
  rw [show (finC m).toArray.size = T.length by simp [finC_len, hT]] at s1
  exact ⟨rfl, s1, (Below.refl N w).grown s2 hb (fun j hj => by cases hj; exact o3)⟩

end Go.Proofs.YtmloidgeolgpdaaDoor
namespace Go.Proofs.YtmloidgeolgpdaaDoor
open Go.RowKit Go.Maps
set_option linter.unusedSimpArgs false
set_option linter.unusedVariables false

/-- Vote on the way: k codes are in. -/
structure VoR (w : World) (B : Nat → Cd) (mb k : Nat) (v : Value) (wr : World) : Prop where
  m : ∃ q, q ≤ k ∧ PlMap (allC B k) mb q wr
  r : CdRow wr (mb + 1) (allC B k) v
  b : Below w.heap.size w wr
  n : mb + 1 ≤ wr.heap.size
  z : w.heap.size ≤ mb
theorem below_grownN {w w' : World} (hb : Below w.heap.size w w') : w.grownBy w' none := ⟨hb.os, hb.tape, hb.output, hb.size, fun k hk _ => hb.block k hk⟩
theorem VoR.later {w : World} {B : Nat → Cd} {mb k : Nat} {v : Value} {wr w' : World} (h : VoR w B mb k v wr) (hb : Below wr.heap.size wr w') : VoR w B mb k v w' := by
  obtain ⟨⟨q, hq, hm⟩, r, b, n, z⟩ := h
  exact ⟨⟨q, hq, plMap_kept hm (below_grownN hb) (by simp)⟩, r.later hb, b.trans (hb.mono b.size), Nat.le_trans n hb.size, z⟩
/-- One more that is there already. -/
theorem VoR.join {w : World} {B : Nat → Cd} {mb k g c : Nat} {wr w' : World} (h : VoR w B mb k (.slice (some ⟨g, 0, none⟩) (allC B k).length c) wr) (hb : Below wr.heap.size wr w') (hp : plc (allC B k) (B k).k (B k).t < (allC B k).length) :
    VoR w B mb (k + 1) (.slice (some ⟨g, 0, none⟩) (allC B k).length c) (set6 w' g (plc (allC B k) (B k).k (B k).t * 6) (joinC ((allC B k).getD (plc (allC B k) (B k).k (B k).t) default) (B k))) := by
  obtain ⟨⟨q, hq, hm⟩, r, b, n, z⟩ := h.later hb
  have e : allC B (k + 1) = (allC B k).set (plc (allC B k) (B k).k (B k).t) (joinC ((allC B k).getD (plc (allC B k) (B k).k (B k).t) default) (B k)) := by rw [allC, putC, if_pos hp]
  have hl := (r.lt g rfl)
  have G := set6_grown w' g (plc (allC B k) (B k).k (B k).t * 6) (joinC ((allC B k).getD (plc (allC B k) (B k).k (B k).t) default) (B k))
  refine ⟨⟨q, by omega, plMap_kept (plMap_join hm hp) G (by simp; omega)⟩, ?_, b.grown G b.size (fun j hj => by cases hj; omega), Nat.le_trans n G.size, z⟩
  have := r.set (plc (allC B k) (B k).k (B k).t) hp (joinC ((allC B k).getD (plc (allC B k) (B k).k (B k).t) default) (B k))
  rw [e]
  exact this

/-- One more that is new. -/
theorem VoR.put {w : World} {B : Nat → Cd} {mb k q : Nat} {v v' : Value} {wr w4 w5 : World} {o : Obj} (h : VoR w B mb k v wr) (hp : ¬ plc (allC B k) (B k).k (B k).t < (allC B k).length) (hq : q ≤ k) (hm : PlMap (putC (allC B k) (B k)) mb (q + 1) w4)
    (hg4 : wr.grownBy w4 (some mb)) (hown : w5.ownsRow (mb + 1) 40 6 v' ((allC B k).length + 1) (flatC (allC B k) ++ cdV (B k))) (hg : (w4.alloc o).grownBy w5 v.ownBlock) : VoR w B mb (k + 1) v' w5 := by
  have e : allC B (k + 1) = allC B k ++ [B k] := by rw [allC, putC, if_neg hp]
  have hrow : ∀ j, v.ownBlock = some j → mb + 1 ≤ j := fun j hj => (h.r.lt j hj).1
  have n0 : some mb ≠ v.ownBlock := fun e => by have := hrow _ e.symm; omega
  have G := World.grownBy_alloc w4 o none
  have n4 : mb + 1 ≤ w4.heap.size := Nat.le_trans h.n hg4.size
  refine ⟨⟨q + 1, by omega, plMap_kept (plMap_kept hm G (by simp)) hg n0⟩, ?_, ?_, ?_, h.z⟩
  · rw [e]; unfold CdRow; rw [List.length_append, List.length_singleton, ← flatC_snoc]; exact hown
  · exact ((h.b.grown hg4 h.b.size (fun j hj => by cases hj; exact h.z)).alloc (Nat.le_trans h.z (by omega)) o).grown hg (by have := h.z; simp; omega) (fun j hj => by have := hrow j hj; have := h.z; omega)
  · have := hg.size; simp at this; omega
theorem allC_pos (B : Nat → Cd) (n : Nat) : 0 < (allC B (n + 1)).length := by
  rw [allC, putC]
  split
  · rw [List.length_set]; omega
  · simp

set_option maxHeartbeats 2000000 in
set_option maxRecDepth 100000 in
theorem vote_loop (n g o c : Nat) (B : Nat → Cd) (w : World) (hn1 : 1 ≤ n) (hn : n ≤ 9223372036854775807) (hB : CodesAt w g o n B) (hZ : ∀ i, i < n → (B i).t.size ≤ 9223372036854775807) :
    Calls Tryd.prog 15 #[.slice (some ⟨g, o, none⟩) n c] w fun e w' => (voErr B n ≠ 0 ∧ e = .returned (.tuple #[.slice none 0 0, .int .i64 (voErr B n)]) ∧ Below w.heap.size w w') ∨ (voErr B n = 0 ∧ ∃ v, e = .returned (.tuple #[v, .int .i64 0]) ∧ SortedRow w' (allC B n) v ∧ Below w.heap.size w w') := by
  have hmm := @run_makeMap Tryd.prog
  obtain ⟨i0, hi, hz0, hz1, hz2⟩ := info_parts info_code
  have KC := Lib.hid (checkCodes_any n g o c B w hn hB)
  by_cases hE : voErr B n = 0
  · rw [hE] at KC
    have HE := Lib.hid hE
    have h0 : cdFirst B n = 0 := by
      unfold voErr at hE
      split at hE
      · assumption
      · exact hE
    have h5 : n ≤ 10000 := by
      unfold voErr at hE
      rw [if_pos h0] at hE
      split at hE
      · cases hE
      · omega
    have HO := Lib.hid (show ∀ k, k ≤ n → CNo B k from fun k hk i hi => ⟨(cdFirst_no h0 i (by omega)).1, (cdFirst_no h0 i (by omega)).2, hZ i (by omega)⟩)
    have HB := Lib.hid (fun wx (hx : Below w.heap.size w wx) => hB.later hx)
    clear hB hZ hE h0
    go_enter Tryd.func15, Tryd.ntmps15
    go_upto_region 1 with (fail)
    go_wp2_with fail
    refine KC.out.mono ?_
    rintro e w1 ⟨rfl, hb1⟩
    have HB1 := Lib.hid hb1
    clear hb1
    go_upto_region 6 with (fail)
    obtain ⟨w2, hw2⟩ : ∃ w2, w2 = w1.alloc (.map #[] 0) := ⟨_, rfl⟩
    obtain ⟨mb, hmb⟩ : ∃ mb, mb = w1.heap.size := ⟨_, rfl⟩
    have S0 := Lib.hid (show VoR w B mb 0 (.slice none 0 0) w2 from by
      rw [hw2, hmb]
      exact ⟨⟨0, Nat.le_refl _, plMap_new w1⟩, CdRow.nil _ _, below_alloc HB1.out _, by simp, HB1.out.size⟩)
    rw [← hw2, ← hmb]
    clear hw2 hmm hmb
    go_wp2_with fail
    go_loopw [5, 20] (fun v i wr => ∃ k : Nat, k ≤ n ∧ i = .int .i64 k ∧ Hid (VoR w B mb k v wr)) (fun _ i _ => n - (intOf i).toNat)
    case atStart => exact ⟨0, Nat.zero_le _, rfl, S0⟩
    case round =>
      obtain ⟨k, hk, rfl, HR⟩ := hrel
      clear S0
      obtain ⟨wo, rfl⟩ : ∃ wo : World, wo = wr := ⟨_, rfl⟩
      by_cases hlt : k < n
      · have j1 : (k : Int) < (n : Int) := by omega
        obtain ⟨c0, c1, c2, c3, c4, c5⟩ := HB.out wo HR.out.b k hlt
        obtain ⟨o1, o2, o3⟩ := HO.out n (Nat.le_refl _) k hlt
        have hgood := allC_good (HO.out k hk)
        obtain ⟨x, hx⟩ : ∃ x, x = B k := ⟨_, rfl⟩
        rw [← hx] at c0 c1 c2 c3 c4 c5 o1 o2 o3
        have HX := Lib.hid hx
        obtain ⟨kk, t, xx, y, wd, q⟩ := x
        simp only at c0 c1 c2 c3 c4 c5 o1 o3
        clear hx
        go_upto_region 10 with (fail)
        obtain ⟨w3, hw3⟩ : ∃ w3, w3 = (wo.alloc (.cells #[.int .i64 kk, .string t, .int .i64 xx, .int .i64 y, .int .i64 wd, .int .i64 q] 40)).alloc (.cells #[.int .i64 kk, .string t] 55) := ⟨_, rfl⟩
        have hb3 : Below wo.heap.size wo w3 := by rw [hw3]; exact below_alloc (new_below _ _) _
        have S3 := Lib.hid (HR.out.later hb3)
        have d0 : w3.cell? ⟨wo.heap.size, 0, none⟩ = some (.int .i64 kk) := by rw [hw3]; go_simp
        have d1 : w3.cell? ⟨wo.heap.size, 1, none⟩ = some (.string t) := by rw [hw3]; go_simp
        have d2 : w3.cell? ⟨wo.heap.size, 2, none⟩ = some (.int .i64 xx) := by rw [hw3]; go_simp
        have d3 : w3.cell? ⟨wo.heap.size, 3, none⟩ = some (.int .i64 y) := by rw [hw3]; go_simp
        have d4 : w3.cell? ⟨wo.heap.size, 4, none⟩ = some (.int .i64 wd) := by rw [hw3]; go_simp
        have d5 : w3.cell? ⟨wo.heap.size, 5, none⟩ = some (.int .i64 q) := by rw [hw3]; go_simp
        have v0 : w3.cell? ⟨wo.heap.size + 1, 0, none⟩ = some (.int .i64 kk) := by rw [hw3]; go_simp
        have v1 : w3.cell? ⟨wo.heap.size + 1, 1, none⟩ = some (.string t) := by rw [hw3]; go_simp
        obtain ⟨wb, hwb⟩ : ∃ wb, wb = wo.heap.size := ⟨_, rfl⟩
        have HWB := Lib.hid (show mb + 1 ≤ wb by rw [hwb]; exact HR.out.n)
        have HWC := Lib.hid (show wb + 2 ≤ w3.heap.size by rw [hw3, hwb]; simp)
        rw [← hw3, ← hwb]
        rw [← hwb] at d0 d1 d2 d3 d4 d5 v0 v1
        clear hw3 hwb hb3 HR c0 c1 c2 c3 c4 c5
        obtain ⟨qn, hqn, hmap⟩ := S3.out.m
        obtain ⟨cc, hcc, hlk⟩ := plMap_look hmap o1 o3
        by_cases hp : plc (allC B k) kk t < (allC B k).length
        · rw [decide_eq_true hp, hcc hp] at hlk
          obtain ⟨gr, cr, rfl, hgr1, hgr2, hgr3⟩ := S3.out.r.isSome (by omega)
          obtain ⟨r0, r1, r2, r3, r4, r5⟩ := S3.out.r.at _ hp
          obtain ⟨cur, hcur⟩ := S3.out.r.block
          have JX := Lib.hid (show ∀ wx, Below w3.heap.size w3 wx → VoR w B mb (k + 1) (.slice (some ⟨gr, 0, none⟩) (allC B k).length cr) (set6 wx gr (plc (allC B k) kk t * 6) (joinC ((allC B k).getD (plc (allC B k) kk t) default) ⟨kk, t, xx, y, wd, q⟩)) from fun wx hx => by
            have := S3.out.join hx (by rw [← HX.out]; exact hp)
            rw [← HX.out] at this
            exact this)
          have HJ := Lib.hid (fun wx => joined_any k ((allC B k).getD (plc (allC B k) kk t) default) ⟨kk, t, xx, y, wd, q⟩ wx (hgood.fit _ hp) o2 (by omega))
          have HCU := Lib.hid hcur
          have jp : ((plc (allC B k) kk t : Nat) : Int) < (((allC B k).length : Nat) : Int) := by omega
          clear S3 hmap hcc hgood o1 o2 o3 hcur HX
          generalize (allC B k).getD (plc (allC B k) kk t) default = A at *
          generalize plc (allC B k) kk t = p at *
          obtain ⟨nT, hnT⟩ : ∃ nT, nT = (allC B k).length := ⟨_, rfl⟩
          rw [← hnT] at jp ⊢
          rw [← hnT] at JX
          obtain ⟨J, hJ⟩ : ∃ J, J = joinC A ⟨kk, t, xx, y, wd, q⟩ := ⟨_, rfl⟩
          rw [← hJ] at JX HJ
          obtain ⟨jk, jt, jx, jy, jw, jc⟩ := J
          obtain ⟨ak, at1, ax, ay, aw, ac⟩ := A
          have HJ := Lib.hid (show ∀ wx, Calls Tryd.prog 32 #[.agg #[.int .i64 ak, .string at1, .int .i64 ax, .int .i64 ay, .int .i64 aw, .int .i64 ac], .agg #[.int .i64 kk, .string t, .int .i64 xx, .int .i64 y, .int .i64 wd, .int .i64 q]] wx fun e w' => e = .returned (.agg #[.int .i64 jk, .string jt, .int .i64 jx, .int .i64 jy, .int .i64 jw, .int .i64 jc]) ∧ Below wx.heap.size wx w' from HJ.out)
          simp only at r0 r1 r2 r3 r4 r5
          clear hJ hnT hp hgr1 hgr2 hgr3 hqn
          go_upto_region 12 with (fail)
          go_region_law ((first | (go_simp; go_at_call 32; ((with_reducible refine (HJ.out _).mono ?_); rintro e wj ⟨rfl, hbj⟩; have hbk := below_block hbj (show w3.drew.heap[gr]? = _ from HCU.out); have f0 := frozen_of_row wj gr (p * 6) _ 40 hbk; have f1 := frozen_of_row wj gr (p * 6 + 1) _ 40 hbk; have f2 := frozen_of_row wj gr (p * 6 + 2) _ 40 hbk; have f3 := frozen_of_row wj gr (p * 6 + 3) _ 40 hbk; have f4 := frozen_of_row wj gr (p * 6 + 4) _ 40 hbk; have f5 := frozen_of_row wj gr (p * 6 + 5) _ 40 hbk; have s0 := cell_later hbj (show w3.drew.cell? ⟨gr, p * 6, none⟩ = _ from r0); have s1 := cell_later hbj (show w3.drew.cell? ⟨gr, p * 6 + 1, none⟩ = _ from r1); have s2 := cell_later hbj (show w3.drew.cell? ⟨gr, p * 6 + 2, none⟩ = _ from r2); have s3 := cell_later hbj (show w3.drew.cell? ⟨gr, p * 6 + 3, none⟩ = _ from r3); have s4 := cell_later hbj (show w3.drew.cell? ⟨gr, p * 6 + 4, none⟩ = _ from r4); have s5 := cell_later hbj (show w3.drew.cell? ⟨gr, p * 6 + 5, none⟩ = _ from r5)))))
          all_goals
            have RR := Lib.hid (JX.out wj (show Below w3.heap.size w3 wj from below_step (show Below w3.heap.size w3 w3.drew from (Below.refl _ _).drew) hbj))
            clear f0 f1 f2 f3 f4 f5 s0 s1 s2 s3 s4 s5 hbk hbj hlk JX HJ r0 r1 r2 r3 r4 r5 d0 d1 d2 d3 d4 d5 v0 v1
            go_wp2_with fail
            go_roundw
            case rel => exact ⟨k + 1, by omega, by go_num, RR⟩
            case measure => simp [intOf]; omega
        · rw [decide_eq_false hp] at hlk
          obtain ⟨va, vc, rfl⟩ := S3.out.r.shape
          have hm' : PlMap (allC B k) mb qn w3 := hmap
          have hTl : (allC B k).length ≤ 10000 := by have := hgood.len; omega
          obtain ⟨w4, hst4, S4, G4⟩ := plMap_store (c := ⟨kk, t, xx, y, wd, q⟩) hmap (by unfold maxLen; omega) o1 o3 (by omega) hp
          simp only at hst4
          have PP := Lib.hid (show ∀ (v' : Value) (w5 : World) (o : Obj), w5.ownsRow (mb + 1) 40 6 v' ((allC B k).length + 1) (flatC (allC B k) ++ cdV ⟨kk, t, xx, y, wd, q⟩) → (w4.alloc o).grownBy w5 (Value.slice va (allC B k).length vc).ownBlock → VoR w B mb (k + 1) v' w5 from fun v' w5 o ho hg => by
            rw [HX.out] at ho S4
            exact S3.out.put (by rw [← HX.out]; exact hp) hqn S4 G4 ho hg)
          have hvb : (Value.slice va (allC B k).length vc).ownBlock ≠ some mb := fun e => by have := (S3.out.r.lt _ e).1; omega
          have R4 := Lib.hid (show w4.ownsRow (mb + 1) 40 6 (.slice va (allC B k).length vc) (allC B k).length (flatC (allC B k)) from World.ownsRow.kept S3.out.r G4 (.inr hvb))
          have N4 := Lib.hid (show mb + 1 ≤ w4.heap.size from Nat.le_trans S3.out.n G4.size)
          have e4 : w4.heap[wb]? = w3.heap[wb]? := G4.block wb (by have := HWC.out; omega) (by have := HWB.out; simp; omega)
          have d0' : w4.cell? ⟨wb, 0, none⟩ = some (.int .i64 kk) := (World.cell?_of_block e4).trans d0
          have d1' : w4.cell? ⟨wb, 1, none⟩ = some (.string t) := (World.cell?_of_block e4).trans d1
          have d2' : w4.cell? ⟨wb, 2, none⟩ = some (.int .i64 xx) := (World.cell?_of_block e4).trans d2
          have d3' : w4.cell? ⟨wb, 3, none⟩ = some (.int .i64 y) := (World.cell?_of_block e4).trans d3
          have d4' : w4.cell? ⟨wb, 4, none⟩ = some (.int .i64 wd) := (World.cell?_of_block e4).trans d4
          have d5' : w4.cell? ⟨wb, 5, none⟩ = some (.int .i64 q) := (World.cell?_of_block e4).trans d5
          have TL := Lib.hid hTl
          clear S3 hmap hm' hcc hgood o1 o2 o3 HX S4 G4 hvb e4 hTl hp hqn
          generalize plc (allC B k) kk t = p at *
          go_wp2_with (at_builtin; refine wpList_append_own _ rfl _ _ 34 rfl (mb + 1) 40 i0 (.agg #[.int .i64 0, .string ⟨#[]⟩, .int .i64 0, .int .i64 0, .int .i64 0, .int .i64 0]) 6 56 Tryd.underlying34 hi hz0 hz1 hz2 rfl (by decide) _ _ _ rfl (World.ownsRow.alloc R4.out _) ⟨w4.heap.size, 0, none⟩ 1 1 (cdV ⟨kk, t, xx, y, wd, q⟩) rfl rfl (code_new _ _ _) ?q2 ?q3 ?q4 ?q5 ?_)
          case q2 => intro u hu; simp [cdV] at hu; rcases hu with rfl | rfl | rfl | rfl | rfl | rfl <;> rfl
          case q3 => have := TL.out; unfold maxLen; simp <;> omega
          case q4 => have := TL.out; simp <;> omega
          case q5 => have := N4.out; simp; omega
          intro v' w5 hown hgr _
          have RR := Lib.hid (PP.out v' w5 _ hown hgr)
          clear hown hgr PP hlk hst4 d0' d1' d2' d3' d4' d5' d0 d1 d2 d3 d4 d5 v0 v1
          go_wp2_with fail
          go_roundw
          case rel => exact ⟨k + 1, by omega, by go_num, RR⟩
          case measure => simp [intOf]; omega
      · obtain rfl : k = n := by omega
        obtain ⟨m, hm⟩ : ∃ m, (allC B k).length = m + 1 := by
          obtain ⟨k', rfl⟩ : ∃ k', k = k' + 1 := ⟨k - 1, by omega⟩
          exact ⟨(allC B (k' + 1)).length - 1, by have := allC_pos B k'; omega⟩
        obtain ⟨gr, cr, rfl, hgr1, hgr2, hgr3⟩ := HR.out.r.isSome (by omega)
        have hgood := allC_good (HO.out k hk)
        have HS := Lib.hid (sortP_any m k gr cr (mb + 1) (allC B k) wo hm h5 hgood HR.out.r HR.out.n)
        have HM := Lib.hid hm
        have HRB := Lib.hid (And.intro HR.out.b HR.out.z)
        clear hgr1 hgr2 hgr3 hgood HR hm
        go_wp2_with fail
        refine HS.out.mono ?_
        rintro e w6 ⟨rfl, r1, r2⟩
        have R1 := Lib.hid r1
        have R2 := Lib.hid (HRB.out.1.trans (r2.mono (by have := HRB.out.2; omega)))
        clear r1 r2
        go_wp2_with fail
        go_ret2
        exact .inr ⟨HE.out, _, rfl, .inr ⟨m, gr, cr, HM.out, rfl, R1.out⟩, R2.out⟩
  · have HE := Lib.hid hE
    generalize voErr B n = er at *
    have he0 : (er != (0 : Int)) = true := by simpa using hE
    clear hE hB hZ hmm
    go_enter Tryd.func15, Tryd.ntmps15
    go_wp2_with fail
    refine KC.out.mono ?_
    rintro e w1 ⟨rfl, hb1⟩
    have HB1 := Lib.hid hb1
    clear hb1
    go_wp2_with fail
    go_ret2
    exact .inl ⟨HE.out, rfl, HB1.out⟩

end Go.Proofs.YtmloidgeolgpdaaDoor
namespace Go.Proofs.YtmloidgeolgpdaaDoor
open Go.RowKit
set_option linter.unusedSimpArgs false
set_option linter.unusedVariables false

set_option maxHeartbeats 1000000 in
set_option maxRecDepth 100000 in
theorem voteError_any (n g o c : Nat) (B : Nat → Cd) (w : World) (hn : n ≤ 9223372036854775807) (hB : CodesAt w g o n B) :
    Calls Tryd.prog 16 #[.slice (some ⟨g, o, none⟩) n c] w fun e w' => e = .returned (.int .i64 (voErr B n)) ∧ Below w.heap.size w w' := by
  have HB := Lib.hid (fun wx (hx : Below w.heap.size w wx) => hB.later hx)
  clear hB
  go_enter Tryd.func16, Tryd.ntmps16
  go_wp2_with fail
  go_loopw [7] (fun i wr => ∃ k : Nat, k ≤ n ∧ i = .int .i64 k ∧ Hid (Below w.heap.size w wr ∧ cdFirst B k = 0)) (fun i _ => n - (intOf i).toNat)
  case atStart => exact ⟨0, Nat.zero_le _, rfl, Lib.hid ⟨Below.refl _ _, rfl⟩⟩
  case round =>
    obtain ⟨k, hk, rfl, HR⟩ := hrel
    obtain ⟨wo, rfl⟩ : ∃ wo : World, wo = wr := ⟨_, rfl⟩
    by_cases hlt : k < n
    · have j1 : (k : Int) < (n : Int) := by omega
      obtain ⟨c0, c1, c2, c3, c4, c5⟩ := HB.out wo HR.out.1 k hlt
      have HV := Lib.hid (fun h => voErr_bad HR.out.2 h hlt)
      have HF := Lib.hid (show cdFirst B (k + 1) = cdErr (B k) by rw [cdFirst, if_pos HR.out.2])
      generalize B k = b at *
      obtain ⟨kk, t, x, y, wd, q⟩ := b
      simp only at c0 c1 c2 c3 c4 c5
      by_cases hkk : kk = 1 ∨ kk = 2
      · obtain ⟨b1, b2, hb1, hb2, hb3⟩ : ∃ b1 b2, (kk != (1 : Int)) = b1 ∧ (kk != (2 : Int)) = b2 ∧ (b1 = false ∨ (b1 = true ∧ b2 = false)) := by
          rcases hkk with rfl | rfl
          · exact ⟨false, true, rfl, rfl, .inl rfl⟩
          · exact ⟨true, false, rfl, rfl, .inr ⟨rfl, rfl⟩⟩
        have HK := Lib.hid hkk
        clear hkk
        by_cases hx : 0 ≤ x ∧ x ≤ 4000
        · have HX := Lib.hid hx
          by_cases hy : 0 ≤ y ∧ y ≤ 4000
          · have HY := Lib.hid hy
            by_cases hw : 0 ≤ wd ∧ wd ≤ 4000
            · have HW := Lib.hid hw
              by_cases hq : 1 ≤ q ∧ q ≤ 1000000
              · have HQ := Lib.hid hq
                have HE := Lib.hid (cdErr_ok (b := ⟨kk, t, x, y, wd, q⟩) HK.out ⟨hx, hy, hw, hq⟩)
                clear hx hy hw hq
                rcases hb3 with rfl | ⟨rfl, rfl⟩
                all_goals
                  go_wp2_with (first | (go_at_call 38; (with_reducible refine (in_yes x 0 4000 _ HX.out).mono ?_); rintro e w' ⟨rfl, rfl⟩) | (go_at_call 38; (with_reducible refine (in_yes y 0 4000 _ HY.out).mono ?_); rintro e w' ⟨rfl, rfl⟩) | (go_at_call 38; (with_reducible refine (in_yes wd 0 4000 _ HW.out).mono ?_); rintro e w' ⟨rfl, rfl⟩) | (go_at_call 38; (with_reducible refine (in_yes q 1 1000000 _ HQ.out).mono ?_); rintro e w' ⟨rfl, rfl⟩))
                  go_roundw
                  case rel => exact ⟨k + 1, by omega, by go_num, Lib.hid ⟨below_alloc HR.out.1 _, by rw [HF.out, HE.out]⟩⟩
                  case measure => simp [intOf]; omega
              · have HQ := Lib.hid hq
                have HE := Lib.hid (cdErr_rng (b := ⟨kk, t, x, y, wd, q⟩) HK.out (fun h => hq h.2.2.2))
                clear hx hy hw hq
                rcases hb3 with rfl | ⟨rfl, rfl⟩
                all_goals
                  go_wp2_with (first | (go_at_call 38; (with_reducible refine (in_yes x 0 4000 _ HX.out).mono ?_); rintro e w' ⟨rfl, rfl⟩) | (go_at_call 38; (with_reducible refine (in_yes y 0 4000 _ HY.out).mono ?_); rintro e w' ⟨rfl, rfl⟩) | (go_at_call 38; (with_reducible refine (in_yes wd 0 4000 _ HW.out).mono ?_); rintro e w' ⟨rfl, rfl⟩) | (go_at_call 38; (with_reducible refine (in_no q 1 1000000 _ HQ.out).mono ?_); rintro e w' ⟨rfl, rfl⟩))
                  go_ret
                  exact ⟨ret_int (by rw [HV.out (by rw [HE.out]; decide), HE.out]), below_alloc HR.out.1 _⟩
            · have HW := Lib.hid hw
              have HE := Lib.hid (cdErr_rng (b := ⟨kk, t, x, y, wd, q⟩) HK.out (fun h => hw h.2.2.1))
              clear hx hy hw
              rcases hb3 with rfl | ⟨rfl, rfl⟩
              all_goals
                go_wp2_with (first | (go_at_call 38; (with_reducible refine (in_yes x 0 4000 _ HX.out).mono ?_); rintro e w' ⟨rfl, rfl⟩) | (go_at_call 38; (with_reducible refine (in_yes y 0 4000 _ HY.out).mono ?_); rintro e w' ⟨rfl, rfl⟩) | (go_at_call 38; (with_reducible refine (in_no wd 0 4000 _ HW.out).mono ?_); rintro e w' ⟨rfl, rfl⟩))
                go_ret
                exact ⟨ret_int (by rw [HV.out (by rw [HE.out]; decide), HE.out]), below_alloc HR.out.1 _⟩
          · have HY := Lib.hid hy
            have HE := Lib.hid (cdErr_rng (b := ⟨kk, t, x, y, wd, q⟩) HK.out (fun h => hy h.2.1))
            clear hx hy
            rcases hb3 with rfl | ⟨rfl, rfl⟩
            all_goals
              go_wp2_with (first | (go_at_call 38; (with_reducible refine (in_yes x 0 4000 _ HX.out).mono ?_); rintro e w' ⟨rfl, rfl⟩) | (go_at_call 38; (with_reducible refine (in_no y 0 4000 _ HY.out).mono ?_); rintro e w' ⟨rfl, rfl⟩))
              go_ret
              exact ⟨ret_int (by rw [HV.out (by rw [HE.out]; decide), HE.out]), below_alloc HR.out.1 _⟩
        · have HX := Lib.hid hx
          have HE := Lib.hid (cdErr_rng (b := ⟨kk, t, x, y, wd, q⟩) HK.out (fun h => hx h.1))
          clear hx
          rcases hb3 with rfl | ⟨rfl, rfl⟩
          all_goals
            go_wp2_with (first | (go_at_call 38; (with_reducible refine (in_no x 0 4000 _ HX.out).mono ?_); rintro e w' ⟨rfl, rfl⟩))
            go_ret
            exact ⟨ret_int (by rw [HV.out (by rw [HE.out]; decide), HE.out]), below_alloc HR.out.1 _⟩
      · have b1 : (kk != (1 : Int)) = true := by simp; omega
        have b2 : (kk != (2 : Int)) = true := by simp; omega
        have HK := Lib.hid hkk
        have HE := Lib.hid (cdErr_kind (b := ⟨kk, t, x, y, wd, q⟩) HK.out)
        clear hkk
        go_wp2_with fail
        go_ret
        exact ⟨ret_int (by rw [HV.out (by rw [HE.out]; decide), HE.out]), below_alloc HR.out.1 _⟩
    · obtain rfl : k = n := by omega
      by_cases hbig : 10000 < k
      · have hb : (10000 : Int) < (k : Int) := by omega
        have HV := Lib.hid (show voErr B k = 4 by unfold voErr; rw [if_pos HR.out.2, if_pos hbig])
        go_wp2_with ((go_at_call 6; refine (when_any _ _ _).mono ?_; rintro e w' ⟨rfl, rfl⟩))
        go_ret
        exact ⟨ret_int (by rw [HV.out]; rfl), HR.out.1⟩
      · have hb : ¬ (10000 : Int) < (k : Int) := by omega
        have HV := Lib.hid (show voErr B k = 0 by unfold voErr; rw [if_pos HR.out.2, if_neg hbig])
        go_wp2_with ((go_at_call 6; refine (when_any _ _ _).mono ?_; rintro e w' ⟨rfl, rfl⟩))
        go_ret
        exact ⟨ret_int (by rw [HV.out]; rfl), HR.out.1⟩

theorem checkCodes_zero (s : Option Addr) (c : Nat) (w : World) :
    Calls Tryd.prog 31 #[.slice s 0 c] w fun e w' => e = .returned (.int .i64 0) ∧ Below w.heap.size w w' := by
  go_enter Tryd.func31, Tryd.ntmps31
  go_wp2_with fail
  go_loopw [7] (fun i wr => i = .int .i64 0 ∧ Below w.heap.size w wr) (fun _ _ => 0)
  case atStart => exact ⟨rfl, Below.refl _ _⟩
  case round =>
    obtain ⟨rfl, hb⟩ := hrel
    go_wp2_with fail
    go_ret
    exact ⟨rfl, hb⟩
theorem voteError_zero (s : Option Addr) (c : Nat) (w : World) :
    Calls Tryd.prog 16 #[.slice s 0 c] w fun e w' => e = .returned (.int .i64 0) ∧ Below w.heap.size w w' := by
  go_enter Tryd.func16, Tryd.ntmps16
  go_wp2_with fail
  go_loopw [7] (fun i wr => i = .int .i64 0 ∧ Below w.heap.size w wr) (fun _ _ => 0)
  case atStart => exact ⟨rfl, Below.refl _ _⟩
  case round =>
    obtain ⟨rfl, hb⟩ := hrel
    go_wp2_with ((go_at_call 6; refine (when_any _ _ _).mono ?_; rintro e w' ⟨rfl, rfl⟩))
    go_ret
    exact ⟨rfl, hb⟩

end Go.Proofs.YtmloidgeolgpdaaDoor
namespace Go.Proofs.YtmloidgeolgpdaaDoor
open Go.RowKit Go.Maps Go.Sort Go.Lib
set_option linter.unusedSimpArgs false
set_option linter.unusedVariables false

set_option maxHeartbeats 1000000 in
theorem vote_zero (s : Option Addr) (c : Nat) (B : Nat → Cd) (w : World) :
    Calls Tryd.prog 15 #[.slice s 0 c] w fun e w' => ∃ v, e = .returned (.tuple #[v, .int .i64 0]) ∧ SortedRow w' (allC B 0) v ∧ Below w.heap.size w w' := by
  have hmm := @run_makeMap Tryd.prog
  have KC := Lib.hid (checkCodes_zero s c w)
  go_enter Tryd.func15, Tryd.ntmps15
  go_upto_region 1 with (fail)
  go_wp2_with fail
  refine KC.out.mono ?_
  rintro e w1 ⟨rfl, hb1⟩
  have HB1 := Lib.hid hb1
  clear hb1
  go_wp2_with fail
  go_loopw [5, 20] (fun v i wr => i = .int .i64 0 ∧ v = .slice none 0 0 ∧ Hid (Below w.heap.size w wr)) (fun _ _ _ => 0)
  case atStart => exact ⟨rfl, rfl, Lib.hid (below_alloc HB1.out _)⟩
  case round =>
    obtain ⟨rfl, rfl, HR⟩ := hrel
    have hcon := AnyF.slices_SortFunc_none Tryd.sortC none 0 (.func (.func 34) #[] #[]) wr
    clear hmm
    go_wp2_with fail
    refine Calls.mono hcon ?_
    rintro e w3 ⟨rfl, rfl⟩
    go_wp2_with fail
    go_ret2
    exact ⟨_, rfl, .inl ⟨rfl, rfl⟩, HR.out⟩

theorem same_any (a : Cd) (k : Int) (t : ByteArray) (cb : Nat) (W : World) (h0 : W.cell? ⟨cb, 0, none⟩ = some (.int .i64 k)) (h1 : W.cell? ⟨cb, 1, none⟩ = some (.string t)) :
    Calls Tryd.prog 40 #[.agg (cdV a).toArray, .pointer (some ⟨cb, 0, none⟩)] W fun e w' => e = .returned (.bool (decide (a.k = k ∧ a.t = t))) ∧ Below W.heap.size W w' := by
  obtain ⟨ak, at1, ax, ay, aw, ac⟩ := a
  unfold cdV
  simp only
  obtain ⟨w1, hw1⟩ : ∃ w1, w1 = W.alloc (.cells #[.int .i64 ak, .string at1, .int .i64 ax, .int .i64 ay, .int .i64 aw, .int .i64 ac] 40) := ⟨_, rfl⟩
  have hb : Below W.heap.size W w1 := by rw [hw1]; exact new_below _ _
  have p0 := cell_later hb h0
  have p1 := cell_later hb h1
  have a0 : w1.cell? ⟨W.heap.size, 0, none⟩ = some (.int .i64 ak) := by rw [hw1]; go_simp
  have a1 : w1.cell? ⟨W.heap.size, 1, none⟩ = some (.string at1) := by rw [hw1]; go_simp
  have HB := Lib.hid hb
  clear h0 h1 hb
  have HT : (at1.toList == t.toList) = decide (at1 = t) := by
    rw [Bool.eq_iff_iff, decide_eq_true_eq, beq_iff_eq, Lib.toList_data, Lib.toList_data]
    exact ⟨fun h => WideShapes.bytes_inj h, fun h => by rw [h]⟩
  by_cases hk : ak = k
  · have hk' : (ak == k) = true := by simp [hk]
    have HV := Lib.hid (show decide (ak = k ∧ at1 = t) = decide (at1 = t) by simp [hk])
    clear hk
    go_enter Tryd.func40, Tryd.ntmps40
    go_upto_region 1 with (fail)
    rw [← hw1]
    clear hw1
    go_wp2_with fail
    go_ret
    exact ⟨ret_bool (by rw [HV.out]), HB.out⟩
  · have hk' : (ak == k) = false := by simp [hk]
    have HV := Lib.hid (show decide (ak = k ∧ at1 = t) = false by simp [hk])
    clear hk
    go_enter Tryd.func40, Tryd.ntmps40
    go_upto_region 1 with (fail)
    rw [← hw1]
    clear hw1
    go_wp2_with fail
    go_ret
    exact ⟨ret_bool HV.out.symm, HB.out⟩

/-- The place of a kind and a text, or -1. -/
def plI (T : List Cd) (k : Int) (t : ByteArray) : Int := if plc T k t < T.length then (plc T k t : Nat) else -1
theorem idx_from (p : Cd → Bool) : ∀ (T : List Cd) (i : Nat), Lib.idxByFrom (fun _ y => p y) (default : Cd) T i = if T.findIdx p < T.length then ((i + T.findIdx p : Nat) : Int) else -1
  | [], i => rfl
  | a :: T, i => by
    rw [Lib.idxByFrom, List.findIdx_cons]
    cases h : p a
    · simp only [Bool.false_eq_true, if_false, cond_false, List.length_cons, Nat.add_lt_add_iff_right]
      rw [idx_from p T (i + 1)]
      split
      · congr 1; omega
      · rfl
    · simp
theorem idx_plc (k : Int) (t : ByteArray) (T : List Cd) : Lib.idxBy (fun _ y => decide (y.k = k ∧ y.t = t)) T (default : Cd) = plI T k t := by
  unfold Lib.idxBy plI plc
  rw [idx_from]
  simp

theorem index_zero (f : Value) (w : World) :
    Calls Tryd.prog 39 #[.slice none 0 0, f] w fun e w' => e = .returned (.int .i64 (-1)) ∧ w = w' := by
  go_enter Tryd.func39, Tryd.ntmps39
  go_wp2_with fail
  go_loop [8] (fun i => i = .int .i64 0) (fun _ => 0)
  case atStart => rfl
  case round =>
    subst hrel
    go_wp2_with fail
    go_ret
    exact ⟨rfl, rfl⟩
theorem index_any (T : List Cd) (k : Int) (t : ByteArray) (cb N : Nat) (v : Value) (w : World) (hT : T.length ≤ 10000) (h : CdRow w N T v) (h0 : w.cell? ⟨cb, 0, none⟩ = some (.int .i64 k)) (h1 : w.cell? ⟨cb, 1, none⟩ = some (.string t)) :
    Calls Tryd.prog 39 #[v, .func (.func 40) #[] #[.pointer (some ⟨cb, 0, none⟩)]] w fun e w' => e = .returned (.int .i64 (plI T k t)) ∧ Below w.heap.size w w' := by
  rcases h.2 with ⟨h2, h3⟩ | ⟨g, cap, cur, h2, h3, h4, h5, h6, h7, h8⟩
  · obtain rfl : T = [] := List.eq_nil_of_length_eq_zero h3
    subst h2
    exact (index_zero _ w).mono fun e w' ⟨he, hw⟩ => ⟨he, by rw [← hw]; exact Below.refl _ _⟩
  · subst h2
    have hp : PredBelow Tryd.prog 40 #[.pointer (some ⟨cb, 0, none⟩)] (fun x => .agg (cdV x).toArray) (fun y => decide (y.k = k ∧ y.t = t)) w := fun W x hb => by
      refine (same_any x k t cb W (cell_later hb h0) (cell_later hb h1)).mono ?_
      rintro e w' ⟨rfl, hb'⟩
      exact ⟨rfl, hb.trans (hb'.mono hb.size)⟩
    have eg : ∀ args w, (callFunc 40 args).run Tryd.prog w = .ok (.enter 40 args) w := enters_of Tryd.func40 (by kernel_rfl) rfl
    have hcon := AnyQ.slices_IndexFunc Tryd.idxC 6 Tryd.isAgg40 Tryd.sizeOf40 cdV (fun _ => rfl) (fun y => decide (y.k = k ∧ y.t = t)) 40 #[.pointer (some ⟨cb, 0, none⟩)] eg g 0 T.length cap T w hp (Nat.le_refl _) (by omega) (Array.getElem?_eq_some_iff.1 h4).1 (fun j hj i u hu => by
      have hi : i < 6 := by have := (List.getElem?_eq_some_iff.1 hu).1; simpa [cdV] using this
      rw [Nat.zero_add]
      refine ((World.ownsRow.cellAt h (j * 6 + i) (by omega)).trans (flatC_get T j i hj hi)).trans ?_
      rw [← hu, List.getD_eq_getElem?_getD, List.getElem?_eq_getElem hj]
      simp [hj])
    rw [List.take_of_length_le (Nat.le_refl _), idx_plc] at hcon
    exact hcon

/-! ### what the reference writes -/
theorem flatC_set4 (T : List Cd) (i : Nat) (a b c d : Int) (hi : i < T.length) :
    ((((flatC T).set (i * 6 + 2) (.int .i64 a)).set (i * 6 + 3) (.int .i64 b)).set (i * 6 + 5) (.int .i64 c)).set (i * 6 + 4) (.int .i64 d) = flatC (T.set i ⟨(T.getD i default).k, (T.getD i default).t, a, b, d, c⟩) := by
  induction T generalizing i with
  | nil => simp at hi
  | cons t T ih =>
    cases i with
    | zero => simp [flatC, cdV]
    | succ i =>
      have := ih i (by simpa using hi)
      rw [List.set_cons_succ, flatC, flatC, List.getD_cons_succ, ← this]
      simp only [cdV, List.cons_append, List.nil_append]
      rw [show (i + 1) * 6 = i * 6 + 6 by omega]
      rfl
def set4 (w : World) (g o : Nat) (a b c d : Int) : World :=
  (((w.setCell ⟨g, o + 2, none⟩ (.int .i64 a)).setCell ⟨g, o + 3, none⟩ (.int .i64 b)).setCell ⟨g, o + 5, none⟩ (.int .i64 c)).drew.setCell ⟨g, o + 4, none⟩ (.int .i64 d)
theorem CdRow.set4 {w : World} {N g c : Nat} {T : List Cd} (h : CdRow w N T (.slice (some ⟨g, 0, none⟩) T.length c)) (i : Nat) (hi : i < T.length) (p q r s : Int) :
    CdRow (set4 w g (i * 6) p q r s) N (T.set i ⟨(T.getD i default).k, (T.getD i default).t, p, q, s, r⟩) (.slice (some ⟨g, 0, none⟩) T.length c) := by
  rcases h.2 with ⟨h0, h1⟩ | ⟨g', cap, cur, h0, h1, h2, h3, h4, h5, h6⟩
  · cases h0
  · cases h0
    have e1 := heap_setCell_same w g (i * 6 + 2) cur 40 (.int .i64 p) h2
    have e2 := heap_setCell_same _ g (i * 6 + 3) _ 40 (.int .i64 q) e1
    have e3 := heap_setCell_same _ g (i * 6 + 5) _ 40 (.int .i64 r) e2
    have e4 := heap_setCell_same (((w.setCell ⟨g, i * 6 + 2, none⟩ (.int .i64 p)).setCell ⟨g, i * 6 + 3, none⟩ (.int .i64 q)).setCell ⟨g, i * 6 + 5, none⟩ (.int .i64 r)).drew g (i * 6 + 4) _ 40 (.int .i64 s) e3
    refine ⟨by rw [flatC_len], .inr ⟨g, c, _, by rw [List.length_set], h1, e4, by rw [List.length_set]; exact h3, h4, by simpa using h5, ?_⟩⟩
    rw [← flatC_set4 T i p q r s hi, ← h6, List.length_set]
    simp [List.take_set]
theorem set4_below {N : Nat} {w wx : World} {g o : Nat} {a b c d : Int} (h : Below N w wx) (hg : N ≤ g) : Below N w (set4 wx g o a b c d) :=
  ((((h.setCell hg _).setCell hg _).setCell hg _).drew).setCell hg _

end Go.Proofs.YtmloidgeolgpdaaDoor
