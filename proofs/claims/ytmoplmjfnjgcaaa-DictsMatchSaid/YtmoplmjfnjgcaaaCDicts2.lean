/-
  What dicts_holds leans on: contracts of the functions that it calls.
-/
import Derived.Test.YtmoplmjfnjgcaaaRows
import Derived.WalkKit
import Derived.WalkSpells
import Derived.WalkLawsBesides
import Derived.Lib.Hide
import Derived.Deep.RegionHeld3
import Derived.Shelf.Abstract
import Derived.Lib.TrimByte
import Derived.Shelf.Sort.Plain
import Derived.Shelf.Slices.In.SortNone
import Derived.Shelf.Small.Strs
import Derived.Shelf.Strings.Prefix
import Derived.Shelf.Slices.Equal
import Derived.Shelf.Slices.Empties2
import Derived.Shelf.Spec.SearchS
import Derived.Ground.Names2Prog
import Derived.Shelf.SlSortCmp.NoneTotal
import Derived.Ground.SlsfProg
import Derived.Test.YtmoplmjfnjgcaaaProg
import Derived.ProofKit
import Derived.OpenShut
import Derived.ShutString
import Derived.ChangeOld
import Derived.Lib.SmallJoins
import Derived.Deep.Grids
import Derived.Maps.OwnOps
import Derived.Maps.OwnSet
import Derived.StringKeys
import Derived.Deep.CutBlock
import Derived.Lib.Strings
import Derived.Deep.RegionLaw
import Derived.Deep.AppendLies
import Derived.RangeFuncBox
import Derived.Lib.Bytealg
import Derived.Deep.DrawnRows
import Derived.Deep.QuietTactic
import Derived.BigQuiet
import Derived.Test.YtmoplmjfnjgcaaaCDicts1
namespace Go.Proofs.Ytmoplmjfnjgcaaa
open Go.RowKit Go.Maps
set_option linter.unusedSimpArgs false
set_option linter.unusedVariables false

abbrev txt (l : List UInt8) : Value := .string ⟨l.toArray⟩
theorem txt_of (t : ByteArray) : txt t.data.toList = .string t := by cases t; simp [txt]

/-- A row of texts in memory. -/
def RowS (w : World) (base : Nat) (v : Value) (M : List (List UInt8)) : Prop :=
  (v = .slice none 0 0 ∧ M = []) ∨ ∃ g c, v = .slice (some ⟨g, 0, none⟩) M.length c ∧ M.length ≤ c ∧ base ≤ g ∧ ∀ j, j < M.length → w.cell? ⟨g, j, none⟩ = some (txt (M.getD j []))
theorem RowS.later {w w' : World} {base : Nat} {v : Value} {M : List (List UInt8)} (h : RowS w base v M) (hb : Below w.heap.size w w') : RowS w' base v M := by
  rcases h with h | ⟨g, c, h1, h2, h3, h4⟩
  · exact .inl h
  · exact .inr ⟨g, c, h1, h2, h3, fun j hj => cell_later hb (h4 j hj)⟩

def sortL (M : List (List UInt8)) : List (List UInt8) := M.mergeSort fun x y => decide (x ≤ y)
theorem sortL_len (M : List (List UInt8)) : (sortL M).length = M.length := List.length_mergeSort _

theorem sortT_world {blk n : Nat} {xs s : List (List UInt8)} {w : World} (os : Array Obj) (hH : Go.Sort.Holds txt w blk 0 xs.toArray) (hblk : blk < w.heap.size) (hl : s.length = xs.length) :
    (∀ j, j < xs.length → (Go.Sort.grow (Go.Sort.putRow txt (Go.Sort.ahead w n) blk 0 s.toArray) os).cell? ⟨blk, 0 + j, none⟩ = some (txt (s.getD j []))) ∧
      w.grownBy (Go.Sort.grow (Go.Sort.putRow txt (Go.Sort.ahead w n) blk 0 s.toArray) os) (some blk) := by
  have hsz : (Go.Sort.putRow txt (Go.Sort.ahead w n) blk 0 s.toArray).heap.size = w.heap.size := by simp [Go.Sort.putRow, Go.Sort.mapBlock, Go.Sort.ahead]
  refine ⟨fun j hj => ?_, ⟨rfl, rfl, rfl, ?_, fun k hk hne => ?_⟩⟩
  · rw [Go.Sort.cell?_grow _ _ _ (by rw [hsz]; exact hblk), Go.Sort.cell?_putRow txt (Go.Sort.ahead w n) blk 0 xs.toArray s.toArray (Go.Sort.holds_ahead _ _ _ _ _ _ hH) (by simp [hl]) j (by simp [hl]; exact hj)]
    simp [List.getD, hl, hj]
  · simp only [Go.Sort.grow, Array.size_append]; omega
  · rw [Go.Sort.heap_grow_old _ _ (by rw [hsz]; omega)]
    simp only [Go.Sort.putRow, Go.Sort.mapBlock, Go.Sort.ahead, Array.getElem?_modify]
    rw [if_neg (fun e => hne (by rw [e]))]

theorem ownsT_holds {w : World} {base g c : Nat} {xs : List (List UInt8)} (h : w.ownsRow base 9 1 (.slice (some ⟨g, 0, none⟩) xs.length c) xs.length (xs.map txt)) : Go.Sort.Holds txt w g 0 xs.toArray ∧ g < w.heap.size ∧ base ≤ g := by
  rcases h.2 with ⟨h0, _⟩ | ⟨g', cap, cur, h0, hb, hg, h1, h2, h3, h4⟩
  · cases h0
  · cases h0
    refine ⟨fun j hj => ?_, (Array.getElem?_eq_some_iff.1 hg).1, hb⟩
    have hj' : j < xs.length := by simpa using hj
    refine ⟨?_, by simp [World.frozen?, hg]⟩
    have : cur.toList[j]? = some (txt xs[j]) := by
      have h5 : (cur.toList.take (xs.length * 1))[j]? = (xs.map txt)[j]? := by rw [h4]
      rw [List.getElem?_take, if_pos (by omega)] at h5
      rw [h5]; simp [hj']
    simp [World.cell?, hg, hj']
    simpa using this

/-- slices.Sort of texts. -/
theorem sortT_any (base : Nat) (v : Value) (xs : List (List UInt8)) (w : World) (hn : xs.length ≤ 5000) (h : w.ownsRow base 9 1 v xs.length (xs.map txt)) (hb : base ≤ w.heap.size) :
    Calls Try.prog 38 #[v] w fun e w' => e = .returned (.tuple #[]) ∧ RowS w' base v (sortL xs) ∧ w.grownBy w' v.ownBlock ∧ Below base w w' := by
  have hl := sortL_len xs
  rcases h.2 with ⟨h1, h2⟩ | ⟨g, c, cur, rfl, hb1, hg, hc, _⟩
  · subst h1
    have h2 : xs.length = 0 := h2
    refine Calls.mono (Any.slices_Sort_string_none Try.lays190 none 0 w) ?_
    rintro e w' ⟨rfl, rfl⟩
    exact ⟨rfl, .inl ⟨rfl, List.length_eq_zero_iff.1 (by rw [hl]; exact h2)⟩, ⟨rfl, rfl, rfl, Nat.le_refl _, fun _ _ _ => rfl⟩, Below.refl _ _⟩
  · obtain ⟨o1, o2, o3⟩ := ownsT_holds h
    refine (Try.slices_Sort_string g 0 c xs w o1 o2 (by omega)).mono ?_
    rintro e w2 ⟨rfl, n, os, rfl⟩
    obtain ⟨s1, s2⟩ := sortT_world os (n := n) o1 o2 (s := sortL xs) hl
    exact ⟨rfl, .inr ⟨g, c, by rw [hl], by rw [hl]; exact hc, o3, fun j hj => by have := s1 j (by omega); rwa [Nat.zero_add] at this⟩, s2, (Below.refl base w).grown s2 hb (fun j hj => by cases hj; exact o3)⟩

end Go.Proofs.Ytmoplmjfnjgcaaa
namespace Go.Proofs.Ytmoplmjfnjgcaaa
open Go.RowKit
set_option linter.unusedSimpArgs false
set_option linter.unusedVariables false

theorem bl_irrefl : ∀ x : List UInt8, Op.bytesLess x x = false
  | [] => rfl
  | a :: x => by simp [Op.bytesLess, bl_irrefl x]
theorem bl_total : ∀ x y : List UInt8, Op.bytesLess x y = false → Op.bytesLess y x = false → x = y
  | [], [], _, _ => rfl
  | [], _ :: _, h, _ => by simp [Op.bytesLess] at h
  | _ :: _, [], _, h => by simp [Op.bytesLess] at h
  | a :: x, b :: y, h1, h2 => by
    simp only [Op.bytesLess, Bool.or_eq_false_iff, decide_eq_false_iff_not, Bool.and_eq_false_iff, beq_eq_false_iff_ne] at h1 h2
    have hab : a = b := by
      have h3 := h1.1; have h4 := h2.1
      apply UInt8.toNat_inj.1
      rw [UInt8.lt_iff_toNat_lt] at h3 h4
      omega
    subst hab
    rw [bl_total x y (h1.2.resolve_left (by simp)) (h2.2.resolve_left (by simp))]
theorem bl_trans : ∀ x y z : List UInt8, Op.bytesLess x y = true → Op.bytesLess y z = true → Op.bytesLess x z = true
  | _, [], _, h, _ => by cases ‹List UInt8› <;> simp [Op.bytesLess] at h
  | _, _ :: _, [], _, h => by simp [Op.bytesLess] at h
  | [], _ :: _, _ :: _, _, _ => rfl
  | a :: x, b :: y, c :: z, h1, h2 => by
    simp only [Op.bytesLess, Bool.or_eq_true, decide_eq_true_eq, Bool.and_eq_true, beq_iff_eq] at h1 h2 ⊢
    rcases h1 with h1 | ⟨rfl, h1⟩ <;> rcases h2 with h2 | ⟨rfl, h2⟩
    · exact .inl (UInt8.lt_trans h1 h2)
    · exact .inl h1
    · exact .inl h2
    · exact .inr ⟨rfl, bl_trans x y z h1 h2⟩
/-- What begins with a text is not below it. -/
theorem bl_prefix : ∀ s x : List UInt8, s.isPrefixOf x = true → Op.bytesLess x s = false
  | [], x, _ => by cases x <;> rfl
  | a :: s, [], h => by simp [List.isPrefixOf] at h
  | a :: s, b :: x, h => by
    simp only [List.isPrefixOf, Bool.and_eq_true, beq_iff_eq] at h
    obtain ⟨rfl, h⟩ := h
    simp [Op.bytesLess, bl_prefix s x h]
/-- What stands between a text and one that begins with it begins with it. -/
theorem bl_between : ∀ s x y : List UInt8, Op.bytesLess x s = false → Op.bytesLess y x = false → s.isPrefixOf y = true → s.isPrefixOf x = true
  | [], _, _, _, _, _ => rfl
  | a :: s, x, [], _, _, h => by simp [List.isPrefixOf] at h
  | a :: s, [], c :: y, h, _, _ => by simp [Op.bytesLess] at h
  | a :: s, b :: x, c :: y, h1, h2, h3 => by
    simp only [List.isPrefixOf, Bool.and_eq_true, beq_iff_eq] at h3 ⊢
    obtain ⟨rfl, h3⟩ := h3
    simp only [Op.bytesLess, Bool.or_eq_false_iff, decide_eq_false_iff_not, Bool.and_eq_false_iff, beq_eq_false_iff_ne] at h1 h2
    have hab : a = b := by
      have k1 := h1.1; have k2 := h2.1
      apply UInt8.toNat_inj.1
      rw [UInt8.lt_iff_toNat_lt] at k1 k2
      omega
    subst hab
    exact ⟨rfl, bl_between s x y (h1.2.resolve_left (by simp)) (h2.2.resolve_left (by simp)) h3⟩

theorem le_bl (x y : List UInt8) : decide (x ≤ y) = !Op.bytesLess y x := by rw [bytesLess_eq]; by_cases h : y < x <;> simp [h, List.not_lt.1, List.not_le.2] <;> exact List.not_lt.1 h

/-- A list in order. -/
def Ord (M : List (List UInt8)) : Prop := ∀ i j, i ≤ j → j < M.length → Op.bytesLess (M.getD j []) (M.getD i []) = false
theorem sortL_ord (M : List (List UInt8)) : Ord (sortL M) := by
  have hp := List.pairwise_mergeSort (le := fun x y : List UInt8 => decide (x ≤ y)) (fun a b c h1 h2 => by
    rw [le_bl] at h1 h2 ⊢
    simp only [Bool.not_eq_true'] at h1 h2 ⊢
    apply Classical.byContradiction
    intro h
    have h : Op.bytesLess c a = true := by simpa using h
    by_cases e : Op.bytesLess a b = true
    · have := bl_trans _ _ _ h e; rw [this] at h2; cases h2
    · have := bl_total a b (by simpa using e) h1; subst this; rw [h] at h2; cases h2) (fun a b => by
    rw [le_bl, le_bl]
    by_cases h : Op.bytesLess b a = true
    · have : Op.bytesLess a b = false := by
        apply Classical.byContradiction
        intro h3
        have h3 : Op.bytesLess a b = true := by simpa using h3
        have := bl_trans _ _ _ h h3; rw [bl_irrefl] at this; cases this
      simp [this]
    · simp [h]) M
  intro i j hij hj
  by_cases e : i = j
  · subst e; exact bl_irrefl _
  · have := List.pairwise_iff_getElem.1 hp i j (by unfold sortL at hj; omega) hj (by omega)
    rw [le_bl] at this
    simp only [Bool.not_eq_true'] at this
    have hi : i < (sortL M).length := by omega
    simp only [List.getD, List.getElem?_eq_getElem hi, List.getElem?_eq_getElem hj, Option.getD_some]
    exact this

/-- Those that begin with a text, at most m. -/
def beg (M : List (List UInt8)) (s : List UInt8) (m : Int) : List (List UInt8) := (M.filter fun x => s.isPrefixOf x).take m.toNat

theorem beg_step (M : List (List UInt8)) (s : List UInt8) (m : Int) (k : Nat) (hk : k < M.length) :
    beg (M.take (k + 1)) s m = if s.isPrefixOf (M.getD k []) = true ∧ ((beg (M.take k) s m).length : Int) < m then beg (M.take k) s m ++ [M.getD k []] else beg (M.take k) s m := by
  have e : M.take (k + 1) = M.take k ++ [M.getD k []] := by
    rw [List.take_add_one, List.getElem?_eq_getElem hk]; simp [List.getD, hk]
  unfold beg
  rw [e, List.filter_append]
  generalize (M.take k).filter (fun x => s.isPrefixOf x) = F
  by_cases h : s.isPrefixOf (M.getD k []) = true
  · rw [show [M.getD k []].filter (fun x => s.isPrefixOf x) = [M.getD k []] from by rw [List.filter_cons_of_pos (by exact h)]; rfl]
    by_cases h2 : F.length < m.toNat
    · rw [if_pos ⟨h, by rw [List.length_take]; omega⟩, List.take_of_length_le (by simp; omega), List.take_of_length_le (by omega)]
    · rw [if_neg (fun hh => by have := hh.2; rw [List.length_take] at this; omega), List.take_append_of_le_length (by omega)]
  · rw [if_neg (fun hh => h hh.1), show [M.getD k []].filter (fun x => s.isPrefixOf x) = [] from by rw [List.filter_cons_of_neg (by exact h)]; rfl, List.append_nil]

theorem beg_full (M : List (List UInt8)) (s : List UInt8) (m : Int) (k : Nat) (h : m ≤ ((beg (M.take k) s m).length : Int)) : beg M s m = beg (M.take k) s m := by
  unfold beg at *
  rw [List.length_take] at h
  conv => lhs; rw [← List.take_append_drop k M, List.filter_append]
  exact List.take_append_of_le_length (by omega)

theorem filter_none {M : List (List UInt8)} {s : List UInt8} (h : ∀ x, x ∈ M → s.isPrefixOf x = false) : M.filter (fun x => s.isPrefixOf x) = [] := by
  rw [List.filter_eq_nil_iff]; intro x hx; rw [h x hx]; simp

theorem beg_over (M : List (List UInt8)) (hM : Ord M) (s : List UInt8) (m : Int) (k : Nat) (hk : k < M.length) (h1 : Op.bytesLess (M.getD k []) s = false) (h2 : s.isPrefixOf (M.getD k []) = false) : beg M s m = beg (M.take k) s m := by
  unfold beg
  conv => lhs; rw [← List.take_append_drop k M, List.filter_append]
  rw [filter_none (M := M.drop k), List.append_nil]
  intro x hx
  obtain ⟨i, hi, rfl⟩ := List.getElem_of_mem hx
  rw [List.length_drop] at hi
  rw [List.getElem_drop]
  have ho := hM k (k + i) (by omega) (by omega)
  apply Classical.byContradiction
  intro h
  have h : s.isPrefixOf M[k + i] = true := by simpa using h
  have e : M.getD (k + i) [] = M[k + i] := by simp [List.getD, show k + i < M.length by omega]
  rw [e] at ho
  rw [bl_between s _ _ h1 ho h] at h2
  cases h2

theorem beg_start (M : List (List UInt8)) (s : List UInt8) (m : Int) (k : Nat) (hk : k ≤ M.length) (h : ∀ i, i < k → Op.bytesLess (M.getD i []) s = true) : beg (M.take k) s m = [] := by
  unfold beg
  rw [filter_none, List.take_nil]
  intro x hx
  obtain ⟨i, hi, rfl⟩ := List.getElem_of_mem hx
  rw [List.length_take] at hi
  rw [List.getElem_take]
  have h1 := h i (by omega)
  have e : M.getD i [] = M[i]'(by omega) := by simp [List.getD, show i < M.length by omega]
  rw [e] at h1
  apply Classical.byContradiction
  intro h2
  have := bl_prefix s _ (by simpa using h2)
  rw [this] at h1
  cases h1

end Go.Proofs.Ytmoplmjfnjgcaaa
namespace Go.Proofs.Ytmoplmjfnjgcaaa
open Go.RowKit Go.Maps
set_option linter.unusedSimpArgs false
set_option linter.unusedVariables false

theorem count_any (f : ByteArray → Int) (db mb n : Nat) (s : ByteArray) (w : World) (h1 : w.cell? ⟨db, 1, none⟩ = some (.map (some mb))) (hm : StrMap f mb n w) (hs : s.size ≤ maxLen) :
    Calls Try.prog 18 #[.pointer (some ⟨db, 0, none⟩), .string s] w fun e w' => e = .returned (.int .i64 (f s)) ∧ w = w' := by
  have hlk := strMap_look hm hs
  clear hm
  go_enter Try.func18, Try.ntmps18
  go_wp2_with fail
  go_ret
  exact ⟨rfl, rfl⟩

theorem has_any (f : ByteArray → Int) (db mb n : Nat) (s : ByteArray) (w : World) (h1 : w.cell? ⟨db, 1, none⟩ = some (.map (some mb))) (hm : StrMap f mb n w) (hs : s.size ≤ maxLen) :
    Calls Try.prog 20 #[.pointer (some ⟨db, 0, none⟩), .string s] w fun e w' => e = .returned (.bool (decide (0 < f s))) ∧ w = w' := by
  have HC := Lib.hid (count_any f db mb n s w h1 hm hs)
  clear hm
  go_enter Try.func20, Try.ntmps20
  go_wp2_with fail
  refine HC.out.mono ?_
  rintro e w' ⟨rfl, rfl⟩
  go_wp2_with fail
  go_ret
  exact ⟨rfl, rfl⟩

theorem cnt_seen (B : Nat → Wd) (k : Nat) (h : dcFirst B k = 0) (s : ByteArray) : decide (0 < cntT B k s) = seenT B k s := by
  induction k with
  | zero => rfl
  | succ k ih =>
    have h0 : dcFirst B k = 0 := by
      apply Classical.byContradiction
      intro h1
      rw [dcFirst, if_neg h1] at h
      exact h1 h
    have hw : wdErr B k = 0 := by rw [dcFirst, if_pos h0] at h; exact h
    have hc : 1 ≤ (B k).c := by
      unfold wdErr at hw
      split at hw
      · cases hw
      · split at hw
        · omega
        · cases hw
    rw [cntT, seenT, ← ih h0]
    by_cases e : (B k).t = s
    · rw [if_pos e, decide_eq_true e, decide_eq_true (by omega)]; simp
    · rw [if_neg e, decide_eq_false e]; simp

def textsOf (B : Nat → Wd) (k : Nat) : List Value := (List.range k).map fun i => .string (B i).t
theorem textsOf_succ (B : Nat → Wd) (k : Nat) : textsOf B (k + 1) = textsOf B k ++ [.string (B k).t] := by simp [textsOf, List.range_succ]

theorem info_str' : (Try.prog.info? 9).map (fun i => (i.zero, i.size, i.bytes)) = some (some (.string ⟨#[]⟩), 1, 16) := by kernel_rfl

/-- A dictionary on the way: k words are in. -/
structure DictR (w : World) (B : Nat → Wd) (mb db k : Nat) (wr : World) : Prop where
  m : StrMap (cntT B k) mb k wr
  d : ∃ v, wr.heap[db]? = some (.cells #[v, .map (some mb)] 77 (0, 0)) ∧ wr.ownsRow (w.heap.size + 2) 9 1 v k (textsOf B k)
  b : Below w.heap.size w wr
  n : w.heap.size + 2 ≤ wr.heap.size
  e : dcFirst B k = 0

theorem block2 {w : World} {b : Nat} {x y : Value} {t : TypeId} (h : w.heap[b]? = some (.cells #[x, y] t (0, 0))) :
    w.cell? ⟨b, 0, none⟩ = some x ∧ w.cell? ⟨b, 1, none⟩ = some y ∧ w.frozen? ⟨b, 0, none⟩ = false ∧ w.frozen? ⟨b, 1, none⟩ = false :=
  ⟨by rw [cell_of_row w b 0 _ t (0, 0) h]; rfl, by rw [cell_of_row w b 1 _ t (0, 0) h]; rfl, frozen_of_row w b 0 _ t h, frozen_of_row w b 1 _ t h⟩
theorem below_grown0 {w w' : World} (hb : Below w.heap.size w w') : w.grownBy w' none := ⟨hb.os, hb.tape, hb.output, hb.size, fun k hk _ => hb.block k hk⟩

theorem grow_after {w w' : World} {o : Obj} {row : Option Nat} (h : (w.drew.alloc o).grownBy w' row) : w.grownBy w' row :=
  have g := World.grownBy_alloc w.drew o row
  ⟨h.os.trans g.os, h.tape.trans g.tape, h.output.trans g.output, Nat.le_trans g.size h.size, fun k hk hne => (h.block k (Nat.lt_of_lt_of_le hk g.size) hne).trans (g.block k hk hne)⟩

/-- A dictionary whose map is ahead of its row. -/
structure DictR' (w : World) (B : Nat → Wd) (mb db k : Nat) (v : Value) (wr : World) : Prop where
  m : StrMap (cntT B (k + 1)) mb (k + 1) wr
  d : wr.heap[db]? = some (.cells #[v, .map (some mb)] 77 (0, 0))
  r : wr.ownsRow (w.heap.size + 2) 9 1 v k (textsOf B k)
  b : Below w.heap.size w wr
  n : w.heap.size + 2 ≤ wr.heap.size
  e : dcFirst B (k + 1) = 0

theorem DictR'.put {w wr w5 : World} {B : Nat → Wd} {k : Nat} {v v' : Value} {t : ByteArray} (h : DictR' w B w.heap.size (w.heap.size + 1) k v wr) (ht : textsOf B (k + 1) = textsOf B k ++ [.string t])
    (hown : w5.ownsRow (w.heap.size + 2) 9 1 v' (k + 1) (textsOf B k ++ [.string t])) (hg : wr.grownBy w5 v.ownBlock) :
    DictR w B w.heap.size (w.heap.size + 1) (k + 1) (w5.setCell ⟨w.heap.size + 1, 0, none⟩ v') := by
  have hrow : ∀ j, v.ownBlock = some j → w.heap.size + 2 ≤ j := fun j hj => (h.r.lt j hj).1
  have n0 : some w.heap.size ≠ v.ownBlock := fun e => by have := hrow _ e.symm; omega
  have n1 : some (w.heap.size + 1) ≠ v.ownBlock := fun e => by have := hrow _ e.symm; omega
  exact ⟨strMap_kept (strMap_kept h.m hg n0) (row := some (w.heap.size + 1)) (grownBy_setCell' w5 (w.heap.size + 1) v') (by simp),
    ⟨v', heap_setCell_same w5 (w.heap.size + 1) 0 #[v, .map (some w.heap.size)] 77 v' (grown_block hg h.d n1), by rw [ht]; exact ownsRow_setCell_below hown (by simp) _⟩,
    (h.b.grown hg h.b.size (fun j hj => by have := hrow j hj; omega)).setCell (by simp) _, by simpa using Nat.le_trans h.n hg.size, h.e⟩

def listT (B : Nat → Wd) (n : Nat) : List (List UInt8) := (List.range n).map fun i => (B i).t.data.toList
theorem listT_len (B : Nat → Wd) (n : Nat) : (listT B n).length = n := by simp [listT]
theorem listT_txt (B : Nat → Wd) (n : Nat) : (listT B n).map txt = textsOf B n := by simp [listT, textsOf, txt_of, Function.comp_def]

/-- A dictionary in memory. -/
def DictAt (w : World) (base : Nat) (B : Nat → Wd) (n db : Nat) : Prop :=
  ∃ mb v, StrMap (cntT B n) mb n w ∧ w.cell? ⟨db, 0, none⟩ = some v ∧ w.cell? ⟨db, 1, none⟩ = some (.map (some mb)) ∧ RowS w base v (sortL (listT B n))
theorem DictAt.later {w w' : World} {base n db : Nat} {B : Nat → Wd} (h : DictAt w base B n db) (hb : Below w.heap.size w w') : DictAt w' base B n db := by
  obtain ⟨mb, v, h1, h2, h3, h4⟩ := h
  exact ⟨mb, v, strMap_kept h1 (below_grown0 hb) (by simp), cell_later hb h2, cell_later hb h3, h4.later hb⟩

theorem DictR.done {w wr w2 : World} {B : Nat → Wd} {n : Nat} {v : Value} (h : DictR w B w.heap.size (w.heap.size + 1) n wr) (hv : wr.heap[w.heap.size + 1]? = some (.cells #[v, .map (some w.heap.size)] 77 (0, 0))) (ho : wr.ownsRow (w.heap.size + 2) 9 1 v n (textsOf B n))
    (hr : RowS w2 (w.heap.size + 2) v (sortL (listT B n))) (hg : wr.grownBy w2 v.ownBlock) : DictAt w2 w.heap.size B n (w.heap.size + 1) ∧ Below w.heap.size w w2 := by
  have hrow : ∀ j, v.ownBlock = some j → w.heap.size + 2 ≤ j := fun j hj => (ho.lt j hj).1
  have n0 : some w.heap.size ≠ v.ownBlock := fun e => by have := hrow _ e.symm; omega
  have n1 : some (w.heap.size + 1) ≠ v.ownBlock := fun e => by have := hrow _ e.symm; omega
  obtain ⟨g0, g1, _, _⟩ := block2 (grown_block hg hv n1)
  have hr' : RowS w2 w.heap.size v (sortL (listT B n)) := by
    rcases hr with hr | ⟨g, c, r1, r2, r3, r4⟩
    · exact .inl hr
    · exact .inr ⟨g, c, r1, r2, by omega, r4⟩
  exact ⟨⟨w.heap.size, v, strMap_kept h.m hg n0, g0, g1, hr'⟩, h.b.grown hg h.b.size (fun j hj => by have := hrow j hj; omega)⟩

set_option maxHeartbeats 2000000 in
set_option maxRecDepth 100000 in
theorem newDict_loop (n g o c : Nat) (B : Nat → Wd) (w : World) (hn : n ≤ 9223372036854775807) (hB : WordsAt w g o n B) (hZ : ∀ i, i < n → (B i).t.size ≤ 9223372036854775807) :
    Calls Try.prog 14 #[.slice (some ⟨g, o, none⟩) n c] w fun e w' => (dcErr B n ≠ 0 ∧ e = .returned (.tuple #[.pointer none, .int .i64 (dcErr B n)]) ∧ Below w.heap.size w w') ∨ (dcErr B n = 0 ∧ ∃ db, e = .returned (.tuple #[.pointer (some ⟨db, 0, none⟩), .int .i64 0]) ∧ DictAt w' w.heap.size B n db ∧ Below w.heap.size w w') := by
  have hmm := @run_makeMap Try.prog
  obtain ⟨i0, hi, hz0, hz1, hz2⟩ := info_parts info_str'
  by_cases h5 : 5000 < n
  · have HE := Lib.hid (show dcErr B n = 4 by unfold dcErr; rw [if_pos h5])
    have i1 : (5000 : Int) < (n : Int) := by omega
    clear hmm
    go_enter Try.func14, Try.ntmps14
    go_wp2_with fail
    go_ret2
    exact .inl ⟨by rw [HE.out]; decide, by rw [HE.out]; rfl, Below.refl _ _⟩
  · have HE := Lib.hid (show dcErr B n = dcFirst B n by unfold dcErr; rw [if_neg h5])
    have i1 : ¬ (5000 : Int) < (n : Int) := by omega
    have h5' : n ≤ 5000 := by omega
    have HB := Lib.hid (fun wx (hx : Below w.heap.size w wx) => hB.later hx)
    have HZ := Lib.hid hZ
    clear hB hZ h5
    go_enter Try.func14, Try.ntmps14
    go_upto_region 4 with (fail)
    obtain ⟨w1, hw1⟩ : ∃ w1, w1 = (w.alloc (.map #[] 0)).alloc (.cells #[.slice none 0 0, .map (some w.heap.size)] 77) := ⟨_, rfl⟩
    have S0 := Lib.hid (show DictR w B w.heap.size (w.heap.size + 1) 0 w1 from by
      rw [hw1]
      refine ⟨strMap_kept (strMap_new w) (row := none) (World.grownBy_alloc _ _ none) (by simp), ⟨.slice none 0 0, ?_, World.ownsRow_nil _ _ _ _⟩, below_alloc (new_below _ _) _, by simp, rfl⟩
      have := heap_alloc_new (w.alloc (.map #[] 0)) (.cells #[.slice none 0 0, .map (some w.heap.size)] 77)
      rw [show (w.alloc (.map #[] 0)).heap.size = w.heap.size + 1 by simp] at this
      exact this)
    rw [← hw1]
    clear hw1 hmm
    go_wp2_with fail
    go_loopw [15] (fun i wr => ∃ k : Nat, k ≤ n ∧ i = .int .i64 k ∧ Hid (DictR w B w.heap.size (w.heap.size + 1) k wr)) (fun i _ => n - (intOf i).toNat)
    case atStart => exact ⟨0, Nat.zero_le _, rfl, S0⟩
    case round =>
      obtain ⟨k, hk, rfl, HR⟩ := hrel
      clear S0
      obtain ⟨wo, rfl⟩ : ∃ wo : World, wo = wr := ⟨_, rfl⟩
      by_cases hlt : k < n
      · have j1 : (k : Int) < (n : Int) := by omega
        obtain ⟨c0, c1⟩ := HB.out wo HR.out.b k hlt
        have hz := HZ.out k hlt
        have hst : dcFirst B (k + 1) = wdErr B k := by rw [dcFirst, if_pos HR.out.e]
        have hlast : dcFirst B (k + 1) ≠ 0 → dcFirst B n = dcFirst B (k + 1) := fun h => dcFirst_later h (by omega)
        have hwe : wdErr B k = if isWd (B k).t = false then 2 else if 1 ≤ (B k).c ∧ (B k).c ≤ 1000000000 then (if seenT B k (B k).t = true then 6 else 0) else 3 := rfl
        have hnx : ∀ s, cntT B (k + 1) s = if (B k).t = s then (B k).c else cntT B k s := fun s => rfl
        have htx := textsOf_succ B k
        have hm40 : isWd (B k).t = true → (B k).t.size ≤ maxLen := fun h => by
          by_cases h1 : 1 ≤ (B k).t.size ∧ (B k).t.size ≤ 40
          · unfold maxLen; omega
          · rw [isWd_big _ h1] at h; cases h
        generalize B k = x at *
        obtain ⟨t, q⟩ := x
        simp only at c0 c1 hz hwe hnx hm40 htx
        have HST := Lib.hid hst
        have HLA := Lib.hid hlast
        have HWE := Lib.hid hwe
        have HNX := Lib.hid hnx
        have HM4 := Lib.hid hm40
        have HTX := Lib.hid htx
        have HSE := Lib.hid (cnt_seen B k HR.out.e t)
        clear hst hlast hwe hnx hm40 htx
        go_upto_region 7 with (fail)
        obtain ⟨w3, hw3⟩ : ∃ w3, w3 = wo.alloc (.cells #[.string t, .int .i64 q] 79) := ⟨_, rfl⟩
        have hb3 : Below wo.heap.size wo w3 := by rw [hw3]; exact new_below _ _
        have S3 := Lib.hid (show DictR w B w.heap.size (w.heap.size + 1) k w3 from by
          obtain ⟨v, v1, v2⟩ := HR.out.d
          exact ⟨strMap_kept HR.out.m (row := none) (by rw [hw3]; exact World.grownBy_alloc _ _ none) (by simp), ⟨v, (hb3.block _ (by have := HR.out.n; omega)).trans v1, below_owns v2 hb3⟩, HR.out.b.trans (hb3.mono HR.out.b.size), Nat.le_trans HR.out.n hb3.size, HR.out.e⟩)
        have d0 : w3.cell? ⟨wo.heap.size, 0, none⟩ = some (.string t) := by rw [hw3]; go_simp
        have d1 : w3.cell? ⟨wo.heap.size, 1, none⟩ = some (.int .i64 q) := by rw [hw3]; go_simp
        have hlt3 : wo.heap.size < w3.heap.size := by rw [hw3]; simp
        have HWB := Lib.hid (show w.heap.size + 2 ≤ wo.heap.size from HR.out.n)
        obtain ⟨wb, hwb⟩ : ∃ wb, wb = wo.heap.size := ⟨_, rfl⟩
        rw [← hw3, ← hwb]
        rw [← hwb] at d0 d1 hlt3 HWB
        clear hw3 c0 c1 hb3 HR hwb
        cases hwd : isWd t
        · have HV := Lib.hid (show dcFirst B n = 2 by rw [HLA.out (by rw [HST.out, HWE.out, hwd, if_pos rfl]; decide), HST.out, HWE.out, hwd, if_pos rfl])
          go_wp2_with (first | (go_at_call 37; refine (isWordP_any t _ hz).mono ?_; rintro e w' ⟨rfl, rfl⟩))
          go_ret2
          exact .inl ⟨by rw [HE.out, HV.out]; decide, by rw [HE.out, HV.out]; rfl, S3.out.b⟩
        · have hmx := HM4.out hwd
          have HWD := Lib.hid hwd
          by_cases hq : 1 ≤ q ∧ q ≤ 1000000000
          · have HQ := Lib.hid hq
            obtain ⟨q1, q2⟩ := hq
            obtain ⟨v, v1, v2⟩ := S3.out.d
            have e1 : w3.cell? ⟨w.heap.size + 1, 1, none⟩ = some (.map (some w.heap.size)) := by simp [World.cell?, v1]
            have HH := Lib.hid (has_any (cntT B k) (w.heap.size + 1) w.heap.size k t w3 e1 S3.out.m hmx)
            rw [HSE.out] at HH
            cases hse : seenT B k t
            · rw [hse] at HH
              have HV := Lib.hid (show dcFirst B (k + 1) = 0 by rw [HST.out, HWE.out, hwd, if_neg (by decide), if_pos ⟨q1, q2⟩, hse, if_neg (by decide)])
              go_upto_region 13 with (first | (go_at_call 37; refine (isWordP_any t _ hz).mono ?_; rintro e w' ⟨rfl, rfl⟩) | (go_at_call 29; (with_reducible refine (outside_no q 1 1000000000 _ HQ.out).mono ?_); rintro e w' ⟨rfl, rfl⟩) | (go_at_call 20; (with_reducible refine HH.out.mono ?_); rintro e w' ⟨rfl, rfl⟩))
              have hn2 := S3.out.n
              have hvb : v.ownBlock ≠ some (w.heap.size + 1) ∧ v.ownBlock ≠ some w.heap.size := ⟨fun e => by have := (v2.lt _ e).1; omega, fun e => by have := (v2.lt _ e).1; omega⟩
              obtain ⟨w4, hst4, S4, G4⟩ := strMap_store (f' := cntT B (k + 1)) (x := q) (strMap_kept S3.out.m (below_grown0 (Below.refl _ _).drew) (by simp)) (by unfold maxLen; omega) hmx (WalkArith.wf_i64 (by omega)) (by rw [HNX.out, if_pos rfl]) (fun u hu => by rw [HNX.out, if_neg (fun e => hu e.symm)])
              have v14 : w4.heap[w.heap.size + 1]? = some (.cells #[v, .map (some w.heap.size)] 77 (0, 0)) := grown_block G4 (show w3.drew.heap[w.heap.size + 1]? = _ from v1) (by simp)
              have v24 : w4.ownsRow (w.heap.size + 2) 9 1 v k (textsOf B k) := (below_owns v2 (Below.refl _ _).drew).kept G4 (.inr hvb.2)
              have b4 : Below w.heap.size w w4 := (S3.out.b.trans (show Below w.heap.size w3 w3.drew from (Below.refl _ _).drew)).grown G4 S3.out.b.size (fun j hj => by cases hj; exact Nat.le_refl _)
              have n4 : w.heap.size + 2 ≤ w4.heap.size := Nat.le_trans hn2 G4.size
              obtain ⟨g0, g1, g2, g3⟩ := block2 v14
              have S5 := Lib.hid (show DictR' w B w.heap.size (w.heap.size + 1) k v w4 from ⟨S4, v14, v24, b4, n4, HV.out⟩)
              have hl4 := (Array.getElem?_eq_some_iff.1 v14).1
              have d04 : w4.cell? ⟨wb, 0, none⟩ = some (.string t) := by rw [World.cell?_of_block (G4.block wb (show wb < w3.drew.heap.size from hlt3) (by have := HWB.out; simp; omega))]; exact d0
              clear S4 G4 v2 b4 hn2
              go_region
              go_wp2_with fail
              go_region_law ((refine step_append_lies _ (by rfl) _ _ _ (by rfl) (w.heap.size + 2) 9 i0 (.string ⟨#[]⟩) 1 16 Try.underlying45 hi hz0 hz1 hz2 rfl (by omega) v k _ (by rfl) ((below_owns v24 (Below.refl _ _).drew).alloc _) ⟨w4.heap.size, 0, none⟩ 1 1 [.string t] (by rfl) (by rfl) (cell_one_new _ _ _) (by simp [Value.oneCell']) (by omega) (by unfold maxLen; omega) (by omega) (by first | (simp; done) | (simp; omega)) (w4.heap.size + 1) (by simp) ?_; intro gg cap w5 hown5 hgrow hat hlt5; have hgr := grow_after hgrow; have hb5 := block2 (grown_block hgr v14 (fun e => hvb.1 e.symm)); have hfz5 := hb5.2.2.1; have hcl5 := hb5.1; clear hb5))
              all_goals
                have RR := Lib.hid (S5.out.put HTX.out hown5 hgr)
                clear hown5 hgrow hat hlt5 hfz5 hcl5 hgr
                go_wp2_with fail
                go_roundw
                case rel => exact ⟨k + 1, by omega, by go_num, RR⟩
                case measure => simp [intOf]; omega
            · rw [hse] at HH
              have HV := Lib.hid (show dcFirst B n = 6 by rw [HLA.out (by rw [HST.out, HWE.out, hwd, if_neg (by decide), if_pos ⟨q1, q2⟩, hse, if_pos rfl]; decide), HST.out, HWE.out, hwd, if_neg (by decide), if_pos ⟨q1, q2⟩, hse, if_pos rfl])
              clear v1 v2 e1
              go_wp2_with (first | (go_at_call 37; refine (isWordP_any t _ hz).mono ?_; rintro e w' ⟨rfl, rfl⟩) | (go_at_call 29; (with_reducible refine (outside_no q 1 1000000000 _ HQ.out).mono ?_); rintro e w' ⟨rfl, rfl⟩) | (go_at_call 20; (with_reducible refine HH.out.mono ?_); rintro e w' ⟨rfl, rfl⟩))
              go_ret2
              exact .inl ⟨by rw [HE.out, HV.out]; decide, by rw [HE.out, HV.out]; rfl, S3.out.b⟩
          · have HQ := Lib.hid hq
            have HV := Lib.hid (show dcFirst B n = 3 by rw [HLA.out (by rw [HST.out, HWE.out, hwd, if_neg (by decide), if_neg hq]; decide), HST.out, HWE.out, hwd, if_neg (by decide), if_neg hq])
            clear hq
            go_wp2_with (first | (go_at_call 37; refine (isWordP_any t _ hz).mono ?_; rintro e w' ⟨rfl, rfl⟩) | (go_at_call 29; (with_reducible refine (outside_yes q 1 1000000000 _ HQ.out).mono ?_); rintro e w' ⟨rfl, rfl⟩))
            go_ret2
            exact .inl ⟨by rw [HE.out, HV.out]; decide, by rw [HE.out, HV.out]; rfl, S3.out.b⟩
      · obtain rfl : k = n := by omega
        obtain ⟨v, v1, v2⟩ := HR.out.d
        have HV1 := Lib.hid v1
        have HV2 := Lib.hid v2
        obtain ⟨g0, g1, g2, g3⟩ := block2 v1
        have HS := sortT_any (w.heap.size + 2) v (listT B k) wo (by rw [listT_len]; exact h5') (by rw [listT_len, listT_txt]; exact v2) HR.out.n
        have HN := Lib.hid HS
        clear v1 v2 HS
        go_wp2_with fail
        refine HN.out.mono ?_
        rintro e w2 ⟨rfl, r1, r2, r3⟩
        have RR := Lib.hid (HR.out.done HV1.out HV2.out r1 r2)
        clear r1 r2 r3
        go_wp2_with fail
        go_ret2
        exact .inr ⟨by rw [HE.out, HR.out.e], _, rfl, RR.out.1, RR.out.2⟩

end Go.Proofs.Ytmoplmjfnjgcaaa
namespace Go.Proofs.Ytmoplmjfnjgcaaa
open Go.RowKit Go.Maps
set_option linter.unusedSimpArgs false
set_option linter.unusedVariables false

theorem listT_getD (B : Nat → Wd) (n i : Nat) (h : i < n) : (listT B n).getD i [] = (B i).t.data.toList := by simp [listT, List.getD, h]
theorem owns_len {w : World} {base : Nat} {e : TypeId} {size : Nat} {v : Value} {n : Nat} {xs : List Value} (h : w.ownsRow base e size v n xs) : ∃ p c, v = .slice p n c := by
  rcases h.2 with ⟨h0, h1⟩ | ⟨g, cap, cur, h0, _⟩
  · exact ⟨none, 0, by rw [h0, h1]⟩
  · exact ⟨_, _, h0⟩

/-- The reference's dictionary in memory. -/
def RDictAt (w : World) (S : Nat → Wd) (n db : Nat) : Prop :=
  ∃ p c, w.cell? ⟨db, 0, none⟩ = some (.slice p n c) ∧ (0 < n → ∃ g, p = some ⟨g, 0, none⟩ ∧ WordsAt w g 0 n S)
theorem RDictAt.later {w w' : World} {n db : Nat} {S : Nat → Wd} (h : RDictAt w S n db) (hb : Below w.heap.size w w') : RDictAt w' S n db := by
  obtain ⟨p, c, h1, h2⟩ := h
  refine ⟨p, c, cell_later hb h1, fun hp => ?_⟩
  obtain ⟨g, g1, g2⟩ := h2 hp
  exact ⟨g, g1, g2.later hb⟩

/-- The count of the first of n words that is x. -/
def CntIs (S : Nat → Wd) (n : Nat) (x : ByteArray) (r : Int) : Prop :=
  (∃ i, i < n ∧ (S i).t = x ∧ r = (S i).c) ∨ ((∀ i, i < n → (S i).t ≠ x) ∧ r = 0)

theorem ba_beq (a b : ByteArray) : (a.toList == b.toList) = decide (a = b) := by
  by_cases h : a = b
  · subst h; simp
  · rw [decide_eq_false h]
    apply Bool.eq_false_iff.2
    intro e
    exact h (WideShapes.bytes_inj (by simpa [Lib.toList_data] using e))

set_option maxHeartbeats 1000000 in
set_option maxRecDepth 100000 in
theorem countR_any (S : Nat → Wd) (n db : Nat) (x : ByteArray) (w : World) (hn : n ≤ 5000) (h : RDictAt w S n db) :
    Calls Try.prog 19 #[.pointer (some ⟨db, 0, none⟩), .string x] w fun e w' => ∃ r, e = .returned (.int .i64 r) ∧ CntIs S n x r ∧ Below w.heap.size w w' := by
  obtain ⟨p, c, h1, h2⟩ := h
  have H2 := Lib.hid h2
  have HLB := Lib.hid (Below.refl w.heap.size w)
  clear h2
  go_enter Try.func19, Try.ntmps19
  go_wp2_with fail
  go_loopw [12] (fun i wr => ∃ k : Nat, k ≤ n ∧ i = .int .i64 k ∧ Hid ((∀ j, j < k → (S j).t ≠ x) ∧ Below w.heap.size w wr)) (fun i _ => n - (intOf i).toNat)
  case atStart => exact ⟨0, Nat.zero_le _, rfl, Lib.hid ⟨fun j hj => by omega, HLB.out⟩⟩
  case round =>
    obtain ⟨k, hk, rfl, HR⟩ := hrel
    obtain ⟨wo, rfl⟩ : ∃ wo : World, wo = wr := ⟨_, rfl⟩
    by_cases hlt : k < n
    · have j1 : (k : Int) < (n : Int) := by omega
      obtain ⟨g, rfl, hw⟩ := H2.out (by omega)
      obtain ⟨c0, c1⟩ := (hw.later HR.out.2) k hlt
      rw [Nat.zero_add] at c0 c1
      have HT : ∀ t, t = (S k).t → t ≠ x → ∀ j, j < k + 1 → (S j).t ≠ x := fun t ht hx j hj => by
        by_cases e : j = k
        · subst e; rw [← ht]; exact hx
        · exact HR.out.1 j (by omega)
      have HI : ∀ t q, t = (S k).t → q = (S k).c → t = x → CntIs S n x q := fun t q ht hq hx => .inl ⟨k, hlt, by rw [← ht]; exact hx, hq⟩
      have hB1 : Below w.heap.size w (wo.alloc (.cells #[.string (S k).t, .int .i64 (S k).c] 79)) := HR.out.2.trans ((new_below _ _).mono HR.out.2.size)
      generalize hS : (S k).t = t at *
      generalize hQ : (S k).c = q at *
      have HT' := Lib.hid (HT t rfl)
      have HI' := Lib.hid (HI t q rfl rfl)
      have HB1 := Lib.hid hB1
      have hbq := ba_beq t x
      clear HT HI hw hB1 hS hQ
      by_cases e : t = x
      · have hbt : (t.toList == x.toList) = true := by rw [hbq, decide_eq_true e]
        clear hbq
        go_wp2_with fail
        go_ret
        exact ⟨q, rfl, HI'.out e, by first | exact HB1.out | (rw [← e]; exact HB1.out)⟩
      · have hbt : (t.toList == x.toList) = false := by rw [hbq, decide_eq_false e]
        clear hbq
        go_wp2_with fail
        go_roundw
        case rel => exact ⟨k + 1, by omega, by go_num, Lib.hid ⟨HT'.out e, HB1.out⟩⟩
        case measure => simp [intOf]; omega
    · obtain rfl : k = n := by omega
      go_wp2_with fail
      go_ret
      exact ⟨0, rfl, .inr ⟨HR.out.1, rfl⟩, HR.out.2⟩

end Go.Proofs.Ytmoplmjfnjgcaaa
namespace Go.Proofs.Ytmoplmjfnjgcaaa
open Go.RowKit Go.Maps
set_option linter.unusedSimpArgs false
set_option linter.unusedVariables false

theorem cell_one_at2 {w : World} {b : Nat} (h : w.heap.size = b) (x : Value) (t : TypeId) : ∀ j u, [x][j]? = some u → (w.alloc (.cells #[x] t)).cell? ((⟨b, 0, none⟩ : Addr).add j) = some u := by
  subst h; exact cell_one_new _ _ _

/-- What holds while Begin runs: the first k words are seen. -/
structure BegR (w : World) (M : List (List UInt8)) (s : List UInt8) (m : Int) (k : Nat) (v : Value) (wr : World) : Prop where
  r : wr.ownsRow w.heap.size 9 1 v (beg (M.take k) s m).length ((beg (M.take k) s m).map txt)
  b : Below w.heap.size w wr

set_option maxHeartbeats 2000000 in
set_option maxRecDepth 100000 in
theorem beginR_any (S : Nat → Wd) (n db : Nat) (s : ByteArray) (m : Int) (w : World) (hn : n ≤ 5000) (h : RDictAt w S n db) :
    Calls Try.prog 17 #[.pointer (some ⟨db, 0, none⟩), .string s, .int .i64 m] w fun e w' => ∃ v, e = .returned v ∧ BegR w (listT S n) s.data.toList m n v w' := by
  obtain ⟨i0, hi, hz0, hz1, hz2⟩ := info_parts info_str'
  obtain ⟨p, c, h1, h2⟩ := h
  have H2 := Lib.hid h2
  have HS0 := Lib.hid (show BegR w (listT S n) s.data.toList m 0 (.slice none 0 0) w from ⟨by simpa [beg] using World.ownsRow_nil _ _ _ _, Below.refl _ _⟩)
  have HST := Lib.hid (fun k hk => beg_step (listT S n) s.data.toList m k hk)
  have HG := Lib.hid (fun i hi => listT_getD S n i hi)
  have HLn := Lib.hid (listT_len S n)
  have HLE := Lib.hid (fun k => show (beg ((listT S n).take k) s.data.toList m).length ≤ 5000 by
    unfold beg; rw [List.length_take]
    have := List.length_filter_le (fun x => List.isPrefixOf s.data.toList x) ((listT S n).take k)
    rw [List.length_take, listT_len] at this; omega)
  generalize hL : listT S n = M at *
  clear h2 hL
  go_enter Try.func17, Try.ntmps17
  go_wp2_with fail
  go_loopw [7, 15] (fun v i wr => ∃ k : Nat, k ≤ n ∧ i = .int .i64 k ∧ Hid (BegR w M s.data.toList m k v wr)) (fun _ i _ => n - (intOf i).toNat)
  case atStart => exact ⟨0, Nat.zero_le _, rfl, HS0⟩
  case round =>
    obtain ⟨k, hk, rfl, HR⟩ := hrel
    clear HS0
    obtain ⟨wo, rfl⟩ : ∃ wo : World, wo = wr := ⟨_, rfl⟩
    by_cases hlt : k < n
    · have j1 : (k : Int) < (n : Int) := by omega
      obtain ⟨g, rfl, hw⟩ := H2.out (by omega)
      obtain ⟨c0, c1⟩ := (hw.later HR.out.b) k hlt
      rw [Nat.zero_add] at c0 c1
      have hst := HST.out k (by rw [HLn.out]; exact hlt)
      rw [HG.out k hlt] at hst
      generalize hS : (S k).t = t at *
      generalize hQ : (S k).c = q at *
      obtain ⟨a, cv, hv⟩ := owns_len HR.out.r
      subst hv
      have HST' := Lib.hid hst
      have HLK := Lib.hid (HLE.out k)
      generalize hD : beg (M.take k) s.data.toList m = D at *
      have hHP := Try.strings_HasPrefix t s
      obtain ⟨qq, hqq⟩ : ∃ qq, qq = Lib.hasPrefix t.data.toList s.data.toList := ⟨_, rfl⟩
      rw [← hqq] at hHP
      have HQQ := Lib.hid hqq
      have hHP := Lib.hid hHP
      have B1 := Lib.hid (show Below w.heap.size w (wo.alloc (.cells #[.string t, .int .i64 q] 79)) from HR.out.b.trans ((new_below _ _).mono HR.out.b.size))
      have O1 := Lib.hid (show (wo.alloc (.cells #[.string t, .int .i64 q] 79)).ownsRow w.heap.size 9 1 (.slice a D.length cv) D.length (D.map txt) from by have := HR.out.r.alloc (.cells #[.string t, .int .i64 q] 79); rw [hD] at this; exact this)
      have hwb := HR.out.b.size
      clear hst hw hS hQ hqq HR hD
      cases qq
      · have hsame : beg (M.take (k + 1)) s.data.toList m = D := by rw [HST'.out, if_neg (fun hh => by have := hh.1; rw [show List.isPrefixOf s.data.toList t.data.toList = false from HQQ.out.symm] at this; cases this)]
        have RR := Lib.hid (show BegR w M s.data.toList m (k + 1) (.slice a D.length cv) (wo.alloc (.cells #[.string t, .int .i64 q] 79)) from ⟨by rw [hsame]; exact O1.out, B1.out⟩)
        clear hsame
        go_wp2_with (go_at_call 44; refine (hHP.out _).mono ?_; rintro e w' ⟨rfl, rfl⟩)
        go_roundw
        case rel => exact ⟨k + 1, by omega, by go_num, RR⟩
        case measure => simp [intOf]; omega
      · by_cases hlm : (D.length : Int) < m
        · have hnext : beg (M.take (k + 1)) s.data.toList m = D ++ [t.data.toList] := by rw [HST'.out, if_pos ⟨HQQ.out.symm, hlm⟩]
          have HNX := Lib.hid hnext
          clear hnext
          go_wp2_with (first | (go_at_call 44; refine (hHP.out _).mono ?_; rintro e w' ⟨rfl, rfl⟩) | (at_builtin; refine wpList_append_own _ rfl _ _ 45 rfl w.heap.size 9 i0 (.string ⟨#[]⟩) 1 16 Try.underlying45 hi hz0 hz1 hz2 rfl (by decide) _ _ _ rfl (O1.out.alloc _) ⟨wo.heap.size + 1, 0, none⟩ 1 1 [.string t] rfl rfl ?c1 ?c2 ?c3 ?c4 ?c5 ?_))
          case c1 => exact cell_one_at2 (by simp) _ _
          case c2 => intro u hu; simp at hu; subst hu; rfl
          case c3 => have := HLK.out; unfold maxLen; omega
          case c4 => have := HLK.out; omega
          case c5 => simp; omega
          · intro v' w2 hown2 hgr2 _
            have RR := Lib.hid (show BegR w M s.data.toList m (k + 1) v' w2 from ⟨by rw [HNX.out, List.length_append, List.map_append]; simpa [txt_of] using hown2,
              (B1.out.alloc (by simp; omega) _).grown hgr2 (by simp; omega) (fun j hj => (O1.out.lt j hj).1)⟩)
            clear hown2 hgr2
            go_wp2_with fail
            go_roundw
            case rel => exact ⟨k + 1, by omega, by go_num, RR⟩
            case measure => simp [intOf]; omega
        · have hsame : beg (M.take (k + 1)) s.data.toList m = D := by rw [HST'.out, if_neg (fun hh => hlm hh.2)]
          have RR := Lib.hid (show BegR w M s.data.toList m (k + 1) (.slice a D.length cv) (wo.alloc (.cells #[.string t, .int .i64 q] 79)) from ⟨by rw [hsame]; exact O1.out, B1.out⟩)
          clear hsame
          go_wp2_with (go_at_call 44; refine (hHP.out _).mono ?_; rintro e w' ⟨rfl, rfl⟩)
          go_roundw
          case rel => exact ⟨k + 1, by omega, by go_num, RR⟩
          case measure => simp [intOf]; omega
    · obtain rfl : k = n := by omega
      go_wp2_with fail
      go_ret
      exact ⟨_, rfl, HR.out⟩

end Go.Proofs.Ytmoplmjfnjgcaaa
namespace Go.Proofs.Ytmoplmjfnjgcaaa
open Go.RowKit Go.Maps
set_option linter.unusedSimpArgs false
set_option linter.unusedVariables false

/-- Where a list in order reaches a text. -/
theorem edge (M : List (List UInt8)) (hM : Ord M) (s : List UInt8) : ∀ n, n ≤ M.length → ∃ k, k ≤ n ∧ (∀ i, i < k → Op.bytesLess (M.getD i []) s = true) ∧ ∀ i, k ≤ i → i < n → Op.bytesLess (M.getD i []) s = false
  | 0, _ => ⟨0, Nat.le_refl _, fun i h => by omega, fun i _ h => by omega⟩
  | n + 1, hn => by
    by_cases h : Op.bytesLess (M.getD n []) s = true
    · refine ⟨n + 1, Nat.le_refl _, fun i hi => ?_, fun i h1 h2 => by omega⟩
      have ho := hM i n (by omega) (by omega)
      by_cases e : Op.bytesLess (M.getD i []) (M.getD n []) = true
      · exact bl_trans _ _ _ e h
      · rw [bl_total _ _ (by simpa using e) ho]; exact h
    · obtain ⟨k, h1, h2, h3⟩ := edge M hM s n (by omega)
      refine ⟨k, by omega, h2, fun i hi1 hi2 => ?_⟩
      by_cases e : i = n
      · subst e; simpa using h
      · exact h3 i hi1 (by omega)

def bsx (M : List (List UInt8)) (s : List UInt8) (i : Nat) : ByteArray := ⟨(if i < M.length then M.getD i [] else s).toArray⟩
theorem bsx_at (M : List (List UInt8)) (s : List UInt8) (i : Nat) (hi : i < M.length) : Value.string (bsx M s i) = txt (M.getD i []) := by unfold bsx; rw [if_pos hi]

theorem bs_edge (M : List (List UInt8)) (hM : Ord M) (s : ByteArray) : ∃ k, Lib.bsGo (fun t => Op.bytesLess (bsx M s.data.toList t).toList s.toList) M.length 0 M.length = k ∧ k ≤ M.length ∧
    (∀ i, i < k → Op.bytesLess (M.getD i []) s.data.toList = true) ∧ ∀ i, k ≤ i → i < M.length → Op.bytesLess (M.getD i []) s.data.toList = false := by
  obtain ⟨k, h1, h2, h3⟩ := edge M hM s.data.toList M.length (Nat.le_refl _)
  refine ⟨k, Lib.bsGo_spec _ k (fun t ht => ?_) (fun t ht => ?_) _ _ _ (by omega) (by omega) h1, h1, h2, h3⟩
  · simp only [Lib.toList_data, bsx, List.toList_toArray]
    rw [if_pos (by omega)]; exact h2 t ht
  · simp only [Lib.toList_data, bsx, List.toList_toArray]
    split
    · exact h3 t ht (by assumption)
    · exact bl_irrefl _

set_option maxHeartbeats 2000000 in
set_option maxRecDepth 100000 in
theorem beginD_any (B : Nat → Wd) (n base db : Nat) (s : ByteArray) (m : Int) (w : World) (hn : n ≤ 5000) (h : DictAt w base B n db) :
    Calls Try.prog 22 #[.pointer (some ⟨db, 0, none⟩), .string s, .int .i64 m] w fun e w' => ∃ v, e = .returned v ∧ BegR w (sortL (listT B n)) s.data.toList m n v w' := by
  obtain ⟨i0, hi, hz0, hz1, hz2⟩ := info_parts info_str'
  obtain ⟨mb, v, _, h1, _, h2⟩ := h
  have hl : (sortL (listT B n)).length = n := by rw [sortL_len, listT_len]
  have hO := sortL_ord (listT B n)
  generalize sortL (listT B n) = M at *
  rcases h2 with ⟨rfl, rfl⟩ | ⟨g, c, rfl, hc, _, hw⟩
  · have hbs := Any2.slices_BinarySearch_string_empty Try.bsS none 0 s w
    have HZ := Lib.hid (show BegR w [] s.data.toList m n (.slice none 0 0) w from ⟨by simpa [beg] using World.ownsRow_nil _ _ _ _, Below.refl _ _⟩)
    clear hO
    go_enter Try.func22, Try.ntmps22
    go_wp2_with fail
    refine Calls.mono hbs ?_
    rintro e w' ⟨rfl, rfl⟩
    go_wp2_with fail
    go_loopw [7, 11, 28] (fun v x i wr => v = .slice none 0 0 ∧ i = .int .i64 0 ∧ wr = w') (fun _ _ _ _ => 0)
    case atStart => exact ⟨rfl, rfl, rfl⟩
    case round =>
      obtain ⟨rfl, rfl, rfl⟩ := hrel
      go_wp2_with fail
      go_ret
      exact ⟨_, rfl, HZ.out⟩
  · subst hl
    obtain ⟨k0, hk0, hk1, hk2, hk3⟩ := bs_edge M hO s
    have hbs := Any2.slices_BinarySearch_string Try.bsS g 0 M.length c (bsx M s.data.toList) s w (by omega) (fun j hj => by rw [Nat.zero_add, bsx_at _ _ _ hj]; exact hw j hj)
    rw [hk0] at hbs
    have HS0 := Lib.hid (fun q => show BegR w M s.data.toList m k0 (.slice none 0 0) (w.drewN q) from ⟨by rw [beg_start M _ m k0 hk1 hk2]; exact World.ownsRow_nil _ _ _ _, below_drewN (Below.refl _ _) q⟩)
    have HST := Lib.hid (fun k hk => beg_step M s.data.toList m k hk)
    have HFU := Lib.hid (fun k hk => beg_full M s.data.toList m k hk)
    have HOV := Lib.hid (fun k hk h2 => beg_over M hO s.data.toList m k hk (hk3 k h2 hk))
    have HLE := Lib.hid (fun k => show (beg (M.take k) s.data.toList m).length ≤ 5000 by
      unfold beg; rw [List.length_take]
      have := List.length_filter_le (fun x => List.isPrefixOf s.data.toList x) (M.take k)
      rw [List.length_take] at this; omega)
    have HTA := Lib.hid (show beg M s.data.toList m = beg (M.take M.length) s.data.toList m by rw [List.take_length])
    have HW := Lib.hid hw
    clear hw hO hk2 hk3 hk0
    go_enter Try.func22, Try.ntmps22
    go_wp2_with fail
    refine Calls.mono hbs ?_
    rintro e w' ⟨rfl, qd, rfl⟩
    have HS1 := Lib.hid (HS0.out qd)
    obtain ⟨w1, hw1⟩ : ∃ w1, w1 = w.drewN qd := ⟨_, rfl⟩
    have h1' : w1.cell? ⟨db, 0, none⟩ = some (.slice (some ⟨g, 0, none⟩) M.length c) := by rw [hw1]; exact h1
    rw [← hw1] at HS1 ⊢
    clear hw1 HS0 h1 hbs
    by_cases hcc : c = k0
    · have hk : k0 = M.length := by omega
      subst hcc
      rw [hk] at HS1
      have hk0 : ((M.length : Int) - (c : Int)) = 0 := by omega
      have hk2 : M.length - c = 0 := by omega
      go_wp2_with fail
      go_loopw [7, 11, 28] (fun v x i wr => v = .slice none 0 0 ∧ i = .int .i64 0 ∧ wr = w1) (fun _ _ _ _ => 0)
      case atStart => exact ⟨rfl, rfl, rfl⟩
      case round =>
        obtain ⟨rfl, rfl, rfl⟩ := hrel
        go_wp2_with fail
        go_ret
        exact ⟨_, rfl, HS1.out⟩
    · have hcc' : k0 < c := by omega
      go_wp2_with fail
      go_loopw [7, 11, 28] (fun v x i wr => ∃ k : Nat, k0 + k ≤ M.length ∧ i = .int .i64 k ∧ Hid (BegR w M s.data.toList m (k0 + k) v wr)) (fun _ _ i _ => M.length - k0 - (intOf i).toNat)
      case atStart => exact ⟨0, by omega, rfl, HS1⟩
      case round =>
        obtain ⟨k, hk, rfl, HR⟩ := hrel
        obtain ⟨wo, rfl⟩ : ∃ wo : World, wo = wr := ⟨_, rfl⟩
        by_cases hlt : k0 + k < M.length
        · have j1 : (k : Int) < (M.length : Int) - (k0 : Int) := by omega
          have j2 : k < M.length - k0 := by omega
          have c0 := cell_later HR.out.b (HW.out (k0 + k) hlt)
          have hst := HST.out (k0 + k) hlt
          have hfu := HFU.out (k0 + k)
          have hov := HOV.out (k0 + k) hlt (by omega)
          obtain ⟨a, cv, hv⟩ := owns_len HR.out.r
          subst hv
          obtain ⟨t, ht⟩ : ∃ t : ByteArray, t = ⟨(M.getD (k0 + k) []).toArray⟩ := ⟨_, rfl⟩
          have ht' : M.getD (k0 + k) [] = t.data.toList := by rw [ht]
          have htx : txt (M.getD (k0 + k) []) = .string t := by rw [ht']
          rw [htx] at c0
          rw [ht'] at hst hov
          have HLK := Lib.hid (HLE.out (k0 + k))
          generalize hD : beg (M.take (k0 + k)) s.data.toList m = D at *
          have hHP := Try.strings_HasPrefix t s
          obtain ⟨qq, hqq⟩ : ∃ qq, qq = Lib.hasPrefix t.data.toList s.data.toList := ⟨_, rfl⟩
          rw [← hqq] at hHP
          have HQQ := Lib.hid hqq
          have hHP := Lib.hid hHP
          have B1 := Lib.hid HR.out.b
          have O1 := Lib.hid (show wo.ownsRow w.heap.size 9 1 (.slice a D.length cv) D.length (D.map txt) from by have := HR.out.r; rw [hD] at this; exact this)
          have HST' := Lib.hid hst
          have HFU' := Lib.hid hfu
          have HOV' := Lib.hid hov
          have hwb := HR.out.b.size
          clear hst hfu hov HR hD ht ht' htx hqq
          by_cases hml : m ≤ (D.length : Int)
          · have HF := Lib.hid (show BegR w M s.data.toList m M.length (.slice a D.length cv) wo from ⟨by rw [← HTA.out, HFU'.out hml]; exact O1.out, B1.out⟩)
            go_wp2_with fail
            go_ret
            exact ⟨_, rfl, HF.out⟩
          · have hlm : (D.length : Int) < m := by omega
            cases qq
            · have HF := Lib.hid (show BegR w M s.data.toList m M.length (.slice a D.length cv) wo from ⟨by rw [← HTA.out, HOV'.out HQQ.out.symm]; exact O1.out, B1.out⟩)
              go_wp2_with (go_at_call 44; refine (hHP.out _).mono ?_; rintro e w' ⟨rfl, rfl⟩)
              go_ret
              exact ⟨_, rfl, HF.out⟩
            · have HNX := Lib.hid (show beg (M.take (k0 + k + 1)) s.data.toList m = D ++ [t.data.toList] by rw [HST'.out, if_pos ⟨HQQ.out.symm, hlm⟩])
              go_wp2_with (first | (go_at_call 44; refine (hHP.out _).mono ?_; rintro e w' ⟨rfl, rfl⟩) | (at_builtin; refine wpList_append_own _ rfl _ _ 45 rfl w.heap.size 9 i0 (.string ⟨#[]⟩) 1 16 Try.underlying45 hi hz0 hz1 hz2 rfl (by decide) _ _ _ rfl (O1.out.alloc _) ⟨w'.heap.size, 0, none⟩ 1 1 [.string t] rfl rfl ?c1 ?c2 ?c3 ?c4 ?c5 ?_))
              case c1 => exact cell_one_new _ _ _
              case c2 => intro u hu; simp at hu; subst hu; rfl
              case c3 => have := HLK.out; unfold maxLen; omega
              case c4 => have := HLK.out; omega
              case c5 => simp; omega
              · intro v' w2 hown2 hgr2 _
                have RR := Lib.hid (show BegR w M s.data.toList m (k0 + (k + 1)) v' w2 from ⟨by rw [← Nat.add_assoc, HNX.out, List.length_append, List.map_append]; simpa [txt_of] using hown2,
                  (B1.out.alloc (by omega) _).grown hgr2 (by simp; omega) (fun j hj => (O1.out.lt j hj).1)⟩)
                clear hown2 hgr2
                go_wp2_with fail
                go_roundw
                case rel => exact ⟨k + 1, by omega, by go_num, RR⟩
                case measure => simp [intOf]; omega
        · have hk : k0 + k = M.length := by omega
          rw [hk] at HR
          go_wp2_with fail
          go_ret
          exact ⟨_, rfl, HR.out⟩

end Go.Proofs.Ytmoplmjfnjgcaaa
namespace Go.Proofs.Ytmoplmjfnjgcaaa
open Go.RowKit Go.Maps Go.Sort Go.Lib
set_option linter.unusedSimpArgs false
set_option linter.unusedVariables false

theorem cb_lt : ∀ a b : List UInt8, decide (Lib.compareBytes a b < 0) = Op.bytesLess a b
  | [], [] => rfl
  | [], _ :: _ => rfl
  | _ :: _, [] => rfl
  | a :: x, b :: y => by
    rw [Lib.compareBytes, Op.bytesLess, ← cb_lt x y]
    by_cases h : a < b
    · simp [h]
    · by_cases h2 : b < a
      · have : a ≠ b := fun e => by subst e; exact h h2
        simp [h, h2, this]
      · have : a = b := by
          apply UInt8.toNat_inj.1
          rw [UInt8.lt_iff_toNat_lt] at h h2
          omega
        simp [h, h2, this]

def txtAt (B : Nat → Wd) (i : Nat) : List UInt8 := (B i).t.data.toList
def wcmp (B : Nat → Wd) (m : Nat) (i j : Fin (m + 1)) : Int := Lib.compareBytes (txtAt B i.1) (txtAt B j.1)
theorem wcmp_lt (B : Nat → Wd) (m : Nat) (i j : Fin (m + 1)) : ltOf (wcmp B m) i j = Op.bytesLess (txtAt B i.1) (txtAt B j.1) := by unfold ltOf wcmp; exact cb_lt _ _
theorem wcmp_swo (B : Nat → Wd) (m : Nat) : SWO (ltOf (wcmp B m)) where
  irrefl x := by rw [wcmp_lt]; exact bl_irrefl _
  trans x y z h1 h2 := by rw [wcmp_lt] at *; exact bl_trans _ _ _ h1 h2
  ntrans x y z h1 h2 := by
    rw [wcmp_lt] at *
    apply Classical.byContradiction
    intro h
    have h : Op.bytesLess (txtAt B x.1) (txtAt B z.1) = true := by simpa using h
    by_cases e : Op.bytesLess (txtAt B y.1) (txtAt B x.1) = true
    · rw [bl_trans _ _ _ e h] at h2; cases h2
    · rw [bl_total _ _ h1 (by simpa using e)] at h; rw [h] at h2; cases h2

theorem seenT_no {B : Nat → Wd} {s : ByteArray} : ∀ {k : Nat}, seenT B k s = false → ∀ i, i < k → (B i).t ≠ s
  | 0, _, i, hi => by omega
  | k + 1, h, i, hi => by
    simp only [seenT, Bool.or_eq_false_iff, decide_eq_false_iff_not] at h
    by_cases e : i = k
    · subst e; exact h.2
    · exact seenT_no h.1 i (by omega)
theorem dc_step {B : Nat → Wd} {n : Nat} (h : dcFirst B (n + 1) = 0) : dcFirst B n = 0 ∧ wdErr B n = 0 := by
  have h0 : dcFirst B n = 0 := by
    apply Classical.byContradiction
    intro h1
    rw [dcFirst, if_neg h1] at h
    exact h1 h
  exact ⟨h0, by rw [dcFirst, if_pos h0] at h; exact h⟩
theorem dc_apart {B : Nat → Wd} : ∀ {n : Nat}, dcFirst B n = 0 → ∀ i j, i < j → j < n → (B i).t ≠ (B j).t
  | 0, _, i, j, _, hj => by omega
  | n + 1, h, i, j, hij, hj => by
    obtain ⟨h0, hw⟩ := dc_step h
    by_cases e : j = n
    · subst e
      have : seenT B j (B j).t = false := by
        unfold wdErr at hw
        split at hw
        · cases hw
        · split at hw
          · split at hw
            · cases hw
            · simpa using ‹¬ seenT B j (B j).t = true›
          · cases hw
      exact seenT_no this i hij
    · exact dc_apart h0 i j hij (by omega)
theorem dc_inj {B : Nat → Wd} {n : Nat} (h : dcFirst B n = 0) {i j : Nat} (hi : i < n) (hj : j < n) (e : (B i).t = (B j).t) : i = j := by
  rcases Nat.lt_trichotomy i j with k | k | k
  · exact absurd e (dc_apart h i j k hj)
  · exact k
  · exact absurd e.symm (dc_apart h j i k hi)
theorem cnt_at {B : Nat → Wd} : ∀ {n : Nat}, dcFirst B n = 0 → ∀ i, i < n → cntT B n (B i).t = (B i).c
  | 0, _, i, hi => by omega
  | n + 1, h, i, hi => by
    rw [cntT]
    by_cases e : i = n
    · subst e; rw [if_pos rfl]
    · rw [if_neg (fun k => e (dc_inj h hi (by omega) (Eq.symm k))), cnt_at (dc_step h).1 i (by omega)]
theorem cnt_no {B : Nat → Wd} {x : ByteArray} : ∀ {n : Nat}, (∀ i, i < n → (B i).t ≠ x) → cntT B n x = 0
  | 0, _ => rfl
  | n + 1, h => by rw [cntT, if_neg (h n (by omega)), cnt_no (fun i hi => h i (by omega))]

/-- The places in order. -/
def fins (m : Nat) : List (Fin (m + 1)) := List.ofFn fun i : Fin (m + 1) => i
def inOrder (B : Nat → Wd) (m : Nat) : List (Fin (m + 1)) := (fins m).mergeSort fun x y => !(ltOf (wcmp B m)) y x
theorem fins_len (m : Nat) : (fins m).length = m + 1 := by simp [fins]
theorem inOrder_len (B : Nat → Wd) (m : Nat) : (inOrder B m).length = m + 1 := by rw [inOrder, List.length_mergeSort, fins_len]
def sorted (B : Nat → Wd) (m : Nat) (i : Nat) : Wd := B ((inOrder B m).toArray[i]!).1

theorem fins_map (B : Nat → Wd) (m : Nat) : (fins m).map (fun i => txtAt B i.1) = listT B (m + 1) := by
  apply List.ext_getElem
  · simp [fins, listT]
  · intro i h1 h2
    simp only [fins, listT, txtAt, List.getElem_map, List.getElem_ofFn, List.getElem_range]

theorem sorted_list (B : Nat → Wd) (m : Nat) : listT (sorted B m) (m + 1) = sortL (listT B (m + 1)) := by
  have e1 : listT (sorted B m) (m + 1) = (inOrder B m).map (fun i => txtAt B i.1) := by
    apply List.ext_getElem
    · simp [listT, inOrder_len]
    · intro i h1 h2
      have hi : i < (inOrder B m).length := by simpa using h2
      simp [listT, sorted, txtAt, hi]
  rw [e1, inOrder, List.map_mergeSort (s := fun x y => decide (x ≤ y)) (fun a _ b _ => by rw [wcmp_lt, le_bl]), fins_map]
  rfl

theorem mem_inOrder (B : Nat → Wd) (m : Nat) (j : Fin (m + 1)) : j ∈ inOrder B m := (List.mergeSort_perm (fins m) _).mem_iff.2 (by unfold fins; exact List.mem_ofFn.2 ⟨j, rfl⟩)

theorem sorted_cnt {B : Nat → Wd} {m : Nat} (h : dcFirst B (m + 1) = 0) {x : ByteArray} {r : Int} (hr : CntIs (sorted B m) (m + 1) x r) : r = cntT B (m + 1) x := by
  rcases hr with ⟨i, hi, ht, rfl⟩ | ⟨hno, rfl⟩
  · rw [← ht]; exact (cnt_at h _ ((inOrder B m).toArray[i]!).2).symm
  · refine (cnt_no fun j hj => ?_).symm
    obtain ⟨i, hi, he⟩ := List.getElem_of_mem (mem_inOrder B m ⟨j, hj⟩)
    have := hno i (by rw [inOrder_len] at hi; exact hi)
    unfold sorted at this
    rwa [show (inOrder B m).toArray[i]! = ⟨j, hj⟩ by simp [hi, he]] at this

end Go.Proofs.Ytmoplmjfnjgcaaa
namespace Go.Proofs.Ytmoplmjfnjgcaaa
open Go.RowKit
set_option linter.unusedSimpArgs false
set_option linter.unusedVariables false

/-- A box is in a page of W by H. -/
def InP (X Y bw bh : Int) (W H : Int) : Prop := (0 ≤ X ∧ X ≤ W - 1) ∧ (0 ≤ Y ∧ Y ≤ H - 1) ∧ (1 ≤ bw ∧ bw ≤ W - X) ∧ (1 ≤ bh ∧ bh ≤ H - Y)

end Go.Proofs.Ytmoplmjfnjgcaaa
namespace Go.Proofs.Ytmoplmjfnjgcaaa
open Go.RowKit
set_option linter.unusedSimpArgs false
set_option linter.unusedVariables false

instance (X Y bw bh W H : Int) : Decidable (InP X Y bw bh W H) := by unfold InP; infer_instance

/-- The error of a cut: of the page, else of the box. -/
def cutErr (a b : Int) (n : Nat) (X Y bw bh : Int) : Int := if pageErr a b n = 0 then (if InP X Y bw bh a b then 0 else 13) else pageErr a b n

/-- What a cut is, in memory: nothing with an error; else the places of the box. -/
def CutIs (a b : Int) (n : Nat) (X Y bw bh : Int) (z : Nat → Bool) (B : Nat) (w : World) (i j : Int) (sl : Option Addr) (n' c' : Nat) : Prop :=
  (cutErr a b n X Y bw bh ≠ 0 ∧ i = 0 ∧ j = 0 ∧ sl = none ∧ n' = 0 ∧ c' = 0) ∨
  (cutErr a b n X Y bw bh = 0 ∧ i = bw ∧ j = bh ∧ n' = bw.toNat * bh.toNat ∧ ∃ g, B ≤ g ∧ sl = some ⟨g, 0, none⟩ ∧ ∀ k, k < n' → w.cell? ⟨g, 0 + k, none⟩ = some (.bool (z ((Y.toNat + k / bw.toNat) * a.toNat + X.toNat + k % bw.toNat))))

theorem CutIs.later {a b : Int} {n : Nat} {X Y bw bh : Int} {z : Nat → Bool} {B : Nat} {w w' : World} {i j : Int} {sl : Option Addr} {n' c' : Nat} (h : CutIs a b n X Y bw bh z B w i j sl n' c') (hb : Below w.heap.size w w') : CutIs a b n X Y bw bh z B w' i j sl n' c' := by
  rcases h with h | ⟨h1, h2, h3, h4, g, h5, h6, h7⟩
  · exact .inl h
  · exact .inr ⟨h1, h2, h3, h4, g, h5, h6, fun k hk => cell_later hb (h7 k hk)⟩
end Go.Proofs.Ytmoplmjfnjgcaaa
