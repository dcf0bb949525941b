/-
  What boxes_holds leans on: contracts of the functions that it calls.
-/
import Derived.Test.YtljjbdfpegjmcaaRows
import Derived.WalkKit
import Derived.WalkSpells
import Derived.WalkLawsBesides
import Derived.Lib.Hide
import Derived.Deep.RegionHeld3
import Derived.Shelf.Abstract
import Derived.Deep.QuietTactic
import Derived.BigQuiet
import Derived.Deep.AppendLies
import Derived.Deep.DrawnRows
import Derived.Deep.RegionLaw
import Derived.ProofKit
import Derived.OpenShut
import Derived.ShutString
import Derived.ChangeOld
import Derived.Lib.SmallJoins
import Derived.Deep.Grids
import Derived.Deep.DeepCutAuto
import Derived.Lib.MinMax
import Derived.Laws.EntriesVeiled
import Derived.RegionTactic
import Derived.ChangeAlike
import Derived.BigRegion
import Derived.StillTailTactics
import Derived.Deep.OwnRows
import Derived.Deep.AppendSrc
import Derived.Shelf.Sort.Plain
import Derived.Test.YtljjbdfpegjmcaaProg
import Derived.Test.YtljjbdfpegjmcaaCBoxes2
namespace Go.Proofs.Ytljjbdfpegjmcaa
open Go.RowKit
set_option linter.unusedSimpArgs false
set_option linter.unusedVariables false

/-- The numbers that are joined with the k-th of the group come behind it; the others stay. -/
def bfs1 (c : Nat → Nat → Bool) (s : List Nat × List Nat) (k : Nat) : List Nat × List Nat :=
  if k < s.1.length then (s.1 ++ s.2.filter (fun j => c (s.1.getD k 0) j), s.2.filter (fun j => !c (s.1.getD k 0) j)) else s
def bfsN (c : Nat → Nat → Bool) (s : List Nat × List Nat) : Nat → List Nat × List Nat
  | 0 => s
  | k + 1 => bfs1 c (bfsN c s k) k
def bfsAll (c : Nat → Nat → Bool) (s : List Nat × List Nat) : List Nat × List Nat := bfsN c s (s.1.length + s.2.length)

theorem filter_both {α : Type} (p : α → Bool) (l : List α) : (l.filter p).length + (l.filter (fun x => !p x)).length = l.length := by
  induction l with
  | nil => rfl
  | cons a t ih =>
    cases h : p a <;> simp [List.filter_cons, h] <;> omega
theorem bfs1_len (c : Nat → Nat → Bool) (s : List Nat × List Nat) (k : Nat) : (bfs1 c s k).1.length + (bfs1 c s k).2.length = s.1.length + s.2.length := by
  unfold bfs1
  split
  · have := filter_both (fun j => c (s.1.getD k 0) j) s.2
    simp only [List.length_append]
    omega
  · rfl
theorem bfsN_len (c : Nat → Nat → Bool) (s : List Nat × List Nat) (k : Nat) : (bfsN c s k).1.length + (bfsN c s k).2.length = s.1.length + s.2.length := by
  induction k with
  | zero => rfl
  | succ k ih => rw [bfsN, bfs1_len, ih]
theorem bfsN_stay (c : Nat → Nat → Bool) (s : List Nat × List Nat) (k m : Nat) (h : (bfsN c s k).1.length ≤ k) (hm : k ≤ m) : bfsN c s m = bfsN c s k := by
  induction m with
  | zero => rw [show k = 0 by omega]
  | succ m ih =>
    rcases Nat.lt_or_eq_of_le hm with h1 | h1
    · have := ih (by omega)
      rw [bfsN, this]
      unfold bfs1
      rw [if_neg (by omega)]
    · rw [h1]
theorem bfsAll_of (c : Nat → Nat → Bool) (s : List Nat × List Nat) (k : Nat) (h : (bfsN c s k).1.length = k) : bfsAll c s = bfsN c s k := by
  have := bfsN_len c s k
  exact bfsN_stay c s k _ (by omega) (by omega)
theorem bfsN_lt (c : Nat → Nat → Bool) (s : List Nat × List Nat) (n : Nat) (h : ∀ x, (x ∈ s.1 ∨ x ∈ s.2) → x < n) (k : Nat) : ∀ x, (x ∈ (bfsN c s k).1 ∨ x ∈ (bfsN c s k).2) → x < n := by
  induction k with
  | zero => exact h
  | succ k ih =>
    intro x hx
    rw [bfsN] at hx
    unfold bfs1 at hx
    split at hx
    · rcases hx with hx | hx
      · rcases List.mem_append.1 hx with hx | hx
        · exact ih x (.inl hx)
        · exact ih x (.inr (List.mem_filter.1 hx).1)
      · exact ih x (.inr (List.mem_filter.1 hx).1)
    · exact ih x hx
theorem bfsN_sub (c : Nat → Nat → Bool) (s : List Nat × List Nat) (k : Nat) : (bfsN c s k).2.Sublist s.2 := by
  induction k with
  | zero => exact List.Sublist.refl _
  | succ k ih =>
    rw [bfsN]
    unfold bfs1
    split
    · exact List.Sublist.trans List.filter_sublist ih
    · exact ih
theorem bfsN_pos (c : Nat → Nat → Bool) (s : List Nat × List Nat) (k : Nat) (h : 0 < s.1.length) : 0 < (bfsN c s k).1.length := by
  induction k with
  | zero => exact h
  | succ k ih =>
    rw [bfsN]
    unfold bfs1
    split
    · rw [List.length_append]; omega
    · exact ih

/-- One group more, sorted. -/
def sortN (l : List Nat) : List Int := (l.map fun x : Nat => (x : Int)).mergeSort (fun x y => decide (x ≤ y))
def grp1 (c : Nat → Nat → Bool) (s : List (List Int) × List Nat) : List (List Int) × List Nat :=
  match s.2 with
  | [] => s
  | a :: t => (s.1 ++ [sortN (bfsAll c ([a], t)).1], (bfsAll c ([a], t)).2)
def grpN (c : Nat → Nat → Bool) (s : List (List Int) × List Nat) : Nat → List (List Int) × List Nat
  | 0 => s
  | k + 1 => grp1 c (grpN c s k)

theorem bfsAll_short (c : Nat → Nat → Bool) (a : Nat) (t : List Nat) : (bfsAll c ([a], t)).2.length ≤ t.length := (bfsN_sub c ([a], t) _).length_le
theorem grp1_nil (c : Nat → Nat → Bool) (s : List (List Int) × List Nat) (h : s.2 = []) : grp1 c s = s := by unfold grp1; rw [h]
theorem grp1_cons (c : Nat → Nat → Bool) (s : List (List Int) × List Nat) (a : Nat) (t : List Nat) (h : s.2 = a :: t) : grp1 c s = (s.1 ++ [sortN (bfsAll c ([a], t)).1], (bfsAll c ([a], t)).2) := by unfold grp1; rw [h]
theorem grpN_stay (c : Nat → Nat → Bool) (s : List (List Int) × List Nat) (k m : Nat) (h : (grpN c s k).2 = []) (hm : k ≤ m) : grpN c s m = grpN c s k := by
  induction m with
  | zero => rw [show k = 0 by omega]
  | succ m ih =>
    rcases Nat.lt_or_eq_of_le hm with h1 | h1
    · rw [grpN, ih (by omega), grp1_nil _ _ h]
    · rw [h1]
theorem grpN_end (c : Nat → Nat → Bool) (s : List (List Int) × List Nat) (k m : Nat) (hk : (grpN c s k).2 = []) (hm : (grpN c s m).2 = []) : grpN c s k = grpN c s m := by
  rcases Nat.le_total k m with h | h
  · exact (grpN_stay c s k m hk h).symm
  · exact grpN_stay c s m k hm h
theorem grpN_sub (c : Nat → Nat → Bool) (s : List (List Int) × List Nat) (k : Nat) : (grpN c s k).2.Sublist s.2 := by
  induction k with
  | zero => exact List.Sublist.refl _
  | succ k ih =>
    rw [grpN]
    cases h : (grpN c s k).2 with
    | nil => rw [grp1_nil _ _ h]; exact ih
    | cons a t =>
      rw [grp1_cons _ _ a t h]
      have h1 : (bfsAll c ([a], t)).2.Sublist t := bfsN_sub c ([a], t) _
      have h2 : t.Sublist (grpN c s k).2 := by rw [h]; exact List.sublist_cons_self a t
      exact (h1.trans h2).trans ih
theorem grpN_count (c : Nat → Nat → Bool) (s : List (List Int) × List Nat) (k : Nat) : (grpN c s k).1.length + (grpN c s k).2.length ≤ s.1.length + s.2.length := by
  induction k with
  | zero => exact Nat.le_refl _
  | succ k ih =>
    rw [grpN]
    cases h : (grpN c s k).2 with
    | nil => rw [grp1_nil _ _ h]; exact ih
    | cons a t =>
      rw [grp1_cons _ _ a t h]
      have h1 := bfsAll_short c a t
      rw [h] at ih
      simp only [List.length_append, List.length_cons, List.length_nil] at ih ⊢
      omega
/-- All groups of the numbers from 0 to before n. -/
def Grouped (c : Nat → Nat → Bool) (n : Nat) (Ls : List (List Int)) : Prop := ∃ m, grpN c ([], List.range n) m = (Ls, [])
theorem Grouped.unique {c : Nat → Nat → Bool} {n : Nat} {L M : List (List Int)} (h : Grouped c n L) (k : Grouped c n M) : L = M := by
  obtain ⟨a, ha⟩ := h
  obtain ⟨b, hb⟩ := k
  have := grpN_end c ([], List.range n) a b (by rw [ha]) (by rw [hb])
  rw [ha, hb] at this
  exact (Prod.mk.inj this).1

end Go.Proofs.Ytljjbdfpegjmcaa
namespace Go.Proofs.Ytljjbdfpegjmcaa
open Go.RowKit
set_option linter.unusedSimpArgs false
set_option linter.unusedVariables false

/-- One element appended where there is room: it is stored behind the last one. -/
theorem run_append_in {P : Program} (w : World) (t ty e : TypeId) (i : TypeInfo) (ht : P.underlying t = some (.slice e)) (hi : P.info? e = some i) (hz : i.size = 1) (b off n cap : Nat) (ad : Addr) (v : Value)
    (hv : w.cell? ad = some v) (h1 : v.oneCell' = true) (hroom : n + 1 ≤ cap) (hc : (w.cell? ⟨b, off + n, none⟩).isSome = true) (hf : w.frozen? ⟨b, off + n, none⟩ = false) :
    (Builtin.append_ #[t, t] ty #[.slice (some ⟨b, off, none⟩) n cap, .slice (some ad) 1 1]).run P w = .ok (.slice (some ⟨b, off, none⟩) (n + 1) cap) (w.setCell ⟨b, off + n, none⟩ v) := by
  have hs : Src P i.size t (.slice (some ad) 1 1) 1 [v] w := by
    refine Src.ofSlice w ht ad 1 1 [v] (by simp [hz]) ?_ ?_
    · intro j u hu
      match j, hu with
      | 0, hu =>
        simp only [List.getElem?_cons_zero, Option.some.injEq] at hu
        subst hu
        have : ad.add 0 = ad := by cases ad; simp [Addr.add]
        rw [this]; exact hv
      | j + 1, hu => simp at hu
    · intro u hu; simp at hu; subst hu; exact h1
  have := run_append_room_src (P := P) w t t ty e i ht hi b off n cap (.slice (some ad) 1 1) 1 [v] hs hroom (by
      intro j hj
      have : j = 0 := by simpa using hj
      subst this
      rw [hz, Nat.mul_one, Nat.add_zero]; exact hc) (by
      intro j hj
      have : j = 0 := by simpa using hj
      subst this
      rw [hz, Nat.mul_one, Nat.add_zero]; exact hf)
  rw [hz, Nat.mul_one] at this
  exact this

theorem wpList_append_in {P : Program} (w : World) {ops : Array Oper} {rest : List Oper} {o : Oper} {a : Act} {Q : Exit → Act → World → Prop} (hgd : o.guard = none) (s x : Operand) (t : TypeId)
    (ho : o.op = .call { callee := .builtin .append, args := #[s, x], argTypes := #[t, t] })
    (e : TypeId) (i : TypeInfo) (ht : P.underlying t = some (.slice e)) (hi : P.info? e = some i) (hz : i.size = 1) (b off n cap : Nat) (ad : Addr) (v : Value)
    (hs : a.eval s = .slice (some ⟨b, off, none⟩) n cap) (hx : a.eval x = .slice (some ad) 1 1)
    (hv : w.cell? ad = some v) (h1 : v.oneCell' = true) (hroom : n + 1 ≤ cap) (hc : (w.cell? ⟨b, off + n, none⟩).isSome = true) (hf : w.frozen? ⟨b, off + n, none⟩ = false)
    (h : wpList P ops Q rest (a.put o.dst (.slice (some ⟨b, off, none⟩) (n + 1) cap)) (w.setCell ⟨b, off + n, none⟩ v)) : wpList P ops Q (o :: rest) a w := by
  refine wpList_plain hgd fun K hK => ?_
  have hr := run_append_in (P := P) w t o.type e i ht hi hz b off n cap ad v hv h1 hroom hc hf
  unfold Oper.wp execOp
  simp only [ho, resolve, invoke, builtin, Sem.run_bind, Sem.run_pure, Result.andThen_ok, List.map_toArray, List.map_cons, List.map_nil, hs, hx, hr]
  exact hK _ _ h

theorem bar_below {W a b : World} {r : Option Nat} (h : W.grownBy a r) (k : Below a.heap.size a b) : W.grownBy b r :=
  ⟨k.os.trans h.os, k.tape.trans h.tape, k.output.trans h.output, Nat.le_trans h.size k.size, fun i hi hn => (k.block i (Nat.lt_of_lt_of_le hi h.size)).trans (h.block i hi hn)⟩
theorem bar_refl (W : World) (r : Option Nat) : W.grownBy W r := ⟨rfl, rfl, rfl, Nat.le_refl _, fun _ _ _ => rfl⟩
theorem bar_grown {W a b : World} {r r' : Option Nat} (h : W.grownBy a r) (k : a.grownBy b r') (hr : ∀ j, r' = some j → W.heap.size ≤ j) : W.grownBy b r :=
  ⟨k.os.trans h.os, k.tape.trans h.tape, k.output.trans h.output, Nat.le_trans h.size k.size, fun i hi hn => (k.block i (Nat.lt_of_lt_of_le hi h.size) (fun e => by have := hr i e.symm; omega)).trans (h.block i hi hn)⟩
theorem bar_set {W a : World} {r o : Nat} {v : Value} (h : W.grownBy a (some r)) : W.grownBy (a.setCell ⟨r, o, none⟩ v) (some r) :=
  ⟨h.os, h.tape, h.output, by simpa using h.size, fun i hi hn => (Below.heap_setCell _ _ _ _ (fun e => hn (by rw [e]))).trans (h.block i hi hn)⟩
theorem bar_trans {W a b : World} {r : Option Nat} (h : W.grownBy a r) (k : a.grownBy b r) : W.grownBy b r :=
  ⟨k.os.trans h.os, k.tape.trans h.tape, k.output.trans h.output, Nat.le_trans h.size k.size, fun i hi hn => (k.block i (Nat.lt_of_lt_of_le hi h.size) hn).trans (h.block i hi hn)⟩
theorem bar_cell {W a : World} {r b o : Nat} {v : Value} (h : W.grownBy a (some r)) (hb : b ≠ r) (hv : W.cell? ⟨b, o, none⟩ = some v) : a.cell? ⟨b, o, none⟩ = some v := by
  have hlt : b < W.heap.size := by
    have := World.block_lt_of_cell? _ _ hv
    simpa using this
  rw [World.cell?_of_block (w := W) (h.block b hlt (fun e => hb (by simpa using e)))]
  exact hv

/-- A list of numbers in memory, which may be written. -/
def NumsIn (w : World) (b off : Nat) (R : List Nat) : Prop := ∀ j, j < R.length → w.cell? ⟨b, off + j, none⟩ = some (.int .i64 ((R.getD j 0 : Nat) : Int)) ∧ w.frozen? ⟨b, off + j, none⟩ = false
/-- On the way: i of them have been looked at, F of these were kept. -/
structure MidIn (w : World) (b off : Nat) (R : List Nat) (i : Nat) (F : List Nat) : Prop where
  le : F.length ≤ i
  new : ∀ j, j < F.length → w.cell? ⟨b, off + j, none⟩ = some (.int .i64 ((F.getD j 0 : Nat) : Int))
  old : ∀ j, i ≤ j → j < R.length → w.cell? ⟨b, off + j, none⟩ = some (.int .i64 ((R.getD j 0 : Nat) : Int))
  all : ∀ j, j < R.length → (w.cell? ⟨b, off + j, none⟩).isSome = true ∧ w.frozen? ⟨b, off + j, none⟩ = false

theorem MidIn.start {w : World} {b off : Nat} {R : List Nat} (h : NumsIn w b off R) : MidIn w b off R 0 [] :=
  ⟨Nat.le_refl _, fun j hj => by simp at hj, fun j _ hj => (h j hj).1, fun j hj => ⟨by rw [(h j hj).1]; rfl, (h j hj).2⟩⟩
theorem MidIn.block {w w' : World} {b off i : Nat} {R F : List Nat} (h : MidIn w b off R i F) (e : w'.heap[b]? = w.heap[b]?) : MidIn w' b off R i F :=
  ⟨h.le, fun j hj => (World.cell?_of_block (a := ⟨b, off + j, none⟩) e).trans (h.new j hj), fun j h1 hj => (World.cell?_of_block (a := ⟨b, off + j, none⟩) e).trans (h.old j h1 hj), fun j hj => ⟨by rw [World.cell?_of_block (a := ⟨b, off + j, none⟩) e]; exact (h.all j hj).1, (World.frozen?_of_block (a := ⟨b, off + j, none⟩) e).trans (h.all j hj).2⟩⟩
theorem MidIn.drop {w : World} {b off i : Nat} {R F : List Nat} (h : MidIn w b off R i F) : MidIn w b off R (i + 1) F :=
  ⟨Nat.le_succ_of_le h.le, h.new, fun j h1 hj => h.old j (by omega) hj, h.all⟩
theorem MidIn.keep {w : World} {b off i : Nat} {R F : List Nat} (h : MidIn w b off R i F) (hi : i < R.length) (x : Nat) : MidIn (w.setCell ⟨b, off + F.length, none⟩ (.int .i64 (x : Int))) b off R (i + 1) (F ++ [x]) := by
  have hle := h.le
  refine ⟨by simp; omega, fun j hj => ?_, fun j h1 hj => ?_, fun j hj => ⟨?_, ?_⟩⟩
  · rw [List.length_append, List.length_singleton] at hj
    by_cases e : j = F.length
    · subst e
      obtain ⟨u, hu⟩ := Option.isSome_iff_exists.1 (h.all F.length (by omega)).1
      rw [World.cell?_setCell_same _ _ _ hu]
      simp [List.getD]
    · rw [World.cell?_setCell_other _ _ _ _ (by first | (simp; done) | (simp; omega)), h.new j (by omega)]
      simp only [List.getD]
      rw [List.getElem?_append_left (by omega)]
  · rw [World.cell?_setCell_other _ _ _ _ (by first | (simp; done) | (simp; omega))]
    exact h.old j (by omega) hj
  · obtain ⟨u, hu⟩ := Option.isSome_iff_exists.1 (h.all j hj).1
    obtain ⟨v', hv'⟩ := cell?_setCell_some (p := ⟨b, off + F.length, none⟩) (x := .int .i64 (x : Int)) hu
    rw [hv']; rfl
  · rw [World.frozen?_setCell]; exact (h.all j hj).2
theorem MidIn.finish {w : World} {b off : Nat} {R F : List Nat} (h : MidIn w b off R R.length F) : NumsIn w b off F := fun j hj => ⟨h.new j hj, (h.all j (by have := h.le; omega)).2⟩

theorem filter_take (p : Nat → Bool) (R : List Nat) (i : Nat) (hi : i < R.length) : (R.take (i + 1)).filter p = (R.take i).filter p ++ (if p (R.getD i 0) then [R.getD i 0] else []) := by
  rw [List.take_succ_eq_append_getElem hi, List.filter_append]
  congr 1
  simp only [List.getD, List.getElem?_eq_getElem hi, Option.getD_some]
  cases h : p R[i] <;> simp [List.filter_cons, h]

def natsOf (l : List Nat) : List Value := l.map fun x => Value.int .i64 ((x : Nat) : Int)
theorem natsOf_get (l : List Nat) (j : Nat) (h : j < l.length) : (natsOf l)[j]? = some (.int .i64 ((l.getD j 0 : Nat) : Int)) := by simp [natsOf, List.getD, h]
theorem natsOf_snoc (l : List Nat) (x : Nat) : natsOf l ++ [.int .i64 ((x : Nat) : Int)] = natsOf (l ++ [x]) := by simp [natsOf]

theorem owns_one (w : World) (v : Value) : (w.alloc (.cells #[v] 3)).ownsRow w.heap.size 3 1 (.slice (some ⟨w.heap.size, 0, none⟩) 1 1) 1 [v] :=
  ⟨rfl, .inr ⟨w.heap.size, 1, #[v], rfl, Nat.le_refl _, heap_alloc_new _ _, Nat.le_refl _, by decide, rfl, rfl⟩⟩

end Go.Proofs.Ytljjbdfpegjmcaa
namespace Go.Proofs.Ytljjbdfpegjmcaa
open Go.RowKit
set_option linter.unusedSimpArgs false
set_option linter.unusedVariables false

/-- A group in memory of the call's own. -/
def Grown (w : World) (B : Nat) (v : Value) (G : List Nat) : Prop := w.ownsRow B 3 1 v G.length (natsOf G)
theorem Grown.shape {w : World} {B : Nat} {v : Value} {G : List Nat} (h : Grown w B v G) (hp : 0 < G.length) : ∃ gb c, v = .slice (some ⟨gb, 0, none⟩) G.length c ∧ B ≤ gb ∧ gb < w.heap.size := by
  rcases h.2 with ⟨h0, h1⟩ | ⟨g, cap, cur, h0, hb, hg, _⟩
  · omega
  · exact ⟨g, cap, h0, hb, (Array.getElem?_eq_some_iff.1 hg).1⟩

/-- Between two rounds of the outer loop. -/
structure OutR (W : World) (rb off : Nat) (c : Nat → Nat → Bool) (s : List Nat × List Nat) (k : Nat) (v : Value) (w : World) : Prop where
  g : Grown w W.heap.size v (bfsN c s k).1
  r : NumsIn w rb off (bfsN c s k).2
  b : W.grownBy w (some rb)

theorem outR_start (W : World) (rb off1 : Nat) (c : Nat → Nat → Bool) (a : Nat) (t : List Nat) (hrb : rb < W.heap.size) (h : NumsIn W rb off1 t) :
    OutR W rb off1 c ([a], t) 0 (.slice (some ⟨W.heap.size, 0, none⟩) 1 1) (W.alloc (.cells #[.int .i64 ((a : Nat) : Int)] 3)).drew := by
  refine ⟨owns_one W _, fun j hj => ?_, bar_below (bar_refl W _) (new_below W _).drew⟩
  have e : (W.alloc (.cells #[.int .i64 ((a : Nat) : Int)] 3)).drew.heap[rb]? = W.heap[rb]? := Below.heap_alloc W _ rb hrb
  exact ⟨(World.cell?_of_block (a := ⟨rb, off1 + j, none⟩) e).trans (h j hj).1, (World.frozen?_of_block (a := ⟨rb, off1 + j, none⟩) e).trans (h j hj).2⟩
theorem nums_tail {W : World} {rb off a : Nat} {t : List Nat} (h : NumsIn W rb off (a :: t)) : NumsIn W rb (off + 1) t := fun j hj => by
  have := h (j + 1) (by simp; omega)
  rw [show off + 1 + j = off + (j + 1) by omega]
  simpa using this

theorem Grown.cell {w : World} {B gb cg k : Nat} {G : List Nat} (h : Grown w B (.slice (some ⟨gb, 0, none⟩) G.length cg) G) (hk : k < G.length) : w.cell? ⟨gb, k, none⟩ = some (.int .i64 ((G.getD k 0 : Nat) : Int)) := by
  have := h.cellAt k (by omega)
  rw [natsOf_get _ _ hk] at this
  exact this
theorem Grown.later {w w' : World} {B : Nat} {v : Value} {G : List Nat} (h : Grown w B v G) (hb : Below w.heap.size w w') : Grown w' B v G := below_owns h hb

theorem Grown.alloc {w : World} {B : Nat} {v : Value} {G : List Nat} (h : Grown w B v G) (o : Obj) : Grown (w.alloc o) B v G := World.ownsRow.alloc h o
theorem Grown.lt {w : World} {B : Nat} {v : Value} {G : List Nat} (h : Grown w B v G) (j : Nat) (hj : v.ownBlock = some j) : B ≤ j := (World.ownsRow.lt h j hj).1
theorem grown_set {w : World} {B b o : Nat} {v x : Value} {G : List Nat} (h : Grown w B v G) (hb : b < B) : Grown (w.setCell ⟨b, o, none⟩ x) B v G := ownsRow_setCell_below h hb x
theorem MidIn.alloc {w : World} {b off i B : Nat} {R F : List Nat} (h : MidIn w b off R i F) (hb : b < B) (hB : B ≤ w.heap.size) (o : Obj) : MidIn (w.alloc o) b off R i F := h.block (Below.heap_alloc w o b (by omega))
theorem cell_one_at (w : World) (v : Value) (t : TypeId) : (w.alloc (.cells #[v] t)).cell? ⟨w.heap.size, 0, none⟩ = some v := by rw [World.cell?_alloc_at _ _ _ _ rfl]; rfl

/-- Between two rounds of the inner loop: i of the rest have been looked at. -/
structure InR (W : World) (rb off : Nat) (p : Nat → Bool) (G R : List Nat) (i : Nat) (v : Value) (w : World) : Prop where
  g : Grown w W.heap.size v (G ++ (R.take i).filter p)
  r : MidIn w rb off R i ((R.take i).filter (fun x => !p x))
  b : W.grownBy w (some rb)

set_option maxHeartbeats 2000000 in
set_option maxRecDepth 100000 in
theorem groupOfFirst_any (n rb off cap g a : Nat) (t : List Nat) (capt : Array Value) (c : Nat → Nat → Bool) (W : World) (hn : n ≤ 100000) (hlen : t.length + 1 ≤ cap) (hcap : t.length ≤ 100000) (hlt : ∀ x, x ∈ a :: t → x < n) (hR : NumsIn W rb off (a :: t)) (hrb : rb < W.heap.size)
    (eg : ∀ (args : Array Value) (w : World), (callFunc g args).run Try.prog w = .ok (.enter g args) w)
    (HC : ∀ i j wx, i < n → j < n → W.grownBy wx (some rb) → Calls Try.prog g (#[.int .i64 i, .int .i64 j] ++ capt) wx fun e w' => e = .returned (.bool (c i j)) ∧ Below wx.heap.size wx w') :
    Calls Try.prog 57 #[.slice (some ⟨rb, off, none⟩) (t.length + 1) cap, .func (.func g) #[] capt] W fun e w' =>
      ∃ v off' cap', e = .returned (.tuple #[v, .slice (some ⟨rb, off', none⟩) (bfsAll c ([a], t)).2.length cap']) ∧ Grown w' W.heap.size v (bfsAll c ([a], t)).1 ∧ NumsIn w' rb off' (bfsAll c ([a], t)).2 ∧ (bfsAll c ([a], t)).2.length ≤ cap' ∧ cap' ≤ cap ∧ W.grownBy w' (some rb) := by
  obtain ⟨i0, hi, hz0, hz1, hz2⟩ := info_parts info_int
  have hc0 := (hR 0 (by simp)).1
  rw [Nat.add_zero] at hc0
  simp only [List.getD_cons_zero] at hc0
  have p1 : 0 < t.length + 1 := by omega
  have p2 : (0 : Int) < ((t.length + 1 : Nat) : Int) := by omega
  have HR := Lib.hid hR
  have HL := Lib.hid hlt
  have HCC := Lib.hid HC
  have HE := Lib.hid eg
  have HRB := Lib.hid hrb
  clear hR hlt HC eg hrb
  go_enter Try.func57, Try.ntmps57
  go_wp2_with fail
  go_cut [4, 5] from 10 to 16 (fun v4 v5 wx => ∃ off1, v5 = .slice (some ⟨rb, off1, none⟩) t.length (cap - 1) ∧ Hid (OutR W rb off1 c ([a], t) 0 v4 wx))
  case first =>
    by_cases h1 : cap = 1
    · subst h1
      obtain rfl : t = [] := by cases t; rfl; simp at hlen
      go_region
      all_goals
        go_wp2_with fail
        go_meet
        case rel => exact ⟨off, rfl, Lib.hid (outR_start W rb off c a [] HRB.out (fun j hj => by simp at hj))⟩
    · have q1 : ((cap : Nat) : Int) ≠ 1 := by omega
      have q2 : cap - 1 ≠ 0 := by omega
      have q3 : 0 < cap - 1 := by omega
      go_region
      all_goals
        go_wp2_with fail
        go_meet
        case rel => exact ⟨off + 1, rfl, Lib.hid (outR_start W rb (off + 1) c a t HRB.out (nums_tail HR.out))⟩
  case rest =>
    obtain ⟨w1, rfl⟩ : ∃ w1, w1 = wc := ⟨_, rfl⟩
    obtain ⟨off1, rfl, HF⟩ := hcut
    clear hc0 p1 p2 HR
    have LEN := Lib.hid (bfsN_len c ([a], t))
    have LTS := Lib.hid (bfsN_lt c ([a], t) n (fun x hx => HL.out x (by rcases hx with hx | hx <;> simp at hx ⊢ <;> simp [hx])))
    have POS := Lib.hid (fun k => bfsN_pos c ([a], t) k (by simp))
    go_wp2_with fail
    go_loopw [4, 5, 6] (fun v4 v5 i wr => ∃ k : Nat, k ≤ (bfsN c ([a], t) k).1.length ∧ i = .int .i64 k ∧ v5 = .slice (some ⟨rb, off1, none⟩) (bfsN c ([a], t) k).2.length (cap - 1) ∧ Hid (OutR W rb off1 c ([a], t) k v4 wr)) (fun _ _ i _ => t.length + 2 - (intOf i).toNat)
    case atStart => exact ⟨0, Nat.zero_le _, rfl, rfl, HF⟩
    case round =>
      obtain ⟨k, hk, rfl, rfl, HO⟩ := hrel
      clear HF
      obtain ⟨gb, cg, rfl, hgb, hgl⟩ := HO.out.g.shape (POS.out k)
      have hlen := LEN.out k
      simp only [List.length_singleton] at hlen
      by_cases hlt : k < (bfsN c ([a], t) k).1.length
      · have hstep : bfsN c ([a], t) (k + 1) = ((bfsN c ([a], t) k).1 ++ (bfsN c ([a], t) k).2.filter (fun j => c ((bfsN c ([a], t) k).1.getD k 0) j), (bfsN c ([a], t) k).2.filter (fun j => !c ((bfsN c ([a], t) k).1.getD k 0) j)) := by
          rw [bfsN]; unfold bfs1; rw [if_pos hlt]
        have HST := Lib.hid hstep
        have HLT := Lib.hid (LTS.out k)
        have HG := HO.out.g
        have HRn := HO.out.r
        have HB := HO.out.b
        have HPO := Lib.hid (bfsN_pos c ([a], t) k (by simp))
        clear hstep HO
        generalize (bfsN c ([a], t) k).1 = G at *
        generalize (bfsN c ([a], t) k).2 = R at *
        obtain ⟨x, hx⟩ : ∃ x, x = G.getD k 0 := ⟨_, rfl⟩
        rw [← hx] at HST
        have hxn : x < n := HLT.out x (.inl (by rw [hx]; simp [List.getD, hlt]))
        have HX := Lib.hid hx
        have HXN := Lib.hid hxn
        have I0 := Lib.hid (show InR W rb off1 (fun j => c x j) G R 0 (.slice (some ⟨gb, 0, none⟩) G.length cg) w1 → True from fun _ => trivial)
        have II := Lib.hid (show InR W rb off1 (fun j => c x j) G R 0 (.slice (some ⟨gb, 0, none⟩) G.length cg) wr from ⟨by simpa using HG, by simpa using MidIn.start HRn, HB⟩)
        have j1 : (k : Int) < (G.length : Int) := by omega
        clear hx hxn HG HRn HB I0 hgb hgl
        go_wp2_with fail
        go_loopw [4, 7, 26] (fun v4 f7 i wx => ∃ m : Nat, m ≤ R.length ∧ i = .int .i64 m ∧ f7 = .slice (some ⟨rb, off1, none⟩) ((R.take m).filter (fun j => !c x j)).length (cap - 1) ∧ Hid (InR W rb off1 (fun j => c x j) G R m v4 wx)) (fun _ _ i _ => R.length - (intOf i).toNat)
        case atStart => exact ⟨0, Nat.zero_le _, rfl, rfl, II⟩
        case round =>
          obtain ⟨m, hm, rfl, rfl, HI⟩ := hrel
          clear II
          have hmid := HI.out.r
          obtain ⟨gb, cg, rfl, hgb, hgl⟩ := HI.out.g.shape (by rw [List.length_append]; omega)
          by_cases hlm : m < R.length
          · have hy0 := hmid.old m (Nat.le_refl _) hlm
            obtain ⟨y, hy⟩ : ∃ y, y = R.getD m 0 := ⟨_, rfl⟩
            have hyn : y < n := HLT.out y (.inr (by rw [hy]; simp [List.getD, hlm]))
            have hft := filter_take (fun j => c x j) R m hlm
            have hff := filter_take (fun j => !c x j) R m hlm
            rw [← hy] at hft hff hy0
            have hgx := HI.out.g.cell (k := k) (by rw [List.length_append]; omega)
            rw [show (G ++ (R.take m).filter (fun j => c x j)).getD k 0 = x by rw [HX.out]; simp only [List.getD]; rw [List.getElem?_append_left hlt]] at hgx
            have HFT := Lib.hid hft
            have HFF := Lib.hid hff
            have hFl := hmid.le
            have hFcell := hmid.all
            have HGR := HI.out.g
            have HBR := Lib.hid HI.out.b
            have HMID := Lib.hid hmid
            have j2 : (m : Int) < (R.length : Int) := by omega
            have j3 : (k : Int) < ((G ++ (R.take m).filter (fun j => c x j)).length : Int) := by rw [List.length_append]; omega
            obtain ⟨G', hG'⟩ : ∃ G', G' = G ++ (R.take m).filter (fun j => c x j) := ⟨_, rfl⟩
            obtain ⟨F, hF⟩ : ∃ F, F = (R.take m).filter (fun j => !c x j) := ⟨_, rfl⟩
            have hGl : G'.length ≤ G.length + R.length := by
              rw [hG', List.length_append]
              have := List.length_filter_le (fun j => c x j) (R.take m)
              have := List.length_take_le m R
              omega
            rw [← hG'] at HGR j3
            rw [← hF] at hFl HMID
            rw [← hG']
            rw [← hF]
            rw [← hF] at HFF
            have HG' := Lib.hid hG'
            have HGG := Lib.hid HGR
            have H1 := HCC.out x y wr HXN.out hyn HBR.out
            have HFL := Lib.hid hFl
            have HAL := Lib.hid hFcell
            have HY := Lib.hid hy
            have B2 := Lib.hid (And.intro hgb hgl)
            clear HI hmid hft hff hG' hF HGR hFl hFcell hy hgb hgl
            cases hcb : c x y
            · have E1 := Lib.hid (show (R.take (m + 1)).filter (fun j => c x j) = (R.take m).filter (fun j => c x j) by rw [HFT.out, hcb]; simp)
              have E2 := Lib.hid (show (R.take (m + 1)).filter (fun j => !c x j) = F ++ [y] by rw [HFF.out, hcb]; simp)
              rw [hcb] at H1
              have HC1 := Lib.hid H1
              have eg := HE.out
              have LR := Lib.hid hlm
              have LC := Lib.hid (show F.length + 1 ≤ cap - 1 by have := HFL.out; have := HPO.out; omega)
              clear hcb H1
              go_wp2_with (first | (go_at_fn g; refine HC1.out.mono ?_; rintro e w6 ⟨rfl, hb6⟩; have O6 := Lib.hid (HGG.out.later hb6); have R6 := Lib.hid (HMID.out.block (hb6.block rb (Nat.lt_of_lt_of_le HRB.out HBR.out.size))); have W6 := Lib.hid (bar_below HBR.out hb6); have S6 := Lib.hid (show W.heap.size ≤ w6.heap.size from Nat.le_trans HBR.out.size hb6.size); clear hb6) | (at_builtin; refine wpList_append_in _ rfl _ _ 38 rfl 3 i0 Try.underlying38 hi hz1 rb off1 F.length (cap - 1) ⟨w6.heap.size, 0, none⟩ (.int .i64 (y : Int)) rfl rfl ?d1 rfl ?d2 ?d3 ?d4 ?_))
              case d1 => exact cell_one_at _ _ _
              case d2 => exact LC.out
              case d3 => exact ((R6.out.alloc HRB.out S6.out _).all F.length (by have := HFL.out; have := LR.out; omega)).1
              case d4 => exact ((R6.out.alloc HRB.out S6.out _).all F.length (by have := HFL.out; have := LR.out; omega)).2
              have G5 := Lib.hid (grown_set (O6.out.alloc (.cells #[.int .i64 ((y : Nat) : Int)] 3)) (b := rb) (o := off1 + F.length) (x := .int .i64 ((y : Nat) : Int)) HRB.out)
              have R5 := Lib.hid ((R6.out.alloc HRB.out S6.out (.cells #[.int .i64 ((y : Nat) : Int)] 3)).keep LR.out y)
              have W5 := Lib.hid (bar_set (o := off1 + F.length) (v := .int .i64 ((y : Nat) : Int)) (bar_below W6.out (new_below w6 (.cells #[.int .i64 ((y : Nat) : Int)] 3))))
              go_wp2_with fail
              go_roundw
              case rel => exact ⟨m + 1, by omega, by go_num, by rw [E2.out, List.length_append, List.length_singleton], Lib.hid ⟨by rw [E1.out, ← HG'.out]; exact G5.out, by rw [E2.out]; exact R5.out, W5.out⟩⟩
              case measure => simp [intOf]; omega
            · have E1 := Lib.hid (show (R.take (m + 1)).filter (fun j => c x j) = (R.take m).filter (fun j => c x j) ++ [y] by rw [HFT.out, hcb]; simp)
              have E2 := Lib.hid (show (R.take (m + 1)).filter (fun j => !c x j) = F by rw [HFF.out, hcb]; simp)
              rw [hcb] at H1
              have HC1 := Lib.hid H1
              have eg := HE.out
              clear hcb H1
              go_wp2_with (first | (go_at_fn g; refine HC1.out.mono ?_; rintro e w6 ⟨rfl, hb6⟩; have O6 := Lib.hid (HGG.out.later hb6); have R6 := Lib.hid (HMID.out.block (hb6.block rb (Nat.lt_of_lt_of_le HRB.out HBR.out.size))); have W6 := Lib.hid (bar_below HBR.out hb6); have S6 := Lib.hid (show W.heap.size ≤ w6.heap.size from Nat.le_trans HBR.out.size hb6.size); clear hb6) | (at_builtin; refine wpList_append_own _ rfl _ _ 38 rfl W.heap.size 3 i0 (.int .i64 0) 1 8 Try.underlying38 hi hz0 hz1 hz2 rfl (by decide) _ _ _ rfl (World.ownsRow.alloc O6.out _) ⟨w6.heap.size, 0, none⟩ 1 1 [.int .i64 (y : Int)] rfl rfl ?c1 ?c2 ?c3 ?c4 ?c5 ?_))
              case c1 => exact cell_one_new _ _ _
              case c2 => intro u hu; simp at hu; subst hu; rfl
              case c3 => unfold maxLen; omega
              case c4 => omega
              case c5 => have := S6.out; simp; omega
              intro v' w5 hown5 hgr5 _
              have G5 := Lib.hid (show Grown w5 W.heap.size v' (G' ++ [y]) by
                unfold Grown
                rw [← natsOf_snoc, List.length_append, List.length_singleton]
                exact hown5)
              have W5 := Lib.hid (bar_grown (bar_below W6.out (new_below w6 _)) hgr5 (fun j hj => O6.out.lt j hj))
              have R5 := Lib.hid (R6.out.block (show w5.heap[rb]? = w6.heap[rb]? from
                (hgr5.block rb (by have := S6.out; have := HRB.out; simp; omega) (fun e => by have := O6.out.lt rb e.symm; have := HRB.out; omega)).trans (Below.heap_alloc w6 _ rb (by have := S6.out; have := HRB.out; omega))))
              clear hown5 hgr5
              go_wp2_with fail
              go_roundw
              case rel => exact ⟨m + 1, by omega, by go_num, by rw [E2.out], Lib.hid ⟨by rw [E1.out, ← List.append_assoc, ← HG'.out]; exact G5.out, by rw [E2.out]; exact R5.out.drop, W5.out⟩⟩
              case measure => simp [intOf]; omega
          · obtain rfl : m = R.length := by omega
            have E1 := Lib.hid (show bfsN c ([a], t) (k + 1) = (G ++ (R.take R.length).filter (fun j => c x j), (R.take R.length).filter (fun j => !c x j)) by rw [List.take_length]; exact HST.out)
            have F1 := Lib.hid (show OutR W rb off1 c ([a], t) (k + 1) (.slice (some ⟨gb, 0, none⟩) (G ++ (R.take R.length).filter (fun j => c x j)).length cg) wr from ⟨by rw [E1.out]; exact HI.out.g, by rw [E1.out]; exact hmid.finish, HI.out.b⟩)
            clear HI hmid
            go_wp2_with fail
            go_roundw
            case rel => exact ⟨k + 1, by rw [E1.out]; simp only [List.length_append]; omega, by go_num, by rw [E1.out], F1⟩
            case measure => simp [intOf]; omega
      · obtain hkl : (bfsN c ([a], t) k).1.length = k := by omega
        have EA := Lib.hid (bfsAll_of c ([a], t) k hkl)
        have HLE := Lib.hid (show (bfsN c ([a], t) k).2.length ≤ cap - 1 by have := POS.out k; omega)
        have HLK := Lib.hid hkl
        have j1 : ¬ (k : Int) < ((bfsN c ([a], t) k).1.length : Int) := by omega
        clear hkl
        go_wp2_with fail
        exact bodyPost_ret (v := .tuple #[.slice (some ⟨gb, 0, none⟩) (bfsN c ([a], t) k).1.length cg, .slice (some ⟨rb, off1, none⟩) (bfsN c ([a], t) k).2.length (cap - 1)]) (by simp [results, Try.results57, go_sem]) rfl ⟨_, off1, cap - 1, by rw [EA.out], by rw [EA.out]; exact HO.out.g, by rw [EA.out]; exact HO.out.r, by rw [EA.out]; exact HLE.out, by omega, HO.out.b⟩

end Go.Proofs.Ytljjbdfpegjmcaa
namespace Go.Proofs
open Go.Shelf
def Try.lays189_ren : Go.Shelf.Ren := ⟨fun | 189 => 58 | 125 => 108 | 257 => 107 | 128 => 149 | 129 => 150 | 294 => 140 | 295 => 141 | 296 => 142 | 297 => 143 | 298 => 144 | 299 => 145 | 216 => 146 | 300 => 147 | 301 => 148 | 328 => 169 | 329 => 170 | 330 => 171 | 331 => 172 | 332 => 173 | 215 => 154 | 343 => 177 | n => n, fun | 28 => 38 | 3 => 3 | 46 => 158 | 0 => 0 | 51 => 82 | 53 => 165 | 4 => 4 | 183 => 188 | 182 => 187 | 131 => 192 | 5 => 5 | 9 => 9 | 218 => 210 | 222 => 214 | 228 => 217 | 229 => 35 | n => n, fun | n => n⟩
theorem Try.lays189 : Go.Proofs.Lays.n189 Try.prog Try.lays189_ren := {
  mixed := by kernel_rfl
  f125 := Try.func108.trans (congrArg some (by kernel_rfl))
  f128 := Try.func149.trans (congrArg some (by kernel_rfl))
  f129 := Try.func150.trans (congrArg some (by kernel_rfl))
  f189 := Try.func58.trans (congrArg some (by kernel_rfl))
  f215 := Try.func154.trans (congrArg some (by kernel_rfl))
  f216 := Try.func146.trans (congrArg some (by kernel_rfl))
  f257 := Try.func107.trans (congrArg some (by kernel_rfl))
  f294 := Try.func140.trans (congrArg some (by kernel_rfl))
  f295 := Try.func141.trans (congrArg some (by kernel_rfl))
  f296 := Try.func142.trans (congrArg some (by kernel_rfl))
  f297 := Try.func143.trans (congrArg some (by kernel_rfl))
  f298 := Try.func144.trans (congrArg some (by kernel_rfl))
  f299 := Try.func145.trans (congrArg some (by kernel_rfl))
  f300 := Try.func147.trans (congrArg some (by kernel_rfl))
  f301 := Try.func148.trans (congrArg some (by kernel_rfl))
  f328 := Try.func169.trans (congrArg some (by kernel_rfl))
  f329 := Try.func170.trans (congrArg some (by kernel_rfl))
  f330 := Try.func171.trans (congrArg some (by kernel_rfl))
  f331 := Try.func172.trans (congrArg some (by kernel_rfl))
  f332 := Try.func173.trans (congrArg some (by kernel_rfl))
  f343 := Try.func177.trans (congrArg some (by kernel_rfl))
  t0 := Try.underlying0
  a0 := Try.isAgg0
  z0 := Try.sizeOf0
  v0 := Try.zeroValue0
  t3 := Try.underlying3
  a3 := Try.isAgg3
  z3 := Try.sizeOf3
  v3 := Try.zeroValue3
  t4 := Try.underlying4
  a4 := Try.isAgg4
  z4 := Try.sizeOf4
  v4 := Try.zeroValue4
  t5 := Try.underlying5
  a5 := Try.isAgg5
  z5 := Try.sizeOf5
  v5 := Try.zeroValue5
  t9 := Try.underlying9
  a9 := Try.isAgg9
  z9 := Try.sizeOf9
  v9 := Try.zeroValue9
  t28 := Try.underlying38
  a28 := Try.isAgg38
  z28 := Try.sizeOf38
  v28 := Try.zeroValue38
  t46 := Try.underlying158
  a46 := Try.isAgg158
  z46 := Try.sizeOf158
  v46 := Try.zeroValue158
  t51 := Try.underlying82
  a51 := Try.isAgg82
  z51 := Try.sizeOf82
  v51 := Try.zeroValue82
  t53 := Try.underlying165
  a53 := Try.isAgg165
  z53 := Try.sizeOf165
  v53 := Try.zeroValue165
  t131 := Try.underlying192
  a131 := Try.isAgg192
  z131 := Try.sizeOf192
  v131 := Try.zeroValue192
  t182 := Try.underlying187
  a182 := Try.isAgg187
  z182 := Try.sizeOf187
  v182 := Try.zeroValue187
  t183 := Try.underlying188
  a183 := Try.isAgg188
  z183 := Try.sizeOf188
  v183 := Try.zeroValue188
  t218 := Try.underlying210
  a218 := Try.isAgg210
  z218 := Try.sizeOf210
  v218 := Try.zeroValue210
  t222 := Try.underlying214
  a222 := Try.isAgg214
  z222 := Try.sizeOf214
  v222 := Try.zeroValue214
  t228 := Try.underlying217
  a228 := Try.isAgg217
  z228 := Try.sizeOf217
  v228 := Try.zeroValue217
  t229 := Try.underlying35
  a229 := Try.isAgg35
  z229 := Try.sizeOf35
  v229 := Try.zeroValue35 }
open Go.Sort Go.RowKit in
theorem Try.slices_Sort_int (blk off cap : Nat) (zs : List Int) (w : World) (hH : Holds (Value.int .i64) w blk off zs.toArray) (hblk : blk < w.heap.size) (hsz : zs.length < 4611686018427387904) :
    Calls Try.prog 58 #[.slice (some ⟨blk, off, none⟩) zs.length cap] w fun e w' =>
      e = .returned (.tuple #[]) ∧ ∃ n os, w' = grow (putRow (Value.int .i64) (Sort.ahead w n) blk off (zs.mergeSort fun x y => decide (x ≤ y)).toArray) os := Any.slices_Sort_int Try.lays189 blk off cap zs w hH hblk hsz
end Go.Proofs
namespace Go.Proofs.Ytljjbdfpegjmcaa
open Go.RowKit
set_option linter.unusedSimpArgs false
set_option linter.unusedVariables false

/-- A sorted group in memory of the call's own. -/
def GrpAt (w : World) (N : Nat) (v : Value) (L : List Int) : Prop :=
  ∃ gb c, v = .slice (some ⟨gb, 0, none⟩) L.length c ∧ N ≤ gb ∧ (∀ j, j < L.length → w.cell? ⟨gb, 0 + j, none⟩ = some (.int .i64 (L.getD j 0))) ∧ ∃ cur fr, w.heap[gb]? = some (.cells cur 3 fr)
def Lists (w : World) (N : Nat) (Ls : List (List Int)) (vals : List Value) : Prop := vals.length = Ls.length ∧ ∀ i, i < Ls.length → GrpAt w N (vals.getD i (.bool false)) (Ls.getD i [])

theorem Lists.nil (w : World) (N : Nat) : Lists w N [] [] := ⟨rfl, fun i hi => by simp at hi⟩
theorem Lists.kept {w w' : World} {N : Nat} {Ls : List (List Int)} {vals : List Value} (h : Lists w N Ls vals) (k : ∀ g cur fr, N ≤ g → w.heap[g]? = some (.cells cur 3 fr) → w'.heap[g]? = w.heap[g]?) : Lists w' N Ls vals := by
  refine ⟨h.1, fun i hi => ?_⟩
  obtain ⟨gb, c, e, hN, hc, cur, fr, hh⟩ := h.2 i hi
  have hb := k gb cur fr hN hh
  exact ⟨gb, c, e, hN, fun j hj => (World.cell?_of_block (a := ⟨gb, 0 + j, none⟩) hb).trans (hc j hj), cur, fr, hb.trans hh⟩
theorem Lists.snoc {w : World} {N : Nat} {Ls : List (List Int)} {vals : List Value} {v : Value} {L : List Int} (h : Lists w N Ls vals) (hv : GrpAt w N v L) : Lists w N (Ls ++ [L]) (vals ++ [v]) := by
  obtain ⟨h1, h2⟩ := h
  refine ⟨by simp [h1], fun i hi => ?_⟩
  rw [List.length_append, List.length_singleton] at hi
  by_cases e : i = Ls.length
  · subst e
    have e1 : (vals ++ [v]).getD Ls.length (.bool false) = v := by simp [List.getD, ← h1]
    have e2 : (Ls ++ [L]).getD Ls.length [] = L := by simp [List.getD]
    rw [e1, e2]; exact hv
  · have e1 : (vals ++ [v]).getD i (.bool false) = vals.getD i (.bool false) := by simp only [List.getD]; rw [List.getElem?_append_left (by omega)]
    have e2 : (Ls ++ [L]).getD i [] = Ls.getD i [] := by simp only [List.getD]; rw [List.getElem?_append_left (by omega)]
    rw [e1, e2]; exact h2 i (by omega)

/-- A row of slices is no row of numbers. -/
theorem no_row {w : World} {N : Nat} {v : Value} {n : Nat} {xs : List Value} {g : Nat} {cur : Array Value} {fr : Nat × Nat} (h : w.ownsRow N 38 1 v n xs) (hg : w.heap[g]? = some (.cells cur 3 fr)) : v.ownBlock ≠ some g := by
  intro e
  rcases h.2 with ⟨h0, _⟩ | ⟨g', cap, cur', h0, hb, hh, _⟩
  · subst h0; simp [Value.ownBlock] at e
  · subst h0
    simp [Value.ownBlock] at e
    subst e
    rw [hh] at hg
    simp at hg

theorem holdsG {w : World} {N gb c : Nat} {G : List Nat} (h : Grown w N (.slice (some ⟨gb, 0, none⟩) G.length c) G) :
    Go.Sort.Holds (Value.int .i64) w gb 0 (G.map fun x : Nat => (x : Int)).toArray ∧ gb < w.heap.size ∧ N ≤ gb ∧ ∃ cur, w.heap[gb]? = some (.cells cur 3 (0, 0)) := by
  rcases h.2 with ⟨h0, _⟩ | ⟨g', cap, cur, h0, hb, hg, h1, h2, h3, h4⟩
  · cases h0
  · cases h0
    refine ⟨fun j hj => ?_, (Array.getElem?_eq_some_iff.1 hg).1, hb, cur, hg⟩
    have hj' : j < G.length := by simpa using hj
    have hc := h.cell hj'
    refine ⟨?_, by simp [World.frozen?, hg]⟩
    rw [Nat.zero_add, hc]
    simp [List.getD, hj']

theorem sortW {blk n : Nat} {xs s : List Int} {w : World} (os : Array Obj) (hH : Go.Sort.Holds (Value.int .i64) w blk 0 xs.toArray) (hblk : blk < w.heap.size) (hl : s.length = xs.length) :
    (∀ j, j < xs.length → (Go.Sort.grow (Go.Sort.putRow (Value.int .i64) (Go.Sort.ahead w n) blk 0 s.toArray) os).cell? ⟨blk, 0 + j, none⟩ = some (.int .i64 (s.getD j 0))) ∧
      (∀ B, B ≤ blk → Below B w (Go.Sort.grow (Go.Sort.putRow (Value.int .i64) (Go.Sort.ahead w n) blk 0 s.toArray) os)) ∧
      ∀ cur fr, w.heap[blk]? = some (.cells cur 3 fr) → ∃ cur' fr', (Go.Sort.grow (Go.Sort.putRow (Value.int .i64) (Go.Sort.ahead w n) blk 0 s.toArray) os).heap[blk]? = some (.cells cur' 3 fr') := by
  have hsz : (Go.Sort.putRow (Value.int .i64) (Go.Sort.ahead w n) blk 0 s.toArray).heap.size = w.heap.size := by simp [Go.Sort.putRow, Go.Sort.mapBlock, Go.Sort.ahead]
  refine ⟨fun j hj => ?_, fun B hB => ⟨rfl, rfl, rfl, ?_, fun k hk => ?_⟩, fun cur fr h => ?_⟩
  · rw [Go.Sort.cell?_grow _ _ _ (by rw [hsz]; exact hblk), Go.Sort.cell?_putRow (Value.int .i64) (Go.Sort.ahead w n) blk 0 xs.toArray s.toArray (Go.Sort.holds_ahead _ _ _ _ _ _ hH) (by simp [hl]) j (by simp [hl]; exact hj)]
    simp [List.getD, hl, hj]
  · simp only [Go.Sort.grow, Array.size_append]; omega
  · rw [Go.Sort.heap_grow_old _ _ (by rw [hsz]; omega)]
    simp only [Go.Sort.putRow, Go.Sort.mapBlock, Go.Sort.ahead, Array.getElem?_modify]
    rw [if_neg (by omega)]
  · rw [Go.Sort.heap_grow_old _ _ (by rw [hsz]; exact hblk)]
    simp only [Go.Sort.putRow, Go.Sort.mapBlock, Go.Sort.ahead, Array.getElem?_modify]
    rw [if_pos trivial, h]
    exact ⟨_, _, rfl⟩

/-- slices.Sort of a group. -/
theorem sortGroup_any (N gb c : Nat) (G : List Nat) (w : World) (hG : G.length ≤ 200000) (h : Grown w N (.slice (some ⟨gb, 0, none⟩) G.length c) G) :
    Calls Try.prog 58 #[.slice (some ⟨gb, 0, none⟩) G.length c] w fun e w' => e = .returned (.tuple #[]) ∧ GrpAt w' N (.slice (some ⟨gb, 0, none⟩) G.length c) (sortN G) ∧ Below gb w w' := by
  obtain ⟨o1, o2, o3, cur, o4⟩ := holdsG h
  have hl : (G.map fun x : Nat => (x : Int)).length = G.length := by simp
  have hs : (sortN G).length = (G.map fun x : Nat => (x : Int)).length := List.length_mergeSort _
  have := Try.slices_Sort_int gb 0 c (G.map fun x : Nat => (x : Int)) w o1 o2 (by rw [hl]; omega)
  rw [hl] at this
  refine this.mono ?_
  rintro e w2 ⟨rfl, n, os, rfl⟩
  obtain ⟨s1, s2, s3⟩ := sortW os (n := n) o1 o2 hs
  obtain ⟨cur', fr', h5⟩ := s3 cur _ o4
  exact ⟨rfl, ⟨gb, c, by rw [hs, hl], o3, fun j hj => s1 j (by rw [← hs]; exact hj), cur', fr', h5⟩, s2 gb (Nat.le_refl _)⟩

end Go.Proofs.Ytljjbdfpegjmcaa
namespace Go.Proofs.Ytljjbdfpegjmcaa
open Go.RowKit
set_option linter.unusedSimpArgs false
set_option linter.unusedVariables false

theorem info_ints : (Try.prog.info? 38).map (fun i => (i.zero, i.size, i.bytes)) = some (some (.slice none 0 0), 1, 24) := by kernel_rfl

set_option maxHeartbeats 1000000 in
set_option maxRecDepth 100000 in
theorem groups_bad (n g o c : Nat) (B : Nat → Bx) (dx dy : Int) (w : World) (hn : n ≤ 100000) (hB : BoxesAt w g o n B) (h : listErr B n ≠ 0) :
    Calls Try.prog 12 #[.slice (some ⟨g, o, none⟩) n c, .int .i64 dx, .int .i64 dy] w fun e w' => e = .returned (.tuple #[.slice none 0 0, .int .i64 (listErr B n)]) ∧ Below w.heap.size w w' := by
  obtain ⟨w1, hw1⟩ : ∃ w1, w1 = ((w.alloc (.cells #[.slice (some ⟨g, o, none⟩) n c] 22)).alloc (.cells #[.int .i64 dx] 3)).alloc (.cells #[.int .i64 dy] 3) := ⟨_, rfl⟩
  have B1 : Below w.heap.size w w1 := by rw [hw1]; exact below_alloc (below_alloc (new_below _ _) _) _
  have HB := Lib.hid (hB.later B1)
  have H1 := Lib.hid B1
  have q0 : w1.cell? ⟨w.heap.size, 0, none⟩ = some (.slice (some ⟨g, o, none⟩) n c) := by rw [hw1]; go_simp
  obtain ⟨E, hE⟩ : ∃ E, E = listErr B n := ⟨_, rfl⟩
  rw [← hE] at h ⊢
  have HE := Lib.hid hE
  have t1 : (E != 0) = true := by simpa using h
  clear hB B1 hE h
  go_enter Try.func12, Try.ntmps12
  go_upto_region 1 with (fail)
  rw [← hw1]
  clear hw1
  go_wp2_with fail
  refine (checkBoxes_any n g o c B w1 hn HB.out).mono ?_
  rintro e w2 ⟨rfl, hb2⟩
  rw [← HE.out]
  have G := Lib.hid (below_step H1.out hb2)
  clear hb2 q0
  go_wp2_with fail
  go_ret2
  exact ⟨rfl, G.out⟩

set_option maxHeartbeats 1000000 in
set_option maxRecDepth 100000 in
theorem groups_far (n g o c : Nat) (B : Nat → Bx) (dx dy : Int) (w : World) (hn : n ≤ 100000) (hB : BoxesAt w g o n B) (h : listErr B n = 0) (hd : ¬ ((0 ≤ dx ∧ dx ≤ 1048576) ∧ (0 ≤ dy ∧ dy ≤ 1048576))) :
    Calls Try.prog 12 #[.slice (some ⟨g, o, none⟩) n c, .int .i64 dx, .int .i64 dy] w fun e w' => e = .returned (.tuple #[.slice none 0 0, .int .i64 3]) ∧ Below w.heap.size w w' := by
  obtain ⟨w1, hw1⟩ : ∃ w1, w1 = ((w.alloc (.cells #[.slice (some ⟨g, o, none⟩) n c] 22)).alloc (.cells #[.int .i64 dx] 3)).alloc (.cells #[.int .i64 dy] 3) := ⟨_, rfl⟩
  have B1 : Below w.heap.size w w1 := by rw [hw1]; exact below_alloc (below_alloc (new_below _ _) _) _
  have HB := Lib.hid (hB.later B1)
  have H1 := Lib.hid B1
  have q0 : w1.cell? ⟨w.heap.size, 0, none⟩ = some (.slice (some ⟨g, o, none⟩) n c) := by rw [hw1]; go_simp
  have Q1 := Lib.hid (show w1.cell? ⟨w.heap.size + 1, 0, none⟩ = some (.int .i64 dx) by rw [hw1]; go_simp)
  have Q2 := Lib.hid (show w1.cell? ⟨w.heap.size + 1 + 1, 0, none⟩ = some (.int .i64 dy) by rw [hw1]; go_simp)
  have HE := Lib.hid h
  clear hB B1 h
  by_cases h1 : 0 ≤ dx ∧ dx ≤ 1048576
  · have D1 := Lib.hid h1
    have D2 := Lib.hid (show ¬ (0 ≤ dy ∧ dy ≤ 1048576) from fun k => hd ⟨h1, k⟩)
    clear hd h1
    go_enter Try.func12, Try.ntmps12
    go_upto_region 1 with (fail)
    rw [← hw1]
    clear hw1
    go_wp2_with fail
    refine (checkBoxes_any n g o c B w1 hn HB.out).mono ?_
    rintro e w2 ⟨rfl, hb2⟩
    rw [HE.out]
    have G := Lib.hid (below_step H1.out hb2)
    have k1 := cell_later hb2 Q1.out
    have k2 := cell_later hb2 Q2.out
    clear hb2 q0
    go_wp2_with (first | (go_at_call 48; (with_reducible refine (outside_no dx 0 1048576 _ D1.out).mono ?_); rintro e w' ⟨rfl, rfl⟩) | (go_at_call 48; (with_reducible refine (outside_yes dy 0 1048576 _ D2.out).mono ?_); rintro e w' ⟨rfl, rfl⟩))
    go_ret2
    exact ⟨rfl, G.out⟩
  · have D1 := Lib.hid h1
    clear hd h1
    go_enter Try.func12, Try.ntmps12
    go_upto_region 1 with (fail)
    rw [← hw1]
    clear hw1
    go_wp2_with fail
    refine (checkBoxes_any n g o c B w1 hn HB.out).mono ?_
    rintro e w2 ⟨rfl, hb2⟩
    rw [HE.out]
    have G := Lib.hid (below_step H1.out hb2)
    have k1 := cell_later hb2 Q1.out
    have k2 := cell_later hb2 Q2.out
    clear hb2 q0
    go_wp2_with (first | (go_at_call 48; (with_reducible refine (outside_yes dx 0 1048576 _ D1.out).mono ?_); rintro e w' ⟨rfl, rfl⟩))
    go_ret2
    exact ⟨rfl, G.out⟩

def sliceLen : Value → Nat
  | .slice _ n _ => n
  | _ => 0

/-- Between two groups. -/
structure GrpR (W : World) (N rb off' cap' : Nat) (Ls : List (List Int)) (R : List Nat) (v : Value) (w : World) : Prop where
  g : ∃ vals, w.ownsRow N 38 1 v Ls.length vals ∧ Lists w N Ls vals
  r : NumsIn w rb off' R
  b : W.grownBy w (some rb)
  c : R.length ≤ cap'

theorem lists_base {w : World} {N M : Nat} {Ls : List (List Int)} {vals : List Value} (h : Lists w N Ls vals) (hM : M ≤ N) : Lists w M Ls vals :=
  ⟨h.1, fun i hi => by obtain ⟨gb, c, e, hN, r⟩ := h.2 i hi; exact ⟨gb, c, e, Nat.le_trans hM hN, r⟩⟩
theorem nums_owned {w : World} {N rb c n : Nat} (h : w.ownsRow N 3 1 (.slice (some ⟨rb, 0, none⟩) n c) n (numsOf (fun k => k) n)) : NumsIn w rb 0 (List.range n) := by
  intro j hj
  rw [List.length_range] at hj
  rw [Nat.zero_add, h.cellAt j (by omega), numsOf_get _ _ _ hj]
  exact ⟨by simp [List.getD, hj], h.frozenAt j⟩

set_option maxHeartbeats 2000000 in
set_option maxRecDepth 100000 in
theorem groups_ok (n g o c : Nat) (B : Nat → Bx) (dx dy : Int) (w : World) (hn1 : 1 ≤ n) (hn : n ≤ 60) (hB : BoxesAt w g o n B) (hOK : ∀ i, i < n → (B i).OK) (h : listErr B n = 0) (hd1 : 0 ≤ dx ∧ dx ≤ 1048576) (hd2 : 0 ≤ dy ∧ dy ≤ 1048576) :
    Calls Try.prog 12 #[.slice (some ⟨g, o, none⟩) n c, .int .i64 dx, .int .i64 dy] w fun e w' =>
      ∃ v vals Ls, e = .returned (.tuple #[v, .int .i64 0]) ∧ Grouped (closeB B dx dy) n Ls ∧ w'.ownsRow w.heap.size 38 1 v Ls.length vals ∧ Lists w' w.heap.size Ls vals ∧ Below w.heap.size w w' := by
  have hmf : ∀ (fn : Fn) (first cap : Array Value) (w : World), (Instr.makeFunc fn first cap).run Try.prog w = .ok (.func fn first cap) w := fun _ _ _ _ => rfl
  obtain ⟨i0, hi, hz0, hz1, hz2⟩ := info_parts info_ints
  obtain ⟨w1, hw1⟩ : ∃ w1, w1 = ((w.alloc (.cells #[.slice (some ⟨g, o, none⟩) n c] 22)).alloc (.cells #[.int .i64 dx] 3)).alloc (.cells #[.int .i64 dy] 3) := ⟨_, rfl⟩
  have B1 : Below w.heap.size w w1 := by rw [hw1]; exact below_alloc (below_alloc (new_below _ _) _) _
  have HB := Lib.hid (hB.later B1)
  have H1 := Lib.hid B1
  have q0 : w1.cell? ⟨w.heap.size, 0, none⟩ = some (.slice (some ⟨g, o, none⟩) n c) := by rw [hw1]; go_simp
  have Q0 := Lib.hid q0
  have Q1 := Lib.hid (show w1.cell? ⟨w.heap.size + 1, 0, none⟩ = some (.int .i64 dx) by rw [hw1]; go_simp)
  have Q2 := Lib.hid (show w1.cell? ⟨w.heap.size + 1 + 1, 0, none⟩ = some (.int .i64 dy) by rw [hw1]; go_simp)
  have S1 := Lib.hid (show w.heap.size + 1 + 1 < w1.heap.size by rw [hw1]; simp)
  have HG := Lib.hid (show g < w.heap.size by
    have := World.block_lt_of_cell? _ _ (hB 0 hn1).1.1
    simpa using this)
  have HE := Lib.hid h
  have D1 := Lib.hid hd1
  have D2 := Lib.hid hd2
  have HO := Lib.hid hOK
  obtain ⟨cl, hcl⟩ : ∃ cl, cl = closeB B dx dy := ⟨_, rfl⟩
  rw [← hcl]
  have HCQ := Lib.hid hcl
  clear hB B1 h hd1 hd2 hOK hcl
  go_enter Try.func12, Try.ntmps12
  go_upto_region 1 with (fail)
  rw [← hw1]
  clear hw1
  go_wp2_with fail
  refine (checkBoxes_any n g o c B w1 (by omega) HB.out).mono ?_
  rintro e w2 ⟨rfl, hb2⟩
  rw [HE.out]
  have H2 := Lib.hid (below_step H1.out hb2)
  have k0 := cell_later hb2 Q0.out
  have k1 := cell_later hb2 Q1.out
  have k2 := cell_later hb2 Q2.out
  have S2 := Lib.hid (Nat.lt_of_lt_of_le S1.out hb2.size)
  have HB2 := Lib.hid (HB.out.later hb2)
  clear hb2 q0
  go_wp2_with (first | (go_at_call 48; (with_reducible refine (outside_no dx 0 1048576 _ D1.out).mono ?_); rintro e w' ⟨rfl, rfl⟩) | (go_at_call 48; (with_reducible refine (outside_no dy 0 1048576 _ D2.out).mono ?_); rintro e w' ⟨rfl, rfl⟩) | fail)
  refine (numbers_any n w2 (by omega)).mono ?_
  rintro e w3 ⟨v3, rfl, hown, hb3⟩
  obtain ⟨rb, c3, rfl, hrb, hrl, hc3⟩ : ∃ rb c3, v3 = .slice (some ⟨rb, 0, none⟩) n c3 ∧ w2.heap.size ≤ rb ∧ rb < w3.heap.size ∧ n ≤ c3 := by
    rcases hown.2 with ⟨h0, h1⟩ | ⟨g', cap, cur, h0, hb, hg, hn', _⟩
    · omega
    · exact ⟨g', cap, h0, hb, (Array.getElem?_eq_some_iff.1 hg).1, hn'⟩
  have HN := Lib.hid (nums_owned hown)
  have K0 := Lib.hid (cell_later hb3 k0)
  have K1 := Lib.hid (cell_later hb3 k1)
  have K2 := Lib.hid (cell_later hb3 k2)
  have HB3 := Lib.hid (HB2.out.later hb3)
  have H3 := Lib.hid (below_step H2.out hb3)
  have S3 := Lib.hid (And.intro hrb (And.intro hrl S2.out))
  have R0 := Lib.hid (show GrpR w3 w3.heap.size rb 0 c3 [] (List.range n) (.slice none 0 0) w3 from ⟨⟨[], World.ownsRow_nil _ _ _ _, Lists.nil _ _⟩, HN.out, bar_refl _ _, by rw [List.length_range]; exact hc3⟩)
  have HCL := Lib.hid (show ∀ i j wx, i < n → j < n → w3.grownBy wx (some rb) → Calls Try.prog 55 (#[.int .i64 i, .int .i64 j] ++ #[.pointer (some ⟨w.heap.size, 0, none⟩), .pointer (some ⟨w.heap.size + 1, 0, none⟩), .pointer (some ⟨w.heap.size + 1 + 1, 0, none⟩)]) wx fun e w' => e = .returned (.bool (closeB B dx dy i j)) ∧ Below wx.heap.size wx w' from
    fun i j wx hi' hj' hx => isClose_any i j n g o c w.heap.size (w.heap.size + 1) (w.heap.size + 1 + 1) dx dy B wx hi' hj' (by omega) (HO.out i hi') (HO.out j hj')
      (bar_cell hx (by have := S3.out; omega) K0.out) (bar_cell hx (by have := S3.out; omega) K1.out) (bar_cell hx (by have := S3.out; omega) K2.out)
      (fun k hk => ⟨⟨bar_cell hx (by have := S3.out; have := HG.out; omega) (HB3.out k hk).1.1, bar_cell hx (by have := S3.out; have := HG.out; omega) (HB3.out k hk).1.2⟩, bar_cell hx (by have := S3.out; have := HG.out; omega) (HB3.out k hk).2.1, bar_cell hx (by have := S3.out; have := HG.out; omega) (HB3.out k hk).2.2⟩))
  have R0' := Lib.hid (show (List.range n).length = n from List.length_range)
  clear hown hb3 k0 k1 k2 hrb hrl hc3
  rw [← HCQ.out] at HCL
  go_wp2_with fail
  go_loopw [10, 11] (fun v10 v11 wr => ∃ m Ls R off' cap', Hid (grpN cl ([], List.range n) m = (Ls, R)) ∧ v11 = .slice (some ⟨rb, off', none⟩) R.length cap' ∧ Hid (GrpR w3 w3.heap.size rb off' cap' Ls R v10 wr)) (fun _ v11 _ => sliceLen v11)
  case atStart => exact ⟨0, [], List.range n, 0, c3, Lib.hid rfl, by rw [R0'.out], R0⟩
  case round =>
    obtain ⟨m, Ls, R, off', cap', HM, rfl, HR⟩ := hrel
    clear R0
    have hcnt := grpN_count cl ([], List.range n) m
    rw [HM.out] at hcnt
    simp only [List.length_nil, List.length_range] at hcnt
    have hsub := grpN_sub cl ([], List.range n) m
    rw [HM.out] at hsub
    have hltn : ∀ x, x ∈ R → x < n := fun x hx => by have := hsub.subset hx; simpa using this
    clear hsub
    cases R with
    | nil =>
      have hre := HM
      obtain ⟨vals, hw1, hw2⟩ := HR.out.g
      have HV := Lib.hid (And.intro hw1 hw2)
      clear hw1 hw2 hltn hcnt hre
      go_wp2_with fail
      go_ret2
      exact ⟨_, vals, Ls, rfl, ⟨m, HM.out⟩, owns_base HV.out.1 H3.out.size, lists_base HV.out.2 H3.out.size, ⟨HR.out.b.os.trans H3.out.os, HR.out.b.tape.trans H3.out.tape, HR.out.b.output.trans H3.out.output, Nat.le_trans H3.out.size HR.out.b.size, fun k hk => (HR.out.b.block k (Nat.lt_of_lt_of_le hk H3.out.size) (fun e => by have := S3.out; have := H2.out.size; simp at e; omega)).trans (H3.out.block k hk)⟩⟩
    | cons a t =>
      obtain ⟨wo, rfl⟩ : ∃ wo : World, wo = wr := ⟨_, rfl⟩
      have hcR := HR.out.c
      simp only [List.length_cons] at hcR hcnt
      have HLT := Lib.hid hltn
      have HCN := Lib.hid hcnt
      have hgo := groupOfFirst_any n rb off' cap' 55 a t #[.pointer (some ⟨w.heap.size, 0, none⟩), .pointer (some ⟨w.heap.size + 1, 0, none⟩), .pointer (some ⟨w.heap.size + 1 + 1, 0, none⟩)] cl wo (by omega) hcR (by omega) hltn HR.out.r (Nat.lt_of_lt_of_le S3.out.2.1 HR.out.b.size) (Go.Proofs.enters_of Try.func55 (by kernel_rfl) rfl) (fun i j wx hi' hj' hx => HCL.out i j wx hi' hj' (bar_trans HR.out.b hx))
      have HGO := Lib.hid hgo
      clear hltn hcnt hcR hgo
      rw [List.length_cons]
      go_wp2_with fail
      refine HGO.out.mono ?_
      rintro e w6 ⟨v6, off2, cap2, rfl, hg6, hr6, hc6, hc6', hb6⟩
      obtain ⟨gb, cg, rfl, hgb, hgl⟩ := hg6.shape (bfsN_pos cl ([a], t) _ (by simp))
      have HSRT := Lib.hid (fun w' : World => sortGroup_any wo.heap.size gb cg (bfsAll cl ([a], t)).1 w')
      have hlb : (bfsAll cl ([a], t)).1.length ≤ 200000 := by
        have h1 := bfsN_len cl ([a], t) (([a] : List Nat).length + t.length)
        have h2 := HCN.out
        unfold bfsAll
        simp only [List.length_singleton] at h1 ⊢
        omega
      have HS6 := Lib.hid (sortGroup_any wo.heap.size gb cg (bfsAll cl ([a], t)).1 w6 hlb hg6)
      have HG6 := Lib.hid (And.intro hgb hgl)
      have HR6 := Lib.hid hr6
      have HC6 := Lib.hid hc6
      have HB6 := Lib.hid hb6
      have HST := Lib.hid (show grpN cl ([], List.range n) (m + 1) = (Ls ++ [sortN (bfsAll cl ([a], t)).1], (bfsAll cl ([a], t)).2) by rw [grpN, HM.out]; exact grp1_cons _ _ a t rfl)
      have hls := bfsAll_short cl a t
      have HLS := Lib.hid hls
      have HSL := Lib.hid (show (sortN (bfsAll cl ([a], t)).1).length = (bfsAll cl ([a], t)).1.length by unfold sortN; rw [List.length_mergeSort, List.length_map])
      clear hg6 hr6 hc6 hb6 hgb hgl hlb HSRT hls hc6'
      generalize bfsAll cl ([a], t) = P at *
      obtain ⟨G, R2⟩ := P
      simp only at *
      go_wp2_with fail
      refine HS6.out.mono ?_
      rintro e w7 ⟨rfl, hgrp, hb7⟩
      obtain ⟨vals, hw1, hw2⟩ := HR.out.g
      -- what was there is there
      have hbar : wo.grownBy w7 (some rb) := ⟨hb7.os.trans HB6.out.os, hb7.tape.trans HB6.out.tape, hb7.output.trans HB6.out.output, Nat.le_trans HB6.out.size hb7.size, fun k hk hn => (hb7.block k (Nat.lt_of_lt_of_le hk HG6.out.1)).trans (HB6.out.block k hk hn)⟩
      have hrow : w7.ownsRow w3.heap.size 38 1 u10 Ls.length vals := hw1.kept hbar (by
        rcases hk : u10.ownBlock with _ | j
        · exact .inl rfl
        · refine .inr (fun e => ?_)
          have h1 := (hw1.lt j hk).1
          have h2 := S3.out
          have h3 : j = rb := by simpa using e
          omega)
      have hs3 : w3.heap.size ≤ wo.heap.size := HR.out.b.size
      have hlist : Lists w7 w3.heap.size Ls vals := hw2.kept (fun gg cur fr hN hh => hbar.block gg (Array.getElem?_eq_some_iff.1 hh).1 (fun e => by have := S3.out; simp at e; omega))
      have hnum : NumsIn w7 rb off2 R2 := fun j hj => by
        have e := hb7.block rb (by have := S3.out; have := HG6.out; omega)
        exact ⟨(World.cell?_of_block (a := ⟨rb, off2 + j, none⟩) e).trans (HR6.out j hj).1, (World.frozen?_of_block (a := ⟨rb, off2 + j, none⟩) e).trans (HR6.out j hj).2⟩
      have HLI := Lib.hid hlist
      have HNU := Lib.hid hnum
      have HRO := Lib.hid hrow
      have HGP := Lib.hid (show GrpAt w7 w3.heap.size (.slice (some ⟨gb, 0, none⟩) G.length cg) (sortN G) from by
        obtain ⟨gb', c', e, hN, r⟩ := hgrp
        exact ⟨gb', c', e, Nat.le_trans hs3 hN, r⟩)
      have HW7 := Lib.hid (bar_trans HR.out.b hbar)
      have HGB := Lib.hid (show w3.heap.size ≤ gb from Nat.le_trans hs3 HG6.out.1)
      have hll : Ls.length ≤ 60 := by have := HCN.out; omega
      clear hlist hnum hrow hgrp hbar hw1 hw2 hb7 hs3
      go_wp2_with (at_builtin; refine wpList_append_own _ rfl _ _ 31 rfl w3.heap.size 38 i0 (.slice none 0 0) 1 24 Try.underlying31 hi hz0 hz1 hz2 rfl (by decide) _ _ _ rfl (HRO.out.alloc _) ⟨w7.heap.size, 0, none⟩ 1 1 [.slice (some ⟨gb, 0, none⟩) G.length cg] rfl rfl ?c1 ?c2 ?c3 ?c4 ?c5 ?_)
      case c1 => exact cell_one_new _ _ _
      case c2 => intro u hu; simp at hu; subst hu; rfl
      case c3 => unfold maxLen; omega
      case c4 => omega
      case c5 => have := HW7.out.size; simp; omega
      intro v' w8 hown8 hgr8 _
      have K8 := Lib.hid (show ∀ gg, gg < w7.heap.size → (∀ j, u10.ownBlock = some j → gg ≠ j) → w8.heap[gg]? = w7.heap[gg]? from fun gg hg hne =>
        (hgr8.block gg (by simp; omega) (fun e => hne gg e.symm rfl)).trans (Below.heap_alloc w7 _ gg hg))
      have L8 := Lib.hid (show Lists w8 w3.heap.size (Ls ++ [sortN G]) (vals ++ [.slice (some ⟨gb, 0, none⟩) G.length cg]) from
        (HLI.out.snoc HGP.out).kept (fun gg cur fr hN hh => K8.out gg (Array.getElem?_eq_some_iff.1 hh).1 (fun j hj e => no_row HRO.out hh (by rw [hj, e]))))
      have N8 := Lib.hid (show NumsIn w8 rb off2 R2 from fun j hj => by
        have e := K8.out rb (by have := S3.out; have := HW7.out.size; omega) (fun j hj e => by have := (HRO.out.lt j hj).1; have := S3.out; omega)
        exact ⟨(World.cell?_of_block (a := ⟨rb, off2 + j, none⟩) e).trans (HNU.out j hj).1, (World.frozen?_of_block (a := ⟨rb, off2 + j, none⟩) e).trans (HNU.out j hj).2⟩)
      have B8 := Lib.hid (bar_grown (bar_below HW7.out (new_below w7 _)) hgr8 (fun j hj => (HRO.out.lt j hj).1))
      have O8 := Lib.hid hown8
      clear hown8 hgr8
      go_wp2_with fail
      go_roundw
      case rel => exact ⟨m + 1, Ls ++ [sortN G], R2, off2, cap2, HST, rfl, Lib.hid ⟨⟨_, by rw [List.length_append, List.length_singleton]; exact O8.out, L8.out⟩, N8.out, B8.out, HC6.out⟩⟩
      case measure => have := HLS.out; simp [sliceLen]; omega

end Go.Proofs.Ytljjbdfpegjmcaa
