/-
  What is needed for the reference's ParsedPage: Trim of a row, a page that grows while a text is read.
-/
import Derived.Test.YtejhmobpepllcaaDoorParse
import Derived.Lib.OthersKept
namespace Go.Proofs.YtejhmobpepllcaaDoor
open Go.RowKit
set_option linter.unusedSimpArgs false
set_option linter.unusedVariables false

theorem dropWhile_nil {α : Type} (p : α → Bool) (l : List α) : l.dropWhile p = [] ↔ l.all p = true := by
  induction l with
  | nil => simp
  | cons a l ih =>
    rw [List.dropWhile_cons]
    cases h : p a
    · simp [h]
    · simp [h, ih]

theorem contains_ok : (fun b => ([35, 46] : List UInt8).contains b) = okLetter := by
  funext b
  unfold okLetter
  simp [List.contains_eq_any_beq]
  rfl

theorem trim_nil (l : List UInt8) : Lib.trimS l [35, 46] = [] ↔ l.all okLetter = true := by
  unfold Lib.trimS Lib.trimLeftS Lib.trimRightS
  rw [contains_ok, dropWhile_nil]
  constructor
  · intro h
    rw [List.all_reverse] at h
    have e := List.takeWhile_append_dropWhile (p := okLetter) (l := l.reverse)
    have h2 : l.reverse.all okLetter = true := by
      rw [← e, List.all_append, h, Bool.and_true]
      exact List.all_takeWhile
    rwa [List.all_reverse] at h2
  · intro h
    rw [List.all_reverse]
    have h2 : l.reverse.all okLetter = true := by rw [List.all_reverse]; exact h
    rw [(dropWhile_nil okLetter l.reverse).2 h2]
    rfl

/-- What holds while a text is read: the result's variable is empty; the page's variable holds a width, a height, and a row of N pixels. -/
def PRel (w0 : World) (bw bh : Int) (W : Nat) (f : Nat → Nat → Bool) (N : Nat) (wr : World) (v : Value) : Prop :=
  wr.ownsRow (w0.heap.size + 2) 4 1 v N ((places W f N).map Value.bool) ∧ wr.heap[w0.heap.size]? = some (.cells #[.int .i64 0, .int .i64 0, .slice none 0 0] 24 (0, 0)) ∧
  wr.heap[w0.heap.size + 1]? = some (.cells #[.int .i64 bw, .int .i64 bh, v] 24 (0, 0)) ∧ Below w0.heap.size w0 wr

theorem PRel.later {w0 wr w' : World} {bw bh : Int} {W N : Nat} {f : Nat → Nat → Bool} {v : Value} (h : PRel w0 bw bh W f N wr v) (hb : Below wr.heap.size wr w') : PRel w0 bw bh W f N w' v :=
  ⟨below_owns h.1 hb, below_block hb h.2.1, below_block hb h.2.2.1, below_step h.2.2.2 hb⟩

theorem PRel.sized {w0 wr : World} {bw bh : Int} {W N : Nat} {f : Nat → Nat → Bool} {v : Value} (h : PRel w0 bw bh W f N wr v) (bw' bh' : Int) :
    PRel w0 bw' bh' W f N ((wr.setCell ⟨w0.heap.size + 1, 0, none⟩ (.int .i64 bw')).setCell ⟨w0.heap.size + 1, 1, none⟩ (.int .i64 bh')) v := by
  obtain ⟨h1, h2, h3, h4⟩ := h
  refine ⟨ownsRow_setCell_below (ownsRow_setCell_below h1 (by simp) _) (by simp) _, ?_, ?_, (h4.setCell (by simp) _).setCell (by simp) _⟩
  · rw [Below.heap_setCell _ _ _ _ (by simp), Below.heap_setCell _ _ _ _ (by simp)]; exact h2
  · have e1 := heap_setCell_same wr (w0.heap.size + 1) 0 _ 24 (.int .i64 bw') h3
    have e2 := heap_setCell_same _ (w0.heap.size + 1) 1 _ 24 (.int .i64 bh') e1
    simpa using e2

theorem PRel.iterAt {w0 wr : World} {bw bh : Int} {W N : Nat} {f : Nat → Nat → Bool} {v : Value} (h : PRel w0 bw bh W f N wr v) {k : Nat} {s : ByteArray} {pos : Nat} (hk : wr.heap[k]? = some (.stringIter s pos)) (hb : w0.heap.size ≤ k) (pos' : Nat) :
    PRel w0 bw bh W f N (wr.iterAt k s pos') v := by
  obtain ⟨h1, h2, h3, h4⟩ := h
  have n1 : w0.heap.size ≠ k := by intro e; rw [e, hk] at h2; cases h2
  have n2 : w0.heap.size + 1 ≠ k := by intro e; rw [e, hk] at h3; cases h3
  refine ⟨⟨h1.1, ?_⟩, (Lib.iterAt_other wr k _ s pos' n1).trans h2, (Lib.iterAt_other wr k _ s pos' n2).trans h3, Lib.below_iterAt h4 hb s pos'⟩
  rcases h1.2 with hn | ⟨g, cap, cur, hv, hbg, hg, rest⟩
  · exact .inl hn
  · have hkg : g ≠ k := by intro e; rw [e, hk] at hg; cases hg
    exact .inr ⟨g, cap, cur, hv, hbg, (Lib.iterAt_other wr k g s pos' hkg).trans hg, rest⟩

theorem PRel.stored {w0 wr w1 : World} {bw bh : Int} {W x y : Nat} {f : Nat → Nat → Bool} {v v' : Value} (hr : PRel w0 bw bh W f (y * W + x) wr v) (hx : x < W) (q : Bool) (hq : q = f x y)
    (hown : w1.ownsRow (w0.heap.size + 2) 4 1 v' (y * W + x + 1) ((places W f (y * W + x)).map Value.bool ++ [Value.bool q])) (hg : wr.grownBy w1 v.ownBlock) :
    PRel w0 bw bh W f (y * W + x + 1) (w1.setCell ⟨w0.heap.size + 1, 2, none⟩ v') v' := by
  obtain ⟨h1, h2, h3, h4⟩ := hr
  have hrow : ∀ k, v.ownBlock = some k → w0.heap.size + 2 ≤ k := fun k hk => (h1.lt k hk).1
  have n0 : some w0.heap.size ≠ v.ownBlock := fun e => by have := hrow _ e.symm; omega
  have n1 : some (w0.heap.size + 1) ≠ v.ownBlock := fun e => by have := hrow _ e.symm; omega
  refine ⟨?_, ?_, ?_, ?_⟩
  · rw [places_succ W f x y hx, List.map_append, ← hq]
    exact ownsRow_setCell_below hown (by simp) _
  · rw [Below.heap_setCell _ _ _ _ (by simp)]
    exact grown_block hg h2 n0
  · have := heap_setCell_same w1 (w0.heap.size + 1) 2 #[.int .i64 bw, .int .i64 bh, v] 24 v' (grown_block hg h3 n1)
    simpa using this
  · exact (h4.grown hg h4.size (fun k hk => by have := hrow k hk; omega)).setCell (by simp) _

end Go.Proofs.YtejhmobpepllcaaDoor
