/-
  DictsMatch returns true for every list of words, every text and all numbers, and each argument reads afterwards as it read before. No conditions.
-/
import Derived.Test.YtmoplmjfnjgcaaaRows
import Derived.WalkKit
import Derived.WalkSpells
import Derived.WalkLawsBesides
import Derived.Lib.Hide
import Derived.Deep.RegionHeld3
import Derived.Shelf.Abstract
import Derived.Lib.TrimByte
import Derived.Shelf.Sort.Plain
import Derived.Shelf.Slices.In.SortNone
import Derived.Shelf.Small.Strs
import Derived.Shelf.Strings.Prefix
import Derived.Shelf.Slices.Equal
import Derived.Shelf.Slices.Empties2
import Derived.Shelf.Spec.SearchS
import Derived.Ground.Names2Prog
import Derived.Shelf.SlSortCmp.NoneTotal
import Derived.Ground.SlsfProg
import Derived.Test.YtmoplmjfnjgcaaaProg
import Derived.ProofKit
import Derived.OpenShut
import Derived.ShutString
import Derived.ChangeOld
import Derived.Lib.SmallJoins
import Derived.Deep.Grids
import Derived.Maps.OwnOps
import Derived.Maps.OwnSet
import Derived.StringKeys
import Derived.Deep.CutBlock
import Derived.Lib.Strings
import Derived.Deep.RegionLaw
import Derived.Deep.AppendLies
import Derived.RangeFuncBox
import Derived.Lib.Bytealg
import Derived.Deep.DrawnRows
import Derived.Deep.QuietTactic
import Derived.BigQuiet
import Derived.Lib.MinMax
import Derived.Deep.Slices
import Derived.Test.YtmoplmjfnjgcaaaCDicts2
namespace Go.Proofs.Ytmoplmjfnjgcaaa
open Go.RowKit
set_option linter.unusedSimpArgs false
set_option linter.unusedVariables false

def wcell (B : Nat → Wd) (j : Nat) : Value := if j % 2 = 0 then .string (B (j / 2)).t else .int .i64 (B (j / 2)).c
def wcells (B : Nat → Wd) (n : Nat) : List Value := (List.range (n * 2)).map (wcell B)
theorem wcells_len (B : Nat → Wd) (n : Nat) : (wcells B n).length = n * 2 := by simp [wcells]
theorem wcells_at {w : World} {g o n : Nat} {B : Nat → Wd} (h : WordsAt w g o n B) (j : Nat) (hj : j < n * 2) : w.cell? ⟨g, o + j, none⟩ = some (wcell B j) := by
  obtain ⟨h0, h1⟩ := h (j / 2) (by omega)
  unfold wcell
  split
  · rw [show o + j = o + j / 2 * 2 by omega]; exact h0
  · rw [show o + j = o + j / 2 * 2 + 1 by omega]; exact h1
theorem info_word : (Try.prog.info? 79).map (fun i => (i.zero, i.size, i.bytes)) = some (some (.agg #[.string ⟨#[]⟩, .int .i64 0]), 2, 24) := by kernel_rfl

set_option maxRecDepth 100000 in
theorem cloneW_any (g o n c : Nat) (B : Nat → Wd) (w : World) (hn' : n ≤ 5000) (hB : WordsAt w g o n B) :
    Calls Try.prog 40 #[.slice (some ⟨g, o, none⟩) n c] w fun e w' =>
      ∃ v, e = .returned v ∧ w'.ownsRow w.heap.size 79 2 v n (wcells B n) ∧ Below w.heap.size w w' := by
  have qT : ∀ (w : World) (a : Option Addr) (n c n' c' : Nat), (binOp .eql 38 (.slice a n c) (.slice none n' c')).run Try.prog w = .ok (.bool a.isNone) w := fun w a n c n' c' => Lib.run_eql_slice_nil w _ _ a n c n' c' Try.underlying38
  obtain ⟨i0, hi, hz0, hz1, hz2⟩ := info_parts info_word
  have HC := Lib.hid (fun j hj => wcells_at hB j hj)
  clear hB
  go_enter Try.func40, Try.ntmps40
  have hown : (w.alloc (.cells #[] 79)).ownsRow w.heap.size 79 2 (.slice (some ⟨w.heap.size, 0, none⟩) 0 0) 0 [] := World.ownsRow_made w #[] 0 (Nat.le_refl _) (by unfold maxLen; omega) rfl
  have HN := Lib.hid (show ∀ j u, (wcells B n)[j]? = some u → (w.alloc (.cells #[] 79)).cell? ((⟨g, o, none⟩ : Addr).add j) = some u by
    intro j u hu
    unfold wcells at hu
    rw [List.getElem?_map] at hu
    by_cases hj : j < n * 2
    · rw [List.getElem?_range hj] at hu
      simp at hu
      subst hu
      rw [Addr.add_lit]
      exact cell_later (new_below _ _) (HC.out j hj)
    · rw [List.getElem?_eq_none (by simpa using hj)] at hu
      simp at hu)
  have HO := Lib.hid hown
  clear hown
  go_wp2_with (at_builtin; refine wpList_append_own _ rfl _ _ 38 rfl w.heap.size 79 i0 (.agg #[.string ⟨#[]⟩, .int .i64 0]) 2 24 Try.underlying38 hi hz0 hz1 hz2 rfl (by decide) _ _ _ rfl HO.out ⟨g, o, none⟩ n c (wcells B n) rfl ?c0 HN.out ?c2 ?c3 ?c4 ?c5 ?_)
  case c0 => exact wcells_len B n
  case c2 => intro u hu; simp [wcells] at hu; obtain ⟨k, _, rfl⟩ := hu; unfold wcell; split <;> rfl
  case c3 => unfold maxLen; omega
  case c4 => omega
  case c5 => simp
  · intro v' w2 hown2 hgr2 _
    have B2 : Below w.heap.size w w2 := (new_below w (.cells #[] 79)).grown hgr2 (by simp) (fun k hk => by simp [Value.ownBlock] at hk; omega)
    have H2 := Lib.hid hown2
    clear hown2 hgr2
    go_wp2_with fail
    go_ret
    exact ⟨v', rfl, H2.out, B2⟩

theorem cloneW_none (w : World) :
    Calls Try.prog 40 #[.slice none 0 0] w fun e w' => e = .returned (.slice none 0 0) ∧ w = w' := by
  have qT : ∀ (w : World) (a : Option Addr) (n c n' c' : Nat), (binOp .eql 38 (.slice a n c) (.slice none n' c')).run Try.prog w = .ok (.bool a.isNone) w := fun w a n c n' c' => Lib.run_eql_slice_nil w _ _ a n c n' c' Try.underlying38
  go_enter Try.func40, Try.ntmps40
  go_wp2_with fail
  go_ret
  exact ⟨rfl, rfl⟩

end Go.Proofs.Ytmoplmjfnjgcaaa
namespace Go.Proofs.Ytmoplmjfnjgcaaa
open Go.RowKit Go.Maps Go.Sort Go.Lib
set_option linter.unusedSimpArgs false
set_option linter.unusedVariables false

theorem newClosure_any (a b : ByteArray) (x y : Int) (W : World) :
    Calls Try.prog 42 #[.agg #[.string a, .int .i64 x], .agg #[.string b, .int .i64 y]] W fun e w' => e = .returned (.int .i64 (Lib.compareBytes a.data.toList b.data.toList)) ∧ ∃ q os', w' = grow (W.drewN q) os' := by
  have hcon := Try.strings_Compare a b
  generalize Lib.compareBytes a.data.toList b.data.toList = r at hcon ⊢
  go_enter Try.func42, Try.ntmps42
  go_wp2_with (go_at_call 43; refine (hcon _).mono ?_; rintro e w' ⟨rfl, rfl⟩)
  go_ret
  exact ⟨rfl, 0, _, by rw [alloc_eq_grow, alloc_eq_grow, grow_grow]; rfl⟩

def wenc (B : Nat → Wd) (m : Nat) (i : Fin (m + 1)) : List Value := [.string (B i.1).t, .int .i64 (B i.1).c]
theorem wflat (B : Nat → Wd) (m : Nat) (d : Array (Fin (m + 1))) (j : Nat) (hj : j < d.size * 2) : (flatK (wenc B m) 2 d)[j]! = wcell (fun i => B (d[i]!).1) j := by
  rw [get_flatK _ _ _ _ hj]
  unfold wcell wenc
  have : j % 2 = 0 ∨ j % 2 = 1 := by omega
  rcases this with h | h <;> simp [h]

theorem ownsW_holds {w : World} {base g c m : Nat} {B : Nat → Wd} (h : w.ownsRow base 79 2 (.slice (some ⟨g, 0, none⟩) (m + 1) c) (m + 1) (wcells B (m + 1))) :
    HoldsK (wenc B m) 2 w g 0 (fins m).toArray ∧ g < w.heap.size ∧ base ≤ g := by
  rcases h.2 with ⟨h0, _⟩ | ⟨g', cap, cur, h0, hb, hg, h1, h2, h3, h4⟩
  · cases h0
  · cases h0
    refine ⟨fun j hj => ?_, (Array.getElem?_eq_some_iff.1 hg).1, hb⟩
    have hj' : j < (m + 1) * 2 := by simpa [fins_len] using hj
    refine ⟨?_, by simp [World.frozen?, hg]⟩
    have e1 : (flatK (wenc B m) 2 (fins m).toArray)[j]! = wcell B j := by
      rw [wflat _ _ _ _ (by simpa [fins_len] using hj')]
      have hk : j / 2 < m + 1 := by omega
      have : (((fins m).toArray[j / 2]!).1 : Nat) = j / 2 := by
        have hl : j / 2 < (fins m).length := by rw [fins_len]; exact hk
        have h5 : (fins m)[j / 2] = ⟨j / 2, hk⟩ := by simp only [fins, List.getElem_ofFn]
        simp [hl, h5]
      unfold wcell
      simp only [this]
    rw [e1]
    have h5 : (cur.toList.take ((m + 1) * 2))[j]? = (wcells B (m + 1))[j]? := by rw [h4]
    rw [List.getElem?_take, if_pos hj'] at h5
    have h6 : (wcells B (m + 1))[j]? = some (wcell B j) := by simp [wcells, hj']
    rw [h6] at h5
    simp [World.cell?, hg]
    simpa using h5

theorem sortK_world {blk n m : Nat} {B : Nat → Wd} {d s : Array (Fin (m + 1))} {w : World} (os : Array Obj) (hH : HoldsK (wenc B m) 2 w blk 0 d) (hblk : blk < w.heap.size) (hl : s.size = d.size) :
    WordsAt (sortWorldK (wenc B m) 2 w blk 0 n s os) blk 0 d.size (fun i => B (s[i]!).1) ∧ w.grownBy (sortWorldK (wenc B m) 2 w blk 0 n s os) (some blk) := by
  have hsz : (putRowK (wenc B m) 2 (Sort.ahead w n) blk 0 s).heap.size = w.heap.size := by simp [putRowK, Go.Sort.putRow, Go.Sort.mapBlock, Go.Sort.ahead]
  have hK : HoldsK (wenc B m) 2 (sortWorldK (wenc B m) 2 w blk 0 n s os) blk 0 s := by
    unfold sortWorldK
    exact holdsK_grow _ _ _ _ _ _ _ (by rw [hsz]; exact hblk) (holdsK_putRowK _ _ _ _ _ d s (holdsK_ahead _ _ _ _ _ _ _ hH) hl)
  refine ⟨fun i hi => ?_, rfl, rfl, rfl, ?_, fun k hk hne => ?_⟩
  · have c0 := (hK.cell (i := i) (c := 0) (by rw [hl]; exact hi) (by decide)).1
    have c1 := (hK.cell (i := i) (c := 1) (by rw [hl]; exact hi) (by decide)).1
    exact ⟨c0, c1⟩
  · simp only [sortWorldK, Go.Sort.grow, Array.size_append]; omega
  · unfold sortWorldK
    rw [Go.Sort.heap_grow_old _ _ (by rw [hsz]; omega)]
    simp only [putRowK, Go.Sort.putRow, Go.Sort.mapBlock, Go.Sort.ahead, Array.getElem?_modify]
    rw [if_neg (fun e => hne (by rw [e]))]

/-- slices.SortFunc of the cloned words. -/
theorem sortW_any (m g c base : Nat) (B : Nat → Wd) (w : World) (hm : m + 1 ≤ 5000) (hd : dcFirst B (m + 1) = 0) (h : w.ownsRow base 79 2 (.slice (some ⟨g, 0, none⟩) (m + 1) c) (m + 1) (wcells B (m + 1))) (hb : base ≤ w.heap.size) :
    Calls Try.prog 41 #[.slice (some ⟨g, 0, none⟩) (m + 1) c, .func (.func 42) #[] #[]] w fun e w' =>
      e = .returned (.tuple #[]) ∧ WordsAt w' g 0 (m + 1) (sorted B m) ∧ Below base w w' := by
  obtain ⟨o1, o2, o3⟩ := ownsW_holds h
  have eg : ∀ args w, (callFunc 42 args).run Try.prog w = .ok (.enter 42 args) w := enters_of Try.func42 (by kernel_rfl) rfl
  have hcmp : CmpLays Try.prog 42 #[] (wenc B m) 2 (wcmp B m) g 0 (fins m).toArray.size w := fun _ _ _ _ x y => newClosure_any _ _ _ _ _
  have hT : ∀ x y, ltOf (wcmp B m) x y = false → ltOf (wcmp B m) y x = false → x = y := fun x y h1 h2 => by
    rw [wcmp_lt] at h1 h2
    exact Fin.ext (dc_inj hd x.2 y.2 (WideShapes.bytes_inj (bl_total _ _ h1 h2)))
  have hcon := AnyQ.slices_SortFunc_total Try.sortW 2 Try.isAgg79 Try.sizeOf79 (wenc B m) (fun _ => rfl) (fun x v hv => by simp [wenc] at hv; rcases hv with rfl | rfl <;> rfl) (wcmp B m) (wcmp_swo B m) 42 #[] g 0 c (fins m).toArray w eg hcmp o1 o2 (by simp [fins_len]; omega) hT
  rw [show (fins m).toArray.size = m + 1 by simp [fins_len]] at hcon
  refine Calls.mono hcon ?_
  rintro e w' ⟨rfl, n, os, rfl⟩
  obtain ⟨s1, s2⟩ := sortK_world (n := n) os o1 o2 (s := (inOrder B m).toArray) (by simp [inOrder_len, fins_len])
  rw [show (fins m).toArray.size = m + 1 by simp [fins_len]] at s1
  exact ⟨rfl, s1, (Below.refl base w).grown s2 hb (fun j hj => by cases hj; exact o3)⟩

set_option maxRecDepth 100000 in
theorem cloneW_zero (x : Addr) (c : Nat) (w : World) :
    Calls Try.prog 40 #[.slice (some x) 0 c] w fun e w' =>
      ∃ v, e = .returned v ∧ w'.ownsRow w.heap.size 79 2 v 0 [] ∧ Below w.heap.size w w' := by
  have qT : ∀ (w : World) (a : Option Addr) (n c n' c' : Nat), (binOp .eql 38 (.slice a n c) (.slice none n' c')).run Try.prog w = .ok (.bool a.isNone) w := fun w a n c n' c' => Lib.run_eql_slice_nil w _ _ a n c n' c' Try.underlying38
  obtain ⟨i0, hi, hz0, hz1, hz2⟩ := info_parts info_word
  go_enter Try.func40, Try.ntmps40
  have hown : (w.alloc (.cells #[] 79)).ownsRow w.heap.size 79 2 (.slice (some ⟨w.heap.size, 0, none⟩) 0 0) 0 [] := World.ownsRow_made w #[] 0 (Nat.le_refl _) (by unfold maxLen; omega) rfl
  have HO := Lib.hid hown
  clear hown
  go_wp2_with (at_builtin; refine wpList_append_own _ rfl _ _ 38 rfl w.heap.size 79 i0 (.agg #[.string ⟨#[]⟩, .int .i64 0]) 2 24 Try.underlying38 hi hz0 hz1 hz2 rfl (by decide) _ _ _ rfl HO.out x 0 c [] rfl ?c0 ?cn ?c2 ?c3 ?c4 ?c5 ?_)
  case c0 => rfl
  case cn => intro j u hu; simp at hu
  case c2 => intro u hu; simp at hu
  case c3 => unfold maxLen; omega
  case c4 => omega
  case c5 => simp
  · intro v' w2 hown2 hgr2 _
    have B2 : Below w.heap.size w w2 := (new_below w (.cells #[] 79)).grown hgr2 (by simp) (fun k hk => by simp [Value.ownBlock] at hk; omega)
    have H2 := Lib.hid hown2
    clear hown2 hgr2
    go_wp2_with fail
    go_ret
    exact ⟨v', rfl, H2.out, B2⟩

/-- What the reference's NewDict makes. -/
def RMade (w w' : World) (B : Nat → Wd) (n db : Nat) : Prop :=
  ∃ S, RDictAt w' S n db ∧ listT S n = sortL (listT B n) ∧ (∀ x r, CntIs S n x r → r = cntT B n x) ∧ Below w.heap.size w w'

set_option maxHeartbeats 1000000 in
theorem newDictR_none (s : Option Addr) (c : Nat) (B : Nat → Wd) (w : World) (hs : s = none → c = 0) :
    Calls Try.prog 16 #[.slice s 0 c] w fun e w' => ∃ db, e = .returned (.pointer (some ⟨db, 0, none⟩)) ∧ RMade w w' B 0 db := by
  have HC : Calls Try.prog 40 #[.slice s 0 c] w fun e w' => ∃ p c', e = .returned (.slice p 0 c') ∧ Below w.heap.size w w' := by
    cases s with
    | none =>
      rw [hs rfl]
      refine (cloneW_none w).mono ?_
      rintro e w' ⟨rfl, rfl⟩
      exact ⟨_, _, rfl, Below.refl _ _⟩
    | some x =>
      refine (cloneW_zero x c w).mono ?_
      rintro e w' ⟨v, rfl, ho, hb⟩
      obtain ⟨p, c', rfl⟩ := owns_len ho
      exact ⟨_, _, rfl, hb⟩
  have HC := Lib.hid HC
  go_enter Try.func16, Try.ntmps16
  go_wp2_with fail
  refine HC.out.mono ?_
  rintro e w2 ⟨p, c', rfl, b2⟩
  have hcon := AnyF.slices_SortFunc_none Try.sortW p c' (.func (.func 42) #[] #[]) w2
  have RR := Lib.hid (show RMade w (w2.alloc (.cells #[.slice p 0 c'] 87)) B 0 w2.heap.size from
    ⟨fun _ => default, ⟨p, c', by go_simp, fun h => absurd h (by decide)⟩, by simp [listT, sortL], fun x r hr => by
      rcases hr with ⟨i, hi, _⟩ | ⟨_, rfl⟩
      · omega
      · rfl, below_alloc b2 _⟩)
  go_wp2_with fail
  refine Calls.mono hcon ?_
  rintro e w3 ⟨rfl, rfl⟩
  go_wp2_with fail
  go_ret
  exact ⟨_, rfl, RR.out⟩

set_option maxHeartbeats 1000000 in
theorem newDictR_some (m g o c : Nat) (B : Nat → Wd) (w : World) (hm : m + 1 ≤ 5000) (hB : WordsAt w g o (m + 1) B) (hd : dcFirst B (m + 1) = 0) :
    Calls Try.prog 16 #[.slice (some ⟨g, o, none⟩) (m + 1) c] w fun e w' => ∃ db, e = .returned (.pointer (some ⟨db, 0, none⟩)) ∧ RMade w w' B (m + 1) db := by
  have HC := Lib.hid (cloneW_any g o (m + 1) c B w hm hB)
  go_enter Try.func16, Try.ntmps16
  go_wp2_with fail
  refine HC.out.mono ?_
  rintro e w2 ⟨v, rfl, ho, b2⟩
  obtain ⟨g2, c2, rfl⟩ : ∃ g2 c2, v = .slice (some ⟨g2, 0, none⟩) (m + 1) c2 := by
    rcases ho.2 with ⟨_, h1⟩ | ⟨g', cap, cur, h1, _⟩
    · omega
    · exact ⟨_, _, h1⟩
  have hcon := sortW_any m g2 c2 w.heap.size B w2 hm hd ho b2.size
  have HB2 := Lib.hid b2
  clear ho b2
  go_wp2_with fail
  refine hcon.mono ?_
  rintro e w3 ⟨rfl, r1, b3⟩
  have RR := Lib.hid (show RMade w (w3.alloc (.cells #[.slice (some ⟨g2, 0, none⟩) (m + 1) c2] 87)) B (m + 1) w3.heap.size from
    ⟨sorted B m, ⟨_, c2, by go_simp, fun h => ⟨g2, rfl, r1.later (new_below _ _)⟩⟩, sorted_list B m, fun x r hr => sorted_cnt hd hr, below_alloc (HB2.out.trans b3) _⟩)
  clear r1
  go_wp2_with fail
  go_ret
  exact ⟨_, rfl, RR.out⟩

end Go.Proofs.Ytmoplmjfnjgcaaa
namespace Go.Proofs.Ytmoplmjfnjgcaaa
open Go.ChangeShapes Go.WideShapes Go.ChangeAt Go.RowKit Go.Joins
open Go.ChangeMaps (open_string shut_string)
set_option linter.unusedVariables false

theorem cellsWord : Try.prog.cellsOf 79 = 2 := by kernel_rfl

instance : Inhabited Wd := ⟨⟨⟨#[]⟩, 0⟩⟩

set_option maxRecDepth 100000 in
/-- Two cells that read as a word. -/
theorem word_cells {H : Type} {enc : TypeId × Value → H} {w : World} {base fuel : Nat} {spare : Nat → Bool} {held : Bool} {cs : List Value} {y : DataW H × List MemPlace}
    (h : DataW.trod enc Try.prog w base spare held fuel 79 cs = some y) (hl : cs.length = 2) : ∃ b : Wd, cs = [.string b.t, .int .i64 b.c] ∧ b.t.size ≤ maxLen := by
  obtain ⟨y0, y1, n, _, _, h0, h1⟩ := trod_struct2 Try.underlying79 h
  match cs, hl with
  | [c0, c1], _ =>
    have ci : Try.prog.cellsOf 9 = 1 := by kernel_rfl
    have cj : Try.prog.cellsOf 3 = 1 := by kernel_rfl
    simp only [ci, cj, List.drop_zero, List.drop_succ_cons, List.take_succ_cons, List.take_zero] at h0 h1
    obtain ⟨a0, e0, _, z0⟩ := DataW.trod_string Try.underlying9 h0
    obtain ⟨a1, e1, _, _⟩ := DataW.trod_int Try.underlying3 h1
    simp at e0 e1
    exact ⟨⟨a0, a1⟩, by rw [e0, e1], z0⟩

/-- A slice of words: without any, or cell by cell. -/
def IsWords (w : World) (s : Option Addr) (n c : Nat) (B : Nat → Wd) : Prop := (n = 0 ∧ (s = none → c = 0)) ∨ ∃ g o, s = some ⟨g, o, none⟩ ∧ n ≤ c ∧ WordsAt w g o n B

set_option maxRecDepth 100000 in
theorem open_wordsN {W : World} {H : Type} {enc : TypeId × Value → H} {base : Nat} {held : Bool} {r : Reach} {b0 : Nat} {v : Value} {d : DataW H} {p : List MemPlace}
    (hv : Value.okWide Try.prog W r b0 38 v) (h : DataW.Trod enc Try.prog W base (fun _ => true) held 38 v d p) :
    ∃ s n c B, v = .slice s n c ∧ IsWords W s n c B ∧ n ≤ 9223372036854775807 ∧ ∀ i, i < n → (B i).t.size ≤ 9223372036854775807 := by
  obtain ⟨a1, len, cap, rfl⟩ := okWide_slice Try.underlying38 hv
  obtain ⟨fuel, hf⟩ := h
  rcases Go.Deep.open_slice Try.underlying38 hf with ⟨hcs, _⟩ | ⟨x, l, c, m, k, D, Pl, hcs, _, hl, hm, hmm, _, hcell⟩
  · simp [Value.cells] at hcs
    obtain ⟨rfl, rfl, rfl⟩ := hcs
    exact ⟨none, 0, 0, fun _ => default, rfl, .inl ⟨rfl, fun _ => rfl⟩, by decide, fun i hi => by omega⟩
  · simp [Value.cells] at hcs
    obtain ⟨rfl, rfl, rfl⟩ := hcs
    simp only [if_true] at hmm
    subst hmm
    obtain ⟨B, hB⟩ := Go.Deep.choose_lt (α := Wd) (p := fun i b => (W.cell? ((x.add (i * 2)).add 0) = some (.string b.t) ∧ W.cell? ((x.add (i * 2)).add 1) = some (.int .i64 b.c)) ∧ b.t.size ≤ maxLen) (fun i hi => by
      obtain ⟨cs', hc, ht⟩ := hcell i hi
      rw [cellsWord] at hc
      obtain ⟨_, hlen, hat⟩ := World.cells?_some hc
      obtain ⟨b, rfl, hz⟩ := word_cells ht hlen
      exact ⟨b, ⟨hat 0 (by omega), hat 1 (by omega)⟩, hz⟩)
    refine ⟨some x, _, _, B, rfl, ?_, by unfold maxLen at hm; omega, fun i hi => by have := (hB i (by omega)).2; unfold maxLen at this; exact this⟩
    by_cases h0 : len = 0
    · exact .inl ⟨h0, fun e => by cases e⟩
    · obtain ⟨g, o, spot⟩ := x
      have hspot : spot = none := by
        have := World.cell?_spot (hB 0 (by omega)).1.1
        simpa [Addr.add] using this
      subst hspot
      refine .inr ⟨g, o, rfl, hl, fun i hi => ?_⟩
      obtain ⟨⟨h1, h2⟩, _⟩ := hB i (by omega)
      rw [Addr.add_lit, Addr.add_lit] at h1 h2
      exact ⟨h1, h2⟩

end Go.Proofs.Ytmoplmjfnjgcaaa
namespace Go.Proofs.Ytmoplmjfnjgcaaa
open Go.RowKit Go.Maps
set_option linter.unusedSimpArgs false
set_option linter.unusedVariables false

theorem eqT_any (M : List (List UInt8)) (v1 v2 : Value) (b1 b2 : Nat) (w : World) (hn : M.length ≤ 5000) (h1 : w.ownsRow b1 9 1 v1 M.length (M.map txt)) (h2 : w.ownsRow b2 9 1 v2 M.length (M.map txt)) :
    Calls Try.prog 21 #[v1, v2] w fun e w' => e = .returned (.bool true) ∧ Below w.heap.size w w' := by
  by_cases h0 : M.length = 0
  · obtain ⟨p, c, rfl⟩ := owns_len h1
    obtain ⟨p2, c2, rfl⟩ := owns_len h2
    rw [h0]
    refine (Try.slices_Equal_string_empty p p2 c 0 c2 w (by decide)).mono ?_
    rintro e w' ⟨rfl, rfl⟩
    exact ⟨by simp, Below.refl _ _⟩
  · have sh : ∀ {b : Nat} {v : Value}, w.ownsRow b 9 1 v M.length (M.map txt) → ∃ g c, v = .slice (some ⟨g, 0, none⟩) M.length c ∧ ∀ j, j < (M.map fun l => ByteArray.mk l.toArray).length → w.cell? ⟨g, 0 + j, none⟩ = some (.string ((M.map fun l => ByteArray.mk l.toArray).getD j ByteArray.empty)) := by
      intro b v h
      obtain ⟨g, c, rfl⟩ : ∃ g c, v = .slice (some ⟨g, 0, none⟩) M.length c := by
        rcases h.2 with ⟨_, k⟩ | ⟨g', cap, cur, k, _⟩
        · exact absurd k h0
        · exact ⟨_, _, k⟩
      obtain ⟨o1, _, _⟩ := ownsT_holds h
      refine ⟨g, c, rfl, fun j hj => ?_⟩
      have hj' : j < M.length := by simpa using hj
      have := (o1 j (by simpa using hj')).1
      rw [this]
      simp [List.getD, hj', txt]
    obtain ⟨g1, c1, rfl, k1⟩ := sh h1
    obtain ⟨g2, c2, rfl, k2⟩ := sh h2
    refine (Try.slices_Equal_string g1 0 M.length c1 g2 0 M.length c2 _ _ w (by simp) (by simp) (by omega) (by omega) k1 k2).mono ?_
    rintro e w' ⟨rfl, q, rfl⟩
    exact ⟨by simp, below_drewN (Below.refl _ _) q⟩

set_option maxHeartbeats 1000000 in
theorem newDict_zero (s : Option Addr) (c : Nat) (B : Nat → Wd) (w : World) :
    Calls Try.prog 14 #[.slice s 0 c] w fun e w' => ∃ db, e = .returned (.tuple #[.pointer (some ⟨db, 0, none⟩), .int .i64 0]) ∧ DictAt w' w.heap.size B 0 db ∧ Below w.heap.size w w' := by
  have hmm := @run_makeMap Try.prog
  go_enter Try.func14, Try.ntmps14
  go_upto_region 4 with (fail)
  obtain ⟨w1, hw1⟩ : ∃ w1, w1 = (w.alloc (.map #[] 0)).alloc (.cells #[.slice none 0 0, .map (some w.heap.size)] 77) := ⟨_, rfl⟩
  have hv : w1.heap[w.heap.size + 1]? = some (.cells #[.slice none 0 0, .map (some w.heap.size)] 77 (0, 0)) := by
    rw [hw1]
    have := heap_alloc_new (w.alloc (.map #[] 0)) (.cells #[.slice none 0 0, .map (some w.heap.size)] 77)
    rwa [show (w.alloc (.map #[] 0)).heap.size = w.heap.size + 1 by simp] at this
  have hS : DictR w B w.heap.size (w.heap.size + 1) 0 w1 := by
    refine ⟨?_, ⟨.slice none 0 0, hv, World.ownsRow_nil _ _ _ _⟩, ?_, ?_, rfl⟩
    · rw [hw1]; exact strMap_kept (strMap_new w) (row := none) (World.grownBy_alloc _ _ none) (by simp)
    · rw [hw1]; exact below_alloc (new_below _ _) _
    · rw [hw1]; simp
  have RR := Lib.hid (hS.done hv (World.ownsRow_nil _ _ _ _) (.inl ⟨rfl, by simp [listT, sortL]⟩) (w2 := w1) ⟨rfl, rfl, rfl, Nat.le_refl _, fun _ _ _ => rfl⟩)
  obtain ⟨g0, g1, _, _⟩ := block2 hv
  have hss := Any.slices_Sort_string_none Try.lays190 none 0 w1
  rw [← hw1]
  clear hw1 hmm hv hS
  go_wp2_with fail
  go_loopw [15] (fun i wr => i = .int .i64 0 ∧ wr = w1) (fun _ _ => 0)
  case atStart => exact ⟨rfl, rfl⟩
  case round =>
    obtain ⟨rfl, rfl⟩ := hrel
    go_wp2_with fail
    refine Calls.mono hss ?_
    rintro e w' ⟨rfl, hww⟩
    subst hww
    go_wp2_with fail
    go_ret2
    exact ⟨_, rfl, RR.out.1, RR.out.2⟩

set_option maxHeartbeats 1000000 in
theorem dictError_zero (s : Option Addr) (c : Nat) (w : World) :
    Calls Try.prog 15 #[.slice s 0 c] w fun e w' => e = .returned (.int .i64 0) ∧ Below w.heap.size w w' := by
  have hmm := @run_makeMap Try.prog
  go_enter Try.func15, Try.ntmps15
  go_wp2_with fail
  go_loopw [12] (fun i wr => i = .int .i64 0 ∧ Below w.heap.size w wr) (fun _ _ => 0)
  case atStart => exact ⟨rfl, new_below _ _⟩
  case round =>
    obtain ⟨rfl, hb⟩ := hrel
    go_wp2_with fail
    go_ret
    exact ⟨rfl, hb⟩

end Go.Proofs.Ytmoplmjfnjgcaaa
namespace Go.Proofs.Ytmoplmjfnjgcaaa
open Go.RowKit
set_option linter.unusedSimpArgs false
set_option linter.unusedVariables false

theorem landed_any (w : World) : Calls Try.prog 6 #[] w fun e w' => e = .returned (.bool true) ∧ w = w' := by
  go_enter Try.func6, Try.ntmps6
  go_wp2_with fail
  refine (isName_any _ _ (by decide)).mono ?_
  rintro e w1 ⟨b, rfl, hb, rfl⟩
  have hn : NameP ⟨#[97]⟩ := ⟨⟨by decide, by decide⟩, fun k hk => by
    obtain rfl : k = 0 := by have : (ByteArray.mk #[97]).size = 1 := rfl; omega
    decide⟩
  obtain rfl : b = true := hb.2 hn
  go_wp2_with fail
  go_ret
  exact ⟨rfl, rfl⟩

end Go.Proofs.Ytmoplmjfnjgcaaa
namespace Go.Proofs.Ytmoplmjfnjgcaaa
open Go.RowKit Go.Maps
set_option linter.unusedSimpArgs false
set_option linter.unusedVariables false

theorem newDict_isw (s : Option Addr) (n c : Nat) (B : Nat → Wd) (w : World) (hs : IsWords w s n c B) (hn : n ≤ 9223372036854775807) (hZ : ∀ i, i < n → (B i).t.size ≤ 9223372036854775807) :
    Calls Try.prog 14 #[.slice s n c] w fun e w' => (dcErr B n ≠ 0 ∧ e = .returned (.tuple #[.pointer none, .int .i64 (dcErr B n)]) ∧ Below w.heap.size w w') ∨ (dcErr B n = 0 ∧ ∃ db, e = .returned (.tuple #[.pointer (some ⟨db, 0, none⟩), .int .i64 0]) ∧ DictAt w' w.heap.size B n db ∧ Below w.heap.size w w') := by
  rcases hs with ⟨rfl, _⟩ | ⟨g, o, rfl, _, hB⟩
  · exact (newDict_zero s c B w).mono fun e w' h => .inr ⟨rfl, h⟩
  · exact newDict_loop n g o c B w hn hB hZ

theorem dictError_isw (s : Option Addr) (n c : Nat) (B : Nat → Wd) (w wx : World) (hs : IsWords w s n c B) (hn : n ≤ 9223372036854775807) (hZ : ∀ i, i < n → (B i).t.size ≤ 9223372036854775807) (hb : Below w.heap.size w wx) :
    Calls Try.prog 15 #[.slice s n c] wx fun e w' => e = .returned (.int .i64 (dcErr B n)) ∧ Below wx.heap.size wx w' := by
  rcases hs with ⟨rfl, _⟩ | ⟨g, o, rfl, _, hB⟩
  · exact (dictError_zero s c wx).mono fun e w' h => ⟨h.1, h.2⟩
  · exact (dictError_any n g o c B wx hn (hB.later hb) hZ).mono fun e w' h => ⟨h.1, h.2⟩

theorem newDictR_isw (s : Option Addr) (n c : Nat) (B : Nat → Wd) (w wx : World) (hs : IsWords w s n c B) (hd : dcErr B n = 0) (hb : Below w.heap.size w wx) :
    Calls Try.prog 16 #[.slice s n c] wx fun e w' => ∃ db, e = .returned (.pointer (some ⟨db, 0, none⟩)) ∧ RMade wx w' B n db := by
  have h5 : n ≤ 5000 := by
    apply Classical.byContradiction
    intro h
    unfold dcErr at hd
    rw [if_pos (by omega)] at hd
    cases hd
  have h0 : dcFirst B n = 0 := by unfold dcErr at hd; rwa [if_neg (by omega)] at hd
  rcases hs with ⟨rfl, hs⟩ | ⟨g, o, rfl, _, hB⟩
  · exact newDictR_none s c B wx hs
  · match n, h0, h5, hB with
    | 0, _, _, _ => exact newDictR_none _ c B wx (fun e => by cases e)
    | m + 1, h0, h5, hB => exact newDictR_some m g o c B wx h5 (hB.later hb) h0

theorem beg_mem {M : List (List UInt8)} {s : List UInt8} {m : Int} {x : List UInt8} (h : x ∈ beg M s m) : x ∈ M := (List.mem_filter.1 (List.mem_of_mem_take h)).1
theorem sortL_mem {M : List (List UInt8)} {x : List UInt8} (h : x ∈ sortL M) : x ∈ M := (List.mergeSort_perm M _).mem_iff.1 h
theorem beg_le (M : List (List UInt8)) (s : List UInt8) (m : Int) : (beg M s m).length ≤ M.length := by
  unfold beg; rw [List.length_take]
  have := List.length_filter_le (fun x => List.isPrefixOf s x) M
  omega

theorem rowX {w : World} {base : Nat} {v : Value} (xs : List (List UInt8)) (h : w.ownsRow base 9 1 v xs.length (xs.map txt)) (h0 : 0 < xs.length) (hsz : ∀ x, x ∈ xs → x.length ≤ maxLen) :
    ∃ (g c : Nat) (X : Nat → ByteArray), v = .slice (some ⟨g, 0, none⟩) xs.length c ∧ ∀ j, j < xs.length → w.cell? ⟨g, j, none⟩ = some (.string (X j)) ∧ (X j).size ≤ maxLen := by
  obtain ⟨g, c, rfl⟩ : ∃ g c, v = .slice (some ⟨g, 0, none⟩) xs.length c := by
    rcases h.2 with ⟨_, k⟩ | ⟨g', cap, cur, k, _⟩
    · omega
    · exact ⟨_, _, k⟩
  obtain ⟨o1, _, _⟩ := ownsT_holds h
  refine ⟨g, c, fun j => ⟨(xs.getD j []).toArray⟩, rfl, fun j hj => ⟨?_, ?_⟩⟩
  · have := (o1 j (by simpa using hj)).1
    rw [Nat.zero_add] at this
    rw [this]
    simp [List.getD, hj, txt]
  · have := hsz xs[j] (List.getElem_mem hj)
    simpa [List.getD, hj, ByteArray.size] using this

theorem countD_at {w wx : World} {base n db : Nat} {B : Nat → Wd} (h : DictAt w base B n db) (hb : Below w.heap.size w wx) (x : ByteArray) (hx : x.size ≤ maxLen) :
    Calls Try.prog 18 #[.pointer (some ⟨db, 0, none⟩), .string x] wx fun e w' => e = .returned (.int .i64 (cntT B n x)) ∧ wx = w' := by
  obtain ⟨mb, v, m1, _, m3, _⟩ := h.later hb
  exact count_any _ db mb n x wx m3 m1 hx
theorem hasD_at {w wx : World} {base n db : Nat} {B : Nat → Wd} (h : DictAt w base B n db) (hb : Below w.heap.size w wx) (x : ByteArray) (hx : x.size ≤ maxLen) :
    Calls Try.prog 20 #[.pointer (some ⟨db, 0, none⟩), .string x] wx fun e w' => e = .returned (.bool (decide (0 < cntT B n x))) ∧ wx = w' := by
  obtain ⟨mb, v, m1, _, m3, _⟩ := h.later hb
  exact has_any _ db mb n x wx m3 m1 hx
theorem countR_at {w wx : World} {n db : Nat} {B S : Nat → Wd} (h : RDictAt w S n db) (hn : n ≤ 5000) (hc : ∀ x r, CntIs S n x r → r = cntT B n x) (hb : Below w.heap.size w wx) (x : ByteArray) :
    Calls Try.prog 19 #[.pointer (some ⟨db, 0, none⟩), .string x] wx fun e w' => e = .returned (.int .i64 (cntT B n x)) ∧ Below w.heap.size w w' := by
  refine (countR_any S n db x wx hn (h.later hb)).mono ?_
  rintro e w' ⟨r, rfl, hr, hb'⟩
  exact ⟨by rw [hc x r hr], hb.trans (hb'.mono hb.size)⟩

set_option maxHeartbeats 4000000 in
set_option maxRecDepth 100000 in
theorem dicts_any (s : Option Addr) (n c : Nat) (B : Nat → Wd) (t : ByteArray) (m : Int) (w : World) (hs : IsWords w s n c B) (hn : n ≤ 9223372036854775807) (hZ : ∀ i, i < n → (B i).t.size ≤ 9223372036854775807) (ht : t.size ≤ maxLen) :
    Calls Try.prog 4 #[.slice s n c, .string t, .int .i64 m] w fun e w' => e = .returned (.bool true) ∧ Below w.heap.size w w' := by
  obtain ⟨i0, hi, hz0, hz1, hz2⟩ := info_parts info_str'
  have K1 := Lib.hid (newDict_isw s n c B w hs hn hZ)
  have K2 := Lib.hid (fun wx hx => dictError_isw s n c B w wx hs hn hZ hx)
  have K3 := Lib.hid (fun wx hd hx => newDictR_isw s n c B w wx hs hd hx)
  have h5 : dcErr B n = 0 → n ≤ 5000 := fun hd => by
    apply Classical.byContradiction
    intro h
    unfold dcErr at hd
    rw [if_pos (by omega)] at hd
    cases hd
  have HM := Lib.hid (show ∀ x, x ∈ sortL (listT B n) → x.length ≤ maxLen from fun x hx => by
    have := sortL_mem hx
    simp only [listT, List.mem_map, List.mem_range] at this
    obtain ⟨i, hi, rfl⟩ := this
    have := hZ i hi
    simpa [maxLen] using this)
  have HT := Lib.hid ht
  clear hs hn hZ ht
  go_enter Try.func4, Try.ntmps4
  go_wp2_with ((go_at_call 6; refine (landed_any _).mono ?_; rintro e w' ⟨rfl, rfl⟩))
  refine K1.out.mono ?_
  rintro e w1 (⟨h0, rfl, b1⟩ | ⟨h0, db, rfl, d1, b1⟩)
  · have hK := K2.out w1 b1
    generalize dcErr B n = er at *
    have he0 : (er == (0 : Int)) = false := by simp [h0]
    go_wp2_with fail
    refine hK.mono ?_
    rintro e w2 ⟨rfl, b2⟩
    go_wp2_with fail
    go_ret
    exact ⟨rfl, b1.trans (b2.mono b1.size)⟩
  · have h5' := h5 h0
    have hK := K2.out w1 b1
    rw [h0] at hK
    have D1 := Lib.hid d1
    have B1 := Lib.hid b1
    clear d1
    go_wp2_with fail
    refine hK.mono ?_
    rintro e w2' ⟨rfl, b2⟩
    have D2 := Lib.hid (D1.out.later b2)
    have B2 := Lib.hid (B1.out.trans (b2.mono B1.out.size))
    have hN := K3.out w2' h0 B2.out
    clear D1 b2
    go_wp2_with fail
    refine hN.mono ?_
    rintro e w3 ⟨db2, rfl, S, r1, hL, hcn, b3⟩
    have D3 := Lib.hid (D2.out.later b3)
    have B3 := Lib.hid (B2.out.trans (b3.mono B2.out.size))
    have R3 := Lib.hid r1
    have HCQ := Lib.hid hcn
    have HL := Lib.hid hL
    obtain ⟨w4, hw4⟩ : ∃ w4, w4 = w3.alloc (.cells #[.string t] 9) := ⟨_, rfl⟩
    have hb4 : Below w3.heap.size w3 w4 := by rw [hw4]; exact new_below _ _
    have O4 := Lib.hid (show w4.ownsRow w3.heap.size 9 1 (.slice (some ⟨w3.heap.size, 0, none⟩) 1 1) 1 [.string t] from by rw [hw4]; exact ⟨by simp, .inr ⟨w3.heap.size, 1, #[.string t], rfl, Nat.le_refl _, heap_alloc_new w3 _, Nat.le_refl _, by unfold maxLen; omega, rfl, by simp⟩⟩)
    have B4 := Lib.hid (B3.out.trans (hb4.mono B3.out.size))
    have D4 := Lib.hid (D3.out.later hb4)
    have R4 := Lib.hid (R3.out.later hb4)
    have hbr := beginR_any S n db2 ⟨#[]⟩ 20 w4 h5' R4.out
    have HB34 := Lib.hid hb4
    clear hN r1 hL hcn b3 D2 hb4
    go_wp2_with fail
    rw [← hw4]
    have h34 : w3.heap.size + 1 = w4.heap.size := by rw [hw4]; simp
    clear hw4
    refine hbr.mono ?_
    rintro e w5 ⟨v5, rfl, hr5⟩
    have hr := hr5.r
    have hb5 := hr5.b
    have HD5 := Lib.hid (show ∀ x, x ∈ beg ((listT S n).take n) (ByteArray.mk #[]).data.toList 20 → x.length ≤ maxLen from fun x hx => HM.out x (by rw [← HL.out]; exact List.mem_of_mem_take (beg_mem hx)))
    have hDle : (beg ((listT S n).take n) (ByteArray.mk #[]).data.toList 20).length ≤ 5000 := Nat.le_trans (beg_le _ _ _) (by rw [List.length_take]; omega)
    generalize beg ((listT S n).take n) (ByteArray.mk #[]).data.toList 20 = D at *
    have O5 := Lib.hid (below_owns O4.out hb5)
    have D5 := Lib.hid (D4.out.later hb5)
    have R5 := Lib.hid (R4.out.later hb5)
    have B5 := Lib.hid (B4.out.trans (hb5.mono B4.out.size))
    have hsz5 := hb5.size
    clear hr5 hbr D4 R4 B4 O4 K1 K2 K3 hK
    rcases hr.2 with ⟨hv, hz⟩ | ⟨g5, c5, cur, hv, _⟩
    · subst hv
      obtain ⟨g6, c6, X, hgX, hX⟩ := rowX [t.data.toList] (by simpa [txt_of] using O5.out) (by simp) (fun x hx => by rw [List.mem_singleton.1 hx, Array.length_toList]; exact HT.out)
      have hg6 : w3.heap.size = g6 := by simp at hgX; exact hgX.1
      rw [← hg6] at hX
      have HXC := Lib.hid (show ∀ j, j < 1 → w5.cell? ⟨w3.heap.size, j, none⟩ = some (.string (X j)) ∧ (X j).size ≤ maxLen from fun j hj => hX j (by simpa using hj))
      have D6 := D5
      have R6 := R5
      have B6 := B5
      clear hr hX hgX hb5 D5 R5 B5 O5 hg6 h34
      have HCN := Lib.hid (fun wx (hx : Below w5.heap.size w5 wx) x hs => countD_at D6.out hx x hs)
      have HHN := Lib.hid (fun wx (hx : Below w5.heap.size w5 wx) x hs => hasD_at D6.out hx x hs)
      have HCR := Lib.hid (fun wx (hx : Below w5.heap.size w5 wx) x => countR_at R6.out h5' HCQ.out hx x)
      go_wp2_with fail
      go_loopw [12, 45] (fun x i wr => ∃ k : Nat, k ≤ 1 ∧ i = .int .i64 k ∧ Hid (Below w5.heap.size w5 wr)) (fun _ i _ => 1 - (intOf i).toNat)
      case atStart => exact ⟨0, Nat.zero_le _, rfl, Lib.hid (Below.refl _ _)⟩
      case round =>
        obtain ⟨k, hk, rfl, HR⟩ := hrel
        obtain ⟨wo, rfl⟩ : ∃ wo : World, wo = wr := ⟨_, rfl⟩
        by_cases hlt : k < 1
        · have j1 : (k : Int) < 1 := by omega
          obtain ⟨x0, xs⟩ := HXC.out k hlt
          have c0 := cell_later HR.out x0
          generalize X k = x at *
          have HC := Lib.hid (fun wx hx => HCN.out wx hx x xs)
          have HHs := Lib.hid (fun wx hx => HHN.out wx hx x xs)
          have HCx := Lib.hid (fun wx hx => HCR.out wx hx x)
          generalize cntT B n x = q at *
          have hb0 := HR.out
          clear HR x0 xs
          go_wp2_with (first | (go_at_call 18; (with_reducible refine (HC.out _ (by assumption)).mono ?_); rintro e w' ⟨rfl, rfl⟩) | (go_at_call 20; (with_reducible refine (HHs.out _ (by assumption)).mono ?_); rintro e w' ⟨rfl, rfl⟩) | (go_at_call 19; (with_reducible refine (HCx.out _ (by assumption)).mono ?_); rintro e w' ⟨rfl, hbx⟩))
          go_roundw
          case rel => exact ⟨k + 1, by omega, by go_num, Lib.hid (by assumption)⟩
          case measure => simp [intOf]; omega
        · have hK : k = 1 := by omega
          have hb0 := HR.out
          have F1 := beginD_any B n w.heap.size db t m wo h5' (D6.out.later hb0)
          have DD := Lib.hid (D6.out.later hb0)
          have RD := Lib.hid (R6.out.later hb0)
          have BB := Lib.hid (B6.out.trans (hb0.mono B6.out.size))
          clear HR hlt
          go_wp2_with fail
          refine F1.mono ?_
          rintro e wa ⟨va, rfl, ra⟩
          have DA := Lib.hid (DD.out.later ra.b)
          have RA := Lib.hid (RD.out.later ra.b)
          have BA := Lib.hid (BB.out.trans (ra.b.mono BB.out.size))
          have F2 := beginR_any S n db2 t m wa h5' RA.out
          have RowA := Lib.hid ra.r
          clear F1 ra
          go_wp2_with fail
          refine F2.mono ?_
          rintro e wb ⟨vb, rfl, rb⟩
          have DB := Lib.hid (DA.out.later rb.b)
          have BB2 := Lib.hid (BA.out.trans (rb.b.mono BA.out.size))
          have RB := rb.r
          rw [HL.out] at RB
          have F3 := eqT_any _ va vb _ _ wb (Nat.le_trans (beg_le _ _ _) (by rw [List.length_take, sortL_len, listT_len]; omega)) (below_owns RowA.out rb.b) RB
          clear F2 rb RB RowA
          go_wp2_with fail
          refine F3.mono ?_
          rintro e wc ⟨rfl, bc⟩
          have DC := Lib.hid (DB.out.later bc)
          have BC := Lib.hid (BB2.out.trans (bc.mono BB2.out.size))
          have F4 := beginD_any B n w.heap.size db ⟨#[]⟩ 0 wc h5' DC.out
          clear F3 bc
          go_wp2_with fail
          refine F4.mono ?_
          rintro e wd ⟨vd, rfl, rd⟩
          have hz : beg ((sortL (listT B n)).take n) (ByteArray.mk #[]).data.toList 0 = [] := by simp [beg]
          have hrd := rd.r
          rw [hz] at hrd
          obtain ⟨pd, cd, rfl⟩ := owns_len hrd
          have BD := Lib.hid (BC.out.trans (rd.b.mono BC.out.size))
          clear F4 rd hrd
          go_wp2_with fail
          go_ret
          exact ⟨rfl, BD.out⟩
    · subst hv
      obtain ⟨q1, q2, q3⟩ := ownsT_holds hr
      have HQ1 := Lib.hid (show ∀ j u, (D.map txt)[j]? = some u → w5.cell? ((⟨g5, 0, none⟩ : Addr).add j) = some u from fun j u hu => by
        by_cases hj : j < D.length
        · have := (q1 j (by simpa using hj)).1
          rw [Addr.add_lit]
          rw [this]
          simp [hj] at hu
          rw [← hu]; simp [hj]
        · rw [List.getElem?_eq_none (by simpa using hj)] at hu; cases hu)
      have HBS := Lib.hid (show w3.heap.size ≤ w5.heap.size by omega)
      have HB35 := Lib.hid (HB34.out.trans (hb5.mono HB34.out.size))
      clear hr q1 h34
      go_wp2_with (at_builtin; refine wpList_append_own _ rfl _ _ 45 rfl w3.heap.size 9 i0 (.string ⟨#[]⟩) 1 16 Try.underlying45 hi hz0 hz1 hz2 rfl (by decide) _ _ _ rfl O5.out ⟨g5, 0, none⟩ D.length c5 (D.map txt) rfl ?c0 HQ1.out ?c2 ?c3 ?c4 ?c5 ?_)
      case c0 => simp
      case c2 => intro u hu; simp at hu; obtain ⟨k, _, rfl⟩ := hu; rfl
      case c3 => unfold maxLen; omega
      case c4 => omega
      case c5 => exact HBS.out
      intro v6 w6 hown6 hgr6 _
      have b36 : Below w3.heap.size w3 w6 := HB35.out.grown hgr6 HBS.out (fun j hj => by simp [Value.ownBlock] at hj; omega)
      have D6 := Lib.hid (D3.out.later b36)
      have R6 := Lib.hid (R3.out.later b36)
      have B6 := Lib.hid (B3.out.trans (b36.mono B3.out.size))
      obtain ⟨g6, c6, X, hgX, hX⟩ := rowX (t.data.toList :: D) (by simpa [txt_of, Nat.add_comm] using hown6) (by simp) (fun x hx => by
        rcases List.mem_cons.1 hx with rfl | hx
        · rw [Array.length_toList]; exact HT.out
        · exact HD5.out x hx)
      obtain ⟨N6, hN6⟩ : ∃ N6, N6 = (t.data.toList :: D).length := ⟨_, rfl⟩
      rw [← hN6] at hgX hX
      have hN5 : N6 ≤ 5001 := by rw [hN6, List.length_cons]; omega
      have HXC := Lib.hid hX
      subst hgX
      clear hX hown6 hgr6 b36 hN6 D5 R5 B5 O5 D3 R3 hDle
      have HCN := Lib.hid (fun wx (hx : Below w6.heap.size w6 wx) x hs => countD_at D6.out hx x hs)
      have HHN := Lib.hid (fun wx (hx : Below w6.heap.size w6 wx) x hs => hasD_at D6.out hx x hs)
      have HCR := Lib.hid (fun wx (hx : Below w6.heap.size w6 wx) x => countR_at R6.out h5' HCQ.out hx x)
      go_wp2_with fail
      go_loopw [12, 45] (fun x i wr => ∃ k : Nat, k ≤ N6 ∧ i = .int .i64 k ∧ Hid (Below w6.heap.size w6 wr)) (fun _ i _ => N6 - (intOf i).toNat)
      case atStart => exact ⟨0, Nat.zero_le _, rfl, Lib.hid (Below.refl _ _)⟩
      case round =>
        obtain ⟨k, hk, rfl, HR⟩ := hrel
        obtain ⟨wo, rfl⟩ : ∃ wo : World, wo = wr := ⟨_, rfl⟩
        by_cases hlt : k < N6
        · have j1 : (k : Int) < N6 := by omega
          obtain ⟨x0, xs⟩ := HXC.out k hlt
          have c0 := cell_later HR.out x0
          generalize X k = x at *
          have HC := Lib.hid (fun wx hx => HCN.out wx hx x xs)
          have HHs := Lib.hid (fun wx hx => HHN.out wx hx x xs)
          have HCx := Lib.hid (fun wx hx => HCR.out wx hx x)
          generalize cntT B n x = q at *
          have hb0 := HR.out
          clear HR x0 xs
          go_wp2_with (first | (go_at_call 18; (with_reducible refine (HC.out _ (by assumption)).mono ?_); rintro e w' ⟨rfl, rfl⟩) | (go_at_call 20; (with_reducible refine (HHs.out _ (by assumption)).mono ?_); rintro e w' ⟨rfl, rfl⟩) | (go_at_call 19; (with_reducible refine (HCx.out _ (by assumption)).mono ?_); rintro e w' ⟨rfl, hbx⟩))
          go_roundw
          case rel => exact ⟨k + 1, by omega, by go_num, Lib.hid (by assumption)⟩
          case measure => simp [intOf]; omega
        · have hK : k = N6 := by omega
          have hb0 := HR.out
          have F1 := beginD_any B n w.heap.size db t m wo h5' (D6.out.later hb0)
          have DD := Lib.hid (D6.out.later hb0)
          have RD := Lib.hid (R6.out.later hb0)
          have BB := Lib.hid (B6.out.trans (hb0.mono B6.out.size))
          clear HR hlt
          go_wp2_with fail
          refine F1.mono ?_
          rintro e wa ⟨va, rfl, ra⟩
          have DA := Lib.hid (DD.out.later ra.b)
          have RA := Lib.hid (RD.out.later ra.b)
          have BA := Lib.hid (BB.out.trans (ra.b.mono BB.out.size))
          have F2 := beginR_any S n db2 t m wa h5' RA.out
          have RowA := Lib.hid ra.r
          clear F1 ra
          go_wp2_with fail
          refine F2.mono ?_
          rintro e wb ⟨vb, rfl, rb⟩
          have DB := Lib.hid (DA.out.later rb.b)
          have BB2 := Lib.hid (BA.out.trans (rb.b.mono BA.out.size))
          have RB := rb.r
          rw [HL.out] at RB
          have F3 := eqT_any _ va vb _ _ wb (Nat.le_trans (beg_le _ _ _) (by rw [List.length_take, sortL_len, listT_len]; omega)) (below_owns RowA.out rb.b) RB
          clear F2 rb RB RowA
          go_wp2_with fail
          refine F3.mono ?_
          rintro e wc ⟨rfl, bc⟩
          have DC := Lib.hid (DB.out.later bc)
          have BC := Lib.hid (BB2.out.trans (bc.mono BB2.out.size))
          have F4 := beginD_any B n w.heap.size db ⟨#[]⟩ 0 wc h5' DC.out
          clear F3 bc
          go_wp2_with fail
          refine F4.mono ?_
          rintro e wd ⟨vd, rfl, rd⟩
          have hz : beg ((sortL (listT B n)).take n) (ByteArray.mk #[]).data.toList 0 = [] := by simp [beg]
          have hrd := rd.r
          rw [hz] at hrd
          obtain ⟨pd, cd, rfl⟩ := owns_len hrd
          have BD := Lib.hid (BC.out.trans (rd.b.mono BC.out.size))
          clear F4 rd hrd
          go_wp2_with fail
          go_ret
          exact ⟨rfl, BD.out⟩

end Go.Proofs.Ytmoplmjfnjgcaaa
namespace Go.Proofs.Ytmoplmjfnjgcaaa
open Go.ChangeShapes Go.WideShapes Go.ChangeAt Go.RowKit Go.Joins
open Go.ChangeMaps (open_string shut_string)
set_option linter.unusedVariables false

set_option maxRecDepth 100000 in
theorem dicts_lifted (os : Os) (started : os.Started) (H : Type) (enc : TypeId × Value → H) :
    ReturnsInHanded {} Try.checked os 4 .any (Rows.dictsMatchSpec.pre6 enc Try.prog Try.f4 Rows.dictsMatchRow.domain false) (Rows.dictsMatchSpec.post enc Try.prog Try.f4 false true false false) := by
  refine returnsInHanded_of_change (C := Try.checked) own started (by kernel_rfl) Try.func4
    (ChangeSpec.witness6 (enc := enc) (C := Try.checked) false ⟨#[], #[.slice none 0 0, .string ⟨#[]⟩, .int .i64 0], []⟩ 8 (by kernel_rfl) (by kernel_rfl) (by kernel_rfl) (by kernel_rfl)) ?_
  intro W base args ds gs before hval0 hW hcnd _
  have hval : ∀ (j : Nat) t v, Try.f4.params[j]? = some t → args[j]? = some v → Value.okWide Try.prog W .any base t v := hval0
  have hW' := hW
  obtain ⟨p, q, hA0, hV, rfl, hfz, hnd⟩ := hW
  have hA : DataW.TrodAll enc Try.prog W 0 (fun _ => true) true Try.f4.params.toList args.toList ds p := hA0
  rw [Try.params4] at hA hval
  obtain ⟨v0, vs0, d0, ds0, p0, q0, hargs, rfl, rfl, h0, r0⟩ := trodAll_cons hA
  obtain ⟨v1, vs1, d1, ds1, p1, q1, rfl, rfl, rfl, h1, r1⟩ := trodAll_cons r0
  obtain ⟨v2, vs2, d2, ds2, p2, q2, rfl, rfl, rfl, h2, r2⟩ := trodAll_cons r1
  obtain ⟨rfl, rfl, rfl⟩ := trodAll_nil r2
  obtain rfl : args = #[v0, v1, v2] := by cases args; simp_all
  obtain ⟨rfl, rfl⟩ := trodVars_none hV
  have k0 := h0
  have lt0 : ∀ x ∈ p0, x.block < W.heap.size := by obtain ⟨m, hm⟩ := k0; exact DataW.trod_lt m _ _ _ hm
  have k1 := h1
  have lt1 : ∀ x ∈ p1, x.block < W.heap.size := by obtain ⟨m, hm⟩ := k1; exact DataW.trod_lt m _ _ _ hm
  obtain ⟨s0, n0, c0, z0, rfl, hs0, hn0, hz0⟩ := open_wordsN (hval 0 38 v0 rfl rfl) h0
  obtain ⟨s1, rfl, hd1, hp1, hz1⟩ := open_string Try.underlying9 (hval 1 9 v1 rfl rfl) h1
  obtain ⟨m2, rfl, rfl, rfl, w2⟩ := open_int Try.underlying3 (hval 2 3 v2 rfl rfl) h2
  clear hA0 hval0
  refine (dicts_any s0 n0 c0 z0 s1 m2 W hs0 hn0 hz0 hz1).mono fun e W' ⟨he, bel⟩ => ?_
  subst he
  exact ⟨_, rfl, _, _, _, [], _, [], hW', trodAll_mk1 (shut_bool Try.underlying4 _), (trodAll_cons_mk (Below.trod laidOut (by kernel_rfl) (of_decide_eq_true (by kernel_rfl)) k0 bel lt0) (trodAll_cons_mk (Below.trod laidOut (by kernel_rfl) (of_decide_eq_true (by kernel_rfl)) k1 bel lt1) (trodAll_cons_mk (shut_int Try.underlying3 w2) trodAll_mk0))), rfl, bel.frame _, fun h => by cases h⟩

theorem dicts_over : Rows.dictsMatchRow.holds Try.pinned (OpenSpec.ofChange Rows.dictsMatchSpec) :=
  OpenClaim.holds_of_wide 4 Try.f4 rfl rfl rfl rfl rfl rfl rfl ⟨rfl, rfl, rfl, rfl, rfl⟩ rfl rfl rfl rfl rfl (by kernel_rfl) Try.func4 (by kernel_rfl)
    (of_decide_eq_true (by kernel_rfl)) (by unfold Func.isWrapper; first | (rw [if_pos (by decide +kernel)]; kernel_rfl) | (rw [if_neg (by decide +kernel)]; exact ⟨rfl, rfl⟩))
    (fun os started H enc _ => dicts_lifted os started H enc)

theorem dicts_holds : Rows.DictsMatchSaid := dicts_over
end Go.Proofs.Ytmoplmjfnjgcaaa
