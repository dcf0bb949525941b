/-
  What gammas_holds leans on: contracts of the functions that it calls.
-/
import Derived.Test.YtbfnplagidhaeaaDoorRows
import Derived.WalkKit
import Derived.WalkSpells
import Derived.WalkLawsBesides
import Derived.Lib.Hide
import Derived.Deep.RegionHeld3
import Derived.Shelf.Abstract
import Derived.ProofKit
import Derived.OpenShut
import Derived.ShutString
import Derived.ChangeOld
import Derived.Lib.SmallJoins
import Derived.Deep.Grids
import Derived.Shelf.Strings.Trim
import Derived.Shelf.Strings.Repeat
import Derived.Shelf.Pu.ToError
import Derived.Ground.MpProg
import Derived.Test.YtbfnplagidhaeaaDoorProg
import Derived.Lib.ConvBytes
import Derived.Lib.ItoaMem
import Derived.BigCall
import Derived.Laws.Bits64b
import Derived.Laws.IdiomStrings
import Derived.Deep.DeepCutAuto
import Derived.Deep.CutRange
import Derived.BigGuard
import Derived.Lib.AtoiAllMem
import Derived.Lib.Strings
import Derived.Laws.Strings3
import Derived.Laws.Closers25
import Derived.Laws.Closers25b
namespace Go.Proofs.YtbfnplagidhaeaaDoor
open Go.RowKit
set_option linter.unusedSimpArgs false
set_option linter.unusedVariables false

theorem ret_bool {a b : Bool} (h : a = b) : Ending.returned (.bool a) = .returned (.bool b) := by rw [h]

theorem outside_no (n a b : Int) (w : World) (h : a ≤ n ∧ n ≤ b) : Calls Tryd.prog 10 #[.int .i64 n, .int .i64 a, .int .i64 b] w fun r w' => r = .returned (.bool false) ∧ w = w' := by
  obtain ⟨h1, h2⟩ := h
  have h3 : ¬ n < a := by omega
  have h4 : ¬ b < n := by omega
  go_enter Tryd.func10, Tryd.ntmps10
  go_wp2
  go_ret
  exact ⟨rfl, rfl⟩
theorem outside_yes (n a b : Int) (w : World) (h : ¬ (a ≤ n ∧ n ≤ b)) : Calls Tryd.prog 10 #[.int .i64 n, .int .i64 a, .int .i64 b] w fun r w' => r = .returned (.bool true) ∧ w = w' := by
  by_cases h1 : n < a
  · clear h
    go_enter Tryd.func10, Tryd.ntmps10
    go_wp2
    go_ret
    exact ⟨rfl, rfl⟩
  · have h4 : b < n := by omega
    clear h
    go_enter Tryd.func10, Tryd.ntmps10
    go_wp2
    go_ret
    exact ⟨rfl, rfl⟩
end Go.Proofs.YtbfnplagidhaeaaDoor
namespace Go.Proofs.YtbfnplagidhaeaaDoor
open Go.RowKit
set_option linter.unusedSimpArgs false
set_option linter.unusedVariables false

theorem new_below (w : World) (o : Obj) : Below w.heap.size w (w.alloc o) := (Below.refl _ _).alloc (Nat.le_refl _) _
theorem below_step {w a b : World} (h : Below w.heap.size w a) (k : Below a.heap.size a b) : Below w.heap.size w b := h.trans (k.mono h.size)
end Go.Proofs.YtbfnplagidhaeaaDoor
namespace Go.Proofs.YtbfnplagidhaeaaDoor
open Go.RowKit
set_option linter.unusedSimpArgs false
set_option linter.unusedVariables false

/-- The first n places of a page that is w wide, row by row. -/
def places {α : Type} (w : Nat) (f : Nat → Nat → α) (n : Nat) : List α := (List.range n).map fun k => f (k % w) (k / w)

end Go.Proofs.YtbfnplagidhaeaaDoor
namespace Go.Proofs.YtbfnplagidhaeaaDoor
open Go.RowKit
set_option linter.unusedSimpArgs false
set_option linter.unusedVariables false

def smB (c : Int) : Bool := decide (97 ≤ c ∧ c ≤ 122)
def dgB (c : Int) : Bool := decide (48 ≤ c ∧ c ≤ 57)

theorem isSmall_any (c : Int) (w : World) : Calls Tryd.prog 16 #[.int .u8 c] w fun e w' => e = .returned (.bool (smB c)) ∧ w = w' := by
  by_cases h1 : 97 ≤ c
  · by_cases h2 : c ≤ 122
    · have H := Lib.hid (show smB c = true from decide_eq_true ⟨h1, h2⟩)
      go_enter Tryd.func16, Tryd.ntmps16
      go_wp2
      go_ret
      exact ⟨ret_bool H.out.symm, rfl⟩
    · have H := Lib.hid (show smB c = false from decide_eq_false (fun k => h2 k.2))
      go_enter Tryd.func16, Tryd.ntmps16
      go_wp2
      go_ret
      exact ⟨ret_bool H.out.symm, rfl⟩
  · have H := Lib.hid (show smB c = false from decide_eq_false (fun k => h1 k.1))
    go_enter Tryd.func16, Tryd.ntmps16
    go_wp2
    go_ret
    exact ⟨ret_bool H.out.symm, rfl⟩

theorem isDigit_any (c : Int) (w : World) : Calls Tryd.prog 17 #[.int .u8 c] w fun e w' => e = .returned (.bool (dgB c)) ∧ w = w' := by
  by_cases h1 : 48 ≤ c
  · by_cases h2 : c ≤ 57
    · have H := Lib.hid (show dgB c = true from decide_eq_true ⟨h1, h2⟩)
      go_enter Tryd.func17, Tryd.ntmps17
      go_wp2
      go_ret
      exact ⟨ret_bool H.out.symm, rfl⟩
    · have H := Lib.hid (show dgB c = false from decide_eq_false (fun k => h2 k.2))
      go_enter Tryd.func17, Tryd.ntmps17
      go_wp2
      go_ret
      exact ⟨ret_bool H.out.symm, rfl⟩
  · have H := Lib.hid (show dgB c = false from decide_eq_false (fun k => h1 k.1))
    go_enter Tryd.func17, Tryd.ntmps17
    go_wp2
    go_ret
    exact ⟨ret_bool H.out.symm, rfl⟩

/-- The byte at a place, as a number. -/
def byteAt (s : ByteArray) (k : Nat) : Int := ((s.data.toList.getD k 0).toNat : Int)
theorem byteAt_get (s : ByteArray) (k : Nat) (h : k < s.size) : (s[k].toNat : Int) = byteAt s k := by
  unfold byteAt
  rw [List.getD_eq_getElem?_getD, List.getElem?_eq_getElem (by simpa using h)]
  rfl

def goodB (s : ByteArray) (k : Nat) : Bool := smB (byteAt s k) || (decide (k ≠ 0) && (dgB (byteAt s k) || decide (byteAt s k = 45)))
def NameP (s : ByteArray) : Prop := (1 ≤ s.size ∧ s.size ≤ 40) ∧ ∀ k, k < s.size → goodB s k = true

/-- It returns a bool that says whether P. -/
def SaysIf (P : Prop) (w : World) (e : Ending) (w' : World) : Prop := ∃ q, e = .returned (.bool q) ∧ (q = true ↔ P) ∧ w = w'
theorem says_no {P : Prop} {w : World} (h : ¬ P) : SaysIf P w (.returned (.bool false)) w := ⟨false, rfl, by simp [h], rfl⟩
theorem says_yes {P : Prop} {w : World} (h : P) : SaysIf P w (.returned (.bool true)) w := ⟨true, rfl, by simp [h], rfl⟩

theorem good_next {s : ByteArray} {k : Nat} (h : Hid (∀ j, j < k → goodB s j = true)) (hk : Hid (goodB s k = true)) : Hid (∀ j, j < k + 1 → goodB s j = true) :=
  Lib.hid fun j hj => by
    by_cases e : j = k
    · rw [e]; exact hk.out
    · exact h.out j (by omega)

set_option maxHeartbeats 400000 in
theorem isName_any (s : ByteArray) (w : World) (hs : s.size ≤ 9223372036854775807) : Calls Tryd.prog 9 #[.string s] w (SaysIf (NameP s) w) := by
  by_cases h1 : 1 ≤ s.size
  · by_cases h2 : s.size ≤ 40
    · have d1 : decide ((s.size : Int) < 1) = false := by simp; omega
      have d2 : decide ((40 : Int) < (s.size : Int)) = false := by simp; omega
      have hlt0 : 0 < s.size := by omega
      have E0 := Lib.hid (byteAt_get s 0 hlt0)
      by_cases hb : smB (s[0].toNat : Int) = true
      · have HB := Lib.hid (show smB (byteAt s 0) = true by rw [← E0.out]; exact hb)
        have H1 := Lib.hid h1
        have H2 := Lib.hid h2
        clear h1 h2
        go_enter Tryd.func9, Tryd.ntmps9
        go_wp2_with (first | (go_at_call 16; refine (isSmall_any _ _).mono ?_; rintro e w' ⟨rfl, rfl⟩) | (go_at_call 17; refine (isDigit_any _ _).mono ?_; rintro e w' ⟨rfl, rfl⟩))
        clear hb
        go_loop [21] (fun i => ∃ k : Nat, k ≤ s.size ∧ i = .int .i64 k ∧ Hid (∀ j, j < k → goodB s j = true)) (fun i => s.size - (intOf i).toNat)
        case atStart => exact ⟨0, Nat.zero_le _, rfl, fun j hj => by omega⟩
        case round =>
          obtain ⟨k, hk, rfl, hG⟩ := hrel
          by_cases hlt : k < s.size
          · have E := Lib.hid (byteAt_get s k hlt)
            by_cases a1 : smB (s[k].toNat : Int) = true
            · have hg := Lib.hid (show goodB s k = true by unfold goodB; rw [← E.out, a1]; rfl)
              go_wp2_with (first | (go_at_call 16; refine (isSmall_any _ _).mono ?_; rintro e w' ⟨rfl, rfl⟩) | (go_at_call 17; refine (isDigit_any _ _).mono ?_; rintro e w' ⟨rfl, rfl⟩))
              go_round
              case rel => exact ⟨k + 1, by omega, by go_num, good_next hG hg⟩
              case measure => simp [intOf]; omega
            · have a1' : smB (s[k].toNat : Int) = false := by simpa using a1
              have K0 := Lib.hid (show k ≠ 0 from fun e => a1 (by subst e; rw [E.out]; exact HB.out))
              clear a1
              by_cases a2 : dgB (s[k].toNat : Int) = true
              · have hg := Lib.hid (show goodB s k = true by unfold goodB; rw [← E.out, a1', a2]; simp [K0.out])
                go_wp2_with (first | (go_at_call 16; refine (isSmall_any _ _).mono ?_; rintro e w' ⟨rfl, rfl⟩) | (go_at_call 17; refine (isDigit_any _ _).mono ?_; rintro e w' ⟨rfl, rfl⟩))
                go_round
                case rel => exact ⟨k + 1, by omega, by go_num, good_next hG hg⟩
                case measure => simp [intOf]; omega
              · have a2' : dgB (s[k].toNat : Int) = false := by simpa using a2
                clear a2
                by_cases a3 : (s[k].toNat : Int) = 45
                · have a3' : ((s[k].toNat : Int) != 45) = false := by simpa using a3
                  have hg := Lib.hid (show goodB s k = true by unfold goodB; rw [← E.out, a1', a2']; simp [K0.out]; omega)
                  clear a3
                  go_wp2_with (first | (go_at_call 16; refine (isSmall_any _ _).mono ?_; rintro e w' ⟨rfl, rfl⟩) | (go_at_call 17; refine (isDigit_any _ _).mono ?_; rintro e w' ⟨rfl, rfl⟩))
                  go_round
                  case rel => exact ⟨k + 1, by omega, by go_num, good_next hG hg⟩
                  case measure => simp [intOf]; omega
                · have a3' : ((s[k].toNat : Int) != 45) = true := by simpa using a3
                  have hg := Lib.hid (show goodB s k = false by unfold goodB; rw [← E.out, a1', a2']; simp; omega)
                  clear a3
                  go_wp2_with (first | (go_at_call 16; refine (isSmall_any _ _).mono ?_; rintro e w' ⟨rfl, rfl⟩) | (go_at_call 17; refine (isDigit_any _ _).mono ?_; rintro e w' ⟨rfl, rfl⟩))
                  go_ret
                  exact says_no (fun hP => by have := hP.2 k hlt; rw [hg.out] at this; cases this)
          · go_wp2_with (first | (go_at_call 16; refine (isSmall_any _ _).mono ?_; rintro e w' ⟨rfl, rfl⟩) | (go_at_call 17; refine (isDigit_any _ _).mono ?_; rintro e w' ⟨rfl, rfl⟩))
            go_ret
            exact says_yes ⟨⟨H1.out, H2.out⟩, fun j hj => hG.out j (by omega)⟩
      · have hb' : smB (s[0].toNat : Int) = false := by simpa using hb
        have HB := Lib.hid (show goodB s 0 = false by unfold goodB; rw [← E0.out, hb']; rfl)
        clear hb
        go_enter Tryd.func9, Tryd.ntmps9
        go_wp2_with (first | (go_at_call 16; refine (isSmall_any _ _).mono ?_; rintro e w' ⟨rfl, rfl⟩) | (go_at_call 17; refine (isDigit_any _ _).mono ?_; rintro e w' ⟨rfl, rfl⟩))
        go_ret
        exact says_no (fun hP => by have := hP.2 0 hlt0; rw [HB.out] at this; cases this)
    · go_enter Tryd.func9, Tryd.ntmps9
      go_wp2_with (first | (go_at_call 16; refine (isSmall_any _ _).mono ?_; rintro e w' ⟨rfl, rfl⟩) | (go_at_call 17; refine (isDigit_any _ _).mono ?_; rintro e w' ⟨rfl, rfl⟩))
      go_ret
      exact says_no (fun hP => by have := hP.1; omega)
  · go_enter Tryd.func9, Tryd.ntmps9
    go_wp2_with (first | (go_at_call 16; refine (isSmall_any _ _).mono ?_; rintro e w' ⟨rfl, rfl⟩) | (go_at_call 17; refine (isDigit_any _ _).mono ?_; rintro e w' ⟨rfl, rfl⟩))
    go_ret
    exact says_no (fun hP => by have := hP.1; omega)

end Go.Proofs.YtbfnplagidhaeaaDoor
namespace Go.Proofs.YtbfnplagidhaeaaDoor
open Go.ChangeShapes Go.WideShapes Go.ChangeAt Go.RowKit Go.Joins
open Go.ChangeMaps (open_string shut_string)
set_option linter.unusedVariables false

theorem own : ownKnob Tryd.prog.godebug = none := by kernel_rfl
theorem laidOut : laidOutB Tryd.prog = true := by kernel_rfl
theorem cellsByte : Tryd.prog.cellsOf 5 = 1 := by kernel_rfl

end Go.Proofs.YtbfnplagidhaeaaDoor
namespace Go.Proofs
open Go.Shelf
def Tryd.lays161_ren : Go.Shelf.Ren := ⟨fun | 161 => 12 | 231 => 18 | 227 => 19 | 233 => 20 | 235 => 21 | 228 => 31 | 197 => 32 | 151 => 33 | 260 => 49 | 152 => 50 | 137 => 61 | 119 => 62 | 224 => 63 | 225 => 64 | 217 => 68 | 266 => 69 | n => n, fun | 9 => 9 | 4 => 4 | 3 => 3 | 5 => 5 | 117 => 44 | 116 => 43 | 0 => 0 | 124 => 47 | 105 => 62 | 21 => 21 | 119 => 95 | 46 => 49 | 139 => 98 | 138 => 97 | n => n, fun | 3 => 3 | 4 => 4 | n => n⟩
theorem Tryd.lays161 : Go.Proofs.Lays.n161 Tryd.prog Tryd.lays161_ren := {
  mixed := by kernel_rfl
  f119 := Tryd.func62.trans (congrArg some (by kernel_rfl))
  f137 := Tryd.func61.trans (congrArg some (by kernel_rfl))
  f151 := Tryd.func33.trans (congrArg some (by kernel_rfl))
  f152 := Tryd.func50.trans (congrArg some (by kernel_rfl))
  f161 := Tryd.func12.trans (congrArg some (by kernel_rfl))
  f197 := Tryd.func32.trans (congrArg some (by kernel_rfl))
  f217 := Tryd.func68.trans (congrArg some (by kernel_rfl))
  f224 := Tryd.func63.trans (congrArg some (by kernel_rfl))
  f225 := Tryd.func64.trans (congrArg some (by kernel_rfl))
  f227 := Tryd.func19.trans (congrArg some (by kernel_rfl))
  f228 := Tryd.func31.trans (congrArg some (by kernel_rfl))
  f231 := Tryd.func18.trans (congrArg some (by kernel_rfl))
  f233 := Tryd.func20.trans (congrArg some (by kernel_rfl))
  f235 := Tryd.func21.trans (congrArg some (by kernel_rfl))
  f260 := Tryd.func49.trans (congrArg some (by kernel_rfl))
  f266 := Tryd.func69.trans (congrArg some (by kernel_rfl))
  t0 := Tryd.underlying0
  a0 := Tryd.isAgg0
  z0 := Tryd.sizeOf0
  v0 := Tryd.zeroValue0
  t3 := Tryd.underlying3
  a3 := Tryd.isAgg3
  z3 := Tryd.sizeOf3
  v3 := Tryd.zeroValue3
  t4 := Tryd.underlying4
  a4 := Tryd.isAgg4
  z4 := Tryd.sizeOf4
  v4 := Tryd.zeroValue4
  t5 := Tryd.underlying5
  a5 := Tryd.isAgg5
  z5 := Tryd.sizeOf5
  v5 := Tryd.zeroValue5
  t9 := Tryd.underlying9
  a9 := Tryd.isAgg9
  z9 := Tryd.sizeOf9
  v9 := Tryd.zeroValue9
  t21 := Tryd.underlying21
  a21 := Tryd.isAgg21
  z21 := Tryd.sizeOf21
  v21 := Tryd.zeroValue21
  t46 := Tryd.underlying49
  a46 := Tryd.isAgg49
  z46 := Tryd.sizeOf49
  v46 := Tryd.zeroValue49
  t105 := Tryd.underlying62
  a105 := Tryd.isAgg62
  z105 := Tryd.sizeOf62
  v105 := Tryd.zeroValue62
  t116 := Tryd.underlying43
  a116 := Tryd.isAgg43
  z116 := Tryd.sizeOf43
  t117 := Tryd.underlying44
  a117 := Tryd.isAgg44
  z117 := Tryd.sizeOf44
  v117 := Tryd.zeroValue44
  t119 := Tryd.underlying95
  a119 := Tryd.isAgg95
  z119 := Tryd.sizeOf95
  t124 := Tryd.underlying47
  a124 := Tryd.isAgg47
  z124 := Tryd.sizeOf47
  v124 := Tryd.zeroValue47
  t138 := Tryd.underlying97
  a138 := Tryd.isAgg97
  z138 := Tryd.sizeOf97
  v138 := Tryd.zeroValue97
  t139 := Tryd.underlying98
  a139 := Tryd.isAgg98
  z139 := Tryd.sizeOf98
  v139 := Tryd.zeroValue98
  g3 := by kernel_rfl
  g4 := by kernel_rfl }
open Go.RowKit in
/-- strings.TrimLeft: "TrimLeft returns a slice of the string s with all leading Unicode code points contained in cutset removed.": AT A cutset OF ONE ASCII BYTE. The world is as it was. (LAID: no walk: one application.) -/
theorem Tryd.strings_TrimLeft_one (s : ByteArray) (c : UInt8) (hc : c.toNat < 128) (w : World) :
    Calls Tryd.prog 12 #[.string s, .string ⟨#[c]⟩] w fun e w' => e = .returned (.string ⟨(Lib.trimLeftB s.data.toList c).toArray⟩) ∧ w' = w := Any.strings_TrimLeft_one Tryd.lays161 s c hc w
def Tryd.lays105_ren : Go.Shelf.Ren := ⟨fun | 105 => 15 | 212 => 25 | 99 => 26 | 165 => 27 | 166 => 28 | 170 => 29 | 169 => 30 | 263 => 44 | 264 => 45 | 206 => 46 | 240 => 47 | 241 => 48 | 276 => 59 | 277 => 60 | n => n, fun | 9 => 9 | 3 => 3 | 4 => 4 | 20 => 20 | 0 => 0 | 46 => 49 | 109 => 50 | 5 => 5 | 72 => 56 | 76 => 58 | 51 => 75 | 146 => 76 | 53 => 33 | 148 => 78 | 70 => 53 | 37 => 54 | 75 => 35 | 127 => 80 | 164 => 92 | 80 => 61 | n => n, fun | n => n⟩
theorem Tryd.lays105 : Go.Proofs.Lays.n105 Tryd.prog Tryd.lays105_ren := {
  mixed := by kernel_rfl
  f99 := Tryd.func26.trans (congrArg some (by kernel_rfl))
  f105 := Tryd.func15.trans (congrArg some (by kernel_rfl))
  f165 := Tryd.func27.trans (congrArg some (by kernel_rfl))
  f166 := Tryd.func28.trans (congrArg some (by kernel_rfl))
  f169 := Tryd.func30.trans (congrArg some (by kernel_rfl))
  f170 := Tryd.func29.trans (congrArg some (by kernel_rfl))
  f206 := Tryd.func46.trans (congrArg some (by kernel_rfl))
  f212 := Tryd.func25.trans (congrArg some (by kernel_rfl))
  f240 := Tryd.func47.trans (congrArg some (by kernel_rfl))
  f241 := Tryd.func48.trans (congrArg some (by kernel_rfl))
  f263 := Tryd.func44.trans (congrArg some (by kernel_rfl))
  f264 := Tryd.func45.trans (congrArg some (by kernel_rfl))
  f276 := Tryd.func59.trans (congrArg some (by kernel_rfl))
  f277 := Tryd.func60.trans (congrArg some (by kernel_rfl))
  t0 := Tryd.underlying0
  a0 := Tryd.isAgg0
  z0 := Tryd.sizeOf0
  v0 := Tryd.zeroValue0
  t3 := Tryd.underlying3
  a3 := Tryd.isAgg3
  z3 := Tryd.sizeOf3
  v3 := Tryd.zeroValue3
  t4 := Tryd.underlying4
  a4 := Tryd.isAgg4
  z4 := Tryd.sizeOf4
  v4 := Tryd.zeroValue4
  t5 := Tryd.underlying5
  a5 := Tryd.isAgg5
  z5 := Tryd.sizeOf5
  v5 := Tryd.zeroValue5
  t9 := Tryd.underlying9
  a9 := Tryd.isAgg9
  z9 := Tryd.sizeOf9
  v9 := Tryd.zeroValue9
  t20 := Tryd.underlying20
  a20 := Tryd.isAgg20
  z20 := Tryd.sizeOf20
  v20 := Tryd.zeroValue20
  t37 := Tryd.underlying54
  a37 := Tryd.isAgg54
  z37 := Tryd.sizeOf54
  v37 := Tryd.zeroValue54
  t46 := Tryd.underlying49
  a46 := Tryd.isAgg49
  z46 := Tryd.sizeOf49
  v46 := Tryd.zeroValue49
  t51 := Tryd.underlying75
  a51 := Tryd.isAgg75
  z51 := Tryd.sizeOf75
  v51 := Tryd.zeroValue75
  t53 := Tryd.underlying33
  a53 := Tryd.isAgg33
  z53 := Tryd.sizeOf33
  v53 := Tryd.zeroValue33
  t70 := Tryd.underlying53
  a70 := Tryd.isAgg53
  z70 := Tryd.sizeOf53
  v70 := Tryd.zeroValue53
  t72 := Tryd.underlying56
  a72 := Tryd.isAgg56
  z72 := Tryd.sizeOf56
  v72 := Tryd.zeroValue56
  t75 := Tryd.underlying35
  a75 := Tryd.isAgg35
  z75 := Tryd.sizeOf35
  v75 := Tryd.zeroValue35
  t76 := Tryd.underlying58
  a76 := Tryd.isAgg58
  z76 := Tryd.sizeOf58
  v76 := Tryd.zeroValue58
  t109 := Tryd.underlying50
  a109 := Tryd.isAgg50
  z109 := Tryd.sizeOf50
  v109 := Tryd.zeroValue50
  t127 := Tryd.underlying80
  a127 := Tryd.isAgg80
  z127 := Tryd.sizeOf80
  v127 := Tryd.zeroValue80
  t146 := Tryd.underlying76
  a146 := Tryd.isAgg76
  z146 := Tryd.sizeOf76
  v146 := Tryd.zeroValue76
  t148 := Tryd.underlying78
  a148 := Tryd.isAgg78
  z148 := Tryd.sizeOf78
  v148 := Tryd.zeroValue78
  t164 := Tryd.underlying92
  a164 := Tryd.isAgg92
  z164 := Tryd.sizeOf92
  v164 := Tryd.zeroValue92 }
theorem Tryd.Builder_Extra_105 : Builder.Extra Tryd.prog Tryd.lays105_ren := {
  sizeBuilder := by kernel_rfl
  liesBuilder := by kernel_rfl
  t5 := Tryd.underlying5
  a5 := Tryd.isAgg5
  z5 := Tryd.sizeOf5
  v5 := Tryd.zeroValue5
  infoByte := by kernel_rfl
  cellsByte := by kernel_rfl
  sizeByte := by kernel_rfl
  neB5 := by decide }
open Go.RowKit Go.Lib in
/-- **strings.Repeat: count ≥ 0, the result within one allocation: count copies of s.** (LAID: no walk: one application.) -/
theorem Tryd.strings_Repeat (s : ByteArray) (c : Nat) (w : World) (hc : c ≤ 9223372036854775807) (hlen : s.size * c ≤ 140737488355328) :
    Calls Tryd.prog 15 #[.string s, .int .i64 c] w fun e w' => e = .returned (.string ⟨(Lib.repeatL s.data.toList c).toArray⟩) ∧ Below w.heap.size w w' := Any.strings_Repeat Tryd.lays105 Tryd.Builder_Extra_105 s c w hc hlen
def Tryd.laysPu17_ren : Go.Shelf.Ren := ⟨fun | 17 => 23 | 21 => 36 | 22 => 37 | 23 => 38 | 24 => 39 | 25 => 51 | 27 => 53 | 26 => 52 | 28 => 65 | 29 => 24 | 30 => 40 | 31 => 41 | 32 => 42 | 33 => 43 | 35 => 55 | 34 => 54 | 36 => 56 | 37 => 57 | 38 => 58 | 39 => 66 | 40 => 67 | n => n, fun | 9 => 9 | 3 => 3 | 24 => 35 | 34 => 65 | 4 => 4 | 39 => 67 | 44 => 84 | 37 => 54 | 0 => 0 | 47 => 80 | 50 => 104 | 48 => 102 | 2 => 2 | 52 => 70 | 22 => 33 | 5 => 5 | 55 => 73 | 59 => 88 | 60 => 75 | 20 => 20 | 61 => 89 | 36 => 49 | 65 => 106 | 66 => 107 | 67 => 61 | n => n, fun | 0 => 0 | 1 => 1 | 2 => 2 | 3 => 6 | 4 => 7 | n => n⟩
theorem Tryd.laysPu17 : Go.Proofs.LaysPu.n17 Tryd.prog Tryd.laysPu17_ren := {
  mixed := by kernel_rfl
  f17 := Tryd.func23.trans (congrArg some (by kernel_rfl))
  f21 := Tryd.func36.trans (congrArg some (by kernel_rfl))
  f22 := Tryd.func37.trans (congrArg some (by kernel_rfl))
  f23 := Tryd.func38.trans (congrArg some (by kernel_rfl))
  f24 := Tryd.func39.trans (congrArg some (by kernel_rfl))
  f25 := Tryd.func51.trans (congrArg some (by kernel_rfl))
  f26 := Tryd.func52.trans (congrArg some (by kernel_rfl))
  f27 := Tryd.func53.trans (congrArg some (by kernel_rfl))
  f28 := Tryd.func65.trans (congrArg some (by kernel_rfl))
  f29 := Tryd.func24.trans (congrArg some (by kernel_rfl))
  f30 := Tryd.func40.trans (congrArg some (by kernel_rfl))
  f31 := Tryd.func41.trans (congrArg some (by kernel_rfl))
  f32 := Tryd.func42.trans (congrArg some (by kernel_rfl))
  f33 := Tryd.func43.trans (congrArg some (by kernel_rfl))
  f34 := Tryd.func54.trans (congrArg some (by kernel_rfl))
  f35 := Tryd.func55.trans (congrArg some (by kernel_rfl))
  f36 := Tryd.func56.trans (congrArg some (by kernel_rfl))
  f37 := Tryd.func57.trans (congrArg some (by kernel_rfl))
  f38 := Tryd.func58.trans (congrArg some (by kernel_rfl))
  f39 := Tryd.func66.trans (congrArg some (by kernel_rfl))
  f40 := Tryd.func67.trans (congrArg some (by kernel_rfl))
  t0 := Tryd.underlying0
  a0 := Tryd.isAgg0
  z0 := Tryd.sizeOf0
  v0 := Tryd.zeroValue0
  i0 := by kernel_rfl
  t2 := Tryd.underlying2
  a2 := Tryd.isAgg2
  z2 := Tryd.sizeOf2
  v2 := Tryd.zeroValue2
  i2 := by kernel_rfl
  t3 := Tryd.underlying3
  a3 := Tryd.isAgg3
  z3 := Tryd.sizeOf3
  v3 := Tryd.zeroValue3
  i3 := by kernel_rfl
  t4 := Tryd.underlying4
  a4 := Tryd.isAgg4
  z4 := Tryd.sizeOf4
  v4 := Tryd.zeroValue4
  i4 := by kernel_rfl
  t5 := Tryd.underlying5
  a5 := Tryd.isAgg5
  z5 := Tryd.sizeOf5
  v5 := Tryd.zeroValue5
  i5 := by kernel_rfl
  t9 := Tryd.underlying9
  a9 := Tryd.isAgg9
  z9 := Tryd.sizeOf9
  v9 := Tryd.zeroValue9
  i9 := by kernel_rfl
  t20 := Tryd.underlying20
  a20 := Tryd.isAgg20
  z20 := Tryd.sizeOf20
  v20 := Tryd.zeroValue20
  i20 := by kernel_rfl
  t22 := Tryd.underlying33
  a22 := Tryd.isAgg33
  z22 := Tryd.sizeOf33
  v22 := Tryd.zeroValue33
  i22 := by kernel_rfl
  t24 := Tryd.underlying35
  a24 := Tryd.isAgg35
  z24 := Tryd.sizeOf35
  v24 := Tryd.zeroValue35
  i24 := by kernel_rfl
  t34 := Tryd.underlying65
  a34 := Tryd.isAgg65
  z34 := Tryd.sizeOf65
  v34 := Tryd.zeroValue65
  i34 := by kernel_rfl
  c34 := by kernel_rfl
  t36 := Tryd.underlying49
  a36 := Tryd.isAgg49
  z36 := Tryd.sizeOf49
  v36 := Tryd.zeroValue49
  i36 := by kernel_rfl
  t37 := Tryd.underlying54
  a37 := Tryd.isAgg54
  z37 := Tryd.sizeOf54
  v37 := Tryd.zeroValue54
  i37 := by kernel_rfl
  t39 := Tryd.underlying67
  a39 := Tryd.isAgg67
  z39 := Tryd.sizeOf67
  v39 := Tryd.zeroValue67
  i39 := by kernel_rfl
  t44 := Tryd.underlying84
  a44 := Tryd.isAgg84
  z44 := Tryd.sizeOf84
  v44 := Tryd.zeroValue84
  i44 := by kernel_rfl
  t47 := Tryd.underlying80
  a47 := Tryd.isAgg80
  z47 := Tryd.sizeOf80
  v47 := Tryd.zeroValue80
  i47 := by kernel_rfl
  t48 := Tryd.underlying102
  a48 := Tryd.isAgg102
  z48 := Tryd.sizeOf102
  v48 := Tryd.zeroValue102
  i48 := by kernel_rfl
  t50 := Tryd.underlying104
  a50 := Tryd.isAgg104
  z50 := Tryd.sizeOf104
  v50 := Tryd.zeroValue104
  i50 := by kernel_rfl
  t52 := Tryd.underlying70
  a52 := Tryd.isAgg70
  z52 := Tryd.sizeOf70
  v52 := Tryd.zeroValue70
  i52 := by kernel_rfl
  t55 := Tryd.underlying73
  a55 := Tryd.isAgg73
  z55 := Tryd.sizeOf73
  v55 := Tryd.zeroValue73
  i55 := by kernel_rfl
  t59 := Tryd.underlying88
  a59 := Tryd.isAgg88
  z59 := Tryd.sizeOf88
  v59 := Tryd.zeroValue88
  i59 := by kernel_rfl
  t60 := Tryd.underlying75
  a60 := Tryd.isAgg75
  z60 := Tryd.sizeOf75
  v60 := Tryd.zeroValue75
  i60 := by kernel_rfl
  t61 := Tryd.underlying89
  a61 := Tryd.isAgg89
  z61 := Tryd.sizeOf89
  t65 := Tryd.underlying106
  a65 := Tryd.isAgg106
  z65 := Tryd.sizeOf106
  v65 := Tryd.zeroValue106
  i65 := by kernel_rfl
  t66 := Tryd.underlying107
  a66 := Tryd.isAgg107
  z66 := Tryd.sizeOf107
  v66 := Tryd.zeroValue107
  i66 := by kernel_rfl
  t67 := Tryd.underlying61
  a67 := Tryd.isAgg61
  z67 := Tryd.sizeOf61
  v67 := Tryd.zeroValue61
  i67 := by kernel_rfl
  g0 := by kernel_rfl
  m0 := by kernel_rfl
  g1 := by kernel_rfl
  m1 := by kernel_rfl
  g2 := by kernel_rfl
  m2 := by kernel_rfl
  g3 := by kernel_rfl
  m3 := by kernel_rfl
  g4 := by kernel_rfl
  m4 := by kernel_rfl }
end Go.Proofs
namespace Go.Proofs.YtbfnplagidhaeaaDoor
open Go.RowKit
set_option linter.unusedSimpArgs false
set_option linter.unusedVariables false

theorem isPower_two (w : World) : Calls Tryd.prog 57 #[.int .i64 2] w fun e w' => e = .returned (.bool true) ∧ w = w' := by
  go_enter Tryd.func57, Tryd.ntmps57
  go_wp2_with fail
  go_ret
  exact ⟨rfl, rfl⟩

theorem trailing64_two (w : World) (hT : w.cell? ⟨7, 1, none⟩ = some (.int .u8 1)) : Calls Tryd.prog 67 #[.int .u64 2] w fun e w' => e = .returned (.int .i64 1) ∧ w = w' := by
  have hx : bits BinOp.and IntKind.u64 2 (IntKind.u64.wrap (-2)) = 2 := by kernel_rfl
  have hy : IntKind.u64.wrap 571740426102707730 = 571740426102707730 := by kernel_rfl
  go_enter Tryd.func67, Tryd.ntmps67
  go_wp2_with fail
  go_ret
  exact ⟨rfl, rfl⟩
theorem trailing_two (w : World) (hT : w.cell? ⟨7, 1, none⟩ = some (.int .u8 1)) : Calls Tryd.prog 58 #[.int .u64 2] w fun e w' => e = .returned (.int .i64 1) ∧ w = w' := by
  go_enter Tryd.func58, Tryd.ntmps58
  go_wp2_with (first | (go_at_call 67; refine (trailing64_two _ hT).mono ?_; rintro e w' ⟨rfl, rfl⟩))
  go_ret
  exact ⟨rfl, rfl⟩

/-- The digits that n has at base 2 behind its highest one. -/
def topBit : Nat → Nat → Nat
  | 0, _ => 0
  | f + 1, n => if n < 2 then 0 else topBit f (n / 2) + 1
theorem topBit_spec (f n : Nat) (h1 : 1 ≤ n) (h2 : n < 2 ^ (f + 1)) : n / 2 ^ topBit f n = 1 ∧ topBit f n ≤ f ∧ ∀ k, k < topBit f n → 2 ≤ n / 2 ^ k := by
  induction f generalizing n with
  | zero => simp only [topBit]; refine ⟨by simp; omega, Nat.le_refl _, fun k hk => by omega⟩
  | succ f ih =>
    rw [topBit]
    by_cases h : n < 2
    · rw [if_pos h]
      exact ⟨by simp; omega, by omega, fun k hk => by omega⟩
    · rw [if_neg h]
      obtain ⟨a, b, c⟩ := ih (n / 2) (by omega) (by rw [Nat.pow_succ] at h2; omega)
      refine ⟨by rw [Nat.pow_succ, Nat.mul_comm, ← Nat.div_div_eq_div_mul]; exact a, by omega, fun k hk => ?_⟩
      cases k with
      | zero => simp; omega
      | succ k => rw [Nat.pow_succ, Nat.mul_comm, ← Nat.div_div_eq_div_mul]; exact c k (by omega)
def bitTop (n : Nat) : Nat := topBit 20 n
/-- The digit at place k from the end, as a byte. -/
def bitAt (n k : Nat) : Int := 48 + ((n / 2 ^ k % 2 : Nat) : Int)
/-- The array of 65 bytes, with the last k digits of n at its end. -/
def bitRow (n k : Nat) : List Value := (List.range 65).map fun p => Value.int .u8 (if 65 ≤ p + k then bitAt n (64 - p) else 0)
theorem rset (f g : Nat → Value) (n j : Nat) (v : Value) (hg : g j = v) (h : ∀ i, i < n → i ≠ j → g i = f i) : ((List.range n).map f).set j v = (List.range n).map g := by
  apply List.ext_getElem?
  intro i
  rw [List.getElem?_set]
  by_cases e : j = i
  · subst e
    simp only [List.length_map, List.length_range, if_true]
    by_cases hl : j < n
    · rw [if_pos hl]; simp [hl, hg]
    · rw [if_neg hl]; simp [hl]
  · rw [if_neg e]
    by_cases hl : i < n
    · simp [hl, h i hl (fun x => e x.symm)]
    · simp [hl]
theorem bitRow_set (n k : Nat) (hk : k < 65) : (bitRow n k).set (64 - k) (.int .u8 (bitAt n k)) = bitRow n (k + 1) := by
  refine rset _ _ 65 (64 - k) _ ?_ (fun i hi hne => ?_)
  · rw [if_pos (by omega), show 64 - (64 - k) = k by omega]
  · by_cases h : 65 ≤ i + k
    · rw [if_pos h, if_pos (by omega)]
    · rw [if_neg h, if_neg (by omega)]
theorem bitRow_get (n k p : Nat) (hp : p < 65) : (bitRow n k)[p]? = some (.int .u8 (if 65 ≤ p + k then bitAt n (64 - p) else 0)) := by simp [bitRow, hp]
theorem bitAt_cases (n k : Nat) : (n / 2 ^ k % 2 = 0 ∧ bitAt n k = 48) ∨ (n / 2 ^ k % 2 = 1 ∧ bitAt n k = 49) := by
  unfold bitAt
  omega

theorem zeros_list : (Tryd.zeroCells89).toList = List.replicate 65 (Value.int .u8 0) := by first | rfl | decide
theorem zeros_row (n : Nat) : (Tryd.zeroCells89).toList = bitRow n 0 := by
  rw [zeros_list]
  apply List.ext_getElem?
  intro p
  by_cases hp : p < 65
  · rw [bitRow_get n 0 p hp, if_neg (by omega), List.getElem?_replicate, if_pos hp]
  · rw [List.getElem?_replicate, if_neg hp]; simp [bitRow, hp]
theorem and_one (x : Nat) (h : x < 18446744073709551616) : bits .and .u64 (x : Int) 1 = ((x % 2 : Nat) : Int) := by
  have := bits_and_u64_nat x 1 h (by omega)
  rw [Nat.and_one_is_mod] at this
  exact this

/-- The digits of n at base 2. -/
def binL (n : Nat) : List UInt8 := (List.range (bitTop n + 1)).map fun j => UInt8.ofNat (48 + n / 2 ^ (bitTop n - j) % 2)
def binS (n : Nat) : ByteArray := ⟨(binL n).toArray⟩

theorem binL_length (n : Nat) : (binL n).length = bitTop n + 1 := by simp [binL]
theorem binL_get (n j : Nat) (h : j < (binL n).length) : (((binL n)[j]'h).toNat : Int) = bitAt n (bitTop n - j) := by
  have : (binL n)[j] = UInt8.ofNat (48 + n / 2 ^ (bitTop n - j) % 2) := by simp [binL]
  rw [this, UInt8.toNat_ofNat']
  unfold bitAt
  omega

set_option maxHeartbeats 2000000 in
set_option maxRecDepth 100000 in
theorem formatBits_two (n : Nat) (w : World) (h1 : 1 ≤ n) (h2 : n ≤ 1048576) (hT : w.cell? ⟨7, 1, none⟩ = some (.int .u8 1)) :
    Calls Tryd.prog 43 #[.slice none 0 0, .int .u64 n, .int .i64 2, .bool false, .bool false] w fun e w' =>
      e = .returned (.tuple #[.slice none 0 0, .string (binS n)]) ∧ Below w.heap.size w w' := by
  obtain ⟨t1, t2, t3⟩ := topBit_spec 20 n h1 (by omega)
  obtain ⟨T, hTT⟩ : ∃ T, T = bitTop n := ⟨_, rfl⟩
  rw [show topBit 20 n = T from hTT.symm] at t1 t2 t3
  have HT := Lib.hid hTT
  have H1 := Lib.hid t1
  have H3 := Lib.hid t3
  have htl := World.block_lt_of_cell? _ _ hT
  simp only at htl
  obtain ⟨w1, hw1⟩ : ∃ w1, w1 = w.alloc (.cells Tryd.zeroCells89 89) := ⟨_, rfl⟩
  have hb1 : Below w.heap.size w w1 := by rw [hw1]; exact new_below _ _
  have hT1 := cell_later hb1 hT
  have hown : w1.ownsRow w.heap.size 89 1 (.slice (some ⟨w.heap.size, 0, none⟩) 65 65) 65 (bitRow n 0) := by
    rw [hw1, ← zeros_row n]
    exact World.ownsRow_lit (base := w.heap.size) (e := 89) (size := 1) w Tryd.zeroCells89 65 (Nat.le_refl _) (by decide) (by kernel_rfl)
  have HO := Lib.hid hown
  have HB1 := Lib.hid hb1
  clear hTT t1 t3 hown hb1 hT
  go_enter Tryd.func43, Tryd.ntmps43
  go_wp2_with (first | (go_at_call 57; refine (isPower_two _).mono ?_; rintro e w' ⟨rfl, rfl⟩))
  rw [← hw1]
  refine (trailing_two _ hT1).mono ?_
  rintro e w' ⟨rfl, rfl⟩
  clear hw1 hT1
  go_wp2_with fail
  go_loopw [1, 13] (fun u i wr => ∃ k : Nat, k ≤ T ∧ u = .int .u64 ((n / 2 ^ k : Nat) : Int) ∧ i = .int .i64 (65 - (k : Int)) ∧ Hid (wr.ownsRow w.heap.size 89 1 (.slice (some ⟨w.heap.size, 0, none⟩) 65 65) 65 (bitRow n k) ∧ Below w.heap.size w wr)) (fun _ i _ => (intOf i).toNat)
  case atStart => exact ⟨0, Nat.zero_le _, by simp, by simp, Lib.hid ⟨HO.out, HB1.out⟩⟩
  case round =>
    obtain ⟨k, hk, rfl, rfl, HR⟩ := hrel
    by_cases hlt : k < T
    · have g2 := H3.out k hlt
      have hx2 : n / 2 ^ k ≤ n := Nat.div_le_self _ _
      have HN := Lib.hid (show n / 2 ^ (k + 1) = n / 2 ^ k / 2 by rw [Nat.pow_succ, Nat.div_div_eq_div_mul])
      have HC := Lib.hid (bitAt_cases n k)
      have hcell := HR.out.1.cellAt (64 - k) (by omega)
      rw [bitRow_get n k _ (by omega), if_neg (by omega)] at hcell
      have hfz := HR.out.1.frozenAt (64 - k)
      have HS := Lib.hid (HR.out.1.stored (64 - k) (.int .u8 (bitAt n k))).1
      rw [bitRow_set n k (by omega)] at HS
      have HB := Lib.hid HR.out.2
      obtain ⟨x, hx⟩ : ∃ x, x = n / 2 ^ k := ⟨_, rfl⟩
      rw [← hx] at g2 hx2 HN HC
      rw [← hx]
      have hand := and_one x (by omega)
      have ho : (64 - k : Nat) = 65 - k - 1 := by omega
      rw [ho] at hcell hfz HS
      clear hx HR ho
      have c1 : ¬ ((x : Int) < 2) := by omega
      rcases HC.out with ⟨m0, m1⟩ | ⟨m0, m1⟩
      · rw [m0] at hand
        rw [m1] at HS
        go_wp2_with fail
        go_roundw
        case rel => exact ⟨k + 1, by omega, by rw [HN.out]; simp, by go_num, Lib.hid ⟨HS.out, HB.out.setCell (Nat.le_refl _) _⟩⟩
        case measure => simp [intOf]; omega
      · rw [m0] at hand
        rw [m1] at HS
        go_wp2_with fail
        go_roundw
        case rel => exact ⟨k + 1, by omega, by rw [HN.out]; simp, by go_num, Lib.hid ⟨HS.out, HB.out.setCell (Nat.le_refl _) _⟩⟩
        case measure => simp [intOf]; omega
    · obtain rfl : k = T := by omega
      have e1 : bitAt n k = 49 := by unfold bitAt; rw [H1.out]; rfl
      have ho : (64 - k : Nat) = 65 - k - 1 := by omega
      have hcell := HR.out.1.cellAt (64 - k) (by omega)
      rw [bitRow_get n k _ (by omega), if_neg (by omega)] at hcell
      have hfz := HR.out.1.frozenAt (64 - k)
      have hst := (HR.out.1.stored (64 - k) (.int .u8 (bitAt n k))).1
      rw [bitRow_set n k (by omega), e1] at hst
      rw [ho] at hcell hfz hst
      have hal : Tryd.prog.arrayLen 89 = 65 := by kernel_rfl
      have hsl : ∀ W, (Instr.sliceAt 89 (.pointer (some ⟨w.heap.size, 0, none⟩)) (some (.int .i64 (65 - (k : Int) - 1))) none none).run Tryd.prog W = .ok (.slice (some ⟨w.heap.size, 65 - k - 1, none⟩) (k + 1) (k + 1)) W := fun W => by
        rw [run_sliceAt_array_l W 89 ⟨w.heap.size, 0, none⟩ (by kernel_rfl) .i64 (65 - (k : Int) - 1) (by omega) (by rw [hal]; omega)]
        go_simp
        omega
      have hcv : (convert 54 9 (.slice (some ⟨w.heap.size, 65 - k - 1, none⟩) (k + 1) (k + 1))).run Tryd.prog (wr.setCell ⟨w.heap.size, 65 - k - 1, none⟩ (.int .u8 49)) = .ok (.string (binS n)) (wr.setCell ⟨w.heap.size, 65 - k - 1, none⟩ (.int .u8 49)) := by
        have h := run_convert_bytes_back (P := Tryd.prog) (wr.setCell ⟨w.heap.size, 65 - k - 1, none⟩ (.int .u8 49)) 54 9 5 ⟨w.heap.size, 65 - k - 1, none⟩ (k + 1) (binL n) Tryd.underlying54 Tryd.underlying5 Tryd.underlying9 (fun j hj => by
          have hj' := hj
          rw [binL_length, ← HT.out] at hj'
          rw [Addr.add_lit, hst.cellAt _ (by omega), bitRow_get n (k + 1) _ (by omega), if_pos (by omega), binL_get, ← HT.out, show 64 - (65 - k - 1 + j) = k - j by omega])
        rw [binL_length, ← HT.out] at h
        exact h
      have HB := Lib.hid HR.out.2
      clear hst HR H3 hal HO HB1 ho e1
      rw [show ((n / 2 ^ k : Nat) : Int) = 1 by rw [H1.out]; rfl]
      clear H1
      have hix : (({ data := #[48, 49, 50, 51, 52, 53, 54, 55, 56, 57, 97, 98, 99, 100, 101, 102, 103, 104, 105, 106, 107, 108, 109, 110, 111, 112, 113, 114, 115, 116, 117, 118, 119, 120, 121, 122] } : ByteArray)[1]'(by decide)).toNat = 49 := rfl
      go_wp2_with fail
      go_ret2
      exact ⟨rfl, HB.out.setCell (Nat.le_refl _) _⟩

theorem formatInt_two (n : Nat) (w : World) (h1 : 1 ≤ n) (h2 : n ≤ 1048576) (hT : w.cell? ⟨7, 1, none⟩ = some (.int .u8 1)) :
    Calls Tryd.prog 14 #[.int .i64 n, .int .i64 2] w fun e w' => e = .returned (.string (binS n)) ∧ Below w.heap.size w w' := by
  have K := Lib.hid (formatBits_two n w h1 h2 hT)
  have K2 : Calls Tryd.prog 24 #[.int .i64 n, .int .i64 2] w fun e w' => e = .returned (.string (binS n)) ∧ Below w.heap.size w w' := by
    have i1 : ¬ ((n : Int) < 0) := by omega
    go_enter Tryd.func24, Tryd.ntmps24
    go_wp2_with (go_at_call 43; refine K.out.mono ?_; rintro e w1 ⟨rfl, hb⟩)
    go_ret
    exact ⟨rfl, hb⟩
  have K3 := Lib.hid K2
  clear K2 K
  go_enter Tryd.func14, Tryd.ntmps14
  go_wp2_with (go_at_call 24; refine K3.out.mono ?_; rintro e w1 ⟨rfl, hb⟩)
  go_ret
  exact ⟨rfl, hb⟩

end Go.Proofs.YtbfnplagidhaeaaDoor
namespace Go.Proofs.YtbfnplagidhaeaaDoor
open Go.RowKit
set_option linter.unusedSimpArgs false
set_option linter.unusedVariables false

theorem size_of_list (l : List UInt8) : (⟨l.toArray⟩ : ByteArray).size = l.length := by show l.toArray.size = _; simp
theorem binS_size (n : Nat) : (binS n).size = bitTop n + 1 := by unfold binS; rw [size_of_list, binL_length]
theorem bitTop_spec (n : Nat) (h1 : 1 ≤ n) (h2 : n ≤ 1048576) : n / 2 ^ bitTop n = 1 ∧ bitTop n ≤ 20 := by
  obtain ⟨a, b, _⟩ := topBit_spec 20 n h1 (by omega)
  exact ⟨a, b⟩
/-- Gamma of n. -/
def gamS (n : Nat) : ByteArray := ⟨(Lib.repeatL [48] (bitTop n)).toArray⟩ ++ binS n

theorem zeros_size (T : Nat) : (⟨(Lib.repeatL [48] T).toArray⟩ : ByteArray).size = T := by
  rw [size_of_list, Lib.repeatL_length]; simp

theorem gammaOf_any (n : Nat) (w : World) (h1 : 1 ≤ n) (h2 : n ≤ 1048576) (hT : w.cell? ⟨7, 1, none⟩ = some (.int .u8 1)) :
    Calls Tryd.prog 11 #[.int .i64 n] w fun e w' => e = .returned (.string (gamS n)) ∧ Below w.heap.size w w' := by
  have K := Lib.hid (formatInt_two n w h1 h2 hT)
  have hsz := binS_size n
  have hzz := zeros_size (bitTop n)
  have ht := (bitTop_spec n h1 h2).2
  have R := Lib.hid (fun w => Tryd.strings_Repeat ⟨#[48]⟩ (bitTop n) w (by omega) (by show 1 * bitTop n ≤ _; omega))
  go_enter Tryd.func11, Tryd.ntmps11
  go_wp2_with (go_at_call 14; refine K.out.mono ?_; rintro e w1 ⟨rfl, hb⟩)
  refine (R.out w1).mono ?_
  rintro e w2 ⟨rfl, hb2⟩
  have B := Lib.hid (below_step hb hb2)
  clear hb hb2
  go_wp2_with fail
  go_ret
  exact ⟨rfl, B.out⟩
theorem gammaR_any (n : Nat) (w : World) (h1 : 1 ≤ n) (h2 : n ≤ 1048576) (hT : w.cell? ⟨7, 1, none⟩ = some (.int .u8 1)) :
    Calls Tryd.prog 7 #[.int .i64 n] w fun e w' => e = .returned (.string (gamS n)) ∧ Below w.heap.size w w' := by
  have K := Lib.hid (formatInt_two n w h1 h2 hT)
  have hsz := binS_size n
  have hzz := zeros_size (bitTop n)
  have ht := (bitTop_spec n h1 h2).2
  have R := Lib.hid (fun w => Tryd.strings_Repeat ⟨#[48]⟩ (bitTop n) w (by omega) (by show 1 * bitTop n ≤ _; omega))
  go_enter Tryd.func7, Tryd.ntmps7
  go_wp2_with (go_at_call 14; refine K.out.mono ?_; rintro e w1 ⟨rfl, hb⟩)
  refine (R.out w1).mono ?_
  rintro e w2 ⟨rfl, hb2⟩
  have B := Lib.hid (below_step hb hb2)
  clear hb hb2
  go_wp2_with fail
  go_ret
  exact ⟨rfl, B.out⟩

theorem gamma_no (n : Int) (w : World) (h : ¬ (1 ≤ n ∧ n ≤ 1048576)) : Calls Tryd.prog 5 #[.int .i64 n] w fun e w' => e = .returned (.tuple #[.string ⟨#[]⟩, .int .i64 3]) ∧ Below w.heap.size w w' := by
  go_enter Tryd.func5, Tryd.ntmps5
  go_wp2_with (first | (go_at_call 10; refine (outside_yes _ _ _ _ h).mono ?_; rintro e w' ⟨rfl, rfl⟩))
  go_ret2
  exact ⟨rfl, Below.refl _ _⟩
theorem gamma_ok (n : Nat) (w : World) (h1 : 1 ≤ n) (h2 : n ≤ 1048576) (hT : w.cell? ⟨7, 1, none⟩ = some (.int .u8 1)) :
    Calls Tryd.prog 5 #[.int .i64 n] w fun e w' => e = .returned (.tuple #[.string (gamS n), .int .i64 0]) ∧ Below w.heap.size w w' := by
  have K := Lib.hid (gammaOf_any n w h1 h2 hT)
  clear hT
  go_enter Tryd.func5, Tryd.ntmps5
  go_wp2_with (first | (go_at_call 10; refine (outside_no _ _ _ _ (by omega)).mono ?_; rintro e w' ⟨rfl, rfl⟩) | (go_at_call 11; refine K.out.mono ?_; rintro e w1 ⟨rfl, hb⟩))
  go_ret2
  exact ⟨rfl, hb⟩

end Go.Proofs.YtbfnplagidhaeaaDoor
namespace Go.Proofs.YtbfnplagidhaeaaDoor
open Go.RowKit
set_option linter.unusedSimpArgs false
set_option linter.unusedVariables false

def b01 (s : ByteArray) (j : Nat) : Prop := byteAt s j = 48 ∨ byteAt s j = 49
/-- The number that j bytes from p on spell at base 2. -/
def gv (s : ByteArray) (p : Nat) : Nat → Nat
  | 0 => 0
  | j + 1 => 2 * gv s p j + (byteAt s (p + j) - 48).toNat
theorem gv_lt {s : ByteArray} {p j : Nat} (h : ∀ i, i < j → b01 s (p + i)) : gv s p j < 2 ^ j := by
  induction j with
  | zero => simp [gv]
  | succ j ih =>
    have := ih (fun i hi => h i (by omega))
    have hb := h j (by omega)
    rw [gv, Nat.pow_succ]
    unfold b01 at hb
    omega
theorem byteAt_range (s : ByteArray) (k : Nat) : 0 ≤ byteAt s k ∧ byteAt s k < 256 := by
  unfold byteAt
  have := (s.data.toList.getD k 0).toNat_lt
  omega

theorem lower_any (c : Int) (w : World) : Calls Tryd.prog 34 #[.int .u8 c] w fun e w' => e = .returned (.int .u8 (bits .or .u8 c 32)) ∧ w = w' := by
  go_enter Tryd.func34, Tryd.ntmps34
  go_wp2
  go_ret
  exact ⟨rfl, rfl⟩

open Classical in
noncomputable def pu2 (t : ByteArray) : Value := if ∀ i, i < t.size → b01 t i then .tuple #[.int .u64 ((gv t 0 t.size : Nat) : Int), .nilIface] else .tuple #[.int .u64 0, .iface 65 (.int .i64 2)]

set_option maxHeartbeats 8000000 in
set_option maxRecDepth 100000 in
theorem parseUint_two (t : ByteArray) (w : World) (h1 : 1 ≤ t.size) (h2 : t.size ≤ 21) :
    Calls Tryd.prog 22 #[.string t, .int .i64 2, .int .i64 64] w fun e w' => e = .returned (pu2 t) ∧ w' = Lib.bytesWorld w 5 t := by
  have hemp : t.toList.isEmpty = false := by
    rw [← decide_eq_emptyBytes]
    exact decide_eq_false (fun h => absurd h1 (by rw [h]; decide))
  have hcv := Lib.run_convert_string_bytes (P := Tryd.prog) w 9 54 5 t (u := .string) Tryd.underlying9 Tryd.underlying54 Tryd.underlying5
  have hB : ∀ j, j < t.size → (Lib.bytesWorld w 5 t).cell? ⟨w.heap.size, j, none⟩ = some (.int .u8 (byteAt t j)) := fun j hj => Lib.bytesWorld_cell w 5 t j hj
  obtain ⟨W1, hW1⟩ : ∃ W1, W1 = Lib.bytesWorld w 5 t := ⟨_, rfl⟩
  rw [← hW1] at hcv hB ⊢
  clear hW1
  have HBB := Lib.hid hB
  clear hB
  have hmv : IntKind.u64.wrap (IntKind.u64.wrap 18446744073709551616 - 1) = 18446744073709551615 := by
    rw [IntKind.wrap_u64, IntKind.wrap_u64]
    decide
  go_enter Tryd.func22, Tryd.ntmps22
  go_wp2
  go_loop [12, 13, 101] (fun vu vn vi => ∃ (k : Nat) (a : Int), vu = .bool false ∧ vn = .int .u64 a ∧ vi = .int .i64 k ∧ k ≤ t.size ∧ Hid (a = ((gv t 0 k : Nat) : Int) ∧ ∀ i, i < k → b01 t i))
    (fun _ _ vi => t.size - (intOf vi).toNat)
  case atStart => exact ⟨0, 0, rfl, rfl, rfl, by omega, Lib.hid ⟨rfl, fun i hi => by omega⟩⟩
  case round =>
    obtain ⟨k, a, rfl, rfl, rfl, hk, HH⟩ := hrel
    have hlt := gv_lt (s := t) (p := 0) (j := k) (by simpa using HH.out.2)
    have hp : (2 : Nat) ^ k ≤ 2 ^ 21 := Nat.pow_le_pow_right (by omega) (by omega)
    have a0 : 0 ≤ a := by have := HH.out.1; omega
    have a1 : a < 2097152 := by have := HH.out.1; omega
    clear hlt hp
    by_cases hkn : k < t.size
    · have hc := HBB.out k hkn
      obtain ⟨hr0, hr1⟩ := byteAt_range t k
      have HK := Lib.hid (show (2 * a + (byteAt t k - 48) = ((2 * gv t 0 k : Nat) : Int) + (byteAt t k - 48)) by rw [HH.out.1]; omega)
      have HV := Lib.hid (show gv t 0 (k + 1) = 2 * gv t 0 k + (byteAt t k - 48).toNat by rw [gv, Nat.zero_add])
      have HBK := Lib.hid (show b01 t k ↔ (byteAt t k = 48 ∨ byteAt t k = 49) from Iff.rfl)
      obtain ⟨c, hcc⟩ : ∃ c, c = byteAt t k := ⟨_, rfl⟩
      rw [← hcc] at hc hr0 hr1 HK HV HBK
      clear hcc
      by_cases hd : c = 48 ∨ c = 49
      · have HN := Lib.hid (show 2 * a + (c - 48) = ((gv t 0 (k + 1) : Nat) : Int) by rw [HK.out, HV.out]; omega)
        have HB2 := Lib.hid (HBK.out.2 hd)
        have hd0 : 48 ≤ c := by omega
        have hd1 : c ≤ 49 := by omega
        have hd2 : c ≤ 57 := by omega
        have hd3 : c - 48 < 2 := by omega
        clear hd HBK HV HK hr0 hr1
        go_wp2
        refine ⟨⟨k + 1, a * 2 + (c - 48), rfl, rfl, by go_num, by omega, Lib.hid ⟨by have := HN.out; omega, fun i hi => ?_⟩⟩, by simp [intOf]; omega⟩
        by_cases e : i = k
        · subst e; exact HB2.out
        · exact HH.out.2 i (by omega)
      · have HE := Lib.hid (show pu2 t = .tuple #[.int .u64 0, .iface 65 (.int .i64 2)] by
          unfold pu2
          rw [if_neg (fun h => hd (HBK.out.1 (h k hkn)))])
        have hv0 := bits_lo_u8 .or c 32
        have hv1 := bits_hi_u8 .or c 32
        have hu0 := bits_lo_u8 .or 95 32
        have hu1 := bits_hi_u8 .or 95 32
        clear HBK HV HK
        by_cases hdig : 48 ≤ c ∧ c ≤ 57
        · obtain ⟨e1, e2⟩ := hdig
          have e3 : 2 ≤ c - 48 := by omega
          go_wp2
          go_ret2
          exact ⟨HE.out.symm ▸ rfl, rfl⟩
        · go_wp2_with ((go_at_call 34; refine (lower_any _ _).mono ?_; rintro e w' ⟨rfl, rfl⟩))
          all_goals go_ret2
          all_goals first | exact ⟨by rw [HE.out]; rfl, rfl⟩
    · obtain rfl : k = t.size := by omega
      have HE := Lib.hid (show pu2 t = .tuple #[.int .u64 a, .nilIface] by
        unfold pu2
        rw [if_pos HH.out.2, HH.out.1])
      clear HH
      go_wp2
      go_ret2
      exact ⟨by rw [HE.out]; rfl, rfl⟩

end Go.Proofs.YtbfnplagidhaeaaDoor
namespace Go.Proofs.YtbfnplagidhaeaaDoor
open Go.RowKit
set_option linter.unusedSimpArgs false
set_option linter.unusedVariables false

theorem bytes_below (w : World) (e : TypeId) (s : ByteArray) : Below w.heap.size w (Lib.bytesWorld w e s) :=
  ⟨rfl, by simp [Lib.bytesWorld, World.freeze, World.alloc, World.drew, -World.alloc_eq, -World.drew_eq], by simp [Lib.bytesWorld, World.freeze, World.alloc, World.drew, -World.alloc_eq, -World.drew_eq], by rw [Lib.bytesWorld_size]; omega, fun i hi => Lib.bytesWorld_at_old w e s i hi⟩

/-- What the texts of the errors need: the variable of the error has a value. -/
def ErrAt (w : World) : Prop := ∃ ev, w.cell? ⟨0, 0, none⟩ = some ev ∧ (ev = .nilIface ∨ ∃ te pe, ev = .iface te pe)
theorem ErrAt.later {w w' : World} (h : ErrAt w) (hb : Below w.heap.size w w') : ErrAt w' := by
  obtain ⟨ev, h1, h2⟩ := h
  exact ⟨ev, cell_later hb h1, h2⟩

theorem parse_ok (t : ByteArray) (w : World) (h1 : 1 ≤ t.size) (h2 : t.size ≤ 21) (h : ∀ i, i < t.size → b01 t i) :
    Calls Tryd.prog 13 #[.string t, .int .i64 2, .int .i64 64] w fun e w' => e = .returned (.tuple #[.int .u64 ((gv t 0 t.size : Nat) : Int), .nilIface]) ∧ Below w.heap.size w w' := by
  have K := Lib.hid (parseUint_two t w h1 h2)
  rw [show pu2 t = .tuple #[.int .u64 ((gv t 0 t.size : Nat) : Int), .nilIface] by unfold pu2; rw [if_pos h]] at K
  have B := Lib.hid (bytes_below w 5 t)
  obtain ⟨w1, hw1⟩ : ∃ w1, w1 = Lib.bytesWorld w 5 t := ⟨_, rfl⟩
  rw [← hw1] at K B
  clear hw1 h
  go_enter Tryd.func13, Tryd.ntmps13
  go_wp2_with (go_at_call 22; refine K.out.mono ?_; rintro e w2 ⟨rfl, rfl⟩)
  go_ret2
  exact ⟨rfl, B.out⟩

theorem parse_bad (t : ByteArray) (w : World) (h1 : 1 ≤ t.size) (h2 : t.size ≤ 21) (h : ¬ ∀ i, i < t.size → b01 t i) (hE : ErrAt w) :
    Calls Tryd.prog 13 #[.string t, .int .i64 2, .int .i64 64] w fun e w' => ∃ te pe, e = .returned (.tuple #[.int .u64 0, .iface te pe]) ∧ Below w.heap.size w w' := by
  have K := Lib.hid (parseUint_two t w h1 h2)
  rw [show pu2 t = .tuple #[.int .u64 0, .iface 65 (.int .i64 2)] by unfold pu2; rw [if_neg h]] at K
  have B := Lib.hid (bytes_below w 5 t)
  obtain ⟨w1, hw1⟩ : ∃ w1, w1 = Lib.bytesWorld w 5 t := ⟨_, rfl⟩
  rw [← hw1] at K B
  obtain ⟨ev, g1, g2⟩ := hE.later B.out
  have T := Lib.hid (AnyPu.strconv_toError_syntax Tryd.laysPu17 ⟨#[80, 97, 114, 115, 101, 85, 105, 110, 116]⟩ t 2 64 ev w1 (by omega) g1 g2)
  clear hw1 h hE g1 g2
  go_enter Tryd.func13, Tryd.ntmps13
  go_wp2_with (first | (go_at_call 22; refine K.out.mono ?_; rintro e w2 ⟨rfl, rfl⟩) | (go_at_call 23; refine T.out.mono ?_; rintro e w3 ⟨N, rfl, _, _, hb3⟩))
  have B3 := Lib.hid (below_step B.out hb3)
  clear hb3
  go_wp2_with fail
  go_ret2
  exact ⟨_, _, rfl, B3.out⟩

end Go.Proofs.YtbfnplagidhaeaaDoor
namespace Go.Proofs.YtbfnplagidhaeaaDoor
open Go.RowKit
set_option linter.unusedSimpArgs false
set_option linter.unusedVariables false

theorem ga_sub (s : ByteArray) (a b i : Nat) (hb : b ≤ s.size) (hi : i < b - a) : byteAt (s.extract a b) i = byteAt s (a + i) := by
  unfold byteAt
  congr 2
  rw [List.getD_eq_getElem?_getD, List.getD_eq_getElem?_getD]
  congr 1
  simp only [ByteArray.data_extract, Array.toList_extract, List.getElem?_toArray]
  rw [List.extract_eq_take_drop, List.getElem?_take, List.getElem?_drop, if_pos hi]
theorem ga_size (s : ByteArray) (a b : Nat) (hb : b ≤ s.size) : (s.extract a b).size = b - a := by rw [ByteArray.size_extract]; omega

/-- k bytes 0 stand at the beginning, and not one more. -/
def IsZ (s : ByteArray) (k : Nat) : Prop := k ≤ s.size ∧ (∀ j, j < k → byteAt s j = 48) ∧ (k < s.size → byteAt s k ≠ 48)
theorem isZ_ex (s : ByteArray) : ∃ k, IsZ s k := by
  have : ∀ n, n ≤ s.size → (∃ k, IsZ s k) ∨ ∀ j, j < n → byteAt s j = 48 := by
    intro n
    induction n with
    | zero => exact fun _ => .inr (fun j hj => by omega)
    | succ n ih =>
      intro hn
      rcases ih (by omega) with h | h
      · exact .inl h
      · by_cases e : byteAt s n = 48
        · exact .inr (fun j hj => by
            by_cases e2 : j = n
            · rw [e2]; exact e
            · exact h j (by omega))
        · exact .inl ⟨n, by omega, h, fun _ => e⟩
  rcases this s.size (Nat.le_refl _) with h | h
  · exact h
  · exact ⟨s.size, Nat.le_refl _, h, fun h => by omega⟩

theorem ga_trim (s : ByteArray) (m z : Nat) (hm : m ≤ s.size) (hz : z ≤ m) (h1 : ∀ j, j < z → byteAt s j = 48) (h2 : z < m → byteAt s z ≠ 48) :
    (⟨(Lib.trimLeftB (s.extract 0 m).data.toList 48).toArray⟩ : ByteArray).size = m - z := by
  have hl : (s.extract 0 m).data.toList.length = m := by
    have := ga_size s 0 m hm
    rw [Nat.sub_zero] at this
    rw [Array.length_toList]; exact this
  have hg : ∀ j b, (s.extract 0 m).data.toList[j]? = some b → j < m ∧ ((b.toNat : Int)) = byteAt s j := fun j b h => by
    have hj : j < m := by rw [← hl]; exact (List.getElem?_eq_some_iff.1 h).1
    refine ⟨hj, ?_⟩
    have := ga_sub s 0 m j hm (by omega)
    rw [Nat.zero_add] at this
    rw [← this]
    unfold byteAt
    rw [List.getD_eq_getElem?_getD, h]; rfl
  have h48 : ∀ b : UInt8, b = 48 ↔ (b.toNat : Int) = 48 := fun b => ⟨fun h => by rw [h]; rfl, fun h => UInt8.toNat_inj.1 (by have : ((48 : UInt8).toNat : Int) = 48 := rfl; omega)⟩
  rw [size_of_list, Lib.trimLeftB_drop _ 48 z (by rw [hl]; omega) (fun j b hj h => by
    obtain ⟨g1, g2⟩ := hg j b h
    rw [h48, g2]; exact h1 j hj) (fun b h => by
    obtain ⟨g1, g2⟩ := hg _ b h
    rw [Ne, h48, g2]; exact h2 g1), List.length_drop, hl]

theorem gv_sub (s : ByteArray) (a b j : Nat) (hb : b ≤ s.size) (hj : j ≤ b - a) : gv (s.extract a b) 0 j = gv s a j := by
  induction j with
  | zero => rfl
  | succ j ih => rw [gv, gv, ih (by omega), Nat.zero_add, ga_sub s a b j hb (by omega)]

open Classical in
/-- What ReadGamma answers to a text with k bytes 0 at its beginning. -/
noncomputable def rgV (s : ByteArray) (k : Nat) : Value :=
  if k ≤ 20 ∧ 2 * k + 1 ≤ s.size ∧ (∀ i, i < k + 1 → b01 s (k + i)) ∧ gv s k (k + 1) ≤ 1048576 then .tuple #[.int .i64 ((gv s k (k + 1) : Nat) : Int), .int .i64 (2 * (k : Int) + 1), .int .i64 0] else .tuple #[.int .i64 0, .int .i64 0, .int .i64 8]

set_option maxHeartbeats 2000000 in
set_option maxRecDepth 100000 in
theorem readGamma_any (s : ByteArray) (k : Nat) (w : World) (hs : s.size ≤ 9223372036854775807) (hk : IsZ s k) (hE : ErrAt w) :
    Calls Tryd.prog 6 #[.string s] w fun e w' => e = .returned (rgV s k) ∧ Below w.heap.size w w' := by
  obtain ⟨k1, k2, k3⟩ := hk
  obtain ⟨m, hm⟩ : ∃ m, m = min s.size 41 := ⟨_, rfl⟩
  obtain ⟨z, hz⟩ : ∃ z, z = min k m := ⟨_, rfl⟩
  have TR := Lib.hid (ga_trim s m z (by omega) (by omega) (fun j hj => k2 j (by omega)) (fun h => by rw [show z = k by omega]; exact k3 (by omega)))
  have TL := Lib.hid (fun w => Tryd.strings_TrimLeft_one (s.extract 0 m) 48 (by decide) w)
  have hsz : (s.extract 0 m).size = m := by rw [ga_size s 0 m (by omega)]; rfl
  have hm41 : m ≤ 41 := by omega
  have hzm : z ≤ m := by omega
  have HE := Lib.hid hE
  have HK2 := Lib.hid k2
  have HK3 := Lib.hid k3
  clear hE k2 k3
  go_enter Tryd.func6, Tryd.ntmps6
  go_upto_region 1 with fail
  go_cut [5] from 10 to 15 (fun v5 wx => v5 = .string (s.extract 0 m) ∧ w = wx)
  case first =>
    go_wp2_with fail
    go_meet
    case rel => exact ⟨by rw [show (min (s.size : Int) 41).toNat = m by omega], rfl⟩
  case rest =>
    obtain ⟨rfl, rfl⟩ := hcut
    have T1 := TL.out w
    have hts := TR.out
    obtain ⟨tr, htr⟩ : ∃ tr, tr = (⟨(Lib.trimLeftB (s.extract 0 m).data.toList 48).toArray⟩ : ByteArray) := ⟨_, rfl⟩
    rw [← htr] at T1 hts
    have K1 := Lib.hid T1
    clear htr T1 TR TL
    have e1 : (m : Int) - ((m - z : Nat) : Int) = (z : Int) := by omega
    by_cases hA : k ≤ 20 ∧ 2 * k + 1 ≤ s.size
    · obtain rfl : z = k := by omega
      have ha1 : 2 * z + 1 ≤ m := by omega
      have hx : ((s.extract 0 m).extract z (2 * z + 1)) = s.extract z (2 * z + 1) := by
        apply ByteArray.ext
        simp only [ByteArray.data_extract, Array.extract_extract]
        congr 1 <;> omega
      have hxs : (s.extract z (2 * z + 1)).size = z + 1 := by rw [ga_size _ _ _ (by omega)]; omega
      have i1 : ¬ ((m : Int) < 2 * (z : Int) + 1) := by omega
      have hb : ∀ i, i < z + 1 → (b01 (s.extract z (2 * z + 1)) i ↔ b01 s (z + i)) := fun i hi => by unfold b01; rw [ga_sub s z (2 * z + 1) i (by omega) (by omega)]
      by_cases hall : ∀ i, i < z + 1 → b01 s (z + i)
      · have P := Lib.hid (fun w => parse_ok (s.extract z (2 * z + 1)) w (by omega) (by omega) (fun i hi => (hb i (by omega)).2 (hall i (by omega))))
        rw [hxs, gv_sub s z (2 * z + 1) (z + 1) (by omega) (by omega)] at P
        have hlt := gv_lt (s := s) (p := z) (j := z + 1) hall
        have hp : (2 : Nat) ^ (z + 1) ≤ 2 ^ 21 := Nat.pow_le_pow_right (by omega) (by omega)
        have HAll := Lib.hid hall
        clear hb hall
        by_cases hbig : gv s z (z + 1) ≤ 1048576
        · have HR := Lib.hid (show rgV s z = .tuple #[.int .i64 ((gv s z (z + 1) : Nat) : Int), .int .i64 (2 * (z : Int) + 1), .int .i64 0] by unfold rgV; rw [if_pos ⟨hA.1, hA.2, HAll.out, hbig⟩])
          have i2 : ¬ ((1048576 : Int) < ((gv s z (z + 1) : Nat) : Int)) := by omega
          clear hA hm hz hlt hp
          go_wp2_with (first | (go_at_call 12; refine K1.out.mono ?_; rintro e w1 ⟨rfl, rfl⟩) | (go_at_call 13; refine (P.out _).mono ?_; rintro e w2 ⟨rfl, hb2⟩))
          go_ret3
          exact ⟨by rw [HR.out]; rfl, hb2⟩
        · have HR := Lib.hid (show rgV s z = .tuple #[.int .i64 0, .int .i64 0, .int .i64 8] by unfold rgV; rw [if_neg (fun h => hbig h.2.2.2)])
          have i2 : (1048576 : Int) < ((gv s z (z + 1) : Nat) : Int) := by omega
          clear hA hm hz hlt hp hbig
          go_wp2_with (first | (go_at_call 12; refine K1.out.mono ?_; rintro e w1 ⟨rfl, rfl⟩) | (go_at_call 13; refine (P.out _).mono ?_; rintro e w2 ⟨rfl, hb2⟩))
          go_ret3
          exact ⟨by rw [HR.out]; rfl, hb2⟩
      · have P := Lib.hid (fun w hE => parse_bad (s.extract z (2 * z + 1)) w (by omega) (by omega) (fun h => hall (fun i hi => (hb i hi).1 (h i (by omega)))) hE)
        have HR := Lib.hid (show rgV s z = .tuple #[.int .i64 0, .int .i64 0, .int .i64 8] by unfold rgV; rw [if_neg (fun h => hall h.2.2.1)])
        clear hb hall hA hm hz
        go_wp2_with (first | (go_at_call 12; refine K1.out.mono ?_; rintro e w1 ⟨rfl, rfl⟩) | (go_at_call 13; refine (P.out _ HE.out).mono ?_; rintro e w2 ⟨te, pe, rfl, hb2⟩))
        go_ret3
        exact ⟨by rw [HR.out]; rfl, hb2⟩
    · have HR := Lib.hid (show rgV s k = .tuple #[.int .i64 0, .int .i64 0, .int .i64 8] by unfold rgV; rw [if_neg (fun h => hA ⟨h.1, h.2.1⟩)])
      have i1 : (m : Int) < 2 * (z : Int) + 1 := by omega
      clear hA hm hz
      go_wp2_with (go_at_call 12; refine K1.out.mono ?_; rintro e w1 ⟨rfl, rfl⟩)
      go_ret3
      exact ⟨by rw [HR.out]; rfl, Below.refl _ _⟩

end Go.Proofs.YtbfnplagidhaeaaDoor
