/-
  RunsMatch: Runs and FromRuns are as the document says, and runs make the row again. Conditions: none.
-/
import Derived.Test.YtbfnplagidhaeaaRows
import Derived.WalkKit
import Derived.WalkSpells
import Derived.WalkLawsBesides
import Derived.Lib.Hide
import Derived.Deep.RegionHeld3
import Derived.Shelf.Abstract
import Derived.ProofKit
import Derived.OpenShut
import Derived.ShutString
import Derived.ChangeOld
import Derived.Lib.SmallJoins
import Derived.Deep.Grids
import Derived.Deep.AppendLies
import Derived.Deep.DrawnRows
import Derived.Deep.DeepCutAuto
import Derived.Deep.CutRange
import Derived.Deep.QuietTactic
import Derived.BigQuiet
import Derived.Test.YtbfnplagidhaeaaCRuns1
namespace Go.Proofs.Ytbfnplagidhaeaa
open Go.RowKit
set_option linter.unusedSimpArgs false
set_option linter.unusedVariables false

theorem frErr_far {L : Nat → Int} {m : Nat} {x : Int} (h : 4000 < x) : frErr L m x = 4 ∧ frOut L m x = [] := by
  have : frErr L m x = 4 := by unfold frErr; rw [if_pos h]
  exact ⟨this, by unfold frOut; rw [this, if_neg (by decide)]⟩
theorem frErr_neg {L : Nat → Int} {m : Nat} {x : Int} (h : x < 0) : frErr L m x = 3 ∧ frOut L m x = [] := by
  have : frErr L m x = 3 := by unfold frErr; rw [if_neg (by omega), if_pos h]
  exact ⟨this, by unfold frOut; rw [this, if_neg (by decide)]⟩

theorem from_any (s : Option Addr) (m c : Nat) (x : Int) (L : Nat → Int) (w : World) (hmx : m ≤ 9223372036854775807) (hs : IsNums w s m c L) :
    Calls Try.prog 6 #[.slice s m c, .int .i64 x] w fun e w' => ∃ v, e = .returned (.tuple #[v, .int .i64 (frErr L m x)]) ∧ w'.ownsRow w.heap.size 4 1 v (frOut L m x).length (boolsV (frOut L m x)) ∧ Below w.heap.size w w' := by
  by_cases h1 : 4000 < x
  · obtain ⟨e1, e2⟩ := frErr_far (L := L) (m := m) h1
    rw [e1, e2]
    refine (from_long s m c x w h1).mono ?_
    rintro e w' ⟨rfl, hb⟩
    exact ⟨_, rfl, World.ownsRow_nil _ _ _ _, hb⟩
  · by_cases h2 : x < 0
    · obtain ⟨e1, e2⟩ := frErr_neg (L := L) (m := m) h2
      rw [e1, e2]
      refine (from_neg s m c x w h2).mono ?_
      rintro e w' ⟨rfl, hb⟩
      exact ⟨_, rfl, World.ownsRow_nil _ _ _ _, hb⟩
    · obtain ⟨W, rfl⟩ := Int.eq_ofNat_of_zero_le (show 0 ≤ x by omega)
      exact from_mid s m c W L w (by omega) hmx hs
theorem fromR_any (s : Option Addr) (m c : Nat) (x : Int) (L : Nat → Int) (w : World) (hmx : m ≤ 9223372036854775807) (hs : IsNums w s m c L) :
    Calls Try.prog 10 #[.slice s m c, .int .i64 x] w fun e w' => ∃ v, e = .returned (.tuple #[v, .int .i64 (frErr L m x)]) ∧ w'.ownsRow w.heap.size 4 1 v (frOut L m x).length (boolsV (frOut L m x)) ∧ Below w.heap.size w w' := by
  by_cases h1 : 4000 < x
  · obtain ⟨e1, e2⟩ := frErr_far (L := L) (m := m) h1
    rw [e1, e2]
    refine (fromR_long s m c x w h1).mono ?_
    rintro e w' ⟨rfl, hb⟩
    exact ⟨_, rfl, World.ownsRow_nil _ _ _ _, hb⟩
  · by_cases h2 : x < 0
    · obtain ⟨e1, e2⟩ := frErr_neg (L := L) (m := m) h2
      rw [e1, e2]
      refine (fromR_neg s m c x w h2).mono ?_
      rintro e w' ⟨rfl, hb⟩
      exact ⟨_, rfl, World.ownsRow_nil _ _ _ _, hb⟩
    · obtain ⟨W, rfl⟩ := Int.eq_ofNat_of_zero_le (show 0 ≤ x by omega)
      exact fromR_mid s m c W L w (by omega) hmx hs

theorem runsR_ok (s : Option Addr) (n c : Nat) (z : Nat → Bool) (w : World) (h : n ≤ 4000) (hs : IsBools w s n c z) : Calls Try.prog 8 #[.slice s n c] w fun e w' =>
    ∃ v, e = .returned v ∧ w'.ownsRow w.heap.size 3 1 v (runsL z n).length (natsV (runsL z n)) ∧ Below w.heap.size w w' := by
  by_cases h0 : n = 0
  · subst h0
    refine (runsR_zero s c w).mono ?_
    rintro e w' ⟨rfl, hb⟩
    exact ⟨_, rfl, World.ownsRow_nil _ _ _ _, hb⟩
  · obtain ⟨g, o, rfl, hc⟩ := isBools_cells hs (by omega)
    exact runsR_row n g o c z w (by omega) hc

theorem runsL_long (z : Nat → Bool) (n : Nat) : (runsL z n).length ≤ n + 1 := by
  unfold runsL
  by_cases h : n = 0
  · rw [if_pos h]; simp
  · rw [if_neg h, rnL_length]
    have := (rn_row z n).2.2.2.2.1
    omega

theorem nums_owned {w : World} {N : Nat} {v : Value} {l : List Nat} (h : w.ownsRow N 3 1 v l.length (natsV l)) : ∃ a c, v = .slice a l.length c ∧ IsNums w a l.length c (intOfs l) := by
  rcases h.2 with ⟨h0, h1⟩ | ⟨g, cap, cur, h0, hb, hg, _⟩
  · exact ⟨none, 0, by rw [h0, h1], .inl h1⟩
  · subst h0
    refine ⟨_, _, rfl, .inr ⟨g, 0, rfl, (h.lt g rfl).2, fun i hi => ?_⟩⟩
    rw [Nat.zero_add, h.cellAt i (by omega), natsV_get _ _ hi]

theorem eqInt_zero (s t : Option Addr) (c d : Nat) (w : World) : Calls Try.prog 7 #[.slice s 0 c, .slice t 0 d] w fun e w' => e = .returned (.bool true) ∧ ∃ q, w' = w.drewN q := by
  go_enter Try.func7, Try.ntmps7
  go_wp2
  go_loopw [13] (fun i wr => i = .int .i64 0 ∧ wr = w) (fun i _ => 0)
  case atStart => exact ⟨rfl, rfl⟩
  case round =>
    obtain ⟨rfl, rfl⟩ := hrel
    go_wp2
    go_ret
    exact ⟨rfl, 0, rfl⟩
theorem eqB_zero (s t : Option Addr) (c d : Nat) (w : World) : Calls Try.prog 9 #[.slice s 0 c, .slice t 0 d] w fun e w' => e = .returned (.bool true) ∧ ∃ q, w' = w.drewN q := by
  go_enter Try.func9, Try.ntmps9
  go_wp2
  go_loopw [13] (fun i wr => i = .int .i64 0 ∧ wr = w) (fun i _ => 0)
  case atStart => exact ⟨rfl, rfl⟩
  case round =>
    obtain ⟨rfl, rfl⟩ := hrel
    go_wp2
    go_ret
    exact ⟨rfl, 0, rfl⟩

theorem eqInt_owned {w : World} {N M : Nat} {u v : Value} {l : List Nat} (hl : l.length ≤ 100000000) (hu : w.ownsRow N 3 1 u l.length (natsV l)) (hv : w.ownsRow M 3 1 v l.length (natsV l)) :
    Calls Try.prog 7 #[u, v] w fun e w' => e = .returned (.bool true) ∧ ∃ q, w' = w.drewN q := by
  by_cases h0 : l.length = 0
  · obtain ⟨a, c, rfl⟩ := owns_shape hu
    obtain ⟨a', c', rfl⟩ := owns_shape hv
    rw [h0]
    exact eqInt_zero a a' c c' w
  · obtain ⟨g, c, rfl⟩ := owns_slice hu (by omega)
    obtain ⟨g', c', rfl⟩ := owns_slice hv (by omega)
    exact equalInt_true g 0 g' 0 l.length c c' (intOfs l) w hl (fun j hj => by rw [Nat.zero_add, hu.cellAt j (by omega), natsV_get _ _ hj]) (fun j hj => by rw [Nat.zero_add, hv.cellAt j (by omega), natsV_get _ _ hj])
theorem boolsV_get (l : List Bool) (j : Nat) (h : j < l.length) : (boolsV l)[j]? = some (.bool (l.getD j false)) := by simp [boolsV, List.getD, h]
theorem eqB_owned {w : World} {N M : Nat} {u v : Value} {l : List Bool} (hl : l.length ≤ 100000000) (hu : w.ownsRow N 4 1 u l.length (boolsV l)) (hv : w.ownsRow M 4 1 v l.length (boolsV l)) :
    Calls Try.prog 9 #[u, v] w fun e w' => e = .returned (.bool true) ∧ ∃ q, w' = w.drewN q := by
  by_cases h0 : l.length = 0
  · obtain ⟨a, c, rfl⟩ := owns_shape hu
    obtain ⟨a', c', rfl⟩ := owns_shape hv
    rw [h0]
    exact eqB_zero a a' c c' w
  · obtain ⟨g, c, rfl⟩ := owns_slice hu (by omega)
    obtain ⟨g', c', rfl⟩ := owns_slice hv (by omega)
    exact equalBool_true g 0 g' 0 l.length c c' (fun j => l.getD j false) w hl (fun j hj => by rw [Nat.zero_add, hu.cellAt j (by omega), boolsV_get _ _ hj]) (fun j hj => by rw [Nat.zero_add, hv.cellAt j (by omega), boolsV_get _ _ hj])
theorem eqB_row {w : World} {N n d : Nat} {u : Value} {s : Option Addr} {z : Nat → Bool} (hn : n ≤ 4000) (hu : w.ownsRow N 4 1 u ((List.range n).map z).length (boolsV ((List.range n).map z))) (hs : IsBools w s n d z) :
    Calls Try.prog 9 #[u, .slice s n d] w fun e w' => e = .returned (.bool true) ∧ ∃ q, w' = w.drewN q := by
  rw [List.length_map, List.length_range] at hu
  by_cases h0 : n = 0
  · obtain ⟨a, c, rfl⟩ := owns_shape hu
    rw [h0]
    exact eqB_zero a s c d w
  · obtain ⟨g, c, rfl⟩ := owns_slice hu (by omega)
    obtain ⟨g', o', rfl, hc⟩ := isBools_cells hs (by omega)
    exact equalBool_true g 0 g' o' n c d z w (by omega) (fun j hj => by rw [Nat.zero_add, hu.cellAt j (by omega), boolsV_get _ _ (by simpa using hj)]; simp [List.getD, hj]) hc
theorem frOut_le (L : Nat → Int) (m : Nat) (x : Int) : (frOut L m x).length ≤ 4000 := by
  unfold frOut
  by_cases h : frErr L m x = 0
  · rw [if_pos h]
    unfold frErr at h
    by_cases h1 : x > 4000
    · rw [if_pos h1] at h; omega
    · rw [if_neg h1] at h
      by_cases h2 : x < 0
      · rw [if_pos h2] at h; omega
      · rw [if_neg h2] at h
        by_cases h3 : frGood L x.toNat m ∧ (frRow L m).length = x.toNat
        · rw [h3.2]; omega
        · rw [if_neg h3] at h; omega
  · rw [if_neg h]; simp

end Go.Proofs.Ytbfnplagidhaeaa
namespace Go.Proofs.Ytbfnplagidhaeaa
open Go.RowKit
set_option linter.unusedSimpArgs false
set_option linter.unusedVariables false

def smB (c : Int) : Bool := decide (97 ≤ c ∧ c ≤ 122)
def dgB (c : Int) : Bool := decide (48 ≤ c ∧ c ≤ 57)

theorem isSmall_any (c : Int) (w : World) : Calls Try.prog 14 #[.int .u8 c] w fun e w' => e = .returned (.bool (smB c)) ∧ w = w' := by
  by_cases h1 : 97 ≤ c
  · by_cases h2 : c ≤ 122
    · have H := Lib.hid (show smB c = true from decide_eq_true ⟨h1, h2⟩)
      go_enter Try.func14, Try.ntmps14
      go_wp2
      go_ret
      exact ⟨ret_bool H.out.symm, rfl⟩
    · have H := Lib.hid (show smB c = false from decide_eq_false (fun k => h2 k.2))
      go_enter Try.func14, Try.ntmps14
      go_wp2
      go_ret
      exact ⟨ret_bool H.out.symm, rfl⟩
  · have H := Lib.hid (show smB c = false from decide_eq_false (fun k => h1 k.1))
    go_enter Try.func14, Try.ntmps14
    go_wp2
    go_ret
    exact ⟨ret_bool H.out.symm, rfl⟩

theorem isDigit_any (c : Int) (w : World) : Calls Try.prog 15 #[.int .u8 c] w fun e w' => e = .returned (.bool (dgB c)) ∧ w = w' := by
  by_cases h1 : 48 ≤ c
  · by_cases h2 : c ≤ 57
    · have H := Lib.hid (show dgB c = true from decide_eq_true ⟨h1, h2⟩)
      go_enter Try.func15, Try.ntmps15
      go_wp2
      go_ret
      exact ⟨ret_bool H.out.symm, rfl⟩
    · have H := Lib.hid (show dgB c = false from decide_eq_false (fun k => h2 k.2))
      go_enter Try.func15, Try.ntmps15
      go_wp2
      go_ret
      exact ⟨ret_bool H.out.symm, rfl⟩
  · have H := Lib.hid (show dgB c = false from decide_eq_false (fun k => h1 k.1))
    go_enter Try.func15, Try.ntmps15
    go_wp2
    go_ret
    exact ⟨ret_bool H.out.symm, rfl⟩

/-- The byte at a place, as a number. -/
def byteAt (s : ByteArray) (k : Nat) : Int := ((s.data.toList.getD k 0).toNat : Int)
theorem byteAt_get (s : ByteArray) (k : Nat) (h : k < s.size) : (s[k].toNat : Int) = byteAt s k := by
  unfold byteAt
  rw [List.getD_eq_getElem?_getD, List.getElem?_eq_getElem (by simpa using h)]
  rfl

def goodB (s : ByteArray) (k : Nat) : Bool := smB (byteAt s k) || (decide (k ≠ 0) && (dgB (byteAt s k) || decide (byteAt s k = 45)))
def NameP (s : ByteArray) : Prop := (1 ≤ s.size ∧ s.size ≤ 40) ∧ ∀ k, k < s.size → goodB s k = true

/-- It returns a bool that says whether P. -/
def SaysIf (P : Prop) (w : World) (e : Ending) (w' : World) : Prop := ∃ q, e = .returned (.bool q) ∧ (q = true ↔ P) ∧ w = w'
theorem says_no {P : Prop} {w : World} (h : ¬ P) : SaysIf P w (.returned (.bool false)) w := ⟨false, rfl, by simp [h], rfl⟩
theorem says_yes {P : Prop} {w : World} (h : P) : SaysIf P w (.returned (.bool true)) w := ⟨true, rfl, by simp [h], rfl⟩

theorem good_next {s : ByteArray} {k : Nat} (h : Hid (∀ j, j < k → goodB s j = true)) (hk : Hid (goodB s k = true)) : Hid (∀ j, j < k + 1 → goodB s j = true) :=
  Lib.hid fun j hj => by
    by_cases e : j = k
    · rw [e]; exact hk.out
    · exact h.out j (by omega)

set_option maxHeartbeats 400000 in
theorem isName_any (s : ByteArray) (w : World) (hs : s.size ≤ 9223372036854775807) : Calls Try.prog 11 #[.string s] w (SaysIf (NameP s) w) := by
  by_cases h1 : 1 ≤ s.size
  · by_cases h2 : s.size ≤ 40
    · have d1 : decide ((s.size : Int) < 1) = false := by simp; omega
      have d2 : decide ((40 : Int) < (s.size : Int)) = false := by simp; omega
      have hlt0 : 0 < s.size := by omega
      have E0 := Lib.hid (byteAt_get s 0 hlt0)
      by_cases hb : smB (s[0].toNat : Int) = true
      · have HB := Lib.hid (show smB (byteAt s 0) = true by rw [← E0.out]; exact hb)
        have H1 := Lib.hid h1
        have H2 := Lib.hid h2
        clear h1 h2
        go_enter Try.func11, Try.ntmps11
        go_wp2_with (first | (go_at_call 14; refine (isSmall_any _ _).mono ?_; rintro e w' ⟨rfl, rfl⟩) | (go_at_call 15; refine (isDigit_any _ _).mono ?_; rintro e w' ⟨rfl, rfl⟩))
        clear hb
        go_loop [21] (fun i => ∃ k : Nat, k ≤ s.size ∧ i = .int .i64 k ∧ Hid (∀ j, j < k → goodB s j = true)) (fun i => s.size - (intOf i).toNat)
        case atStart => exact ⟨0, Nat.zero_le _, rfl, fun j hj => by omega⟩
        case round =>
          obtain ⟨k, hk, rfl, hG⟩ := hrel
          by_cases hlt : k < s.size
          · have E := Lib.hid (byteAt_get s k hlt)
            by_cases a1 : smB (s[k].toNat : Int) = true
            · have hg := Lib.hid (show goodB s k = true by unfold goodB; rw [← E.out, a1]; rfl)
              go_wp2_with (first | (go_at_call 14; refine (isSmall_any _ _).mono ?_; rintro e w' ⟨rfl, rfl⟩) | (go_at_call 15; refine (isDigit_any _ _).mono ?_; rintro e w' ⟨rfl, rfl⟩))
              go_round
              case rel => exact ⟨k + 1, by omega, by go_num, good_next hG hg⟩
              case measure => simp [intOf]; omega
            · have a1' : smB (s[k].toNat : Int) = false := by simpa using a1
              have K0 := Lib.hid (show k ≠ 0 from fun e => a1 (by subst e; rw [E.out]; exact HB.out))
              clear a1
              by_cases a2 : dgB (s[k].toNat : Int) = true
              · have hg := Lib.hid (show goodB s k = true by unfold goodB; rw [← E.out, a1', a2]; simp [K0.out])
                go_wp2_with (first | (go_at_call 14; refine (isSmall_any _ _).mono ?_; rintro e w' ⟨rfl, rfl⟩) | (go_at_call 15; refine (isDigit_any _ _).mono ?_; rintro e w' ⟨rfl, rfl⟩))
                go_round
                case rel => exact ⟨k + 1, by omega, by go_num, good_next hG hg⟩
                case measure => simp [intOf]; omega
              · have a2' : dgB (s[k].toNat : Int) = false := by simpa using a2
                clear a2
                by_cases a3 : (s[k].toNat : Int) = 45
                · have a3' : ((s[k].toNat : Int) != 45) = false := by simpa using a3
                  have hg := Lib.hid (show goodB s k = true by unfold goodB; rw [← E.out, a1', a2']; simp [K0.out]; omega)
                  clear a3
                  go_wp2_with (first | (go_at_call 14; refine (isSmall_any _ _).mono ?_; rintro e w' ⟨rfl, rfl⟩) | (go_at_call 15; refine (isDigit_any _ _).mono ?_; rintro e w' ⟨rfl, rfl⟩))
                  go_round
                  case rel => exact ⟨k + 1, by omega, by go_num, good_next hG hg⟩
                  case measure => simp [intOf]; omega
                · have a3' : ((s[k].toNat : Int) != 45) = true := by simpa using a3
                  have hg := Lib.hid (show goodB s k = false by unfold goodB; rw [← E.out, a1', a2']; simp; omega)
                  clear a3
                  go_wp2_with (first | (go_at_call 14; refine (isSmall_any _ _).mono ?_; rintro e w' ⟨rfl, rfl⟩) | (go_at_call 15; refine (isDigit_any _ _).mono ?_; rintro e w' ⟨rfl, rfl⟩))
                  go_ret
                  exact says_no (fun hP => by have := hP.2 k hlt; rw [hg.out] at this; cases this)
          · go_wp2_with (first | (go_at_call 14; refine (isSmall_any _ _).mono ?_; rintro e w' ⟨rfl, rfl⟩) | (go_at_call 15; refine (isDigit_any _ _).mono ?_; rintro e w' ⟨rfl, rfl⟩))
            go_ret
            exact says_yes ⟨⟨H1.out, H2.out⟩, fun j hj => hG.out j (by omega)⟩
      · have hb' : smB (s[0].toNat : Int) = false := by simpa using hb
        have HB := Lib.hid (show goodB s 0 = false by unfold goodB; rw [← E0.out, hb']; rfl)
        clear hb
        go_enter Try.func11, Try.ntmps11
        go_wp2_with (first | (go_at_call 14; refine (isSmall_any _ _).mono ?_; rintro e w' ⟨rfl, rfl⟩) | (go_at_call 15; refine (isDigit_any _ _).mono ?_; rintro e w' ⟨rfl, rfl⟩))
        go_ret
        exact says_no (fun hP => by have := hP.2 0 hlt0; rw [HB.out] at this; cases this)
    · go_enter Try.func11, Try.ntmps11
      go_wp2_with (first | (go_at_call 14; refine (isSmall_any _ _).mono ?_; rintro e w' ⟨rfl, rfl⟩) | (go_at_call 15; refine (isDigit_any _ _).mono ?_; rintro e w' ⟨rfl, rfl⟩))
      go_ret
      exact says_no (fun hP => by have := hP.1; omega)
  · go_enter Try.func11, Try.ntmps11
    go_wp2_with (first | (go_at_call 14; refine (isSmall_any _ _).mono ?_; rintro e w' ⟨rfl, rfl⟩) | (go_at_call 15; refine (isDigit_any _ _).mono ?_; rintro e w' ⟨rfl, rfl⟩))
    go_ret
    exact says_no (fun hP => by have := hP.1; omega)

end Go.Proofs.Ytbfnplagidhaeaa
namespace Go.Proofs.Ytbfnplagidhaeaa
open Go.RowKit
set_option linter.unusedSimpArgs false
set_option linter.unusedVariables false

theorem landed_any (w : World) : Calls Try.prog 4 #[] w fun e w' => e = .returned (.bool true) ∧ w = w' := by
  go_enter Try.func4, Try.ntmps4
  go_wp2_with fail
  refine (isName_any _ _ (by decide)).mono ?_
  rintro e w1 ⟨b, rfl, hb, rfl⟩
  have hn : NameP ⟨#[97]⟩ := ⟨⟨by decide, by decide⟩, fun k hk => by
    obtain rfl : k = 0 := by have : (ByteArray.mk #[97]).size = 1 := rfl; omega
    decide⟩
  obtain rfl : b = true := hb.2 hn
  go_wp2_with fail
  go_ret
  exact ⟨rfl, rfl⟩

end Go.Proofs.Ytbfnplagidhaeaa
namespace Go.Proofs.Ytbfnplagidhaeaa
open Go.RowKit
set_option linter.unusedSimpArgs false
set_option linter.unusedVariables false

set_option maxHeartbeats 2000000 in
set_option maxRecDepth 100000 in
theorem runs_walk (s : Option Addr) (n c : Nat) (z : Nat → Bool) (t : Option Addr) (m d : Nat) (L : Nat → Int) (x : Int) (w : World) (hs : IsBools w s n c z) (hnc : n ≤ c) (ht : IsNums w t m d L) (hmx : m ≤ 9223372036854775807) :
    Calls Try.prog 3 #[.slice s n c, .slice t m d, .int .i64 x] w fun e w' => e = .returned (.bool true) ∧ Below w.heap.size w w' := by
  have HT := Lib.hid ht
  have HS := Lib.hid hs
  clear ht hs
  by_cases h : 4000 < n
  · have i1 : (4000 : Int) < (n : Int) := by omega
    have K := Lib.hid (runs_long s n c w h)
    go_enter Try.func3, Try.ntmps3
    go_wp2_with (first | (go_at_call 4; refine (landed_any _).mono ?_; rintro e w' ⟨rfl, rfl⟩) | (go_at_call 5; refine K.out.mono ?_; rintro e w1 ⟨rfl, HB1⟩))
    have B1 := Lib.hid HB1
    have HN1 := Lib.hid (HT.out.later B1.out)
    have F1 := Lib.hid (from_any t m d x L w1 hmx HN1.out)
    clear HB1
    go_wp2_with (go_at_call 6; refine F1.out.mono ?_; rintro e wf ⟨vf, rfl, hof, hbf⟩)
    have OF := Lib.hid hof
    have BF := Lib.hid (below_step B1.out hbf)
    have G := Lib.hid (fromR_any t m d x L wf hmx (HT.out.later BF.out))
    clear hof hbf
    go_wp2_with (go_at_call 10; refine G.out.mono ?_; rintro e wg ⟨vg, rfl, hog, hbg⟩)
    have E2 := Lib.hid (eqB_owned (show (frOut L m x).length ≤ 100000000 by have := frOut_le L m x; omega) (below_owns OF.out hbg) hog)
    have BG := Lib.hid (below_step BF.out hbg)
    clear hog hbg OF
    go_wp2_with (go_at_call 9; refine E2.out.mono ?_; rintro e wh ⟨rfl, q, rfl⟩)
    go_ret
    exact ⟨rfl, below_drewN BG.out q⟩
  · have i1 : ¬ ((4000 : Int) < (n : Int)) := by omega
    have hn : n ≤ 4000 := by omega
    have K := Lib.hid (runs_ok s n c z w hn hnc HS.out)
    go_enter Try.func3, Try.ntmps3
    go_wp2_with (first | (go_at_call 4; refine (landed_any _).mono ?_; rintro e w' ⟨rfl, rfl⟩) | (go_at_call 5; refine K.out.mono ?_; rintro e w1 ⟨v1, rfl, ho1, HB1⟩))
    obtain ⟨a1, c1, rfl, hn1⟩ := nums_owned ho1
    have B1 := Lib.hid HB1
    have O1 := Lib.hid ho1
    have K2 := Lib.hid (from_any a1 (runsL z n).length c1 (n : Int) (intOfs (runsL z n)) w1 (by have := runsL_long z n; omega) hn1)
    rw [(runs_from z n hn).1, (runs_from z n hn).2] at K2
    have HLen := Lib.hid (runsL_long z n)
    have K3 := Lib.hid (show ∀ wx, Below w1.heap.size w1 wx → Calls Try.prog 8 #[.slice s n c] wx fun e w' => ∃ v, e = .returned v ∧ w'.ownsRow wx.heap.size 3 1 v (runsL z n).length (natsV (runsL z n)) ∧ Below wx.heap.size wx w' from
      fun wx hx => runsR_ok s n c z wx hn (isBools_later HS.out (below_step B1.out hx)))
    clear ho1 HB1 hn1 K
    obtain ⟨rl, hrl⟩ : ∃ rl, rl = runsL z n := ⟨_, rfl⟩
    rw [← hrl] at O1 K2 K3 HLen
    rw [← hrl]
    clear hrl
    go_wp2_with (go_at_call 6; refine K2.out.mono ?_; rintro e w2 ⟨v2, rfl, ho2, hb2⟩)
    have O2 := Lib.hid ho2
    have B2 := Lib.hid hb2
    clear ho2 hb2
    go_wp2_with (go_at_call 8; refine (K3.out w2 B2.out).mono ?_; rintro e w3 ⟨v3, rfl, ho3, hb3⟩)
    have hb13 := below_step B2.out hb3
    have E1 := Lib.hid (eqInt_owned (show rl.length ≤ 100000000 by have := HLen.out; omega) (below_owns O1.out hb13) ho3)
    have B3 := Lib.hid (below_step B1.out hb13)
    have O3 := Lib.hid (below_owns O2.out hb3)
    clear ho3 hb3 hb13 O2
    go_wp2_with (go_at_call 7; refine E1.out.mono ?_; rintro e w4 ⟨rfl, q4, rfl⟩)
    have B4 := Lib.hid (below_drewN B3.out q4)
    have O4 := Lib.hid (below_owns O3.out (below_drewN (Below.refl _ _) q4))
    have E2 := Lib.hid (eqB_row hn O4.out (isBools_later HS.out B4.out))
    go_wp2_with (go_at_call 9; refine E2.out.mono ?_; rintro e w5 ⟨rfl, q5, rfl⟩)
    have HB5 : Below w.heap.size w (w3.drewN (q4 + q5)) := below_drewN B3.out _
    clear E2 O4 B4 O3 E1 B2 O1
    have B5 := Lib.hid HB5
    have HN5 := Lib.hid (HT.out.later B5.out)
    have F5 := Lib.hid (from_any t m d x L (w3.drewN (q4 + q5)) hmx HN5.out)
    clear HB5
    go_wp2_with (go_at_call 6; refine F5.out.mono ?_; rintro e wf ⟨vf, rfl, hof, hbf⟩)
    have OF := Lib.hid hof
    have BF := Lib.hid (below_step B5.out hbf)
    have G := Lib.hid (fromR_any t m d x L wf hmx (HT.out.later BF.out))
    clear hof hbf
    go_wp2_with (go_at_call 10; refine G.out.mono ?_; rintro e wg ⟨vg, rfl, hog, hbg⟩)
    have E6 := Lib.hid (eqB_owned (show (frOut L m x).length ≤ 100000000 by have := frOut_le L m x; omega) (below_owns OF.out hbg) hog)
    have BG := Lib.hid (below_step BF.out hbg)
    clear hog hbg OF
    go_wp2_with (go_at_call 9; refine E6.out.mono ?_; rintro e wh ⟨rfl, q, rfl⟩)
    go_ret
    exact ⟨rfl, below_drewN BG.out q⟩

end Go.Proofs.Ytbfnplagidhaeaa
namespace Go.Proofs.Ytbfnplagidhaeaa
open Go.ChangeShapes Go.WideShapes Go.ChangeAt Go.RowKit Go.Joins
open Go.ChangeMaps (open_string shut_string)
set_option linter.unusedVariables false

set_option maxRecDepth 100000 in
theorem open_boolsC {W : World} {H : Type} {enc : TypeId × Value → H} {base : Nat} {held : Bool} {r : Reach} {b0 : Nat} {v : Value} {d : DataW H} {p : List MemPlace}
    (hv : Value.okWide Try.prog W r b0 22 v) (h : DataW.Trod enc Try.prog W base (fun _ => true) held 22 v d p) :
    ∃ s n c B, v = .slice s n c ∧ IsBools W s n c B ∧ n ≤ c := by
  obtain ⟨a1, len, cap, rfl⟩ := okWide_slice Try.underlying22 hv
  obtain ⟨fuel, hf⟩ := h
  rcases Go.Deep.open_bools Try.underlying22 Try.underlying4 cellsBool hf with ⟨hcs, _⟩ | ⟨x, l, c, B, hcs, _, hl, hm, _, hcell⟩
  · simp [Value.cells] at hcs
    obtain ⟨rfl, rfl, rfl⟩ := hcs
    exact ⟨none, 0, 0, fun _ => false, rfl, .inl ⟨rfl, rfl, rfl⟩, by decide⟩
  · simp [Value.cells] at hcs
    obtain ⟨rfl, rfl, rfl⟩ := hcs
    exact ⟨some x, _, _, B, rfl, .inr ⟨x, rfl, fun i hi => hcell i (by omega)⟩, hl⟩

theorem cellsInt : Try.prog.cellsOf 3 = 1 := by kernel_rfl

set_option maxRecDepth 100000 in
theorem open_numsN {W : World} {H : Type} {enc : TypeId × Value → H} {base : Nat} {held : Bool} {r : Reach} {b0 : Nat} {v : Value} {d : DataW H} {p : List MemPlace}
    (hv : Value.okWide Try.prog W r b0 23 v) (h : DataW.Trod enc Try.prog W base (fun _ => true) held 23 v d p) :
    ∃ s n c L, v = .slice s n c ∧ IsNums W s n c L ∧ n ≤ 9223372036854775807 := by
  obtain ⟨a1, len, cap, rfl⟩ := okWide_slice Try.underlying23 hv
  obtain ⟨fuel, hf⟩ := h
  rcases open_ints Try.underlying23 Try.underlying3 cellsInt hf with ⟨hcs, _⟩ | ⟨x, l, c, zs, hcs, _, hl, hm, hz, _, hcell, _⟩
  · simp [Value.cells] at hcs
    obtain ⟨rfl, rfl, rfl⟩ := hcs
    exact ⟨none, 0, 0, fun _ => 0, rfl, .inl rfl, by decide⟩
  · simp [Value.cells] at hcs
    obtain ⟨rfl, rfl, rfl⟩ := hcs
    refine ⟨some x, _, _, fun i => zs.getD i 0, rfl, ?_, by unfold maxLen at hm; omega⟩
    by_cases h0 : len = 0
    · exact .inl h0
    · have hz' : zs.length = cap := by simpa using hz
      obtain ⟨g, o, spot⟩ := x
      have hspot : spot = none := by simpa [Addr.add] using World.cell?_spot (hcell 0 (by omega))
      subst hspot
      refine .inr ⟨g, o, rfl, ?_, fun i hi => by have := hcell i (by omega); rwa [Addr.add_lit] at this⟩
      have := World.block_lt_of_cell? _ _ (hcell 0 (by omega))
      simpa [Addr.add] using this

end Go.Proofs.Ytbfnplagidhaeaa
namespace Go.Proofs.Ytbfnplagidhaeaa
open Go.ChangeShapes Go.WideShapes Go.ChangeAt Go.RowKit Go.Joins
open Go.ChangeMaps (open_string shut_string)
set_option linter.unusedVariables false

set_option maxRecDepth 100000 in
theorem runs_lifted (os : Os) (started : os.Started) (H : Type) (enc : TypeId × Value → H) :
    ReturnsInHanded {} Try.checked os 3 .any (Rows.runsMatchSpec.pre6 enc Try.prog Try.f3 Rows.runsMatchRow.domain false) (Rows.runsMatchSpec.post enc Try.prog Try.f3 false true false false) := by
  refine returnsInHanded_of_change (C := Try.checked) own started (by kernel_rfl) Try.func3
    (ChangeSpec.witness6 (enc := enc) (C := Try.checked) false ⟨#[], #[.slice none 0 0, .slice none 0 0, .int .i64 0], []⟩ 8 (by kernel_rfl) (by kernel_rfl) (by kernel_rfl) (by kernel_rfl)) ?_
  intro W base args ds gs before hval0 hW hcnd _
  have hval : ∀ (j : Nat) t v, Try.f3.params[j]? = some t → args[j]? = some v → Value.okWide Try.prog W .any base t v := hval0
  have hW' := hW
  obtain ⟨p, q, hA0, hV, rfl, hfz, hnd⟩ := hW
  have hA : DataW.TrodAll enc Try.prog W 0 (fun _ => true) true Try.f3.params.toList args.toList ds p := hA0
  rw [Try.params3] at hA hval
  obtain ⟨v0, vs0, d0, ds0, p0, q0, hargs, rfl, rfl, h0, r0⟩ := trodAll_cons hA
  obtain ⟨v1, vs1, d1, ds1, p1, q1, rfl, rfl, rfl, h1, r1⟩ := trodAll_cons r0
  obtain ⟨v2, vs2, d2, ds2, p2, q2, rfl, rfl, rfl, h2, r2⟩ := trodAll_cons r1
  obtain ⟨rfl, rfl, rfl⟩ := trodAll_nil r2
  obtain rfl : args = #[v0, v1, v2] := by cases args; simp_all
  obtain ⟨rfl, rfl⟩ := trodVars_none hV
  have k0 := h0
  have lt0 : ∀ x ∈ p0, x.block < W.heap.size := by obtain ⟨m, hm⟩ := k0; exact DataW.trod_lt m _ _ _ hm
  have k1 := h1
  have lt1 : ∀ x ∈ p1, x.block < W.heap.size := by obtain ⟨m, hm⟩ := k1; exact DataW.trod_lt m _ _ _ hm
  obtain ⟨s0, n0, c0, z0, rfl, hs0, hn0⟩ := open_boolsC (hval 0 22 v0 rfl rfl) h0
  obtain ⟨s1, n1, c1, z1, rfl, hs1, hn1⟩ := open_numsN (hval 1 23 v1 rfl rfl) h1
  obtain ⟨m2, rfl, rfl, rfl, w2⟩ := open_int Try.underlying3 (hval 2 3 v2 rfl rfl) h2
  clear hA0 hval0
  refine (runs_walk s0 n0 c0 z0 s1 n1 c1 z1 m2 W hs0 hn0 hs1 hn1).mono fun e W' ⟨he, bel⟩ => ?_
  subst he
  exact ⟨_, rfl, _, _, _, [], _, [], hW', trodAll_mk1 (shut_bool Try.underlying4 _), (trodAll_cons_mk (Below.trod laidOut (by kernel_rfl) (of_decide_eq_true (by kernel_rfl)) k0 bel lt0) (trodAll_cons_mk (Below.trod laidOut (by kernel_rfl) (of_decide_eq_true (by kernel_rfl)) k1 bel lt1) (trodAll_cons_mk (shut_int Try.underlying3 w2) trodAll_mk0))), rfl, bel.frame _, fun h => by cases h⟩

theorem runs_over : Rows.runsMatchRow.holds Try.pinned (OpenSpec.ofChange Rows.runsMatchSpec) :=
  OpenClaim.holds_of_wide 3 Try.f3 rfl rfl rfl rfl rfl rfl rfl ⟨rfl, rfl, rfl, rfl, rfl⟩ rfl rfl rfl rfl rfl (by kernel_rfl) Try.func3 (by kernel_rfl)
    (of_decide_eq_true (by kernel_rfl)) (by unfold Func.isWrapper; first | (rw [if_pos (by decide +kernel)]; kernel_rfl) | (rw [if_neg (by decide +kernel)]; exact ⟨rfl, rfl⟩))
    (fun os started H enc _ => runs_lifted os started H enc)

theorem runs_holds : Rows.RunsMatchSaid := runs_over
end Go.Proofs.Ytbfnplagidhaeaa
