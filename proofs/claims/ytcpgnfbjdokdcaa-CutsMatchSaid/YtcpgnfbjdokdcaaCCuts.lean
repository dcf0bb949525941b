/-
  CutsMatch returns true for all arguments, and each argument reads afterwards as it read before. No conditions.
-/
import Derived.Test.YtcpgnfbjdokdcaaRows
import Derived.WalkKit
import Derived.WalkSpells
import Derived.WalkLawsBesides
import Derived.Lib.Hide
import Derived.Deep.RegionHeld3
import Derived.Shelf.Abstract
import Derived.Deep.AppendLies
import Derived.Deep.DrawnRows
import Derived.Deep.RegionLaw
import Derived.Deep.QuietTactic
import Derived.BigQuiet
import Derived.ProofKit
import Derived.OpenShut
import Derived.ShutString
import Derived.ChangeOld
import Derived.Lib.SmallJoins
import Derived.Deep.Grids
import Derived.Deep.DeepCutAuto
import Derived.Test.YtcpgnfbjdokdcaaCCuts2
namespace Go.Proofs.Ytcpgnfbjdokdcaa
open Go.RowKit
set_option linter.unusedSimpArgs false
set_option linter.unusedVariables false

/-- What a cut is, in memory: nothing with an error; else the places of the box. -/
def CutIsY (a b : Int) (n : Nat) (X Y bw bh : Int) (z : Nat → Int) (B : Nat) (w : World) (i j : Int) (sl : Option Addr) (n' c' : Nat) : Prop :=
  (cutErr a b n X Y bw bh ≠ 0 ∧ i = 0 ∧ j = 0 ∧ sl = none ∧ n' = 0 ∧ c' = 0) ∨
  (cutErr a b n X Y bw bh = 0 ∧ i = bw ∧ j = bh ∧ n' = bw.toNat * bh.toNat ∧ ∃ g, B ≤ g ∧ sl = some ⟨g, 0, none⟩ ∧ ∀ k, k < n' → w.cell? ⟨g, 0 + k, none⟩ = some (.int .u8 (z ((Y.toNat + k / bw.toNat) * a.toNat + X.toNat + k % bw.toNat))))

theorem CutIsY.later {a b : Int} {n : Nat} {X Y bw bh : Int} {z : Nat → Int} {B : Nat} {w w' : World} {i j : Int} {sl : Option Addr} {n' c' : Nat} (h : CutIsY a b n X Y bw bh z B w i j sl n' c') (hb : Below w.heap.size w w') : CutIsY a b n X Y bw bh z B w' i j sl n' c' := by
  rcases h with h | ⟨h1, h2, h3, h4, g, h5, h6, h7⟩
  · exact .inl h
  · exact .inr ⟨h1, h2, h3, h4, g, h5, h6, fun k hk => cell_later hb (h7 k hk)⟩
theorem CutIsY.far3 {a b : Int} {n : Nat} {X Y bw bh : Int} {z : Nat → Int} {B N : Nat} {w : World} {i j : Int} {sl : Option Addr} {n' c' : Nat} (h : CutIsY a b n X Y bw bh z B w i j sl n' c') (hN : N < B) (x y u : Value) : CutIsY a b n X Y bw bh z B (((w.setCell ⟨N, 0, none⟩ x).setCell ⟨N, 1, none⟩ y).setCell ⟨N, 2, none⟩ u) i j sl n' c' := by
  rcases h with h | ⟨h1, h2, h3, h4, g, h5, h6, h7⟩
  · exact .inl h
  · exact .inr ⟨h1, h2, h3, h4, g, h5, h6, fun k hk => cell_far3 (show g ≠ N by omega) (h7 k hk)⟩

theorem cutGray_any (a b X Y bw bh : Int) (s : Option Addr) (n c : Nat) (zs : List Int) (w : World) (hs : IsBytes w s n c zs) :
    Calls Try.prog 27 #[.agg #[.int .i64 a, .int .i64 b, .slice s n c], .agg #[.int .i64 X, .int .i64 Y, .int .i64 bw, .int .i64 bh]] w fun e w' =>
      ∃ i j sl n' c', e = .returned (.tuple #[.agg #[.int .i64 i, .int .i64 j, .slice sl n' c'], .int .i64 (cutErr a b n X Y bw bh)]) ∧ CutIsY a b n X Y bw bh (fun j => zs.getD j 0) w.heap.size w' i j sl n' c' ∧ Below w.heap.size w w' := by
  by_cases h : pageErr a b n = 0
  · obtain ⟨W, H, rfl, rfl, hn, w1, w2, h1, h2, hN, he⟩ := page_nat h
    by_cases hb : InP X Y bw bh W H
    · have hE : cutErr W H n X Y bw bh = 0 := by unfold cutErr; rw [if_pos h, if_pos hb]
      obtain ⟨x, y, p, q, rfl, rfl, rfl, rfl, e1, e2, e3, e4⟩ := box_nat hb
      obtain ⟨g, o, rfl, hc, _⟩ := isBytes_cells hs (by rw [hn]; exact Nat.mul_pos w1 h1)
      refine (cutGray_ok W H x y p q g o n c (fun j => zs.getD j 0) w he hn e1 e2 e3 e4 hc).mono ?_
      rintro e w' ⟨v, rfl, hown, hbel⟩
      obtain ⟨g', c', rfl, hg', hz⟩ := owns_pageY hown (Nat.mul_pos e3 e4)
      exact ⟨_, _, _, _, _, by rw [hE], .inr ⟨hE, rfl, rfl, by simp, g', hg', rfl, by simpa using hz⟩, hbel⟩
    · have hE : cutErr W H n X Y bw bh = 13 := by unfold cutErr; rw [if_pos h, if_neg hb]
      refine (cutGray_badBox W H X Y bw bh s n c w h he hb).mono ?_
      rintro e w' ⟨rfl, hbel⟩
      exact ⟨0, 0, none, 0, 0, by rw [hE], .inl ⟨by rw [hE]; decide, rfl, rfl, rfl, rfl, rfl⟩, hbel⟩
  · have hE : cutErr a b n X Y bw bh = pageErr a b n := by unfold cutErr; rw [if_neg h]
    refine (cutGray_badPage a b X Y bw bh s n c w h).mono ?_
    rintro e w' ⟨rfl, hbel⟩
    exact ⟨0, 0, none, 0, 0, by rw [hE], .inl ⟨by rw [hE]; exact h, rfl, rfl, rfl, rfl, rfl⟩, hbel⟩

/-- The page that is made for comparison has what was cut. -/
theorem made_cut (a b X Y bw bh i j : Int) (sl s : Option Addr) (n' c' n c pb xb B : Nat) (zs : List Int) (w : World) (hI : CutIsY a b n X Y bw bh (fun j => zs.getD j 0) B w i j sl n' c') (hE : cutErr a b n X Y bw bh = 0) (hs : IsBytes w s n c zs)
    (c0 : w.cell? ⟨pb, 0, none⟩ = some (.int .i64 a)) (c2 : w.cell? ⟨pb, 2, none⟩ = some (.slice s n c))
    (d0 : w.cell? ⟨xb, 0, none⟩ = some (.int .i64 X)) (d1 : w.cell? ⟨xb, 1, none⟩ = some (.int .i64 Y)) :
    i = bw ∧ j = bh ∧ n' ≤ 100000000 ∧ ∃ (g' : Nat) (zc : Nat → Int), sl = some ⟨g', 0, none⟩ ∧ (∀ k, k < n' → w.cell? ⟨g', 0 + k, none⟩ = some (.int .u8 (zc k))) ∧
    Calls Try.prog 30 #[.int .i64 bw, .int .i64 bh, .func (.func 31) #[] #[.pointer (some ⟨pb, 0, none⟩), .pointer (some ⟨xb, 0, none⟩)]] w fun e w' =>
      ∃ g2 c2, e = .returned (.agg #[.int .i64 bw, .int .i64 bh, .slice (some ⟨g2, 0, none⟩) n' c2]) ∧ (∀ k, k < n' → w'.cell? ⟨g2, 0 + k, none⟩ = some (.int .u8 (zc k))) ∧ Below w.heap.size w w' := by
  rcases hI with ⟨hE', _⟩ | ⟨_, rfl, rfl, hn', g', _, rfl, hz⟩
  · exact absurd hE hE'
  · have hp : pageErr a b n = 0 := by
      unfold cutErr at hE
      by_cases h : pageErr a b n = 0
      · exact h
      · rw [if_neg h] at hE; exact absurd hE h
    obtain ⟨W, H, rfl, rfl, hn, w1, w2, h1, h2, hN, he⟩ := page_nat hp
    have hb : InP X Y i j W H := by
      unfold cutErr at hE
      rw [if_pos hp] at hE
      by_cases hb : InP X Y i j W H
      · exact hb
      · rw [if_neg hb] at hE; simp at hE
    obtain ⟨x, y, p, q, rfl, rfl, rfl, rfl, e1, e2, e3, e4⟩ := box_nat hb
    obtain ⟨g, o, rfl, hc, _⟩ := isBytes_cells hs (by rw [hn]; exact Nat.mul_pos w1 h1)
    simp only [Int.toNat_natCast] at hn' hz
    have hpq := Nat.mul_le_mul (show p ≤ W by omega) (show q ≤ H by omega)
    rw [← hn] at hpq
    refine ⟨rfl, rfl, by omega, g', _, rfl, hz, ?_⟩
    refine (madeGray_any p q 31 _ (fun i j => zs.getD ((y + j) * W + x + i) 0) w e3 (by omega) (by omega) (by omega) (Go.Proofs.enters_of Try.func31 (by kernel_rfl) rfl) ?_).mono ?_
    · intro k l wx hk hl hbx
      have hlt := in_page_lt e1 e2 hk hl
      rw [← hn] at hlt
      refine (cuts2_any W H x y p q k l pb xb g o n c _ wx w2 h2 e1 e2 hk hl hn (cell_later hbx c0) (cell_later hbx c2) (cell_later hbx d0) (cell_later hbx d1) (cell_later hbx (hc _ hlt))).mono ?_
      rintro e wy ⟨rfl, rfl⟩
      exact ⟨rfl, Below.refl _ _⟩
    · rintro e w5 ⟨v, rfl, hown, hb5⟩
      obtain ⟨g2, c2, rfl, _, hz2⟩ := owns_pageY hown (Nat.mul_pos e3 e4)
      rw [hn']
      exact ⟨g2, c2, rfl, fun k hk => by rw [hz2 k hk], hb5⟩

end Go.Proofs.Ytcpgnfbjdokdcaa
namespace Go.Proofs.Ytcpgnfbjdokdcaa
open Go.RowKit
set_option linter.unusedSimpArgs false
set_option linter.unusedVariables false

def smB (c : Int) : Bool := decide (97 ≤ c ∧ c ≤ 122)
def dgB (c : Int) : Bool := decide (48 ≤ c ∧ c ≤ 57)

theorem isSmall_any (c : Int) (w : World) : Calls Try.prog 93 #[.int .u8 c] w fun e w' => e = .returned (.bool (smB c)) ∧ w = w' := by
  by_cases h1 : 97 ≤ c
  · by_cases h2 : c ≤ 122
    · have H := Lib.hid (show smB c = true from decide_eq_true ⟨h1, h2⟩)
      go_enter Try.func93, Try.ntmps93
      go_wp2
      go_ret
      exact ⟨ret_bool H.out.symm, rfl⟩
    · have H := Lib.hid (show smB c = false from decide_eq_false (fun k => h2 k.2))
      go_enter Try.func93, Try.ntmps93
      go_wp2
      go_ret
      exact ⟨ret_bool H.out.symm, rfl⟩
  · have H := Lib.hid (show smB c = false from decide_eq_false (fun k => h1 k.1))
    go_enter Try.func93, Try.ntmps93
    go_wp2
    go_ret
    exact ⟨ret_bool H.out.symm, rfl⟩

theorem isDigit_any (c : Int) (w : World) : Calls Try.prog 94 #[.int .u8 c] w fun e w' => e = .returned (.bool (dgB c)) ∧ w = w' := by
  by_cases h1 : 48 ≤ c
  · by_cases h2 : c ≤ 57
    · have H := Lib.hid (show dgB c = true from decide_eq_true ⟨h1, h2⟩)
      go_enter Try.func94, Try.ntmps94
      go_wp2
      go_ret
      exact ⟨ret_bool H.out.symm, rfl⟩
    · have H := Lib.hid (show dgB c = false from decide_eq_false (fun k => h2 k.2))
      go_enter Try.func94, Try.ntmps94
      go_wp2
      go_ret
      exact ⟨ret_bool H.out.symm, rfl⟩
  · have H := Lib.hid (show dgB c = false from decide_eq_false (fun k => h1 k.1))
    go_enter Try.func94, Try.ntmps94
    go_wp2
    go_ret
    exact ⟨ret_bool H.out.symm, rfl⟩

/-- The byte at a place, as a number. -/
def byteAt (s : ByteArray) (k : Nat) : Int := ((s.data.toList.getD k 0).toNat : Int)
theorem byteAt_get (s : ByteArray) (k : Nat) (h : k < s.size) : (s[k].toNat : Int) = byteAt s k := by
  unfold byteAt
  rw [List.getD_eq_getElem?_getD, List.getElem?_eq_getElem (by simpa using h)]
  rfl

def goodB (s : ByteArray) (k : Nat) : Bool := smB (byteAt s k) || (decide (k ≠ 0) && (dgB (byteAt s k) || decide (byteAt s k = 45)))
def NameP (s : ByteArray) : Prop := (1 ≤ s.size ∧ s.size ≤ 40) ∧ ∀ k, k < s.size → goodB s k = true

/-- It returns a bool that says whether P. -/
def SaysIf (P : Prop) (w : World) (e : Ending) (w' : World) : Prop := ∃ q, e = .returned (.bool q) ∧ (q = true ↔ P) ∧ w = w'
theorem says_no {P : Prop} {w : World} (h : ¬ P) : SaysIf P w (.returned (.bool false)) w := ⟨false, rfl, by simp [h], rfl⟩
theorem says_yes {P : Prop} {w : World} (h : P) : SaysIf P w (.returned (.bool true)) w := ⟨true, rfl, by simp [h], rfl⟩

theorem good_next {s : ByteArray} {k : Nat} (h : Hid (∀ j, j < k → goodB s j = true)) (hk : Hid (goodB s k = true)) : Hid (∀ j, j < k + 1 → goodB s j = true) :=
  Lib.hid fun j hj => by
    by_cases e : j = k
    · rw [e]; exact hk.out
    · exact h.out j (by omega)

set_option maxHeartbeats 400000 in
theorem isName_any (s : ByteArray) (w : World) (hs : s.size ≤ 9223372036854775807) : Calls Try.prog 15 #[.string s] w (SaysIf (NameP s) w) := by
  by_cases h1 : 1 ≤ s.size
  · by_cases h2 : s.size ≤ 40
    · have d1 : decide ((s.size : Int) < 1) = false := by simp; omega
      have d2 : decide ((40 : Int) < (s.size : Int)) = false := by simp; omega
      have hlt0 : 0 < s.size := by omega
      have E0 := Lib.hid (byteAt_get s 0 hlt0)
      by_cases hb : smB (s[0].toNat : Int) = true
      · have HB := Lib.hid (show smB (byteAt s 0) = true by rw [← E0.out]; exact hb)
        have H1 := Lib.hid h1
        have H2 := Lib.hid h2
        clear h1 h2
        go_enter Try.func15, Try.ntmps15
        go_wp2_with (first | (go_at_call 93; refine (isSmall_any _ _).mono ?_; rintro e w' ⟨rfl, rfl⟩) | (go_at_call 94; refine (isDigit_any _ _).mono ?_; rintro e w' ⟨rfl, rfl⟩))
        clear hb
        go_loop [21] (fun i => ∃ k : Nat, k ≤ s.size ∧ i = .int .i64 k ∧ Hid (∀ j, j < k → goodB s j = true)) (fun i => s.size - (intOf i).toNat)
        case atStart => exact ⟨0, Nat.zero_le _, rfl, fun j hj => by omega⟩
        case round =>
          obtain ⟨k, hk, rfl, hG⟩ := hrel
          by_cases hlt : k < s.size
          · have E := Lib.hid (byteAt_get s k hlt)
            by_cases a1 : smB (s[k].toNat : Int) = true
            · have hg := Lib.hid (show goodB s k = true by unfold goodB; rw [← E.out, a1]; rfl)
              go_wp2_with (first | (go_at_call 93; refine (isSmall_any _ _).mono ?_; rintro e w' ⟨rfl, rfl⟩) | (go_at_call 94; refine (isDigit_any _ _).mono ?_; rintro e w' ⟨rfl, rfl⟩))
              go_round
              case rel => exact ⟨k + 1, by omega, by go_num, good_next hG hg⟩
              case measure => simp [intOf]; omega
            · have a1' : smB (s[k].toNat : Int) = false := by simpa using a1
              have K0 := Lib.hid (show k ≠ 0 from fun e => a1 (by subst e; rw [E.out]; exact HB.out))
              clear a1
              by_cases a2 : dgB (s[k].toNat : Int) = true
              · have hg := Lib.hid (show goodB s k = true by unfold goodB; rw [← E.out, a1', a2]; simp [K0.out])
                go_wp2_with (first | (go_at_call 93; refine (isSmall_any _ _).mono ?_; rintro e w' ⟨rfl, rfl⟩) | (go_at_call 94; refine (isDigit_any _ _).mono ?_; rintro e w' ⟨rfl, rfl⟩))
                go_round
                case rel => exact ⟨k + 1, by omega, by go_num, good_next hG hg⟩
                case measure => simp [intOf]; omega
              · have a2' : dgB (s[k].toNat : Int) = false := by simpa using a2
                clear a2
                by_cases a3 : (s[k].toNat : Int) = 45
                · have a3' : ((s[k].toNat : Int) != 45) = false := by simpa using a3
                  have hg := Lib.hid (show goodB s k = true by unfold goodB; rw [← E.out, a1', a2']; simp [K0.out]; omega)
                  clear a3
                  go_wp2_with (first | (go_at_call 93; refine (isSmall_any _ _).mono ?_; rintro e w' ⟨rfl, rfl⟩) | (go_at_call 94; refine (isDigit_any _ _).mono ?_; rintro e w' ⟨rfl, rfl⟩))
                  go_round
                  case rel => exact ⟨k + 1, by omega, by go_num, good_next hG hg⟩
                  case measure => simp [intOf]; omega
                · have a3' : ((s[k].toNat : Int) != 45) = true := by simpa using a3
                  have hg := Lib.hid (show goodB s k = false by unfold goodB; rw [← E.out, a1', a2']; simp; omega)
                  clear a3
                  go_wp2_with (first | (go_at_call 93; refine (isSmall_any _ _).mono ?_; rintro e w' ⟨rfl, rfl⟩) | (go_at_call 94; refine (isDigit_any _ _).mono ?_; rintro e w' ⟨rfl, rfl⟩))
                  go_ret
                  exact says_no (fun hP => by have := hP.2 k hlt; rw [hg.out] at this; cases this)
          · go_wp2_with (first | (go_at_call 93; refine (isSmall_any _ _).mono ?_; rintro e w' ⟨rfl, rfl⟩) | (go_at_call 94; refine (isDigit_any _ _).mono ?_; rintro e w' ⟨rfl, rfl⟩))
            go_ret
            exact says_yes ⟨⟨H1.out, H2.out⟩, fun j hj => hG.out j (by omega)⟩
      · have hb' : smB (s[0].toNat : Int) = false := by simpa using hb
        have HB := Lib.hid (show goodB s 0 = false by unfold goodB; rw [← E0.out, hb']; rfl)
        clear hb
        go_enter Try.func15, Try.ntmps15
        go_wp2_with (first | (go_at_call 93; refine (isSmall_any _ _).mono ?_; rintro e w' ⟨rfl, rfl⟩) | (go_at_call 94; refine (isDigit_any _ _).mono ?_; rintro e w' ⟨rfl, rfl⟩))
        go_ret
        exact says_no (fun hP => by have := hP.2 0 hlt0; rw [HB.out] at this; cases this)
    · go_enter Try.func15, Try.ntmps15
      go_wp2_with (first | (go_at_call 93; refine (isSmall_any _ _).mono ?_; rintro e w' ⟨rfl, rfl⟩) | (go_at_call 94; refine (isDigit_any _ _).mono ?_; rintro e w' ⟨rfl, rfl⟩))
      go_ret
      exact says_no (fun hP => by have := hP.1; omega)
  · go_enter Try.func15, Try.ntmps15
    go_wp2_with (first | (go_at_call 93; refine (isSmall_any _ _).mono ?_; rintro e w' ⟨rfl, rfl⟩) | (go_at_call 94; refine (isDigit_any _ _).mono ?_; rintro e w' ⟨rfl, rfl⟩))
    go_ret
    exact says_no (fun hP => by have := hP.1; omega)

end Go.Proofs.Ytcpgnfbjdokdcaa
namespace Go.Proofs.Ytcpgnfbjdokdcaa
open Go.RowKit
set_option linter.unusedSimpArgs false
set_option linter.unusedVariables false

set_option maxHeartbeats 800000 in
theorem nameOf_any (s : ByteArray) (w : World) (hs : s.size ≤ 9223372036854775807) : Calls Try.prog 16 #[.string s] w (SaysIf (NameP s) w) := by
  go_enter Try.func16, Try.ntmps16
  go_wp2_with fail
  go_loop [7] (fun i => ∃ k : Nat, k ≤ s.size ∧ i = .int .i64 k ∧ Hid (∀ j, j < k → goodB s j = true)) (fun i => s.size - (intOf i).toNat)
  case atStart => exact ⟨0, Nat.zero_le _, rfl, fun j hj => by omega⟩
  case round =>
    obtain ⟨k, hk, rfl, hG⟩ := hrel
    by_cases hlt : k < s.size
    · have E := Lib.hid (byteAt_get s k hlt)
      by_cases a1 : 97 ≤ (s[k].toNat : Int)
      · by_cases a2 : (s[k].toNat : Int) ≤ 122
        · have hg := Lib.hid (show goodB s k = true by unfold goodB smB; rw [← E.out]; simp; omega)
          go_wp2_with fail
          go_round
          case rel => exact ⟨k + 1, by omega, by go_num, good_next hG hg⟩
          case measure => simp [intOf]; omega
        · have a2' : 122 < (s[k].toNat : Int) := by omega
          have hg := Lib.hid (show goodB s k = false by unfold goodB smB dgB; rw [← E.out]; simp; omega)
          have a3 : ((s[k].toNat : Int) != 45) = true := by simp; omega
          have a4 : decide ((s[k].toNat : Int) ≤ 122) = false := by simp; omega
          have a5 : decide ((s[k].toNat : Int) ≤ 57) = false := by simp; omega
          clear a2
          by_cases k0 : k = 0
          · subst k0
            go_wp2_with fail
            go_ret
            exact says_no (fun hP => by have := hP.2 0 hlt; rw [hg.out] at this; cases this)
          · go_wp2_with fail
            go_ret
            exact says_no (fun hP => by have := hP.2 k hlt; rw [hg.out] at this; cases this)
      · have a1' : (s[k].toNat : Int) < 97 := by omega
        clear a1
        by_cases k0 : k = 0
        · subst k0
          have hg := Lib.hid (show goodB s 0 = false by unfold goodB smB dgB; rw [← E.out]; simp; omega)
          go_wp2_with fail
          go_ret
          exact says_no (fun hP => by have := hP.2 0 hlt; rw [hg.out] at this; cases this)
        · by_cases d1 : 48 ≤ (s[k].toNat : Int)
          · by_cases d2 : (s[k].toNat : Int) ≤ 57
            · have hg := Lib.hid (show goodB s k = true by unfold goodB smB dgB; rw [← E.out]; simp [k0]; omega)
              go_wp2_with fail
              go_round
              case rel => exact ⟨k + 1, by omega, by go_num, good_next hG hg⟩
              case measure => simp [intOf]; omega
            · have d2' : 57 < (s[k].toNat : Int) := by omega
              have a3 : ((s[k].toNat : Int) != 45) = true := by simp; omega
              have a4 : decide ((s[k].toNat : Int) ≤ 57) = false := by simp; omega
              have hg := Lib.hid (show goodB s k = false by unfold goodB smB dgB; rw [← E.out]; simp; omega)
              clear d2
              go_wp2_with fail
              go_ret
              exact says_no (fun hP => by have := hP.2 k hlt; rw [hg.out] at this; cases this)
          · have d1' : (s[k].toNat : Int) < 48 := by omega
            clear d1
            by_cases a3 : (s[k].toNat : Int) = 45
            · have a3' : ((s[k].toNat : Int) != 45) = false := by simpa using a3
              have hg := Lib.hid (show goodB s k = true by unfold goodB smB dgB; rw [← E.out]; simp [k0]; omega)
              clear a3
              go_wp2_with fail
              go_round
              case rel => exact ⟨k + 1, by omega, by go_num, good_next hG hg⟩
              case measure => simp [intOf]; omega
            · have a3' : ((s[k].toNat : Int) != 45) = true := by simpa using a3
              have hg := Lib.hid (show goodB s k = false by unfold goodB smB dgB; rw [← E.out]; simp; omega)
              clear a3
              go_wp2_with fail
              go_ret
              exact says_no (fun hP => by have := hP.2 k hlt; rw [hg.out] at this; cases this)
    · by_cases h0 : s.size = 0
      · have ht : s.toList = [] := by
          rw [ByteArray.toList_eq]
          exact List.eq_nil_of_length_eq_zero (by rw [Array.length_toList]; exact h0)
        go_wp2_with fail
        go_ret
        exact says_no (fun hP => by have := hP.1; omega)
      · have ht : s.toList.isEmpty = false := by
          rw [ByteArray.toList_eq, List.isEmpty_eq_false_iff]
          intro e
          have e2 := congrArg List.length e
          rw [Array.length_toList] at e2
          exact h0 e2
        by_cases h40 : s.size ≤ 40
        · have d4 : decide ((s.size : Int) ≤ 40) = true := by simp; omega
          have H4 := Lib.hid h40
          clear h40
          go_wp2_with fail
          go_ret
          exact says_yes ⟨⟨by omega, H4.out⟩, fun j hj => hG.out j (by omega)⟩
        · have d4 : decide ((s.size : Int) ≤ 40) = false := by simp; omega
          have H4 := Lib.hid h40
          clear h40
          go_wp2_with fail
          go_ret
          exact says_no (fun hP => H4.out hP.1.2)

end Go.Proofs.Ytcpgnfbjdokdcaa
namespace Go.Proofs.Ytcpgnfbjdokdcaa
open Go.RowKit
set_option linter.unusedSimpArgs false
set_option linter.unusedVariables false

/-- The three arguments that lie in boxes. -/
def Boxes (B : Nat) (a1 b1 : Int) (s1 : Option Addr) (n1 c1 : Nat) (a2 b2 : Int) (s2 : Option Addr) (n2 c2 : Nat) (X Y bw bh : Int) (w : World) : Prop :=
  w.cell? ⟨B, 0, none⟩ = some (.int .i64 a1) ∧ w.cell? ⟨B, 1, none⟩ = some (.int .i64 b1) ∧ w.cell? ⟨B, 2, none⟩ = some (.slice s1 n1 c1) ∧
  w.cell? ⟨B + 1, 0, none⟩ = some (.int .i64 a2) ∧ w.cell? ⟨B + 1, 1, none⟩ = some (.int .i64 b2) ∧ w.cell? ⟨B + 1, 2, none⟩ = some (.slice s2 n2 c2) ∧
  w.cell? ⟨B + 2, 0, none⟩ = some (.int .i64 X) ∧ w.cell? ⟨B + 2, 1, none⟩ = some (.int .i64 Y) ∧ w.cell? ⟨B + 2, 2, none⟩ = some (.int .i64 bw) ∧ w.cell? ⟨B + 2, 3, none⟩ = some (.int .i64 bh)

theorem Boxes.later {B : Nat} {a1 b1 : Int} {s1 : Option Addr} {n1 c1 : Nat} {a2 b2 : Int} {s2 : Option Addr} {n2 c2 : Nat} {X Y bw bh : Int} {w w' : World} (h : Boxes B a1 b1 s1 n1 c1 a2 b2 s2 n2 c2 X Y bw bh w) (hb : Below w.heap.size w w') :
    Boxes B a1 b1 s1 n1 c1 a2 b2 s2 n2 c2 X Y bw bh w' := by
  obtain ⟨k0, k1, k2, k3, k4, k5, k6, k7, k8, k9⟩ := h
  exact ⟨cell_later hb k0, cell_later hb k1, cell_later hb k2, cell_later hb k3, cell_later hb k4, cell_later hb k5, cell_later hb k6, cell_later hb k7, cell_later hb k8, cell_later hb k9⟩

theorem Boxes.far3 {B : Nat} {a1 b1 : Int} {s1 : Option Addr} {n1 c1 : Nat} {a2 b2 : Int} {s2 : Option Addr} {n2 c2 : Nat} {X Y bw bh : Int} {w : World} (h : Boxes B a1 b1 s1 n1 c1 a2 b2 s2 n2 c2 X Y bw bh w) {N : Nat} (hN : B + 2 < N) (x y z : Value) :
    Boxes B a1 b1 s1 n1 c1 a2 b2 s2 n2 c2 X Y bw bh (((w.setCell ⟨N, 0, none⟩ x).setCell ⟨N, 1, none⟩ y).setCell ⟨N, 2, none⟩ z) := by
  obtain ⟨k0, k1, k2, k3, k4, k5, k6, k7, k8, k9⟩ := h
  have e0 : B ≠ N := by omega
  have e1 : B + 1 ≠ N := by omega
  have e2 : B + 2 ≠ N := by omega
  exact ⟨cell_far3 e0 k0, cell_far3 e0 k1, cell_far3 e0 k2, cell_far3 e1 k3, cell_far3 e1 k4, cell_far3 e1 k5, cell_far3 e2 k6, cell_far3 e2 k7, cell_far3 e2 k8, cell_far3 e2 k9⟩

set_option maxHeartbeats 4000000 in
set_option maxRecDepth 100000 in
theorem cuts_walk (a1 b1 : Int) (s1 : Option Addr) (n1 c1 : Nat) (z : Nat → Bool) (a2 b2 : Int) (s2 : Option Addr) (n2 c2 : Nat) (zs : List Int) (X Y bw bh m k : Int) (nm : ByteArray) (w : World)
    (hs1 : IsBools w s1 n1 c1 z) (hs2 : IsBytes w s2 n2 c2 zs) (hnm : nm.size ≤ 9223372036854775807) :
    Calls Try.prog 3 #[.agg #[.int .i64 a1, .int .i64 b1, .slice s1 n1 c1], .agg #[.int .i64 a2, .int .i64 b2, .slice s2 n2 c2], .agg #[.int .i64 X, .int .i64 Y, .int .i64 bw, .int .i64 bh], .int .i64 m, .int .i64 k, .string nm] w fun e w' => e = .returned (.bool true) ∧ Below w.heap.size w w' := by
  have HS1 := Lib.hid hs1
  have HS2 := Lib.hid hs2
  clear hs1 hs2
  go_enter Try.func3, Try.ntmps3
  go_wp2_with fail
  obtain ⟨w0, hw0⟩ : ∃ w0, w0 = ((w.alloc (.cells #[.int .i64 a1, .int .i64 b1, .slice s1 n1 c1] 24)).alloc (.cells #[.int .i64 a2, .int .i64 b2, .slice s2 n2 c2] 27)).alloc (.cells #[.int .i64 X, .int .i64 Y, .int .i64 bw, .int .i64 bh] 29) := ⟨_, rfl⟩
  have B0 : Below w.heap.size w w0 := by rw [hw0]; exact below_alloc (below_alloc (new_below _ _) _) _
  have T0 : Boxes w.heap.size a1 b1 s1 n1 c1 a2 b2 s2 n2 c2 X Y bw bh w0 := by
    rw [hw0]
    refine ⟨?_, ?_, ?_, ?_, ?_, ?_, ?_, ?_, ?_, ?_⟩ <;> go_simp
  rw [← hw0]
  clear hw0
  obtain ⟨k0, k1, k2, k3, k4, k5, k6, k7, k8, k9⟩ := T0
  have HT0 := Lib.hid (show Boxes w.heap.size a1 b1 s1 n1 c1 a2 b2 s2 n2 c2 X Y bw bh w0 from ⟨k0, k1, k2, k3, k4, k5, k6, k7, k8, k9⟩)
  go_region_held3 (fun w' => w'.cell? ⟨w.heap.size, 0, none⟩ = some (.int .i64 a1) ∧ w'.cell? ⟨w.heap.size, 1, none⟩ = some (.int .i64 b1) ∧ w'.cell? ⟨w.heap.size, 2, none⟩ = some (.slice s1 n1 c1) ∧
      w'.cell? ⟨w.heap.size + 1, 0, none⟩ = some (.int .i64 a2) ∧ w'.cell? ⟨w.heap.size + 1, 1, none⟩ = some (.int .i64 b2) ∧ w'.cell? ⟨w.heap.size + 1, 2, none⟩ = some (.slice s2 n2 c2))
    (first | (go_keep; done) | (go_split_ands; exact ⟨cell_later hba (by assumption), cell_later hba (by assumption), cell_later hba (by assumption), cell_later hba (by assumption), cell_later hba (by assumption), cell_later hba (by assumption)⟩) | (go_split_ands; exact ⟨cell_later hbb (by assumption), cell_later hbb (by assumption), cell_later hbb (by assumption), cell_later hbb (by assumption), cell_later hbb (by assumption), cell_later hbb (by assumption)⟩))
    ((first | (go_at_call 9; refine (bitsError_any _ _ _ _ _ _).mono ?_; rintro e wa ⟨rfl, hba⟩) | (go_at_call 10; refine (grayError_any _ _ _ _ _ _).mono ?_; rintro e wb ⟨rfl, hbb⟩)))
  have Bb := below_step (below_step (Below.refl w0.heap.size w0).drew hba) hbb
  have HTb := Lib.hid (HT0.out.later Bb)
  have BB := Lib.hid (below_step B0 Bb)
  clear k0 k1 k2 k3 k4 k5 k6 k7 k8 k9 hba hbb B0 HT0 Bb
  go_wp2_with fail
  refine (blank_any m k wb).mono ?_
  rintro e wN ⟨bi, bj, bs, bn, bc, rfl, hbc, hz1, hz2⟩
  have hB2 := Lib.hid (show w.heap.size + 2 < wN.heap.size from World.block_lt_of_cell? _ _ (cell_later hbc HTb.out.2.2.2.2.2.2.1))
  have HZ1 := Lib.hid hz1
  have HZ2 := Lib.hid hz2
  have HTc := Lib.hid (HTb.out.later (below_step hbc (new_below wN (.cells #[.int .i64 bi, .int .i64 bj, .slice bs bn bc] 24))))
  have BC := Lib.hid (below_alloc (below_step BB.out hbc) (.cells #[.int .i64 bi, .int .i64 bj, .slice bs bn bc] 24))
  clear hbc hz1 hz2 HTb BB
  go_wp2_with fail
  refine (pages_any _).mono ?_
  rintro e wd ⟨rfl, hbd⟩
  obtain ⟨k0, k1, k2, k3, k4, k5, k6, k7, k8, k9⟩ := HTc.out.later hbd
  have HTd := Lib.hid (HTc.out.later hbd)
  have l0 := World.block_lt_of_cell? _ _ k0
  have l1 := World.block_lt_of_cell? _ _ k3
  have l2 := World.block_lt_of_cell? _ _ k6
  have hN := below_block hbd (heap_alloc_new wN (.cells #[.int .i64 bi, .int .i64 bj, .slice bs bn bc] 24))
  have lN := (Array.getElem?_eq_some_iff.1 hN).1
  obtain ⟨p0, p1, p2, pr0, pr1, pr2⟩ := block3 hN
  have HN := Lib.hid hN
  have BD := Lib.hid (below_step BC.out hbd)
  have HBD := Lib.hid hbd
  simp only at l0 l1 l2
  clear hbd HTc BC hN
  go_wp2_with (first | (go_at_call 13; refine (checkBits_any _ _ _ _ _ _).mono ?_; rintro e w' ⟨rfl, rfl⟩) | (go_at_call 14; refine (checkGray_any _ _ _ _ _ _).mono ?_; rintro e w' ⟨rfl, rfl⟩) | (go_at_call 15; refine (isName_any nm _ hnm).mono ?_; rintro e wq ⟨q1, rfl, hq1, rfl⟩; have HQ1 := Lib.hid hq1; clear hq1) | (go_at_call 16; refine (nameOf_any nm _ hnm).mono ?_; rintro e wq ⟨q2, rfl, hq2, rfl⟩; have hq12 : q2 = q1 := by { cases q1 <;> cases q2 <;> simp_all [Hid] }; subst hq12; clear hq2))
  refine (sizeError_any m k _).mono ?_
  rintro e we ⟨rfl, hbe⟩
  have Be := Lib.hid (below_step (below_alloc (new_below wd _) _) hbe)
  have HTe := Lib.hid (HTd.out.later Be.out)
  have HNe := Lib.hid (below_block Be.out HN.out)
  have BE := Lib.hid (below_step BD.out Be.out)
  have LN := Lib.hid lN
  clear k0 k1 k2 k3 k4 k5 k6 k7 k8 k9 l0 l1 l2 lN p0 p1 p2 pr0 pr1 pr2 hbe HTd BD HN
  obtain ⟨p0, p1, p2, pr0, pr1, pr2⟩ := block3 HNe.out
  obtain ⟨k0, k1, k2, k3, k4, k5, k6, k7, k8, k9⟩ := HTe.out
  have l0 := World.block_lt_of_cell? _ _ k0
  have l1 := World.block_lt_of_cell? _ _ k3
  have l2 := World.block_lt_of_cell? _ _ k6
  have lN := World.block_lt_of_cell? _ _ p0
  simp only at l0 l1 l2 lN
  go_upto_region 6 with fail
  go_cut [16, 17, 99] from 20 (fun _ _ t wx => t = .bool false ∧ Hid (Boxes w.heap.size a1 b1 s1 n1 c1 a2 b2 s2 n2 c2 X Y bw bh wx ∧ wx.heap[wN.heap.size]? = some (.cells #[.int .i64 bi, .int .i64 bj, .slice bs bn bc] 24 (0, 0)) ∧ Below w.heap.size w wx))
  case first =>
    by_cases hs0 : sizeErr m k = 0
    · obtain ⟨y1, y2, y3, gg, y4, y5⟩ := HZ2.out hs0
      obtain ⟨_, y6, y7⟩ := sizeErr_zero hs0
      have Y5 := Lib.hid (fun j hj => cell_later (below_step (below_step (new_below wN (.cells #[.int .i64 bi, .int .i64 bj, .slice bs bn bc] 24)) HBD.out) Be.out) (y5 j hj))
      have hbn : bn ≤ 100000000 := by omega
      clear y5
      go_wp2_with (first | (go_at_call 19; refine (contains_no gg bn bc _ hbn Y5.out).mono ?_; rintro e wq ⟨rfl, rfl⟩))
      go_meet
      case rel => exact ⟨rfl, Lib.hid ⟨HTe.out, HNe.out, BE.out⟩⟩
    · obtain ⟨y1, y2, y3, y4, y5⟩ := HZ1.out hs0
      have hs1 : (sizeErr m k != 0) = true := by simpa using hs0
      have hs2 : (sizeErr m k == 0) = false := by simpa using hs0
      clear hs0
      go_wp2_with (first | (go_at_call 18; refine (noBits_zero _).mono ?_; rintro e wf ⟨rfl, hbf⟩))
      go_meet
      case rel => exact ⟨rfl, Lib.hid ⟨HTe.out.later hbf, below_block hbf HNe.out, below_step BE.out hbf⟩⟩
  case rest =>
    obtain ⟨rfl, HF⟩ := hcut
    obtain ⟨wf, rfl⟩ : ∃ wf, wf = wc := ⟨_, rfl⟩
    clear k0 k1 k2 k3 k4 k5 k6 k7 k8 k9 p0 p1 p2 pr0 pr1 pr2 l0 l1 l2 lN HTe HNe BE Be HZ1 HZ2 HBD
    have BFw := Lib.hid HF.out.2.2
    obtain ⟨k0, k1, k2, k3, k4, k5, k6, k7, k8, k9⟩ := HF.out.1
    go_wp2_with fail
    refine (cut_any a1 b1 X Y bw bh s1 n1 c1 z wf (isBools_later HS1.out BFw.out)).mono ?_
    rintro e wg ⟨ci, cj, cs, cn, cc, rfl, hI, hbg⟩
    have HI := Lib.hid hI
    have HTg := Lib.hid (HF.out.1.later hbg)
    have HNg := Lib.hid (below_block hbg HF.out.2.1)
    have BG := Lib.hid (below_step BFw.out hbg)
    have lNf := Lib.hid (Array.getElem?_eq_some_iff.1 HF.out.2.1).1
    clear hI hbg BFw k0 k1 k2 k3 k4 k5 k6 k7 k8 k9
    obtain ⟨p0, p1, p2, pr0, pr1, pr2⟩ := block3 HNg.out
    go_wp2_with fail
    obtain ⟨wh, hwh⟩ : ∃ wh, wh = ((wg.setCell ⟨wN.heap.size, 0, none⟩ (.int .i64 ci)).setCell ⟨wN.heap.size, 1, none⟩ (.int .i64 cj)).setCell ⟨wN.heap.size, 2, none⟩ (.slice cs cn cc) := ⟨_, rfl⟩
    have HIh := Lib.hid (show CutIs a1 b1 n1 X Y bw bh z wf.heap.size wh ci cj cs cn cc by rw [hwh]; exact HI.out.far3 lNf.out _ _ _)
    have HTh := Lib.hid (show Boxes w.heap.size a1 b1 s1 n1 c1 a2 b2 s2 n2 c2 X Y bw bh wh by rw [hwh]; exact HTg.out.far3 hB2.out _ _ _)
    have HNh := Lib.hid (show wh.heap[wN.heap.size]? = some (.cells #[.int .i64 ci, .int .i64 cj, .slice cs cn cc] 24 (0, 0)) by
      rw [hwh]
      exact heap_setCell_same _ wN.heap.size 2 #[.int .i64 ci, .int .i64 cj, .slice bs bn bc] 24 _ (heap_setCell_same _ wN.heap.size 1 #[.int .i64 ci, .int .i64 bj, .slice bs bn bc] 24 _ (heap_setCell_same _ wN.heap.size 0 #[.int .i64 bi, .int .i64 bj, .slice bs bn bc] 24 _ HNg.out)))
    have BH := Lib.hid (show Below w.heap.size w wh by rw [hwh]; exact below_far3 BG.out (by have := hB2.out; omega))
    rw [← hwh]
    clear hwh p0 p1 p2 pr0 pr1 pr2 HI HTg HNg BG HF lNf
    obtain ⟨k0, k1, k2, k3, k4, k5, k6, k7, k8, k9⟩ := HTh.out
    obtain ⟨p0, p1, p2, pr0, pr1, pr2⟩ := block3 HNh.out
    clear k2 k3 k4 k5 pr0 pr1 pr2
    go_upto_region 9 with fail
    go_cut [121] from 100 (fun t wx => t = .bool false ∧ Hid (Boxes w.heap.size a1 b1 s1 n1 c1 a2 b2 s2 n2 c2 X Y bw bh wx ∧ Below w.heap.size w wx))
    case first =>
      go_region_held3 (fun w' => w'.cell? ⟨wN.heap.size, 0, none⟩ = some (.int .i64 ci) ∧ w'.cell? ⟨wN.heap.size, 1, none⟩ = some (.int .i64 cj) ∧ w'.cell? ⟨wN.heap.size, 2, none⟩ = some (.slice cs cn cc) ∧
        w'.cell? ⟨w.heap.size, 0, none⟩ = some (.int .i64 a1) ∧ w'.cell? ⟨w.heap.size, 1, none⟩ = some (.int .i64 b1) ∧
        w'.cell? ⟨w.heap.size + 2, 0, none⟩ = some (.int .i64 X) ∧ w'.cell? ⟨w.heap.size + 2, 1, none⟩ = some (.int .i64 Y) ∧ w'.cell? ⟨w.heap.size + 2, 2, none⟩ = some (.int .i64 bw) ∧ w'.cell? ⟨w.heap.size + 2, 3, none⟩ = some (.int .i64 bh))
        (first | (go_keep; done) | (go_split_ands; exact ⟨cell_later hbi (by assumption), cell_later hbi (by assumption), cell_later hbi (by assumption), cell_later hbi (by assumption), cell_later hbi (by assumption), cell_later hbi (by assumption), cell_later hbi (by assumption), cell_later hbi (by assumption), cell_later hbi (by assumption)⟩) | (go_split_ands; exact ⟨cell_later hbk (by assumption), cell_later hbk (by assumption), cell_later hbk (by assumption), cell_later hbk (by assumption), cell_later hbk (by assumption), cell_later hbk (by assumption), cell_later hbk (by assumption), cell_later hbk (by assumption), cell_later hbk (by assumption)⟩))
        ((first | (go_at_call 24; refine (inPage_any X Y bw bh a1 b1 _).mono ?_; rintro e wi ⟨q, rfl, hq, hbi⟩; have hqw := want_cut (n := n1) hq; clear hq; have hbh := below_alloc (below_step (Below.refl wh.heap.size wh).drew hbi) (.cells #[.int .i64 (pageErr a1 b1 n1), .int .i64 (whenI (!q) 13)] 30)) | (go_at_call 23; refine (when_any _ _ _).mono ?_; rintro e w' ⟨rfl, rfl⟩) | (go_at_call 22; refine (first2_new _ _ _).mono ?_; rintro e w' ⟨rfl, rfl⟩) | (go_at_call 21; refine (bitsIs_cut a1 b1 X Y bw bh ci cj cs s1 cn cc n1 c1 w.heap.size (w.heap.size + 2) wf.heap.size z _ (HIh.out.later hbh) (isBools_later HS1.out (below_step BH.out hbh)) (cell_later hbh HTh.out.1) (cell_later hbh HTh.out.2.1) (cell_later hbh HTh.out.2.2.1) (cell_later hbh HTh.out.2.2.2.2.2.2.1) (cell_later hbh HTh.out.2.2.2.2.2.2.2.1) (cell_later hbh HTh.out.2.2.2.2.2.2.2.2.1) (cell_later hbh HTh.out.2.2.2.2.2.2.2.2.2)).mono ?_; rintro e wk ⟨rfl, hbk⟩)))
      all_goals
        go_wp2_with fail
        go_meet
        case rel => exact ⟨rfl, Lib.hid ⟨(HTh.out.later hbh).later hbk, below_step (below_step BH.out hbh) hbk⟩⟩
    case rest =>
      obtain ⟨rfl, HF⟩ := hcut
      obtain ⟨wj, rfl⟩ : ∃ wj, wj = wc := ⟨_, rfl⟩
      clear k0 k1 k6 k7 k8 k9 p0 p1 p2 HIh HTh HNh BH
      have BJ := Lib.hid HF.out.2
      obtain ⟨k0, k1, k2, k3, k4, k5, k6, k7, k8, k9⟩ := HF.out.1
      go_wp2_with fail
      refine (cutGray_any a2 b2 X Y bw bh s2 n2 c2 zs wj (isBytes_later HS2.out BJ.out)).mono ?_
      rintro e wl ⟨di, dj, ds, dn, dc, rfl, hJ, hbl⟩
      have HJ := Lib.hid hJ
      have HTl := Lib.hid (HF.out.1.later hbl)
      have BL := Lib.hid (below_step BJ.out hbl)
      clear hJ hbl BJ k0 k1 k2 k3 k4 k5 k6 k7 k8 k9 HF
      obtain ⟨k0, k1, k2, k3, k4, k5, k6, k7, k8, k9⟩ := HTl.out
      have l0 := World.block_lt_of_cell? _ _ k0
      have l1 := World.block_lt_of_cell? _ _ k3
      have l2 := World.block_lt_of_cell? _ _ k6
      simp only at l0 l1 l2
      go_wp2_with fail
      refine (inPage_any X Y bw bh a2 b2 _).mono ?_
      rintro e wi ⟨q, rfl, hq, hbi⟩
      have hqw := want_cut (n := n2) hq
      have Hl := Lib.hid (below_step (new_below wl (.cells #[.int .i64 di, .int .i64 dj, .slice ds dn dc] 27)) hbi)
      have HNi := Lib.hid (below_block hbi (heap_alloc_new wl (.cells #[.int .i64 di, .int .i64 dj, .slice ds dn dc] 27)))
      clear hq hbi k0 k1 k2 k3 k4 k5 k6 k7 k8 k9 l0 l1 l2
      obtain ⟨p0, p1, p2, pr0, pr1, pr2⟩ := block3 HNi.out
      obtain ⟨k0, k1, k2, k3, k4, k5, k6, k7, k8, k9⟩ := HTl.out.later Hl.out
      have l0 := World.block_lt_of_cell? _ _ k0
      have l1 := World.block_lt_of_cell? _ _ k3
      have l2 := World.block_lt_of_cell? _ _ k6
      have l3 := World.block_lt_of_cell? _ _ p0
      simp only at l0 l1 l2 l3
      clear pr0 pr1 pr2
      by_cases hE : cutErr a2 b2 n2 X Y bw bh = 0
      · have hbm := below_alloc (Hl.out) (.cells #[.int .i64 (pageErr a2 b2 n2), .int .i64 (whenI (!q) 13)] 30)
        obtain ⟨e1, e2, hdn, g', zc, e3, hzc, hcall⟩ := made_cut a2 b2 X Y bw bh di dj ds s2 dn dc n2 c2 (w.heap.size + 1) (w.heap.size + 2) wj.heap.size zs (wi.alloc (.cells #[.int .i64 (pageErr a2 b2 n2), .int .i64 (whenI (!q) 13)] 30)).drew
          (HJ.out.later hbm.drew) hE (isBytes_later HS2.out (below_step BL.out hbm.drew)) (cell_later hbm.drew HTl.out.2.2.2.1) (cell_later hbm.drew HTl.out.2.2.2.2.2.1) (cell_later hbm.drew HTl.out.2.2.2.2.2.2.1) (cell_later hbm.drew HTl.out.2.2.2.2.2.2.2.1)
        have HCALL := Lib.hid hcall
        have HZC := Lib.hid hzc
        have HBM := Lib.hid hbm
        clear hcall hzc hbm k0 k1 k2 k3 k4 k5 k6 k7
        go_wp2_with (first | (go_at_call 23; refine (when_any _ _ _).mono ?_; rintro e w' ⟨rfl, rfl⟩) | (go_at_call 22; refine (first2_new _ _ _).mono ?_; rintro e w' ⟨rfl, rfl⟩))
        go_region_held3 (fun w' => w'.cell? ⟨wl.heap.size, 0, none⟩ = some (.int .i64 di) ∧ w'.cell? ⟨wl.heap.size, 1, none⟩ = some (.int .i64 dj) ∧ w'.cell? ⟨wl.heap.size, 2, none⟩ = some (.slice ds dn dc) ∧ w'.cell? ⟨w.heap.size + 2, 2, none⟩ = some (.int .i64 bw) ∧ w'.cell? ⟨w.heap.size + 2, 3, none⟩ = some (.int .i64 bh))
          (first | (go_keep; done) | (go_split_ands; exact ⟨cell_later hbn (by assumption), cell_later hbn (by assumption), cell_later hbn (by assumption), cell_later hbn (by assumption), cell_later hbn (by assumption)⟩) | (go_split_ands; exact ⟨cell_later hbo (by assumption), cell_later hbo (by assumption), cell_later hbo (by assumption), cell_later hbo (by assumption), cell_later hbo (by assumption)⟩))
          ((first | (go_at_call 30; refine HCALL.out.mono ?_; rintro e wn ⟨g2, cc2, rfl, hz2, hbn⟩; have HZ2 := Lib.hid hz2; clear hz2) | (go_at_call 29; refine (sameGray_true bw bh g' 0 g2 0 dn dc cc2 zc _ hdn (fun j hj => cell_later hbn (HZC.out j hj)) HZ2.out).mono ?_; rintro e wo ⟨rfl, hbo⟩)))
        all_goals go_wp2_with fail
        all_goals go_ret
        all_goals exact ⟨rfl, below_step (below_step (below_step BL.out HBM.out.drew) hbn) hbo⟩
      · rcases HJ.out with ⟨_, y1, y2, y3, y4, y5⟩ | ⟨h0, _⟩
        · have hE1 : (cutErr a2 b2 n2 X Y bw bh != 0) = true := by simpa using hE
          clear hE
          go_wp2_with (first | (go_at_call 23; refine (when_any _ _ _).mono ?_; rintro e w' ⟨rfl, rfl⟩) | (go_at_call 22; refine (first2_new _ _ _).mono ?_; rintro e w' ⟨rfl, rfl⟩) | (go_at_call 28; refine (noGray_zero _).mono ?_; rintro e wz ⟨rfl, hbz⟩))
          go_ret
          exact ⟨rfl, below_step (below_alloc (below_step BL.out Hl.out) _) hbz⟩
        · exact absurd h0 hE

end Go.Proofs.Ytcpgnfbjdokdcaa
namespace Go.Proofs.Ytcpgnfbjdokdcaa
open Go.ChangeShapes Go.WideShapes Go.ChangeAt Go.RowKit Go.Joins
open Go.ChangeMaps (open_string shut_string)
set_option linter.unusedVariables false

theorem cellsBox : Try.prog.cellsOf 29 = 4 := by kernel_rfl
set_option maxRecDepth 100000 in
/-- A box by value, opened. -/
theorem open_box {W : World} {H : Type} {enc : TypeId × Value → H} {base : Nat} {spare : Nat → Bool} {held : Bool} {r : Reach} {b0 : Nat} {v : Value} {d : DataW H} {p : List MemPlace}
    (hv : Value.okWide Try.prog W r b0 29 v) (h : DataW.Trod enc Try.prog W base spare held 29 v d p) :
    ∃ X Y bw bh, v = .agg #[.int .i64 X, .int .i64 Y, .int .i64 bw, .int .i64 bh] := by
  obtain ⟨c0, c1, c2, c3, y0, y1, y2, y3, m, rfl, rfl, rfl, hy0, hy1, hy2, hy3⟩ := open_agg4 Try.underlying29 (by kernel_rfl) cellsBox hv h
  obtain ⟨a, e0, rfl, wa⟩ := DataW.trod_int Try.underlying3 hy0
  obtain ⟨b, e1, rfl, wb⟩ := DataW.trod_int Try.underlying3 hy1
  obtain ⟨c, e2, rfl, wc⟩ := DataW.trod_int Try.underlying3 hy2
  obtain ⟨d, e3, rfl, wd⟩ := DataW.trod_int Try.underlying3 hy3
  simp at e0 e1 e2 e3
  subst e0 e1 e2 e3
  exact ⟨a, b, c, d, rfl⟩

end Go.Proofs.Ytcpgnfbjdokdcaa
namespace Go.Proofs.Ytcpgnfbjdokdcaa
open Go.ChangeShapes Go.WideShapes Go.ChangeAt Go.RowKit Go.Joins
open Go.ChangeMaps (open_string shut_string)
set_option linter.unusedVariables false

set_option maxRecDepth 100000 in
theorem cuts_lifted (os : Os) (started : os.Started) (H : Type) (enc : TypeId × Value → H) :
    ReturnsInHanded {} Try.checked os 3 .any (Rows.cutsMatchSpec.pre6 enc Try.prog Try.f3 Rows.cutsMatchRow.domain false) (Rows.cutsMatchSpec.post enc Try.prog Try.f3 false true false false) := by
  refine returnsInHanded_of_change (C := Try.checked) own started (by kernel_rfl) Try.func3
    (ChangeSpec.witness6 (enc := enc) (C := Try.checked) false ⟨#[], #[.agg #[.int .i64 0, .int .i64 0, .slice none 0 0], .agg #[.int .i64 0, .int .i64 0, .slice none 0 0], .agg #[.int .i64 0, .int .i64 0, .int .i64 0, .int .i64 0], .int .i64 0, .int .i64 0, .string ⟨#[]⟩], []⟩ 8 (by kernel_rfl) (by kernel_rfl) (by kernel_rfl) (by kernel_rfl)) ?_
  intro W base args ds gs before hval0 hW hcnd _
  have hval : ∀ (j : Nat) t v, Try.f3.params[j]? = some t → args[j]? = some v → Value.okWide Try.prog W .any base t v := hval0
  have hW' := hW
  obtain ⟨p, q, hA0, hV, rfl, hfz, hnd⟩ := hW
  have hA : DataW.TrodAll enc Try.prog W 0 (fun _ => true) true Try.f3.params.toList args.toList ds p := hA0
  rw [Try.params3] at hA hval
  obtain ⟨v0, vs0, d0, ds0, p0, q0, hargs, rfl, rfl, h0, r0⟩ := trodAll_cons hA
  obtain ⟨v1, vs1, d1, ds1, p1, q1, rfl, rfl, rfl, h1, r1⟩ := trodAll_cons r0
  obtain ⟨v2, vs2, d2, ds2, p2, q2, rfl, rfl, rfl, h2, r2⟩ := trodAll_cons r1
  obtain ⟨v3, vs3, d3, ds3, p3, q3, rfl, rfl, rfl, h3, r3⟩ := trodAll_cons r2
  obtain ⟨v4, vs4, d4, ds4, p4, q4, rfl, rfl, rfl, h4, r4⟩ := trodAll_cons r3
  obtain ⟨v5, vs5, d5, ds5, p5, q5, rfl, rfl, rfl, h5, r5⟩ := trodAll_cons r4
  obtain ⟨rfl, rfl, rfl⟩ := trodAll_nil r5
  obtain rfl : args = #[v0, v1, v2, v3, v4, v5] := by cases args; simp_all
  obtain ⟨rfl, rfl⟩ := trodVars_none hV
  have k0 := h0
  have k1 := h1
  have k2 := h2
  have lt0 : ∀ x ∈ p0, x.block < W.heap.size := by obtain ⟨m, hm⟩ := k0; exact DataW.trod_lt m _ _ _ hm
  have lt1 : ∀ x ∈ p1, x.block < W.heap.size := by obtain ⟨m, hm⟩ := k1; exact DataW.trod_lt m _ _ _ hm
  have lt2 : ∀ x ∈ p2, x.block < W.heap.size := by obtain ⟨m, hm⟩ := k2; exact DataW.trod_lt m _ _ _ hm
  obtain ⟨a1, b1, s1, n1, c1, z, rfl, hs1⟩ := open_bits (hval 0 24 v0 rfl rfl) h0
  obtain ⟨a2, b2, s2, n2, c2, zs, rfl, hs2⟩ := open_gray (hval 1 27 v1 rfl rfl) h1
  obtain ⟨X, Y, bw, bh, rfl⟩ := open_box (hval 2 29 v2 rfl rfl) h2
  obtain ⟨m3, rfl, rfl, rfl, w3⟩ := open_int Try.underlying3 (hval 3 3 v3 rfl rfl) h3
  obtain ⟨m4, rfl, rfl, rfl, w4⟩ := open_int Try.underlying3 (hval 4 3 v4 rfl rfl) h4
  obtain ⟨nm, rfl, rfl, rfl, w5⟩ := open_string Try.underlying9 (hval 5 9 v5 rfl rfl) h5
  clear hA0 hval0
  refine (cuts_walk a1 b1 s1 n1 c1 z a2 b2 s2 n2 c2 zs X Y bw bh m3 m4 nm W hs1 hs2 (by have := w5; unfold maxLen at this; omega)).mono fun e W' ⟨he, bel⟩ => ?_
  subst he
  exact ⟨_, rfl, _, _, _, [], _, [], hW', trodAll_mk1 (shut_bool Try.underlying4 _), (trodAll_cons_mk (Below.trod laidOut (by kernel_rfl) (of_decide_eq_true (by kernel_rfl)) k0 bel lt0) (trodAll_cons_mk (Below.trod laidOut (by kernel_rfl) (of_decide_eq_true (by kernel_rfl)) k1 bel lt1) (trodAll_cons_mk (Below.trod laidOut (by kernel_rfl) (of_decide_eq_true (by kernel_rfl)) k2 bel lt2) (trodAll_cons_mk (shut_int Try.underlying3 w3) (trodAll_cons_mk (shut_int Try.underlying3 w4) (trodAll_cons_mk (shut_string Try.underlying9 w5) trodAll_mk0)))))), rfl, bel.frame _, fun h => by cases h⟩

theorem cuts_over : Rows.cutsMatchRow.holds Try.pinned (OpenSpec.ofChange Rows.cutsMatchSpec) :=
  OpenClaim.holds_of_wide 3 Try.f3 rfl rfl rfl rfl rfl rfl rfl ⟨rfl, rfl, rfl, rfl, rfl⟩ rfl rfl rfl rfl rfl (by kernel_rfl) Try.func3 (by kernel_rfl)
    (of_decide_eq_true (by kernel_rfl)) (by unfold Func.isWrapper; first | (rw [if_pos (by decide +kernel)]; kernel_rfl) | (rw [if_neg (by decide +kernel)]; exact ⟨rfl, rfl⟩))
    (fun os started H enc _ => cuts_lifted os started H enc)

theorem cuts_holds : Rows.CutsMatchSaid := cuts_over
end Go.Proofs.Ytcpgnfbjdokdcaa
