/-
  What cuts_holds leans on: contracts of the functions that it calls.
-/
import Derived.Test.YtcpgnfbjdokdcaaRows
import Derived.WalkKit
import Derived.WalkSpells
import Derived.WalkLawsBesides
import Derived.Lib.Hide
import Derived.Deep.RegionHeld3
import Derived.Shelf.Abstract
import Derived.Deep.AppendLies
import Derived.Deep.DrawnRows
import Derived.Deep.RegionLaw
import Derived.Deep.QuietTactic
import Derived.BigQuiet
import Derived.ProofKit
import Derived.OpenShut
import Derived.ShutString
import Derived.ChangeOld
import Derived.Lib.SmallJoins
import Derived.Deep.Grids
import Derived.Test.YtcpgnfbjdokdcaaCCuts1
namespace Go.Proofs.Ytcpgnfbjdokdcaa
open Go.RowKit
set_option linter.unusedSimpArgs false
set_option linter.unusedVariables false

theorem info_byte : (Try.prog.info? 5).map (fun i => (i.zero, i.size, i.bytes)) = some (some (.int .u8 0), 1, 1) := by kernel_rfl

set_option maxHeartbeats 800000 in
set_option maxRecDepth 100000 in
theorem fillByte_any (w h g : Nat) (capt : Array Value) (f : Nat → Nat → Int) (W0 : World) (hw : 1 ≤ w) (hw' : w ≤ 10000000) (hh : h ≤ 10000000) (hN : w * h ≤ 10000000)
    (eg : ∀ (args : Array Value) (W : World), (callFunc g args).run Try.prog W = .ok (.enter g args) W)
    (hc : ∀ (x y : Nat) (W : World), x < w → y < h → Below W0.heap.size W0 W → Calls Try.prog g (#[.int .i64 x, .int .i64 y] ++ capt) W fun e W' => e = .returned (.int .u8 (f x y)) ∧ Below W.heap.size W W') :
    Calls Try.prog 109 #[.int .i64 w, .int .i64 h, .func (.func g) #[] capt] W0 fun e W' =>
      ∃ v, e = .returned v ∧ W'.ownsRow W0.heap.size 5 1 v (w * h) ((places w f (w * h)).map (Value.int .u8)) ∧ Below W0.heap.size W0 W' := by
  obtain ⟨i0, hi, hz0, hz1, hz2⟩ := info_parts info_byte
  have m0 : (0 : Int) ≤ (w : Int) * (h : Int) := Int.mul_nonneg (by omega) (by omega)
  have m1 : (w : Int) * (h : Int) ≤ 10000000 := by rw [← Int.natCast_mul]; omega
  have HC := Lib.hid hc
  clear hc
  go_enter Try.func109, Try.ntmps109
  go_wp2_with (at_make; refine wpList_make_own _ rfl _ _ 25 rfl W0.heap.size 5 i0 (.int .u8 0) 1 Try.underlying25 hi hz0 hz1 _ _ _ (w * h) rfl rfl (by rw [Int.natCast_mul]) (by rw [hz2]; omega) (by unfold maxLen; omega) (Nat.le_refl _) ?_)
  intro w1 hown1 hgrow1
  have hb1 : Below W0.heap.size W0 w1 := (Below.refl _ _).grown hgrow1 (Nat.le_refl _) (by simp)
  clear hgrow1
  go_wp2
  go_loopw [7, 15] (fun v i wr => ∃ y : Nat, y ≤ h ∧ i = .int .i64 y ∧ wr.ownsRow W0.heap.size 5 1 v (y * w) ((places w f (y * w)).map (Value.int .u8)) ∧ Below W0.heap.size W0 wr) (fun _ i _ => h - (intOf i).toNat)
  case atStart => exact ⟨0, Nat.zero_le _, rfl, by simpa [places] using hown1, hb1⟩
  case round =>
    obtain ⟨y, hy, rfl, hown, hb⟩ := hrel
    clear hown1 hb1
    by_cases hlt : y < h
    · obtain ⟨wo, rfl⟩ : ∃ wo : World, wo = wr := ⟨_, rfl⟩
      go_wp2
      go_loopw [7, 19] (fun v i wr => ∃ x : Nat, x ≤ w ∧ i = .int .i64 x ∧ wr.ownsRow W0.heap.size 5 1 v (y * w + x) ((places w f (y * w + x)).map (Value.int .u8)) ∧ Below W0.heap.size W0 wr) (fun _ i _ => w - (intOf i).toNat)
      case atStart => exact ⟨0, Nat.zero_le _, rfl, by simpa using hown, hb⟩
      case round =>
        obtain ⟨x, hx, rfl, hownr, hbr⟩ := hrel
        clear hown hb
        by_cases hltx : x < w
        · have HC' := HC.out x y
          have hfit := row_fits hlt (show x + 1 ≤ w by omega)
          go_wp2_with (first | (go_at_fn g; refine (HC' _ hltx hlt hbr).mono ?_; rintro e w' ⟨rfl, hb'⟩; have hown' := below_owns hownr hb') | (at_builtin; refine wpList_append_own _ rfl _ _ 25 rfl W0.heap.size 5 i0 (.int .u8 0) 1 1 Try.underlying25 hi hz0 hz1 hz2 rfl (by decide) _ _ _ rfl (hown'.alloc _) ⟨w'.heap.size, 0, none⟩ 1 1 [.int .u8 (f x y)] rfl rfl ?c1 ?c2 ?c3 ?c4 ?c5 ?_))
          case c1 => exact cell_one_new _ _ _
          case c2 => intro u hu; simp at hu; subst hu; rfl
          case c3 => unfold maxLen; omega
          case c4 => omega
          case c5 => have h1 := hbr.size; have h2 := hb'.size; simp; omega
          · intro v' w2 hown2 hgr2 _
            have hb2 : Below W0.heap.size W0 w2 := (((hbr.trans (hb'.mono hbr.size))).alloc (Nat.le_trans hbr.size hb'.size) _).grown hgr2 (by have h1 := hbr.size; have h2 := hb'.size; simp; omega) (fun k hk => (hown'.lt k hk).1)
            have hp := Lib.hid (places_succ w f x y hltx)
            clear hgr2 hown' hownr hbr hb' HC'
            go_wp2
            go_roundw
            case rel => exact ⟨x + 1, by omega, by go_num, by rw [← Nat.add_assoc, hp.out, List.map_append]; exact hown2, hb2⟩
            case measure => simp [intOf]; omega
        · have hxe := Lib.hid (show x = w by omega)
          go_wp2
          go_roundw
          case rel => exact ⟨y + 1, by omega, by go_num, by rw [show (y + 1) * w = y * w + x by rw [hxe.out, Nat.add_mul, Nat.one_mul]]; exact hownr, hbr⟩
          case measure => simp [intOf]; omega
    · have hye := Lib.hid (show y = h by omega)
      go_wp2
      go_ret
      exact ⟨_, rfl, by rw [Nat.mul_comm w h, ← hye.out]; exact hown, hb⟩

end Go.Proofs.Ytcpgnfbjdokdcaa
namespace Go.Proofs.Ytcpgnfbjdokdcaa
open Go.RowKit
set_option linter.unusedSimpArgs false
set_option linter.unusedVariables false

set_option maxRecDepth 100000 in
theorem cutY1_any (W H X Y bw bh x y pb xb wb g o n c : Nat) (q : Int) (w : World) (hW : W ≤ 4000) (hH : H ≤ 4000) (hX : X + bw ≤ W) (hY : Y + bh ≤ H) (hx : x < bw) (hy : y < bh) (hn : n = W * H)
    (c1 : w.cell? ⟨pb, 0, none⟩ = some (.slice (some ⟨g, o, none⟩) n c)) (c2 : w.cell? ⟨xb, 0, none⟩ = some (.int .i64 X)) (c3 : w.cell? ⟨xb, 1, none⟩ = some (.int .i64 Y)) (c4 : w.cell? ⟨wb, 0, none⟩ = some (.int .i64 W))
    (hc : w.cell? ⟨g, o + ((Y + y) * W + X + x), none⟩ = some (.int .u8 q)) :
    Calls Try.prog 149 #[.int .i64 x, .int .i64 y, .pointer (some ⟨pb, 0, none⟩), .pointer (some ⟨xb, 0, none⟩), .pointer (some ⟨wb, 0, none⟩)] w fun e w' => e = .returned (.int .u8 q) ∧ w = w' := by
  have hlt := in_page_lt hX hY hx hy
  rw [← hn] at hlt
  have m0 : (0 : Int) ≤ ((Y : Int) + (y : Int)) * (W : Int) := Int.mul_nonneg (by omega) (by omega)
  have m1 : ((Y : Int) + (y : Int)) * (W : Int) + (X : Int) + (x : Int) < (n : Int) := by
    have : (((Y + y) * W + X + x : Nat) : Int) < (n : Int) := by omega
    simpa [Int.natCast_mul] using this
  have m2 : n ≤ 16000000 := by rw [hn]; exact Nat.mul_le_mul hW hH
  clear hlt hn
  go_enter Try.func149, Try.ntmps149
  go_wp2
  go_ret
  exact ⟨rfl, rfl⟩

set_option maxRecDepth 100000 in
theorem cutY_any (W H X Y bw bh g o n c : Nat) (z : Nat → Int) (w : World) (hW : W ≤ 4000) (hH : H ≤ 4000) (hX : X + bw ≤ W) (hY : Y + bh ≤ H) (hb1 : 1 ≤ bw) (hb2 : 1 ≤ bh) (hn : n = W * H) (hN : n ≤ 1048576)
    (hc : ∀ j, j < n → w.cell? ⟨g, o + j, none⟩ = some (.int .u8 (z j))) :
    Calls Try.prog 99 #[.slice (some ⟨g, o, none⟩) n c, .int .i64 W, .agg #[.int .i64 X, .int .i64 Y, .int .i64 bw, .int .i64 bh]] w fun e w' =>
      ∃ v, e = .returned v ∧ w'.ownsRow w.heap.size 5 1 v (bw * bh) ((places bw (fun x y => z ((Y + y) * W + X + x)) (bw * bh)).map (Value.int .u8)) ∧ Below w.heap.size w w' := by
  have hmf : ∀ (fn : Fn) (first cap : Array Value) (w : World), (Instr.makeFunc fn first cap).run Try.prog w = .ok (.func fn first cap) w := fun _ _ _ _ => rfl
  have HC := Lib.hid hc
  have HN := Lib.hid hn
  clear hc hn
  go_enter Try.func99, Try.ntmps99
  go_wp2_with fail
  obtain ⟨w1, hw1⟩ : ∃ w1, w1 = ((w.alloc (.cells #[.slice (some ⟨g, o, none⟩) n c] 25)).alloc (.cells #[.int .i64 W] 3)).alloc (.cells #[.int .i64 X, .int .i64 Y, .int .i64 bw, .int .i64 bh] 29) := ⟨_, rfl⟩
  have B1 : Below w.heap.size w w1 := by rw [hw1]; exact below_alloc (below_alloc (new_below _ _) _) _
  have k1 : w1.cell? ⟨w.heap.size, 0, none⟩ = some (.slice (some ⟨g, o, none⟩) n c) := by rw [hw1]; go_simp
  have k2 : w1.cell? ⟨w.heap.size + 2, 0, none⟩ = some (.int .i64 X) := by rw [hw1]; go_simp
  have k3 : w1.cell? ⟨w.heap.size + 2, 1, none⟩ = some (.int .i64 Y) := by rw [hw1]; go_simp
  have k4 : w1.cell? ⟨w.heap.size + 1, 0, none⟩ = some (.int .i64 W) := by rw [hw1]; go_simp
  rw [← hw1]
  clear hw1
  have hbb := Nat.mul_le_mul (show bw ≤ W by omega) (show bh ≤ H by omega)
  rw [← HN.out] at hbb
  refine (fillByte_any bw bh 149 _ (fun x y => z ((Y + y) * W + X + x)) w1 hb1 (by omega) (by omega) (by omega) (Go.Proofs.enters_of Try.func149 (by kernel_rfl) rfl) ?_).mono ?_
  · intro x y wx hx hy hbx
    have hlt := in_page_lt hX hY hx hy
    rw [← HN.out] at hlt
    refine (cutY1_any W H X Y bw bh x y w.heap.size (w.heap.size + 2) (w.heap.size + 1) g o n c _ wx hW hH hX hY hx hy HN.out (cell_later hbx k1) (cell_later hbx k2) (cell_later hbx k3) (cell_later hbx k4) (cell_later hbx (cell_later B1 (HC.out _ hlt)))).mono ?_
    rintro e wy ⟨rfl, rfl⟩
    exact ⟨rfl, Below.refl _ _⟩
  · rintro e w5 ⟨v, rfl, hown, hb5⟩
    have F := Lib.hid hown
    have G := Lib.hid hb5
    clear hown hb5 hbb
    go_wp2_with fail
    go_ret
    exact ⟨v, rfl, owns_base F.out B1.size, below_step B1 G.out⟩

end Go.Proofs.Ytcpgnfbjdokdcaa
namespace Go.Proofs.Ytcpgnfbjdokdcaa
open Go.RowKit
set_option linter.unusedSimpArgs false
set_option linter.unusedVariables false
attribute [local go_sem ↓] Go.wp_at_zero Go.wp_at_succ

theorem cutGray_badPage (a b X Y bw bh : Int) (p : Option Addr) (n c : Nat) (w : World) (h : pageErr a b n ≠ 0) :
    Calls Try.prog 27 #[.agg #[.int .i64 a, .int .i64 b, .slice p n c], .agg #[.int .i64 X, .int .i64 Y, .int .i64 bw, .int .i64 bh]] w fun e w' => e = .returned (.tuple #[.agg #[.int .i64 0, .int .i64 0, .slice none 0 0], .int .i64 (pageErr a b n)]) ∧ Below w.heap.size w w' := by
  have h' : (pageErr a b n != 0) = true := by simpa using h
  clear h
  go_enter Try.func27, Try.ntmps27
  go_wp2_with ((go_at_call 14; refine (checkGray_any _ _ _ _ _ _).mono ?_; rintro e w' ⟨rfl, rfl⟩))
  refine bodyPost_ret (v := .tuple #[.agg #[.int .i64 0, .int .i64 0, .slice none 0 0], .int .i64 (pageErr a b n)]) (by simp [results, Try.results27, go_sem]) rfl ⟨rfl, below_alloc (below_alloc (below_alloc (new_below _ _) _) _) _⟩

set_option maxRecDepth 100000 in
theorem cutGray_badBox (W H : Nat) (X Y bw bh : Int) (p : Option Addr) (n c : Nat) (w : World) (h : pageErr W H n = 0) (hs : sizeErr W H = 0) (hb : ¬ InP X Y bw bh W H) :
    Calls Try.prog 27 #[.agg #[.int .i64 W, .int .i64 H, .slice p n c], .agg #[.int .i64 X, .int .i64 Y, .int .i64 bw, .int .i64 bh]] w fun e w' => e = .returned (.tuple #[.agg #[.int .i64 0, .int .i64 0, .slice none 0 0], .int .i64 13]) ∧ Below w.heap.size w w' := by
  have hz := (sizeErr_zero hs).1
  have HB := Lib.hid hb
  clear hb hs
  go_enter Try.func27, Try.ntmps27
  go_wp2_with (first | (go_at_call 14; refine (checkGray_any _ _ _ _ _ _).mono ?_; rintro e w' ⟨rfl, rfl⟩) | (go_at_call 96; refine (checkBox_no X Y bw bh W H _ (by omega) (by omega) HB.out).mono ?_; rintro e w' ⟨rfl, rfl⟩))
  refine bodyPost_ret (v := .tuple #[.agg #[.int .i64 0, .int .i64 0, .slice none 0 0], .int .i64 13]) (by simp [results, Try.results27, go_sem]) rfl ⟨rfl, below_alloc (below_alloc (below_alloc (below_alloc (new_below _ _) _) _) _) _⟩

set_option maxHeartbeats 800000 in
set_option maxRecDepth 100000 in
theorem cutGray_ok (W H X Y bw bh g o n c : Nat) (z : Nat → Int) (w : World) (hs : sizeErr W H = 0) (hn : n = W * H) (hX : X + bw ≤ W) (hY : Y + bh ≤ H) (hb1 : 1 ≤ bw) (hb2 : 1 ≤ bh)
    (hc : ∀ j, j < n → w.cell? ⟨g, o + j, none⟩ = some (.int .u8 (z j))) :
    Calls Try.prog 27 #[.agg #[.int .i64 W, .int .i64 H, .slice (some ⟨g, o, none⟩) n c], .agg #[.int .i64 X, .int .i64 Y, .int .i64 bw, .int .i64 bh]] w fun e w' =>
      ∃ v, e = .returned (.tuple #[.agg #[.int .i64 bw, .int .i64 bh, v], .int .i64 0]) ∧ w'.ownsRow w.heap.size 5 1 v (bw * bh) ((places bw (fun x y => z ((Y + y) * W + X + x)) (bw * bh)).map (Value.int .u8)) ∧ Below w.heap.size w w' := by
  obtain ⟨hz, z0, z1⟩ := sizeErr_zero hs
  have hN : n ≤ 1048576 := by rw [hn]; rw [← Int.natCast_mul] at z1; omega
  have hpe : pageErr W H n = 0 := by unfold pageErr; rw [if_pos hs, if_pos (by rw [hn]; simp [Int.natCast_mul])]
  have hin : InP (X : Int) (Y : Int) (bw : Int) (bh : Int) (W : Int) (H : Int) := ⟨⟨by omega, by omega⟩, ⟨by omega, by omega⟩, ⟨by omega, by omega⟩, ⟨by omega, by omega⟩⟩
  have HC := Lib.hid hc
  have HN := Lib.hid hn
  have HI := Lib.hid hin
  clear hc hn hin hs z0 z1
  go_enter Try.func27, Try.ntmps27
  go_wp2_with (first | (go_at_call 14; refine (checkGray_any _ _ _ _ _ _).mono ?_; rintro e w' ⟨rfl, rfl⟩) | (go_at_call 96; refine (checkBox_yes X Y bw bh W H _ (by omega) (by omega) HI.out).mono ?_; rintro e w' ⟨rfl, rfl⟩))
  obtain ⟨w1, hw1⟩ : ∃ w1, w1 = ((((w.alloc (.cells #[.int .i64 W, .int .i64 H, .slice (some ⟨g, o, none⟩) n c] 27)).alloc (.cells #[.int .i64 X, .int .i64 Y, .int .i64 bw, .int .i64 bh] 29)).alloc (.cells #[.int .i64 0, .int .i64 0, .slice none 0 0] 27)).alloc (.cells #[.int .i64 W, .int .i64 H, .slice (some ⟨g, o, none⟩) n c] 27)).alloc (.cells #[.int .i64 X, .int .i64 Y, .int .i64 bw, .int .i64 bh] 29) := ⟨_, rfl⟩
  have B1 : Below w.heap.size w w1 := by rw [hw1]; exact below_alloc (below_alloc (below_alloc (below_alloc (new_below _ _) _) _) _) _
  have q0 : w1.cell? ⟨w.heap.size, 0, none⟩ = some (.int .i64 W) := by rw [hw1]; go_simp
  have q1 : w1.cell? ⟨w.heap.size, 1, none⟩ = some (.int .i64 H) := by rw [hw1]; go_simp
  have q2 : w1.cell? ⟨w.heap.size, 2, none⟩ = some (.slice (some ⟨g, o, none⟩) n c) := by rw [hw1]; go_simp
  have q3 : w1.cell? ⟨w.heap.size + 1, 0, none⟩ = some (.int .i64 X) := by rw [hw1]; go_simp
  have q4 : w1.cell? ⟨w.heap.size + 1, 1, none⟩ = some (.int .i64 Y) := by rw [hw1]; go_simp
  have q5 : w1.cell? ⟨w.heap.size + 1, 2, none⟩ = some (.int .i64 bw) := by rw [hw1]; go_simp
  have q6 : w1.cell? ⟨w.heap.size + 1, 3, none⟩ = some (.int .i64 bh) := by rw [hw1]; go_simp
  have qb : w1.heap[w.heap.size + 1 + 1]? = some (.cells #[.int .i64 0, .int .i64 0, .slice none 0 0] 27 (0, 0)) := by
    rw [hw1, Below.heap_alloc _ _ _ (by simp), Below.heap_alloc _ _ _ (by simp)]
    simpa using heap_alloc_new ((w.alloc (.cells #[.int .i64 W, .int .i64 H, .slice (some ⟨g, o, none⟩) n c] 27)).alloc (.cells #[.int .i64 X, .int .i64 Y, .int .i64 bw, .int .i64 bh] 29)) (.cells #[.int .i64 0, .int .i64 0, .slice none 0 0] 27)
  rw [← hw1]
  clear hw1
  have lt3 := Lib.hid (Array.getElem?_eq_some_iff.1 qb).1
  have ne1 := Lib.hid (show w.heap.size ≠ w.heap.size + 1 + 1 by omega)
  have ne2 := Lib.hid (show w.heap.size + 1 ≠ w.heap.size + 1 + 1 by omega)
  have HW := Lib.hid (cutY_any W H X Y bw bh g o n c z w1.drew (by omega) (by omega) hX hY hb1 hb2 HN.out hN (fun j hj => cell_later B1.drew (HC.out j hj)))
  go_region_held3 (fun w' => w'.cell? ⟨w.heap.size, 0, none⟩ = some (.int .i64 W) ∧ w'.cell? ⟨w.heap.size, 2, none⟩ = some (.slice (some ⟨g, o, none⟩) n c) ∧ w'.cell? ⟨w.heap.size + 1, 0, none⟩ = some (.int .i64 X) ∧ w'.cell? ⟨w.heap.size + 1, 1, none⟩ = some (.int .i64 Y) ∧ w'.cell? ⟨w.heap.size + 1, 2, none⟩ = some (.int .i64 bw) ∧ w'.cell? ⟨w.heap.size + 1, 3, none⟩ = some (.int .i64 bh))
    (first | (go_keep; done) | (go_split_ands; exact ⟨cell_later hb5 (by assumption), cell_later hb5 (by assumption), cell_later hb5 (by assumption), cell_later hb5 (by assumption), cell_later hb5 (by assumption), cell_later hb5 (by assumption)⟩) | (go_split_ands; exact ⟨cell_far3 ne1.out (by assumption), cell_far3 ne1.out (by assumption), cell_far3 ne2.out (by assumption), cell_far3 ne2.out (by assumption), cell_far3 ne2.out (by assumption), cell_far3 ne2.out (by assumption)⟩))
    ((first | (go_at_call 99; refine HW.out.mono ?_; rintro e w5 ⟨v, rfl, hown5, hb5⟩; have hq5 := block3 (below_block (below_step (Below.refl _ _).drew hb5) qb); obtain ⟨j0, j1, j2, r0, r1, r2⟩ := hq5; have vs : ∃ a n c, v = .slice a n c := owns_shape hown5; obtain ⟨va, vn, vc, hv⟩ := vs; subst hv)))
  go_wp2_with fail
  refine bodyPost_ret (v := .tuple #[.agg #[.int .i64 bw, .int .i64 bh, .slice va vn vc], .int .i64 0]) (by simp [results, Try.results27, go_sem, j0, j1, j2]) rfl ⟨_, rfl, ?_, ?_⟩
  · exact owns_far3 hown5 lt3.out B1.size
  · exact below_far3 (below_step B1.drew hb5) (by omega)

end Go.Proofs.Ytcpgnfbjdokdcaa
namespace Go.Proofs.Ytcpgnfbjdokdcaa
open Go.RowKit
set_option linter.unusedSimpArgs false
set_option linter.unusedVariables false

set_option maxRecDepth 100000 in
theorem equalBool_true (g1 o1 g2 o2 n c1 c2 : Nat) (z : Nat → Bool) (w : World) (hn : n ≤ 100000000)
    (h1 : ∀ j, j < n → w.cell? ⟨g1, o1 + j, none⟩ = some (.bool (z j))) (h2 : ∀ j, j < n → w.cell? ⟨g2, o2 + j, none⟩ = some (.bool (z j))) :
    Calls Try.prog 129 #[.slice (some ⟨g1, o1, none⟩) n c1, .slice (some ⟨g2, o2, none⟩) n c2] w fun e w' => e = .returned (.bool true) ∧ ∃ q, w' = w.drewN q := by
  have H1 := Lib.hid h1
  have H2 := Lib.hid h2
  clear h1 h2
  go_enter Try.func129, Try.ntmps129
  go_wp2
  go_loopw [13] (fun i wr => ∃ k q : Nat, k ≤ n ∧ i = .int .i64 k ∧ wr = w.drewN q) (fun i _ => n - (intOf i).toNat)
  case atStart => exact ⟨0, 0, Nat.zero_le _, rfl, rfl⟩
  case round =>
    obtain ⟨k, q, hk, rfl, rfl⟩ := hrel
    by_cases hlt : k < n
    · have e1 := H1.out k hlt
      have e2 := H2.out k hlt
      generalize z k = x at e1 e2
      have i1 : (k : Int) < (n : Int) := by omega
      have i0 : (0 : Int) ≤ (k : Int) := by omega
      go_wp2
      go_quiet (fail)
      go_wp2
      go_roundw
      case rel => exact ⟨k + 1, _, by omega, by go_num, rfl⟩
      case measure => simp [intOf]; omega
    · go_wp2
      go_ret
      exact ⟨rfl, q, rfl⟩

end Go.Proofs.Ytcpgnfbjdokdcaa
namespace Go.Proofs.Ytcpgnfbjdokdcaa
open Go.RowKit
set_option linter.unusedSimpArgs false
set_option linter.unusedVariables false
attribute [local go_sem ↓] Go.wp_at_zero Go.wp_at_succ

theorem noBits_zero (w : World) : Calls Try.prog 18 #[.agg #[.int .i64 0, .int .i64 0, .slice none 0 0]] w fun e w' => e = .returned (.bool true) ∧ Below w.heap.size w w' := by
  go_enter Try.func18, Try.ntmps18
  go_wp2
  go_ret
  exact ⟨rfl, new_below _ _⟩

theorem sameBits_true (W H : Int) (g1 o1 g2 o2 n c1 c2 : Nat) (z : Nat → Bool) (w : World) (hn : n ≤ 100000000)
    (h1 : ∀ j, j < n → w.cell? ⟨g1, o1 + j, none⟩ = some (.bool (z j))) (h2 : ∀ j, j < n → w.cell? ⟨g2, o2 + j, none⟩ = some (.bool (z j))) :
    Calls Try.prog 79 #[.agg #[.int .i64 W, .int .i64 H, .slice (some ⟨g1, o1, none⟩) n c1], .agg #[.int .i64 W, .int .i64 H, .slice (some ⟨g2, o2, none⟩) n c2]] w fun e w' => e = .returned (.bool true) ∧ Below w.heap.size w w' := by
  have HE := Lib.hid (equalBool_true g1 o1 g2 o2 n c1 c2 z ((w.alloc (.cells #[.int .i64 W, .int .i64 H, .slice (some ⟨g1, o1, none⟩) n c1] 24)).alloc (.cells #[.int .i64 W, .int .i64 H, .slice (some ⟨g2, o2, none⟩) n c2] 24)) hn
    (fun j hj => cell_later (below_alloc (new_below _ _) _) (h1 j hj)) (fun j hj => cell_later (below_alloc (new_below _ _) _) (h2 j hj)))
  clear h1 h2
  go_enter Try.func79, Try.ntmps79
  go_wp2_with (go_at_call 129; refine HE.out.mono ?_; rintro e w1 ⟨rfl, q, rfl⟩)
  go_ret
  exact ⟨rfl, below_drewN (below_alloc (new_below _ _) _) q⟩

theorem bitsIs_err (e1 : Int) (cl : Value) (w : World) (h : e1 ≠ 0) : Calls Try.prog 21 #[.agg #[.int .i64 0, .int .i64 0, .slice none 0 0], .int .i64 e1, .int .i64 e1, cl] w fun e w' => e = .returned (.bool true) ∧ Below w.heap.size w w' := by
  have h' : (e1 != 0) = true := by simpa using h
  clear h
  go_enter Try.func21, Try.ntmps21
  go_wp2_with (go_at_call 18; refine (noBits_zero _).mono ?_; rintro e w1 ⟨rfl, hb1⟩)
  go_ret
  exact ⟨rfl, below_step (new_below _ _) hb1⟩

/-- A page in memory: W by H, its places in cells as z tells. -/
def PageB (w : World) (v : Value) (W H : Int) (n : Nat) (z : Nat → Bool) : Prop :=
  ∃ g o c, v = .agg #[.int .i64 W, .int .i64 H, .slice (some ⟨g, o, none⟩) n c] ∧ ∀ j, j < n → w.cell? ⟨g, o + j, none⟩ = some (.bool (z j))

set_option maxHeartbeats 800000 in
set_option maxRecDepth 100000 in
theorem bitsIs_ok (W H : Int) (g1 o1 n c1 f : Nat) (capt : Array Value) (z : Nat → Bool) (w : World) (hn : n ≤ 100000000)
    (eg : ∀ (args : Array Value) (W : World), (callFunc f args).run Try.prog W = .ok (.enter f args) W)
    (h1 : ∀ j, j < n → w.cell? ⟨g1, o1 + j, none⟩ = some (.bool (z j)))
    (hc : ∀ wx, Below w.heap.size w wx → Calls Try.prog f capt wx fun e w' => ∃ v, e = .returned v ∧ PageB w' v W H n z ∧ Below wx.heap.size wx w') :
    Calls Try.prog 21 #[.agg #[.int .i64 W, .int .i64 H, .slice (some ⟨g1, o1, none⟩) n c1], .int .i64 0, .int .i64 0, .func (.func f) #[] capt] w fun e w' => e = .returned (.bool true) ∧ Below w.heap.size w w' := by
  have H1 := Lib.hid h1
  have HC := Lib.hid hc
  clear h1 hc
  go_enter Try.func21, Try.ntmps21
  go_wp2_with fail
  obtain ⟨w1, hw1⟩ : ∃ w1, w1 = w.alloc (.cells #[.int .i64 W, .int .i64 H, .slice (some ⟨g1, o1, none⟩) n c1] 24) := ⟨_, rfl⟩
  have B1 : Below w.heap.size w w1 := by rw [hw1]; exact new_below _ _
  obtain ⟨k0, k1, k2, _, _, _⟩ := block3 (w := w1) (b := w.heap.size) (x := .int .i64 W) (y := .int .i64 H) (z := .slice (some ⟨g1, o1, none⟩) n c1) (t := 24) (by rw [hw1]; exact heap_alloc_new _ _)
  rw [← hw1]
  clear hw1
  go_region_held3 (fun w' => w'.cell? ⟨w.heap.size, 0, none⟩ = some (.int .i64 W) ∧ w'.cell? ⟨w.heap.size, 1, none⟩ = some (.int .i64 H) ∧ w'.cell? ⟨w.heap.size, 2, none⟩ = some (.slice (some ⟨g1, o1, none⟩) n c1))
    (first | (go_keep; done) | (go_split_ands; exact ⟨cell_later hb5 (by assumption), cell_later hb5 (by assumption), cell_later hb5 (by assumption)⟩) | (go_split_ands; exact ⟨cell_later hb6 (by assumption), cell_later hb6 (by assumption), cell_later hb6 (by assumption)⟩))
    ((first | (go_at_fn f; refine (HC.out _ B1.drew).mono ?_; rintro e w5 ⟨v, rfl, hpg, hb5⟩; obtain ⟨g2, o2, c2, rfl, hz⟩ := hpg; have HZ := Lib.hid hz; clear hz) | (go_at_call 79; refine (sameBits_true W H g1 o1 g2 o2 n c1 c2 z w5 hn (fun j hj => cell_later (below_step B1.drew hb5) (H1.out j hj)) HZ.out).mono ?_; rintro e w6 ⟨rfl, hb6⟩)))
  go_wp2_with fail
  go_ret
  exact ⟨rfl, below_step (below_step B1.drew hb5) hb6⟩

end Go.Proofs.Ytcpgnfbjdokdcaa
namespace Go.Proofs.Ytcpgnfbjdokdcaa
open Go.RowKit
set_option linter.unusedSimpArgs false
set_option linter.unusedVariables false

set_option maxRecDepth 100000 in
theorem equalByte_true (g1 o1 g2 o2 n c1 c2 : Nat) (z : Nat → Int) (w : World) (hn : n ≤ 100000000)
    (h1 : ∀ j, j < n → w.cell? ⟨g1, o1 + j, none⟩ = some (.int .u8 (z j))) (h2 : ∀ j, j < n → w.cell? ⟨g2, o2 + j, none⟩ = some (.int .u8 (z j))) :
    Calls Try.prog 100 #[.slice (some ⟨g1, o1, none⟩) n c1, .slice (some ⟨g2, o2, none⟩) n c2] w fun e w' => e = .returned (.bool true) ∧ ∃ q, w' = w.drewN q := by
  have H1 := Lib.hid h1
  have H2 := Lib.hid h2
  clear h1 h2
  go_enter Try.func100, Try.ntmps100
  go_wp2
  go_loopw [13] (fun i wr => ∃ k q : Nat, k ≤ n ∧ i = .int .i64 k ∧ wr = w.drewN q) (fun i _ => n - (intOf i).toNat)
  case atStart => exact ⟨0, 0, Nat.zero_le _, rfl, rfl⟩
  case round =>
    obtain ⟨k, q, hk, rfl, rfl⟩ := hrel
    by_cases hlt : k < n
    · have e1 := H1.out k hlt
      have e2 := H2.out k hlt
      generalize z k = x at e1 e2
      have i1 : (k : Int) < (n : Int) := by omega
      have i0 : (0 : Int) ≤ (k : Int) := by omega
      go_wp2
      go_quiet (fail)
      go_wp2
      go_roundw
      case rel => exact ⟨k + 1, _, by omega, by go_num, rfl⟩
      case measure => simp [intOf]; omega
    · go_wp2
      go_ret
      exact ⟨rfl, q, rfl⟩

end Go.Proofs.Ytcpgnfbjdokdcaa
namespace Go.Proofs.Ytcpgnfbjdokdcaa
open Go.RowKit
set_option linter.unusedSimpArgs false
set_option linter.unusedVariables false
attribute [local go_sem ↓] Go.wp_at_zero Go.wp_at_succ

theorem noGray_zero (w : World) : Calls Try.prog 28 #[.agg #[.int .i64 0, .int .i64 0, .slice none 0 0]] w fun e w' => e = .returned (.bool true) ∧ Below w.heap.size w w' := by
  go_enter Try.func28, Try.ntmps28
  go_wp2
  go_ret
  exact ⟨rfl, new_below _ _⟩

theorem sameGray_true (W H : Int) (g1 o1 g2 o2 n c1 c2 : Nat) (z : Nat → Int) (w : World) (hn : n ≤ 100000000)
    (h1 : ∀ j, j < n → w.cell? ⟨g1, o1 + j, none⟩ = some (.int .u8 (z j))) (h2 : ∀ j, j < n → w.cell? ⟨g2, o2 + j, none⟩ = some (.int .u8 (z j))) :
    Calls Try.prog 29 #[.agg #[.int .i64 W, .int .i64 H, .slice (some ⟨g1, o1, none⟩) n c1], .agg #[.int .i64 W, .int .i64 H, .slice (some ⟨g2, o2, none⟩) n c2]] w fun e w' => e = .returned (.bool true) ∧ Below w.heap.size w w' := by
  have HE := Lib.hid (equalByte_true g1 o1 g2 o2 n c1 c2 z ((w.alloc (.cells #[.int .i64 W, .int .i64 H, .slice (some ⟨g1, o1, none⟩) n c1] 27)).alloc (.cells #[.int .i64 W, .int .i64 H, .slice (some ⟨g2, o2, none⟩) n c2] 27)) hn
    (fun j hj => cell_later (below_alloc (new_below _ _) _) (h1 j hj)) (fun j hj => cell_later (below_alloc (new_below _ _) _) (h2 j hj)))
  clear h1 h2
  go_enter Try.func29, Try.ntmps29
  go_wp2_with (go_at_call 100; refine HE.out.mono ?_; rintro e w1 ⟨rfl, q, rfl⟩)
  go_ret
  exact ⟨rfl, below_drewN (below_alloc (new_below _ _) _) q⟩

end Go.Proofs.Ytcpgnfbjdokdcaa
namespace Go.Proofs.Ytcpgnfbjdokdcaa
open Go.RowKit
set_option linter.unusedSimpArgs false
set_option linter.unusedVariables false
attribute [local go_sem ↓] Go.wp_at_zero Go.wp_at_succ

/-- What holds while Made runs: n values are there; they lie in a row of their own, which the page's variable leads to. -/
def MadeRelY (w h : Nat) (f : Nat → Nat → Int) (W0 : World) (n : Nat) (wr : World) (v : Value) : Prop :=
  wr.ownsRow (W0.heap.size + 2) 5 1 v n ((places w f n).map (Value.int .u8)) ∧ wr.heap[W0.heap.size]? = some (.cells #[.int .i64 0, .int .i64 0, .slice none 0 0] 27 (0, 0)) ∧
  wr.heap[W0.heap.size + 1]? = some (.cells #[.int .i64 w, .int .i64 h, v] 27 (0, 0)) ∧ Below W0.heap.size W0 wr

theorem MadeRelY.later {w h : Nat} {f : Nat → Nat → Int} {W0 wr w' : World} {n : Nat} {v : Value} (hr : MadeRelY w h f W0 n wr v) (hb : Below wr.heap.size wr w') : MadeRelY w h f W0 n w' v :=
  ⟨below_owns hr.1 hb, below_block hb hr.2.1, below_block hb hr.2.2.1, below_step hr.2.2.2 hb⟩

theorem MadeRelY.stored {w h : Nat} {f : Nat → Nat → Int} {W0 wr w1 : World} {v v' : Value} {x y : Nat} (hr : MadeRelY w h f W0 (y * w + x) wr v) (hx : x < w) (q : Int) (hq : q = f x y)
    (hown : w1.ownsRow (W0.heap.size + 2) 5 1 v' (y * w + x + 1) ((places w f (y * w + x)).map (Value.int .u8) ++ [Value.int .u8 q])) (hg : wr.grownBy w1 v.ownBlock) :
    MadeRelY w h f W0 (y * w + x + 1) (w1.setCell ⟨W0.heap.size + 1, 2, none⟩ v') v' := by
  obtain ⟨h1, h2, h3, h4⟩ := hr
  have hrow : ∀ k, v.ownBlock = some k → W0.heap.size + 2 ≤ k := fun k hk => (h1.lt k hk).1
  have n0 : some W0.heap.size ≠ v.ownBlock := fun e => by have := hrow _ e.symm; omega
  have n1 : some (W0.heap.size + 1) ≠ v.ownBlock := fun e => by have := hrow _ e.symm; omega
  refine ⟨?_, ?_, ?_, ?_⟩
  · rw [places_succ w f x y hx, List.map_append, ← hq]
    exact ownsRow_setCell_below hown (by simp) _
  · rw [Below.heap_setCell _ _ _ _ (by simp)]
    exact grown_block hg h2 n0
  · exact heap_setCell_same w1 (W0.heap.size + 1) 2 #[.int .i64 w, .int .i64 h, v] 27 v' (grown_block hg h3 n1)
  · exact (h4.grown hg h4.size (fun k hk => by have := hrow k hk; omega)).setCell (by simp) _

set_option maxHeartbeats 2000000 in
set_option maxRecDepth 100000 in
theorem madeGray_any (w h g : Nat) (capt : Array Value) (f : Nat → Nat → Int) (W0 : World) (hw : 1 ≤ w) (hw' : w ≤ 10000000) (hh : h ≤ 10000000) (hN : w * h ≤ 10000000)
    (eg : ∀ (args : Array Value) (W : World), (callFunc g args).run Try.prog W = .ok (.enter g args) W)
    (hc : ∀ (x y : Nat) (W : World), x < w → y < h → Below W0.heap.size W0 W → Calls Try.prog g (#[.int .i64 x, .int .i64 y] ++ capt) W fun e W' => e = .returned (.int .u8 (f x y)) ∧ Below W.heap.size W W') :
    Calls Try.prog 30 #[.int .i64 w, .int .i64 h, .func (.func g) #[] capt] W0 fun e W' =>
      ∃ v, e = .returned (.agg #[.int .i64 w, .int .i64 h, v]) ∧ W'.ownsRow W0.heap.size 5 1 v (w * h) ((places w f (w * h)).map (Value.int .u8)) ∧ Below W0.heap.size W0 W' := by
  obtain ⟨i0, hi, hz0, hz1, hz2⟩ := info_parts info_byte
  have HC := Lib.hid hc
  clear hc
  go_enter Try.func30, Try.ntmps30
  go_wp2_with fail
  obtain ⟨w1, hw1⟩ : ∃ w1, w1 = (W0.alloc (.cells #[.int .i64 0, .int .i64 0, .slice none 0 0] 27)).alloc (.cells #[.int .i64 w, .int .i64 h, .slice none 0 0] 27) := ⟨_, rfl⟩
  have B1 : Below W0.heap.size W0 w1 := by rw [hw1]; exact below_alloc (new_below _ _) _
  have b0 : w1.heap[W0.heap.size]? = some (.cells #[.int .i64 0, .int .i64 0, .slice none 0 0] 27 (0, 0)) := by
    rw [hw1, Below.heap_alloc _ _ _ (by simp)]; exact heap_alloc_new _ _
  have b1 : w1.heap[W0.heap.size + 1]? = some (.cells #[.int .i64 w, .int .i64 h, .slice none 0 0] 27 (0, 0)) := by
    rw [hw1]; simpa using heap_alloc_new (W0.alloc (.cells #[.int .i64 0, .int .i64 0, .slice none 0 0] 27)) (.cells #[.int .i64 w, .int .i64 h, .slice none 0 0] 27)
  rw [← hw1]
  clear hw1
  have R1 : MadeRelY w h f W0 0 w1 (.slice none 0 0) := ⟨by simpa [places] using World.ownsRow_nil _ _ _ _, b0, b1, B1⟩
  clear b0 b1 B1
  go_loopw [14] (fun i wr => ∃ (y : Nat) (v : Value), y ≤ h ∧ i = .int .i64 y ∧ MadeRelY w h f W0 (y * w) wr v) (fun i _ => h - (intOf i).toNat)
  case atStart => exact ⟨0, _, Nat.zero_le _, rfl, by simpa using R1⟩
  case round =>
    obtain ⟨y, v0, hy, rfl, hrel0⟩ := hrel
    clear R1
    by_cases hlt : y < h
    · obtain ⟨wo, rfl⟩ : ∃ wo : World, wo = wr := ⟨_, rfl⟩
      go_wp2_with fail
      go_loopw [18] (fun i wr => ∃ (x : Nat) (v : Value), x ≤ w ∧ i = .int .i64 x ∧ MadeRelY w h f W0 (y * w + x) wr v) (fun i _ => w - (intOf i).toNat)
      case atStart => exact ⟨0, v0, Nat.zero_le _, rfl, by simpa using hrel0⟩
      case round =>
        obtain ⟨x, v, hx, rfl, hrelr⟩ := hrel
        clear hrel0
        by_cases hltx : x < w
        · have HC' := HC.out x y
          have hfit := row_fits hlt (show x + 1 ≤ w by omega)
          obtain ⟨k0, k1, k2, r0, r1, r2⟩ := block3 hrelr.2.2.1
          have hl := World.block_lt_of_cell? _ _ k2
          simp only at hl
          have HR := Lib.hid hrelr
          obtain ⟨q, hq⟩ : ∃ q, q = f x y := ⟨_, rfl⟩
          rw [← hq] at HC'
          have HQ := Lib.hid hq
          have hnb : some (W0.heap.size + 1) ≠ v.ownBlock := fun e => by have := (hrelr.1.lt _ e.symm).1; omega
          clear hq hrelr k0 k1 r0 r1
          go_wp2_with fail
          go_region_law ((first | (go_simp; go_at_fn g; refine (HC' _ hltx hlt (HR.out.2.2.2.drew)).mono ?_; rintro e w' ⟨rfl, hb'⟩; have hrel' := HR.out.later (below_step (Below.refl _ _).drew hb'); have kk := cell_later (below_step (Below.refl _ _).drew hb') k2; have hl' := Nat.lt_of_lt_of_le hl hb'.size) | (refine step_append_lies _ (by rfl) _ _ _ (by rfl) (W0.heap.size + 2) 5 i0 (.int .u8 0) 1 1 Try.underlying25 hi hz0 hz1 hz2 rfl (by omega) v (y * w + x) _ (by rfl) (hrel'.1.alloc _) ⟨w'.heap.size, 0, none⟩ 1 1 [.int .u8 q] (by rfl) (by rfl) (cell_one_new _ _ _) (by simp [Value.oneCell']) (by omega) (by unfold maxLen; omega) (by omega) (by have := hrel'.2.2.2.size; have := World.block_lt_of_cell? _ _ (block3 hrel'.2.2.1).1; simp at this; simp; omega) (w'.heap.size + 1) (by simp) ?_; intro gg cap w5 hown5 hgrow hat hlt5; have hb5 := block3 (grown_block hgrow ((Below.heap_alloc _ _ _ (Array.getElem?_eq_some_iff.1 hrel'.2.2.1).1).trans hrel'.2.2.1) hnb); have hfz5 := hb5.2.2.2.2.2; have hcl5 := hb5.2.2.1; clear hb5)))
          all_goals
            have RR := (hrel'.later (new_below w' _)).stored hltx q HQ.out hown5 hgrow
            clear hown5 hgrow hat hlt5 hfz5 hcl5 hrel' kk hl' hb' HC' k2 hl hnb
            go_wp2_with fail
            go_roundw
            case rel => exact ⟨x + 1, _, by omega, by go_num, RR⟩
            case measure => simp [intOf]; omega
        · have hxe := Lib.hid (show x = w by omega)
          go_wp2_with fail
          go_roundw
          case rel => exact ⟨y + 1, v, by omega, by go_num, by rw [show (y + 1) * w = y * w + x by rw [hxe.out, Nat.add_mul, Nat.one_mul]]; exact hrelr⟩
          case measure => simp [intOf]; omega
    · have hye := Lib.hid (show y = h by omega)
      obtain ⟨va, vn, vc, rfl⟩ : ∃ a n c, v0 = .slice a n c := by
        rcases hrel0.1.2 with ⟨h0, _⟩ | ⟨g, cap, cur, h0, _⟩
        · exact ⟨_, _, _, h0⟩
        · exact ⟨_, _, _, h0⟩
      have HR := Lib.hid hrel0
      obtain ⟨k0, k1, k2, _, _, _⟩ := block3 hrel0.2.2.1
      obtain ⟨j0, j1, j2, r0, r1, r2⟩ := block3 hrel0.2.1
      clear hrel0
      go_wp2_with fail
      refine bodyPost_ret (v := .agg #[.int .i64 w, .int .i64 h, .slice va vn vc]) (by simp [results, Try.results30, go_sem, j0, j1, j2]) rfl ⟨_, rfl, ?_, ?_⟩
      · have h1 := HR.out.1
        rw [hye.out, Nat.mul_comm h w] at h1
        exact owns_base (ownsRow_setCell_below (ownsRow_setCell_below (ownsRow_setCell_below h1 (by simp) _) (by simp) _) (by simp) _) (by omega)
      · exact ((HR.out.2.2.2.setCell (by simp) _).setCell (by simp) _).setCell (by simp) _

end Go.Proofs.Ytcpgnfbjdokdcaa
namespace Go.Proofs.Ytcpgnfbjdokdcaa
open Go.RowKit
set_option linter.unusedSimpArgs false
set_option linter.unusedVariables false

theorem index_none (g n c : Nat) (w : World) (hn : n ≤ 100000000) (h1 : ∀ j, j < n → w.cell? ⟨g, 0 + j, none⟩ = some (.bool false)) :
    Calls Try.prog 95 #[.slice (some ⟨g, 0, none⟩) n c, .bool true] w fun e w' => e = .returned (.int .i64 (-1)) ∧ w = w' := by
  have H1 := Lib.hid h1
  clear h1
  go_enter Try.func95, Try.ntmps95
  go_wp2
  go_loop [8] (fun i => ∃ k : Nat, k ≤ n ∧ i = .int .i64 k) (fun i => n - (intOf i).toNat)
  case atStart => exact ⟨0, Nat.zero_le _, rfl⟩
  case round =>
    obtain ⟨k, hk, rfl⟩ := hrel
    by_cases hlt : k < n
    · have e1 := H1.out k hlt
      rw [Nat.zero_add] at e1
      have i1 : (k : Int) < (n : Int) := by omega
      go_wp2
      go_round
      case rel => exact ⟨k + 1, by omega, by go_num⟩
      case measure => simp [intOf]; omega
    · go_wp2
      go_ret
      exact ⟨rfl, rfl⟩

theorem contains_no (g n c : Nat) (w : World) (hn : n ≤ 100000000) (h1 : ∀ j, j < n → w.cell? ⟨g, 0 + j, none⟩ = some (.bool false)) :
    Calls Try.prog 19 #[.slice (some ⟨g, 0, none⟩) n c, .bool true] w fun e w' => e = .returned (.bool false) ∧ w = w' := by
  have H1 := Lib.hid (index_none g n c w hn h1)
  clear h1
  go_enter Try.func19, Try.ntmps19
  go_wp2_with (go_at_call 95; refine H1.out.mono ?_; rintro e w1 ⟨rfl, rfl⟩)
  go_ret
  exact ⟨rfl, rfl⟩

set_option maxRecDepth 100000 in
theorem cutOf1_any (W H X Y bw bh x y pb xb g o n c : Nat) (q : Bool) (w : World) (hW : W ≤ 4000) (hH : H ≤ 4000) (hX : X + bw ≤ W) (hY : Y + bh ≤ H) (hx : x < bw) (hy : y < bh) (hn : n = W * H)
    (c1 : w.cell? ⟨pb, 0, none⟩ = some (.int .i64 W)) (c1' : w.cell? ⟨pb, 1, none⟩ = some (.int .i64 H)) (c1'' : w.cell? ⟨pb, 2, none⟩ = some (.slice (some ⟨g, o, none⟩) n c)) (c2 : w.cell? ⟨xb, 0, none⟩ = some (.int .i64 X)) (c3 : w.cell? ⟨xb, 1, none⟩ = some (.int .i64 Y))
    (hc : w.cell? ⟨g, o + ((Y + y) * W + X + x), none⟩ = some (.bool q)) :
    Calls Try.prog 98 #[.int .i64 x, .int .i64 y, .pointer (some ⟨pb, 0, none⟩), .pointer (some ⟨xb, 0, none⟩)] w fun e w' => e = .returned (.bool q) ∧ Below w.heap.size w w' := by
  subst hn
  have hA := at_in W H g o c (X + x) (Y + y) q w (by omega) (by omega) (by omega) (by omega) (by rw [show o + ((Y + y) * W + (X + x)) = o + ((Y + y) * W + X + x) by omega]; exact hc)
  rw [show ((X + x : Nat) : Int) = (X : Int) + (x : Int) by omega, show ((Y + y : Nat) : Int) = (Y : Int) + (y : Int) by omega] at hA
  have HA := Lib.hid hA
  clear hA hc
  go_enter Try.func98, Try.ntmps98
  go_wp2_with (go_at_call 41; refine HA.out.mono ?_; rintro e w1 ⟨rfl, hb1⟩)
  go_ret
  exact ⟨rfl, hb1⟩

set_option maxHeartbeats 400000 in
set_option maxRecDepth 100000 in
theorem cutOf_any (W H X Y bw bh g o n c : Nat) (z : Nat → Bool) (w : World) (hW : W ≤ 4000) (hH : H ≤ 4000) (hX : X + bw ≤ W) (hY : Y + bh ≤ H) (hb1 : 1 ≤ bw) (hb2 : 1 ≤ bh) (hn : n = W * H) (hN : n ≤ 1048576)
    (hc : ∀ j, j < n → w.cell? ⟨g, o + j, none⟩ = some (.bool (z j))) :
    Calls Try.prog 26 #[.agg #[.int .i64 W, .int .i64 H, .slice (some ⟨g, o, none⟩) n c], .agg #[.int .i64 X, .int .i64 Y, .int .i64 bw, .int .i64 bh]] w fun e w' =>
      ∃ v, e = .returned (.agg #[.int .i64 bw, .int .i64 bh, v]) ∧ w'.ownsRow w.heap.size 4 1 v (bw * bh) ((places bw (fun x y => z ((Y + y) * W + X + x)) (bw * bh)).map Value.bool) ∧ Below w.heap.size w w' := by
  have hmf : ∀ (fn : Fn) (first cap : Array Value) (w : World), (Instr.makeFunc fn first cap).run Try.prog w = .ok (.func fn first cap) w := fun _ _ _ _ => rfl
  have HC := Lib.hid hc
  have HN := Lib.hid hn
  clear hc hn
  go_enter Try.func26, Try.ntmps26
  go_wp2_with fail
  obtain ⟨w1, hw1⟩ : ∃ w1, w1 = ((w.alloc (.cells #[.int .i64 W, .int .i64 H, .slice (some ⟨g, o, none⟩) n c] 24)).alloc (.cells #[.int .i64 X, .int .i64 Y, .int .i64 bw, .int .i64 bh] 29)).alloc (.cells #[.int .i64 0, .int .i64 0, .slice none 0 0] 24) := ⟨_, rfl⟩
  have B1 : Below w.heap.size w w1 := by rw [hw1]; exact below_alloc (below_alloc (new_below _ _) _) _
  have q0 : w1.cell? ⟨w.heap.size, 0, none⟩ = some (.int .i64 W) := by rw [hw1]; go_simp
  have q1 : w1.cell? ⟨w.heap.size, 1, none⟩ = some (.int .i64 H) := by rw [hw1]; go_simp
  have q2 : w1.cell? ⟨w.heap.size, 2, none⟩ = some (.slice (some ⟨g, o, none⟩) n c) := by rw [hw1]; go_simp
  have q3 : w1.cell? ⟨w.heap.size + 1, 0, none⟩ = some (.int .i64 X) := by rw [hw1]; go_simp
  have q4 : w1.cell? ⟨w.heap.size + 1, 1, none⟩ = some (.int .i64 Y) := by rw [hw1]; go_simp
  have qb : w1.heap[w.heap.size + 1 + 1]? = some (.cells #[.int .i64 0, .int .i64 0, .slice none 0 0] 24 (0, 0)) := by
    rw [hw1]
    simpa using heap_alloc_new ((w.alloc (.cells #[.int .i64 W, .int .i64 H, .slice (some ⟨g, o, none⟩) n c] 24)).alloc (.cells #[.int .i64 X, .int .i64 Y, .int .i64 bw, .int .i64 bh] 29)) (.cells #[.int .i64 0, .int .i64 0, .slice none 0 0] 24)
  rw [← hw1]
  clear hw1
  have lt3 := (Array.getElem?_eq_some_iff.1 qb).1
  have hbb := Nat.mul_le_mul (show bw ≤ W by omega) (show bh ≤ H by omega)
  rw [← HN.out] at hbb
  refine (made_any bw bh 98 _ (fun x y => z ((Y + y) * W + X + x)) w1 hb1 (by omega) (by omega) (by omega) (Go.Proofs.enters_of Try.func98 (by kernel_rfl) rfl) ?_).mono ?_
  · intro x y wx hx hy hbx
    have hlt := in_page_lt hX hY hx hy
    rw [← HN.out] at hlt
    exact cutOf1_any W H X Y bw bh x y w.heap.size (w.heap.size + 1) g o n c _ wx hW hH hX hY hx hy HN.out (cell_later hbx q0) (cell_later hbx q1) (cell_later hbx q2) (cell_later hbx q3) (cell_later hbx q4) (cell_later hbx (cell_later B1 (HC.out _ hlt)))
  · rintro e w5 ⟨v, rfl, hown, hb5⟩
    obtain ⟨j0, j1, j2, r0, r1, r2⟩ := block3 (below_block hb5 qb)
    obtain ⟨va, vn, vc, rfl⟩ := owns_shape hown
    have F := Lib.hid hown
    have G := Lib.hid hb5
    have L := Lib.hid lt3
    clear hown hb5 hbb lt3 q0 q1 q2 q3 q4
    go_wp2_with fail
    refine bodyPost_ret (v := .agg #[.int .i64 bw, .int .i64 bh, .slice va vn vc]) (by simp [results, Try.results26, go_sem, j0, j1, j2]) rfl ⟨_, rfl, owns_far3 F.out L.out B1.size, below_far3 (below_step B1 G.out) (by omega)⟩

end Go.Proofs.Ytcpgnfbjdokdcaa
namespace Go.Proofs.Ytcpgnfbjdokdcaa
open Go.ChangeShapes Go.WideShapes Go.ChangeAt Go.RowKit Go.Joins
open Go.ChangeMaps (open_string shut_string)
set_option linter.unusedVariables false

theorem own : ownKnob Try.prog.godebug = none := by kernel_rfl
theorem laidOut : laidOutB Try.prog = true := by kernel_rfl
theorem cellsGray : Try.prog.cellsOf 27 = 3 := by kernel_rfl
theorem cellsBits : Try.prog.cellsOf 24 = 3 := by kernel_rfl
theorem cellsByte : Try.prog.cellsOf 5 = 1 := by kernel_rfl

/-- A slice of bytes that came in: nil; or its cells hold the numbers zs, each a byte. -/
def IsBytes (w : World) (a : Option Addr) (len cap : Nat) (zs : List Int) : Prop :=
  (a = none ∧ len = 0 ∧ cap = 0 ∧ zs = []) ∨
  ∃ x, a = some x ∧ len ≤ cap ∧ zs.length = cap ∧ (∀ i, i < zs.length → w.cell? (x.add i) = some (.int .u8 (zs.getD i 0))) ∧ ∀ n ∈ zs, (Lit.int .u8 n).wf = true

theorem isBytes_cells {w : World} {a : Option Addr} {len cap : Nat} {zs : List Int} (h : IsBytes w a len cap zs) (hl : 1 ≤ len) :
    ∃ pb po, a = some ⟨pb, po, none⟩ ∧ (∀ j, j < len → w.cell? ⟨pb, po + j, none⟩ = some (.int .u8 (zs.getD j 0))) ∧ ∀ j, 0 ≤ zs.getD j 0 ∧ zs.getD j 0 ≤ 255 := by
  rcases h with ⟨_, h0, _⟩ | ⟨⟨pb, po, spot⟩, rfl, hlc, hz, hcell, hwf⟩
  · omega
  · have hspot : spot = none := by simpa [Addr.add] using World.cell?_spot (hcell 0 (by omega))
    subst hspot
    refine ⟨pb, po, rfl, fun j hj => by have := hcell j (by omega); rwa [Addr.add_lit] at this, fun j => ?_⟩
    by_cases hj : j < zs.length
    · have hm : zs.getD j 0 ∈ zs := by rw [List.getD_eq_getElem?_getD, List.getElem?_eq_getElem hj]; exact List.getElem_mem hj
      have hmin : IntKind.u8.min = 0 := rfl
      have hmax : IntKind.u8.max = 255 := rfl
      have := hwf _ hm
      simp only [Lit.wf, Bool.and_eq_true, decide_eq_true_eq] at this
      omega
    · rw [List.getD_eq_getElem?_getD, List.getElem?_eq_none (by omega)]
      simp

set_option maxRecDepth 100000 in
/-- A page in grey by value, opened. -/
theorem open_gray {W : World} {H : Type} {enc : TypeId × Value → H} {base : Nat} {held : Bool} {r : Reach} {b0 : Nat} {v : Value} {d : DataW H} {p : List MemPlace}
    (hv : Value.okWide Try.prog W r b0 27 v) (h : DataW.Trod enc Try.prog W base (fun _ => true) held 27 v d p) :
    ∃ a b s n c zs, v = .agg #[.int .i64 a, .int .i64 b, .slice s n c] ∧ IsBytes W s n c zs := by
  obtain ⟨c0, c1, c2, y0, y1, y2, m, rfl, rfl, rfl, hy0, hy1, hy2⟩ := open_agg3 Try.underlying27 (by kernel_rfl) cellsGray hv h
  obtain ⟨a, e0, rfl, wa⟩ := DataW.trod_int Try.underlying3 hy0
  obtain ⟨b, e1, rfl, wb⟩ := DataW.trod_int Try.underlying3 hy1
  simp at e0 e1
  subst e0 e1
  rcases open_ints Try.underlying25 Try.underlying5 cellsByte hy2 with ⟨hcs, _⟩ | ⟨x, l, c, zs, hcs, _, hl, hm, hz, _, hcell, hwz⟩
  · simp at hcs
    subst hcs
    exact ⟨a, b, none, 0, 0, [], rfl, .inl ⟨rfl, rfl, rfl, rfl⟩⟩
  · simp at hcs
    subst hcs
    exact ⟨a, b, some x, l, c, zs, rfl, .inr ⟨x, rfl, hl, by simpa using hz, hcell, hwz⟩⟩

theorem cellsBool : Try.prog.cellsOf 4 = 1 := by kernel_rfl

/-- A slice of bools that came in: nil; or its cells hold what B tells. -/
def IsBools (w : World) (a : Option Addr) (len cap : Nat) (B : Nat → Bool) : Prop :=
  (a = none ∧ len = 0 ∧ cap = 0) ∨ ∃ x, a = some x ∧ ∀ i, i < len → w.cell? (x.add i) = some (.bool (B i))

theorem isBools_cells {w : World} {a : Option Addr} {len cap : Nat} {B : Nat → Bool} (h : IsBools w a len cap B) (hl : 1 ≤ len) :
    ∃ pb po, a = some ⟨pb, po, none⟩ ∧ ∀ j, j < len → w.cell? ⟨pb, po + j, none⟩ = some (.bool (B j)) := by
  rcases h with ⟨_, h0, _⟩ | ⟨⟨pb, po, spot⟩, rfl, hcell⟩
  · omega
  · have hspot : spot = none := by simpa [Addr.add] using World.cell?_spot (hcell 0 (by omega))
    subst hspot
    exact ⟨pb, po, rfl, fun j hj => by have := hcell j hj; rwa [Addr.add_lit] at this⟩

theorem isBools_later {w w' : World} {a : Option Addr} {len cap : Nat} {B : Nat → Bool} (h : IsBools w a len cap B) (hb : Below w.heap.size w w') : IsBools w' a len cap B := by
  rcases h with h | ⟨x, h1, h2⟩
  · exact .inl h
  · exact .inr ⟨x, h1, fun i hi => (hb.cell (World.block_lt_of_cell? _ _ (h2 i hi))).trans (h2 i hi)⟩

theorem isBytes_later {w w' : World} {a : Option Addr} {len cap : Nat} {zs : List Int} (h : IsBytes w a len cap zs) (hb : Below w.heap.size w w') : IsBytes w' a len cap zs := by
  rcases h with h | ⟨x, h1, h2, h3, h4, h5⟩
  · exact .inl h
  · exact .inr ⟨x, h1, h2, h3, fun i hi => (hb.cell (World.block_lt_of_cell? _ _ (h4 i hi))).trans (h4 i hi), h5⟩

set_option maxRecDepth 100000 in
/-- A page in black and white by value, opened. -/
theorem open_bits {W : World} {H : Type} {enc : TypeId × Value → H} {base : Nat} {held : Bool} {r : Reach} {b0 : Nat} {v : Value} {d : DataW H} {p : List MemPlace}
    (hv : Value.okWide Try.prog W r b0 24 v) (h : DataW.Trod enc Try.prog W base (fun _ => true) held 24 v d p) :
    ∃ a b s n c B, v = .agg #[.int .i64 a, .int .i64 b, .slice s n c] ∧ IsBools W s n c B := by
  obtain ⟨c0, c1, c2, y0, y1, y2, m, rfl, rfl, rfl, hy0, hy1, hy2⟩ := open_agg3 Try.underlying24 (by kernel_rfl) cellsBits hv h
  obtain ⟨a, e0, rfl, wa⟩ := DataW.trod_int Try.underlying3 hy0
  obtain ⟨b, e1, rfl, wb⟩ := DataW.trod_int Try.underlying3 hy1
  simp at e0 e1
  subst e0 e1
  rcases Go.Deep.open_bools Try.underlying22 Try.underlying4 cellsBool hy2 with ⟨hcs, _⟩ | ⟨x, l, c, B, hcs, _, hl, hm, _, hcell⟩
  · simp at hcs
    subst hcs
    exact ⟨a, b, none, 0, 0, fun _ => false, rfl, .inl ⟨rfl, rfl, rfl⟩⟩
  · simp at hcs
    subst hcs
    exact ⟨a, b, some x, l, c, B, rfl, .inr ⟨x, rfl, fun i hi => hcell i (by omega)⟩⟩

end Go.Proofs.Ytcpgnfbjdokdcaa
namespace Go.Proofs.Ytcpgnfbjdokdcaa
open Go.RowKit
set_option linter.unusedSimpArgs false
set_option linter.unusedVariables false

instance (X Y bw bh W H : Int) : Decidable (InP X Y bw bh W H) := by unfold InP; infer_instance

/-- The error of a cut: of the page, else of the box. -/
def cutErr (a b : Int) (n : Nat) (X Y bw bh : Int) : Int := if pageErr a b n = 0 then (if InP X Y bw bh a b then 0 else 13) else pageErr a b n

theorem page_parts {a b : Int} {n : Nat} (h : pageErr a b n = 0) : sizeErr a b = 0 ∧ (n : Int) = a * b := by
  unfold pageErr at h
  by_cases h0 : sizeErr a b = 0
  · rw [if_pos h0] at h
    by_cases h1 : (n : Int) = a * b
    · exact ⟨h0, h1⟩
    · rw [if_neg h1] at h; simp at h
  · rw [if_neg h0] at h; exact absurd h h0

/-- The numbers of a right page. -/
theorem page_nat {a b : Int} {n : Nat} (h : pageErr a b n = 0) : ∃ W H : Nat, a = W ∧ b = H ∧ n = W * H ∧ 1 ≤ W ∧ W ≤ 4000 ∧ 1 ≤ H ∧ H ≤ 4000 ∧ n ≤ 1048576 ∧ sizeErr (W : Int) (H : Int) = 0 := by
  obtain ⟨he, hn⟩ := page_parts h
  obtain ⟨⟨a1, a2, a3, a4⟩, z0, z1⟩ := sizeErr_zero he
  obtain ⟨W, rfl⟩ := Int.eq_ofNat_of_zero_le (by omega : 0 ≤ a)
  obtain ⟨H, rfl⟩ := Int.eq_ofNat_of_zero_le (by omega : 0 ≤ b)
  refine ⟨W, H, rfl, rfl, ?_, by omega, by omega, by omega, by omega, by omega, he⟩
  have : (n : Int) = ((W * H : Nat) : Int) := by rw [hn, Int.natCast_mul]
  omega

/-- The numbers of a box in a right page. -/
theorem box_nat {X Y bw bh : Int} {W H : Nat} (h : InP X Y bw bh W H) : ∃ x y p q : Nat, X = x ∧ Y = y ∧ bw = p ∧ bh = q ∧ x + p ≤ W ∧ y + q ≤ H ∧ 1 ≤ p ∧ 1 ≤ q := by
  obtain ⟨h1, h2, h3, h4⟩ := h
  obtain ⟨x, rfl⟩ := Int.eq_ofNat_of_zero_le h1.1
  obtain ⟨y, rfl⟩ := Int.eq_ofNat_of_zero_le h2.1
  obtain ⟨p, rfl⟩ := Int.eq_ofNat_of_zero_le (by omega : 0 ≤ bw)
  obtain ⟨q, rfl⟩ := Int.eq_ofNat_of_zero_le (by omega : 0 ≤ bh)
  exact ⟨x, y, p, q, rfl, rfl, rfl, rfl, by omega, by omega, by omega, by omega⟩

theorem owns_pageB {w : World} {base : Nat} {v : Value} {N bw : Nat} {f : Nat → Nat → Bool} (h : w.ownsRow base 4 1 v N ((places bw f N).map Value.bool)) (hN : 1 ≤ N) :
    ∃ g c, v = .slice (some ⟨g, 0, none⟩) N c ∧ base ≤ g ∧ ∀ j, j < N → w.cell? ⟨g, 0 + j, none⟩ = some (.bool (f (j % bw) (j / bw))) := by
  rcases h.2 with ⟨_, h0⟩ | ⟨g, c, cur, rfl, hg, _⟩
  · omega
  · exact ⟨g, c, rfl, hg, fun j hj => by rw [Nat.zero_add, h.cellAt j (by omega)]; simp [places, List.getElem?_range hj]⟩

theorem owns_pageY {w : World} {base : Nat} {v : Value} {N bw : Nat} {f : Nat → Nat → Int} (h : w.ownsRow base 5 1 v N ((places bw f N).map (Value.int .u8))) (hN : 1 ≤ N) :
    ∃ g c, v = .slice (some ⟨g, 0, none⟩) N c ∧ base ≤ g ∧ ∀ j, j < N → w.cell? ⟨g, 0 + j, none⟩ = some (.int .u8 (f (j % bw) (j / bw))) := by
  rcases h.2 with ⟨_, h0⟩ | ⟨g, c, cur, rfl, hg, _⟩
  · omega
  · exact ⟨g, c, rfl, hg, fun j hj => by rw [Nat.zero_add, h.cellAt j (by omega)]; simp [places, List.getElem?_range hj]⟩

/-- What a cut is, in memory: nothing with an error; else the places of the box. -/
def CutIs (a b : Int) (n : Nat) (X Y bw bh : Int) (z : Nat → Bool) (B : Nat) (w : World) (i j : Int) (sl : Option Addr) (n' c' : Nat) : Prop :=
  (cutErr a b n X Y bw bh ≠ 0 ∧ i = 0 ∧ j = 0 ∧ sl = none ∧ n' = 0 ∧ c' = 0) ∨
  (cutErr a b n X Y bw bh = 0 ∧ i = bw ∧ j = bh ∧ n' = bw.toNat * bh.toNat ∧ ∃ g, B ≤ g ∧ sl = some ⟨g, 0, none⟩ ∧ ∀ k, k < n' → w.cell? ⟨g, 0 + k, none⟩ = some (.bool (z ((Y.toNat + k / bw.toNat) * a.toNat + X.toNat + k % bw.toNat))))

theorem CutIs.later {a b : Int} {n : Nat} {X Y bw bh : Int} {z : Nat → Bool} {B : Nat} {w w' : World} {i j : Int} {sl : Option Addr} {n' c' : Nat} (h : CutIs a b n X Y bw bh z B w i j sl n' c') (hb : Below w.heap.size w w') : CutIs a b n X Y bw bh z B w' i j sl n' c' := by
  rcases h with h | ⟨h1, h2, h3, h4, g, h5, h6, h7⟩
  · exact .inl h
  · exact .inr ⟨h1, h2, h3, h4, g, h5, h6, fun k hk => cell_later hb (h7 k hk)⟩
theorem CutIs.far3 {a b : Int} {n : Nat} {X Y bw bh : Int} {z : Nat → Bool} {B N : Nat} {w : World} {i j : Int} {sl : Option Addr} {n' c' : Nat} (h : CutIs a b n X Y bw bh z B w i j sl n' c') (hN : N < B) (x y u : Value) : CutIs a b n X Y bw bh z B (((w.setCell ⟨N, 0, none⟩ x).setCell ⟨N, 1, none⟩ y).setCell ⟨N, 2, none⟩ u) i j sl n' c' := by
  rcases h with h | ⟨h1, h2, h3, h4, g, h5, h6, h7⟩
  · exact .inl h
  · exact .inr ⟨h1, h2, h3, h4, g, h5, h6, fun k hk => cell_far3 (show g ≠ N by omega) (h7 k hk)⟩

theorem cut_any (a b X Y bw bh : Int) (s : Option Addr) (n c : Nat) (z : Nat → Bool) (w : World) (hs : IsBools w s n c z) :
    Calls Try.prog 20 #[.agg #[.int .i64 a, .int .i64 b, .slice s n c], .agg #[.int .i64 X, .int .i64 Y, .int .i64 bw, .int .i64 bh]] w fun e w' =>
      ∃ i j sl n' c', e = .returned (.tuple #[.agg #[.int .i64 i, .int .i64 j, .slice sl n' c'], .int .i64 (cutErr a b n X Y bw bh)]) ∧ CutIs a b n X Y bw bh z w.heap.size w' i j sl n' c' ∧ Below w.heap.size w w' := by
  by_cases h : pageErr a b n = 0
  · obtain ⟨W, H, rfl, rfl, hn, w1, w2, h1, h2, hN, he⟩ := page_nat h
    by_cases hb : InP X Y bw bh W H
    · have hE : cutErr W H n X Y bw bh = 0 := by unfold cutErr; rw [if_pos h, if_pos hb]
      obtain ⟨x, y, p, q, rfl, rfl, rfl, rfl, e1, e2, e3, e4⟩ := box_nat hb
      obtain ⟨g, o, rfl, hc⟩ := isBools_cells hs (by rw [hn]; exact Nat.mul_pos w1 h1)
      refine (cut_ok W H x y p q g o n c z w he hn e1 e2 e3 e4 hc).mono ?_
      rintro e w' ⟨v, rfl, hown, hbel⟩
      obtain ⟨g', c', rfl, hg', hz⟩ := owns_pageB hown (Nat.mul_pos e3 e4)
      exact ⟨_, _, _, _, _, by rw [hE], .inr ⟨hE, rfl, rfl, by simp, g', hg', rfl, by simpa using hz⟩, hbel⟩
    · have hE : cutErr W H n X Y bw bh = 13 := by unfold cutErr; rw [if_pos h, if_neg hb]
      refine (cut_badBox W H X Y bw bh s n c w h he hb).mono ?_
      rintro e w' ⟨rfl, hbel⟩
      exact ⟨0, 0, none, 0, 0, by rw [hE], .inl ⟨by rw [hE]; decide, rfl, rfl, rfl, rfl, rfl⟩, hbel⟩
  · have hE : cutErr a b n X Y bw bh = pageErr a b n := by unfold cutErr; rw [if_neg h]
    refine (cut_badPage a b X Y bw bh s n c w h).mono ?_
    rintro e w' ⟨rfl, hbel⟩
    exact ⟨0, 0, none, 0, 0, by rw [hE], .inl ⟨by rw [hE]; exact h, rfl, rfl, rfl, rfl, rfl⟩, hbel⟩

/-- InPage, for whatever page. -/
theorem inPage_any (X Y bw bh a b : Int) (w : World) :
    Calls Try.prog 24 #[.agg #[.int .i64 X, .int .i64 Y, .int .i64 bw, .int .i64 bh], .int .i64 a, .int .i64 b] w fun e w' => ∃ q, e = .returned (.bool q) ∧ (sizeErr a b = 0 → q = decide (InP X Y bw bh a b)) ∧ Below w.heap.size w w' := by
  by_cases h : sizeErr a b = 0
  · have hz := (sizeErr_zero h).1
    by_cases hb : InP X Y bw bh a b
    · refine (inPage_yes X Y bw bh a b w (by omega) (by omega) hb).mono ?_
      rintro e w' ⟨rfl, hbel⟩
      exact ⟨true, rfl, fun _ => (decide_eq_true hb).symm, hbel⟩
    · refine (inPage_no X Y bw bh a b w (by omega) (by omega) hb).mono ?_
      rintro e w' ⟨rfl, hbel⟩
      exact ⟨false, rfl, fun _ => (decide_eq_false hb).symm, hbel⟩
  · refine (inPage_some X Y bw bh a b w).mono ?_
    rintro e w' ⟨⟨q, rfl⟩, hbel⟩
    exact ⟨q, rfl, fun k => absurd k h, hbel⟩

theorem want_cut {a b X Y bw bh : Int} {n : Nat} {q : Bool} (hq : sizeErr a b = 0 → q = decide (InP X Y bw bh a b)) : orI (pageErr a b n) (whenI (!q) 13) = cutErr a b n X Y bw bh := by
  unfold orI cutErr whenI
  by_cases h : pageErr a b n = 0
  · rw [if_pos h, if_pos h, hq (page_parts h).1]
    by_cases hb : InP X Y bw bh a b <;> simp [hb]
  · rw [if_neg h, if_neg h]

end Go.Proofs.Ytcpgnfbjdokdcaa
namespace Go.Proofs.Ytcpgnfbjdokdcaa
open Go.RowKit
set_option linter.unusedSimpArgs false
set_option linter.unusedVariables false

set_option maxRecDepth 100000 in
theorem cuts1_any (W H X Y bw bh pb xb g o n c : Nat) (z : Nat → Bool) (w : World) (hW : W ≤ 4000) (hH : H ≤ 4000) (hX : X + bw ≤ W) (hY : Y + bh ≤ H) (hb1 : 1 ≤ bw) (hb2 : 1 ≤ bh) (hn : n = W * H) (hN : n ≤ 1048576)
    (hc : ∀ j, j < n → w.cell? ⟨g, o + j, none⟩ = some (.bool (z j)))
    (c0 : w.cell? ⟨pb, 0, none⟩ = some (.int .i64 W)) (c1 : w.cell? ⟨pb, 1, none⟩ = some (.int .i64 H)) (c2 : w.cell? ⟨pb, 2, none⟩ = some (.slice (some ⟨g, o, none⟩) n c))
    (d0 : w.cell? ⟨xb, 0, none⟩ = some (.int .i64 X)) (d1 : w.cell? ⟨xb, 1, none⟩ = some (.int .i64 Y)) (d2 : w.cell? ⟨xb, 2, none⟩ = some (.int .i64 bw)) (d3 : w.cell? ⟨xb, 3, none⟩ = some (.int .i64 bh)) :
    Calls Try.prog 25 #[.pointer (some ⟨pb, 0, none⟩), .pointer (some ⟨xb, 0, none⟩)] w fun e w' =>
      ∃ v, e = .returned v ∧ PageB w' v bw bh (bw * bh) (fun j => z ((Y + j / bw) * W + X + j % bw)) ∧ Below w.heap.size w w' := by
  have lp := World.block_lt_of_cell? _ _ c0
  have lx := World.block_lt_of_cell? _ _ d0
  simp only at lp lx
  obtain ⟨w1, hw1⟩ : ∃ w1, w1 = w.alloc (.cells #[.int .i64 0, .int .i64 0, .slice none 0 0] 24) := ⟨_, rfl⟩
  have B1 : Below w.heap.size w w1 := by rw [hw1]; exact new_below _ _
  have qb : w1.heap[w.heap.size]? = some (.cells #[.int .i64 0, .int .i64 0, .slice none 0 0] 24 (0, 0)) := by rw [hw1]; exact heap_alloc_new _ _
  have HK := Lib.hid (cutOf_any W H X Y bw bh g o n c z w1 hW hH hX hY hb1 hb2 hn hN (fun j hj => cell_later B1 (hc j hj)))
  have HW := Lib.hid hw1
  have L := Lib.hid (Array.getElem?_eq_some_iff.1 qb).1
  have HN := Lib.hid hn
  clear hw1 hc hn
  go_enter Try.func25, Try.ntmps25
  go_wp2_with fail
  rw [← HW.out]
  refine HK.out.mono ?_
  rintro e w5 ⟨v, rfl, hown, hb5⟩
  obtain ⟨j0, j1, j2, r0, r1, r2⟩ := block3 (below_block hb5 qb)
  obtain ⟨g', c', rfl, _, hz⟩ := owns_pageB hown (Nat.mul_pos hb1 hb2)
  have hgb := (hown.lt g' rfl).1
  have ZC := Lib.hid hz
  have G := Lib.hid hb5
  clear hown hb5 hz qb c0 c1 c2 d0 d1 d2 d3
  go_wp2_with fail
  refine bodyPost_ret (v := .agg #[.int .i64 bw, .int .i64 bh, .slice (some ⟨g', 0, none⟩) (bw * bh) c']) (by simp [results, Try.results25, go_sem, j0, j1, j2]) rfl ⟨_, rfl, ⟨g', 0, c', rfl, fun j hj => ?_⟩, below_far3 (below_step B1 G.out) (Nat.le_refl _)⟩
  exact cell_far3 (show g' ≠ w.heap.size by have := L.out; omega) (ZC.out j hj)

set_option maxRecDepth 100000 in
theorem cuts2_any (W H X Y bw bh x y pb xb g o n c : Nat) (q : Int) (w : World) (hW : W ≤ 4000) (hH : H ≤ 4000) (hX : X + bw ≤ W) (hY : Y + bh ≤ H) (hx : x < bw) (hy : y < bh) (hn : n = W * H)
    (c0 : w.cell? ⟨pb, 0, none⟩ = some (.int .i64 W)) (c1 : w.cell? ⟨pb, 2, none⟩ = some (.slice (some ⟨g, o, none⟩) n c)) (c2 : w.cell? ⟨xb, 0, none⟩ = some (.int .i64 X)) (c3 : w.cell? ⟨xb, 1, none⟩ = some (.int .i64 Y))
    (hc : w.cell? ⟨g, o + ((Y + y) * W + X + x), none⟩ = some (.int .u8 q)) :
    Calls Try.prog 31 #[.int .i64 x, .int .i64 y, .pointer (some ⟨pb, 0, none⟩), .pointer (some ⟨xb, 0, none⟩)] w fun e w' => e = .returned (.int .u8 q) ∧ w = w' := by
  have hlt := in_page_lt hX hY hx hy
  rw [← hn] at hlt
  have m0 : (0 : Int) ≤ ((Y : Int) + (y : Int)) * (W : Int) := Int.mul_nonneg (by omega) (by omega)
  have m1 : ((Y : Int) + (y : Int)) * (W : Int) + (X : Int) + (x : Int) < (n : Int) := by
    have : (((Y + y) * W + X + x : Nat) : Int) < (n : Int) := by omega
    simpa [Int.natCast_mul] using this
  have m2 : n ≤ 16000000 := by rw [hn]; exact Nat.mul_le_mul hW hH
  clear hlt hn
  go_enter Try.func31, Try.ntmps31
  go_wp2
  go_ret
  exact ⟨rfl, rfl⟩

/-- What was cut is what is wanted. -/
theorem bitsIs_cut (a b X Y bw bh i j : Int) (sl s : Option Addr) (n' c' n c pb xb B : Nat) (z : Nat → Bool) (w : World) (hI : CutIs a b n X Y bw bh z B w i j sl n' c') (hs : IsBools w s n c z)
    (c0 : w.cell? ⟨pb, 0, none⟩ = some (.int .i64 a)) (c1 : w.cell? ⟨pb, 1, none⟩ = some (.int .i64 b)) (c2 : w.cell? ⟨pb, 2, none⟩ = some (.slice s n c))
    (d0 : w.cell? ⟨xb, 0, none⟩ = some (.int .i64 X)) (d1 : w.cell? ⟨xb, 1, none⟩ = some (.int .i64 Y)) (d2 : w.cell? ⟨xb, 2, none⟩ = some (.int .i64 bw)) (d3 : w.cell? ⟨xb, 3, none⟩ = some (.int .i64 bh)) :
    Calls Try.prog 21 #[.agg #[.int .i64 i, .int .i64 j, .slice sl n' c'], .int .i64 (cutErr a b n X Y bw bh), .int .i64 (cutErr a b n X Y bw bh), .func (.func 25) #[] #[.pointer (some ⟨pb, 0, none⟩), .pointer (some ⟨xb, 0, none⟩)]] w fun e w' => e = .returned (.bool true) ∧ Below w.heap.size w w' := by
  rcases hI with ⟨hE, rfl, rfl, rfl, rfl, rfl⟩ | ⟨hE, rfl, rfl, hn', g', _, rfl, hz⟩
  · exact bitsIs_err _ _ w hE
  · rw [hE]
    have hp : pageErr a b n = 0 := by
      unfold cutErr at hE
      by_cases h : pageErr a b n = 0
      · exact h
      · rw [if_neg h] at hE; exact absurd hE h
    obtain ⟨W, H, rfl, rfl, hn, w1, w2, h1, h2, hN, he⟩ := page_nat hp
    have hb : InP X Y i j W H := by
      unfold cutErr at hE
      rw [if_pos hp] at hE
      by_cases hb : InP X Y i j W H
      · exact hb
      · rw [if_neg hb] at hE; simp at hE
    obtain ⟨x, y, p, q, rfl, rfl, rfl, rfl, e1, e2, e3, e4⟩ := box_nat hb
    obtain ⟨g, o, rfl, hc⟩ := isBools_cells hs (by rw [hn]; exact Nat.mul_pos w1 h1)
    simp only [Int.toNat_natCast] at hn' hz
    have hpq := Nat.mul_le_mul (show p ≤ W by omega) (show q ≤ H by omega)
    rw [← hn] at hpq
    refine bitsIs_ok p q g' 0 n' c' 25 _ _ w (by omega) (Go.Proofs.enters_of Try.func25 (by kernel_rfl) rfl) hz ?_
    intro wx hbx
    rw [hn']
    exact cuts1_any W H x y p q pb xb g o n c z wx w2 h2 e1 e2 e3 e4 hn hN (fun j hj => cell_later hbx (hc j hj)) (cell_later hbx c0) (cell_later hbx c1) (cell_later hbx c2) (cell_later hbx d0) (cell_later hbx d1) (cell_later hbx d2) (cell_later hbx d3)

end Go.Proofs.Ytcpgnfbjdokdcaa
