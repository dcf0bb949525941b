/-
  What finds_holds leans on: contracts of the functions that it calls.
-/
import Derived.Test.YtcpgnfbjdokdcaaRows
import Derived.WalkKit
import Derived.WalkSpells
import Derived.WalkLawsBesides
import Derived.Lib.Hide
import Derived.Deep.RegionHeld3
import Derived.Shelf.Abstract
import Derived.Deep.AppendLies
import Derived.Deep.DrawnRows
import Derived.Deep.RegionLaw
import Derived.Deep.QuietTactic
import Derived.BigQuiet
import Derived.ProofKit
import Derived.OpenShut
import Derived.ShutString
import Derived.ChangeOld
import Derived.Lib.SmallJoins
import Derived.Deep.Grids
import Derived.Deep.DeepCutAuto
import Derived.Lib.MinMax
import Derived.Deep.CutRange
import Derived.Laws.EntriesVeiled
import Derived.StillTailTactics
import Derived.RegionTactic
import Derived.ChangeAlike
import Derived.BigRegion
import Derived.Test.YtcpgnfbjdokdcaaCFinds3
namespace Go.Proofs.Ytcpgnfbjdokdcaa
open Go.RowKit
set_option linter.unusedSimpArgs false
set_option linter.unusedVariables false

set_option maxHeartbeats 800000 in
set_option maxRecDepth 100000 in
theorem profiles_any (w h clo : Nat) (capt : Array Value) (q : Nat → Nat → Bool) (W0 : World) (hw : 1 ≤ w ∧ w ≤ 4000) (hh : 1 ≤ h ∧ h ≤ 4000) (hN : w * h ≤ 1048576)
    (eg : ∀ (args : Array Value) (W : World), (callFunc clo args).run Try.prog W = .ok (.enter clo args) W)
    (hc : ∀ (x y : Nat) (wx : World), x < w → y < h → Below W0.heap.size W0 wx → Calls Try.prog clo (#[.int .i64 x, .int .i64 y] ++ capt) wx fun e W' => e = .returned (.bool (q x y)) ∧ Below wx.heap.size wx W') :
    Calls Try.prog 136 #[.int .i64 w, .int .i64 h, .func (.func clo) #[] capt] W0 fun e w' =>
      ∃ hb wb cb bb ab, e = .returned (.func (.func 169) #[] #[.pointer (some ⟨hb, 0, none⟩), .pointer (some ⟨wb, 0, none⟩), .pointer (some ⟨cb, 0, none⟩)]) ∧ Prof w h q hb wb cb bb ab ((w + 1) * h) w' ∧ Below W0.heap.size W0 w' := by
  have hmf : ∀ (fn : Fn) (first cap : Array Value) (w : World), (Instr.makeFunc fn first cap).run Try.prog w = .ok (.func fn first cap) w := fun _ _ _ _ => rfl
  have HC := Lib.hid hc
  clear hc
  go_enter Try.func136, Try.ntmps136
  go_wp2_with fail
  obtain ⟨w1, hw1⟩ : ∃ w1, w1 = (W0.alloc (.cells #[.int .i64 w] 3)).alloc (.cells #[.int .i64 h] 3) := ⟨_, rfl⟩
  have B1 : Below W0.heap.size W0 w1 := by rw [hw1]; exact below_alloc (new_below _ _) _
  have q0 : w1.cell? ⟨W0.heap.size, 0, none⟩ = some (.int .i64 w) := by rw [hw1]; go_simp
  have q1 : w1.cell? ⟨W0.heap.size + 1, 0, none⟩ = some (.int .i64 h) := by rw [hw1]; go_simp
  rw [← hw1]
  clear hw1
  refine (inkBefore_any w h clo capt q w1 hw hh hN eg (fun x y wx hx hy hb => HC.out x y wx hx hy (below_step B1 hb))).mono ?_
  rintro e w2 ⟨ab, rfl, hab, hcell, hb2⟩
  have k0 := cell_later hb2 q0
  have k1 := cell_later hb2 q1
  have B2 := Lib.hid (below_step B1 hb2)
  have HCE := Lib.hid hcell
  obtain ⟨M, hM⟩ : ∃ M, M = (w + 1) * h := ⟨_, rfl⟩
  rw [← hM]
  have HM := Lib.hid hM
  clear hcell hb2 q0 q1 hM
  go_upto_region 2 with (fail)
  obtain ⟨w3, hw3⟩ : ∃ w3, w3 = w2.alloc (.cells #[.slice (some ⟨ab, 0, none⟩) M M] 69) := ⟨_, rfl⟩
  have B3 : Below w2.heap.size w2 w3 := by rw [hw3]; exact new_below _ _
  have k2 : w3.cell? ⟨w2.heap.size, 0, none⟩ = some (.slice (some ⟨ab, 0, none⟩) M M) := by rw [hw3]; go_simp
  rw [← hw3]
  clear hw3
  have j0 := cell_later B3 k0
  have j1 := cell_later B3 k1
  have HB3 := Lib.hid B3
  clear B3 k0 k1
  go_upto_region 3 with (fail)
  obtain ⟨w4, hw4⟩ : ∃ w4, w4 = w3.alloc (.cells #[.func (.func 168) #[] #[.pointer (some ⟨w2.heap.size, 0, none⟩), .pointer (some ⟨W0.heap.size + 1, 0, none⟩)]] 128) := ⟨_, rfl⟩
  have B4 : Below w3.heap.size w3 w4 := by rw [hw4]; exact new_below _ _
  have k3 : w4.cell? ⟨w3.heap.size, 0, none⟩ = some (.func (.func 168) #[] #[.pointer (some ⟨w2.heap.size, 0, none⟩), .pointer (some ⟨W0.heap.size + 1, 0, none⟩)]) := by rw [hw4]; go_simp
  rw [← hw4]
  clear hw4
  have F := Lib.hid (show Prof w h q (W0.heap.size + 1) W0.heap.size w3.heap.size w2.heap.size ab M w4 from
    ⟨cell_later B4 j1, cell_later B4 j0, k3, cell_later B4 k2, fun x y hx hy => cell_later (below_step HB3.out B4) (HCE.out x y hx hy)⟩)
  have G := Lib.hid (below_step (below_step B2.out HB3.out) B4)
  clear B4 k3 j0 j1 k2
  go_wp2_with fail
  go_ret
  exact ⟨_, _, _, _, _, rfl, by have := F.out; rw [HM.out] at this; exact this, G.out⟩

theorem rowProfiles1_any (W H x y gb pb po c : Nat) (z : Nat → Bool) (w : World) (hW : W ≤ 4000) (hH : H ≤ 4000) (hx : x < W) (hy : y < H)
    (h0 : w.cell? ⟨gb, 0, none⟩ = some (.int .i64 W)) (h2 : w.cell? ⟨gb, 2, none⟩ = some (.slice (some ⟨pb, po, none⟩) (W * H) c)) (hp : w.cell? ⟨pb, po + (y * W + x), none⟩ = some (.bool (z (y * W + x)))) :
    Calls Try.prog 160 #[.int .i64 x, .int .i64 y, .pointer (some ⟨gb, 0, none⟩)] w fun e w' => e = .returned (.bool (z (y * W + x))) ∧ Below w.heap.size w w' := by
  have hfit := row_fits hy (show x + 1 ≤ W by omega)
  have hN := Nat.mul_le_mul hW hH
  have x0 : (0 : Int) ≤ (y : Int) * (W : Int) := Int.mul_nonneg (by omega) (by omega)
  have x1 : (y : Int) * (W : Int) + (x : Int) < ((W * H : Nat) : Int) := by rw [← Int.natCast_mul]; omega
  have x3 : (y : Int) * (W : Int) + (x : Int) < (W : Int) * (H : Int) := by rw [← Int.natCast_mul, ← Int.natCast_mul]; omega
  have x2 : ((W * H : Nat) : Int) ≤ 16000000 := by omega
  obtain ⟨p, hpe⟩ : ∃ p, p = z (y * W + x) := ⟨_, rfl⟩
  rw [← hpe] at hp ⊢
  clear hfit hN hpe
  go_enter Try.func160, Try.ntmps160
  go_wp2_with fail
  go_ret
  exact ⟨rfl, Below.refl _ _⟩

/-- The ink of a page by columns and rows. -/
def inkQ (z : Nat → Bool) (W x y : Nat) : Bool := z (y * W + x)

set_option maxHeartbeats 800000 in
theorem rowProfiles_any (W H g o c : Nat) (z : Nat → Bool) (w : World) (hW : 1 ≤ W ∧ W ≤ 4000) (hH : 1 ≤ H ∧ H ≤ 4000) (hN : W * H ≤ 1048576) (hp : ∀ j, j < W * H → w.cell? ⟨g, o + j, none⟩ = some (.bool (z j))) :
    Calls Try.prog 131 #[.agg #[.int .i64 W, .int .i64 H, .slice (some ⟨g, o, none⟩) (W * H) c]] w fun e w' =>
      ∃ hb wb cb bb ab, e = .returned (.func (.func 169) #[] #[.pointer (some ⟨hb, 0, none⟩), .pointer (some ⟨wb, 0, none⟩), .pointer (some ⟨cb, 0, none⟩)]) ∧ Prof W H (inkQ z W) hb wb cb bb ab ((W + 1) * H) w' ∧ Below w.heap.size w w' := by
  have hmf : ∀ (fn : Fn) (first cap : Array Value) (w : World), (Instr.makeFunc fn first cap).run Try.prog w = .ok (.func fn first cap) w := fun _ _ _ _ => rfl
  have HC := Lib.hid hp
  clear hp
  go_enter Try.func131, Try.ntmps131
  go_wp2_with fail
  obtain ⟨w1, hw1⟩ : ∃ w1, w1 = w.alloc (.cells #[.int .i64 W, .int .i64 H, .slice (some ⟨g, o, none⟩) (W * H) c] 24) := ⟨_, rfl⟩
  have B1 : Below w.heap.size w w1 := by rw [hw1]; exact new_below _ _
  have q0 : w1.cell? ⟨w.heap.size, 0, none⟩ = some (.int .i64 W) := by rw [hw1]; go_simp
  have q2 : w1.cell? ⟨w.heap.size, 2, none⟩ = some (.slice (some ⟨g, o, none⟩) (W * H) c) := by rw [hw1]; go_simp
  rw [← hw1]
  clear hw1
  refine (profiles_any W H 160 _ (inkQ z W) w1 hW hH hN (Go.Proofs.enters_of Try.func160 (by kernel_rfl) rfl) ?_).mono ?_
  · intro x y wx hx hy hbx
    have hfit := row_fits hy (show x + 1 ≤ W by omega)
    exact rowProfiles1_any W H x y w.heap.size g o c z wx hW.2 hH.2 hx hy (cell_later hbx q0) (cell_later hbx q2) (cell_later (below_step B1 hbx) (HC.out _ (by omega)))
  · rintro e w2 ⟨hb, wb, cb, bb, ab, rfl, hP, hb2⟩
    have F := Lib.hid hP
    have G := Lib.hid (below_step B1 hb2)
    clear hP hb2 q0 q2 B1
    go_wp2_with fail
    go_ret
    exact ⟨_, _, _, _, _, rfl, F.out, G.out⟩

/-- The sum of squares. -/
def sqSum (f : Nat → Nat) : Nat → Nat
  | 0 => 0
  | n + 1 => sqSum f n + f n * f n
theorem sqSum_le (f : Nat → Nat) (n : Nat) (hf : ∀ j, f j ≤ 4000) : sqSum f n ≤ n * 16000000 := by
  induction n with
  | zero => simp [sqSum]
  | succ n ih => rw [sqSum]; have := Nat.mul_le_mul (hf n) (hf n); omega
theorem sqSum_congr {f f' : Nat → Nat} {n : Nat} (h : ∀ j, j < n → f j = f' j) : sqSum f n = sqSum f' n := by
  induction n with
  | zero => rfl
  | succ n ih => rw [sqSum, sqSum, ih (fun j hj => h j (by omega)), h n (by omega)]

set_option maxHeartbeats 400000 in
theorem squares_any (n g o c : Nat) (f : Nat → Nat) (w : World) (hn : n ≤ 8000) (hf : ∀ j, f j ≤ 4000) (hc : ∀ j, j < n → w.cell? ⟨g, o + j, none⟩ = some (.int .i64 (f j : Int))) :
    Calls Try.prog 134 #[.slice (some ⟨g, o, none⟩) n c] w fun e w' => e = .returned (.int .i64 (sqSum f n : Int)) ∧ w = w' := by
  have HC := Lib.hid hc
  have HF := Lib.hid hf
  clear hc hf
  go_enter Try.func134, Try.ntmps134
  go_wp2_with fail
  go_loop [3, 8] (fun a i => ∃ j S : Nat, j ≤ n ∧ i = .int .i64 j ∧ a = .int .i64 S ∧ Hid (S = sqSum f j)) (fun _ i => n - (intOf i).toNat)
  case atStart => exact ⟨0, 0, Nat.zero_le _, rfl, rfl, Lib.hid rfl⟩
  case round =>
    obtain ⟨j, S, hj, rfl, rfl, HS⟩ := hrel
    by_cases hlt : j < n
    · have c1 := HC.out j hlt
      have hb := sqSum_le f j HF.out
      rw [← HS.out] at hb
      have hv := HF.out j
      obtain ⟨v, hve⟩ : ∃ v, v = f j := ⟨_, rfl⟩
      rw [← hve] at c1 hv
      have p2 := Nat.mul_le_mul hv hv
      have p0 : (0 : Int) ≤ (v : Int) * (v : Int) := Int.mul_nonneg (by omega) (by omega)
      have p1 : (v : Int) * (v : Int) ≤ 16000000 := by rw [← Int.natCast_mul]; omega
      have HV := Lib.hid hve
      have i1 : (j : Int) < (n : Int) := by omega
      have hS2 : S ≤ 128000000000 := by omega
      clear hve p2 hb
      go_wp2_with fail
      go_round
      case rel => exact ⟨j + 1, S + v * v, by omega, by go_num, by rw [Int.natCast_add, Int.natCast_mul], Lib.hid (by rw [sqSum, ← HS.out, ← HV.out])⟩
      case measure => simp [intOf]; omega
    · have hje : j = n := by omega
      subst hje
      go_wp2_with fail
      go_ret
      exact ⟨by rw [HS.out]; rfl, rfl⟩

set_option maxHeartbeats 400000 in
theorem squareR_any (n g o c : Nat) (f : Nat → Nat) (w : World) (hn : n ≤ 8000) (hf : ∀ j, f j ≤ 4000) (hc : ∀ j, j < n → w.cell? ⟨g, o + j, none⟩ = some (.int .i64 (f j : Int))) :
    Calls Try.prog 90 #[.slice (some ⟨g, o, none⟩) n c] w fun e w' => e = .returned (.int .i64 (sqSum f n : Int)) ∧ w = w' := by
  have HC := Lib.hid hc
  have HF := Lib.hid hf
  clear hc hf
  go_enter Try.func90, Try.ntmps90
  go_wp2_with fail
  go_loop [3, 8] (fun a i => ∃ j S : Nat, j ≤ n ∧ i = .int .i64 j ∧ a = .int .i64 S ∧ Hid (S = sqSum f j)) (fun _ i => n - (intOf i).toNat)
  case atStart => exact ⟨0, 0, Nat.zero_le _, rfl, rfl, Lib.hid rfl⟩
  case round =>
    obtain ⟨j, S, hj, rfl, rfl, HS⟩ := hrel
    by_cases hlt : j < n
    · have c1 := HC.out j hlt
      have hb := sqSum_le f j HF.out
      rw [← HS.out] at hb
      have hv := HF.out j
      obtain ⟨v, hve⟩ : ∃ v, v = f j := ⟨_, rfl⟩
      rw [← hve] at c1 hv
      have p2 := Nat.mul_le_mul hv hv
      have p0 : (0 : Int) ≤ (v : Int) * (v : Int) := Int.mul_nonneg (by omega) (by omega)
      have p1 : (v : Int) * (v : Int) ≤ 16000000 := by rw [← Int.natCast_mul]; omega
      have HV := Lib.hid hve
      have i1 : (j : Int) < (n : Int) := by omega
      have hS2 : S ≤ 128000000000 := by omega
      clear hve p2 hb
      go_wp2_with fail
      go_round
      case rel => exact ⟨j + 1, S + v * v, by omega, by go_num, by rw [Int.natCast_add, Int.natCast_mul], Lib.hid (by rw [sqSum, ← HS.out, ← HV.out])⟩
      case measure => simp [intOf]; omega
    · have hje : j = n := by omega
      subst hje
      go_wp2_with fail
      go_ret
      exact ⟨by rw [HS.out]; rfl, rfl⟩

end Go.Proofs.Ytcpgnfbjdokdcaa
namespace Go.Proofs.Ytcpgnfbjdokdcaa
open Go.RowKit
set_option linter.unusedSimpArgs false
set_option linter.unusedVariables false

set_option maxHeartbeats 800000 in
theorem profileS_ok (W H g o c : Nat) (n : Int) (z : Nat → Bool) (w : World) (hs : sizeErr W H = 0) (hn : -256 ≤ n ∧ n ≤ 256) (hp : ∀ j, j < W * H → w.cell? ⟨g, o + j, none⟩ = some (.bool (z j))) :
    Calls Try.prog 173 #[.agg #[.int .i64 W, .int .i64 H, .slice (some ⟨g, o, none⟩) (W * H) c], .int .i64 n] w fun e w' =>
      ∃ v, e = .returned (.tuple #[v, .int .i64 0]) ∧ w'.ownsRow w.heap.size 3 1 v (2 * H) (intsOf (fun j => (profV (inkQ z W) W H n j : Int)) (2 * H)) ∧ Below w.heap.size w w' := by
  obtain ⟨⟨a1, a2, a3, a4⟩, a5, a6⟩ := sizeErr_zero hs
  have hpe : pageErr W H (W * H) = 0 := by unfold pageErr; rw [if_pos hs, if_pos (by simp [Int.natCast_mul])]
  have hN : W * H ≤ 1048576 := by rw [← Int.natCast_mul] at a6; omega
  have hq : orI (pageErr W H (W * H)) (leanErr n (-256)) = 0 := by unfold orI leanErr; rw [if_pos hpe, if_pos hn]
  have HQ := Lib.hid hq
  have HC := Lib.hid hp
  have HN := Lib.hid hn
  have bW : 1 ≤ W ∧ W ≤ 4000 := by omega
  have bH : 1 ≤ H ∧ H ≤ 4000 := by omega
  clear hp hq hpe a5 a6 hs hn
  go_enter Try.func173, Try.ntmps173
  go_wp2_with fail
  obtain ⟨w1, hw1⟩ : ∃ w1, w1 = w.alloc (.cells #[.int .i64 W, .int .i64 H, .slice (some ⟨g, o, none⟩) (W * H) c] 24) := ⟨_, rfl⟩
  have B1 : Below w.heap.size w w1 := by rw [hw1]; exact new_below _ _
  have q0 : w1.heap[w.heap.size]? = some (.cells #[.int .i64 W, .int .i64 H, .slice (some ⟨g, o, none⟩) (W * H) c] 24 (0, 0)) := by rw [hw1]; exact heap_alloc_new _ _
  rw [← hw1]
  clear hw1
  refine (checkLean_any W H n (some ⟨g, o, none⟩) (W * H) c w1).mono ?_
  rintro e w2 ⟨rfl, hb2⟩
  rw [HQ.out]
  obtain ⟨p0, p1, p2, _, _, _⟩ := block3 (below_block hb2 q0)
  have G2 := Lib.hid (below_step B1 hb2)
  clear hb2 B1 q0
  go_wp2_with fail
  refine (rowProfiles_any W H g o c z w2 bW bH hN (fun j hj => cell_later G2.out (HC.out j hj))).mono ?_
  rintro e w3 ⟨hb, wb, cb, bb, ab, rfl, hP, hb3⟩
  have P3 := Lib.hid hP
  have G3 := Lib.hid (below_step G2.out hb3)
  clear hP hb3 p0 p1 p2
  go_wp2_with fail
  refine (profile_any W H hb wb cb bb ab _ n (inkQ z W) w3 bW bH hN rfl HN.out P3.out).mono ?_
  rintro e w4 ⟨v, rfl, hown, hb4⟩
  have F := Lib.hid hown
  have G := Lib.hid (below_step G3.out hb4)
  have HS3 := Lib.hid G3.out.size
  clear hown hb4
  go_wp2_with fail
  go_ret2
  exact ⟨_, rfl, owns_base F.out HS3.out, G.out⟩

theorem owns_ints {w : World} {base n : Nat} {f : Nat → Int} {v : Value} (h : w.ownsRow base 3 1 v n (intsOf f n)) (hn : 1 ≤ n) : ∃ g c, v = .slice (some ⟨g, 0, none⟩) n c ∧ base ≤ g ∧ ∀ j, j < n → w.cell? ⟨g, 0 + j, none⟩ = some (.int .i64 (f j)) := by
  rcases h.2 with ⟨_, h0⟩ | ⟨g, cap, cur, h0, hb, _⟩
  · omega
  · subst h0
    refine ⟨g, cap, rfl, hb, fun j hj => ?_⟩
    have := h.cellAt j (by omega)
    rw [intsOf_get _ _ _ hj] at this
    rw [Nat.zero_add]; exact this

theorem score_ok (W H g o c : Nat) (n : Int) (z : Nat → Bool) (w : World) (hs : sizeErr W H = 0) (hn : -256 ≤ n ∧ n ≤ 256) (hp : ∀ j, j < W * H → w.cell? ⟨g, o + j, none⟩ = some (.bool (z j))) :
    Calls Try.prog 139 #[.agg #[.int .i64 W, .int .i64 H, .slice (some ⟨g, o, none⟩) (W * H) c], .int .i64 n] w fun e w' =>
      e = .returned (.tuple #[.int .i64 (sqSum (profV (inkQ z W) W H n) (2 * H) : Int), .int .i64 0]) ∧ Below w.heap.size w w' := by
  obtain ⟨⟨a1, a2, a3, a4⟩, a5, a6⟩ := sizeErr_zero hs
  have HP := Lib.hid (profileS_ok W H g o c n z (w.alloc (.cells #[.int .i64 W, .int .i64 H, .slice (some ⟨g, o, none⟩) (W * H) c] 24)) hs hn (fun j hj => cell_later (new_below _ _) (hp j hj)))
  have bW : W ≤ 4000 := by omega
  have bH : 1 ≤ H ∧ H ≤ 4000 := by omega
  clear hs hn hp a5 a6
  go_enter Try.func139, Try.ntmps139
  go_wp2_with fail
  have B1 := Lib.hid (new_below w (.cells #[.int .i64 W, .int .i64 H, .slice (some ⟨g, o, none⟩) (W * H) c] 24))
  refine HP.out.mono ?_
  rintro e w2 ⟨v, rfl, hown, hb2⟩
  obtain ⟨pg, pc, rfl, _, hcell⟩ := owns_ints hown (by omega)
  have HCE := Lib.hid hcell
  have G := Lib.hid (below_step B1.out hb2)
  clear hb2 hown hcell
  go_wp2_with fail
  refine (squares_any (2 * H) pg 0 pc (profV (inkQ z W) W H n) w2 (by omega) (fun j => Nat.le_trans (profUp_le _ _ _ _ _ _) bW) HCE.out).mono ?_
  rintro e w3 ⟨rfl, rfl⟩
  obtain ⟨S, hS⟩ : ∃ S, S = sqSum (profV (inkQ z W) W H n) (2 * H) := ⟨_, rfl⟩
  rw [← hS]
  go_wp2_with fail
  go_ret2
  exact ⟨rfl, G.out⟩

end Go.Proofs.Ytcpgnfbjdokdcaa
namespace Go.Proofs.Ytcpgnfbjdokdcaa
open Go.RowKit
set_option linter.unusedSimpArgs false
set_option linter.unusedVariables false

/-- What is counted when x columns and y pixels of the next one have been seen. -/
def saw (q : Nat → Nat → Bool) (h : Nat) (s : Nat → Int) (c : Int) (x y j : Nat) : Nat := profUp q h s c j x + hitC q y ((j : Int) - (c + s x)) x

theorem saw_zero (q : Nat → Nat → Bool) (h : Nat) (s : Nat → Int) (c : Int) (x j : Nat) : saw q h s c x 0 j = profUp q h s c j x := by
  unfold saw hitC; rw [if_neg (by omega), Nat.add_zero]
theorem saw_row (q : Nat → Nat → Bool) (h : Nat) (s : Nat → Int) (c : Int) (x j : Nat) : saw q h s c x h j = saw q h s c (x + 1) 0 j := by
  rw [saw_zero]; rfl
theorem saw_other {q : Nat → Nat → Bool} {h : Nat} {s : Nat → Int} {c : Int} {x y j : Nat} (hj : (j : Int) ≠ c + y + s x ∨ q x y = false) : saw q h s c x (y + 1) j = saw q h s c x y j := by
  unfold saw hitC
  congr 1
  by_cases h1 : 0 ≤ (j : Int) - (c + s x) ∧ (j : Int) - (c + s x) < (y : Int)
  · rw [if_pos (by omega), if_pos h1]
  · rw [if_neg h1]
    by_cases h2 : 0 ≤ (j : Int) - (c + s x) ∧ (j : Int) - (c + s x) < ((y + 1 : Nat) : Int)
    · rw [if_pos h2]
      have e : ((j : Int) - (c + s x)).toNat = y := by omega
      rw [e]
      rcases hj with hj | hj
      · omega
      · rw [hj]; rfl
    · rw [if_neg h2]
theorem saw_here {q : Nat → Nat → Bool} {h : Nat} {s : Nat → Int} {c : Int} {x y j : Nat} (hj : (j : Int) = c + y + s x) (hq : q x y = true) : saw q h s c x (y + 1) j = saw q h s c x y j + 1 := by
  unfold saw hitC
  rw [if_pos (by omega), if_neg (by omega)]
  have e : ((j : Int) - (c + s x)).toNat = y := by omega
  rw [e, hq]; rfl
theorem saw_le (q : Nat → Nat → Bool) (h : Nat) (s : Nat → Int) (c : Int) (x y j : Nat) : saw q h s c x y j ≤ x + 1 := by
  unfold saw
  have := profUp_le q h s c j x
  have := hitC_le q y ((j : Int) - (c + s x)) x
  omega

set_option maxHeartbeats 2000000 in
set_option maxRecDepth 100000 in
theorem profileR_ok (W H g o c : Nat) (n : Int) (z : Nat → Bool) (w : World) (hW : 1 ≤ W ∧ W ≤ 4000) (hH : 1 ≤ H ∧ H ≤ 4000) (hN : W * H ≤ 1048576) (hn : -256 ≤ n ∧ n ≤ 256) (hp : ∀ j, j < W * H → w.cell? ⟨g, o + j, none⟩ = some (.bool (z j))) :
    Calls Try.prog 142 #[.agg #[.int .i64 W, .int .i64 H, .slice (some ⟨g, o, none⟩) (W * H) c], .int .i64 n] w fun e w' =>
      ∃ v, e = .returned v ∧ w'.ownsRow w.heap.size 3 1 v (2 * H) (intsOf (fun j => (profV (inkQ z W) W H n j : Int)) (2 * H)) ∧ Below w.heap.size w w' := by
  obtain ⟨i0, hi, hz0, hz1, hz2⟩ := info_parts info_int
  obtain ⟨m, hm⟩ : ∃ m, m = 2 * H := ⟨_, rfl⟩
  have hm2 : 2 * (H : Int) = (m : Int) := by omega
  have hm3 : m ≤ 8000 := by omega
  obtain ⟨d, hd⟩ : ∃ d, d = H / 2 := ⟨_, rfl⟩
  have hd2 : d ≤ 2000 := by omega
  have HPV := Lib.hid (show ∀ j, profV (inkQ z W) W H n j = saw (inkQ z W) H (fallV W n) (d : Int) W 0 j from fun j => by rw [saw_zero, hd]; rfl)
  have HC := Lib.hid hp
  have HN := Lib.hid hn
  have HD := Lib.hid hd
  have HPX := Lib.hid (fun j (hj : j < W * H) => show g < w.heap.size from by have := World.block_lt_of_cell? _ _ (hp j hj); simpa using this)
  have bW := hW
  have bH := hH
  obtain ⟨hW1, hW2⟩ := hW
  obtain ⟨hH1, hH2⟩ := hH
  have HMm := Lib.hid hm
  rw [← hm]
  clear hp hd hn hm
  go_enter Try.func142, Try.ntmps142
  go_wp2_with (at_make; refine wpList_make_full _ rfl _ _ 69 rfl (w.heap.size + 1) 3 i0 (.int .i64 0) 1 Try.underlying69 hi hz0 hz1 _ _ _ _ m rfl rfl rfl rfl (by rw [hz2]; omega) (by unfold maxLen; omega) (by simp) ?_)
  intro w1 hown1 hgrow1
  rw [toList_madeCells_one, intsOf_zero] at hown1
  have hb1 := (Below.refl (w.heap.size + 1) _).grown hgrow1 (by simp) (by simp)
  have q0 : w1.heap[w.heap.size]? = some (.cells #[.int .i64 W, .int .i64 H, .slice (some ⟨g, o, none⟩) (W * H) c] 24 (0, 0)) := (hb1.block _ (by omega)).trans (heap_alloc_new _ _)
  have B1 := Lib.hid ((new_below w (.cells #[.int .i64 W, .int .i64 H, .slice (some ⟨g, o, none⟩) (W * H) c] 24)).trans (hb1.mono (show w.heap.size ≤ w.heap.size + 1 by omega)))
  have Q0 := Lib.hid q0
  have HST := Lib.hid (show w1.ownsRow (w.heap.size + 1) 3 1 (.slice (some ⟨w.heap.size + 1, 0, none⟩) m m) m (intsOf (fun j => (saw (inkQ z W) H (fallV W n) (d : Int) 0 0 j : Int)) m) ∧ Below (w.heap.size + 1) w1 w1 from
    ⟨by rw [intsOf_congr (g := fun _ => 0) (fun j _ => by rw [saw_zero]; rfl)]; simpa using hown1, Below.refl _ _⟩)
  obtain ⟨p0, p1, p2, _, _, _⟩ := block3 q0
  clear hgrow1 hb1 hown1 q0
  go_wp2_with fail
  go_loopw [15] (fun i wr => ∃ x : Nat, x ≤ W ∧ i = .int .i64 x ∧ Hid (wr.ownsRow (w.heap.size + 1) 3 1 (.slice (some ⟨w.heap.size + 1, 0, none⟩) m m) m (intsOf (fun j => (saw (inkQ z W) H (fallV W n) (d : Int) x 0 j : Int)) m) ∧ Below (w.heap.size + 1) w1 wr)) (fun i _ => W - (intOf i).toNat)
  case atStart => exact ⟨0, Nat.zero_le _, rfl, HST⟩
  case round =>
    obtain ⟨x, hx, rfl, HX⟩ := hrel
    clear HST p0 p1 p2
    by_cases hlt : x < W
    · obtain ⟨wo, rfl⟩ : ∃ wo : World, wo = wr := ⟨_, rfl⟩
      obtain ⟨p0, p1, p2, _, _, _⟩ := block3 ((HX.out.2.block w.heap.size (by omega)).trans Q0.out)
      go_wp2_with fail
      go_loopw [20] (fun i wr => ∃ y : Nat, y ≤ H ∧ i = .int .i64 y ∧ Hid (wr.ownsRow (w.heap.size + 1) 3 1 (.slice (some ⟨w.heap.size + 1, 0, none⟩) m m) m (intsOf (fun j => (saw (inkQ z W) H (fallV W n) (d : Int) x y j : Int)) m) ∧ Below (w.heap.size + 1) w1 wr)) (fun i _ => H - (intOf i).toNat)
      case atStart => exact ⟨0, Nat.zero_le _, rfl, HX⟩
      case round =>
        obtain ⟨y, hy, rfl, HY⟩ := hrel
        clear HX p0 p1 p2
        by_cases hlty : y < H
        · obtain ⟨p0, p1, p2, _, _, _⟩ := block3 ((HY.out.2.block w.heap.size (by omega)).trans Q0.out)
          have hsb := fallV_bounds hW2 HN.out hlt
          obtain ⟨s, hs⟩ : ∃ s, s = fallV W n x := ⟨_, rfl⟩
          rw [← hs] at hsb
          obtain ⟨s1, s2⟩ := hsb
          have e1 : IntKind.i64.wrap ((H : Int) / 2) = (d : Int) := by rw [IntWalk.i64_in _ (by omega)]; have := HD.out; omega
          have e2 : IntKind.i64.wrap ((d : Int) + (y : Int)) = (d : Int) + (y : Int) := IntWalk.i64_in _ (by omega)
          have e3 : IntKind.i64.wrap ((d : Int) + (y : Int) + s) = (d : Int) + (y : Int) + s := IntWalk.i64_in _ (by omega)
          have HS := Lib.hid hs
          have hzc := HC.out (y * W + x) (by have := row_fits hlty (show x + 1 ≤ W by omega); omega)
          have l0 : w.heap.size < wr.heap.size := by have := World.block_lt_of_cell? _ _ p0; simpa using this
          clear hs
          go_wp2_with fail
          go_region_held3 (fun w' => w'.cell? ⟨w.heap.size, 0, none⟩ = some (.int .i64 W) ∧ w'.cell? ⟨w.heap.size, 1, none⟩ = some (.int .i64 H) ∧ w'.cell? ⟨w.heap.size, 2, none⟩ = some (.slice (some ⟨g, o, none⟩) (W * H) c))
            (first | (go_keep; done) | (go_split_ands; exact ⟨cell_later hb5 (by assumption), cell_later hb5 (by assumption), cell_later hb5 (by assumption)⟩))
            ((first | (go_at_call 144; ((with_reducible refine (fallR_any W H x n _ _ _ _ bW HN.out hlt).mono ?_); rw [← HS.out]; rintro e w5 ⟨rfl, hb5⟩))))
          have hbd := below_step (Below.refl wr.heap.size wr).drew hb5
          have R5 := Lib.hid (show _ ∧ _ from ⟨below_owns HY.out.1 hbd, HY.out.2.trans (hbd.mono (by omega))⟩)
          have hz5 : w5.cell? ⟨g, o + (y * W + x), none⟩ = some (.bool (z (y * W + x))) := (R5.out.2.cell (p := ⟨g, o + (y * W + x), none⟩) (by have := HPX.out _ (show y * W + x < W * H by have := row_fits hlty (show x + 1 ≤ W by omega); omega); simp only; omega)).trans (cell_later B1.out hzc)
          obtain ⟨qv, hqv⟩ : ∃ qv, qv = z (y * W + x) := ⟨_, rfl⟩
          rw [← hqv] at hz5
          have HAT := Lib.hid (at_in W H g o c x y qv w5 (by omega) (by omega) hlt hlty hz5)
          have HQ := Lib.hid (show inkQ z W x y = qv from hqv.symm)
          obtain ⟨k, hk⟩ : ∃ k, k = (d : Int) + (y : Int) + s := ⟨_, rfl⟩
          have hkb : -2000 ≤ k ∧ k ≤ 8000 := by omega
          have HK := Lib.hid hk
          obtain ⟨p0, p1, p2, _, _, _⟩ := block3 ((R5.out.2.block w.heap.size (by omega)).trans Q0.out)
          clear hbd hzc hz5 hqv e1 e2 e3 hb5 l0
          rw [← hk]
          clear hk
          cases qv
          · go_wp2_with (go_at_call 41; ((with_reducible refine HAT.out.mono ?_); rintro e w6 ⟨rfl, hb6⟩))
            have R6 := Lib.hid (show _ ∧ _ from ⟨below_owns R5.out.1 hb6, R5.out.2.trans (hb6.mono (by have := World.block_lt_of_cell? _ _ p0; simp only at this; omega))⟩)
            go_roundw
            case rel => exact ⟨y + 1, by omega, by go_num, Lib.hid ⟨by rw [intsOf_congr (fun j _ => by rw [saw_other (.inr HQ.out)])]; exact R6.out.1, R6.out.2⟩⟩
            case measure => simp [intOf]; omega
          · by_cases hin : 0 ≤ k ∧ k ≤ (m : Int) - 1
            · obtain ⟨J, hJ⟩ : ∃ J : Nat, k = (J : Int) := ⟨k.toNat, by omega⟩
              subst hJ
              have HIN := Lib.hid hin
              have hJm : J < m := by omega
              have hJi : (J : Int) < (m : Int) := by omega
              clear hin
              go_wp2_with (first | (go_at_call 41; ((with_reducible refine HAT.out.mono ?_); rintro e w6 ⟨rfl, hb6⟩; have R6 := Lib.hid (show _ ∧ _ from ⟨below_owns R5.out.1 hb6, R5.out.2.trans (hb6.mono (by have := World.block_lt_of_cell? _ _ p0; simp only at this; omega))⟩); have c6 := R6.out.1.cellAt J (by omega); rw [intsOf_get _ _ _ hJm] at c6; have f6 := R6.out.1.frozenAt J; have sl := saw_le (inkQ z W) H (fallV W n) (d : Int) x y J; have sv : ∃ C, C = saw (inkQ z W) H (fallV W n) (d : Int) x y J := ⟨_, rfl⟩; obtain ⟨C, hC⟩ := sv; rw [← hC] at c6 sl; have HCC := Lib.hid hC; clear hC hb6)) | (go_at_call 47; refine (in_yes _ _ _ _ HIN.out).mono ?_; rintro e w' ⟨rfl, rfl⟩))
              go_roundw
              case rel =>
                refine ⟨y + 1, by omega, by go_num, Lib.hid ⟨?_, R6.out.2.setCell (by simp) _⟩⟩
                have hJd : (J : Int) = (d : Int) + (y : Int) + fallV W n x := by rw [← HS.out]; exact HK.out
                have h1 := (R6.out.1.stored J (.int .i64 ((C : Int) + 1))).1
                rw [intsOf_set (g := fun j => (saw (inkQ z W) H (fallV W n) (d : Int) x (y + 1) j : Int)) hJm (by rw [saw_here hJd HQ.out, ← HCC.out]; rfl) (fun i _ hne => by rw [saw_other (.inl (by omega))])] at h1
                exact h1
              case measure => simp [intOf]; omega
            · have HIN := Lib.hid hin
              clear hin
              go_wp2_with (first | (go_at_call 41; ((with_reducible refine HAT.out.mono ?_); rintro e w6 ⟨rfl, hb6⟩)) | (go_at_call 47; refine (in_no _ _ _ _ HIN.out).mono ?_; rintro e w' ⟨rfl, rfl⟩))
              have R6 := Lib.hid (show _ ∧ _ from ⟨below_owns R5.out.1 hb6, R5.out.2.trans (hb6.mono (by have := World.block_lt_of_cell? _ _ p0; simp only at this; omega))⟩)
              go_roundw
              case rel => exact ⟨y + 1, by omega, by go_num, Lib.hid ⟨by rw [intsOf_congr (fun j hj => by rw [saw_other (.inl (by have := HK.out; have := HS.out; have := HIN.out; omega))])]; exact R6.out.1, R6.out.2⟩⟩
              case measure => simp [intOf]; omega
        · have hye : y = H := by omega
          subst hye
          go_wp2_with fail
          go_roundw
          case rel => exact ⟨x + 1, by omega, by go_num, Lib.hid ⟨by have h1 := HY.out.1; rw [intsOf_congr (g := fun j => (saw (inkQ z W) y (fallV W n) (d : Int) (x + 1) 0 j : Int)) (fun j _ => by rw [saw_row])] at h1; exact h1, HY.out.2⟩⟩
          case measure => simp [intOf]; omega
    · have hxe : x = W := by omega
      subst hxe
      go_wp2_with fail
      go_ret
      refine ⟨_, rfl, ?_, B1.out.trans (HX.out.2.mono (by omega))⟩
      rw [intsOf_congr (g := fun j => (saw (inkQ z x) H (fallV x n) (d : Int) x 0 j : Int)) (fun j _ => by rw [HPV.out])]
      exact owns_base HX.out.1 (by omega)

end Go.Proofs.Ytcpgnfbjdokdcaa
namespace Go.Proofs.Ytcpgnfbjdokdcaa
open Go.RowKit
set_option linter.unusedSimpArgs false
set_option linter.unusedVariables false

/-- A number is tried. -/
def stepV (sc : Int → Int) (p : Int × Int) (n : Int) : Int × Int := if p.2 < sc n then (n, sc n) else p
/-- What is found with the magnitudes up to k. -/
def bestUp (sc : Int → Int) : Nat → Int × Int
  | 0 => (0, sc 0)
  | k + 1 => stepV sc (stepV sc (bestUp sc k) ((k + 1 : Nat) : Int)) (-((k + 1 : Nat) : Int))

theorem box_one {w : World} {b : Nat} {x : Value} {t : TypeId} (h : w.heap[b]? = some (.cells #[x] t (0, 0))) : w.cell? ⟨b, 0, none⟩ = some x ∧ w.frozen? ⟨b, 0, none⟩ = false := box1 h

/-- The two numbers that are kept. -/
def TwoB (fb gb : Nat) (p : Int × Int) (w : World) : Prop := w.heap[fb]? = some (.cells #[.int .i64 p.1] 3 (0, 0)) ∧ w.heap[gb]? = some (.cells #[.int .i64 p.2] 3 (0, 0))
theorem TwoB.later {fb gb : Nat} {p : Int × Int} {w w' : World} (h : TwoB fb gb p w) (hb : Below w.heap.size w w') : TwoB fb gb p w' := ⟨below_block hb h.1, below_block hb h.2⟩
theorem TwoB.set {fb gb : Nat} {p : Int × Int} {w : World} (h : TwoB fb gb p w) (hne : fb ≠ gb) (x y : Int) : TwoB fb gb (x, y) ((w.setCell ⟨fb, 0, none⟩ (.int .i64 x)).setCell ⟨gb, 0, none⟩ (.int .i64 y)) := by
  constructor
  · rw [setCell_else _ _ _ _ (by simpa using hne), heap_set h.1]; simp
  · have : (w.setCell ⟨fb, 0, none⟩ (.int .i64 x)).heap[gb]? = some (.cells #[.int .i64 p.2] 3 (0, 0)) := by
      rw [setCell_else _ _ _ _ (by simpa using hne.symm)]; exact h.2
    rw [heap_set this]; simp

set_option maxHeartbeats 400000 in
theorem consider_any (n : Int) (sb gb fb clo : Nat) (capt : Array Value) (sc : Int → Int) (p : Int × Int) (w : World) (hne : fb ≠ gb)
    (eg : ∀ (args : Array Value) (W : World), (callFunc clo args).run Try.prog W = .ok (.enter clo args) W)
    (h0 : w.cell? ⟨sb, 0, none⟩ = some (.func (.func clo) #[] capt)) (h1 : TwoB fb gb p w)
    (hc : Calls Try.prog clo (#[.int .i64 n] ++ capt) w fun e w' => e = .returned (.int .i64 (sc n)) ∧ Below w.heap.size w w') :
    Calls Try.prog 161 #[.int .i64 n, .pointer (some ⟨sb, 0, none⟩), .pointer (some ⟨gb, 0, none⟩), .pointer (some ⟨fb, 0, none⟩)] w fun e w' =>
      e = .returned (.tuple #[]) ∧ TwoB fb gb (stepV sc p n) w' ∧ ∀ B, B ≤ fb → B ≤ gb → B ≤ w.heap.size → Below B w w' := by
  obtain ⟨s, hs⟩ : ∃ s, s = sc n := ⟨_, rfl⟩
  rw [← hs] at hc
  have HC := Lib.hid hc
  have H1 := Lib.hid h1
  have HS := Lib.hid hs
  have NE := Lib.hid hne
  clear hc h1 hs
  go_enter Try.func161, Try.ntmps161
  go_wp2_with fail
  refine HC.out.mono ?_
  rintro e w2 ⟨rfl, hb2⟩
  have T2 := Lib.hid (H1.out.later hb2)
  have HB := Lib.hid hb2
  obtain ⟨g1, g2⟩ := box_one T2.out.2
  obtain ⟨f1, f2⟩ := box_one T2.out.1
  obtain ⟨G, hG⟩ : ∃ G, G = p.2 := ⟨_, rfl⟩
  rw [← hG] at g1
  have HG := Lib.hid hG
  clear hb2 hG
  by_cases hlt : G < s
  · have e1 : stepV sc p n = (n, s) := by unfold stepV; rw [← HS.out, ← HG.out, if_pos hlt]
    have E1 := Lib.hid e1
    have ne1 : gb ≠ fb := hne.symm
    clear e1
    go_wp2_with fail
    exact bodyPost_end (results_none rfl _ _ _) rfl ⟨rfl, by rw [E1.out]; exact T2.out.set NE.out n s, fun B b1 b2 b3 => ((HB.out.mono b3).setCell b1 _).setCell b2 _⟩
  · have e1 : stepV sc p n = p := by unfold stepV; rw [← HS.out, ← HG.out, if_neg hlt]
    have E1 := Lib.hid e1
    clear e1
    go_wp2_with fail
    exact bodyPost_end (results_none rfl _ _ _) rfl ⟨rfl, by rw [E1.out]; exact T2.out, fun B b1 b2 b3 => HB.out.mono b3⟩

set_option maxHeartbeats 800000 in
theorem best_any (most clo : Nat) (capt : Array Value) (sc : Int → Int) (w : World) (hm : most ≤ 256)
    (eg : ∀ (args : Array Value) (W : World), (callFunc clo args).run Try.prog W = .ok (.enter clo args) W)
    (hc : ∀ (n : Int) (wx : World), -(most : Int) ≤ n → n ≤ most → Below w.heap.size w wx → Calls Try.prog clo (#[.int .i64 n] ++ capt) wx fun e w' => e = .returned (.int .i64 (sc n)) ∧ Below wx.heap.size wx w') :
    Calls Try.prog 132 #[.int .i64 most, .func (.func clo) #[] capt] w fun e w' => e = .returned (.int .i64 (bestUp sc most).1) ∧ Below w.heap.size w w' := by
  have hmf : ∀ (fn : Fn) (first cap : Array Value) (w : World), (Instr.makeFunc fn first cap).run Try.prog w = .ok (.func fn first cap) w := fun _ _ _ _ => rfl
  have HC := Lib.hid hc
  clear hc
  go_enter Try.func132, Try.ntmps132
  go_wp2_with fail
  obtain ⟨w1, hw1⟩ : ∃ w1, w1 = w.alloc (.cells #[.func (.func clo) #[] capt] 131) := ⟨_, rfl⟩
  have B1 : Below w.heap.size w w1 := by rw [hw1]; exact new_below _ _
  have s1 : w1.cell? ⟨w.heap.size, 0, none⟩ = some (.func (.func clo) #[] capt) := by rw [hw1]; go_simp
  rw [← hw1]
  clear hw1
  refine (HC.out 0 w1 (by omega) (by omega) B1).mono ?_
  rintro e w2 ⟨rfl, hb2⟩
  have B2 := Lib.hid (below_step B1 hb2)
  have S2 := Lib.hid (cell_later hb2 s1)
  obtain ⟨s0, hs0⟩ : ∃ s0, s0 = sc 0 := ⟨_, rfl⟩
  rw [← hs0]
  have HS0 := Lib.hid hs0
  clear hb2 s1 B1 hs0
  go_upto_region 2 with (fail)
  obtain ⟨w3, hw3⟩ : ∃ w3, w3 = (w2.alloc (.cells #[.int .i64 0] 3)).alloc (.cells #[.int .i64 s0] 3) := ⟨_, rfl⟩
  have B3 : Below w2.heap.size w2 w3 := by rw [hw3]; exact below_alloc (new_below _ _) _
  have T3 : TwoB w2.heap.size (w2.heap.size + 1) (bestUp sc 0) w3 := by
    have e0 : bestUp sc 0 = (0, s0) := by rw [HS0.out]; rfl
    rw [hw3, e0]
    exact ⟨(Below.heap_alloc _ _ _ (by simp)).trans (heap_alloc_new _ _), by simpa using heap_alloc_new (w2.alloc (.cells #[.int .i64 0] 3)) (.cells #[.int .i64 s0] 3)⟩
  have l0 := World.block_lt_of_cell? _ _ S2.out
  simp only at l0
  have R0 := Lib.hid (show _ ∧ _ from ⟨T3, Below.refl w2.heap.size w3⟩)
  have S3 := Lib.hid (cell_later B3 S2.out)
  have HB3 := Lib.hid (below_step B2.out B3)
  have SZ := Lib.hid (show w2.heap.size ≤ w3.heap.size ∧ w.heap.size ≤ w2.heap.size from ⟨B3.size, B2.out.size⟩)
  rw [← hw3]
  clear hw3 B3 T3
  go_wp2_with fail
  go_loopw [8] (fun i wr => ∃ k : Nat, k ≤ most ∧ i = .int .i64 ((k + 1 : Nat) : Int) ∧ Hid (TwoB w2.heap.size (w2.heap.size + 1) (bestUp sc k) wr ∧ Below w2.heap.size w3 wr)) (fun i _ => most + 1 - (intOf i).toNat)
  case atStart => exact ⟨0, Nat.zero_le _, rfl, R0⟩
  case round =>
    obtain ⟨k, hk, rfl, HX⟩ := hrel
    clear R0
    have BW := Lib.hid (HB3.out.trans (HX.out.2.mono SZ.out.2))
    by_cases hlt : k < most
    · have s4 := (HX.out.2.cell (p := ⟨w.heap.size, 0, none⟩) l0).trans S3.out
      obtain ⟨m, hm1⟩ : ∃ m : Nat, m = k + 1 := ⟨_, rfl⟩
      rw [← hm1]
      have hm2 : m ≤ 256 := by omega
      have hm3 : m ≤ most := by omega
      have hm0 : 1 ≤ m := by omega
      have HM1 := Lib.hid hm1
      clear hm1
      go_wp2_with fail
      refine (consider_any (m : Int) w.heap.size (w2.heap.size + 1) w2.heap.size clo capt sc (bestUp sc k) wr (by omega) eg s4 HX.out.1 (HC.out (m : Int) wr (by omega) (by omega) BW.out)).mono ?_
      rintro e w5 ⟨rfl, t5, b5⟩
      have T5 := Lib.hid t5
      have B5 := Lib.hid (HX.out.2.trans (b5 w2.heap.size (Nat.le_refl _) (by omega) (by have := HX.out.2.size; have := SZ.out; omega)))
      have s5 := (B5.out.cell (p := ⟨w.heap.size, 0, none⟩) l0).trans S3.out
      have BW5 := Lib.hid (HB3.out.trans (B5.out.mono SZ.out.2))
      clear t5 b5 s4 HX BW
      go_wp2_with fail
      refine (consider_any (-(m : Int)) w.heap.size (w2.heap.size + 1) w2.heap.size clo capt sc _ w5 (by omega) eg s5 T5.out (HC.out (-(m : Int)) w5 (by omega) (by omega) BW5.out)).mono ?_
      rintro e w6 ⟨rfl, t6, b6⟩
      have T6 := Lib.hid t6
      have B6 := Lib.hid (B5.out.trans (b6 w2.heap.size (Nat.le_refl _) (by omega) (by have := B5.out.size; have := SZ.out; omega)))
      clear t6 b6 s5
      go_wp2_with fail
      go_roundw
      case rel => exact ⟨k + 1, by omega, by have := HM1.out; go_num, Lib.hid ⟨by have h := T6.out; rw [HM1.out] at h; exact h, B6.out⟩⟩
      case measure => have := HM1.out; simp [intOf]; omega
    · have hke : k = most := by omega
      subst hke
      obtain ⟨f1, f2⟩ := box_one HX.out.1.1
      obtain ⟨F, hF⟩ : ∃ F, F = (bestUp sc k).1 := ⟨_, rfl⟩
      rw [← hF] at f1
      have HF := Lib.hid hF
      clear hF
      go_wp2_with fail
      go_ret
      exact ⟨ret_int HF.out, BW.out⟩

end Go.Proofs.Ytcpgnfbjdokdcaa
namespace Go.Proofs.Ytcpgnfbjdokdcaa
open Go.RowKit
set_option linter.unusedSimpArgs false
set_option linter.unusedVariables false

theorem ends1_any (n : Nat) (w : World) : Calls Try.prog 159 #[.int .i64 n] w fun e w' => e = .returned (.bool (decide (0 < n))) ∧ w = w' := by
  go_enter Try.func159, Try.ntmps159
  go_wp2
  go_ret
  exact ⟨ret_bool (by simp), rfl⟩

/-- The first place that is not 0, or -1. -/
def FirstIs (f : Nat → Nat) (n : Nat) (i : Int) : Prop := (i = -1 ∧ ∀ k, k < n → f k = 0) ∨ ∃ a : Nat, i = a ∧ a < n ∧ 0 < f a ∧ ∀ k, k < a → f k = 0

def EndInt (P : Int → Prop) (w : World) (e : Ending) (w' : World) : Prop := ∃ i : Int, P i ∧ e = .returned (.int .i64 i) ∧ w = w'

set_option maxHeartbeats 400000 in
theorem indexPos_any (g n c : Nat) (f : Nat → Nat) (w : World) (hn : n ≤ 100000) (hc : ∀ k, k < n → w.cell? ⟨g, 0 + k, none⟩ = some (.int .i64 ((f k : Nat) : Int))) :
    Calls Try.prog 158 #[.slice (some ⟨g, 0, none⟩) n c, .func (.func 159) #[] #[]] w (EndInt (FirstIs f n) w) := by
  have HC := Lib.hid hc
  clear hc
  go_enter Try.func158, Try.ntmps158
  go_wp2_with fail
  go_loop [8] (fun i => ∃ k : Nat, k ≤ n ∧ i = .int .i64 k ∧ Hid (∀ j, j < k → f j = 0)) (fun i => n - (intOf i).toNat)
  case atStart => exact ⟨0, Nat.zero_le _, rfl, Lib.hid (fun j hj => by omega)⟩
  case round =>
    obtain ⟨k, hk, rfl, H0⟩ := hrel
    by_cases hlt : k < n
    · have hx := HC.out k hlt
      rw [Nat.zero_add] at hx
      obtain ⟨v, hv⟩ : ∃ v, v = f k := ⟨_, rfl⟩
      rw [← hv] at hx
      have HV := Lib.hid hv
      have i1 : (k : Int) < (n : Int) := by omega
      clear hv
      by_cases hp : 0 < v
      · have hd : decide (0 < v) = true := by simpa using hp
        go_wp2_with (go_at_call 159; refine (ends1_any v _).mono ?_; rintro e w' ⟨rfl, rfl⟩)
        go_ret
        exact ⟨k, .inr ⟨k, rfl, hlt, by rw [← HV.out]; exact hp, H0.out⟩, rfl, rfl⟩
      · have hd : decide (0 < v) = false := by simpa using hp
        go_wp2_with (go_at_call 159; refine (ends1_any v _).mono ?_; rintro e w' ⟨rfl, rfl⟩)
        go_round
        case rel => exact ⟨k + 1, by omega, by go_num, Lib.hid fun j hj => by
          by_cases e : j = k
          · rw [e, ← HV.out]; omega
          · exact H0.out j (by omega)⟩
        case measure => simp [intOf]; omega
    · obtain rfl : k = n := by omega
      go_wp2_with fail
      go_ret
      exact ⟨-1, .inl ⟨rfl, H0.out⟩, rfl, rfl⟩

/-- The ends of a list. -/
def EndsIs (f : Nat → Nat) (n : Nat) (i j : Int) (q : Bool) : Prop :=
  (q = false ∧ i = 0 ∧ j = 0 ∧ ∀ k, k < n → f k = 0) ∨ (q = true ∧ ∃ a b : Nat, i = a ∧ j = b ∧ a < n ∧ b < n ∧ 0 < f a ∧ 0 < f b ∧ (∀ k, k < a → f k = 0) ∧ ∀ k, b < k → k < n → f k = 0)

def EndTwo (P : Int → Int → Bool → Prop) (w : World) (e : Ending) (w' : World) : Prop := ∃ (i j : Int) (q : Bool), P i j q ∧ e = .returned (.tuple #[.int .i64 i, .int .i64 j, .bool q]) ∧ w = w'

set_option maxHeartbeats 400000 in
theorem ends_any (g n c : Nat) (f : Nat → Nat) (w : World) (hn : n ≤ 100000) (hn1 : 1 ≤ n) (hc : ∀ k, k < n → w.cell? ⟨g, 0 + k, none⟩ = some (.int .i64 ((f k : Nat) : Int))) :
    Calls Try.prog 122 #[.slice (some ⟨g, 0, none⟩) n c] w (EndTwo (EndsIs f n) w) := by
  have HI := Lib.hid (indexPos_any g n c f w hn hc)
  have HC := Lib.hid hc
  clear hc
  go_enter Try.func122, Try.ntmps122
  go_wp2_with fail
  refine HI.out.mono ?_
  rintro e w' ⟨i, hi, rfl, rfl⟩
  rcases hi with ⟨rfl, h0⟩ | ⟨a, rfl, ha, hfa, hlo⟩
  · have H0 := Lib.hid h0
    clear h0
    go_wp2_with fail
    refine bodyPost_ret (v := .tuple #[.int .i64 0, .int .i64 0, .bool false]) (by simp [results, Try.results122, go_sem]) rfl ⟨0, 0, false, .inl ⟨rfl, rfl, rfl, H0.out⟩, rfl, rfl⟩
  · have HA := Lib.hid hfa
    have HL := Lib.hid hlo
    clear hfa hlo
    go_wp2_with fail
    go_loop [6] (fun i => ∃ k : Nat, a ≤ k ∧ k < n ∧ i = .int .i64 k ∧ Hid (∀ j, k < j → j < n → f j = 0)) (fun i => (intOf i).toNat)
    case atStart => exact ⟨n - 1, by omega, by omega, by rw [show ((n - 1 : Nat) : Int) = (n : Int) - 1 by omega], Lib.hid (fun j hj hj' => by omega)⟩
    case round =>
      obtain ⟨k, hk1, hk2, rfl, H0⟩ := hrel
      have hx := HC.out k hk2
      rw [Nat.zero_add] at hx
      obtain ⟨v, hv⟩ : ∃ v, v = f k := ⟨_, rfl⟩
      rw [← hv] at hx
      have HV := Lib.hid hv
      have i1 : (k : Int) < (n : Int) := by omega
      clear hv
      by_cases hp : v = 0
      · have hka : k ≠ a := by intro e; have := HA.out; rw [← e, ← HV.out] at this; omega
        subst hp
        go_wp2_with fail
        go_round
        case rel => exact ⟨k - 1, by omega, by omega, by rw [show ((k - 1 : Nat) : Int) = (k : Int) - 1 by omega], Lib.hid fun j hj hj' => by
          by_cases e : j = k
          · rw [e, ← HV.out]
          · exact H0.out j (by omega) hj'⟩
        case measure => simp [intOf]; omega
      · have hvb : ((v : Int) == 0) = false := by simpa using hp
        go_wp2_with fail
        refine bodyPost_ret (v := .tuple #[.int .i64 a, .int .i64 k, .bool true]) (by simp [results, Try.results122, go_sem]) rfl ⟨a, k, true, .inr ⟨rfl, a, k, rfl, rfl, ha, hk2, HA.out, by rw [← HV.out]; omega, HL.out, H0.out⟩, rfl, rfl⟩

end Go.Proofs.Ytcpgnfbjdokdcaa

namespace Go.Proofs.Ytcpgnfbjdokdcaa
open Go.RowKit
set_option linter.unusedSimpArgs false
set_option linter.unusedVariables false

/-- The least box that has all ink. -/
def Bound (z : Nat → Bool) (W H L T R B : Nat) : Prop :=
  (∀ i j, i < W → j < H → z (j * W + i) = true → (L ≤ i ∧ i ≤ R) ∧ T ≤ j ∧ j ≤ B) ∧ ((∃ j, j < H ∧ z (j * W + L) = true) ∧ L < W) ∧ ((∃ j, j < H ∧ z (j * W + R) = true) ∧ R < W) ∧ ((∃ i, i < W ∧ z (T * W + i) = true) ∧ T < H) ∧ ((∃ i, i < W ∧ z (B * W + i) = true) ∧ B < H)

theorem toNat_pos {b : Bool} (h : 0 < b.toNat) : b = true := by cases b <;> simp_all
theorem col_pos {z : Nat → Bool} {W H x : Nat} (h : 0 < inkB z W x 0 1 H) : ∃ j, j < H ∧ z (j * W + x) = true := by
  obtain ⟨j, hj, h1⟩ := sumN_pos h
  simp [ink1, sumN] at h1
  exact ⟨j, hj, toNat_pos h1⟩
theorem col_zero {z : Nat → Bool} {W H x j : Nat} (h : inkB z W x 0 1 H = 0) (hj : j < H) : z (j * W + x) = false := by
  have := sumN_ge (f := fun j => ink1 z W x (0 + j) 1) hj
  unfold inkB at h
  rw [h] at this
  simp [ink1, sumN] at this
  cases e : z (j * W + x) <;> simp_all
theorem row_pos {z : Nat → Bool} {W y : Nat} (h : 0 < inkB z W 0 y W 1) : ∃ i, i < W ∧ z (y * W + i) = true := by
  simp only [inkB, sumN, Nat.zero_add, Nat.add_zero] at h
  obtain ⟨i, hi, h1⟩ := sumN_pos h
  simp only [Nat.zero_add] at h1
  exact ⟨i, hi, toNat_pos h1⟩
theorem row_zero {z : Nat → Bool} {W y i : Nat} (h : inkB z W 0 y W 1 = 0) (hi : i < W) : z (y * W + i) = false := by
  simp only [inkB, sumN, Nat.zero_add, Nat.add_zero] at h
  have := sumN_ge (f := fun i => (z (y * W + (0 + i))).toNat) hi
  unfold ink1 at h
  rw [h] at this
  simp at this
  exact this

/-- The least box, as four numbers; whether there is one. -/
def BoxIs (z : Nat → Bool) (W H : Nat) (X Y bw bh : Int) (q : Bool) : Prop :=
  (q = false ∧ X = 0 ∧ Y = 0 ∧ bw = 0 ∧ bh = 0 ∧ ∀ i j, i < W → j < H → z (j * W + i) = false) ∨
  (q = true ∧ ∃ L T R B : Nat, X = L ∧ Y = T ∧ bw = (R : Int) - (L : Int) + 1 ∧ bh = (B : Int) - (T : Int) + 1 ∧ Bound z W H L T R B)

theorem box_of_ends {z : Nat → Bool} {W H : Nat} {i j k l : Int} {q : Bool} (h1 : EndsIs (fun x => inkB z W x 0 1 H) W i j true) (h2 : EndsIs (fun y => inkB z W 0 y W 1) H k l q) : BoxIs z W H i k (j - i + 1) (l - k + 1) true := by
  rcases h1 with ⟨h, _⟩ | ⟨_, a, b, rfl, rfl, ha, hb, pa, pb, la, lb⟩
  · cases h
  obtain ⟨jj, hj, hz⟩ := col_pos pa
  rcases h2 with ⟨_, _, _, h0⟩ | ⟨_, c, d, rfl, rfl, hc, hd, pc, pd, lc, ld⟩
  · have := row_zero (h0 jj hj) ha
    rw [hz] at this; cases this
  · refine .inr ⟨rfl, a, c, b, d, rfl, rfl, rfl, rfl, fun x y hx hy hzz => ?_, ⟨⟨jj, hj, hz⟩, ha⟩, ⟨col_pos pb, hb⟩, ⟨row_pos pc, hc⟩, row_pos pd, hd⟩
    refine ⟨⟨?_, ?_⟩, ?_, ?_⟩
    · refine Nat.le_of_not_lt fun e => ?_
      have := col_zero (la x e) hy
      rw [hzz] at this; cases this
    · refine Nat.le_of_not_lt fun e => ?_
      have := col_zero (lb x e hx) hy
      rw [hzz] at this; cases this
    · refine Nat.le_of_not_lt fun e => ?_
      have := row_zero (lc y e) hx
      rw [hzz] at this; cases this
    · refine Nat.le_of_not_lt fun e => ?_
      have := row_zero (ld y e hy) hx
      rw [hzz] at this; cases this

theorem box_none {z : Nat → Bool} {W H : Nat} {i j : Int} (h : EndsIs (fun x => inkB z W x 0 1 H) W i j false) : BoxIs z W H 0 0 0 0 false := by
  rcases h with ⟨_, _, _, h0⟩ | ⟨h, _⟩
  · exact .inl ⟨rfl, rfl, rfl, rfl, rfl, fun x y hx hy => col_zero (h0 x hx) hy⟩
  · cases h

theorem endsIs_bound {f : Nat → Nat} {n : Nat} {i j : Int} {q : Bool} (h : EndsIs f n i j q) : (0 ≤ i ∧ i ≤ n) ∧ 0 ≤ j ∧ j ≤ n := by
  rcases h with ⟨_, rfl, rfl, _⟩ | ⟨_, a, b, rfl, rfl, ha, hb, _⟩ <;> omega

theorem block4 {w : World} {b : Nat} {x y z u : Value} {t : TypeId} (h : w.heap[b]? = some (.cells #[x, y, z, u] t (0, 0))) :
    (w.cell? ⟨b, 0, none⟩ = some x ∧ w.cell? ⟨b, 1, none⟩ = some y ∧ w.cell? ⟨b, 2, none⟩ = some z ∧ w.cell? ⟨b, 3, none⟩ = some u) ∧ w.frozen? ⟨b, 0, none⟩ = false ∧ w.frozen? ⟨b, 1, none⟩ = false ∧ w.frozen? ⟨b, 2, none⟩ = false ∧ w.frozen? ⟨b, 3, none⟩ = false := by
  exact ⟨⟨by rw [cell_of_row w b 0 _ t (0, 0) h]; rfl, by rw [cell_of_row w b 1 _ t (0, 0) h]; rfl, by rw [cell_of_row w b 2 _ t (0, 0) h]; rfl, by rw [cell_of_row w b 3 _ t (0, 0) h]; rfl⟩, frozen_of_row w b 0 _ t h, frozen_of_row w b 1 _ t h, frozen_of_row w b 2 _ t h, frozen_of_row w b 3 _ t h⟩

set_option maxHeartbeats 1000000 in
set_option maxRecDepth 100000 in
theorem boundsOf_any (W H g o c : Nat) (z : Nat → Bool) (w : World) (hW : 1 ≤ W ∧ W ≤ 4000) (hH : 1 ≤ H ∧ H ≤ 4000)
    (hp : ∀ j, j < W * H → w.cell? ⟨g, o + j, none⟩ = some (.bool (z j))) :
    Calls Try.prog 68 #[.agg #[.int .i64 W, .int .i64 H, .slice (some ⟨g, o, none⟩) (W * H) c]] w fun e w' =>
      ∃ X Y bw bh q, e = .returned (.tuple #[.agg #[.int .i64 X, .int .i64 Y, .int .i64 bw, .int .i64 bh], .bool q]) ∧ BoxIs z W H X Y bw bh q ∧ Below w.heap.size w w' := by
  obtain ⟨w1, hw1⟩ : ∃ w1, w1 = (w.alloc (.cells #[.int .i64 W, .int .i64 H, .slice (some ⟨g, o, none⟩) (W * H) c] 24)).alloc (.cells #[.int .i64 0, .int .i64 0, .int .i64 0, .int .i64 0] 29) := ⟨_, rfl⟩
  have B1 : Below w.heap.size w w1 := by rw [hw1]; exact below_alloc (new_below _ _) _
  have q0 : w1.cell? ⟨w.heap.size, 0, none⟩ = some (.int .i64 W) := by rw [hw1]; go_simp
  have q1 : w1.cell? ⟨w.heap.size, 1, none⟩ = some (.int .i64 H) := by rw [hw1]; go_simp
  have q2 : w1.cell? ⟨w.heap.size, 2, none⟩ = some (.slice (some ⟨g, o, none⟩) (W * H) c) := by rw [hw1]; go_simp
  have qb : w1.heap[w.heap.size + 1]? = some (.cells #[.int .i64 0, .int .i64 0, .int .i64 0, .int .i64 0] 29 (0, 0)) := by
    rw [hw1]
    simpa using heap_alloc_new (w.alloc (.cells #[.int .i64 W, .int .i64 H, .slice (some ⟨g, o, none⟩) (W * H) c] 24)) (.cells #[.int .i64 0, .int .i64 0, .int .i64 0, .int .i64 0] 29)
  have HC := Lib.hid (fun j hj => cell_later B1 (hp j hj))
  have HB1 := Lib.hid B1
  have HQB := Lib.hid qb
  clear hp B1 qb
  go_enter Try.func68, Try.ntmps68
  go_upto_region 1 with fail
  rw [← hw1]
  clear hw1
  go_wp2_with fail
  refine (columnsOf_any W H g o c z w1 hW hH HC.out).mono ?_
  rintro e w2 ⟨v, rfl, hown, hb2⟩
  obtain ⟨g2, c2, rfl, hg2, hz2⟩ := owns_nums hown hW.1
  have HZ2 := Lib.hid hz2
  have HB2 := Lib.hid hb2
  have k0 := cell_later hb2 q0
  have k1 := cell_later hb2 q1
  have k2 := cell_later hb2 q2
  clear hown hz2 hb2 q0 q1 q2
  go_wp2_with fail
  refine (ends_any g2 W c2 (fun x => inkB z W x 0 1 H) w2 (by omega) hW.1 HZ2.out).mono ?_
  rintro e w' ⟨i, j, q, hi, rfl, rfl⟩
  have HI := Lib.hid hi
  have hbi := endsIs_bound hi
  obtain ⟨⟨bi0, bi1⟩, bj0, bj1⟩ := hbi
  clear hi
  have HBW := Lib.hid (below_step HB1.out HB2.out)
  have lb := (Array.getElem?_eq_some_iff.1 HQB.out).1
  cases q
  · obtain ⟨⟨j0, j1, j2, j3⟩, r0, r1, r2, r3⟩ := block4 (below_block HB2.out HQB.out)
    go_wp2_with fail
    refine bodyPost_ret (v := .tuple #[.agg #[.int .i64 0, .int .i64 0, .int .i64 0, .int .i64 0], .bool false]) (by simp [results, Try.results68, go_sem, j0, j1, j2, j3]) rfl ⟨0, 0, 0, 0, false, rfl, box_none HI.out, ?_⟩
    exact (((HBW.out.setCell (by simp) _).setCell (by simp) _).setCell (by simp) _).setCell (by simp) _
  · go_wp2_with fail
    refine (rowsOf_any W H g o c z w2 hW hH (fun j hj => cell_later HB2.out (HC.out j hj))).mono ?_
    rintro e w3 ⟨v, rfl, hown, hb3⟩
    obtain ⟨g3, c3, rfl, hg3, hz3⟩ := owns_nums hown hH.1
    have HZ3 := Lib.hid hz3
    have HB3 := Lib.hid hb3
    clear hown hz3 hb3 k0 k1 k2
    go_wp2_with fail
    refine (ends_any g3 H c3 (fun y => inkB z W 0 y W 1) w3 (by omega) hH.1 HZ3.out).mono ?_
    rintro e w' ⟨k, l, q, hk, rfl, rfl⟩
    have HK := Lib.hid hk
    have hbk := endsIs_bound hk
    obtain ⟨⟨bk0, bk1⟩, bl0, bl1⟩ := hbk
    clear hk
    obtain ⟨⟨j0, j1, j2, j3⟩, r0, r1, r2, r3⟩ := block4 (below_block HB3.out (below_block HB2.out HQB.out))
    go_wp2_with fail
    refine bodyPost_ret (v := .tuple #[.agg #[.int .i64 i, .int .i64 k, .int .i64 (j - i + 1), .int .i64 (l - k + 1)], .bool true]) (by simp [results, Try.results68, go_sem, j0, j1, j2, j3]) rfl ⟨_, _, _, _, true, rfl, box_of_ends HI.out HK.out, ?_⟩
    exact ((((below_step HBW.out HB3.out).setCell (by simp) _).setCell (by simp) _).setCell (by simp) _).setCell (by simp) _

end Go.Proofs.Ytcpgnfbjdokdcaa
