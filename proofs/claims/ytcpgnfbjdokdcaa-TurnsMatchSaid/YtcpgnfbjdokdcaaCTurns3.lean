/-
  What turns_holds leans on: contracts of the functions that it calls.
-/
import Derived.Test.YtcpgnfbjdokdcaaRows
import Derived.WalkKit
import Derived.WalkSpells
import Derived.WalkLawsBesides
import Derived.Lib.Hide
import Derived.Deep.RegionHeld3
import Derived.Shelf.Abstract
import Derived.Deep.AppendLies
import Derived.Deep.DrawnRows
import Derived.Deep.RegionLaw
import Derived.Deep.QuietTactic
import Derived.BigQuiet
import Derived.ProofKit
import Derived.OpenShut
import Derived.ShutString
import Derived.ChangeOld
import Derived.Lib.SmallJoins
import Derived.Deep.Grids
import Derived.Lib.MinMax
import Derived.Test.YtcpgnfbjdokdcaaCTurns2
namespace Go.Proofs.Ytcpgnfbjdokdcaa
open Go.RowKit
set_option linter.unusedSimpArgs false
set_option linter.unusedVariables false

set_option maxRecDepth 100000 in
theorem turns1_any (i j : Int) (sl : Option Addr) (n c pb : Nat) (w : World)
    (c0 : w.cell? ⟨pb, 0, none⟩ = some (.int .i64 i)) (c1 : w.cell? ⟨pb, 1, none⟩ = some (.int .i64 j)) (c2 : w.cell? ⟨pb, 2, none⟩ = some (.slice sl n c)) :
    Calls Try.prog 37 #[.pointer (some ⟨pb, 0, none⟩)] w fun e w' => e = .returned (.agg #[.int .i64 i, .int .i64 j, .slice sl n c]) ∧ Below w.heap.size w w' := by
  have lb := World.block_lt_of_cell? _ _ c0
  simp only at lb
  go_enter Try.func37, Try.ntmps37
  go_wp2_with fail
  refine bodyPost_ret (v := .agg #[.int .i64 i, .int .i64 j, .slice sl n c]) (by simp [results, Try.results37, go_sem]) rfl ⟨rfl, ?_⟩
  exact new_below _ _

set_option maxRecDepth 100000 in
theorem turns5i_any (W H x y a b d t pb tb g o c : Nat) (q : Bool) (w : World) (hW : W ≤ 4000) (hH : H ≤ 4000) (ht : 1 ≤ t) (ha : x / t = a) (hb : y / t = b) (hx : a < W) (hy : b < H) (hx' : x ≤ 64000) (hy' : y ≤ 64000)
    (c0 : w.cell? ⟨pb, 0, none⟩ = some (.int .i64 W)) (c1 : w.cell? ⟨pb, 1, none⟩ = some (.int .i64 H)) (c2 : w.cell? ⟨pb, 2, none⟩ = some (.slice (some ⟨g, o, none⟩) (W * H) c)) (c3 : w.cell? ⟨tb, 0, none⟩ = some (.int .i64 t)) (hc : w.cell? ⟨g, o + (b * W + a), none⟩ = some (.bool q)) :
    Calls Try.prog 49 #[.int .i64 x, .int .i64 y, .pointer (some ⟨pb, 0, none⟩), .pointer (some ⟨tb, 0, none⟩)] w fun e w' => e = .returned (.bool q) ∧ Below w.heap.size w w' := by
  have d1 : (x : Int) / (t : Int) = (a : Int) := by rw [← ha]; simp
  have d2 : (y : Int) / (t : Int) = (b : Int) := by rw [← hb]; simp
  have HA := Lib.hid (at_in W H g o c a b q w.drew (by omega) (by omega) hx hy (cell_later (Below.refl w.heap.size w).drew hc))
  have t0 : (t : Int) ≠ 0 := by omega
  have t0b : ((t : Int) == 0) = false := by simpa using t0
  have t0n : ¬ t = 0 := by omega
  have t0p : (0 : Int) < (t : Int) := by omega
  have x0p : (0 : Int) ≤ (x : Int) := by omega
  have y0p : (0 : Int) ≤ (y : Int) := by omega
  have t0q : (1 : Int) ≤ (t : Int) := by omega
  have g1 : IntKind.i64.wrap ((x : Int) / (t : Int)) = (a : Int) := by rw [d1]; exact IntWalk.i64_in _ (by omega)
  have g2 : IntKind.i64.wrap ((y : Int) / (t : Int)) = (b : Int) := by rw [d2]; exact IntWalk.i64_in _ (by omega)
  have g3 : wrap64 ((x : Int) / (t : Int)) = (a : Int) := by rw [d1]; unfold wrap64; omega
  have g4 : wrap64 ((y : Int) / (t : Int)) = (b : Int) := by rw [d2]; unfold wrap64; omega
  clear hc ha hb d1 d2
  go_enter Try.func49, Try.ntmps49
  go_wp2_with fail
  go_region_held3 (fun w' => w'.cell? ⟨pb, 0, none⟩ = some (.int .i64 W) ∧ w'.cell? ⟨pb, 1, none⟩ = some (.int .i64 H) ∧ w'.cell? ⟨pb, 2, none⟩ = some (.slice (some ⟨g, o, none⟩) (W * H) c) ∧ w'.cell? ⟨tb, 0, none⟩ = some (.int .i64 t))
    (first | (go_keep; done) | (go_split_ands; exact ⟨cell_later hb5 (by assumption), cell_later hb5 (by assumption), cell_later hb5 (by assumption), cell_later hb5 (by assumption)⟩))
    ((first | (go_at_call 41; (try simp only [g1, g2, g3, g4]); with_reducible refine HA.out.mono ?_; rintro e w5 ⟨rfl, hb5⟩)))
  all_goals go_wp2_with fail
  all_goals go_ret
  all_goals exact ⟨rfl, below_step (Below.refl w.heap.size w).drew hb5⟩

set_option maxHeartbeats 400000 in
set_option maxRecDepth 100000 in
theorem turns5_any (W H t W2 H2 pb tb g o c : Nat) (z : Nat → Bool) (w : World) (hW : 1 ≤ W ∧ W ≤ 4000) (hH : 1 ≤ H ∧ H ≤ 4000) (h1 : 1 ≤ t) (h2 : t ≤ 16) (hW2 : W2 = W * t) (hH2 : H2 = H * t) (hW2' : 1 ≤ W2 ∧ W2 ≤ 4000) (hH2' : 1 ≤ H2 ∧ H2 ≤ 4000) (hN : W2 * H2 ≤ 1048576)
    (c0 : w.cell? ⟨pb, 0, none⟩ = some (.int .i64 W)) (c1 : w.cell? ⟨pb, 1, none⟩ = some (.int .i64 H)) (c2 : w.cell? ⟨pb, 2, none⟩ = some (.slice (some ⟨g, o, none⟩) (W * H) c)) (c3 : w.cell? ⟨tb, 0, none⟩ = some (.int .i64 t))
    (hp : ∀ j, j < W * H → w.cell? ⟨g, o + j, none⟩ = some (.bool (z j))) :
    Calls Try.prog 48 #[.pointer (some ⟨pb, 0, none⟩), .pointer (some ⟨tb, 0, none⟩)] w fun e w' => ∃ v, e = .returned v ∧ PageB w' v W2 H2 (W2 * H2) (fun k => z (k / W2 / t * W + k % W2 / t)) ∧ Below w.heap.size w w' := by
  have hmf : ∀ (fn : Fn) (first cap : Array Value) (w : World), (Instr.makeFunc fn first cap).run Try.prog w = .ok (.func fn first cap) w := fun _ _ _ _ => rfl
  have lb := World.block_lt_of_cell? _ _ c0
  have lt := World.block_lt_of_cell? _ _ c3
  simp only at lb lt
  have f1 : (W : Int) * (t : Int) = (W2 : Int) := by rw [hW2, Int.natCast_mul]
  have f2 : (H : Int) * (t : Int) = (H2 : Int) := by rw [hH2, Int.natCast_mul]
  obtain ⟨w1, hw1⟩ : ∃ w1, w1 = w.alloc (.cells #[.int .i64 0, .int .i64 0, .slice none 0 0] 24) := ⟨_, rfl⟩
  have B1 : Below w.heap.size w w1 := by rw [hw1]; exact new_below _ _
  have qb : w1.heap[w.heap.size]? = some (.cells #[.int .i64 0, .int .i64 0, .slice none 0 0] 24 (0, 0)) := by rw [hw1]; exact heap_alloc_new _ _
  have HW2 := Lib.hid hW2
  have HH2 := Lib.hid hH2
  have k0 := cell_later B1 c0
  have k1 := cell_later B1 c1
  have k2 := cell_later B1 c2
  have k3 := cell_later B1 c3
  have L := Lib.hid (Array.getElem?_eq_some_iff.1 qb).1
  have HM := Lib.hid (made_any W2 H2 49 #[.pointer (some ⟨pb, 0, none⟩), .pointer (some ⟨tb, 0, none⟩)] (fun x y => z (y / t * W + x / t)) w1 hW2'.1 (by omega) (by omega) (by omega) (Go.Proofs.enters_of Try.func49 (by kernel_rfl) rfl) (fun x y wx hx hy hbx => by
    have hb := hbx
    obtain ⟨p1, p2⟩ := grown_place h1 (show x < W * t by rw [← HW2.out]; exact hx) (show y < H * t by rw [← HH2.out]; exact hy)
    have hfit := row_fits p2 (show x / t + 1 ≤ W by omega)
    exact turns5i_any W H x y _ _ 0 t pb tb g o c _ wx hW.2 hH.2 h1 rfl rfl p1 p2 (by omega) (by omega) (cell_later hb k0) (cell_later hb k1) (cell_later hb k2) (cell_later hb k3) (cell_later hb (cell_later B1 (hp _ (by omega))))))
  have HQ := Lib.hid qb
  clear hp c2 hW2 hH2 qb
  go_enter Try.func48, Try.ntmps48
  go_wp2_with fail
  rw [← hw1]
  clear hw1
  refine HM.out.mono ?_
  rintro e w5 ⟨v, rfl, hown, hb5⟩
  obtain ⟨j0, j1, j2, r0, r1, r2⟩ := block3 (below_block hb5 HQ.out)
  obtain ⟨g', c', rfl, hgb, hz⟩ := owns_pageB hown (Nat.mul_pos hW2'.1 hH2'.1)
  have ZC := Lib.hid hz
  have G := Lib.hid hb5
  clear hown hb5 hz c0 c1 c3 k0 k1 k2 k3
  go_wp2_with fail
  refine bodyPost_ret (v := .agg #[.int .i64 W2, .int .i64 H2, .slice (some ⟨g', 0, none⟩) (W2 * H2) c']) (by simp [results, Try.results48, go_sem, j0, j1, j2]) rfl ⟨_, rfl, ⟨g', 0, c', rfl, fun j hj => ?_⟩, below_far3 (below_step B1 G.out) (Nat.le_refl _)⟩
  exact cell_far3 (show g' ≠ w.heap.size by have := L.out; omega) (ZC.out j hj)

end Go.Proofs.Ytcpgnfbjdokdcaa
namespace Go.Proofs.Ytcpgnfbjdokdcaa
open Go.RowKit
set_option linter.unusedSimpArgs false
set_option linter.unusedVariables false

set_option maxRecDepth 100000 in
theorem clone_any (g o n c : Nat) (z : Nat → Bool) (w : World) (hn : 1 ≤ n) (hn' : n ≤ 1048576) (hc : ∀ j, j < n → w.cell? ⟨g, o + j, none⟩ = some (.bool (z j))) :
    Calls Try.prog 113 #[.slice (some ⟨g, o, none⟩) n c] w fun e w' =>
      ∃ v, e = .returned v ∧ w'.ownsRow w.heap.size 4 1 v n ((List.range n).map fun k => Value.bool (z k)) ∧ Below w.heap.size w w' := by
  have qT : ∀ (w : World) (a : Option Addr) (n c n' c' : Nat), (binOp .eql 22 (.slice a n c) (.slice none n' c')).run Try.prog w = .ok (.bool a.isNone) w := fun w a n c n' c' => Lib.run_eql_slice_nil w _ _ a n c n' c' Try.underlying22
  obtain ⟨i0, hi, hz0, hz1, hz2⟩ := info_parts info_bool
  have HC := Lib.hid hc
  clear hc
  go_enter Try.func113, Try.ntmps113
  have hown : (w.alloc (.cells #[] 4)).ownsRow w.heap.size 4 1 (.slice (some ⟨w.heap.size, 0, none⟩) 0 0) 0 [] := World.ownsRow_made w #[] 0 (Nat.le_refl _) (by unfold maxLen; omega) rfl
  have HN := Lib.hid (show ∀ j u, ((List.range n).map fun k => Value.bool (z k))[j]? = some u → (w.alloc (.cells #[] 4)).cell? ((⟨g, o, none⟩ : Addr).add j) = some u by
    intro j u hu
    rw [List.getElem?_map] at hu
    by_cases hj : j < n
    · rw [List.getElem?_range hj] at hu
      simp at hu
      subst hu
      rw [Addr.add_lit]
      exact cell_later (new_below _ _) (HC.out j hj)
    · rw [List.getElem?_eq_none (by simpa using hj)] at hu
      simp at hu)
  have HO := Lib.hid hown
  clear hown
  go_wp2_with (at_builtin; refine wpList_append_own _ rfl _ _ 22 rfl w.heap.size 4 i0 (.bool false) 1 1 Try.underlying22 hi hz0 hz1 hz2 rfl (by decide) _ _ _ rfl HO.out ⟨g, o, none⟩ n c ((List.range n).map fun k => Value.bool (z k)) rfl ?c0 HN.out ?c2 ?c3 ?c4 ?c5 ?_)
  case c0 => simp
  case c2 => intro u hu; simp at hu; obtain ⟨k, _, rfl⟩ := hu; rfl
  case c3 => unfold maxLen; omega
  case c4 => omega
  case c5 => simp
  · intro v' w2 hown2 hgr2 _
    have B2 : Below w.heap.size w w2 := (new_below w (.cells #[] 4)).grown hgr2 (by simp) (fun k hk => by simp [Value.ownBlock] at hk; omega)
    have H2 := Lib.hid hown2
    clear hown2 hgr2
    go_wp2_with fail
    go_ret
    exact ⟨v', rfl, H2.out, B2⟩

end Go.Proofs.Ytcpgnfbjdokdcaa
namespace Go.Proofs.Ytcpgnfbjdokdcaa
open Go.RowKit
set_option linter.unusedSimpArgs false
set_option linter.unusedVariables false

/-- The pixel at a place of a page turned k times. -/
def turnAt {α : Type} (W H k : Nat) (z : Nat → α) (x y : Nat) : α :=
  if k = 1 then z ((H - 1 - x) * W + y) else if k = 2 then z ((H - 1 - y) * W + (W - 1 - x)) else if k = 3 then z (x * W + (W - 1 - y)) else z (y * W + x)
def turnW (W H k : Nat) : Nat := if k = 1 ∨ k = 3 then H else W

set_option maxRecDepth 100000 in
theorem turnB1_any (W H x y pb wb hb g o n c t : Nat) (q : Bool) (w : World) (hW : W ≤ 4000) (hH : H ≤ 4000) (hx : x < H) (hy : y < W) (hn : n = W * H) (ht : t = (H - 1 - x) * W + y)
    (c0 : w.cell? ⟨pb, 0, none⟩ = some (.slice (some ⟨g, o, none⟩) n c)) (c1 : w.cell? ⟨hb, 0, none⟩ = some (.int .i64 H)) (c2 : w.cell? ⟨wb, 0, none⟩ = some (.int .i64 W)) (hc : w.cell? ⟨g, o + t, none⟩ = some (.bool q)) :
    Calls Try.prog 150 #[.int .i64 x, .int .i64 y, .pointer (some ⟨pb, 0, none⟩), .pointer (some ⟨hb, 0, none⟩), .pointer (some ⟨wb, 0, none⟩)] w fun e w' => e = .returned (.bool q) ∧ w = w' := by
  obtain ⟨A, hA⟩ : ∃ A, A = H - 1 - x := ⟨_, rfl⟩
  have e0 : (H : Int) - 1 - (x : Int) = (A : Int) := by omega
  rw [← hA] at ht
  obtain ⟨r1, r2⟩ := row_prod (y := A) hW hH (by omega)
  obtain ⟨P, hP⟩ : ∃ P, P = A * W := ⟨_, rfl⟩
  have e1 : (A : Int) * (W : Int) = (P : Int) := by rw [hP, Int.natCast_mul]
  rw [← hP] at r1 r2 ht
  have htn : (t : Int) < (n : Int) := by rw [hn, Nat.mul_comm W H]; omega
  have e2 : (P : Int) + (y : Int) = (t : Int) := by omega
  clear hP ht hn r2 hA
  go_enter Try.func150, Try.ntmps150
  go_wp2
  go_ret
  exact ⟨rfl, rfl⟩

set_option maxRecDepth 100000 in
theorem turnB2_any (W H x y pb wb hb g o n c t : Nat) (q : Bool) (w : World) (hW : W ≤ 4000) (hH : H ≤ 4000) (hx : x < W) (hy : y < H) (hn : n = W * H) (ht : t = (H - 1 - y) * W + (W - 1 - x))
    (c0 : w.cell? ⟨pb, 0, none⟩ = some (.slice (some ⟨g, o, none⟩) n c)) (c1 : w.cell? ⟨hb, 0, none⟩ = some (.int .i64 H)) (c2 : w.cell? ⟨wb, 0, none⟩ = some (.int .i64 W)) (hc : w.cell? ⟨g, o + t, none⟩ = some (.bool q)) :
    Calls Try.prog 151 #[.int .i64 x, .int .i64 y, .pointer (some ⟨pb, 0, none⟩), .pointer (some ⟨hb, 0, none⟩), .pointer (some ⟨wb, 0, none⟩)] w fun e w' => e = .returned (.bool q) ∧ w = w' := by
  obtain ⟨A, hA⟩ : ∃ A, A = H - 1 - y := ⟨_, rfl⟩
  have e0 : (H : Int) - 1 - (y : Int) = (A : Int) := by omega
  rw [← hA] at ht
  obtain ⟨r1, r2⟩ := row_prod (y := A) hW hH (by omega)
  obtain ⟨P, hP⟩ : ∃ P, P = A * W := ⟨_, rfl⟩
  have e1 : (A : Int) * (W : Int) = (P : Int) := by rw [hP, Int.natCast_mul]
  rw [← hP] at r1 r2 ht
  have htn : (t : Int) < (n : Int) := by rw [hn, Nat.mul_comm W H]; omega
  have e2 : (P : Int) + (W : Int) - 1 - (x : Int) = (t : Int) := by omega
  clear hP ht hn r2 hA
  go_enter Try.func151, Try.ntmps151
  go_wp2
  go_ret
  exact ⟨rfl, rfl⟩

set_option maxRecDepth 100000 in
theorem turnB3_any (W H x y pb wb g o n c t : Nat) (q : Bool) (w : World) (hW : W ≤ 4000) (hH : H ≤ 4000) (hx : x < H) (hy : y < W) (hn : n = W * H) (ht : t = x * W + (W - 1 - y))
    (c0 : w.cell? ⟨pb, 0, none⟩ = some (.slice (some ⟨g, o, none⟩) n c)) (c2 : w.cell? ⟨wb, 0, none⟩ = some (.int .i64 W)) (hc : w.cell? ⟨g, o + t, none⟩ = some (.bool q)) :
    Calls Try.prog 152 #[.int .i64 x, .int .i64 y, .pointer (some ⟨pb, 0, none⟩), .pointer (some ⟨wb, 0, none⟩)] w fun e w' => e = .returned (.bool q) ∧ w = w' := by
  obtain ⟨r1, r2⟩ := row_prod (y := x) hW hH hx
  obtain ⟨P, hP⟩ : ∃ P, P = x * W := ⟨_, rfl⟩
  have e1 : (x : Int) * (W : Int) = (P : Int) := by rw [hP, Int.natCast_mul]
  rw [← hP] at r1 r2 ht
  have htn : (t : Int) < (n : Int) := by rw [hn, Nat.mul_comm W H]; omega
  have e2 : (P : Int) + (W : Int) - 1 - (y : Int) = (t : Int) := by omega
  clear hP ht hn r2
  go_enter Try.func152, Try.ntmps152
  go_wp2
  go_ret
  exact ⟨rfl, rfl⟩

set_option maxHeartbeats 4000000 in
set_option maxRecDepth 100000 in
theorem turnB_any (W H g o n c k : Nat) (qt : Int) (z : Nat → Bool) (w : World) (hW : 1 ≤ W ∧ W ≤ 4000) (hH : 1 ≤ H ∧ H ≤ 4000) (hn : n = W * H) (hN : n ≤ 1048576) (hk : (qt.tmod 4 + 4).tmod 4 = (k : Int))
    (hp : ∀ j, j < n → w.cell? ⟨g, o + j, none⟩ = some (.bool (z j))) :
    Calls Try.prog 102 #[.slice (some ⟨g, o, none⟩) n c, .int .i64 W, .int .i64 H, .int .i64 qt] w fun e w' =>
      ∃ v, e = .returned (.tuple #[.int .i64 (turnW W H k), .int .i64 (turnW H W k), v]) ∧ w'.ownsRow w.heap.size 4 1 v n ((places (turnW W H k) (turnAt W H k z) n).map Value.bool) ∧ Below w.heap.size w w' := by
  have hmf : ∀ (fn : Fn) (first cap : Array Value) (w : World), (Instr.makeFunc fn first cap).run Try.prog w = .ok (.func fn first cap) w := fun _ _ _ _ => rfl
  have t1 : qt.tmod 4 ≤ 3 := by have := Int.tmod_lt_of_pos qt (show (0:Int) < 4 by decide); omega
  have t0 : -3 ≤ qt.tmod 4 := by have := Int.lt_tmod_of_pos qt (show (0:Int) < 4 by decide); omega
  have hk4 : k ≤ 3 := by have := Int.tmod_lt_of_pos (qt.tmod 4 + 4) (show (0:Int) < 4 by decide); omega
  obtain ⟨w1, hw1⟩ : ∃ w1, w1 = (((w.alloc (.cells #[.slice (some ⟨g, o, none⟩) n c] 22)).alloc (.cells #[.int .i64 W] 3)).alloc (.cells #[.int .i64 H] 3)) := ⟨_, rfl⟩
  have B1 : Below w.heap.size w w1 := by rw [hw1]; exact below_alloc (below_alloc (new_below _ _) _) _
  have q0 : w1.cell? ⟨w.heap.size, 0, none⟩ = some (.slice (some ⟨g, o, none⟩) n c) := by rw [hw1]; go_simp
  have q1 : w1.cell? ⟨w.heap.size + 1, 0, none⟩ = some (.int .i64 W) := by rw [hw1]; go_simp
  have q2 : w1.cell? ⟨w.heap.size + 1 + 1, 0, none⟩ = some (.int .i64 H) := by rw [hw1]; go_simp
  have HC := Lib.hid hp
  have HN := Lib.hid hn
  have HW := Lib.hid hw1
  clear hp hn hw1
  have hk' : k = 0 ∨ k = 1 ∨ k = 2 ∨ k = 3 := by omega
  rcases hk' with rfl | rfl | rfl | rfl
  · have HF := Lib.hid (clone_any g o n c z w1.drew (by rw [HN.out]; exact Nat.mul_pos hW.1 hH.1) hN (fun j hj => cell_later B1.drew (HC.out j hj)))
    have hpl : (List.range n).map (fun k => Value.bool (z k)) = (places W (turnAt W H 0 z) n).map Value.bool := by
      simp only [places, List.map_map]
      refine List.map_congr_left fun k _ => ?_
      simp only [turnAt, Function.comp]
      rw [if_neg (by decide), if_neg (by decide), if_neg (by decide), Nat.mul_comm, Nat.div_add_mod]
    go_enter Try.func102, Try.ntmps102
    go_wp2_with fail
    rw [← HW.out]
    go_region_held3 (fun w' => w'.cell? ⟨w.heap.size, 0, none⟩ = some (.slice (some ⟨g, o, none⟩) n c) ∧ w'.cell? ⟨w.heap.size + 1, 0, none⟩ = some (.int .i64 W) ∧ w'.cell? ⟨w.heap.size + 1 + 1, 0, none⟩ = some (.int .i64 H))
      (first | (go_keep; done) | (go_split_ands; exact ⟨cell_later hb5 (by assumption), cell_later hb5 (by assumption), cell_later hb5 (by assumption)⟩))
      ((first | (go_at_call 113; with_reducible refine HF.out.mono ?_; rintro e w5 ⟨v, rfl, hown, hb5⟩)))
    all_goals go_wp2_with fail
    all_goals refine bodyPost_ret (v := .tuple #[.int .i64 (turnW W H 0), .int .i64 (turnW H W 0), v]) (by simp [results, Try.results102, go_sem, turnW]) rfl ⟨_, rfl, by have h := owns_base hown B1.size; rw [hpl] at h; exact h, below_step B1.drew hb5⟩
  · have HF := Lib.hid (fillBool_any H W 150 #[.pointer (some ⟨w.heap.size, 0, none⟩), .pointer (some ⟨w.heap.size + 1 + 1, 0, none⟩), .pointer (some ⟨w.heap.size + 1, 0, none⟩)] (turnAt W H 1 z) w1.drew (by omega) (by omega) (by omega) (by have := HN.out; rw [Nat.mul_comm] at this; first | omega | (rw [Nat.mul_comm] at this; omega)) (Go.Proofs.enters_of Try.func150 (by kernel_rfl) rfl) (fun x y wx hx hy hbx => by
      have hb := below_step (Below.refl w1.heap.size w1).drew hbx
      have hfit := row_fits (y := H - 1 - x) (h := H) (by omega) (show y + 1 ≤ W by omega)
      refine (turnB1_any W H x y w.heap.size (w.heap.size + 1) (w.heap.size + 1 + 1) g o n c _ (turnAt W H 1 z x y) wx hW.2 hH.2 hx hy HN.out rfl (cell_later hb q0) (cell_later hb q2) (cell_later hb q1) (cell_later hb (cell_later B1 (HC.out _ (by rw [HN.out]; omega))))).mono ?_
      rintro e wy ⟨rfl, rfl⟩
      exact ⟨rfl, Below.refl _ _⟩))
    go_enter Try.func102, Try.ntmps102
    go_wp2_with fail
    rw [← HW.out]
    go_region_held3 (fun w' => w'.cell? ⟨w.heap.size, 0, none⟩ = some (.slice (some ⟨g, o, none⟩) n c) ∧ w'.cell? ⟨w.heap.size + 1, 0, none⟩ = some (.int .i64 W) ∧ w'.cell? ⟨w.heap.size + 1 + 1, 0, none⟩ = some (.int .i64 H))
      (first | (go_keep; done) | (go_split_ands; exact ⟨cell_later hb5 (by assumption), cell_later hb5 (by assumption), cell_later hb5 (by assumption)⟩))
      ((first | (go_at_call 103; with_reducible refine HF.out.mono ?_; rintro e w5 ⟨v, rfl, hown, hb5⟩)))
    all_goals go_wp2_with fail
    all_goals refine bodyPost_ret (v := .tuple #[.int .i64 (turnW W H 1), .int .i64 (turnW H W 1), v]) (by simp [results, Try.results102, go_sem, turnW]) rfl ⟨_, rfl, by have h := owns_base hown B1.size; have e := HN.out; rw [Nat.mul_comm] at e; rw [← e] at h; exact h, below_step B1.drew hb5⟩
  · have HF := Lib.hid (fillBool_any W H 151 #[.pointer (some ⟨w.heap.size, 0, none⟩), .pointer (some ⟨w.heap.size + 1 + 1, 0, none⟩), .pointer (some ⟨w.heap.size + 1, 0, none⟩)] (turnAt W H 2 z) w1.drew (by omega) (by omega) (by omega) (by have := HN.out; rw [Nat.mul_comm] at this; first | omega | (rw [Nat.mul_comm] at this; omega)) (Go.Proofs.enters_of Try.func151 (by kernel_rfl) rfl) (fun x y wx hx hy hbx => by
      have hb := below_step (Below.refl w1.heap.size w1).drew hbx
      have hfit := row_fits (y := H - 1 - y) (h := H) (by omega) (show (W - 1 - x) + 1 ≤ W by omega)
      refine (turnB2_any W H x y w.heap.size (w.heap.size + 1) (w.heap.size + 1 + 1) g o n c _ (turnAt W H 2 z x y) wx hW.2 hH.2 hx hy HN.out rfl (cell_later hb q0) (cell_later hb q2) (cell_later hb q1) (cell_later hb (cell_later B1 (HC.out _ (by rw [HN.out]; omega))))).mono ?_
      rintro e wy ⟨rfl, rfl⟩
      exact ⟨rfl, Below.refl _ _⟩))
    go_enter Try.func102, Try.ntmps102
    go_wp2_with fail
    rw [← HW.out]
    go_region_held3 (fun w' => w'.cell? ⟨w.heap.size, 0, none⟩ = some (.slice (some ⟨g, o, none⟩) n c) ∧ w'.cell? ⟨w.heap.size + 1, 0, none⟩ = some (.int .i64 W) ∧ w'.cell? ⟨w.heap.size + 1 + 1, 0, none⟩ = some (.int .i64 H))
      (first | (go_keep; done) | (go_split_ands; exact ⟨cell_later hb5 (by assumption), cell_later hb5 (by assumption), cell_later hb5 (by assumption)⟩))
      ((first | (go_at_call 103; with_reducible refine HF.out.mono ?_; rintro e w5 ⟨v, rfl, hown, hb5⟩)))
    all_goals go_wp2_with fail
    all_goals refine bodyPost_ret (v := .tuple #[.int .i64 (turnW W H 2), .int .i64 (turnW H W 2), v]) (by simp [results, Try.results102, go_sem, turnW]) rfl ⟨_, rfl, by have h := owns_base hown B1.size; have e := HN.out; rw [← e] at h; exact h, below_step B1.drew hb5⟩
  · have HF := Lib.hid (fillBool_any H W 152 #[.pointer (some ⟨w.heap.size, 0, none⟩), .pointer (some ⟨w.heap.size + 1, 0, none⟩)] (turnAt W H 3 z) w1.drew (by omega) (by omega) (by omega) (by have := HN.out; rw [Nat.mul_comm] at this; first | omega | (rw [Nat.mul_comm] at this; omega)) (Go.Proofs.enters_of Try.func152 (by kernel_rfl) rfl) (fun x y wx hx hy hbx => by
      have hb := below_step (Below.refl w1.heap.size w1).drew hbx
      have hfit := row_fits (y := x) (h := H) (by omega) (show (W - 1 - y) + 1 ≤ W by omega)
      refine (turnB3_any W H x y w.heap.size (w.heap.size + 1) g o n c _ (turnAt W H 3 z x y) wx hW.2 hH.2 hx hy HN.out rfl (cell_later hb q0) (cell_later hb q1) (cell_later hb (cell_later B1 (HC.out _ (by rw [HN.out]; omega))))).mono ?_
      rintro e wy ⟨rfl, rfl⟩
      exact ⟨rfl, Below.refl _ _⟩))
    go_enter Try.func102, Try.ntmps102
    go_wp2_with fail
    rw [← HW.out]
    go_region_held3 (fun w' => w'.cell? ⟨w.heap.size, 0, none⟩ = some (.slice (some ⟨g, o, none⟩) n c) ∧ w'.cell? ⟨w.heap.size + 1, 0, none⟩ = some (.int .i64 W) ∧ w'.cell? ⟨w.heap.size + 1 + 1, 0, none⟩ = some (.int .i64 H))
      (first | (go_keep; done) | (go_split_ands; exact ⟨cell_later hb5 (by assumption), cell_later hb5 (by assumption), cell_later hb5 (by assumption)⟩))
      ((first | (go_at_call 103; with_reducible refine HF.out.mono ?_; rintro e w5 ⟨v, rfl, hown, hb5⟩)))
    all_goals go_wp2_with fail
    all_goals refine bodyPost_ret (v := .tuple #[.int .i64 (turnW W H 3), .int .i64 (turnW H W 3), v]) (by simp [results, Try.results102, go_sem, turnW]) rfl ⟨_, rfl, by have h := owns_base hown B1.size; have e := HN.out; rw [Nat.mul_comm] at e; rw [← e] at h; exact h, below_step B1.drew hb5⟩

end Go.Proofs.Ytcpgnfbjdokdcaa
namespace Go.Proofs.Ytcpgnfbjdokdcaa
open Go.RowKit
set_option linter.unusedSimpArgs false
set_option linter.unusedVariables false

theorem turn_badPage (a b : Int) (p : Option Addr) (n c : Nat) (qt : Int) (w : World) (h : pageErr a b n ≠ 0) :
    Calls Try.prog 34 #[.agg #[.int .i64 a, .int .i64 b, .slice p n c], .int .i64 qt] w fun e w' => e = .returned (.tuple #[.agg #[.int .i64 0, .int .i64 0, .slice none 0 0], .int .i64 (pageErr a b n)]) ∧ Below w.heap.size w w' := by
  have h' : (pageErr a b n != 0) = true := by simpa using h
  clear h
  go_enter Try.func34, Try.ntmps34
  go_wp2_with ((go_at_call 13; refine (checkBits_any _ _ _ _ _ _).mono ?_; rintro e w' ⟨rfl, rfl⟩))
  refine bodyPost_ret (v := .tuple #[.agg #[.int .i64 0, .int .i64 0, .slice none 0 0], .int .i64 (pageErr a b n)]) (by simp [results, Try.results34, go_sem]) rfl ⟨rfl, below_alloc (below_alloc (new_below _ _) _) _⟩

theorem turnW_pos {W H k : Nat} (hW : 1 ≤ W ∧ W ≤ 4000) (hH : 1 ≤ H ∧ H ≤ 4000) : 1 ≤ turnW W H k ∧ turnW W H k ≤ 4000 := by
  unfold turnW; split <;> assumption
theorem turnW_mul (W H k : Nat) : turnW W H k * turnW H W k = W * H := by
  unfold turnW; split
  · exact Nat.mul_comm _ _
  · rfl

set_option maxHeartbeats 400000 in
set_option maxRecDepth 100000 in
theorem turn_ok (W H g o c k : Nat) (qt : Int) (z : Nat → Bool) (w : World) (he : sizeErr W H = 0) (hk : (qt.tmod 4 + 4).tmod 4 = (k : Int))
    (hp : ∀ j, j < W * H → w.cell? ⟨g, o + j, none⟩ = some (.bool (z j))) :
    Calls Try.prog 34 #[.agg #[.int .i64 W, .int .i64 H, .slice (some ⟨g, o, none⟩) (W * H) c], .int .i64 qt] w fun e w' =>
      ∃ v, e = .returned (.tuple #[.agg #[.int .i64 (turnW W H k), .int .i64 (turnW H W k), v], .int .i64 0]) ∧ w'.ownsRow w.heap.size 4 1 v (W * H) ((places (turnW W H k) (turnAt W H k z) (W * H)).map Value.bool) ∧ Below w.heap.size w w' := by
  obtain ⟨⟨a1, a2, a3, a4⟩, z0, z1⟩ := sizeErr_zero he
  have hN : W * H ≤ 1048576 := by rw [← Int.natCast_mul] at z1; omega
  have hpe : pageErr W H (W * H) = 0 := by unfold pageErr; rw [if_pos he, if_pos (by simp [Int.natCast_mul])]
  have HC := Lib.hid hp
  have HK := Lib.hid hk
  clear hp he z0 z1 hk
  go_enter Try.func34, Try.ntmps34
  go_wp2_with ((go_at_call 13; refine (checkBits_any _ _ _ _ _ _).mono ?_; rintro e w' ⟨rfl, rfl⟩))
  obtain ⟨w1, hw1⟩ : ∃ w1, w1 = (((w.alloc (.cells #[.int .i64 W, .int .i64 H, .slice (some ⟨g, o, none⟩) (W * H) c] 24)).alloc (.cells #[.int .i64 0, .int .i64 0, .slice none 0 0] 24)).alloc (.cells #[.int .i64 W, .int .i64 H, .slice (some ⟨g, o, none⟩) (W * H) c] 24)) := ⟨_, rfl⟩
  have B1 : Below w.heap.size w w1 := by rw [hw1]; exact below_alloc (below_alloc (new_below _ _) _) _
  have qb : w1.heap[w.heap.size + 1]? = some (.cells #[.int .i64 0, .int .i64 0, .slice none 0 0] 24 (0, 0)) := by
    rw [hw1, Below.heap_alloc _ _ _ (by simp)]
    simpa using heap_alloc_new (w.alloc (.cells #[.int .i64 W, .int .i64 H, .slice (some ⟨g, o, none⟩) (W * H) c] 24)) (.cells #[.int .i64 0, .int .i64 0, .slice none 0 0] 24)
  rw [← hw1]
  clear hw1
  have lt1 := (Array.getElem?_eq_some_iff.1 qb).1
  refine (turnB_any W H g o (W * H) c k qt z w1 ⟨by omega, by omega⟩ ⟨by omega, by omega⟩ rfl hN HK.out (fun j hj => cell_later B1 (HC.out j hj))).mono ?_
  rintro e w5 ⟨v, rfl, hown, hb5⟩
  obtain ⟨j0, j1, j2, r0, r1, r2⟩ := block3 (below_block hb5 qb)
  obtain ⟨va, vn, vc, rfl⟩ := owns_shape hown
  have F := Lib.hid hown
  have G := Lib.hid hb5
  have L := Lib.hid lt1
  clear hown hb5 lt1
  go_wp2_with fail
  refine bodyPost_ret (v := .tuple #[.agg #[.int .i64 (turnW W H k), .int .i64 (turnW H W k), .slice va vn vc], .int .i64 0]) (by simp [results, Try.results34, go_sem, j0, j1, j2]) rfl ⟨_, rfl, owns_far3 F.out L.out B1.size, below_far3 (below_step B1 G.out) (by omega)⟩

/-- The number of quarters to the right. -/
theorem quart_some (qt : Int) : ∃ k : Nat, (qt.tmod 4 + 4).tmod 4 = (k : Int) ∧ k ≤ 3 := by
  have t1 := Int.tmod_lt_of_pos qt (show (0:Int) < 4 by decide)
  have t0 := Int.lt_tmod_of_pos qt (show (0:Int) < 4 by decide)
  have h0 := Int.tmod_nonneg 4 (show 0 ≤ qt.tmod 4 + 4 by omega)
  have h1 := Int.tmod_lt_of_pos (qt.tmod 4 + 4) (show (0:Int) < 4 by decide)
  obtain ⟨k, hk⟩ := Int.eq_ofNat_of_zero_le h0
  exact ⟨k, hk, by omega⟩

theorem turn_any (a b : Int) (s : Option Addr) (n c k : Nat) (qt : Int) (z : Nat → Bool) (w : World) (hs : IsBools w s n c z) (hk : (qt.tmod 4 + 4).tmod 4 = (k : Int)) :
    Calls Try.prog 34 #[.agg #[.int .i64 a, .int .i64 b, .slice s n c], .int .i64 qt] w fun e w' =>
      ∃ i j sl n' c', e = .returned (.tuple #[.agg #[.int .i64 i, .int .i64 j, .slice sl n' c'], .int .i64 (pageErr a b n)]) ∧ PageIs (pageErr a b n) (turnW a.toNat b.toNat k) (turnW b.toNat a.toNat k) (turnAt a.toNat b.toNat k z) w.heap.size w' i j sl n' c' ∧ Below w.heap.size w w' := by
  by_cases h : pageErr a b n = 0
  · obtain ⟨W, H, rfl, rfl, hn, w1, w2, h1, h2, hN, he⟩ := page_nat h
    obtain ⟨g, o, rfl, hc⟩ := isBools_cells hs (by rw [hn]; exact Nat.mul_pos w1 h1)
    subst hn
    refine (turn_ok W H g o c k qt z w he hk hc).mono ?_
    rintro e w' ⟨v, rfl, hown, hbel⟩
    obtain ⟨g', c', rfl, hg', hz⟩ := owns_pageB hown (Nat.mul_pos w1 h1)
    exact ⟨_, _, _, _, _, by rw [h], .inr ⟨h, by simp, by simp, by simp [turnW_mul], g', hg', rfl, by simpa using hz⟩, hbel⟩
  · refine (turn_badPage a b s n c qt w h).mono ?_
    rintro e w' ⟨rfl, hbel⟩
    exact ⟨0, 0, none, 0, 0, rfl, .inl ⟨h, rfl, rfl, rfl, rfl, rfl⟩, hbel⟩

set_option maxRecDepth 100000 in
theorem turnOf1_any (W H x y pb g o c : Nat) (z : Nat → Bool) (w : World) (hW : W ≤ 4000) (hH : H ≤ 4000) (hx : x < H) (hy : y < W)
    (c0 : w.cell? ⟨pb, 0, none⟩ = some (.int .i64 W)) (c1 : w.cell? ⟨pb, 1, none⟩ = some (.int .i64 H)) (c2 : w.cell? ⟨pb, 2, none⟩ = some (.slice (some ⟨g, o, none⟩) (W * H) c))
    (hp : ∀ j, j < W * H → w.cell? ⟨g, o + j, none⟩ = some (.bool (z j))) :
    Calls Try.prog 101 #[.int .i64 x, .int .i64 y, .pointer (some ⟨pb, 0, none⟩)] w fun e w' => e = .returned (.bool (z ((H - 1 - x) * W + y))) ∧ Below w.heap.size w w' := by
  have hfit := row_fits (y := H - 1 - x) (h := H) (by omega) (show y + 1 ≤ W by omega)
  obtain ⟨t, ht⟩ : ∃ t : Nat, H - 1 - x = t := ⟨_, rfl⟩
  have e1 : (H : Int) - 1 - (x : Int) = (t : Int) := by omega
  rw [ht] at hfit ⊢
  have HA := Lib.hid (at_in W H g o c y t (z (t * W + y)) w (by omega) (by omega) hy (by omega) (hp _ (by omega)))
  obtain ⟨q, hq⟩ : ∃ q, q = z (t * W + y) := ⟨_, rfl⟩
  rw [← hq] at HA ⊢
  clear hp hq hfit ht
  go_enter Try.func101, Try.ntmps101
  go_wp2_with (go_at_call 41; refine HA.out.mono ?_; rintro e w1 ⟨rfl, hb1⟩)
  go_ret
  exact ⟨rfl, hb1⟩

set_option maxHeartbeats 400000 in
set_option maxRecDepth 100000 in
theorem turnOf_any (W H g o c : Nat) (z : Nat → Bool) (w : World) (hW : 1 ≤ W ∧ W ≤ 4000) (hH : 1 ≤ H ∧ H ≤ 4000) (hN : W * H ≤ 1048576)
    (hp : ∀ j, j < W * H → w.cell? ⟨g, o + j, none⟩ = some (.bool (z j))) :
    Calls Try.prog 33 #[.agg #[.int .i64 W, .int .i64 H, .slice (some ⟨g, o, none⟩) (W * H) c]] w fun e w' =>
      ∃ g' c', e = .returned (.agg #[.int .i64 H, .int .i64 W, .slice (some ⟨g', 0, none⟩) (H * W) c']) ∧ w.heap.size ≤ g' ∧ (∀ j, j < H * W → w'.cell? ⟨g', 0 + j, none⟩ = some (.bool (z ((H - 1 - j % H) * W + j / H)))) ∧ Below w.heap.size w w' := by
  have hmf : ∀ (fn : Fn) (first cap : Array Value) (w : World), (Instr.makeFunc fn first cap).run Try.prog w = .ok (.func fn first cap) w := fun _ _ _ _ => rfl
  have HC := Lib.hid hp
  clear hp
  go_enter Try.func33, Try.ntmps33
  go_wp2_with fail
  obtain ⟨w1, hw1⟩ : ∃ w1, w1 = (w.alloc (.cells #[.int .i64 W, .int .i64 H, .slice (some ⟨g, o, none⟩) (W * H) c] 24)).alloc (.cells #[.int .i64 0, .int .i64 0, .slice none 0 0] 24) := ⟨_, rfl⟩
  have B1 : Below w.heap.size w w1 := by rw [hw1]; exact below_alloc (new_below _ _) _
  have q0 : w1.cell? ⟨w.heap.size, 0, none⟩ = some (.int .i64 W) := by rw [hw1]; go_simp
  have q1 : w1.cell? ⟨w.heap.size, 1, none⟩ = some (.int .i64 H) := by rw [hw1]; go_simp
  have q2 : w1.cell? ⟨w.heap.size, 2, none⟩ = some (.slice (some ⟨g, o, none⟩) (W * H) c) := by rw [hw1]; go_simp
  have qb : w1.heap[w.heap.size + 1]? = some (.cells #[.int .i64 0, .int .i64 0, .slice none 0 0] 24 (0, 0)) := by
    rw [hw1]
    simpa using heap_alloc_new (w.alloc (.cells #[.int .i64 W, .int .i64 H, .slice (some ⟨g, o, none⟩) (W * H) c] 24)) (.cells #[.int .i64 0, .int .i64 0, .slice none 0 0] 24)
  rw [← hw1]
  clear hw1
  have lt1 := (Array.getElem?_eq_some_iff.1 qb).1
  refine (made_any H W 101 _ (fun x y => z ((H - 1 - x) * W + y)) w1 hH.1 (by omega) (by omega) (by rw [Nat.mul_comm]; omega) (Go.Proofs.enters_of Try.func101 (by kernel_rfl) rfl) ?_).mono ?_
  · intro x y wx hx hy hbx
    exact turnOf1_any W H x y w.heap.size g o c z wx hW.2 hH.2 hx hy (cell_later hbx q0) (cell_later hbx q1) (cell_later hbx q2) (fun j hj => cell_later hbx (cell_later B1 (HC.out j hj)))
  · rintro e w5 ⟨v, rfl, hown, hb5⟩
    obtain ⟨j0, j1, j2, r0, r1, r2⟩ := block3 (below_block hb5 qb)
    obtain ⟨g', c', rfl, hg', hz⟩ := owns_pageB hown (Nat.mul_pos hH.1 hW.1)
    have ZC := Lib.hid hz
    have G := Lib.hid hb5
    have L := Lib.hid lt1
    clear hown hb5 lt1 q0 q1 q2 hz
    go_wp2_with fail
    refine bodyPost_ret (v := .agg #[.int .i64 H, .int .i64 W, .slice (some ⟨g', 0, none⟩) (H * W) c']) (by simp [results, Try.results33, go_sem, j0, j1, j2]) rfl ⟨_, _, rfl, Nat.le_trans B1.size hg', fun j hj => ?_, below_far3 (below_step B1 G.out) (by omega)⟩
    exact cell_far3 (show g' ≠ w.heap.size + 1 by have := L.out; omega) (ZC.out j hj)

/-- A page turned k times and once more. -/
theorem turn_more {α : Type} (W H k j : Nat) (z : Nat → α) (hW : 1 ≤ W) (hH : 1 ≤ H) (hk : k ≤ 2) (hj : j < W * H) :
    turnAt W H k z (((turnW H W k - 1 - j % turnW H W k) * turnW W H k + j / turnW H W k) % turnW W H k) (((turnW H W k - 1 - j % turnW H W k) * turnW W H k + j / turnW H W k) / turnW W H k) = turnAt W H (k + 1) z (j % turnW W H (k + 1)) (j / turnW W H (k + 1)) := by
  have hk' : k = 0 ∨ k = 1 ∨ k = 2 := by omega
  have d1 : j / H < W := Nat.div_lt_of_lt_mul (by rw [Nat.mul_comm]; exact hj)
  have d2 : j / W < H := Nat.div_lt_of_lt_mul hj
  have m1 : j % H < H := Nat.mod_lt _ hH
  have m2 : j % W < W := Nat.mod_lt _ hW
  have e1 : ∀ a, (a * W + j / H) % W = j / H := fun a => by rw [Nat.add_comm, Nat.add_mul_mod_self_right, Nat.mod_eq_of_lt d1]
  have e2 : ∀ a, (a * W + j / H) / W = a := fun a => by rw [Nat.add_comm, Nat.add_mul_div_right _ _ hW, Nat.div_eq_of_lt d1, Nat.zero_add]
  have e3 : ∀ a, (a * H + j / W) % H = j / W := fun a => by rw [Nat.add_comm, Nat.add_mul_mod_self_right, Nat.mod_eq_of_lt d2]
  have e4 : ∀ a, (a * H + j / W) / H = a := fun a => by rw [Nat.add_comm, Nat.add_mul_div_right _ _ hH, Nat.div_eq_of_lt d2, Nat.zero_add]
  rcases hk' with rfl | rfl | rfl
  · simp [turnAt, turnW, e1, e2]
  · simp [turnAt, turnW, e3, e4]
  · have e5 : H - 1 - (H - 1 - j % H) = j % H := by omega
    simp [turnAt, turnW, e1, e2, e5]

end Go.Proofs.Ytcpgnfbjdokdcaa
namespace Go.Proofs.Ytcpgnfbjdokdcaa
open Go.RowKit
set_option linter.unusedSimpArgs false
set_option linter.unusedVariables false

set_option maxRecDepth 100000 in
theorem cloneY_any (g o n c : Nat) (z : Nat → Int) (w : World) (hn : 1 ≤ n) (hn' : n ≤ 1048576) (hc : ∀ j, j < n → w.cell? ⟨g, o + j, none⟩ = some (.int .u8 (z j))) :
    Calls Try.prog 156 #[.slice (some ⟨g, o, none⟩) n c] w fun e w' =>
      ∃ v, e = .returned v ∧ w'.ownsRow w.heap.size 5 1 v n ((List.range n).map fun k => Value.int .u8 (z k)) ∧ Below w.heap.size w w' := by
  have qT : ∀ (w : World) (a : Option Addr) (n c n' c' : Nat), (binOp .eql 25 (.slice a n c) (.slice none n' c')).run Try.prog w = .ok (.bool a.isNone) w := fun w a n c n' c' => Lib.run_eql_slice_nil w _ _ a n c n' c' Try.underlying25
  obtain ⟨i0, hi, hz0, hz1, hz2⟩ := info_parts info_byte
  have HC := Lib.hid hc
  clear hc
  go_enter Try.func156, Try.ntmps156
  have hown : (w.alloc (.cells #[] 5)).ownsRow w.heap.size 5 1 (.slice (some ⟨w.heap.size, 0, none⟩) 0 0) 0 [] := World.ownsRow_made w #[] 0 (Nat.le_refl _) (by unfold maxLen; omega) rfl
  have HN := Lib.hid (show ∀ j u, ((List.range n).map fun k => Value.int .u8 (z k))[j]? = some u → (w.alloc (.cells #[] 5)).cell? ((⟨g, o, none⟩ : Addr).add j) = some u by
    intro j u hu
    rw [List.getElem?_map] at hu
    by_cases hj : j < n
    · rw [List.getElem?_range hj] at hu
      simp at hu
      subst hu
      rw [Addr.add_lit]
      exact cell_later (new_below _ _) (HC.out j hj)
    · rw [List.getElem?_eq_none (by simpa using hj)] at hu
      simp at hu)
  have HO := Lib.hid hown
  clear hown
  go_wp2_with (at_builtin; refine wpList_append_own _ rfl _ _ 25 rfl w.heap.size 5 i0 (.int .u8 0) 1 1 Try.underlying25 hi hz0 hz1 hz2 rfl (by decide) _ _ _ rfl HO.out ⟨g, o, none⟩ n c ((List.range n).map fun k => Value.int .u8 (z k)) rfl ?c0 HN.out ?c2 ?c3 ?c4 ?c5 ?_)
  case c0 => simp
  case c2 => intro u hu; simp at hu; obtain ⟨k, _, rfl⟩ := hu; rfl
  case c3 => unfold maxLen; omega
  case c4 => omega
  case c5 => simp
  · intro v' w2 hown2 hgr2 _
    have B2 : Below w.heap.size w w2 := (new_below w (.cells #[] 5)).grown hgr2 (by simp) (fun k hk => by simp [Value.ownBlock] at hk; omega)
    have H2 := Lib.hid hown2
    clear hown2 hgr2
    go_wp2_with fail
    go_ret
    exact ⟨v', rfl, H2.out, B2⟩

set_option maxRecDepth 100000 in
theorem turnY1_any (W H x y pb wb hb g o n c t : Nat) (q : Int) (w : World) (hW : W ≤ 4000) (hH : H ≤ 4000) (hx : x < H) (hy : y < W) (hn : n = W * H) (ht : t = (H - 1 - x) * W + y)
    (c0 : w.cell? ⟨pb, 0, none⟩ = some (.slice (some ⟨g, o, none⟩) n c)) (c1 : w.cell? ⟨hb, 0, none⟩ = some (.int .i64 H)) (c2 : w.cell? ⟨wb, 0, none⟩ = some (.int .i64 W)) (hc : w.cell? ⟨g, o + t, none⟩ = some (.int .u8 q)) :
    Calls Try.prog 153 #[.int .i64 x, .int .i64 y, .pointer (some ⟨pb, 0, none⟩), .pointer (some ⟨hb, 0, none⟩), .pointer (some ⟨wb, 0, none⟩)] w fun e w' => e = .returned (.int .u8 q) ∧ w = w' := by
  obtain ⟨A, hA⟩ : ∃ A, A = H - 1 - x := ⟨_, rfl⟩
  have e0 : (H : Int) - 1 - (x : Int) = (A : Int) := by omega
  rw [← hA] at ht
  obtain ⟨r1, r2⟩ := row_prod (y := A) hW hH (by omega)
  obtain ⟨P, hP⟩ : ∃ P, P = A * W := ⟨_, rfl⟩
  have e1 : (A : Int) * (W : Int) = (P : Int) := by rw [hP, Int.natCast_mul]
  rw [← hP] at r1 r2 ht
  have htn : (t : Int) < (n : Int) := by rw [hn, Nat.mul_comm W H]; omega
  have e2 : (P : Int) + (y : Int) = (t : Int) := by omega
  clear hP ht hn r2 hA
  go_enter Try.func153, Try.ntmps153
  go_wp2
  go_ret
  exact ⟨rfl, rfl⟩

set_option maxRecDepth 100000 in
theorem turnY2_any (W H x y pb wb hb g o n c t : Nat) (q : Int) (w : World) (hW : W ≤ 4000) (hH : H ≤ 4000) (hx : x < W) (hy : y < H) (hn : n = W * H) (ht : t = (H - 1 - y) * W + (W - 1 - x))
    (c0 : w.cell? ⟨pb, 0, none⟩ = some (.slice (some ⟨g, o, none⟩) n c)) (c1 : w.cell? ⟨hb, 0, none⟩ = some (.int .i64 H)) (c2 : w.cell? ⟨wb, 0, none⟩ = some (.int .i64 W)) (hc : w.cell? ⟨g, o + t, none⟩ = some (.int .u8 q)) :
    Calls Try.prog 154 #[.int .i64 x, .int .i64 y, .pointer (some ⟨pb, 0, none⟩), .pointer (some ⟨hb, 0, none⟩), .pointer (some ⟨wb, 0, none⟩)] w fun e w' => e = .returned (.int .u8 q) ∧ w = w' := by
  obtain ⟨A, hA⟩ : ∃ A, A = H - 1 - y := ⟨_, rfl⟩
  have e0 : (H : Int) - 1 - (y : Int) = (A : Int) := by omega
  rw [← hA] at ht
  obtain ⟨r1, r2⟩ := row_prod (y := A) hW hH (by omega)
  obtain ⟨P, hP⟩ : ∃ P, P = A * W := ⟨_, rfl⟩
  have e1 : (A : Int) * (W : Int) = (P : Int) := by rw [hP, Int.natCast_mul]
  rw [← hP] at r1 r2 ht
  have htn : (t : Int) < (n : Int) := by rw [hn, Nat.mul_comm W H]; omega
  have e2 : (P : Int) + (W : Int) - 1 - (x : Int) = (t : Int) := by omega
  clear hP ht hn r2 hA
  go_enter Try.func154, Try.ntmps154
  go_wp2
  go_ret
  exact ⟨rfl, rfl⟩

set_option maxRecDepth 100000 in
theorem turnY3_any (W H x y pb wb g o n c t : Nat) (q : Int) (w : World) (hW : W ≤ 4000) (hH : H ≤ 4000) (hx : x < H) (hy : y < W) (hn : n = W * H) (ht : t = x * W + (W - 1 - y))
    (c0 : w.cell? ⟨pb, 0, none⟩ = some (.slice (some ⟨g, o, none⟩) n c)) (c2 : w.cell? ⟨wb, 0, none⟩ = some (.int .i64 W)) (hc : w.cell? ⟨g, o + t, none⟩ = some (.int .u8 q)) :
    Calls Try.prog 155 #[.int .i64 x, .int .i64 y, .pointer (some ⟨pb, 0, none⟩), .pointer (some ⟨wb, 0, none⟩)] w fun e w' => e = .returned (.int .u8 q) ∧ w = w' := by
  obtain ⟨r1, r2⟩ := row_prod (y := x) hW hH hx
  obtain ⟨P, hP⟩ : ∃ P, P = x * W := ⟨_, rfl⟩
  have e1 : (x : Int) * (W : Int) = (P : Int) := by rw [hP, Int.natCast_mul]
  rw [← hP] at r1 r2 ht
  have htn : (t : Int) < (n : Int) := by rw [hn, Nat.mul_comm W H]; omega
  have e2 : (P : Int) + (W : Int) - 1 - (y : Int) = (t : Int) := by omega
  clear hP ht hn r2
  go_enter Try.func155, Try.ntmps155
  go_wp2
  go_ret
  exact ⟨rfl, rfl⟩

set_option maxHeartbeats 4000000 in
set_option maxRecDepth 100000 in
theorem turnY_any (W H g o n c k : Nat) (qt : Int) (z : Nat → Int) (w : World) (hW : 1 ≤ W ∧ W ≤ 4000) (hH : 1 ≤ H ∧ H ≤ 4000) (hn : n = W * H) (hN : n ≤ 1048576) (hk : (qt.tmod 4 + 4).tmod 4 = (k : Int))
    (hp : ∀ j, j < n → w.cell? ⟨g, o + j, none⟩ = some (.int .u8 (z j))) :
    Calls Try.prog 106 #[.slice (some ⟨g, o, none⟩) n c, .int .i64 W, .int .i64 H, .int .i64 qt] w fun e w' =>
      ∃ v, e = .returned (.tuple #[.int .i64 (turnW W H k), .int .i64 (turnW H W k), v]) ∧ w'.ownsRow w.heap.size 5 1 v n ((places (turnW W H k) (turnAt W H k z) n).map (Value.int .u8)) ∧ Below w.heap.size w w' := by
  have hmf : ∀ (fn : Fn) (first cap : Array Value) (w : World), (Instr.makeFunc fn first cap).run Try.prog w = .ok (.func fn first cap) w := fun _ _ _ _ => rfl
  have t1 : qt.tmod 4 ≤ 3 := by have := Int.tmod_lt_of_pos qt (show (0:Int) < 4 by decide); omega
  have t0 : -3 ≤ qt.tmod 4 := by have := Int.lt_tmod_of_pos qt (show (0:Int) < 4 by decide); omega
  have hk4 : k ≤ 3 := by have := Int.tmod_lt_of_pos (qt.tmod 4 + 4) (show (0:Int) < 4 by decide); omega
  obtain ⟨w1, hw1⟩ : ∃ w1, w1 = (((w.alloc (.cells #[.slice (some ⟨g, o, none⟩) n c] 25)).alloc (.cells #[.int .i64 W] 3)).alloc (.cells #[.int .i64 H] 3)) := ⟨_, rfl⟩
  have B1 : Below w.heap.size w w1 := by rw [hw1]; exact below_alloc (below_alloc (new_below _ _) _) _
  have q0 : w1.cell? ⟨w.heap.size, 0, none⟩ = some (.slice (some ⟨g, o, none⟩) n c) := by rw [hw1]; go_simp
  have q1 : w1.cell? ⟨w.heap.size + 1, 0, none⟩ = some (.int .i64 W) := by rw [hw1]; go_simp
  have q2 : w1.cell? ⟨w.heap.size + 1 + 1, 0, none⟩ = some (.int .i64 H) := by rw [hw1]; go_simp
  have HC := Lib.hid hp
  have HN := Lib.hid hn
  have HW := Lib.hid hw1
  clear hp hn hw1
  have hk' : k = 0 ∨ k = 1 ∨ k = 2 ∨ k = 3 := by omega
  rcases hk' with rfl | rfl | rfl | rfl
  · have HF := Lib.hid (cloneY_any g o n c z w1.drew (by rw [HN.out]; exact Nat.mul_pos hW.1 hH.1) hN (fun j hj => cell_later B1.drew (HC.out j hj)))
    have hpl : (List.range n).map (fun k => Value.int .u8 (z k)) = (places W (turnAt W H 0 z) n).map (Value.int .u8) := by
      simp only [places, List.map_map]
      refine List.map_congr_left fun k _ => ?_
      simp only [turnAt, Function.comp]
      rw [if_neg (by decide), if_neg (by decide), if_neg (by decide), Nat.mul_comm, Nat.div_add_mod]
    go_enter Try.func106, Try.ntmps106
    go_wp2_with fail
    rw [← HW.out]
    go_region_held3 (fun w' => w'.cell? ⟨w.heap.size, 0, none⟩ = some (.slice (some ⟨g, o, none⟩) n c) ∧ w'.cell? ⟨w.heap.size + 1, 0, none⟩ = some (.int .i64 W) ∧ w'.cell? ⟨w.heap.size + 1 + 1, 0, none⟩ = some (.int .i64 H))
      (first | (go_keep; done) | (go_split_ands; exact ⟨cell_later hb5 (by assumption), cell_later hb5 (by assumption), cell_later hb5 (by assumption)⟩))
      ((first | (go_at_call 156; with_reducible refine HF.out.mono ?_; rintro e w5 ⟨v, rfl, hown, hb5⟩)))
    all_goals go_wp2_with fail
    all_goals refine bodyPost_ret (v := .tuple #[.int .i64 (turnW W H 0), .int .i64 (turnW H W 0), v]) (by simp [results, Try.results106, go_sem, turnW]) rfl ⟨_, rfl, by have h := owns_base hown B1.size; rw [hpl] at h; exact h, below_step B1.drew hb5⟩
  · have HF := Lib.hid (fillByte_any H W 153 #[.pointer (some ⟨w.heap.size, 0, none⟩), .pointer (some ⟨w.heap.size + 1 + 1, 0, none⟩), .pointer (some ⟨w.heap.size + 1, 0, none⟩)] (turnAt W H 1 z) w1.drew (by omega) (by omega) (by omega) (by have := HN.out; rw [Nat.mul_comm] at this; first | omega | (rw [Nat.mul_comm] at this; omega)) (Go.Proofs.enters_of Try.func153 (by kernel_rfl) rfl) (fun x y wx hx hy hbx => by
      have hb := below_step (Below.refl w1.heap.size w1).drew hbx
      have hfit := row_fits (y := H - 1 - x) (h := H) (by omega) (show y + 1 ≤ W by omega)
      refine (turnY1_any W H x y w.heap.size (w.heap.size + 1) (w.heap.size + 1 + 1) g o n c _ (turnAt W H 1 z x y) wx hW.2 hH.2 hx hy HN.out rfl (cell_later hb q0) (cell_later hb q2) (cell_later hb q1) (cell_later hb (cell_later B1 (HC.out _ (by rw [HN.out]; omega))))).mono ?_
      rintro e wy ⟨rfl, rfl⟩
      exact ⟨rfl, Below.refl _ _⟩))
    go_enter Try.func106, Try.ntmps106
    go_wp2_with fail
    rw [← HW.out]
    go_region_held3 (fun w' => w'.cell? ⟨w.heap.size, 0, none⟩ = some (.slice (some ⟨g, o, none⟩) n c) ∧ w'.cell? ⟨w.heap.size + 1, 0, none⟩ = some (.int .i64 W) ∧ w'.cell? ⟨w.heap.size + 1 + 1, 0, none⟩ = some (.int .i64 H))
      (first | (go_keep; done) | (go_split_ands; exact ⟨cell_later hb5 (by assumption), cell_later hb5 (by assumption), cell_later hb5 (by assumption)⟩))
      ((first | (go_at_call 109; with_reducible refine HF.out.mono ?_; rintro e w5 ⟨v, rfl, hown, hb5⟩)))
    all_goals go_wp2_with fail
    all_goals refine bodyPost_ret (v := .tuple #[.int .i64 (turnW W H 1), .int .i64 (turnW H W 1), v]) (by simp [results, Try.results106, go_sem, turnW]) rfl ⟨_, rfl, by have h := owns_base hown B1.size; have e := HN.out; rw [Nat.mul_comm] at e; rw [← e] at h; exact h, below_step B1.drew hb5⟩
  · have HF := Lib.hid (fillByte_any W H 154 #[.pointer (some ⟨w.heap.size, 0, none⟩), .pointer (some ⟨w.heap.size + 1 + 1, 0, none⟩), .pointer (some ⟨w.heap.size + 1, 0, none⟩)] (turnAt W H 2 z) w1.drew (by omega) (by omega) (by omega) (by have := HN.out; rw [Nat.mul_comm] at this; first | omega | (rw [Nat.mul_comm] at this; omega)) (Go.Proofs.enters_of Try.func154 (by kernel_rfl) rfl) (fun x y wx hx hy hbx => by
      have hb := below_step (Below.refl w1.heap.size w1).drew hbx
      have hfit := row_fits (y := H - 1 - y) (h := H) (by omega) (show (W - 1 - x) + 1 ≤ W by omega)
      refine (turnY2_any W H x y w.heap.size (w.heap.size + 1) (w.heap.size + 1 + 1) g o n c _ (turnAt W H 2 z x y) wx hW.2 hH.2 hx hy HN.out rfl (cell_later hb q0) (cell_later hb q2) (cell_later hb q1) (cell_later hb (cell_later B1 (HC.out _ (by rw [HN.out]; omega))))).mono ?_
      rintro e wy ⟨rfl, rfl⟩
      exact ⟨rfl, Below.refl _ _⟩))
    go_enter Try.func106, Try.ntmps106
    go_wp2_with fail
    rw [← HW.out]
    go_region_held3 (fun w' => w'.cell? ⟨w.heap.size, 0, none⟩ = some (.slice (some ⟨g, o, none⟩) n c) ∧ w'.cell? ⟨w.heap.size + 1, 0, none⟩ = some (.int .i64 W) ∧ w'.cell? ⟨w.heap.size + 1 + 1, 0, none⟩ = some (.int .i64 H))
      (first | (go_keep; done) | (go_split_ands; exact ⟨cell_later hb5 (by assumption), cell_later hb5 (by assumption), cell_later hb5 (by assumption)⟩))
      ((first | (go_at_call 109; with_reducible refine HF.out.mono ?_; rintro e w5 ⟨v, rfl, hown, hb5⟩)))
    all_goals go_wp2_with fail
    all_goals refine bodyPost_ret (v := .tuple #[.int .i64 (turnW W H 2), .int .i64 (turnW H W 2), v]) (by simp [results, Try.results106, go_sem, turnW]) rfl ⟨_, rfl, by have h := owns_base hown B1.size; have e := HN.out; rw [← e] at h; exact h, below_step B1.drew hb5⟩
  · have HF := Lib.hid (fillByte_any H W 155 #[.pointer (some ⟨w.heap.size, 0, none⟩), .pointer (some ⟨w.heap.size + 1, 0, none⟩)] (turnAt W H 3 z) w1.drew (by omega) (by omega) (by omega) (by have := HN.out; rw [Nat.mul_comm] at this; first | omega | (rw [Nat.mul_comm] at this; omega)) (Go.Proofs.enters_of Try.func155 (by kernel_rfl) rfl) (fun x y wx hx hy hbx => by
      have hb := below_step (Below.refl w1.heap.size w1).drew hbx
      have hfit := row_fits (y := x) (h := H) (by omega) (show (W - 1 - y) + 1 ≤ W by omega)
      refine (turnY3_any W H x y w.heap.size (w.heap.size + 1) g o n c _ (turnAt W H 3 z x y) wx hW.2 hH.2 hx hy HN.out rfl (cell_later hb q0) (cell_later hb q1) (cell_later hb (cell_later B1 (HC.out _ (by rw [HN.out]; omega))))).mono ?_
      rintro e wy ⟨rfl, rfl⟩
      exact ⟨rfl, Below.refl _ _⟩))
    go_enter Try.func106, Try.ntmps106
    go_wp2_with fail
    rw [← HW.out]
    go_region_held3 (fun w' => w'.cell? ⟨w.heap.size, 0, none⟩ = some (.slice (some ⟨g, o, none⟩) n c) ∧ w'.cell? ⟨w.heap.size + 1, 0, none⟩ = some (.int .i64 W) ∧ w'.cell? ⟨w.heap.size + 1 + 1, 0, none⟩ = some (.int .i64 H))
      (first | (go_keep; done) | (go_split_ands; exact ⟨cell_later hb5 (by assumption), cell_later hb5 (by assumption), cell_later hb5 (by assumption)⟩))
      ((first | (go_at_call 109; with_reducible refine HF.out.mono ?_; rintro e w5 ⟨v, rfl, hown, hb5⟩)))
    all_goals go_wp2_with fail
    all_goals refine bodyPost_ret (v := .tuple #[.int .i64 (turnW W H 3), .int .i64 (turnW H W 3), v]) (by simp [results, Try.results106, go_sem, turnW]) rfl ⟨_, rfl, by have h := owns_base hown B1.size; have e := HN.out; rw [Nat.mul_comm] at e; rw [← e] at h; exact h, below_step B1.drew hb5⟩

end Go.Proofs.Ytcpgnfbjdokdcaa
namespace Go.Proofs.Ytcpgnfbjdokdcaa
open Go.RowKit
set_option linter.unusedSimpArgs false
set_option linter.unusedVariables false

/-- What a page is that was made by places, in memory: nothing with an error; else its places. -/
def PageIsY (E : Int) (a b : Int) (f : Nat → Nat → Int) (B : Nat) (w : World) (i j : Int) (sl : Option Addr) (n' c' : Nat) : Prop :=
  (E ≠ 0 ∧ i = 0 ∧ j = 0 ∧ sl = none ∧ n' = 0 ∧ c' = 0) ∨
  (E = 0 ∧ i = a ∧ j = b ∧ n' = a.toNat * b.toNat ∧ ∃ g, B ≤ g ∧ sl = some ⟨g, 0, none⟩ ∧ ∀ k, k < n' → w.cell? ⟨g, 0 + k, none⟩ = some (.int .u8 (f (k % a.toNat) (k / a.toNat))))

theorem PageIsY.later {E a b : Int} {f : Nat → Nat → Int} {B : Nat} {w w' : World} {i j : Int} {sl : Option Addr} {n' c' : Nat} (h : PageIsY E a b f B w i j sl n' c') (hb : Below w.heap.size w w') : PageIsY E a b f B w' i j sl n' c' := by
  rcases h with h | ⟨h1, h2, h3, h4, g, h5, h6, h7⟩
  · exact .inl h
  · exact .inr ⟨h1, h2, h3, h4, g, h5, h6, fun k hk => cell_later hb (h7 k hk)⟩
theorem PageIsY.far3 {E a b : Int} {f : Nat → Nat → Int} {B N : Nat} {w : World} {i j : Int} {sl : Option Addr} {n' c' : Nat} (h : PageIsY E a b f B w i j sl n' c') (hN : N < B) (x y u : Value) : PageIsY E a b f B (((w.setCell ⟨N, 0, none⟩ x).setCell ⟨N, 1, none⟩ y).setCell ⟨N, 2, none⟩ u) i j sl n' c' := by
  rcases h with h | ⟨h1, h2, h3, h4, g, h5, h6, h7⟩
  · exact .inl h
  · exact .inr ⟨h1, h2, h3, h4, g, h5, h6, fun k hk => cell_far3 (show g ≠ N by omega) (h7 k hk)⟩

theorem turnGray_badPage (a b : Int) (p : Option Addr) (n c : Nat) (qt : Int) (w : World) (h : pageErr a b n ≠ 0) :
    Calls Try.prog 44 #[.agg #[.int .i64 a, .int .i64 b, .slice p n c], .int .i64 qt] w fun e w' => e = .returned (.tuple #[.agg #[.int .i64 0, .int .i64 0, .slice none 0 0], .int .i64 (pageErr a b n)]) ∧ Below w.heap.size w w' := by
  have h' : (pageErr a b n != 0) = true := by simpa using h
  clear h
  go_enter Try.func44, Try.ntmps44
  go_wp2_with ((go_at_call 14; refine (checkGray_any _ _ _ _ _ _).mono ?_; rintro e w' ⟨rfl, rfl⟩))
  refine bodyPost_ret (v := .tuple #[.agg #[.int .i64 0, .int .i64 0, .slice none 0 0], .int .i64 (pageErr a b n)]) (by simp [results, Try.results44, go_sem]) rfl ⟨rfl, below_alloc (below_alloc (new_below _ _) _) _⟩

set_option maxHeartbeats 400000 in
set_option maxRecDepth 100000 in
theorem turnGray_ok (W H g o c k : Nat) (qt : Int) (z : Nat → Int) (w : World) (he : sizeErr W H = 0) (hk : (qt.tmod 4 + 4).tmod 4 = (k : Int))
    (hp : ∀ j, j < W * H → w.cell? ⟨g, o + j, none⟩ = some (.int .u8 (z j))) :
    Calls Try.prog 44 #[.agg #[.int .i64 W, .int .i64 H, .slice (some ⟨g, o, none⟩) (W * H) c], .int .i64 qt] w fun e w' =>
      ∃ v, e = .returned (.tuple #[.agg #[.int .i64 (turnW W H k), .int .i64 (turnW H W k), v], .int .i64 0]) ∧ w'.ownsRow w.heap.size 5 1 v (W * H) ((places (turnW W H k) (turnAt W H k z) (W * H)).map (Value.int .u8)) ∧ Below w.heap.size w w' := by
  obtain ⟨⟨a1, a2, a3, a4⟩, z0, z1⟩ := sizeErr_zero he
  have hN : W * H ≤ 1048576 := by rw [← Int.natCast_mul] at z1; omega
  have hpe : pageErr W H (W * H) = 0 := by unfold pageErr; rw [if_pos he, if_pos (by simp [Int.natCast_mul])]
  have HC := Lib.hid hp
  have HK := Lib.hid hk
  clear hp he z0 z1 hk
  go_enter Try.func44, Try.ntmps44
  go_wp2_with ((go_at_call 14; refine (checkGray_any _ _ _ _ _ _).mono ?_; rintro e w' ⟨rfl, rfl⟩))
  obtain ⟨w1, hw1⟩ : ∃ w1, w1 = (((w.alloc (.cells #[.int .i64 W, .int .i64 H, .slice (some ⟨g, o, none⟩) (W * H) c] 27)).alloc (.cells #[.int .i64 0, .int .i64 0, .slice none 0 0] 27)).alloc (.cells #[.int .i64 W, .int .i64 H, .slice (some ⟨g, o, none⟩) (W * H) c] 27)) := ⟨_, rfl⟩
  have B1 : Below w.heap.size w w1 := by rw [hw1]; exact below_alloc (below_alloc (new_below _ _) _) _
  have qb : w1.heap[w.heap.size + 1]? = some (.cells #[.int .i64 0, .int .i64 0, .slice none 0 0] 27 (0, 0)) := by
    rw [hw1, Below.heap_alloc _ _ _ (by simp)]
    simpa using heap_alloc_new (w.alloc (.cells #[.int .i64 W, .int .i64 H, .slice (some ⟨g, o, none⟩) (W * H) c] 27)) (.cells #[.int .i64 0, .int .i64 0, .slice none 0 0] 27)
  rw [← hw1]
  clear hw1
  have lt1 := (Array.getElem?_eq_some_iff.1 qb).1
  refine (turnY_any W H g o (W * H) c k qt z w1 ⟨by omega, by omega⟩ ⟨by omega, by omega⟩ rfl hN HK.out (fun j hj => cell_later B1 (HC.out j hj))).mono ?_
  rintro e w5 ⟨v, rfl, hown, hb5⟩
  obtain ⟨j0, j1, j2, r0, r1, r2⟩ := block3 (below_block hb5 qb)
  obtain ⟨va, vn, vc, rfl⟩ := owns_shape hown
  have F := Lib.hid hown
  have G := Lib.hid hb5
  have L := Lib.hid lt1
  clear hown hb5 lt1
  go_wp2_with fail
  refine bodyPost_ret (v := .tuple #[.agg #[.int .i64 (turnW W H k), .int .i64 (turnW H W k), .slice va vn vc], .int .i64 0]) (by simp [results, Try.results44, go_sem, j0, j1, j2]) rfl ⟨_, rfl, owns_far3 F.out L.out B1.size, below_far3 (below_step B1 G.out) (by omega)⟩

theorem turnGray_any (a b : Int) (s : Option Addr) (n c k : Nat) (qt : Int) (zs : List Int) (w : World) (hs : IsBytes w s n c zs) (hk : (qt.tmod 4 + 4).tmod 4 = (k : Int)) :
    Calls Try.prog 44 #[.agg #[.int .i64 a, .int .i64 b, .slice s n c], .int .i64 qt] w fun e w' =>
      ∃ i j sl n' c', e = .returned (.tuple #[.agg #[.int .i64 i, .int .i64 j, .slice sl n' c'], .int .i64 (pageErr a b n)]) ∧ PageIsY (pageErr a b n) (turnW a.toNat b.toNat k) (turnW b.toNat a.toNat k) (turnAt a.toNat b.toNat k (fun j => zs.getD j 0)) w.heap.size w' i j sl n' c' ∧ Below w.heap.size w w' := by
  by_cases h : pageErr a b n = 0
  · obtain ⟨W, H, rfl, rfl, hn, w1, w2, h1, h2, hN, he⟩ := page_nat h
    obtain ⟨g, o, rfl, hc, _⟩ := isBytes_cells hs (by rw [hn]; exact Nat.mul_pos w1 h1)
    subst hn
    refine (turnGray_ok W H g o c k qt (fun j => zs.getD j 0) w he hk hc).mono ?_
    rintro e w' ⟨v, rfl, hown, hbel⟩
    obtain ⟨g', c', rfl, hg', hz⟩ := owns_pageY hown (Nat.mul_pos w1 h1)
    exact ⟨_, _, _, _, _, by rw [h], .inr ⟨h, by simp, by simp, by simp [turnW_mul], g', hg', rfl, by simpa using hz⟩, hbel⟩
  · refine (turnGray_badPage a b s n c qt w h).mono ?_
    rintro e w' ⟨rfl, hbel⟩
    exact ⟨0, 0, none, 0, 0, rfl, .inl ⟨h, rfl, rfl, rfl, rfl, rfl⟩, hbel⟩

set_option maxRecDepth 100000 in
theorem turns4_any (W H x y pb g o n c t : Nat) (q : Int) (w : World) (hW : W ≤ 4000) (hH : H ≤ 4000) (hx : x < H) (hy : y < W) (hn : n = W * H) (ht : t = (H - 1 - x) * W + y)
    (c0 : w.cell? ⟨pb, 0, none⟩ = some (.int .i64 W)) (c1 : w.cell? ⟨pb, 1, none⟩ = some (.int .i64 H)) (c2 : w.cell? ⟨pb, 2, none⟩ = some (.slice (some ⟨g, o, none⟩) n c)) (hc : w.cell? ⟨g, o + t, none⟩ = some (.int .u8 q)) :
    Calls Try.prog 45 #[.int .i64 x, .int .i64 y, .pointer (some ⟨pb, 0, none⟩)] w fun e w' => e = .returned (.int .u8 q) ∧ w = w' := by
  obtain ⟨A, hA⟩ : ∃ A, A = H - 1 - x := ⟨_, rfl⟩
  have e0 : (H : Int) - 1 - (x : Int) = (A : Int) := by omega
  rw [← hA] at ht
  obtain ⟨r1, r2⟩ := row_prod (y := A) hW hH (by omega)
  obtain ⟨P, hP⟩ : ∃ P, P = A * W := ⟨_, rfl⟩
  have e1 : (A : Int) * (W : Int) = (P : Int) := by rw [hP, Int.natCast_mul]
  rw [← hP] at r1 r2 ht
  have htn : (t : Int) < (n : Int) := by rw [hn, Nat.mul_comm W H]; omega
  have e2 : (P : Int) + (y : Int) = (t : Int) := by omega
  clear hP ht hn r2 hA
  go_enter Try.func45, Try.ntmps45
  go_wp2
  go_ret
  exact ⟨rfl, rfl⟩

/-- The page that is made for comparison: turned once more. -/
theorem madeTurn_any (W H pb g o c : Nat) (z : Nat → Int) (w : World) (hW : 1 ≤ W ∧ W ≤ 4000) (hH : 1 ≤ H ∧ H ≤ 4000) (hN : W * H ≤ 1048576)
    (c0 : w.cell? ⟨pb, 0, none⟩ = some (.int .i64 W)) (c1 : w.cell? ⟨pb, 1, none⟩ = some (.int .i64 H)) (c2 : w.cell? ⟨pb, 2, none⟩ = some (.slice (some ⟨g, o, none⟩) (W * H) c))
    (hp : ∀ j, j < W * H → w.cell? ⟨g, o + j, none⟩ = some (.int .u8 (z j))) :
    Calls Try.prog 30 #[.int .i64 H, .int .i64 W, .func (.func 45) #[] #[.pointer (some ⟨pb, 0, none⟩)]] w fun e w' =>
      ∃ g' c', e = .returned (.agg #[.int .i64 H, .int .i64 W, .slice (some ⟨g', 0, none⟩) (H * W) c']) ∧ w.heap.size ≤ g' ∧ (∀ j, j < H * W → w'.cell? ⟨g', 0 + j, none⟩ = some (.int .u8 (z ((H - 1 - j % H) * W + j / H)))) ∧ Below w.heap.size w w' := by
  refine (madeGray_any H W 45 _ (fun x y => z ((H - 1 - x) * W + y)) w hH.1 (by omega) (by omega) (by rw [Nat.mul_comm]; omega) (Go.Proofs.enters_of Try.func45 (by kernel_rfl) rfl) ?_).mono ?_
  · intro x y wx hx hy hbx
    have hfit := row_fits (y := H - 1 - x) (h := H) (by omega) (show y + 1 ≤ W by omega)
    refine (turns4_any W H x y pb g o (W * H) c _ _ wx hW.2 hH.2 hx hy rfl rfl (cell_later hbx c0) (cell_later hbx c1) (cell_later hbx c2) (cell_later hbx (hp _ (by omega)))).mono ?_
    rintro e wy ⟨rfl, rfl⟩
    exact ⟨rfl, Below.refl _ _⟩
  · rintro e w5 ⟨v, rfl, hown, hb5⟩
    obtain ⟨g', c', rfl, hg', hz⟩ := owns_pageY hown (Nat.mul_pos hH.1 hW.1)
    exact ⟨g', c', rfl, hg', hz, hb5⟩

end Go.Proofs.Ytcpgnfbjdokdcaa
