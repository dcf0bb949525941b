/-
  What counts_holds leans on: contracts of the functions that it calls.
-/
import Derived.Test.YtcpgnfbjdokdcaaRows
import Derived.WalkKit
import Derived.WalkSpells
import Derived.WalkLawsBesides
import Derived.Lib.Hide
import Derived.Deep.RegionHeld3
import Derived.Shelf.Abstract
import Derived.Deep.AppendLies
import Derived.Deep.DrawnRows
import Derived.Deep.RegionLaw
import Derived.Deep.QuietTactic
import Derived.BigQuiet
import Derived.ProofKit
import Derived.OpenShut
import Derived.ShutString
import Derived.ChangeOld
import Derived.Lib.SmallJoins
import Derived.Deep.Grids
import Derived.Deep.DeepCutAuto
import Derived.Lib.MinMax
import Derived.Deep.CutRange
import Derived.Laws.EntriesVeiled
import Derived.StillTailTactics
import Derived.Test.YtcpgnfbjdokdcaaCCounts4
namespace Go.Proofs.Ytcpgnfbjdokdcaa
open Go.RowKit
set_option linter.unusedSimpArgs false
set_option linter.unusedVariables false

/-- At how many of the first n places two pages differ. -/
def diffN (z y : Nat → Bool) (n : Nat) : Nat := sumN (fun j => (z j != y j).toNat) n
theorem diffN_le (z y : Nat → Bool) (n : Nat) : diffN z y n ≤ n := by
  have := sumN_le (fun j => (z j != y j).toNat) 1 (fun j => toNat_le _) n
  unfold diffN
  omega
theorem first3_new (x y u : Int) (w : World) :
    Calls Try.prog 22 #[.slice (some ⟨w.heap.size, 0, none⟩) 3 3] (w.alloc (.cells #[.int .i64 x, .int .i64 y, .int .i64 u] 30)) fun r w' => r = .returned (.int .i64 (orI x (orI y u))) ∧ w.alloc (.cells #[.int .i64 x, .int .i64 y, .int .i64 u] 30) = w' := by
  refine (first_any w.heap.size [x, y, u] _ (by simp) ?_).mono ?_
  · intro j hj
    match j, hj with
    | 0, _ => rw [World.cell?_alloc_at _ _ _ _ rfl]; rfl
    | 1, _ => rw [World.cell?_alloc_at _ _ _ _ rfl]; rfl
    | 2, _ => rw [World.cell?_alloc_at _ _ _ _ rfl]; rfl
  · rintro e w' ⟨rfl, rfl⟩
    refine ⟨ret_int ?_, rfl⟩
    simp only [firstOf, orI]
    by_cases hx : x = 0
    · by_cases hy : y = 0
      · by_cases hu : u = 0 <;> simp [hx, hy, hu]
      · simp [hx, hy]
    · simp [hx]

set_option maxHeartbeats 2000000 in
set_option maxRecDepth 100000 in
theorem differOf_any (W H g o c g2 o2 c2 : Nat) (z y : Nat → Bool) (w : World) (hW : 1 ≤ W ∧ W ≤ 4000) (hH : 1 ≤ H ∧ H ≤ 4000)
    (hp : ∀ j, j < W * H → w.cell? ⟨g, o + j, none⟩ = some (.bool (z j))) (hp2 : ∀ j, j < W * H → w.cell? ⟨g2, o2 + j, none⟩ = some (.bool (y j))) :
    Calls Try.prog 72 #[.agg #[.int .i64 W, .int .i64 H, .slice (some ⟨g, o, none⟩) (W * H) c], .agg #[.int .i64 W, .int .i64 H, .slice (some ⟨g2, o2, none⟩) (W * H) c2], .int .i64 0, .int .i64 0] w fun e w' => e = .returned (.int .i64 ((diffN z y (W * H) : Nat) : Int)) ∧ Below w.heap.size w w' := by
  obtain ⟨w1, hw1⟩ : ∃ w1, w1 = (w.alloc (.cells #[.int .i64 W, .int .i64 H, .slice (some ⟨g, o, none⟩) (W * H) c] 24)).alloc (.cells #[.int .i64 W, .int .i64 H, .slice (some ⟨g2, o2, none⟩) (W * H) c2] 24) := ⟨_, rfl⟩
  have B1 : Below w.heap.size w w1 := by rw [hw1]; exact below_alloc (new_below _ _) _
  have q0 : w1.cell? ⟨w.heap.size, 0, none⟩ = some (.int .i64 W) := by rw [hw1]; go_simp
  have q1 : w1.cell? ⟨w.heap.size, 1, none⟩ = some (.int .i64 H) := by rw [hw1]; go_simp
  have q2 : w1.cell? ⟨w.heap.size, 2, none⟩ = some (.slice (some ⟨g, o, none⟩) (W * H) c) := by rw [hw1]; go_simp
  have x0 : w1.cell? ⟨w.heap.size + 1, 0, none⟩ = some (.int .i64 W) := by rw [hw1]; go_simp
  have x1 : w1.cell? ⟨w.heap.size + 1, 1, none⟩ = some (.int .i64 H) := by rw [hw1]; go_simp
  have x2 : w1.cell? ⟨w.heap.size + 1, 2, none⟩ = some (.slice (some ⟨g2, o2, none⟩) (W * H) c2) := by rw [hw1]; go_simp
  have HC := Lib.hid (fun j hj => cell_later B1 (hp j hj))
  have HD := Lib.hid (fun j hj => cell_later B1 (hp2 j hj))
  have HB1 := Lib.hid B1
  have hNN := Nat.mul_le_mul hW.2 hH.2
  clear hp hp2 B1
  go_enter Try.func72, Try.ntmps72
  go_upto_region 3 with fail
  rw [← hw1]
  clear hw1
  go_wp2_with fail
  go_loopw [9, 14] (fun n y' wr => ∃ k N : Nat, k ≤ H ∧ y' = .int .i64 k ∧ n = .int .i64 N ∧ N ≤ k * W ∧ Hid (N = diffN z y (k * W)) ∧ Below w1.heap.size w1 wr) (fun _ y' _ => H - (intOf y').toNat)
  case atStart => exact ⟨0, 0, Nat.zero_le _, rfl, rfl, by omega, Lib.hid (by simp [diffN, sumN]), Below.refl _ _⟩
  case round =>
    obtain ⟨k, N, hk, rfl, rfl, hN1, HN, hb⟩ := hrel
    have d0 := cell_later hb q0
    have d1 := cell_later hb q1
    by_cases hlt : k < H
    · obtain ⟨wo, rfl⟩ : ∃ wo : World, wo = wr := ⟨_, rfl⟩
      go_wp2_with fail
      go_loopw [9, 19] (fun n x wr => ∃ i M : Nat, i ≤ W ∧ x = .int .i64 i ∧ n = .int .i64 M ∧ M ≤ k * W + i ∧ Hid (M = diffN z y (k * W + i)) ∧ Below w1.heap.size w1 wr) (fun _ x _ => W - (intOf x).toNat)
      case atStart => exact ⟨0, N, Nat.zero_le _, rfl, rfl, by omega, Lib.hid (by simpa using HN.out), hb⟩
      case round =>
        obtain ⟨i, M, hi, rfl, rfl, hM1, HM, hbr⟩ := hrel
        clear d0 d1 hb
        have c0 := cell_later hbr q0
        have c1 := cell_later hbr q1
        have c2' := cell_later hbr q2
        have d0 := cell_later hbr x0
        have d1 := cell_later hbr x1
        have d2 := cell_later hbr x2
        have HBR := Lib.hid hbr
        clear hbr
        have l0 := World.block_lt_of_cell? _ _ c0
        have l1 := World.block_lt_of_cell? _ _ d0
        simp only at l0 l1
        by_cases hlti : i < W
        · have hfit := row_fits hlt (show i + 1 ≤ W by omega)
          obtain ⟨t, ht⟩ : ∃ t, t = z (k * W + i) := ⟨_, rfl⟩
          obtain ⟨u, hu⟩ : ∃ u, u = y (k * W + i) := ⟨_, rfl⟩
          have p1 := cell_later HBR.out (HC.out (k * W + i) (by omega))
          have p2 := cell_later HBR.out (HD.out (k * W + i) (by omega))
          rw [← ht] at p1
          rw [← hu] at p2
          have hst := Lib.hid (show diffN z y (k * W + (i + 1)) = diffN z y (k * W + i) + (t != u).toNat by rw [ht, hu]; rfl)
          have hMb : M ≤ 16000000 := by omega
          have hWb : W ≤ 10000 := by omega
          have hHb : H ≤ 10000 := by omega
          clear hfit ht hu
          have e1 : IntKind.i64.wrap (i : Int) = (i : Int) := IntWalk.i64_in _ (by omega)
          have e2 : IntKind.i64.wrap (k : Int) = (k : Int) := IntWalk.i64_in _ (by omega)
          go_wp2_with fail
          go_region_held3 (fun w' => w'.cell? ⟨w.heap.size, 0, none⟩ = some (.int .i64 W) ∧ w'.cell? ⟨w.heap.size, 1, none⟩ = some (.int .i64 H) ∧ w'.cell? ⟨w.heap.size, 2, none⟩ = some (.slice (some ⟨g, o, none⟩) (W * H) c) ∧
              w'.cell? ⟨w.heap.size + 1, 0, none⟩ = some (.int .i64 W) ∧ w'.cell? ⟨w.heap.size + 1, 1, none⟩ = some (.int .i64 H) ∧ w'.cell? ⟨w.heap.size + 1, 2, none⟩ = some (.slice (some ⟨g2, o2, none⟩) (W * H) c2) ∧
              w'.cell? ⟨g, o + (k * W + i), none⟩ = some (.bool t) ∧ w'.cell? ⟨g2, o2 + (k * W + i), none⟩ = some (.bool u))
            (first | (go_keep; done) | (go_split_ands; exact ⟨cell_later hbi (by assumption), cell_later hbi (by assumption), cell_later hbi (by assumption), cell_later hbi (by assumption), cell_later hbi (by assumption), cell_later hbi (by assumption), cell_later hbi (by assumption), cell_later hbi (by assumption)⟩) | (go_split_ands; exact ⟨cell_later hbk (by assumption), cell_later hbk (by assumption), cell_later hbk (by assumption), cell_later hbk (by assumption), cell_later hbk (by assumption), cell_later hbk (by assumption), cell_later hbk (by assumption), cell_later hbk (by assumption)⟩))
            ((first | (go_at_call 41; with_reducible refine (at_in W H g o c i k t _ hWb hHb hlti hlt ?_).mono ?_; (go_split_ands; assumption); rintro e wi ⟨rfl, hbi⟩) | (go_at_call 41; with_reducible refine (at_in W H g2 o2 c2 i k u _ hWb hHb hlti hlt ?_).mono ?_; (go_split_ands; assumption); rintro e wk ⟨rfl, hbk⟩)))
          clear e1 e2
          have hbb := Lib.hid (below_step (below_step (Below.refl wr.heap.size wr).drew hbi) hbk)
          cases t <;> cases u
          · go_wp2_with fail
            go_roundw
            case rel => exact ⟨i + 1, M, by omega, by go_num, rfl, by have := diffN_le z y (k * W + (i + 1)); have h1 := hst.out; have h2 := HM.out; simp at h1; omega, Lib.hid (by rw [hst.out, HM.out]; simp), HBR.out.trans (hbb.out.mono HBR.out.size)⟩
            case measure => simp [intOf]; omega
          · go_wp2_with fail
            go_roundw
            case rel => exact ⟨i + 1, M + 1, by omega, by go_num, by go_num, by have := diffN_le z y (k * W + (i + 1)); have h1 := hst.out; have h2 := HM.out; simp at h1; omega, Lib.hid (by rw [hst.out, HM.out]; simp), HBR.out.trans (hbb.out.mono HBR.out.size)⟩
            case measure => simp [intOf]; omega
          · go_wp2_with fail
            go_roundw
            case rel => exact ⟨i + 1, M + 1, by omega, by go_num, by go_num, by have := diffN_le z y (k * W + (i + 1)); have h1 := hst.out; have h2 := HM.out; simp at h1; omega, Lib.hid (by rw [hst.out, HM.out]; simp), HBR.out.trans (hbb.out.mono HBR.out.size)⟩
            case measure => simp [intOf]; omega
          · go_wp2_with fail
            go_roundw
            case rel => exact ⟨i + 1, M, by omega, by go_num, rfl, by have := diffN_le z y (k * W + (i + 1)); have h1 := hst.out; have h2 := HM.out; simp at h1; omega, Lib.hid (by rw [hst.out, HM.out]; simp), HBR.out.trans (hbb.out.mono HBR.out.size)⟩
            case measure => simp [intOf]; omega
        · have hie := Lib.hid (show k * W + i = (k + 1) * W by rw [Nat.add_mul, Nat.one_mul]; omega)
          go_wp2_with fail
          go_roundw
          case rel => exact ⟨k + 1, M, by omega, by go_num, rfl, by rw [← hie.out]; exact hM1, Lib.hid (by rw [← hie.out, HM.out]), HBR.out⟩
          case measure => simp [intOf]; omega
    · obtain rfl : k = H := by omega
      have HB := Lib.hid hb
      clear hb d0 d1
      go_wp2_with fail
      go_ret
      exact ⟨ret_int (by rw [HN.out, Nat.mul_comm]), below_step HB1.out HB.out⟩

/-- The error of Differ. -/
def diffErr (a b : Int) (n : Nat) (a2 b2 : Int) (n2 : Nat) : Int := if pageErr a b n = 0 then (if pageErr a2 b2 n2 = 0 then (if a = a2 ∧ b = b2 then 0 else 11) else pageErr a2 b2 n2) else pageErr a b n

theorem differ_bad1 (a b a2 b2 : Int) (p p2 : Option Addr) (n c n2 c2 : Nat) (w : World) (h : pageErr a b n ≠ 0) :
    Calls Try.prog 71 #[.agg #[.int .i64 a, .int .i64 b, .slice p n c], .agg #[.int .i64 a2, .int .i64 b2, .slice p2 n2 c2]] w fun e w' => e = .returned (.tuple #[.int .i64 0, .int .i64 (pageErr a b n)]) ∧ Below w.heap.size w w' := by
  have h' : (pageErr a b n != 0) = true := by simpa using h
  clear h
  go_enter Try.func71, Try.ntmps71
  go_wp2_with ((go_at_call 13; refine (checkBits_any _ _ _ _ _ _).mono ?_; rintro e w' ⟨rfl, rfl⟩))
  go_ret2
  exact ⟨rfl, below_alloc (below_alloc (new_below _ _) _) _⟩

theorem differ_bad2 (a b a2 b2 : Int) (p p2 : Option Addr) (n c n2 c2 : Nat) (w : World) (h : pageErr a b n = 0) (h2 : pageErr a2 b2 n2 ≠ 0) :
    Calls Try.prog 71 #[.agg #[.int .i64 a, .int .i64 b, .slice p n c], .agg #[.int .i64 a2, .int .i64 b2, .slice p2 n2 c2]] w fun e w' => e = .returned (.tuple #[.int .i64 0, .int .i64 (pageErr a2 b2 n2)]) ∧ Below w.heap.size w w' := by
  have h' : (pageErr a2 b2 n2 != 0) = true := by simpa using h2
  clear h2
  go_enter Try.func71, Try.ntmps71
  go_wp2_with ((go_at_call 13; refine (checkBits_any _ _ _ _ _ _).mono ?_; rintro e w' ⟨rfl, rfl⟩))
  go_ret2
  exact ⟨rfl, below_alloc (below_alloc (below_alloc (new_below _ _) _) _) _⟩

theorem differ_bad3 (a b a2 b2 : Int) (p p2 : Option Addr) (n c n2 c2 : Nat) (w : World) (h : pageErr a b n = 0) (h2 : pageErr a2 b2 n2 = 0) (h3 : ¬ (a = a2 ∧ b = b2)) :
    Calls Try.prog 71 #[.agg #[.int .i64 a, .int .i64 b, .slice p n c], .agg #[.int .i64 a2, .int .i64 b2, .slice p2 n2 c2]] w fun e w' => e = .returned (.tuple #[.int .i64 0, .int .i64 11]) ∧ Below w.heap.size w w' := by
  by_cases h4 : a = a2
  · have h5 : (b != b2) = true := by simp; exact fun k => h3 ⟨h4, k⟩
    subst h4
    clear h3
    go_enter Try.func71, Try.ntmps71
    go_wp2_with ((go_at_call 13; refine (checkBits_any _ _ _ _ _ _).mono ?_; rintro e w' ⟨rfl, rfl⟩))
    go_ret2
    exact ⟨rfl, below_alloc (below_alloc (below_alloc (new_below _ _) _) _) _⟩
  · have h5 : (a != a2) = true := by simpa using h4
    clear h3 h4
    go_enter Try.func71, Try.ntmps71
    go_wp2_with ((go_at_call 13; refine (checkBits_any _ _ _ _ _ _).mono ?_; rintro e w' ⟨rfl, rfl⟩))
    go_ret2
    exact ⟨rfl, below_alloc (below_alloc (below_alloc (new_below _ _) _) _) _⟩

set_option maxHeartbeats 1000000 in
set_option maxRecDepth 100000 in
theorem differ_ok (W H n g o c g2 o2 c2 : Nat) (z y : Nat → Bool) (w : World) (hs : sizeErr W H = 0) (hn : n = W * H)
    (hp : ∀ j, j < n → w.cell? ⟨g, o + j, none⟩ = some (.bool (z j))) (hp2 : ∀ j, j < n → w.cell? ⟨g2, o2 + j, none⟩ = some (.bool (y j))) :
    Calls Try.prog 71 #[.agg #[.int .i64 W, .int .i64 H, .slice (some ⟨g, o, none⟩) n c], .agg #[.int .i64 W, .int .i64 H, .slice (some ⟨g2, o2, none⟩) n c2]] w fun e w' => e = .returned (.tuple #[.int .i64 ((diffN z y n : Nat) : Int), .int .i64 0]) ∧ Below w.heap.size w w' := by
  obtain ⟨hz, z0, z1⟩ := sizeErr_zero hs
  have hN : n ≤ 1048576 := by rw [hn]; rw [← Int.natCast_mul] at z1; omega
  have hpe : pageErr W H n = 0 := by unfold pageErr; rw [if_pos hs, if_pos (by rw [hn]; simp [Int.natCast_mul])]
  have HP := Lib.hid hp
  have HP2 := Lib.hid hp2
  clear hp hp2 hn z0 z1 hs
  go_enter Try.func71, Try.ntmps71
  go_upto_region 10 with ((go_at_call 13; refine (checkBits_any _ _ _ _ _ _).mono ?_; rintro e w' ⟨rfl, rfl⟩))
  obtain ⟨w1, hw1⟩ : ∃ w1, w1 = (((w.alloc (.cells #[.int .i64 W, .int .i64 H, .slice (some ⟨g, o, none⟩) n c] 24)).alloc (.cells #[.int .i64 W, .int .i64 H, .slice (some ⟨g2, o2, none⟩) n c2] 24)).alloc (.cells #[.int .i64 W, .int .i64 H, .slice (some ⟨g, o, none⟩) n c] 24)).alloc (.cells #[.int .i64 W, .int .i64 H, .slice (some ⟨g2, o2, none⟩) n c2] 24) := ⟨_, rfl⟩
  have B1 : Below w.heap.size w w1 := by rw [hw1]; exact below_alloc (below_alloc (below_alloc (new_below _ _) _) _) _
  have q2 : w1.cell? ⟨w.heap.size, 2, none⟩ = some (.slice (some ⟨g, o, none⟩) n c) := by rw [hw1]; go_simp
  have x2 : w1.cell? ⟨w.heap.size + 1, 2, none⟩ = some (.slice (some ⟨g2, o2, none⟩) n c2) := by rw [hw1]; go_simp
  have HB1 := Lib.hid B1
  rw [← hw1]
  clear hw1 B1 hpe hz
  go_wp2_with fail
  go_loop [8, 36] (fun k i => ∃ j N : Nat, j ≤ n ∧ i = .int .i64 j ∧ k = .int .i64 N ∧ N ≤ j ∧ Hid (N = diffN z y j)) (fun _ i => n - (intOf i).toNat)
  case atStart => exact ⟨0, 0, Nat.zero_le _, rfl, rfl, Nat.le_refl _, Lib.hid (by simp [diffN, sumN])⟩
  case round =>
    obtain ⟨j, N, hj, rfl, rfl, hNj, HN⟩ := hrel
    by_cases hlt : j < n
    · have p1 := cell_later HB1.out (HP.out j hlt)
      have p2 := cell_later HB1.out (HP2.out j hlt)
      obtain ⟨t, ht⟩ : ∃ t, t = z j := ⟨_, rfl⟩
      obtain ⟨u, hu⟩ : ∃ u, u = y j := ⟨_, rfl⟩
      rw [← ht] at p1
      rw [← hu] at p2
      have hst := Lib.hid (show diffN z y (j + 1) = diffN z y j + (t != u).toNat by rw [ht, hu]; rfl)
      have i1 : (j : Int) < (n : Int) := by omega
      clear ht hu
      cases t <;> cases u
      · go_wp2_with fail
        go_round
        case rel => exact ⟨j + 1, N, by omega, by go_num, rfl, by omega, Lib.hid (by rw [hst.out, HN.out]; simp)⟩
        case measure => simp [intOf]; omega
      · go_wp2_with fail
        go_round
        case rel => exact ⟨j + 1, N + 1, by omega, by go_num, by go_num, by omega, Lib.hid (by rw [hst.out, HN.out]; simp)⟩
        case measure => simp [intOf]; omega
      · go_wp2_with fail
        go_round
        case rel => exact ⟨j + 1, N + 1, by omega, by go_num, by go_num, by omega, Lib.hid (by rw [hst.out, HN.out]; simp)⟩
        case measure => simp [intOf]; omega
      · go_wp2_with fail
        go_round
        case rel => exact ⟨j + 1, N, by omega, by go_num, rfl, by omega, Lib.hid (by rw [hst.out, HN.out]; simp)⟩
        case measure => simp [intOf]; omega
    · obtain rfl : j = n := by omega
      go_wp2_with fail
      go_ret2
      exact ⟨by show Ending.returned (.tuple #[.int .i64 (N : Int), .int .i64 0]) = _; rw [HN.out], HB1.out⟩

/-- What Differ tells. -/
def DiffIs (E : Int) (n : Nat) (z y : Nat → Bool) (k : Int) : Prop := (E ≠ 0 ∧ k = 0) ∨ (E = 0 ∧ k = ((diffN z y n : Nat) : Int))

theorem differ_any (a b a2 b2 : Int) (s s2 : Option Addr) (n c n2 c2 : Nat) (z y : Nat → Bool) (w : World) (hs : IsBools w s n c z) (hs2 : IsBools w s2 n2 c2 y) :
    Calls Try.prog 71 #[.agg #[.int .i64 a, .int .i64 b, .slice s n c], .agg #[.int .i64 a2, .int .i64 b2, .slice s2 n2 c2]] w fun e w' =>
      ∃ k, e = .returned (.tuple #[.int .i64 k, .int .i64 (diffErr a b n a2 b2 n2)]) ∧ DiffIs (diffErr a b n a2 b2 n2) n z y k ∧ Below w.heap.size w w' := by
  by_cases h : pageErr a b n = 0
  · by_cases h2 : pageErr a2 b2 n2 = 0
    · by_cases h3 : a = a2 ∧ b = b2
      · have hE : diffErr a b n a2 b2 n2 = 0 := by unfold diffErr; rw [if_pos h, if_pos h2, if_pos h3]
        obtain ⟨rfl, rfl⟩ := h3
        have hnn : n2 = n := by have h5 := (page_parts h).2; have h6 := (page_parts h2).2; omega
        subst hnn
        obtain ⟨W, H, rfl, rfl, hn, w1, w2, h1, h2', hN, he⟩ := page_nat h
        obtain ⟨g, o, rfl, hc⟩ := isBools_cells hs (by rw [hn]; exact Nat.mul_pos w1 h1)
        obtain ⟨g2, o2, rfl, hc2⟩ := isBools_cells hs2 (by rw [hn]; exact Nat.mul_pos w1 h1)
        refine (differ_ok W H n2 g o c g2 o2 c2 z y w he hn hc hc2).mono ?_
        rintro e w' ⟨rfl, hbel⟩
        exact ⟨_, by rw [hE], .inr ⟨hE, rfl⟩, hbel⟩
      · have hE : diffErr a b n a2 b2 n2 = 11 := by unfold diffErr; rw [if_pos h, if_pos h2, if_neg h3]
        refine (differ_bad3 a b a2 b2 s s2 n c n2 c2 w h h2 h3).mono ?_
        rintro e w' ⟨rfl, hbel⟩
        exact ⟨0, by rw [hE], .inl ⟨by rw [hE]; decide, rfl⟩, hbel⟩
    · have hE : diffErr a b n a2 b2 n2 = pageErr a2 b2 n2 := by unfold diffErr; rw [if_pos h, if_neg h2]
      refine (differ_bad2 a b a2 b2 s s2 n c n2 c2 w h h2).mono ?_
      rintro e w' ⟨rfl, hbel⟩
      exact ⟨0, by rw [hE], .inl ⟨by rw [hE]; exact h2, rfl⟩, hbel⟩
  · have hE : diffErr a b n a2 b2 n2 = pageErr a b n := by unfold diffErr; rw [if_neg h]
    refine (differ_bad1 a b a2 b2 s s2 n c n2 c2 w h).mono ?_
    rintro e w' ⟨rfl, hbel⟩
    exact ⟨0, by rw [hE], .inl ⟨by rw [hE]; exact h, rfl⟩, hbel⟩

end Go.Proofs.Ytcpgnfbjdokdcaa
namespace Go.Proofs.Ytcpgnfbjdokdcaa
open Go.RowKit
set_option linter.unusedSimpArgs false
set_option linter.unusedVariables false

/-- The mean of the pixels of a square of two by two from (2x, 2y) on, as far as they are there. -/
def mean4 (P : Nat → Int) (W H x y : Nat) : Int :=
  (2 * rectSum P W (2 * y) (2 * x) (min (2 * x + 2) W - 2 * x) (min (2 * y + 2) H - 2 * y) + (((min (2 * x + 2) W - 2 * x) * (min (2 * y + 2) H - 2 * y) : Nat) : Int)) / (2 * (((min (2 * x + 2) W - 2 * x) * (min (2 * y + 2) H - 2 * y) : Nat) : Int))

end Go.Proofs.Ytcpgnfbjdokdcaa
namespace Go.Proofs.Ytcpgnfbjdokdcaa
open Go.RowKit
set_option linter.unusedSimpArgs false
set_option linter.unusedVariables false

/-- The place (a, b) lies in the other page. -/
def InC (Wc Hc : Nat) (x y : Int) (a b : Nat) : Prop := (0 ≤ (a : Int) - x ∧ (a : Int) - x < Wc) ∧ (0 ≤ (b : Int) - y ∧ (b : Int) - y < Hc)
instance (Wc Hc : Nat) (x y : Int) (a b : Nat) : Decidable (InC Wc Hc x y a b) := by unfold InC; infer_instance

/-- A place of the page with the other one pasted. -/
def pasteAt (W Wc Hc : Nat) (x y : Int) (z1 z2 : Nat → Bool) (a b : Nat) : Bool :=
  z1 (b * W + a) || (decide (InC Wc Hc x y a b) && z2 (((b : Int) - y).toNat * Wc + ((a : Int) - x).toNat))

end Go.Proofs.Ytcpgnfbjdokdcaa
namespace Go.Proofs.Ytcpgnfbjdokdcaa
open Go.RowKit
set_option linter.unusedSimpArgs false
set_option linter.unusedVariables false

theorem small_any (a b : Int) (w : World) (h : sizeErr a b = 0) : Calls Try.prog 32 #[.int .i64 a, .int .i64 b] w fun e w' => ∃ q, e = .returned (.bool q) ∧ w = w' := by
  obtain ⟨_, z0, z1⟩ := sizeErr_zero h
  have hw : wrap64 (a * b) = a * b := by unfold wrap64; omega
  clear h
  by_cases h1 : a ≤ 200
  · by_cases h2 : b ≤ 200
    · go_enter Try.func32, Try.ntmps32
      go_wp2_with ((go_at_call 47; refine (in_yes _ _ _ _ (by omega)).mono ?_; rintro e w' ⟨rfl, rfl⟩))
      go_ret
      exact ⟨_, rfl, rfl⟩
    · go_enter Try.func32, Try.ntmps32
      go_wp2_with (first | (go_at_call 47; refine (in_yes _ _ _ _ (by omega)).mono ?_; rintro e w' ⟨rfl, rfl⟩) | (go_at_call 47; refine (in_no _ _ _ _ (by omega)).mono ?_; rintro e w' ⟨rfl, rfl⟩))
      go_ret
      exact ⟨_, rfl, rfl⟩
  · go_enter Try.func32, Try.ntmps32
    go_wp2_with (first | (go_at_call 47; refine (in_no _ _ _ _ (by omega)).mono ?_; rintro e w' ⟨rfl, rfl⟩))
    go_ret
    exact ⟨_, rfl, rfl⟩

/-- What a halved page is, in memory: nothing with an error; else the means. -/
def HalveIs (a b : Int) (n : Nat) (z : Nat → Int) (B : Nat) (w : World) (i j : Int) (sl : Option Addr) (n' c' : Nat) : Prop :=
  (pageErr a b n ≠ 0 ∧ i = 0 ∧ j = 0 ∧ sl = none ∧ n' = 0 ∧ c' = 0) ∨
  (pageErr a b n = 0 ∧ i = (((a.toNat + 1) / 2 : Nat) : Int) ∧ j = (((b.toNat + 1) / 2 : Nat) : Int) ∧ n' = (a.toNat + 1) / 2 * ((b.toNat + 1) / 2) ∧ ∃ g, B ≤ g ∧ sl = some ⟨g, 0, none⟩ ∧ ∀ k, k < n' → w.cell? ⟨g, 0 + k, none⟩ = some (.int .u8 (mean4 z a.toNat b.toNat (k % ((a.toNat + 1) / 2)) (k / ((a.toNat + 1) / 2)))))

theorem HalveIs.later {a b : Int} {n : Nat} {z : Nat → Int} {B : Nat} {w w' : World} {i j : Int} {sl : Option Addr} {n' c' : Nat} (h : HalveIs a b n z B w i j sl n' c') (hb : Below w.heap.size w w') : HalveIs a b n z B w' i j sl n' c' := by
  rcases h with h | ⟨h1, h2, h3, h4, g, h5, h6, h7⟩
  · exact .inl h
  · exact .inr ⟨h1, h2, h3, h4, g, h5, h6, fun k hk => cell_later hb (h7 k hk)⟩

/-- The error of pasting. -/
def pasteErr (a1 b1 : Int) (n1 : Nat) (a2 b2 : Int) (n2 : Nat) : Int := orI (pageErr a1 b1 n1) (pageErr a2 b2 n2)

/-- What a pasted page is, in memory. -/
def PasteIs (a1 b1 : Int) (n1 : Nat) (a2 b2 : Int) (n2 : Nat) (x y : Int) (z1 z2 : Nat → Bool) (B : Nat) (w : World) (i j : Int) (sl : Option Addr) (n' c' : Nat) : Prop :=
  (pasteErr a1 b1 n1 a2 b2 n2 ≠ 0 ∧ i = 0 ∧ j = 0 ∧ sl = none ∧ n' = 0 ∧ c' = 0) ∨
  (pasteErr a1 b1 n1 a2 b2 n2 = 0 ∧ i = a1 ∧ j = b1 ∧ n' = n1 ∧ ∃ g, B ≤ g ∧ sl = some ⟨g, 0, none⟩ ∧ ∀ k, k < n' → w.cell? ⟨g, 0 + k, none⟩ = some (.bool (pasteAt a1.toNat a2.toNat b2.toNat x y z1 z2 (k % a1.toNat) (k / a1.toNat))))

theorem PasteIs.later {a1 b1 : Int} {n1 : Nat} {a2 b2 : Int} {n2 : Nat} {x y : Int} {z1 z2 : Nat → Bool} {B : Nat} {w w' : World} {i j : Int} {sl : Option Addr} {n' c' : Nat} (h : PasteIs a1 b1 n1 a2 b2 n2 x y z1 z2 B w i j sl n' c') (hb : Below w.heap.size w w') : PasteIs a1 b1 n1 a2 b2 n2 x y z1 z2 B w' i j sl n' c' := by
  rcases h with h | ⟨h1, h2, h3, h4, g, h5, h6, h7⟩
  · exact .inl h
  · exact .inr ⟨h1, h2, h3, h4, g, h5, h6, fun k hk => cell_later hb (h7 k hk)⟩

end Go.Proofs.Ytcpgnfbjdokdcaa
namespace Go.Proofs.Ytcpgnfbjdokdcaa
open Go.RowKit
set_option linter.unusedSimpArgs false
set_option linter.unusedVariables false

/-- The arguments that lie in boxes. -/
def BoxesC (B : Nat) (a1 b1 : Int) (s1 : Option Addr) (n1 c1 : Nat) (a2 b2 : Int) (s2 : Option Addr) (n2 c2 : Nat) (a3 b3 : Int) (s3 : Option Addr) (n3 c3 : Nat) (lv X Y bw bh : Int) (w : World) : Prop :=
  (w.cell? ⟨B, 0, none⟩ = some (.int .i64 a1) ∧ w.cell? ⟨B, 1, none⟩ = some (.int .i64 b1) ∧ w.cell? ⟨B, 2, none⟩ = some (.slice s1 n1 c1)) ∧
  (w.cell? ⟨B + 1, 0, none⟩ = some (.int .i64 a2) ∧ w.cell? ⟨B + 1, 1, none⟩ = some (.int .i64 b2) ∧ w.cell? ⟨B + 1, 2, none⟩ = some (.slice s2 n2 c2)) ∧
  (w.cell? ⟨B + 2, 0, none⟩ = some (.int .i64 a3) ∧ w.cell? ⟨B + 2, 1, none⟩ = some (.int .i64 b3) ∧ w.cell? ⟨B + 2, 2, none⟩ = some (.slice s3 n3 c3)) ∧
  w.cell? ⟨B + 3, 0, none⟩ = some (.int .i64 lv) ∧
  w.cell? ⟨B + 4, 0, none⟩ = some (.int .i64 X) ∧ w.cell? ⟨B + 4, 1, none⟩ = some (.int .i64 Y) ∧ w.cell? ⟨B + 4, 2, none⟩ = some (.int .i64 bw) ∧ w.cell? ⟨B + 4, 3, none⟩ = some (.int .i64 bh)

theorem BoxesC.later {B : Nat} {a1 b1 : Int} {s1 : Option Addr} {n1 c1 : Nat} {a2 b2 : Int} {s2 : Option Addr} {n2 c2 : Nat} {a3 b3 : Int} {s3 : Option Addr} {n3 c3 : Nat} {lv X Y bw bh : Int} {w w' : World} (h : BoxesC B a1 b1 s1 n1 c1 a2 b2 s2 n2 c2 a3 b3 s3 n3 c3 lv X Y bw bh w) (hb : Below w.heap.size w w') :
    BoxesC B a1 b1 s1 n1 c1 a2 b2 s2 n2 c2 a3 b3 s3 n3 c3 lv X Y bw bh w' := by
  obtain ⟨⟨k0, k1, k2⟩, ⟨k3, k4, k5⟩, ⟨k6, k7, k8⟩, k9, l0, l1, l2, l3⟩ := h
  exact ⟨⟨cell_later hb k0, cell_later hb k1, cell_later hb k2⟩, ⟨cell_later hb k3, cell_later hb k4, cell_later hb k5⟩, ⟨cell_later hb k6, cell_later hb k7, cell_later hb k8⟩, cell_later hb k9, cell_later hb l0, cell_later hb l1, cell_later hb l2, cell_later hb l3⟩

/-- In, behind a name. -/
def inB (n a b : Int) : Bool := decide (a ≤ n ∧ n ≤ b)
theorem inB_any (n a b : Int) (w : World) : Calls Try.prog 47 #[.int .i64 n, .int .i64 a, .int .i64 b] w fun r w' => r = .returned (.bool (inB n a b)) ∧ w = w' := in_any n a b w

/-- What is wanted of Differ. -/
theorem want_diff {a b a2 b2 : Int} {n n2 : Nat} {q : Bool} (hq : q = !decide (a = a2 ∧ b = b2)) : orI (pageErr a b n) (orI (pageErr a2 b2 n2) (whenI q 11)) = diffErr a b n a2 b2 n2 := by
  unfold orI diffErr whenI
  subst hq
  by_cases h : pageErr a b n = 0
  · by_cases h2 : pageErr a2 b2 n2 = 0
    · by_cases h3 : a = a2 ∧ b = b2 <;> simp [h, h2, h3]
    · simp [h, h2]
  · simp [h]

end Go.Proofs.Ytcpgnfbjdokdcaa
