/-
  What sheets_holds leans on: contracts of the functions that it calls.
-/
import Derived.Test.YtofcojcfcpfdmaaRows
import Derived.WalkKit
import Derived.WalkSpells
import Derived.WalkLawsBesides
import Derived.Lib.Hide
import Derived.Deep.RegionHeld3
import Derived.Shelf.Abstract
import Derived.Deep.AppendLies
import Derived.Deep.DrawnRows
import Derived.Deep.RegionLaw
import Derived.Deep.QuietTactic
import Derived.BigQuiet
import Derived.ProofKit
import Derived.OpenShut
import Derived.ShutString
import Derived.ChangeOld
import Derived.Lib.SmallJoins
import Derived.Deep.Grids
import Derived.Deep.DeepCutAuto
import Derived.Lib.MinMax
import Derived.Deep.CutRange
import Derived.Laws.EntriesVeiled
import Derived.StillTailTactics
import Derived.RegionTactic
import Derived.ChangeAlike
import Derived.BigRegion
import Derived.Test.YtofcojcfcpfdmaaCSheets2
namespace Go.Proofs.Ytofcojcfcpfdmaa
open Go.RowKit
set_option linter.unusedSimpArgs false
set_option linter.unusedVariables false

/-- The error of how far a page leans. -/
def leanErr (n low : Int) : Int := if low ≤ n ∧ n ≤ 256 then 0 else 3

theorem atB_in {W H : Nat} {z : Nat → Bool} {x y : Nat} (hx : x < W) (hy : y < H) : atB W H z (x : Int) (y : Int) = z (y * W + x) := by
  unfold atB; rw [if_pos ⟨by omega, by omega⟩, Int.toNat_natCast, Int.toNat_natCast]

theorem atR_any (W H g o c : Nat) (x y : Int) (z : Nat → Bool) (w : World) (hW : W ≤ 4000) (hH : H ≤ 4000) (hc : ∀ j, j < W * H → w.cell? ⟨g, o + j, none⟩ = some (.bool (z j))) :
    Calls Try.prog 86 #[.agg #[.int .i64 W, .int .i64 H, .slice (some ⟨g, o, none⟩) (W * H) c], .int .i64 x, .int .i64 y] w fun e w' => e = .returned (.bool (atB W H z x y)) ∧ Below w.heap.size w w' := by
  by_cases h : (0 ≤ x ∧ x ≤ (W : Int) - 1) ∧ (0 ≤ y ∧ y ≤ (H : Int) - 1)
  · obtain ⟨X, rfl⟩ : ∃ X : Nat, x = (X : Int) := ⟨x.toNat, by omega⟩
    obtain ⟨Y, rfl⟩ : ∃ Y : Nat, y = (Y : Int) := ⟨y.toNat, by omega⟩
    rw [atB_in (by omega) (by omega)]
    have hfit := row_fits (show Y < H by omega) (show X + 1 ≤ W by omega)
    exact at_in W H g o c X Y _ w (by omega) (by omega) (by omega) (by omega) (hc _ (by omega))
  · have e : atB W H z x y = false := by unfold atB; rw [if_neg h]
    rw [e]
    exact at_out W H g o (W * H) c x y _ w (by omega) (by omega) h

theorem checkLean_any (a b n : Int) (p : Option Addr) (k c : Nat) (w : World) :
    Calls Try.prog 72 #[.agg #[.int .i64 a, .int .i64 b, .slice p k c], .int .i64 n] w fun e w' => e = .returned (.int .i64 (orI (pageErr a b k) (leanErr n (-256)))) ∧ Below w.heap.size w w' := by
  by_cases hp : pageErr a b k = 0
  · have t1 : (pageErr a b k != 0) = false := by simpa using hp
    by_cases hn : -256 ≤ n ∧ n ≤ 256
    · have H1 := Lib.hid hn
      have e : orI (pageErr a b k) (leanErr n (-256)) = 0 := by unfold orI leanErr; rw [if_pos hp, if_pos hn]
      rw [e]
      clear hn e hp
      go_enter Try.func72, Try.ntmps72
      go_wp2_with (first | (go_at_call 25; refine (checkBits_any _ _ _ _ _ _).mono ?_; rintro e w' ⟨rfl, rfl⟩) | (go_at_call 56; refine (outsideS_no _ _ _ _ H1.out).mono ?_; rintro e w' ⟨rfl, rfl⟩))
      go_ret
      exact ⟨rfl, below_alloc (new_below _ _) _⟩
    · have H1 := Lib.hid hn
      have e : orI (pageErr a b k) (leanErr n (-256)) = 3 := by unfold orI leanErr; rw [if_pos hp, if_neg hn]
      rw [e]
      clear hn e hp
      go_enter Try.func72, Try.ntmps72
      go_wp2_with (first | (go_at_call 25; refine (checkBits_any _ _ _ _ _ _).mono ?_; rintro e w' ⟨rfl, rfl⟩) | (go_at_call 56; refine (outsideS_yes _ _ _ _ H1.out).mono ?_; rintro e w' ⟨rfl, rfl⟩))
      go_ret
      exact ⟨rfl, below_alloc (new_below _ _) _⟩
  · have t1 : (pageErr a b k != 0) = true := by simpa using hp
    have e : orI (pageErr a b k) (leanErr n (-256)) = pageErr a b k := by unfold orI; rw [if_neg hp]
    rw [e]
    clear e hp
    go_enter Try.func72, Try.ntmps72
    go_wp2_with (first | (go_at_call 25; refine (checkBits_any _ _ _ _ _ _).mono ?_; rintro e w' ⟨rfl, rfl⟩))
    go_ret
    exact ⟨rfl, below_alloc (new_below _ _) _⟩

end Go.Proofs.Ytofcojcfcpfdmaa
namespace Go.Proofs.Ytofcojcfcpfdmaa
open Go.RowKit
set_option linter.unusedSimpArgs false
set_option linter.unusedVariables false

/-- How much ink a row has before a column. -/
def bef (q : Nat → Nat → Bool) (y : Nat) : Nat → Nat
  | 0 => 0
  | x + 1 => bef q y x + (q x y).toNat
theorem bef_le (q : Nat → Nat → Bool) (y x : Nat) : bef q y x ≤ x := by
  induction x with
  | zero => exact Nat.le_refl _
  | succ x ih => rw [bef]; cases q x y <;> simp <;> omega
def befN (q : Nat → Nat → Bool) (h n i : Nat) : Int := if i < n then (bef q (i % h) (i / h) : Int) else 0

theorem idx_mod {h x y : Nat} (hy : y < h) : (x * h + y) % h = y ∧ (x * h + y) / h = x := by
  constructor
  · rw [Nat.add_comm, Nat.mul_comm, Nat.add_mul_mod_self_left, Nat.mod_eq_of_lt hy]
  · rw [Nat.add_comm, Nat.mul_comm, Nat.add_mul_div_left _ _ (by omega), Nat.div_eq_of_lt hy, Nat.zero_add]

set_option maxHeartbeats 1000000 in
set_option maxRecDepth 100000 in
theorem inkBefore_any (w h clo : Nat) (capt : Array Value) (q : Nat → Nat → Bool) (W0 : World) (hw : 1 ≤ w ∧ w ≤ 4000) (hh : 1 ≤ h ∧ h ≤ 4000) (hN : w * h ≤ 1048576)
    (eg : ∀ (args : Array Value) (W : World), (callFunc clo args).run Try.prog W = .ok (.enter clo args) W)
    (hc : ∀ (x y : Nat) (wx : World), x < w → y < h → Below W0.heap.size W0 wx → Calls Try.prog clo (#[.int .i64 x, .int .i64 y] ++ capt) wx fun e W' => e = .returned (.bool (q x y)) ∧ Below wx.heap.size wx W') :
    Calls Try.prog 144 #[.int .i64 w, .int .i64 h, .func (.func clo) #[] capt] W0 fun e w' =>
      ∃ g, e = .returned (.slice (some ⟨g, 0, none⟩) ((w + 1) * h) ((w + 1) * h)) ∧ W0.heap.size ≤ g ∧ (∀ x y, x ≤ w → y < h → w'.cell? ⟨g, x * h + y, none⟩ = some (.int .i64 (bef q y x : Int))) ∧ Below W0.heap.size W0 w' := by
  obtain ⟨i0, hi, hz0, hz1, hz2⟩ := info_parts info_int
  obtain ⟨M, hM⟩ : ∃ M, M = (w + 1) * h := ⟨_, rfl⟩
  have hM2 : M = w * h + h := by rw [hM, Nat.add_mul, Nat.one_mul]
  have hM3 : M ≤ 1100000 := by omega
  have e1 : ((w : Int) + 1) * (h : Int) = (M : Int) := by rw [hM, Int.natCast_mul]; rfl
  have HC := Lib.hid hc
  have HM := Lib.hid hM
  rw [← hM]
  clear hc hM hM2
  go_enter Try.func144, Try.ntmps144
  go_wp2_with (at_make; refine wpList_make_full _ rfl _ _ 52 rfl W0.heap.size 3 i0 (.int .i64 0) 1 Try.underlying52 hi hz0 hz1 _ _ _ _ M rfl rfl rfl rfl (by rw [hz2]; omega) (by unfold maxLen; omega) (by simp) ?_)
  intro w1 hown1 hgrow1
  rw [toList_madeCells_one, intsOf_zero] at hown1
  have hb1 := (Below.refl W0.heap.size _).grown hgrow1 (by simp) (by simp)
  have HST := Lib.hid (show w1.ownsRow W0.heap.size 3 1 (.slice (some ⟨W0.heap.size, 0, none⟩) M M) M (intsOf (befN q h (0 * h + h)) M) ∧ Below W0.heap.size W0 w1 from ⟨by
    rw [intsOf_congr (g := fun _ => 0) (fun j _ => by
      unfold befN
      split
      · rw [Nat.div_eq_of_lt (by omega)]; rfl
      · rfl)]
    exact hown1, hb1⟩)
  clear hgrow1 hb1 hown1 e1
  go_wp2_with fail
  go_loopw [17] (fun i wr => ∃ x : Nat, x ≤ w ∧ i = .int .i64 x ∧ Hid (wr.ownsRow W0.heap.size 3 1 (.slice (some ⟨W0.heap.size, 0, none⟩) M M) M (intsOf (befN q h (x * h + h)) M) ∧ Below W0.heap.size W0 wr)) (fun i _ => w - (intOf i).toNat)
  case atStart => exact ⟨0, Nat.zero_le _, rfl, HST⟩
  case round =>
    obtain ⟨x, hx, rfl, HR⟩ := hrel
    clear HST
    by_cases hlt : x < w
    · obtain ⟨wo, rfl⟩ : ∃ wo : World, wo = wr := ⟨_, rfl⟩
      have xh := row_fits hlt (show h ≤ h from Nat.le_refl _)
      rw [Nat.mul_comm h w] at xh
      go_wp2_with fail
      go_loopw [21] (fun i wr => ∃ y : Nat, y ≤ h ∧ i = .int .i64 y ∧ Hid (wr.ownsRow W0.heap.size 3 1 (.slice (some ⟨W0.heap.size, 0, none⟩) M M) M (intsOf (befN q h (x * h + h + y)) M) ∧ Below W0.heap.size W0 wr)) (fun i _ => h - (intOf i).toNat)
      case atStart => exact ⟨0, Nat.zero_le _, rfl, HR⟩
      case round =>
        obtain ⟨y, hy, rfl, HR2⟩ := hrel
        clear HR
        by_cases hlty : y < h
        · have hMw : M = w * h + h := by rw [HM.out, Nat.add_mul, Nat.one_mul]
          have t1 : x * h + y < M := by omega
          have t2 : x * h + h + y < M := by omega
          obtain ⟨d1, d2⟩ := idx_mod (x := x) hlty
          have c1 := HR2.out.1.cellAt (x * h + y) (by omega)
          rw [intsOf_get _ _ _ t1] at c1
          have hbv : befN q h (x * h + h + y) (x * h + y) = (bef q y x : Int) := by unfold befN; rw [if_pos (by omega), d1, d2]
          rw [hbv] at c1
          have ble := bef_le q y x
          obtain ⟨n, hn⟩ : ∃ n, n = bef q y x := ⟨_, rfl⟩
          rw [← hn] at c1 ble
          have l1 := World.block_lt_of_cell? _ _ c1
          simp only at l1
          have x0 : (0 : Int) ≤ (x : Int) * (h : Int) := Int.mul_nonneg (by omega) (by omega)
          have x1 : (x : Int) * (h : Int) + (y : Int) < (M : Int) := by rw [← Int.natCast_mul]; omega
          have x2 : ((x : Int) + 1) * (h : Int) + (y : Int) < (M : Int) := by rw [Int.add_mul, Int.one_mul, ← Int.natCast_mul]; omega
          have x3 : (0 : Int) ≤ ((x : Int) + 1) * (h : Int) := Int.mul_nonneg (by omega) (by omega)
          have tn : (((x : Int) + 1) * (h : Int) + (y : Int)).toNat = x * h + h + y := by rw [Int.add_mul, Int.one_mul, ← Int.natCast_mul]; omega
          have HN := Lib.hid hn
          have hnx : bef q y (x + 1) = n + (q x y).toNat := by rw [hn]; rfl
          have HNX := Lib.hid hnx
          have D := Lib.hid (show (x * h + y) % h = y ∧ (x * h + y) / h = x from ⟨d1, d2⟩)
          have MW := Lib.hid hMw
          have T := Lib.hid (show x * h + y < M ∧ x * h + h + y < M from ⟨t1, t2⟩)
          clear hn hnx hbv d1 d2 hMw t1 t2
          obtain ⟨qv, hqv⟩ : ∃ qv, qv = q x y := ⟨_, rfl⟩
          have hcl := HC.out x y wr hlt hlty HR2.out.2
          rw [← hqv] at hcl
          have HCL := Lib.hid hcl
          have HQ := Lib.hid hqv
          clear hcl hqv
          go_wp2_with fail
          refine HCL.out.mono ?_
          rintro e w2 ⟨rfl, hb2⟩
          have R2 := Lib.hid (show _ ∧ _ from ⟨below_owns HR2.out.1 hb2, HR2.out.2.trans (hb2.mono HR2.out.2.size)⟩)
          have c2 := R2.out.1.cellAt (x * h + h + y) (by have := T.out; omega)
          rw [intsOf_get _ _ _ T.out.2] at c2
          have f2 := R2.out.1.frozenAt (x * h + h + y)
          obtain ⟨z2, hz2⟩ : ∃ z2, z2 = befN q h (x * h + h + y) (x * h + h + y) := ⟨_, rfl⟩
          rw [← hz2] at c2
          have FIN := Lib.hid (fun (v : Int) (hv : v = (bef q y (x + 1) : Int)) => show ((w2.setCell ⟨W0.heap.size, x * h + h + y, none⟩ (.int .i64 v)).ownsRow W0.heap.size 3 1 (.slice (some ⟨W0.heap.size, 0, none⟩) M M) M (intsOf (befN q h (x * h + h + (y + 1))) M)) from by
            have h1 := (R2.out.1.stored (x * h + h + y) (.int .i64 v)).1
            obtain ⟨d3, d4⟩ := idx_mod (x := x + 1) hlty
            rw [Nat.add_mul, Nat.one_mul] at d3 d4
            rw [intsOf_set (g := befN q h (x * h + h + (y + 1))) T.out.2 (by unfold befN; rw [if_pos (by omega), d3, d4]; exact hv.symm) (fun i _ hne => by
              unfold befN
              by_cases h2 : i < x * h + h + y
              · rw [if_pos (by omega), if_pos h2]
              · rw [if_neg (by omega), if_neg h2])] at h1
            exact h1)
          clear hz2 hb2 c1 l1
          cases qv
          · go_wp2_with fail
            go_roundw
            case rel => exact ⟨y + 1, by omega, by go_num, Lib.hid ⟨FIN.out _ (by rw [HNX.out, ← HQ.out]; simp), R2.out.2.setCell (Nat.le_refl _) _⟩⟩
            case measure => simp [intOf]; omega
          · go_wp2_with fail
            go_roundw
            case rel => exact ⟨y + 1, by omega, by go_num, Lib.hid ⟨FIN.out _ (by rw [HNX.out, ← HQ.out]; simp), R2.out.2.setCell (Nat.le_refl _) _⟩⟩
            case measure => simp [intOf]; omega
        · have hye : y = h := by omega
          subst hye
          go_wp2_with fail
          go_roundw
          case rel => exact ⟨x + 1, by omega, by go_num, by rw [show (x + 1) * y + y = x * y + y + y by rw [Nat.add_mul, Nat.one_mul]]; exact HR2⟩
          case measure => simp [intOf]; omega
    · have hxe : x = w := by omega
      subst hxe
      go_wp2_with fail
      go_ret
      refine ⟨_, rfl, Nat.le_refl _, fun X Y hX hY => ?_, HR.out.2⟩
      have hMw : M = x * h + h := by rw [HM.out, Nat.add_mul, Nat.one_mul]
      have hfit := row_fits (show X < x + 1 by omega) (show Y + 1 ≤ h by omega)
      rw [Nat.mul_comm h, ← HM.out] at hfit
      have c1 := HR.out.1.cellAt (X * h + Y) (by omega)
      obtain ⟨d1, d2⟩ := idx_mod (x := X) hY
      rw [intsOf_get _ _ _ (by omega)] at c1
      unfold befN at c1
      rw [if_pos (by omega), d1, d2] at c1
      exact c1

end Go.Proofs.Ytofcojcfcpfdmaa
namespace Go.Proofs.Ytofcojcfcpfdmaa
open Go.RowKit
set_option linter.unusedSimpArgs false
set_option linter.unusedVariables false

/-- Two blocks of a world may have changed, and no other. -/
structure Kept (cb nb : Nat) (w w' : World) : Prop where
  os : w'.os = w.os
  tape : w'.tape = w.tape
  output : w'.output = w.output
  size : w'.heap.size = w.heap.size
  block : ∀ b, b ≠ cb → b ≠ nb → w'.heap[b]? = w.heap[b]?
theorem Kept.refl (cb nb : Nat) (w : World) : Kept cb nb w w := ⟨rfl, rfl, rfl, rfl, fun _ _ _ => rfl⟩
theorem Kept.trans {cb nb : Nat} {w a b : World} (h : Kept cb nb w a) (k : Kept cb nb a b) : Kept cb nb w b :=
  ⟨k.os.trans h.os, k.tape.trans h.tape, k.output.trans h.output, k.size.trans h.size, fun i h1 h2 => (k.block i h1 h2).trans (h.block i h1 h2)⟩
theorem setCell_else (w : World) (a : Addr) (v : Value) (b : Nat) (h : b ≠ a.block) : (w.setCell a v).heap[b]? = w.heap[b]? := by
  unfold World.setCell
  split <;> simp [Array.getElem?_modify, Ne.symm h]
theorem Kept.set {cb nb : Nat} {w a : World} (h : Kept cb nb w a) (p : Addr) (hp : p.block = cb ∨ p.block = nb) (v : Value) : Kept cb nb w (a.setCell p v) := by
  have hb : Below 0 a (a.setCell p v) := (Below.refl _ _).setCell (Nat.zero_le _) _
  refine ⟨hb.os.trans h.os, hb.tape.trans h.tape, hb.output.trans h.output, ?_, fun b h1 h2 => ?_⟩
  · rw [World.size_setCell]; exact h.size
  · rw [setCell_else _ _ _ _ (by rcases hp with e | e <;> rw [e] <;> assumption)]
    exact h.block b h1 h2
theorem Kept.cell {cb nb : Nat} {w a : World} (h : Kept cb nb w a) {b o : Nat} (hb : b ≠ cb ∧ b ≠ nb) {v : Value} (hc : w.cell? ⟨b, o, none⟩ = some v) : a.cell? ⟨b, o, none⟩ = some v := by
  rw [← hc]; simp only [World.cell?, h.block b hb.1 hb.2]
theorem Kept.below {cb nb B : Nat} {w a : World} (h : Kept cb nb w a) (h1 : B ≤ cb) (h2 : B ≤ nb) : Below B w a :=
  ⟨h.os, h.tape, h.output, Nat.le_of_eq h.size.symm, fun k hk => h.block k (by omega) (by omega)⟩

/-- The counts of the values, and of all. -/
def CountSt (cb nb : Nat) (S : Nat → Int) (n : Int) (w : World) : Prop :=
  (∃ arr t, w.heap[cb]? = some (.cells arr t (0, 0)) ∧ t ≠ 5 ∧ arr.size = 256 ∧ ∀ u, u < 256 → arr[u]? = some (.int .i64 (S u))) ∧ w.heap[nb]? = some (.cells #[.int .i64 n] 3 (0, 0))

theorem heap_set {w : World} {b o : Nat} {arr : Array Value} {t : TypeId} {fr : Nat × Nat} {v : Value} (h : w.heap[b]? = some (.cells arr t fr)) : (w.setCell ⟨b, o, none⟩ v).heap[b]? = some (.cells (arr.setIfInBounds o v) t fr) := by
  simp [World.setCell, Array.getElem?_modify, h]

theorem CountSt.get {cb nb u : Nat} {S : Nat → Int} {n : Int} {w : World} (h : CountSt cb nb S n w) (hu : u < 256) : w.cell? ⟨cb, u, none⟩ = some (.int .i64 (S u)) ∧ w.frozen? ⟨cb, u, none⟩ = false := by
  obtain ⟨⟨arr, t, h1, h2, h3, h4⟩, _⟩ := h
  exact ⟨by simp [World.cell?, h1, h4 u hu], by simp [World.frozen?, h1]⟩
theorem CountSt.congr {cb nb : Nat} {S S' : Nat → Int} {n : Int} {w : World} (h : CountSt cb nb S n w) (hS : ∀ u, u < 256 → S u = S' u) : CountSt cb nb S' n w := by
  obtain ⟨⟨arr, t, h1, h2, h3, h4⟩, h5⟩ := h
  exact ⟨⟨arr, t, h1, h2, h3, fun u hu => by rw [← hS u hu]; exact h4 u hu⟩, h5⟩

end Go.Proofs.Ytofcojcfcpfdmaa
namespace Go.Proofs.Ytofcojcfcpfdmaa
open Go.RowKit
set_option linter.unusedSimpArgs false
set_option linter.unusedVariables false

/-- What stays while a row is made. -/
structure MidFr (gb tb db base : Nat) (w : World) (og ot od : Obj) (wr : World) : Prop where
  g : wr.heap[gb]? = some og
  t : wr.heap[tb]? = some ot
  d : wr.heap[db]? = some od
  b : Below base w wr
theorem MidFr.kept {gb tb db base cb nb : Nat} {w wr w' : World} {og ot od : Obj} (h : MidFr gb tb db base w og ot od wr) (k : Kept cb nb wr w') (hg : gb ≠ cb ∧ gb ≠ nb) (ht : tb ≠ cb ∧ tb ≠ nb) (hd : db ≠ cb ∧ db ≠ nb) (h1 : base ≤ cb) (h2 : base ≤ nb) : MidFr gb tb db base w og ot od w' :=
  ⟨(k.block _ hg.1 hg.2).trans h.g, (k.block _ ht.1 ht.2).trans h.t, (k.block _ hd.1 hd.2).trans h.d, h.b.trans (k.below h1 h2)⟩
theorem MidFr.grown {gb tb db base : Nat} {w wr w' : World} {og ot od : Obj} {row : Option Nat} (h : MidFr gb tb db base w og ot od wr) (k : wr.grownBy w' row) (hg : row ≠ some gb) (ht : row ≠ some tb) (hd : row ≠ some db) (hb : base ≤ wr.heap.size) (hr : ∀ i, row = some i → base ≤ i) : MidFr gb tb db base w og ot od w' :=
  ⟨grown_block k h.g (Ne.symm hg), grown_block k h.t (Ne.symm ht), grown_block k h.d (Ne.symm hd), h.b.grown k hb hr⟩
theorem CountSt.grown {cb nb : Nat} {S : Nat → Int} {n : Int} {w w' : World} {row : Option Nat} (h : CountSt cb nb S n w) (k : w.grownBy w' row) (h1 : row ≠ some cb) (h2 : row ≠ some nb) : CountSt cb nb S n w' := by
  obtain ⟨⟨arr, t, g1, g2, g3, g4⟩, g5⟩ := h
  exact ⟨⟨arr, t, grown_block k g1 (Ne.symm h1), g2, g3, g4⟩, grown_block k g5 (Ne.symm h2)⟩
end Go.Proofs.Ytofcojcfcpfdmaa
namespace Go.Proofs.Ytofcojcfcpfdmaa
open Go.RowKit
set_option linter.unusedSimpArgs false
set_option linter.unusedVariables false

/-- What is counted when n rows of a band are added. -/
def bandC (C L R : Nat → Int) (first : Int) (n j : Nat) : Int := C j + if 0 ≤ (j : Int) - first ∧ (j : Int) - first < (n : Int) then R ((j : Int) - first).toNat - L ((j : Int) - first).toNat else 0

theorem bandC_zero (C L R : Nat → Int) (first : Int) (j : Nat) : bandC C L R first 0 j = C j := by
  unfold bandC; rw [if_neg (by omega), Int.add_zero]
theorem bandC_other {C L R : Nat → Int} {first : Int} {n j : Nat} (h : (j : Int) ≠ first + n) : bandC C L R first (n + 1) j = bandC C L R first n j := by
  unfold bandC
  by_cases h1 : 0 ≤ (j : Int) - first ∧ (j : Int) - first < (n : Int)
  · rw [if_pos (by omega), if_pos h1]
  · rw [if_neg (by omega), if_neg h1]
theorem bandC_here {C L R : Nat → Int} {first : Int} {n j : Nat} (h : (j : Int) = first + n) : bandC C L R first n j = C j ∧ bandC C L R first (n + 1) j = C j + (R n - L n) := by
  unfold bandC
  have e : ((j : Int) - first).toNat = n := by omega
  rw [if_neg (by omega), if_pos (by omega), e]
  simp

theorem Kept.drew {cb nb : Nat} {w a : World} (h : Kept cb nb w a) : Kept cb nb w a.drew := ⟨h.os, h.tape, h.output, h.size, h.block⟩
theorem kept_set {g : Nat} {w a : World} (h : Kept g g w a) (o : Nat) (v : Value) : Kept g g w (a.setCell ⟨g, o, none⟩ v) := h.set _ (.inl rfl) _

set_option maxHeartbeats 1000000 in
set_option maxRecDepth 100000 in
theorem addBand_any (m h g ab lo ro lc rc cc base : Nat) (first : Int) (C L R : Nat → Int) (w : World) (hm : m ≤ 8000) (hh : h ≤ 4000) (hf : -5000 ≤ first ∧ first ≤ 10000) (hne : ab ≠ g)
    (hC : ∀ j, -1000000 ≤ C j ∧ C j ≤ 1000000) (hL : ∀ j, 0 ≤ L j ∧ L j ≤ 4000) (hR : ∀ j, 0 ≤ R j ∧ R j ≤ 4000)
    (hown : w.ownsRow base 3 1 (.slice (some ⟨g, 0, none⟩) m cc) m (intsOf C m)) (hl : ∀ y, y < h → w.cell? ⟨ab, lo + y, none⟩ = some (.int .i64 (L y))) (hr : ∀ y, y < h → w.cell? ⟨ab, ro + y, none⟩ = some (.int .i64 (R y))) :
    Calls Try.prog 149 #[.slice (some ⟨g, 0, none⟩) m cc, .slice (some ⟨ab, lo, none⟩) h lc, .slice (some ⟨ab, ro, none⟩) h rc, .int .i64 first] w fun e w' =>
      e = .returned (.tuple #[]) ∧ w'.ownsRow base 3 1 (.slice (some ⟨g, 0, none⟩) m cc) m (intsOf (bandC C L R first h) m) ∧ Kept g g w w' := by
  have HC := Lib.hid hC
  have HL := Lib.hid hL
  have HR := Lib.hid hR
  have HO := Lib.hid hown
  have Hl := Lib.hid hl
  have Hr := Lib.hid hr
  have NE := Lib.hid hne
  clear hC hL hR hown hl hr hne
  obtain ⟨f1, f2⟩ := hf
  go_enter Try.func149, Try.ntmps149
  go_wp2_with fail
  go_loopw [13] (fun i wr => ∃ y : Nat, y ≤ h ∧ i = .int .i64 y ∧ Hid (wr.ownsRow base 3 1 (.slice (some ⟨g, 0, none⟩) m cc) m (intsOf (bandC C L R first y) m) ∧ Kept g g w wr)) (fun i _ => h - (intOf i).toNat)
  case atStart => exact ⟨0, Nat.zero_le _, rfl, Lib.hid ⟨by rw [intsOf_congr (g := C) (fun j _ => bandC_zero C L R first j)]; exact HO.out, Kept.refl _ _ _⟩⟩
  case round =>
    obtain ⟨y, hy, rfl, HX⟩ := hrel
    by_cases hlt : y < h
    · have k1 := HX.out.2.cell ⟨NE.out, NE.out⟩ (Hl.out y hlt)
      have k2 := HX.out.2.cell ⟨NE.out, NE.out⟩ (Hr.out y hlt)
      obtain ⟨l, hl⟩ : ∃ l, l = L y := ⟨_, rfl⟩
      obtain ⟨r, hr⟩ : ∃ r, r = R y := ⟨_, rfl⟩
      have bl := HL.out y
      have br := HR.out y
      rw [← hl] at k1 bl
      rw [← hr] at k2 br
      obtain ⟨bl1, bl2⟩ := bl
      obtain ⟨br1, br2⟩ := br
      have i1 : (y : Int) < (h : Int) := by omega
      by_cases hin : 0 ≤ first + (y : Int) ∧ first + (y : Int) < (m : Int)
      · obtain ⟨J, hJ⟩ : ∃ J : Nat, (J : Int) = first + (y : Int) := ⟨(first + (y : Int)).toNat, by omega⟩
        obtain ⟨e1, e2⟩ := bandC_here (C := C) (L := L) (R := R) hJ
        have hJm : J < m := by omega
        have c1 := HX.out.1.cellAt J (by omega)
        rw [intsOf_get _ _ _ hJm, e1] at c1
        have f1 := HX.out.1.frozenAt J
        have bC := HC.out J
        obtain ⟨cv, hcv⟩ : ∃ cv, cv = C J := ⟨_, rfl⟩
        rw [← hcv] at c1 bC
        obtain ⟨bc1, bc2⟩ := bC
        have hJ' : first + (y : Int) = (J : Int) := hJ.symm
        have hJm' : (J : Int) < (m : Int) := by omega
        have FIN := Lib.hid (show ((wr.setCell ⟨g, J, none⟩ (.int .i64 (cv + (r - l)))).ownsRow base 3 1 (.slice (some ⟨g, 0, none⟩) m cc) m (intsOf (bandC C L R first (y + 1)) m)) from by
          have h1 := (HX.out.1.stored J (.int .i64 (cv + (r - l)))).1
          rw [intsOf_set (g := bandC C L R first (y + 1)) hJm (by rw [e2, ← hcv, ← hl, ← hr]) (fun i _ hne => bandC_other (by omega))] at h1
          exact h1)
        clear hl hr e1 e2 hcv hJ hin
        go_wp2_with fail
        go_region
        all_goals
          go_wp2_with fail
          go_roundw
          case rel => exact ⟨y + 1, by omega, by go_num, Lib.hid ⟨below_owns FIN.out (Below.refl _ _).drew, (kept_set HX.out.2 _ _).drew⟩⟩
          case measure => simp [intOf]; omega
      · have FIN := Lib.hid (show wr.ownsRow base 3 1 (.slice (some ⟨g, 0, none⟩) m cc) m (intsOf (bandC C L R first (y + 1)) m) from by
          rw [intsOf_congr (g := bandC C L R first y) (fun j hj => bandC_other (by omega))]; exact HX.out.1)
        clear hl hr
        by_cases h0 : 0 ≤ first + (y : Int)
        · have h1 : ¬ first + (y : Int) < (m : Int) := fun k => hin ⟨h0, k⟩
          clear hin
          go_wp2_with fail
          go_roundw
          case rel => exact ⟨y + 1, by omega, by go_num, Lib.hid ⟨FIN.out, HX.out.2⟩⟩
          case measure => simp [intOf]; omega
        · clear hin
          go_wp2_with fail
          go_roundw
          case rel => exact ⟨y + 1, by omega, by go_num, Lib.hid ⟨FIN.out, HX.out.2⟩⟩
          case measure => simp [intOf]; omega
    · have hye : y = h := by omega
      subst hye
      go_wp2_with fail
      go_end0
      exact ⟨rfl, HX.out.1, HX.out.2⟩

end Go.Proofs.Ytofcojcfcpfdmaa
namespace Go.Proofs.Ytofcojcfcpfdmaa
open Go.RowKit
set_option linter.unusedSimpArgs false
set_option linter.unusedVariables false

/-- Columns that go equally far. -/
def Band (s : Nat → Int) (L f t : Nat) : Prop := (t ≤ L ∧ f < t ∧ ∀ k, f ≤ k → k < t → s k = s f) ∨ (t = L + 1 ∧ f = L)

set_option maxHeartbeats 1000000 in
set_option maxRecDepth 100000 in
theorem eachBand_any (L sg sc clo : Nat) (capt : Array Value) (s : Nat → Int) (I : Nat → World → Prop) (W0 : World) (hL : 1 ≤ L ∧ L ≤ 4000)
    (eg : ∀ (args : Array Value) (W : World), (callFunc clo args).run Try.prog W = .ok (.enter clo args) W)
    (hI : ∀ f wr, I f wr → ∀ k, k < L → wr.cell? ⟨sg, k, none⟩ = some (.int .i64 (s k))) (hD : ∀ f wr, I f wr → ∀ n, I f (wr.drewN n)) (h0 : I 0 W0)
    (hc : ∀ f t wr, f < t → t ≤ L → (∀ k, f ≤ k → k < t → s k = s f) → I f wr → Calls Try.prog clo (#[.int .i64 f, .int .i64 t, .int .i64 (s f)] ++ capt) wr fun e w' => e = .returned (.tuple #[]) ∧ I t w') :
    Calls Try.prog 147 #[.slice (some ⟨sg, 0, none⟩) L sc, .func (.func clo) #[] capt] W0 fun e w' => e = .returned (.tuple #[]) ∧ I L w' := by
  have HC := Lib.hid hc
  have HI := Lib.hid hI
  have HD := Lib.hid hD
  have H0 := Lib.hid h0
  clear hc hI hD h0
  obtain ⟨L1, L2⟩ := hL
  go_enter Try.func147, Try.ntmps147
  go_wp2_with fail
  go_loopw [4, 5] (fun a b wr => ∃ f t : Nat, Hid (Band s L f t) ∧ t ≤ L + 1 ∧ f ≤ L ∧ a = .int .i64 f ∧ b = .int .i64 t ∧ Hid (I f wr)) (fun _ b _ => L + 2 - (intOf b).toNat)
  case atStart => exact ⟨0, 1, Lib.hid (.inl ⟨by omega, by omega, fun k h1 h2 => by rw [show k = 0 by omega]⟩), by omega, by omega, rfl, rfl, H0⟩
  case round =>
    obtain ⟨f, t, HB, ht1, hfL, rfl, rfl, HX⟩ := hrel
    clear H0
    by_cases htL : t ≤ L
    · obtain ⟨_, hft, heq⟩ : t ≤ L ∧ f < t ∧ ∀ k, f ≤ k → k < t → s k = s f := by
        rcases HB.out with h | h
        · exact h
        · omega
      have EQ := Lib.hid heq
      have hf1 : f < L := by omega
      have cf := HI.out f wr HX.out f hf1
      clear heq HB
      have i1 : (f : Int) < (L : Int) := by omega
      by_cases hte : t = L
      · have b1 : ((t : Int) == (L : Int)) = true := by simp; omega
        have HTE := Lib.hid hte
        clear hte
        go_wp2_with fail
        go_quiet (fail)
        go_wp2_with fail
        refine (HC.out f t _ hft htL EQ.out (HD.out f wr HX.out _)).mono ?_
        rintro e w2 ⟨rfl, hi2⟩
        have HI2 := Lib.hid hi2
        clear hi2
        go_wp2_with fail
        go_roundw
        case rel => exact ⟨t, t + 1, Lib.hid (.inr ⟨by have := HTE.out; omega, HTE.out⟩), by omega, by omega, rfl, by go_num, HI2⟩
        case measure => simp [intOf]; omega
      · have b1 : ((t : Int) == (L : Int)) = false := by simp; omega
        have ht2 : t < L := by omega
        have ct := HI.out f wr HX.out t ht2
        have i2 : (t : Int) < (L : Int) := by omega
        by_cases hs : s t = s f
        · have b2 : (s t != s f) = false := by simp [hs]
          have HSE := Lib.hid hs
          clear hs
          go_wp2_with fail
          go_quiet (fail)
          go_wp2_with fail
          go_roundw
          case rel =>
            refine ⟨f, t + 1, Lib.hid (.inl ⟨by omega, by omega, fun k h1 h2 => ?_⟩), by omega, by omega, rfl, by go_num, Lib.hid (HD.out f wr HX.out _)⟩
            by_cases e : k = t
            · rw [e]; exact HSE.out
            · exact EQ.out k h1 (by omega)
          case measure => simp [intOf]; omega
        · have b2 : (s t != s f) = true := by simp [hs]
          have HSE := Lib.hid hs
          clear hs
          go_wp2_with fail
          go_quiet (fail)
          go_wp2_with fail
          refine (HC.out f t _ hft htL EQ.out (HD.out f wr HX.out _)).mono ?_
          rintro e w2 ⟨rfl, hi2⟩
          have HI2 := Lib.hid hi2
          clear hi2
          go_wp2_with fail
          go_roundw
          case rel => exact ⟨t, t + 1, Lib.hid (.inl ⟨by omega, by omega, fun k h1 h2 => by rw [show k = t by omega]⟩), by omega, by omega, rfl, by go_num, HI2⟩
          case measure => simp [intOf]; omega
    · have hfe : f = L := by
        rcases HB.out with h | h
        · omega
        · exact h.2
      have hte : t = L + 1 := by omega
      subst hfe
      subst hte
      go_wp2_with fail
      go_end0
      exact ⟨rfl, HX.out⟩

end Go.Proofs.Ytofcojcfcpfdmaa
namespace Go.Proofs.Ytofcojcfcpfdmaa
open Go.RowKit
set_option linter.unusedSimpArgs false
set_option linter.unusedVariables false

/-- The ink of a column at a row, which may lie beyond the page. -/
def hitC (q : Nat → Nat → Bool) (h : Nat) (k : Int) (x : Nat) : Nat := if 0 ≤ k ∧ k < (h : Int) then (q x k.toNat).toNat else 0
/-- How much ink of the first m columns a row has when each goes down. -/
def profUp (q : Nat → Nat → Bool) (h : Nat) (s : Nat → Int) (c : Int) (j : Nat) : Nat → Nat
  | 0 => 0
  | m + 1 => profUp q h s c j m + hitC q h ((j : Int) - (c + s m)) m

theorem hitC_le (q : Nat → Nat → Bool) (h : Nat) (k : Int) (x : Nat) : hitC q h k x ≤ 1 := by
  unfold hitC; split
  · cases q x k.toNat <;> simp
  · omega
theorem profUp_le (q : Nat → Nat → Bool) (h : Nat) (s : Nat → Int) (c : Int) (j m : Nat) : profUp q h s c j m ≤ m := by
  induction m with
  | zero => exact Nat.le_refl _
  | succ m ih => rw [profUp]; have := hitC_le q h ((j : Int) - (c + s m)) m; omega

theorem prof_band (q : Nat → Nat → Bool) (h : Nat) (s : Nat → Int) (c : Int) (f j : Nat) (t : Nat) (hft : f ≤ t) (hs : ∀ k, f ≤ k → k < t → s k = s f) :
    (profUp q h s c j t : Int) = bandC (fun j => (profUp q h s c j f : Int)) (fun y => (bef q y f : Int)) (fun y => (bef q y t : Int)) (c + s f) h j := by
  induction t with
  | zero =>
    obtain rfl : f = 0 := by omega
    unfold bandC; simp
  | succ t ih =>
    by_cases e : f = t + 1
    · subst e; unfold bandC; simp
    · have ih := ih (by omega) (fun k h1 h2 => hs k h1 (by omega))
      have e2 := hs t (by omega) (by omega)
      rw [profUp, e2, Int.natCast_add, ih]
      unfold bandC hitC
      by_cases hin : 0 ≤ (j : Int) - (c + s f) ∧ (j : Int) - (c + s f) < (h : Int)
      · rw [if_pos hin, if_pos hin, if_pos hin]
        simp only [bef]
        omega
      · rw [if_neg hin, if_neg hin, if_neg hin]; omega

set_option maxHeartbeats 400000 in
theorem column_any (x h w1 bb hb ab ac M : Nat) (w : World) (hx : x ≤ w1) (hw : w1 ≤ 4000) (hh : 1 ≤ h ∧ h ≤ 4000) (hM : M = (w1 + 1) * h) (hM2 : M ≤ 1100000) (h0 : w.cell? ⟨bb, 0, none⟩ = some (.slice (some ⟨ab, 0, none⟩) M M)) (h1 : w.cell? ⟨hb, 0, none⟩ = some (.int .i64 h)) :
    Calls Try.prog 145 #[.int .i64 x, .pointer (some ⟨bb, 0, none⟩), .pointer (some ⟨hb, 0, none⟩)] w fun e w' => e = .returned (.slice (some ⟨ab, x * h, none⟩) h (M - x * h)) ∧ w = w' := by
  have hfit := row_fits (show x < w1 + 1 by omega) (show h ≤ h from Nat.le_refl _)
  rw [Nat.mul_comm h, ← hM] at hfit
  obtain ⟨hh1, hh2⟩ := hh
  have x0 : (0 : Int) ≤ (x : Int) * (h : Int) := Int.mul_nonneg (by omega) (by omega)
  have x1 : (x : Int) * (h : Int) ≤ (M : Int) := by rw [← Int.natCast_mul]; omega
  have x2 : ((x : Int) + 1) * (h : Int) ≤ (M : Int) := by rw [Int.add_mul, Int.one_mul, ← Int.natCast_mul]; omega
  have x3 : (x : Int) * (h : Int) ≤ ((x : Int) + 1) * (h : Int) := by rw [Int.add_mul, Int.one_mul]; omega
  have x4 : (0 : Int) ≤ ((x : Int) + 1) * (h : Int) := by omega
  clear hM
  go_enter Try.func145, Try.ntmps145
  go_wp2_with fail
  go_ret
  exact ⟨by rw [show (x + 1) * h - x * h = h by rw [Nat.add_mul, Nat.one_mul]; omega]; rfl, rfl⟩

set_option maxHeartbeats 1000000 in
set_option maxRecDepth 100000 in
theorem band_any (w1 h f t kb cb hb bb ab ac M g m base : Nat) (q : Nat → Nat → Bool) (s : Nat → Int) (w : World) (hw : w1 ≤ 4000) (hh : 1 ≤ h ∧ h ≤ 4000) (hM : M = (w1 + 1) * h) (hM2 : M ≤ 1100000) (hm : m ≤ 8000) (hft : f < t) (ht : t ≤ w1) (hs : ∀ k, f ≤ k → k < t → s k = s f) (hsb : -1100 ≤ s f ∧ s f ≤ 1100)
    (hne : kb ≠ g ∧ cb ≠ g ∧ hb ≠ g ∧ bb ≠ g ∧ ab ≠ g)
    (h0 : w.cell? ⟨kb, 0, none⟩ = some (.slice (some ⟨g, 0, none⟩) m m)) (h1 : w.cell? ⟨cb, 0, none⟩ = some (.func (.func 145) #[] #[.pointer (some ⟨bb, 0, none⟩), .pointer (some ⟨hb, 0, none⟩)])) (h2 : w.cell? ⟨hb, 0, none⟩ = some (.int .i64 h))
    (h3 : w.cell? ⟨bb, 0, none⟩ = some (.slice (some ⟨ab, 0, none⟩) M M)) (hb4 : ∀ x y, x ≤ w1 → y < h → w.cell? ⟨ab, x * h + y, none⟩ = some (.int .i64 (bef q y x : Int)))
    (hown : w.ownsRow base 3 1 (.slice (some ⟨g, 0, none⟩) m m) m (intsOf (fun j => (profUp q h s ((h / 2 : Nat) : Int) j f : Int)) m)) :
    Calls Try.prog 148 #[.int .i64 f, .int .i64 t, .int .i64 (s f), .pointer (some ⟨kb, 0, none⟩), .pointer (some ⟨cb, 0, none⟩), .pointer (some ⟨hb, 0, none⟩)] w fun e w' =>
      e = .returned (.tuple #[]) ∧ w'.ownsRow base 3 1 (.slice (some ⟨g, 0, none⟩) m m) m (intsOf (fun j => (profUp q h s ((h / 2 : Nat) : Int) j t : Int)) m) ∧ Kept g g w w' := by
  obtain ⟨d, hd⟩ : ∃ d, d = s f := ⟨_, rfl⟩
  obtain ⟨c, hc⟩ : ∃ c, c = h / 2 := ⟨_, rfl⟩
  have hpb := fun j => prof_band q h s (c : Int) f j t (by omega) hs
  rw [← hc] at hown ⊢
  rw [← hd] at hsb hpb ⊢
  obtain ⟨d1, d2⟩ := hsb
  have hc2 : c ≤ 2000 := by omega
  have e1 : IntKind.i64.wrap ((h : Int) / 2) = (c : Int) := by rw [IntWalk.i64_in _ (by omega)]; omega
  have e2 : IntKind.i64.wrap ((c : Int) + d) = (c : Int) + d := IntWalk.i64_in _ (by omega)
  have HAB := Lib.hid (addBand_any m h g ab (f * h) (t * h) (M - f * h) (M - t * h) m base ((c : Int) + d) (fun j => (profUp q h s (c : Int) j f : Int)) (fun y => (bef q y f : Int)) (fun y => (bef q y t : Int)) w.drew hm hh.2 (by omega) hne.2.2.2.2
    (fun j => by have := profUp_le q h s (c : Int) j f; omega) (fun y => by have := bef_le q y f; omega) (fun y => by have := bef_le q y t; omega) (below_owns hown (Below.refl _ _).drew) (fun y hy => hb4 f y (by omega) hy) (fun y hy => hb4 t y ht hy))
  have HPB := Lib.hid hpb
  have NE := Lib.hid hne
  have HM := Lib.hid hM
  clear hpb hb4 hown hs hc hd hne hM
  go_enter Try.func148, Try.ntmps148
  go_wp2_with fail
  go_region_held3 (fun w' => w'.cell? ⟨kb, 0, none⟩ = some (.slice (some ⟨g, 0, none⟩) m m) ∧ w'.cell? ⟨cb, 0, none⟩ = some (.func (.func 145) #[] #[.pointer (some ⟨bb, 0, none⟩), .pointer (some ⟨hb, 0, none⟩)]) ∧ w'.cell? ⟨hb, 0, none⟩ = some (.int .i64 h) ∧ w'.cell? ⟨bb, 0, none⟩ = some (.slice (some ⟨ab, 0, none⟩) M M))
    (first | (go_keep; done) | (go_split_ands; exact ⟨hk5.cell ⟨NE.out.1, NE.out.1⟩ (by assumption), hk5.cell ⟨NE.out.2.1, NE.out.2.1⟩ (by assumption), hk5.cell ⟨NE.out.2.2.1, NE.out.2.2.1⟩ (by assumption), hk5.cell ⟨NE.out.2.2.2.1, NE.out.2.2.2.1⟩ (by assumption)⟩))
    ((first | ((first | go_at_call 145 | go_at_fn 145); ((with_reducible refine (column_any f h w1 bb hb ab ac M _ (by omega) hw hh HM.out hM2 ?_ ?_).mono ?_); (go_split_ands; assumption); (go_split_ands; assumption); rintro e w' ⟨rfl, rfl⟩)) | ((first | go_at_call 145 | go_at_fn 145); ((with_reducible refine (column_any t h w1 bb hb ab ac M _ ht hw hh HM.out hM2 ?_ ?_).mono ?_); (go_split_ands; assumption); (go_split_ands; assumption); rintro e w' ⟨rfl, rfl⟩)) | (go_at_call 149; ((with_reducible refine HAB.out.mono ?_); rintro e w5 ⟨rfl, ho5, hk5⟩))))
  go_wp2_with fail
  go_end0
  exact ⟨rfl, by rw [intsOf_congr (fun j _ => HPB.out j)]; exact ho5, (Kept.refl g g w).drew.trans hk5⟩

end Go.Proofs.Ytofcojcfcpfdmaa
namespace Go.Proofs.Ytofcojcfcpfdmaa
open Go.RowKit
set_option linter.unusedSimpArgs false
set_option linter.unusedVariables false

/-- What a function for profiles holds on to. -/
structure Prof (w h : Nat) (q : Nat → Nat → Bool) (hb wb cb bb ab M : Nat) (wr : World) : Prop where
  h0 : wr.cell? ⟨hb, 0, none⟩ = some (.int .i64 h)
  w0 : wr.cell? ⟨wb, 0, none⟩ = some (.int .i64 w)
  c0 : wr.cell? ⟨cb, 0, none⟩ = some (.func (.func 145) #[] #[.pointer (some ⟨bb, 0, none⟩), .pointer (some ⟨hb, 0, none⟩)])
  b0 : wr.cell? ⟨bb, 0, none⟩ = some (.slice (some ⟨ab, 0, none⟩) M M)
  a0 : ∀ x y, x ≤ w → y < h → wr.cell? ⟨ab, x * h + y, none⟩ = some (.int .i64 (bef q y x : Int))
theorem Prof.later {w h : Nat} {q : Nat → Nat → Bool} {hb wb cb bb ab M : Nat} {wr wx : World} (p : Prof w h q hb wb cb bb ab M wr) (hbl : Below wr.heap.size wr wx) : Prof w h q hb wb cb bb ab M wx :=
  ⟨cell_later hbl p.h0, cell_later hbl p.w0, cell_later hbl p.c0, cell_later hbl p.b0, fun x y hx hy => cell_later hbl (p.a0 x y hx hy)⟩

/-- The profile of a page that leans by n. -/
def profV (q : Nat → Nat → Bool) (w h : Nat) (n : Int) (j : Nat) : Nat := profUp q h (fallV w n) ((h / 2 : Nat) : Int) j w

/-- What holds while bands are added. -/
structure Adding (q : Nat → Nat → Bool) (h m L g kb sg : Nat) (s : Nat → Int) (c : Int) (w : World) (f : Nat) (wx : World) : Prop where
  b : Below w.heap.size w wx
  o : wx.ownsRow w.heap.size 3 1 (.slice (some ⟨g, 0, none⟩) m m) m (intsOf (fun j => (profUp q h s c j f : Int)) m)
  k : wx.cell? ⟨kb, 0, none⟩ = some (.slice (some ⟨g, 0, none⟩) m m)
  s : ∀ k, k < L → wx.cell? ⟨sg, k, none⟩ = some (.int .i64 (s k))

set_option maxHeartbeats 1000000 in
set_option maxRecDepth 100000 in
theorem profile_any (W h hb wb cb bb ab M : Nat) (n : Int) (q : Nat → Nat → Bool) (w : World) (hW : 1 ≤ W ∧ W ≤ 4000) (hh : 1 ≤ h ∧ h ≤ 4000) (hN : W * h ≤ 1048576) (hM : M = (W + 1) * h) (hn : -256 ≤ n ∧ n ≤ 256) (hP : Prof W h q hb wb cb bb ab M w) :
    Calls Try.prog 146 #[.int .i64 n, .pointer (some ⟨hb, 0, none⟩), .pointer (some ⟨wb, 0, none⟩), .pointer (some ⟨cb, 0, none⟩)] w fun e w' =>
      ∃ v, e = .returned v ∧ w'.ownsRow w.heap.size 3 1 v (2 * h) (intsOf (fun j => (profV q W h n j : Int)) (2 * h)) ∧ Below w.heap.size w w' := by
  have hmf : ∀ (fn : Fn) (first cap : Array Value) (w : World), (Instr.makeFunc fn first cap).run Try.prog w = .ok (.func fn first cap) w := fun _ _ _ _ => rfl
  obtain ⟨i0, hi, hz0, hz1, hz2⟩ := info_parts info_int
  have hM2 : M ≤ 1100000 := by rw [hM, Nat.add_mul, Nat.one_mul]; omega
  obtain ⟨m, hm⟩ : ∃ m, m = 2 * h := ⟨_, rfl⟩
  have hm2 : 2 * (h : Int) = (m : Int) := by omega
  have hm3 : m ≤ 8000 := by omega
  rw [← hm]
  have HM := Lib.hid hM
  have HHm := Lib.hid hm
  have HP := Lib.hid hP
  have q0 := hP.h0
  have l0 := World.block_lt_of_cell? _ _ q0
  have q1 := hP.w0
  have LT := Lib.hid (show hb < w.heap.size ∧ wb < w.heap.size ∧ cb < w.heap.size ∧ bb < w.heap.size ∧ ab < w.heap.size from ⟨World.block_lt_of_cell? _ _ hP.h0, World.block_lt_of_cell? _ _ hP.w0, World.block_lt_of_cell? _ _ hP.c0, World.block_lt_of_cell? _ _ hP.b0, World.block_lt_of_cell? _ _ (hP.a0 0 0 (by omega) (by omega))⟩)
  simp only at l0
  clear hM hm hP
  go_enter Try.func146, Try.ntmps146
  go_wp2_with (at_make; refine wpList_make_full _ rfl _ _ 52 rfl w.heap.size 3 i0 (.int .i64 0) 1 Try.underlying52 hi hz0 hz1 _ _ _ _ m rfl rfl rfl rfl (by rw [hz2]; omega) (by unfold maxLen; omega) (by simp) ?_)
  intro w1 hown1 hgrow1
  rw [toList_madeCells_one, intsOf_zero] at hown1
  have hb1 := (Below.refl w.heap.size _).grown hgrow1 (by simp) (by simp)
  have O1 := Lib.hid hown1
  have HB1 := Lib.hid hb1
  have hl1 : w.heap.size < w1.heap.size := by have := hown1.lt w.heap.size rfl; exact this.2
  clear hgrow1 hown1 q0 q1 hb1
  have k1 := cell_later HB1.out HP.out.w0
  go_upto_region 2 with (fail)
  obtain ⟨w2, hw2⟩ : ∃ w2, w2 = w1.alloc (.cells #[.slice (some ⟨w.heap.size, 0, none⟩) m m] 52) := ⟨_, rfl⟩
  have B2 : Below w1.heap.size w1 w2 := by rw [hw2]; exact new_below _ _
  have kc : w2.cell? ⟨w1.heap.size, 0, none⟩ = some (.slice (some ⟨w.heap.size, 0, none⟩) m m) := by rw [hw2]; go_simp
  rw [← hw2]
  clear hw2
  have KC := Lib.hid kc
  have HB2 := Lib.hid (below_step HB1.out B2)
  have O2 := Lib.hid (below_owns O1.out B2)
  have k2 := cell_later B2 k1
  clear B2 kc O1 k1
  go_wp2_with fail
  refine (shifts_any W n w2 hW hn).mono ?_
  rintro e w3 ⟨v, rfl, hown3, hb3⟩
  obtain ⟨sg, sc, rfl⟩ : ∃ sg sc, v = .slice (some ⟨sg, 0, none⟩) W sc := by
    rcases hown3.2 with ⟨_, h0⟩ | ⟨sg, cap, cur, h0, _⟩
    · omega
    · exact ⟨_, _, h0⟩
  have hsg := (hown3.lt sg rfl).1
  have hl2 := World.block_lt_of_cell? _ _ KC.out
  have hl2' := HB2.out.size
  simp only at hl2
  have S3 : ∀ k, k < W → w3.cell? ⟨sg, k, none⟩ = some (.int .i64 (fallV W n k)) := fun k hk => by
    have := hown3.cellAt k (by omega)
    rw [intsOf_get _ _ _ hk] at this; exact this
  have A3 := Lib.hid (show Adding q h m W w.heap.size w1.heap.size sg (fallV W n) ((h / 2 : Nat) : Int) w 0 w3 from
    ⟨below_step HB2.out hb3, by rw [intsOf_congr (g := fun _ => 0) (fun j _ => by simp [profUp])]; exact below_owns O2.out hb3, cell_later hb3 KC.out, S3⟩)
  have HSG := Lib.hid (show sg ≠ w.heap.size by omega)
  have HKG := Lib.hid (show w1.heap.size ≠ w.heap.size by omega)
  clear S3 hown3 hb3 hsg hl2 hl2' k2 O2 KC
  go_wp2_with fail
  refine (eachBand_any W sg sc 148 _ (fallV W n) (Adding q h m W w.heap.size w1.heap.size sg (fallV W n) ((h / 2 : Nat) : Int) w) w3 hW (Go.Proofs.enters_of Try.func148 (by kernel_rfl) rfl) (fun f wr hA => hA.s) (fun f wr hA k => ⟨below_drewN hA.b k, below_owns hA.o (below_drewN (Below.refl _ _) k), hA.k, hA.s⟩) A3.out ?_).mono ?_
  · intro f t wr hft ht hs hA
    have hP := HP.out.later hA.b
    have lt := LT.out
    refine (band_any W h f t w1.heap.size cb hb bb ab 0 M w.heap.size m w.heap.size q (fallV W n) wr hW.2 hh HM.out hM2 hm3 hft ht hs (fallV_bounds hW.2 hn (by omega)) ⟨HKG.out, by omega, by omega, by omega, by omega⟩ hA.k hP.c0 hP.h0 hP.b0 hP.a0 hA.o).mono ?_
    rintro e w' ⟨rfl, ho, hk⟩
    exact ⟨rfl, hA.b.trans (hk.below (Nat.le_refl _) (Nat.le_refl _)), ho, hk.cell ⟨HKG.out, HKG.out⟩ hA.k, fun k hk' => hk.cell ⟨HSG.out, HSG.out⟩ (hA.s k hk')⟩
  · rintro e w4 ⟨rfl, hA⟩
    have k4 := hA.k
    have O4 := Lib.hid hA.o
    have B4 := Lib.hid hA.b
    clear hA
    go_wp2_with fail
    go_ret
    exact ⟨_, rfl, O4.out, B4.out⟩

end Go.Proofs.Ytofcojcfcpfdmaa
namespace Go.Proofs.Ytofcojcfcpfdmaa
open Go.RowKit
set_option linter.unusedSimpArgs false
set_option linter.unusedVariables false

set_option maxHeartbeats 800000 in
set_option maxRecDepth 100000 in
theorem profiles_any (w h clo : Nat) (capt : Array Value) (q : Nat → Nat → Bool) (W0 : World) (hw : 1 ≤ w ∧ w ≤ 4000) (hh : 1 ≤ h ∧ h ≤ 4000) (hN : w * h ≤ 1048576)
    (eg : ∀ (args : Array Value) (W : World), (callFunc clo args).run Try.prog W = .ok (.enter clo args) W)
    (hc : ∀ (x y : Nat) (wx : World), x < w → y < h → Below W0.heap.size W0 wx → Calls Try.prog clo (#[.int .i64 x, .int .i64 y] ++ capt) wx fun e W' => e = .returned (.bool (q x y)) ∧ Below wx.heap.size wx W') :
    Calls Try.prog 118 #[.int .i64 w, .int .i64 h, .func (.func clo) #[] capt] W0 fun e w' =>
      ∃ hb wb cb bb ab, e = .returned (.func (.func 146) #[] #[.pointer (some ⟨hb, 0, none⟩), .pointer (some ⟨wb, 0, none⟩), .pointer (some ⟨cb, 0, none⟩)]) ∧ Prof w h q hb wb cb bb ab ((w + 1) * h) w' ∧ Below W0.heap.size W0 w' := by
  have hmf : ∀ (fn : Fn) (first cap : Array Value) (w : World), (Instr.makeFunc fn first cap).run Try.prog w = .ok (.func fn first cap) w := fun _ _ _ _ => rfl
  have HC := Lib.hid hc
  clear hc
  go_enter Try.func118, Try.ntmps118
  go_wp2_with fail
  obtain ⟨w1, hw1⟩ : ∃ w1, w1 = (W0.alloc (.cells #[.int .i64 w] 3)).alloc (.cells #[.int .i64 h] 3) := ⟨_, rfl⟩
  have B1 : Below W0.heap.size W0 w1 := by rw [hw1]; exact below_alloc (new_below _ _) _
  have q0 : w1.cell? ⟨W0.heap.size, 0, none⟩ = some (.int .i64 w) := by rw [hw1]; go_simp
  have q1 : w1.cell? ⟨W0.heap.size + 1, 0, none⟩ = some (.int .i64 h) := by rw [hw1]; go_simp
  rw [← hw1]
  clear hw1
  refine (inkBefore_any w h clo capt q w1 hw hh hN eg (fun x y wx hx hy hb => HC.out x y wx hx hy (below_step B1 hb))).mono ?_
  rintro e w2 ⟨ab, rfl, hab, hcell, hb2⟩
  have k0 := cell_later hb2 q0
  have k1 := cell_later hb2 q1
  have B2 := Lib.hid (below_step B1 hb2)
  have HCE := Lib.hid hcell
  obtain ⟨M, hM⟩ : ∃ M, M = (w + 1) * h := ⟨_, rfl⟩
  rw [← hM]
  have HM := Lib.hid hM
  clear hcell hb2 q0 q1 hM
  go_upto_region 2 with (fail)
  obtain ⟨w3, hw3⟩ : ∃ w3, w3 = w2.alloc (.cells #[.slice (some ⟨ab, 0, none⟩) M M] 52) := ⟨_, rfl⟩
  have B3 : Below w2.heap.size w2 w3 := by rw [hw3]; exact new_below _ _
  have k2 : w3.cell? ⟨w2.heap.size, 0, none⟩ = some (.slice (some ⟨ab, 0, none⟩) M M) := by rw [hw3]; go_simp
  rw [← hw3]
  clear hw3
  have j0 := cell_later B3 k0
  have j1 := cell_later B3 k1
  have HB3 := Lib.hid B3
  clear B3 k0 k1
  go_upto_region 3 with (fail)
  obtain ⟨w4, hw4⟩ : ∃ w4, w4 = w3.alloc (.cells #[.func (.func 145) #[] #[.pointer (some ⟨w2.heap.size, 0, none⟩), .pointer (some ⟨W0.heap.size + 1, 0, none⟩)]] 105) := ⟨_, rfl⟩
  have B4 : Below w3.heap.size w3 w4 := by rw [hw4]; exact new_below _ _
  have k3 : w4.cell? ⟨w3.heap.size, 0, none⟩ = some (.func (.func 145) #[] #[.pointer (some ⟨w2.heap.size, 0, none⟩), .pointer (some ⟨W0.heap.size + 1, 0, none⟩)]) := by rw [hw4]; go_simp
  rw [← hw4]
  clear hw4
  have F := Lib.hid (show Prof w h q (W0.heap.size + 1) W0.heap.size w3.heap.size w2.heap.size ab M w4 from
    ⟨cell_later B4 j1, cell_later B4 j0, k3, cell_later B4 k2, fun x y hx hy => cell_later (below_step HB3.out B4) (HCE.out x y hx hy)⟩)
  have G := Lib.hid (below_step (below_step B2.out HB3.out) B4)
  clear B4 k3 j0 j1 k2
  go_wp2_with fail
  go_ret
  exact ⟨_, _, _, _, _, rfl, by have := F.out; rw [HM.out] at this; exact this, G.out⟩

theorem rowProfiles1_any (W H x y gb pb po c : Nat) (z : Nat → Bool) (w : World) (hW : W ≤ 4000) (hH : H ≤ 4000) (hx : x < W) (hy : y < H)
    (h0 : w.cell? ⟨gb, 0, none⟩ = some (.int .i64 W)) (h2 : w.cell? ⟨gb, 2, none⟩ = some (.slice (some ⟨pb, po, none⟩) (W * H) c)) (hp : w.cell? ⟨pb, po + (y * W + x), none⟩ = some (.bool (z (y * W + x)))) :
    Calls Try.prog 119 #[.int .i64 x, .int .i64 y, .pointer (some ⟨gb, 0, none⟩)] w fun e w' => e = .returned (.bool (z (y * W + x))) ∧ Below w.heap.size w w' := by
  have hfit := row_fits hy (show x + 1 ≤ W by omega)
  have hN := Nat.mul_le_mul hW hH
  have x0 : (0 : Int) ≤ (y : Int) * (W : Int) := Int.mul_nonneg (by omega) (by omega)
  have x1 : (y : Int) * (W : Int) + (x : Int) < ((W * H : Nat) : Int) := by rw [← Int.natCast_mul]; omega
  have x3 : (y : Int) * (W : Int) + (x : Int) < (W : Int) * (H : Int) := by rw [← Int.natCast_mul, ← Int.natCast_mul]; omega
  have x2 : ((W * H : Nat) : Int) ≤ 16000000 := by omega
  obtain ⟨p, hpe⟩ : ∃ p, p = z (y * W + x) := ⟨_, rfl⟩
  rw [← hpe] at hp ⊢
  clear hfit hN hpe
  go_enter Try.func119, Try.ntmps119
  go_wp2_with fail
  go_ret
  exact ⟨rfl, Below.refl _ _⟩

/-- The ink of a page by columns and rows. -/
def inkQ (z : Nat → Bool) (W x y : Nat) : Bool := z (y * W + x)

set_option maxHeartbeats 800000 in
theorem rowProfiles_any (W H g o c : Nat) (z : Nat → Bool) (w : World) (hW : 1 ≤ W ∧ W ≤ 4000) (hH : 1 ≤ H ∧ H ≤ 4000) (hN : W * H ≤ 1048576) (hp : ∀ j, j < W * H → w.cell? ⟨g, o + j, none⟩ = some (.bool (z j))) :
    Calls Try.prog 83 #[.agg #[.int .i64 W, .int .i64 H, .slice (some ⟨g, o, none⟩) (W * H) c]] w fun e w' =>
      ∃ hb wb cb bb ab, e = .returned (.func (.func 146) #[] #[.pointer (some ⟨hb, 0, none⟩), .pointer (some ⟨wb, 0, none⟩), .pointer (some ⟨cb, 0, none⟩)]) ∧ Prof W H (inkQ z W) hb wb cb bb ab ((W + 1) * H) w' ∧ Below w.heap.size w w' := by
  have hmf : ∀ (fn : Fn) (first cap : Array Value) (w : World), (Instr.makeFunc fn first cap).run Try.prog w = .ok (.func fn first cap) w := fun _ _ _ _ => rfl
  have HC := Lib.hid hp
  clear hp
  go_enter Try.func83, Try.ntmps83
  go_wp2_with fail
  obtain ⟨w1, hw1⟩ : ∃ w1, w1 = w.alloc (.cells #[.int .i64 W, .int .i64 H, .slice (some ⟨g, o, none⟩) (W * H) c] 40) := ⟨_, rfl⟩
  have B1 : Below w.heap.size w w1 := by rw [hw1]; exact new_below _ _
  have q0 : w1.cell? ⟨w.heap.size, 0, none⟩ = some (.int .i64 W) := by rw [hw1]; go_simp
  have q2 : w1.cell? ⟨w.heap.size, 2, none⟩ = some (.slice (some ⟨g, o, none⟩) (W * H) c) := by rw [hw1]; go_simp
  rw [← hw1]
  clear hw1
  refine (profiles_any W H 119 _ (inkQ z W) w1 hW hH hN (Go.Proofs.enters_of Try.func119 (by kernel_rfl) rfl) ?_).mono ?_
  · intro x y wx hx hy hbx
    have hfit := row_fits hy (show x + 1 ≤ W by omega)
    exact rowProfiles1_any W H x y w.heap.size g o c z wx hW.2 hH.2 hx hy (cell_later hbx q0) (cell_later hbx q2) (cell_later (below_step B1 hbx) (HC.out _ (by omega)))
  · rintro e w2 ⟨hb, wb, cb, bb, ab, rfl, hP, hb2⟩
    have F := Lib.hid hP
    have G := Lib.hid (below_step B1 hb2)
    clear hP hb2 q0 q2 B1
    go_wp2_with fail
    go_ret
    exact ⟨_, _, _, _, _, rfl, F.out, G.out⟩

/-- The sum of squares. -/
def sqSum (f : Nat → Nat) : Nat → Nat
  | 0 => 0
  | n + 1 => sqSum f n + f n * f n
theorem sqSum_le (f : Nat → Nat) (n : Nat) (hf : ∀ j, f j ≤ 4000) : sqSum f n ≤ n * 16000000 := by
  induction n with
  | zero => simp [sqSum]
  | succ n ih => rw [sqSum]; have := Nat.mul_le_mul (hf n) (hf n); omega
set_option maxHeartbeats 400000 in
theorem squares_any (n g o c : Nat) (f : Nat → Nat) (w : World) (hn : n ≤ 8000) (hf : ∀ j, f j ≤ 4000) (hc : ∀ j, j < n → w.cell? ⟨g, o + j, none⟩ = some (.int .i64 (f j : Int))) :
    Calls Try.prog 84 #[.slice (some ⟨g, o, none⟩) n c] w fun e w' => e = .returned (.int .i64 (sqSum f n : Int)) ∧ w = w' := by
  have HC := Lib.hid hc
  have HF := Lib.hid hf
  clear hc hf
  go_enter Try.func84, Try.ntmps84
  go_wp2_with fail
  go_loop [3, 8] (fun a i => ∃ j S : Nat, j ≤ n ∧ i = .int .i64 j ∧ a = .int .i64 S ∧ Hid (S = sqSum f j)) (fun _ i => n - (intOf i).toNat)
  case atStart => exact ⟨0, 0, Nat.zero_le _, rfl, rfl, Lib.hid rfl⟩
  case round =>
    obtain ⟨j, S, hj, rfl, rfl, HS⟩ := hrel
    by_cases hlt : j < n
    · have c1 := HC.out j hlt
      have hb := sqSum_le f j HF.out
      rw [← HS.out] at hb
      have hv := HF.out j
      obtain ⟨v, hve⟩ : ∃ v, v = f j := ⟨_, rfl⟩
      rw [← hve] at c1 hv
      have p2 := Nat.mul_le_mul hv hv
      have p0 : (0 : Int) ≤ (v : Int) * (v : Int) := Int.mul_nonneg (by omega) (by omega)
      have p1 : (v : Int) * (v : Int) ≤ 16000000 := by rw [← Int.natCast_mul]; omega
      have HV := Lib.hid hve
      have i1 : (j : Int) < (n : Int) := by omega
      have hS2 : S ≤ 128000000000 := by omega
      clear hve p2 hb
      go_wp2_with fail
      go_round
      case rel => exact ⟨j + 1, S + v * v, by omega, by go_num, by rw [Int.natCast_add, Int.natCast_mul], Lib.hid (by rw [sqSum, ← HS.out, ← HV.out])⟩
      case measure => simp [intOf]; omega
    · have hje : j = n := by omega
      subst hje
      go_wp2_with fail
      go_ret
      exact ⟨by rw [HS.out]; rfl, rfl⟩

end Go.Proofs.Ytofcojcfcpfdmaa
namespace Go.Proofs.Ytofcojcfcpfdmaa
open Go.RowKit
set_option linter.unusedSimpArgs false
set_option linter.unusedVariables false

set_option maxHeartbeats 800000 in
theorem profileS_ok (W H g o c : Nat) (n : Int) (z : Nat → Bool) (w : World) (hs : sizeErr W H = 0) (hn : -256 ≤ n ∧ n ≤ 256) (hp : ∀ j, j < W * H → w.cell? ⟨g, o + j, none⟩ = some (.bool (z j))) :
    Calls Try.prog 30 #[.agg #[.int .i64 W, .int .i64 H, .slice (some ⟨g, o, none⟩) (W * H) c], .int .i64 n] w fun e w' =>
      ∃ v, e = .returned (.tuple #[v, .int .i64 0]) ∧ w'.ownsRow w.heap.size 3 1 v (2 * H) (intsOf (fun j => (profV (inkQ z W) W H n j : Int)) (2 * H)) ∧ Below w.heap.size w w' := by
  obtain ⟨⟨a1, a2, a3, a4⟩, a5, a6⟩ := sizeErr_zero hs
  have hpe : pageErr W H (W * H) = 0 := by unfold pageErr; rw [if_pos hs, if_pos (by simp [Int.natCast_mul])]
  have hN : W * H ≤ 1048576 := by rw [← Int.natCast_mul] at a6; omega
  have hq : orI (pageErr W H (W * H)) (leanErr n (-256)) = 0 := by unfold orI leanErr; rw [if_pos hpe, if_pos hn]
  have HQ := Lib.hid hq
  have HC := Lib.hid hp
  have HN := Lib.hid hn
  have bW : 1 ≤ W ∧ W ≤ 4000 := by omega
  have bH : 1 ≤ H ∧ H ≤ 4000 := by omega
  clear hp hq hpe a5 a6 hs hn
  go_enter Try.func30, Try.ntmps30
  go_wp2_with fail
  obtain ⟨w1, hw1⟩ : ∃ w1, w1 = w.alloc (.cells #[.int .i64 W, .int .i64 H, .slice (some ⟨g, o, none⟩) (W * H) c] 40) := ⟨_, rfl⟩
  have B1 : Below w.heap.size w w1 := by rw [hw1]; exact new_below _ _
  have q0 : w1.heap[w.heap.size]? = some (.cells #[.int .i64 W, .int .i64 H, .slice (some ⟨g, o, none⟩) (W * H) c] 40 (0, 0)) := by rw [hw1]; exact heap_alloc_new _ _
  rw [← hw1]
  clear hw1
  refine (checkLean_any W H n (some ⟨g, o, none⟩) (W * H) c w1).mono ?_
  rintro e w2 ⟨rfl, hb2⟩
  rw [HQ.out]
  obtain ⟨p0, p1, p2, _, _, _⟩ := block3 (below_block hb2 q0)
  have G2 := Lib.hid (below_step B1 hb2)
  clear hb2 B1 q0
  go_wp2_with fail
  refine (rowProfiles_any W H g o c z w2 bW bH hN (fun j hj => cell_later G2.out (HC.out j hj))).mono ?_
  rintro e w3 ⟨hb, wb, cb, bb, ab, rfl, hP, hb3⟩
  have P3 := Lib.hid hP
  have G3 := Lib.hid (below_step G2.out hb3)
  clear hP hb3 p0 p1 p2
  go_wp2_with fail
  refine (profile_any W H hb wb cb bb ab _ n (inkQ z W) w3 bW bH hN rfl HN.out P3.out).mono ?_
  rintro e w4 ⟨v, rfl, hown, hb4⟩
  have F := Lib.hid hown
  have G := Lib.hid (below_step G3.out hb4)
  have HS3 := Lib.hid G3.out.size
  clear hown hb4
  go_wp2_with fail
  go_ret2
  exact ⟨_, rfl, owns_base F.out HS3.out, G.out⟩

theorem owns_ints {w : World} {base n : Nat} {f : Nat → Int} {v : Value} (h : w.ownsRow base 3 1 v n (intsOf f n)) (hn : 1 ≤ n) : ∃ g c, v = .slice (some ⟨g, 0, none⟩) n c ∧ base ≤ g ∧ ∀ j, j < n → w.cell? ⟨g, 0 + j, none⟩ = some (.int .i64 (f j)) := by
  rcases h.2 with ⟨_, h0⟩ | ⟨g, cap, cur, h0, hb, _⟩
  · omega
  · subst h0
    refine ⟨g, cap, rfl, hb, fun j hj => ?_⟩
    have := h.cellAt j (by omega)
    rw [intsOf_get _ _ _ hj] at this
    rw [Nat.zero_add]; exact this

theorem score_ok (W H g o c : Nat) (n : Int) (z : Nat → Bool) (w : World) (hs : sizeErr W H = 0) (hn : -256 ≤ n ∧ n ≤ 256) (hp : ∀ j, j < W * H → w.cell? ⟨g, o + j, none⟩ = some (.bool (z j))) :
    Calls Try.prog 31 #[.agg #[.int .i64 W, .int .i64 H, .slice (some ⟨g, o, none⟩) (W * H) c], .int .i64 n] w fun e w' =>
      e = .returned (.tuple #[.int .i64 (sqSum (profV (inkQ z W) W H n) (2 * H) : Int), .int .i64 0]) ∧ Below w.heap.size w w' := by
  obtain ⟨⟨a1, a2, a3, a4⟩, a5, a6⟩ := sizeErr_zero hs
  have HP := Lib.hid (profileS_ok W H g o c n z (w.alloc (.cells #[.int .i64 W, .int .i64 H, .slice (some ⟨g, o, none⟩) (W * H) c] 40)) hs hn (fun j hj => cell_later (new_below _ _) (hp j hj)))
  have bW : W ≤ 4000 := by omega
  have bH : 1 ≤ H ∧ H ≤ 4000 := by omega
  clear hs hn hp a5 a6
  go_enter Try.func31, Try.ntmps31
  go_wp2_with fail
  have B1 := Lib.hid (new_below w (.cells #[.int .i64 W, .int .i64 H, .slice (some ⟨g, o, none⟩) (W * H) c] 40))
  refine HP.out.mono ?_
  rintro e w2 ⟨v, rfl, hown, hb2⟩
  obtain ⟨pg, pc, rfl, _, hcell⟩ := owns_ints hown (by omega)
  have HCE := Lib.hid hcell
  have G := Lib.hid (below_step B1.out hb2)
  clear hb2 hown hcell
  go_wp2_with fail
  refine (squares_any (2 * H) pg 0 pc (profV (inkQ z W) W H n) w2 (by omega) (fun j => Nat.le_trans (profUp_le _ _ _ _ _ _) bW) HCE.out).mono ?_
  rintro e w3 ⟨rfl, rfl⟩
  obtain ⟨S, hS⟩ : ∃ S, S = sqSum (profV (inkQ z W) W H n) (2 * H) := ⟨_, rfl⟩
  rw [← hS]
  go_wp2_with fail
  go_ret2
  exact ⟨rfl, G.out⟩

end Go.Proofs.Ytofcojcfcpfdmaa
namespace Go.Proofs.Ytofcojcfcpfdmaa
open Go.RowKit
set_option linter.unusedSimpArgs false
set_option linter.unusedVariables false

/-- The two numbers that are kept. -/
def TwoB (fb gb : Nat) (p : Int × Int) (w : World) : Prop := w.heap[fb]? = some (.cells #[.int .i64 p.1] 3 (0, 0)) ∧ w.heap[gb]? = some (.cells #[.int .i64 p.2] 3 (0, 0))
theorem TwoB.later {fb gb : Nat} {p : Int × Int} {w w' : World} (h : TwoB fb gb p w) (hb : Below w.heap.size w w') : TwoB fb gb p w' := ⟨below_block hb h.1, below_block hb h.2⟩
theorem TwoB.set {fb gb : Nat} {p : Int × Int} {w : World} (h : TwoB fb gb p w) (hne : fb ≠ gb) (x y : Int) : TwoB fb gb (x, y) ((w.setCell ⟨fb, 0, none⟩ (.int .i64 x)).setCell ⟨gb, 0, none⟩ (.int .i64 y)) := by
  constructor
  · rw [setCell_else _ _ _ _ (by simpa using hne), heap_set h.1]; simp
  · have : (w.setCell ⟨fb, 0, none⟩ (.int .i64 x)).heap[gb]? = some (.cells #[.int .i64 p.2] 3 (0, 0)) := by
      rw [setCell_else _ _ _ _ (by simpa using hne.symm)]; exact h.2
    rw [heap_set this]; simp

end Go.Proofs.Ytofcojcfcpfdmaa
