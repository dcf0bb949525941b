/-
  What top_straight_holds leans on: contracts of the functions that it calls.
-/
import Derived.Test.YtofcojcfcpfdmaaRows
import Derived.WalkKit
import Derived.WalkSpells
import Derived.WalkLawsBesides
import Derived.Lib.Hide
import Derived.Deep.RegionHeld3
import Derived.Shelf.Abstract
import Derived.Deep.AppendLies
import Derived.Deep.DrawnRows
import Derived.Deep.RegionLaw
import Derived.Deep.QuietTactic
import Derived.BigQuiet
import Derived.ProofKit
import Derived.OpenShut
import Derived.ShutString
import Derived.ChangeOld
import Derived.Lib.SmallJoins
import Derived.Deep.Grids
import Derived.Deep.DeepCutAuto
import Derived.Lib.MinMax
import Derived.Deep.CutRange
import Derived.Laws.EntriesVeiled
import Derived.StillTailTactics
import Derived.RegionTactic
import Derived.ChangeAlike
import Derived.BigRegion
import Derived.Test.YtofcojcfcpfdmaaCTop2
namespace Go.Proofs.Ytofcojcfcpfdmaa
open Go.RowKit
set_option linter.unusedSimpArgs false
set_option linter.unusedVariables false

/-- What a function for profiles holds on to. -/
structure Prof (w h : Nat) (q : Nat → Nat → Bool) (hb wb cb bb ab M : Nat) (wr : World) : Prop where
  h0 : wr.cell? ⟨hb, 0, none⟩ = some (.int .i64 h)
  w0 : wr.cell? ⟨wb, 0, none⟩ = some (.int .i64 w)
  c0 : wr.cell? ⟨cb, 0, none⟩ = some (.func (.func 145) #[] #[.pointer (some ⟨bb, 0, none⟩), .pointer (some ⟨hb, 0, none⟩)])
  b0 : wr.cell? ⟨bb, 0, none⟩ = some (.slice (some ⟨ab, 0, none⟩) M M)
  a0 : ∀ x y, x ≤ w → y < h → wr.cell? ⟨ab, x * h + y, none⟩ = some (.int .i64 (bef q y x : Int))
theorem Prof.later {w h : Nat} {q : Nat → Nat → Bool} {hb wb cb bb ab M : Nat} {wr wx : World} (p : Prof w h q hb wb cb bb ab M wr) (hbl : Below wr.heap.size wr wx) : Prof w h q hb wb cb bb ab M wx :=
  ⟨cell_later hbl p.h0, cell_later hbl p.w0, cell_later hbl p.c0, cell_later hbl p.b0, fun x y hx hy => cell_later hbl (p.a0 x y hx hy)⟩

/-- The profile of a page that leans by n. -/
def profV (q : Nat → Nat → Bool) (w h : Nat) (n : Int) (j : Nat) : Nat := profUp q h (fallV w n) ((h / 2 : Nat) : Int) j w

/-- What holds while bands are added. -/
structure Adding (q : Nat → Nat → Bool) (h m L g kb sg : Nat) (s : Nat → Int) (c : Int) (w : World) (f : Nat) (wx : World) : Prop where
  b : Below w.heap.size w wx
  o : wx.ownsRow w.heap.size 3 1 (.slice (some ⟨g, 0, none⟩) m m) m (intsOf (fun j => (profUp q h s c j f : Int)) m)
  k : wx.cell? ⟨kb, 0, none⟩ = some (.slice (some ⟨g, 0, none⟩) m m)
  s : ∀ k, k < L → wx.cell? ⟨sg, k, none⟩ = some (.int .i64 (s k))

set_option maxHeartbeats 1000000 in
set_option maxRecDepth 100000 in
theorem profile_any (W h hb wb cb bb ab M : Nat) (n : Int) (q : Nat → Nat → Bool) (w : World) (hW : 1 ≤ W ∧ W ≤ 4000) (hh : 1 ≤ h ∧ h ≤ 4000) (hN : W * h ≤ 1048576) (hM : M = (W + 1) * h) (hn : -256 ≤ n ∧ n ≤ 256) (hP : Prof W h q hb wb cb bb ab M w) :
    Calls Try.prog 146 #[.int .i64 n, .pointer (some ⟨hb, 0, none⟩), .pointer (some ⟨wb, 0, none⟩), .pointer (some ⟨cb, 0, none⟩)] w fun e w' =>
      ∃ v, e = .returned v ∧ w'.ownsRow w.heap.size 3 1 v (2 * h) (intsOf (fun j => (profV q W h n j : Int)) (2 * h)) ∧ Below w.heap.size w w' := by
  have hmf : ∀ (fn : Fn) (first cap : Array Value) (w : World), (Instr.makeFunc fn first cap).run Try.prog w = .ok (.func fn first cap) w := fun _ _ _ _ => rfl
  obtain ⟨i0, hi, hz0, hz1, hz2⟩ := info_parts info_int
  have hM2 : M ≤ 1100000 := by rw [hM, Nat.add_mul, Nat.one_mul]; omega
  obtain ⟨m, hm⟩ : ∃ m, m = 2 * h := ⟨_, rfl⟩
  have hm2 : 2 * (h : Int) = (m : Int) := by omega
  have hm3 : m ≤ 8000 := by omega
  rw [← hm]
  have HM := Lib.hid hM
  have HHm := Lib.hid hm
  have HP := Lib.hid hP
  have q0 := hP.h0
  have l0 := World.block_lt_of_cell? _ _ q0
  have q1 := hP.w0
  have LT := Lib.hid (show hb < w.heap.size ∧ wb < w.heap.size ∧ cb < w.heap.size ∧ bb < w.heap.size ∧ ab < w.heap.size from ⟨World.block_lt_of_cell? _ _ hP.h0, World.block_lt_of_cell? _ _ hP.w0, World.block_lt_of_cell? _ _ hP.c0, World.block_lt_of_cell? _ _ hP.b0, World.block_lt_of_cell? _ _ (hP.a0 0 0 (by omega) (by omega))⟩)
  simp only at l0
  clear hM hm hP
  go_enter Try.func146, Try.ntmps146
  go_wp2_with (at_make; refine wpList_make_full _ rfl _ _ 52 rfl w.heap.size 3 i0 (.int .i64 0) 1 Try.underlying52 hi hz0 hz1 _ _ _ _ m rfl rfl rfl rfl (by rw [hz2]; omega) (by unfold maxLen; omega) (by simp) ?_)
  intro w1 hown1 hgrow1
  rw [toList_madeCells_one, intsOf_zero] at hown1
  have hb1 := (Below.refl w.heap.size _).grown hgrow1 (by simp) (by simp)
  have O1 := Lib.hid hown1
  have HB1 := Lib.hid hb1
  have hl1 : w.heap.size < w1.heap.size := by have := hown1.lt w.heap.size rfl; exact this.2
  clear hgrow1 hown1 q0 q1 hb1
  have k1 := cell_later HB1.out HP.out.w0
  go_upto_region 2 with (fail)
  obtain ⟨w2, hw2⟩ : ∃ w2, w2 = w1.alloc (.cells #[.slice (some ⟨w.heap.size, 0, none⟩) m m] 52) := ⟨_, rfl⟩
  have B2 : Below w1.heap.size w1 w2 := by rw [hw2]; exact new_below _ _
  have kc : w2.cell? ⟨w1.heap.size, 0, none⟩ = some (.slice (some ⟨w.heap.size, 0, none⟩) m m) := by rw [hw2]; go_simp
  rw [← hw2]
  clear hw2
  have KC := Lib.hid kc
  have HB2 := Lib.hid (below_step HB1.out B2)
  have O2 := Lib.hid (below_owns O1.out B2)
  have k2 := cell_later B2 k1
  clear B2 kc O1 k1
  go_wp2_with fail
  refine (shifts_any W n w2 hW hn).mono ?_
  rintro e w3 ⟨v, rfl, hown3, hb3⟩
  obtain ⟨sg, sc, rfl⟩ : ∃ sg sc, v = .slice (some ⟨sg, 0, none⟩) W sc := by
    rcases hown3.2 with ⟨_, h0⟩ | ⟨sg, cap, cur, h0, _⟩
    · omega
    · exact ⟨_, _, h0⟩
  have hsg := (hown3.lt sg rfl).1
  have hl2 := World.block_lt_of_cell? _ _ KC.out
  have hl2' := HB2.out.size
  simp only at hl2
  have S3 : ∀ k, k < W → w3.cell? ⟨sg, k, none⟩ = some (.int .i64 (fallV W n k)) := fun k hk => by
    have := hown3.cellAt k (by omega)
    rw [intsOf_get _ _ _ hk] at this; exact this
  have A3 := Lib.hid (show Adding q h m W w.heap.size w1.heap.size sg (fallV W n) ((h / 2 : Nat) : Int) w 0 w3 from
    ⟨below_step HB2.out hb3, by rw [intsOf_congr (g := fun _ => 0) (fun j _ => by simp [profUp])]; exact below_owns O2.out hb3, cell_later hb3 KC.out, S3⟩)
  have HSG := Lib.hid (show sg ≠ w.heap.size by omega)
  have HKG := Lib.hid (show w1.heap.size ≠ w.heap.size by omega)
  clear S3 hown3 hb3 hsg hl2 hl2' k2 O2 KC
  go_wp2_with fail
  refine (eachBand_any W sg sc 148 _ (fallV W n) (Adding q h m W w.heap.size w1.heap.size sg (fallV W n) ((h / 2 : Nat) : Int) w) w3 hW (Go.Proofs.enters_of Try.func148 (by kernel_rfl) rfl) (fun f wr hA => hA.s) (fun f wr hA k => ⟨below_drewN hA.b k, below_owns hA.o (below_drewN (Below.refl _ _) k), hA.k, hA.s⟩) A3.out ?_).mono ?_
  · intro f t wr hft ht hs hA
    have hP := HP.out.later hA.b
    have lt := LT.out
    refine (band_any W h f t w1.heap.size cb hb bb ab 0 M w.heap.size m w.heap.size q (fallV W n) wr hW.2 hh HM.out hM2 hm3 hft ht hs (fallV_bounds hW.2 hn (by omega)) ⟨HKG.out, by omega, by omega, by omega, by omega⟩ hA.k hP.c0 hP.h0 hP.b0 hP.a0 hA.o).mono ?_
    rintro e w' ⟨rfl, ho, hk⟩
    exact ⟨rfl, hA.b.trans (hk.below (Nat.le_refl _) (Nat.le_refl _)), ho, hk.cell ⟨HKG.out, HKG.out⟩ hA.k, fun k hk' => hk.cell ⟨HSG.out, HSG.out⟩ (hA.s k hk')⟩
  · rintro e w4 ⟨rfl, hA⟩
    have k4 := hA.k
    have O4 := Lib.hid hA.o
    have B4 := Lib.hid hA.b
    clear hA
    go_wp2_with fail
    go_ret
    exact ⟨_, rfl, O4.out, B4.out⟩

end Go.Proofs.Ytofcojcfcpfdmaa
namespace Go.Proofs.Ytofcojcfcpfdmaa
open Go.RowKit
set_option linter.unusedSimpArgs false
set_option linter.unusedVariables false

set_option maxHeartbeats 800000 in
set_option maxRecDepth 100000 in
theorem profiles_any (w h clo : Nat) (capt : Array Value) (q : Nat → Nat → Bool) (W0 : World) (hw : 1 ≤ w ∧ w ≤ 4000) (hh : 1 ≤ h ∧ h ≤ 4000) (hN : w * h ≤ 1048576)
    (eg : ∀ (args : Array Value) (W : World), (callFunc clo args).run Try.prog W = .ok (.enter clo args) W)
    (hc : ∀ (x y : Nat) (wx : World), x < w → y < h → Below W0.heap.size W0 wx → Calls Try.prog clo (#[.int .i64 x, .int .i64 y] ++ capt) wx fun e W' => e = .returned (.bool (q x y)) ∧ Below wx.heap.size wx W') :
    Calls Try.prog 118 #[.int .i64 w, .int .i64 h, .func (.func clo) #[] capt] W0 fun e w' =>
      ∃ hb wb cb bb ab, e = .returned (.func (.func 146) #[] #[.pointer (some ⟨hb, 0, none⟩), .pointer (some ⟨wb, 0, none⟩), .pointer (some ⟨cb, 0, none⟩)]) ∧ Prof w h q hb wb cb bb ab ((w + 1) * h) w' ∧ Below W0.heap.size W0 w' := by
  have hmf : ∀ (fn : Fn) (first cap : Array Value) (w : World), (Instr.makeFunc fn first cap).run Try.prog w = .ok (.func fn first cap) w := fun _ _ _ _ => rfl
  have HC := Lib.hid hc
  clear hc
  go_enter Try.func118, Try.ntmps118
  go_wp2_with fail
  obtain ⟨w1, hw1⟩ : ∃ w1, w1 = (W0.alloc (.cells #[.int .i64 w] 3)).alloc (.cells #[.int .i64 h] 3) := ⟨_, rfl⟩
  have B1 : Below W0.heap.size W0 w1 := by rw [hw1]; exact below_alloc (new_below _ _) _
  have q0 : w1.cell? ⟨W0.heap.size, 0, none⟩ = some (.int .i64 w) := by rw [hw1]; go_simp
  have q1 : w1.cell? ⟨W0.heap.size + 1, 0, none⟩ = some (.int .i64 h) := by rw [hw1]; go_simp
  rw [← hw1]
  clear hw1
  refine (inkBefore_any w h clo capt q w1 hw hh hN eg (fun x y wx hx hy hb => HC.out x y wx hx hy (below_step B1 hb))).mono ?_
  rintro e w2 ⟨ab, rfl, hab, hcell, hb2⟩
  have k0 := cell_later hb2 q0
  have k1 := cell_later hb2 q1
  have B2 := Lib.hid (below_step B1 hb2)
  have HCE := Lib.hid hcell
  obtain ⟨M, hM⟩ : ∃ M, M = (w + 1) * h := ⟨_, rfl⟩
  rw [← hM]
  have HM := Lib.hid hM
  clear hcell hb2 q0 q1 hM
  go_upto_region 2 with (fail)
  obtain ⟨w3, hw3⟩ : ∃ w3, w3 = w2.alloc (.cells #[.slice (some ⟨ab, 0, none⟩) M M] 52) := ⟨_, rfl⟩
  have B3 : Below w2.heap.size w2 w3 := by rw [hw3]; exact new_below _ _
  have k2 : w3.cell? ⟨w2.heap.size, 0, none⟩ = some (.slice (some ⟨ab, 0, none⟩) M M) := by rw [hw3]; go_simp
  rw [← hw3]
  clear hw3
  have j0 := cell_later B3 k0
  have j1 := cell_later B3 k1
  have HB3 := Lib.hid B3
  clear B3 k0 k1
  go_upto_region 3 with (fail)
  obtain ⟨w4, hw4⟩ : ∃ w4, w4 = w3.alloc (.cells #[.func (.func 145) #[] #[.pointer (some ⟨w2.heap.size, 0, none⟩), .pointer (some ⟨W0.heap.size + 1, 0, none⟩)]] 105) := ⟨_, rfl⟩
  have B4 : Below w3.heap.size w3 w4 := by rw [hw4]; exact new_below _ _
  have k3 : w4.cell? ⟨w3.heap.size, 0, none⟩ = some (.func (.func 145) #[] #[.pointer (some ⟨w2.heap.size, 0, none⟩), .pointer (some ⟨W0.heap.size + 1, 0, none⟩)]) := by rw [hw4]; go_simp
  rw [← hw4]
  clear hw4
  have F := Lib.hid (show Prof w h q (W0.heap.size + 1) W0.heap.size w3.heap.size w2.heap.size ab M w4 from
    ⟨cell_later B4 j1, cell_later B4 j0, k3, cell_later B4 k2, fun x y hx hy => cell_later (below_step HB3.out B4) (HCE.out x y hx hy)⟩)
  have G := Lib.hid (below_step (below_step B2.out HB3.out) B4)
  clear B4 k3 j0 j1 k2
  go_wp2_with fail
  go_ret
  exact ⟨_, _, _, _, _, rfl, by have := F.out; rw [HM.out] at this; exact this, G.out⟩

theorem rowProfiles1_any (W H x y gb pb po c : Nat) (z : Nat → Bool) (w : World) (hW : W ≤ 4000) (hH : H ≤ 4000) (hx : x < W) (hy : y < H)
    (h0 : w.cell? ⟨gb, 0, none⟩ = some (.int .i64 W)) (h2 : w.cell? ⟨gb, 2, none⟩ = some (.slice (some ⟨pb, po, none⟩) (W * H) c)) (hp : w.cell? ⟨pb, po + (y * W + x), none⟩ = some (.bool (z (y * W + x)))) :
    Calls Try.prog 119 #[.int .i64 x, .int .i64 y, .pointer (some ⟨gb, 0, none⟩)] w fun e w' => e = .returned (.bool (z (y * W + x))) ∧ Below w.heap.size w w' := by
  have hfit := row_fits hy (show x + 1 ≤ W by omega)
  have hN := Nat.mul_le_mul hW hH
  have x0 : (0 : Int) ≤ (y : Int) * (W : Int) := Int.mul_nonneg (by omega) (by omega)
  have x1 : (y : Int) * (W : Int) + (x : Int) < ((W * H : Nat) : Int) := by rw [← Int.natCast_mul]; omega
  have x3 : (y : Int) * (W : Int) + (x : Int) < (W : Int) * (H : Int) := by rw [← Int.natCast_mul, ← Int.natCast_mul]; omega
  have x2 : ((W * H : Nat) : Int) ≤ 16000000 := by omega
  obtain ⟨p, hpe⟩ : ∃ p, p = z (y * W + x) := ⟨_, rfl⟩
  rw [← hpe] at hp ⊢
  clear hfit hN hpe
  go_enter Try.func119, Try.ntmps119
  go_wp2_with fail
  go_ret
  exact ⟨rfl, Below.refl _ _⟩

/-- The ink of a page by columns and rows. -/
def inkQ (z : Nat → Bool) (W x y : Nat) : Bool := z (y * W + x)

set_option maxHeartbeats 800000 in
theorem rowProfiles_any (W H g o c : Nat) (z : Nat → Bool) (w : World) (hW : 1 ≤ W ∧ W ≤ 4000) (hH : 1 ≤ H ∧ H ≤ 4000) (hN : W * H ≤ 1048576) (hp : ∀ j, j < W * H → w.cell? ⟨g, o + j, none⟩ = some (.bool (z j))) :
    Calls Try.prog 83 #[.agg #[.int .i64 W, .int .i64 H, .slice (some ⟨g, o, none⟩) (W * H) c]] w fun e w' =>
      ∃ hb wb cb bb ab, e = .returned (.func (.func 146) #[] #[.pointer (some ⟨hb, 0, none⟩), .pointer (some ⟨wb, 0, none⟩), .pointer (some ⟨cb, 0, none⟩)]) ∧ Prof W H (inkQ z W) hb wb cb bb ab ((W + 1) * H) w' ∧ Below w.heap.size w w' := by
  have hmf : ∀ (fn : Fn) (first cap : Array Value) (w : World), (Instr.makeFunc fn first cap).run Try.prog w = .ok (.func fn first cap) w := fun _ _ _ _ => rfl
  have HC := Lib.hid hp
  clear hp
  go_enter Try.func83, Try.ntmps83
  go_wp2_with fail
  obtain ⟨w1, hw1⟩ : ∃ w1, w1 = w.alloc (.cells #[.int .i64 W, .int .i64 H, .slice (some ⟨g, o, none⟩) (W * H) c] 40) := ⟨_, rfl⟩
  have B1 : Below w.heap.size w w1 := by rw [hw1]; exact new_below _ _
  have q0 : w1.cell? ⟨w.heap.size, 0, none⟩ = some (.int .i64 W) := by rw [hw1]; go_simp
  have q2 : w1.cell? ⟨w.heap.size, 2, none⟩ = some (.slice (some ⟨g, o, none⟩) (W * H) c) := by rw [hw1]; go_simp
  rw [← hw1]
  clear hw1
  refine (profiles_any W H 119 _ (inkQ z W) w1 hW hH hN (Go.Proofs.enters_of Try.func119 (by kernel_rfl) rfl) ?_).mono ?_
  · intro x y wx hx hy hbx
    have hfit := row_fits hy (show x + 1 ≤ W by omega)
    exact rowProfiles1_any W H x y w.heap.size g o c z wx hW.2 hH.2 hx hy (cell_later hbx q0) (cell_later hbx q2) (cell_later (below_step B1 hbx) (HC.out _ (by omega)))
  · rintro e w2 ⟨hb, wb, cb, bb, ab, rfl, hP, hb2⟩
    have F := Lib.hid hP
    have G := Lib.hid (below_step B1 hb2)
    clear hP hb2 q0 q2 B1
    go_wp2_with fail
    go_ret
    exact ⟨_, _, _, _, _, rfl, F.out, G.out⟩

/-- The sum of squares. -/
def sqSum (f : Nat → Nat) : Nat → Nat
  | 0 => 0
  | n + 1 => sqSum f n + f n * f n
theorem sqSum_le (f : Nat → Nat) (n : Nat) (hf : ∀ j, f j ≤ 4000) : sqSum f n ≤ n * 16000000 := by
  induction n with
  | zero => simp [sqSum]
  | succ n ih => rw [sqSum]; have := Nat.mul_le_mul (hf n) (hf n); omega
set_option maxHeartbeats 400000 in
theorem squares_any (n g o c : Nat) (f : Nat → Nat) (w : World) (hn : n ≤ 8000) (hf : ∀ j, f j ≤ 4000) (hc : ∀ j, j < n → w.cell? ⟨g, o + j, none⟩ = some (.int .i64 (f j : Int))) :
    Calls Try.prog 84 #[.slice (some ⟨g, o, none⟩) n c] w fun e w' => e = .returned (.int .i64 (sqSum f n : Int)) ∧ w = w' := by
  have HC := Lib.hid hc
  have HF := Lib.hid hf
  clear hc hf
  go_enter Try.func84, Try.ntmps84
  go_wp2_with fail
  go_loop [3, 8] (fun a i => ∃ j S : Nat, j ≤ n ∧ i = .int .i64 j ∧ a = .int .i64 S ∧ Hid (S = sqSum f j)) (fun _ i => n - (intOf i).toNat)
  case atStart => exact ⟨0, 0, Nat.zero_le _, rfl, rfl, Lib.hid rfl⟩
  case round =>
    obtain ⟨j, S, hj, rfl, rfl, HS⟩ := hrel
    by_cases hlt : j < n
    · have c1 := HC.out j hlt
      have hb := sqSum_le f j HF.out
      rw [← HS.out] at hb
      have hv := HF.out j
      obtain ⟨v, hve⟩ : ∃ v, v = f j := ⟨_, rfl⟩
      rw [← hve] at c1 hv
      have p2 := Nat.mul_le_mul hv hv
      have p0 : (0 : Int) ≤ (v : Int) * (v : Int) := Int.mul_nonneg (by omega) (by omega)
      have p1 : (v : Int) * (v : Int) ≤ 16000000 := by rw [← Int.natCast_mul]; omega
      have HV := Lib.hid hve
      have i1 : (j : Int) < (n : Int) := by omega
      have hS2 : S ≤ 128000000000 := by omega
      clear hve p2 hb
      go_wp2_with fail
      go_round
      case rel => exact ⟨j + 1, S + v * v, by omega, by go_num, by rw [Int.natCast_add, Int.natCast_mul], Lib.hid (by rw [sqSum, ← HS.out, ← HV.out])⟩
      case measure => simp [intOf]; omega
    · have hje : j = n := by omega
      subst hje
      go_wp2_with fail
      go_ret
      exact ⟨by rw [HS.out]; rfl, rfl⟩

end Go.Proofs.Ytofcojcfcpfdmaa
namespace Go.Proofs.Ytofcojcfcpfdmaa
open Go.RowKit
set_option linter.unusedSimpArgs false
set_option linter.unusedVariables false

theorem owns_ints {w : World} {base n : Nat} {f : Nat → Int} {v : Value} (h : w.ownsRow base 3 1 v n (intsOf f n)) (hn : 1 ≤ n) : ∃ g c, v = .slice (some ⟨g, 0, none⟩) n c ∧ base ≤ g ∧ ∀ j, j < n → w.cell? ⟨g, 0 + j, none⟩ = some (.int .i64 (f j)) := by
  rcases h.2 with ⟨_, h0⟩ | ⟨g, cap, cur, h0, hb, _⟩
  · omega
  · subst h0
    refine ⟨g, cap, rfl, hb, fun j hj => ?_⟩
    have := h.cellAt j (by omega)
    rw [intsOf_get _ _ _ hj] at this
    rw [Nat.zero_add]; exact this

end Go.Proofs.Ytofcojcfcpfdmaa
namespace Go.Proofs.Ytofcojcfcpfdmaa
open Go.RowKit
set_option linter.unusedSimpArgs false
set_option linter.unusedVariables false

/-- A number is tried. -/
def stepV (sc : Int → Int) (p : Int × Int) (n : Int) : Int × Int := if p.2 < sc n then (n, sc n) else p
/-- What is found with the magnitudes up to k. -/
def bestUp (sc : Int → Int) : Nat → Int × Int
  | 0 => (0, sc 0)
  | k + 1 => stepV sc (stepV sc (bestUp sc k) ((k + 1 : Nat) : Int)) (-((k + 1 : Nat) : Int))

theorem box_one {w : World} {b : Nat} {x : Value} {t : TypeId} (h : w.heap[b]? = some (.cells #[x] t (0, 0))) : w.cell? ⟨b, 0, none⟩ = some x ∧ w.frozen? ⟨b, 0, none⟩ = false := box1 h

/-- The two numbers that are kept. -/
def TwoB (fb gb : Nat) (p : Int × Int) (w : World) : Prop := w.heap[fb]? = some (.cells #[.int .i64 p.1] 3 (0, 0)) ∧ w.heap[gb]? = some (.cells #[.int .i64 p.2] 3 (0, 0))
theorem TwoB.later {fb gb : Nat} {p : Int × Int} {w w' : World} (h : TwoB fb gb p w) (hb : Below w.heap.size w w') : TwoB fb gb p w' := ⟨below_block hb h.1, below_block hb h.2⟩
theorem TwoB.set {fb gb : Nat} {p : Int × Int} {w : World} (h : TwoB fb gb p w) (hne : fb ≠ gb) (x y : Int) : TwoB fb gb (x, y) ((w.setCell ⟨fb, 0, none⟩ (.int .i64 x)).setCell ⟨gb, 0, none⟩ (.int .i64 y)) := by
  constructor
  · rw [setCell_else _ _ _ _ (by simpa using hne), heap_set h.1]; simp
  · have : (w.setCell ⟨fb, 0, none⟩ (.int .i64 x)).heap[gb]? = some (.cells #[.int .i64 p.2] 3 (0, 0)) := by
      rw [setCell_else _ _ _ _ (by simpa using hne.symm)]; exact h.2
    rw [heap_set this]; simp

set_option maxHeartbeats 400000 in
theorem consider_any (n : Int) (sb gb fb clo : Nat) (capt : Array Value) (sc : Int → Int) (p : Int × Int) (w : World) (hne : fb ≠ gb)
    (eg : ∀ (args : Array Value) (W : World), (callFunc clo args).run Try.prog W = .ok (.enter clo args) W)
    (h0 : w.cell? ⟨sb, 0, none⟩ = some (.func (.func clo) #[] capt)) (h1 : TwoB fb gb p w)
    (hc : Calls Try.prog clo (#[.int .i64 n] ++ capt) w fun e w' => e = .returned (.int .i64 (sc n)) ∧ Below w.heap.size w w') :
    Calls Try.prog 143 #[.int .i64 n, .pointer (some ⟨sb, 0, none⟩), .pointer (some ⟨gb, 0, none⟩), .pointer (some ⟨fb, 0, none⟩)] w fun e w' =>
      e = .returned (.tuple #[]) ∧ TwoB fb gb (stepV sc p n) w' ∧ ∀ B, B ≤ fb → B ≤ gb → B ≤ w.heap.size → Below B w w' := by
  obtain ⟨s, hs⟩ : ∃ s, s = sc n := ⟨_, rfl⟩
  rw [← hs] at hc
  have HC := Lib.hid hc
  have H1 := Lib.hid h1
  have HS := Lib.hid hs
  have NE := Lib.hid hne
  clear hc h1 hs
  go_enter Try.func143, Try.ntmps143
  go_wp2_with fail
  refine HC.out.mono ?_
  rintro e w2 ⟨rfl, hb2⟩
  have T2 := Lib.hid (H1.out.later hb2)
  have HB := Lib.hid hb2
  obtain ⟨g1, g2⟩ := box_one T2.out.2
  obtain ⟨f1, f2⟩ := box_one T2.out.1
  obtain ⟨G, hG⟩ : ∃ G, G = p.2 := ⟨_, rfl⟩
  rw [← hG] at g1
  have HG := Lib.hid hG
  clear hb2 hG
  by_cases hlt : G < s
  · have e1 : stepV sc p n = (n, s) := by unfold stepV; rw [← HS.out, ← HG.out, if_pos hlt]
    have E1 := Lib.hid e1
    have ne1 : gb ≠ fb := hne.symm
    clear e1
    go_wp2_with fail
    exact bodyPost_end (results_none rfl _ _ _) rfl ⟨rfl, by rw [E1.out]; exact T2.out.set NE.out n s, fun B b1 b2 b3 => ((HB.out.mono b3).setCell b1 _).setCell b2 _⟩
  · have e1 : stepV sc p n = p := by unfold stepV; rw [← HS.out, ← HG.out, if_neg hlt]
    have E1 := Lib.hid e1
    clear e1
    go_wp2_with fail
    exact bodyPost_end (results_none rfl _ _ _) rfl ⟨rfl, by rw [E1.out]; exact T2.out, fun B b1 b2 b3 => HB.out.mono b3⟩

set_option maxHeartbeats 800000 in
theorem best_any (most clo : Nat) (capt : Array Value) (sc : Int → Int) (w : World) (hm : most ≤ 256)
    (eg : ∀ (args : Array Value) (W : World), (callFunc clo args).run Try.prog W = .ok (.enter clo args) W)
    (hc : ∀ (n : Int) (wx : World), -(most : Int) ≤ n → n ≤ most → Below w.heap.size w wx → Calls Try.prog clo (#[.int .i64 n] ++ capt) wx fun e w' => e = .returned (.int .i64 (sc n)) ∧ Below wx.heap.size wx w') :
    Calls Try.prog 116 #[.int .i64 most, .func (.func clo) #[] capt] w fun e w' => e = .returned (.int .i64 (bestUp sc most).1) ∧ Below w.heap.size w w' := by
  have hmf : ∀ (fn : Fn) (first cap : Array Value) (w : World), (Instr.makeFunc fn first cap).run Try.prog w = .ok (.func fn first cap) w := fun _ _ _ _ => rfl
  have HC := Lib.hid hc
  clear hc
  go_enter Try.func116, Try.ntmps116
  go_wp2_with fail
  obtain ⟨w1, hw1⟩ : ∃ w1, w1 = w.alloc (.cells #[.func (.func clo) #[] capt] 109) := ⟨_, rfl⟩
  have B1 : Below w.heap.size w w1 := by rw [hw1]; exact new_below _ _
  have s1 : w1.cell? ⟨w.heap.size, 0, none⟩ = some (.func (.func clo) #[] capt) := by rw [hw1]; go_simp
  rw [← hw1]
  clear hw1
  refine (HC.out 0 w1 (by omega) (by omega) B1).mono ?_
  rintro e w2 ⟨rfl, hb2⟩
  have B2 := Lib.hid (below_step B1 hb2)
  have S2 := Lib.hid (cell_later hb2 s1)
  obtain ⟨s0, hs0⟩ : ∃ s0, s0 = sc 0 := ⟨_, rfl⟩
  rw [← hs0]
  have HS0 := Lib.hid hs0
  clear hb2 s1 B1 hs0
  go_upto_region 2 with (fail)
  obtain ⟨w3, hw3⟩ : ∃ w3, w3 = (w2.alloc (.cells #[.int .i64 0] 3)).alloc (.cells #[.int .i64 s0] 3) := ⟨_, rfl⟩
  have B3 : Below w2.heap.size w2 w3 := by rw [hw3]; exact below_alloc (new_below _ _) _
  have T3 : TwoB w2.heap.size (w2.heap.size + 1) (bestUp sc 0) w3 := by
    have e0 : bestUp sc 0 = (0, s0) := by rw [HS0.out]; rfl
    rw [hw3, e0]
    exact ⟨(Below.heap_alloc _ _ _ (by simp)).trans (heap_alloc_new _ _), by simpa using heap_alloc_new (w2.alloc (.cells #[.int .i64 0] 3)) (.cells #[.int .i64 s0] 3)⟩
  have l0 := World.block_lt_of_cell? _ _ S2.out
  simp only at l0
  have R0 := Lib.hid (show _ ∧ _ from ⟨T3, Below.refl w2.heap.size w3⟩)
  have S3 := Lib.hid (cell_later B3 S2.out)
  have HB3 := Lib.hid (below_step B2.out B3)
  have SZ := Lib.hid (show w2.heap.size ≤ w3.heap.size ∧ w.heap.size ≤ w2.heap.size from ⟨B3.size, B2.out.size⟩)
  rw [← hw3]
  clear hw3 B3 T3
  go_wp2_with fail
  go_loopw [8] (fun i wr => ∃ k : Nat, k ≤ most ∧ i = .int .i64 ((k + 1 : Nat) : Int) ∧ Hid (TwoB w2.heap.size (w2.heap.size + 1) (bestUp sc k) wr ∧ Below w2.heap.size w3 wr)) (fun i _ => most + 1 - (intOf i).toNat)
  case atStart => exact ⟨0, Nat.zero_le _, rfl, R0⟩
  case round =>
    obtain ⟨k, hk, rfl, HX⟩ := hrel
    clear R0
    have BW := Lib.hid (HB3.out.trans (HX.out.2.mono SZ.out.2))
    by_cases hlt : k < most
    · have s4 := (HX.out.2.cell (p := ⟨w.heap.size, 0, none⟩) l0).trans S3.out
      obtain ⟨m, hm1⟩ : ∃ m : Nat, m = k + 1 := ⟨_, rfl⟩
      rw [← hm1]
      have hm2 : m ≤ 256 := by omega
      have hm3 : m ≤ most := by omega
      have hm0 : 1 ≤ m := by omega
      have HM1 := Lib.hid hm1
      clear hm1
      go_wp2_with fail
      refine (consider_any (m : Int) w.heap.size (w2.heap.size + 1) w2.heap.size clo capt sc (bestUp sc k) wr (by omega) eg s4 HX.out.1 (HC.out (m : Int) wr (by omega) (by omega) BW.out)).mono ?_
      rintro e w5 ⟨rfl, t5, b5⟩
      have T5 := Lib.hid t5
      have B5 := Lib.hid (HX.out.2.trans (b5 w2.heap.size (Nat.le_refl _) (by omega) (by have := HX.out.2.size; have := SZ.out; omega)))
      have s5 := (B5.out.cell (p := ⟨w.heap.size, 0, none⟩) l0).trans S3.out
      have BW5 := Lib.hid (HB3.out.trans (B5.out.mono SZ.out.2))
      clear t5 b5 s4 HX BW
      go_wp2_with fail
      refine (consider_any (-(m : Int)) w.heap.size (w2.heap.size + 1) w2.heap.size clo capt sc _ w5 (by omega) eg s5 T5.out (HC.out (-(m : Int)) w5 (by omega) (by omega) BW5.out)).mono ?_
      rintro e w6 ⟨rfl, t6, b6⟩
      have T6 := Lib.hid t6
      have B6 := Lib.hid (B5.out.trans (b6 w2.heap.size (Nat.le_refl _) (by omega) (by have := B5.out.size; have := SZ.out; omega)))
      clear t6 b6 s5
      go_wp2_with fail
      go_roundw
      case rel => exact ⟨k + 1, by omega, by have := HM1.out; go_num, Lib.hid ⟨by have h := T6.out; rw [HM1.out] at h; exact h, B6.out⟩⟩
      case measure => have := HM1.out; simp [intOf]; omega
    · have hke : k = most := by omega
      subst hke
      obtain ⟨f1, f2⟩ := box_one HX.out.1.1
      obtain ⟨F, hF⟩ : ∃ F, F = (bestUp sc k).1 := ⟨_, rfl⟩
      rw [← hF] at f1
      have HF := Lib.hid hF
      clear hF
      go_wp2_with fail
      go_ret
      exact ⟨ret_int HF.out, BW.out⟩

end Go.Proofs.Ytofcojcfcpfdmaa
namespace Go.Proofs.Ytofcojcfcpfdmaa
open Go.RowKit
set_option linter.unusedSimpArgs false
set_option linter.unusedVariables false

end Go.Proofs.Ytofcojcfcpfdmaa

namespace Go.Proofs.Ytofcojcfcpfdmaa
open Go.RowKit
set_option linter.unusedSimpArgs false
set_option linter.unusedVariables false

/-- The least box that has all ink. -/
def Bound (z : Nat → Bool) (W H L T R B : Nat) : Prop :=
  (∀ i j, i < W → j < H → z (j * W + i) = true → (L ≤ i ∧ i ≤ R) ∧ T ≤ j ∧ j ≤ B) ∧ ((∃ j, j < H ∧ z (j * W + L) = true) ∧ L < W) ∧ ((∃ j, j < H ∧ z (j * W + R) = true) ∧ R < W) ∧ ((∃ i, i < W ∧ z (T * W + i) = true) ∧ T < H) ∧ ((∃ i, i < W ∧ z (B * W + i) = true) ∧ B < H)

/-- The least box, as four numbers; whether there is one. -/
def BoxIs (z : Nat → Bool) (W H : Nat) (X Y bw bh : Int) (q : Bool) : Prop :=
  (q = false ∧ X = 0 ∧ Y = 0 ∧ bw = 0 ∧ bh = 0 ∧ ∀ i j, i < W → j < H → z (j * W + i) = false) ∨
  (q = true ∧ ∃ L T R B : Nat, X = L ∧ Y = T ∧ bw = (R : Int) - (L : Int) + 1 ∧ bh = (B : Int) - (T : Int) + 1 ∧ Bound z W H L T R B)

theorem block4 {w : World} {b : Nat} {x y z u : Value} {t : TypeId} (h : w.heap[b]? = some (.cells #[x, y, z, u] t (0, 0))) :
    (w.cell? ⟨b, 0, none⟩ = some x ∧ w.cell? ⟨b, 1, none⟩ = some y ∧ w.cell? ⟨b, 2, none⟩ = some z ∧ w.cell? ⟨b, 3, none⟩ = some u) ∧ w.frozen? ⟨b, 0, none⟩ = false ∧ w.frozen? ⟨b, 1, none⟩ = false ∧ w.frozen? ⟨b, 2, none⟩ = false ∧ w.frozen? ⟨b, 3, none⟩ = false := by
  exact ⟨⟨by rw [cell_of_row w b 0 _ t (0, 0) h]; rfl, by rw [cell_of_row w b 1 _ t (0, 0) h]; rfl, by rw [cell_of_row w b 2 _ t (0, 0) h]; rfl, by rw [cell_of_row w b 3 _ t (0, 0) h]; rfl⟩, frozen_of_row w b 0 _ t h, frozen_of_row w b 1 _ t h, frozen_of_row w b 2 _ t h, frozen_of_row w b 3 _ t h⟩

end Go.Proofs.Ytofcojcfcpfdmaa
namespace Go.Proofs.Ytofcojcfcpfdmaa
open Go.RowKit
set_option linter.unusedSimpArgs false
set_option linter.unusedVariables false

theorem block1 {w : World} {b : Nat} {x : Value} {t : TypeId} (h : w.heap[b]? = some (.cells #[x] t (0, 0))) : w.cell? ⟨b, 0, none⟩ = some x ∧ w.frozen? ⟨b, 0, none⟩ = false :=
  ⟨by rw [cell_of_row w b 0 _ t (0, 0) h]; rfl, frozen_of_row w b 0 _ t h⟩

/-- The four numbers in their boxes. -/
def Four (lb tb rb bb : Nat) (l t r b : Int) (w : World) : Prop :=
  w.heap[lb]? = some (.cells #[.int .i64 l] 3 (0, 0)) ∧ w.heap[tb]? = some (.cells #[.int .i64 t] 3 (0, 0)) ∧ w.heap[rb]? = some (.cells #[.int .i64 r] 3 (0, 0)) ∧ w.heap[bb]? = some (.cells #[.int .i64 b] 3 (0, 0))

/-- Four different blocks from N on. -/
def Apart4 (N a b c d : Nat) : Prop := (N ≤ a ∧ N ≤ b ∧ N ≤ c ∧ N ≤ d) ∧ (a ≠ b ∧ a ≠ c ∧ a ≠ d) ∧ (b ≠ c ∧ b ≠ d) ∧ c ≠ d

set_option maxHeartbeats 1000000 in
set_option maxRecDepth 100000 in
theorem bounds1_any (x y N lb tb rb bb : Nat) (l t r b : Int) (w : World) (hd : Apart4 N lb tb rb bb) (h : Four lb tb rb bb l t r b w) :
    Calls Try.prog 126 #[.int .i64 x, .int .i64 y, .pointer (some ⟨lb, 0, none⟩), .pointer (some ⟨rb, 0, none⟩), .pointer (some ⟨tb, 0, none⟩), .pointer (some ⟨bb, 0, none⟩)] w fun e w' =>
      e = .returned (.tuple #[]) ∧ Four lb tb rb bb (min l x) (min t y) (max r x) (max b y) w' ∧ Below N w w' ∧ ∀ k, k ≠ lb ∧ k ≠ tb ∧ k ≠ rb ∧ k ≠ bb → w'.heap[k]? = w.heap[k]? := by
  obtain ⟨h1, h2, h3, h4⟩ := h
  obtain ⟨c1, f1⟩ := block1 h1
  obtain ⟨c2, f2⟩ := block1 h2
  obtain ⟨c3, f3⟩ := block1 h3
  obtain ⟨c4, f4⟩ := block1 h4
  have HD := Lib.hid hd
  obtain ⟨-, ⟨n1, n2, n3⟩, ⟨n4, n5⟩, n6⟩ := hd
  have m1 := n1.symm
  have m2 := n2.symm
  have m3 := n3.symm
  have m4 := n4.symm
  have m5 := n5.symm
  have m6 := n6.symm
  have H1 := Lib.hid h1
  have H2 := Lib.hid h2
  have H3 := Lib.hid h3
  have H4 := Lib.hid h4
  clear h1 h2 h3 h4
  go_enter Try.func126, Try.ntmps126
  go_wp2_with fail
  go_region
  go_wp2_with fail
  go_region
  go_wp2_with fail
  go_end0
  obtain ⟨⟨g1, g2, g3, g4⟩, -⟩ := HD.out
  refine ⟨rfl, ⟨?_, ?_, ?_, ?_⟩, (((((Below.refl N w).setCell g1 _).setCell g3 _).setCell g2 _).setCell g4 _).drew.drew, fun k hk => ?_⟩
  · show ((((w.setCell ⟨lb, 0, none⟩ _).setCell ⟨rb, 0, none⟩ _).setCell ⟨tb, 0, none⟩ _).setCell ⟨bb, 0, none⟩ _).heap[lb]? = _
    rw [Below.heap_setCell _ _ _ _ n3, Below.heap_setCell _ _ _ _ n1, Below.heap_setCell _ _ _ _ n2]
    exact heap_setCell_same w lb 0 #[.int .i64 l] 3 _ H1.out
  · show ((((w.setCell ⟨lb, 0, none⟩ _).setCell ⟨rb, 0, none⟩ _).setCell ⟨tb, 0, none⟩ _).setCell ⟨bb, 0, none⟩ _).heap[tb]? = _
    rw [Below.heap_setCell _ _ _ _ n5]
    exact heap_setCell_same _ tb 0 #[.int .i64 t] 3 _ (by rw [Below.heap_setCell _ _ _ _ n4, Below.heap_setCell _ _ _ _ m1]; exact H2.out)
  · show ((((w.setCell ⟨lb, 0, none⟩ _).setCell ⟨rb, 0, none⟩ _).setCell ⟨tb, 0, none⟩ _).setCell ⟨bb, 0, none⟩ _).heap[rb]? = _
    rw [Below.heap_setCell _ _ _ _ n6, Below.heap_setCell _ _ _ _ m4]
    exact heap_setCell_same _ rb 0 #[.int .i64 r] 3 _ (by rw [Below.heap_setCell _ _ _ _ m2]; exact H3.out)
  · show ((((w.setCell ⟨lb, 0, none⟩ _).setCell ⟨rb, 0, none⟩ _).setCell ⟨tb, 0, none⟩ _).setCell ⟨bb, 0, none⟩ _).heap[bb]? = _
    exact heap_setCell_same _ bb 0 #[.int .i64 b] 3 _ (by rw [Below.heap_setCell _ _ _ _ m5, Below.heap_setCell _ _ _ _ m6, Below.heap_setCell _ _ _ _ m3]; exact H4.out)
  · show ((((w.setCell ⟨lb, 0, none⟩ _).setCell ⟨rb, 0, none⟩ _).setCell ⟨tb, 0, none⟩ _).setCell ⟨bb, 0, none⟩ _).heap[k]? = _
    rw [Below.heap_setCell _ _ _ _ hk.2.2.2, Below.heap_setCell _ _ _ _ hk.2.1, Below.heap_setCell _ _ _ _ hk.2.2.1, Below.heap_setCell _ _ _ _ hk.1]

/-- The least and greatest places of what was seen. -/
def BndP (S : Nat → Nat → Prop) (W H : Nat) (l t r b : Int) : Prop :=
  (l = W ∧ t = H ∧ r = -1 ∧ b = -1 ∧ ∀ i j, ¬ S i j) ∨ (∃ L T R B : Nat, l = L ∧ t = T ∧ r = R ∧ b = B ∧ (∀ i j, S i j → (L ≤ i ∧ i ≤ R) ∧ T ≤ j ∧ j ≤ B) ∧ (∃ j, S L j) ∧ (∃ j, S R j) ∧ (∃ i, S i T) ∧ ∃ i, S i B)
/-- The ink that was seen ahead of a pixel. -/
def Seen (z : Nat → Bool) (W y x i j : Nat) : Prop := i < W ∧ (j < y ∨ (j = y ∧ i < x)) ∧ z (j * W + i) = true

theorem bndP_congr {S S' : Nat → Nat → Prop} {W H : Nat} {l t r b : Int} (h : BndP S W H l t r b) (e : ∀ i j, S i j ↔ S' i j) : BndP S' W H l t r b := by
  have e' : S = S' := funext fun i => funext fun j => propext (e i j)
  rw [← e']; exact h

theorem bndP_step {S S' : Nat → Nat → Prop} {W H x y : Nat} {l t r b : Int} (hx : x < W) (hy : y < H) (h : BndP S W H l t r b) (e : ∀ i j, S' i j ↔ S i j ∨ (i = x ∧ j = y)) : BndP S' W H (min l x) (min t y) (max r x) (max b y) := by
  rcases h with ⟨rfl, rfl, rfl, rfl, h0⟩ | ⟨L, T, R, B, rfl, rfl, rfl, rfl, hb, ⟨j1, h1⟩, ⟨j2, h2⟩, ⟨i3, h3⟩, i4, h4⟩
  · have hs : S' x y := (e x y).2 (.inr ⟨rfl, rfl⟩)
    refine .inr ⟨x, y, x, y, by omega, by omega, by omega, by omega, fun i j h => ?_, ⟨y, hs⟩, ⟨y, hs⟩, ⟨x, hs⟩, x, hs⟩
    rcases (e i j).1 h with h | ⟨rfl, rfl⟩
    · exact absurd h (h0 i j)
    · exact ⟨⟨Nat.le_refl _, Nat.le_refl _⟩, Nat.le_refl _, Nat.le_refl _⟩
  · have hs : S' x y := (e x y).2 (.inr ⟨rfl, rfl⟩)
    have up : ∀ i j, S i j → S' i j := fun i j h => (e i j).2 (.inl h)
    refine .inr ⟨min L x, min T y, max R x, max B y, by omega, by omega, by omega, by omega, fun i j h => ?_, ?_, ?_, ?_, ?_⟩
    · rcases (e i j).1 h with h | ⟨rfl, rfl⟩
      · have := hb i j h; omega
      · omega
    · by_cases c : L ≤ x
      · rw [Nat.min_eq_left c]; exact ⟨j1, up _ _ h1⟩
      · rw [Nat.min_eq_right (by omega)]; exact ⟨y, hs⟩
    · by_cases c : x ≤ R
      · rw [Nat.max_eq_left c]; exact ⟨j2, up _ _ h2⟩
      · rw [Nat.max_eq_right (by omega)]; exact ⟨y, hs⟩
    · by_cases c : T ≤ y
      · rw [Nat.min_eq_left c]; exact ⟨i3, up _ _ h3⟩
      · rw [Nat.min_eq_right (by omega)]; exact ⟨x, hs⟩
    · by_cases c : y ≤ B
      · rw [Nat.max_eq_left c]; exact ⟨i4, up _ _ h4⟩
      · rw [Nat.max_eq_right (by omega)]; exact ⟨x, hs⟩

theorem seen_row (z : Nat → Bool) (W y i j : Nat) : Seen z W y W i j ↔ Seen z W (y + 1) 0 i j := by
  unfold Seen
  constructor
  · rintro ⟨h1, h2, h3⟩; exact ⟨h1, by omega, h3⟩
  · rintro ⟨h1, h2, h3⟩; exact ⟨h1, by omega, h3⟩
theorem seen_no (z : Nat → Bool) (W y x i j : Nat) (h : z (y * W + x) = false) : Seen z W y x i j ↔ Seen z W y (x + 1) i j := by
  unfold Seen
  constructor
  · rintro ⟨h1, h2, h3⟩; exact ⟨h1, by omega, h3⟩
  · rintro ⟨h1, h2, h3⟩
    refine ⟨h1, ?_, h3⟩
    rcases h2 with h2 | ⟨rfl, h2⟩
    · exact .inl h2
    · by_cases e : i = x
      · subst e; rw [h] at h3; cases h3
      · exact .inr ⟨rfl, by omega⟩
theorem seen_yes (z : Nat → Bool) (W y x i j : Nat) (hx : x < W) (h : z (y * W + x) = true) : Seen z W y (x + 1) i j ↔ Seen z W y x i j ∨ (i = x ∧ j = y) := by
  unfold Seen
  constructor
  · rintro ⟨h1, h2, h3⟩
    by_cases e : i = x ∧ j = y
    · exact .inr e
    · exact .inl ⟨h1, by omega, h3⟩
  · rintro (⟨h1, h2, h3⟩ | ⟨rfl, rfl⟩)
    · exact ⟨h1, by omega, h3⟩
    · exact ⟨hx, .inr ⟨rfl, by omega⟩, h⟩

theorem bndP_end {z : Nat → Bool} {W H : Nat} {l t r b : Int} (h : BndP (Seen z W H 0) W H l t r b) :
    (r < 0 ∧ BoxIs z W H 0 0 0 0 false) ∨ (0 ≤ r ∧ BoxIs z W H l t (r - l + 1) (b - t + 1) true) := by
  rcases h with ⟨rfl, rfl, rfl, rfl, h0⟩ | ⟨L, T, R, B, rfl, rfl, rfl, rfl, hb, ⟨j1, h1⟩, ⟨j2, h2⟩, ⟨i3, h3⟩, i4, h4⟩
  · refine .inl ⟨by omega, .inl ⟨rfl, rfl, rfl, rfl, rfl, fun i j hi hj => ?_⟩⟩
    cases e : z (j * W + i)
    · rfl
    · exact absurd ⟨hi, .inl hj, e⟩ (h0 i j)
  · refine .inr ⟨by omega, .inr ⟨rfl, L, T, R, B, rfl, rfl, rfl, rfl, fun i j hi hj hz => hb i j ⟨hi, .inl hj, hz⟩, ⟨⟨j1, ?_, h1.2.2⟩, h1.1⟩, ⟨⟨j2, ?_, h2.2.2⟩, h2.1⟩, ⟨⟨i3, h3.1, h3.2.2⟩, ?_⟩, ⟨i4, h4.1, h4.2.2⟩, ?_⟩⟩
    · rcases h1.2.1 with e | ⟨_, e⟩ <;> omega
    · rcases h2.2.1 with e | ⟨_, e⟩ <;> omega
    · rcases h3.2.1 with e | ⟨_, e⟩ <;> omega
    · rcases h4.2.1 with e | ⟨_, e⟩ <;> omega

theorem four_new (w : World) (A0 A1 A2 A3 : Obj) :
    ((((w.alloc A0).alloc A1).alloc A2).alloc A3).drew.heap[w.heap.size]? = some A0 ∧ ((((w.alloc A0).alloc A1).alloc A2).alloc A3).drew.heap[w.heap.size + 1]? = some A1 ∧
    ((((w.alloc A0).alloc A1).alloc A2).alloc A3).drew.heap[w.heap.size + 1 + 1]? = some A2 ∧ ((((w.alloc A0).alloc A1).alloc A2).alloc A3).drew.heap[w.heap.size + 1 + 1 + 1]? = some A3 := by
  refine ⟨?_, ?_, ?_, ?_⟩
  · show ((((w.alloc A0).alloc A1).alloc A2).alloc A3).heap[w.heap.size]? = some A0
    rw [Below.heap_alloc _ _ _ (by simp <;> omega), Below.heap_alloc _ _ _ (by simp <;> omega), Below.heap_alloc _ _ _ (by simp)]
    exact heap_alloc_new _ _
  · show ((((w.alloc A0).alloc A1).alloc A2).alloc A3).heap[w.heap.size + 1]? = some A1
    rw [Below.heap_alloc _ _ _ (by simp <;> omega), Below.heap_alloc _ _ _ (by simp)]
    simpa using heap_alloc_new (w.alloc A0) A1
  · show ((((w.alloc A0).alloc A1).alloc A2).alloc A3).heap[w.heap.size + 1 + 1]? = some A2
    rw [Below.heap_alloc _ _ _ (by simp)]
    simpa using heap_alloc_new ((w.alloc A0).alloc A1) A2
  · show ((((w.alloc A0).alloc A1).alloc A2).alloc A3).heap[w.heap.size + 1 + 1 + 1]? = some A3
    simpa using heap_alloc_new (((w.alloc A0).alloc A1).alloc A2) A3

theorem box_range {z : Nat → Bool} {W H : Nat} {l t r b : Int} (h : BoxIs z W H l t (r - l + 1) (b - t + 1) true) : (0 ≤ l ∧ l < W ∧ 0 ≤ r ∧ r < W) ∧ 0 ≤ t ∧ t < H ∧ 0 ≤ b ∧ b < H := by
  rcases h with ⟨h, _⟩ | ⟨_, L, T, R, B, rfl, rfl, h1, h2, hb⟩
  · cases h
  · have := hb.2.1.2
    have := hb.2.2.1.2
    have := hb.2.2.2.1.2
    have := hb.2.2.2.2.2
    omega

theorem bounds_badPage (a b : Int) (p : Option Addr) (n c : Nat) (w : World) (h : pageErr a b n ≠ 0) :
    Calls Try.prog 99 #[.agg #[.int .i64 a, .int .i64 b, .slice p n c]] w fun e w' => e = .returned (.tuple #[.agg #[.int .i64 0, .int .i64 0, .int .i64 0, .int .i64 0], .int .i64 (pageErr a b n)]) ∧ Below w.heap.size w w' := by
  have h' : (pageErr a b n != 0) = true := by simpa using h
  clear h
  go_enter Try.func99, Try.ntmps99
  go_wp2_with ((go_at_call 25; refine (checkBits_any _ _ _ _ _ _).mono ?_; rintro e w' ⟨rfl, rfl⟩))
  refine bodyPost_ret (v := .tuple #[.agg #[.int .i64 0, .int .i64 0, .int .i64 0, .int .i64 0], .int .i64 (pageErr a b n)]) (by simp [results, Try.results99, go_sem]) rfl ⟨rfl, below_alloc (below_alloc (new_below _ _) _) _⟩

set_option maxHeartbeats 1000000 in
set_option maxRecDepth 100000 in
theorem bounds_ok (W H g o c : Nat) (z : Nat → Bool) (w : World) (hs : sizeErr W H = 0)
    (hp : ∀ j, j < W * H → w.cell? ⟨g, o + j, none⟩ = some (.bool (z j))) :
    Calls Try.prog 99 #[.agg #[.int .i64 W, .int .i64 H, .slice (some ⟨g, o, none⟩) (W * H) c]] w fun e w' =>
      ∃ X Y bw bh q, e = .returned (.tuple #[.agg #[.int .i64 X, .int .i64 Y, .int .i64 bw, .int .i64 bh], .int .i64 (if q then 0 else 10)]) ∧ BoxIs z W H X Y bw bh q ∧ Below w.heap.size w w' := by
  have hmf : ∀ (fn : Fn) (first cap : Array Value) (w : World), (Instr.makeFunc fn first cap).run Try.prog w = .ok (.func fn first cap) w := fun _ _ _ _ => rfl
  obtain ⟨⟨a1, a2, a3, a4⟩, z0, z1⟩ := sizeErr_zero hs
  have hpe : pageErr W H (W * H) = 0 := by unfold pageErr; rw [if_pos hs, if_pos (by simp [Int.natCast_mul])]
  have hgw : g < w.heap.size := by
    have := World.block_lt_of_cell? _ _ (hp 0 (Nat.mul_pos (by omega) (by omega)))
    simpa using this
  have HC := Lib.hid hp
  clear hp hs z0 z1
  go_enter Try.func99, Try.ntmps99
  go_upto_region 4 with ((go_at_call 25; refine (checkBits_any _ _ _ _ _ _).mono ?_; rintro e w' ⟨rfl, rfl⟩))
  obtain ⟨w3, hw3⟩ : ∃ w3, w3 = ((w.alloc (.cells #[.int .i64 W, .int .i64 H, .slice (some ⟨g, o, none⟩) (W * H) c] 40)).alloc (.cells #[.int .i64 0, .int .i64 0, .int .i64 0, .int .i64 0] 65)).alloc (.cells #[.int .i64 W, .int .i64 H, .slice (some ⟨g, o, none⟩) (W * H) c] 40) := ⟨_, rfl⟩
  have B3 : Below w.heap.size w w3 := by rw [hw3]; exact below_alloc (below_alloc (new_below _ _) _) _
  have q0 : w3.cell? ⟨w.heap.size, 0, none⟩ = some (.int .i64 W) := by rw [hw3]; go_simp
  have q1 : w3.cell? ⟨w.heap.size, 1, none⟩ = some (.int .i64 H) := by rw [hw3]; go_simp
  have q2 : w3.cell? ⟨w.heap.size, 2, none⟩ = some (.slice (some ⟨g, o, none⟩) (W * H) c) := by rw [hw3]; go_simp
  have qb : w3.heap[w.heap.size + 1]? = some (.cells #[.int .i64 0, .int .i64 0, .int .i64 0, .int .i64 0] 65 (0, 0)) := by
    rw [hw3, Below.heap_alloc _ _ _ (by simp)]
    simpa using heap_alloc_new (w.alloc (.cells #[.int .i64 W, .int .i64 H, .slice (some ⟨g, o, none⟩) (W * H) c] 40)) (.cells #[.int .i64 0, .int .i64 0, .int .i64 0, .int .i64 0] 65)
  have hsz : w3.heap.size = w.heap.size + 3 := by rw [hw3]; simp
  have l0 : w.heap.size < w3.heap.size := by omega
  have l1 : w.heap.size < w3.heap.size + 1 := by omega
  have l2 : w.heap.size < w3.heap.size + 1 + 1 := by omega
  have l3 : w.heap.size < w3.heap.size + 1 + 1 + 1 := by omega
  rw [← hw3]
  clear hw3 hpe
  have HB3 := Lib.hid B3
  have HQB := Lib.hid qb
  have HSZ := Lib.hid hsz
  clear B3 qb hsz
  go_cut [5, 6, 7, 8] from 9 (fun t5 t6 t7 t8 wx => ∃ lb tb rb bb : Nat, t5 = .pointer (some ⟨lb, 0, none⟩) ∧ t6 = .pointer (some ⟨tb, 0, none⟩) ∧ t7 = .pointer (some ⟨rb, 0, none⟩) ∧ t8 = .pointer (some ⟨bb, 0, none⟩) ∧ Hid (Apart4 w3.heap.size lb tb rb bb ∧ Four lb tb rb bb W H (-1) (-1) wx ∧ Below w3.heap.size w3 wx))
  case first =>
    go_region
    all_goals
      go_wp2_with fail
      go_meet
      case rel =>
        refine ⟨_, _, _, _, rfl, rfl, rfl, rfl, Lib.hid ⟨⟨⟨?_, ?_, ?_, ?_⟩, ⟨?_, ?_, ?_⟩, ⟨?_, ?_⟩, ?_⟩, ?_, (below_alloc (below_alloc (below_alloc (new_below _ _) _) _) _).drew⟩⟩
        all_goals first | omega | skip
        obtain ⟨f0, f1, f2, f3⟩ := four_new w3 _ _ _ _
        refine ⟨?_, ?_, ?_, ?_⟩
        all_goals with_reducible first | exact f0 | exact f1 | exact f2 | exact f3
  case rest =>
    obtain ⟨w4, rfl⟩ : ∃ w4, w4 = wc := ⟨_, rfl⟩
    obtain ⟨lb, tb, rb, bb, rfl, rfl, rfl, rfl, HF⟩ := hcut
    have HA := Lib.hid HF.out.1
    have HB4 := Lib.hid HF.out.2.2
    have HFo := Lib.hid HF.out.2.1
    clear HF
    have k0 := cell_later HB4.out q0
    have k1 := cell_later HB4.out q1
    have k2 := cell_later HB4.out q2
    clear q0 q1 q2
    go_wp2_with fail
    refine (eachInk_any W H g o c 126 #[.pointer (some ⟨lb, 0, none⟩), .pointer (some ⟨rb, 0, none⟩), .pointer (some ⟨tb, 0, none⟩), .pointer (some ⟨bb, 0, none⟩)] z (fun y x wx => ∃ l t r b : Int, Four lb tb rb bb l t r b wx ∧ BndP (Seen z W y x) W H l t r b ∧ Below w3.heap.size w4 wx) (fun k => k ≠ lb ∧ k ≠ tb ∧ k ≠ rb ∧ k ≠ bb) w4 ⟨by omega, by omega⟩ ⟨by omega, by omega⟩ (Go.Proofs.enters_of Try.func126 (by kernel_rfl) rfl) (fun j hj => cell_later HB4.out (cell_later HB3.out (HC.out j hj))) ?_ ?_ ?_ ?_ ?_ ?_).mono ?_
    · obtain ⟨⟨g1, g2, g3, g4⟩, -⟩ := HA.out
      omega
    · obtain ⟨e1, e2, e3, e4⟩ := HFo.out
      have b1 := (Array.getElem?_eq_some_iff.1 e1).1
      have b2 := (Array.getElem?_eq_some_iff.1 e2).1
      have b3 := (Array.getElem?_eq_some_iff.1 e3).1
      have b4 := (Array.getElem?_eq_some_iff.1 e4).1
      omega
    · obtain ⟨e1, e2, e3, e4⟩ := HFo.out
      have nb := new_below w4 (.cells #[.int .i64 W, .int .i64 H, .slice (some ⟨g, o, none⟩) (W * H) c] 40)
      refine ⟨W, H, -1, -1, ⟨below_block nb e1, below_block nb e2, below_block nb e3, below_block nb e4⟩, .inl ⟨rfl, rfl, rfl, rfl, fun i j h => ?_⟩, (Below.refl _ _).alloc HB4.out.size _⟩
      obtain ⟨-, h, -⟩ := h
      omega
    · rintro y wx hy ⟨l, t, r, b, h1, h2, h3⟩
      exact ⟨l, t, r, b, h1, bndP_congr h2 (seen_row z W y), h3⟩
    · rintro y x wx hx hy hz ⟨l, t, r, b, h1, h2, h3⟩
      exact ⟨l, t, r, b, h1, bndP_congr h2 fun i j => seen_no z W y x i j hz, h3⟩
    · rintro y x wx hx hy hz ⟨l, t, r, b, h1, h2, h3⟩
      refine (bounds1_any x y w3.heap.size lb tb rb bb l t r b wx HA.out h1).mono ?_
      rintro e w' ⟨rfl, h1', hb', hk'⟩
      exact ⟨rfl, ⟨_, _, _, _, h1', bndP_step hx hy h2 fun i j => seen_yes z W y x i j hx hz, h3.trans hb'⟩, hk'⟩
    · rintro e w5 ⟨rfl, l, t, r, b, h1, h2, h3⟩
      have hend := bndP_end h2
      obtain ⟨c1, f1⟩ := block1 h1.1
      obtain ⟨c2, f2⟩ := block1 h1.2.1
      obtain ⟨c3, f3⟩ := block1 h1.2.2.1
      obtain ⟨c4, f4⟩ := block1 h1.2.2.2
      have qb5 : w5.heap[w.heap.size + 1]? = _ := (h3.block _ (by have := HSZ.out; omega)).trans ((HB4.out.block _ (by have := HSZ.out; omega)).trans HQB.out)
      obtain ⟨⟨j0, j1, j2, j3⟩, r0, r1, r2, r3⟩ := block4 qb5
      have lb5 := (Array.getElem?_eq_some_iff.1 qb5).1
      have HB5 := Lib.hid ((HB3.out.trans (HB4.out.mono (by omega))).trans (h3.mono (by omega)))
      have hd := HA.out
      clear qb5 h1 h2 h3 k0 k1 k2
      obtain ⟨⟨g1, g2, g3, g4⟩, -⟩ := hd
      have hsz := HSZ.out
      have n1 : lb ≠ w.heap.size + 1 := by omega
      have n2 : tb ≠ w.heap.size + 1 := by omega
      have n3 : rb ≠ w.heap.size + 1 := by omega
      have n4 : bb ≠ w.heap.size + 1 := by omega
      clear hsz
      rcases hend with ⟨hr, hB⟩ | ⟨hr, hB⟩
      · have HE := Lib.hid hB
        clear hB
        go_wp2_with fail
        refine bodyPost_ret (v := .tuple #[.agg #[.int .i64 0, .int .i64 0, .int .i64 0, .int .i64 0], .int .i64 10]) (by simp [results, Try.results99, go_sem, j0, j1, j2, j3]) rfl ⟨0, 0, 0, 0, false, rfl, HE.out, ?_⟩
        exact (((HB5.out.setCell (by simp) _).setCell (by simp) _).setCell (by simp) _).setCell (by simp) _
      · have HE := Lib.hid hB
        obtain ⟨⟨v1, v2, v3, v4⟩, v5, v6, v7, v8⟩ := box_range hB
        clear hB
        go_wp2_with fail
        refine bodyPost_ret (v := .tuple #[.agg #[.int .i64 l, .int .i64 t, .int .i64 (r - l + 1), .int .i64 (b - t + 1)], .int .i64 0]) (by simp [results, Try.results99, go_sem, j0, j1, j2, j3]) rfl ⟨_, _, _, _, true, rfl, HE.out, ?_⟩
        exact (((HB5.out.setCell (by simp) _).setCell (by simp) _).setCell (by simp) _).setCell (by simp) _

/-- The error of Bounds. -/
def bndErr (E : Int) (q : Bool) : Int := if E = 0 then (if q then 0 else 10) else E

theorem bounds_any (a b : Int) (s : Option Addr) (n c : Nat) (z : Nat → Bool) (w : World) (hs : IsBools w s n c z) :
    Calls Try.prog 99 #[.agg #[.int .i64 a, .int .i64 b, .slice s n c]] w fun e w' =>
      ∃ X Y bw bh q, e = .returned (.tuple #[.agg #[.int .i64 X, .int .i64 Y, .int .i64 bw, .int .i64 bh], .int .i64 (bndErr (pageErr a b n) q)]) ∧ ((pageErr a b n ≠ 0 ∧ X = 0 ∧ Y = 0 ∧ bw = 0 ∧ bh = 0) ∨ (pageErr a b n = 0 ∧ BoxIs z a.toNat b.toNat X Y bw bh q)) ∧ Below w.heap.size w w' := by
  by_cases h : pageErr a b n = 0
  · obtain ⟨W, H, rfl, rfl, hn, w1, w2, h1, h2, hN, he⟩ := page_nat h
    obtain ⟨g, o, rfl, hc⟩ := isBools_cells hs (by rw [hn]; exact Nat.mul_pos w1 h1)
    subst hn
    refine (bounds_ok W H g o c z w he hc).mono ?_
    rintro e w' ⟨X, Y, bw, bh, q, rfl, hB, hbel⟩
    exact ⟨X, Y, bw, bh, q, by rw [h]; rfl, .inr ⟨h, hB⟩, hbel⟩
  · refine (bounds_badPage a b s n c w h).mono ?_
    rintro e w' ⟨rfl, hbel⟩
    exact ⟨0, 0, 0, 0, false, by unfold bndErr; rw [if_neg h], .inl ⟨h, rfl, rfl, rfl, rfl⟩, hbel⟩

end Go.Proofs.Ytofcojcfcpfdmaa
namespace Go.Proofs.Ytofcojcfcpfdmaa
open Go.RowKit
set_option linter.unusedSimpArgs false
set_option linter.unusedVariables false

/-- Whether there is ink. -/
def anyInk (z : Nat → Bool) (n : Nat) : Bool := (List.range n).any z
theorem anyInk_true {z : Nat → Bool} {n k : Nat} (hk : k < n) (h : z k = true) : anyInk z n = true := by
  unfold anyInk; rw [List.any_eq_true]; exact ⟨k, List.mem_range.2 hk, h⟩
theorem anyInk_false {z : Nat → Bool} {n : Nat} (h : ∀ k, k < n → z k = false) : anyInk z n = false := by
  unfold anyInk; rw [List.any_eq_false]; intro x hx; rw [h x (List.mem_range.1 hx)]; simp
theorem box_any {z : Nat → Bool} {W H : Nat} {X Y bw bh : Int} {q : Bool} (hW : 1 ≤ W) (h : BoxIs z W H X Y bw bh q) : q = anyInk z (W * H) := by
  rcases h with ⟨rfl, _, _, _, _, h⟩ | ⟨rfl, L, T, R, B, _, _, _, _, hb⟩
  · rw [anyInk_false]
    intro k hk
    have h1 := h (k % W) (k / W) (Nat.mod_lt _ (by omega)) (Nat.div_lt_of_lt_mul hk)
    rw [Nat.mul_comm, Nat.div_add_mod] at h1
    exact h1
  · obtain ⟨_, ⟨⟨j, hj, hz⟩, hL⟩, _⟩ := hb
    have hfit := row_fits hj (show L + 1 ≤ W by omega)
    rw [anyInk_true (k := j * W + L) (by omega) hz]

def inkErr (q : Bool) : Int := if q then 0 else 10
def findErr (E most : Int) (q : Bool) : Int := if E = 0 then (if 0 ≤ most ∧ most ≤ 256 then (if q then 0 else 10) else 3) else E

theorem checkFind_any (a b most : Int) (s : Option Addr) (k c : Nat) (z : Nat → Bool) (w : World) (hs : IsBools w s k c z) :
    Calls Try.prog 115 #[.agg #[.int .i64 a, .int .i64 b, .slice s k c], .int .i64 most] w fun e w' => e = .returned (.int .i64 (findErr (pageErr a b k) most (anyInk z k))) ∧ Below w.heap.size w w' := by
  by_cases hp : pageErr a b k = 0
  · have t1 : (pageErr a b k != 0) = false := by simpa using hp
    by_cases hn : 0 ≤ most ∧ most ≤ 256
    · have H1 := Lib.hid hn
      have e : findErr (pageErr a b k) most (anyInk z k) = inkErr (anyInk z k) := by unfold findErr; rw [if_pos hp, if_pos hn]; rfl
      rw [e]
      have HS := Lib.hid hs
      have HPE := Lib.hid hp
      clear hn e hp hs
      go_enter Try.func115, Try.ntmps115
      go_wp2_with (first | (go_at_call 25; refine (checkBits_any _ _ _ _ _ _).mono ?_; rintro e w' ⟨rfl, rfl⟩) | (go_at_call 56; refine (outsideS_no _ _ _ _ H1.out).mono ?_; rintro e w' ⟨rfl, rfl⟩))
      obtain ⟨w1, hw1⟩ : ∃ w1, w1 = (w.alloc (.cells #[.int .i64 a, .int .i64 b, .slice s k c] 40)).alloc (.cells #[.int .i64 a, .int .i64 b, .slice s k c] 40) := ⟨_, rfl⟩
      have B1 := Lib.hid (show Below w.heap.size w w1 by rw [hw1]; exact below_alloc (new_below _ _) _)
      rw [← hw1]
      clear hw1
      refine (bounds_any a b s k c z w1 (isBools_later HS.out B1.out)).mono ?_
      rintro e w2 ⟨X, Y, bw, bh, q, rfl, hb, hb2⟩
      have hq : bndErr (pageErr a b k) q = inkErr (anyInk z k) := by
        obtain ⟨W, H, rfl, rfl, hn, w1, _, _, _, _, _⟩ := page_nat HPE.out
        rcases hb with h | ⟨_, h⟩
        · exact absurd HPE.out h.1
        · rw [Int.toNat_natCast, Int.toNat_natCast] at h
          unfold bndErr
          rw [if_pos HPE.out, box_any w1 h, ← hn]; rfl
      rw [hq]
      have G := Lib.hid (below_step B1.out hb2)
      obtain ⟨v, hv⟩ : ∃ v : Int, v = inkErr (anyInk z k) := ⟨_, rfl⟩
      rw [← hv]
      have HV := Lib.hid hv
      clear hb hb2 hq hv
      go_wp2_with fail
      go_ret
      exact ⟨ret_int HV.out, below_alloc G.out _⟩
    · have H1 := Lib.hid hn
      have e : findErr (pageErr a b k) most (anyInk z k) = 3 := by unfold findErr; rw [if_pos hp, if_neg hn]
      rw [e]
      clear hn e hp
      go_enter Try.func115, Try.ntmps115
      go_wp2_with (first | (go_at_call 25; refine (checkBits_any _ _ _ _ _ _).mono ?_; rintro e w' ⟨rfl, rfl⟩) | (go_at_call 56; refine (outsideS_yes _ _ _ _ H1.out).mono ?_; rintro e w' ⟨rfl, rfl⟩))
      go_ret
      exact ⟨rfl, below_alloc (new_below _ _) _⟩
  · have t1 : (pageErr a b k != 0) = true := by simpa using hp
    have e : findErr (pageErr a b k) most (anyInk z k) = pageErr a b k := by unfold findErr; rw [if_neg hp]
    rw [e]
    clear e hp
    go_enter Try.func115, Try.ntmps115
    go_wp2_with (first | (go_at_call 25; refine (checkBits_any _ _ _ _ _ _).mono ?_; rintro e w' ⟨rfl, rfl⟩))
    go_ret
    exact ⟨rfl, below_alloc (new_below _ _) _⟩

/-- The score of a number: the squares of the profile behind leaning back. -/
def scoreV (q : Nat → Nat → Bool) (W h : Nat) (n : Int) : Int := (sqSum (profV q W h (-n)) (2 * h) : Int)

theorem find1_any (W h pb hb wb cb bb ab M : Nat) (n : Int) (q : Nat → Nat → Bool) (w : World) (hW : 1 ≤ W ∧ W ≤ 4000) (hh : 1 ≤ h ∧ h ≤ 4000) (hN : W * h ≤ 1048576) (hM : M = (W + 1) * h) (hn : -256 ≤ n ∧ n ≤ 256)
    (h0 : w.cell? ⟨pb, 0, none⟩ = some (.func (.func 146) #[] #[.pointer (some ⟨hb, 0, none⟩), .pointer (some ⟨wb, 0, none⟩), .pointer (some ⟨cb, 0, none⟩)])) (hP : Prof W h q hb wb cb bb ab M w) :
    Calls Try.prog 117 #[.int .i64 n, .pointer (some ⟨pb, 0, none⟩)] w fun e w' => e = .returned (.int .i64 (scoreV q W h n)) ∧ Below w.heap.size w w' := by
  have HC := Lib.hid (profile_any W h hb wb cb bb ab M (-n) q w hW hh hN hM (by omega) hP)
  obtain ⟨s, hs⟩ : ∃ s, s = scoreV q W h n := ⟨_, rfl⟩
  rw [← hs]
  obtain ⟨n1, n2⟩ := hn
  have HS := Lib.hid hs
  clear hs hP hM
  go_enter Try.func117, Try.ntmps117
  go_wp2_with fail
  refine HC.out.mono ?_
  rintro e w2 ⟨v, rfl, hown, hb2⟩
  obtain ⟨pg, pc, rfl, _, hcell⟩ := owns_ints hown (by omega)
  have HCE := Lib.hid hcell
  have G := Lib.hid hb2
  clear hb2 hown hcell
  go_wp2_with fail
  refine (squares_any (2 * h) pg 0 pc (profV q W h (-n)) w2 (by omega) (fun j => Nat.le_trans (profUp_le _ _ _ _ _ _) hW.2) HCE.out).mono ?_
  rintro e w3 ⟨rfl, rfl⟩
  rw [show ((sqSum (profV q W h (-n)) (2 * h) : Nat) : Int) = s from HS.out.symm]
  go_wp2_with fail
  go_ret
  exact ⟨rfl, G.out⟩

set_option maxHeartbeats 800000 in
theorem find_ok (W H g o c most : Nat) (z : Nat → Bool) (w : World) (hs : sizeErr W H = 0) (hm : most ≤ 256) (hi : anyInk z (W * H) = true) (hp : ∀ j, j < W * H → w.cell? ⟨g, o + j, none⟩ = some (.bool (z j))) (hB : IsBools w (some ⟨g, o, none⟩) (W * H) c z) :
    Calls Try.prog 77 #[.agg #[.int .i64 W, .int .i64 H, .slice (some ⟨g, o, none⟩) (W * H) c], .int .i64 most] w fun e w' =>
      e = .returned (.tuple #[.int .i64 (bestUp (scoreV (inkQ z W) W H) most).1, .int .i64 0]) ∧ Below w.heap.size w w' := by
  have hmf : ∀ (fn : Fn) (first cap : Array Value) (w : World), (Instr.makeFunc fn first cap).run Try.prog w = .ok (.func fn first cap) w := fun _ _ _ _ => rfl
  obtain ⟨⟨a1, a2, a3, a4⟩, a5, a6⟩ := sizeErr_zero hs
  have hpe : pageErr W H (W * H) = 0 := by unfold pageErr; rw [if_pos hs, if_pos (by simp [Int.natCast_mul])]
  have hN : W * H ≤ 1048576 := by rw [← Int.natCast_mul] at a6; omega
  have hq : findErr (pageErr W H (W * H)) most (anyInk z (W * H)) = 0 := by unfold findErr; rw [if_pos hpe, if_pos (by omega), if_pos hi]
  have HQ := Lib.hid hq
  have HC := Lib.hid hp
  have HB := Lib.hid hB
  have bW : 1 ≤ W ∧ W ≤ 4000 := by omega
  have bH : 1 ≤ H ∧ H ≤ 4000 := by omega
  clear hp hq hpe a5 a6 hs hi hB
  go_enter Try.func77, Try.ntmps77
  go_wp2_with fail
  obtain ⟨w1, hw1⟩ : ∃ w1, w1 = w.alloc (.cells #[.int .i64 W, .int .i64 H, .slice (some ⟨g, o, none⟩) (W * H) c] 40) := ⟨_, rfl⟩
  have B1 : Below w.heap.size w w1 := by rw [hw1]; exact new_below _ _
  have q0 : w1.heap[w.heap.size]? = some (.cells #[.int .i64 W, .int .i64 H, .slice (some ⟨g, o, none⟩) (W * H) c] 40 (0, 0)) := by rw [hw1]; exact heap_alloc_new _ _
  rw [← hw1]
  clear hw1
  refine (checkFind_any W H most (some ⟨g, o, none⟩) (W * H) c z w1 (isBools_later HB.out B1)).mono ?_
  rintro e w2 ⟨rfl, hb2⟩
  rw [HQ.out]
  obtain ⟨p0, p1, p2, _, _, _⟩ := block3 (below_block hb2 q0)
  have G2 := Lib.hid (below_step B1 hb2)
  clear hb2 B1 q0
  go_wp2_with fail
  refine (rowProfiles_any W H g o c z w2 bW bH hN (fun j hj => cell_later G2.out (HC.out j hj))).mono ?_
  rintro e w3 ⟨hb, wb, cb, bb, ab, rfl, hP, hb3⟩
  have P3 := Lib.hid hP
  have G3 := Lib.hid (below_step G2.out hb3)
  clear hP hb3 p0 p1 p2
  go_upto_region 5 with (fail)
  obtain ⟨w4, hw4⟩ : ∃ w4, w4 = w3.alloc (.cells #[.func (.func 146) #[] #[.pointer (some ⟨hb, 0, none⟩), .pointer (some ⟨wb, 0, none⟩), .pointer (some ⟨cb, 0, none⟩)]] 105) := ⟨_, rfl⟩
  have B4 : Below w3.heap.size w3 w4 := by rw [hw4]; exact new_below _ _
  have k0 : w4.cell? ⟨w3.heap.size, 0, none⟩ = some (.func (.func 146) #[] #[.pointer (some ⟨hb, 0, none⟩), .pointer (some ⟨wb, 0, none⟩), .pointer (some ⟨cb, 0, none⟩)]) := by rw [hw4]; go_simp
  rw [← hw4]
  clear hw4
  have K0 := Lib.hid k0
  have P4 := Lib.hid (P3.out.later B4)
  have G4 := Lib.hid (below_step G3.out B4)
  clear k0 B4
  go_wp2_with fail
  refine (best_any most 117 _ (scoreV (inkQ z W) W H) w4 hm (Go.Proofs.enters_of Try.func117 (by kernel_rfl) rfl) ?_).mono ?_
  · intro n wx h1 h2 hbx
    exact find1_any W H w3.heap.size hb wb cb bb ab _ n (inkQ z W) wx bW bH hN rfl (by omega) (cell_later hbx K0.out) (P4.out.later hbx)
  · rintro e w5 ⟨rfl, hb5⟩
    obtain ⟨F, hF⟩ : ∃ F, F = (bestUp (scoreV (inkQ z W) W H) most).1 := ⟨_, rfl⟩
    rw [← hF]
    have G5 := Lib.hid (below_step G4.out hb5)
    have HF := Lib.hid hF
    clear hb5 hF
    go_wp2_with fail
    go_ret2
    exact ⟨by rw [HF.out]; rfl, G5.out⟩

end Go.Proofs.Ytofcojcfcpfdmaa
namespace Go.Proofs.Ytofcojcfcpfdmaa
open Go.ChangeShapes Go.WideShapes Go.ChangeAt Go.RowKit Go.Joins
open Go.ChangeMaps (open_string shut_string)
set_option linter.unusedVariables false

set_option maxRecDepth 100000 in
/-- A page in black and white by value, opened. -/
theorem open_bitsN {W : World} {H : Type} {enc : TypeId × Value → H} {base : Nat} {held : Bool} {r : Reach} {b0 : Nat} {v : Value} {d : DataW H} {p : List MemPlace}
    (hv : Value.okWide Try.prog W r b0 40 v) (h : DataW.Trod enc Try.prog W base (fun _ => true) held 40 v d p) :
    ∃ a b s n c B, v = .agg #[.int .i64 a, .int .i64 b, .slice s n c] ∧ IsBools W s n c B ∧ n ≤ 9223372036854775807 := by
  obtain ⟨c0, c1, c2, y0, y1, y2, m, rfl, rfl, rfl, hy0, hy1, hy2⟩ := open_agg3 Try.underlying40 (by kernel_rfl) cellsBits hv h
  obtain ⟨a, e0, rfl, wa⟩ := DataW.trod_int Try.underlying3 hy0
  obtain ⟨b, e1, rfl, wb⟩ := DataW.trod_int Try.underlying3 hy1
  simp at e0 e1
  subst e0 e1
  rcases Go.Deep.open_bools Try.underlying38 Try.underlying4 cellsBool hy2 with ⟨hcs, _⟩ | ⟨x, l, c, B, hcs, _, hl, hm, _, hcell⟩
  · simp at hcs
    subst hcs
    exact ⟨a, b, none, 0, 0, fun _ => false, rfl, .inl ⟨rfl, rfl, rfl⟩, by decide⟩
  · simp at hcs
    subst hcs
    exact ⟨a, b, some x, l, c, B, rfl, .inr ⟨x, rfl, fun i hi => hcell i (by omega)⟩, by unfold maxLen at hm; omega⟩

end Go.Proofs.Ytofcojcfcpfdmaa
namespace Go.Proofs.Ytofcojcfcpfdmaa
open Go.RowKit
set_option linter.unusedSimpArgs false
set_option linter.unusedVariables false

/-- The mean of the pixels of a square of two by two from (2x, 2y) on, as far as they are there. -/
def mean4 (P : Nat → Int) (W H x y : Nat) : Int :=
  (2 * rectSum P W (2 * y) (2 * x) (min (2 * x + 2) W - 2 * x) (min (2 * y + 2) H - 2 * y) + (((min (2 * x + 2) W - 2 * x) * (min (2 * y + 2) H - 2 * y) : Nat) : Int)) / (2 * (((min (2 * x + 2) W - 2 * x) * (min (2 * y + 2) H - 2 * y) : Nat) : Int))

end Go.Proofs.Ytofcojcfcpfdmaa
