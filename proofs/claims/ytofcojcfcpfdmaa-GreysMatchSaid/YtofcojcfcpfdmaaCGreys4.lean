/-
  What greys_holds leans on: contracts of the functions that it calls.
-/
import Derived.Test.YtofcojcfcpfdmaaRows
import Derived.WalkKit
import Derived.WalkSpells
import Derived.WalkLawsBesides
import Derived.Lib.Hide
import Derived.Deep.RegionHeld3
import Derived.Shelf.Abstract
import Derived.Lib.MinMax
import Derived.Deep.QuietTactic
import Derived.BigQuiet
import Derived.Deep.CutRange
import Derived.Deep.DeepCutAuto
import Derived.Laws.EntriesVeiled
import Derived.StillTailTactics
import Derived.Deep.AppendLies
import Derived.Deep.DrawnRows
import Derived.Deep.RegionLaw
import Derived.ProofKit
import Derived.OpenShut
import Derived.ShutString
import Derived.ChangeOld
import Derived.Lib.SmallJoins
import Derived.Deep.Grids
import Derived.RegionTactic
import Derived.ChangeAlike
import Derived.BigRegion
import Derived.Shelf.Sort.Plain
import Derived.Test.YtofcojcfcpfdmaaProg
import Derived.Maps.OwnOps
import Derived.Maps.OwnSet
import Derived.DeepKeys4
import Derived.Test.YtofcojcfcpfdmaaCGreys3
namespace Go.Proofs.Ytofcojcfcpfdmaa
open Go.RowKit
set_option linter.unusedSimpArgs false
set_option linter.unusedVariables false

theorem middle_range (a b r : Int) (p : Option Addr) (n c : Nat) (w : World) (h : pageErr a b n = 0) (hr : ¬ (0 ≤ r ∧ r ≤ 5)) :
    Calls Try.prog 15 #[.agg #[.int .i64 a, .int .i64 b, .slice p n c], .int .i64 r] w fun e w' => e = .returned (.tuple #[.agg #[.int .i64 0, .int .i64 0, .slice none 0 0], .int .i64 3]) ∧ Below w.heap.size w w' := by
  have H1 := Lib.hid hr
  clear hr
  go_enter Try.func15, Try.ntmps15
  go_wp2_with (first | (go_at_call 55; refine (checkGray_any _ _ _ _ _ _).mono ?_; rintro e w' ⟨rfl, rfl⟩) | (go_at_call 56; (with_reducible refine (outside_yes r 0 5 _ H1.out).mono ?_); rintro e w' ⟨rfl, rfl⟩))
  refine bodyPost_ret (v := .tuple #[.agg #[.int .i64 0, .int .i64 0, .slice none 0 0], .int .i64 3]) (by simp [results, Try.results15, go_sem]) rfl ⟨rfl, below_alloc (below_alloc (new_below _ _) _) _⟩

set_option maxHeartbeats 1000000 in
set_option maxRecDepth 100000 in
theorem middle_ok (W H pb po c r : Nat) (P : Nat → Int) (w : World) (he : sizeErr W H = 0) (hr : r ≤ 5) (hP : ∀ j, 0 ≤ P j ∧ P j ≤ 255)
    (hp : ∀ j, j < W * H → w.cell? ⟨pb, po + j, none⟩ = some (.int .u8 (P j))) :
    Calls Try.prog 15 #[.agg #[.int .i64 W, .int .i64 H, .slice (some ⟨pb, po, none⟩) (W * H) c], .int .i64 r] w fun e w' =>
      ∃ v, e = .returned (.tuple #[.agg #[.int .i64 W, .int .i64 H, v], .int .i64 0]) ∧ w'.ownsRow w.heap.size 5 1 v (W * H) ((places W (midV P W H r) (W * H)).map (Value.int .u8)) ∧ Below w.heap.size w w' := by
  obtain ⟨⟨a1, a2, a3, a4⟩, a5, a6⟩ := sizeErr_zero he
  have hpe : pageErr W H (W * H) = 0 := by unfold pageErr; rw [if_pos he, if_pos (by simp [Int.natCast_mul])]
  have hN : W * H ≤ 1048576 := by rw [← Int.natCast_mul] at a6; omega
  clear a5 a6 he
  obtain ⟨i0, hi0, hz0, hz1, hz2⟩ := info_parts info_byte
  have hpos : 1 ≤ W * H := Nat.mul_pos (by omega) (by omega)
  have hpw : pb < w.heap.size := by have := World.block_lt_of_cell? _ _ (hp 0 (by omega)); simpa using this
  have HP := Lib.hid hP
  have HC := Lib.hid hp
  have H1 := Lib.hid (show (0 : Int) ≤ (r : Int) ∧ (r : Int) ≤ 5 by omega)
  clear hp hP
  go_enter Try.func15, Try.ntmps15
  go_upto_region 6 with (first | (go_at_call 55; refine (checkGray_any _ _ _ _ _ _).mono ?_; rintro e w' ⟨rfl, rfl⟩) | (go_at_call 56; (with_reducible refine (outside_no (r : Int) 0 5 _ H1.out).mono ?_); rintro e w' ⟨rfl, rfl⟩))
  obtain ⟨w3, hw3⟩ : ∃ w3, w3 = (((w.alloc (.cells #[.int .i64 W, .int .i64 H, .slice (some ⟨pb, po, none⟩) (W * H) c] 24)).alloc (.cells #[.int .i64 0, .int .i64 0, .slice none 0 0] 24)).alloc (.cells #[.int .i64 W, .int .i64 H, .slice (some ⟨pb, po, none⟩) (W * H) c] 24)) := ⟨_, rfl⟩
  have B3 : Below w.heap.size w w3 := by rw [hw3]; exact below_alloc (below_alloc (new_below _ _) _) _
  have b0 : w3.heap[w.heap.size]? = some (.cells #[.int .i64 W, .int .i64 H, .slice (some ⟨pb, po, none⟩) (W * H) c] 24 (0, 0)) := by
    rw [hw3, Below.heap_alloc _ _ _ (by simp; omega), Below.heap_alloc _ _ _ (by simp)]
    exact heap_alloc_new w _
  have b1 : w3.heap[w.heap.size + 1]? = some (.cells #[.int .i64 0, .int .i64 0, .slice none 0 0] 24 (0, 0)) := by
    rw [hw3, Below.heap_alloc _ _ _ (by simp)]
    simpa using heap_alloc_new (w.alloc (.cells #[.int .i64 W, .int .i64 H, .slice (some ⟨pb, po, none⟩) (W * H) c] 24)) (.cells #[.int .i64 0, .int .i64 0, .slice none 0 0] 24)
  have hs3 : w3.heap.size = w.heap.size + 3 := by rw [hw3]; simp
  rw [← hw3]
  clear hw3
  obtain ⟨q0, q1, q2, _, _, _⟩ := block3 b0
  have B0 := Lib.hid b0
  have B1 := Lib.hid b1
  have HB3 := Lib.hid B3
  have HS3 := Lib.hid hs3
  clear b0 b1 B3 hs3
  go_wp2_with (at_make; refine wpList_make_own _ rfl _ _ 22 rfl w3.heap.size 5 i0 (.int .u8 0) 1 Try.underlying22 hi0 hz0 hz1 _ _ _ (W * H) rfl rfl (by rw [Int.natCast_mul]) (by rw [hz2]; omega) (by unfold maxLen; omega) (Nat.le_refl _) ?_)
  intro w4 hown4 hgr4
  have hb4 : Below w3.heap.size w3 w4 := (Below.refl _ _).grown hgr4 (Nat.le_refl _) (by simp)
  have k0 := cell_later hb4 q0
  have k1 := cell_later hb4 q1
  have k2 := cell_later hb4 q2
  have R0 := Lib.hid (show _ ∧ _ from ⟨hown4, hb4⟩)
  clear hown4 hgr4 hb4 q0 q1 q2
  go_wp2_with fail
  go_loopw [7, 24] (fun v i wr => ∃ y : Nat, y ≤ H ∧ i = .int .i64 y ∧ Hid (wr.ownsRow w3.heap.size 5 1 v (y * W) ((places W (midV P W H r) (y * W)).map (Value.int .u8)) ∧ Below w3.heap.size w3 wr)) (fun _ i _ => H - (intOf i).toNat)
  case atStart => exact ⟨0, Nat.zero_le _, rfl, by simpa [places] using R0⟩
  case round =>
    obtain ⟨y, hy, rfl, HR⟩ := hrel
    clear R0 k0 k1 k2
    obtain ⟨q0, q1, q2, _, _, _⟩ := block3 (below_block HR.out.2 B0.out)
    by_cases hlt : y < H
    · go_wp2_with fail
      refine (appendMiddles_any W H pb po c r y w3.heap.size P _ wr ⟨by omega, by omega⟩ (by omega) hN hlt hr HP.out HR.out.2.size (by have := HS3.out; omega) HR.out.1 (fun j hj => (HR.out.2.cell (p := ⟨pb, po + j, none⟩) (by have := HS3.out; simp; omega)).trans (cell_later HB3.out (HC.out j hj)))).mono ?_
      rintro e w5 ⟨v', rfl, hown5, hb5⟩
      have R5 := Lib.hid (show _ ∧ _ from ⟨hown5, HR.out.2.trans hb5⟩)
      clear hown5 hb5
      go_wp2_with fail
      go_roundw
      case rel => exact ⟨y + 1, by omega, by go_num, R5⟩
      case measure => simp [intOf]; omega
    · have hye : y = H := by omega
      subst hye
      have F := Lib.hid HR.out.1
      have G := Lib.hid (below_step HB3.out HR.out.2)
      obtain ⟨va, vn, vc, hv⟩ := owns_shape F.out
      subst hv
      obtain ⟨j0, j1, j2, r0, r1, r2⟩ := block3 (below_block HR.out.2 B1.out)
      have hs3 := HS3.out
      go_wp2_with fail
      refine bodyPost_ret (v := .tuple #[.agg #[.int .i64 W, .int .i64 y, .slice va vn vc], .int .i64 0]) (by simp [results, Try.results15, go_sem, j0, j1, j2]) rfl ⟨_, rfl, ?_, below_far3 G.out (by omega)⟩
      rw [Nat.mul_comm W y]
      exact owns_far3 F.out (by omega) (by omega)

end Go.Proofs.Ytofcojcfcpfdmaa
namespace Go.Proofs.Ytofcojcfcpfdmaa
open Go.RowKit Go.Maps
set_option linter.unusedSimpArgs false
set_option linter.unusedVariables false

theorem pt_wide : (match Try.prog.underlying 94 with | some (.array _ _) | some (.struct _) => true | _ => false) = true := by rw [Try.underlying94]
theorem pt_key : Try.prog.keyType 94 = true := by kernel_rfl
theorem pt_row : (94 : TypeId) < Try.prog.types.size := of_decide_eq_true (by kernel_rfl)
theorem pt_cells : Try.prog.cellsOf 94 = 2 := by kernel_rfl
theorem pt_int : Try.prog.cellsOf 3 = 1 := by kernel_rfl
set_option maxRecDepth 100000 in
theorem pt_law : WideMaps.KeyLaw Try.prog 94 := deep_law_laid laidOut (m := 2) (by omega) pt_row (by kernel_rfl) pt_wide
theorem pt_keyed : Keyed Try.prog 94 := Keyed.of_law pt_law
theorem keyOf_pair {P : Program} {k it : TypeId} {f0 f1 : Field} (hu : P.underlying k = some (.struct #[f0, f1])) (hi : P.underlying it = some (.int .i64)) (hp : 0 < P.types.size) (hk : P.keyType k = true) (hc : P.cellsOf k = 2) (hci : P.cellsOf it = 1)
    (e0 : f0.type = it) (e1 : f1.type = it) (o0 : f0.offset = 0) (o1 : f1.offset = 1) (n0 : (f0.name != "_") = true) (n1 : (f1.name != "_") = true) (u v : Int) (w1 : (Lit.int .i64 u).wf = true) (w2 : (Lit.int .i64 v).wf = true) :
    keyOf P k (.agg #[.int .i64 u, .int .i64 v]) = some (.string (keyBytes [.int .i64 u, .int .i64 v])) := by
  have hf : (Value.agg #[.int .i64 u, .int .i64 v]).formed P k = true := by simp [Value.formed, hu, hc]
  obtain ⟨n, hn⟩ : ∃ n, P.types.size = n + 1 := ⟨_, (Nat.succ_pred_eq_of_pos hp).symm⟩
  unfold keyOf
  rw [hu]
  simp only [hk, hf, hn, Value.cells]
  simp [Program.keyLits, hu, hi, hc, hci, e0, e1, o0, o1, n0, n1, w1, w2]

def ptLit (u v : Nat) : Lit := .string (keyBytes [.int .i64 u, .int .i64 v])

set_option maxRecDepth 100000 in
theorem pt_lit (u v : Nat) (hu : u ≤ 100000) (hv : v ≤ 100000) : keyOf Try.prog 94 (.agg #[.int .i64 u, .int .i64 v]) = some (ptLit u v) :=
  keyOf_pair Try.underlying94 Try.underlying3 (Nat.lt_of_le_of_lt (Nat.zero_le _) pt_row) pt_key pt_cells pt_int rfl rfl rfl rfl (by decide) (by decide) u v (WalkArith.wf_i64 (by omega)) (WalkArith.wf_i64 (by omega))

theorem pt_inj {u v a b : Nat} (hu : u ≤ 100000) (hv : v ≤ 100000) (ha : a ≤ 100000) (hb : b ≤ 100000) (h : ptLit u v = ptLit a b) : u = a ∧ v = b := by
  have h1 := pt_lit u v hu hv
  rw [h] at h1
  have h2 := pt_keyed.inj h1 (pt_lit a b ha hb)
  simp at h2
  omega

theorem zero_int (w : World) : (zeroValue 3).run Try.prog w = .ok (.int .i64 0) w := by kernel_rfl

/-- A map in memory that tells of each point of a square's number a value. -/
def LightMap (f : Nat → Nat → Int) (b n : Nat) (wr : World) : Prop :=
  ∃ D : DataW Unit, wr.ownsMap Try.prog 94 (plainElem Try.prog 3) b n D ∧ IsMap D ∧ ∀ u v : Nat, u ≤ 100000 → v ≤ 100000 → D.atKey (ptLit u v) (.lit (.int .i64 0)) = .lit (.int .i64 (f u v))

theorem lightMap_kept {f : Nat → Nat → Int} {b n : Nat} {w w' : World} {row : Option Nat} (h : LightMap f b n w) (hg : w.grownBy w' row) (hne : some b ≠ row) : LightMap f b n w' := by
  obtain ⟨D, h1, h2, h3⟩ := h
  exact ⟨D, h1.kept hg hne, h2, h3⟩

theorem lightMap_look {f : Nat → Nat → Int} {b n u v : Nat} {w : World} (h : LightMap f b n w) (hu : u ≤ 100000) (hv : v ≤ 100000) :
    (Instr.lookup 92 (.map (some b)) (.agg #[.int .i64 u, .int .i64 v]) false).run Try.prog w = .ok (.int .i64 (f u v)) w := by
  obtain ⟨D, h1, h2, h3⟩ := h
  obtain ⟨c, hrun, hat, _⟩ := h1.lookup_int pt_keyed Try.underlying92 Try.underlying3 (zero_int w) (pt_lit u v hu hv)
  rw [h3 u v hu hv] at hat
  simp at hat
  rw [hat]
  exact hrun

theorem lightMap_store {f f' : Nat → Nat → Int} {b n u v : Nat} {x : Int} {w : World} (h : LightMap f b n w) (hn : n < maxLen) (hu : u ≤ 100000) (hv : v ≤ 100000) (hx : 0 ≤ x ∧ x ≤ 100000) (e1 : f' u v = x) (e2 : ∀ a c, ¬ (a = u ∧ c = v) → f' a c = f a c) :
    ∃ w', (Instr.mapUpdate 92 (.map (some b)) (.agg #[.int .i64 u, .int .i64 v]) (.int .i64 x)).run Try.prog w = .ok () w' ∧ LightMap f' b (n + 1) w' ∧ w.grownBy w' (some b) := by
  obtain ⟨D, h1, h2, h3⟩ := h
  obtain ⟨w', hrun, ho, hg⟩ := h1.update pt_keyed Try.underlying92 hn (pt_lit u v hu hv) (plainElem_int Try.underlying3 (a := x) (WalkArith.wf_i64 (by omega)))
  refine ⟨w', hrun, ⟨_, ho, h2.put _ _, fun a c ha hc => ?_⟩, hg⟩
  by_cases e : a = u ∧ c = v
  · obtain ⟨rfl, rfl⟩ := e
    rw [atKey_put_same h2 (pt_keyed.key (pt_lit a c ha hc)), e1]
  · rw [atKey_put_other (fun k => e (pt_inj ha hc hu hv k)), h3 a c ha hc, e2 a c e]

theorem lightMap_new (w : World) : LightMap (fun _ _ => 0) w.heap.size 0 (w.alloc (.map #[] 0)) :=
  ⟨.map [], World.ownsMap_made w Try.prog 94 _, isMap_empty, fun _ _ _ _ => rfl⟩

end Go.Proofs.Ytofcojcfcpfdmaa
namespace Go.Proofs.Ytofcojcfcpfdmaa
open Go.RowKit Go.Maps
set_option linter.unusedSimpArgs false
set_option linter.unusedVariables false

set_option maxHeartbeats 1000000 in
set_option maxRecDepth 100000 in
theorem evenR1_any (W H x y u v gb pb po c bb mb cnt sb S : Nat) (p : Int) (f : Nat → Nat → Int) (w : World) (hW : W ≤ 4000) (hH : H ≤ 4000) (hx : x < W) (hy : y < H) (hS : 1 ≤ S) (hS' : S ≤ 4000) (hu : x / S = u) (hv : y / S = v)
    (h0 : w.cell? ⟨gb, 0, none⟩ = some (.int .i64 W)) (h2 : w.cell? ⟨gb, 2, none⟩ = some (.slice (some ⟨pb, po, none⟩) (W * H) c)) (h3 : w.cell? ⟨bb, 0, none⟩ = some (.map (some mb))) (h5 : w.cell? ⟨sb, 0, none⟩ = some (.int .i64 S))
    (hp : w.cell? ⟨pb, po + (y * W + x), none⟩ = some (.int .u8 p)) (hP0 : 0 ≤ p) (hP1 : p ≤ 255) (hm : LightMap f mb cnt w) (hL0 : p ≤ f u v) (hL1 : 1 ≤ f u v) (hL2 : f u v ≤ 255) :
    Calls Try.prog 69 #[.int .i64 x, .int .i64 y, .pointer (some ⟨gb, 0, none⟩), .pointer (some ⟨bb, 0, none⟩), .pointer (some ⟨sb, 0, none⟩)] w fun e w' => e = .returned (.int .u8 (evenV p (f u v))) ∧ Below w.heap.size w w' := by
  have hfit := row_fits hy (show x + 1 ≤ W by omega)
  have hN := Nat.mul_le_mul hW hH
  have x0 : (0 : Int) ≤ (y : Int) * (W : Int) := Int.mul_nonneg (by omega) (by omega)
  have x1 : (y : Int) * (W : Int) + (x : Int) < ((W * H : Nat) : Int) := by rw [← Int.natCast_mul]; omega
  have x3 : (y : Int) * (W : Int) + (x : Int) < (W : Int) * (H : Int) := by rw [← Int.natCast_mul, ← Int.natCast_mul]; omega
  have x2 : ((W * H : Nat) : Int) ≤ 16000000 := by omega
  have hub : u ≤ 4000 := by rw [← hu]; exact Nat.le_trans (Nat.div_le_self _ _) (by omega)
  have hvb : v ≤ 4000 := by rw [← hv]; exact Nat.le_trans (Nat.div_le_self _ _) (by omega)
  have hu1 : u ≤ 100000 := Nat.le_trans hub (by decide)
  have hv1 : v ≤ 100000 := Nat.le_trans hvb (by decide)
  have HM := Lib.hid hm
  obtain ⟨L, hL⟩ : ∃ L, L = f u v := ⟨_, rfl⟩
  have HLF := Lib.hid hL
  have HLK := Lib.hid (lightMap_look hm hu1 hv1)
  rw [← hL] at HLK hL0 hL1 hL2 ⊢
  obtain ⟨s0, s1⟩ := evenV_bounds hP0 hL0 hL1
  have d1 : (x : Int) / (S : Int) = (u : Int) := by rw [← hu]; simp
  have d2 : (y : Int) / (S : Int) = (v : Int) := by rw [← hv]; simp
  have g1 : IntKind.i64.wrap ((x : Int) / (S : Int)) = (u : Int) := by rw [d1]; exact IntWalk.i64_in _ (by omega)
  have g2 : IntKind.i64.wrap ((y : Int) / (S : Int)) = (v : Int) := by rw [d2]; exact IntWalk.i64_in _ (by omega)
  have g5 : IntKind.i64.wrap (u : Int) = (u : Int) := IntWalk.i64_in _ (by omega)
  have g6 : IntKind.i64.wrap (v : Int) = (v : Int) := IntWalk.i64_in _ (by omega)
  have f3 : IntKind.i64.wrap (p * 255) = p * 255 := IntWalk.i64_in _ (by omega)
  have S0b : ((S : Int) == 0) = false := by simp; omega
  have S0 : S ≠ 0 := by omega
  obtain ⟨q, hq⟩ : ∃ q, q = evenV p L := ⟨_, rfl⟩
  rw [← hq] at s0 s1 ⊢
  have hqe : (2 * (p * 255) + L) / (2 * L) = q := hq.symm
  have hmn : min 255 q = q := by omega
  have g8 : IntKind.u8.wrap q = q := by first | exact IntWalk.u8_in _ (by omega) | (simp only [IntKind.wrap]; omega) | (unfold IntKind.wrap; simp; omega) | (simp [IntKind.wrap, IntKind.bits, IntKind.signed]; omega)
  have hlk := HLK.out
  clear hfit hN hq hu hv hL hm d1 d2
  go_enter Try.func69, Try.ntmps69
  go_wp2_with fail
  go_region_held3 (fun w' => w'.cell? ⟨bb, 0, none⟩ = some (.map (some mb)) ∧ w'.cell? ⟨sb, 0, none⟩ = some (.int .i64 S) ∧ (Instr.lookup 92 (.map (some mb)) (.agg #[.int .i64 u, .int .i64 v]) false).run Try.prog w' = .ok (.int .i64 L) w')
    (first | assumption | (exact ⟨h3, h5, by rw [HLF.out]; exact lightMap_look HM.out (by omega) (by omega)⟩) | (refine ⟨h3, h5, ?_⟩; rw [HLF.out]; exact lightMap_look (lightMap_kept HM.out (row := none) ⟨rfl, rfl, rfl, Nat.le_refl _, fun _ _ _ => rfl⟩ (by simp)) (by omega) (by omega)))
    ((go_at_call 61; (try simp only [f3]); with_reducible refine (round_any (p * 255) L _ (by omega) (by omega) (by omega) (by omega)).mono ?_; rintro e wq ⟨rfl, rfl⟩))
  all_goals
    go_wp2_with fail
    go_ret
    first | exact ⟨rfl, (Below.refl _ _).drew⟩ | exact ⟨by show Ending.returned (Value.int .u8 (IntKind.u8.wrap q)) = _; rw [g8], (Below.refl _ _).drew⟩

end Go.Proofs.Ytofcojcfcpfdmaa
namespace Go.Proofs.Ytofcojcfcpfdmaa
open Go.RowKit Go.Maps
set_option linter.unusedSimpArgs false
set_option linter.unusedVariables false
attribute [local go_sem high] run_max_ints3

set_option maxHeartbeats 1000000 in
set_option maxRecDepth 100000 in
theorem evenR_ok (W H pb po c S : Nat) (P : Nat → Int) (w : World) (a1 : 1 ≤ W) (a2 : W ≤ 4000) (a3 : 1 ≤ H) (a4 : H ≤ 4000) (hN : W * H ≤ 1048576) (hS : 1 ≤ S) (hS' : S ≤ 4000) (hP : ∀ j, 0 ≤ P j ∧ P j ≤ 255)
    (hp : ∀ j, j < W * H → w.cell? ⟨pb, po + j, none⟩ = some (.int .u8 (P j))) :
    Calls Try.prog 18 #[.agg #[.int .i64 W, .int .i64 H, .slice (some ⟨pb, po, none⟩) (W * H) c], .int .i64 S] w fun e w' =>
      ∃ v, e = .returned (.agg #[.int .i64 W, .int .i64 H, v]) ∧ w'.ownsRow w.heap.size 5 1 v (W * H) ((places W (fun x y => evenV (P (y * W + x)) (lightOf P W S (x / S) (y / S) (W * H))) (W * H)).map (Value.int .u8)) ∧ Below w.heap.size w w' := by
  have hmf : ∀ (fn : Fn) (first cap : Array Value) (w : World), (Instr.makeFunc fn first cap).run Try.prog w = .ok (.func fn first cap) w := fun _ _ _ _ => rfl
  have hmm := @run_makeMap Try.prog
  have HP := Lib.hid hP
  have HC := Lib.hid hp
  clear hp hP
  go_enter Try.func18, Try.ntmps18
  go_wp2_with fail
  obtain ⟨w0, hw0⟩ : ∃ w0, w0 = ((w.alloc (.cells #[.int .i64 W, .int .i64 H, .slice (some ⟨pb, po, none⟩) (W * H) c] 24)).alloc (.cells #[.int .i64 S] 3)).alloc (.cells #[.int .i64 0, .int .i64 0, .slice none 0 0] 24) := ⟨_, rfl⟩
  have B0 : Below w.heap.size w w0 := by rw [hw0]; exact below_alloc (below_alloc (new_below _ _) _) _
  have q0 : w0.cell? ⟨w.heap.size, 0, none⟩ = some (.int .i64 W) := by rw [hw0]; go_simp
  have q1 : w0.cell? ⟨w.heap.size, 1, none⟩ = some (.int .i64 H) := by rw [hw0]; go_simp
  have q2 : w0.cell? ⟨w.heap.size, 2, none⟩ = some (.slice (some ⟨pb, po, none⟩) (W * H) c) := by rw [hw0]; go_simp
  have q3 : w0.cell? ⟨w.heap.size + 1, 0, none⟩ = some (.int .i64 S) := by rw [hw0]; go_simp
  have qb : w0.heap[w.heap.size + 1 + 1]? = some (.cells #[.int .i64 0, .int .i64 0, .slice none 0 0] 24 (0, 0)) := by
    rw [hw0]
    simpa using heap_alloc_new ((w.alloc (.cells #[.int .i64 W, .int .i64 H, .slice (some ⟨pb, po, none⟩) (W * H) c] 24)).alloc (.cells #[.int .i64 S] 3)) (.cells #[.int .i64 0, .int .i64 0, .slice none 0 0] 24)
  have hsz : w0.heap.size = w.heap.size + 1 + 1 + 1 := by rw [hw0]; simp
  have hm0 := lightMap_new w0
  rw [hsz] at hm0
  rw [← hw0]
  clear hw0
  obtain ⟨w3, hw3⟩ : ∃ w3, w3 = (w0.alloc (.map #[] 0)).alloc (.cells #[.map (some (w.heap.size + 1 + 1 + 1))] 92) := ⟨_, rfl⟩
  have hm3 : LightMap (fun u v => lightOf P W S u v 0) (w.heap.size + 1 + 1 + 1) 0 w3 := by rw [hw3]; exact lightMap_kept hm0 (World.grownBy_alloc _ _ none) (by simp)
  have B3 : Below w0.heap.size w0 w3 := by rw [hw3]; exact below_alloc (new_below _ _) _
  have q5 : w3.cell? ⟨w.heap.size + 1 + 1 + 1 + 1, 0, none⟩ = some (.map (some (w.heap.size + 1 + 1 + 1))) := by
    rw [hw3]
    have := (box1 (heap_alloc_new (w0.alloc (.map #[] 0)) (.cells #[.map (some (w.heap.size + 1 + 1 + 1))] 92))).1
    simpa [hsz] using this
  have k0 := cell_later B3 q0
  have k1 := cell_later B3 q1
  have k2 := cell_later B3 q2
  have k3 := cell_later B3 q3
  have HB3 := Lib.hid (below_step B0 B3)
  have HQB := Lib.hid (below_block B3 qb)
  have HM3 := Lib.hid hm3
  have HSZ := Lib.hid (show w.heap.size + 1 + 1 + 1 ≤ w3.heap.size from by have := B3.size; omega)
  rw [← hw3]
  clear hw3 hm3 hm0 B3 B0 q0 q1 q2 q3 qb hsz hmm
  have HI := Lib.hid (show LightMap (fun u v => lightOf P W S u v 0) (w.heap.size + 1 + 1 + 1) 0 w3 ∧ w3.cell? ⟨w.heap.size + 1 + 1 + 1 + 1, 0, none⟩ = some (.map (some (w.heap.size + 1 + 1 + 1))) ∧ Below (w.heap.size + 1 + 1 + 1) w3 w3 from ⟨HM3.out, q5, Below.refl _ _⟩)
  clear q5
  go_loopw [13] (fun i wr => ∃ k : Nat, k ≤ W * H ∧ i = .int .i64 k ∧ Hid (LightMap (fun u v => lightOf P W S u v k) (w.heap.size + 1 + 1 + 1) k wr ∧ wr.cell? ⟨w.heap.size + 1 + 1 + 1 + 1, 0, none⟩ = some (.map (some (w.heap.size + 1 + 1 + 1))) ∧ Below (w.heap.size + 1 + 1 + 1) w3 wr)) (fun i _ => W * H - (intOf i).toNat)
  case atStart => exact ⟨0, Nat.zero_le _, rfl, HI⟩
  case round =>
    obtain ⟨k, hk, rfl, hR⟩ := hrel
    have cb := hR.out.2.1
    have c0 := (hR.out.2.2.cell (p := ⟨w.heap.size, 0, none⟩) (by first | (simp; done) | (simp; omega))).trans k0
    have c1 := (hR.out.2.2.cell (p := ⟨w.heap.size, 1, none⟩) (by first | (simp; done) | (simp; omega))).trans k1
    have c2 := (hR.out.2.2.cell (p := ⟨w.heap.size, 2, none⟩) (by first | (simp; done) | (simp; omega))).trans k2
    have c3 := (hR.out.2.2.cell (p := ⟨w.heap.size + 1, 0, none⟩) (by first | (simp; done) | (simp; omega))).trans k3
    have HPX := Lib.hid (fun j (hj : j < W * H) => ((hR.out.2.2.cell (p := ⟨pb, po + j, none⟩) (by have := World.block_lt_of_cell? _ _ (HC.out j hj); simp at this ⊢; omega)).trans (cell_later HB3.out (HC.out j hj))))
    have lw := Lib.hid (Nat.le_trans HSZ.out hR.out.2.2.size)
    have lc := World.block_lt_of_cell? _ _ cb
    have lc0 := World.block_lt_of_cell? _ _ c0
    have lc3 := World.block_lt_of_cell? _ _ c3
    simp only at lc lc0 lc3
    clear k0 k1 k2 k3
    by_cases hlt : k < W * H
    · obtain ⟨x, hx⟩ : ∃ x, x = k % W := ⟨_, rfl⟩
      obtain ⟨y, hy⟩ : ∃ y, y = k / W := ⟨_, rfl⟩
      obtain ⟨u, hu⟩ : ∃ u, u = x / S := ⟨_, rfl⟩
      obtain ⟨v, hv⟩ : ∃ v, v = y / S := ⟨_, rfl⟩
      have hxW : x < W := by rw [hx]; exact Nat.mod_lt _ (by omega)
      have hyH : y < H := by rw [hy]; exact Nat.div_lt_of_lt_mul hlt
      have hub : u ≤ 4000 := by rw [hu]; exact Nat.le_trans (Nat.div_le_self _ _) (by omega)
      have hvb : v ≤ 4000 := by rw [hv]; exact Nat.le_trans (Nat.div_le_self _ _) (by omega)
      have cp := HPX.out k hlt
      obtain ⟨pk, hpk⟩ : ∃ pk, pk = P k := ⟨_, rfl⟩
      have pk0 : 0 ≤ pk := by rw [hpk]; exact (HP.out k).1
      have pk1 : pk ≤ 255 := by rw [hpk]; exact (HP.out k).2
      have hlb := lightOf_bounds P HP.out W S u v k
      have hit := lightOf_hit P W S u v k (by rw [← hx, ← hu]) (by rw [← hy, ← hv])
      have miss : ∀ a c, ¬ (a = u ∧ c = v) → lightOf P W S a c (k + 1) = lightOf P W S a c k := fun a c h => lightOf_miss P W S a c k fun ⟨e1, e2⟩ => h ⟨by rw [hu, hx, e1], by rw [hv, hy, e2]⟩
      rw [← hpk] at cp hit
      have r1 : (k : Int) % (W : Int) = (x : Int) := by rw [hx]; simp
      have r2 : (k : Int) / (W : Int) = (y : Int) := by rw [hy]; simp
      have r3 : (x : Int) / (S : Int) = (u : Int) := by rw [hu]; simp
      have r4 : (y : Int) / (S : Int) = (v : Int) := by rw [hv]; simp
      have r5 : IntKind.i64.wrap (x : Int) = (x : Int) := IntWalk.i64_in _ (by omega)
      have r6 : IntKind.i64.wrap (y : Int) = (y : Int) := IntWalk.i64_in _ (by omega)
      have r7 : IntKind.i64.wrap (u : Int) = (u : Int) := IntWalk.i64_in _ (by omega)
      have r8 : IntKind.i64.wrap (v : Int) = (v : Int) := IntWalk.i64_in _ (by omega)
      have W0 : ((W : Int) == 0) = false := by simp; omega
      have hWn : W ≠ 0 := by omega
      have S0 : ((S : Int) == 0) = false := by simp; omega
      have hSn : S ≠ 0 := by omega
      have i1 : (k : Int) < ((W * H : Nat) : Int) := by omega
      obtain ⟨L, hL⟩ : ∃ L, L = lightOf P W S u v k := ⟨_, rfl⟩
      obtain ⟨w5, hw5⟩ : ∃ w5, w5 = (wr.alloc (.cells #[.int .i64 u, .int .i64 v] 94)).drew.drew := ⟨_, rfl⟩
      have hgw := World.grownBy_alloc wr (.cells #[.int .i64 u, .int .i64 v] 94) none
      have hm5 : LightMap (fun u v => lightOf P W S u v k) (w.heap.size + 1 + 1 + 1) k w5 := by rw [hw5]; exact lightMap_kept hR.out.1 (row := none) ⟨hgw.os, hgw.tape, hgw.output, hgw.size, hgw.block⟩ (by simp)
      have hlk := lightMap_look hm5 (show u ≤ 100000 by omega) (show v ≤ 100000 by omega)
      obtain ⟨w6, hst, hm6, hg6⟩ := lightMap_store (f' := fun u v => lightOf P W S u v (k + 1)) (x := max L (max pk 1)) hm5 (by unfold maxLen; omega) (show u ≤ 100000 by omega) (show v ≤ 100000 by omega) (by omega) (by show lightOf P W S u v (k + 1) = _; rw [hit, hL]; omega) miss
      (try dsimp only at hlk)
      rw [← hL] at hlk
      have B6 : Below (w.heap.size + 1 + 1 + 1) w3 w6 := (hR.out.2.2.trans (show Below (w.heap.size + 1 + 1 + 1) wr w5 by rw [hw5]; exact ((Below.refl _ _).alloc (by omega) _).drew.drew)).grown hg6 (by have := hR.out.2.2.size; rw [hw5]; simp; omega) (fun j hj => by cases hj; exact Nat.le_refl _)
      have cb6 : w6.cell? ⟨w.heap.size + 1 + 1 + 1 + 1, 0, none⟩ = some (.map (some (w.heap.size + 1 + 1 + 1))) := by
        rw [World.cell?_of_block (hg6.block _ (by rw [hw5]; simp; omega) (by simp)), hw5]
        exact cell_later (new_below wr _).drew.drew cb
      have H6 := Lib.hid (show LightMap (fun u v => lightOf P W S u v (k + 1)) (w.heap.size + 1 + 1 + 1) (k + 1) w6 ∧ w6.cell? ⟨w.heap.size + 1 + 1 + 1 + 1, 0, none⟩ = some (.map (some (w.heap.size + 1 + 1 + 1))) ∧ Below (w.heap.size + 1 + 1 + 1) w3 w6 from ⟨hm6, cb6, B6⟩)
      rw [hw5] at hlk hst
      clear hgw hx hy hu hv hpk hL hlb hit miss hm5 hm6 hg6 B6 cb6 hw5
      go_wp2_with fail
      go_region
      go_wp2_with fail
      go_region
      all_goals
        go_wp2_with fail
        go_roundw
        case rel => exact ⟨k + 1, by omega, by go_num, H6⟩
        case measure => simp [intOf]; omega
    · have hkN : k = W * H := by omega
      have hmp := hR.out.1
      rw [hkN] at hmp
      have HMP := Lib.hid hmp
      have qb := (hR.out.2.2.block (w.heap.size + 1 + 1) (by omega)).trans HQB.out
      have lb2 := Lib.hid (Array.getElem?_eq_some_iff.1 qb).1
      have HBW := Lib.hid (HB3.out.trans (hR.out.2.2.mono (show w.heap.size ≤ w.heap.size + 1 + 1 + 1 by omega)))
      clear hmp
      go_wp2_with fail
      refine (madeGray_any W H 69 _ (fun x y => evenV (P (y * W + x)) (lightOf P W S (x / S) (y / S) (W * H))) wr (by omega) (by omega) (by omega) (by omega) (Go.Proofs.enters_of Try.func69 (by kernel_rfl) rfl) ?_).mono ?_
      · intro x y wx hx hy hbx
        have hfit := row_fits hy (show x + 1 ≤ W by omega)
        have e1 : (y * W + x) % W = x := by rw [Nat.add_comm, Nat.mul_comm, Nat.add_mul_mod_self_left, Nat.mod_eq_of_lt hx]
        have e2 : (y * W + x) / W = y := by rw [Nat.add_comm, Nat.mul_comm, Nat.add_mul_div_left _ _ (by omega), Nat.div_eq_of_lt hx, Nat.zero_add]
        obtain ⟨g1, g2⟩ := lightOf_ge P W S (x / S) (y / S) (W * H) (y * W + x) (by omega) (by rw [e1]) (by rw [e2])
        have g3 := (lightOf_bounds P HP.out W S (x / S) (y / S) (W * H)).2
        have hmx : LightMap (fun u v => lightOf P W S u v (W * H)) (w.heap.size + 1 + 1 + 1) (W * H) wx := by
          obtain ⟨D, d1, d2, d3⟩ := HMP.out
          obtain ⟨es, clock, hb, rest⟩ := d1
          exact ⟨D, ⟨es, clock, below_block hbx hb, rest⟩, d2, d3⟩
        exact evenR1_any W H x y (x / S) (y / S) w.heap.size pb po c (w.heap.size + 1 + 1 + 1 + 1) (w.heap.size + 1 + 1 + 1) (W * H) (w.heap.size + 1) S _ (fun u v => lightOf P W S u v (W * H)) wx (by omega) (by omega) hx hy hS hS' rfl rfl
          (cell_later hbx c0) (cell_later hbx c2) (cell_later hbx cb) (cell_later hbx c3) (cell_later hbx (HPX.out _ (by omega))) (HP.out _).1 (HP.out _).2 hmx g1 g2 g3
      · rintro e w7 ⟨v, rfl, hown, hb7⟩
        obtain ⟨j0, j1, j2, r0, r1, r2⟩ := block3 (below_block hb7 qb)
        obtain ⟨va, vn, vc, rfl⟩ := owns_shape hown
        have F := Lib.hid hown
        have G := Lib.hid (below_step HBW.out hb7)
        clear hown hb7 c0 c1 c2 c3 cb qb
        go_wp2_with fail
        refine bodyPost_ret (v := .agg #[.int .i64 W, .int .i64 H, .slice va vn vc]) (by simp [results, Try.results18, go_sem, j0, j1, j2]) rfl ⟨_, rfl, owns_far3 F.out lb2.out HBW.out.size, below_far3 G.out (by omega)⟩

end Go.Proofs.Ytofcojcfcpfdmaa
namespace Go.Proofs.Ytofcojcfcpfdmaa
open Go.RowKit
set_option linter.unusedSimpArgs false
set_option linter.unusedVariables false

theorem alikeY_err (e1 : Int) (a b : Int) (s : Option Addr) (n c : Nat) (w : World) (h : e1 ≠ 0) :
    Calls Try.prog 14 #[.agg #[.int .i64 0, .int .i64 0, .slice none 0 0], .int .i64 e1, .agg #[.int .i64 a, .int .i64 b, .slice s n c], .int .i64 e1] w fun e w' => e = .returned (.bool true) ∧ Below w.heap.size w w' := by
  have h' : (e1 != 0) = true := by simpa using h
  clear h
  go_enter Try.func14, Try.ntmps14
  go_wp2
  go_ret
  exact ⟨rfl, below_alloc (new_below _ _) _⟩

theorem alikeY_ok (W H : Int) (g1 o1 g2 o2 n c1 c2 : Nat) (z : Nat → Int) (w : World) (hn : n ≤ 100000000)
    (h1 : ∀ j, j < n → w.cell? ⟨g1, o1 + j, none⟩ = some (.int .u8 (z j))) (h2 : ∀ j, j < n → w.cell? ⟨g2, o2 + j, none⟩ = some (.int .u8 (z j))) :
    Calls Try.prog 14 #[.agg #[.int .i64 W, .int .i64 H, .slice (some ⟨g1, o1, none⟩) n c1], .int .i64 0, .agg #[.int .i64 W, .int .i64 H, .slice (some ⟨g2, o2, none⟩) n c2], .int .i64 0] w fun e w' => e = .returned (.bool true) ∧ Below w.heap.size w w' := by
  have H1 := Lib.hid h1
  have H2 := Lib.hid h2
  clear h1 h2
  go_enter Try.func14, Try.ntmps14
  go_wp2_with fail
  have B1 := below_alloc (new_below w (.cells #[.int .i64 W, .int .i64 H, .slice (some ⟨g1, o1, none⟩) n c1] 24)) (.cells #[.int .i64 W, .int .i64 H, .slice (some ⟨g2, o2, none⟩) n c2] 24)
  refine (sameGray_true W H g1 o1 g2 o2 n c1 c2 z _ hn (fun j hj => cell_later B1 (H1.out j hj)) (fun j hj => cell_later B1 (H2.out j hj))).mono ?_
  rintro e w1 ⟨rfl, hb⟩
  go_wp2_with fail
  go_ret
  exact ⟨rfl, below_step B1 hb⟩

end Go.Proofs.Ytofcojcfcpfdmaa
namespace Go.Proofs.Ytofcojcfcpfdmaa
open Go.RowKit
set_option linter.unusedSimpArgs false
set_option linter.unusedVariables false

/-- A list of numbers, as values. -/
def numsOf (f : Nat → Nat) (n : Nat) : List Value := (List.range n).map fun k => Value.int .i64 ((f k : Nat) : Int)
theorem numsOf_get (f : Nat → Nat) (n k : Nat) (h : k < n) : (numsOf f n)[k]? = some (.int .i64 ((f k : Nat) : Int)) := by simp [numsOf, List.getElem?_range h]

end Go.Proofs.Ytofcojcfcpfdmaa

namespace Go.Proofs.Ytofcojcfcpfdmaa
open Go.RowKit
set_option linter.unusedSimpArgs false
set_option linter.unusedVariables false

end Go.Proofs.Ytofcojcfcpfdmaa

namespace Go.Proofs.Ytofcojcfcpfdmaa
open Go.RowKit
set_option linter.unusedSimpArgs false
set_option linter.unusedVariables false

/-- What holds between two pixels: the counts, in the row ab; what lies below is as it was; the box of the counts. -/
def CountRel (ab cb : Nat) (f : Nat → Nat) (n : Nat) (w2 wx : World) : Prop :=
  wx.ownsRow ab 3 1 (.slice (some ⟨ab, 0, none⟩) n n) n (numsOf f n) ∧ Below ab w2 wx ∧ wx.cell? ⟨cb, 0, none⟩ = some (.slice (some ⟨ab, 0, none⟩) n n)

theorem CountRel.get {ab cb n j : Nat} {f : Nat → Nat} {w2 wx : World} (h : CountRel ab cb f n w2 wx) (hj : j < n) : wx.cell? ⟨ab, j, none⟩ = some (.int .i64 ((f j : Nat) : Int)) := by
  rw [h.1.cellAt j (by omega), numsOf_get f n j hj]
end Go.Proofs.Ytofcojcfcpfdmaa

namespace Go.Proofs.Ytofcojcfcpfdmaa
open Go.RowKit
set_option linter.unusedSimpArgs false
set_option linter.unusedVariables false

/-- What a list of counts is, in memory: nothing with an error, else the counts. -/
def ListIs (E : Int) (f : Nat → Nat) (m B : Nat) (w : World) (sl : Option Addr) (n' c' : Nat) : Prop :=
  (E ≠ 0 ∧ sl = none ∧ n' = 0 ∧ c' = 0) ∨ (E = 0 ∧ n' = m ∧ ∃ g, B ≤ g ∧ sl = some ⟨g, 0, none⟩ ∧ ∀ k, k < m → w.cell? ⟨g, 0 + k, none⟩ = some (.int .i64 ((f k : Nat) : Int)))

theorem ListIs.later {E : Int} {f : Nat → Nat} {m B : Nat} {w w' : World} {sl : Option Addr} {n' c' : Nat} (h : ListIs E f m B w sl n' c') (hb : Below w.heap.size w w') : ListIs E f m B w' sl n' c' := by
  rcases h with h | ⟨h1, h2, g, h3, h4, h5⟩
  · exact .inl h
  · exact .inr ⟨h1, h2, g, h3, h4, fun k hk => cell_later hb (h5 k hk)⟩

end Go.Proofs.Ytofcojcfcpfdmaa
namespace Go.Proofs.Ytofcojcfcpfdmaa
open Go.RowKit
set_option linter.unusedSimpArgs false
set_option linter.unusedVariables false

/-- What a page is that was made by places, in memory: nothing with an error; else its places. -/
def PageIs (E : Int) (a b : Int) (f : Nat → Nat → Bool) (B : Nat) (w : World) (i j : Int) (sl : Option Addr) (n' c' : Nat) : Prop :=
  (E ≠ 0 ∧ i = 0 ∧ j = 0 ∧ sl = none ∧ n' = 0 ∧ c' = 0) ∨
  (E = 0 ∧ i = a ∧ j = b ∧ n' = a.toNat * b.toNat ∧ ∃ g, B ≤ g ∧ sl = some ⟨g, 0, none⟩ ∧ ∀ k, k < n' → w.cell? ⟨g, 0 + k, none⟩ = some (.bool (f (k % a.toNat) (k / a.toNat))))

theorem PageIs.later {E a b : Int} {f : Nat → Nat → Bool} {B : Nat} {w w' : World} {i j : Int} {sl : Option Addr} {n' c' : Nat} (h : PageIs E a b f B w i j sl n' c') (hb : Below w.heap.size w w') : PageIs E a b f B w' i j sl n' c' := by
  rcases h with h | ⟨h1, h2, h3, h4, g, h5, h6, h7⟩
  · exact .inl h
  · exact .inr ⟨h1, h2, h3, h4, g, h5, h6, fun k hk => cell_later hb (h7 k hk)⟩
theorem PageIs.far3 {E a b : Int} {f : Nat → Nat → Bool} {B N : Nat} {w : World} {i j : Int} {sl : Option Addr} {n' c' : Nat} (h : PageIs E a b f B w i j sl n' c') (hN : N < B) (x y u : Value) : PageIs E a b f B (((w.setCell ⟨N, 0, none⟩ x).setCell ⟨N, 1, none⟩ y).setCell ⟨N, 2, none⟩ u) i j sl n' c' := by
  rcases h with h | ⟨h1, h2, h3, h4, g, h5, h6, h7⟩
  · exact .inl h
  · exact .inr ⟨h1, h2, h3, h4, g, h5, h6, fun k hk => cell_far3 (show g ≠ N by omega) (h7 k hk)⟩

end Go.Proofs.Ytofcojcfcpfdmaa
namespace Go.Proofs.Ytofcojcfcpfdmaa
open Go.RowKit
set_option linter.unusedSimpArgs false
set_option linter.unusedVariables false

/-- What a page is that was made by places, in memory: nothing with an error; else its places. -/
def PageIsY (E : Int) (a b : Int) (f : Nat → Nat → Int) (B : Nat) (w : World) (i j : Int) (sl : Option Addr) (n' c' : Nat) : Prop :=
  (E ≠ 0 ∧ i = 0 ∧ j = 0 ∧ sl = none ∧ n' = 0 ∧ c' = 0) ∨
  (E = 0 ∧ i = a ∧ j = b ∧ n' = a.toNat * b.toNat ∧ ∃ g, B ≤ g ∧ sl = some ⟨g, 0, none⟩ ∧ ∀ k, k < n' → w.cell? ⟨g, 0 + k, none⟩ = some (.int .u8 (f (k % a.toNat) (k / a.toNat))))

theorem PageIsY.later {E a b : Int} {f : Nat → Nat → Int} {B : Nat} {w w' : World} {i j : Int} {sl : Option Addr} {n' c' : Nat} (h : PageIsY E a b f B w i j sl n' c') (hb : Below w.heap.size w w') : PageIsY E a b f B w' i j sl n' c' := by
  rcases h with h | ⟨h1, h2, h3, h4, g, h5, h6, h7⟩
  · exact .inl h
  · exact .inr ⟨h1, h2, h3, h4, g, h5, h6, fun k hk => cell_later hb (h7 k hk)⟩
theorem PageIsY.far3 {E a b : Int} {f : Nat → Nat → Int} {B N : Nat} {w : World} {i j : Int} {sl : Option Addr} {n' c' : Nat} (h : PageIsY E a b f B w i j sl n' c') (hN : N < B) (x y u : Value) : PageIsY E a b f B (((w.setCell ⟨N, 0, none⟩ x).setCell ⟨N, 1, none⟩ y).setCell ⟨N, 2, none⟩ u) i j sl n' c' := by
  rcases h with h | ⟨h1, h2, h3, h4, g, h5, h6, h7⟩
  · exact .inl h
  · exact .inr ⟨h1, h2, h3, h4, g, h5, h6, fun k hk => cell_far3 (show g ≠ N by omega) (h7 k hk)⟩

end Go.Proofs.Ytofcojcfcpfdmaa
namespace Go.Proofs.Ytofcojcfcpfdmaa
set_option linter.unusedSimpArgs false
set_option linter.unusedVariables false

def IsMin (z : Nat → Int) (n : Nat) (m : Int) : Prop := (∃ j, j < n ∧ z j = m) ∧ ∀ j, j < n → m ≤ z j
def IsMax (z : Nat → Int) (n : Nat) (m : Int) : Prop := (∃ j, j < n ∧ z j = m) ∧ ∀ j, j < n → z j ≤ m
theorem IsMin.one {z : Nat → Int} {n : Nat} {m m' : Int} (h : IsMin z n m) (h' : IsMin z n m') : m = m' := by
  obtain ⟨⟨j, hj, e⟩, h2⟩ := h
  obtain ⟨⟨j', hj', e'⟩, h2'⟩ := h'
  have := h2 j' hj'
  have := h2' j hj
  omega
theorem IsMax.one {z : Nat → Int} {n : Nat} {m m' : Int} (h : IsMax z n m) (h' : IsMax z n m') : m = m' := by
  obtain ⟨⟨j, hj, e⟩, h2⟩ := h
  obtain ⟨⟨j', hj', e'⟩, h2'⟩ := h'
  have := h2 j' hj'
  have := h2' j hj
  omega
theorem IsMin.step {z : Nat → Int} {n : Nat} {m : Int} (h : IsMin z n m) : IsMin z (n + 1) (min m (z n)) := by
  obtain ⟨⟨j, hj, e⟩, h2⟩ := h
  refine ⟨?_, fun i hi => ?_⟩
  · by_cases hc : m ≤ z n
    · exact ⟨j, by omega, by omega⟩
    · exact ⟨n, by omega, by omega⟩
  · by_cases hn : i = n
    · subst hn; omega
    · have := h2 i (by omega); omega
theorem IsMax.step {z : Nat → Int} {n : Nat} {m : Int} (h : IsMax z n m) : IsMax z (n + 1) (max m (z n)) := by
  obtain ⟨⟨j, hj, e⟩, h2⟩ := h
  refine ⟨?_, fun i hi => ?_⟩
  · by_cases hc : z n ≤ m
    · exact ⟨j, by omega, by omega⟩
    · exact ⟨n, by omega, by omega⟩
  · by_cases hn : i = n
    · subst hn; omega
    · have := h2 i (by omega); omega
/-- The least and the greatest of the values below k that occur: as extremes finds them. -/
def LoHi (c : Nat → Nat) (k : Nat) (l g : Int) : Prop :=
  (l = 256 ∧ g = 0 ∧ ∀ u, u < k → c u = 0) ∨ ∃ u v : Nat, l = (u : Int) ∧ g = (v : Int) ∧ u ≤ v ∧ v < k ∧ 0 < c u ∧ 0 < c v ∧ (∀ t, t < u → c t = 0) ∧ ∀ t, v < t → t < k → c t = 0
theorem LoHi.hit {c : Nat → Nat} {k : Nat} {l g : Int} (h : LoHi c k l g) (hk : k < 256) (hc : 0 < c k) : LoHi c (k + 1) (min l (k : Int)) (k : Int) := by
  rcases h with ⟨rfl, rfl, h⟩ | ⟨u, v, rfl, rfl, h1, h2, h3, h4, h5, h6⟩
  · exact .inr ⟨k, k, by omega, rfl, Nat.le_refl _, by omega, hc, hc, h, fun t a b => by omega⟩
  · exact .inr ⟨u, k, by omega, rfl, by omega, by omega, h3, hc, h5, fun t a b => by omega⟩
theorem LoHi.miss {c : Nat → Nat} {k : Nat} {l g : Int} (h : LoHi c k l g) (hc : c k = 0) : LoHi c (k + 1) l g := by
  rcases h with ⟨rfl, rfl, h⟩ | ⟨u, v, rfl, rfl, h1, h2, h3, h4, h5, h6⟩
  · exact .inl ⟨rfl, rfl, fun u hu => by by_cases e : u = k; exact e ▸ hc; exact h u (by omega)⟩
  · exact .inr ⟨u, v, rfl, rfl, h1, by omega, h3, h4, h5, fun t a b => by by_cases e : t = k; exact e ▸ hc; exact h6 t a (by omega)⟩
theorem LoHi.bounds {c : Nat → Nat} {k : Nat} {l g : Int} (h : LoHi c k l g) (hk : k ≤ 256) : 0 ≤ l ∧ l ≤ 256 ∧ 0 ≤ g ∧ g ≤ 255 := by
  rcases h with ⟨rfl, rfl, h⟩ | ⟨u, v, rfl, rfl, h1, h2, _⟩ <;> omega
end Go.Proofs.Ytofcojcfcpfdmaa
namespace Go.Proofs.Ytofcojcfcpfdmaa
open Go.RowKit
set_option linter.unusedSimpArgs false
set_option linter.unusedVariables false

theorem small_size {W H : Nat} (hW : 1 ≤ W ∧ W ≤ 32) (hH : 1 ≤ H ∧ H ≤ 32) : sizeErr W H = 0 ∧ pageErr W H (W * H) = 0 ∧ 1 ≤ W * H ∧ W * H ≤ 1024 := by
  have h1 := Nat.mul_le_mul hW.2 hH.2
  have h2 := Nat.mul_pos hW.1 hH.1
  have he : sizeErr W H = 0 := by
    unfold sizeErr
    rw [if_neg (by omega), if_neg (by rw [← Int.natCast_mul]; omega)]
  exact ⟨he, by unfold pageErr; rw [if_pos he, if_pos (by simp [Int.natCast_mul])], h2, h1⟩

theorem small_size16 {W H : Nat} (hW : 1 ≤ W ∧ W ≤ 16) (hH : 1 ≤ H ∧ H ≤ 16) : sizeErr W H = 0 ∧ pageErr W H (W * H) = 0 ∧ 1 ≤ W * H ∧ W * H ≤ 256 := by
  have h := small_size (W := W) (H := H) ⟨hW.1, by omega⟩ ⟨hH.1, by omega⟩
  have h1 := Nat.mul_le_mul hW.2 hH.2
  exact ⟨h.1, h.2.1, h.2.2.1, h1⟩

/-- Three cells of a block that are written anew. -/
theorem far3_same {w : World} {b : Nat} {x y z x' y' z' : Value} {t : TypeId} (h : w.heap[b]? = some (.cells #[x, y, z] t (0, 0))) :
    (((w.setCell ⟨b, 0, none⟩ x').setCell ⟨b, 1, none⟩ y').setCell ⟨b, 2, none⟩ z').heap[b]? = some (.cells #[x', y', z'] t (0, 0)) := by
  have h1 := heap_setCell_same w b 0 #[x, y, z] t x' h
  have h2 := heap_setCell_same _ b 1 _ t y' h1
  have h3 := heap_setCell_same _ b 2 _ t z' h2
  simpa using h3

end Go.Proofs.Ytofcojcfcpfdmaa
namespace Go.Proofs.Ytofcojcfcpfdmaa
open Go.RowKit
set_option linter.unusedSimpArgs false
set_option linter.unusedVariables false
attribute [local go_sem ↓] Go.wp_at_zero Go.wp_at_succ

theorem row_back (j W : Nat) : j / W * W + j % W = j := by rw [Nat.mul_comm]; exact Nat.div_add_mod j W

end Go.Proofs.Ytofcojcfcpfdmaa
namespace Go.Proofs.Ytofcojcfcpfdmaa
open Go.RowKit
set_option linter.unusedSimpArgs false
set_option linter.unusedVariables false

/-- A page in grey in memory. -/
def PageOkY (W H : Nat) (z : Nat → Int) (w : World) (i j : Int) (sl : Option Addr) (n : Nat) : Prop :=
  i = W ∧ j = H ∧ n = W * H ∧ ∃ g, sl = some ⟨g, 0, none⟩ ∧ ∀ k, k < W * H → w.cell? ⟨g, 0 + k, none⟩ = some (.int .u8 (z k))
theorem PageOkY.later {W H : Nat} {z : Nat → Int} {w w' : World} {i j : Int} {sl : Option Addr} {n : Nat} (h : PageOkY W H z w i j sl n) (hb : Below w.heap.size w w') : PageOkY W H z w' i j sl n := by
  obtain ⟨h1, h2, h3, g, h4, h5⟩ := h
  exact ⟨h1, h2, h3, g, h4, fun k hk => cell_later hb (h5 k hk)⟩
/-- What a function returns: no page and its error, or the page. -/
def ResY (f : Int) (W H : Nat) (z : Nat → Int) (w : World) (i j : Int) (sl : Option Addr) (n c : Nat) : Prop :=
  (f ≠ 0 ∧ i = 0 ∧ j = 0 ∧ sl = none ∧ n = 0 ∧ c = 0) ∨ (f = 0 ∧ PageOkY W H z w i j sl n)
theorem ResY.later {f : Int} {W H : Nat} {z : Nat → Int} {w w' : World} {i j : Int} {sl : Option Addr} {n c : Nat} (h : ResY f W H z w i j sl n c) (hb : Below w.heap.size w w') : ResY f W H z w' i j sl n c := by
  rcases h with h | ⟨h1, h2⟩
  · exact .inl h
  · exact .inr ⟨h1, h2.later hb⟩

theorem pageOkY_owns {W H base : Nat} {f : Nat → Nat → Int} {z : Nat → Int} {w : World} {v : Value} (h : w.ownsRow base 5 1 v (W * H) ((places W f (W * H)).map (Value.int .u8))) (hp : 1 ≤ W * H) (hz : ∀ k, k < W * H → f (k % W) (k / W) = z k) :
    ∃ sl n c, v = .slice sl n c ∧ base ≤ w.heap.size ∧ PageOkY W H z w W H sl n := by
  obtain ⟨g, c, rfl, hg, hc⟩ := owns_pageY h hp
  refine ⟨_, _, _, rfl, ?_, rfl, rfl, rfl, g, rfl, fun k hk => by rw [hc k hk, hz k hk]⟩
  have := World.block_lt_of_cell? _ _ (hc 0 (by omega))
  simp only at this
  omega

theorem alikeY_any (f : Int) (W H : Nat) (z : Nat → Int) (i j i2 j2 : Int) (sl sl2 : Option Addr) (n c n2 c2 : Nat) (w : World) (hN : W * H ≤ 100000000) (h1 : ResY f W H z w i j sl n c) (h2 : f = 0 → PageOkY W H z w i2 j2 sl2 n2) :
    Calls Try.prog 14 #[.agg #[.int .i64 i, .int .i64 j, .slice sl n c], .int .i64 f, .agg #[.int .i64 i2, .int .i64 j2, .slice sl2 n2 c2], .int .i64 f] w fun e w' => e = .returned (.bool true) ∧ Below w.heap.size w w' := by
  rcases h1 with ⟨h, rfl, rfl, rfl, rfl, rfl⟩ | ⟨rfl, rfl, rfl, rfl, g, rfl, hc⟩
  · exact alikeY_err f i2 j2 sl2 n2 c2 w h
  · obtain ⟨rfl, rfl, rfl, g2, rfl, hc2⟩ := h2 rfl
    exact alikeY_ok W H g 0 g2 0 (W * H) c c2 z w hN hc hc2

def strErr (low high : Int) : Int := if (0 ≤ low ∧ low ≤ 255) ∧ (0 ≤ high ∧ high ≤ 255) then (if high ≤ low then 7 else 0) else 3
def rngErr (lo hi r : Int) : Int := if lo ≤ r ∧ r ≤ hi then 0 else 3

theorem stretch_any (W H pb po c : Nat) (low high : Int) (P : Nat → Int) (w : World) (he : sizeErr W H = 0) (hpos : 1 ≤ W * H) (hP : ∀ j, 0 ≤ P j ∧ P j ≤ 255) (hp : ∀ j, j < W * H → w.cell? ⟨pb, po + j, none⟩ = some (.int .u8 (P j))) :
    Calls Try.prog 9 #[.agg #[.int .i64 W, .int .i64 H, .slice (some ⟨pb, po, none⟩) (W * H) c], .int .i64 low, .int .i64 high] w fun e w' =>
      ∃ i j sl n c', e = .returned (.tuple #[.agg #[.int .i64 i, .int .i64 j, .slice sl n c'], .int .i64 (strErr low high)]) ∧ ResY (strErr low high) W H (fun k => strV (P k) low high) w' i j sl n c' ∧ Below w.heap.size w w' := by
  have hpe : pageErr W H (W * H) = 0 := by unfold pageErr; rw [if_pos he, if_pos (by simp [Int.natCast_mul])]
  by_cases h1 : (0 ≤ low ∧ low ≤ 255) ∧ (0 ≤ high ∧ high ≤ 255)
  · by_cases h2 : high ≤ low
    · have e1 : strErr low high = 7 := by unfold strErr; rw [if_pos h1, if_pos h2]
      rw [e1]
      refine (stretch_order W H low high (some ⟨pb, po, none⟩) (W * H) c w hpe h1.1 h1.2 h2).mono ?_
      rintro e w' ⟨rfl, hb⟩
      exact ⟨0, 0, none, 0, 0, rfl, .inl ⟨by decide, rfl, rfl, rfl, rfl, rfl⟩, hb⟩
    · have e1 : strErr low high = 0 := by unfold strErr; rw [if_pos h1, if_neg h2]
      rw [e1]
      refine (stretch_ok W H pb po c low high P w he h1.1.1 (by omega) h1.2.2 hP hp).mono ?_
      rintro e w' ⟨v, rfl, ho, hb⟩
      obtain ⟨sl, n, c', rfl, _, hok⟩ := pageOkY_owns (z := fun k => strV (P k) low high) ho hpos (fun k hk => by rw [row_back])
      exact ⟨_, _, _, _, _, rfl, .inr ⟨rfl, hok⟩, hb⟩
  · have e1 : strErr low high = 3 := by unfold strErr; rw [if_neg h1]
    rw [e1]
    refine (stretch_range W H low high (some ⟨pb, po, none⟩) (W * H) c w hpe h1).mono ?_
    rintro e w' ⟨rfl, hb⟩
    exact ⟨0, 0, none, 0, 0, rfl, .inl ⟨by decide, rfl, rfl, rfl, rfl, rfl⟩, hb⟩

theorem middle_any (W H pb po c : Nat) (r : Int) (P : Nat → Int) (w : World) (he : sizeErr W H = 0) (hpos : 1 ≤ W * H) (hP : ∀ j, 0 ≤ P j ∧ P j ≤ 255) (hp : ∀ j, j < W * H → w.cell? ⟨pb, po + j, none⟩ = some (.int .u8 (P j))) :
    Calls Try.prog 15 #[.agg #[.int .i64 W, .int .i64 H, .slice (some ⟨pb, po, none⟩) (W * H) c], .int .i64 r] w fun e w' =>
      ∃ i j sl n c', e = .returned (.tuple #[.agg #[.int .i64 i, .int .i64 j, .slice sl n c'], .int .i64 (rngErr 0 5 r)]) ∧ ResY (rngErr 0 5 r) W H (fun k => midV P W H r.toNat (k % W) (k / W)) w' i j sl n c' ∧ Below w.heap.size w w' := by
  have hpe : pageErr W H (W * H) = 0 := by unfold pageErr; rw [if_pos he, if_pos (by simp [Int.natCast_mul])]
  by_cases h1 : 0 ≤ r ∧ r ≤ 5
  · have e1 : rngErr 0 5 r = 0 := by unfold rngErr; rw [if_pos h1]
    rw [e1]
    obtain ⟨k, rfl⟩ : ∃ k : Nat, r = (k : Int) := ⟨r.toNat, by omega⟩
    refine (middle_ok W H pb po c k P w he (by omega) hP hp).mono ?_
    rintro e w' ⟨v, rfl, ho, hb⟩
    obtain ⟨sl, n, c', rfl, _, hok⟩ := pageOkY_owns (z := fun i => midV P W H k (i % W) (i / W)) ho hpos (fun k hk => rfl)
    exact ⟨_, _, _, _, _, rfl, .inr ⟨rfl, hok⟩, hb⟩
  · have e1 : rngErr 0 5 r = 3 := by unfold rngErr; rw [if_neg h1]
    rw [e1]
    refine (middle_range W H r (some ⟨pb, po, none⟩) (W * H) c w hpe h1).mono ?_
    rintro e w' ⟨rfl, hb⟩
    exact ⟨0, 0, none, 0, 0, rfl, .inl ⟨by decide, rfl, rfl, rfl, rfl, rfl⟩, hb⟩

theorem even_any (W H pb po c : Nat) (r : Int) (P : Nat → Int) (w : World) (he : sizeErr W H = 0) (hpos : 1 ≤ W * H) (hP : ∀ j, 0 ≤ P j ∧ P j ≤ 255) (hp : ∀ j, j < W * H → w.cell? ⟨pb, po + j, none⟩ = some (.int .u8 (P j))) :
    Calls Try.prog 17 #[.agg #[.int .i64 W, .int .i64 H, .slice (some ⟨pb, po, none⟩) (W * H) c], .int .i64 r] w fun e w' =>
      ∃ i j sl n c', e = .returned (.tuple #[.agg #[.int .i64 i, .int .i64 j, .slice sl n c'], .int .i64 (rngErr 1 4000 r)]) ∧ ResY (rngErr 1 4000 r) W H (fun k => evenV (P k) (lightOf P W r.toNat (k % W / r.toNat) (k / W / r.toNat) (W * H))) w' i j sl n c' ∧ Below w.heap.size w w' := by
  have hpe : pageErr W H (W * H) = 0 := by unfold pageErr; rw [if_pos he, if_pos (by simp [Int.natCast_mul])]
  by_cases h1 : 1 ≤ r ∧ r ≤ 4000
  · have e1 : rngErr 1 4000 r = 0 := by unfold rngErr; rw [if_pos h1]
    rw [e1]
    obtain ⟨k, rfl⟩ : ∃ k : Nat, r = (k : Int) := ⟨r.toNat, by omega⟩
    refine (even_ok W H pb po c k P w he (by omega) (by omega) hP hp).mono ?_
    rintro e w' ⟨v, rfl, ho, hb⟩
    obtain ⟨sl, n, c', rfl, _, hok⟩ := pageOkY_owns (z := fun i => evenV (P i) (lightOf P W k (i % W / k) (i / W / k) (W * H))) ho hpos (fun k hk => by simp only [row_back])
    exact ⟨_, _, _, _, _, rfl, .inr ⟨rfl, hok⟩, hb⟩
  · have e1 : rngErr 1 4000 r = 3 := by unfold rngErr; rw [if_neg h1]
    rw [e1]
    refine (even_range W H r (some ⟨pb, po, none⟩) (W * H) c w hpe h1).mono ?_
    rintro e w' ⟨rfl, hb⟩
    exact ⟨0, 0, none, 0, 0, rfl, .inl ⟨by decide, rfl, rfl, rfl, rfl, rfl⟩, hb⟩

theorem in1_yes (n : Int) (w : World) (h : 0 ≤ n ∧ n ≤ 255) : Calls Try.prog 10 #[.int .i64 n] w fun e w' => e = .returned (.bool true) ∧ w = w' := by
  obtain ⟨h0, h1⟩ := h
  go_enter Try.func10, Try.ntmps10
  go_wp2
  go_ret
  exact ⟨rfl, rfl⟩
theorem in1_no (n : Int) (w : World) (h : ¬ (0 ≤ n ∧ n ≤ 255)) : Calls Try.prog 10 #[.int .i64 n] w fun e w' => e = .returned (.bool false) ∧ w = w' := by
  by_cases h0 : 0 ≤ n
  · have h1 : ¬ n ≤ 255 := fun k => h ⟨h0, k⟩
    clear h
    go_enter Try.func10, Try.ntmps10
    go_wp2
    go_ret
    exact ⟨rfl, rfl⟩
  · clear h
    go_enter Try.func10, Try.ntmps10
    go_wp2
    go_ret
    exact ⟨rfl, rfl⟩

end Go.Proofs.Ytofcojcfcpfdmaa
