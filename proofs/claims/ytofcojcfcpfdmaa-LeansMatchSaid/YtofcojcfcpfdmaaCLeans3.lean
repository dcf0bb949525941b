/-
  What leans_holds leans on: contracts of the functions that it calls.
-/
import Derived.Test.YtofcojcfcpfdmaaRows
import Derived.WalkKit
import Derived.WalkSpells
import Derived.WalkLawsBesides
import Derived.Lib.Hide
import Derived.Deep.RegionHeld3
import Derived.Shelf.Abstract
import Derived.Deep.AppendLies
import Derived.Deep.DrawnRows
import Derived.Deep.RegionLaw
import Derived.Deep.QuietTactic
import Derived.BigQuiet
import Derived.ProofKit
import Derived.OpenShut
import Derived.ShutString
import Derived.ChangeOld
import Derived.Lib.SmallJoins
import Derived.Deep.Grids
import Derived.Deep.DeepCutAuto
import Derived.Lib.MinMax
import Derived.Deep.CutRange
import Derived.Laws.EntriesVeiled
import Derived.StillTailTactics
import Derived.RegionTactic
import Derived.ChangeAlike
import Derived.BigRegion
import Derived.Test.YtofcojcfcpfdmaaCLeans2
namespace Go.Proofs.Ytofcojcfcpfdmaa
open Go.RowKit
set_option linter.unusedSimpArgs false
set_option linter.unusedVariables false

/-- What is counted when n rows of a band are added. -/
def bandC (C L R : Nat → Int) (first : Int) (n j : Nat) : Int := C j + if 0 ≤ (j : Int) - first ∧ (j : Int) - first < (n : Int) then R ((j : Int) - first).toNat - L ((j : Int) - first).toNat else 0

theorem bandC_zero (C L R : Nat → Int) (first : Int) (j : Nat) : bandC C L R first 0 j = C j := by
  unfold bandC; rw [if_neg (by omega), Int.add_zero]
theorem bandC_other {C L R : Nat → Int} {first : Int} {n j : Nat} (h : (j : Int) ≠ first + n) : bandC C L R first (n + 1) j = bandC C L R first n j := by
  unfold bandC
  by_cases h1 : 0 ≤ (j : Int) - first ∧ (j : Int) - first < (n : Int)
  · rw [if_pos (by omega), if_pos h1]
  · rw [if_neg (by omega), if_neg h1]
theorem bandC_here {C L R : Nat → Int} {first : Int} {n j : Nat} (h : (j : Int) = first + n) : bandC C L R first n j = C j ∧ bandC C L R first (n + 1) j = C j + (R n - L n) := by
  unfold bandC
  have e : ((j : Int) - first).toNat = n := by omega
  rw [if_neg (by omega), if_pos (by omega), e]
  simp

theorem Kept.drew {cb nb : Nat} {w a : World} (h : Kept cb nb w a) : Kept cb nb w a.drew := ⟨h.os, h.tape, h.output, h.size, h.block⟩
theorem kept_set {g : Nat} {w a : World} (h : Kept g g w a) (o : Nat) (v : Value) : Kept g g w (a.setCell ⟨g, o, none⟩ v) := h.set _ (.inl rfl) _

set_option maxHeartbeats 1000000 in
set_option maxRecDepth 100000 in
theorem addBand_any (m h g ab lo ro lc rc cc base : Nat) (first : Int) (C L R : Nat → Int) (w : World) (hm : m ≤ 8000) (hh : h ≤ 4000) (hf : -5000 ≤ first ∧ first ≤ 10000) (hne : ab ≠ g)
    (hC : ∀ j, -1000000 ≤ C j ∧ C j ≤ 1000000) (hL : ∀ j, 0 ≤ L j ∧ L j ≤ 4000) (hR : ∀ j, 0 ≤ R j ∧ R j ≤ 4000)
    (hown : w.ownsRow base 3 1 (.slice (some ⟨g, 0, none⟩) m cc) m (intsOf C m)) (hl : ∀ y, y < h → w.cell? ⟨ab, lo + y, none⟩ = some (.int .i64 (L y))) (hr : ∀ y, y < h → w.cell? ⟨ab, ro + y, none⟩ = some (.int .i64 (R y))) :
    Calls Try.prog 149 #[.slice (some ⟨g, 0, none⟩) m cc, .slice (some ⟨ab, lo, none⟩) h lc, .slice (some ⟨ab, ro, none⟩) h rc, .int .i64 first] w fun e w' =>
      e = .returned (.tuple #[]) ∧ w'.ownsRow base 3 1 (.slice (some ⟨g, 0, none⟩) m cc) m (intsOf (bandC C L R first h) m) ∧ Kept g g w w' := by
  have HC := Lib.hid hC
  have HL := Lib.hid hL
  have HR := Lib.hid hR
  have HO := Lib.hid hown
  have Hl := Lib.hid hl
  have Hr := Lib.hid hr
  have NE := Lib.hid hne
  clear hC hL hR hown hl hr hne
  obtain ⟨f1, f2⟩ := hf
  go_enter Try.func149, Try.ntmps149
  go_wp2_with fail
  go_loopw [13] (fun i wr => ∃ y : Nat, y ≤ h ∧ i = .int .i64 y ∧ Hid (wr.ownsRow base 3 1 (.slice (some ⟨g, 0, none⟩) m cc) m (intsOf (bandC C L R first y) m) ∧ Kept g g w wr)) (fun i _ => h - (intOf i).toNat)
  case atStart => exact ⟨0, Nat.zero_le _, rfl, Lib.hid ⟨by rw [intsOf_congr (g := C) (fun j _ => bandC_zero C L R first j)]; exact HO.out, Kept.refl _ _ _⟩⟩
  case round =>
    obtain ⟨y, hy, rfl, HX⟩ := hrel
    by_cases hlt : y < h
    · have k1 := HX.out.2.cell ⟨NE.out, NE.out⟩ (Hl.out y hlt)
      have k2 := HX.out.2.cell ⟨NE.out, NE.out⟩ (Hr.out y hlt)
      obtain ⟨l, hl⟩ : ∃ l, l = L y := ⟨_, rfl⟩
      obtain ⟨r, hr⟩ : ∃ r, r = R y := ⟨_, rfl⟩
      have bl := HL.out y
      have br := HR.out y
      rw [← hl] at k1 bl
      rw [← hr] at k2 br
      obtain ⟨bl1, bl2⟩ := bl
      obtain ⟨br1, br2⟩ := br
      have i1 : (y : Int) < (h : Int) := by omega
      by_cases hin : 0 ≤ first + (y : Int) ∧ first + (y : Int) < (m : Int)
      · obtain ⟨J, hJ⟩ : ∃ J : Nat, (J : Int) = first + (y : Int) := ⟨(first + (y : Int)).toNat, by omega⟩
        obtain ⟨e1, e2⟩ := bandC_here (C := C) (L := L) (R := R) hJ
        have hJm : J < m := by omega
        have c1 := HX.out.1.cellAt J (by omega)
        rw [intsOf_get _ _ _ hJm, e1] at c1
        have f1 := HX.out.1.frozenAt J
        have bC := HC.out J
        obtain ⟨cv, hcv⟩ : ∃ cv, cv = C J := ⟨_, rfl⟩
        rw [← hcv] at c1 bC
        obtain ⟨bc1, bc2⟩ := bC
        have hJ' : first + (y : Int) = (J : Int) := hJ.symm
        have hJm' : (J : Int) < (m : Int) := by omega
        have FIN := Lib.hid (show ((wr.setCell ⟨g, J, none⟩ (.int .i64 (cv + (r - l)))).ownsRow base 3 1 (.slice (some ⟨g, 0, none⟩) m cc) m (intsOf (bandC C L R first (y + 1)) m)) from by
          have h1 := (HX.out.1.stored J (.int .i64 (cv + (r - l)))).1
          rw [intsOf_set (g := bandC C L R first (y + 1)) hJm (by rw [e2, ← hcv, ← hl, ← hr]) (fun i _ hne => bandC_other (by omega))] at h1
          exact h1)
        clear hl hr e1 e2 hcv hJ hin
        go_wp2_with fail
        go_region
        all_goals
          go_wp2_with fail
          go_roundw
          case rel => exact ⟨y + 1, by omega, by go_num, Lib.hid ⟨below_owns FIN.out (Below.refl _ _).drew, (kept_set HX.out.2 _ _).drew⟩⟩
          case measure => simp [intOf]; omega
      · have FIN := Lib.hid (show wr.ownsRow base 3 1 (.slice (some ⟨g, 0, none⟩) m cc) m (intsOf (bandC C L R first (y + 1)) m) from by
          rw [intsOf_congr (g := bandC C L R first y) (fun j hj => bandC_other (by omega))]; exact HX.out.1)
        clear hl hr
        by_cases h0 : 0 ≤ first + (y : Int)
        · have h1 : ¬ first + (y : Int) < (m : Int) := fun k => hin ⟨h0, k⟩
          clear hin
          go_wp2_with fail
          go_roundw
          case rel => exact ⟨y + 1, by omega, by go_num, Lib.hid ⟨FIN.out, HX.out.2⟩⟩
          case measure => simp [intOf]; omega
        · clear hin
          go_wp2_with fail
          go_roundw
          case rel => exact ⟨y + 1, by omega, by go_num, Lib.hid ⟨FIN.out, HX.out.2⟩⟩
          case measure => simp [intOf]; omega
    · have hye : y = h := by omega
      subst hye
      go_wp2_with fail
      go_end0
      exact ⟨rfl, HX.out.1, HX.out.2⟩

end Go.Proofs.Ytofcojcfcpfdmaa
namespace Go.Proofs.Ytofcojcfcpfdmaa
open Go.RowKit
set_option linter.unusedSimpArgs false
set_option linter.unusedVariables false

/-- Columns that go equally far. -/
def Band (s : Nat → Int) (L f t : Nat) : Prop := (t ≤ L ∧ f < t ∧ ∀ k, f ≤ k → k < t → s k = s f) ∨ (t = L + 1 ∧ f = L)

set_option maxHeartbeats 1000000 in
set_option maxRecDepth 100000 in
theorem eachBand_any (L sg sc clo : Nat) (capt : Array Value) (s : Nat → Int) (I : Nat → World → Prop) (W0 : World) (hL : 1 ≤ L ∧ L ≤ 4000)
    (eg : ∀ (args : Array Value) (W : World), (callFunc clo args).run Try.prog W = .ok (.enter clo args) W)
    (hI : ∀ f wr, I f wr → ∀ k, k < L → wr.cell? ⟨sg, k, none⟩ = some (.int .i64 (s k))) (hD : ∀ f wr, I f wr → ∀ n, I f (wr.drewN n)) (h0 : I 0 W0)
    (hc : ∀ f t wr, f < t → t ≤ L → (∀ k, f ≤ k → k < t → s k = s f) → I f wr → Calls Try.prog clo (#[.int .i64 f, .int .i64 t, .int .i64 (s f)] ++ capt) wr fun e w' => e = .returned (.tuple #[]) ∧ I t w') :
    Calls Try.prog 147 #[.slice (some ⟨sg, 0, none⟩) L sc, .func (.func clo) #[] capt] W0 fun e w' => e = .returned (.tuple #[]) ∧ I L w' := by
  have HC := Lib.hid hc
  have HI := Lib.hid hI
  have HD := Lib.hid hD
  have H0 := Lib.hid h0
  clear hc hI hD h0
  obtain ⟨L1, L2⟩ := hL
  go_enter Try.func147, Try.ntmps147
  go_wp2_with fail
  go_loopw [4, 5] (fun a b wr => ∃ f t : Nat, Hid (Band s L f t) ∧ t ≤ L + 1 ∧ f ≤ L ∧ a = .int .i64 f ∧ b = .int .i64 t ∧ Hid (I f wr)) (fun _ b _ => L + 2 - (intOf b).toNat)
  case atStart => exact ⟨0, 1, Lib.hid (.inl ⟨by omega, by omega, fun k h1 h2 => by rw [show k = 0 by omega]⟩), by omega, by omega, rfl, rfl, H0⟩
  case round =>
    obtain ⟨f, t, HB, ht1, hfL, rfl, rfl, HX⟩ := hrel
    clear H0
    by_cases htL : t ≤ L
    · obtain ⟨_, hft, heq⟩ : t ≤ L ∧ f < t ∧ ∀ k, f ≤ k → k < t → s k = s f := by
        rcases HB.out with h | h
        · exact h
        · omega
      have EQ := Lib.hid heq
      have hf1 : f < L := by omega
      have cf := HI.out f wr HX.out f hf1
      clear heq HB
      have i1 : (f : Int) < (L : Int) := by omega
      by_cases hte : t = L
      · have b1 : ((t : Int) == (L : Int)) = true := by simp; omega
        have HTE := Lib.hid hte
        clear hte
        go_wp2_with fail
        go_quiet (fail)
        go_wp2_with fail
        refine (HC.out f t _ hft htL EQ.out (HD.out f wr HX.out _)).mono ?_
        rintro e w2 ⟨rfl, hi2⟩
        have HI2 := Lib.hid hi2
        clear hi2
        go_wp2_with fail
        go_roundw
        case rel => exact ⟨t, t + 1, Lib.hid (.inr ⟨by have := HTE.out; omega, HTE.out⟩), by omega, by omega, rfl, by go_num, HI2⟩
        case measure => simp [intOf]; omega
      · have b1 : ((t : Int) == (L : Int)) = false := by simp; omega
        have ht2 : t < L := by omega
        have ct := HI.out f wr HX.out t ht2
        have i2 : (t : Int) < (L : Int) := by omega
        by_cases hs : s t = s f
        · have b2 : (s t != s f) = false := by simp [hs]
          have HSE := Lib.hid hs
          clear hs
          go_wp2_with fail
          go_quiet (fail)
          go_wp2_with fail
          go_roundw
          case rel =>
            refine ⟨f, t + 1, Lib.hid (.inl ⟨by omega, by omega, fun k h1 h2 => ?_⟩), by omega, by omega, rfl, by go_num, Lib.hid (HD.out f wr HX.out _)⟩
            by_cases e : k = t
            · rw [e]; exact HSE.out
            · exact EQ.out k h1 (by omega)
          case measure => simp [intOf]; omega
        · have b2 : (s t != s f) = true := by simp [hs]
          have HSE := Lib.hid hs
          clear hs
          go_wp2_with fail
          go_quiet (fail)
          go_wp2_with fail
          refine (HC.out f t _ hft htL EQ.out (HD.out f wr HX.out _)).mono ?_
          rintro e w2 ⟨rfl, hi2⟩
          have HI2 := Lib.hid hi2
          clear hi2
          go_wp2_with fail
          go_roundw
          case rel => exact ⟨t, t + 1, Lib.hid (.inl ⟨by omega, by omega, fun k h1 h2 => by rw [show k = t by omega]⟩), by omega, by omega, rfl, by go_num, HI2⟩
          case measure => simp [intOf]; omega
    · have hfe : f = L := by
        rcases HB.out with h | h
        · omega
        · exact h.2
      have hte : t = L + 1 := by omega
      subst hfe
      subst hte
      go_wp2_with fail
      go_end0
      exact ⟨rfl, HX.out⟩

end Go.Proofs.Ytofcojcfcpfdmaa
namespace Go.Proofs.Ytofcojcfcpfdmaa
open Go.RowKit
set_option linter.unusedSimpArgs false
set_option linter.unusedVariables false

/-- The ink of a column at a row, which may lie beyond the page. -/
def hitC (q : Nat → Nat → Bool) (h : Nat) (k : Int) (x : Nat) : Nat := if 0 ≤ k ∧ k < (h : Int) then (q x k.toNat).toNat else 0
/-- How much ink of the first m columns a row has when each goes down. -/
def profUp (q : Nat → Nat → Bool) (h : Nat) (s : Nat → Int) (c : Int) (j : Nat) : Nat → Nat
  | 0 => 0
  | m + 1 => profUp q h s c j m + hitC q h ((j : Int) - (c + s m)) m

theorem hitC_le (q : Nat → Nat → Bool) (h : Nat) (k : Int) (x : Nat) : hitC q h k x ≤ 1 := by
  unfold hitC; split
  · cases q x k.toNat <;> simp
  · omega
theorem profUp_le (q : Nat → Nat → Bool) (h : Nat) (s : Nat → Int) (c : Int) (j m : Nat) : profUp q h s c j m ≤ m := by
  induction m with
  | zero => exact Nat.le_refl _
  | succ m ih => rw [profUp]; have := hitC_le q h ((j : Int) - (c + s m)) m; omega

theorem prof_band (q : Nat → Nat → Bool) (h : Nat) (s : Nat → Int) (c : Int) (f j : Nat) (t : Nat) (hft : f ≤ t) (hs : ∀ k, f ≤ k → k < t → s k = s f) :
    (profUp q h s c j t : Int) = bandC (fun j => (profUp q h s c j f : Int)) (fun y => (bef q y f : Int)) (fun y => (bef q y t : Int)) (c + s f) h j := by
  induction t with
  | zero =>
    obtain rfl : f = 0 := by omega
    unfold bandC; simp
  | succ t ih =>
    by_cases e : f = t + 1
    · subst e; unfold bandC; simp
    · have ih := ih (by omega) (fun k h1 h2 => hs k h1 (by omega))
      have e2 := hs t (by omega) (by omega)
      rw [profUp, e2, Int.natCast_add, ih]
      unfold bandC hitC
      by_cases hin : 0 ≤ (j : Int) - (c + s f) ∧ (j : Int) - (c + s f) < (h : Int)
      · rw [if_pos hin, if_pos hin, if_pos hin]
        simp only [bef]
        omega
      · rw [if_neg hin, if_neg hin, if_neg hin]; omega

set_option maxHeartbeats 400000 in
theorem column_any (x h w1 bb hb ab ac M : Nat) (w : World) (hx : x ≤ w1) (hw : w1 ≤ 4000) (hh : 1 ≤ h ∧ h ≤ 4000) (hM : M = (w1 + 1) * h) (hM2 : M ≤ 1100000) (h0 : w.cell? ⟨bb, 0, none⟩ = some (.slice (some ⟨ab, 0, none⟩) M M)) (h1 : w.cell? ⟨hb, 0, none⟩ = some (.int .i64 h)) :
    Calls Try.prog 145 #[.int .i64 x, .pointer (some ⟨bb, 0, none⟩), .pointer (some ⟨hb, 0, none⟩)] w fun e w' => e = .returned (.slice (some ⟨ab, x * h, none⟩) h (M - x * h)) ∧ w = w' := by
  have hfit := row_fits (show x < w1 + 1 by omega) (show h ≤ h from Nat.le_refl _)
  rw [Nat.mul_comm h, ← hM] at hfit
  obtain ⟨hh1, hh2⟩ := hh
  have x0 : (0 : Int) ≤ (x : Int) * (h : Int) := Int.mul_nonneg (by omega) (by omega)
  have x1 : (x : Int) * (h : Int) ≤ (M : Int) := by rw [← Int.natCast_mul]; omega
  have x2 : ((x : Int) + 1) * (h : Int) ≤ (M : Int) := by rw [Int.add_mul, Int.one_mul, ← Int.natCast_mul]; omega
  have x3 : (x : Int) * (h : Int) ≤ ((x : Int) + 1) * (h : Int) := by rw [Int.add_mul, Int.one_mul]; omega
  have x4 : (0 : Int) ≤ ((x : Int) + 1) * (h : Int) := by omega
  clear hM
  go_enter Try.func145, Try.ntmps145
  go_wp2_with fail
  go_ret
  exact ⟨by rw [show (x + 1) * h - x * h = h by rw [Nat.add_mul, Nat.one_mul]; omega]; rfl, rfl⟩

set_option maxHeartbeats 1000000 in
set_option maxRecDepth 100000 in
theorem band_any (w1 h f t kb cb hb bb ab ac M g m base : Nat) (q : Nat → Nat → Bool) (s : Nat → Int) (w : World) (hw : w1 ≤ 4000) (hh : 1 ≤ h ∧ h ≤ 4000) (hM : M = (w1 + 1) * h) (hM2 : M ≤ 1100000) (hm : m ≤ 8000) (hft : f < t) (ht : t ≤ w1) (hs : ∀ k, f ≤ k → k < t → s k = s f) (hsb : -1100 ≤ s f ∧ s f ≤ 1100)
    (hne : kb ≠ g ∧ cb ≠ g ∧ hb ≠ g ∧ bb ≠ g ∧ ab ≠ g)
    (h0 : w.cell? ⟨kb, 0, none⟩ = some (.slice (some ⟨g, 0, none⟩) m m)) (h1 : w.cell? ⟨cb, 0, none⟩ = some (.func (.func 145) #[] #[.pointer (some ⟨bb, 0, none⟩), .pointer (some ⟨hb, 0, none⟩)])) (h2 : w.cell? ⟨hb, 0, none⟩ = some (.int .i64 h))
    (h3 : w.cell? ⟨bb, 0, none⟩ = some (.slice (some ⟨ab, 0, none⟩) M M)) (hb4 : ∀ x y, x ≤ w1 → y < h → w.cell? ⟨ab, x * h + y, none⟩ = some (.int .i64 (bef q y x : Int)))
    (hown : w.ownsRow base 3 1 (.slice (some ⟨g, 0, none⟩) m m) m (intsOf (fun j => (profUp q h s ((h / 2 : Nat) : Int) j f : Int)) m)) :
    Calls Try.prog 148 #[.int .i64 f, .int .i64 t, .int .i64 (s f), .pointer (some ⟨kb, 0, none⟩), .pointer (some ⟨cb, 0, none⟩), .pointer (some ⟨hb, 0, none⟩)] w fun e w' =>
      e = .returned (.tuple #[]) ∧ w'.ownsRow base 3 1 (.slice (some ⟨g, 0, none⟩) m m) m (intsOf (fun j => (profUp q h s ((h / 2 : Nat) : Int) j t : Int)) m) ∧ Kept g g w w' := by
  obtain ⟨d, hd⟩ : ∃ d, d = s f := ⟨_, rfl⟩
  obtain ⟨c, hc⟩ : ∃ c, c = h / 2 := ⟨_, rfl⟩
  have hpb := fun j => prof_band q h s (c : Int) f j t (by omega) hs
  rw [← hc] at hown ⊢
  rw [← hd] at hsb hpb ⊢
  obtain ⟨d1, d2⟩ := hsb
  have hc2 : c ≤ 2000 := by omega
  have e1 : IntKind.i64.wrap ((h : Int) / 2) = (c : Int) := by rw [IntWalk.i64_in _ (by omega)]; omega
  have e2 : IntKind.i64.wrap ((c : Int) + d) = (c : Int) + d := IntWalk.i64_in _ (by omega)
  have HAB := Lib.hid (addBand_any m h g ab (f * h) (t * h) (M - f * h) (M - t * h) m base ((c : Int) + d) (fun j => (profUp q h s (c : Int) j f : Int)) (fun y => (bef q y f : Int)) (fun y => (bef q y t : Int)) w.drew hm hh.2 (by omega) hne.2.2.2.2
    (fun j => by have := profUp_le q h s (c : Int) j f; omega) (fun y => by have := bef_le q y f; omega) (fun y => by have := bef_le q y t; omega) (below_owns hown (Below.refl _ _).drew) (fun y hy => hb4 f y (by omega) hy) (fun y hy => hb4 t y ht hy))
  have HPB := Lib.hid hpb
  have NE := Lib.hid hne
  have HM := Lib.hid hM
  clear hpb hb4 hown hs hc hd hne hM
  go_enter Try.func148, Try.ntmps148
  go_wp2_with fail
  go_region_held3 (fun w' => w'.cell? ⟨kb, 0, none⟩ = some (.slice (some ⟨g, 0, none⟩) m m) ∧ w'.cell? ⟨cb, 0, none⟩ = some (.func (.func 145) #[] #[.pointer (some ⟨bb, 0, none⟩), .pointer (some ⟨hb, 0, none⟩)]) ∧ w'.cell? ⟨hb, 0, none⟩ = some (.int .i64 h) ∧ w'.cell? ⟨bb, 0, none⟩ = some (.slice (some ⟨ab, 0, none⟩) M M))
    (first | (go_keep; done) | (go_split_ands; exact ⟨hk5.cell ⟨NE.out.1, NE.out.1⟩ (by assumption), hk5.cell ⟨NE.out.2.1, NE.out.2.1⟩ (by assumption), hk5.cell ⟨NE.out.2.2.1, NE.out.2.2.1⟩ (by assumption), hk5.cell ⟨NE.out.2.2.2.1, NE.out.2.2.2.1⟩ (by assumption)⟩))
    ((first | ((first | go_at_call 145 | go_at_fn 145); ((with_reducible refine (column_any f h w1 bb hb ab ac M _ (by omega) hw hh HM.out hM2 ?_ ?_).mono ?_); (go_split_ands; assumption); (go_split_ands; assumption); rintro e w' ⟨rfl, rfl⟩)) | ((first | go_at_call 145 | go_at_fn 145); ((with_reducible refine (column_any t h w1 bb hb ab ac M _ ht hw hh HM.out hM2 ?_ ?_).mono ?_); (go_split_ands; assumption); (go_split_ands; assumption); rintro e w' ⟨rfl, rfl⟩)) | (go_at_call 149; ((with_reducible refine HAB.out.mono ?_); rintro e w5 ⟨rfl, ho5, hk5⟩))))
  go_wp2_with fail
  go_end0
  exact ⟨rfl, by rw [intsOf_congr (fun j _ => HPB.out j)]; exact ho5, (Kept.refl g g w).drew.trans hk5⟩

end Go.Proofs.Ytofcojcfcpfdmaa
namespace Go.Proofs.Ytofcojcfcpfdmaa
open Go.RowKit
set_option linter.unusedSimpArgs false
set_option linter.unusedVariables false

/-- What a function for profiles holds on to. -/
structure Prof (w h : Nat) (q : Nat → Nat → Bool) (hb wb cb bb ab M : Nat) (wr : World) : Prop where
  h0 : wr.cell? ⟨hb, 0, none⟩ = some (.int .i64 h)
  w0 : wr.cell? ⟨wb, 0, none⟩ = some (.int .i64 w)
  c0 : wr.cell? ⟨cb, 0, none⟩ = some (.func (.func 145) #[] #[.pointer (some ⟨bb, 0, none⟩), .pointer (some ⟨hb, 0, none⟩)])
  b0 : wr.cell? ⟨bb, 0, none⟩ = some (.slice (some ⟨ab, 0, none⟩) M M)
  a0 : ∀ x y, x ≤ w → y < h → wr.cell? ⟨ab, x * h + y, none⟩ = some (.int .i64 (bef q y x : Int))
theorem Prof.later {w h : Nat} {q : Nat → Nat → Bool} {hb wb cb bb ab M : Nat} {wr wx : World} (p : Prof w h q hb wb cb bb ab M wr) (hbl : Below wr.heap.size wr wx) : Prof w h q hb wb cb bb ab M wx :=
  ⟨cell_later hbl p.h0, cell_later hbl p.w0, cell_later hbl p.c0, cell_later hbl p.b0, fun x y hx hy => cell_later hbl (p.a0 x y hx hy)⟩

/-- The profile of a page that leans by n. -/
def profV (q : Nat → Nat → Bool) (w h : Nat) (n : Int) (j : Nat) : Nat := profUp q h (fallV w n) ((h / 2 : Nat) : Int) j w

/-- What holds while bands are added. -/
structure Adding (q : Nat → Nat → Bool) (h m L g kb sg : Nat) (s : Nat → Int) (c : Int) (w : World) (f : Nat) (wx : World) : Prop where
  b : Below w.heap.size w wx
  o : wx.ownsRow w.heap.size 3 1 (.slice (some ⟨g, 0, none⟩) m m) m (intsOf (fun j => (profUp q h s c j f : Int)) m)
  k : wx.cell? ⟨kb, 0, none⟩ = some (.slice (some ⟨g, 0, none⟩) m m)
  s : ∀ k, k < L → wx.cell? ⟨sg, k, none⟩ = some (.int .i64 (s k))

set_option maxHeartbeats 1000000 in
set_option maxRecDepth 100000 in
theorem profile_any (W h hb wb cb bb ab M : Nat) (n : Int) (q : Nat → Nat → Bool) (w : World) (hW : 1 ≤ W ∧ W ≤ 4000) (hh : 1 ≤ h ∧ h ≤ 4000) (hN : W * h ≤ 1048576) (hM : M = (W + 1) * h) (hn : -256 ≤ n ∧ n ≤ 256) (hP : Prof W h q hb wb cb bb ab M w) :
    Calls Try.prog 146 #[.int .i64 n, .pointer (some ⟨hb, 0, none⟩), .pointer (some ⟨wb, 0, none⟩), .pointer (some ⟨cb, 0, none⟩)] w fun e w' =>
      ∃ v, e = .returned v ∧ w'.ownsRow w.heap.size 3 1 v (2 * h) (intsOf (fun j => (profV q W h n j : Int)) (2 * h)) ∧ Below w.heap.size w w' := by
  have hmf : ∀ (fn : Fn) (first cap : Array Value) (w : World), (Instr.makeFunc fn first cap).run Try.prog w = .ok (.func fn first cap) w := fun _ _ _ _ => rfl
  obtain ⟨i0, hi, hz0, hz1, hz2⟩ := info_parts info_int
  have hM2 : M ≤ 1100000 := by rw [hM, Nat.add_mul, Nat.one_mul]; omega
  obtain ⟨m, hm⟩ : ∃ m, m = 2 * h := ⟨_, rfl⟩
  have hm2 : 2 * (h : Int) = (m : Int) := by omega
  have hm3 : m ≤ 8000 := by omega
  rw [← hm]
  have HM := Lib.hid hM
  have HHm := Lib.hid hm
  have HP := Lib.hid hP
  have q0 := hP.h0
  have l0 := World.block_lt_of_cell? _ _ q0
  have q1 := hP.w0
  have LT := Lib.hid (show hb < w.heap.size ∧ wb < w.heap.size ∧ cb < w.heap.size ∧ bb < w.heap.size ∧ ab < w.heap.size from ⟨World.block_lt_of_cell? _ _ hP.h0, World.block_lt_of_cell? _ _ hP.w0, World.block_lt_of_cell? _ _ hP.c0, World.block_lt_of_cell? _ _ hP.b0, World.block_lt_of_cell? _ _ (hP.a0 0 0 (by omega) (by omega))⟩)
  simp only at l0
  clear hM hm hP
  go_enter Try.func146, Try.ntmps146
  go_wp2_with (at_make; refine wpList_make_full _ rfl _ _ 52 rfl w.heap.size 3 i0 (.int .i64 0) 1 Try.underlying52 hi hz0 hz1 _ _ _ _ m rfl rfl rfl rfl (by rw [hz2]; omega) (by unfold maxLen; omega) (by simp) ?_)
  intro w1 hown1 hgrow1
  rw [toList_madeCells_one, intsOf_zero] at hown1
  have hb1 := (Below.refl w.heap.size _).grown hgrow1 (by simp) (by simp)
  have O1 := Lib.hid hown1
  have HB1 := Lib.hid hb1
  have hl1 : w.heap.size < w1.heap.size := by have := hown1.lt w.heap.size rfl; exact this.2
  clear hgrow1 hown1 q0 q1 hb1
  have k1 := cell_later HB1.out HP.out.w0
  go_upto_region 2 with (fail)
  obtain ⟨w2, hw2⟩ : ∃ w2, w2 = w1.alloc (.cells #[.slice (some ⟨w.heap.size, 0, none⟩) m m] 52) := ⟨_, rfl⟩
  have B2 : Below w1.heap.size w1 w2 := by rw [hw2]; exact new_below _ _
  have kc : w2.cell? ⟨w1.heap.size, 0, none⟩ = some (.slice (some ⟨w.heap.size, 0, none⟩) m m) := by rw [hw2]; go_simp
  rw [← hw2]
  clear hw2
  have KC := Lib.hid kc
  have HB2 := Lib.hid (below_step HB1.out B2)
  have O2 := Lib.hid (below_owns O1.out B2)
  have k2 := cell_later B2 k1
  clear B2 kc O1 k1
  go_wp2_with fail
  refine (shifts_any W n w2 hW hn).mono ?_
  rintro e w3 ⟨v, rfl, hown3, hb3⟩
  obtain ⟨sg, sc, rfl⟩ : ∃ sg sc, v = .slice (some ⟨sg, 0, none⟩) W sc := by
    rcases hown3.2 with ⟨_, h0⟩ | ⟨sg, cap, cur, h0, _⟩
    · omega
    · exact ⟨_, _, h0⟩
  have hsg := (hown3.lt sg rfl).1
  have hl2 := World.block_lt_of_cell? _ _ KC.out
  have hl2' := HB2.out.size
  simp only at hl2
  have S3 : ∀ k, k < W → w3.cell? ⟨sg, k, none⟩ = some (.int .i64 (fallV W n k)) := fun k hk => by
    have := hown3.cellAt k (by omega)
    rw [intsOf_get _ _ _ hk] at this; exact this
  have A3 := Lib.hid (show Adding q h m W w.heap.size w1.heap.size sg (fallV W n) ((h / 2 : Nat) : Int) w 0 w3 from
    ⟨below_step HB2.out hb3, by rw [intsOf_congr (g := fun _ => 0) (fun j _ => by simp [profUp])]; exact below_owns O2.out hb3, cell_later hb3 KC.out, S3⟩)
  have HSG := Lib.hid (show sg ≠ w.heap.size by omega)
  have HKG := Lib.hid (show w1.heap.size ≠ w.heap.size by omega)
  clear S3 hown3 hb3 hsg hl2 hl2' k2 O2 KC
  go_wp2_with fail
  refine (eachBand_any W sg sc 148 _ (fallV W n) (Adding q h m W w.heap.size w1.heap.size sg (fallV W n) ((h / 2 : Nat) : Int) w) w3 hW (Go.Proofs.enters_of Try.func148 (by kernel_rfl) rfl) (fun f wr hA => hA.s) (fun f wr hA k => ⟨below_drewN hA.b k, below_owns hA.o (below_drewN (Below.refl _ _) k), hA.k, hA.s⟩) A3.out ?_).mono ?_
  · intro f t wr hft ht hs hA
    have hP := HP.out.later hA.b
    have lt := LT.out
    refine (band_any W h f t w1.heap.size cb hb bb ab 0 M w.heap.size m w.heap.size q (fallV W n) wr hW.2 hh HM.out hM2 hm3 hft ht hs (fallV_bounds hW.2 hn (by omega)) ⟨HKG.out, by omega, by omega, by omega, by omega⟩ hA.k hP.c0 hP.h0 hP.b0 hP.a0 hA.o).mono ?_
    rintro e w' ⟨rfl, ho, hk⟩
    exact ⟨rfl, hA.b.trans (hk.below (Nat.le_refl _) (Nat.le_refl _)), ho, hk.cell ⟨HKG.out, HKG.out⟩ hA.k, fun k hk' => hk.cell ⟨HSG.out, HSG.out⟩ (hA.s k hk')⟩
  · rintro e w4 ⟨rfl, hA⟩
    have k4 := hA.k
    have O4 := Lib.hid hA.o
    have B4 := Lib.hid hA.b
    clear hA
    go_wp2_with fail
    go_ret
    exact ⟨_, rfl, O4.out, B4.out⟩

end Go.Proofs.Ytofcojcfcpfdmaa
namespace Go.Proofs.Ytofcojcfcpfdmaa
open Go.RowKit
set_option linter.unusedSimpArgs false
set_option linter.unusedVariables false

set_option maxHeartbeats 800000 in
set_option maxRecDepth 100000 in
theorem profiles_any (w h clo : Nat) (capt : Array Value) (q : Nat → Nat → Bool) (W0 : World) (hw : 1 ≤ w ∧ w ≤ 4000) (hh : 1 ≤ h ∧ h ≤ 4000) (hN : w * h ≤ 1048576)
    (eg : ∀ (args : Array Value) (W : World), (callFunc clo args).run Try.prog W = .ok (.enter clo args) W)
    (hc : ∀ (x y : Nat) (wx : World), x < w → y < h → Below W0.heap.size W0 wx → Calls Try.prog clo (#[.int .i64 x, .int .i64 y] ++ capt) wx fun e W' => e = .returned (.bool (q x y)) ∧ Below wx.heap.size wx W') :
    Calls Try.prog 118 #[.int .i64 w, .int .i64 h, .func (.func clo) #[] capt] W0 fun e w' =>
      ∃ hb wb cb bb ab, e = .returned (.func (.func 146) #[] #[.pointer (some ⟨hb, 0, none⟩), .pointer (some ⟨wb, 0, none⟩), .pointer (some ⟨cb, 0, none⟩)]) ∧ Prof w h q hb wb cb bb ab ((w + 1) * h) w' ∧ Below W0.heap.size W0 w' := by
  have hmf : ∀ (fn : Fn) (first cap : Array Value) (w : World), (Instr.makeFunc fn first cap).run Try.prog w = .ok (.func fn first cap) w := fun _ _ _ _ => rfl
  have HC := Lib.hid hc
  clear hc
  go_enter Try.func118, Try.ntmps118
  go_wp2_with fail
  obtain ⟨w1, hw1⟩ : ∃ w1, w1 = (W0.alloc (.cells #[.int .i64 w] 3)).alloc (.cells #[.int .i64 h] 3) := ⟨_, rfl⟩
  have B1 : Below W0.heap.size W0 w1 := by rw [hw1]; exact below_alloc (new_below _ _) _
  have q0 : w1.cell? ⟨W0.heap.size, 0, none⟩ = some (.int .i64 w) := by rw [hw1]; go_simp
  have q1 : w1.cell? ⟨W0.heap.size + 1, 0, none⟩ = some (.int .i64 h) := by rw [hw1]; go_simp
  rw [← hw1]
  clear hw1
  refine (inkBefore_any w h clo capt q w1 hw hh hN eg (fun x y wx hx hy hb => HC.out x y wx hx hy (below_step B1 hb))).mono ?_
  rintro e w2 ⟨ab, rfl, hab, hcell, hb2⟩
  have k0 := cell_later hb2 q0
  have k1 := cell_later hb2 q1
  have B2 := Lib.hid (below_step B1 hb2)
  have HCE := Lib.hid hcell
  obtain ⟨M, hM⟩ : ∃ M, M = (w + 1) * h := ⟨_, rfl⟩
  rw [← hM]
  have HM := Lib.hid hM
  clear hcell hb2 q0 q1 hM
  go_upto_region 2 with (fail)
  obtain ⟨w3, hw3⟩ : ∃ w3, w3 = w2.alloc (.cells #[.slice (some ⟨ab, 0, none⟩) M M] 52) := ⟨_, rfl⟩
  have B3 : Below w2.heap.size w2 w3 := by rw [hw3]; exact new_below _ _
  have k2 : w3.cell? ⟨w2.heap.size, 0, none⟩ = some (.slice (some ⟨ab, 0, none⟩) M M) := by rw [hw3]; go_simp
  rw [← hw3]
  clear hw3
  have j0 := cell_later B3 k0
  have j1 := cell_later B3 k1
  have HB3 := Lib.hid B3
  clear B3 k0 k1
  go_upto_region 3 with (fail)
  obtain ⟨w4, hw4⟩ : ∃ w4, w4 = w3.alloc (.cells #[.func (.func 145) #[] #[.pointer (some ⟨w2.heap.size, 0, none⟩), .pointer (some ⟨W0.heap.size + 1, 0, none⟩)]] 105) := ⟨_, rfl⟩
  have B4 : Below w3.heap.size w3 w4 := by rw [hw4]; exact new_below _ _
  have k3 : w4.cell? ⟨w3.heap.size, 0, none⟩ = some (.func (.func 145) #[] #[.pointer (some ⟨w2.heap.size, 0, none⟩), .pointer (some ⟨W0.heap.size + 1, 0, none⟩)]) := by rw [hw4]; go_simp
  rw [← hw4]
  clear hw4
  have F := Lib.hid (show Prof w h q (W0.heap.size + 1) W0.heap.size w3.heap.size w2.heap.size ab M w4 from
    ⟨cell_later B4 j1, cell_later B4 j0, k3, cell_later B4 k2, fun x y hx hy => cell_later (below_step HB3.out B4) (HCE.out x y hx hy)⟩)
  have G := Lib.hid (below_step (below_step B2.out HB3.out) B4)
  clear B4 k3 j0 j1 k2
  go_wp2_with fail
  go_ret
  exact ⟨_, _, _, _, _, rfl, by have := F.out; rw [HM.out] at this; exact this, G.out⟩

theorem rowProfiles1_any (W H x y gb pb po c : Nat) (z : Nat → Bool) (w : World) (hW : W ≤ 4000) (hH : H ≤ 4000) (hx : x < W) (hy : y < H)
    (h0 : w.cell? ⟨gb, 0, none⟩ = some (.int .i64 W)) (h2 : w.cell? ⟨gb, 2, none⟩ = some (.slice (some ⟨pb, po, none⟩) (W * H) c)) (hp : w.cell? ⟨pb, po + (y * W + x), none⟩ = some (.bool (z (y * W + x)))) :
    Calls Try.prog 119 #[.int .i64 x, .int .i64 y, .pointer (some ⟨gb, 0, none⟩)] w fun e w' => e = .returned (.bool (z (y * W + x))) ∧ Below w.heap.size w w' := by
  have hfit := row_fits hy (show x + 1 ≤ W by omega)
  have hN := Nat.mul_le_mul hW hH
  have x0 : (0 : Int) ≤ (y : Int) * (W : Int) := Int.mul_nonneg (by omega) (by omega)
  have x1 : (y : Int) * (W : Int) + (x : Int) < ((W * H : Nat) : Int) := by rw [← Int.natCast_mul]; omega
  have x3 : (y : Int) * (W : Int) + (x : Int) < (W : Int) * (H : Int) := by rw [← Int.natCast_mul, ← Int.natCast_mul]; omega
  have x2 : ((W * H : Nat) : Int) ≤ 16000000 := by omega
  obtain ⟨p, hpe⟩ : ∃ p, p = z (y * W + x) := ⟨_, rfl⟩
  rw [← hpe] at hp ⊢
  clear hfit hN hpe
  go_enter Try.func119, Try.ntmps119
  go_wp2_with fail
  go_ret
  exact ⟨rfl, Below.refl _ _⟩

/-- The ink of a page by columns and rows. -/
def inkQ (z : Nat → Bool) (W x y : Nat) : Bool := z (y * W + x)

set_option maxHeartbeats 800000 in
theorem rowProfiles_any (W H g o c : Nat) (z : Nat → Bool) (w : World) (hW : 1 ≤ W ∧ W ≤ 4000) (hH : 1 ≤ H ∧ H ≤ 4000) (hN : W * H ≤ 1048576) (hp : ∀ j, j < W * H → w.cell? ⟨g, o + j, none⟩ = some (.bool (z j))) :
    Calls Try.prog 83 #[.agg #[.int .i64 W, .int .i64 H, .slice (some ⟨g, o, none⟩) (W * H) c]] w fun e w' =>
      ∃ hb wb cb bb ab, e = .returned (.func (.func 146) #[] #[.pointer (some ⟨hb, 0, none⟩), .pointer (some ⟨wb, 0, none⟩), .pointer (some ⟨cb, 0, none⟩)]) ∧ Prof W H (inkQ z W) hb wb cb bb ab ((W + 1) * H) w' ∧ Below w.heap.size w w' := by
  have hmf : ∀ (fn : Fn) (first cap : Array Value) (w : World), (Instr.makeFunc fn first cap).run Try.prog w = .ok (.func fn first cap) w := fun _ _ _ _ => rfl
  have HC := Lib.hid hp
  clear hp
  go_enter Try.func83, Try.ntmps83
  go_wp2_with fail
  obtain ⟨w1, hw1⟩ : ∃ w1, w1 = w.alloc (.cells #[.int .i64 W, .int .i64 H, .slice (some ⟨g, o, none⟩) (W * H) c] 40) := ⟨_, rfl⟩
  have B1 : Below w.heap.size w w1 := by rw [hw1]; exact new_below _ _
  have q0 : w1.cell? ⟨w.heap.size, 0, none⟩ = some (.int .i64 W) := by rw [hw1]; go_simp
  have q2 : w1.cell? ⟨w.heap.size, 2, none⟩ = some (.slice (some ⟨g, o, none⟩) (W * H) c) := by rw [hw1]; go_simp
  rw [← hw1]
  clear hw1
  refine (profiles_any W H 119 _ (inkQ z W) w1 hW hH hN (Go.Proofs.enters_of Try.func119 (by kernel_rfl) rfl) ?_).mono ?_
  · intro x y wx hx hy hbx
    have hfit := row_fits hy (show x + 1 ≤ W by omega)
    exact rowProfiles1_any W H x y w.heap.size g o c z wx hW.2 hH.2 hx hy (cell_later hbx q0) (cell_later hbx q2) (cell_later (below_step B1 hbx) (HC.out _ (by omega)))
  · rintro e w2 ⟨hb, wb, cb, bb, ab, rfl, hP, hb2⟩
    have F := Lib.hid hP
    have G := Lib.hid (below_step B1 hb2)
    clear hP hb2 q0 q2 B1
    go_wp2_with fail
    go_ret
    exact ⟨_, _, _, _, _, rfl, F.out, G.out⟩

/-- The sum of squares. -/
def sqSum (f : Nat → Nat) : Nat → Nat
  | 0 => 0
  | n + 1 => sqSum f n + f n * f n
theorem sqSum_le (f : Nat → Nat) (n : Nat) (hf : ∀ j, f j ≤ 4000) : sqSum f n ≤ n * 16000000 := by
  induction n with
  | zero => simp [sqSum]
  | succ n ih => rw [sqSum]; have := Nat.mul_le_mul (hf n) (hf n); omega
set_option maxHeartbeats 400000 in
theorem squares_any (n g o c : Nat) (f : Nat → Nat) (w : World) (hn : n ≤ 8000) (hf : ∀ j, f j ≤ 4000) (hc : ∀ j, j < n → w.cell? ⟨g, o + j, none⟩ = some (.int .i64 (f j : Int))) :
    Calls Try.prog 84 #[.slice (some ⟨g, o, none⟩) n c] w fun e w' => e = .returned (.int .i64 (sqSum f n : Int)) ∧ w = w' := by
  have HC := Lib.hid hc
  have HF := Lib.hid hf
  clear hc hf
  go_enter Try.func84, Try.ntmps84
  go_wp2_with fail
  go_loop [3, 8] (fun a i => ∃ j S : Nat, j ≤ n ∧ i = .int .i64 j ∧ a = .int .i64 S ∧ Hid (S = sqSum f j)) (fun _ i => n - (intOf i).toNat)
  case atStart => exact ⟨0, 0, Nat.zero_le _, rfl, rfl, Lib.hid rfl⟩
  case round =>
    obtain ⟨j, S, hj, rfl, rfl, HS⟩ := hrel
    by_cases hlt : j < n
    · have c1 := HC.out j hlt
      have hb := sqSum_le f j HF.out
      rw [← HS.out] at hb
      have hv := HF.out j
      obtain ⟨v, hve⟩ : ∃ v, v = f j := ⟨_, rfl⟩
      rw [← hve] at c1 hv
      have p2 := Nat.mul_le_mul hv hv
      have p0 : (0 : Int) ≤ (v : Int) * (v : Int) := Int.mul_nonneg (by omega) (by omega)
      have p1 : (v : Int) * (v : Int) ≤ 16000000 := by rw [← Int.natCast_mul]; omega
      have HV := Lib.hid hve
      have i1 : (j : Int) < (n : Int) := by omega
      have hS2 : S ≤ 128000000000 := by omega
      clear hve p2 hb
      go_wp2_with fail
      go_round
      case rel => exact ⟨j + 1, S + v * v, by omega, by go_num, by rw [Int.natCast_add, Int.natCast_mul], Lib.hid (by rw [sqSum, ← HS.out, ← HV.out])⟩
      case measure => simp [intOf]; omega
    · have hje : j = n := by omega
      subst hje
      go_wp2_with fail
      go_ret
      exact ⟨by rw [HS.out]; rfl, rfl⟩

set_option maxHeartbeats 400000 in
theorem squareR_any (n g o c : Nat) (f : Nat → Nat) (w : World) (hn : n ≤ 8000) (hf : ∀ j, f j ≤ 4000) (hc : ∀ j, j < n → w.cell? ⟨g, o + j, none⟩ = some (.int .i64 (f j : Int))) :
    Calls Try.prog 40 #[.slice (some ⟨g, o, none⟩) n c] w fun e w' => e = .returned (.int .i64 (sqSum f n : Int)) ∧ w = w' := by
  have HC := Lib.hid hc
  have HF := Lib.hid hf
  clear hc hf
  go_enter Try.func40, Try.ntmps40
  go_wp2_with fail
  go_loop [3, 8] (fun a i => ∃ j S : Nat, j ≤ n ∧ i = .int .i64 j ∧ a = .int .i64 S ∧ Hid (S = sqSum f j)) (fun _ i => n - (intOf i).toNat)
  case atStart => exact ⟨0, 0, Nat.zero_le _, rfl, rfl, Lib.hid rfl⟩
  case round =>
    obtain ⟨j, S, hj, rfl, rfl, HS⟩ := hrel
    by_cases hlt : j < n
    · have c1 := HC.out j hlt
      have hb := sqSum_le f j HF.out
      rw [← HS.out] at hb
      have hv := HF.out j
      obtain ⟨v, hve⟩ : ∃ v, v = f j := ⟨_, rfl⟩
      rw [← hve] at c1 hv
      have p2 := Nat.mul_le_mul hv hv
      have p0 : (0 : Int) ≤ (v : Int) * (v : Int) := Int.mul_nonneg (by omega) (by omega)
      have p1 : (v : Int) * (v : Int) ≤ 16000000 := by rw [← Int.natCast_mul]; omega
      have HV := Lib.hid hve
      have i1 : (j : Int) < (n : Int) := by omega
      have hS2 : S ≤ 128000000000 := by omega
      clear hve p2 hb
      go_wp2_with fail
      go_round
      case rel => exact ⟨j + 1, S + v * v, by omega, by go_num, by rw [Int.natCast_add, Int.natCast_mul], Lib.hid (by rw [sqSum, ← HS.out, ← HV.out])⟩
      case measure => simp [intOf]; omega
    · have hje : j = n := by omega
      subst hje
      go_wp2_with fail
      go_ret
      exact ⟨by rw [HS.out]; rfl, rfl⟩

end Go.Proofs.Ytofcojcfcpfdmaa
namespace Go.Proofs.Ytofcojcfcpfdmaa
open Go.RowKit
set_option linter.unusedSimpArgs false
set_option linter.unusedVariables false

theorem profile_bad (a b n : Int) (p : Option Addr) (k c : Nat) (w : World) (h : orI (pageErr a b k) (leanErr n (-256)) ≠ 0) :
    Calls Try.prog 30 #[.agg #[.int .i64 a, .int .i64 b, .slice p k c], .int .i64 n] w fun e w' => e = .returned (.tuple #[.slice none 0 0, .int .i64 (orI (pageErr a b k) (leanErr n (-256)))]) ∧ Below w.heap.size w w' := by
  obtain ⟨q, hq⟩ : ∃ q, q = orI (pageErr a b k) (leanErr n (-256)) := ⟨_, rfl⟩
  rw [← hq] at h ⊢
  have t1 : (q != 0) = true := by simpa using h
  have HQ := Lib.hid hq
  clear h hq
  go_enter Try.func30, Try.ntmps30
  go_wp2_with fail
  have B1 := Lib.hid (new_below w (.cells #[.int .i64 a, .int .i64 b, .slice p k c] 40))
  refine (checkLean_any a b n p k c _).mono ?_
  rintro e w2 ⟨rfl, hb2⟩
  rw [← HQ.out]
  have G := Lib.hid (below_step B1.out hb2)
  clear hb2
  go_wp2_with fail
  go_ret2
  exact ⟨rfl, G.out⟩

set_option maxHeartbeats 800000 in
theorem profileS_ok (W H g o c : Nat) (n : Int) (z : Nat → Bool) (w : World) (hs : sizeErr W H = 0) (hn : -256 ≤ n ∧ n ≤ 256) (hp : ∀ j, j < W * H → w.cell? ⟨g, o + j, none⟩ = some (.bool (z j))) :
    Calls Try.prog 30 #[.agg #[.int .i64 W, .int .i64 H, .slice (some ⟨g, o, none⟩) (W * H) c], .int .i64 n] w fun e w' =>
      ∃ v, e = .returned (.tuple #[v, .int .i64 0]) ∧ w'.ownsRow w.heap.size 3 1 v (2 * H) (intsOf (fun j => (profV (inkQ z W) W H n j : Int)) (2 * H)) ∧ Below w.heap.size w w' := by
  obtain ⟨⟨a1, a2, a3, a4⟩, a5, a6⟩ := sizeErr_zero hs
  have hpe : pageErr W H (W * H) = 0 := by unfold pageErr; rw [if_pos hs, if_pos (by simp [Int.natCast_mul])]
  have hN : W * H ≤ 1048576 := by rw [← Int.natCast_mul] at a6; omega
  have hq : orI (pageErr W H (W * H)) (leanErr n (-256)) = 0 := by unfold orI leanErr; rw [if_pos hpe, if_pos hn]
  have HQ := Lib.hid hq
  have HC := Lib.hid hp
  have HN := Lib.hid hn
  have bW : 1 ≤ W ∧ W ≤ 4000 := by omega
  have bH : 1 ≤ H ∧ H ≤ 4000 := by omega
  clear hp hq hpe a5 a6 hs hn
  go_enter Try.func30, Try.ntmps30
  go_wp2_with fail
  obtain ⟨w1, hw1⟩ : ∃ w1, w1 = w.alloc (.cells #[.int .i64 W, .int .i64 H, .slice (some ⟨g, o, none⟩) (W * H) c] 40) := ⟨_, rfl⟩
  have B1 : Below w.heap.size w w1 := by rw [hw1]; exact new_below _ _
  have q0 : w1.heap[w.heap.size]? = some (.cells #[.int .i64 W, .int .i64 H, .slice (some ⟨g, o, none⟩) (W * H) c] 40 (0, 0)) := by rw [hw1]; exact heap_alloc_new _ _
  rw [← hw1]
  clear hw1
  refine (checkLean_any W H n (some ⟨g, o, none⟩) (W * H) c w1).mono ?_
  rintro e w2 ⟨rfl, hb2⟩
  rw [HQ.out]
  obtain ⟨p0, p1, p2, _, _, _⟩ := block3 (below_block hb2 q0)
  have G2 := Lib.hid (below_step B1 hb2)
  clear hb2 B1 q0
  go_wp2_with fail
  refine (rowProfiles_any W H g o c z w2 bW bH hN (fun j hj => cell_later G2.out (HC.out j hj))).mono ?_
  rintro e w3 ⟨hb, wb, cb, bb, ab, rfl, hP, hb3⟩
  have P3 := Lib.hid hP
  have G3 := Lib.hid (below_step G2.out hb3)
  clear hP hb3 p0 p1 p2
  go_wp2_with fail
  refine (profile_any W H hb wb cb bb ab _ n (inkQ z W) w3 bW bH hN rfl HN.out P3.out).mono ?_
  rintro e w4 ⟨v, rfl, hown, hb4⟩
  have F := Lib.hid hown
  have G := Lib.hid (below_step G3.out hb4)
  have HS3 := Lib.hid G3.out.size
  clear hown hb4
  go_wp2_with fail
  go_ret2
  exact ⟨_, rfl, owns_base F.out HS3.out, G.out⟩

theorem score_bad (a b n : Int) (p : Option Addr) (k c : Nat) (w : World) (h : orI (pageErr a b k) (leanErr n (-256)) ≠ 0) :
    Calls Try.prog 31 #[.agg #[.int .i64 a, .int .i64 b, .slice p k c], .int .i64 n] w fun e w' => e = .returned (.tuple #[.int .i64 0, .int .i64 (orI (pageErr a b k) (leanErr n (-256)))]) ∧ Below w.heap.size w w' := by
  have HP := Lib.hid (profile_bad a b n p k c (w.alloc (.cells #[.int .i64 a, .int .i64 b, .slice p k c] 40)) h)
  obtain ⟨q, hq⟩ : ∃ q, q = orI (pageErr a b k) (leanErr n (-256)) := ⟨_, rfl⟩
  rw [← hq] at h HP ⊢
  have t1 : (q != 0) = true := by simpa using h
  clear h hq
  go_enter Try.func31, Try.ntmps31
  go_wp2_with fail
  have B1 := Lib.hid (new_below w (.cells #[.int .i64 a, .int .i64 b, .slice p k c] 40))
  refine HP.out.mono ?_
  rintro e w2 ⟨rfl, hb2⟩
  have G := Lib.hid (below_step B1.out hb2)
  clear hb2
  go_wp2_with fail
  go_ret2
  exact ⟨rfl, G.out⟩

theorem owns_ints {w : World} {base n : Nat} {f : Nat → Int} {v : Value} (h : w.ownsRow base 3 1 v n (intsOf f n)) (hn : 1 ≤ n) : ∃ g c, v = .slice (some ⟨g, 0, none⟩) n c ∧ base ≤ g ∧ ∀ j, j < n → w.cell? ⟨g, 0 + j, none⟩ = some (.int .i64 (f j)) := by
  rcases h.2 with ⟨_, h0⟩ | ⟨g, cap, cur, h0, hb, _⟩
  · omega
  · subst h0
    refine ⟨g, cap, rfl, hb, fun j hj => ?_⟩
    have := h.cellAt j (by omega)
    rw [intsOf_get _ _ _ hj] at this
    rw [Nat.zero_add]; exact this

theorem score_ok (W H g o c : Nat) (n : Int) (z : Nat → Bool) (w : World) (hs : sizeErr W H = 0) (hn : -256 ≤ n ∧ n ≤ 256) (hp : ∀ j, j < W * H → w.cell? ⟨g, o + j, none⟩ = some (.bool (z j))) :
    Calls Try.prog 31 #[.agg #[.int .i64 W, .int .i64 H, .slice (some ⟨g, o, none⟩) (W * H) c], .int .i64 n] w fun e w' =>
      e = .returned (.tuple #[.int .i64 (sqSum (profV (inkQ z W) W H n) (2 * H) : Int), .int .i64 0]) ∧ Below w.heap.size w w' := by
  obtain ⟨⟨a1, a2, a3, a4⟩, a5, a6⟩ := sizeErr_zero hs
  have HP := Lib.hid (profileS_ok W H g o c n z (w.alloc (.cells #[.int .i64 W, .int .i64 H, .slice (some ⟨g, o, none⟩) (W * H) c] 40)) hs hn (fun j hj => cell_later (new_below _ _) (hp j hj)))
  have bW : W ≤ 4000 := by omega
  have bH : 1 ≤ H ∧ H ≤ 4000 := by omega
  clear hs hn hp a5 a6
  go_enter Try.func31, Try.ntmps31
  go_wp2_with fail
  have B1 := Lib.hid (new_below w (.cells #[.int .i64 W, .int .i64 H, .slice (some ⟨g, o, none⟩) (W * H) c] 40))
  refine HP.out.mono ?_
  rintro e w2 ⟨v, rfl, hown, hb2⟩
  obtain ⟨pg, pc, rfl, _, hcell⟩ := owns_ints hown (by omega)
  have HCE := Lib.hid hcell
  have G := Lib.hid (below_step B1.out hb2)
  clear hb2 hown hcell
  go_wp2_with fail
  refine (squares_any (2 * H) pg 0 pc (profV (inkQ z W) W H n) w2 (by omega) (fun j => Nat.le_trans (profUp_le _ _ _ _ _ _) bW) HCE.out).mono ?_
  rintro e w3 ⟨rfl, rfl⟩
  obtain ⟨S, hS⟩ : ∃ S, S = sqSum (profV (inkQ z W) W H n) (2 * H) := ⟨_, rfl⟩
  rw [← hS]
  go_wp2_with fail
  go_ret2
  exact ⟨rfl, G.out⟩

end Go.Proofs.Ytofcojcfcpfdmaa
namespace Go.Proofs.Ytofcojcfcpfdmaa
open Go.RowKit
set_option linter.unusedSimpArgs false
set_option linter.unusedVariables false

/-- What is counted when x columns and y pixels of the next one have been seen. -/
def saw (q : Nat → Nat → Bool) (h : Nat) (s : Nat → Int) (c : Int) (x y j : Nat) : Nat := profUp q h s c j x + hitC q y ((j : Int) - (c + s x)) x

theorem saw_zero (q : Nat → Nat → Bool) (h : Nat) (s : Nat → Int) (c : Int) (x j : Nat) : saw q h s c x 0 j = profUp q h s c j x := by
  unfold saw hitC; rw [if_neg (by omega), Nat.add_zero]
theorem saw_row (q : Nat → Nat → Bool) (h : Nat) (s : Nat → Int) (c : Int) (x j : Nat) : saw q h s c x h j = saw q h s c (x + 1) 0 j := by
  rw [saw_zero]; rfl
theorem saw_other {q : Nat → Nat → Bool} {h : Nat} {s : Nat → Int} {c : Int} {x y j : Nat} (hj : (j : Int) ≠ c + y + s x ∨ q x y = false) : saw q h s c x (y + 1) j = saw q h s c x y j := by
  unfold saw hitC
  congr 1
  by_cases h1 : 0 ≤ (j : Int) - (c + s x) ∧ (j : Int) - (c + s x) < (y : Int)
  · rw [if_pos (by omega), if_pos h1]
  · rw [if_neg h1]
    by_cases h2 : 0 ≤ (j : Int) - (c + s x) ∧ (j : Int) - (c + s x) < ((y + 1 : Nat) : Int)
    · rw [if_pos h2]
      have e : ((j : Int) - (c + s x)).toNat = y := by omega
      rw [e]
      rcases hj with hj | hj
      · omega
      · rw [hj]; rfl
    · rw [if_neg h2]
theorem saw_here {q : Nat → Nat → Bool} {h : Nat} {s : Nat → Int} {c : Int} {x y j : Nat} (hj : (j : Int) = c + y + s x) (hq : q x y = true) : saw q h s c x (y + 1) j = saw q h s c x y j + 1 := by
  unfold saw hitC
  rw [if_pos (by omega), if_neg (by omega)]
  have e : ((j : Int) - (c + s x)).toNat = y := by omega
  rw [e, hq]; rfl
theorem saw_le (q : Nat → Nat → Bool) (h : Nat) (s : Nat → Int) (c : Int) (x y j : Nat) : saw q h s c x y j ≤ x + 1 := by
  unfold saw
  have := profUp_le q h s c j x
  have := hitC_le q y ((j : Int) - (c + s x)) x
  omega

set_option maxHeartbeats 2000000 in
set_option maxRecDepth 100000 in
theorem profileR_ok (W H g o c : Nat) (n : Int) (z : Nat → Bool) (w : World) (hW : 1 ≤ W ∧ W ≤ 4000) (hH : 1 ≤ H ∧ H ≤ 4000) (hN : W * H ≤ 1048576) (hn : -256 ≤ n ∧ n ≤ 256) (hp : ∀ j, j < W * H → w.cell? ⟨g, o + j, none⟩ = some (.bool (z j))) :
    Calls Try.prog 35 #[.agg #[.int .i64 W, .int .i64 H, .slice (some ⟨g, o, none⟩) (W * H) c], .int .i64 n] w fun e w' =>
      ∃ v, e = .returned v ∧ w'.ownsRow w.heap.size 3 1 v (2 * H) (intsOf (fun j => (profV (inkQ z W) W H n j : Int)) (2 * H)) ∧ Below w.heap.size w w' := by
  obtain ⟨i0, hi, hz0, hz1, hz2⟩ := info_parts info_int
  obtain ⟨m, hm⟩ : ∃ m, m = 2 * H := ⟨_, rfl⟩
  have hm2 : 2 * (H : Int) = (m : Int) := by omega
  have hm3 : m ≤ 8000 := by omega
  obtain ⟨d, hd⟩ : ∃ d, d = H / 2 := ⟨_, rfl⟩
  have hd2 : d ≤ 2000 := by omega
  have HPV := Lib.hid (show ∀ j, profV (inkQ z W) W H n j = saw (inkQ z W) H (fallV W n) (d : Int) W 0 j from fun j => by rw [saw_zero, hd]; rfl)
  have HC := Lib.hid hp
  have HN := Lib.hid hn
  have HD := Lib.hid hd
  have HPX := Lib.hid (fun j (hj : j < W * H) => show g < w.heap.size from by have := World.block_lt_of_cell? _ _ (hp j hj); simpa using this)
  have bW := hW
  have bH := hH
  obtain ⟨hW1, hW2⟩ := hW
  obtain ⟨hH1, hH2⟩ := hH
  have HMm := Lib.hid hm
  rw [← hm]
  clear hp hd hn hm
  go_enter Try.func35, Try.ntmps35
  go_wp2_with (at_make; refine wpList_make_full _ rfl _ _ 52 rfl (w.heap.size + 1) 3 i0 (.int .i64 0) 1 Try.underlying52 hi hz0 hz1 _ _ _ _ m rfl rfl rfl rfl (by rw [hz2]; omega) (by unfold maxLen; omega) (by simp) ?_)
  intro w1 hown1 hgrow1
  rw [toList_madeCells_one, intsOf_zero] at hown1
  have hb1 := (Below.refl (w.heap.size + 1) _).grown hgrow1 (by simp) (by simp)
  have q0 : w1.heap[w.heap.size]? = some (.cells #[.int .i64 W, .int .i64 H, .slice (some ⟨g, o, none⟩) (W * H) c] 40 (0, 0)) := (hb1.block _ (by omega)).trans (heap_alloc_new _ _)
  have B1 := Lib.hid ((new_below w (.cells #[.int .i64 W, .int .i64 H, .slice (some ⟨g, o, none⟩) (W * H) c] 40)).trans (hb1.mono (show w.heap.size ≤ w.heap.size + 1 by omega)))
  have Q0 := Lib.hid q0
  have HST := Lib.hid (show w1.ownsRow (w.heap.size + 1) 3 1 (.slice (some ⟨w.heap.size + 1, 0, none⟩) m m) m (intsOf (fun j => (saw (inkQ z W) H (fallV W n) (d : Int) 0 0 j : Int)) m) ∧ Below (w.heap.size + 1) w1 w1 from
    ⟨by rw [intsOf_congr (g := fun _ => 0) (fun j _ => by rw [saw_zero]; rfl)]; simpa using hown1, Below.refl _ _⟩)
  obtain ⟨p0, p1, p2, _, _, _⟩ := block3 q0
  clear hgrow1 hb1 hown1 q0
  go_wp2_with fail
  go_loopw [15] (fun i wr => ∃ x : Nat, x ≤ W ∧ i = .int .i64 x ∧ Hid (wr.ownsRow (w.heap.size + 1) 3 1 (.slice (some ⟨w.heap.size + 1, 0, none⟩) m m) m (intsOf (fun j => (saw (inkQ z W) H (fallV W n) (d : Int) x 0 j : Int)) m) ∧ Below (w.heap.size + 1) w1 wr)) (fun i _ => W - (intOf i).toNat)
  case atStart => exact ⟨0, Nat.zero_le _, rfl, HST⟩
  case round =>
    obtain ⟨x, hx, rfl, HX⟩ := hrel
    clear HST p0 p1 p2
    by_cases hlt : x < W
    · obtain ⟨wo, rfl⟩ : ∃ wo : World, wo = wr := ⟨_, rfl⟩
      obtain ⟨p0, p1, p2, _, _, _⟩ := block3 ((HX.out.2.block w.heap.size (by omega)).trans Q0.out)
      go_wp2_with fail
      go_loopw [20] (fun i wr => ∃ y : Nat, y ≤ H ∧ i = .int .i64 y ∧ Hid (wr.ownsRow (w.heap.size + 1) 3 1 (.slice (some ⟨w.heap.size + 1, 0, none⟩) m m) m (intsOf (fun j => (saw (inkQ z W) H (fallV W n) (d : Int) x y j : Int)) m) ∧ Below (w.heap.size + 1) w1 wr)) (fun i _ => H - (intOf i).toNat)
      case atStart => exact ⟨0, Nat.zero_le _, rfl, HX⟩
      case round =>
        obtain ⟨y, hy, rfl, HY⟩ := hrel
        clear HX p0 p1 p2
        by_cases hlty : y < H
        · obtain ⟨p0, p1, p2, _, _, _⟩ := block3 ((HY.out.2.block w.heap.size (by omega)).trans Q0.out)
          have hsb := fallV_bounds hW2 HN.out hlt
          obtain ⟨s, hs⟩ : ∃ s, s = fallV W n x := ⟨_, rfl⟩
          rw [← hs] at hsb
          obtain ⟨s1, s2⟩ := hsb
          have e1 : IntKind.i64.wrap ((H : Int) / 2) = (d : Int) := by rw [IntWalk.i64_in _ (by omega)]; have := HD.out; omega
          have e2 : IntKind.i64.wrap ((d : Int) + (y : Int)) = (d : Int) + (y : Int) := IntWalk.i64_in _ (by omega)
          have e3 : IntKind.i64.wrap ((d : Int) + (y : Int) + s) = (d : Int) + (y : Int) + s := IntWalk.i64_in _ (by omega)
          have HS := Lib.hid hs
          have hzc := HC.out (y * W + x) (by have := row_fits hlty (show x + 1 ≤ W by omega); omega)
          have l0 : w.heap.size < wr.heap.size := by have := World.block_lt_of_cell? _ _ p0; simpa using this
          clear hs
          go_wp2_with fail
          go_region_held3 (fun w' => w'.cell? ⟨w.heap.size, 0, none⟩ = some (.int .i64 W) ∧ w'.cell? ⟨w.heap.size, 1, none⟩ = some (.int .i64 H) ∧ w'.cell? ⟨w.heap.size, 2, none⟩ = some (.slice (some ⟨g, o, none⟩) (W * H) c))
            (first | (go_keep; done) | (go_split_ands; exact ⟨cell_later hb5 (by assumption), cell_later hb5 (by assumption), cell_later hb5 (by assumption)⟩))
            ((first | (go_at_call 85; ((with_reducible refine (fallR_any W H x n _ _ _ _ bW HN.out hlt).mono ?_); rw [← HS.out]; rintro e w5 ⟨rfl, hb5⟩))))
          have hbd := below_step (Below.refl wr.heap.size wr).drew hb5
          have R5 := Lib.hid (show _ ∧ _ from ⟨below_owns HY.out.1 hbd, HY.out.2.trans (hbd.mono (by omega))⟩)
          have hz5 : w5.cell? ⟨g, o + (y * W + x), none⟩ = some (.bool (z (y * W + x))) := (R5.out.2.cell (p := ⟨g, o + (y * W + x), none⟩) (by have := HPX.out _ (show y * W + x < W * H by have := row_fits hlty (show x + 1 ≤ W by omega); omega); simp only; omega)).trans (cell_later B1.out hzc)
          obtain ⟨qv, hqv⟩ : ∃ qv, qv = z (y * W + x) := ⟨_, rfl⟩
          rw [← hqv] at hz5
          have HAT := Lib.hid (at_in W H g o c x y qv w5 (by omega) (by omega) hlt hlty hz5)
          have HQ := Lib.hid (show inkQ z W x y = qv from hqv.symm)
          obtain ⟨k, hk⟩ : ∃ k, k = (d : Int) + (y : Int) + s := ⟨_, rfl⟩
          have hkb : -2000 ≤ k ∧ k ≤ 8000 := by omega
          have HK := Lib.hid hk
          obtain ⟨p0, p1, p2, _, _, _⟩ := block3 ((R5.out.2.block w.heap.size (by omega)).trans Q0.out)
          clear hbd hzc hz5 hqv e1 e2 e3 hb5 l0
          rw [← hk]
          clear hk
          cases qv
          · go_wp2_with (go_at_call 86; ((with_reducible refine HAT.out.mono ?_); rintro e w6 ⟨rfl, hb6⟩))
            have R6 := Lib.hid (show _ ∧ _ from ⟨below_owns R5.out.1 hb6, R5.out.2.trans (hb6.mono (by have := World.block_lt_of_cell? _ _ p0; simp only at this; omega))⟩)
            go_roundw
            case rel => exact ⟨y + 1, by omega, by go_num, Lib.hid ⟨by rw [intsOf_congr (fun j _ => by rw [saw_other (.inr HQ.out)])]; exact R6.out.1, R6.out.2⟩⟩
            case measure => simp [intOf]; omega
          · by_cases hin : 0 ≤ k ∧ k ≤ (m : Int) - 1
            · obtain ⟨J, hJ⟩ : ∃ J : Nat, k = (J : Int) := ⟨k.toNat, by omega⟩
              subst hJ
              have HIN := Lib.hid hin
              have hJm : J < m := by omega
              have hJi : (J : Int) < (m : Int) := by omega
              clear hin
              go_wp2_with (first | (go_at_call 86; ((with_reducible refine HAT.out.mono ?_); rintro e w6 ⟨rfl, hb6⟩; have R6 := Lib.hid (show _ ∧ _ from ⟨below_owns R5.out.1 hb6, R5.out.2.trans (hb6.mono (by have := World.block_lt_of_cell? _ _ p0; simp only at this; omega))⟩); have c6 := R6.out.1.cellAt J (by omega); rw [intsOf_get _ _ _ hJm] at c6; have f6 := R6.out.1.frozenAt J; have sl := saw_le (inkQ z W) H (fallV W n) (d : Int) x y J; have sv : ∃ C, C = saw (inkQ z W) H (fallV W n) (d : Int) x y J := ⟨_, rfl⟩; obtain ⟨C, hC⟩ := sv; rw [← hC] at c6 sl; have HCC := Lib.hid hC; clear hC hb6)) | (go_at_call 43; refine (in_yes _ _ _ _ HIN.out).mono ?_; rintro e w' ⟨rfl, rfl⟩))
              go_roundw
              case rel =>
                refine ⟨y + 1, by omega, by go_num, Lib.hid ⟨?_, R6.out.2.setCell (by simp) _⟩⟩
                have hJd : (J : Int) = (d : Int) + (y : Int) + fallV W n x := by rw [← HS.out]; exact HK.out
                have h1 := (R6.out.1.stored J (.int .i64 ((C : Int) + 1))).1
                rw [intsOf_set (g := fun j => (saw (inkQ z W) H (fallV W n) (d : Int) x (y + 1) j : Int)) hJm (by rw [saw_here hJd HQ.out, ← HCC.out]; rfl) (fun i _ hne => by rw [saw_other (.inl (by omega))])] at h1
                exact h1
              case measure => simp [intOf]; omega
            · have HIN := Lib.hid hin
              clear hin
              go_wp2_with (first | (go_at_call 86; ((with_reducible refine HAT.out.mono ?_); rintro e w6 ⟨rfl, hb6⟩)) | (go_at_call 43; refine (in_no _ _ _ _ HIN.out).mono ?_; rintro e w' ⟨rfl, rfl⟩))
              have R6 := Lib.hid (show _ ∧ _ from ⟨below_owns R5.out.1 hb6, R5.out.2.trans (hb6.mono (by have := World.block_lt_of_cell? _ _ p0; simp only at this; omega))⟩)
              go_roundw
              case rel => exact ⟨y + 1, by omega, by go_num, Lib.hid ⟨by rw [intsOf_congr (fun j hj => by rw [saw_other (.inl (by have := HK.out; have := HS.out; have := HIN.out; omega))])]; exact R6.out.1, R6.out.2⟩⟩
              case measure => simp [intOf]; omega
        · have hye : y = H := by omega
          subst hye
          go_wp2_with fail
          go_roundw
          case rel => exact ⟨x + 1, by omega, by go_num, Lib.hid ⟨by have h1 := HY.out.1; rw [intsOf_congr (g := fun j => (saw (inkQ z W) y (fallV W n) (d : Int) (x + 1) 0 j : Int)) (fun j _ => by rw [saw_row])] at h1; exact h1, HY.out.2⟩⟩
          case measure => simp [intOf]; omega
    · have hxe : x = W := by omega
      subst hxe
      go_wp2_with fail
      go_ret
      refine ⟨_, rfl, ?_, B1.out.trans (HX.out.2.mono (by omega))⟩
      rw [intsOf_congr (g := fun j => (saw (inkQ z x) H (fallV x n) (d : Int) x 0 j : Int)) (fun j _ => by rw [HPV.out])]
      exact owns_base HX.out.1 (by omega)

end Go.Proofs.Ytofcojcfcpfdmaa
namespace Go.Proofs.Ytofcojcfcpfdmaa
open Go.ChangeShapes Go.WideShapes Go.ChangeAt Go.RowKit Go.Joins
open Go.ChangeMaps (open_string shut_string)
set_option linter.unusedVariables false

set_option maxRecDepth 100000 in
/-- A page in black and white by value, opened. -/
theorem open_bitsN {W : World} {H : Type} {enc : TypeId × Value → H} {base : Nat} {held : Bool} {r : Reach} {b0 : Nat} {v : Value} {d : DataW H} {p : List MemPlace}
    (hv : Value.okWide Try.prog W r b0 40 v) (h : DataW.Trod enc Try.prog W base (fun _ => true) held 40 v d p) :
    ∃ a b s n c B, v = .agg #[.int .i64 a, .int .i64 b, .slice s n c] ∧ IsBools W s n c B ∧ n ≤ 9223372036854775807 := by
  obtain ⟨c0, c1, c2, y0, y1, y2, m, rfl, rfl, rfl, hy0, hy1, hy2⟩ := open_agg3 Try.underlying40 (by kernel_rfl) cellsBits hv h
  obtain ⟨a, e0, rfl, wa⟩ := DataW.trod_int Try.underlying3 hy0
  obtain ⟨b, e1, rfl, wb⟩ := DataW.trod_int Try.underlying3 hy1
  simp at e0 e1
  subst e0 e1
  rcases Go.Deep.open_bools Try.underlying38 Try.underlying4 cellsBool hy2 with ⟨hcs, _⟩ | ⟨x, l, c, B, hcs, _, hl, hm, _, hcell⟩
  · simp at hcs
    subst hcs
    exact ⟨a, b, none, 0, 0, fun _ => false, rfl, .inl ⟨rfl, rfl, rfl⟩, by decide⟩
  · simp at hcs
    subst hcs
    exact ⟨a, b, some x, l, c, B, rfl, .inr ⟨x, rfl, fun i hi => hcell i (by omega)⟩, by unfold maxLen at hm; omega⟩

end Go.Proofs.Ytofcojcfcpfdmaa
namespace Go.Proofs.Ytofcojcfcpfdmaa
open Go.RowKit
set_option linter.unusedSimpArgs false
set_option linter.unusedVariables false

/-- The mean of the pixels of a square of two by two from (2x, 2y) on, as far as they are there. -/
def mean4 (P : Nat → Int) (W H x y : Nat) : Int :=
  (2 * rectSum P W (2 * y) (2 * x) (min (2 * x + 2) W - 2 * x) (min (2 * y + 2) H - 2 * y) + (((min (2 * x + 2) W - 2 * x) * (min (2 * y + 2) H - 2 * y) : Nat) : Int)) / (2 * (((min (2 * x + 2) W - 2 * x) * (min (2 * y + 2) H - 2 * y) : Nat) : Int))

end Go.Proofs.Ytofcojcfcpfdmaa
namespace Go.Proofs.Ytofcojcfcpfdmaa
open Go.RowKit
set_option linter.unusedSimpArgs false
set_option linter.unusedVariables false

/-- The place (a, b) lies in the other page. -/
def InC (Wc Hc : Nat) (x y : Int) (a b : Nat) : Prop := (0 ≤ (a : Int) - x ∧ (a : Int) - x < Wc) ∧ (0 ≤ (b : Int) - y ∧ (b : Int) - y < Hc)
instance (Wc Hc : Nat) (x y : Int) (a b : Nat) : Decidable (InC Wc Hc x y a b) := by unfold InC; infer_instance

/-- A place of the page with the other one pasted. -/
def pasteAt (W Wc Hc : Nat) (x y : Int) (z1 z2 : Nat → Bool) (a b : Nat) : Bool :=
  z1 (b * W + a) || (decide (InC Wc Hc x y a b) && z2 (((b : Int) - y).toNat * Wc + ((a : Int) - x).toNat))

end Go.Proofs.Ytofcojcfcpfdmaa
