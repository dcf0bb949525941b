/-
  The tied card of PagesPrint: for every page in black and white and every text the law returns true, and each argument reads afterwards as it read before. Condition: the listed package variables start as the program's text lays them (the card ties it to that text).
-/
import Derived.Test.YtofcojcfcpfdmaaDoorRows
import Derived.WalkKit
import Derived.WalkSpells
import Derived.WalkLawsBesides
import Derived.Lib.Hide
import Derived.Deep.RegionHeld3
import Derived.Shelf.Abstract
import Derived.Shelf.Strings.Builder1
import Derived.Shelf.Strings.Search1
import Derived.Shelf.Strings.Search2
import Derived.Shelf.Strings.SlTrimAscii
import Derived.Test.YtofcojcfcpfdmaaDoorProg
import Derived.Lib.IndexLaws
import Derived.Lib.IndexBytes
import Derived.Lib.SlTrimSet
import Derived.Deep.QuietTactic
import Derived.BigQuiet
import Derived.Laws.EntriesVeiled
import Derived.Lib.OthersKept
import Derived.Deep.RegionLaw
import Derived.Deep.AppendLies
import Derived.Deep.DrawnRows
import Derived.RegionTactic
import Derived.ChangeAlike
import Derived.BigRegion
import Derived.Laws.RangeAny
import Derived.Lib.Builder
import Derived.Laws.Externs
import Derived.Laws.BytesArg
import Derived.ProofKit
import Derived.OpenShut
import Derived.ShutString
import Derived.ChangeOld
import Derived.Lib.SmallJoins
import Derived.Deep.Grids
import Derived.Deep.DeepCutAuto
import Derived.Test.YtofcojcfcpfdmaaDoorTie
import Derived.Test.YtofcojcfcpfdmaaDoorCards
import Derived.Handy
import Derived.Lay
import Derived.SevenTiedAt
import Derived.Test.YtofcojcfcpfdmaaDoorCPrint3
namespace Go.Proofs.YtofcojcfcpfdmaaDoor
open Go.RowKit
set_option linter.unusedSimpArgs false
set_option linter.unusedVariables false

def printErr (a b : Int) (n : Nat) : Int := orI (pageErr a b n) (whenI (decide (200 < a) || decide (200 < b)) 4)

theorem orI_zero {x y : Int} (h : orI x y = 0) : x = 0 ∧ y = 0 := by
  unfold orI at h
  split at h
  · exact ⟨by assumption, h⟩
  · exact absurd h (by assumption)

theorem printErr_zero {a b : Int} {n : Nat} (h : printErr a b n = 0) : pageErr a b n = 0 ∧ a ≤ 200 ∧ b ≤ 200 := by
  obtain ⟨h1, h2⟩ := orI_zero h
  refine ⟨h1, ?_⟩
  unfold whenI at h2
  split at h2
  · cases h2
  · rename_i hh
    simp at hh
    omega

/-- What a page without an error is, with the marks of its places. -/
theorem page_parts {a b : Int} {n c : Nat} {p : Option Addr} {B : Nat → Bool} {w : World} (hs : IsBools w p n c B) (h : printErr a b n = 0) :
    ∃ (W H g o : Nat), a = (W : Int) ∧ b = (H : Int) ∧ n = W * H ∧ p = some ⟨g, o, none⟩ ∧ 1 ≤ W ∧ W ≤ 200 ∧ 1 ≤ H ∧ H ≤ 200 ∧ sizeErr W H = 0 ∧ ∀ j, j < W * H → w.cell? ⟨g, o + j, none⟩ = some (.bool (B j)) := by
  obtain ⟨h1, h2, h3⟩ := printErr_zero h
  have hse : sizeErr a b = 0 := by
    unfold pageErr at h1
    split at h1
    · assumption
    · exact h1
  have hn : (n : Int) = a * b := by
    unfold pageErr at h1
    rw [if_pos hse] at h1
    split at h1
    · assumption
    · cases h1
  obtain ⟨⟨a1, a2, a3, a4⟩, a5, a6⟩ := sizeErr_zero hse
  obtain ⟨W, rfl⟩ := Int.eq_ofNat_of_zero_le (show 0 ≤ a by omega)
  obtain ⟨H, rfl⟩ := Int.eq_ofNat_of_zero_le (show 0 ≤ b by omega)
  have hn2 : n = W * H := by rw [← Int.natCast_mul] at hn; omega
  have hpos := Nat.mul_pos (show 0 < W by omega) (show 0 < H by omega)
  obtain ⟨g, o, rfl, hc⟩ := isBools_cells hs (by omega)
  subst hn2
  exact ⟨W, H, g, o, rfl, rfl, rfl, rfl, by omega, by omega, by omega, by omega, hse, hc⟩

theorem print_any (a b : Int) (p : Option Addr) (n c : Nat) (B : Nat → Bool) (w : World) (hs : IsBools w p n c B) :
    Calls Tryd.prog 5 #[.agg #[.int .i64 a, .int .i64 b, .slice p n c]] w fun e w' => ∃ (st : ByteArray) (E : Int), e = .returned (.tuple #[.string st, .int .i64 E]) ∧ E = printErr a b n ∧ (E ≠ 0 → st = ⟨#[]⟩) ∧ (E = 0 → st = ⟨(pageText a.toNat B b.toNat).toArray⟩) ∧ Below w.heap.size w w' := by
  by_cases h : printErr a b n = 0
  · obtain ⟨W, H, g, o, rfl, rfl, rfl, rfl, h1, h2, h3, h4, h5, h6⟩ := page_parts hs h
    refine (print_ok W H g o c B w h5 h2 h4 h6).mono ?_
    rintro e w' ⟨rfl, hb⟩
    exact ⟨_, 0, rfl, h.symm, (fun k => absurd rfl k), (fun _ => rfl), hb⟩
  · by_cases hp : pageErr a b n = 0
    · have hl : 200 < a ∨ 200 < b := by
        by_cases h1 : 200 < a
        · exact .inl h1
        · by_cases h2 : 200 < b
          · exact .inr h2
          · exfalso; apply h
            unfold printErr orI whenI
            rw [if_pos hp, if_neg (by simp; omega)]
      have he : printErr a b n = 4 := by
        unfold printErr orI whenI
        rw [if_pos hp, if_pos (by simpa using hl)]
      refine (print_large a b p n c w hp hl).mono ?_
      rintro e w' ⟨rfl, hb⟩
      exact ⟨_, 4, rfl, he.symm, fun _ => rfl, fun k => absurd k (by decide), hb⟩
    · have he : printErr a b n = pageErr a b n := by
        unfold printErr orI
        rw [if_neg hp]
      refine (print_badPage a b p n c w hp).mono ?_
      rintro e w' ⟨rfl, hb⟩
      exact ⟨_, _, rfl, he.symm, fun _ => rfl, fun k => absurd k hp, hb⟩

theorem parse_let (s : ByteArray) (w : World) (hs0 : s.size ≤ 9223372036854775807) {EE : Int} {AA : Nat} (hE : pErr s.data.toList = EE) (hA : pAt s.data.toList = AA) :
    Calls Tryd.prog 10 #[.string s] w fun e w' => ∃ i j sl n c, e = .returned (.tuple #[.agg #[.int .i64 i, .int .i64 j, .slice sl n c], .int .i64 AA, .int .i64 EE]) ∧
      PgIs EE (pW s.data.toList) (pOut s.data.toList).2 (inkOf s.data.toList (pW s.data.toList)) w' i j sl n c ∧ Below w.heap.size w w' := by
  subst hE hA
  exact parse_any s w hs0
theorem parsed_let (s : ByteArray) (w : World) (hs0 : s.size ≤ 9223372036854775807) {EE : Int} {AA : Nat} (hE : pErr s.data.toList = EE) (hA : pAt s.data.toList = AA) :
    Calls Tryd.prog 13 #[.string s] w fun e w' => ∃ i j sl n c, e = .returned (.tuple #[.agg #[.int .i64 i, .int .i64 j, .slice sl n c], .int .i64 AA, .int .i64 EE]) ∧
      PgIs EE (pW s.data.toList) (pOut s.data.toList).2 (inkOf s.data.toList (pW s.data.toList)) w' i j sl n c ∧ Below w.heap.size w w' := by
  subst hE hA
  exact parsed_any s w hs0

theorem pErr_small {l : List UInt8} (h : pErr l = 0) : pW l * (pOut l).2 ≤ 100000000 := by
  unfold pErr at h
  split at h
  · cases h
  split at h
  · cases h
  split at h
  · cases h
  split at h
  · cases h
  rename_i hh
  have := Nat.mul_le_mul (show pW l ≤ 200 by omega) (show (pOut l).2 ≤ 200 by omega)
  omega

theorem parse_page (W H : Nat) (z : Nat → Bool) (st : ByteArray) (w : World) (hst : st = ⟨(pageText W z H).toArray⟩) (hW : 1 ≤ W) (hW2 : W ≤ 200) (hH : 1 ≤ H) (hH2 : H ≤ 200) :
    Calls Tryd.prog 10 #[.string st] w fun e w' => ∃ g c, e = .returned (.tuple #[.agg #[.int .i64 W, .int .i64 H, .slice (some ⟨g, 0, none⟩) (W * H) c], .int .i64 0, .int .i64 0]) ∧ (∀ k, k < W * H → w'.cell? ⟨g, 0 + k, none⟩ = some (.bool (z k))) ∧ Below w.heap.size w w' := by
  subst hst
  have hl : (⟨(pageText W z H).toArray⟩ : ByteArray).data.toList = pageText W z H := by simp
  obtain ⟨hp1, hp2⟩ := page_ok W H z hW hW2 hH hH2
  have hsz : (⟨(pageText W z H).toArray⟩ : ByteArray).size ≤ 9223372036854775807 := by
    have h1 : (⟨(pageText W z H).toArray⟩ : ByteArray).size = (pageText W z H).length := by simp [ByteArray.size]
    have h2 := page_length W H z
    have h3 := Nat.mul_le_mul hH2 (show W + 1 ≤ 201 by omega)
    omega
  refine (parse_let _ w hsz (EE := 0) (AA := 0) (by rw [hl, hp1]) (by rw [hl, hp2])).mono ?_
  rintro e w' ⟨i, j, sl, n, c, rfl, hpg, hb⟩
  rw [hl, page_pW W H z hH, page_pOut W H z hW hH] at hpg
  rcases hpg with ⟨e1, _⟩ | ⟨_, rfl, rfl, rfl, g, rfl, hc⟩
  · exact absurd rfl e1
  · refine ⟨g, c, rfl, fun k hk => ?_, hb⟩
    rw [hc k hk, page_ink W H z _ _ (Nat.mod_lt _ (by omega)) (Nat.div_lt_of_lt_mul hk)]
    rw [Nat.mul_comm (k / W) W, Nat.div_add_mod]

set_option maxHeartbeats 4000000 in
set_option maxRecDepth 100000 in
theorem pagesPrint_any (a b : Int) (p : Option Addr) (n c : Nat) (B : Nat → Bool) (s : ByteArray) (w : World) (hs : IsBools w p n c B) (ht : s.size ≤ 9223372036854775807) :
    Calls Tryd.prog 3 #[.agg #[.int .i64 a, .int .i64 b, .slice p n c], .string s] w fun e w' => e = .returned (.bool true) ∧ Below w.heap.size w w' := by
  obtain ⟨EE, hEE⟩ : ∃ EE, pErr s.data.toList = EE := ⟨_, rfl⟩
  obtain ⟨AA, hAA⟩ : ∃ AA, pAt s.data.toList = AA := ⟨_, rfl⟩
  have HAB := Lib.hid (show EE = 0 → pW s.data.toList * (pOut s.data.toList).2 ≤ 100000000 from fun k => pErr_small (hEE.trans k))
  have HS := Lib.hid hs
  clear hs
  go_enter Tryd.func3, Tryd.ntmps3
  go_wp2_with fail
  obtain ⟨w1, hw1⟩ : ∃ w1, w1 = w.alloc (.cells #[.int .i64 a, .int .i64 b, .slice p n c] 24) := ⟨_, rfl⟩
  have B1 : Below w.heap.size w w1 := by rw [hw1]; exact new_below _ _
  obtain ⟨k0, k1, k2, _, _, _⟩ := block3 (w := w1) (b := w.heap.size) (x := .int .i64 a) (y := .int .i64 b) (z := .slice p n c) (t := 24) (by rw [hw1]; exact heap_alloc_new _ _)
  rw [← hw1]
  clear hw1
  refine (print_any a b p n c B w1 (isBools_later HS.out B1)).mono ?_
  rintro e w2 ⟨st, E, rfl, hE, hst, hst0, hb2⟩
  have m0 := cell_later hb2 k0
  have m1 := cell_later hb2 k1
  have m2 := cell_later hb2 k2
  have lm := World.block_lt_of_cell? _ _ m0
  simp only at lm
  have BB := Lib.hid (below_step B1 hb2)
  have HE := Lib.hid hE
  have HST := Lib.hid hst
  have HST0 := Lib.hid hst0
  clear k0 k1 k2 B1 hb2 hE hst hst0
  go_upto_region 2 with fail
  go_cut [7] from 21 to 33 (fun t wx => t = .int .i64 E ∧ Hid (Below w2.heap.size w2 wx))
  case first =>
    by_cases h1 : 200 < a
    · have HEW := Lib.hid (show orI (pageErr a b n) (whenI true 4) = E by rw [HE.out, printErr, decide_eq_true h1]; rfl)
      refine wp_region_held_drew (S := fun w' => w'.cell? ⟨w.heap.size, 0, none⟩ = some (.int .i64 a) ∧ w'.cell? ⟨w.heap.size, 1, none⟩ = some (.int .i64 b) ∧ w'.cell? ⟨w.heap.size, 2, none⟩ = some (.slice p n c)) (by kernel_rfl) ?_ (fun hHeld => ?_)
      · (try dsimp only); go_keep
      refine wpAnyH_take (i := 0) (v := .agg #[.int .i64 a, .int .i64 b, .slice p n c]) rfl (by kernel_rfl) (by kernel_rfl) (by kernel_rfl) (fun _ _ _ h => h) (Or.inl ⟨by go_simp, ?_⟩) (by assumption) ?_
      · intro w hSw; (try dsimp only at hSw); go_simp
      try simp only [Act.put, List.setIfInBounds_toArray, List.set_cons_zero, List.set_cons_succ]
      refine wpAnyH_take (i := 2) (v := .pointer (some ⟨w.heap.size, 0, none⟩)) rfl (by kernel_rfl) (by kernel_rfl) (by kernel_rfl) (fun _ _ _ h => h) (Or.inl ⟨by go_simp, ?_⟩) (by assumption) ?_
      · intro w hSw; (try dsimp only at hSw); go_simp
      try simp only [Act.put, List.setIfInBounds_toArray, List.set_cons_zero, List.set_cons_succ]
      refine wpAnyH_take (i := 3) (v := .int .i64 a) rfl (by kernel_rfl) (by kernel_rfl) (by kernel_rfl) (fun _ _ _ h => h) (Or.inl ⟨by go_simp, ?_⟩) (by assumption) ?_
      · intro w hSw; (try dsimp only at hSw); go_simp
      try simp only [Act.put, List.setIfInBounds_toArray, List.set_cons_zero, List.set_cons_succ]
      refine wpAnyH_take (i := 4) (v := .bool true) rfl (by kernel_rfl) (by kernel_rfl) (by kernel_rfl) (fun _ _ _ h => h) (Or.inl ⟨by go_simp, ?_⟩) (by assumption) ?_
      · intro w hSw; (try dsimp only at hSw); go_simp
      try simp only [Act.put, List.setIfInBounds_toArray, List.set_cons_zero, List.set_cons_succ]
      refine wpAnyH_ready (rs := [1]) (by kernel_rfl) (by simp) ?_
      refine AllReadyH.cons (o := _) rfl (fun K hK => ?_) AllReadyH.nil
      try go_simp
      refine (bitsError_any a b p n c _).mono ?_
      rintro e w5 ⟨rfl, hb5⟩
      try go_simp
      refine hK.out _ _ ?_ (fun hHeld => ?_)
      · (try dsimp only); (obtain ⟨x1, x2, x3⟩ := hHeld; exact ⟨cell_later hb5 x1, cell_later hb5 x2, cell_later hb5 x3⟩)
      clear hK K
      try simp only [Act.put, List.setIfInBounds_toArray, List.set_cons_zero, List.set_cons_succ]
      refine wpAnyH_take (i := 5) (v := .bool true) rfl (by kernel_rfl) (by kernel_rfl) (by kernel_rfl) (fun _ _ _ h => h) (Or.inl ⟨by go_simp, ?_⟩) (by assumption) ?_
      · intro w hSw; (try dsimp only at hSw); go_simp
      try simp only [Act.put, List.setIfInBounds_toArray, List.set_cons_zero, List.set_cons_succ]
      refine wpAnyH_take (i := 6) (v := undef) rfl (by kernel_rfl) (by kernel_rfl) (by kernel_rfl) (fun _ _ _ h => h) (Or.inr ⟨by go_simp, rfl⟩) (by assumption) ?_
      try simp only [Act.put, List.setIfInBounds_toArray, List.set_cons_zero, List.set_cons_succ]
      refine wpAnyH_take (i := 7) (v := undef) rfl (by kernel_rfl) (by kernel_rfl) (by kernel_rfl) (fun _ _ _ h => h) (Or.inr ⟨by go_simp, rfl⟩) (by assumption) ?_
      try simp only [Act.put, List.setIfInBounds_toArray, List.set_cons_zero, List.set_cons_succ]
      refine wpAnyH_take (i := 8) (v := undef) rfl (by kernel_rfl) (by kernel_rfl) (by kernel_rfl) (fun _ _ _ h => h) (Or.inr ⟨by go_simp, rfl⟩) (by assumption) ?_
      try simp only [Act.put, List.setIfInBounds_toArray, List.set_cons_zero, List.set_cons_succ]
      refine wpAnyH_take (i := 9) (v := .bool true) rfl (by kernel_rfl) (by kernel_rfl) (by kernel_rfl) (fun _ _ _ h => h) (Or.inl ⟨by go_simp, ?_⟩) (by assumption) ?_
      · intro w hSw; (try dsimp only at hSw); go_simp
      try simp only [Act.put, List.setIfInBounds_toArray, List.set_cons_zero, List.set_cons_succ]
      refine wpAnyH_ready (rs := [10]) (by kernel_rfl) (by simp) ?_
      refine AllReadyH.cons (o := _) rfl (fun K hK => ?_) AllReadyH.nil
      try go_simp
      refine (when_any _ _ _).mono ?_
      rintro e w' ⟨rfl, rfl⟩
      try go_simp
      refine hK.out _ _ ?_ (fun hHeld => ?_)
      · (try dsimp only); assumption
      clear hK K
      try simp only [Act.put, List.setIfInBounds_toArray, List.set_cons_zero, List.set_cons_succ]
      refine wpAnyH_ready (rs := [11]) (by kernel_rfl) (by simp) ?_
      refine AllReadyH.cons (o := _) rfl (fun K hK => ?_) AllReadyH.nil
      try go_simp
      refine hK.out _ _ ?_ (fun hHeld => ?_)
      · (try dsimp only); go_keep
      clear hK K
      try simp only [Act.put, List.setIfInBounds_toArray, List.set_cons_zero, List.set_cons_succ]
      refine wpAnyH_ready (rs := [12]) (by kernel_rfl) (by simp) ?_
      refine AllReadyH.cons (o := _) rfl (fun K hK => ?_) AllReadyH.nil
      try go_simp
      refine (first2_new _ _ _).mono ?_
      rintro e w' ⟨rfl, rfl⟩
      try go_simp
      refine hK.out _ _ ?_ (fun hHeld => ?_)
      · (try dsimp only); assumption
      clear hK K
      try simp only [Act.put, List.setIfInBounds_toArray, List.set_cons_zero, List.set_cons_succ]
      refine wpAnyH_ready (rs := [13]) (by kernel_rfl) (by simp) ?_
      refine AllReadyH.cons (o := _) rfl (fun K hK => ?_) AllReadyH.nil
      try go_simp
      refine hK.out _ _ ?_ (fun hHeld => ?_)
      · (try dsimp only); assumption
      clear hK K
      try simp only [Act.put, List.setIfInBounds_toArray, List.set_cons_zero, List.set_cons_succ]
      refine wpAnyH_done (by kernel_rfl) ?_ _
      go_wp2_with fail
      go_meet
      case rel => exact ⟨by rw [HEW.out], Lib.hid (below_alloc (below_step (Below.refl w2.heap.size w2).drew hb5) _)⟩
    · have HEW := Lib.hid (show orI (pageErr a b n) (whenI (decide (200 < b)) 4) = E by rw [HE.out, printErr, decide_eq_false h1]; rfl)
      have h2 : a ≤ 200 := by omega
      go_region_held3 (fun w' => w'.cell? ⟨w.heap.size, 0, none⟩ = some (.int .i64 a) ∧ w'.cell? ⟨w.heap.size, 1, none⟩ = some (.int .i64 b) ∧ w'.cell? ⟨w.heap.size, 2, none⟩ = some (.slice p n c))
        (first | (go_keep; done) | (go_split_ands; exact ⟨cell_later hb5 (by assumption), cell_later hb5 (by assumption), cell_later hb5 (by assumption)⟩))
        ((first | (go_at_call 7; with_reducible refine (bitsError_any a b p n c _).mono ?_; rintro e w5 ⟨rfl, hb5⟩) | (go_at_call 8; refine (when_any _ _ _).mono ?_; rintro e w' ⟨rfl, rfl⟩) | (go_at_call 6; refine (first2_new _ _ _).mono ?_; rintro e w' ⟨rfl, rfl⟩)))
      all_goals
        go_wp2_with fail
        go_meet
        case rel => exact ⟨by rw [HEW.out], Lib.hid (below_alloc (below_step (Below.refl w2.heap.size w2).drew hb5) _)⟩
  case rest =>
  obtain ⟨rfl, HF⟩ := hcut
  obtain ⟨w3, rfl⟩ : ∃ w3, w3 = wc := ⟨_, rfl⟩
  have k0 := cell_later HF.out m0
  have k1 := cell_later HF.out m1
  have k2 := cell_later HF.out m2
  have B3 := Lib.hid (below_step BB.out HF.out)
  clear m0 m1 m2 BB HF lm
  by_cases hE0 : E = 0
  · subst hE0
    obtain ⟨W, H, g, o, rfl, rfl, rfl, rfl, h1, h2, h3, h4, h5, h6⟩ := page_parts HS.out HE.out.symm
    have HC := Lib.hid h6
    have hst := HST0.out rfl
    simp only [Int.toNat_natCast] at hst
    have HTX := Lib.hid hst
    have HN := Lib.hid (show W * H ≤ 100000000 by have := Nat.mul_le_mul h2 h4; omega)
    clear h6 hst h5 HS HE HST HST0
    go_wp2_with fail
    refine (pages_any _).mono ?_
    rintro e w4 ⟨rfl, hb4⟩
    have m0 := cell_later hb4 k0
    have m1 := cell_later hb4 k1
    have m2 := cell_later hb4 k2
    have B4 := Lib.hid (below_step B3.out hb4)
    clear k0 k1 k2 hb4 B3
    go_wp2_with fail
    refine (parse_page W H B st _ HTX.out h1 h2 h3 h4).mono ?_
    rintro e w5 ⟨g5, c5, rfl, hc5, hb5⟩
    have k0 := cell_later hb5 m0
    have k1 := cell_later hb5 m1
    have k2 := cell_later hb5 m2
    have B5 := Lib.hid (below_step B4.out hb5)
    have HC5 := Lib.hid hc5
    have lk := World.block_lt_of_cell? _ _ k0
    simp only at lk
    clear m0 m1 m2 hb5 B4 hc5
    go_wp2_with fail
    obtain ⟨wa, hwa⟩ : ∃ wa, wa = w5.alloc (.cells #[.int .i64 W, .int .i64 H, .slice (some ⟨g5, 0, none⟩) (W * H) c5] 24) := ⟨_, rfl⟩
    have BA : Below w5.heap.size w5 wa := by rw [hwa]; exact new_below _ _
    obtain ⟨x0, x1, x2, _, _, _⟩ := block3 (w := wa) (b := w5.heap.size) (x := .int .i64 W) (y := .int .i64 H) (z := .slice (some ⟨g5, 0, none⟩) (W * H) c5) (t := 24) (by rw [hwa]; exact heap_alloc_new _ _)
    have m0 := cell_later BA k0
    have m1 := cell_later BA k1
    have m2 := cell_later BA k2
    have B6 := Lib.hid (below_step B5.out BA)
    have HC6 := Lib.hid (fun k hk => cell_later BA (HC5.out k hk))
    rw [← hwa]
    clear hwa k0 k1 k2 BA B5 HC5
    refine (printed_any W H g o c B wa h2 h4 (fun j hj => cell_later B6.out (HC.out j hj))).mono ?_
    rintro e w6 ⟨rfl, hb6⟩
    rw [← HTX.out]
    have k0 := cell_later hb6 m0
    have k1 := cell_later hb6 m1
    have k2 := cell_later hb6 m2
    have y0 := cell_later hb6 x0
    have y1 := cell_later hb6 x1
    have y2 := cell_later hb6 x2
    have B7 := Lib.hid (below_step B6.out hb6)
    have HC7 := Lib.hid (fun k hk => cell_later hb6 (HC6.out k hk))
    clear m0 m1 m2 x0 x1 x2 hb6 B6 HC6
    go_wp2_with fail
    refine (sameBits_true W H g o g5 0 (W * H) c c5 B w6 HN.out (fun j hj => cell_later B7.out (HC.out j hj)) HC7.out).mono ?_
    rintro e wb ⟨rfl, hb7⟩
    have B8 := Lib.hid (below_step B7.out hb7)
    clear k0 k1 k2 y0 y1 y2 hb7 B7 HC7 lk
    go_wp2_with fail
    refine (parse_let s _ ht hEE hAA).mono ?_
    rintro e w6 ⟨i1, j1, s1, n1, c1, rfl, hpg, hb6⟩
    have BT6 := Lib.hid (below_step B8.out hb6)
    have HPG := Lib.hid hpg
    clear hpg hb6
    go_wp2_with fail
    obtain ⟨w7, hw7⟩ : ∃ w7, w7 = w6.alloc (.cells #[.int .i64 i1, .int .i64 j1, .slice s1 n1 c1] 24) := ⟨_, rfl⟩
    have B7 : Below w6.heap.size w6 w7 := by rw [hw7]; exact new_below _ _
    obtain ⟨x0, x1, x2, _, _, _⟩ := block3 (w := w7) (b := w6.heap.size) (x := .int .i64 i1) (y := .int .i64 j1) (z := .slice s1 n1 c1) (t := 24) (by rw [hw7]; exact heap_alloc_new _ _)
    rw [← hw7]
    clear hw7
    refine (parsed_let s _ ht hEE hAA).mono ?_
    rintro e w8 ⟨i2, j2, s2, n2, c2, rfl, hpg, hb8⟩
    have BT8 := Lib.hid (below_step (below_step BT6.out B7) hb8)
    have HPG1 := Lib.hid ((HPG.out.later B7).later hb8)
    have HPG2 := Lib.hid hpg
    have y0 := cell_later hb8 x0
    have y1 := cell_later hb8 x1
    have y2 := cell_later hb8 x2
    have ly := World.block_lt_of_cell? _ _ y0
    simp only at ly
    clear hpg hb8 x0 x1 x2 B7 HPG BT6
    go_wp2_with (go_at_call 12; refine (samePg HAB.out (HPG1.out.later (new_below _ _)) (HPG2.out.later (new_below _ _))).mono ?_; rintro e w9 ⟨rfl, hb9⟩)
    go_ret
    exact ⟨rfl, below_step (below_alloc BT8.out _) hb9⟩
  · have hst := HST.out hE0
    have hE1 : (E != 0) = true := by simpa using hE0
    subst hst
    clear hE0 HE HST HST0 HS
    go_wp2_with fail
    refine (pages_any _).mono ?_
    rintro e w4 ⟨rfl, hb4⟩
    have B4 := Lib.hid (below_step B3.out hb4)
    clear k0 k1 k2 hb4 B3
    go_wp2_with fail
    refine (parse_let s _ ht hEE hAA).mono ?_
    rintro e w6 ⟨i1, j1, s1, n1, c1, rfl, hpg, hb6⟩
    have BT6 := Lib.hid (below_step B4.out hb6)
    have HPG := Lib.hid hpg
    clear hpg hb6
    go_wp2_with fail
    obtain ⟨w7, hw7⟩ : ∃ w7, w7 = w6.alloc (.cells #[.int .i64 i1, .int .i64 j1, .slice s1 n1 c1] 24) := ⟨_, rfl⟩
    have B7 : Below w6.heap.size w6 w7 := by rw [hw7]; exact new_below _ _
    obtain ⟨x0, x1, x2, _, _, _⟩ := block3 (w := w7) (b := w6.heap.size) (x := .int .i64 i1) (y := .int .i64 j1) (z := .slice s1 n1 c1) (t := 24) (by rw [hw7]; exact heap_alloc_new _ _)
    rw [← hw7]
    clear hw7
    refine (parsed_let s _ ht hEE hAA).mono ?_
    rintro e w8 ⟨i2, j2, s2, n2, c2, rfl, hpg, hb8⟩
    have BT8 := Lib.hid (below_step (below_step BT6.out B7) hb8)
    have HPG1 := Lib.hid ((HPG.out.later B7).later hb8)
    have HPG2 := Lib.hid hpg
    have y0 := cell_later hb8 x0
    have y1 := cell_later hb8 x1
    have y2 := cell_later hb8 x2
    have ly := World.block_lt_of_cell? _ _ y0
    simp only at ly
    clear hpg hb8 x0 x1 x2 B7 HPG BT6
    go_wp2_with (go_at_call 12; refine (samePg HAB.out (HPG1.out.later (new_below _ _)) (HPG2.out.later (new_below _ _))).mono ?_; rintro e w9 ⟨rfl, hb9⟩)
    go_ret
    exact ⟨rfl, below_step (below_alloc BT8.out _) hb9⟩

end Go.Proofs.YtofcojcfcpfdmaaDoor
namespace Go.Proofs.YtofcojcfcpfdmaaDoor
open Go.ChangeShapes Go.WideShapes Go.ChangeAt Go.RowKit Go.Joins
open Go.ChangeMaps (open_string shut_string)
set_option linter.unusedVariables false

set_option maxRecDepth 100000 in
theorem pagesPrint_lifted (os : Os) (started : os.Started) (H : Type) (enc : TypeId × Value → H) :
    ReturnsInHanded {} Tryd.checked os 3 .any (fun w args => (Rows.pagesPrintSpec.pre enc Tryd.prog Tryd.f3 Rows.pagesPrintRow.domain false w args ∧ laidMetH Tryd.prog Rows.pagesPrintRow.laid w) ∧ sizedMet enc Tryd.prog Tryd.f3 (OpenSpec.ofChange Rows.pagesPrintSpec) false w args)
      (Rows.pagesPrintSpec.post enc Tryd.prog Tryd.f3 false true false false) := by
  refine returnsInHanded_of_change_and (C := Tryd.checked) (X := fun w _ => laidMetH Tryd.prog Rows.pagesPrintRow.laid w) (fun _ _ _ hh h => h.of_heap hh) own started (by kernel_rfl) Tryd.func3
    (ChangeSpec.witness_shaped (enc := enc) (C := Tryd.checked) (os := os) (X := fun w _ => laidMetH Tryd.prog Rows.pagesPrintRow.laid w) false (World.laidAll Tryd.prog os Rows.pagesPrintRow.laid) #[.agg #[.int .i64 0, .int .i64 0, .slice none 0 0], .string ⟨#[]⟩] 8 (World.laidAll_os _ _ _)
      (World.shaped_of_ZipB (by kernel_rfl) (by kernel_rfl)) (by kernel_rfl) (by kernel_rfl) (by kernel_rfl)
      (by rw [MakeChecks.laidMetH_plain _ _ _ (by kernel_rfl)]; exact laidMet_laidAll _ (by kernel_rfl) (by kernel_rfl))) ?_
  intro W base args ds gs before hval0 hW _ _ _ _
  have hval : ∀ (j : Nat) t v, Tryd.f3.params[j]? = some t → args[j]? = some v → Value.okWide Tryd.prog W .any base t v := hval0
  have hW' := hW
  obtain ⟨p, q, hA0, hV, rfl, _, _⟩ := hW
  have hA : DataW.TrodAll enc Tryd.prog W 0 (fun _ => true) true Tryd.f3.params.toList args.toList ds p := hA0
  rw [Tryd.params3] at hA hval
  obtain ⟨v0, vs0, d0, ds0, p0, q0, hargs, rfl, rfl, h0, r0⟩ := trodAll_cons hA
  obtain ⟨v1, vs1, d1, ds1, p1, q1, rfl, rfl, rfl, h1, r1⟩ := trodAll_cons r0
  obtain ⟨rfl, rfl, rfl⟩ := trodAll_nil r1
  obtain rfl : args = #[v0, v1] := by cases args; simp_all
  obtain ⟨rfl, rfl⟩ := trodVars_none hV
  have k0 := h0
  have k1 := h1
  have lt0 : ∀ x ∈ p0, x.block < W.heap.size := by obtain ⟨m, hm⟩ := k0; exact DataW.trod_lt m _ _ _ hm
  have lt1 : ∀ x ∈ p1, x.block < W.heap.size := by obtain ⟨m, hm⟩ := k1; exact DataW.trod_lt m _ _ _ hm
  obtain ⟨a1, b1, s1, n1, c1, B, rfl, hs1⟩ := open_bits (hval 0 24 v0 rfl rfl) h0
  obtain ⟨s, rfl, hd1, hp1, hsz⟩ := open_string Tryd.underlying9 (hval 1 9 v1 rfl rfl) h1
  have hsz' : s.size ≤ 9223372036854775807 := by unfold maxLen at hsz; omega
  clear hA0 hval0
  simp only [List.append_nil] at hW'
  refine (pagesPrint_any a1 b1 s1 n1 c1 B s W hs1 hsz').mono fun e W' ⟨he, bel⟩ => ?_
  subst he
  exact ⟨_, rfl, _, _, _, [], _, [], hW', trodAll_mk1 (shut_bool Tryd.underlying4 _), (trodAll_cons_mk (Below.trod laidOut (by kernel_rfl) (of_decide_eq_true (by kernel_rfl)) k0 bel lt0) (trodAll_cons_mk (Below.trod laidOut (by kernel_rfl) (of_decide_eq_true (by kernel_rfl)) k1 bel lt1) trodAll_mk0)), rfl, bel.frame _, fun h => by cases h⟩

theorem pagesPrint_row : Rows.PagesPrintSaid :=
  OpenClaim.holds_of_wide 3 Tryd.f3 rfl rfl rfl rfl rfl rfl rfl ⟨rfl, rfl, rfl, rfl, rfl⟩ rfl rfl rfl rfl rfl (by kernel_rfl) Tryd.func3 (by kernel_rfl)
    (of_decide_eq_true (by kernel_rfl)) (by unfold Func.isWrapper; first | (rw [if_pos (by decide +kernel)]; kernel_rfl) | (rw [if_neg (by decide +kernel)]; exact ⟨rfl, rfl⟩))
    (fun os started H enc _ => pagesPrint_lifted os started H enc)

theorem pagesPrint_holds : Rows.PagesPrintCardSaid :=
  Claim7.holds_tied_plain_at .later [] [.data, .pinned] true Rows.pagesPrintCard.stood.harness false pagesPrint_row (fun _ h => by cases h) (by kernel_rfl) (fun _ h => by cases h) pagesPrint_row_tie rfl ⟨rfl, rfl⟩ (by kernel_rfl) rfl
    (fun f fn hf hfn => by
      obtain rfl : f = 3 := Option.some.inj ((show Tryd.prog.funcNamed "flatbed/bedlaw2.PagesPrint" = some 3 by kernel_rfl).symm.trans hf) |>.symm
      obtain rfl : fn = Tryd.f3 := (Option.some.inj (Tryd.func3.symm.trans hfn)).symm
      exact ⟨by kernel_rfl, fun j t ht => by
        rw [Tryd.params3] at ht
        have hm : t ∈ [24, 9] := by simpa using Array.mem_of_getElem? ht
        have hall : ([24, 9].all fun u => !Tryd.prog.wantsStandIn u) = true := by kernel_rfl
        exact (show Tryd.prog.wantsStandIn t = false by simpa using List.all_eq_true.1 hall t hm)⟩)
    (by kernel_rfl)
end Go.Proofs.YtofcojcfcpfdmaaDoor
