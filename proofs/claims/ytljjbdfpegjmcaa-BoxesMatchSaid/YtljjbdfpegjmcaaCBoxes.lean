/-
  BoxesMatch returns true for every list of boxes and all numbers, and each argument reads afterwards as it read before. No conditions.
-/
import Derived.Test.YtljjbdfpegjmcaaRows
import Derived.WalkKit
import Derived.WalkSpells
import Derived.WalkLawsBesides
import Derived.Lib.Hide
import Derived.Deep.RegionHeld3
import Derived.Shelf.Abstract
import Derived.Deep.QuietTactic
import Derived.BigQuiet
import Derived.Deep.AppendLies
import Derived.Deep.DrawnRows
import Derived.Deep.RegionLaw
import Derived.ProofKit
import Derived.OpenShut
import Derived.ShutString
import Derived.ChangeOld
import Derived.Lib.SmallJoins
import Derived.Deep.Grids
import Derived.Deep.DeepCutAuto
import Derived.Lib.MinMax
import Derived.Laws.EntriesVeiled
import Derived.RegionTactic
import Derived.ChangeAlike
import Derived.BigRegion
import Derived.StillTailTactics
import Derived.Deep.OwnRows
import Derived.Deep.AppendSrc
import Derived.Shelf.Sort.Plain
import Derived.Test.YtljjbdfpegjmcaaProg
import Derived.Deep.Slices
import Derived.Test.YtljjbdfpegjmcaaCBoxes4
namespace Go.Proofs.Ytljjbdfpegjmcaa
open Go.RowKit
set_option linter.unusedSimpArgs false
set_option linter.unusedVariables false

theorem errs_ok {B : Nat → Bx} {n : Nat} (h : firstErr B n = 0) : ∀ i, i < n → (B i).OK := by
  induction n with
  | zero => intro i hi; omega
  | succ n ih =>
    rw [firstErr] at h
    by_cases h0 : firstErr B n = 0
    · rw [if_pos h0] at h
      intro i hi
      by_cases e : i = n
      · subst e
        unfold Bx.err bxErr at h
        unfold Bx.OK BxOK
        by_cases hk : ((-1048576 ≤ (B i).x ∧ (B i).x ≤ 1048576) ∧ (-1048576 ≤ (B i).y ∧ (B i).y ≤ 1048576)) ∧ (1 ≤ (B i).w ∧ (B i).w ≤ 1048576) ∧ (1 ≤ (B i).h ∧ (B i).h ≤ 1048576)
        · exact hk
        · rw [if_neg hk] at h; simp at h
      · exact ih h0 i (by omega)
    · rw [if_neg h0] at h; exact absurd h h0

theorem box4_later {w w' : World} {b : Nat} {x y z u : Value} {t : TypeId} (h : w.heap[b]? = some (.cells #[x, y, z, u] t (0, 0))) (hb : Below w.heap.size w w') :
    w'.cell? ⟨b, 0, none⟩ = some x ∧ w'.cell? ⟨b, 1, none⟩ = some y ∧ w'.cell? ⟨b, 2, none⟩ = some z ∧ w'.cell? ⟨b, 3, none⟩ = some u := by
  obtain ⟨⟨j0, j1, j2, j3⟩, _⟩ := block4 (below_block hb h)
  exact ⟨j0, j1, j2, j3⟩

theorem lists_below {w w' : World} {N : Nat} {Ls : List (List Int)} {vals : List Value} (h : Lists w N Ls vals) (hb : Below w.heap.size w w') : Lists w' N Ls vals := h.kept (fun g cur fr _ hh => hb.block g (Array.getElem?_eq_some_iff.1 hh).1)
theorem owns_len {w : World} {N : Nat} {e : TypeId} {a : Option Addr} {l c n : Nat} {xs : List Value} (h : w.ownsRow N e 1 (.slice a l c) n xs) : l = n := by
  rcases h.2 with ⟨h0, h1⟩ | ⟨g', cap, cur, h0, _⟩
  · cases h0; exact h1.symm
  · cases h0; rfl
theorem owns_some {w : World} {N : Nat} {e : TypeId} {v : Value} {n : Nat} {xs : List Value} (h : w.ownsRow N e 1 v n xs) (hn : 0 < n) : ∃ g c, v = .slice (some ⟨g, 0, none⟩) n c := by
  rcases h.2 with ⟨h0, h1⟩ | ⟨g', cap, cur, h0, _⟩
  · omega
  · exact ⟨g', cap, h0⟩
theorem grpN_short (c : Nat → Nat → Bool) (n m : Nat) : ∀ L, L ∈ (grpN c ([], List.range n) m).1 → L.length ≤ n := by
  induction m with
  | zero => intro L hL; simp [grpN] at hL
  | succ m ih =>
    have hcnt := grpN_count c ([], List.range n) m
    simp only [List.length_nil, List.length_range] at hcnt
    rw [grpN]
    cases h : (grpN c ([], List.range n) m).2 with
    | nil => rw [grp1_nil _ _ h]; exact ih
    | cons a t =>
      rw [grp1_cons _ _ a t h]
      rw [h, List.length_cons] at hcnt
      intro L hL
      rcases List.mem_append.1 hL with hL | hL
      · exact ih L hL
      · have e : L = sortN (bfsAll c ([a], t)).1 := by simpa using hL
        have h1 := bfsN_len c ([a], t) (([a] : List Nat).length + t.length)
        rw [e]
        unfold sortN bfsAll
        rw [List.length_mergeSort, List.length_map]
        simp only [List.length_singleton] at h1 ⊢
        omega
theorem grouped_short {c : Nat → Nat → Bool} {n : Nat} {Ls : List (List Int)} (hn : n ≤ 60) (h : Grouped c n Ls) : Ls.length ≤ n ∧ ∀ i, (Ls.getD i []).length ≤ 200000 := by
  obtain ⟨m, hm⟩ := h
  have h1 := grpN_count c ([], List.range n) m
  have h2 := grpN_short c n m
  rw [hm] at h1 h2
  simp only [List.length_nil, List.length_range] at h1
  refine ⟨by omega, fun i => ?_⟩
  by_cases hi : i < Ls.length
  · have := h2 (Ls.getD i []) (by simp [List.getD, hi])
    omega
  · simp [List.getD, List.getElem?_eq_none (by omega : Ls.length ≤ i)]

set_option maxHeartbeats 4000000 in
set_option maxRecDepth 100000 in
theorem boxes_some (n g o c : Nat) (B : Nat → Bx) (dx dy : Int) (w : World) (hn1 : 1 ≤ n) (hn : n ≤ 9223372036854775807) (hc : n ≤ c) (hB : BoxesAt w g o n B) :
    Calls Try.prog 3 #[.slice (some ⟨g, o, none⟩) n c, .int .i64 dx, .int .i64 dy] w fun e w' => e = .returned (.bool true) ∧ Below w.heap.size w w' := by
  obtain ⟨m, hm⟩ : ∃ m, m = min n 60 := ⟨_, rfl⟩
  have hm1 : 1 ≤ m ∧ m ≤ 60 ∧ m ≤ n := by omega
  have hmin : min (n : Int) 60 = (m : Int) := by omega
  have HM := Lib.hid hm1
  have hmc : m ≤ c := by omega
  have HB := Lib.hid (show ∀ wx, Below w.heap.size w wx → BoxesAt wx g o m B from fun wx hx i hi => hB.later hx i (by omega))
  clear hB hm hm1
  go_enter Try.func3, Try.ntmps3
  go_upto_region 4 with ((go_at_call 7; refine (landed_any _).mono ?_; rintro e w' ⟨rfl, rfl⟩))
  clear hmin hn hmc hc hn1
  obtain ⟨hm1, hm2, hm3⟩ := HM.out
  go_wp2_with fail
  go_loopw [28] (fun i wr => ∃ k : Nat, k ≤ m ∧ i = .int .i64 k ∧ Hid (Below w.heap.size w wr)) (fun i _ => m - (intOf i).toNat)
  case atStart => exact ⟨0, Nat.zero_le _, rfl, Lib.hid (Below.refl _ _)⟩
  case round =>
    obtain ⟨k, hk, rfl, HR⟩ := hrel
    by_cases hlt : k < m
    · obtain ⟨⟨c0, c1⟩, c2, c3⟩ := HB.out wr HR.out k hlt
      have j1 : (k : Int) < (m : Int) := by omega
      generalize B k = b at *
      obtain ⟨X, Y, P, Q⟩ := b
      simp only at c0 c1 c2 c3
      obtain ⟨E, hE⟩ : ∃ E, E = bxErr X Y P Q := ⟨_, rfl⟩
      have HE := Lib.hid hE
      have K1 := Lib.hid (fun w => checkBox_any X Y P Q w)
      have K2 := Lib.hid (fun w => boxErrR_any X Y P Q w)
      rw [← hE] at K1 K2
      clear hE
      go_upto_region 7 with (fail)
      obtain ⟨w3, hw3⟩ : ∃ w3, w3 = wr.alloc (.cells #[.int .i64 X, .int .i64 Y, .int .i64 P, .int .i64 Q] 25) := ⟨_, rfl⟩
      have B3 := Lib.hid (show Below w.heap.size w w3 by rw [hw3]; exact below_alloc HR.out _)
      have x3 : w3.heap[wr.heap.size]? = some (.cells #[.int .i64 X, .int .i64 Y, .int .i64 P, .int .i64 Q] 25 (0, 0)) := by rw [hw3]; exact heap_alloc_new _ _
      obtain ⟨bb, hbb⟩ : ∃ bb, bb = wr.heap.size := ⟨_, rfl⟩
      rw [← hw3, ← hbb]
      rw [← hbb] at x3
      have HS := Lib.hid (fun wx (hb : Below w3.heap.size w3 wx) => box4_later x3 hb)
      obtain ⟨⟨d0, d1, d2, d3⟩, _, _, _, _⟩ := block4 x3
      clear hw3 hbb x3 c0 c1 c2 c3
      go_region_held3 (fun w' => w'.cell? ⟨bb, 0, none⟩ = some (.int .i64 X) ∧ w'.cell? ⟨bb, 1, none⟩ = some (.int .i64 Y) ∧ w'.cell? ⟨bb, 2, none⟩ = some (.int .i64 P) ∧ w'.cell? ⟨bb, 3, none⟩ = some (.int .i64 Q))
        (first | (go_keep; done) | (refine HS.out _ ?_; (repeat (first | with_reducible exact Below.refl _ _ | with_reducible assumption | with_reducible refine below_alloc ?_ _ | with_reducible refine Below.drew ?_ | with_reducible refine below_step ?_ (by assumption))); done))
        ((first | (go_at_call 8; ((with_reducible refine (K1.out _).mono ?_); rintro e wa ⟨rfl, ha⟩)) | (go_at_call 9; ((with_reducible refine (K2.out _).mono ?_); rintro e wb ⟨rfl, hb⟩))))
      have G := Lib.hid (below_in B3.out (below_step (below_step (Below.refl w3.heap.size w3).drew ha) hb) B3.out.size)
      clear ha hb d0 d1 d2 d3
      go_wp2_with fail
      go_roundw
      case rel => exact ⟨k + 1, by omega, by go_num, G⟩
      case measure => simp [intOf]; omega
    · obtain rfl : k = m := by omega
      clear hk hlt
      have HBR := Lib.hid (HB.out wr HR.out)
      by_cases h0 : listErr B k = 0
      · have HE0 := Lib.hid h0
        have HOK := Lib.hid (show ∀ i, i < k → (B i).OK from errs_ok (by unfold listErr at h0; rw [if_neg (by omega)] at h0; exact h0))
        clear h0
        go_wp2_with fail
        refine (boxesErrR_any k g o c B wr (by omega) HBR.out).mono ?_
        rintro e w2 ⟨rfl, hb2⟩
        rw [HE0.out]
        have B2 := Lib.hid (below_step HR.out hb2)
        clear hb2
        go_wp2_with fail
        refine (hullP_ok k g o c B w2 hm1 (by omega) (HB.out w2 B2.out) HOK.out HE0.out).mono ?_
        rintro e w3 ⟨rfl, hb3⟩
        have B3 := Lib.hid (below_step B2.out hb3)
        clear hb3
        obtain ⟨HX, hHX⟩ : ∃ HX, HX = (hullX B k).1 := ⟨_, rfl⟩
        obtain ⟨HY, hHY⟩ : ∃ HY, HY = (hullY B k).1 := ⟨_, rfl⟩
        obtain ⟨HW, hHW⟩ : ∃ HW, HW = (hullX B k).2 - (hullX B k).1 := ⟨_, rfl⟩
        obtain ⟨HH, hHH⟩ : ∃ HH, HH = (hullY B k).2 - (hullY B k).1 := ⟨_, rfl⟩
        have HR8 := Lib.hid (fun w hB => hullR_any k g o c B w hm1 (by omega) hB HOK.out)
        rw [← hHW, ← hHH, ← hHX, ← hHY] at HR8
        rw [← hHW, ← hHH, ← hHX, ← hHY]
        clear hHX hHY hHW hHH
        go_upto_region 12 with (fail)
        obtain ⟨w4, hw4⟩ : ∃ w4, w4 = w3.alloc (.cells #[.int .i64 HX, .int .i64 HY, .int .i64 HW, .int .i64 HH] 25) := ⟨_, rfl⟩
        have B4 := Lib.hid (show Below w.heap.size w w4 by rw [hw4]; exact below_alloc B3.out _)
        have x4 : w4.heap[w3.heap.size]? = some (.cells #[.int .i64 HX, .int .i64 HY, .int .i64 HW, .int .i64 HH] 25 (0, 0)) := by rw [hw4]; exact heap_alloc_new _ _
        obtain ⟨hb, hhb⟩ : ∃ hb, hb = w3.heap.size := ⟨_, rfl⟩
        rw [← hw4, ← hhb]
        rw [← hhb] at x4
        have X4 := Lib.hid x4
        clear hw4 hhb x4
        have j0 : (0 : Int) < (k : Int) := by omega
        have j0' : ((k : Int) == 0) = false := by simp; omega
        by_cases hd : (0 ≤ dx ∧ dx ≤ 1048576) ∧ (0 ≤ dy ∧ dy ≤ 1048576)
        · obtain ⟨hd1, hd2⟩ := hd
          go_wp2_with fail
          refine (groups_ok k g o c B dx dy w4 hm1 hm2 (HB.out w4 B4.out) HOK.out HE0.out hd1 hd2).mono ?_
          rintro e w5 ⟨v5, vals, Ls, rfl, hgp, how, hli, hb5⟩
          have HGP := Lib.hid hgp
          have HOW := Lib.hid how
          have HLI := Lib.hid hli
          have X5 := Lib.hid (below_block hb5 X4.out)
          have B5 := Lib.hid (below_step B4.out hb5)
          clear hgp how hli hb5 X4
          go_upto_region 18 with (fail)
          obtain ⟨⟨d0, d1, d2, d3⟩, _, _, _, _⟩ := block4 X5.out
          have HS5 := Lib.hid (fun wx (hb : Below w5.heap.size w5 wx) => box4_later X5.out hb)
          go_region_held3 (fun w' => w'.cell? ⟨hb, 0, none⟩ = some (.int .i64 HX) ∧ w'.cell? ⟨hb, 1, none⟩ = some (.int .i64 HY) ∧ w'.cell? ⟨hb, 2, none⟩ = some (.int .i64 HW) ∧ w'.cell? ⟨hb, 3, none⟩ = some (.int .i64 HH))
            (first | (go_keep; done) | (refine HS5.out _ ?_; (repeat (first | with_reducible exact Below.refl _ _ | with_reducible assumption | with_reducible refine below_alloc ?_ _ | with_reducible refine Below.drew ?_ | with_reducible refine below_step ?_ (by assumption))); done))
            ((first | (go_at_call 13; ((with_reducible refine (HR8.out _ (HB.out _ B5.out.drew)).mono ?_); rintro e w6 ⟨rfl, hb6⟩))))
          have B6 := Lib.hid (below_step (Below.refl w5.heap.size w5).drew hb6)
          clear hb6 d0 d1 d2 d3 HS5
          go_wp2_with fail
          go_loopw [91] (fun i wr => ∃ j : Nat, j + 1 ≤ k ∧ i = .int .i64 j ∧ Hid (Below w5.heap.size w5 wr)) (fun i _ => k - (intOf i).toNat)
          case atStart => exact ⟨0, hm1, rfl, B6⟩
          case round =>
            obtain ⟨j, hj, rfl, HJ⟩ := hrel
            clear B6
            obtain ⟨wj, rfl⟩ : ∃ wj : World, wj = wr := ⟨_, rfl⟩
            by_cases hlt : j + 1 < k
            · obtain ⟨⟨c0, c1⟩, c2, c3⟩ := HB.out wj (below_step B5.out HJ.out) j (by omega)
              obtain ⟨⟨d0, d1⟩, d2, d3⟩ := HB.out wj (below_step B5.out HJ.out) (j + 1) hlt
              have i1 : (j : Int) < (k : Int) := by omega
              have i2 : (j : Int) + 1 < (k : Int) := by omega
              have i3 : (0 : Int) ≤ (j : Int) + 1 := by omega
              have i4 : ((j : Int) + 1).toNat = j + 1 := by omega
              have i5 : IntKind.i64.wrap ((j : Int) + 1) = (j : Int) + 1 := IntWalk.i64_in _ (by omega)
              have i6 : (j : Int) < (k : Int) - 1 := by omega
              have N1 := Lib.hid (fun w => near_any (B j).x (B j).y (B j).w (B j).h (B (j + 1)).x (B (j + 1)).y (B (j + 1)).w (B (j + 1)).h w (HOK.out j (by omega)) (HOK.out (j + 1) hlt))
              have N2 := Lib.hid (fun w => nearR_any (B j).x (B j).y (B j).w (B j).h (B (j + 1)).x (B (j + 1)).y (B (j + 1)).w (B (j + 1)).h w (HOK.out j (by omega)) (HOK.out (j + 1) hlt))
              generalize NearX (B j).x (B j).w (B (j + 1)).x (B (j + 1)).w = NX at N1 N2
              generalize NearX (B j).y (B j).h (B (j + 1)).y (B (j + 1)).h = NY at N1 N2
              generalize B j = b1 at *
              generalize B (j + 1) = b2 at *
              obtain ⟨X1, Y1, U1, V1⟩ := b1
              obtain ⟨X2, Y2, U2, V2⟩ := b2
              simp only at N1 N2 c0 c1 c2 c3 d0 d1 d2 d3
              have HS := Lib.hid (fun wx (hb : Below wj.heap.size wj wx) => And.intro (And.intro (cell_later hb c0) (And.intro (cell_later hb c1) (And.intro (cell_later hb c2) (cell_later hb c3)))) (And.intro (cell_later hb d0) (And.intro (cell_later hb d1) (And.intro (cell_later hb d2) (cell_later hb d3)))))
              go_upto_region 23 with (fail)
              go_region_held3 (fun w' => (w'.cell? ⟨g, o + j * 4, none⟩ = some (.int .i64 X1) ∧ w'.cell? ⟨g, o + j * 4 + 1, none⟩ = some (.int .i64 Y1) ∧ w'.cell? ⟨g, o + j * 4 + 2, none⟩ = some (.int .i64 U1) ∧ w'.cell? ⟨g, o + j * 4 + 3, none⟩ = some (.int .i64 V1)) ∧ (w'.cell? ⟨g, o + (j + 1) * 4, none⟩ = some (.int .i64 X2) ∧ w'.cell? ⟨g, o + (j + 1) * 4 + 1, none⟩ = some (.int .i64 Y2) ∧ w'.cell? ⟨g, o + (j + 1) * 4 + 2, none⟩ = some (.int .i64 U2) ∧ w'.cell? ⟨g, o + (j + 1) * 4 + 3, none⟩ = some (.int .i64 V2)))
                (first | (go_keep; done) | (refine HS.out _ ?_; (repeat (first | with_reducible exact Below.refl _ _ | with_reducible assumption | with_reducible refine below_alloc ?_ _ | with_reducible refine Below.drew ?_ | with_reducible refine below_step ?_ (by assumption))); done))
                ((first | (go_at_call 14; ((with_reducible refine (N1.out _).mono ?_); rintro e w6 ⟨rfl, hb6⟩))))
              have G6 := Lib.hid (below_step (Below.refl wj.heap.size wj).drew hb6)
              clear hb6 c0 c1 c2 c3 d0 d1 d2 d3
              obtain ⟨⟨c0, c1, c2, c3⟩, d0, d1, d2, d3⟩ := HS.out w6 G6.out
              go_upto_region 24 with (fail)
              go_region_held3 (fun w' => (w'.cell? ⟨g, o + j * 4, none⟩ = some (.int .i64 X1) ∧ w'.cell? ⟨g, o + j * 4 + 1, none⟩ = some (.int .i64 Y1) ∧ w'.cell? ⟨g, o + j * 4 + 2, none⟩ = some (.int .i64 U1) ∧ w'.cell? ⟨g, o + j * 4 + 3, none⟩ = some (.int .i64 V1)) ∧ (w'.cell? ⟨g, o + (j + 1) * 4, none⟩ = some (.int .i64 X2) ∧ w'.cell? ⟨g, o + (j + 1) * 4 + 1, none⟩ = some (.int .i64 Y2) ∧ w'.cell? ⟨g, o + (j + 1) * 4 + 2, none⟩ = some (.int .i64 U2) ∧ w'.cell? ⟨g, o + (j + 1) * 4 + 3, none⟩ = some (.int .i64 V2)))
                (first | (go_keep; done) | (refine HS.out _ ?_; refine below_step G6.out ?_; (repeat (first | with_reducible exact Below.refl _ _ | with_reducible assumption | with_reducible refine below_alloc ?_ _ | with_reducible refine Below.drew ?_ | with_reducible refine below_step ?_ (by assumption))); done))
                ((first | (go_at_call 15; ((with_reducible refine (N2.out _).mono ?_); rintro e w7 ⟨rfl, hb7⟩))))
              have G7 := Lib.hid (below_step HJ.out (below_step G6.out (below_step (Below.refl w6.heap.size w6).drew hb7)))
              clear hb7 c0 c1 c2 c3 d0 d1 d2 d3 i3 i4 i5
              go_wp2_with fail
              go_roundw
              case rel => exact ⟨j + 1, by omega, by go_num, G7⟩
              case measure => simp [intOf]; omega
            · have i6 : ¬ (j : Int) < (k : Int) - 1 := by omega
              obtain ⟨e1, e2⟩ := hd1
              obtain ⟨e3, e4⟩ := hd2
              have HGR := Lib.hid (groupsR_ok k g o c B dx dy wj hm1 hm2 (HB.out wj (below_step B5.out HJ.out)) HOK.out)
              go_wp2_with fail
              refine HGR.out.mono ?_
              rintro e w8 ⟨v8, vals8, Ls8, rfl, hgp8, how8, hli8, hb8⟩
              have hLL := hgp8.unique HGP.out
              subst hLL
              have B8 := Lib.hid (below_step B5.out (below_step HJ.out hb8))
              have HO5 := Lib.hid (below_owns HOW.out (below_step HJ.out hb8))
              have HL5 := Lib.hid (lists_below HLI.out (below_step HJ.out hb8))
              have HO8 := Lib.hid how8
              have HL8 := Lib.hid hli8
              have HLN := Lib.hid (grouped_short hm2 hgp8)
              clear hgp8 how8 hli8 hb8
              by_cases hz : Ls8.length = 0
              · obtain ⟨a5, l5, c5, rfl⟩ := owns_shape HO5.out
                obtain ⟨a8, l8, c8, rfl⟩ := owns_shape HO8.out
                have q5 : l5 = 0 := (owns_len HO5.out).trans hz
                have q8 : l8 = 0 := (owns_len HO8.out).trans hz
                subst q5 q8
                go_wp2_with fail
                refine (eqGroups_zero _ _ _ _ _ _).mono ?_
                rintro e w9 ⟨rfl, rfl⟩
                go_wp2_with fail
                go_ret
                exact ⟨rfl, B8.out⟩
              · obtain ⟨g5, c5, rfl⟩ := owns_some HO5.out (by omega)
                obtain ⟨g8, c8, rfl⟩ := owns_some HO8.out (by omega)
                go_wp2_with fail
                refine (eqGroups_some g5 g8 c5 c8 _ _ Ls8 vals vals8 w8 (by have := HLN.out.1; omega) HLN.out.2 HO5.out HL5.out HO8.out HL8.out).mono ?_
                rintro e w9 ⟨rfl, q9, rfl⟩
                go_wp2_with fail
                go_ret
                exact ⟨rfl, below_drewN B8.out q9⟩
        · have K3 := Lib.hid (groups_far k g o c B dx dy w4 (by omega) (HB.out w4 B4.out) HE0.out hd)
          go_wp2_with fail
          refine K3.out.mono ?_
          rintro e w5 ⟨rfl, hb5⟩
          have X5 := Lib.hid (below_block hb5 X4.out)
          have B5 := Lib.hid (below_step B4.out hb5)
          clear hb5 X4
          go_upto_region 18 with (fail)
          obtain ⟨⟨d0, d1, d2, d3⟩, _, _, _, _⟩ := block4 X5.out
          have HS5 := Lib.hid (fun wx (hb : Below w5.heap.size w5 wx) => box4_later X5.out hb)
          go_region_held3 (fun w' => w'.cell? ⟨hb, 0, none⟩ = some (.int .i64 HX) ∧ w'.cell? ⟨hb, 1, none⟩ = some (.int .i64 HY) ∧ w'.cell? ⟨hb, 2, none⟩ = some (.int .i64 HW) ∧ w'.cell? ⟨hb, 3, none⟩ = some (.int .i64 HH))
            (first | (go_keep; done) | (refine HS5.out _ ?_; (repeat (first | with_reducible exact Below.refl _ _ | with_reducible assumption | with_reducible refine below_alloc ?_ _ | with_reducible refine Below.drew ?_ | with_reducible refine below_step ?_ (by assumption))); done))
            ((first | (go_at_call 13; ((with_reducible refine (HR8.out _ (HB.out _ B5.out.drew)).mono ?_); rintro e w6 ⟨rfl, hb6⟩))))
          have B6 := Lib.hid (below_step (Below.refl w5.heap.size w5).drew hb6)
          clear hb6 d0 d1 d2 d3 HS5
          go_wp2_with fail
          go_loopw [91] (fun i wr => ∃ j : Nat, j + 1 ≤ k ∧ i = .int .i64 j ∧ Hid (Below w5.heap.size w5 wr)) (fun i _ => k - (intOf i).toNat)
          case atStart => exact ⟨0, hm1, rfl, B6⟩
          case round =>
            obtain ⟨j, hj, rfl, HJ⟩ := hrel
            clear B6
            obtain ⟨wj, rfl⟩ : ∃ wj : World, wj = wr := ⟨_, rfl⟩
            by_cases hlt : j + 1 < k
            · obtain ⟨⟨c0, c1⟩, c2, c3⟩ := HB.out wj (below_step B5.out HJ.out) j (by omega)
              obtain ⟨⟨d0, d1⟩, d2, d3⟩ := HB.out wj (below_step B5.out HJ.out) (j + 1) hlt
              have i1 : (j : Int) < (k : Int) := by omega
              have i2 : (j : Int) + 1 < (k : Int) := by omega
              have i3 : (0 : Int) ≤ (j : Int) + 1 := by omega
              have i4 : ((j : Int) + 1).toNat = j + 1 := by omega
              have i5 : IntKind.i64.wrap ((j : Int) + 1) = (j : Int) + 1 := IntWalk.i64_in _ (by omega)
              have i6 : (j : Int) < (k : Int) - 1 := by omega
              have N1 := Lib.hid (fun w => near_any (B j).x (B j).y (B j).w (B j).h (B (j + 1)).x (B (j + 1)).y (B (j + 1)).w (B (j + 1)).h w (HOK.out j (by omega)) (HOK.out (j + 1) hlt))
              have N2 := Lib.hid (fun w => nearR_any (B j).x (B j).y (B j).w (B j).h (B (j + 1)).x (B (j + 1)).y (B (j + 1)).w (B (j + 1)).h w (HOK.out j (by omega)) (HOK.out (j + 1) hlt))
              generalize NearX (B j).x (B j).w (B (j + 1)).x (B (j + 1)).w = NX at N1 N2
              generalize NearX (B j).y (B j).h (B (j + 1)).y (B (j + 1)).h = NY at N1 N2
              generalize B j = b1 at *
              generalize B (j + 1) = b2 at *
              obtain ⟨X1, Y1, U1, V1⟩ := b1
              obtain ⟨X2, Y2, U2, V2⟩ := b2
              simp only at N1 N2 c0 c1 c2 c3 d0 d1 d2 d3
              have HS := Lib.hid (fun wx (hb : Below wj.heap.size wj wx) => And.intro (And.intro (cell_later hb c0) (And.intro (cell_later hb c1) (And.intro (cell_later hb c2) (cell_later hb c3)))) (And.intro (cell_later hb d0) (And.intro (cell_later hb d1) (And.intro (cell_later hb d2) (cell_later hb d3)))))
              go_upto_region 23 with (fail)
              go_region_held3 (fun w' => (w'.cell? ⟨g, o + j * 4, none⟩ = some (.int .i64 X1) ∧ w'.cell? ⟨g, o + j * 4 + 1, none⟩ = some (.int .i64 Y1) ∧ w'.cell? ⟨g, o + j * 4 + 2, none⟩ = some (.int .i64 U1) ∧ w'.cell? ⟨g, o + j * 4 + 3, none⟩ = some (.int .i64 V1)) ∧ (w'.cell? ⟨g, o + (j + 1) * 4, none⟩ = some (.int .i64 X2) ∧ w'.cell? ⟨g, o + (j + 1) * 4 + 1, none⟩ = some (.int .i64 Y2) ∧ w'.cell? ⟨g, o + (j + 1) * 4 + 2, none⟩ = some (.int .i64 U2) ∧ w'.cell? ⟨g, o + (j + 1) * 4 + 3, none⟩ = some (.int .i64 V2)))
                (first | (go_keep; done) | (refine HS.out _ ?_; (repeat (first | with_reducible exact Below.refl _ _ | with_reducible assumption | with_reducible refine below_alloc ?_ _ | with_reducible refine Below.drew ?_ | with_reducible refine below_step ?_ (by assumption))); done))
                ((first | (go_at_call 14; ((with_reducible refine (N1.out _).mono ?_); rintro e w6 ⟨rfl, hb6⟩))))
              have G6 := Lib.hid (below_step (Below.refl wj.heap.size wj).drew hb6)
              clear hb6 c0 c1 c2 c3 d0 d1 d2 d3
              obtain ⟨⟨c0, c1, c2, c3⟩, d0, d1, d2, d3⟩ := HS.out w6 G6.out
              go_upto_region 24 with (fail)
              go_region_held3 (fun w' => (w'.cell? ⟨g, o + j * 4, none⟩ = some (.int .i64 X1) ∧ w'.cell? ⟨g, o + j * 4 + 1, none⟩ = some (.int .i64 Y1) ∧ w'.cell? ⟨g, o + j * 4 + 2, none⟩ = some (.int .i64 U1) ∧ w'.cell? ⟨g, o + j * 4 + 3, none⟩ = some (.int .i64 V1)) ∧ (w'.cell? ⟨g, o + (j + 1) * 4, none⟩ = some (.int .i64 X2) ∧ w'.cell? ⟨g, o + (j + 1) * 4 + 1, none⟩ = some (.int .i64 Y2) ∧ w'.cell? ⟨g, o + (j + 1) * 4 + 2, none⟩ = some (.int .i64 U2) ∧ w'.cell? ⟨g, o + (j + 1) * 4 + 3, none⟩ = some (.int .i64 V2)))
                (first | (go_keep; done) | (refine HS.out _ ?_; refine below_step G6.out ?_; (repeat (first | with_reducible exact Below.refl _ _ | with_reducible assumption | with_reducible refine below_alloc ?_ _ | with_reducible refine Below.drew ?_ | with_reducible refine below_step ?_ (by assumption))); done))
                ((first | (go_at_call 15; ((with_reducible refine (N2.out _).mono ?_); rintro e w7 ⟨rfl, hb7⟩))))
              have G7 := Lib.hid (below_step HJ.out (below_step G6.out (below_step (Below.refl w6.heap.size w6).drew hb7)))
              clear hb7 c0 c1 c2 c3 d0 d1 d2 d3 i3 i4 i5
              go_wp2_with fail
              go_roundw
              case rel => exact ⟨j + 1, by omega, by go_num, G7⟩
              case measure => simp [intOf]; omega
            · have i6 : ¬ (j : Int) < (k : Int) - 1 := by omega
              have G8 := Lib.hid (below_step B5.out HJ.out)
              by_cases a1 : dx < 0
              · clear hd
                go_wp2_with fail
                go_ret
                exact ⟨rfl, G8.out⟩
              · by_cases a2 : 1048576 < dx
                · clear hd
                  go_wp2_with fail
                  go_ret
                  exact ⟨rfl, G8.out⟩
                · by_cases a3 : dy < 0
                  · clear hd
                    go_wp2_with fail
                    go_ret
                    exact ⟨rfl, G8.out⟩
                  · have a4 : 1048576 < dy := by omega
                    clear hd
                    go_wp2_with fail
                    go_ret
                    exact ⟨rfl, G8.out⟩
      · obtain ⟨E, hE⟩ : ∃ E, E = listErr B k := ⟨_, rfl⟩
        have K1 := Lib.hid (fun w hB => boxesErrR_any k g o c B w (by omega) hB)
        have K2 := Lib.hid (fun w hB => hullP_bad k g o c B w (by omega) hB h0)
        have K3 := Lib.hid (fun w hB => groups_bad k g o c B dx dy w (by omega) hB h0)
        rw [← hE] at K1 K2 K3 h0
        have t1 : (E != 0) = true := by simpa using h0
        clear h0 hE
        go_wp2_with fail
        refine (K1.out wr HBR.out).mono ?_
        rintro e w2 ⟨rfl, hb2⟩
        have B2 := Lib.hid (below_step HR.out hb2)
        clear hb2
        go_wp2_with fail
        refine (K2.out w2 (HB.out w2 B2.out)).mono ?_
        rintro e w3 ⟨rfl, hb3⟩
        have B3 := Lib.hid (below_step B2.out hb3)
        clear hb3
        go_upto_region 12 with (fail)
        obtain ⟨w4, hw4⟩ : ∃ w4, w4 = w3.alloc (.cells #[.int .i64 0, .int .i64 0, .int .i64 0, .int .i64 0] 25) := ⟨_, rfl⟩
        have B4 := Lib.hid (show Below w.heap.size w w4 by rw [hw4]; exact below_alloc B3.out _)
        have x4 : w4.heap[w3.heap.size]? = some (.cells #[.int .i64 0, .int .i64 0, .int .i64 0, .int .i64 0] 25 (0, 0)) := by rw [hw4]; exact heap_alloc_new _ _
        rw [← hw4]
        clear hw4
        go_wp2_with fail
        refine (K3.out w4 (HB.out w4 B4.out)).mono ?_
        rintro e w5 ⟨rfl, hb5⟩
        obtain ⟨d0, d1, d2, d3⟩ := box4_later x4 hb5
        have B5 := Lib.hid (below_step B4.out hb5)
        clear hb5 x4
        go_wp2_with fail
        go_ret
        exact ⟨by simp, B5.out⟩

end Go.Proofs.Ytljjbdfpegjmcaa
namespace Go.Proofs.Ytljjbdfpegjmcaa
open Go.RowKit
set_option linter.unusedSimpArgs false
set_option linter.unusedVariables false

set_option maxRecDepth 100000 in
theorem boxesErrR_nil (s : Option Addr) (c : Nat) (w : World) :
    Calls Try.prog 10 #[.slice s 0 c] w fun e w' => e = .returned (.int .i64 0) ∧ Below w.heap.size w w' := by
  go_enter Try.func10, Try.ntmps10
  go_wp2_with fail
  go_loopw [11] (fun i wr => i = .int .i64 0 ∧ Hid (Below w.heap.size w wr)) (fun i _ => 0)
  case atStart => exact ⟨rfl, Lib.hid (Below.refl _ _)⟩
  case round =>
    obtain ⟨rfl, HR⟩ := hrel
    go_wp2_with fail
    go_ret
    exact ⟨rfl, HR.out⟩

set_option maxHeartbeats 1000000 in
set_option maxRecDepth 100000 in
theorem groups_nil (s : Option Addr) (c : Nat) (dx dy : Int) (w : World) (hd1 : 0 ≤ dx ∧ dx ≤ 1048576) (hd2 : 0 ≤ dy ∧ dy ≤ 1048576) :
    Calls Try.prog 12 #[.slice s 0 c, .int .i64 dx, .int .i64 dy] w fun e w' => e = .returned (.tuple #[.slice none 0 0, .int .i64 0]) ∧ Below w.heap.size w w' := by
  have hmf : ∀ (fn : Fn) (first cap : Array Value) (w : World), (Instr.makeFunc fn first cap).run Try.prog w = .ok (.func fn first cap) w := fun _ _ _ _ => rfl
  obtain ⟨w1, hw1⟩ : ∃ w1, w1 = ((w.alloc (.cells #[.slice s 0 c] 22)).alloc (.cells #[.int .i64 dx] 3)).alloc (.cells #[.int .i64 dy] 3) := ⟨_, rfl⟩
  have H1 := Lib.hid (show Below w.heap.size w w1 by rw [hw1]; exact below_alloc (below_alloc (new_below _ _) _) _)
  have q0 : w1.cell? ⟨w.heap.size, 0, none⟩ = some (.slice s 0 c) := by rw [hw1]; go_simp
  have Q0 := Lib.hid q0
  have Q1 := Lib.hid (show w1.cell? ⟨w.heap.size + 1, 0, none⟩ = some (.int .i64 dx) by rw [hw1]; go_simp)
  have Q2 := Lib.hid (show w1.cell? ⟨w.heap.size + 1 + 1, 0, none⟩ = some (.int .i64 dy) by rw [hw1]; go_simp)
  have D1 := Lib.hid hd1
  have D2 := Lib.hid hd2
  clear hd1 hd2
  go_enter Try.func12, Try.ntmps12
  go_upto_region 1 with (fail)
  rw [← hw1]
  clear hw1
  go_wp2_with fail
  refine (checkBoxes_nil s c w1).mono ?_
  rintro e w2 ⟨rfl, hb2⟩
  have H2 := Lib.hid (below_step H1.out hb2)
  have k0 := cell_later hb2 Q0.out
  have k1 := cell_later hb2 Q1.out
  have k2 := cell_later hb2 Q2.out
  clear hb2 q0
  go_wp2_with (first | (go_at_call 48; (with_reducible refine (outside_no dx 0 1048576 _ D1.out).mono ?_); rintro e w' ⟨rfl, rfl⟩) | (go_at_call 48; (with_reducible refine (outside_no dy 0 1048576 _ D2.out).mono ?_); rintro e w' ⟨rfl, rfl⟩) | fail)
  refine (numbers_any 0 w2 (by omega)).mono ?_
  rintro e w3 ⟨v3, rfl, hown, hb3⟩
  obtain ⟨a3, l3, c3, rfl⟩ := owns_shape hown
  obtain rfl : l3 = 0 := owns_len hown
  have H3 := Lib.hid (below_step H2.out hb3)
  clear hown hb3 k0 k1 k2
  go_wp2_with fail
  go_loopw [10, 11] (fun v10 v11 wr => v10 = .slice none 0 0 ∧ v11 = .slice a3 0 c3 ∧ Hid (Below w.heap.size w wr)) (fun _ _ _ => 0)
  case atStart => exact ⟨rfl, rfl, H3⟩
  case round =>
    obtain ⟨rfl, rfl, HR⟩ := hrel
    go_wp2_with fail
    go_ret2
    exact ⟨rfl, HR.out⟩

set_option maxHeartbeats 1000000 in
set_option maxRecDepth 100000 in
theorem groups_nil_far (s : Option Addr) (c : Nat) (dx dy : Int) (w : World) (hd : ¬ ((0 ≤ dx ∧ dx ≤ 1048576) ∧ (0 ≤ dy ∧ dy ≤ 1048576))) :
    Calls Try.prog 12 #[.slice s 0 c, .int .i64 dx, .int .i64 dy] w fun e w' => e = .returned (.tuple #[.slice none 0 0, .int .i64 3]) ∧ Below w.heap.size w w' := by
  obtain ⟨w1, hw1⟩ : ∃ w1, w1 = ((w.alloc (.cells #[.slice s 0 c] 22)).alloc (.cells #[.int .i64 dx] 3)).alloc (.cells #[.int .i64 dy] 3) := ⟨_, rfl⟩
  have H1 := Lib.hid (show Below w.heap.size w w1 by rw [hw1]; exact below_alloc (below_alloc (new_below _ _) _) _)
  have q0 : w1.cell? ⟨w.heap.size, 0, none⟩ = some (.slice s 0 c) := by rw [hw1]; go_simp
  have Q1 := Lib.hid (show w1.cell? ⟨w.heap.size + 1, 0, none⟩ = some (.int .i64 dx) by rw [hw1]; go_simp)
  have Q2 := Lib.hid (show w1.cell? ⟨w.heap.size + 1 + 1, 0, none⟩ = some (.int .i64 dy) by rw [hw1]; go_simp)
  by_cases h1 : 0 ≤ dx ∧ dx ≤ 1048576
  · have D1 := Lib.hid h1
    have D2 := Lib.hid (show ¬ (0 ≤ dy ∧ dy ≤ 1048576) from fun k => hd ⟨h1, k⟩)
    clear hd h1
    go_enter Try.func12, Try.ntmps12
    go_upto_region 1 with (fail)
    rw [← hw1]
    clear hw1
    go_wp2_with fail
    refine (checkBoxes_nil s c w1).mono ?_
    rintro e w2 ⟨rfl, hb2⟩
    have G := Lib.hid (below_step H1.out hb2)
    have k1 := cell_later hb2 Q1.out
    have k2 := cell_later hb2 Q2.out
    clear hb2 q0
    go_wp2_with (first | (go_at_call 48; (with_reducible refine (outside_no dx 0 1048576 _ D1.out).mono ?_); rintro e w' ⟨rfl, rfl⟩) | (go_at_call 48; (with_reducible refine (outside_yes dy 0 1048576 _ D2.out).mono ?_); rintro e w' ⟨rfl, rfl⟩))
    go_ret2
    exact ⟨rfl, G.out⟩
  · have D1 := Lib.hid h1
    clear hd h1
    go_enter Try.func12, Try.ntmps12
    go_upto_region 1 with (fail)
    rw [← hw1]
    clear hw1
    go_wp2_with fail
    refine (checkBoxes_nil s c w1).mono ?_
    rintro e w2 ⟨rfl, hb2⟩
    have G := Lib.hid (below_step H1.out hb2)
    have k1 := cell_later hb2 Q1.out
    have k2 := cell_later hb2 Q2.out
    clear hb2 q0
    go_wp2_with (first | (go_at_call 48; (with_reducible refine (outside_yes dx 0 1048576 _ D1.out).mono ?_); rintro e w' ⟨rfl, rfl⟩))
    go_ret2
    exact ⟨rfl, G.out⟩

set_option maxHeartbeats 1000000 in
set_option maxRecDepth 100000 in
theorem groupsR_nil (s : Option Addr) (c : Nat) (dx dy : Int) (w : World) :
    Calls Try.prog 17 #[.slice s 0 c, .int .i64 dx, .int .i64 dy] w fun e w' => e = .returned (.slice none 0 0) ∧ Below w.heap.size w w' := by
  have mkB := run_make_row' (P := Try.prog) 45 4 (.bool false) 1 Try.underlying45 info_bool rfl .i64 .i64 0 (by omega) (by omega)
  have mkB' : ∀ w : World, (Instr.makeSlice 45 (.int .i64 0) (.int .i64 0)).run Try.prog w = .ok (.slice (some ⟨w.heap.size, 0, none⟩) 0 0) (w.alloc (.cells (madeCells #[.bool false] 0) 4)) := mkB
  clear mkB
  go_enter Try.func17, Try.ntmps17
  go_upto_region 2 with (fail)
  obtain ⟨w1, hw1⟩ : ∃ w1, w1 = w.alloc (.cells (madeCells #[.bool false] 0) 4) := ⟨_, rfl⟩
  have H1 := Lib.hid (show Below w.heap.size w w1 by rw [hw1]; exact new_below _ _)
  rw [← hw1]
  clear hw1 mkB'
  go_wp2_with fail
  go_loopw [8, 20] (fun v8 i wr => v8 = .slice none 0 0 ∧ i = .int .i64 0 ∧ Hid (Below w.heap.size w wr)) (fun _ _ _ => 0)
  case atStart => exact ⟨rfl, rfl, H1⟩
  case round =>
    obtain ⟨rfl, rfl, HR⟩ := hrel
    go_wp2_with fail
    go_ret
    exact ⟨rfl, HR.out⟩

end Go.Proofs.Ytljjbdfpegjmcaa
namespace Go.Proofs.Ytljjbdfpegjmcaa
open Go.RowKit
set_option linter.unusedSimpArgs false
set_option linter.unusedVariables false

set_option maxHeartbeats 2000000 in
set_option maxRecDepth 100000 in
theorem boxes_zero (s : Option Addr) (c : Nat) (dx dy : Int) (w : World) (hs : s = none → c = 0) :
    Calls Try.prog 3 #[.slice s 0 c, .int .i64 dx, .int .i64 dy] w fun e w' => e = .returned (.bool true) ∧ Below w.heap.size w w' := by
  go_enter Try.func3, Try.ntmps3
  go_upto_region 3 with ((go_at_call 7; refine (landed_any _).mono ?_; rintro e w' ⟨rfl, rfl⟩))
  go_cut [0] from 21 to 26 (fun t0 wx => t0 = .slice s 0 c ∧ w = wx)
  case first =>
    rcases s with _ | x
    · obtain rfl := hs rfl
      go_wp2_with fail
      go_meet
      case rel => exact ⟨rfl, rfl⟩
    · go_wp2_with fail
      go_meet
      case rel => exact ⟨rfl, rfl⟩
  case rest =>
    obtain ⟨rfl, rfl⟩ := hcut
    clear hs
    go_wp2_with fail
    go_loopw [28] (fun i wr => i = .int .i64 0 ∧ Hid (Below w.heap.size w wr)) (fun i _ => 0)
    case atStart => exact ⟨rfl, Lib.hid (Below.refl _ _)⟩
    case round =>
      obtain ⟨rfl, HR⟩ := hrel
      go_wp2_with fail
      refine (boxesErrR_nil s c wr).mono ?_
      rintro e w2 ⟨rfl, hb2⟩
      have B2 := Lib.hid (below_step HR.out hb2)
      clear hb2
      go_wp2_with fail
      refine (hullP_nil s c w2).mono ?_
      rintro e w3 ⟨rfl, hb3⟩
      have B3 := Lib.hid (below_step B2.out hb3)
      clear hb3
      go_upto_region 12 with (fail)
      obtain ⟨w4, hw4⟩ : ∃ w4, w4 = w3.alloc (.cells #[.int .i64 0, .int .i64 0, .int .i64 0, .int .i64 0] 25) := ⟨_, rfl⟩
      have B4 := Lib.hid (show Below w.heap.size w w4 by rw [hw4]; exact below_alloc B3.out _)
      rw [← hw4]
      clear hw4
      by_cases hd : (0 ≤ dx ∧ dx ≤ 1048576) ∧ (0 ≤ dy ∧ dy ≤ 1048576)
      · obtain ⟨hd1, hd2⟩ := hd
        have K := Lib.hid (groups_nil s c dx dy w4 hd1 hd2)
        obtain ⟨e1, e2⟩ := hd1
        obtain ⟨e3, e4⟩ := hd2
        go_wp2_with fail
        refine K.out.mono ?_
        rintro e w5 ⟨rfl, hb5⟩
        have B5 := Lib.hid (below_step B4.out hb5)
        clear hb5
        go_wp2_with fail
        go_loopw [91] (fun i wr => i = .int .i64 0 ∧ Hid (Below w.heap.size w wr)) (fun i _ => 0)
        case atStart => exact ⟨rfl, B5⟩
        case round =>
          obtain ⟨rfl, HJ⟩ := hrel
          obtain ⟨wj, rfl⟩ : ∃ wj : World, wj = wr := ⟨_, rfl⟩
          go_wp2_with fail
          refine (groupsR_nil s c dx dy wj).mono ?_
          rintro e w8 ⟨rfl, hb8⟩
          have B8 := Lib.hid (below_step HJ.out hb8)
          clear hb8
          go_wp2_with fail
          refine (eqGroups_zero _ _ _ _ _ _).mono ?_
          rintro e w9 ⟨rfl, rfl⟩
          go_wp2_with fail
          go_ret
          exact ⟨rfl, B8.out⟩
      · have K := Lib.hid (groups_nil_far s c dx dy w4 hd)
        go_wp2_with fail
        refine K.out.mono ?_
        rintro e w5 ⟨rfl, hb5⟩
        have B5 := Lib.hid (below_step B4.out hb5)
        clear hb5
        go_wp2_with fail
        go_loopw [91] (fun i wr => i = .int .i64 0 ∧ Hid (Below w.heap.size w wr)) (fun i _ => 0)
        case atStart => exact ⟨rfl, B5⟩
        case round =>
          obtain ⟨rfl, HJ⟩ := hrel
          have G8 := Lib.hid HJ.out
          by_cases a1 : dx < 0
          · clear hd
            go_wp2_with fail
            go_ret
            exact ⟨rfl, G8.out⟩
          · by_cases a2 : 1048576 < dx
            · clear hd
              go_wp2_with fail
              go_ret
              exact ⟨rfl, G8.out⟩
            · by_cases a3 : dy < 0
              · clear hd
                go_wp2_with fail
                go_ret
                exact ⟨rfl, G8.out⟩
              · have a4 : 1048576 < dy := by omega
                clear hd
                go_wp2_with fail
                go_ret
                exact ⟨rfl, G8.out⟩

theorem boxes_any (s : Option Addr) (n c : Nat) (B : Nat → Bx) (dx dy : Int) (w : World) (hs : IsBoxes w s n c B) (hn : n ≤ 9223372036854775807) :
    Calls Try.prog 3 #[.slice s n c, .int .i64 dx, .int .i64 dy] w fun e w' => e = .returned (.bool true) ∧ Below w.heap.size w w' := by
  by_cases h0 : n = 0
  · subst h0
    rcases hs with ⟨_, h⟩ | ⟨g, o, rfl, hc, hB⟩
    · exact boxes_zero s c dx dy w h
    · exact boxes_zero _ c dx dy w (fun e => by cases e)
  · rcases hs with ⟨h, _⟩ | ⟨g, o, rfl, hc, hB⟩
    · exact absurd h h0
    · exact boxes_some n g o c B dx dy w (by omega) hn hc hB

end Go.Proofs.Ytljjbdfpegjmcaa
namespace Go.Proofs.Ytljjbdfpegjmcaa
open Go.ChangeShapes Go.WideShapes Go.ChangeAt Go.RowKit Go.Joins
open Go.ChangeMaps (open_string shut_string)
set_option linter.unusedVariables false

set_option maxRecDepth 100000 in
theorem boxes_lifted (os : Os) (started : os.Started) (H : Type) (enc : TypeId × Value → H) :
    ReturnsInHanded {} Try.checked os 3 .any (Rows.boxesMatchSpec.pre6 enc Try.prog Try.f3 Rows.boxesMatchRow.domain false) (Rows.boxesMatchSpec.post enc Try.prog Try.f3 false true false false) := by
  refine returnsInHanded_of_change (C := Try.checked) own started (by kernel_rfl) Try.func3
    (ChangeSpec.witness6 (enc := enc) (C := Try.checked) false ⟨#[], #[.slice none 0 0, .int .i64 0, .int .i64 0], []⟩ 8 (by kernel_rfl) (by kernel_rfl) (by kernel_rfl) (by kernel_rfl)) ?_
  intro W base args ds gs before hval0 hW hcnd _
  have hval : ∀ (j : Nat) t v, Try.f3.params[j]? = some t → args[j]? = some v → Value.okWide Try.prog W .any base t v := hval0
  have hW' := hW
  obtain ⟨p, q, hA0, hV, rfl, hfz, hnd⟩ := hW
  have hA : DataW.TrodAll enc Try.prog W 0 (fun _ => true) true Try.f3.params.toList args.toList ds p := hA0
  rw [Try.params3] at hA hval
  obtain ⟨v0, vs0, d0, ds0, p0, q0, hargs, rfl, rfl, h0, r0⟩ := trodAll_cons hA
  obtain ⟨v1, vs1, d1, ds1, p1, q1, rfl, rfl, rfl, h1, r1⟩ := trodAll_cons r0
  obtain ⟨v2, vs2, d2, ds2, p2, q2, rfl, rfl, rfl, h2, r2⟩ := trodAll_cons r1
  obtain ⟨rfl, rfl, rfl⟩ := trodAll_nil r2
  obtain rfl : args = #[v0, v1, v2] := by cases args; simp_all
  obtain ⟨rfl, rfl⟩ := trodVars_none hV
  have k0 := h0
  have lt0 : ∀ x ∈ p0, x.block < W.heap.size := by obtain ⟨m, hm⟩ := k0; exact DataW.trod_lt m _ _ _ hm
  obtain ⟨s0, n0, c0, z0, rfl, hs0, hn0⟩ := open_boxesN (hval 0 22 v0 rfl rfl) h0
  obtain ⟨m1, rfl, rfl, rfl, w1⟩ := open_int Try.underlying3 (hval 1 3 v1 rfl rfl) h1
  obtain ⟨m2, rfl, rfl, rfl, w2⟩ := open_int Try.underlying3 (hval 2 3 v2 rfl rfl) h2
  clear hA0 hval0
  refine (boxes_any s0 n0 c0 z0 m1 m2 W hs0 hn0).mono fun e W' ⟨he, bel⟩ => ?_
  subst he
  exact ⟨_, rfl, _, _, _, [], _, [], hW', trodAll_mk1 (shut_bool Try.underlying4 _), (trodAll_cons_mk (Below.trod laidOut (by kernel_rfl) (of_decide_eq_true (by kernel_rfl)) k0 bel lt0) (trodAll_cons_mk (shut_int Try.underlying3 w1) (trodAll_cons_mk (shut_int Try.underlying3 w2) trodAll_mk0))), rfl, bel.frame _, fun h => by cases h⟩

theorem boxes_over : Rows.boxesMatchRow.holds Try.pinned (OpenSpec.ofChange Rows.boxesMatchSpec) :=
  OpenClaim.holds_of_wide 3 Try.f3 rfl rfl rfl rfl rfl rfl rfl ⟨rfl, rfl, rfl, rfl, rfl⟩ rfl rfl rfl rfl rfl (by kernel_rfl) Try.func3 (by kernel_rfl)
    (of_decide_eq_true (by kernel_rfl)) (by unfold Func.isWrapper; first | (rw [if_pos (by decide +kernel)]; kernel_rfl) | (rw [if_neg (by decide +kernel)]; exact ⟨rfl, rfl⟩))
    (fun os started H enc _ => boxes_lifted os started H enc)

theorem boxes_holds : Rows.BoxesMatchSaid := boxes_over
end Go.Proofs.Ytljjbdfpegjmcaa
