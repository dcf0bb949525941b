/-
  ParagraphsMatch returns true for every list of boxes and all numbers, and each argument reads afterwards as it read before. No conditions.
-/
import Derived.Test.YtmoplmjfnjgcaaaRows
import Derived.WalkKit
import Derived.WalkSpells
import Derived.WalkLawsBesides
import Derived.Lib.Hide
import Derived.Deep.RegionHeld3
import Derived.Shelf.Abstract
import Derived.Deep.QuietTactic
import Derived.BigQuiet
import Derived.Deep.AppendLies
import Derived.Deep.DrawnRows
import Derived.Deep.RegionLaw
import Derived.ProofKit
import Derived.OpenShut
import Derived.ShutString
import Derived.ChangeOld
import Derived.Lib.SmallJoins
import Derived.Deep.Grids
import Derived.Deep.DeepCutAuto
import Derived.Lib.MinMax
import Derived.Deep.CutRange
import Derived.Laws.EntriesVeiled
import Derived.StillTailTactics
import Derived.RegionTactic
import Derived.ChangeAlike
import Derived.BigRegion
import Derived.Deep.OwnRows
import Derived.Deep.AppendSrc
import Derived.Test.YtmoplmjfnjgcaaaProg
import Derived.Deep.Slices
import Derived.Test.YtmoplmjfnjgcaaaCParas2
namespace Go.Proofs.Ytmoplmjfnjgcaaa
open Go.RowKit
set_option linter.unusedSimpArgs false
set_option linter.unusedVariables false

/-- What is known of a list of parts: the paragraphs of n boxes. -/
def ParasOf (bg : Nat → Bool) (n : Nat) : List (List Nat) := (parP bg n).1 ++ [(parP bg n).2]

set_option maxHeartbeats 2000000 in
set_option maxRecDepth 100000 in
theorem paragraphs_ok (n g o c : Nat) (B : Nat → Bx) (dx dy : Int) (w : World) (hn1 : 1 ≤ n) (hn : n ≤ 60) (hB : BoxesAt w g o n B) (hOK : ∀ i, i < n → (B i).OK) (h : listErr B n = 0) (hd1 : 0 ≤ dx ∧ dx ≤ 1048576) (hd2 : 0 ≤ dy ∧ dy ≤ 1048576) :
    Calls Try.prog 23 #[.slice (some ⟨g, o, none⟩) n c, .int .i64 dx, .int .i64 dy] w fun e w' =>
      ∃ v, e = .returned (.tuple #[v, .int .i64 0]) ∧ Closed w' w.heap.size (ParasOf (bgB B (hullX B n).1 dx dy) n) v ∧ Below w.heap.size w w' := by
  have hmf : ∀ (fn : Fn) (first cap : Array Value) (w : World), (Instr.makeFunc fn first cap).run Try.prog w = .ok (.func fn first cap) w := fun _ _ _ _ => rfl
  obtain ⟨i0, hi, hz0, hz1, hz2⟩ := info_parts info_ints
  obtain ⟨ki0, ki, kz0, kz1, kz2⟩ := info_parts info_int
  obtain ⟨w1, hw1⟩ : ∃ w1, w1 = ((w.alloc (.cells #[.slice (some ⟨g, o, none⟩) n c] 51)).alloc (.cells #[.int .i64 dx] 3)).alloc (.cells #[.int .i64 dy] 3) := ⟨_, rfl⟩
  have B1 : Below w.heap.size w w1 := by rw [hw1]; exact below_alloc (below_alloc (new_below _ _) _) _
  have HB := Lib.hid (hB.later B1)
  have H1 := Lib.hid B1
  have q0 : w1.cell? ⟨w.heap.size, 0, none⟩ = some (.slice (some ⟨g, o, none⟩) n c) := by rw [hw1]; go_simp
  have Q0 := Lib.hid q0
  have Q1 := Lib.hid (show w1.cell? ⟨w.heap.size + 1, 0, none⟩ = some (.int .i64 dx) by rw [hw1]; go_simp)
  have Q2 := Lib.hid (show w1.cell? ⟨w.heap.size + 1 + 1, 0, none⟩ = some (.int .i64 dy) by rw [hw1]; go_simp)
  have S1 := Lib.hid (show w.heap.size + 1 + 1 < w1.heap.size by rw [hw1]; simp)
  have HP := Lib.hid (hullP_ok n g o c B w1 hn1 (by omega) HB.out hOK h)
  have D1 := Lib.hid hd1
  have D2 := Lib.hid hd2
  have HO := Lib.hid hOK
  have HL := Lib.hid (hullX_ok hn1 hOK n (Nat.le_refl _)).1
  obtain ⟨L, hL⟩ : ∃ L, L = (hullX B n).1 := ⟨_, rfl⟩
  obtain ⟨bg, hbg⟩ : ∃ bg, bg = bgB B L dx dy := ⟨_, rfl⟩
  rw [← hL] at HL HP
  rw [← hL, ← hbg]
  have HBG := Lib.hid hbg
  have hb0 : bg 0 = true := by rw [hbg]; exact bgB_zero _ _ _ _
  have HB0 := Lib.hid hb0
  clear hB B1 h hd1 hd2 hOK hL hbg hb0
  go_enter Try.func23, Try.ntmps23
  go_upto_region 1 with (fail)
  rw [← hw1]
  clear hw1
  go_wp2_with fail
  refine HP.out.mono ?_
  rintro e w2 ⟨rfl, hb2⟩
  go_upto_region 2 with (fail)
  obtain ⟨w3, hw3⟩ : ∃ w3, w3 = w2.alloc (.cells #[.int .i64 L, .int .i64 (hullY B n).1, .int .i64 ((hullX B n).2 - L), .int .i64 ((hullY B n).2 - (hullY B n).1)] 92) := ⟨_, rfl⟩
  have hb3 : Below w1.heap.size w1 w3 := by rw [hw3]; exact below_alloc hb2 _
  have H3 := Lib.hid (below_step H1.out hb3)
  have k0 := cell_later hb3 Q0.out
  have k1 := cell_later hb3 Q1.out
  have k2 := cell_later hb3 Q2.out
  have k3 : w3.cell? ⟨w2.heap.size, 0, none⟩ = some (.int .i64 L) := by rw [hw3]; go_simp
  have HB3 := Lib.hid (HB.out.later hb3)
  have S3 := Lib.hid (show w2.heap.size < w3.heap.size by rw [hw3]; simp)
  rw [← hw3]
  obtain ⟨hb, hhb⟩ : ∃ hb, hb = w2.heap.size := ⟨_, rfl⟩
  rw [← hhb] at k3 S3
  rw [← hhb]
  have K0 := Lib.hid k0
  have K1 := Lib.hid k1
  have K2 := Lib.hid k2
  have K3 := Lib.hid k3
  have HCL := Lib.hid (show ∀ k wx, k < n → Below w3.heap.size w3 wx → Calls Try.prog 47 #[.int .i64 (k : Int), .pointer (some ⟨w.heap.size, 0, none⟩), .pointer (some ⟨hb, 0, none⟩), .pointer (some ⟨w.heap.size + 1, 0, none⟩), .pointer (some ⟨w.heap.size + 1 + 1, 0, none⟩)] wx fun e w' => e = .returned (.bool (bg k)) ∧ ∃ q, w' = wx.drewN q from by
    intro k wx hk hx
    cases k with
    | zero => rw [HB0.out]; exact begins_zero n g o c _ _ _ _ B L dx dy wx
    | succ k =>
      have := begins_next k n g o c w.heap.size hb (w.heap.size + 1) (w.heap.size + 1 + 1) B L dx dy wx hk hn (HO.out _ hk) (HO.out k (by omega)) HL.out (cell_later hx K0.out) (cell_later hx K3.out) (cell_later hx K1.out) (cell_later hx K2.out) (HB3.out.later hx)
      rw [HBG.out]
      exact this)
  have P0 := Lib.hid (show ParSt bg w3.heap.size 0 (.slice none 0 0) w3 ∧ Below w3.heap.size w3 w3 from ⟨.inl ⟨rfl, rfl⟩, Below.refl _ _⟩)
  clear hb2 hb3 hw3 q0 hhb k3
  go_wp2_with (first | (go_at_call 29; (with_reducible refine (outside_no dx 0 1048576 _ D1.out).mono ?_); rintro e w' ⟨rfl, rfl⟩) | (go_at_call 29; (with_reducible refine (outside_no dy 0 1048576 _ D2.out).mono ?_); rintro e w' ⟨rfl, rfl⟩))
  clear k0 k1 k2
  go_loopw [11, 35] (fun v11 i wr => ∃ k : Nat, k ≤ n ∧ i = .int .i64 k ∧ Hid (ParSt bg w3.heap.size k v11 wr ∧ Below w3.heap.size w3 wr)) (fun _ i _ => n - (intOf i).toNat)
  case atStart => exact ⟨0, Nat.zero_le _, rfl, P0⟩
  case round =>
    obtain ⟨k, hk, rfl, HR⟩ := hrel
    clear P0
    obtain ⟨wo, rfl⟩ : ∃ wo : World, wo = wr := ⟨_, rfl⟩
    by_cases hlt : k < n
    · have i1 : (k : Int) < (n : Int) := by omega
      have hc := HCL.out k wo hlt HR.out.2
      obtain ⟨bb, hbb⟩ : ∃ bb, bb = bg k := ⟨_, rfl⟩
      rw [← hbb] at hc
      have HC := Lib.hid hc
      have HBB := Lib.hid hbb
      clear hc hbb
      go_wp2_with fail
      refine HC.out.mono ?_
      rintro e w6 ⟨rfl, q, hq⟩
      have hb6 : Below wo.heap.size wo w6 := by rw [hq]; exact below_drewN (Below.refl _ _) _
      have HR6 := Lib.hid (show ParSt bg w3.heap.size k u11 w6 ∧ Below w3.heap.size w3 w6 from ⟨HR.out.1.later hb6, below_in HR.out.2 hb6 HR.out.2.size⟩)
      clear hq hb6 HR
      go_upto_if 40 with (fail)
      go_cut [11] from 40 to 43 (fun v11 wx => ∃ Ls Lk, Hid (Opened wx w3.heap.size Ls Lk v11 ∧ parP bg (k + 1) = (Ls, Lk ++ [k]) ∧ Ls.length ≤ k ∧ Lk.length ≤ k ∧ Below w3.heap.size w3 wx))
      case first =>
        cases bb
        rotate_left
        · have hbk : bg k = true := HBB.out.symm
          obtain ⟨Ls, ⟨vals, hv1, hv2⟩, hp, hl⟩ := par_begin HR6.out.1 HB0.out hbk
          have HV1 := Lib.hid hv1
          have HV2 := Lib.hid hv2
          have HPP := Lib.hid hp
          have HN6 := Lib.hid HR6.out.2.size
          clear hv1 hv2 hp hbk
          go_wp2_with (at_builtin; refine wpList_append_own _ rfl _ _ 52 rfl w3.heap.size 55 i0 (.slice none 0 0) 1 24 Try.underlying52 hi hz0 hz1 hz2 rfl (by decide) _ _ _ rfl (HV1.out.alloc _) ⟨w6.heap.size, 0, none⟩ 1 1 [.slice none 0 0] rfl rfl ?c1 ?c2 ?c3 ?c4 ?c5 ?_)
          case c1 => exact cell_one_new _ _ _
          case c2 => intro u hu; simp at hu; subst hu; rfl
          case c3 => unfold maxLen; omega
          case c4 => omega
          case c5 => have := HN6.out; simp; omega
          intro v' w8 hown8 hgr8 _
          have hN8 : w3.heap.size ≤ (w6.alloc (.cells #[.slice none 0 0] 55)).heap.size := by have := HN6.out; simp; omega
          have O8 := Lib.hid (Closed.begin (HV1.out.alloc (.cells #[.slice none 0 0] 55)) (owned_below HV2.out (new_below _ _)) hown8 hgr8 hN8)
          have B8 := Lib.hid ((below_alloc HR6.out.2 (.cells #[.slice none 0 0] 55)).grown hgr8 hN8 (fun j hj => (HV1.out.lt j hj).1))
          clear hown8 hgr8 hN8
          go_wp2_with fail
          go_meet
          case rel => exact ⟨Ls, [], Lib.hid ⟨O8.out, HPP.out, hl, Nat.zero_le _, B8.out⟩⟩
        · have hbk' : bg k = false := HBB.out.symm
          obtain ⟨Ls, Lk, ho, hp, hl1, hl2⟩ := par_go HR6.out.1 HB0.out hbk'
          have K := Lib.hid (show _ ∧ _ from ⟨ho, hp⟩)
          clear hbk' ho hp
          go_wp2_with fail
          go_meet
          case rel => exact ⟨Ls, Lk, Lib.hid ⟨K.out.1, K.out.2, hl1, hl2, HR6.out.2⟩⟩
      case rest =>
        obtain ⟨w9, rfl⟩ : ∃ w9 : World, w9 = wc := ⟨_, rfl⟩
        obtain ⟨Ls, Lk, hcut⟩ := hcut
        obtain ⟨⟨vals, u, M, h1, h2, h3, h4, h5, h6⟩, hp, hl1, hl2, hbw⟩ := hcut.out
        obtain ⟨ob, oc, rfl⟩ := owns_some h1 (by omega)
        have hob := h1.lt ob rfl
        have hcell : w9.cell? ⟨ob, Ls.length, none⟩ = some u := by
          rw [h1.cellAt Ls.length (by omega), ← h2.1]; simp
        have hfz := h1.frozenAt Ls.length
        have A1 := Lib.hid h1
        have A2 := Lib.hid h2
        have A3 := Lib.hid h3
        have A4 := Lib.hid h4
        have A5 := Lib.hid (And.intro h5 h6)
        have A6 := Lib.hid hp
        have A7 := Lib.hid hbw
        have A8 := Lib.hid hob
        have A9 := Lib.hid hcell
        have A10 := Lib.hid hfz
        clear h1 h2 h3 h4 h5 h6 hp hbw hcut HR6 hob hfz
        go_wp2_with (at_builtin; refine wpList_append_own _ rfl _ _ 55 rfl M 3 ki0 (.int .i64 0) 1 8 Try.underlying55 ki kz0 kz1 kz2 rfl (by decide) _ _ _ rfl (A4.out.alloc _) ⟨w9.heap.size, 0, none⟩ 1 1 [.int .i64 (k : Int)] rfl rfl ?d1 ?d2 ?d3 ?d4 ?d5 ?_)
        case d1 => exact cell_one_new _ _ _
        case d2 => intro u hu; simp at hu; subst hu; rfl
        case d3 => unfold maxLen; omega
        case d4 => omega
        case d5 => have := A5.out.2; simp; omega
        intro v' w10 hown10 hgr10 _
        obtain ⟨nb, nc, rfl⟩ := owns_some hown10 (by omega)
        have e := (A1.out.alloc (.cells #[.int .i64 (k : Int)] 3)).kept hgr10 (not_block (by decide) A4.out A1.out)
        have hcell10 : w10.cell? ⟨ob, Ls.length, none⟩ = some u := by rw [e.cellAt Ls.length (by omega), ← A2.out.1]; simp
        have hfz10 := e.frozenAt Ls.length
        have h6' : M ≤ (w9.alloc (.cells #[.int .i64 (k : Int)] 3)).heap.size := by have := A5.out.2; simp; omega
        have h7' : w3.heap.size ≤ (w9.alloc (.cells #[.int .i64 (k : Int)] 3)).heap.size := Nat.le_trans A5.out.1 h6'
        have G := Lib.hid (Opened.grow (A1.out.alloc (.cells #[.int .i64 (k : Int)] 3)) (owned_below A2.out (new_below _ _)) A3.out (A4.out.alloc _) A5.out.1 h6' hown10 hgr10)
        have B10 := Lib.hid ((((below_alloc A7.out (.cells #[.int .i64 (k : Int)] 3)).grown hgr10 h7' (fun j hj => Nat.le_trans A5.out.1 (A4.out.lt j hj).1))).setCell (p := ⟨ob, Ls.length, none⟩) A8.out.1 (.slice (some ⟨nb, 0, none⟩) (Lk.length + 1) nc))
        clear hown10 hgr10 e h6' h7' hcell
        go_wp2_with fail
        go_roundw
        case rel => exact ⟨k + 1, by omega, by go_num, Lib.hid ⟨.inr ⟨by omega, by rw [A6.out]; exact G.out⟩, B10.out⟩⟩
        case measure => simp [intOf]; omega
    · obtain rfl : k = n := by omega
      have hz : ParSt bg w3.heap.size k u11 wo := HR.out.1
      rcases hz with ⟨h0, _⟩ | ⟨h0, h1⟩
      · omega
      have HC := Lib.hid h1.closed
      clear h1
      go_wp2_with fail
      go_ret2
      obtain ⟨vals, c1, c2⟩ := HC.out
      exact ⟨_, rfl, ⟨vals, owns_base c1 H3.out.size, c2.1, fun i hi => owns_base (c2.2 i hi) H3.out.size⟩, below_in H3.out HR.out.2 H3.out.size⟩

end Go.Proofs.Ytmoplmjfnjgcaaa
namespace Go.Proofs.Ytmoplmjfnjgcaaa
open Go.RowKit
set_option linter.unusedSimpArgs false
set_option linter.unusedVariables false

set_option maxHeartbeats 4000000 in
set_option maxRecDepth 100000 in
theorem paragraphsR_ok (n g o c : Nat) (B : Nat → Bx) (dx dy : Int) (w : World) (hn1 : 1 ≤ n) (hn : n ≤ 60) (hB : BoxesAt w g o n B) (hOK : ∀ i, i < n → (B i).OK) (h : listErr B n = 0) (hd1 : 0 ≤ dx ∧ dx ≤ 1048576) (hd2 : 0 ≤ dy ∧ dy ≤ 1048576) :
    Calls Try.prog 24 #[.slice (some ⟨g, o, none⟩) n c, .int .i64 dx, .int .i64 dy] w fun e w' =>
      ∃ v, e = .returned (.tuple #[v, .int .i64 0]) ∧ Closed w' w.heap.size (ParasOf (bgB B (hullX B n).1 dx dy) n) v ∧ Below w.heap.size w w' := by
  obtain ⟨i0, hi, hz0, hz1, hz2⟩ := info_parts info_ints
  obtain ⟨ki0, ki, kz0, kz1, kz2⟩ := info_parts info_int
  have HB := Lib.hid (fun wx (hx : Below w.heap.size w wx) => hB.later hx)
  have HO := Lib.hid hOK
  have HE := Lib.hid (boxesErrR_any n g o c B w (by omega) hB)
  rw [h] at HE
  obtain ⟨bg, hbg⟩ : ∃ bg, bg = bgB B (hullX B n).1 dx dy := ⟨_, rfl⟩
  rw [← hbg]
  have HBG := Lib.hid hbg
  have HB0 := Lib.hid (show bg 0 = true by rw [hbg]; exact bgB_zero _ _ _ _)
  have HL := Lib.hid (hullX_ok hn1 hOK n (Nat.le_refl _)).1
  obtain ⟨e1, e2⟩ := hd1
  obtain ⟨e3, e4⟩ := hd2
  clear hB h hOK hbg
  go_enter Try.func24, Try.ntmps24
  go_wp2_with fail
  refine HE.out.mono ?_
  rintro e w2 ⟨rfl, hb2⟩
  have P0 := Lib.hid (show ParSt bg w.heap.size 0 (.slice none 0 0) w2 ∧ Below w.heap.size w w2 from ⟨.inl ⟨rfl, rfl⟩, hb2⟩)
  clear hb2
  go_wp2_with fail
  go_loopw [9, 36] (fun v9 i wr => ∃ k : Nat, k ≤ n ∧ i = .int .i64 k ∧ Hid (ParSt bg w.heap.size k v9 wr ∧ Below w.heap.size w wr)) (fun _ i _ => n - (intOf i).toNat)
  case atStart => exact ⟨0, Nat.zero_le _, rfl, P0⟩
  case round =>
    obtain ⟨k, hk, rfl, HR⟩ := hrel
    clear P0
    obtain ⟨wo, rfl⟩ : ∃ wo : World, wo = wr := ⟨_, rfl⟩
    by_cases hlt : k < n
    · have i1 : (k : Int) < (n : Int) := by omega
      obtain ⟨⟨c0, c1⟩, c2, c3⟩ := HB.out wo HR.out.2 k hlt
      obtain ⟨X, hX⟩ : ∃ X, X = (B k).x := ⟨_, rfl⟩
      obtain ⟨Y, hY⟩ : ∃ Y, Y = (B k).y := ⟨_, rfl⟩
      obtain ⟨P, hP⟩ : ∃ P, P = (B k).w := ⟨_, rfl⟩
      obtain ⟨Q, hQ⟩ : ∃ Q, Q = (B k).h := ⟨_, rfl⟩
      rw [← hX] at c0
      rw [← hY] at c1
      rw [← hP] at c2
      rw [← hQ] at c3
      have HX := Lib.hid hX
      have HY := Lib.hid hY
      clear hX hY hP hQ
      go_upto_region 10 with (fail)
      obtain ⟨w5, hw5⟩ : ∃ w5, w5 = wo.alloc (.cells #[.int .i64 X, .int .i64 Y, .int .i64 P, .int .i64 Q] 92) := ⟨_, rfl⟩
      have hb5 : Below wo.heap.size wo w5 := by rw [hw5]; exact new_below _ _
      have x5 : w5.heap[wo.heap.size]? = some (.cells #[.int .i64 X, .int .i64 Y, .int .i64 P, .int .i64 Q] 92 (0, 0)) := by rw [hw5]; exact heap_alloc_new _ _
      obtain ⟨nb, hnb⟩ : ∃ nb, nb = wo.heap.size := ⟨_, rfl⟩
      rw [← hw5, ← hnb]
      rw [← hnb] at x5
      have HS5 := Lib.hid (fun wx (hb : Below w5.heap.size w5 wx) => box4_later x5 hb)
      have HR5 := Lib.hid (show ParSt bg w.heap.size k u9 w5 ∧ Below w.heap.size w w5 from ⟨HR.out.1.later hb5, below_in HR.out.2 hb5 HR.out.2.size⟩)
      obtain ⟨⟨d0, d1, d2, d3⟩, _, _, _, _⟩ := block4 x5
      have L0 := Lib.hid (show leftN B k 0 = X by rw [HX.out]; rfl)
      clear hw5 hb5 x5 hnb HR c0 c1 c2 c3
      go_wp2_with fail
      go_loopw [12, 45] (fun l i wx => ∃ j : Nat, j ≤ n ∧ l = .int .i64 (leftN B k j) ∧ i = .int .i64 j ∧ Hid (Below w5.heap.size w5 wx)) (fun _ i _ => n - (intOf i).toNat)
      case atStart => exact ⟨0, Nat.zero_le _, by rw [L0.out], rfl, Lib.hid (Below.refl _ _)⟩
      case round =>
        obtain ⟨j, hj, rfl, rfl, HJ⟩ := hrel
        clear d0 d1 d2 d3
        obtain ⟨wj, rfl⟩ : ∃ wj : World, wj = wr := ⟨_, rfl⟩
        by_cases hjn : j < n
        · have i2 : (j : Int) < (n : Int) := by omega
          obtain ⟨⟨c0, c1⟩, c2, c3⟩ := HB.out wj (below_in HR5.out.2 HJ.out HR5.out.2.size) j hjn
          have LS := Lib.hid (show leftN B k (j + 1) = min (leftN B k j) (B j).x from rfl)
          generalize leftN B k j = lj at *
          generalize B j = bj at *
          obtain ⟨X2, Y2, P2, Q2⟩ := bj
          simp only at c0 c1 c2 c3 LS
          go_wp2_with fail
          go_roundw
          case rel => exact ⟨j + 1, by omega, by rw [LS.out], by go_num, Lib.hid (below_alloc HJ.out _)⟩
          case measure => simp [intOf]; omega
        · obtain rfl : j = n := by omega
          have HLN := Lib.hid (leftN_end B k j hlt)
          rw [HLN.out]
          have HW := Lib.hid HJ.out
          obtain ⟨d0, d1, d2, d3⟩ := HS5.out wj HJ.out
          have HR6 := Lib.hid (show ParSt bg w.heap.size k u9 wj ∧ Below w.heap.size w wj from ⟨HR5.out.1.later HJ.out, below_in HR5.out.2 HJ.out HR5.out.2.size⟩)
          clear HJ HR5
          go_upto_region 16 with (fail)
          obtain ⟨L, hL⟩ : ∃ L, L = (hullX B j).1 := ⟨_, rfl⟩
          rw [← hL]
          rw [← hL] at HL HBG
          clear hL
          obtain ⟨bb, hbb⟩ : ∃ bb, bb = bg k := ⟨_, rfl⟩
          have HBB := Lib.hid hbb
          clear hbb
          go_cut [83] from 54 to 83 (fun t wx => t = .bool bb ∧ Hid (ParSt bg w.heap.size k u9 wx ∧ Below w.heap.size w wx))
          case first =>
            rcases Nat.eq_zero_or_pos k with h0 | h0
            · have hbb : bb = true := by rw [HBB.out, h0]; exact HB0.out
              have i5 : ((k : Int) == 0) = true := by rw [h0]; rfl
              subst hbb
              go_quiet (fail)
              go_wp2_with fail
              go_meet
              case rel => exact ⟨rfl, Lib.hid ⟨HR6.out.1.later (below_drewN (Below.refl _ _) _), below_drewN HR6.out.2 _⟩⟩
            · obtain ⟨kp, hkp⟩ : ∃ kp, k = kp + 1 := ⟨k - 1, by omega⟩
              obtain ⟨⟨c0, c1⟩, c2, c3⟩ := HB.out wj HR6.out.2 kp (by omega)
              obtain ⟨⟨⟨x1, x2⟩, x3, x4⟩, ⟨x5, x6⟩, x7, x8⟩ := HO.out k hlt
              obtain ⟨⟨⟨y1, y2⟩, y3, y4⟩, ⟨y5, y6⟩, y7, y8⟩ := HO.out kp (by omega)
              obtain ⟨l1, l2⟩ := HL.out
              rw [← HX.out] at x1 x2
              rw [← HY.out] at x3 x4
              have hbg : bb = (decide (dx ≤ X - L) || decide (dy < Y - ((B kp).y + (B kp).h))) := by
                rw [HBB.out, HBG.out, bgB, show k - 1 = kp by omega, ← HX.out, ← HY.out]
                simp [show k ≠ 0 by omega]
              generalize (B kp).y = V at *
              generalize (B kp).h = S at *
              have i3 : ((k : Int) == 0) = false := by simp; omega
              have i4 : IntKind.i64.wrap ((k : Int) - 1) = (kp : Int) := by rw [show (k : Int) - 1 = (kp : Int) by omega]; exact IntWalk.i64_in _ (by omega)
              have i5 : (kp : Int) < (j : Int) := by omega
              have v1 : IntKind.i64.wrap (X - L) = X - L := IntWalk.i64_in _ (by omega)
              have v2 : IntKind.i64.wrap (Y - V) = Y - V := IntWalk.i64_in _ (by omega)
              have v3 : IntKind.i64.wrap (Y - V - S) = Y - V - S := IntWalk.i64_in _ (by omega)
              have HBG2 := Lib.hid hbg
              have HKP := Lib.hid hkp
              clear hbg hkp x5 x6 x7 x8 y1 y2 h0
              by_cases t1 : dx ≤ X - L
              · have hbb : bb = true := by rw [HBG2.out, decide_eq_true t1]; rfl
                subst hbb
                go_quiet (fail)
                go_wp2_with fail
                go_meet
                case rel => exact ⟨rfl, Lib.hid ⟨HR6.out.1.later (below_drewN (Below.refl _ _) _), below_drewN HR6.out.2 _⟩⟩
              · have hbb : bb = decide (dy < Y - V - S) := by rw [HBG2.out, decide_eq_false t1, show Y - V - S = Y - (V + S) by omega]; rfl
                subst hbb
                go_quiet (fail)
                go_wp2_with fail
                go_meet
                case rel => exact ⟨rfl, Lib.hid ⟨HR6.out.1.later (below_drewN (Below.refl _ _) _), below_drewN HR6.out.2 _⟩⟩
          case rest =>
            obtain ⟨w6, rfl⟩ : ∃ w6 : World, w6 = wc := ⟨_, rfl⟩
            obtain ⟨rfl, HC6⟩ := hcut
            clear HR6 d0 d1 d2 d3
            go_upto_if 83 with (fail)
            go_cut [9] from 83 to 86 (fun v9 wx => ∃ Ls Lk, Hid (Opened wx w.heap.size Ls Lk v9 ∧ parP bg (k + 1) = (Ls, Lk ++ [k]) ∧ Ls.length ≤ k ∧ Lk.length ≤ k ∧ Below w.heap.size w wx))
            case first =>
              cases bb
              rotate_left
              · have hbk : bg k = true := HBB.out.symm
                obtain ⟨Ls, ⟨vals, hv1, hv2⟩, hp, hl⟩ := par_begin HC6.out.1 HB0.out hbk
                have HV1 := Lib.hid hv1
                have HV2 := Lib.hid hv2
                have HPP := Lib.hid hp
                have HN6 := Lib.hid HC6.out.2.size
                clear hv1 hv2 hp hbk
                go_wp2_with (at_builtin; refine wpList_append_own _ rfl _ _ 52 rfl w.heap.size 55 i0 (.slice none 0 0) 1 24 Try.underlying52 hi hz0 hz1 hz2 rfl (by decide) _ _ _ rfl (HV1.out.alloc _) ⟨w6.heap.size, 0, none⟩ 1 1 [.slice none 0 0] rfl rfl ?c1 ?c2 ?c3 ?c4 ?c5 ?_)
                case c1 => exact cell_one_new _ _ _
                case c2 => intro u hu; simp at hu; subst hu; rfl
                case c3 => unfold maxLen; omega
                case c4 => omega
                case c5 => have := HN6.out; simp; omega
                intro v' w8 hown8 hgr8 _
                have hN8 : w.heap.size ≤ (w6.alloc (.cells #[.slice none 0 0] 55)).heap.size := by have := HN6.out; simp; omega
                have O8 := Lib.hid (Closed.begin (HV1.out.alloc (.cells #[.slice none 0 0] 55)) (owned_below HV2.out (new_below _ _)) hown8 hgr8 hN8)
                have B8 := Lib.hid ((below_alloc HC6.out.2 (.cells #[.slice none 0 0] 55)).grown hgr8 hN8 (fun j hj => (HV1.out.lt j hj).1))
                clear hown8 hgr8 hN8
                go_wp2_with fail
                go_meet
                case rel => exact ⟨Ls, [], Lib.hid ⟨O8.out, HPP.out, hl, Nat.zero_le _, B8.out⟩⟩
              · have hbk' : bg k = false := HBB.out.symm
                obtain ⟨Ls, Lk, ho, hp, hl1, hl2⟩ := par_go HC6.out.1 HB0.out hbk'
                have K := Lib.hid (show _ ∧ _ from ⟨ho, hp⟩)
                clear hbk' ho hp
                go_wp2_with fail
                go_meet
                case rel => exact ⟨Ls, Lk, Lib.hid ⟨K.out.1, K.out.2, hl1, hl2, HC6.out.2⟩⟩
            case rest =>
              obtain ⟨w9, rfl⟩ : ∃ w9 : World, w9 = wc := ⟨_, rfl⟩
              obtain ⟨Ls, Lk, hcut⟩ := hcut
              obtain ⟨⟨vals, u, M, h1, h2, h3, h4, h5, h6⟩, hp, hl1, hl2, hbw⟩ := hcut.out
              obtain ⟨ob, oc, rfl⟩ := owns_some h1 (by omega)
              have hob := h1.lt ob rfl
              have hcell : w9.cell? ⟨ob, Ls.length, none⟩ = some u := by
                rw [h1.cellAt Ls.length (by omega), ← h2.1]; simp
              have A1 := Lib.hid h1
              have A2 := Lib.hid h2
              have A3 := Lib.hid h3
              have A4 := Lib.hid h4
              have A5 := Lib.hid (And.intro h5 h6)
              have A6 := Lib.hid hp
              have A7 := Lib.hid hbw
              have A8 := Lib.hid hob
              clear h1 h2 h3 h4 h5 h6 hp hbw hcut HC6 hob
              go_wp2_with (at_builtin; refine wpList_append_own _ rfl _ _ 55 rfl M 3 ki0 (.int .i64 0) 1 8 Try.underlying55 ki kz0 kz1 kz2 rfl (by decide) _ _ _ rfl (A4.out.alloc _) ⟨w9.heap.size, 0, none⟩ 1 1 [.int .i64 (k : Int)] rfl rfl ?d1 ?d2 ?d3 ?d4 ?d5 ?_)
              case d1 => exact cell_one_new _ _ _
              case d2 => intro u hu; simp at hu; subst hu; rfl
              case d3 => unfold maxLen; omega
              case d4 => omega
              case d5 => have := A5.out.2; simp; omega
              intro v' w10 hown10 hgr10 _
              obtain ⟨nb2, nc, rfl⟩ := owns_some hown10 (by omega)
              have e := (A1.out.alloc (.cells #[.int .i64 (k : Int)] 3)).kept hgr10 (not_block (by decide) A4.out A1.out)
              have hcell10 : w10.cell? ⟨ob, Ls.length, none⟩ = some u := by rw [e.cellAt Ls.length (by omega), ← A2.out.1]; simp
              have hfz10 := e.frozenAt Ls.length
              have h6' : M ≤ (w9.alloc (.cells #[.int .i64 (k : Int)] 3)).heap.size := by have := A5.out.2; simp; omega
              have h7' : w.heap.size ≤ (w9.alloc (.cells #[.int .i64 (k : Int)] 3)).heap.size := Nat.le_trans A5.out.1 h6'
              have G := Lib.hid (Opened.grow (A1.out.alloc (.cells #[.int .i64 (k : Int)] 3)) (owned_below A2.out (new_below _ _)) A3.out (A4.out.alloc _) A5.out.1 h6' hown10 hgr10)
              have B10 := Lib.hid ((((below_alloc A7.out (.cells #[.int .i64 (k : Int)] 3)).grown hgr10 h7' (fun j hj => Nat.le_trans A5.out.1 (A4.out.lt j hj).1))).setCell (p := ⟨ob, Ls.length, none⟩) A8.out.1 (.slice (some ⟨nb2, 0, none⟩) (Lk.length + 1) nc))
              clear hown10 hgr10 e h6' h7' hcell
              go_wp2_with fail
              go_roundw
              case rel => exact ⟨k + 1, by omega, by go_num, Lib.hid ⟨.inr ⟨by omega, by rw [A6.out]; exact G.out⟩, B10.out⟩⟩
              case measure => simp [intOf]; omega
    · obtain rfl : k = n := by omega
      have hz : ParSt bg w.heap.size k u9 wo := HR.out.1
      rcases hz with ⟨h0, _⟩ | ⟨h0, h1⟩
      · omega
      have HC := Lib.hid h1.closed
      clear h1
      go_wp2_with fail
      go_ret2
      exact ⟨_, rfl, HC.out, HR.out.2⟩

end Go.Proofs.Ytmoplmjfnjgcaaa
namespace Go.Proofs.Ytmoplmjfnjgcaaa
open Go.RowKit
set_option linter.unusedSimpArgs false
set_option linter.unusedVariables false

set_option maxRecDepth 100000 in
theorem boxesErrR_nil (s : Option Addr) (c : Nat) (w : World) :
    Calls Try.prog 48 #[.slice s 0 c] w fun e w' => e = .returned (.int .i64 0) ∧ Below w.heap.size w w' := by
  go_enter Try.func48, Try.ntmps48
  go_wp2_with fail
  go_loopw [11] (fun i wr => i = .int .i64 0 ∧ Hid (Below w.heap.size w wr)) (fun i _ => 0)
  case atStart => exact ⟨rfl, Lib.hid (Below.refl _ _)⟩
  case round =>
    obtain ⟨rfl, HR⟩ := hrel
    go_wp2_with fail
    go_ret
    exact ⟨rfl, HR.out⟩

end Go.Proofs.Ytmoplmjfnjgcaaa
namespace Go.Proofs.Ytmoplmjfnjgcaaa
open Go.RowKit
set_option linter.unusedSimpArgs false
set_option linter.unusedVariables false

def WaysOK (dx dy : Int) : Prop := (0 ≤ dx ∧ dx ≤ 1048576) ∧ (0 ≤ dy ∧ dy ≤ 1048576)

set_option maxHeartbeats 1000000 in
set_option maxRecDepth 100000 in
theorem paragraphsR_bad (n g o c : Nat) (B : Nat → Bx) (dx dy : Int) (w : World) (hn : n ≤ 100000) (hB : BoxesAt w g o n B) (h : listErr B n ≠ 0) :
    Calls Try.prog 24 #[.slice (some ⟨g, o, none⟩) n c, .int .i64 dx, .int .i64 dy] w fun e w' => e = .returned (.tuple #[.slice none 0 0, .int .i64 (listErr B n)]) ∧ Below w.heap.size w w' := by
  have HE := Lib.hid (boxesErrR_any n g o c B w hn hB)
  obtain ⟨E, hE⟩ : ∃ E, E = listErr B n := ⟨_, rfl⟩
  rw [← hE] at h HE ⊢
  have t1 : (E != 0) = true := by simpa using h
  clear hE h hB
  go_enter Try.func24, Try.ntmps24
  go_wp2_with fail
  refine HE.out.mono ?_
  rintro e w2 ⟨rfl, hb2⟩
  have G := Lib.hid hb2
  clear hb2
  go_wp2_with fail
  go_ret2
  exact ⟨rfl, G.out⟩

set_option maxHeartbeats 1000000 in
set_option maxRecDepth 100000 in
theorem paragraphsR_far (n g o c : Nat) (B : Nat → Bx) (dx dy : Int) (w : World) (hn : n ≤ 100000) (hB : BoxesAt w g o n B) (h : listErr B n = 0) (hd : ¬ WaysOK dx dy) :
    Calls Try.prog 24 #[.slice (some ⟨g, o, none⟩) n c, .int .i64 dx, .int .i64 dy] w fun e w' => e = .returned (.tuple #[.slice none 0 0, .int .i64 3]) ∧ Below w.heap.size w w' := by
  have HE := Lib.hid (boxesErrR_any n g o c B w hn hB)
  rw [h] at HE
  clear hB h
  by_cases a1 : dx < 0
  · clear hd
    go_enter Try.func24, Try.ntmps24
    go_wp2_with fail
    refine HE.out.mono ?_
    rintro e w2 ⟨rfl, hb2⟩
    have G := Lib.hid hb2
    clear hb2
    go_wp2_with fail
    go_ret2
    exact ⟨rfl, G.out⟩
  · by_cases a2 : 1048576 < dx
    · clear hd
      go_enter Try.func24, Try.ntmps24
      go_wp2_with fail
      refine HE.out.mono ?_
      rintro e w2 ⟨rfl, hb2⟩
      have G := Lib.hid hb2
      clear hb2
      go_wp2_with fail
      go_ret2
      exact ⟨rfl, G.out⟩
    · by_cases a3 : dy < 0
      · clear hd
        go_enter Try.func24, Try.ntmps24
        go_wp2_with fail
        refine HE.out.mono ?_
        rintro e w2 ⟨rfl, hb2⟩
        have G := Lib.hid hb2
        clear hb2
        go_wp2_with fail
        go_ret2
        exact ⟨rfl, G.out⟩
      · have a4 : 1048576 < dy := by unfold WaysOK at hd; omega
        clear hd
        go_enter Try.func24, Try.ntmps24
        go_wp2_with fail
        refine HE.out.mono ?_
        rintro e w2 ⟨rfl, hb2⟩
        have G := Lib.hid hb2
        clear hb2
        go_wp2_with fail
        go_ret2
        exact ⟨rfl, G.out⟩

set_option maxHeartbeats 1000000 in
set_option maxRecDepth 100000 in
theorem paragraphsR_nil_far (s : Option Addr) (c : Nat) (dx dy : Int) (w : World) (hd : ¬ WaysOK dx dy) :
    Calls Try.prog 24 #[.slice s 0 c, .int .i64 dx, .int .i64 dy] w fun e w' => e = .returned (.tuple #[.slice none 0 0, .int .i64 3]) ∧ Below w.heap.size w w' := by
  have HE := Lib.hid (boxesErrR_nil s c w)
  by_cases a1 : dx < 0
  · clear hd
    go_enter Try.func24, Try.ntmps24
    go_wp2_with fail
    refine HE.out.mono ?_
    rintro e w2 ⟨rfl, hb2⟩
    have G := Lib.hid hb2
    clear hb2
    go_wp2_with fail
    go_ret2
    exact ⟨rfl, G.out⟩
  · by_cases a2 : 1048576 < dx
    · clear hd
      go_enter Try.func24, Try.ntmps24
      go_wp2_with fail
      refine HE.out.mono ?_
      rintro e w2 ⟨rfl, hb2⟩
      have G := Lib.hid hb2
      clear hb2
      go_wp2_with fail
      go_ret2
      exact ⟨rfl, G.out⟩
    · by_cases a3 : dy < 0
      · clear hd
        go_enter Try.func24, Try.ntmps24
        go_wp2_with fail
        refine HE.out.mono ?_
        rintro e w2 ⟨rfl, hb2⟩
        have G := Lib.hid hb2
        clear hb2
        go_wp2_with fail
        go_ret2
        exact ⟨rfl, G.out⟩
      · have a4 : 1048576 < dy := by unfold WaysOK at hd; omega
        clear hd
        go_enter Try.func24, Try.ntmps24
        go_wp2_with fail
        refine HE.out.mono ?_
        rintro e w2 ⟨rfl, hb2⟩
        have G := Lib.hid hb2
        clear hb2
        go_wp2_with fail
        go_ret2
        exact ⟨rfl, G.out⟩

set_option maxHeartbeats 1000000 in
set_option maxRecDepth 100000 in
theorem paragraphsR_nil (s : Option Addr) (c : Nat) (dx dy : Int) (w : World) (hd : WaysOK dx dy) :
    Calls Try.prog 24 #[.slice s 0 c, .int .i64 dx, .int .i64 dy] w fun e w' => e = .returned (.tuple #[.slice none 0 0, .int .i64 0]) ∧ Below w.heap.size w w' := by
  have HE := Lib.hid (boxesErrR_nil s c w)
  obtain ⟨⟨e1, e2⟩, e3, e4⟩ := hd
  go_enter Try.func24, Try.ntmps24
  go_wp2_with fail
  refine HE.out.mono ?_
  rintro e w2 ⟨rfl, hb2⟩
  have G := Lib.hid hb2
  clear hb2
  go_wp2_with fail
  go_loopw [9, 36] (fun v9 i wr => v9 = .slice none 0 0 ∧ i = .int .i64 0 ∧ Hid (Below w.heap.size w wr)) (fun _ _ _ => 0)
  case atStart => exact ⟨rfl, rfl, G⟩
  case round =>
    obtain ⟨rfl, rfl, HR⟩ := hrel
    go_wp2_with fail
    go_ret2
    exact ⟨rfl, HR.out⟩

set_option maxHeartbeats 1000000 in
set_option maxRecDepth 100000 in
theorem paragraphs_nil_far (s : Option Addr) (c : Nat) (dx dy : Int) (w : World) (hd : ¬ WaysOK dx dy) :
    Calls Try.prog 23 #[.slice s 0 c, .int .i64 dx, .int .i64 dy] w fun e w' => e = .returned (.tuple #[.slice none 0 0, .int .i64 3]) ∧ Below w.heap.size w w' := by
  obtain ⟨w1, hw1⟩ : ∃ w1, w1 = ((w.alloc (.cells #[.slice s 0 c] 51)).alloc (.cells #[.int .i64 dx] 3)).alloc (.cells #[.int .i64 dy] 3) := ⟨_, rfl⟩
  have B1 : Below w.heap.size w w1 := by rw [hw1]; exact below_alloc (below_alloc (new_below _ _) _) _
  have H1 := Lib.hid B1
  have q0 : w1.cell? ⟨w.heap.size, 0, none⟩ = some (.slice s 0 c) := by rw [hw1]; go_simp
  have Q0 := Lib.hid q0
  have Q1 := Lib.hid (show w1.cell? ⟨w.heap.size + 1, 0, none⟩ = some (.int .i64 dx) by rw [hw1]; go_simp)
  have Q2 := Lib.hid (show w1.cell? ⟨w.heap.size + 1 + 1, 0, none⟩ = some (.int .i64 dy) by rw [hw1]; go_simp)
  have HP := Lib.hid (hullP_nil s c w1)
  clear B1
  by_cases h1 : 0 ≤ dx ∧ dx ≤ 1048576
  · have D1 := Lib.hid h1
    have D2 := Lib.hid (show ¬ (0 ≤ dy ∧ dy ≤ 1048576) from fun k => hd ⟨h1, k⟩)
    clear hd h1
    go_enter Try.func23, Try.ntmps23
    go_upto_region 1 with (fail)
    rw [← hw1]
    clear hw1
    go_wp2_with fail
    refine HP.out.mono ?_
    rintro e w2 ⟨rfl, hb2⟩
    go_upto_region 2 with (fail)
    obtain ⟨w3, hw3⟩ : ∃ w3, w3 = w2.alloc (.cells #[.int .i64 0, .int .i64 0, .int .i64 0, .int .i64 0] 92) := ⟨_, rfl⟩
    have hb3 : Below w1.heap.size w1 w3 := by rw [hw3]; exact below_alloc hb2 _
    have G := Lib.hid (below_step H1.out hb3)
    have k0 := cell_later hb3 Q0.out
    have k1 := cell_later hb3 Q1.out
    have k2 := cell_later hb3 Q2.out
    rw [← hw3]
    clear hb2 hb3 hw3 q0
    go_wp2_with (first | (go_at_call 29; (with_reducible refine (outside_no dx 0 1048576 _ D1.out).mono ?_); rintro e w' ⟨rfl, rfl⟩) | (go_at_call 29; (with_reducible refine (outside_yes dy 0 1048576 _ D2.out).mono ?_); rintro e w' ⟨rfl, rfl⟩))
    go_ret2
    exact ⟨rfl, G.out⟩
  · have D1 := Lib.hid h1
    clear hd h1
    go_enter Try.func23, Try.ntmps23
    go_upto_region 1 with (fail)
    rw [← hw1]
    clear hw1
    go_wp2_with fail
    refine HP.out.mono ?_
    rintro e w2 ⟨rfl, hb2⟩
    go_upto_region 2 with (fail)
    obtain ⟨w3, hw3⟩ : ∃ w3, w3 = w2.alloc (.cells #[.int .i64 0, .int .i64 0, .int .i64 0, .int .i64 0] 92) := ⟨_, rfl⟩
    have hb3 : Below w1.heap.size w1 w3 := by rw [hw3]; exact below_alloc hb2 _
    have G := Lib.hid (below_step H1.out hb3)
    have k0 := cell_later hb3 Q0.out
    have k1 := cell_later hb3 Q1.out
    have k2 := cell_later hb3 Q2.out
    rw [← hw3]
    clear hb2 hb3 hw3 q0
    go_wp2_with (first | (go_at_call 29; (with_reducible refine (outside_yes dx 0 1048576 _ D1.out).mono ?_); rintro e w' ⟨rfl, rfl⟩))
    go_ret2
    exact ⟨rfl, G.out⟩

set_option maxHeartbeats 1000000 in
set_option maxRecDepth 100000 in
theorem paragraphs_nil (s : Option Addr) (c : Nat) (dx dy : Int) (w : World) (hd : WaysOK dx dy) :
    Calls Try.prog 23 #[.slice s 0 c, .int .i64 dx, .int .i64 dy] w fun e w' => e = .returned (.tuple #[.slice none 0 0, .int .i64 0]) ∧ Below w.heap.size w w' := by
  have hmf : ∀ (fn : Fn) (first cap : Array Value) (w : World), (Instr.makeFunc fn first cap).run Try.prog w = .ok (.func fn first cap) w := fun _ _ _ _ => rfl
  have D1 := Lib.hid hd.1
  have D2 := Lib.hid hd.2
  clear hd
  obtain ⟨w1, hw1⟩ : ∃ w1, w1 = ((w.alloc (.cells #[.slice s 0 c] 51)).alloc (.cells #[.int .i64 dx] 3)).alloc (.cells #[.int .i64 dy] 3) := ⟨_, rfl⟩
  have B1 : Below w.heap.size w w1 := by rw [hw1]; exact below_alloc (below_alloc (new_below _ _) _) _
  have H1 := Lib.hid B1
  have q0 : w1.cell? ⟨w.heap.size, 0, none⟩ = some (.slice s 0 c) := by rw [hw1]; go_simp
  have Q0 := Lib.hid q0
  have Q1 := Lib.hid (show w1.cell? ⟨w.heap.size + 1, 0, none⟩ = some (.int .i64 dx) by rw [hw1]; go_simp)
  have Q2 := Lib.hid (show w1.cell? ⟨w.heap.size + 1 + 1, 0, none⟩ = some (.int .i64 dy) by rw [hw1]; go_simp)
  have HP := Lib.hid (hullP_nil s c w1)
  clear B1
  go_enter Try.func23, Try.ntmps23
  go_upto_region 1 with (fail)
  rw [← hw1]
  clear hw1
  go_wp2_with fail
  refine HP.out.mono ?_
  rintro e w2 ⟨rfl, hb2⟩
  go_upto_region 2 with (fail)
  obtain ⟨w3, hw3⟩ : ∃ w3, w3 = w2.alloc (.cells #[.int .i64 0, .int .i64 0, .int .i64 0, .int .i64 0] 92) := ⟨_, rfl⟩
  have hb3 : Below w1.heap.size w1 w3 := by rw [hw3]; exact below_alloc hb2 _
  have G := Lib.hid (below_step H1.out hb3)
  have k0 := cell_later hb3 Q0.out
  have k1 := cell_later hb3 Q1.out
  have k2 := cell_later hb3 Q2.out
  rw [← hw3]
  clear hb2 hb3 hw3 q0
  go_wp2_with (first | (go_at_call 29; (with_reducible refine (outside_no dx 0 1048576 _ D1.out).mono ?_); rintro e w' ⟨rfl, rfl⟩) | (go_at_call 29; (with_reducible refine (outside_no dy 0 1048576 _ D2.out).mono ?_); rintro e w' ⟨rfl, rfl⟩))
  clear k0 k1 k2
  go_loopw [11, 35] (fun v11 i wr => v11 = .slice none 0 0 ∧ i = .int .i64 0 ∧ Hid (Below w.heap.size w wr)) (fun _ _ _ => 0)
  case atStart => exact ⟨rfl, rfl, G⟩
  case round =>
    obtain ⟨rfl, rfl, HR⟩ := hrel
    go_wp2_with fail
    go_ret2
    exact ⟨rfl, HR.out⟩

end Go.Proofs.Ytmoplmjfnjgcaaa
namespace Go.Proofs.Ytmoplmjfnjgcaaa
open Go.RowKit
set_option linter.unusedSimpArgs false
set_option linter.unusedVariables false

def sumL (Ls : List (List Nat)) : Nat → Nat
  | 0 => 0
  | i + 1 => sumL Ls i + (Ls.getD i []).length
theorem sumL_le (Ls : List (List Nat)) (i j : Nat) (h : i ≤ j) : sumL Ls i ≤ sumL Ls j := by
  induction j with
  | zero => rw [show i = 0 by omega]; exact Nat.le_refl _
  | succ j ih =>
    by_cases e : i = j + 1
    · rw [e]; exact Nat.le_refl _
    · have := ih (by omega)
      simp only [sumL]; omega
theorem sumL_cons (L : List Nat) (Ls : List (List Nat)) (i : Nat) : sumL (L :: Ls) (i + 1) = L.length + sumL Ls i := by
  induction i with
  | zero => simp [sumL]
  | succ i ih => rw [sumL, ih, sumL]; simp; omega
theorem sumL_all (Ls : List (List Nat)) : sumL Ls Ls.length = (Ls.map List.length).sum := by
  induction Ls with
  | nil => rfl
  | cons L Ls ih => rw [List.length_cons, sumL_cons, ih]; simp
theorem parasOf_ok (bg : Nat → Bool) (n : Nat) (h0 : bg 0 = true) (hn : 1 ≤ n) (hn2 : n ≤ 60) :
    (ParasOf bg n).length ≤ n ∧ 1 ≤ (ParasOf bg n).length ∧ sumL (ParasOf bg n) (ParasOf bg n).length = n ∧ (∀ L, L ∈ ParasOf bg n → 0 < L.length ∧ L.length ≤ n) := by
  obtain ⟨h1, h2, h3, h4⟩ := parP_count bg n h0
  obtain ⟨h5, h6⟩ := h3 (by omega)
  refine ⟨by unfold ParasOf; simp; omega, by unfold ParasOf; simp, by rw [sumL_all]; unfold ParasOf; simp; omega, fun L hL => ?_⟩
  unfold ParasOf at hL
  rcases List.mem_append.1 hL with hL | hL
  · exact h4 L hL
  · have : L = (parP bg n).2 := by simpa using hL
    subst this
    omega

set_option maxHeartbeats 4000000 in
set_option maxRecDepth 100000 in
theorem paras_some (n g o c : Nat) (B : Nat → Bx) (dx dy : Int) (w : World) (hn1 : 1 ≤ n) (hn : n ≤ 9223372036854775807) (hc : n ≤ c) (hB : BoxesAt w g o n B) :
    Calls Try.prog 5 #[.slice (some ⟨g, o, none⟩) n c, .int .i64 dx, .int .i64 dy] w fun e w' => e = .returned (.bool true) ∧ Below w.heap.size w w' := by
  obtain ⟨m, hm⟩ : ∃ m, m = min n 60 := ⟨_, rfl⟩
  have hm1 : 1 ≤ m ∧ m ≤ 60 ∧ m ≤ n := by omega
  have hmin : min (n : Int) 60 = (m : Int) := by omega
  have HM := Lib.hid hm1
  have hmc : m ≤ c := by omega
  have HB := Lib.hid (show ∀ wx, Below w.heap.size w wx → BoxesAt wx g o m B from fun wx hx i hi => hB.later hx i (by omega))
  clear hB hm hm1
  go_enter Try.func5, Try.ntmps5
  go_upto_region 4 with ((go_at_call 6; refine (landed_any _).mono ?_; rintro e w' ⟨rfl, rfl⟩))
  clear hmin hn hmc hc hn1
  obtain ⟨hm1, hm2, hm3⟩ := HM.out
  by_cases h0 : listErr B m = 0
  · have HE0 := Lib.hid h0
    have HOK := Lib.hid (show ∀ i, i < m → (B i).OK from errs_ok (by unfold listErr at h0; rw [if_neg (by omega)] at h0; exact h0))
    clear h0
    by_cases hd : WaysOK dx dy
    · have K1 := Lib.hid (paragraphs_ok m g o c B dx dy w hm1 hm2 (HB.out w (Below.refl _ _)) HOK.out HE0.out hd.1 hd.2)
      have K2 := Lib.hid (fun wx hx => paragraphsR_ok m g o c B dx dy wx hm1 hm2 (HB.out wx hx) HOK.out HE0.out hd.1 hd.2)
      have hbg := parasOf_ok (bgB B (hullX B m).1 dx dy) m (bgB_zero _ _ _ _) hm1 hm2
      generalize ParasOf (bgB B (hullX B m).1 dx dy) m = Ls at K1 K2 hbg
      obtain ⟨l1, l2, l3, l4⟩ := hbg
      have L3 := Lib.hid l3
      have L4 := Lib.hid l4
      clear hd l3 l4
      go_wp2_with fail
      refine K1.out.mono ?_
      rintro e w5 ⟨v5, rfl, hc5, hb5⟩
      have HC5 := Lib.hid hc5
      have B5 := Lib.hid hb5
      clear hc5 hb5
      go_wp2_with fail
      refine (K2.out w5 B5.out).mono ?_
      rintro e w8 ⟨v8, rfl, hc8, hb8⟩
      have B8 := Lib.hid (below_step B5.out hb8)
      obtain ⟨vals5, o5, p5⟩ := HC5.out.later hb8
      obtain ⟨vals8, o8, p8⟩ := hc8
      obtain ⟨g5, c5, rfl⟩ := owns_some o5 (by omega)
      obtain ⟨g8, c8, rfl⟩ := owns_some o8 (by omega)
      have O5 := Lib.hid o5
      have O8 := Lib.hid o8
      have P5 := Lib.hid (p5.lists (fun L hL => (L4.out L hL).1))
      have P8 := Lib.hid (p8.lists (fun L hL => (L4.out L hL).1))
      have HEQ := eqGroups_some g5 g8 c5 c8 w.heap.size w5.heap.size (Ls.map intsL) vals5 vals8 w8 (by rw [List.length_map]; omega) (fun i => by
        by_cases hi : i < Ls.length
        · have h := (L4.out (Ls.getD i []) (by simp [List.getD, hi])).2
          have e1 : (Ls.map intsL).getD i [] = intsL (Ls.getD i []) := by simp [List.getD, hi]
          rw [e1]; simp only [intsL, List.length_map]; omega
        · simp [List.getD, hi]) (by rw [List.length_map]; exact O5.out) P5.out (by rw [List.length_map]; exact O8.out) P8.out
      rw [List.length_map] at HEQ
      have EQ := Lib.hid HEQ
      clear hb8 o5 o8 p5 p8 HEQ HC5 K1 K2
      go_wp2_with fail
      go_loopw [11, 37] (fun s i wr => ∃ k : Nat, k ≤ Ls.length ∧ s = .int .i64 (sumL Ls k : Nat) ∧ i = .int .i64 k ∧ wr = w8) (fun _ i _ => Ls.length - (intOf i).toNat)
      case atStart => exact ⟨0, Nat.zero_le _, rfl, rfl, rfl⟩
      case round =>
        obtain ⟨k, hk, rfl, rfl, rfl⟩ := hrel
        by_cases hlt : k < Ls.length
        · have i1 : (k : Int) < (Ls.length : Int) := by omega
          obtain ⟨b1, d1, q1, _, _, _⟩ := P5.out.2 k (by rw [List.length_map]; exact hlt)
          have e1 : (Ls.map intsL).getD k [] = intsL (Ls.getD k []) := by simp [List.getD, hlt]
          rw [e1] at q1
          have e2 : (intsL (Ls.getD k [])).length = (Ls.getD k []).length := by simp [intsL]
          rw [e2] at q1
          have r1 : wr.cell? ⟨g5, k, none⟩ = some (.slice (some ⟨b1, 0, none⟩) (Ls.getD k []).length d1) := by
            rw [O5.out.cellAt k (by omega)]
            have : k < vals5.length := by have := P5.out.1; rw [List.length_map] at this; omega
            rw [← q1]
            simp [List.getD, this]
          have hs1 := sumL_le Ls (k + 1) Ls.length (by omega)
          rw [L3.out] at hs1
          have hs2 : sumL Ls (k + 1) = sumL Ls k + (Ls.getD k []).length := rfl
          have hw : IntKind.i64.wrap ((sumL Ls k : Nat) + ((Ls.getD k []).length : Nat) : Int) = ((sumL Ls (k + 1) : Nat) : Int) := by rw [show ((sumL Ls k : Nat) + ((Ls.getD k []).length : Nat) : Int) = ((sumL Ls (k + 1) : Nat) : Int) by omega]; exact IntWalk.i64_in _ (by omega)
          generalize sumL Ls k = sk at *
          generalize (Ls.getD k []).length = lk at *
          obtain ⟨sn, hsn⟩ : ∃ sn, sn = sumL Ls (k + 1) := ⟨_, rfl⟩
          rw [← hsn] at hw hs1 hs2
          have HSN := Lib.hid hsn
          clear q1 e1 e2 hsn hs2
          go_wp2_with fail
          go_roundw
          case rel => exact ⟨k + 1, by omega, by rw [← HSN.out], by go_num, trivial⟩
          case measure => simp [intOf]; omega
        · obtain rfl : k = Ls.length := by omega
          rw [L3.out]
          go_wp2_with fail
          refine EQ.out.mono ?_
          rintro e w9 ⟨rfl, q9, rfl⟩
          go_wp2_with fail
          go_ret
          exact ⟨rfl, below_drewN B8.out q9⟩
    · have K1 := Lib.hid (paragraphs_far m g o c B dx dy w hm1 (by omega) (HB.out w (Below.refl _ _)) HOK.out HE0.out hd)
      have K2 := Lib.hid (fun wx hx => paragraphsR_far m g o c B dx dy wx (by omega) (HB.out wx hx) HE0.out hd)
      clear hd
      go_wp2_with fail
      refine K1.out.mono ?_
      rintro e w5 ⟨rfl, hb5⟩
      have B5 := Lib.hid hb5
      clear hb5
      go_wp2_with fail
      refine (K2.out w5 B5.out).mono ?_
      rintro e w8 ⟨rfl, hb8⟩
      have B8 := Lib.hid (below_step B5.out hb8)
      clear hb8 K1 K2
      go_wp2_with fail
      go_loopw [11, 37] (fun s i wr => s = .int .i64 0 ∧ i = .int .i64 0 ∧ wr = w8) (fun _ _ _ => 0)
      case atStart => exact ⟨rfl, rfl, rfl⟩
      case round =>
        obtain ⟨rfl, rfl, rfl⟩ := hrel
        go_wp2_with fail
        refine (eqGroups_zero _ _ _ _ _ _).mono ?_
        rintro e w9 ⟨rfl, rfl⟩
        go_wp2_with fail
        go_ret
        exact ⟨rfl, B8.out⟩
  · have K1 := Lib.hid (paragraphs_bad m g o c B dx dy w (by omega) (HB.out w (Below.refl _ _)) h0)
    have K2 := Lib.hid (fun wx hx => paragraphsR_bad m g o c B dx dy wx (by omega) (HB.out wx hx) h0)
    obtain ⟨E, hE⟩ : ∃ E, E = listErr B m := ⟨_, rfl⟩
    rw [← hE] at h0 K1 K2
    have t1 : (E != 0) = true := by simpa using h0
    have t2 : (E == E) = true := by simp
    clear hE h0
    go_wp2_with fail
    refine K1.out.mono ?_
    rintro e w5 ⟨rfl, hb5⟩
    have B5 := Lib.hid hb5
    clear hb5
    go_wp2_with fail
    refine (K2.out w5 B5.out).mono ?_
    rintro e w8 ⟨rfl, hb8⟩
    have B8 := Lib.hid (below_step B5.out hb8)
    clear hb8 K1 K2
    go_wp2_with fail
    go_loopw [11, 37] (fun s i wr => s = .int .i64 0 ∧ i = .int .i64 0 ∧ wr = w8) (fun _ _ _ => 0)
    case atStart => exact ⟨rfl, rfl, rfl⟩
    case round =>
      obtain ⟨rfl, rfl, rfl⟩ := hrel
      go_wp2_with fail
      refine (eqGroups_zero _ _ _ _ _ _).mono ?_
      rintro e w9 ⟨rfl, rfl⟩
      go_wp2_with fail
      go_ret
      exact ⟨rfl, B8.out⟩

set_option maxHeartbeats 2000000 in
set_option maxRecDepth 100000 in
theorem paras_zero (s : Option Addr) (c : Nat) (dx dy : Int) (w : World) (hs : s = none → c = 0) :
    Calls Try.prog 5 #[.slice s 0 c, .int .i64 dx, .int .i64 dy] w fun e w' => e = .returned (.bool true) ∧ Below w.heap.size w w' := by
  go_enter Try.func5, Try.ntmps5
  go_upto_region 3 with ((go_at_call 6; refine (landed_any _).mono ?_; rintro e w' ⟨rfl, rfl⟩))
  go_cut [0] from 16 to 20 (fun t0 wx => t0 = .slice s 0 c ∧ w = wx)
  case first =>
    rcases s with _ | x
    · obtain rfl := hs rfl
      go_wp2_with fail
      go_meet
      case rel => exact ⟨rfl, rfl⟩
    · go_wp2_with fail
      go_meet
      case rel => exact ⟨rfl, rfl⟩
  case rest =>
    obtain ⟨rfl, rfl⟩ := hcut
    clear hs
    by_cases hd : WaysOK dx dy
    · have K1 := Lib.hid (paragraphs_nil s c dx dy w hd)
      have K2 := Lib.hid (fun wx (hx : Below w.heap.size w wx) => paragraphsR_nil s c dx dy wx hd)
      clear hd
      go_wp2_with fail
      refine K1.out.mono ?_
      rintro e w5 ⟨rfl, hb5⟩
      have B5 := Lib.hid hb5
      clear hb5
      go_wp2_with fail
      refine (K2.out w5 B5.out).mono ?_
      rintro e w8 ⟨rfl, hb8⟩
      have B8 := Lib.hid (below_step B5.out hb8)
      clear hb8 K1 K2
      go_wp2_with fail
      go_loopw [11, 37] (fun s i wr => s = .int .i64 0 ∧ i = .int .i64 0 ∧ wr = w8) (fun _ _ _ => 0)
      case atStart => exact ⟨rfl, rfl, rfl⟩
      case round =>
        obtain ⟨rfl, rfl, rfl⟩ := hrel
        go_wp2_with fail
        refine (eqGroups_zero _ _ _ _ _ _).mono ?_
        rintro e w9 ⟨rfl, rfl⟩
        go_wp2_with fail
        go_ret
        exact ⟨rfl, B8.out⟩
    · have K1 := Lib.hid (paragraphs_nil_far s c dx dy w hd)
      have K2 := Lib.hid (fun wx (hx : Below w.heap.size w wx) => paragraphsR_nil_far s c dx dy wx hd)
      clear hd
      go_wp2_with fail
      refine K1.out.mono ?_
      rintro e w5 ⟨rfl, hb5⟩
      have B5 := Lib.hid hb5
      clear hb5
      go_wp2_with fail
      refine (K2.out w5 B5.out).mono ?_
      rintro e w8 ⟨rfl, hb8⟩
      have B8 := Lib.hid (below_step B5.out hb8)
      clear hb8 K1 K2
      go_wp2_with fail
      go_loopw [11, 37] (fun s i wr => s = .int .i64 0 ∧ i = .int .i64 0 ∧ wr = w8) (fun _ _ _ => 0)
      case atStart => exact ⟨rfl, rfl, rfl⟩
      case round =>
        obtain ⟨rfl, rfl, rfl⟩ := hrel
        go_wp2_with fail
        refine (eqGroups_zero _ _ _ _ _ _).mono ?_
        rintro e w9 ⟨rfl, rfl⟩
        go_wp2_with fail
        go_ret
        exact ⟨rfl, B8.out⟩

theorem paras_any (s : Option Addr) (n c : Nat) (B : Nat → Bx) (dx dy : Int) (w : World) (hs : IsBoxes w s n c B) (hn : n ≤ 9223372036854775807) :
    Calls Try.prog 5 #[.slice s n c, .int .i64 dx, .int .i64 dy] w fun e w' => e = .returned (.bool true) ∧ Below w.heap.size w w' := by
  rcases hs with ⟨rfl, h⟩ | ⟨g, o, rfl, hc, hB⟩
  · exact paras_zero s c dx dy w h
  · rcases Nat.eq_zero_or_pos n with h | h
    · subst h; exact paras_zero _ c dx dy w (fun e => by cases e)
    · exact paras_some n g o c B dx dy w h hn hc hB

end Go.Proofs.Ytmoplmjfnjgcaaa
namespace Go.Proofs.Ytmoplmjfnjgcaaa
open Go.ChangeShapes Go.WideShapes Go.ChangeAt Go.RowKit Go.Joins
open Go.ChangeMaps (open_string shut_string)
set_option linter.unusedVariables false

set_option maxRecDepth 100000 in
theorem paras_lifted (os : Os) (started : os.Started) (H : Type) (enc : TypeId × Value → H) :
    ReturnsInHanded {} Try.checked os 5 .any (Rows.paragraphsMatchSpec.pre6 enc Try.prog Try.f5 Rows.paragraphsMatchRow.domain false) (Rows.paragraphsMatchSpec.post enc Try.prog Try.f5 false true false false) := by
  refine returnsInHanded_of_change (C := Try.checked) own started (by kernel_rfl) Try.func5
    (ChangeSpec.witness6 (enc := enc) (C := Try.checked) false ⟨#[], #[.slice none 0 0, .int .i64 0, .int .i64 0], []⟩ 8 (by kernel_rfl) (by kernel_rfl) (by kernel_rfl) (by kernel_rfl)) ?_
  intro W base args ds gs before hval0 hW hcnd _
  have hval : ∀ (j : Nat) t v, Try.f5.params[j]? = some t → args[j]? = some v → Value.okWide Try.prog W .any base t v := hval0
  have hW' := hW
  obtain ⟨p, q, hA0, hV, rfl, hfz, hnd⟩ := hW
  have hA : DataW.TrodAll enc Try.prog W 0 (fun _ => true) true Try.f5.params.toList args.toList ds p := hA0
  rw [Try.params5] at hA hval
  obtain ⟨v0, vs0, d0, ds0, p0, q0, hargs, rfl, rfl, h0, r0⟩ := trodAll_cons hA
  obtain ⟨v1, vs1, d1, ds1, p1, q1, rfl, rfl, rfl, h1, r1⟩ := trodAll_cons r0
  obtain ⟨v2, vs2, d2, ds2, p2, q2, rfl, rfl, rfl, h2, r2⟩ := trodAll_cons r1
  obtain ⟨rfl, rfl, rfl⟩ := trodAll_nil r2
  obtain rfl : args = #[v0, v1, v2] := by cases args; simp_all
  obtain ⟨rfl, rfl⟩ := trodVars_none hV
  have k0 := h0
  have lt0 : ∀ x ∈ p0, x.block < W.heap.size := by obtain ⟨m, hm⟩ := k0; exact DataW.trod_lt m _ _ _ hm
  obtain ⟨s0, n0, c0, z0, rfl, hs0, hn0⟩ := open_boxesN (hval 0 51 v0 rfl rfl) h0
  obtain ⟨m1, rfl, rfl, rfl, w1⟩ := open_int Try.underlying3 (hval 1 3 v1 rfl rfl) h1
  obtain ⟨m2, rfl, rfl, rfl, w2⟩ := open_int Try.underlying3 (hval 2 3 v2 rfl rfl) h2
  clear hA0 hval0
  refine (paras_any s0 n0 c0 z0 m1 m2 W hs0 hn0).mono fun e W' ⟨he, bel⟩ => ?_
  subst he
  exact ⟨_, rfl, _, _, _, [], _, [], hW', trodAll_mk1 (shut_bool Try.underlying4 _), (trodAll_cons_mk (Below.trod laidOut (by kernel_rfl) (of_decide_eq_true (by kernel_rfl)) k0 bel lt0) (trodAll_cons_mk (shut_int Try.underlying3 w1) (trodAll_cons_mk (shut_int Try.underlying3 w2) trodAll_mk0))), rfl, bel.frame _, fun h => by cases h⟩

theorem paras_over : Rows.paragraphsMatchRow.holds Try.pinned (OpenSpec.ofChange Rows.paragraphsMatchSpec) :=
  OpenClaim.holds_of_wide 5 Try.f5 rfl rfl rfl rfl rfl rfl rfl ⟨rfl, rfl, rfl, rfl, rfl⟩ rfl rfl rfl rfl rfl (by kernel_rfl) Try.func5 (by kernel_rfl)
    (of_decide_eq_true (by kernel_rfl)) (by unfold Func.isWrapper; first | (rw [if_pos (by decide +kernel)]; kernel_rfl) | (rw [if_neg (by decide +kernel)]; exact ⟨rfl, rfl⟩))
    (fun os started H enc _ => paras_lifted os started H enc)

theorem paras_holds : Rows.ParagraphsMatchSaid := paras_over
end Go.Proofs.Ytmoplmjfnjgcaaa
