/-
  The tied card of VotesMatch: for every list of codes the law returns true, and the list reads afterwards as it read before. Condition: the listed package variables start as the program's text lays them (the card ties them to that text).
-/
import Derived.Test.YtmloidgeolgpdaaDoorRows
import Derived.WalkKit
import Derived.WalkSpells
import Derived.WalkLawsBesides
import Derived.Lib.Hide
import Derived.Deep.RegionHeld3
import Derived.Shelf.Abstract
import Derived.ProofKit
import Derived.OpenShut
import Derived.ShutString
import Derived.ChangeOld
import Derived.Lib.SmallJoins
import Derived.Deep.Grids
import Derived.Maps.OwnOps
import Derived.Maps.OwnSet
import Derived.DeepKeys4
import Derived.Deep.OwnRows
import Derived.Deep.CutBlock
import Derived.Lib.MinMax
import Derived.Deep.QuietTactic
import Derived.BigQuiet
import Derived.Deep.CutRange
import Derived.Deep.DeepCutAuto
import Derived.Laws.EntriesVeiled
import Derived.StillTailTactics
import Derived.Lib.Bytealg
import Derived.Lib.Small
import Derived.Sort.Grow
import Derived.Shelf.Strings.SlTrimAscii
import Derived.Shelf.Small.Strs
import Derived.Shelf.Small.Wraps
import Derived.Shelf.SlicesQ.Equal
import Derived.Ground.SlgqProg
import Derived.Shelf.SlicesQ.IndexFunc
import Derived.Ground.SlgfProg
import Derived.Test.YtmloidgeolgpdaaDoorProg
import Derived.Shelf.SlSortCmp.NoneTotal
import Derived.Ground.SlsfProg
import Derived.BigRegion
import Derived.Laws.StructEq
import Derived.Deep.Slices
import Derived.Test.YtmloidgeolgpdaaDoorTie
import Derived.Test.YtmloidgeolgpdaaDoorCards
import Derived.Handy
import Derived.Lay
import Derived.SevenTiedAt
import Derived.Deep.DeepHandedRow
import Derived.Lib.LaidTab
import Derived.Test.YtmloidgeolgpdaaDoorCVotes2
namespace Go.Proofs.YtmloidgeolgpdaaDoor
open Go.RowKit Go.Maps
set_option linter.unusedSimpArgs false
set_option linter.unusedVariables false

structure RoR (w : World) (B : Nat → Cd) (k : Nat) (v : Value) (wr : World) : Prop where
  r : CdRow wr w.heap.size (allC B k) v
  b : Below w.heap.size w wr
theorem RoR.later {w : World} {B : Nat → Cd} {k : Nat} {v : Value} {wr w' : World} (h : RoR w B k v wr) (hb : Below wr.heap.size wr w') : RoR w B k v w' := ⟨h.r.later hb, h.b.trans (hb.mono h.b.size)⟩
theorem RoR.put {w : World} {B : Nat → Cd} {k : Nat} {v v' : Value} {w4 w5 : World} {o : Obj} (h : RoR w B k v w4) (hp : ¬ plc (allC B k) (B k).k (B k).t < (allC B k).length)
    (hown : w5.ownsRow w.heap.size 40 6 v' ((allC B k).length + 1) (flatC (allC B k) ++ cdV (B k))) (hg : (w4.alloc o).grownBy w5 v.ownBlock) : RoR w B (k + 1) v' w5 := by
  have e : allC B (k + 1) = allC B k ++ [B k] := by rw [allC, putC, if_neg hp]
  refine ⟨?_, ((below_alloc h.b o)).grown hg (by have := h.b.size; simp; omega) (fun j hj => (h.r.lt j hj).1)⟩
  rw [e]; unfold CdRow; rw [List.length_append, List.length_singleton, ← flatC_snoc]; exact hown
theorem RoR.join {w : World} {B : Nat → Cd} {k g c : Nat} {wr : World} (h : RoR w B k (.slice (some ⟨g, 0, none⟩) (allC B k).length c) wr) (hp : plc (allC B k) (B k).k (B k).t < (allC B k).length) (J : Cd) (hJ : J = joinC ((allC B k).getD (plc (allC B k) (B k).k (B k).t) default) (B k)) :
    RoR w B (k + 1) (.slice (some ⟨g, 0, none⟩) (allC B k).length c) (set4 wr g (plc (allC B k) (B k).k (B k).t * 6) J.x J.y J.c J.w) := by
  have e : allC B (k + 1) = (allC B k).set (plc (allC B k) (B k).k (B k).t) ⟨((allC B k).getD (plc (allC B k) (B k).k (B k).t) default).k, ((allC B k).getD (plc (allC B k) (B k).k (B k).t) default).t, J.x, J.y, J.w, J.c⟩ := by
    rw [allC, putC, if_pos hp, hJ]; rfl
  have hl := (h.r.lt g rfl)
  refine ⟨?_, set4_below h.b hl.1⟩
  have := h.r.set4 (plc (allC B k) (B k).k (B k).t) hp J.x J.y J.c J.w
  rw [e]
  exact this

set_option maxHeartbeats 2000000 in
set_option maxRecDepth 100000 in
theorem voteOf_loop (n g o c : Nat) (B : Nat → Cd) (w : World) (hn1 : 1 ≤ n) (hB : CodesAt w g o n B) (hZ : ∀ i, i < n → (B i).t.size ≤ 9223372036854775807) (hE : voErr B n = 0) :
    Calls Tryd.prog 18 #[.slice (some ⟨g, o, none⟩) n c] w fun e w' => ∃ v, e = .returned v ∧ SortedRow w' (allC B n) v ∧ Below w.heap.size w w' := by
  obtain ⟨i0, hi, hz0, hz1, hz2⟩ := info_parts info_code
  have h0 : cdFirst B n = 0 := by
    unfold voErr at hE
    split at hE
    · assumption
    · exact hE
  have h5 : n ≤ 10000 := by
    unfold voErr at hE
    rw [if_pos h0] at hE
    split at hE
    · cases hE
    · omega
  have HO := Lib.hid (show ∀ k, k ≤ n → CNo B k from fun k hk i hi => ⟨(cdFirst_no h0 i (by omega)).1, (cdFirst_no h0 i (by omega)).2, hZ i (by omega)⟩)
  have HB := Lib.hid (fun wx (hx : Below w.heap.size w wx) => hB.later hx)
  have S0 := Lib.hid (show RoR w B 0 (.slice none 0 0) w from ⟨CdRow.nil _ _, Below.refl _ _⟩)
  clear hB hZ hE h0
  go_enter Tryd.func18, Tryd.ntmps18
  go_wp2_with fail
  go_loopw [3, 11] (fun v i wr => ∃ k : Nat, k ≤ n ∧ i = .int .i64 k ∧ Hid (RoR w B k v wr)) (fun _ i _ => n - (intOf i).toNat)
  case atStart => exact ⟨0, Nat.zero_le _, rfl, S0⟩
  case round =>
    obtain ⟨k, hk, rfl, HR⟩ := hrel
    clear S0
    obtain ⟨wo, rfl⟩ : ∃ wo : World, wo = wr := ⟨_, rfl⟩
    by_cases hlt : k < n
    · have j1 : (k : Int) < (n : Int) := by omega
      obtain ⟨c0, c1, c2, c3, c4, c5⟩ := HB.out wo HR.out.b k hlt
      obtain ⟨o1, o2, o3⟩ := HO.out n (Nat.le_refl _) k hlt
      have hgood := allC_good (HO.out k hk)
      obtain ⟨x, hx⟩ : ∃ x, x = B k := ⟨_, rfl⟩
      rw [← hx] at c0 c1 c2 c3 c4 c5 o1 o2 o3
      have HX := Lib.hid hx
      obtain ⟨kk, t, xx, y, wd, q⟩ := x
      simp only at c0 c1 c2 c3 c4 c5 o1 o3
      clear hx
      go_upto_region 5 with (fail)
      obtain ⟨w3, hw3⟩ : ∃ w3, w3 = wo.alloc (.cells #[.int .i64 kk, .string t, .int .i64 xx, .int .i64 y, .int .i64 wd, .int .i64 q] 40) := ⟨_, rfl⟩
      have hb3 : Below wo.heap.size wo w3 := by rw [hw3]; exact new_below _ _
      have S3 := Lib.hid (HR.out.later hb3)
      have d0 : w3.cell? ⟨wo.heap.size, 0, none⟩ = some (.int .i64 kk) := by rw [hw3]; go_simp
      have d1 : w3.cell? ⟨wo.heap.size, 1, none⟩ = some (.string t) := by rw [hw3]; go_simp
      have d2 : w3.cell? ⟨wo.heap.size, 2, none⟩ = some (.int .i64 xx) := by rw [hw3]; go_simp
      have d3 : w3.cell? ⟨wo.heap.size, 3, none⟩ = some (.int .i64 y) := by rw [hw3]; go_simp
      have d4 : w3.cell? ⟨wo.heap.size, 4, none⟩ = some (.int .i64 wd) := by rw [hw3]; go_simp
      have d5 : w3.cell? ⟨wo.heap.size, 5, none⟩ = some (.int .i64 q) := by rw [hw3]; go_simp
      obtain ⟨wb, hwb⟩ : ∃ wb, wb = wo.heap.size := ⟨_, rfl⟩
      have HGB := Lib.hid (fun j hj => Nat.ne_of_lt ((HR.out.r.lt j hj).2))
      rw [← hw3, ← hwb]
      rw [← hwb] at d0 d1 d2 d3 d4 d5 HGB
      clear hw3 hwb hb3 HR c0 c1 c2 c3 c4 c5
      have HI := Lib.hid (index_any (allC B k) kk t wb w.heap.size _ w3 (by have := hgood.len; omega) S3.out.r d0 d1)
      by_cases hp : plc (allC B k) kk t < (allC B k).length
      · rw [show plI (allC B k) kk t = ((plc (allC B k) kk t : Nat) : Int) by unfold plI; rw [if_pos hp]] at HI
        obtain ⟨gr, cr, rfl, hgr1, hgr2, hgr3⟩ := S3.out.r.isSome (by omega)
        have hgb : gr ≠ wb := HGB.out gr rfl
        obtain ⟨J, hJ⟩ : ∃ J, J = joinC ((allC B k).getD (plc (allC B k) kk t) default) ⟨kk, t, xx, y, wd, q⟩ := ⟨_, rfl⟩
        have hfit := joinC_fit (b := ⟨kk, t, xx, y, wd, q⟩) (hgood.fit _ hp) o1 o2
        have hfit0 := hgood.fit _ hp
        rw [← hJ] at hfit
        have JX := Lib.hid (show ∀ wx, Below w3.heap.size w3 wx → RoR w B (k + 1) (.slice (some ⟨gr, 0, none⟩) (allC B k).length cr) (set4 wx gr (plc (allC B k) kk t * 6) J.x J.y J.c J.w) from fun wx hx => by
          have := (S3.out.later hx).join (by rw [← HX.out]; exact hp) J (by rw [← HX.out]; exact hJ)
          rw [← HX.out] at this
          exact this)
        have RR0 := Lib.hid (fun wx (hx : Below w3.heap.size w3 wx) => (S3.out.later hx).r.at _ hp)
        have RBL := Lib.hid (fun wx (hx : Below w3.heap.size w3 wx) => (S3.out.later hx).r.block)
        have jp : ((plc (allC B k) kk t : Nat) : Int) < (((allC B k).length : Nat) : Int) := by omega
        clear S3 hgood hp hgr1 hgr2 hgr3 HX HGB
        generalize (allC B k).getD (plc (allC B k) kk t) default = A at *
        generalize plc (allC B k) kk t = p at *
        obtain ⟨nT, hnT⟩ : ∃ nT, nT = (allC B k).length := ⟨_, rfl⟩
        rw [← hnT] at jp ⊢
        rw [← hnT] at JX HI
        clear hnT
        go_wp2_with fail
        refine HI.out.mono ?_
        rintro e w4 ⟨rfl, hb4⟩
        obtain ⟨r0, r1, r2, r3, r4, r5⟩ := RR0.out w4 hb4
        obtain ⟨cur, hcur⟩ := RBL.out w4 hb4
        have f2 := frozen_of_row w4 gr (p * 6 + 2) _ 40 hcur
        have f3 := frozen_of_row w4 gr (p * 6 + 3) _ 40 hcur
        have f4 := frozen_of_row w4 gr (p * 6 + 4) _ 40 hcur
        have f5 := frozen_of_row w4 gr (p * 6 + 5) _ 40 hcur
        have e2 := cell_later hb4 d2
        have e3 := cell_later hb4 d3
        have e4 := cell_later hb4 d4
        have e5 := cell_later hb4 d5
        obtain ⟨ak, at1, ax, ay, aw, ac⟩ := A
        simp only at r0 r1 r2 r3 r4 r5
        obtain ⟨jk, jt, jx, jy, jw, jc⟩ := J
        unfold joinC at hJ
        simp only [Cd.mk.injEq] at hJ
        obtain ⟨-, -, hJx, hJy, hJw, hJc⟩ := hJ
        obtain ⟨-, g1, g2, g3, g4, -⟩ := hfit
        obtain ⟨-, u1, u2, u3, u4, -⟩ := hfit0
        obtain ⟨v1, v2, v3, v4⟩ := o2
        simp only at g1 g2 g3 g4 u1 u2 u3 u4 v1 v2 v3 v4
        have n1 : IntKind.i64.wrap (ax + aw) = ax + aw := IntWalk.i64_in _ (by omega)
        have n2 : IntKind.i64.wrap (xx + wd) = xx + wd := IntWalk.i64_in _ (by omega)
        have n3 : IntKind.i64.wrap (ac + q) = ac + q := IntWalk.i64_in _ (by omega)
        obtain ⟨rr, hrr⟩ : ∃ rr, rr = max (ax + aw) (xx + wd) := ⟨_, rfl⟩
        rw [← hrr] at hJw
        rw [← hJx] at hJw
        have n4 : IntKind.i64.wrap (rr - jx) = rr - jx := IntWalk.i64_in _ (by omega)
        have HH := Lib.hid (And.intro hJx (And.intro hJy (And.intro hJw (And.intro hJc hrr))))
        have B4 := Lib.hid hb4
        clear hJx hJy hJw hJc hrr g1 g2 g3 g4 u1 u2 u3 u4 v1 v2 v3 v4 hb4 hcur d0 d1 d2 d3 d4 d5 HI RR0 RBL r0 r1 o1 o3
        go_upto_region 9 with (fail)
        go_quiet (fail)
        rw [← HH.out.2.2.2.2]
        obtain ⟨w5, hw5⟩ : ∃ w5, w5 = w4.drewN nq := ⟨_, rfl⟩
        have B5 := Lib.hid (show Below w3.heap.size w3 w5 by rw [hw5]; exact below_drewN B4.out nq)
        have r2' : w5.cell? ⟨gr, p * 6 + 2, none⟩ = some (.int .i64 ax) := by rw [hw5]; exact r2
        have r3' : w5.cell? ⟨gr, p * 6 + 3, none⟩ = some (.int .i64 ay) := by rw [hw5]; exact r3
        have r4' : w5.cell? ⟨gr, p * 6 + 4, none⟩ = some (.int .i64 aw) := by rw [hw5]; exact r4
        have r5' : w5.cell? ⟨gr, p * 6 + 5, none⟩ = some (.int .i64 ac) := by rw [hw5]; exact r5
        have e2' : w5.cell? ⟨wb, 2, none⟩ = some (.int .i64 xx) := by rw [hw5]; exact e2
        have e3' : w5.cell? ⟨wb, 3, none⟩ = some (.int .i64 y) := by rw [hw5]; exact e3
        have e5' : w5.cell? ⟨wb, 5, none⟩ = some (.int .i64 q) := by rw [hw5]; exact e5
        have f2' : w5.frozen? ⟨gr, p * 6 + 2, none⟩ = false := by rw [hw5]; exact f2
        have f3' : w5.frozen? ⟨gr, p * 6 + 3, none⟩ = false := by rw [hw5]; exact f3
        have f4' : w5.frozen? ⟨gr, p * 6 + 4, none⟩ = false := by rw [hw5]; exact f4
        have f5' : w5.frozen? ⟨gr, p * 6 + 5, none⟩ = false := by rw [hw5]; exact f5
        rw [← hw5]
        clear hw5 r2 r3 r4 r5 e2 e3 e4 e5 f2 f3 f4 f5
        go_wp2_with fail
        go_upto_region 10 with (fail)
        go_cut [] from 42 to 71 (fun wx => Hid (wx = (((w5.setCell ⟨gr, p * 6 + 2, none⟩ (.int .i64 jx)).setCell ⟨gr, p * 6 + 3, none⟩ (.int .i64 jy)).setCell ⟨gr, p * 6 + 5, none⟩ (.int .i64 jc)).drew))
        case first =>
          clear JX B5 HO HB hi hz0 hz1 hz2 B4
          go_region
          rw [← HH.out.1, ← HH.out.2.1, ← HH.out.2.2.2.1]
          go_wp2_with fail
          go_meet
          case rel => exact Lib.hid rfl
        case rest =>
          have RR := Lib.hid (show RoR w B (k + 1) (.slice (some ⟨gr, 0, none⟩) nT cr) (wc.setCell ⟨gr, p * 6 + 4, none⟩ (.int .i64 (rr - jx))) by
            have := JX.out w5 B5.out
            rw [HH.out.2.2.1] at this
            rw [hcut.out]
            exact this)
          have s2 : wc.cell? ⟨gr, p * 6 + 2, none⟩ = some (.int .i64 jx) := by rw [hcut.out]; go_simp
          have s4 : wc.cell? ⟨gr, p * 6 + 4, none⟩ = some (.int .i64 aw) := by rw [hcut.out]; go_simp
          have t4 : wc.frozen? ⟨gr, p * 6 + 4, none⟩ = false := by rw [hcut.out]; go_simp
          clear hcut r2' r3' r4' r5' e2' e3' e5' f2' f3' f4' f5' JX
          go_wp2_with fail
          go_roundw
          case rel => exact ⟨k + 1, by omega, by go_num, RR⟩
          case measure => simp [intOf]; omega
      · rw [show plI (allC B k) kk t = -1 by unfold plI; rw [if_neg hp]] at HI
        obtain ⟨va, vc, rfl⟩ := S3.out.r.shape
        have hTl : (allC B k).length ≤ 10000 := by have := hgood.len; omega
        have PP := Lib.hid (show ∀ (v' : Value) (w4 w5 : World) (o : Obj), Below w3.heap.size w3 w4 → w5.ownsRow w.heap.size 40 6 v' ((allC B k).length + 1) (flatC (allC B k) ++ cdV ⟨kk, t, xx, y, wd, q⟩) → (w4.alloc o).grownBy w5 (Value.slice va (allC B k).length vc).ownBlock → RoR w B (k + 1) v' w5 from fun v' w4 w5 o hb ho hg => by
          rw [HX.out] at ho
          exact (S3.out.later hb).put (by rw [← HX.out]; exact hp) ho hg)
        have RW := Lib.hid (fun w4 (hb : Below w3.heap.size w3 w4) => (S3.out.later hb).r)
        have BW := Lib.hid (fun w4 (hb : Below w3.heap.size w3 w4) => (S3.out.later hb).b.size)
        have TL := Lib.hid hTl
        clear S3 hgood o1 o2 o3 HX hTl hp HGB
        go_wp2_with fail
        refine HI.out.mono ?_
        rintro e w4 ⟨rfl, hb4⟩
        have e0 := cell_later hb4 d0
        have e1 := cell_later hb4 d1
        have e2 := cell_later hb4 d2
        have e3 := cell_later hb4 d3
        have e4 := cell_later hb4 d4
        have e5 := cell_later hb4 d5
        have R4 := Lib.hid (RW.out w4 hb4)
        have N4 := Lib.hid (BW.out w4 hb4)
        have B4 := Lib.hid hb4
        clear hb4 d0 d1 d2 d3 d4 d5 RW BW HI
        go_wp2_with (at_builtin; refine wpList_append_own _ rfl _ _ 34 rfl w.heap.size 40 i0 (.agg #[.int .i64 0, .string ⟨#[]⟩, .int .i64 0, .int .i64 0, .int .i64 0, .int .i64 0]) 6 56 Tryd.underlying34 hi hz0 hz1 hz2 rfl (by decide) _ _ _ rfl (World.ownsRow.alloc R4.out _) ⟨w4.heap.size, 0, none⟩ 1 1 (cdV ⟨kk, t, xx, y, wd, q⟩) rfl rfl (code_new _ _ _) ?q2 ?q3 ?q4 ?q5 ?_)
        case q2 => intro u hu; simp [cdV] at hu; rcases hu with rfl | rfl | rfl | rfl | rfl | rfl <;> rfl
        case q3 => have := TL.out; unfold maxLen; simp <;> omega
        case q4 => have := TL.out; simp <;> omega
        case q5 => have := N4.out; simp; omega
        intro v' w5 hown hgr _
        have RR := Lib.hid (PP.out v' w4 w5 _ B4.out hown hgr)
        clear hown hgr PP e0 e1 e2 e3 e4 e5
        go_wp2_with fail
        go_roundw
        case rel => exact ⟨k + 1, by omega, by go_num, RR⟩
        case measure => simp [intOf]; omega
    · obtain rfl : k = n := by omega
      obtain ⟨m, hm⟩ : ∃ m, (allC B k).length = m + 1 := by
        obtain ⟨k', rfl⟩ : ∃ k', k = k' + 1 := ⟨k - 1, by omega⟩
        exact ⟨(allC B (k' + 1)).length - 1, by have := allC_pos B k'; omega⟩
      obtain ⟨gr, cr, rfl, hgr1, hgr2, hgr3⟩ := HR.out.r.isSome (by omega)
      have hgood := allC_good (HO.out k hk)
      have HS := Lib.hid (sortR_any m k gr cr w.heap.size (allC B k) wo hm h5 hgood HR.out.r HR.out.b.size)
      have HM := Lib.hid hm
      have HRB := Lib.hid HR.out.b
      clear hgr1 hgr2 hgr3 hgood HR hm
      go_wp2_with fail
      refine HS.out.mono ?_
      rintro e w6 ⟨rfl, r1, r2⟩
      have R1 := Lib.hid r1
      have R2 := Lib.hid (HRB.out.trans r2)
      clear r1 r2
      go_wp2_with fail
      go_ret
      exact ⟨_, rfl, .inr ⟨m, gr, cr, HM.out, rfl, R1.out⟩, R2.out⟩

end Go.Proofs.YtmloidgeolgpdaaDoor
namespace Go.Proofs.YtmloidgeolgpdaaDoor
open Go.RowKit
set_option linter.unusedSimpArgs false
set_option linter.unusedVariables false

theorem cdEq_zero (a b : Option Addr) (c d : Nat) (w : World) :
    Calls Tryd.prog 17 #[.slice a 0 c, .slice b 0 d] w fun e w' => e = .returned (.bool true) ∧ ∃ q, w' = w.drewN q := by
  go_enter Tryd.func17, Tryd.ntmps17
  go_wp2_with fail
  go_loop [13] (fun i => i = .int .i64 0) (fun _ => 0)
  case atStart => rfl
  case round =>
    subst hrel
    go_wp2_with fail
    go_ret
    exact ⟨rfl, 0, rfl⟩

set_option maxHeartbeats 1000000 in
set_option maxRecDepth 100000 in
theorem cdEq_some (n g1 g2 c1 c2 : Nat) (B : Nat → Cd) (w : World) (hn : n ≤ 10000) (h1 : CodesAt w g1 0 n B) (h2 : CodesAt w g2 0 n B) :
    Calls Tryd.prog 17 #[.slice (some ⟨g1, 0, none⟩) n c1, .slice (some ⟨g2, 0, none⟩) n c2] w fun e w' => e = .returned (.bool true) ∧ ∃ q, w' = w.drewN q := by
  have H1 := Lib.hid h1
  have H2 := Lib.hid h2
  clear h1 h2
  go_enter Tryd.func17, Tryd.ntmps17
  go_wp2_with fail
  go_loopw [13] (fun i wr => ∃ k q : Nat, k ≤ n ∧ i = .int .i64 k ∧ wr = w.drewN q) (fun i _ => n - (intOf i).toNat)
  case atStart => exact ⟨0, 0, Nat.zero_le _, rfl, rfl⟩
  case round =>
    obtain ⟨k, q, hk, rfl, rfl⟩ := hrel
    by_cases hlt : k < n
    · obtain ⟨a0, a1, a2, a3, a4, a5⟩ := H1.out k hlt
      obtain ⟨b0, b1, b2, b3, b4, b5⟩ := H2.out k hlt
      rw [Nat.zero_add] at a0 a1 a2 a3 a4 a5 b0 b1 b2 b3 b4 b5
      have i1 : (k : Int) < (n : Int) := by omega
      generalize B k = x at *
      obtain ⟨kk, t, xx, y, wd, cc⟩ := x
      simp only at a0 a1 a2 a3 a4 a5 b0 b1 b2 b3 b4 b5
      go_wp2_with fail
      go_quiet (fail)
      go_wp2_with fail
      go_roundw
      case rel => exact ⟨k + 1, _, by omega, by go_num, rfl⟩
      case measure => simp [intOf]; omega
    · obtain rfl : k = n := by omega
      go_wp2_with fail
      go_ret
      exact ⟨rfl, q, rfl⟩

end Go.Proofs.YtmloidgeolgpdaaDoor
namespace Go.Proofs.YtmloidgeolgpdaaDoor
open Go.ChangeShapes Go.WideShapes Go.ChangeAt Go.RowKit Go.Joins
open Go.ChangeMaps (open_string shut_string)
set_option linter.unusedVariables false

theorem cellsCode : Tryd.prog.cellsOf 40 = 6 := by kernel_rfl

theorem trod_six {H : Type} {enc : TypeId × Value → H} {P : Program} {w : World} {base : Nat} {spare : Nat → Bool} {held : Bool} {t : TypeId} {f0 f1 f2 f3 f4 f5 : Field} {fuel : Nat} {cs : List Value} {x : DataW H × List MemPlace} (ht : P.underlying t = some (.struct #[f0, f1, f2, f3, f4, f5])) (h : DataW.trod enc P w base spare held fuel t cs = some x) :
    ∃ y0 y1 y2 y3 y4 y5 n, DataW.trod enc P w base spare held n f0.type ((cs.drop f0.offset).take (P.cellsOf f0.type)) = some y0 ∧
      DataW.trod enc P w base spare held n f1.type ((cs.drop f1.offset).take (P.cellsOf f1.type)) = some y1 ∧ DataW.trod enc P w base spare held n f2.type ((cs.drop f2.offset).take (P.cellsOf f2.type)) = some y2 ∧
      DataW.trod enc P w base spare held n f3.type ((cs.drop f3.offset).take (P.cellsOf f3.type)) = some y3 ∧ DataW.trod enc P w base spare held n f4.type ((cs.drop f4.offset).take (P.cellsOf f4.type)) = some y4 ∧
      DataW.trod enc P w base spare held n f5.type ((cs.drop f5.offset).take (P.cellsOf f5.type)) = some y5 := by
  obtain ⟨xs, n, _, rfl, hl, hlen, hf⟩ := DataW.trod_struct ht h
  match xs, hlen with
  | [y0, y1, y2, y3, y4, y5], _ => exact ⟨y0, y1, y2, y3, y4, y5, n, by simpa using hf 0 f0 rfl, by simpa using hf 1 f1 rfl, by simpa using hf 2 f2 rfl, by simpa using hf 3 f3 rfl, by simpa using hf 4 f4 rfl, by simpa using hf 5 f5 rfl⟩
theorem list6 {α : Type} {cs : List α} (h : cs.length = 6) : ∃ c0 c1 c2 c3 c4 c5, cs = [c0, c1, c2, c3, c4, c5] := by
  match cs, h with
  | [c0, c1, c2, c3, c4, c5], _ => exact ⟨c0, c1, c2, c3, c4, c5, rfl⟩

set_option maxRecDepth 100000 in
/-- Six cells that read as a code. -/
theorem code_cells {H : Type} {enc : TypeId × Value → H} {w : World} {base fuel : Nat} {spare : Nat → Bool} {held : Bool} {cs : List Value} {y : DataW H × List MemPlace}
    (h : DataW.trod enc Tryd.prog w base spare held fuel 40 cs = some y) (hl : cs.length = 6) : ∃ b : Cd, cs = cdV b ∧ b.t.size ≤ maxLen := by
  obtain ⟨y0, y1, y2, y3, y4, y5, n, h0, h1, h2, h3, h4, h5⟩ := trod_six Tryd.underlying40 h
  obtain ⟨c0, c1, c2, c3, c4, c5, rfl⟩ := list6 hl
  have ci : Tryd.prog.cellsOf 9 = 1 := by kernel_rfl
  have cj : Tryd.prog.cellsOf 3 = 1 := by kernel_rfl
  simp only [ci, cj, List.drop_zero, List.drop_succ_cons, List.take_succ_cons, List.take_zero] at h0 h1 h2 h3 h4 h5
  obtain ⟨a0, e0, _, _⟩ := DataW.trod_int Tryd.underlying3 h0
  obtain ⟨a1, e1, _, z1⟩ := DataW.trod_string Tryd.underlying9 h1
  obtain ⟨a2, e2, _, _⟩ := DataW.trod_int Tryd.underlying3 h2
  obtain ⟨a3, e3, _, _⟩ := DataW.trod_int Tryd.underlying3 h3
  obtain ⟨a4, e4, _, _⟩ := DataW.trod_int Tryd.underlying3 h4
  obtain ⟨a5, e5, _, _⟩ := DataW.trod_int Tryd.underlying3 h5
  simp at e0 e1 e2 e3 e4 e5
  exact ⟨⟨a0, a1, a2, a3, a4, a5⟩, by rw [e0, e1, e2, e3, e4, e5]; rfl, z1⟩

/-- A slice of codes: without any, or cell by cell. -/
def IsCodes (w : World) (s : Option Addr) (n c : Nat) (B : Nat → Cd) : Prop := (n = 0 ∧ (s = none → c = 0)) ∨ ∃ g o, s = some ⟨g, o, none⟩ ∧ n ≤ c ∧ CodesAt w g o n B

set_option maxRecDepth 100000 in
theorem open_codesN {W : World} {H : Type} {enc : TypeId × Value → H} {base : Nat} {held : Bool} {r : Reach} {b0 : Nat} {v : Value} {d : DataW H} {p : List MemPlace}
    (hv : Value.okWide Tryd.prog W r b0 34 v) (h : DataW.Trod enc Tryd.prog W base (fun _ => true) held 34 v d p) :
    ∃ s n c B, v = .slice s n c ∧ IsCodes W s n c B ∧ n ≤ 9223372036854775807 ∧ ∀ i, i < n → (B i).t.size ≤ 9223372036854775807 := by
  obtain ⟨a1, len, cap, rfl⟩ := okWide_slice Tryd.underlying34 hv
  obtain ⟨fuel, hf⟩ := h
  rcases Go.Deep.open_slice Tryd.underlying34 hf with ⟨hcs, _⟩ | ⟨x, l, c, m, k, D, Pl, hcs, _, hl, hm, hmm, _, hcell⟩
  · simp [Value.cells] at hcs
    obtain ⟨rfl, rfl, rfl⟩ := hcs
    exact ⟨none, 0, 0, fun _ => default, rfl, .inl ⟨rfl, fun _ => rfl⟩, by decide, fun i hi => by omega⟩
  · simp [Value.cells] at hcs
    obtain ⟨rfl, rfl, rfl⟩ := hcs
    simp only [if_true] at hmm
    subst hmm
    obtain ⟨B, hB⟩ := Go.Deep.choose_lt (α := Cd) (p := fun i b => (∀ j u, (cdV b)[j]? = some u → W.cell? ((x.add (i * 6)).add j) = some u) ∧ b.t.size ≤ maxLen) (fun i hi => by
      obtain ⟨cs', hc, ht⟩ := hcell i hi
      rw [cellsCode] at hc
      obtain ⟨_, hlen, hat⟩ := World.cells?_some hc
      obtain ⟨b, rfl, hz⟩ := code_cells ht hlen
      exact ⟨b, fun j u hu => by
        have hj := (List.getElem?_eq_some_iff.1 hu).1
        exact (hat j (by omega)).trans hu, hz⟩)
    refine ⟨some x, _, _, B, rfl, ?_, by unfold maxLen at hm; omega, fun i hi => by have := (hB i (by omega)).2; unfold maxLen at this; exact this⟩
    by_cases h0 : len = 0
    · exact .inl ⟨h0, fun e => by cases e⟩
    · obtain ⟨g, o, spot⟩ := x
      have hspot : spot = none := by
        have := World.cell?_spot ((hB 0 (by omega)).1 0 _ rfl)
        simpa [Addr.add] using this
      subst hspot
      refine .inr ⟨g, o, rfl, hl, fun i hi => ?_⟩
      obtain ⟨h1, _⟩ := hB i (by omega)
      have f : ∀ j u, (cdV (B i))[j]? = some u → W.cell? ⟨g, o + i * 6 + j, none⟩ = some u := fun j u hu => by
        have := h1 j u hu
        rw [Addr.add_lit, Addr.add_lit] at this
        exact this
      exact ⟨f 0 _ rfl, f 1 _ rfl, f 2 _ rfl, f 3 _ rfl, f 4 _ rfl, f 5 _ rfl⟩

end Go.Proofs.YtmloidgeolgpdaaDoor
namespace Go.Proofs.YtmloidgeolgpdaaDoor
open Go.RowKit
set_option linter.unusedSimpArgs false
set_option linter.unusedVariables false

/-- The byte at a place, as a number. -/
def byteAt (s : ByteArray) (k : Nat) : Int := ((s.data.toList.getD k 0).toNat : Int)
theorem byteAt_get (s : ByteArray) (k : Nat) (h : k < s.size) : (s[k].toNat : Int) = byteAt s k := by
  unfold byteAt
  rw [List.getD_eq_getElem?_getD, List.getElem?_eq_getElem (by simpa using h)]
  rfl

end Go.Proofs.YtmloidgeolgpdaaDoor
namespace Go.Proofs.YtmloidgeolgpdaaDoor
open Go.RowKit
set_option linter.unusedSimpArgs false
set_option linter.unusedVariables false

def dig8 (b : UInt8) : Bool := decide (48 ≤ b.toNat ∧ b.toNat ≤ 57)
theorem digs_ok (b : UInt8) : ([48, 49, 50, 51, 52, 53, 54, 55, 56, 57] : List UInt8).contains b = dig8 b := by
  have : ∀ n : Fin 256, ([48, 49, 50, 51, 52, 53, 54, 55, 56, 57] : List UInt8).contains (UInt8.ofNat n.1) = dig8 (UInt8.ofNat n.1) := by decide +kernel
  have h := this ⟨b.toNat, b.toNat_lt⟩
  simpa using h
/-- So many bytes, all of them digits. -/
def digB (t : ByteArray) (n : Nat) : Bool := decide (t.size = n) && t.data.toList.all dig8

theorem dropWhile_nil8 (p : UInt8 → Bool) : ∀ l : List UInt8, l.dropWhile p = [] ↔ l.all p = true
  | [] => by simp
  | a :: l => by
    rw [List.dropWhile_cons]
    cases h : p a
    · simp [h]
    · simpa [h] using dropWhile_nil8 p l
theorem trimS_nil (l cs : List UInt8) (p : UInt8 → Bool) (h : ∀ b, cs.contains b = p b) : (Lib.trimS l cs).isEmpty = l.all p := by
  have e : (fun b => cs.contains b) = p := funext h
  unfold Lib.trimS Lib.trimLeftS Lib.trimRightS
  rw [e]
  cases hall : l.all p
  · have h1 : ¬ ((l.reverse.dropWhile p).reverse).all p = true := by
      intro h2
      rw [List.all_reverse] at h2
      cases hd : l.reverse.dropWhile p with
      | nil =>
        have := (dropWhile_nil8 p _).1 hd
        rw [List.all_reverse, hall] at this; cases this
      | cons a r =>
        have h3 := List.head?_dropWhile_not p l.reverse
        rw [hd] at h3 h2
        simp at h3 h2
        rw [h2.1] at h3; cases h3
    cases h2 : ((l.reverse.dropWhile p).reverse).dropWhile p with
    | nil => exact absurd ((dropWhile_nil8 p _).1 h2) h1
    | cons a r => rfl
  · have h1 : l.reverse.dropWhile p = [] := (dropWhile_nil8 p _).2 (by rw [List.all_reverse]; exact hall)
    rw [h1]; rfl

theorem trim_digs (s : ByteArray) (w : World) (hs : s.size ≤ 9223372036854775807) :
    Calls Tryd.prog 21 #[.string s, .string ⟨#[48, 49, 50, 51, 52, 53, 54, 55, 56, 57]⟩] w fun e w' => (∃ t : ByteArray, e = .returned (.string t) ∧ t.toList.isEmpty = s.data.toList.all dig8) ∧ Below w.heap.size w w' := by
  refine (Any.strings_Trim_laid Tryd.lays160 (by kernel_rfl) s ⟨#[48, 49, 50, 51, 52, 53, 54, 55, 56, 57]⟩ w hs (by decide) (ascii_of_all (by decide))).mono ?_
  rintro e w' ⟨rfl, hb⟩
  exact ⟨⟨_, rfl, by rw [Lib.toList_data]; exact trimS_nil _ _ _ digs_ok⟩, hb⟩

theorem areDigits_any (t : ByteArray) (n : Nat) (w : World) (hs : t.size ≤ 9223372036854775807) (hn : n ≤ 100) :
    Calls Tryd.prog 19 #[.string t, .int .i64 n] w fun e w' => e = .returned (.bool (digB t n)) ∧ Below w.heap.size w w' := by
  have HT := Lib.hid (fun w => trim_digs t w hs)
  by_cases h : t.size = n
  · have h1 : ((t.size : Int) == (n : Int)) = true := by simp [h]
    have HD := Lib.hid (show digB t n = t.data.toList.all dig8 by unfold digB; rw [decide_eq_true h]; rfl)
    go_enter Tryd.func19, Tryd.ntmps19
    go_wp2_with fail
    refine (HT.out _).mono ?_
    rintro e w1 ⟨⟨r, rfl, hr⟩, hb⟩
    rw [← HD.out] at hr
    have HB := Lib.hid hb
    clear hb
    go_wp2_with fail
    go_ret
    exact ⟨rfl, HB.out⟩
  · have h1 : ((t.size : Int) == (n : Int)) = false := by simp; omega
    have HD := Lib.hid (show digB t n = false by unfold digB; rw [decide_eq_false h]; rfl)
    go_enter Tryd.func19, Tryd.ntmps19
    go_wp2_with fail
    go_ret
    exact ⟨ret_bool HD.out.symm, Below.refl _ _⟩

/-- What the digits up to k come to, each second one three times. -/
def chkS (t : ByteArray) : Nat → Int
  | 0 => 0
  | k + 1 => chkS t k + (1 + (k % 2 * 2 : Nat)) * (byteAt t k - 48)
theorem digB_at {t : ByteArray} {n : Nat} (h : digB t n = true) (k : Nat) (hk : k < n) : 48 ≤ byteAt t k ∧ byteAt t k ≤ 57 := by
  unfold digB at h
  simp only [Bool.and_eq_true, decide_eq_true_eq, List.all_eq_true] at h
  have hl : k < t.data.toList.length := by
    have : t.data.toList.length = t.size := by rw [Array.length_toList]; rfl
    omega
  have := h.2 _ (List.getElem_mem hl)
  unfold dig8 at this
  rw [decide_eq_true_eq] at this
  unfold byteAt
  rw [List.getD_eq_getElem?_getD, List.getElem?_eq_getElem hl, Option.getD_some]
  omega
theorem chkS_le {t : ByteArray} {n : Nat} (hd : ∀ k, k < n → 48 ≤ byteAt t k ∧ byteAt t k ≤ 57) : ∀ k, k ≤ n → 0 ≤ chkS t k ∧ chkS t k ≤ 27 * k
  | 0, _ => by simp [chkS]
  | k + 1, hk => by
    have ih := chkS_le hd k (by omega)
    obtain ⟨a, b⟩ := hd k (by omega)
    have h2 : k % 2 = 0 ∨ k % 2 = 1 := by omega
    rw [chkS]
    rcases h2 with h | h <;> rw [h] <;> simp <;> omega

set_option maxHeartbeats 800000 in
theorem checkDigit_any (t : ByteArray) (w : World) (hn : t.size ≤ 100) (hd : ∀ k, k < t.size → 48 ≤ byteAt t k ∧ byteAt t k ≤ 57) :
    Calls Tryd.prog 20 #[.string t] w fun e w' => e = .returned (.int .i64 ((10 - chkS t t.size % 10) % 10)) ∧ w = w' := by
  have HC := Lib.hid (chkS_le hd)
  have HD := Lib.hid hd
  clear hd
  go_enter Tryd.func20, Tryd.ntmps20
  go_wp2_with fail
  go_loop [3, 8] (fun s i => ∃ k : Nat, k ≤ t.size ∧ i = .int .i64 k ∧ s = .int .i64 (chkS t k)) (fun _ i => t.size - (intOf i).toNat)
  case atStart => exact ⟨0, Nat.zero_le _, rfl, rfl⟩
  case round =>
    obtain ⟨k, hk, rfl, rfl⟩ := hrel
    by_cases hlt : k < t.size
    · have i1 : (k : Int) < (t.size : Int) := by omega
      have BK := Lib.hid (byteAt_get t k hlt)
      obtain ⟨d1, d2⟩ := HD.out k hlt
      obtain ⟨c1, c2⟩ := HC.out k hk
      have HS := Lib.hid (show chkS t (k + 1) = chkS t k + (1 + (k % 2 * 2 : Nat)) * (byteAt t k - 48) from rfl)
      obtain ⟨b, hb⟩ : ∃ b : Int, b = (t[k].toNat : Int) := ⟨_, rfl⟩
      rw [← BK.out, ← hb] at d1 d2 HS
      have hm : (k : Int).tmod 2 = ((k % 2 : Nat) : Int) := by rw [Int.tmod_eq_emod_of_nonneg (by omega)]; omega
      have h2 : k % 2 = 0 ∨ k % 2 = 1 := by omega
      generalize chkS t k = s at *
      obtain ⟨s', hs'⟩ : ∃ s', s' = chkS t (k + 1) := ⟨_, rfl⟩
      rw [← hs'] at HS
      have HSN := Lib.hid hs'
      clear hs'
      have wb : IntKind.u8.wrap (b - 48) = b - 48 := IntWalk.u8_in _ (by omega)
      have wc : IntKind.i64.wrap (b - 48) = b - 48 := IntWalk.i64_in _ (by omega)
      rcases h2 with h2 | h2
      · rw [h2] at hm HS
        have HE := Lib.hid (show wrap64 (s + ((t[k].toNat : Int) - 48) % 256) = s' by
          rw [HS.out, ← hb, show (b - 48) % 256 = b - 48 by omega]; simp; unfold wrap64; omega)
        clear h2 c1 c2 d1 d2 wb wc
        go_wp2_with fail
        go_round
        case rel => exact ⟨k + 1, by omega, by go_num, by rw [HE.out, HSN.out]⟩
        case measure => simp [intOf]; omega
      · rw [h2] at hm HS
        have w3 : IntKind.i64.wrap (3 * (b - 48)) = 3 * (b - 48) := IntWalk.i64_in _ (by omega)
        have HE := Lib.hid (show wrap64 (s + 3 * (((t[k].toNat : Int) - 48) % 256)) = s' by
          rw [HS.out, ← hb, show (b - 48) % 256 = b - 48 by omega]; simp; unfold wrap64; omega)
        clear h2 c1 c2 d1 d2 wb wc
        go_wp2_with fail
        go_round
        case rel => exact ⟨k + 1, by omega, by go_num, by rw [HE.out, HSN.out]⟩
        case measure => simp [intOf]; omega
    · obtain rfl : k = t.size := by omega
      obtain ⟨c1, c2⟩ := HC.out _ hk
      obtain ⟨s, hs⟩ : ∃ s, s = chkS t t.size := ⟨_, rfl⟩
      rw [← hs] at c1 c2
      have HSN := Lib.hid hs
      rw [show (Value.int .i64 (chkS t t.size)) = .int .i64 s by rw [hs]]
      clear hs
      have m1 : s.tmod 10 = s % 10 := Int.tmod_eq_emod_of_nonneg c1
      have m2 : IntKind.i64.wrap (10 - s % 10) = 10 - s % 10 := IntWalk.i64_in _ (by omega)
      have m3 : (10 - s % 10).tmod 10 = (10 - s % 10) % 10 := Int.tmod_eq_emod_of_nonneg (by omega)
      have HQ := Lib.hid (show 0 ≤ s from c1)
      go_wp2_with fail
      go_ret
      exact ⟨ret_int (by rw [← HSN.out]), rfl⟩

theorem bars_true (w : World) : Calls Tryd.prog 8 #[] w fun e w' => e = .returned (.bool true) ∧ Below w.heap.size w w' := by
  have hd : digB ⟨#[52, 48, 48, 54, 51, 56, 49, 51, 51, 51, 57, 51]⟩ 12 = true := by decide
  have HC := Lib.hid (fun w => checkDigit_any ⟨#[52, 48, 48, 54, 51, 56, 49, 51, 51, 51, 57, 51]⟩ w (by decide) (fun k hk => digB_at hd k hk))
  have HA := Lib.hid (fun w => areDigits_any ⟨#[52, 48, 48, 54, 51, 56, 49, 51, 51, 51, 57, 51]⟩ 12 w (by decide) (by decide))
  rw [hd] at HA
  rw [show (10 - chkS ⟨#[52, 48, 48, 54, 51, 56, 49, 51, 51, 51, 57, 51]⟩ (ByteArray.mk #[52, 48, 48, 54, 51, 56, 49, 51, 51, 51, 57, 51]).size % 10) % 10 = 1 by decide] at HC
  clear hd
  have HD : Hid (∀ w, Calls Tryd.prog 5 #[.string ⟨#[52, 48, 48, 54, 51, 56, 49, 51, 51, 51, 57, 51]⟩] w fun e w' => e = .returned (.tuple #[.int .i64 1, .int .i64 0]) ∧ Below w.heap.size w w') := by
    refine Lib.hid (fun w => ?_)
    go_enter Tryd.func5, Tryd.ntmps5
    go_wp2_with fail
    refine (HA.out _).mono ?_
    rintro e w1 ⟨rfl, hb⟩
    have HB := Lib.hid hb
    clear hb
    go_wp2_with (first | (go_at_call 20; (with_reducible refine (HC.out _).mono ?_); rintro e w' ⟨rfl, rfl⟩))
    go_ret2
    exact ⟨rfl, HB.out⟩
  go_enter Tryd.func8, Tryd.ntmps8
  go_wp2_with fail
  refine (HD.out _).mono ?_
  rintro e w1 ⟨rfl, hb⟩
  have HB := Lib.hid hb
  clear hb
  go_wp2_with fail
  go_ret
  exact ⟨rfl, HB.out⟩

end Go.Proofs.YtmloidgeolgpdaaDoor
namespace Go.Proofs.YtmloidgeolgpdaaDoor
open Go.RowKit Go.Maps
set_option linter.unusedSimpArgs false
set_option linter.unusedVariables false

theorem vote_is (s : Option Addr) (n c : Nat) (B : Nat → Cd) (w : World) (hs : IsCodes w s n c B) (hn : n ≤ 9223372036854775807) (hZ : ∀ i, i < n → (B i).t.size ≤ 9223372036854775807) :
    Calls Tryd.prog 15 #[.slice s n c] w fun e w' => (voErr B n ≠ 0 ∧ e = .returned (.tuple #[.slice none 0 0, .int .i64 (voErr B n)]) ∧ Below w.heap.size w w') ∨ (voErr B n = 0 ∧ ∃ v, e = .returned (.tuple #[v, .int .i64 0]) ∧ SortedRow w' (allC B n) v ∧ Below w.heap.size w w') := by
  rcases hs with ⟨rfl, _⟩ | ⟨g, o, rfl, _, hB⟩
  · exact (vote_zero s c B w).mono fun e w' h => .inr ⟨rfl, h⟩
  · match n, hn, hB, hZ with
    | 0, _, _, _ => exact (vote_zero _ c B w).mono fun e w' h => .inr ⟨rfl, h⟩
    | n + 1, hn, hB, hZ => exact vote_loop (n + 1) g o c B w (by omega) hn hB hZ
theorem voteError_is (s : Option Addr) (n c : Nat) (B : Nat → Cd) (w wx : World) (hs : IsCodes w s n c B) (hn : n ≤ 9223372036854775807) (hb : Below w.heap.size w wx) :
    Calls Tryd.prog 16 #[.slice s n c] wx fun e w' => e = .returned (.int .i64 (voErr B n)) ∧ Below wx.heap.size wx w' := by
  rcases hs with ⟨rfl, _⟩ | ⟨g, o, rfl, _, hB⟩
  · exact voteError_zero s c wx
  · exact voteError_any n g o c B wx hn (hB.later hb)
theorem voteOf_zero (s : Option Addr) (c : Nat) (B : Nat → Cd) (w : World) :
    Calls Tryd.prog 18 #[.slice s 0 c] w fun e w' => ∃ v, e = .returned v ∧ SortedRow w' (allC B 0) v ∧ Below w.heap.size w w' := by
  go_enter Tryd.func18, Tryd.ntmps18
  go_wp2_with fail
  go_loopw [3, 11] (fun v i wr => i = .int .i64 0 ∧ v = .slice none 0 0 ∧ Hid (Below w.heap.size w wr)) (fun _ _ _ => 0)
  case atStart => exact ⟨rfl, rfl, Lib.hid (Below.refl _ _)⟩
  case round =>
    obtain ⟨rfl, rfl, HR⟩ := hrel
    have hcon := AnyF.slices_SortFunc_none Tryd.sortC none 0 (.func (.func 41) #[] #[]) wr
    go_wp2_with fail
    refine Calls.mono hcon ?_
    rintro e w3 ⟨rfl, rfl⟩
    go_wp2_with fail
    go_ret
    exact ⟨_, rfl, .inl ⟨rfl, rfl⟩, HR.out⟩
theorem voteOf_is (s : Option Addr) (n c : Nat) (B : Nat → Cd) (w wx : World) (hs : IsCodes w s n c B) (hZ : ∀ i, i < n → (B i).t.size ≤ 9223372036854775807) (hE : voErr B n = 0) (hb : Below w.heap.size w wx) :
    Calls Tryd.prog 18 #[.slice s n c] wx fun e w' => ∃ v, e = .returned v ∧ SortedRow w' (allC B n) v ∧ Below wx.heap.size wx w' := by
  rcases hs with ⟨rfl, _⟩ | ⟨g, o, rfl, _, hB⟩
  · exact voteOf_zero s c B wx
  · match n, hB, hZ, hE with
    | 0, _, _, _ => exact voteOf_zero _ c B wx
    | n + 1, hB, hZ, hE => exact voteOf_loop (n + 1) g o c B wx (by omega) (hB.later hb) hZ hE

theorem sorted_later {w w' : World} {T : List Cd} {v : Value} (h : SortedRow w T v) (hb : Below w.heap.size w w') : SortedRow w' T v := by
  rcases h with h | ⟨m, g, c, h1, h2, h3⟩
  · exact .inl h
  · exact .inr ⟨m, g, c, h1, h2, h3.later hb⟩
theorem sorted_eq (T : List Cd) (v1 v2 : Value) (w : World) (hT : T.length ≤ 10000) (h1 : SortedRow w T v1) (h2 : SortedRow w T v2) :
    Calls Tryd.prog 17 #[v1, v2] w fun e w' => e = .returned (.bool true) ∧ Below w.heap.size w w' := by
  have k : ∀ e w', (e = Ending.returned (.bool true) ∧ ∃ q, w' = w.drewN q) → (e = Ending.returned (.bool true) ∧ Below w.heap.size w w') := fun e w' ⟨he, q, hq⟩ => ⟨he, by rw [hq]; exact below_drewN (Below.refl _ _) q⟩
  rcases h1 with ⟨e1, rfl⟩ | ⟨m, g, c, e1, rfl, c1⟩ <;> rcases h2 with ⟨e2, rfl⟩ | ⟨m2, g2, c2, e2, rfl, c3⟩
  · exact (cdEq_zero _ _ _ _ w).mono k
  · rw [e1] at e2; cases e2
  · rw [e2] at e1; cases e1
  · obtain rfl : m = m2 := by omega
    exact (cdEq_some T.length g g2 c c2 (sortedC T m) w hT c1 c3).mono k

set_option maxHeartbeats 1000000 in
theorem votes_any (s : Option Addr) (n c : Nat) (B : Nat → Cd) (w : World) (hs : IsCodes w s n c B) (hn : n ≤ 9223372036854775807) (hZ : ∀ i, i < n → (B i).t.size ≤ 9223372036854775807) :
    Calls Tryd.prog 4 #[.slice s n c] w fun e w' => e = .returned (.bool true) ∧ Below w.heap.size w w' := by
  have K1 := Lib.hid (vote_is s n c B w hs hn hZ)
  have K2 := Lib.hid (fun wx hx => voteError_is s n c B w wx hs hn hx)
  have K3 := Lib.hid (fun wx hE hx => voteOf_is s n c B w wx hs hZ hE hx)
  have KG := Lib.hid (show voErr B n = 0 → (allC B n).length ≤ 10000 from fun hE => by
    have h0 : cdFirst B n = 0 := by
      unfold voErr at hE
      split at hE
      · assumption
      · exact hE
    have h5 : n ≤ 10000 := by
      unfold voErr at hE
      rw [if_pos h0] at hE
      split at hE
      · cases hE
      · omega
    have := (allC_good (B := B) (n := n) (fun i hi => ⟨(cdFirst_no h0 i hi).1, (cdFirst_no h0 i hi).2, hZ i hi⟩)).len
    omega)
  clear hs hn hZ
  go_enter Tryd.func4, Tryd.ntmps4
  go_wp2_with fail
  refine K1.out.mono ?_
  rintro e w1 (⟨h0, rfl, b1⟩ | ⟨h0, v, rfl, r1, b1⟩)
  · have hK := K2.out w1 b1
    generalize voErr B n = er at *
    have he0 : (er != (0 : Int)) = true := by simp [h0]
    have B1 := Lib.hid b1
    clear b1 h0
    go_wp2_with fail
    refine hK.mono ?_
    rintro e w2 ⟨rfl, b2⟩
    have B2 := Lib.hid (B1.out.trans (b2.mono B1.out.size))
    clear b2 hK
    go_wp2_with fail
    refine (bars_true w2).mono ?_
    rintro e w3 ⟨rfl, b3⟩
    have B3 := Lib.hid (B2.out.trans (b3.mono B2.out.size))
    clear b3
    go_wp2_with fail
    refine (bars_true w3).mono ?_
    rintro e w4 ⟨rfl, b4⟩
    have B4 := Lib.hid (B3.out.trans (b4.mono B3.out.size))
    clear b4
    go_wp2_with fail
    go_ret
    exact ⟨rfl, B4.out⟩
  · have hK := K2.out w1 b1
    rw [h0] at hK
    have R1 := Lib.hid r1
    have B1 := Lib.hid b1
    have hl := KG.out h0
    have H0 := Lib.hid h0
    clear b1 r1 h0
    go_wp2_with fail
    refine hK.mono ?_
    rintro e w2 ⟨rfl, b2⟩
    have B2 := Lib.hid (B1.out.trans (b2.mono B1.out.size))
    have R2 := Lib.hid (sorted_later R1.out b2)
    clear b2 hK
    go_wp2_with fail
    refine (bars_true w2).mono ?_
    rintro e w3 ⟨rfl, b3⟩
    have B3 := Lib.hid (B2.out.trans (b3.mono B2.out.size))
    have R3 := Lib.hid (sorted_later R2.out b3)
    clear b3
    have hO := K3.out w3 H0.out B3.out
    go_wp2_with fail
    refine hO.mono ?_
    rintro e w4 ⟨v2, rfl, r4, b4⟩
    have B4 := Lib.hid (B3.out.trans (b4.mono B3.out.size))
    have EQ := Lib.hid (sorted_eq (allC B n) v v2 w4 hl (sorted_later R3.out b4) r4)
    clear b4 r4 hO
    go_wp2_with fail
    refine EQ.out.mono ?_
    rintro e w5 ⟨rfl, b5⟩
    have B5 := Lib.hid (B4.out.trans (b5.mono B4.out.size))
    clear b5
    go_wp2_with fail
    go_ret
    exact ⟨rfl, B5.out⟩

end Go.Proofs.YtmloidgeolgpdaaDoor
namespace Go.Proofs.YtmloidgeolgpdaaDoor
open Go.ChangeShapes Go.WideShapes Go.ChangeAt Go.RowKit Go.Joins
open Go.ChangeMaps (open_string shut_string)
set_option linter.unusedVariables false

set_option maxRecDepth 100000 in
theorem votes_contract (H : Type) (enc : TypeId × Value → H) (W : World) (base : Nat) (args : Array Value) (ds gs : List (DataW H)) (before : List MemPlace)
    (hval0 : ∀ (j : Nat) t v, Tryd.f4.params[j]? = some t → args[j]? = some v → Value.okWide Tryd.prog W .any base t v)
    (hW : DataW.Whole enc Tryd.prog Tryd.f4.params.toList Rows.votesMatchSpec.vars false W args.toList ds gs before) :
    Calls Tryd.prog 4 args W fun e W' => ∃ v, e = .returned v ∧ Rows.votesMatchSpec.post enc Tryd.prog Tryd.f4 false true false false W args v W' := by
  have hval : ∀ (j : Nat) t v, Tryd.f4.params[j]? = some t → args[j]? = some v → Value.okWide Tryd.prog W .any base t v := hval0
  have hW' := hW
  obtain ⟨p, q, hA0, hV, rfl, _, _⟩ := hW
  have hA : DataW.TrodAll enc Tryd.prog W 0 (fun _ => true) true Tryd.f4.params.toList args.toList ds p := hA0
  rw [Tryd.params4] at hA hval
  obtain ⟨v0, vs0, d0, ds0, p0, q0, hargs, rfl, rfl, h0, r0⟩ := trodAll_cons hA
  obtain ⟨rfl, rfl, rfl⟩ := trodAll_nil r0
  obtain rfl : args = #[v0] := by cases args; simp_all
  obtain ⟨rfl, rfl⟩ := trodVars_none hV
  have k0 := h0
  have lt0 : ∀ x ∈ p0, x.block < W.heap.size := by obtain ⟨m, hm⟩ := k0; exact DataW.trod_lt m _ _ _ hm
  obtain ⟨s0, n0, c0, z0, rfl, hs0, hn0, hz0⟩ := open_codesN (hval 0 34 v0 rfl rfl) h0
  clear hA0 hval0
  simp only [List.append_nil] at hW'
  refine (votes_any s0 n0 c0 z0 W hs0 hn0 hz0).mono fun e W' ⟨he, bel⟩ => ?_
  subst he
  exact ⟨_, rfl, _, _, _, [], _, [], hW', trodAll_mk1 (shut_bool Tryd.underlying4 _), (trodAll_cons_mk (Below.trod laidOut (by kernel_rfl) (of_decide_eq_true (by kernel_rfl)) k0 bel lt0) trodAll_mk0), rfl, bel.frame _, fun h => by cases h⟩

theorem votes_reads (os : Os) {H : Type} (enc : TypeId × Value → H) : ∃ places, DataW.whole enc Tryd.prog ((World.laidAll Tryd.prog os Rows.votesMatchRow.laid).forCall (fun _ _ => 0) ⟨#[], #[.slice none 0 0], []⟩).memory Tryd.f4.params.toList Rows.votesMatchSpec.vars false #[Value.slice none 0 0].toList 8 = some ([.nil], [], places) :=
  ⟨[], by kernel_rfl⟩

set_option maxRecDepth 100000 in
theorem votes_lifted (os : Os) (started : os.Started) (H : Type) (enc : TypeId × Value → H) (F : Stop.Interp) :
    ReturnsInHanded {} Tryd.checked os 4 .any ((OpenSpec.ofChange Rows.votesMatchSpec).preRow enc Tryd.prog Tryd.f4 Rows.votesMatchRow.domain false Rows.votesMatchRow.laid) (((OpenSpec.ofChange Rows.votesMatchSpec).at F).post enc Tryd.prog Tryd.f4 false true false false) := by
  obtain ⟨places, hx⟩ := votes_reads os enc
  refine returnsInHanded_of_row (C := Tryd.checked) (s := OpenSpec.ofChange Rows.votesMatchSpec) own started (by kernel_rfl) Tryd.func4
    (witness_row_at (enc := enc) (C := Tryd.checked) false (World.laidAll Tryd.prog os Rows.votesMatchRow.laid) #[.slice none 0 0] (World.laidAll_os _ _ _) (by kernel_rfl) (by kernel_rfl) (by kernel_rfl)
      (OpenSpec.preRow_of_cond 8 hx (by kernel_rfl) (fun k hk => by cases hk) (by kernel_rfl) (by rw [MakeChecks.laidMetH_plain _ _ _ (by kernel_rfl)]; exact laidMet_laidAll _ (by kernel_rfl) (by kernel_rfl)))) ?_
  intro W base args ds gs before hval hW _ hcond _ hL _ _
  exact votes_contract H enc W base args ds gs before hval hW

theorem votes_row : Rows.VotesMatchSaid :=
  OpenClaim.holds_of_cond 4 Tryd.f4 rfl rfl rfl rfl rfl rfl rfl ⟨rfl, rfl, rfl, rfl, rfl⟩ rfl rfl rfl rfl rfl (by kernel_rfl) Tryd.func4 (by kernel_rfl)
    (of_decide_eq_true (by kernel_rfl)) (by unfold Func.isWrapper; first | (rw [if_pos (by decide +kernel)]; kernel_rfl) | (rw [if_neg (by decide +kernel)]; exact ⟨rfl, rfl⟩))
    (fun os started H enc _ F => by rw [OpenClaim.pre_eq_preRow]; exact votes_lifted os started H enc F)

theorem votes_holds : Rows.VotesMatchCardSaid :=
  Claim7.holds_tied_plain_at .later [] _ _ _ _ votes_row (fun _ h => by cases h) (by kernel_rfl) (fun _ h => by cases h) votesMatch_row_tie rfl ⟨rfl, rfl⟩ (by kernel_rfl) rfl
    (fun f fn hf hfn => by
      obtain rfl : f = 4 := Option.some.inj ((show Tryd.prog.funcNamed "flatbed/bedlaw2.VotesMatch" = some 4 by kernel_rfl).symm.trans hf) |>.symm
      obtain rfl : fn = Tryd.f4 := (Option.some.inj (Tryd.func4.symm.trans hfn)).symm
      exact ⟨by kernel_rfl, fun j t ht => by
        rw [Tryd.params4] at ht
        obtain rfl : t = 34 := by simpa using Array.mem_of_getElem? ht
        exact (show Tryd.prog.wantsStandIn 34 = false by kernel_rfl)⟩)
    (by kernel_rfl)
end Go.Proofs.YtmloidgeolgpdaaDoor
