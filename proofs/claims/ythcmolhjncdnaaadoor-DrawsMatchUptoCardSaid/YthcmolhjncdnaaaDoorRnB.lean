/-
  The runs of a row: bar.runsOf of a page of one row, and the reference's Runs.
-/
import Derived.Test.YthcmolhjncdnaaaDoorRnA
import Derived.Test.YthcmolhjncdnaaaDoorAt
import Derived.Deep.DeepCutAuto
import Derived.Deep.CutRange
import Derived.Deep.RegionHeld3
namespace Go.Proofs.YthcmolhjncdnaaaDoor
open Go.RowKit
set_option linter.unusedSimpArgs false
set_option linter.unusedVariables false

def natsV (l : List Nat) : List Value := l.map fun x => Value.int .i64 ((x : Nat) : Int)
theorem natsV_len (l : List Nat) : (natsV l).length = l.length := by simp [natsV]
theorem natsV_snoc (l : List Nat) (x : Nat) : natsV l ++ [.int .i64 ((x : Nat) : Int)] = natsV (l ++ [x]) := by simp [natsV]
theorem natsV_get (l : List Nat) (j : Nat) (h : j < l.length) : (natsV l)[j]? = some (.int .i64 (intOfs l j)) := by simp [natsV, intOfs, List.getD, h]
theorem owns_slice {w : World} {N : Nat} {e : TypeId} {v : Value} {n : Nat} {xs : List Value} (h : w.ownsRow N e 1 v n xs) (hn : 0 < n) : ∃ g c, v = .slice (some ⟨g, 0, none⟩) n c := by
  rcases h.2 with ⟨h0, h1⟩ | ⟨g, cap, cur, h0, _⟩
  · omega
  · exact ⟨g, cap, h0⟩

/-- The last run of those at hand is one longer. -/
theorem rn_longer {w : World} {N g c : Nat} {I : List Nat} {x : Nat} (h : w.ownsRow N 3 1 (.slice (some ⟨g, 0, none⟩) (I.length + 1) c) (I.length + 1) (natsV (I ++ [x]))) :
    (w.setCell ⟨g, I.length, none⟩ (.int .i64 ((x : Int) + 1))).ownsRow N 3 1 (.slice (some ⟨g, 0, none⟩) (I.length + 1) c) (I.length + 1) (natsV (I ++ [x + 1])) := by
  have := (h.stored I.length (.int .i64 ((x : Int) + 1))).1
  rw [show natsV (I ++ [x + 1]) = (natsV (I ++ [x])).set I.length (.int .i64 ((x : Int) + 1)) by
    rw [← natsV_snoc, ← natsV_snoc, List.set_append_right _ _ (by rw [natsV_len]; exact Nat.le_refl _), natsV_len, Nat.sub_self]
    rfl]
  exact this
theorem rn_last {w : World} {N g c : Nat} {I : List Nat} {x : Nat} (h : w.ownsRow N 3 1 (.slice (some ⟨g, 0, none⟩) (I.length + 1) c) (I.length + 1) (natsV (I ++ [x]))) : w.cell? ⟨g, I.length, none⟩ = some (.int .i64 (x : Int)) := by
  rw [h.cellAt I.length (by omega), natsV_get _ _ (by simp)]
  simp [intOfs, List.getD]

/-- Runs in memory, on the way. -/
def RnSt (z : Nat → Bool) (N k : Nat) (v : Value) (w : World) : Prop := w.ownsRow N 3 1 v ((rnS z k).1.length + 1) (natsV ((rnS z k).1 ++ [(rnS z k).2]))

set_option maxHeartbeats 1000000 in
set_option maxRecDepth 100000 in
theorem runsOf_row (n g o c : Nat) (z : Nat → Bool) (w : World) (hn : 1 ≤ n ∧ n ≤ 4000) (hnc : n ≤ c) (hp : ∀ j, j < n → w.cell? ⟨g, o + j, none⟩ = some (.bool (z j))) :
    Calls Tryd.prog 30 #[.agg #[.int .i64 n, .int .i64 1, .slice (some ⟨g, o, none⟩) n c], .int .i64 0] w fun e w' => ∃ v, e = .returned v ∧ w'.ownsRow w.heap.size 3 1 v (runsL z n).length (natsV (runsL z n)) ∧ Below w.heap.size w w' := by
  obtain ⟨i0, hi, hz0, hz1, hz2⟩ := info_parts info_int
  have hcl := World.block_lt_of_cell? _ _ (hp 0 (by omega))
  simp only at hcl
  have HC := Lib.hid hp
  clear hp
  go_enter Tryd.func30, Tryd.ntmps30
  go_upto_region 2 with fail
  obtain ⟨w1, hw1⟩ : ∃ w1, w1 = (w.alloc (.cells #[.int .i64 n, .int .i64 1, .slice (some ⟨g, o, none⟩) n c] 24)).alloc (.cells #[.int .i64 0] 3) := ⟨_, rfl⟩
  have hb1 : Below w.heap.size w w1 := by rw [hw1]; exact below_alloc (new_below _ _) _
  have hs1 : w1.heap.size = w.heap.size + 2 := by rw [hw1]; simp
  have q0 : w1.cell? ⟨w.heap.size, 0, none⟩ = some (.int .i64 n) := by rw [hw1]; go_simp
  have q1 : w1.cell? ⟨w.heap.size, 1, none⟩ = some (.int .i64 1) := by rw [hw1]; go_simp
  have q2 : w1.cell? ⟨w.heap.size, 2, none⟩ = some (.slice (some ⟨g, o, none⟩) n c) := by rw [hw1]; go_simp
  have hown : w1.ownsRow (w.heap.size + 1) 3 1 (.slice (some ⟨w.heap.size + 1, 0, none⟩) 1 1) 1 [.int .i64 0] := by
    rw [hw1]
    have := World.ownsRow_lit (base := w.heap.size + 1) (e := 3) (size := 1) (w.alloc (.cells #[.int .i64 n, .int .i64 1, .slice (some ⟨g, o, none⟩) n c] 24)) #[.int .i64 0] 1 (by simp) (by decide) rfl
    simpa using this
  have HS := Lib.hid (show RnSt z (w.heap.size + 1) 0 (.slice (some ⟨w.heap.size + 1, 0, none⟩) 1 1) w1 ∧ Below (w.heap.size + 1) w1 w1 from ⟨hown, Below.refl _ _⟩)
  have HC1 := Lib.hid (fun j hj => cell_later hb1 (HC.out j hj))
  have HB1 := Lib.hid hb1
  rw [← hw1]
  clear hw1 hown hb1
  go_wp2_with fail
  go_loopw [5, 6, 23] (fun v5 v6 i wr => ∃ k : Nat, k ≤ n ∧ i = .int .i64 k ∧ v6 = .bool (lastB z k) ∧ Hid (RnSt z (w.heap.size + 1) k v5 wr ∧ Below (w.heap.size + 1) w1 wr)) (fun _ _ i _ => n - (intOf i).toNat)
  case atStart => exact ⟨0, Nat.zero_le _, rfl, rfl, HS⟩
  case round =>
    obtain ⟨k, hk, rfl, rfl, HR⟩ := hrel
    by_cases hlt : k < n
    · obtain ⟨h1, h2⟩ := HR.out
      have hpx := (h2.cell (p := ⟨g, o + k, none⟩) (by simp; omega)).trans (HC1.out k hlt)
      have i1 : (k : Int) < (n : Int) := by omega
      obtain ⟨b1, b2, b3, b4, b5, b6, b7⟩ := rn_row z k
      have hst : rnS z (k + 1) = if z k = lastB z k then ((rnS z k).1, (rnS z k).2 + 1) else ((rnS z k).1 ++ [(rnS z k).2], 1) := rfl
      have HST := Lib.hid hst
      have hlb : lastB z (k + 1) = z k := rfl
      have HLB := Lib.hid hlb
      clear hst hlb b1 b2 b3 b4 b7
      unfold RnSt at h1
      obtain ⟨I, hI⟩ : ∃ I, I = (rnS z k).1 := ⟨_, rfl⟩
      obtain ⟨x, hx⟩ : ∃ x, x = (rnS z k).2 := ⟨_, rfl⟩
      obtain ⟨q, hq⟩ : ∃ q, q = z k := ⟨_, rfl⟩
      obtain ⟨lb, hlb⟩ : ∃ lb, lb = lastB z k := ⟨_, rfl⟩
      rw [← hq] at hpx
      rw [← hI, ← hx] at h1
      rw [← hI] at b5
      rw [← hx] at b6
      rw [← hlb]
      obtain ⟨sg, sc, rfl⟩ := owns_slice h1 (by omega)
      by_cases e : q = lb
      · have E := Lib.hid (show rnS z (k + 1) = (I, x + 1) by rw [HST.out, if_pos (by rw [← hq, ← hlb]; exact e), hI, hx])
        have hcell := rn_last h1
        have hfz := h1.frozenAt I.length
        have hge := (h1.lt sg rfl).1
        have H1 := Lib.hid (rn_longer h1)
        have H2 := Lib.hid h2
        have E2 := Lib.hid (show lastB z (k + 1) = lb by rw [HLB.out, ← hq]; exact e)
        clear h1 h2 HR HST HLB hI hx hq hlb
        subst e
        cases q <;> (
          go_wp2_with fail
          go_roundw
          case rel => exact ⟨k + 1, by omega, by go_num, by rw [E2.out], Lib.hid ⟨by unfold RnSt; rw [E.out]; exact H1.out, H2.out.setCell hge _⟩⟩
          case measure => simp [intOf]; omega)
      · have E := Lib.hid (show rnS z (k + 1) = (I ++ [x], 1) by rw [HST.out, if_neg (by rw [← hq, ← hlb]; exact e), hI, hx])
        have H1 := Lib.hid h1
        have H2 := Lib.hid h2
        have hq2 : q = !lb := by revert e; cases q <;> cases lb <;> simp
        have E2 := Lib.hid (show lastB z (k + 1) = !lb by rw [HLB.out, ← hq]; exact hq2)
        clear h1 h2 HR HST HLB hI hx hq hlb e
        subst hq2
        cases lb <;> (
          go_wp2_with (at_builtin; refine wpList_append_own _ rfl _ _ 25 rfl (w.heap.size + 1) 3 i0 (.int .i64 0) 1 8 Tryd.underlying25 hi hz0 hz1 hz2 rfl (by decide) _ _ _ rfl (H1.out.alloc _) ⟨wr.heap.size, 0, none⟩ 1 1 [.int .i64 0] rfl rfl ?c1 ?c2 ?c3 ?c4 ?c5 ?_)
          case c1 => exact cell_one_new _ _ _
          case c2 => intro u hu; simp at hu; subst hu; rfl
          case c3 => unfold maxLen; omega
          case c4 => omega
          case c5 => have := H2.out.size; simp; omega
          intro v' w5 hown5 hgr5 _
          obtain ⟨ng, nc, rfl⟩ := owns_slice hown5 (by omega)
          have hN : w.heap.size + 1 ≤ (wr.alloc (.cells #[.int .i64 0] 3)).heap.size := by have := H2.out.size; simp; omega
          have hb5 : Below (w.heap.size + 1) w1 w5 := (H2.out.alloc (by have := H2.out.size; omega) (.cells #[.int .i64 0] 3)).grown hgr5 hN (fun j hj => (H1.out.lt j hj).1)
          have hown6 : w5.ownsRow (w.heap.size + 1) 3 1 (.slice (some ⟨ng, 0, none⟩) ((I ++ [x]).length + 1) nc) ((I ++ [x]).length + 1) (natsV ((I ++ [x]) ++ [0])) := by
            rw [← natsV_snoc]
            simpa using hown5
          have hcell := rn_last hown6
          have hfz := hown6.frozenAt (I ++ [x]).length
          have hge := (hown6.lt ng rfl).1
          have H6 := Lib.hid (rn_longer hown6)
          have H7 := Lib.hid hb5
          simp only [List.length_append, List.length_singleton] at hcell hfz H6
          clear hown5 hgr5 hown6 hb5
          go_wp2_with fail
          go_roundw
          case rel => exact ⟨k + 1, by omega, by go_num, by rw [E2.out]; rfl, Lib.hid ⟨by unfold RnSt; rw [E.out]; simp only [List.length_append, List.length_singleton]; exact H6.out, H7.out.setCell hge _⟩⟩
          case measure => simp [intOf]; omega)
    · obtain rfl : k = n := by omega
      go_wp2_with fail
      go_ret
      have hr : runsL z k = (rnS z k).1 ++ [(rnS z k).2] := by unfold runsL rnL; rw [if_neg (by omega)]
      refine ⟨_, rfl, ?_, HB1.out.trans (HR.out.2.mono (by omega))⟩
      rw [hr, List.length_append, List.length_singleton]
      exact owns_base HR.out.1 (by omega)

end Go.Proofs.YthcmolhjncdnaaaDoor
