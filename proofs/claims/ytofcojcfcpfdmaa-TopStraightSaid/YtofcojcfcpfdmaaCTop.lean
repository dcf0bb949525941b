/-
  TopStraight returns true for every width, rows, page and number, and each argument reads afterwards as it read before. No conditions.
-/
import Derived.Test.YtofcojcfcpfdmaaRows
import Derived.WalkKit
import Derived.WalkSpells
import Derived.WalkLawsBesides
import Derived.Lib.Hide
import Derived.Deep.RegionHeld3
import Derived.Shelf.Abstract
import Derived.Deep.AppendLies
import Derived.Deep.DrawnRows
import Derived.Deep.RegionLaw
import Derived.Deep.QuietTactic
import Derived.BigQuiet
import Derived.ProofKit
import Derived.OpenShut
import Derived.ShutString
import Derived.ChangeOld
import Derived.Lib.SmallJoins
import Derived.Deep.Grids
import Derived.Deep.DeepCutAuto
import Derived.Lib.MinMax
import Derived.Deep.CutRange
import Derived.Laws.EntriesVeiled
import Derived.StillTailTactics
import Derived.RegionTactic
import Derived.ChangeAlike
import Derived.BigRegion
import Derived.Test.YtofcojcfcpfdmaaCTop4
namespace Go.Proofs.Ytofcojcfcpfdmaa
open Go.RowKit
set_option linter.unusedSimpArgs false
set_option linter.unusedVariables false

def bitsOf (f : Nat → Bool) (n : Nat) : List Value := (List.range n).map fun k => Value.bool (f k)
theorem bitsOf_get (f : Nat → Bool) (n k : Nat) (h : k < n) : (bitsOf f n)[k]? = some (.bool (f k)) := by simp [bitsOf, List.getElem?_range h]
theorem bitsOf_congr {f g : Nat → Bool} {n : Nat} (h : ∀ j, j < n → f j = g j) : bitsOf f n = bitsOf g n := by
  unfold bitsOf
  refine List.map_congr_left fun k hk => ?_
  rw [h k (by simpa using hk)]
theorem bitsOf_length (f : Nat → Bool) (n : Nat) : (bitsOf f n).length = n := by simp [bitsOf]
theorem bitsOf_set {f g : Nat → Bool} {n j : Nat} {v : Bool} (hj : j < n) (hv : g j = v) (h : ∀ i, i < n → i ≠ j → g i = f i) : (bitsOf f n).set j (.bool v) = bitsOf g n := by
  refine List.ext_getElem? fun k => ?_
  rw [List.getElem?_set]
  by_cases hk : k < n
  · rw [bitsOf_get g n k hk]
    by_cases e : j = k
    · subst e; simp [bitsOf, hv, hj]
    · rw [if_neg e, bitsOf_get f n k hk, h k hk fun e' => e e'.symm]
  · have h1 : (bitsOf g n)[k]? = none := by simp [bitsOf]; omega
    have h2 : (bitsOf f n)[k]? = none := by simp [bitsOf]; omega
    rw [h1]
    by_cases e : j = k
    · omega
    · rw [if_neg e, h2]
theorem bitsOf_false (n : Nat) : List.replicate n (Value.bool false) = bitsOf (fun _ => false) n := by
  refine List.ext_getElem? fun k => ?_
  by_cases hk : k < n
  · rw [bitsOf_get _ _ _ hk, List.getElem?_replicate, if_pos hk]
  · rw [List.getElem?_replicate, if_neg hk]; symm; exact List.getElem?_eq_none (by rw [bitsOf_length]; omega)

/-- What holds while rows are put on a page. -/
structure Putting (base gp N cp hb W H : Nat) (w3 : World) (f : Nat → Bool) (wx : World) : Prop where
  o : wx.ownsRow base 4 1 (.slice (some ⟨gp, 0, none⟩) N cp) N (bitsOf f N)
  b : Below base w3 wx
  h : wx.heap[hb]? = some (.cells #[.int .i64 W, .int .i64 H, .slice (some ⟨gp, 0, none⟩) N cp] 40 (0, 0))

theorem Putting.store {base gp N cp hb W H j : Nat} {x : Bool} {w3 wx : World} {f g : Nat → Bool} (h : Putting base gp N cp hb W H w3 f wx) (hne : hb ≠ gp) (hg : base ≤ gp) (hj : j < N) (hv : g j = x) (ho : ∀ i, i < N → i ≠ j → g i = f i) :
    Putting base gp N cp hb W H w3 g (wx.setCell ⟨gp, j, none⟩ (.bool x)) := by
  refine ⟨?_, h.b.setCell hg _, ?_⟩
  · have := (h.o.stored j (.bool x)).1
    rw [bitsOf_set hj hv ho] at this
    exact this
  · rw [Below.heap_setCell _ _ _ _ (by simpa using hne)]; exact h.h
theorem Putting.same {base gp N cp hb W H : Nat} {w3 wx : World} {f g : Nat → Bool} (h : Putting base gp N cp hb W H w3 f wx) (he : ∀ i, i < N → f i = g i) : Putting base gp N cp hb W H w3 g wx :=
  ⟨by rw [← bitsOf_congr he]; exact h.o, h.b, h.h⟩
theorem Putting.get {base gp N cp hb W H j : Nat} {w3 wx : World} {f : Nat → Bool} (h : Putting base gp N cp hb W H w3 f wx) (hj : j < N) : wx.cell? ⟨gp, j, none⟩ = some (.bool (f j)) := by
  rw [h.o.cellAt j (by omega), bitsOf_get f N j hj]

/-- The page when rows before y, and x pixels of row y, have been put. -/
def putAt (v : Nat → Bool) (W y x k : Nat) : Bool := if k / W < 8 then false else if k / W - 8 < y then v (k / W - 8) else if k / W - 8 = y ∧ k % W < x then v y else false

theorem putAt_start (v : Nat → Bool) (W k : Nat) : putAt v W 0 0 k = false := by
  unfold putAt
  split
  · rfl
  · rw [if_neg (by omega), if_neg (by omega)]
theorem putAt_row (v : Nat → Bool) (W y k : Nat) (hW : 1 ≤ W) : putAt v W y W k = putAt v W (y + 1) 0 k := by
  have := Nat.mod_lt k hW
  unfold putAt
  by_cases h : k / W < 8
  · rw [if_pos h, if_pos h]
  · rw [if_neg h, if_neg h]
    by_cases h1 : k / W - 8 < y
    · rw [if_pos h1, if_pos (by omega)]
    · rw [if_neg h1]
      by_cases h2 : k / W - 8 = y
      · rw [if_pos ⟨h2, this⟩, if_pos (by omega), h2]
      · rw [if_neg (by omega), if_neg (by omega), if_neg (by omega)]
theorem putAt_here (v : Nat → Bool) (W y x : Nat) (hx : x < W) : putAt v W y (x + 1) ((y + 8) * W + x) = v y := by
  have e1 : ((y + 8) * W + x) / W = y + 8 := by rw [Nat.add_comm, Nat.add_mul_div_right _ _ (by omega), Nat.div_eq_of_lt hx, Nat.zero_add]
  have e2 : ((y + 8) * W + x) % W = x := by rw [Nat.add_comm, Nat.add_mul_mod_self_right, Nat.mod_eq_of_lt hx]
  unfold putAt
  rw [e1, e2, if_neg (by omega), if_neg (by omega), if_pos (by omega)]
theorem putAt_else (v : Nat → Bool) (W y x k : Nat) (hx : x < W) (hk : k ≠ (y + 8) * W + x) : putAt v W y (x + 1) k = putAt v W y x k := by
  unfold putAt
  by_cases h : k / W < 8
  · rw [if_pos h, if_pos h]
  · rw [if_neg h, if_neg h]
    by_cases h1 : k / W - 8 < y
    · rw [if_pos h1, if_pos h1]
    · rw [if_neg h1, if_neg h1]
      by_cases h2 : k / W - 8 = y ∧ k % W < x
      · rw [if_pos h2, if_pos (by omega)]
      · rw [if_neg h2, if_neg]
        rintro ⟨h3, h4⟩
        have h5 : k % W = x := by omega
        have h6 : k / W = y + 8 := by omega
        have h7 := Nat.div_add_mod k W
        rw [h5, h6, Nat.mul_comm] at h7
        exact hk h7.symm
theorem putAt_end (v : Nat → Bool) (W L k : Nat) : putAt v W L 0 k = rowB L v ((k / W : Nat) : Int) := by
  unfold putAt rowB
  by_cases h : k / W < 8
  · rw [if_pos h, if_neg (by omega)]
  · rw [if_neg h]
    by_cases h1 : k / W - 8 < L
    · rw [if_pos h1, if_pos (by omega), show (((k / W : Nat) : Int) - 8).toNat = k / W - 8 by omega]
    · rw [if_neg h1, if_neg (by omega), if_neg (by omega)]

theorem rowB_ink {W H L : Nat} {v z : Nat → Bool} {n : Int} (hW : 1 ≤ W) (hW2 : W ≤ 200) (hn : -64 ≤ n ∧ n ≤ 64) (hH : H = L + 16) (hz : ∀ j, j < W * H → z j = rowB L v ((j / W : Nat) : Int)) (he : ∃ a, a < L ∧ v a = true) :
    anyInk (leanZ W H z n) (W * H) = true := by
  obtain ⟨a, h1, h2⟩ := he
  have hm : (W - 1) / 2 < W := by omega
  have hfit := row_fits (show 8 + a < H by omega) (show (W - 1) / 2 + 1 ≤ W by omega)
  refine anyInk_true (k := (8 + a) * W + (W - 1) / 2) (by omega) ?_
  unfold leanZ
  rw [Nat.add_comm ((8 + a) * W), Nat.add_mul_mod_self_right, Nat.mod_eq_of_lt hm, Nat.add_mul_div_right _ _ (by omega), Nat.div_eq_of_lt hm, Nat.zero_add, lean_rows hH hz _ hm (n := n)]
  have h0 : fallV W n ((W - 1) / 2) = 0 := by unfold fallV; rw [Int.sub_self, Int.mul_zero]; rfl
  unfold rowB
  rw [h0, if_pos (by omega), show ((((8 + a : Nat) : Int)) - 0 - 8).toNat = a by omega]
  exact h2

/-- Rows that lean are made straight by what is found. -/
theorem rows_back {W H L : Nat} {v z : Nat → Bool} {n : Int} {most : Nat} (hW1 : 1 ≤ W) (hW : W ≤ 200) (hn : -64 ≤ n ∧ n ≤ 64) (hm : -(most : Int) ≤ n ∧ n ≤ most) (hm2 : most ≤ 64) (hH : H = L + 16) (hz : ∀ j, j < W * H → z j = rowB L v ((j / W : Nat) : Int))
    (he : ∃ a, a < L ∧ v a = true) (j : Nat) (hj : j < W * H) :
    leanZ W H (leanZ W H z n) (-(bestUp (scoreV (inkQ (leanZ W H z n) W) W H) most).1) j = z j := by
  refine lean_back (m := 8) ?_ ?_ (fun x hx => found_falls hW1 hW hn hm hm2 hH hz he x hx) j hj
  · intro x y hx hy hym
    have hfit := row_fits hy (show x + 1 ≤ W by omega)
    rw [hz _ (by omega), Nat.add_comm, Nat.add_mul_div_right _ _ (by omega), Nat.div_eq_of_lt hx, Nat.zero_add]
    unfold rowB
    rw [if_neg (by omega)]
  · intro x hx
    have := fallV_small hW hn hx
    omega

/-- A page with ten rows more above and below. -/
def padZ (W Hb : Nat) (z : Nat → Bool) (k : Nat) : Bool := pasteAt W W Hb 0 10 (fun _ => false) z (k % W) (k / W)

theorem padZ_rim {W Hb x y : Nat} {z : Nat → Bool} (hx : x < W) (h : y < 10 ∨ Hb + 20 < y + 11) : padZ W Hb z (y * W + x) = false := by
  unfold padZ pasteAt
  rw [Nat.add_comm (y * W), Nat.add_mul_mod_self_right, Nat.mod_eq_of_lt hx, Nat.add_mul_div_right _ _ (by omega), Nat.div_eq_of_lt hx, Nat.zero_add]
  have : ¬ InC W Hb 0 10 x y := by unfold InC; omega
  rw [decide_eq_false this]; rfl

theorem pad_back {W Hb : Nat} {z : Nat → Bool} {n : Int} (hW : W ≤ 200) (hn : -64 ≤ n ∧ n ≤ 64) (j : Nat) (hj : j < W * (Hb + 20)) :
    leanZ W (Hb + 20) (leanZ W (Hb + 20) (padZ W Hb z) n) (-n) j = padZ W Hb z j := by
  refine lean_back (m := 10) ?_ ?_ (fun _ _ => rfl) j hj
  · intro x y hx hy h
    exact padZ_rim hx (by omega)
  · intro x hx
    have := fallV_small hW hn hx
    omega

end Go.Proofs.Ytofcojcfcpfdmaa
namespace Go.Proofs.Ytofcojcfcpfdmaa
open Go.RowKit
set_option linter.unusedSimpArgs false
set_option linter.unusedVariables false

theorem isBools_here {w : World} {g n c : Nat} {z : Nat → Bool} (h : ∀ j, j < n → w.cell? ⟨g, 0 + j, none⟩ = some (.bool (z j))) : IsBools w (some ⟨g, 0, none⟩) n c z :=
  .inr ⟨_, rfl, fun i hi => by rw [Addr.add_lit]; exact h i hi⟩

set_option maxHeartbeats 4000000 in
set_option maxRecDepth 100000 in
theorem topStraight_main (W L gr orr cr : Nat) (v : Nat → Bool) (a b n : Int) (s : Option Addr) (k c : Nat) (z : Nat → Bool) (w : World) (a1 : 1 ≤ W) (a2 : W ≤ 200) (b1 : 1 ≤ L) (b2 : L ≤ 40) (n1 : -64 ≤ n) (n2 : n ≤ 64)
    (hr : ∀ j, j < L → w.cell? ⟨gr, orr + j, none⟩ = some (.bool (v j))) (hs : IsBools w s k c z) :
    Calls Try.prog 4 #[.int .i64 W, .slice (some ⟨gr, orr, none⟩) L cr, .agg #[.int .i64 a, .int .i64 b, .slice s k c], .int .i64 n] w fun e w' => e = .returned (.bool true) ∧ Below w.heap.size w w' := by
  obtain ⟨H, hH⟩ : ∃ H, H = L + 16 := ⟨_, rfl⟩
  have eH : (L : Int) + 16 = (H : Int) := by omega
  have hNN : W * H ≤ 200 * 56 := Nat.mul_le_mul a2 (by omega)
  have hsz : sizeErr W H = 0 := by
    unfold sizeErr
    rw [if_neg (by omega), if_neg (by rw [← Int.natCast_mul]; omega)]
  have hgr : gr < w.heap.size := by
    have := World.block_lt_of_cell? _ _ (hr 0 (by omega))
    simpa using this
  have HB := Lib.hid hs
  have HR := Lib.hid hr
  have HSZ := Lib.hid hsz
  have HHH := Lib.hid hH
  have HNN := Lib.hid hNN
  have HGR := Lib.hid hgr
  clear hs hr hsz hH hNN hgr
  go_enter Try.func4, Try.ntmps4
  go_wp2_with (first | (go_at_call 19; refine (landedT_any _).mono ?_; rintro e w' ⟨rfl, rfl⟩))
  obtain ⟨w1, hw1⟩ : ∃ w1, w1 = w.alloc (.cells #[.int .i64 a, .int .i64 b, .slice s k c] 40) := ⟨_, rfl⟩
  have hb1 : Below w.heap.size w w1 := by rw [hw1]; exact new_below _ _
  have q1 : w1.heap[w.heap.size]? = some (.cells #[.int .i64 a, .int .i64 b, .slice s k c] 40 (0, 0)) := by rw [hw1]; exact heap_alloc_new _ _
  have hs1 : w1.heap.size = w.heap.size + 1 := by rw [hw1]; simp
  rw [← hw1]
  clear hw1
  refine (blank_ok W H w1 HSZ.out).mono ?_
  rintro e w2 ⟨v2, N, rfl, hN, hown2, hb2⟩
  have hN' : N = W * H := by rw [← Int.natCast_mul] at hN; exact Int.ofNat.inj hN
  obtain ⟨gp, cp, rfl, hgp⟩ : ∃ gp cp, v2 = .slice (some ⟨gp, 0, none⟩) N cp ∧ w1.heap.size ≤ gp := by
    have hd := hown2.2
    rcases hd with ⟨_, h0⟩ | ⟨g2, c2, cur, h0, hgg, _⟩
    · have : 0 < W * H := Nat.mul_pos a1 (by have := HHH.out; omega)
      omega
    · exact ⟨g2, c2, h0, hgg⟩
  have hgl := (hown2.lt gp rfl).2
  have HN := Lib.hid hN'
  clear hN hN'
  go_upto_region 6 with (fail)
  obtain ⟨w3, hw3⟩ : ∃ w3, w3 = w2.alloc (.cells #[.int .i64 W, .int .i64 H, .slice (some ⟨gp, 0, none⟩) N cp] 40) := ⟨_, rfl⟩
  have hb3 : Below w2.heap.size w2 w3 := by rw [hw3]; exact new_below _ _
  have x3 : w3.heap[w2.heap.size]? = some (.cells #[.int .i64 W, .int .i64 H, .slice (some ⟨gp, 0, none⟩) N cp] 40 (0, 0)) := by rw [hw3]; exact heap_alloc_new _ _
  rw [← hw3]
  clear hw3
  obtain ⟨hb, hhb⟩ : ∃ hb, hb = w2.heap.size := ⟨_, rfl⟩
  rw [← hhb] at x3 ⊢
  have hne : hb ≠ gp := by omega
  have hb12 := hb2.size
  have HHB := Lib.hid (show w.heap.size ≤ hb ∧ w.heap.size < hb by omega)
  have HGP := Lib.hid hgp
  have B3 := Lib.hid (below_step (below_step hb1 hb2) hb3)
  have Q3 := Lib.hid (below_block hb3 (below_block hb2 q1))
  have PT := Lib.hid (show Putting w1.heap.size gp N cp hb W H w3 (putAt v W 0 0) w3 from ⟨by
    have := below_owns hown2 hb3
    rw [bitsOf_false, bitsOf_congr (g := putAt v W 0 0) (fun j _ => (putAt_start v W j).symm)] at this
    exact this, Below.refl _ _, x3⟩)
  clear hb1 hb2 hb3 x3 q1 hown2 hgl hhb hb12
  go_wp2_with fail
  go_loopw [63] (fun i wr => ∃ y : Nat, y ≤ L ∧ i = .int .i64 y ∧ Hid (Putting w1.heap.size gp N cp hb W H w3 (putAt v W y 0) wr)) (fun i _ => L - (intOf i).toNat)
  case atStart => exact ⟨0, Nat.zero_le _, rfl, PT⟩
  case round =>
    obtain ⟨y, hy, rfl, PY⟩ := hrel
    clear PT
    by_cases hlt : y < L
    · have hx : wr.cell? ⟨gr, orr + y, none⟩ = some (.bool (v y)) := (PY.out.b.cell (p := ⟨gr, orr + y, none⟩) (by have := HGR.out; simp; omega)).trans (cell_later B3.out (HR.out y hlt))
      obtain ⟨full, hfull⟩ : ∃ full, full = v y := ⟨_, rfl⟩
      rw [← hfull] at hx
      have HF := Lib.hid hfull
      clear hfull
      have e8 : (y : Int) + 8 = ((y + 8 : Nat) : Int) := by omega
      obtain ⟨Y, hY⟩ : ∃ Y, Y = y + 8 := ⟨_, rfl⟩
      rw [← hY] at e8
      have HY := Lib.hid hY
      have hYH : Y < H := by have := HHH.out; omega
      clear hY
      go_wp2_with fail
      go_loopw [69] (fun i wr => ∃ x : Nat, x ≤ W ∧ i = .int .i64 x ∧ Hid (Putting w1.heap.size gp N cp hb W H w3 (putAt v W y x) wr)) (fun i _ => W - (intOf i).toNat)
      case atStart => exact ⟨0, Nat.zero_le _, rfl, PY⟩
      case round =>
        obtain ⟨x, hxw, rfl, PX⟩ := hrel
        clear PY hx
        by_cases hltx : x < W
        · obtain ⟨p0, p1, p2, _, _, _⟩ := block3 PX.out.h
          have hfit := row_fits hYH (show x + 1 ≤ W by omega)
          rw [← HN.out] at hfit
          obtain ⟨K, hK⟩ : ∃ K, K = Y * W + x := ⟨_, rfl⟩
          have hKN : K < N := by omega
          have e2 : (0 : Int) ≤ (Y : Int) * (W : Int) := Int.mul_nonneg (by omega) (by omega)
          have e3 : (Y : Int) * (W : Int) ≤ 12000 := by
            have := Nat.mul_le_mul (show Y ≤ 56 by have := HHH.out; omega) a2
            rw [← Int.natCast_mul]; omega
          have e4 : (Y : Int) * (W : Int) + (x : Int) = (K : Int) := by rw [hK, Int.natCast_add, Int.natCast_mul]
          have ht := PX.out.get hKN
          have hfz := PX.out.o.frozenAt K
          have HK := Lib.hid hK
          have hnl : (N : Int) ≤ 20000 := by have := HN.out; have := HNN.out; omega
          clear hK hfit
          go_wp2_with fail
          go_roundw
          case rel => exact ⟨x + 1, by omega, by go_num, Lib.hid (PX.out.store hne HGP.out hKN (by rw [HK.out, HY.out, putAt_here v W y x hltx, HF.out]) (fun i hi hne2 => putAt_else v W y x i hltx (by rw [← HY.out, ← HK.out]; exact hne2)))⟩
          case measure => simp [intOf]; omega
        · obtain rfl : x = W := by omega
          go_wp2_with fail
          go_roundw
          case rel => exact ⟨y + 1, by omega, by go_num, Lib.hid (PX.out.same (fun i _ => putAt_row v x y i a1))⟩
          case measure => simp [intOf]; omega
    · obtain rfl : y = L := by omega
      have BR := Lib.hid (B3.out.trans (PY.out.b.mono (show w.heap.size ≤ w1.heap.size by omega)))
      have hN0 := HN.out
      have ZP := Lib.hid (show ∀ j, j < W * H → wr.cell? ⟨gp, 0 + j, none⟩ = some (.bool (putAt v W y 0 j)) from fun j hj => by rw [Nat.zero_add]; exact PY.out.get (by omega))
      have ZE := Lib.hid (show ∀ j, j < W * H → putAt v W y 0 j = rowB y v ((j / W : Nat) : Int) from fun j _ => putAt_end v W y j)
      have QR := Lib.hid ((PY.out.b.block w.heap.size (by omega)).trans Q3.out)
      have PR := Lib.hid PY.out.h
      subst hN0
      clear B3 Q3 PY
      go_wp2_with fail
      refine (containsB_any gr orr y cr v wr (by omega) (fun j hj => cell_later BR.out (HR.out j hj))).mono ?_
      rintro e wc ⟨bq, rfl, hsb, hbc⟩
      have BC := Lib.hid (below_step BR.out hbc)
      have QC := Lib.hid (below_block hbc QR.out)
      have PC := Lib.hid (below_block hbc PR.out)
      have ZC := Lib.hid (fun j hj => cell_later hbc (ZP.out j hj))
      clear hbc BR QR PR ZP
      cases bq
      · clear hsb
        go_upto_region 22 with (fail)
        obtain ⟨p0, p1, p2, _, _, _⟩ := block3 QC.out
        have l0 := World.block_lt_of_cell? _ _ p0
        simp only at l0
        by_cases hE : pageErr a b k = 0
        · obtain ⟨Wb, Hb, rfl, rfl, rfl, w1, w2', h3, h4, hNb, he⟩ := page_nat hE
          have t3 : (pageErr Wb Hb (Wb * Hb) != 0) = false := by simpa using hE
          by_cases hw100 : (100 : Int) < (Wb : Int)
          · go_wp2_with (first | (go_at_call 25; refine (checkBits_any _ _ _ _ _ _).mono ?_; rintro e w' ⟨rfl, rfl⟩))
            go_ret
            exact ⟨rfl, below_alloc BC.out _⟩
          · by_cases hh60 : (60 : Int) < (Hb : Int)
            · go_wp2_with (first | (go_at_call 25; refine (checkBits_any _ _ _ _ _ _).mono ?_; rintro e w' ⟨rfl, rfl⟩))
              go_ret
              exact ⟨rfl, below_alloc BC.out _⟩
            · have hwb : Wb ≤ 100 := by omega
              have hhb : Hb ≤ 60 := by omega
              obtain ⟨gz, oz, rfl, hcz⟩ := isBools_cells HB.out (Nat.mul_pos w1 h3)
              obtain ⟨H2, hH2⟩ : ∃ H2, H2 = Hb + 20 := ⟨_, rfl⟩
              have eH2 : (Hb : Int) + 20 = (H2 : Int) := by omega
              have hs2 : sizeErr Wb H2 = 0 := by
                unfold sizeErr
                have : Wb * H2 ≤ 100 * 80 := Nat.mul_le_mul hwb (by omega)
                rw [if_neg (by omega), if_neg (by rw [← Int.natCast_mul]; omega)]
              have HCZ := Lib.hid hcz
              have HHE := Lib.hid he
              have HS2 := Lib.hid hs2
              have HH2 := Lib.hid hH2
              clear hcz he hs2 hH2 hE
              go_wp2_with (first | (go_at_call 25; refine (checkBits_any _ _ _ _ _ _).mono ?_; rintro e w' ⟨rfl, rfl⟩))
              obtain ⟨wd, hwd⟩ : ∃ wd, wd = wc.alloc (.cells #[.int .i64 Wb, .int .i64 Hb, .slice (some ⟨gz, oz, none⟩) (Wb * Hb) c] 40) := ⟨_, rfl⟩
              have hbd : Below wc.heap.size wc wd := by rw [hwd]; exact new_below _ _
              rw [← hwd]
              clear hwd
              have BD := Lib.hid (below_step BC.out hbd)
              have QD := Lib.hid (below_block hbd QC.out)
              have PD := Lib.hid (below_block hbd PC.out)
              clear hbd p0 p1 p2 l0
              refine (blank_ok Wb H2 wd HS2.out).mono ?_
              rintro e we ⟨v2, N2, rfl, hN2, hown2, hbe⟩
              obtain rfl : N2 = Wb * H2 := by rw [← Int.natCast_mul] at hN2; exact Int.ofNat.inj hN2
              obtain ⟨g2, c2, rfl, hg2, hz2⟩ : ∃ g2 c2, v2 = .slice (some ⟨g2, 0, none⟩) (Wb * H2) c2 ∧ wd.heap.size ≤ g2 ∧ ∀ j, j < Wb * H2 → we.cell? ⟨g2, 0 + j, none⟩ = some (.bool ((fun _ => false) j)) := by
                have hpos : 0 < Wb * H2 := Nat.mul_pos w1 (by have := HH2.out; omega)
                have hd := hown2.2
                rcases hd with ⟨_, h0⟩ | ⟨g2, c2, cur, h0, hgg, _⟩
                · omega
                · subst h0
                  exact ⟨g2, c2, rfl, hgg, fun j hj => by rw [Nat.zero_add, hown2.cellAt j (by omega), bitsOf_false, bitsOf_get _ _ _ hj]⟩
              have BE := Lib.hid (below_step BD.out hbe)
              have QE := Lib.hid (below_block hbe QD.out)
              obtain ⟨r0, r1, r2, f0, f1, f2⟩ := block3 (below_block hbe PD.out)
              have HZ2 := Lib.hid hz2
              have hlt := World.block_lt_of_cell? _ _ (PD.out |> fun h => (block3 h).1)
              simp only at hlt
              have HLT := Lib.hid hlt
              have HG2 := Lib.hid hg2
              clear hbe hown2 hN2 hz2 hg2 hlt BD QD PD
              go_upto_region 25 with (fail)
              obtain ⟨wf, hwf⟩ : ∃ wf, wf = ((we.setCell ⟨hb, 0, none⟩ (.int .i64 Wb)).setCell ⟨hb, 1, none⟩ (.int .i64 H2)).setCell ⟨hb, 2, none⟩ (.slice (some ⟨g2, 0, none⟩) (Wb * H2) c2) := ⟨_, rfl⟩
              have BF := Lib.hid (show Below w.heap.size w wf by rw [hwf]; exact below_far3 BE.out HHB.out.1)
              have s0 : wf.cell? ⟨hb, 0, none⟩ = some (.int .i64 Wb) := by rw [hwf]; go_simp
              have s1 : wf.cell? ⟨hb, 1, none⟩ = some (.int .i64 H2) := by rw [hwf]; go_simp
              have s2 : wf.cell? ⟨hb, 2, none⟩ = some (.slice (some ⟨g2, 0, none⟩) (Wb * H2) c2) := by rw [hwf]; go_simp
              have HZF := Lib.hid (show ∀ j, j < Wb * H2 → wf.cell? ⟨g2, 0 + j, none⟩ = some (.bool ((fun _ => false) j)) by
                intro j hj
                rw [hwf]
                exact cell_far3 (show g2 ≠ hb by have := HLT.out; have := HG2.out; omega) (HZ2.out j hj))
              have QF := Lib.hid (show wf.heap[w.heap.size]? = some (.cells #[.int .i64 Wb, .int .i64 Hb, .slice (some ⟨gz, oz, none⟩) (Wb * Hb) c] 40 (0, 0)) by
                rw [hwf, Below.heap_setCell _ _ _ _ (by have := HHB.out.2; simp; omega), Below.heap_setCell _ _ _ _ (by have := HHB.out.2; simp; omega), Below.heap_setCell _ _ _ _ (by have := HHB.out.2; simp; omega)]
                exact QE.out)
              rw [← hwf]
              clear hwf r0 r1 r2 f0 f1 f2 BE QE HZ2
              obtain ⟨p0, p1, p2, _, _, _⟩ := block3 QF.out
              go_wp2_with fail
              refine (paste_ok Wb H2 Wb Hb (Wb * H2) (Wb * Hb) g2 0 c2 gz oz c 0 10 (fun _ => false) z wf HS2.out HHE.out rfl rfl HZF.out (fun j hj => cell_later BF.out (HCZ.out j hj))).mono ?_
              rintro e wg ⟨gc, cc, rfl, _, hzc, hbg⟩
              have BG := Lib.hid (below_step BF.out hbg)
              have HZG := Lib.hid (show ∀ j, j < Wb * H2 → wg.cell? ⟨gc, 0 + j, none⟩ = some (.bool (padZ Wb Hb z j)) from hzc)
              clear hzc hbg p0 p1 p2 s0 s1 s2 HZF QF BF
              go_upto_region 26 with (fail)
              obtain ⟨wh, hwh⟩ : ∃ wh, wh = wg.alloc (.cells #[.int .i64 Wb, .int .i64 H2, .slice (some ⟨gc, 0, none⟩) (Wb * H2) cc] 40) := ⟨_, rfl⟩
              have hbh : Below wg.heap.size wg wh := by rw [hwh]; exact new_below _ _
              have xh : wh.heap[wg.heap.size]? = some (.cells #[.int .i64 Wb, .int .i64 H2, .slice (some ⟨gc, 0, none⟩) (Wb * H2) cc] 40 (0, 0)) := by rw [hwh]; exact heap_alloc_new _ _
              rw [← hwh]
              clear hwh
              have BH := Lib.hid (below_step BG.out hbh)
              have HZH := Lib.hid (fun j hj => cell_later hbh (HZG.out j hj))
              have XH := Lib.hid xh
              obtain ⟨p0, p1, p2, _, _, _⟩ := block3 xh
              clear hbh xh BG HZG
              go_wp2_with fail
              refine (leanS_any Wb H2 gc 0 cc n (padZ Wb Hb z) wh HS2.out (by omega) HZH.out).mono ?_
              rintro e wi ⟨gq, cq, rfl, hzq, hbi⟩
              have BI := Lib.hid (below_step BH.out hbi)
              have HZI := Lib.hid (fun j hj => cell_later hbi (HZH.out j hj))
              have XI := Lib.hid (below_block hbi XH.out)
              have HQI := Lib.hid hzq
              clear hzq hbi BH HZH XH p0 p1 p2
              go_upto_region 27 with (fail)
              obtain ⟨wj, hwj⟩ : ∃ wj, wj = wi.alloc (.cells #[.int .i64 Wb, .int .i64 H2, .slice (some ⟨gq, 0, none⟩) (Wb * H2) cq] 40) := ⟨_, rfl⟩
              have hbj : Below wi.heap.size wi wj := by rw [hwj]; exact new_below _ _
              have xj : wj.heap[wi.heap.size]? = some (.cells #[.int .i64 Wb, .int .i64 H2, .slice (some ⟨gq, 0, none⟩) (Wb * H2) cq] 40 (0, 0)) := by rw [hwj]; exact heap_alloc_new _ _
              rw [← hwj]
              clear hwj
              have BJ := Lib.hid (below_step BI.out hbj)
              have HZJ := Lib.hid (fun j hj => cell_later hbj (HZI.out j hj))
              have HQJ := Lib.hid (fun j hj => cell_later hbj (HQI.out j hj))
              have XJ := Lib.hid (below_block hbj XI.out)
              obtain ⟨p0, p1, p2, _, _, _⟩ := block3 xj
              clear hbj xj BI HZI XI HQI
              go_wp2_with fail
              refine (leanS_any Wb H2 gq 0 cq (-n) (leanZ Wb H2 (padZ Wb Hb z) n) wj HS2.out (by omega) HQJ.out).mono ?_
              rintro e wk ⟨gr2, cr2, rfl, hzr, hbk⟩
              have BK := Lib.hid (below_step BJ.out hbk)
              have HZK := Lib.hid (fun j hj => cell_later hbk (HZJ.out j hj))
              have XK := Lib.hid (below_block hbk XJ.out)
              have HRK := Lib.hid (show ∀ j, j < Wb * H2 → wk.cell? ⟨gr2, 0 + j, none⟩ = some (.bool (padZ Wb Hb z j)) by
                intro j hj
                rw [hzr j hj]
                have e := HH2.out
                subst e
                rw [pad_back (by omega) (by omega) j hj])
              clear hzr hbk BJ HZJ XJ HQJ p0 p1 p2
              go_upto_region 28 with (fail)
              obtain ⟨wl, hwl⟩ : ∃ wl, wl = wk.alloc (.cells #[.int .i64 Wb, .int .i64 H2, .slice (some ⟨gr2, 0, none⟩) (Wb * H2) cr2] 40) := ⟨_, rfl⟩
              have hbl : Below wk.heap.size wk wl := by rw [hwl]; exact new_below _ _
              have xl : wl.heap[wk.heap.size]? = some (.cells #[.int .i64 Wb, .int .i64 H2, .slice (some ⟨gr2, 0, none⟩) (Wb * H2) cr2] 40 (0, 0)) := by rw [hwl]; exact heap_alloc_new _ _
              rw [← hwl]
              clear hwl
              have BL := Lib.hid (below_step BK.out hbl)
              have HZL := Lib.hid (fun j hj => cell_later hbl (HZK.out j hj))
              have HRL := Lib.hid (fun j hj => cell_later hbl (HRK.out j hj))
              obtain ⟨p0, p1, p2, _, _, _⟩ := block3 (below_block hbl XK.out)
              obtain ⟨q0, q1, q2, _, _, _⟩ := block3 xl
              clear hbl xl BK HZK XK HRK
              go_wp2_with fail
              refine (sameT_true Wb H2 gc 0 gr2 0 (Wb * H2) cc cr2 (padZ Wb Hb z) wl (by have : Wb * H2 ≤ 100 * 80 := Nat.mul_le_mul hwb (by have := HH2.out; omega)
                                                                                         omega) HZL.out HRL.out).mono ?_
              rintro e wm ⟨rfl, hbm⟩
              have G := Lib.hid (below_step BL.out hbm)
              clear hbm
              go_wp2_with fail
              go_ret
              exact ⟨rfl, G.out⟩
        · have t3 : (pageErr a b k != 0) = true := by simpa using hE
          clear hE
          go_wp2_with (first | (go_at_call 25; refine (checkBits_any _ _ _ _ _ _).mono ?_; rintro e w' ⟨rfl, rfl⟩))
          go_ret
          exact ⟨rfl, below_alloc BC.out _⟩

      · have hex : ∃ a, a < y ∧ v a = true := by
          rcases hsb with ⟨h, _⟩ | ⟨_, h⟩
          · cases h
          · exact h
        have HEX := Lib.hid hex
        clear hsb hex
        obtain ⟨p0, p1, p2, _, _, _⟩ := block3 PC.out
        go_wp2_with fail
        refine (leanS_any W H gp 0 cp n (putAt v W y 0) wc HSZ.out (by omega) ZC.out).mono ?_
        rintro e w4 ⟨gx, cx, rfl, hx4, hb4⟩
        have B4 := Lib.hid (below_step BC.out hb4)
        have Q4 := Lib.hid (below_block hb4 QC.out)
        have P4 := Lib.hid (below_block hb4 PC.out)
        have Z4 := Lib.hid (fun j hj => cell_later hb4 (ZC.out j hj))
        have X4 := Lib.hid hx4
        clear hb4 hx4 BC QC PC ZC p0 p1 p2
        go_upto_region 19 with (fail)
        obtain ⟨w5, hw5⟩ : ∃ w5, w5 = w4.alloc (.cells #[.int .i64 W, .int .i64 H, .slice (some ⟨gx, 0, none⟩) (W * H) cx] 40) := ⟨_, rfl⟩
        have hb5 : Below w4.heap.size w4 w5 := by rw [hw5]; exact new_below _ _
        have x5 : w5.heap[w4.heap.size]? = some (.cells #[.int .i64 W, .int .i64 H, .slice (some ⟨gx, 0, none⟩) (W * H) cx] 40 (0, 0)) := by rw [hw5]; exact heap_alloc_new _ _
        rw [← hw5]
        clear hw5
        have B5 := Lib.hid (below_step B4.out hb5)
        have Q5 := Lib.hid (below_block hb5 Q4.out)
        have P5 := Lib.hid (below_block hb5 P4.out)
        have Z5 := Lib.hid (fun j hj => cell_later hb5 (Z4.out j hj))
        have X5 := Lib.hid (fun j hj => cell_later hb5 (X4.out j hj))
        obtain ⟨p0, p1, p2, _, _, _⟩ := block3 x5
        obtain ⟨m, hm⟩ : ∃ m : Nat, m = n.natAbs := ⟨_, rfl⟩
        have em : max n (-n) = (m : Int) := by omega
        have m1 : -(m : Int) ≤ n ∧ n ≤ m := by omega
        have m2 : m ≤ 64 := by omega
        have HM1 := Lib.hid m1
        clear hb5 x5 B4 Q4 P4 Z4 X4 hm m1
        go_wp2_with fail
        refine (straight_ok W H gx 0 cx m (leanZ W H (putAt v W y 0) n) w5 HSZ.out (by omega) (rowB_ink a1 a2 ⟨n1, n2⟩ HHH.out ZE.out HEX.out) X5.out (isBools_here X5.out)).mono ?_
        rintro e w6 ⟨gy, cy, rfl, hy6, hb6⟩
        obtain ⟨F, hF⟩ : ∃ F, F = (bestUp (scoreV (inkQ (leanZ W H (putAt v W y 0) n) W) W H) m).1 := ⟨_, rfl⟩
        have hy6' : ∀ j, j < W * H → w6.cell? ⟨gy, 0 + j, none⟩ = some (.bool (putAt v W y 0 j)) := fun j hj => by
          rw [hy6 j hj, rows_back a1 a2 ⟨n1, n2⟩ HM1.out m2 HHH.out ZE.out HEX.out j hj]
        rw [← hF]
        have B6 := Lib.hid (below_step B5.out hb6)
        have Q6 := Lib.hid (below_block hb6 Q5.out)
        have P6 := Lib.hid (below_block hb6 P5.out)
        have Z6 := Lib.hid (fun j hj => cell_later hb6 (Z5.out j hj))
        have Y6 := Lib.hid hy6'
        clear hb6 hy6 hy6' hF B5 Q5 P5 Z5 X5 p0 p1 p2
        go_upto_region 20 with (fail)
        obtain ⟨w7, hw7⟩ : ∃ w7, w7 = w6.alloc (.cells #[.int .i64 W, .int .i64 H, .slice (some ⟨gy, 0, none⟩) (W * H) cy] 40) := ⟨_, rfl⟩
        have hb7 : Below w6.heap.size w6 w7 := by rw [hw7]; exact new_below _ _
        have x7 : w7.heap[w6.heap.size]? = some (.cells #[.int .i64 W, .int .i64 H, .slice (some ⟨gy, 0, none⟩) (W * H) cy] 40 (0, 0)) := by rw [hw7]; exact heap_alloc_new _ _
        rw [← hw7]
        clear hw7
        have B7 := Lib.hid (below_step B6.out hb7)
        have Q7 := Lib.hid (below_block hb7 Q6.out)
        have P7 := Lib.hid (below_block hb7 P6.out)
        have Z7 := Lib.hid (fun j hj => cell_later hb7 (Z6.out j hj))
        have Y7 := Lib.hid (fun j hj => cell_later hb7 (Y6.out j hj))
        obtain ⟨q0, q1, q2, _, _, _⟩ := block3 x7
        obtain ⟨p0, p1, p2, _, _, _⟩ := block3 P7.out
        clear hb7 x7 B6 Q6 P6 Z6 Y6
        go_wp2_with fail
        refine (sameT_true W H gp 0 gy 0 (W * H) cp cy (putAt v W y 0) w7 (by have := HNN.out; omega) Z7.out Y7.out).mono ?_
        rintro e w8 ⟨rfl, hb8⟩
        have B8 := Lib.hid (below_step B7.out hb8)
        have Q8 := Lib.hid (below_block hb8 Q7.out)
        have P8 := Lib.hid (below_block hb8 P7.out)
        clear hb8 B7 Q7 P7 Z7 Y7 p0 p1 p2 q0 q1 q2
        go_upto_region 22 with (fail)
        obtain ⟨p0, p1, p2, _, _, _⟩ := block3 Q8.out
        have l0 := World.block_lt_of_cell? _ _ p0
        simp only at l0
        by_cases hE : pageErr a b k = 0
        · obtain ⟨Wb, Hb, rfl, rfl, rfl, w1, w2', h3, h4, hNb, he⟩ := page_nat hE
          have t3 : (pageErr Wb Hb (Wb * Hb) != 0) = false := by simpa using hE
          by_cases hw100 : (100 : Int) < (Wb : Int)
          · go_wp2_with (first | (go_at_call 25; refine (checkBits_any _ _ _ _ _ _).mono ?_; rintro e w' ⟨rfl, rfl⟩))
            go_ret
            exact ⟨rfl, below_alloc B8.out _⟩
          · by_cases hh60 : (60 : Int) < (Hb : Int)
            · go_wp2_with (first | (go_at_call 25; refine (checkBits_any _ _ _ _ _ _).mono ?_; rintro e w' ⟨rfl, rfl⟩))
              go_ret
              exact ⟨rfl, below_alloc B8.out _⟩
            · have hwb : Wb ≤ 100 := by omega
              have hhb : Hb ≤ 60 := by omega
              obtain ⟨gz, oz, rfl, hcz⟩ := isBools_cells HB.out (Nat.mul_pos w1 h3)
              obtain ⟨H2, hH2⟩ : ∃ H2, H2 = Hb + 20 := ⟨_, rfl⟩
              have eH2 : (Hb : Int) + 20 = (H2 : Int) := by omega
              have hs2 : sizeErr Wb H2 = 0 := by
                unfold sizeErr
                have : Wb * H2 ≤ 100 * 80 := Nat.mul_le_mul hwb (by omega)
                rw [if_neg (by omega), if_neg (by rw [← Int.natCast_mul]; omega)]
              have HCZ := Lib.hid hcz
              have HHE := Lib.hid he
              have HS2 := Lib.hid hs2
              have HH2 := Lib.hid hH2
              clear hcz he hs2 hH2 hE
              go_wp2_with (first | (go_at_call 25; refine (checkBits_any _ _ _ _ _ _).mono ?_; rintro e w' ⟨rfl, rfl⟩))
              obtain ⟨wd, hwd⟩ : ∃ wd, wd = w8.alloc (.cells #[.int .i64 Wb, .int .i64 Hb, .slice (some ⟨gz, oz, none⟩) (Wb * Hb) c] 40) := ⟨_, rfl⟩
              have hbd : Below w8.heap.size w8 wd := by rw [hwd]; exact new_below _ _
              rw [← hwd]
              clear hwd
              have BD := Lib.hid (below_step B8.out hbd)
              have QD := Lib.hid (below_block hbd Q8.out)
              have PD := Lib.hid (below_block hbd P8.out)
              clear hbd p0 p1 p2 l0
              refine (blank_ok Wb H2 wd HS2.out).mono ?_
              rintro e we ⟨v2, N2, rfl, hN2, hown2, hbe⟩
              obtain rfl : N2 = Wb * H2 := by rw [← Int.natCast_mul] at hN2; exact Int.ofNat.inj hN2
              obtain ⟨g2, c2, rfl, hg2, hz2⟩ : ∃ g2 c2, v2 = .slice (some ⟨g2, 0, none⟩) (Wb * H2) c2 ∧ wd.heap.size ≤ g2 ∧ ∀ j, j < Wb * H2 → we.cell? ⟨g2, 0 + j, none⟩ = some (.bool ((fun _ => false) j)) := by
                have hpos : 0 < Wb * H2 := Nat.mul_pos w1 (by have := HH2.out; omega)
                have hd := hown2.2
                rcases hd with ⟨_, h0⟩ | ⟨g2, c2, cur, h0, hgg, _⟩
                · omega
                · subst h0
                  exact ⟨g2, c2, rfl, hgg, fun j hj => by rw [Nat.zero_add, hown2.cellAt j (by omega), bitsOf_false, bitsOf_get _ _ _ hj]⟩
              have BE := Lib.hid (below_step BD.out hbe)
              have QE := Lib.hid (below_block hbe QD.out)
              obtain ⟨r0, r1, r2, f0, f1, f2⟩ := block3 (below_block hbe PD.out)
              have HZ2 := Lib.hid hz2
              have hlt := World.block_lt_of_cell? _ _ (PD.out |> fun h => (block3 h).1)
              simp only at hlt
              have HLT := Lib.hid hlt
              have HG2 := Lib.hid hg2
              clear hbe hown2 hN2 hz2 hg2 hlt BD QD PD
              go_upto_region 25 with (fail)
              obtain ⟨wf, hwf⟩ : ∃ wf, wf = ((we.setCell ⟨hb, 0, none⟩ (.int .i64 Wb)).setCell ⟨hb, 1, none⟩ (.int .i64 H2)).setCell ⟨hb, 2, none⟩ (.slice (some ⟨g2, 0, none⟩) (Wb * H2) c2) := ⟨_, rfl⟩
              have BF := Lib.hid (show Below w.heap.size w wf by rw [hwf]; exact below_far3 BE.out HHB.out.1)
              have s0 : wf.cell? ⟨hb, 0, none⟩ = some (.int .i64 Wb) := by rw [hwf]; go_simp
              have s1 : wf.cell? ⟨hb, 1, none⟩ = some (.int .i64 H2) := by rw [hwf]; go_simp
              have s2 : wf.cell? ⟨hb, 2, none⟩ = some (.slice (some ⟨g2, 0, none⟩) (Wb * H2) c2) := by rw [hwf]; go_simp
              have HZF := Lib.hid (show ∀ j, j < Wb * H2 → wf.cell? ⟨g2, 0 + j, none⟩ = some (.bool ((fun _ => false) j)) by
                intro j hj
                rw [hwf]
                exact cell_far3 (show g2 ≠ hb by have := HLT.out; have := HG2.out; omega) (HZ2.out j hj))
              have QF := Lib.hid (show wf.heap[w.heap.size]? = some (.cells #[.int .i64 Wb, .int .i64 Hb, .slice (some ⟨gz, oz, none⟩) (Wb * Hb) c] 40 (0, 0)) by
                rw [hwf, Below.heap_setCell _ _ _ _ (by have := HHB.out.2; simp; omega), Below.heap_setCell _ _ _ _ (by have := HHB.out.2; simp; omega), Below.heap_setCell _ _ _ _ (by have := HHB.out.2; simp; omega)]
                exact QE.out)
              rw [← hwf]
              clear hwf r0 r1 r2 f0 f1 f2 BE QE HZ2
              obtain ⟨p0, p1, p2, _, _, _⟩ := block3 QF.out
              go_wp2_with fail
              refine (paste_ok Wb H2 Wb Hb (Wb * H2) (Wb * Hb) g2 0 c2 gz oz c 0 10 (fun _ => false) z wf HS2.out HHE.out rfl rfl HZF.out (fun j hj => cell_later BF.out (HCZ.out j hj))).mono ?_
              rintro e wg ⟨gc, cc, rfl, _, hzc, hbg⟩
              have BG := Lib.hid (below_step BF.out hbg)
              have HZG := Lib.hid (show ∀ j, j < Wb * H2 → wg.cell? ⟨gc, 0 + j, none⟩ = some (.bool (padZ Wb Hb z j)) from hzc)
              clear hzc hbg p0 p1 p2 s0 s1 s2 HZF QF BF
              go_upto_region 26 with (fail)
              obtain ⟨wh, hwh⟩ : ∃ wh, wh = wg.alloc (.cells #[.int .i64 Wb, .int .i64 H2, .slice (some ⟨gc, 0, none⟩) (Wb * H2) cc] 40) := ⟨_, rfl⟩
              have hbh : Below wg.heap.size wg wh := by rw [hwh]; exact new_below _ _
              have xh : wh.heap[wg.heap.size]? = some (.cells #[.int .i64 Wb, .int .i64 H2, .slice (some ⟨gc, 0, none⟩) (Wb * H2) cc] 40 (0, 0)) := by rw [hwh]; exact heap_alloc_new _ _
              rw [← hwh]
              clear hwh
              have BH := Lib.hid (below_step BG.out hbh)
              have HZH := Lib.hid (fun j hj => cell_later hbh (HZG.out j hj))
              have XH := Lib.hid xh
              obtain ⟨p0, p1, p2, _, _, _⟩ := block3 xh
              clear hbh xh BG HZG
              go_wp2_with fail
              refine (leanS_any Wb H2 gc 0 cc n (padZ Wb Hb z) wh HS2.out (by omega) HZH.out).mono ?_
              rintro e wi ⟨gq, cq, rfl, hzq, hbi⟩
              have BI := Lib.hid (below_step BH.out hbi)
              have HZI := Lib.hid (fun j hj => cell_later hbi (HZH.out j hj))
              have XI := Lib.hid (below_block hbi XH.out)
              have HQI := Lib.hid hzq
              clear hzq hbi BH HZH XH p0 p1 p2
              go_upto_region 27 with (fail)
              obtain ⟨wj, hwj⟩ : ∃ wj, wj = wi.alloc (.cells #[.int .i64 Wb, .int .i64 H2, .slice (some ⟨gq, 0, none⟩) (Wb * H2) cq] 40) := ⟨_, rfl⟩
              have hbj : Below wi.heap.size wi wj := by rw [hwj]; exact new_below _ _
              have xj : wj.heap[wi.heap.size]? = some (.cells #[.int .i64 Wb, .int .i64 H2, .slice (some ⟨gq, 0, none⟩) (Wb * H2) cq] 40 (0, 0)) := by rw [hwj]; exact heap_alloc_new _ _
              rw [← hwj]
              clear hwj
              have BJ := Lib.hid (below_step BI.out hbj)
              have HZJ := Lib.hid (fun j hj => cell_later hbj (HZI.out j hj))
              have HQJ := Lib.hid (fun j hj => cell_later hbj (HQI.out j hj))
              have XJ := Lib.hid (below_block hbj XI.out)
              obtain ⟨p0, p1, p2, _, _, _⟩ := block3 xj
              clear hbj xj BI HZI XI HQI
              go_wp2_with fail
              refine (leanS_any Wb H2 gq 0 cq (-n) (leanZ Wb H2 (padZ Wb Hb z) n) wj HS2.out (by omega) HQJ.out).mono ?_
              rintro e wk ⟨gr2, cr2, rfl, hzr, hbk⟩
              have BK := Lib.hid (below_step BJ.out hbk)
              have HZK := Lib.hid (fun j hj => cell_later hbk (HZJ.out j hj))
              have XK := Lib.hid (below_block hbk XJ.out)
              have HRK := Lib.hid (show ∀ j, j < Wb * H2 → wk.cell? ⟨gr2, 0 + j, none⟩ = some (.bool (padZ Wb Hb z j)) by
                intro j hj
                rw [hzr j hj]
                have e := HH2.out
                subst e
                rw [pad_back (by omega) (by omega) j hj])
              clear hzr hbk BJ HZJ XJ HQJ p0 p1 p2
              go_upto_region 28 with (fail)
              obtain ⟨wl, hwl⟩ : ∃ wl, wl = wk.alloc (.cells #[.int .i64 Wb, .int .i64 H2, .slice (some ⟨gr2, 0, none⟩) (Wb * H2) cr2] 40) := ⟨_, rfl⟩
              have hbl : Below wk.heap.size wk wl := by rw [hwl]; exact new_below _ _
              have xl : wl.heap[wk.heap.size]? = some (.cells #[.int .i64 Wb, .int .i64 H2, .slice (some ⟨gr2, 0, none⟩) (Wb * H2) cr2] 40 (0, 0)) := by rw [hwl]; exact heap_alloc_new _ _
              rw [← hwl]
              clear hwl
              have BL := Lib.hid (below_step BK.out hbl)
              have HZL := Lib.hid (fun j hj => cell_later hbl (HZK.out j hj))
              have HRL := Lib.hid (fun j hj => cell_later hbl (HRK.out j hj))
              obtain ⟨p0, p1, p2, _, _, _⟩ := block3 (below_block hbl XK.out)
              obtain ⟨q0, q1, q2, _, _, _⟩ := block3 xl
              clear hbl xl BK HZK XK HRK
              go_wp2_with fail
              refine (sameT_true Wb H2 gc 0 gr2 0 (Wb * H2) cc cr2 (padZ Wb Hb z) wl (by have : Wb * H2 ≤ 100 * 80 := Nat.mul_le_mul hwb (by have := HH2.out; omega)
                                                                                         omega) HZL.out HRL.out).mono ?_
              rintro e wm ⟨rfl, hbm⟩
              have G := Lib.hid (below_step BL.out hbm)
              clear hbm
              go_wp2_with fail
              go_ret
              exact ⟨rfl, G.out⟩
        · have t3 : (pageErr a b k != 0) = true := by simpa using hE
          clear hE
          go_wp2_with (first | (go_at_call 25; refine (checkBits_any _ _ _ _ _ _).mono ?_; rintro e w' ⟨rfl, rfl⟩))
          go_ret
          exact ⟨rfl, below_alloc B8.out _⟩

end Go.Proofs.Ytofcojcfcpfdmaa
namespace Go.Proofs.Ytofcojcfcpfdmaa
open Go.RowKit
set_option linter.unusedSimpArgs false
set_option linter.unusedVariables false

set_option maxHeartbeats 800000 in
set_option maxRecDepth 100000 in
theorem topStraight_out (m n : Int) (s1 : Option Addr) (n1 c1 : Nat) (a b : Int) (s : Option Addr) (k c : Nat) (w : World) (h : m < 1 ∨ 200 < m ∨ (n1 : Int) < 1 ∨ 40 < (n1 : Int) ∨ n < -64 ∨ 64 < n) :
    Calls Try.prog 4 #[.int .i64 m, .slice s1 n1 c1, .agg #[.int .i64 a, .int .i64 b, .slice s k c], .int .i64 n] w fun e w' => e = .returned (.bool true) ∧ Below w.heap.size w w' := by
  by_cases h1 : m < 1
  · clear h
    go_enter Try.func4, Try.ntmps4
    go_wp2_with (first | (go_at_call 19; refine (landedT_any _).mono ?_; rintro e w' ⟨rfl, rfl⟩))
    go_ret
    exact ⟨rfl, new_below _ _⟩
  by_cases h2 : 200 < m
  · clear h
    go_enter Try.func4, Try.ntmps4
    go_wp2_with (first | (go_at_call 19; refine (landedT_any _).mono ?_; rintro e w' ⟨rfl, rfl⟩))
    go_ret
    exact ⟨rfl, new_below _ _⟩
  by_cases h3 : (n1 : Int) < 1
  · clear h
    go_enter Try.func4, Try.ntmps4
    go_wp2_with (first | (go_at_call 19; refine (landedT_any _).mono ?_; rintro e w' ⟨rfl, rfl⟩))
    go_ret
    exact ⟨rfl, new_below _ _⟩
  by_cases h4 : 40 < (n1 : Int)
  · clear h
    go_enter Try.func4, Try.ntmps4
    go_wp2_with (first | (go_at_call 19; refine (landedT_any _).mono ?_; rintro e w' ⟨rfl, rfl⟩))
    go_ret
    exact ⟨rfl, new_below _ _⟩
  by_cases h5 : n < -64
  · clear h
    go_enter Try.func4, Try.ntmps4
    go_wp2_with (first | (go_at_call 19; refine (landedT_any _).mono ?_; rintro e w' ⟨rfl, rfl⟩))
    go_ret
    exact ⟨rfl, new_below _ _⟩
  have h6 : 64 < n := by omega
  clear h
  go_enter Try.func4, Try.ntmps4
  go_wp2_with (first | (go_at_call 19; refine (landedT_any _).mono ?_; rintro e w' ⟨rfl, rfl⟩))
  go_ret
  exact ⟨rfl, new_below _ _⟩

theorem topStraight_any (m n : Int) (s1 : Option Addr) (n1 c1 : Nat) (v : Nat → Bool) (a b : Int) (s : Option Addr) (k c : Nat) (z : Nat → Bool) (w : World) (hv : IsBools w s1 n1 c1 v) (hs : IsBools w s k c z) :
    Calls Try.prog 4 #[.int .i64 m, .slice s1 n1 c1, .agg #[.int .i64 a, .int .i64 b, .slice s k c], .int .i64 n] w fun e w' => e = .returned (.bool true) ∧ Below w.heap.size w w' := by
  by_cases h : m < 1 ∨ 200 < m ∨ (n1 : Int) < 1 ∨ 40 < (n1 : Int) ∨ n < -64 ∨ 64 < n
  · exact topStraight_out m n s1 n1 c1 a b s k c w h
  · obtain ⟨W, rfl⟩ := Int.eq_ofNat_of_zero_le (show 0 ≤ m by omega)
    obtain ⟨g, o, rfl, hr⟩ := isBools_cells hv (by omega)
    exact topStraight_main W n1 g o c1 v a b n s k c z w (by omega) (by omega) (by omega) (by omega) (by omega) (by omega) hr hs

end Go.Proofs.Ytofcojcfcpfdmaa
namespace Go.Proofs.Ytofcojcfcpfdmaa
open Go.ChangeShapes Go.WideShapes Go.ChangeAt Go.RowKit Go.Joins
open Go.ChangeMaps (open_string shut_string)
set_option linter.unusedVariables false

set_option maxRecDepth 100000 in
theorem open_boolsN {W : World} {H : Type} {enc : TypeId × Value → H} {base : Nat} {held : Bool} {r : Reach} {b0 : Nat} {v : Value} {d : DataW H} {p : List MemPlace}
    (hv : Value.okWide Try.prog W r b0 38 v) (h : DataW.Trod enc Try.prog W base (fun _ => true) held 38 v d p) :
    ∃ s n c B, v = .slice s n c ∧ IsBools W s n c B ∧ n ≤ 9223372036854775807 := by
  obtain ⟨a1, len, cap, rfl⟩ := okWide_slice Try.underlying38 hv
  obtain ⟨fuel, hf⟩ := h
  rcases Go.Deep.open_bools Try.underlying38 Try.underlying4 cellsBool hf with ⟨hcs, _⟩ | ⟨x, l, c, B, hcs, _, hl, hm, _, hcell⟩
  · simp [Value.cells] at hcs
    obtain ⟨rfl, rfl, rfl⟩ := hcs
    exact ⟨none, 0, 0, fun _ => false, rfl, .inl ⟨rfl, rfl, rfl⟩, by decide⟩
  · simp [Value.cells] at hcs
    obtain ⟨rfl, rfl, rfl⟩ := hcs
    exact ⟨some x, _, _, B, rfl, .inr ⟨x, rfl, fun i hi => hcell i (by omega)⟩, by unfold maxLen at hm; omega⟩

end Go.Proofs.Ytofcojcfcpfdmaa
namespace Go.Proofs.Ytofcojcfcpfdmaa
open Go.ChangeShapes Go.WideShapes Go.ChangeAt Go.RowKit Go.Joins
open Go.ChangeMaps (open_string shut_string)
set_option linter.unusedVariables false

set_option maxRecDepth 100000 in
theorem top_straight_lifted (os : Os) (started : os.Started) (H : Type) (enc : TypeId × Value → H) :
    ReturnsInHanded {} Try.checked os 4 .any (Rows.topStraightSpec.pre6 enc Try.prog Try.f4 Rows.topStraightRow.domain false) (Rows.topStraightSpec.post enc Try.prog Try.f4 false true false false) := by
  refine returnsInHanded_of_change (C := Try.checked) own started (by kernel_rfl) Try.func4
    (ChangeSpec.witness6 (enc := enc) (C := Try.checked) false ⟨#[], #[.int .i64 0, .slice none 0 0, .agg #[.int .i64 0, .int .i64 0, .slice none 0 0], .int .i64 0], []⟩ 8 (by kernel_rfl) (by kernel_rfl) (by kernel_rfl) (by kernel_rfl)) ?_
  intro W base args ds gs before hval0 hW hcnd _
  have hval : ∀ (j : Nat) t v, Try.f4.params[j]? = some t → args[j]? = some v → Value.okWide Try.prog W .any base t v := hval0
  have hW' := hW
  obtain ⟨p, q, hA0, hV, rfl, hfz, hnd⟩ := hW
  have hA : DataW.TrodAll enc Try.prog W 0 (fun _ => true) true Try.f4.params.toList args.toList ds p := hA0
  rw [Try.params4] at hA hval
  obtain ⟨v0, vs0, d0, ds0, p0, q0, hargs, rfl, rfl, h0, r0⟩ := trodAll_cons hA
  obtain ⟨v1, vs1, d1, ds1, p1, q1, rfl, rfl, rfl, h1, r1⟩ := trodAll_cons r0
  obtain ⟨v2, vs2, d2, ds2, p2, q2, rfl, rfl, rfl, h2, r2⟩ := trodAll_cons r1
  obtain ⟨v3, vs3, d3, ds3, p3, q3, rfl, rfl, rfl, h3, r3⟩ := trodAll_cons r2
  obtain ⟨rfl, rfl, rfl⟩ := trodAll_nil r3
  obtain rfl : args = #[v0, v1, v2, v3] := by cases args; simp_all
  obtain ⟨rfl, rfl⟩ := trodVars_none hV
  have k1 := h1
  have lt1 : ∀ x ∈ p1, x.block < W.heap.size := by obtain ⟨m, hm⟩ := k1; exact DataW.trod_lt m _ _ _ hm
  have k2 := h2
  have lt2 : ∀ x ∈ p2, x.block < W.heap.size := by obtain ⟨m, hm⟩ := k2; exact DataW.trod_lt m _ _ _ hm
  obtain ⟨m0, rfl, rfl, rfl, w0⟩ := open_int Try.underlying3 (hval 0 3 v0 rfl rfl) h0
  obtain ⟨s1, n1, c1, z1, rfl, hs1, hn1⟩ := open_boolsN (hval 1 38 v1 rfl rfl) h1
  obtain ⟨a2, b2, s2, n2, c2, z2, rfl, hs2, hn2⟩ := open_bitsN (hval 2 40 v2 rfl rfl) h2
  obtain ⟨m3, rfl, rfl, rfl, w3⟩ := open_int Try.underlying3 (hval 3 3 v3 rfl rfl) h3
  clear hA0 hval0
  refine (topStraight_any m0 m3 s1 n1 c1 z1 a2 b2 s2 n2 c2 z2 W hs1 hs2).mono fun e W' ⟨he, bel⟩ => ?_
  subst he
  exact ⟨_, rfl, _, _, _, [], _, [], hW', trodAll_mk1 (shut_bool Try.underlying4 _), (trodAll_cons_mk (shut_int Try.underlying3 w0) (trodAll_cons_mk (Below.trod laidOut (by kernel_rfl) (of_decide_eq_true (by kernel_rfl)) k1 bel lt1) (trodAll_cons_mk (Below.trod laidOut (by kernel_rfl) (of_decide_eq_true (by kernel_rfl)) k2 bel lt2) (trodAll_cons_mk (shut_int Try.underlying3 w3) trodAll_mk0)))), rfl, bel.frame _, fun h => by cases h⟩

theorem top_straight_over : Rows.topStraightRow.holds Try.pinned (OpenSpec.ofChange Rows.topStraightSpec) :=
  OpenClaim.holds_of_wide 4 Try.f4 rfl rfl rfl rfl rfl rfl rfl ⟨rfl, rfl, rfl, rfl, rfl⟩ rfl rfl rfl rfl rfl (by kernel_rfl) Try.func4 (by kernel_rfl)
    (of_decide_eq_true (by kernel_rfl)) (by unfold Func.isWrapper; first | (rw [if_pos (by decide +kernel)]; kernel_rfl) | (rw [if_neg (by decide +kernel)]; exact ⟨rfl, rfl⟩))
    (fun os started H enc _ => top_straight_lifted os started H enc)

theorem top_straight_holds : Rows.TopStraightSaid := top_straight_over
end Go.Proofs.Ytofcojcfcpfdmaa
