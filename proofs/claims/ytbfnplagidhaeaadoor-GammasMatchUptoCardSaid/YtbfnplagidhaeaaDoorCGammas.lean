/-
  The tied card of GammasMatch's second form: for every number, and every text of bits, of which the bulk is at most 1048576, the law returns true, and the arguments read afterwards as they read before. Conditions: that bulk; the listed package variables start as the program's text lays them (the card ties them to that text).
-/
import Derived.Test.YtbfnplagidhaeaaDoorRows
import Derived.WalkKit
import Derived.WalkSpells
import Derived.WalkLawsBesides
import Derived.Lib.Hide
import Derived.Deep.RegionHeld3
import Derived.Shelf.Abstract
import Derived.ProofKit
import Derived.OpenShut
import Derived.ShutString
import Derived.ChangeOld
import Derived.Lib.SmallJoins
import Derived.Deep.Grids
import Derived.Shelf.Strings.Trim
import Derived.Shelf.Strings.Repeat
import Derived.Shelf.Pu.ToError
import Derived.Ground.MpProg
import Derived.Test.YtbfnplagidhaeaaDoorProg
import Derived.Lib.ConvBytes
import Derived.Lib.ItoaMem
import Derived.BigCall
import Derived.Laws.Bits64b
import Derived.Laws.IdiomStrings
import Derived.Deep.DeepCutAuto
import Derived.Deep.CutRange
import Derived.BigGuard
import Derived.Lib.AtoiAllMem
import Derived.Lib.Strings
import Derived.Laws.Strings3
import Derived.Laws.Closers25
import Derived.Laws.Closers25b
import Derived.Laws.RangeString
import Derived.Lib.OthersKept
import Derived.WalkSmall
import Derived.Handy
import Derived.Lay
import Derived.Lib.LaidTab
import Derived.Test.YtbfnplagidhaeaaDoorTie
import Derived.Test.YtbfnplagidhaeaaDoorCards
import Derived.SevenTiedAt
import Derived.Deep.DeepHandedRow
import Derived.Test.YtbfnplagidhaeaaDoorCGammas1
namespace Go.Proofs.YtbfnplagidhaeaaDoor
open Go.RowKit
set_option linter.unusedSimpArgs false
set_option linter.unusedVariables false

theorem gv_pos {s : ByteArray} {p : Nat} (h : byteAt s p = 49) (j : Nat) : 1 ≤ gv s p (j + 1) := by
  induction j with
  | zero => rw [gv, gv, Nat.add_zero, h]; decide
  | succ j ih => rw [gv]; omega

theorem decode_high (t : ByteArray) (pos : Nat) (hp : pos < t.size) (h : 128 ≤ (t[pos]'hp).toNat) : 128 ≤ (Utf8.decode t pos).1 := by
  have e : t.get! (pos + 0) = t[pos]'hp := by
    show t.get! pos = _
    simp [ByteArray.get!, getElem!_pos, hp]
    rfl
  simp only [Utf8.decode, e]
  rw [if_neg (by omega)]
  split
  · split
    · assumption
    · decide
  · split
    · split
      · rename_i h1
        have h2 := of_decide_eq_true ((Bool.and_eq_true_iff.1 h1).1)
        simp only
        omega
      · decide
    · split
      · split
        · rename_i h1
          have h2 := of_decide_eq_true ((Bool.and_eq_true_iff.1 h1).1)
          simp only
          omega
        · decide
      · decide

/-- The loop over the runes: n bytes in all. -/
def RgSt (s : ByteArray) (K : Nat) (t : ByteArray) (w : World) (pos : Nat) (wr : World) : Prop :=
  wr.heap[w.heap.size]? = some (.stringIter t pos) ∧ (∀ i, i < pos → b01 s (K + i)) ∧ Below w.heap.size w wr

set_option maxHeartbeats 2000000 in
set_option maxRecDepth 100000 in
theorem readGammaR_any (s : ByteArray) (K : Nat) (w : World) (hs : s.size ≤ 9223372036854775807) (hK : IsZ s K) :
    Calls Tryd.prog 8 #[.string s] w fun e w' => e = .returned (rgV s K) ∧ Below w.heap.size w w' := by
  obtain ⟨k1, k2, k3⟩ := hK
  have HK2 := Lib.hid k2
  have HK3 := Lib.hid k3
  clear k2 k3
  go_enter Tryd.func8, Tryd.ntmps8
  go_wp2_with fail
  go_loop [5] (fun v => ∃ k : Nat, k ≤ K ∧ v = .int .i64 k) (fun v => K - (intOf v).toNat)
  case atStart => exact ⟨0, Nat.zero_le _, rfl⟩
  case round =>
    obtain ⟨k, hk, rfl⟩ := hrel
    by_cases hlt : k < K
    · have hks : k < s.size := by omega
      have i1 : (k : Int) < (s.size : Int) := by omega
      have hb : ((s[k]'hks).toNat : Int) = 48 := by rw [byteAt_get]; exact HK2.out k hlt
      go_wp2_with fail
      go_round
      case rel => exact ⟨k + 1, by omega, by go_num⟩
      case measure => simp [intOf]; omega
    · obtain rfl : k = K := by omega
      by_cases hA : k ≤ 20 ∧ 2 * k + 1 ≤ s.size
      · have hks : k < s.size := by omega
        have i1 : (k : Int) < (s.size : Int) := by omega
        have hb : ¬ ((s[k]'hks).toNat : Int) = 48 := by rw [byteAt_get]; exact HK3.out hks
        have i2 : ¬ (20 : Int) < (k : Int) := by omega
        have i3 : ¬ (s.size : Int) < 2 * (k : Int) + 1 := by omega
        have hA1 := hA.1
        have hA2 := hA.2
        have HA := Lib.hid hA
        clear hA
        have hxs : (s.extract k (2 * k + 1)).size = k + 1 := by rw [ga_size _ _ _ (by omega)]; omega
        have hxb : ∀ i, i < k + 1 → byteAt (s.extract k (2 * k + 1)) i = byteAt s (k + i) := fun i hi => ga_sub s k (2 * k + 1) i (by omega) (by omega)
        have HXB := Lib.hid hxb
        have HXS := Lib.hid hxs
        have HI := Lib.hid (show RgSt s k (s.extract k (2 * k + 1)) w 0 (w.iter (s.extract k (2 * k + 1)) 0) from ⟨World.iter_heap w _ 0, fun i hi => by omega, (Below.refl _ _).alloc (Nat.le_refl _) _⟩)
        clear hxb hxs
        go_wp2_with fail
        go_loopw [6] (fun v wr => ∃ pos : Nat, pos ≤ k + 1 ∧ v = .int .i64 ((gv s k pos : Nat) : Int) ∧ Hid (RgSt s k (s.extract k (2 * k + 1)) w pos wr)) (fun _ wr => (k + 1) - wr.iterPos w.heap.size)
        case atStart => exact ⟨0, Nat.zero_le _, rfl, HI⟩
        case round =>
          obtain ⟨pos, hpos, rfl, HR⟩ := hrel
          obtain ⟨t, ht⟩ : ∃ t, t = s.extract k (2 * k + 1) := ⟨_, rfl⟩
          rw [← ht] at HR HXB HXS
          have hit := HR.out.1
          have hpos0 := iterPos_of hit
          have hlt2 := gv_lt (s := s) (p := k) (j := pos) HR.out.2.1
          have hp2 : (2 : Nat) ^ pos ≤ 2 ^ 21 := Nat.pow_le_pow_right (by omega) (by omega)
          have HT := Lib.hid ht
          clear HI ht hb
          by_cases hp : pos < k + 1
          · have hp' : pos < t.size := by rw [HXS.out]; exact hp
            have hbt : ((t[pos]'hp').toNat : Int) = byteAt s (k + pos) := by rw [byteAt_get]; exact HXB.out pos hp
            have hbl := Lib.below_iterAt HR.out.2.2 (k := w.heap.size) (Nat.le_refl _) t (pos + (Utf8.decode t pos).2)
            have hit2 := Lib.iterAt_heap wr w.heap.size t pos (pos + (Utf8.decode t pos).2) hit
            have hnx : ∀ ty, (Instr.next (.pointer (some ⟨w.heap.size, 0, none⟩)) true ty).run Tryd.prog wr = _ := fun ty => Lib.run_next_any_at wr w.heap.size t pos ty hit hp'
            obtain ⟨W1, hW1⟩ : ∃ W1, W1 = wr.iterAt w.heap.size t (pos + (Utf8.decode t pos).2) := ⟨_, rfl⟩
            rw [← hW1] at hbl hit2 hnx
            clear hW1
            have HBL := Lib.hid hbl
            have HIT := Lib.hid hit2
            have HP0 := Lib.hid hpos0
            clear hbl hit2 hpos0 hit
            by_cases hd : byteAt s (k + pos) = 48 ∨ byteAt s (k + pos) = 49
            · have hdec : Utf8.decode t pos = ((t[pos]'hp').toNat, 1) := decode_ascii t pos hp' (by omega)
              rw [hdec] at HIT hnx
              obtain ⟨q, hq⟩ : ∃ q, q = (t[pos]'hp').toNat := ⟨_, rfl⟩
              simp only at HIT hnx
              rw [← hq] at hnx hbt
              have HV := Lib.hid (show gv s k (pos + 1) = 2 * gv s k pos + (q - 48) by rw [gv, ← hbt]; omega)
              have HB2 := Lib.hid (show b01 s (k + pos) from hd)
              obtain ⟨a, ha⟩ : ∃ a, a = gv s k pos := ⟨_, rfl⟩
              rw [← ha] at HV hlt2
              rw [← ha]
              have hq2 : q = 48 ∨ q = 49 := by omega
              clear hdec hq hbt hd ha
              rcases hq2 with rfl | rfl <;> (
                go_wp2_with fail
                go_roundw
                case rel => exact ⟨pos + 1, by omega, by rw [HV.out]; go_num, by rw [← HT.out]; exact Lib.hid ⟨HIT.out, fun i hi => (if e : i = pos then e ▸ HB2.out else HR.out.2.1 i (by omega)), HBL.out⟩⟩
                case measure => rw [iterPos_of HIT.out, HP0.out]; omega)
            · have HR2 := Lib.hid (show rgV s k = .tuple #[.int .i64 0, .int .i64 0, .int .i64 8] by unfold rgV; rw [if_neg (fun h => hd (h.2.2.1 pos hp))])
              have hne : ¬ (((Utf8.decode t pos).1 : Nat) : Int) = 48 ∧ ¬ (((Utf8.decode t pos).1 : Nat) : Int) = 49 := by
                by_cases h128 : (t[pos]'hp').toNat < 128
                · rw [decode_ascii t pos hp' h128]
                  simp only
                  omega
                · have := decode_high t pos hp' (by omega)
                  omega
              obtain ⟨q, hq⟩ : ∃ q : Int, q = (((Utf8.decode t pos).1 : Nat) : Int) := ⟨_, rfl⟩
              rw [← hq] at hnx hne
              obtain ⟨e1, e2⟩ := hne
              have e3 : (q != 48) = true := by simpa using e1
              have e4 : (q != 49) = true := by simpa using e2
              clear hq hd hbt
              go_wp2_with fail
              go_ret3
              exact ⟨by rw [HR2.out]; rfl, HBL.out⟩
          · obtain rfl : pos = k + 1 := by omega
            have hnx : ∀ ty, (Instr.next (.pointer (some ⟨w.heap.size, 0, none⟩)) true ty).run Tryd.prog wr = _ := fun ty => Lib.run_next_end_at wr w.heap.size t (k + 1) ty hit (by rw [HXS.out]; omega)
            have h49 : byteAt s k = 49 := by
              have a := HR.out.2.1 0 (by omega)
              have b := HK3.out hks
              unfold b01 at a
              rw [Nat.add_zero] at a
              omega
            have hge := gv_pos h49 k
            clear hit hpos0 hp h49
            by_cases hbig : gv s k (k + 1) ≤ 1048576
            · have HR2 := Lib.hid (show rgV s k = .tuple #[.int .i64 ((gv s k (k + 1) : Nat) : Int), .int .i64 (2 * (k : Int) + 1), .int .i64 0] by unfold rgV; rw [if_pos ⟨HA.out.1, HA.out.2, HR.out.2.1, hbig⟩])
              have HBL := Lib.hid HR.out.2.2
              obtain ⟨a, ha⟩ : ∃ a, a = gv s k (k + 1) := ⟨_, rfl⟩
              rw [← ha] at HR2 hge hbig hlt2
              rw [← ha]
              have i4 : ¬ ((a : Int) < 1) := by omega
              have i5 : ¬ (1048576 : Int) < (a : Int) := by omega
              clear ha HR hlt2
              go_wp2_with fail
              go_ret3
              exact ⟨by rw [HR2.out]; rfl, HBL.out⟩
            · have HR2 := Lib.hid (show rgV s k = .tuple #[.int .i64 0, .int .i64 0, .int .i64 8] by unfold rgV; rw [if_neg (fun h => hbig h.2.2.2)])
              have HBL := Lib.hid HR.out.2.2
              obtain ⟨a, ha⟩ : ∃ a, a = gv s k (k + 1) := ⟨_, rfl⟩
              rw [← ha] at hge hbig hlt2
              rw [← ha]
              have i4 : ¬ ((a : Int) < 1) := by omega
              have i5 : (1048576 : Int) < (a : Int) := by omega
              clear ha HR hlt2 hbig
              go_wp2_with fail
              go_ret3
              exact ⟨by rw [HR2.out]; rfl, HBL.out⟩
      · have HR := Lib.hid (show rgV s k = .tuple #[.int .i64 0, .int .i64 0, .int .i64 8] by unfold rgV; rw [if_neg (fun h => hA ⟨h.1, h.2.1⟩)])
        by_cases hks : k < s.size
        · have i1 : (k : Int) < (s.size : Int) := by omega
          have hb : ¬ ((s[k]'hks).toNat : Int) = 48 := by rw [byteAt_get]; exact HK3.out hks
          by_cases h20 : (20 : Int) < (k : Int)
          · clear hA
            go_wp2_with fail
            go_ret3
            exact ⟨by rw [HR.out]; rfl, Below.refl _ _⟩
          · have i3 : (s.size : Int) < 2 * (k : Int) + 1 := by omega
            clear hA
            go_wp2_with fail
            go_ret3
            exact ⟨by rw [HR.out]; rfl, Below.refl _ _⟩
        · obtain rfl : k = s.size := by omega
          by_cases h20 : (20 : Int) < (s.size : Int)
          · clear hA
            go_wp2_with fail
            go_ret3
            exact ⟨by rw [HR.out]; rfl, Below.refl _ _⟩
          · have i3 : (s.size : Int) < 2 * (s.size : Int) + 1 := by omega
            clear hA
            go_wp2_with fail
            go_ret3
            exact ⟨by rw [HR.out]; rfl, Below.refl _ _⟩

end Go.Proofs.YtbfnplagidhaeaaDoor
namespace Go.Proofs.YtbfnplagidhaeaaDoor
set_option linter.unusedSimpArgs false
set_option linter.unusedVariables false

theorem byteAt_app (a b : ByteArray) (i : Nat) : byteAt (a ++ b) i = if i < a.size then byteAt a i else byteAt b (i - a.size) := by
  unfold byteAt
  have e : (a ++ b).data.toList = a.data.toList ++ b.data.toList := by simp
  rw [e]
  by_cases h : i < a.size
  · rw [if_pos h]
    congr 2
    simp only [List.getD]
    rw [List.getElem?_append_left (by rw [Array.length_toList]; exact h)]
  · rw [if_neg h]
    congr 2
    simp only [List.getD]
    rw [List.getElem?_append_right (by rw [Array.length_toList]; exact Nat.le_of_not_lt h), Array.length_toList]
    rfl
theorem zeros_at (T j : Nat) (h : j < T) : byteAt ⟨(Lib.repeatL [48] T).toArray⟩ j = 48 := by
  have e : Lib.repeatL [48] T = List.replicate T 48 := by
    clear h
    induction T with
    | zero => rfl
    | succ T ih => rw [Lib.repeatL, ih]; rfl
  unfold byteAt
  simp [e, List.getD, h]
theorem binS_at (n j : Nat) (h : j ≤ bitTop n) : byteAt (binS n) j = bitAt n (bitTop n - j) := by
  have hj : j < (binL n).length := by rw [binL_length]; omega
  rw [← binL_get n j hj]
  unfold byteAt binS
  simp [List.getD, hj]
theorem gamS_size (n : Nat) : (gamS n).size = 2 * bitTop n + 1 := by
  unfold gamS
  rw [ByteArray.size_append, zeros_size, binS_size]
  omega
theorem gamS_zero (n : Nat) (bits : ByteArray) (j : Nat) (h : j < bitTop n) : byteAt (gamS n ++ bits) j = 48 := by
  rw [byteAt_app, if_pos (by rw [gamS_size]; omega)]
  unfold gamS
  rw [byteAt_app, if_pos (by rw [zeros_size]; exact h)]
  exact zeros_at _ _ h
theorem gamS_bit (n : Nat) (bits : ByteArray) (j : Nat) (h : j ≤ bitTop n) : byteAt (gamS n ++ bits) (bitTop n + j) = bitAt n (bitTop n - j) := by
  rw [byteAt_app, if_pos (by rw [gamS_size]; omega)]
  unfold gamS
  rw [byteAt_app, if_neg (by rw [zeros_size]; omega), zeros_size, Nat.add_sub_cancel_left]
  exact binS_at n j h
theorem gam_isZ (n : Nat) (bits : ByteArray) (h1 : 1 ≤ n) (h2 : n ≤ 1048576) : IsZ (gamS n ++ bits) (bitTop n) := by
  refine ⟨by rw [ByteArray.size_append, gamS_size]; omega, fun j hj => gamS_zero n bits j hj, fun _ => ?_⟩
  have := gamS_bit n bits 0 (Nat.zero_le _)
  rw [Nat.add_zero, Nat.sub_zero] at this
  rw [this]
  unfold bitAt
  rw [(bitTop_spec n h1 h2).1]
  decide
theorem gam_gv (n : Nat) (bits : ByteArray) (h1 : 1 ≤ n) (h2 : n ≤ 1048576) (j : Nat) (hj : j ≤ bitTop n + 1) : gv (gamS n ++ bits) (bitTop n) j = n / 2 ^ (bitTop n + 1 - j) := by
  induction j with
  | zero =>
    rw [gv, Nat.sub_zero, Nat.pow_succ, ← Nat.div_div_eq_div_mul, (bitTop_spec n h1 h2).1]
  | succ j ih =>
    rw [gv, ih (by omega), gamS_bit n bits j (by omega)]
    unfold bitAt
    rw [show bitTop n + 1 - j = bitTop n - j + 1 by omega, Nat.pow_succ, ← Nat.div_div_eq_div_mul, show bitTop n + 1 - (j + 1) = bitTop n - j by omega]
    generalize n / 2 ^ (bitTop n - j) = x
    omega
theorem gam_read (n : Nat) (bits : ByteArray) (h1 : 1 ≤ n) (h2 : n ≤ 1048576) : rgV (gamS n ++ bits) (bitTop n) = .tuple #[.int .i64 (n : Int), .int .i64 (2 * ((bitTop n : Nat) : Int) + 1), .int .i64 0] := by
  have hg := gam_gv n bits h1 h2 (bitTop n + 1) (Nat.le_refl _)
  rw [Nat.sub_self, Nat.pow_zero, Nat.div_one] at hg
  unfold rgV
  rw [if_pos ⟨(bitTop_spec n h1 h2).2, by rw [ByteArray.size_append, gamS_size]; omega, fun i hi => by
    unfold b01
    rw [gamS_bit n bits i (by omega)]
    unfold bitAt
    omega, by rw [hg]; exact h2⟩, hg]
theorem rgV_shape (s : ByteArray) (k : Nat) : ∃ a b e, rgV s k = .tuple #[.int .i64 a, .int .i64 b, .int .i64 e] := by
  unfold rgV
  split
  · exact ⟨_, _, _, rfl⟩
  · exact ⟨_, _, _, rfl⟩

end Go.Proofs.YtbfnplagidhaeaaDoor
namespace Go.Proofs.YtbfnplagidhaeaaDoor
open Go.RowKit
set_option linter.unusedSimpArgs false
set_option linter.unusedVariables false

theorem landed_any (w : World) : Calls Tryd.prog 4 #[] w fun e w' => e = .returned (.bool true) ∧ w = w' := by
  go_enter Tryd.func4, Tryd.ntmps4
  go_wp2_with fail
  refine (isName_any _ _ (by decide)).mono ?_
  rintro e w1 ⟨b, rfl, hb, rfl⟩
  have hn : NameP ⟨#[97]⟩ := ⟨⟨by decide, by decide⟩, fun k hk => by
    obtain rfl : k = 0 := by have : (ByteArray.mk #[97]).size = 1 := rfl; omega
    decide⟩
  obtain rfl : b = true := hb.2 hn
  go_wp2_with fail
  go_ret
  exact ⟨rfl, rfl⟩

end Go.Proofs.YtbfnplagidhaeaaDoor
namespace Go.Proofs.YtbfnplagidhaeaaDoor
open Go.RowKit
set_option linter.unusedSimpArgs false
set_option linter.unusedVariables false

theorem small_size {s : ByteArray} (h : s.size ≤ 1048576) : s.size ≤ 9223372036854775807 := by omega

set_option maxHeartbeats 2000000 in
set_option maxRecDepth 100000 in
theorem gammas_walk (n : Int) (bits : ByteArray) (w : World) (hs : bits.size ≤ 1048576) (hT : w.cell? ⟨7, 1, none⟩ = some (.int .u8 1)) (hE : ErrAt w) :
    Calls Tryd.prog 3 #[.int .i64 n, .string bits] w fun e w' => e = .returned (.bool true) ∧ Below w.heap.size w w' := by
  obtain ⟨K, hK⟩ := isZ_ex bits
  obtain ⟨a, b, ee, hv⟩ := rgV_shape bits K
  have R1 := Lib.hid (fun wx (hx : Below w.heap.size w wx) => readGamma_any bits K wx (small_size hs) hK (hE.later hx))
  have R2 := Lib.hid (fun wx => readGammaR_any bits K wx (small_size hs) hK)
  rw [hv] at R1 R2
  clear hv hK
  by_cases hn : 1 ≤ n ∧ n ≤ 1048576
  · obtain ⟨N, rfl⟩ := Int.eq_ofNat_of_zero_le (show 0 ≤ n by omega)
    have h1 : 1 ≤ N := by omega
    have h2 : N ≤ 1048576 := by omega
    have ht := (bitTop_spec N h1 h2).2
    have G := Lib.hid (gamma_ok N w h1 h2 hT)
    have GR := Lib.hid (fun wx (hx : Below w.heap.size w wx) => gammaR_any N wx h1 h2 (cell_later hx hT))
    have hgs := gamS_size N
    have hcs : (gamS N ++ bits).size ≤ 9223372036854775807 := by rw [ByteArray.size_append, hgs]; omega
    have RD := Lib.hid (fun wx (hx : Below w.heap.size w wx) => readGamma_any (gamS N ++ bits) (bitTop N) wx hcs (gam_isZ N bits h1 h2) (hE.later hx))
    rw [gam_read N bits h1 h2] at RD
    have i1 : ¬ ((N : Int) < 1) := by omega
    have i2 : ¬ ((1048576 : Int) < (N : Int)) := by omega
    clear hT hE hcs hn
    go_enter Tryd.func3, Tryd.ntmps3
    go_wp2_with (first | (go_at_call 4; refine (landed_any _).mono ?_; rintro e w' ⟨rfl, rfl⟩) | (go_at_call 5; refine G.out.mono ?_; rintro e w1 ⟨rfl, hb1⟩))
    refine (RD.out w1 hb1).mono ?_
    rintro e w2 ⟨rfl, hb2⟩
    have B2 := Lib.hid (below_step hb1 hb2)
    clear hb1 hb2
    go_wp2_with fail
    refine (GR.out w2 B2.out).mono ?_
    rintro e w3 ⟨rfl, hb3⟩
    have B3 := Lib.hid (below_step B2.out hb3)
    clear hb3 B2
    go_wp2_with fail
    refine (R1.out w3 B3.out).mono ?_
    rintro e w4 ⟨rfl, hb4⟩
    have B4 := Lib.hid (below_step B3.out hb4)
    clear hb4 B3
    go_wp2_with fail
    refine (R2.out w4).mono ?_
    rintro e w5 ⟨rfl, hb5⟩
    have B5 := Lib.hid (below_step B4.out hb5)
    clear hb5 B4
    go_wp2_with fail
    go_ret
    exact ⟨rfl, B5.out⟩
  · have G := Lib.hid (gamma_no n w hn)
    have HN := Lib.hid hn
    clear hT hE
    by_cases i1 : n < 1
    · clear hn HN
      go_enter Tryd.func3, Tryd.ntmps3
      go_wp2_with (first | (go_at_call 4; refine (landed_any _).mono ?_; rintro e w' ⟨rfl, rfl⟩) | (go_at_call 5; refine G.out.mono ?_; rintro e w3 ⟨rfl, hb3⟩))
      have B3 := Lib.hid hb3
      clear hb3
      refine (R1.out w3 B3.out).mono ?_
      rintro e w4 ⟨rfl, hb4⟩
      have B4 := Lib.hid (below_step B3.out hb4)
      clear hb4 B3
      go_wp2_with fail
      refine (R2.out w4).mono ?_
      rintro e w5 ⟨rfl, hb5⟩
      have B5 := Lib.hid (below_step B4.out hb5)
      clear hb5 B4
      go_wp2_with fail
      go_ret
      exact ⟨rfl, B5.out⟩
    · have i2 : 1048576 < n := by omega
      clear hn HN
      go_enter Tryd.func3, Tryd.ntmps3
      go_wp2_with (first | (go_at_call 4; refine (landed_any _).mono ?_; rintro e w' ⟨rfl, rfl⟩) | (go_at_call 5; refine G.out.mono ?_; rintro e w3 ⟨rfl, hb3⟩))
      have B3 := Lib.hid hb3
      clear hb3
      refine (R1.out w3 B3.out).mono ?_
      rintro e w4 ⟨rfl, hb4⟩
      have B4 := Lib.hid (below_step B3.out hb4)
      clear hb4 B3
      go_wp2_with fail
      refine (R2.out w4).mono ?_
      rintro e w5 ⟨rfl, hb5⟩
      have B5 := Lib.hid (below_step B4.out hb5)
      clear hb5 B4
      go_wp2_with fail
      go_ret
      exact ⟨rfl, B5.out⟩

end Go.Proofs.YtbfnplagidhaeaaDoor
namespace Go.Proofs.YtbfnplagidhaeaaDoor
open Go.RowKit
set_option linter.unusedVariables false

theorem iface_of {H : Type} {enc : TypeId × Value → H} {P : Program} {w : World} {base : Nat} {sp : Nat → Bool} {held : Bool} {fuel : Nat} {t : TypeId} {ms : _} {cs : List Value} {x : DataW H × List MemPlace}
    (ht : P.underlying t = some (.interface ms)) (h : DataW.trod enc P w base sp held fuel t cs = some x) : ∃ ev, cs = [ev] ∧ (ev = .nilIface ∨ ∃ te pe, ev = .iface te pe) := by
  cases fuel with
  | zero => simp [DataW.trod] at h
  | succ fuel =>
    unfold DataW.trod at h
    rw [ht] at h
    split at h <;> first
      | (rename_i hq; cases hq; done)
      | exact ⟨_, rfl, .inl rfl⟩
      | exact ⟨_, rfl, .inr ⟨_, _, rfl⟩⟩
      | (exact absurd h (by simp))
      | skip

theorem laid_tail {P : Program} {W : World} {x : String × DataW Unit} {rest : List (String × DataW Unit)} {ps : List MemPlace} (h : DataW.LaidVars P W (x :: rest) ps) : ∃ q, DataW.LaidVars P W rest q := by
  obtain ⟨g, t, cs, fuel, p, q, _, _, _, _, h2, _⟩ := h
  exact ⟨q, h2⟩
theorem err_of_laid {W : World} {d : DataW Unit} {rest : List (String × DataW Unit)} {ps : List MemPlace} (h : DataW.LaidVars Tryd.prog W (("strconv.ErrSyntax", d) :: rest) ps) : ErrAt W := by
  obtain ⟨g, t, cs, fuel, p, q, hg, ht, hv, hd, _, _⟩ := h
  have hg0 : Tryd.prog.globalNamed "strconv.ErrSyntax" = some 0 := by kernel_rfl
  obtain rfl := Option.some.inj (hg0.symm.trans hg)
  have ht0 : (Tryd.prog.globals[0]?).map (·.type) = some 35 := by kernel_rfl
  obtain rfl := Option.some.inj (ht0.symm.trans ht)
  obtain ⟨ev, hcs, he⟩ := iface_of Tryd.underlying35 hd
  refine ⟨ev, ?_, he⟩
  rw [World.var?_cell hg0 hv 0]
  have : cs = #[ev] := by apply Array.ext'; exact hcs
  rw [this]
  rfl

theorem tab_of_laid {W : World} {rest : List (String × DataW Unit)} {ps : List MemPlace} {z : List Int} (h : DataW.LaidVars Tryd.prog W (("math/bits.deBruijn64tab", Lib.tabData .u8 (0 :: 1 :: z)) :: rest) ps) : W.cell? ⟨7, 1, none⟩ = some (.int .u8 1) := by
  obtain ⟨g, t, cs, fuel, p, q, hg, ht, hv, hd, _, _⟩ := h
  have hg0 : Tryd.prog.globalNamed "math/bits.deBruijn64tab" = some 7 := by kernel_rfl
  obtain rfl := Option.some.inj (hg0.symm.trans hg)
  have ht0 : (Tryd.prog.globals[7]?).map (·.type) = some 107 := by kernel_rfl
  obtain rfl := Option.some.inj (ht0.symm.trans ht)
  have := Lib.cells_of_tab (k := .u8) (n := 64) Tryd.underlying107 Tryd.underlying5 (by kernel_rfl) (by kernel_rfl) hd
  rw [World.var?_cell hg0 hv 1, ← Array.getElem?_toList, this]
  rfl

end Go.Proofs.YtbfnplagidhaeaaDoor
namespace Go.Proofs.YtbfnplagidhaeaaDoor
open Go.ChangeShapes Go.WideShapes Go.ChangeAt Go.RowKit Go.Joins
open Go.ChangeMaps (open_string shut_string)
set_option linter.unusedVariables false

set_option maxRecDepth 100000 in
theorem gammas_contract (H : Type) (enc : TypeId × Value → H) (W : World) (base : Nat) (args : Array Value) (ds gs : List (DataW H)) (before : List MemPlace)
    (hval0 : ∀ (j : Nat) t v, Tryd.f3.params[j]? = some t → args[j]? = some v → Value.okWide Tryd.prog W .any base t v)
    (hW : DataW.Whole enc Tryd.prog Tryd.f3.params.toList Rows.gammasMatchSpec.vars false W args.toList ds gs before) (hk : Rows.uptoSmall H (ds ++ gs) = true) (hT : W.cell? ⟨7, 1, none⟩ = some (.int .u8 1)) (hE : ErrAt W) :
    Calls Tryd.prog 3 args W fun e W' => ∃ v, e = .returned v ∧ Rows.gammasMatchSpec.post enc Tryd.prog Tryd.f3 false true false false W args v W' := by
  have hval : ∀ (j : Nat) t v, Tryd.f3.params[j]? = some t → args[j]? = some v → Value.okWide Tryd.prog W .any base t v := hval0
  have hW' := hW
  obtain ⟨p, q, hA0, hV, rfl, _, _⟩ := hW
  have hA : DataW.TrodAll enc Tryd.prog W 0 (fun _ => true) true Tryd.f3.params.toList args.toList ds p := hA0
  rw [Tryd.params3] at hA hval
  obtain ⟨v0, vs0, d0, ds0, p0, q0, hargs, rfl, rfl, h0, r0⟩ := trodAll_cons hA
  obtain ⟨v1, vs1, d1, ds1, p1, q1, rfl, rfl, rfl, h1, r1⟩ := trodAll_cons r0
  obtain ⟨rfl, rfl, rfl⟩ := trodAll_nil r1
  obtain rfl : args = #[v0, v1] := by cases args; simp_all
  obtain ⟨rfl, rfl⟩ := trodVars_none hV
  have k1 := h1
  have lt1 : ∀ x ∈ p1, x.block < W.heap.size := by obtain ⟨m, hm⟩ := k1; exact DataW.trod_lt m _ _ _ hm
  obtain ⟨m0, rfl, rfl, rfl, w0⟩ := open_int Tryd.underlying3 (hval 0 3 v0 rfl rfl) h0
  obtain ⟨s, rfl, hd1, hp1, hsz⟩ := open_string Tryd.underlying9 (hval 1 9 v1 rfl rfl) h1
  have hs : s.size ≤ 1048576 := by
    have h := of_decide_eq_true hk
    subst hd1
    simp only [List.append_nil, Rows.uptoBulkAll, Rows.uptoBulk] at h
    simp at h
    omega
  clear hA0 hval0
  simp only [List.append_nil] at hW'
  refine (gammas_walk m0 s W hs hT hE).mono fun e W' ⟨he, bel⟩ => ?_
  subst he
  exact ⟨_, rfl, _, _, _, [], _, [], hW', trodAll_mk1 (shut_bool Tryd.underlying4 _), (trodAll_cons_mk (shut_int Tryd.underlying3 w0) (trodAll_cons_mk (Below.trod laidOut (by kernel_rfl) (of_decide_eq_true (by kernel_rfl)) k1 bel lt1) trodAll_mk0)), rfl, bel.frame _, fun h => by cases h⟩

theorem gammas_reads (os : Os) {H : Type} (enc : TypeId × Value → H) : ∃ places, DataW.whole enc Tryd.prog ((World.laidAll Tryd.prog os Rows.gammasMatchUptoRow.laid).forCall (fun _ _ => 0) ⟨#[], #[.int .i64 0, .string ⟨#[]⟩], []⟩).memory Tryd.f3.params.toList Rows.gammasMatchSpec.vars false #[Value.int .i64 0, Value.string ⟨#[]⟩].toList 8 = some ([.lit (.int .i64 0), .lit (.string [])], [], places) :=
  ⟨[], by kernel_rfl⟩

set_option maxRecDepth 100000 in
theorem gammas_lifted (os : Os) (started : os.Started) (H : Type) (enc : TypeId × Value → H) (F : Stop.Interp) :
    ReturnsInHanded {} Tryd.checked os 3 .any ((Rows.OpenSpec.upto Rows.gammasMatchSpec).preRow enc Tryd.prog Tryd.f3 Rows.gammasMatchUptoRow.domain false Rows.gammasMatchUptoRow.laid) (((Rows.OpenSpec.upto Rows.gammasMatchSpec).at F).post enc Tryd.prog Tryd.f3 false true false false) := by
  obtain ⟨places, hx⟩ := gammas_reads os enc
  refine returnsInHanded_of_row (C := Tryd.checked) (s := Rows.OpenSpec.upto Rows.gammasMatchSpec) own started (by kernel_rfl) Tryd.func3
    (witness_row_at (enc := enc) (C := Tryd.checked) false (World.laidAll Tryd.prog os Rows.gammasMatchUptoRow.laid) #[.int .i64 0, .string ⟨#[]⟩] (World.laidAll_os _ _ _) (by kernel_rfl) (by kernel_rfl) (by kernel_rfl)
      (OpenSpec.preRow_of_cond 8 hx (by kernel_rfl) (fun k hk => by cases hk; kernel_rfl) (by kernel_rfl) (by rw [MakeChecks.laidMetH_plain _ _ _ (by kernel_rfl)]; exact laidMet_laidAll _ (by kernel_rfl) (by kernel_rfl)))) ?_
  intro W base args ds gs before hval hW _ hcond _ hL _ _
  rw [MakeChecks.laidMetH_plain _ _ _ (by kernel_rfl)] at hL
  obtain ⟨ps, hv, hnd, hrest⟩ := hL
  obtain ⟨q1, hv1⟩ := laid_tail hv
  obtain ⟨q2, hv2⟩ := laid_tail hv1
  obtain ⟨q3, hv3⟩ := laid_tail hv2
  obtain ⟨q4, hv4⟩ := laid_tail hv3
  obtain ⟨q5, hv5⟩ := laid_tail hv4
  exact gammas_contract H enc W base args ds gs before hval hW (hcond _ rfl) (tab_of_laid (z := [56, 2, 57, 49, 28, 3, 61, 58, 42, 50, 38, 29, 17, 4, 62, 47, 59, 36, 45, 43, 51, 22, 53, 39, 33, 30, 24, 18, 12, 5, 63, 55, 48, 27, 60, 41, 37, 16, 46, 35, 44, 21, 52, 32, 23, 11, 54, 26, 40, 15, 34, 20, 31, 10, 25, 14, 19, 9, 13, 8, 7, 6]) hv1) (err_of_laid hv5)

theorem gammas_row : Rows.GammasMatchUptoSaid :=
  OpenClaim.holds_of_cond 3 Tryd.f3 rfl rfl rfl rfl rfl rfl rfl ⟨rfl, rfl, rfl, rfl, rfl⟩ rfl rfl rfl rfl rfl (by kernel_rfl) Tryd.func3 (by kernel_rfl)
    (of_decide_eq_true (by kernel_rfl)) (by unfold Func.isWrapper; first | (rw [if_pos (by decide +kernel)]; kernel_rfl) | (rw [if_neg (by decide +kernel)]; exact ⟨rfl, rfl⟩))
    (fun os started H enc _ F => by rw [OpenClaim.pre_eq_preRow]; exact gammas_lifted os started H enc F)

theorem gammas_holds : Rows.GammasMatchUptoCardSaid :=
  Claim7.holds_tied_plain_at .later [] _ _ _ _ gammas_row (fun _ h => by cases h) (by kernel_rfl) (fun _ h => by cases h) gammasMatchUpto_row_tie rfl ⟨rfl, rfl⟩ (by kernel_rfl) rfl
    (fun f fn hf hfn => by
      obtain rfl : f = 3 := Option.some.inj ((show Tryd.prog.funcNamed "flatbed/bedlaw1.GammasMatch" = some 3 by kernel_rfl).symm.trans hf) |>.symm
      obtain rfl : fn = Tryd.f3 := (Option.some.inj (Tryd.func3.symm.trans hfn)).symm
      exact ⟨by kernel_rfl, fun j t ht => by
        rw [Tryd.params3] at ht
        have ht' := Array.mem_of_getElem? ht
        simp at ht'
        rcases ht' with rfl | rfl
        · exact (show Tryd.prog.wantsStandIn 3 = false by kernel_rfl)
        · exact (show Tryd.prog.wantsStandIn 9 = false by kernel_rfl)⟩)
    (by kernel_rfl)
end Go.Proofs.YtbfnplagidhaeaaDoor
