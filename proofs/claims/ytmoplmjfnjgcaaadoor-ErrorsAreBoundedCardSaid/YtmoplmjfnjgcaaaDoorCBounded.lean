/-
  The tied card of ErrorsAreBounded: for all numbers the law returns true. Condition: the listed package variables start as the program's text lays them (the card ties them to that text).
-/
import Derived.Test.YtmoplmjfnjgcaaaDoorRows
import Derived.WalkKit
import Derived.WalkSpells
import Derived.WalkLawsBesides
import Derived.Lib.Hide
import Derived.Deep.RegionHeld3
import Derived.Shelf.Abstract
import Derived.Lib.TrimByte
import Derived.Shelf.Strings.Trim
import Derived.Shelf.Strings.Repeat
import Derived.Test.YtmoplmjfnjgcaaaDoorProg
import Derived.Lib.MinMax
import Derived.Deep.QuietTactic
import Derived.BigQuiet
import Derived.Deep.CutRange
import Derived.Deep.DeepCutAuto
import Derived.Laws.EntriesVeiled
import Derived.StillTailTactics
import Derived.Deep.OwnRows
import Derived.Lib.Repeat
import Derived.ProofKit
import Derived.OpenShut
import Derived.ShutString
import Derived.ChangeOld
import Derived.Lib.SmallJoins
import Derived.Deep.Grids
import Derived.Test.YtmoplmjfnjgcaaaDoorTie
import Derived.Test.YtmoplmjfnjgcaaaDoorCards
import Derived.Handy
import Derived.Lay
import Derived.SevenTiedAt
import Derived.Deep.DeepHandedRow
import Derived.Lib.LaidTab
import Derived.Test.YtmoplmjfnjgcaaaDoorCBounded2
namespace Go.Proofs.YtmoplmjfnjgcaaaDoor
open Go.RowKit
set_option linter.unusedSimpArgs false
set_option linter.unusedVariables false

set_option maxHeartbeats 1000000 in
set_option maxRecDepth 100000 in
theorem whole_any (s : ByteArray) (cb kb lb m : Nat) (cB : Nat → Nat) (g : Nat → Nat) (w : World) (hs : s.size ≤ 2000) (hm : m ≤ 2000) (HC : Costs w s cb kb lb s.size m cB) (H1 : ColIs w (cB m) s.size g) :
    Calls Tryd.prog 41 #[.pointer (some ⟨cb, 0, none⟩), .int .i64 m] w fun e w' => e = .returned (.int .i64 (g s.size : Nat)) ∧ ∃ q, w' = w.drewN q := by
  obtain ⟨c0, c1, _, _⟩ := HC.c.cells
  have k1 := HC.k.cell (i := m) (by omega)
  have r1 := H1.cell s.size (Nat.le_refl _)
  generalize cB m = b at *
  generalize g s.size = y at *
  have i1 : (m : Int) < (m : Int) + 1 := by omega
  have i2 : (s.size : Int) < (s.size : Int) + 1 := by omega
  clear HC H1
  go_enter Tryd.func41, Tryd.ntmps41
  go_wp2_with fail
  go_quiet (fail)
  go_wp2_with fail
  go_ret
  exact ⟨rfl, _, rfl⟩

set_option maxHeartbeats 1000000 in
set_option maxRecDepth 100000 in
theorem leastCost_any (s t : ByteArray) (w : World) (hs : s.size ≤ 2000) (ht : t.size ≤ 2000) :
    Calls Tryd.prog 20 #[.string s, .string t, .slice none 0 0] w fun e w' => e = .returned (.int .i64 (lev s t t.size s.size : Nat)) ∧ Below w.heap.size w w' := by
  have K := Lib.hid (newCosts_any s t.size w hs ht)
  go_enter Tryd.func20, Tryd.ntmps20
  go_wp2_with fail
  refine K.out.mono ?_
  rintro e w2 ⟨cb, kb, lb, cB, rfl, hc, ha, h0, hj, hb, n1, n2⟩
  have HA := Lib.hid ha
  have HN := Lib.hid (And.intro n1 n2)
  have R0 := Lib.hid (show Costs w2 s cb kb lb s.size t.size cB ∧ ColIs w2 (cB 0) s.size (lev s t 0) ∧ (∀ j, j ≤ t.size → ∃ f, ColIs w2 (cB j) s.size f) ∧ Below w.heap.size w w2 from ⟨hc, h0, hj, hb⟩)
  clear hc ha h0 hj hb n1 n2 K
  go_wp2_with fail
  go_loopw [16] (fun i wr => ∃ k : Nat, k ≤ t.size ∧ i = .int .i64 k ∧ Hid (Costs wr s cb kb lb s.size t.size cB ∧ ColIs wr (cB k) s.size (lev s t k) ∧ (∀ j, j ≤ t.size → ∃ f, ColIs wr (cB j) s.size f) ∧ Below w.heap.size w wr)) (fun i _ => t.size - (intOf i).toNat)
  case atStart => exact ⟨0, Nat.zero_le _, rfl, R0⟩
  case round =>
    obtain ⟨k, hk, rfl, HR⟩ := hrel
    clear R0
    obtain ⟨wo, rfl⟩ : ∃ wo : World, wo = wr := ⟨_, rfl⟩
    by_cases hlt : k < t.size
    · have i1 : (k : Int) < (t.size : Int) := by omega
      have v1 : IntKind.i64.wrap ((k : Int) + 1) = (k : Int) + 1 := IntWalk.i64_in _ (by omega)
      obtain ⟨f, hf⟩ := HR.out.2.2.1 (k + 1) (by omega)
      have F := Lib.hid (fill_any s t cb kb lb k cB f wo hs ht hlt HR.out.1 HA.out HR.out.2.1 hf)
      clear hf
      go_wp2_with fail
      refine F.out.mono ?_
      rintro e w6 ⟨rfl, hc6, h6, b6⟩
      have R6 := Lib.hid (show Costs w6 s cb kb lb s.size t.size cB ∧ ColIs w6 (cB (k + 1)) s.size (lev s t (k + 1)) ∧ (∀ j, j ≤ t.size → ∃ f, ColIs w6 (cB j) s.size f) ∧ Below w.heap.size w w6 from
        ⟨hc6, h6, fun j hj => by
          by_cases e : cB j = cB (k + 1)
          · rw [e]; exact ⟨_, h6⟩
          · obtain ⟨f', hf'⟩ := HR.out.2.2.1 j hj
            exact ⟨f', b6.row hf' e (HA.out.b j hj).2.2⟩, b6.below HR.out.2.2.2 (HN.out.2 _) HN.out.1⟩)
      clear hc6 h6 b6
      go_wp2_with fail
      go_roundw
      case rel => exact ⟨k + 1, by omega, by go_num, R6⟩
      case measure => simp [intOf]; omega
    · obtain rfl : k = t.size := by omega
      have F := Lib.hid (whole_any s cb kb lb t.size cB _ wo hs ht HR.out.1 HR.out.2.1)
      go_wp2_with fail
      refine F.out.mono ?_
      rintro e w6 ⟨rfl, q, rfl⟩
      go_wp2_with fail
      go_ret
      exact ⟨rfl, below_drewN HR.out.2.2.2 q⟩

/-- The words among tokens. -/
def wrdT (s : ByteArray) (T : List (Nat × Nat × Bool)) : List Value := (T.filter fun t => t.2.2).map fun t => .string (s.extract t.1 t.2.1)
theorem wrdT_take (s : ByteArray) (T : List (Nat × Nat × Bool)) (k : Nat) (hk : k < T.length) :
    wrdT s (T.take (k + 1)) = wrdT s (T.take k) ++ (if (T.getD k (0, 0, false)).2.2 = true then [.string (s.extract (T.getD k (0, 0, false)).1 (T.getD k (0, 0, false)).2.1)] else []) := by
  unfold wrdT
  rw [List.take_succ_eq_append_getElem hk, List.filter_append, List.map_append]
  congr 1
  simp only [List.getD, List.getElem?_eq_getElem hk, Option.getD_some]
  cases h : (T[k]).2.2 <;> simp [List.filter_cons, h]
theorem wrdT_len (s : ByteArray) (T : List (Nat × Nat × Bool)) : (wrdT s T).length ≤ T.length := by unfold wrdT; rw [List.length_map]; exact List.length_filter_le _ _

theorem info_str : (Tryd.prog.info? 9).map (fun i => (i.zero, i.size, i.bytes)) = some (some (.string ⟨#[]⟩), 1, 16) := by kernel_rfl

theorem not_blockG {w : World} {N M : Nat} {e e' : TypeId} {z z' : Nat} {v u : Value} {n m : Nat} {xs ys : List Value} (he : e ≠ e') (h : w.ownsRow N e z v n xs) (k : w.ownsRow M e' z' u m ys) : u.ownBlock = none ∨ u.ownBlock ≠ v.ownBlock := by
  rcases k.2 with ⟨h0, _⟩ | ⟨g', cap', cur', h0, hb', hh', _⟩
  · subst h0; exact .inl rfl
  · subst h0
    refine .inr (fun e1 => ?_)
    rcases h.2 with ⟨k0, _⟩ | ⟨g, cap, cur, k0, hb, hh, _⟩
    · subst k0; simp [Value.ownBlock] at e1
    · subst k0
      simp [Value.ownBlock] at e1
      subst e1
      rw [hh] at hh'
      simp at hh'
      exact he hh'.2

set_option maxHeartbeats 2000000 in
set_option maxRecDepth 100000 in
theorem wordsOf_any (s : ByteArray) (w : World) (hs : s.size ≤ 1048576) :
    Calls Tryd.prog 19 #[.string s] w fun e w' => ∃ v, e = .returned v ∧ w'.ownsRow w.heap.size 9 1 v (wrdT s (tkAll s)).length (wrdT s (tkAll s)) ∧ Below w.heap.size w w' := by
  obtain ⟨i0, hi, hz0, hz1, hz2⟩ := info_parts info_str
  have K := Lib.hid (split_any s w hs)
  have hl := tkAll_len s
  generalize tkAll s = T at *
  go_enter Tryd.func19, Tryd.ntmps19
  go_wp2_with fail
  refine K.out.mono ?_
  rintro e w5 ⟨v5, rfl, ht5, hb5⟩
  have T5 := Lib.hid ht5
  have B5 := Lib.hid hb5
  obtain ⟨a5, c5, rfl, hnone⟩ := ht5.shape
  have HNO := Lib.hid hnone
  have R0 := Lib.hid (show w5.ownsRow w.heap.size 9 1 (.slice none 0 0) (wrdT s (T.take 0)).length (wrdT s (T.take 0)) ∧ Below w5.heap.size w5 w5 from ⟨World.ownsRow_nil _ _ _ _, Below.refl _ _⟩)
  clear ht5 hb5 hnone
  go_wp2_with fail
  go_loopw [3, 9] (fun v3 i wr => ∃ k : Nat, k ≤ T.length ∧ i = .int .i64 k ∧ Hid (wr.ownsRow w.heap.size 9 1 v3 (wrdT s (T.take k)).length (wrdT s (T.take k)) ∧ w.heap.size ≤ wr.heap.size ∧ TokRow wr w.heap.size s T (.slice a5 T.length c5) ∧ Below w.heap.size w wr)) (fun _ i _ => T.length - (intOf i).toNat)
  case atStart => exact ⟨0, Nat.zero_le _, rfl, Lib.hid ⟨R0.out.1, B5.out.size, T5.out, B5.out⟩⟩
  case round =>
    obtain ⟨k, hk, rfl, HR⟩ := hrel
    clear R0
    obtain ⟨wo, rfl⟩ : ∃ wo : World, wo = wr := ⟨_, rfl⟩
    by_cases hlt : k < T.length
    · have i1 : (k : Int) < (T.length : Int) := by omega
      obtain ⟨g5, c5', e5⟩ : ∃ g5 c5', Value.slice a5 T.length c5 = .slice (some ⟨g5, 0, none⟩) T.length c5' := by
        rcases HR.out.2.2.1.2 with ⟨h0, h1⟩ | ⟨g, cap, cur, h0, _⟩
        · omega
        · exact ⟨g, cap, h0⟩
      cases e5
      obtain ⟨f1, f2⟩ := flatT_get s T k hlt
      have r1 : wo.cell? ⟨g5, k * 2, none⟩ = _ := (World.ownsRow.cellAt HR.out.2.2.1 (k * 2) (by omega)).trans f1
      have r2 : wo.cell? ⟨g5, k * 2 + 1, none⟩ = _ := (World.ownsRow.cellAt HR.out.2.2.1 (k * 2 + 1) (by omega)).trans f2
      have hst := wrdT_take s T k hlt
      have hwl := wrdT_len s (T.take k)
      have htl := List.length_take_le k T
      generalize T.getD k (0, 0, false) = tok at *
      obtain ⟨ta, tb, tw⟩ := tok
      simp only at r1 r2 hst
      generalize s.extract ta tb = x at *
      clear f1 f2
      have HST := Lib.hid hst
      have HWL := Lib.hid (show (wrdT s (T.take k)).length ≤ 1048576 by omega)
      clear hst hwl htl
      cases tw
      · go_wp2_with fail
        go_roundw
        case rel => exact ⟨k + 1, by omega, by go_num, Lib.hid ⟨by rw [HST.out]; simpa using World.ownsRow.alloc HR.out.1 _, by have := HR.out.2.1; simp; omega, HR.out.2.2.1.alloc _, below_alloc HR.out.2.2.2 _⟩⟩
        case measure => simp [intOf]; omega
      · have OW := Lib.hid HR.out.1
        go_wp2_with (at_builtin; refine wpList_append_own _ rfl _ _ 40 rfl w.heap.size 9 i0 (.string ⟨#[]⟩) 1 16 Tryd.underlying40 hi hz0 hz1 hz2 rfl (by decide) _ _ _ rfl (World.ownsRow.alloc (World.ownsRow.alloc OW.out _) _) ⟨wo.heap.size + 1, 0, none⟩ 1 1 [.string x] rfl rfl ?c1 ?c2 ?c3 ?c4 ?c5 ?_)
        case c2 => rfl
        case c3 => have := HWL.out; unfold maxLen; omega
        case c4 => have := HWL.out; omega
        case c5 => have := HR.out.2.1; simp; omega
        intro v' w6 hown hgr _
        have hsz : w.heap.size ≤ ((wo.alloc (.cells #[.string x, .bool true] 26)).alloc (.cells #[.string x] 9)).heap.size := by have := HR.out.2.1; simp; omega
        have R6 := Lib.hid (show w6.ownsRow w.heap.size 9 1 v' (wrdT s (T.take (k + 1))).length (wrdT s (T.take (k + 1))) ∧ w.heap.size ≤ w6.heap.size ∧ TokRow w6 w.heap.size s T (.slice (some ⟨g5, 0, none⟩) T.length c5) ∧ Below w.heap.size w w6 from
          ⟨by rw [HST.out, if_pos (by trivial), List.length_append, List.length_singleton]; exact hown, Nat.le_trans hsz hgr.size,
            World.ownsRow.kept (World.ownsRow.alloc (World.ownsRow.alloc HR.out.2.2.1 _) _) hgr (not_blockG (by decide) OW.out HR.out.2.2.1),
            (below_alloc (below_alloc HR.out.2.2.2 (.cells #[.string x, .bool true] 26)) (.cells #[.string x] 9)).grown hgr hsz (fun j hj => (World.ownsRow.lt OW.out j hj).1)⟩)
        clear hown hgr hsz
        go_wp2_with fail
        go_roundw
        case rel => exact ⟨k + 1, by omega, by go_num, R6⟩
        case measure => simp [intOf]; omega
    · obtain rfl : k = T.length := by omega
      have OW := Lib.hid HR.out.1
      have HTK := Lib.hid (show T.take T.length = T from List.take_length)
      go_wp2_with fail
      go_ret
      exact ⟨_, rfl, by rw [← HTK.out]; exact OW.out, HR.out.2.2.2⟩

end Go.Proofs.YtmoplmjfnjgcaaaDoor
namespace Go.Proofs.YtmoplmjfnjgcaaaDoor
open Go.RowKit
set_option linter.unusedSimpArgs false
set_option linter.unusedVariables false

theorem landed_any (w : World) : Calls Tryd.prog 5 #[] w fun e w' => e = .returned (.bool true) ∧ w = w' := by
  go_enter Tryd.func5, Tryd.ntmps5
  go_wp2_with fail
  refine (isName_any _ _ (by decide)).mono ?_
  rintro e w1 ⟨b, rfl, hb, rfl⟩
  have hn : NameP ⟨#[97]⟩ := ⟨⟨by decide, by decide⟩, fun k hk => by
    obtain rfl : k = 0 := by have : (ByteArray.mk #[97]).size = 1 := rfl; omega
    decide⟩
  obtain rfl : b = true := hb.2 hn
  go_wp2_with fail
  go_ret
  exact ⟨rfl, rfl⟩

end Go.Proofs.YtmoplmjfnjgcaaaDoor
namespace Go.Proofs.YtmoplmjfnjgcaaaDoor
open Go.RowKit
set_option linter.unusedSimpArgs false
set_option linter.unusedVariables false

theorem wrdT_get (s : ByteArray) (T : List (Nat × Nat × Bool)) (i : Nat) (hi : i < (wrdT s T).length) : ∃ x : ByteArray, (wrdT s T)[i]? = some (.string x) := by
  unfold wrdT at *
  rw [List.getElem?_map]
  rw [List.length_map] at hi
  rw [List.getElem?_eq_getElem hi]
  exact ⟨_, rfl⟩

theorem owns_one_some {w : World} {N : Nat} {e : TypeId} {v : Value} {n : Nat} {xs : List Value} (h : w.ownsRow N e 1 v n xs) (hn : 0 < n) : ∃ g c, v = .slice (some ⟨g, 0, none⟩) n c := by
  rcases h.2 with ⟨h0, h1⟩ | ⟨g', cap, cur, h0, _⟩
  · omega
  · exact ⟨g', cap, h0⟩
theorem owns_one_shape {w : World} {N : Nat} {e : TypeId} {v : Value} {n : Nat} {xs : List Value} (h : w.ownsRow N e 1 v n xs) : ∃ a c, v = .slice a n c := by
  rcases h.2 with ⟨h0, h1⟩ | ⟨g', cap, cur, h0, _⟩
  · exact ⟨none, 0, by rw [h0, h1]⟩
  · exact ⟨_, cap, h0⟩

set_option maxHeartbeats 2000000 in
set_option maxRecDepth 100000 in
theorem errors_any (s t : ByteArray) (D : Nat) (w : World) (hs : s.size ≤ 2000) (ht : t.size ≤ 2000) (hD : lev s t t.size s.size = D * 100) :
    Calls Tryd.prog 9 #[.string s, .string t] w fun e w' => ∃ x : Int, e = .returned (.tuple #[.int .i64 (D : Nat), .int .i64 x, .int .i64 0]) ∧ Below w.heap.size w w' := by
  have K1 := Lib.hid (wordsOf_any s w (by omega))
  have K2 := Lib.hid (fun w => wordsOf_any t w (by omega))
  have K3 := Lib.hid (fun w => leastCost_any s t w hs ht)
  have h1 := lev_le s t t.size s.size
  rw [hD] at K3 h1
  have hdiv : ((D * 100 : Nat) : Int).tdiv 100 = (D : Int) := by rw [Int.natCast_mul]; exact Int.mul_tdiv_cancel _ (by decide)
  have hw : IntKind.i64.wrap (D : Int) = (D : Int) := IntWalk.i64_in _ (by omega)
  have q1 : ¬ (2000 : Int) < (s.size : Int) := by omega
  have q2 : ¬ (2000 : Int) < (t.size : Int) := by omega
  have wl1 := wrdT_len s (tkAll s)
  have wl2 := wrdT_len t (tkAll t)
  have g1 := wrdT_get s (tkAll s)
  have g2 := wrdT_get t (tkAll t)
  have tl1 := tkAll_len s
  have tl2 := tkAll_len t
  generalize wrdT s (tkAll s) = X at *
  generalize wrdT t (tkAll t) = Y at *
  have G1 := Lib.hid g1
  have G2 := Lib.hid g2
  have L1 := Lib.hid (show X.length ≤ 2000 by omega)
  have L2 := Lib.hid (show Y.length ≤ 2000 by omega)
  clear hD h1 wl1 wl2 g1 g2 tl1 tl2
  go_enter Tryd.func9, Tryd.ntmps9
  go_wp2_with fail
  refine K1.out.mono ?_
  rintro e w5 ⟨v5, rfl, o5, hb5⟩
  have O5 := Lib.hid o5
  have B5 := Lib.hid hb5
  obtain ⟨a5, c5, rfl⟩ := owns_one_shape o5
  clear o5 hb5
  go_wp2_with fail
  refine (K2.out w5).mono ?_
  rintro e w6 ⟨v6, rfl, o6, hb6⟩
  have O5' := Lib.hid (show w6.ownsRow w.heap.size 9 1 (.slice a5 X.length c5) X.length X from below_owns O5.out hb6)
  have O6 := Lib.hid o6
  have B6 := Lib.hid (B5.out.trans (hb6.mono B5.out.size))
  obtain ⟨a6, c6, rfl⟩ := owns_one_shape o6
  clear o6 hb6 O5
  go_wp2_with fail
  go_loopw [8, 24] (fun v8 i wr => ∃ k : Nat, k ≤ Y.length ∧ i = .int .i64 k ∧ (∃ x : Int, v8 = .int .i64 x) ∧ wr = w6) (fun _ i _ => Y.length - (intOf i).toNat)
  case atStart => exact ⟨0, Nat.zero_le _, rfl, ⟨_, rfl⟩, rfl⟩
  case round =>
    obtain ⟨k, hk, rfl, ⟨x, rfl⟩, rfl⟩ := hrel
    have l1 := L1.out
    have l2 := L2.out
    by_cases hlt : k < Y.length
    · have i1 : (k : Int) < (Y.length : Int) := by omega
      obtain ⟨g6, c6', e6⟩ := owns_one_some O6.out (by omega)
      cases e6
      obtain ⟨y, hy⟩ := G2.out k hlt
      have r1 : wr.cell? ⟨g6, k, none⟩ = some (.string y) := (World.ownsRow.cellAt O6.out k (by omega)).trans hy
      by_cases hx : k < X.length
      · have i2 : (k : Int) < (X.length : Int) := by omega
        obtain ⟨g5, c5', e5⟩ := owns_one_some O5'.out (by omega)
        cases e5
        obtain ⟨z, hz⟩ := G1.out k hx
        have r2 : wr.cell? ⟨g5, k, none⟩ = some (.string z) := (World.ownsRow.cellAt O5'.out k (by omega)).trans hz
        clear hy hz
        cases hb : (z.toList == y.toList)
        · go_wp2_with fail
          go_roundw
          case rel => exact ⟨k + 1, by omega, by go_num, ⟨_, rfl⟩, trivial⟩
          case measure => simp [intOf]; omega
        · go_wp2_with fail
          go_roundw
          case rel => exact ⟨k + 1, by omega, by go_num, ⟨_, rfl⟩, trivial⟩
          case measure => simp [intOf]; omega
      · have i2 : (X.length : Int) ≤ (k : Int) := by omega
        clear hy
        go_wp2_with fail
        go_roundw
        case rel => exact ⟨k + 1, by omega, by go_num, ⟨_, rfl⟩, trivial⟩
        case measure => simp [intOf]; omega
    · obtain rfl : k = Y.length := by omega
      go_wp2_with fail
      refine (K3.out wr).mono ?_
      rintro e w8 ⟨rfl, hb8⟩
      have B8 := Lib.hid (B6.out.trans (hb8.mono B6.out.size))
      clear hb8
      go_wp2_with fail
      exact bodyPost_ret (v := .tuple #[.int .i64 (D : Nat), .int .i64 x, .int .i64 0]) (by simp [results, Tryd.results9, go_sem]) rfl ⟨x, rfl, B8.out⟩

end Go.Proofs.YtmoplmjfnjgcaaaDoor
namespace Go.Proofs.YtmoplmjfnjgcaaaDoor
open Go.RowKit
set_option linter.unusedSimpArgs false
set_option linter.unusedVariables false

theorem repeat_all (c : Nat) : ∀ x, x ∈ Lib.repeatL [97] c → x = (97 : UInt8) := by
  induction c with
  | zero => intro x hx; simp [Lib.repeatL] at hx
  | succ c ih =>
    intro x hx
    rw [Lib.repeatL] at hx
    rcases List.mem_append.1 hx with h | h
    · simpa using h
    · exact ih x h

theorem rep_any (c : Nat) (w : World) (hc : c ≤ 2500) : Calls Tryd.prog 10 #[.string ⟨#[97]⟩, .int .i64 c] w fun e w' => (∃ x : ByteArray, e = .returned (.string x) ∧ x.size = c ∧ ∀ i, i < c → byteAt x i = 97) ∧ Below w.heap.size w w' := by
  refine (Tryd.strings_Repeat ⟨#[97]⟩ c w (by omega) (by show 1 * c ≤ _; omega)).mono ?_
  rintro e w' ⟨rfl, hb⟩
  have hl : (Lib.repeatL [97] c).length = c := by rw [Lib.repeatL_length]; simp
  refine ⟨⟨_, rfl, by rw [size_list]; exact hl, fun i hi => ?_⟩, hb⟩
  unfold byteAt
  have hx : (Lib.repeatL [97] c).getD i 0 = 97 := by
    rw [List.getD_eq_getElem?_getD, List.getElem?_eq_getElem (by rw [hl]; exact hi)]
    exact repeat_all c _ (List.getElem_mem _)
  show (((Lib.repeatL [97] c).toArray.toList.getD i 0).toNat : Int) = 97
  rw [List.toList_toArray, hx]
  rfl

theorem errors_large (s t : ByteArray) (w : World) (h : 2000 < s.size ∨ 2000 < t.size) (hs : s.size ≤ 9223372036854775807) (ht : t.size ≤ 9223372036854775807) :
    Calls Tryd.prog 9 #[.string s, .string t] w fun e w' => e = .returned (.tuple #[.int .i64 0, .int .i64 0, .int .i64 4]) ∧ w' = w := by
  by_cases h1 : 2000 < s.size
  · have q1 : (2000 : Int) < (s.size : Int) := by omega
    clear h
    go_enter Tryd.func9, Tryd.ntmps9
    go_wp2_with fail
    exact bodyPost_ret (v := .tuple #[.int .i64 0, .int .i64 0, .int .i64 4]) (by simp [results, Tryd.results9, go_sem]) rfl ⟨rfl, rfl⟩
  · have q1 : ¬ (2000 : Int) < (s.size : Int) := by omega
    have q2 : (2000 : Int) < (t.size : Int) := by omega
    clear h
    go_enter Tryd.func9, Tryd.ntmps9
    go_wp2_with fail
    exact bodyPost_ret (v := .tuple #[.int .i64 0, .int .i64 0, .int .i64 4]) (by simp [results, Tryd.results9, go_sem]) rfl ⟨rfl, rfl⟩

set_option maxHeartbeats 2000000 in
set_option maxRecDepth 100000 in
theorem bounded_any (n m : Int) (w : World) : Calls Tryd.prog 4 #[.int .i64 n, .int .i64 m] w fun e w' => e = .returned (.bool true) ∧ Below w.heap.size w w' := by
  obtain ⟨a, ha⟩ : ∃ a : Nat, min (max n 0) 2500 = (a : Int) := ⟨(min (max n 0) 2500).toNat, by omega⟩
  obtain ⟨b, hb⟩ : ∃ b : Nat, min (max m 0) 2500 = (b : Int) := ⟨(min (max m 0) 2500).toNat, by omega⟩
  have a1 : a ≤ 2500 := by omega
  have b1 : b ≤ 2500 := by omega
  have HA := Lib.hid ha
  have HB := Lib.hid hb
  go_enter Tryd.func4, Tryd.ntmps4
  go_upto_region 4 with ((go_at_call 5; refine (landed_any _).mono ?_; rintro e w' ⟨rfl, rfl⟩))
  clear ha hb
  by_cases h : 2000 < a ∨ 2000 < b
  · have KR1 := Lib.hid (fun w => rep_any a w a1)
    have KR2 := Lib.hid (fun w => rep_any b w b1)
    by_cases h1 : 2000 < a
    · have i1 : (2000 : Int) < (a : Int) := by omega
      have H := Lib.hid h
      clear h
      go_wp2_with fail
      refine (KR1.out w).mono ?_
      rintro e w5 ⟨⟨x, rfl, hx, _⟩, hb5⟩
      have HX := Lib.hid hx
      have B5 := Lib.hid hb5
      clear hx hb5
      go_wp2_with fail
      refine (KR2.out w5).mono ?_
      rintro e w6 ⟨⟨y, rfl, hy, _⟩, hb6⟩
      have HY := Lib.hid hy
      have B6 := Lib.hid (B5.out.trans (hb6.mono B5.out.size))
      clear hy hb6
      go_wp2_with fail
      refine (errors_large x y w6 (by rw [HX.out, HY.out]; exact H.out) (by rw [HX.out]; omega) (by rw [HY.out]; omega)).mono ?_
      rintro e w7 ⟨rfl, rfl⟩
      go_wp2_with fail
      go_ret
      exact ⟨rfl, B6.out⟩
    · have i1 : ¬ (2000 : Int) < (a : Int) := by omega
      have i2 : (2000 : Int) < (b : Int) := by omega
      have H := Lib.hid h
      clear h
      go_wp2_with fail
      refine (KR1.out w).mono ?_
      rintro e w5 ⟨⟨x, rfl, hx, _⟩, hb5⟩
      have HX := Lib.hid hx
      have B5 := Lib.hid hb5
      clear hx hb5
      go_wp2_with fail
      refine (KR2.out w5).mono ?_
      rintro e w6 ⟨⟨y, rfl, hy, _⟩, hb6⟩
      have HY := Lib.hid hy
      have B6 := Lib.hid (B5.out.trans (hb6.mono B5.out.size))
      clear hy hb6
      go_wp2_with fail
      refine (errors_large x y w6 (by rw [HX.out, HY.out]; exact H.out) (by rw [HX.out]; omega) (by rw [HY.out]; omega)).mono ?_
      rintro e w7 ⟨rfl, rfl⟩
      go_wp2_with fail
      go_ret
      exact ⟨rfl, B6.out⟩
  · have i1 : ¬ (2000 : Int) < (a : Int) := by omega
    have i2 : ¬ (2000 : Int) < (b : Int) := by omega
    obtain ⟨c, hc⟩ : ∃ c : Nat, min (a : Int) 300 = (c : Int) := ⟨min a 300, by omega⟩
    obtain ⟨d, hd⟩ : ∃ d : Nat, min (b : Int) 300 = (d : Int) := ⟨min b 300, by omega⟩
    have c1 : c ≤ 300 := by omega
    have d1 : d ≤ 300 := by omega
    have KR1 := Lib.hid (fun w => rep_any c w (by omega))
    have KR2 := Lib.hid (fun w => rep_any d w (by omega))
    clear h
    go_wp2_with fail
    refine (KR1.out w).mono ?_
    rintro e w5 ⟨⟨x, rfl, hx, hx2⟩, hb5⟩
    have HX := Lib.hid (And.intro hx hx2)
    have B5 := Lib.hid hb5
    clear hx hx2 hb5
    go_wp2_with fail
    refine (KR2.out w5).mono ?_
    rintro e w6 ⟨⟨y, rfl, hy, hy2⟩, hb6⟩
    have HY := Lib.hid (And.intro hy hy2)
    have B6 := Lib.hid (B5.out.trans (hb6.mono B5.out.size))
    clear hy hy2 hb6
    have KE := Lib.hid (errors_any x y (max c d - min c d) w6 (by rw [HX.out.1]; omega) (by rw [HY.out.1]; omega) (by
      rw [lev_same x y c d (fun i j hi hj => by rw [HX.out.2 i hi, HY.out.2 j hj]) y.size x.size (by rw [HX.out.1]; exact Nat.le_refl _) (by rw [HY.out.1]; exact Nat.le_refl _), HX.out.1, HY.out.1]))
    go_wp2_with fail
    refine KE.out.mono ?_
    rintro e w7 ⟨z, rfl, hb7⟩
    have B7 := Lib.hid (B6.out.trans (hb7.mono B6.out.size))
    have v1 : IntKind.i64.wrap ((c : Int) - (d : Int)) = (c : Int) - (d : Int) := IntWalk.i64_in _ (by omega)
    have v2 : IntKind.i64.wrap ((d : Int) - (c : Int)) = (d : Int) - (c : Int) := IntWalk.i64_in _ (by omega)
    have v3 : max ((c : Int) - (d : Int)) ((d : Int) - (c : Int)) = ((max c d - min c d : Nat) : Int) := by omega
    generalize max c d - min c d = D at *
    clear hb7 hc hd
    go_wp2_with fail
    go_ret
    exact ⟨rfl, B7.out⟩

end Go.Proofs.YtmoplmjfnjgcaaaDoor
namespace Go.Proofs.YtmoplmjfnjgcaaaDoor
open Go.ChangeShapes Go.WideShapes Go.ChangeAt Go.RowKit Go.Joins
open Go.ChangeMaps (open_string shut_string)
set_option linter.unusedVariables false

theorem own : ownKnob Tryd.prog.godebug = none := by kernel_rfl
theorem cellsByte : Tryd.prog.cellsOf 5 = 1 := by kernel_rfl

end Go.Proofs.YtmoplmjfnjgcaaaDoor
namespace Go.Proofs.YtmoplmjfnjgcaaaDoor
open Go.ChangeShapes Go.WideShapes Go.ChangeAt Go.RowKit Go.Joins
open Go.ChangeMaps (open_string shut_string)
set_option linter.unusedVariables false

theorem bounded_contract (H : Type) (enc : TypeId × Value → H) (W : World) (base : Nat) (args : Array Value) (ds gs : List (DataW H)) (before : List MemPlace)
    (hval0 : ∀ (j : Nat) t v, Tryd.f4.params[j]? = some t → args[j]? = some v → Value.okWide Tryd.prog W .any base t v)
    (hW : DataW.Whole enc Tryd.prog Tryd.f4.params.toList Rows.errorsAreBoundedSpec.vars false W args.toList ds gs before) :
    Calls Tryd.prog 4 args W fun e W' => ∃ v, e = .returned v ∧ Rows.errorsAreBoundedSpec.post enc Tryd.prog Tryd.f4 false true false false W args v W' := by
  have hval : ∀ (j : Nat) t v, Tryd.f4.params[j]? = some t → args[j]? = some v → Value.okWide Tryd.prog W .any base t v := hval0
  have hW' := hW
  obtain ⟨p, q, hA0, hV, rfl, _, _⟩ := hW
  have hA : DataW.TrodAll enc Tryd.prog W 0 (fun _ => true) true Tryd.f4.params.toList args.toList ds p := hA0
  rw [Tryd.params4] at hA hval
  obtain ⟨v0, vs0, d0, ds0, p0, q0, hargs, rfl, rfl, h0, r0⟩ := trodAll_cons hA
  obtain ⟨v1, vs1, d1, ds1, p1, q1, rfl, rfl, rfl, h1, r1⟩ := trodAll_cons r0
  obtain ⟨rfl, rfl, rfl⟩ := trodAll_nil r1
  obtain rfl : args = #[v0, v1] := by cases args; simp_all
  obtain ⟨rfl, rfl⟩ := trodVars_none hV
  obtain ⟨m0, rfl, rfl, rfl, w0⟩ := open_int Tryd.underlying3 (hval 0 3 v0 rfl rfl) h0
  obtain ⟨m1, rfl, rfl, rfl, w1⟩ := open_int Tryd.underlying3 (hval 1 3 v1 rfl rfl) h1
  clear hA0 hval0
  simp only [List.append_nil] at hW'
  refine (bounded_any m0 m1 W).mono fun e W' ⟨he, bel⟩ => ?_
  subst he
  exact ⟨_, rfl, _, _, _, [], _, [], hW', trodAll_mk1 (shut_bool Tryd.underlying4 _), (trodAll_cons_mk (shut_int Tryd.underlying3 w0) (trodAll_cons_mk (shut_int Tryd.underlying3 w1) trodAll_mk0)), rfl, bel.frame _, fun h => by cases h⟩

theorem bounded_reads (os : Os) {H : Type} (enc : TypeId × Value → H) : ∃ places, DataW.whole enc Tryd.prog ((World.laidAll Tryd.prog os Rows.errorsAreBoundedRow.laid).forCall (fun _ _ => 0) ⟨#[], #[.int .i64 0, .int .i64 0], []⟩).memory Tryd.f4.params.toList Rows.errorsAreBoundedSpec.vars false #[Value.int .i64 0, Value.int .i64 0].toList 8 = some ([.lit (.int .i64 0), .lit (.int .i64 0)], [], places) :=
  ⟨[], by kernel_rfl⟩

set_option maxRecDepth 100000 in
theorem bounded_lifted (os : Os) (started : os.Started) (H : Type) (enc : TypeId × Value → H) (F : Stop.Interp) :
    ReturnsInHanded {} Tryd.checked os 4 .any ((OpenSpec.ofChange Rows.errorsAreBoundedSpec).preRow enc Tryd.prog Tryd.f4 Rows.errorsAreBoundedRow.domain false Rows.errorsAreBoundedRow.laid) (((OpenSpec.ofChange Rows.errorsAreBoundedSpec).at F).post enc Tryd.prog Tryd.f4 false true false false) := by
  obtain ⟨places, hx⟩ := bounded_reads os enc
  refine returnsInHanded_of_row (C := Tryd.checked) (s := OpenSpec.ofChange Rows.errorsAreBoundedSpec) own started (by kernel_rfl) Tryd.func4
    (witness_row_at (enc := enc) (C := Tryd.checked) false (World.laidAll Tryd.prog os Rows.errorsAreBoundedRow.laid) #[.int .i64 0, .int .i64 0] (World.laidAll_os _ _ _) (by kernel_rfl) (by kernel_rfl) (by kernel_rfl)
      (OpenSpec.preRow_of_cond 8 hx (by kernel_rfl) (fun k hk => by cases hk) (by kernel_rfl) (by rw [MakeChecks.laidMetH_plain _ _ _ (by kernel_rfl)]; exact laidMet_laidAll _ (by kernel_rfl) (by kernel_rfl)))) ?_
  intro W base args ds gs before hval hW _ hcond _ hL _ _
  exact bounded_contract H enc W base args ds gs before hval hW

theorem bounded_row : Rows.ErrorsAreBoundedSaid :=
  OpenClaim.holds_of_cond 4 Tryd.f4 rfl rfl rfl rfl rfl rfl rfl ⟨rfl, rfl, rfl, rfl, rfl⟩ rfl rfl rfl rfl rfl (by kernel_rfl) Tryd.func4 (by kernel_rfl)
    (of_decide_eq_true (by kernel_rfl)) (by unfold Func.isWrapper; first | (rw [if_pos (by decide +kernel)]; kernel_rfl) | (rw [if_neg (by decide +kernel)]; exact ⟨rfl, rfl⟩))
    (fun os started H enc _ F => by rw [OpenClaim.pre_eq_preRow]; exact bounded_lifted os started H enc F)

theorem bounded_holds : Rows.ErrorsAreBoundedCardSaid :=
  Claim7.holds_tied_plain_at .later [] _ _ _ _ bounded_row (fun _ h => by cases h) (by kernel_rfl) (fun _ h => by cases h) errorsAreBounded_row_tie rfl ⟨rfl, rfl⟩ (by kernel_rfl) rfl
    (fun f fn hf hfn => by
      obtain rfl : f = 4 := Option.some.inj ((show Tryd.prog.funcNamed "flatbed/bedlaw1.ErrorsAreBounded" = some 4 by kernel_rfl).symm.trans hf) |>.symm
      obtain rfl : fn = Tryd.f4 := (Option.some.inj (Tryd.func4.symm.trans hfn)).symm
      exact ⟨by kernel_rfl, fun j t ht => by
        rw [Tryd.params4] at ht
        obtain rfl : t = 3 := by simpa using Array.mem_of_getElem? ht
        exact (show Tryd.prog.wantsStandIn 3 = false by kernel_rfl)⟩)
    (by kernel_rfl)
end Go.Proofs.YtmoplmjfnjgcaaaDoor
