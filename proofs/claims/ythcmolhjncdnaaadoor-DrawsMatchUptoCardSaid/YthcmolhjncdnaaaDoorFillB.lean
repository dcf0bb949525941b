/-
  The contract of page.Fill at bool: w by h values, row by row, as the function value tells them; the function value may make memory of its own, and turns nothing that was there.
-/
import Derived.Test.YthcmolhjncdnaaaDoorBase
namespace Go.Proofs.YthcmolhjncdnaaaDoor
open Go.RowKit
set_option linter.unusedSimpArgs false
set_option linter.unusedVariables false

set_option maxHeartbeats 800000 in
set_option maxRecDepth 100000 in
theorem fillBool_any (w h g : Nat) (capt : Array Value) (f : Nat → Nat → Bool) (W0 : World) (hw : 1 ≤ w) (hw' : w ≤ 10000000) (hh : h ≤ 10000000) (hN : w * h ≤ 10000000)
    (eg : ∀ (args : Array Value) (W : World), (callFunc g args).run Tryd.prog W = .ok (.enter g args) W)
    (hc : ∀ (x y : Nat) (W : World), x < w → y < h → Below W0.heap.size W0 W → Calls Tryd.prog g (#[.int .i64 x, .int .i64 y] ++ capt) W fun e W' => e = .returned (.bool (f x y)) ∧ Below W.heap.size W W') :
    Calls Tryd.prog 22 #[.int .i64 w, .int .i64 h, .func (.func g) #[] capt] W0 fun e W' =>
      ∃ v, e = .returned v ∧ W'.ownsRow W0.heap.size 4 1 v (w * h) ((places w f (w * h)).map (Value.bool)) ∧ Below W0.heap.size W0 W' := by
  obtain ⟨i0, hi, hz0, hz1, hz2⟩ := info_parts info_bool
  have m0 : (0 : Int) ≤ (w : Int) * (h : Int) := Int.mul_nonneg (by omega) (by omega)
  have m1 : (w : Int) * (h : Int) ≤ 10000000 := by rw [← Int.natCast_mul]; omega
  have HC := Lib.hid hc
  clear hc
  go_enter Tryd.func22, Tryd.ntmps22
  go_wp2_with (at_make; refine wpList_make_own _ rfl _ _ 22 rfl W0.heap.size 4 i0 (.bool false) 1 Tryd.underlying22 hi hz0 hz1 _ _ _ (w * h) rfl rfl (by rw [Int.natCast_mul]) (by rw [hz2]; omega) (by unfold maxLen; omega) (Nat.le_refl _) ?_)
  intro w1 hown1 hgrow1
  have hb1 : Below W0.heap.size W0 w1 := (Below.refl _ _).grown hgrow1 (Nat.le_refl _) (by simp)
  clear hgrow1
  go_wp2
  go_loopw [7, 15] (fun v i wr => ∃ y : Nat, y ≤ h ∧ i = .int .i64 y ∧ wr.ownsRow W0.heap.size 4 1 v (y * w) ((places w f (y * w)).map (Value.bool)) ∧ Below W0.heap.size W0 wr) (fun _ i _ => h - (intOf i).toNat)
  case atStart => exact ⟨0, Nat.zero_le _, rfl, by simpa [places] using hown1, hb1⟩
  case round =>
    obtain ⟨y, hy, rfl, hown, hb⟩ := hrel
    clear hown1 hb1
    by_cases hlt : y < h
    · obtain ⟨wo, rfl⟩ : ∃ wo : World, wo = wr := ⟨_, rfl⟩
      go_wp2
      go_loopw [7, 19] (fun v i wr => ∃ x : Nat, x ≤ w ∧ i = .int .i64 x ∧ wr.ownsRow W0.heap.size 4 1 v (y * w + x) ((places w f (y * w + x)).map (Value.bool)) ∧ Below W0.heap.size W0 wr) (fun _ i _ => w - (intOf i).toNat)
      case atStart => exact ⟨0, Nat.zero_le _, rfl, by simpa using hown, hb⟩
      case round =>
        obtain ⟨x, hx, rfl, hownr, hbr⟩ := hrel
        clear hown hb
        by_cases hltx : x < w
        · have HC' := HC.out x y
          have hfit := row_fits hlt (show x + 1 ≤ w by omega)
          go_wp2_with (first | (go_at_fn g; refine (HC' _ hltx hlt hbr).mono ?_; rintro e w' ⟨rfl, hb'⟩; have hown' := below_owns hownr hb') | (at_builtin; refine wpList_append_own _ rfl _ _ 22 rfl W0.heap.size 4 i0 (.bool false) 1 1 Tryd.underlying22 hi hz0 hz1 hz2 rfl (by decide) _ _ _ rfl (hown'.alloc _) ⟨w'.heap.size, 0, none⟩ 1 1 [.bool (f x y)] rfl rfl ?c1 ?c2 ?c3 ?c4 ?c5 ?_))
          case c1 => exact cell_one_new _ _ _
          case c2 => intro u hu; simp at hu; subst hu; rfl
          case c3 => unfold maxLen; omega
          case c4 => omega
          case c5 => have h1 := hbr.size; have h2 := hb'.size; simp; omega
          · intro v' w2 hown2 hgr2 _
            have hb2 : Below W0.heap.size W0 w2 := (((hbr.trans (hb'.mono hbr.size))).alloc (Nat.le_trans hbr.size hb'.size) _).grown hgr2 (by have h1 := hbr.size; have h2 := hb'.size; simp; omega) (fun k hk => (hown'.lt k hk).1)
            have hp := Lib.hid (places_succ w f x y hltx)
            clear hgr2 hown' hownr hbr hb' HC'
            go_wp2
            go_roundw
            case rel => exact ⟨x + 1, by omega, by go_num, by rw [← Nat.add_assoc, hp.out, List.map_append]; exact hown2, hb2⟩
            case measure => simp [intOf]; omega
        · have hxe := Lib.hid (show x = w by omega)
          go_wp2
          go_roundw
          case rel => exact ⟨y + 1, by omega, by go_num, by rw [show (y + 1) * w = y * w + x by rw [hxe.out, Nat.add_mul, Nat.one_mul]]; exact hownr, hbr⟩
          case measure => simp [intOf]; omega
    · have hye := Lib.hid (show y = h by omega)
      go_wp2
      go_ret
      exact ⟨_, rfl, by rw [Nat.mul_comm w h, ← hye.out]; exact hown, hb⟩

end Go.Proofs.YthcmolhjncdnaaaDoor
