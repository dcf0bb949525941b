/-
  page.Print.
-/
import Derived.Test.YtejhmobpepllcaaDoorBld
import Derived.Test.YtejhmobpepllcaaDoorFillY
import Derived.Laws.BytesArg
namespace Go.Proofs.YtejhmobpepllcaaDoor
open Go.RowKit
set_option linter.unusedSimpArgs false
set_option linter.unusedVariables false

/-- The letter of a printed page at (x, y); column W has the ends of the lines. -/
def letterAt (W : Nat) (z : Nat → Bool) (x y : Nat) : UInt8 := if x = W then 10 else letter (z (y * W + x))
theorem text_row (W : Nat) (z : Nat → Bool) (y x : Nat) (hx : x ≤ W) (h : pageText W z y = places (W + 1) (letterAt W z) (y * (W + 1))) :
    pageText W z y ++ rowText W z y x = places (W + 1) (letterAt W z) (y * (W + 1) + x) := by
  induction x with
  | zero => simp [rowText, h]
  | succ x ih =>
    rw [rowText, ← List.append_assoc, ih (by omega), ← Nat.add_assoc, places_succ (W + 1) _ x y (by omega)]
    congr 2
    unfold letterAt
    rw [if_neg (by omega)]
theorem text_places (W : Nat) (z : Nat → Bool) (y : Nat) : pageText W z y = places (W + 1) (letterAt W z) (y * (W + 1)) := by
  induction y with
  | zero => simp [pageText, places]
  | succ y ih =>
    rw [pageText, ← List.append_assoc, text_row W z y W (Nat.le_refl _) ih, show (y + 1) * (W + 1) = y * (W + 1) + W + 1 by rw [Nat.add_mul, Nat.one_mul, Nat.add_assoc], places_succ (W + 1) _ W y (by omega)]
    congr 2
    unfold letterAt
    rw [if_pos rfl]
theorem nums_text (W H : Nat) (z : Nat → Bool) : strOfNums (places (W + 1) (fun x y => ((letterAt W z x y).toNat : Int)) ((W + 1) * H)) = ⟨(pageText W z H).toArray⟩ := by
  unfold strOfNums
  rw [text_places, Nat.mul_comm (W + 1) H]
  simp [places, List.map_map, Function.comp_def]

theorem print_badPage (a b : Int) (p : Option Addr) (n c : Nat) (w : World) (h : pageErr a b n ≠ 0) :
    Calls Tryd.prog 5 #[.agg #[.int .i64 a, .int .i64 b, .slice p n c]] w fun e w' => e = .returned (.tuple #[.string ⟨#[]⟩, .int .i64 (pageErr a b n)]) ∧ Below w.heap.size w w' := by
  have h' : (pageErr a b n != 0) = true := by simpa using h
  clear h
  go_enter Tryd.func5, Tryd.ntmps5
  go_wp2_with ((go_at_call 22; refine (checkBits_any _ _ _ _ _ _).mono ?_; rintro e w' ⟨rfl, rfl⟩))
  go_ret2
  exact ⟨rfl, below_alloc (new_below _ _) _⟩

theorem print_large (a b : Int) (p : Option Addr) (n c : Nat) (w : World) (h : pageErr a b n = 0) (hl : 200 < a ∨ 200 < b) :
    Calls Tryd.prog 5 #[.agg #[.int .i64 a, .int .i64 b, .slice p n c]] w fun e w' => e = .returned (.tuple #[.string ⟨#[]⟩, .int .i64 4]) ∧ Below w.heap.size w w' := by
  by_cases h1 : 200 < a
  · clear hl
    go_enter Tryd.func5, Tryd.ntmps5
    go_wp2_with ((go_at_call 22; refine (checkBits_any _ _ _ _ _ _).mono ?_; rintro e w' ⟨rfl, rfl⟩))
    go_ret2
    exact ⟨rfl, below_alloc (new_below _ _) _⟩
  · have h2 : 200 < b := by omega
    have h3 : a ≤ 200 := by omega
    clear hl h1
    go_enter Tryd.func5, Tryd.ntmps5
    go_wp2_with ((go_at_call 22; refine (checkBits_any _ _ _ _ _ _).mono ?_; rintro e w' ⟨rfl, rfl⟩))
    go_ret2
    exact ⟨rfl, below_alloc (new_below _ _) _⟩

set_option maxHeartbeats 400000 in
set_option maxRecDepth 100000 in
theorem print1_any (W H x y gb pb po c : Nat) (z : Nat → Bool) (w : World) (hW : W ≤ 200) (hH : H ≤ 200) (hx : x < W + 1) (hy : y < H)
    (h0 : w.cell? ⟨gb, 0, none⟩ = some (.int .i64 W)) (h2 : w.cell? ⟨gb, 2, none⟩ = some (.slice (some ⟨pb, po, none⟩) (W * H) c)) (hp : ∀ j, j < W * H → w.cell? ⟨pb, po + j, none⟩ = some (.bool (z j))) :
    Calls Tryd.prog 24 #[.int .i64 x, .int .i64 y, .pointer (some ⟨gb, 0, none⟩)] w fun e w' => e = .returned (.int .u8 ((letterAt W z x y).toNat : Int)) ∧ Below w.heap.size w w' := by
  by_cases hxw : x = W
  · subst hxw
    have hl : letterAt x z x y = 10 := if_pos rfl
    have HL := Lib.hid hl
    clear hl hp
    go_enter Tryd.func24, Tryd.ntmps24
    go_wp2
    go_ret
    exact ⟨by rw [HL.out]; rfl, Below.refl _ _⟩
  · have hfit := row_fits hy (show x + 1 ≤ W by omega)
    have hcell := hp (y * W + x) (by omega)
    have hN := Nat.mul_le_mul hW hH
    have x0 : (0 : Int) ≤ (y : Int) * (W : Int) := Int.mul_nonneg (by omega) (by omega)
    have x1 : (y : Int) * (W : Int) + (x : Int) < ((W * H : Nat) : Int) := by rw [← Int.natCast_mul]; omega
    have x3 : (y : Int) * (W : Int) + (x : Int) < (W : Int) * (H : Int) := by rw [← Int.natCast_mul, ← Int.natCast_mul]; omega
    have x2 : ((W * H : Nat) : Int) ≤ 40000 := by omega
    have hl : letterAt W z x y = letter (z (y * W + x)) := if_neg hxw
    have e1 : ((x : Int) == (W : Int)) = false := by simpa using (by omega : ¬ (x : Int) = (W : Int))
    have e2 : (x == W) = false := by simpa using hxw
    obtain ⟨q, hq⟩ : ∃ q, q = z (y * W + x) := ⟨_, rfl⟩
    rw [← hq] at hcell hl
    have HL := Lib.hid hl
    clear hl hfit hN hq hp hxw
    cases q
    · go_enter Tryd.func24, Tryd.ntmps24
      go_wp2
      go_ret
      exact ⟨by rw [HL.out]; rfl, Below.refl _ _⟩
    · go_enter Tryd.func24, Tryd.ntmps24
      go_wp2
      go_ret
      exact ⟨by rw [HL.out]; rfl, Below.refl _ _⟩

set_option maxHeartbeats 800000 in
set_option maxRecDepth 100000 in
theorem print_ok (W H g o c : Nat) (z : Nat → Bool) (w : World) (he : sizeErr W H = 0) (hW : W ≤ 200) (hH : H ≤ 200) (hp : ∀ j, j < W * H → w.cell? ⟨g, o + j, none⟩ = some (.bool (z j))) :
    Calls Tryd.prog 5 #[.agg #[.int .i64 W, .int .i64 H, .slice (some ⟨g, o, none⟩) (W * H) c]] w fun e w' => e = .returned (.tuple #[.string ⟨(pageText W z H).toArray⟩, .int .i64 0]) ∧ Below w.heap.size w w' := by
  have hmf : ∀ (fn : Fn) (first cap : Array Value) (w : World), (Instr.makeFunc fn first cap).run Tryd.prog w = .ok (.func fn first cap) w := fun _ _ _ _ => rfl
  obtain ⟨⟨a1, a2, a3, a4⟩, a5, a6⟩ := sizeErr_zero he
  have hpe : pageErr W H (W * H) = 0 := by unfold pageErr; rw [if_pos he, if_pos (by simp [Int.natCast_mul])]
  have hN := Nat.mul_le_mul (show W + 1 ≤ 201 by omega) hH
  have hpos := Nat.mul_pos (show 0 < W + 1 by omega) (show 0 < H by omega)
  have HC := Lib.hid hp
  have HNN := Lib.hid hN
  clear hp a5 a6 he hN
  go_enter Tryd.func5, Tryd.ntmps5
  go_wp2_with ((go_at_call 22; refine (checkBits_any _ _ _ _ _ _).mono ?_; rintro e w' ⟨rfl, rfl⟩))
  obtain ⟨w1, hw1⟩ : ∃ w1, w1 = (w.alloc (.cells #[.int .i64 W, .int .i64 H, .slice (some ⟨g, o, none⟩) (W * H) c] 24)).alloc (.cells #[.int .i64 W, .int .i64 H, .slice (some ⟨g, o, none⟩) (W * H) c] 24) := ⟨_, rfl⟩
  have B1 : Below w.heap.size w w1 := by rw [hw1]; exact below_alloc (new_below _ _) _
  have q0 : w1.cell? ⟨w.heap.size, 0, none⟩ = some (.int .i64 W) := by rw [hw1]; go_simp
  have q2 : w1.cell? ⟨w.heap.size, 2, none⟩ = some (.slice (some ⟨g, o, none⟩) (W * H) c) := by rw [hw1]; go_simp
  rw [← hw1]
  clear hw1
  have HB1 := Lib.hid B1
  refine (fillByte_any (W + 1) H 24 _ (fun x y => ((letterAt W z x y).toNat : Int)) w1 (by omega) (by omega) (by omega) (by have := HNN.out; omega) (Go.Proofs.enters_of Tryd.func24 (by kernel_rfl) rfl) ?_).mono ?_
  · intro x y wx hx hy hbx
    exact print1_any W H x y w.heap.size g o c z wx hW hH hx hy (cell_later hbx q0) (cell_later hbx q2) (fun j hj => cell_later hbx (cell_later B1 (HC.out j hj)))
  · rintro e w5 ⟨v, rfl, hown, hb5⟩
    obtain ⟨gp, cp, rfl⟩ : ∃ g c, v = .slice (some ⟨g, 0, none⟩) ((W + 1) * H) c := by
      rcases hown.2 with ⟨_, h0⟩ | ⟨g, c, cur, rfl, _⟩
      · omega
      · exact ⟨g, c, rfl⟩
    have hlen : (places (W + 1) (fun x y => ((letterAt W z x y).toNat : Int)) ((W + 1) * H)).length = (W + 1) * H := places_length _ _ _
    have hconv := run_convert_bytes_arg (P := Tryd.prog) w5 37 5 Tryd.underlying37 Tryd.underlying5 gp 0 ((W + 1) * H) cp (places (W + 1) (fun x y => ((letterAt W z x y).toNat : Int)) ((W + 1) * H)) hlen (fun i hi => by
      rw [Nat.zero_add, hown.cellAt i (by omega), List.getElem?_map, List.getD_eq_getElem?_getD, List.getElem?_eq_getElem (by rw [hlen]; exact hi)]
      rfl) 9 Tryd.underlying9
    rw [nums_text] at hconv
    have G := Lib.hid hb5
    clear hown hb5 hlen q0 q2 B1
    go_wp2
    go_ret2
    exact ⟨rfl, below_step HB1.out G.out⟩

end Go.Proofs.YtejhmobpepllcaaDoor
