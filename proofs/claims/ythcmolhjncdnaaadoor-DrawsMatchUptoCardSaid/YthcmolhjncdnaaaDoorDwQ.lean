/-
  slices.Equal of two rows of whole numbers of the call's own.
-/
import Derived.Test.YthcmolhjncdnaaaDoorRnB
import Derived.Test.YthcmolhjncdnaaaDoorEqInt
import Derived.Test.YthcmolhjncdnaaaDoorDwP
namespace Go.Proofs.YthcmolhjncdnaaaDoor
open Go.RowKit
set_option linter.unusedSimpArgs false
set_option linter.unusedVariables false

theorem dq_shape {w : World} {N : Nat} {e : TypeId} {v : Value} {n : Nat} {xs : List Value} (h : w.ownsRow N e 1 v n xs) : ∃ a c, v = .slice a n c := by
  rcases h.2 with ⟨h0, h1⟩ | ⟨g, cap, cur, h0, _⟩
  · subst h1; exact ⟨none, 0, h0⟩
  · exact ⟨some ⟨g, 0, none⟩, cap, h0⟩

theorem dq_zero (s t : Option Addr) (c d : Nat) (w : World) : Calls Tryd.prog 15 #[.slice s 0 c, .slice t 0 d] w fun e w' => e = .returned (.bool true) ∧ ∃ q, w' = w.drewN q := by
  go_enter Tryd.func15, Tryd.ntmps15
  go_wp2
  go_loopw [13] (fun i wr => i = .int .i64 0 ∧ wr = w) (fun i _ => 0)
  case atStart => exact ⟨rfl, rfl⟩
  case round =>
    obtain ⟨rfl, rfl⟩ := hrel
    go_wp2
    go_ret
    exact ⟨rfl, 0, rfl⟩
theorem dq_owned {w : World} {N M : Nat} {u v : Value} {l : List Nat} (hl : l.length ≤ 100000000) (hu : w.ownsRow N 3 1 u l.length (natsV l)) (hv : w.ownsRow M 3 1 v l.length (natsV l)) :
    Calls Tryd.prog 15 #[u, v] w fun e w' => e = .returned (.bool true) ∧ ∃ q, w' = w.drewN q := by
  by_cases h0 : l.length = 0
  · obtain ⟨a, c, rfl⟩ := dq_shape hu
    obtain ⟨a', c', rfl⟩ := dq_shape hv
    rw [h0]
    exact dq_zero a a' c c' w
  · obtain ⟨g, c, rfl⟩ := owns_slice hu (by omega)
    obtain ⟨g', c', rfl⟩ := owns_slice hv (by omega)
    exact equalInt_true g 0 g' 0 l.length c c' (intOfs l) w hl (fun j hj => by rw [Nat.zero_add, hu.cellAt j (by omega), natsV_get _ _ hj]) (fun j hj => by rw [Nat.zero_add, hv.cellAt j (by omega), natsV_get _ _ hj])
theorem unV_shape (L : Nat → Int) (n : Nat) (kind : Int) : ∃ s e, unV L n kind = .tuple #[.string s, .int .i64 e] := by
  unfold unV
  split
  · exact ⟨_, _, rfl⟩
  · split
    · exact ⟨_, _, rfl⟩
    · exact ⟨_, _, rfl⟩
theorem isNums_hid {w w' : World} {a : Option Addr} {len cap : Nat} {L : Nat → Int} (h : IsNums w a len cap L) (hb : Below w.heap.size w w') : IsNums w' a len cap L := by
  rcases h with h | ⟨g, o, h1, h2, h3⟩
  · exact .inl h
  · exact .inr ⟨g, o, h1, Nat.lt_of_lt_of_le h2 hb.size, fun i hi => cell_later hb (h3 i hi)⟩
theorem dq_len (z : Nat → Bool) (n : Nat) : (runsL z n).length ≤ n + 1 := by
  unfold runsL
  by_cases h : n = 0
  · rw [if_pos h]; simp
  · rw [if_neg h, rnL_length]
    have := (rn_row z n).2.2.2.2.1
    omega

end Go.Proofs.YthcmolhjncdnaaaDoor
