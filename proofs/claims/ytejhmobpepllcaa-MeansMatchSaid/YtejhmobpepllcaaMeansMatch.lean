/-
  MeansMatch returns true for every page in grey and every radius, and each argument reads afterwards as it read before. No conditions.
-/
import Derived.Test.YtejhmobpepllcaaMmb
import Derived.Test.YtejhmobpepllcaaFrame
namespace Go.Proofs.Ytejhmobpepllcaa
open Go.ChangeShapes Go.WideShapes Go.ChangeAt Go.RowKit Go.Joins
open Go.ChangeMaps (open_string shut_string)
set_option linter.unusedVariables false

theorem mm_walk (a b r : Int) (s : Option Addr) (n c : Nat) (zs : List Int) (w : World) (hs : IsBytes w s n c zs) :
    Calls Try.prog 7 #[.agg #[.int .i64 a, .int .i64 b, .slice s n c], .int .i64 r] w fun e w' => e = .returned (.bool true) ∧ Below w.heap.size w w' := by
  by_cases h : pageErr a b n = 0
  · by_cases hr : 0 ≤ r ∧ r ≤ 200
    · have he : sizeErr a b = 0 := by
        unfold pageErr at h
        by_cases h0 : sizeErr a b = 0
        · exact h0
        · rw [if_neg h0] at h; exact absurd h h0
      have hn : (n : Int) = a * b := by
        unfold pageErr at h
        rw [if_pos he] at h
        by_cases h1 : (n : Int) = a * b
        · exact h1
        · rw [if_neg h1] at h; simp at h
      obtain ⟨⟨a1, a2, a3, a4⟩, _, _⟩ := sizeErr_zero he
      obtain ⟨W, rfl⟩ := Int.eq_ofNat_of_zero_le (by omega : 0 ≤ a)
      obtain ⟨H, rfl⟩ := Int.eq_ofNat_of_zero_le (by omega : 0 ≤ b)
      obtain ⟨R, rfl⟩ := Int.eq_ofNat_of_zero_le hr.1
      obtain rfl : n = W * H := by
        have : (n : Int) = ((W * H : Nat) : Int) := by rw [hn, Int.natCast_mul]
        omega
      obtain ⟨pb, po, rfl, hc, hP⟩ := isBytes_cells hs (Nat.mul_pos (by omega) (by omega))
      exact mm_ok W H pb po c R (fun j => zs.getD j 0) w he (by omega) hP hc
    · exact mm_badRadius a b r s n c w h hr
  · exact mm_badPage a b r s n c w h

set_option maxRecDepth 100000 in
theorem means_lifted (os : Os) (started : os.Started) (H : Type) (enc : TypeId × Value → H) :
    ReturnsInHanded {} Try.checked os 7 .any (Rows.meansMatchSpec.pre6 enc Try.prog Try.f7 Rows.meansMatchRow.domain false) (Rows.meansMatchSpec.post enc Try.prog Try.f7 false true false false) := by
  refine returnsInHanded_of_change (C := Try.checked) own started (by kernel_rfl) Try.func7
    (ChangeSpec.witness6 (enc := enc) (C := Try.checked) false ⟨#[], #[.agg #[.int .i64 0, .int .i64 0, .slice none 0 0], .int .i64 0], []⟩ 8 (by kernel_rfl) (by kernel_rfl) (by kernel_rfl) (by kernel_rfl)) ?_
  intro W base args ds gs before hval0 hW hcnd _
  have hval : ∀ (j : Nat) t v, Try.f7.params[j]? = some t → args[j]? = some v → Value.okWide Try.prog W .any base t v := hval0
  have hW' := hW
  obtain ⟨p, q, hA0, hV, rfl, hfz, hnd⟩ := hW
  have hA : DataW.TrodAll enc Try.prog W 0 (fun _ => true) true Try.f7.params.toList args.toList ds p := hA0
  rw [Try.params7] at hA hval
  obtain ⟨v0, vs0, d0, ds0, p0, q0, hargs, rfl, rfl, h0, r0⟩ := trodAll_cons hA
  obtain ⟨v1, vs1, d1, ds1, p1, q1, rfl, rfl, rfl, h1, r1⟩ := trodAll_cons r0
  obtain ⟨rfl, rfl, rfl⟩ := trodAll_nil r1
  obtain rfl : args = #[v0, v1] := by cases args; simp_all
  obtain ⟨rfl, rfl⟩ := trodVars_none hV
  have k0 := h0
  have lt0 : ∀ x ∈ p0, x.block < W.heap.size := by obtain ⟨m, hm⟩ := k0; exact DataW.trod_lt m _ _ _ hm
  obtain ⟨a, b, s, n, c, zs, rfl, hs⟩ := open_gray (hval 0 27 v0 rfl rfl) h0
  obtain ⟨a1, rfl, rfl, rfl, w1⟩ := open_int Try.underlying3 (hval 1 3 v1 rfl rfl) h1
  clear hA0 hval0
  refine (mm_walk a b a1 s n c zs W hs).mono fun e W' ⟨he, bel⟩ => ?_
  subst he
  exact ⟨_, rfl, _, _, _, [], _, [], hW', trodAll_mk1 (shut_bool Try.underlying4 _), (trodAll_cons_mk (Below.trod laidOut (by kernel_rfl) (of_decide_eq_true (by kernel_rfl)) k0 bel lt0) (trodAll_cons_mk (shut_int Try.underlying3 w1) trodAll_mk0)), rfl, bel.frame _, fun h => by cases h⟩

theorem means_over : Rows.meansMatchRow.holds Try.pinned (OpenSpec.ofChange Rows.meansMatchSpec) :=
  OpenClaim.holds_of_wide 7 Try.f7 rfl rfl rfl rfl rfl rfl rfl ⟨rfl, rfl, rfl, rfl, rfl⟩ rfl rfl rfl rfl rfl (by kernel_rfl) Try.func7 (by kernel_rfl)
    (of_decide_eq_true (by kernel_rfl)) (by unfold Func.isWrapper; first | (rw [if_pos (by decide +kernel)]; kernel_rfl) | (rw [if_neg (by decide +kernel)]; exact ⟨rfl, rfl⟩))
    (fun os started H enc _ => means_lifted os started H enc)

theorem means_holds : Rows.MeansMatchSaid := means_over
#print axioms means_holds
end Go.Proofs.Ytejhmobpepllcaa
