/-
  What sheets_holds leans on: contracts of the functions that it calls.
-/
import Derived.Test.YtofcojcfcpfdmaaRows
import Derived.WalkKit
import Derived.WalkSpells
import Derived.WalkLawsBesides
import Derived.Lib.Hide
import Derived.Deep.RegionHeld3
import Derived.Shelf.Abstract
import Derived.Deep.AppendLies
import Derived.Deep.DrawnRows
import Derived.Deep.RegionLaw
import Derived.Deep.QuietTactic
import Derived.BigQuiet
import Derived.ProofKit
import Derived.OpenShut
import Derived.ShutString
import Derived.ChangeOld
import Derived.Lib.SmallJoins
import Derived.Deep.Grids
import Derived.Deep.DeepCutAuto
import Derived.Lib.MinMax
import Derived.Deep.CutRange
import Derived.Laws.EntriesVeiled
import Derived.StillTailTactics
import Derived.RegionTactic
import Derived.ChangeAlike
import Derived.BigRegion
import Derived.Deep.OwnRows
import Derived.Test.YtofcojcfcpfdmaaCSheets6
namespace Go.Proofs.Ytofcojcfcpfdmaa
open Go.RowKit
set_option linter.unusedSimpArgs false
set_option linter.unusedVariables false

theorem moved1_any (W H gb xb yb g o c x y : Nat) (dx dy : Int) (z : Nat → Bool) (w : World) (hW : W ≤ 4000) (hH : H ≤ 4000) (hx : x ≤ 4000) (hy : y ≤ 4000) (hdx : -10000 ≤ dx ∧ dx ≤ 10000) (hdy : -10000 ≤ dy ∧ dy ≤ 10000)
    (h0 : w.cell? ⟨gb, 0, none⟩ = some (.int .i64 W)) (h1 : w.cell? ⟨gb, 1, none⟩ = some (.int .i64 H)) (h2 : w.cell? ⟨gb, 2, none⟩ = some (.slice (some ⟨g, o, none⟩) (W * H) c)) (h3 : w.cell? ⟨xb, 0, none⟩ = some (.int .i64 dx)) (h4 : w.cell? ⟨yb, 0, none⟩ = some (.int .i64 dy))
    (hc : ∀ j, j < W * H → w.cell? ⟨g, o + j, none⟩ = some (.bool (z j))) :
    Calls Try.prog 130 #[.int .i64 x, .int .i64 y, .pointer (some ⟨gb, 0, none⟩), .pointer (some ⟨xb, 0, none⟩), .pointer (some ⟨yb, 0, none⟩)] w fun e w' => e = .returned (.bool (atB W H z ((x : Int) - dx) ((y : Int) - dy))) ∧ Below w.heap.size w w' := by
  obtain ⟨d1, d2⟩ := hdx
  obtain ⟨d3, d4⟩ := hdy
  have HA := Lib.hid (atR_any W H g o c ((x : Int) - dx) ((y : Int) - dy) z w hW hH hc)
  clear hc
  go_enter Try.func130, Try.ntmps130
  go_wp2_with fail
  refine HA.out.mono ?_
  rintro e w2 ⟨rfl, hb2⟩
  have G := Lib.hid hb2
  clear hb2
  go_wp2_with fail
  go_ret
  exact ⟨rfl, G.out⟩

set_option maxHeartbeats 800000 in
set_option maxRecDepth 100000 in
theorem movedR_ok (W H g o c m n : Nat) (dx dy : Int) (z : Nat → Bool) (w : World) (bW : 1 ≤ W ∧ W ≤ 4000) (bH : 1 ≤ H ∧ H ≤ 4000) (bm : 1 ≤ m ∧ m ≤ 4000) (bn : 1 ≤ n ∧ n ≤ 4000) (hN : m * n ≤ 1048576) (hdx : -10000 ≤ dx ∧ dx ≤ 10000) (hdy : -10000 ≤ dy ∧ dy ≤ 10000)
    (hp : ∀ j, j < W * H → w.cell? ⟨g, o + j, none⟩ = some (.bool (z j))) :
    Calls Try.prog 104 #[.agg #[.int .i64 W, .int .i64 H, .slice (some ⟨g, o, none⟩) (W * H) c], .int .i64 m, .int .i64 n, .int .i64 dx, .int .i64 dy] w fun e w' =>
      ∃ g' c', e = .returned (.agg #[.int .i64 m, .int .i64 n, .slice (some ⟨g', 0, none⟩) (m * n) c']) ∧ (∀ k, k < m * n → w'.cell? ⟨g', 0 + k, none⟩ = some (.bool (atB W H z (((k % m : Nat) : Int) - dx) (((k / m : Nat) : Int) - dy)))) ∧ w.heap.size ≤ g' ∧ Below w.heap.size w w' := by
  have hmf : ∀ (fn : Fn) (first cap : Array Value) (w : World), (Instr.makeFunc fn first cap).run Try.prog w = .ok (.func fn first cap) w := fun _ _ _ _ => rfl
  have HC := Lib.hid hp
  clear hp
  go_enter Try.func104, Try.ntmps104
  go_wp2_with fail
  obtain ⟨w3, hw3⟩ : ∃ w3, w3 = (((w.alloc (.cells #[.int .i64 W, .int .i64 H, .slice (some ⟨g, o, none⟩) (W * H) c] 40)).alloc (.cells #[.int .i64 dx] 3)).alloc (.cells #[.int .i64 dy] 3)).alloc (.cells #[.int .i64 0, .int .i64 0, .slice none 0 0] 40) := ⟨_, rfl⟩
  have B3 : Below w.heap.size w w3 := by rw [hw3]; exact below_alloc (below_alloc (below_alloc (new_below _ _) _) _) _
  have q0 : w3.cell? ⟨w.heap.size, 0, none⟩ = some (.int .i64 W) := by rw [hw3]; go_simp
  have q1 : w3.cell? ⟨w.heap.size, 1, none⟩ = some (.int .i64 H) := by rw [hw3]; go_simp
  have q2 : w3.cell? ⟨w.heap.size, 2, none⟩ = some (.slice (some ⟨g, o, none⟩) (W * H) c) := by rw [hw3]; go_simp
  have q3 : w3.cell? ⟨w.heap.size + 1, 0, none⟩ = some (.int .i64 dx) := by rw [hw3]; go_simp
  have q4 : w3.cell? ⟨w.heap.size + 1 + 1, 0, none⟩ = some (.int .i64 dy) := by rw [hw3]; go_simp
  have qb : w3.heap[w.heap.size + 1 + 1 + 1]? = some (.cells #[.int .i64 0, .int .i64 0, .slice none 0 0] 40 (0, 0)) := by
    rw [hw3]
    simpa using heap_alloc_new (((w.alloc (.cells #[.int .i64 W, .int .i64 H, .slice (some ⟨g, o, none⟩) (W * H) c] 40)).alloc (.cells #[.int .i64 dx] 3)).alloc (.cells #[.int .i64 dy] 3)) (.cells #[.int .i64 0, .int .i64 0, .slice none 0 0] 40)
  rw [← hw3]
  clear hw3
  have lt1 := Lib.hid (Array.getElem?_eq_some_iff.1 qb).1
  refine (made_any m n 130 _ (fun x y => atB W H z ((x : Int) - dx) ((y : Int) - dy)) w3 (by omega) (by omega) (by omega) (by omega) (Go.Proofs.enters_of Try.func130 (by kernel_rfl) rfl) ?_).mono ?_
  · intro x y wx hx hy hbx
    exact moved1_any W H w.heap.size (w.heap.size + 1) (w.heap.size + 1 + 1) g o c x y dx dy z wx bW.2 bH.2 (by omega) (by omega) hdx hdy (cell_later hbx q0) (cell_later hbx q1) (cell_later hbx q2) (cell_later hbx q3) (cell_later hbx q4) (fun j hj => cell_later (below_step B3 hbx) (HC.out j hj))
  · rintro e w5 ⟨v, rfl, hown, hb5⟩
    obtain ⟨j0, j1, j2, r0, r1, r2⟩ := block3 (below_block hb5 qb)
    obtain ⟨gp, cp, rfl, hgp, hz⟩ := owns_pageB hown (Nat.mul_pos bm.1 bn.1)
    have HZ := Lib.hid hz
    have HG := Lib.hid hgp
    have G := Lib.hid (below_step B3 hb5)
    have hsz := B3.size
    have hl := lt1.out
    have hne : gp ≠ w.heap.size + 1 + 1 + 1 := by omega
    have hge : w.heap.size ≤ gp := by omega
    clear hown hb5 q0 q1 q2 q3 q4 qb hz hgp hsz hl
    go_wp2_with fail
    refine bodyPost_ret (v := .agg #[.int .i64 m, .int .i64 n, .slice (some ⟨gp, 0, none⟩) (m * n) cp]) (by simp [results, Try.results104, go_sem, j0, j1, j2]) rfl ⟨gp, cp, rfl, fun k hk => cell_far3 hne (HZ.out k hk), hge, below_far3 G.out (by omega)⟩

/-- The page with the ink in its middle, as the reference has it. -/
theorem cen_same {W m n p q X Y k : Nat} {z : Nat → Bool} (hk : k < m * n) (hp : 1 ≤ p) :
    atB p q (fun j => z ((Y + j / p) * W + X + j % p)) (((k % m : Nat) : Int) - ((m : Int) - p) / 2) (((k / m : Nat) : Int) - ((n : Int) - q) / 2) = cenZ m n p q X Y W z k := by
  unfold cenZ pasteAt atB
  by_cases h : InC p q (((m : Int) - p) / 2) (((n : Int) - q) / 2) (k % m) (k / m)
  · obtain ⟨⟨h1, h2⟩, h3, h4⟩ := h
    rw [if_pos (by omega), decide_eq_true (show InC p q (((m : Int) - p) / 2) (((n : Int) - q) / 2) (k % m) (k / m) from ⟨⟨h1, h2⟩, h3, h4⟩)]
    simp
  · rw [if_neg (fun h' => h (by unfold InC; omega)), decide_eq_false h]
    rfl

set_option maxHeartbeats 2000000 in
set_option maxRecDepth 100000 in
theorem centreR_ok (W H g o c m n : Nat) (z : Nat → Bool) (w : World) (hs : sizeErr W H = 0) (hmn : sizeErr m n = 0) (hi : anyInk z (W * H) = true) (hp : ∀ j, j < W * H → w.cell? ⟨g, o + j, none⟩ = some (.bool (z j))) :
    Calls Try.prog 51 #[.agg #[.int .i64 W, .int .i64 H, .slice (some ⟨g, o, none⟩) (W * H) c], .int .i64 m, .int .i64 n] w fun e w' =>
      ∃ X Y p q g' c' : Nat, BoxIs z W H X Y p q true ∧ e = .returned (.agg #[.int .i64 m, .int .i64 n, .slice (some ⟨g', 0, none⟩) (m * n) c']) ∧
        (∀ k, k < m * n → w'.cell? ⟨g', 0 + k, none⟩ = some (.bool (cenZ m n p q X Y W z k))) ∧ w.heap.size ≤ g' ∧ Below w.heap.size w w' := by
  obtain ⟨⟨a1, a2, a3, a4⟩, a5, a6⟩ := sizeErr_zero hs
  obtain ⟨⟨b1, b2, b3, b4⟩, b5, b6⟩ := sizeErr_zero hmn
  have hN : W * H ≤ 1048576 := by rw [← Int.natCast_mul] at a6; omega
  have hM : m * n ≤ 1048576 := by rw [← Int.natCast_mul] at b6; omega
  obtain ⟨w1, hw1⟩ : ∃ w1, w1 = (w.alloc (.cells #[.int .i64 W, .int .i64 H, .slice (some ⟨g, o, none⟩) (W * H) c] 40)).alloc (.cells #[.int .i64 0, .int .i64 0, .slice none 0 0] 40) := ⟨_, rfl⟩
  have B1 : Below w.heap.size w w1 := by rw [hw1]; exact below_alloc (new_below _ _) _
  have q1 : w1.heap[w.heap.size]? = some (.cells #[.int .i64 W, .int .i64 H, .slice (some ⟨g, o, none⟩) (W * H) c] 40 (0, 0)) := by rw [hw1, Below.heap_alloc _ _ _ (by simp)]; exact heap_alloc_new _ _
  have qb : w1.heap[w.heap.size + 1]? = some (.cells #[.int .i64 0, .int .i64 0, .slice none 0 0] 40 (0, 0)) := by
    rw [hw1]
    simpa using heap_alloc_new (w.alloc (.cells #[.int .i64 W, .int .i64 H, .slice (some ⟨g, o, none⟩) (W * H) c] 40)) (.cells #[.int .i64 0, .int .i64 0, .slice none 0 0] 40)
  have HC := Lib.hid hp
  have HI := Lib.hid hi
  have HN := Lib.hid hN
  have HM := Lib.hid hM
  have bW : 1 ≤ W ∧ W ≤ 4000 := by omega
  have bH : 1 ≤ H ∧ H ≤ 4000 := by omega
  have bm : 1 ≤ m ∧ m ≤ 4000 := by omega
  have bn : 1 ≤ n ∧ n ≤ 4000 := by omega
  clear hs hp hmn hi a5 a6 b5 b6 hN hM
  go_enter Try.func51, Try.ntmps51
  go_wp2_with fail
  rw [← hw1]
  clear hw1
  refine (boundsOf_any W H g o c z w1 bW bH (fun j hj => cell_later B1 (HC.out j hj))).mono ?_
  rintro e w2 ⟨X, Y, bw, bh, q, rfl, hbox, hb2⟩
  have hq := box_any bW.1 hbox
  rw [HI.out] at hq
  subst hq
  obtain ⟨x, y, bp, bq, e1, e2, e3, e4, e5, e6, e7, e8⟩ := boxis_nat hbox
  subst e1 e2 e3 e4
  have HBX := Lib.hid hbox
  have B2 := below_step B1 hb2
  have Q2 := below_block hb2 q1
  have QB2 := below_block hb2 qb
  clear hb2 hbox B1 q1 qb
  go_upto_region 2 with (fail)
  obtain ⟨w3, hw3⟩ : ∃ w3, w3 = w2.alloc (.cells #[.int .i64 x, .int .i64 y, .int .i64 bp, .int .i64 bq] 65) := ⟨_, rfl⟩
  have hb3 : Below w2.heap.size w2 w3 := by rw [hw3]; exact new_below _ _
  have x3 : w3.heap[w2.heap.size]? = some (.cells #[.int .i64 x, .int .i64 y, .int .i64 bp, .int .i64 bq] 65 (0, 0)) := by rw [hw3]; exact heap_alloc_new _ _
  rw [← hw3]
  clear hw3
  have hl2 := (Array.getElem?_eq_some_iff.1 QB2).1
  have B3 := Lib.hid (below_step B2 hb3)
  obtain ⟨p0, p1, p2, _, _, _⟩ := block3 (below_block hb3 Q2)
  have QB3 := Lib.hid (below_block hb3 QB2)
  obtain ⟨⟨s0, s1, s2, s3⟩, _, _, _, _⟩ := block4 x3
  have HC3 := Lib.hid (fun j hj => cell_later B3.out (HC.out j hj))
  have ne3 : w2.heap.size ≠ w.heap.size + 1 := by omega
  have ne3' : w.heap.size + 1 ≠ w2.heap.size := ne3.symm
  have d1 : -10000 ≤ (m : Int) - bp ∧ (m : Int) - bp ≤ 10000 := by omega
  have d2 : -10000 ≤ (n : Int) - bq ∧ (n : Int) - bq ≤ 10000 := by omega
  have HD1 := Lib.hid d1
  have HD2 := Lib.hid d2
  have HH1 := Lib.hid (show -10000 ≤ ((m : Int) - bp) / 2 ∧ ((m : Int) - bp) / 2 ≤ 10000 by omega)
  have HH2 := Lib.hid (show -10000 ≤ ((n : Int) - bq) / 2 ∧ ((n : Int) - bq) / 2 ≤ 10000 by omega)
  have HBP := Lib.hid (show (1 ≤ bp ∧ bp ≤ 4000) ∧ (1 ≤ bq ∧ bq ≤ 4000) by omega)
  have w1e : IntKind.i64.wrap ((m : Int) - bp) = (m : Int) - bp := IntWalk.i64_in _ (by omega)
  have w2e : IntKind.i64.wrap ((n : Int) - bq) = (n : Int) - bq := IntWalk.i64_in _ (by omega)
  clear hb3 x3 B2 Q2 QB2 d1 d2 hl2
  go_region_held3 (fun w' => w'.cell? ⟨w.heap.size, 0, none⟩ = some (.int .i64 W) ∧ w'.cell? ⟨w.heap.size, 1, none⟩ = some (.int .i64 H) ∧ w'.cell? ⟨w.heap.size, 2, none⟩ = some (.slice (some ⟨g, o, none⟩) (W * H) c) ∧
      w'.cell? ⟨w2.heap.size, 0, none⟩ = some (.int .i64 x) ∧ w'.cell? ⟨w2.heap.size, 1, none⟩ = some (.int .i64 y) ∧ w'.cell? ⟨w2.heap.size, 2, none⟩ = some (.int .i64 bp) ∧ w'.cell? ⟨w2.heap.size, 3, none⟩ = some (.int .i64 bq))
    (first | (go_keep; done) | (go_split_ands; exact ⟨cell_later hb6 (by assumption), cell_later hb6 (by assumption), cell_later hb6 (by assumption), cell_later hb6 (by assumption), cell_later hb6 (by assumption), cell_later hb6 (by assumption), cell_later hb6 (by assumption)⟩) | (go_split_ands; exact ⟨cell_later hb9 (by assumption), cell_later hb9 (by assumption), cell_later hb9 (by assumption), cell_later hb9 (by assumption), cell_later hb9 (by assumption), cell_later hb9 (by assumption), cell_later hb9 (by assumption)⟩))
    ((first | (go_at_call 105; ((with_reducible refine (cutOf_any W H x y bp bq g o (W * H) c z w3.drew bW.2 bH.2 e5 e6 e7 e8 rfl HN.out (fun j hj => cell_later (Below.refl _ _).drew (HC3.out j hj))).mono ?_); rintro e w6 ⟨v6, rfl, hown6, hb6⟩; obtain ⟨g6, c6, rfl, _, hz6⟩ := owns_pageB hown6 (Nat.mul_pos e7 e8); have Y6 := Lib.hid hz6; clear hown6 hz6)) | (go_at_call 91; ((with_reducible refine (down2_any ((m : Int) - bp) _ HD1.out).mono ?_); rintro e w' ⟨rfl, rfl⟩)) | (go_at_call 91; ((with_reducible refine (down2_any ((n : Int) - bq) _ HD2.out).mono ?_); rintro e w' ⟨rfl, rfl⟩)) | (go_at_call 104; ((with_reducible refine (movedR_ok bp bq g6 0 c6 m n (((m : Int) - bp) / 2) (((n : Int) - bq) / 2) (fun j => z ((y + j / bp) * W + x + j % bp)) w6 HBP.out.1 HBP.out.2 bm bn HM.out HH1.out HH2.out (fun j hj => Y6.out j hj)).mono ?_); rintro e w9 ⟨gp, cp, rfl, hz9, hgp9, hb9⟩; obtain ⟨k0, k1, k2, g0, g1, g2'⟩ := block3 (below_block hb9 (below_block hb6 (show w3.drew.heap[w.heap.size + 1]? = _ from QB3.out))); have HZ9 := Lib.hid hz9; have HGP9 := Lib.hid hgp9; clear hz9 hgp9))))
  have G := Lib.hid (below_step (below_step B3.out (below_step (Below.refl _ _).drew hb6)) hb9)
  have hgn : gp ≠ w.heap.size + 1 := by
    have h1 := (Array.getElem?_eq_some_iff.1 (below_block hb6 (show w3.drew.heap[w.heap.size + 1]? = _ from QB3.out))).1
    have h2 := HGP9.out
    omega
  have hsz : w.heap.size ≤ w.heap.size + 1 := by omega
  have hgw : w.heap.size ≤ gp := by
    have h1 := (Array.getElem?_eq_some_iff.1 (below_block hb6 (show w3.drew.heap[w.heap.size + 1]? = _ from QB3.out))).1
    have h2 := HGP9.out
    omega
  clear hb9 hb6 Y6 QB3 B3
  go_wp2_with fail
  refine bodyPost_ret (v := .agg #[.int .i64 m, .int .i64 n, .slice (some ⟨gp, 0, none⟩) (m * n) cp]) (by simp [results, Try.results51, go_sem, k0, k1, k2]) rfl ⟨x, y, bp, bq, gp, cp, HBX.out, rfl, fun k hk => ?_, hgw, below_far3 G.out hsz⟩
  rw [← cen_same hk e7]
  exact cell_far3 hgn (HZ9.out k hk)

end Go.Proofs.Ytofcojcfcpfdmaa
namespace Go.Proofs.Ytofcojcfcpfdmaa
open Go.RowKit
set_option linter.unusedSimpArgs false
set_option linter.unusedVariables false

theorem first3_new (x y u : Int) (w : World) :
    Calls Try.prog 11 #[.slice (some ⟨w.heap.size, 0, none⟩) 3 3] (w.alloc (.cells #[.int .i64 x, .int .i64 y, .int .i64 u] 27)) fun r w' => r = .returned (.int .i64 (orI x (orI y u))) ∧ w.alloc (.cells #[.int .i64 x, .int .i64 y, .int .i64 u] 27) = w' := by
  refine (first_any w.heap.size [x, y, u] _ (by simp) ?_).mono ?_
  · intro j hj
    match j, hj with
    | 0, _ => rw [World.cell?_alloc_at _ _ _ _ rfl]; rfl
    | 1, _ => rw [World.cell?_alloc_at _ _ _ _ rfl]; rfl
    | 2, _ => rw [World.cell?_alloc_at _ _ _ _ rfl]; rfl
  · rintro e w' ⟨rfl, rfl⟩
    refine ⟨ret_int ?_, rfl⟩
    simp only [firstOf, orI]
    by_cases hx : x = 0
    · by_cases hy : y = 0
      · by_cases hu : u = 0 <;> simp [hx, hy, hu]
      · simp [hx, hy]
    · simp [hx]

theorem want_bad {E L : Int} (h : E ≠ 0) (v : Int) : orI E (orI L v) = E := by unfold orI; rw [if_neg h]
end Go.Proofs.Ytofcojcfcpfdmaa
