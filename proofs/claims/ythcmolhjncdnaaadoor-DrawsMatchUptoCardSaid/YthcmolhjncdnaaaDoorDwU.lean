/-
  Units: bytes that grow, and the modules of runs of an EAN.
-/
import Derived.Test.YthcmolhjncdnaaaDoorDwB
import Derived.Test.YthcmolhjncdnaaaDoorRnA
import Derived.Test.YthcmolhjncdnaaaDoorSmall
import Derived.Test.YthcmolhjncdnaaaDoorBaA
import Derived.Laws.IdiomStrings
namespace Go.Proofs.YthcmolhjncdnaaaDoor
open Go.RowKit
set_option linter.unusedSimpArgs false
set_option linter.unusedVariables false

/-- A slice of numbers that came in. -/
def IsNums (w : World) (a : Option Addr) (len cap : Nat) (L : Nat → Int) : Prop :=
  len = 0 ∨ ∃ g o, a = some ⟨g, o, none⟩ ∧ g < w.heap.size ∧ ∀ i, i < len → w.cell? ⟨g, o + i, none⟩ = some (.int .i64 (L i))

def unB (i : Nat) : UInt8 := if i % 2 = 1 then 48 else 49
def unL (K : Nat → Nat) : Nat → List UInt8
  | 0 => []
  | i + 1 => unL K i ++ List.replicate (K i) (unB i)
theorem unL_len {K : Nat → Nat} {n : Nat} (h : ∀ i, K i ≤ 4) : (unL K n).length ≤ 4 * n := by
  induction n with
  | zero => simp [unL]
  | succ n ih => rw [unL, List.length_append, List.length_replicate]; have := h n; omega
def bytesV (l : List UInt8) : List Value := l.map fun b => Value.int .u8 (b.toNat : Int)
theorem bytesV_len (l : List UInt8) : (bytesV l).length = l.length := by simp [bytesV]
theorem bytesV_snoc (l : List UInt8) (b : UInt8) : bytesV l ++ [.int .u8 (b.toNat : Int)] = bytesV (l ++ [b]) := by simp [bytesV]

theorem unL_pos {K : Nat → Nat} {n : Nat} (h : ∀ i, 1 ≤ K i) : n ≤ (unL K n).length := by
  induction n with
  | zero => exact Nat.zero_le _
  | succ n ih => rw [unL, List.length_append, List.length_replicate]; have := h n; omega
/-- A row of bytes of the call's own, made a text. -/
theorem bytes_text {w : World} {N g c : Nat} {l : List UInt8} (h : w.ownsRow N 5 1 (.slice (some ⟨g, 0, none⟩) l.length c) l.length (bytesV l)) :
    (convert 71 9 (.slice (some ⟨g, 0, none⟩) l.length c)).run Tryd.prog w = .ok (.string ⟨l.toArray⟩) w :=
  run_convert_bytes_back (P := Tryd.prog) w 71 9 5 ⟨g, 0, none⟩ c l Tryd.underlying71 Tryd.underlying5 Tryd.underlying9 (fun j hj => by
    rw [Addr.add_lit, Nat.zero_add, h.cellAt j (by omega)]
    simp [bytesV, hj])

theorem info_u8 : (Tryd.prog.info? 5).map (fun i => (i.zero, i.size, i.bytes)) = some (some (.int .u8 0), 1, 1) := by kernel_rfl

set_option maxHeartbeats 1000000 in
set_option maxRecDepth 100000 in
theorem appendRun_any (N i t : Nat) (l : List UInt8) (v : Value) (w : World) (hi2 : i ≤ 9223372036854775807) (ht : t ≤ 4) (hl : l.length ≤ 100000000) (hN : N ≤ w.heap.size) (hv : w.ownsRow N 5 1 v l.length (bytesV l)) :
    Calls Tryd.prog 53 #[v, .int .i64 i, .int .i64 t] w fun e w' => ∃ v', e = .returned v' ∧ w'.ownsRow N 5 1 v' (l ++ List.replicate t (unB i)).length (bytesV (l ++ List.replicate t (unB i))) ∧ Below N w w' := by
  obtain ⟨i0, hi, hz0, hz1, hz2⟩ := info_parts info_u8
  have hm : (i : Int).tmod 2 = ((i % 2 : Nat) : Int) := by rw [Int.tmod_eq_emod_of_nonneg (by omega)]; omega
  have HV := Lib.hid hv
  have HNN := Lib.hid hN
  clear hv hN
  by_cases hp : i % 2 = 1
  · have hub : unB i = 48 := by unfold unB; rw [if_pos hp]
    have HU := Lib.hid hub
    have hp' : (i : Int) % 2 = 1 := by omega
    rw [hub]
    clear hub
    go_enter Tryd.func53, Tryd.ntmps53
    go_wp2_with fail
    go_loopw [0, 12] (fun v k wr => ∃ j : Nat, j ≤ t ∧ k = .int .i64 j ∧ Hid (wr.ownsRow N 5 1 v (l.length + j) (bytesV (l ++ List.replicate j 48)) ∧ Below N w wr)) (fun _ k _ => t - (intOf k).toNat)
    case atStart => exact ⟨0, Nat.zero_le _, rfl, Lib.hid ⟨by simpa using HV.out, Below.refl _ _⟩⟩
    case round =>
      obtain ⟨j, hj, rfl, HR⟩ := hrel
      by_cases hlt : j < t
      · have i1 : (j : Int) < (t : Int) := by omega
        go_wp2_with (at_builtin; refine wpList_append_own _ rfl _ _ 71 rfl N 5 i0 (.int .u8 0) 1 1 Tryd.underlying71 hi hz0 hz1 hz2 rfl (by decide) _ _ _ rfl (HR.out.1.alloc _) ⟨wr.heap.size, 0, none⟩ 1 1 [.int .u8 48] rfl rfl ?c1 ?c2 ?c3 ?c4 ?c5 ?_)
        case c1 => exact cell_one_new _ _ _
        case c2 => intro u hu; simp at hu; subst hu; rfl
        case c3 => unfold maxLen; omega
        case c4 => omega
        case c5 => have := HR.out.2.size; have := HNN.out; simp; omega
        intro v' w5 hown5 hgr5 _
        have hN5 : N ≤ (wr.alloc (.cells #[.int .u8 48] 5)).heap.size := by have := HR.out.2.size; have := HNN.out; simp; omega
        have hb5 : Below N w w5 := (HR.out.2.alloc (by have := HR.out.2.size; have := HNN.out; omega) (.cells #[.int .u8 48] 5)).grown hgr5 hN5 (fun q hq => (HR.out.1.lt q hq).1)
        have H5 := Lib.hid (show w5.ownsRow N 5 1 v' (l.length + (j + 1)) (bytesV (l ++ List.replicate (j + 1) 48)) by
          rw [List.replicate_succ', ← List.append_assoc, ← bytesV_snoc]
          exact hown5)
        have B5 := Lib.hid hb5
        clear hown5 hgr5 hb5 hN5 HR
        go_wp2_with fail
        go_roundw
        case rel => exact ⟨j + 1, by omega, by go_num, Lib.hid ⟨H5.out, B5.out⟩⟩
        case measure => simp [intOf]; omega
      · obtain rfl : j = t := by omega
        go_wp2_with fail
        go_ret
        exact ⟨_, rfl, by rw [List.length_append, List.length_replicate]; exact HR.out.1, HR.out.2⟩
  · have hub : unB i = 49 := by unfold unB; rw [if_neg hp]
    have HU := Lib.hid hub
    have hp' : (i : Int) % 2 = 0 := by omega
    rw [hub]
    clear hub
    go_enter Tryd.func53, Tryd.ntmps53
    go_wp2_with fail
    go_loopw [0, 12] (fun v k wr => ∃ j : Nat, j ≤ t ∧ k = .int .i64 j ∧ Hid (wr.ownsRow N 5 1 v (l.length + j) (bytesV (l ++ List.replicate j 49)) ∧ Below N w wr)) (fun _ k _ => t - (intOf k).toNat)
    case atStart => exact ⟨0, Nat.zero_le _, rfl, Lib.hid ⟨by simpa using HV.out, Below.refl _ _⟩⟩
    case round =>
      obtain ⟨j, hj, rfl, HR⟩ := hrel
      by_cases hlt : j < t
      · have i1 : (j : Int) < (t : Int) := by omega
        go_wp2_with (at_builtin; refine wpList_append_own _ rfl _ _ 71 rfl N 5 i0 (.int .u8 0) 1 1 Tryd.underlying71 hi hz0 hz1 hz2 rfl (by decide) _ _ _ rfl (HR.out.1.alloc _) ⟨wr.heap.size, 0, none⟩ 1 1 [.int .u8 49] rfl rfl ?c1 ?c2 ?c3 ?c4 ?c5 ?_)
        case c1 => exact cell_one_new _ _ _
        case c2 => intro u hu; simp at hu; subst hu; rfl
        case c3 => unfold maxLen; omega
        case c4 => omega
        case c5 => have := HR.out.2.size; have := HNN.out; simp; omega
        intro v' w5 hown5 hgr5 _
        have hN5 : N ≤ (wr.alloc (.cells #[.int .u8 49] 5)).heap.size := by have := HR.out.2.size; have := HNN.out; simp; omega
        have hb5 : Below N w w5 := (HR.out.2.alloc (by have := HR.out.2.size; have := HNN.out; omega) (.cells #[.int .u8 49] 5)).grown hgr5 hN5 (fun q hq => (HR.out.1.lt q hq).1)
        have H5 := Lib.hid (show w5.ownsRow N 5 1 v' (l.length + (j + 1)) (bytesV (l ++ List.replicate (j + 1) 49)) by
          rw [List.replicate_succ', ← List.append_assoc, ← bytesV_snoc]
          exact hown5)
        have B5 := Lib.hid hb5
        clear hown5 hgr5 hb5 hN5 HR
        go_wp2_with fail
        go_roundw
        case rel => exact ⟨j + 1, by omega, by go_num, Lib.hid ⟨H5.out, B5.out⟩⟩
        case measure => simp [intOf]; omega
      · obtain rfl : j = t := by omega
        go_wp2_with fail
        go_ret
        exact ⟨_, rfl, by rw [List.length_append, List.length_replicate]; exact HR.out.1, HR.out.2⟩

def sumI (L : Nat → Int) : Nat → Int
  | 0 => 0
  | i + 1 => sumI L i + L i
theorem sumI_le {L : Nat → Int} {n : Nat} (h : ∀ i, i < n → 1 ≤ L i ∧ L i ≤ 4000) : (n : Int) ≤ sumI L n ∧ sumI L n ≤ 4000 * n := by
  induction n with
  | zero => simp [sumI]
  | succ n ih =>
    have a := ih (fun i hi => h i (by omega))
    have b := h n (by omega)
    rw [sumI]
    omega

theorem total_any (n g o c : Nat) (L : Nat → Int) (w : World) (hn : n ≤ 59) (hL : ∀ i, i < n → 1 ≤ L i ∧ L i ≤ 4000) (hp : ∀ i, i < n → w.cell? ⟨g, o + i, none⟩ = some (.int .i64 (L i))) :
    Calls Tryd.prog 51 #[.slice (some ⟨g, o, none⟩) n c] w fun e w' => e = .returned (.int .i64 (sumI L n)) ∧ w = w' := by
  have HP := Lib.hid hp
  have HL := Lib.hid hL
  clear hp hL
  go_enter Tryd.func51, Tryd.ntmps51
  go_wp2_with fail
  go_loopw [3, 8] (fun s i wr => ∃ k : Nat, k ≤ n ∧ i = .int .i64 k ∧ s = .int .i64 (sumI L k) ∧ w = wr) (fun _ i _ => n - (intOf i).toNat)
  case atStart => exact ⟨0, Nat.zero_le _, rfl, rfl, rfl⟩
  case round =>
    obtain ⟨k, hk, rfl, rfl, rfl⟩ := hrel
    have hb := sumI_le (L := L) (n := k) (fun i hi => HL.out i (by omega))
    by_cases hlt : k < n
    · have hc := HP.out k hlt
      have hx := HL.out k hlt
      have HS := Lib.hid (show sumI L (k + 1) = sumI L k + L k from rfl)
      obtain ⟨x, hxx⟩ : ∃ x, x = L k := ⟨_, rfl⟩
      obtain ⟨s, hs⟩ : ∃ s, s = sumI L k := ⟨_, rfl⟩
      rw [← hxx] at hc hx HS
      rw [← hs] at hb HS
      rw [← hs]
      obtain ⟨x1, x2⟩ := hx
      obtain ⟨s1, s2⟩ := hb
      have i1 : (k : Int) < (n : Int) := by omega
      clear hxx hs
      go_wp2_with fail
      go_roundw
      case rel => exact ⟨k + 1, by omega, by go_num, by rw [HS.out], trivial⟩
      case measure => simp [intOf]; omega
    · obtain rfl : k = n := by omega
      go_wp2_with fail
      go_ret
      exact ⟨rfl, rfl⟩

/-- How many modules a run of an EAN has. -/
def eanK (L : Nat → Int) (S : Int) (i : Nat) : Nat := (min (max ((2 * (L i * 95) + S) / (2 * S)) 1) 4).toNat
theorem eanK_le (L : Nat → Int) (S : Int) (i : Nat) : 1 ≤ eanK L S i ∧ eanK L S i ≤ 4 := by unfold eanK; omega

set_option maxHeartbeats 1000000 in
set_option maxRecDepth 100000 in
theorem unitsEAN_any (g o c : Nat) (L : Nat → Int) (w : World) (hL : ∀ i, i < 59 → 1 ≤ L i ∧ L i ≤ 4000) (hp : ∀ i, i < 59 → w.cell? ⟨g, o + i, none⟩ = some (.int .i64 (L i))) :
    Calls Tryd.prog 34 #[.slice (some ⟨g, o, none⟩) 59 c] w fun e w' => e = .returned (.string ⟨(unL (eanK L (sumI L 59)) 59).toArray⟩) ∧ Below w.heap.size w w' := by
  have T := Lib.hid (total_any 59 g o c L w (Nat.le_refl _) hL hp)
  obtain ⟨S1, S2⟩ := sumI_le hL
  obtain ⟨S, hS⟩ : ∃ S, S = sumI L 59 := ⟨_, rfl⟩
  rw [← hS] at T S1 S2
  rw [← hS]
  have HP := Lib.hid hp
  have HL := Lib.hid hL
  clear hp hL hS
  go_enter Tryd.func34, Tryd.ntmps34
  go_wp2_with (go_at_call 51; refine T.out.mono ?_; rintro e w1 ⟨rfl, rfl⟩)
  go_loopw [4, 12] (fun v i wr => ∃ k : Nat, k ≤ 59 ∧ i = .int .i64 k ∧ Hid (wr.ownsRow w.heap.size 5 1 v (unL (eanK L S) k).length (bytesV (unL (eanK L S) k)) ∧ Below w.heap.size w wr)) (fun _ i _ => 59 - (intOf i).toNat)
  case atStart => exact ⟨0, Nat.zero_le _, rfl, Lib.hid ⟨World.ownsRow_nil _ _ _ _, Below.refl _ _⟩⟩
  case round =>
    obtain ⟨k, hk, rfl, HR⟩ := hrel
    obtain ⟨wo, rfl⟩ : ∃ wo : World, wo = wr := ⟨_, rfl⟩
    by_cases hlt : k < 59
    · have hc := cell_later HR.out.2 (HP.out k hlt)
      obtain ⟨x1, x2⟩ := HL.out k hlt
      have HK := Lib.hid (show unL (eanK L S) (k + 1) = unL (eanK L S) k ++ List.replicate (eanK L S k) (unB k) from rfl)
      obtain ⟨l, hl⟩ : ∃ l, l = unL (eanK L S) k := ⟨_, rfl⟩
      have hll : l.length ≤ 4 * k := by rw [hl]; exact unL_len (fun i => (eanK_le L S i).2)
      obtain ⟨t, ht⟩ : ∃ t, t = eanK L S k := ⟨_, rfl⟩
      have htb := eanK_le L S k
      rw [← ht] at htb HK
      have hte : min (max ((2 * (L k * 95) + S) / (2 * S)) 1) 4 = (t : Int) := by rw [ht]; unfold eanK; omega
      obtain ⟨x, hx⟩ : ∃ x, x = L k := ⟨_, rfl⟩
      rw [← hx] at hc x1 x2 hte
      have RD := Lib.hid (fun wx => rounded_any (x * 95) S wx (by omega) (by omega) (by omega) (by omega))
      obtain ⟨r, hr⟩ : ∃ r, r = (2 * (x * 95) + S) / (2 * S) := ⟨_, rfl⟩
      rw [← hr] at RD hte
      have HO := HR.out.1
      rw [← hl] at HO HK
      have AR := Lib.hid (appendRun_any w.heap.size k t l _ wo (by omega) htb.2 (by omega) HR.out.2.size HO)
      have HB := Lib.hid HR.out.2
      clear hx hr ht hl HR htb
      have i1 : (k : Int) < 59 := by omega
      go_wp2_with (first | (go_at_call 52; refine (RD.out _).mono ?_; rintro e w2 ⟨rfl, rfl⟩) | (go_at_call 53; refine AR.out.mono ?_; rintro e w3 ⟨v', rfl, hown, hb3⟩; have H3 := Lib.hid hown; have B3 := Lib.hid (HB.out.trans hb3); clear hown hb3 AR HO))
      go_roundw
      case rel => exact ⟨k + 1, by omega, by go_num, Lib.hid ⟨by rw [HK.out]; exact H3.out, B3.out⟩⟩
      case measure => simp [intOf]; omega
    · obtain rfl : k = 59 := by omega
      have hpos := unL_pos (K := eanK L S) (n := 59) (fun i => (eanK_le L S i).1)
      obtain ⟨l, hl⟩ : ∃ l, l = unL (eanK L S) 59 := ⟨_, rfl⟩
      have HO := HR.out.1
      have HB := Lib.hid HR.out.2
      rw [← hl] at HO hpos
      have HLL := Lib.hid hl
      obtain ⟨g', c', rfl⟩ := owns_slice HO (by omega)
      have hcv := bytes_text HO
      clear HO HR hl hpos
      go_wp2_with fail
      go_ret
      exact ⟨by rw [← HLL.out]; rfl, HB.out⟩

end Go.Proofs.YthcmolhjncdnaaaDoor
