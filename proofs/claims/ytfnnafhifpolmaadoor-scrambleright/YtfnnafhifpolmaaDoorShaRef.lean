/-
  What padded, bytes and constants of the document's answer return. Conditions: fewer than 10 to the 6 bytes.
-/
import Derived.Test.YtfnnafhifpolmaaDoorShaHex
namespace Go.Proofs.YtfnnafhifpolmaaDoor
open Go.RowKit
set_option linter.unusedVariables false
set_option linter.unusedSimpArgs false

theorem pdz_lt (n : Nat) : pdz n < 64 := by unfold pdz; omega
theorem pdz_end (n z : Nat) (hz : z ≤ pdz n) : (n + 1 + z) % 64 = 56 ↔ z = pdz n := by unfold pdz at *; omega
theorem zs_snoc (z : Nat) : zs z ++ [0] = zs (z + 1) := by rw [← zs_app]; rfl
theorem be8_next (N : Int) (j : Nat) (h : j < 8) : (be8 N).take (j + 1) = (be8 N).take j ++ [N / 2 ^ (8 * (7 - j)) % 256] := by
  match j, h with
  | 0, _ => rfl
  | 1, _ => rfl
  | 2, _ => rfl
  | 3, _ => rfl
  | 4, _ => rfl
  | 5, _ => rfl
  | 6, _ => rfl
  | 7, _ => rfl

set_option maxHeartbeats 2000000 in
theorem padded_ref (bo : Option Addr) (bn bc : Nat) (bs : List Int) (w : World) (h : Bs w bo bn bc bs) (hbd : bn ≤ 1000000) :
    Calls Tryd.prog 47 #[.slice bo bn bc] w fun e w' => OutB w (pd bs) e w' := by
  have H := hide h
  have hlen := hide h.len
  have hmax := h.max
  have hle := h.le
  have ME := hide (Mine.empty w)
  have BE := hide (h.later (below_alloc w (.cells #[] 5)))
  have zE : w.heap.size ≤ (w.alloc (.cells #[] 5)).heap.size := by simp
  clear h
  go_enter Tryd.func47, Tryd.ntmps47
  go_wp2_with (first
    | (at_builtin; refine wpList_app rfl (.tmp 6) (.tmp 7) rfl w.heap.size _ 0 0 _ rfl (unhide ME) _ bn bc _ rfl (unhide BE) (by omega) zE ?_; intro a1 c1 w1 m1 b1; simp only [Nat.zero_add, List.nil_append] at m1 ⊢; have M1 := hide (m1.later (below_alloc w1 (.cells #[.int .u8 128] 5))); have O1 := hide (Bs.one w1 128 (by omega) (by omega)); have b1' := (below_alloc w (.cells #[] 5)).trans b1; have B1 := hide b1'; have s1 := b1'.size; have z1 : w.heap.size ≤ (w1.alloc (.cells #[.int .u8 128] 5)).heap.size := (by simp <;> omega); clear m1 b1 b1')
    | (at_builtin; refine wpList_app rfl (.tmp 8) (.tmp 9) rfl w.heap.size _ bn c1 _ rfl (unhide M1) _ 1 1 _ rfl (unhide O1) (by omega) z1 ?_; intro a2 c2 w2 m2 b2; have M2 := hide m2; have B2 := hide (((unhide B1).trans ((below_alloc w1 _).mono s1)).trans b2); clear m2 b2))
  clear ME BE zE M1 O1 B1 z1
  go_loopw [3] (fun v ws => ∃ (z : Nat) (ao : Option Addr) (c : Nat), z ≤ pdz bn ∧ v = .slice ao (bn + 1 + z) c ∧ Mine w.heap.size ws ao (bn + 1 + z) c (bs ++ [128] ++ zs z) ∧ Below w.heap.size w ws) (fun v _ => bn + 1 + pdz bn - slen v)
  case atStart => exact ⟨0, a2, c2, by omega, rfl, by rw [show zs 0 = [] from rfl, List.append_nil]; exact unhide M2, unhide B2⟩
  case round =>
    clear M2 B2
    obtain ⟨z, ao, c, hz, rfl, hM, hB⟩ := hrel
    have hp := pdz_lt bn
    have he := pdz_end bn z hz
    obtain ⟨L, hL⟩ : ∃ L, bn + 1 + z = L := ⟨_, rfl⟩
    rw [hL] at hM he ⊢
    have hB' := hB.size
    by_cases hlt : z = pdz bn
    · have h56 : L % 64 = 56 := he.2 hlt
      have h56' : ((L : Int) % 64 != 56) = false := by simp; omega
      have hL3 : L ≤ 2000000 := by omega
      have hpd := hide (show pd bs = (bs ++ [128] ++ zs z) ++ be8 ((bn : Int) * 8) by unfold pd; rw [unhide hlen, ← hlt, show (8 * (bn : Int)) = (bn : Int) * 8 by omega]; simp [zs])
      have HM := hide hM
      have HB := hide hB
      have HL := hide hL
      generalize bs ++ [128] ++ zs z = P at *
      clear hM hB hlt he h56 hz hL
      go_wp2_with fail
      go_loopw [5, 3] (fun i v ws => ∃ (j : Nat) (ao : Option Addr) (c : Nat), j ≤ 8 ∧ i = .int .i64 (7 - (j : Int)) ∧ v = .slice ao (L + j) c ∧ Mine w.heap.size ws ao (L + j) c (P ++ (be8 ((bn : Int) * 8)).take j) ∧ Below w.heap.size w ws) (fun i _ _ => (intOf i + 1).toNat)
      case atStart => exact ⟨0, ao, c, by omega, rfl, rfl, by rw [List.take_zero, List.append_nil]; exact unhide HM, unhide HB⟩
      case round =>
        clear HM HB
        obtain ⟨j, ao, c, hj, rfl, rfl, hM, hB⟩ := hrel
        have hB' := hB.size
        by_cases hlt : j < 8
        · obtain ⟨q, hq⟩ : ∃ q : Nat, 7 - j = q := ⟨_, rfl⟩
          have eq' : 7 - (j : Int) = (q : Int) := by omega
          have hst := hide (be8_next ((bn : Int) * 8) j hlt)
          rw [hq] at hst
          have q7 : q ≤ 7 := by omega
          rw [eq']
          have HM := hide hM
          have HB := hide hB
          obtain ⟨V, hV⟩ : ∃ V, (bn : Int) * 8 / 2 ^ (8 * q) % 256 = V := ⟨_, rfl⟩
          have V0 : 0 ≤ V := by rw [← hV]; exact Int.emod_nonneg _ (by decide)
          have V1 : V ≤ 255 := by rw [← hV]; have := Int.emod_lt_of_pos ((bn : Int) * 8 / 2 ^ (8 * q)) (show (0 : Int) < 256 by decide); omega
          rw [hV] at hst
          have q0 : 0 ≤ (q : Int) := by omega
          have q8 : (q : Int) ≤ 7 := by omega
          clear hM hB hq
          go_wp2_with (first
            | (at_builtin; refine wpList_app rfl (.tmp 26) (.tmp 33) rfl w.heap.size ao (L + j) c _ rfl ((unhide HM).later (below_alloc wr _)) _ 1 1 _ rfl (Bs.one wr V V0 V1) (by omega) (by simp <;> omega) ?_; intro a3 c3 w3 m3 b3; have M3 := hide m3; have B3 := hide (((unhide HB).trans ((below_alloc wr _).mono hB')).trans b3); clear m3 b3))
          go_roundw
          case rel =>
            refine ⟨j + 1, a3, c3, by omega, by congr 1 <;> omega, rfl, ?_, unhide B3⟩
            have := unhide M3
            rw [List.append_assoc, ← unhide hst] at this
            exact this
          case measure => simp [intOf] <;> omega
        · have hj8 : j = 8 := by omega
          subst hj8
          rw [List.take_of_length_le (by rw [be8_len]; omega), ← unhide hpd] at hM
          have HM := hide hM
          have HB := hide hB
          clear hM hB
          go_wp2_with fail
          go_ret
          exact ⟨ao, _, c, rfl, unhide HM, unhide HB⟩
    · have h56 : ¬ L % 64 = 56 := fun q => hlt (he.1 q)
      have h56' : ((L : Int) % 64 != 56) = true := by simp; omega
      have HM := hide hM
      have HB := hide hB
      have HL := hide hL
      have hL3 : L ≤ 2000000 := by omega
      clear hM hB he h56 hL
      go_wp2_with (first
        | (at_builtin; refine wpList_app rfl (.tmp 15) (.tmp 16) rfl w.heap.size ao L c _ rfl ((unhide HM).later (below_alloc wr _)) _ 1 1 _ rfl (Bs.one wr 0 (by omega) (by omega)) (by omega) (by simp <;> omega) ?_; intro a3 c3 w3 m3 b3; have M3 := hide m3; have B3 := hide (((unhide HB).trans ((below_alloc wr _).mono hB')).trans b3); clear m3 b3))
      go_roundw
      case rel =>
        refine ⟨z + 1, a3, c3, by omega, by rw [← unhide HL]; rfl, ?_, unhide B3⟩
        have := unhide M3
        rw [List.append_assoc, zs_snoc, ← unhide HL] at this
        exact this
      case measure => simp [slen]; have := unhide HL; omega

set_option maxHeartbeats 2000000 in
theorem bytes_ref (lo : Option Addr) (ln lc : Nat) (l : List Int) (w : World) (h : Us w lo ln lc l) (hbd : ln ≤ 1000000) :
    Calls Tryd.prog 51 #[.slice lo ln lc] w fun e w' => OutB w (told ln l) e w' := by
  have H := hide h
  have hlen := hide h.len
  clear h
  go_enter Tryd.func51, Tryd.ntmps51
  go_wp2_with fail
  go_loopw [4, 3] (fun i v ws => ∃ (j : Nat) (ao : Option Addr) (c : Nat), j ≤ ln ∧ i = .int .i64 j ∧ v = .slice ao (4 * j) c ∧ Mine w.heap.size ws ao (4 * j) c (told j l) ∧ Below w.heap.size w ws) (fun i _ _ => ln - (intOf i).toNat)
  case atStart => exact ⟨0, none, 0, by omega, rfl, rfl, Mine.nought _ _, Below.refl _ _⟩
  case round =>
    obtain ⟨j, ao, c, hj, rfl, rfl, hM, hB⟩ := hrel
    by_cases hlt : j < ln
    · obtain ⟨pb, po, hix, hcw⟩ := (unhide H).idx hlt (j : Int) rfl
      have hcx := cell_later hB hcw
      have hpb := World.block_lt_of_cell? w _ hcw
      simp only at hpb
      obtain ⟨X, hX⟩ : ∃ X, l[j]?.getD 0 = X := ⟨_, rfl⟩
      obtain ⟨X0, X1⟩ : 0 ≤ X ∧ X ≤ 4294967295 := by rw [← hX]; exact (unhide H).fit.at j
      rw [hX] at hcx
      have hst := hide (told_step l j (by rw [unhide hlen]; exact hlt))
      rw [show ix l j = X from hX] at hst
      have hwr := hB.size
      have HM := hide hM
      have HB := hide hB
      have hj2 : 4 * j ≤ 10000000 := by omega
      obtain ⟨D1, h1⟩ : ∃ D, IntKind.u8.wrap (X / 16777216) = D := ⟨_, rfl⟩
      obtain ⟨D2, h2⟩ : ∃ D, IntKind.u8.wrap (X / 65536) = D := ⟨_, rfl⟩
      obtain ⟨D3, h3⟩ : ∃ D, IntKind.u8.wrap (X / 256) = D := ⟨_, rfl⟩
      obtain ⟨D4, h4⟩ : ∃ D, IntKind.u8.wrap X = D := ⟨_, rfl⟩
      have hsm : sm4 X = [D1, D2, D3, D4] := by
        unfold sm4
        rw [← h1, ← h2, ← h3, ← h4, IntKind.wrap_u8, IntKind.wrap_u8, IntKind.wrap_u8, IntKind.wrap_u8, Int.emod_eq_of_lt (show 0 ≤ X / 16777216 by omega) (by omega)]
      have hDb := sm4_byt (x := X) ⟨X0, X1⟩
      rw [hsm] at hst hDb
      have MW := hide (show Mine w.heap.size (wr.alloc (.cells #[.int .u8 D1, .int .u8 D2, .int .u8 D3, .int .u8 D4] 5)).drew ao (4 * j) c (told j l) from (((unhide HM).later (below_alloc wr _)).later (below_drew _)))
      have BW := hide (show Bs (wr.alloc (.cells #[.int .u8 D1, .int .u8 D2, .int .u8 D3, .int .u8 D4] 5)).drew (some ⟨wr.heap.size, 0, none⟩) 4 4 [D1, D2, D3, D4] from (Bs.lit wr [D1, D2, D3, D4] hDb (by simp)).later (below_drew _))
      have HBW := hide (show w.heap.size ≤ (wr.alloc (.cells #[.int .u8 D1, .int .u8 D2, .int .u8 D3, .int .u8 D4] 5)).drew.heap.size by show w.heap.size ≤ (wr.alloc (.cells #[.int .u8 D1, .int .u8 D2, .int .u8 D3, .int .u8 D4] 5)).heap.size; simp; omega)
      have KC := hide (fun (w3 : World) (b3 : Below w.heap.size (wr.alloc (.cells #[.int .u8 D1, .int .u8 D2, .int .u8 D3, .int .u8 D4] 5)).drew w3) => (show w3.cell? ⟨pb, po, none⟩ = some (.int .u32 X) from (b3.cell (p := ⟨pb, po, none⟩) hpb).trans ((cell_under wr _ pb po (by omega)).trans hcx)))
      clear hM hB hX hcw hsm hDb
      go_wp2_with fail
      go_region_held3 (fun w' => w'.cell? ⟨pb, po, none⟩ = some (.int .u32 X)) (first | exact unhide KC _ b3 | go_keep) (first | (refine step_app rfl (.tmp 11) (.tmp 35) rfl w.heap.size ao (4 * j) c (told j l) (by simp [Act.eval, Act.put]) (unhide MW) ⟨wr.heap.size, 0, none⟩ 4 4 [D1, D2, D3, D4] (by simp [Act.eval, Act.put]) (unhide BW) (by omega) (unhide HBW) ?_; intro ao2 c2 w3 m3 b3))
      all_goals have M3 := hide m3
      all_goals have B3 := hide (((unhide HB).trans ((below_alloc wr (.cells #[.int .u8 D1, .int .u8 D2, .int .u8 D3, .int .u8 D4] 5)).mono hwr)).trans (Below.trans (b := (wr.alloc (.cells #[.int .u8 D1, .int .u8 D2, .int .u8 D3, .int .u8 D4] 5)).drew) ⟨rfl, rfl, rfl, Nat.le_refl _, fun _ _ => rfl⟩ b3))
      all_goals clear m3 b3
      all_goals go_wp2_with fail
      all_goals go_roundw
      all_goals first
        | (refine ⟨j + 1, ao2, c2, by omega, by go_num, rfl, ?_, unhide B3⟩
           have := unhide M3
           rw [← unhide hst] at this
           exact this)
        | (simp [intOf]; omega)
    · have hjn : j = ln := by omega
      subst hjn
      have HM := hide hM
      have HB := hide hB
      clear hM hB
      go_wp2_with fail
      go_ret
      exact ⟨ao, _, c, rfl, unhide HM, unhide HB⟩

theorem kk_u32 : U32 kk := by
  intro x hx
  have : kk.all (fun x => decide (0 ≤ x) && decide (x ≤ 4294967295)) = true := by decide
  have h := List.all_eq_true.1 this x hx
  simpa using h
set_option maxHeartbeats 2000000 in
set_option maxRecDepth 20000 in
theorem constants_ref (w : World) : Calls Tryd.prog 52 #[] w fun e w' => e = .returned (.slice (some ⟨w.heap.size, 0, none⟩) 64 64) ∧ Us w' (some ⟨w.heap.size, 0, none⟩) 64 64 kk ∧ Below w.heap.size w w' := by
  have L := hide (Us.lit w kk kk_u32 (by decide))
  go_enter Tryd.func52, Tryd.ntmps52
  go_wp2_with fail
  go_ret
  exact ⟨rfl, unhide L, below_alloc w _⟩

end Go.Proofs.YtfnnafhifpolmaaDoor
