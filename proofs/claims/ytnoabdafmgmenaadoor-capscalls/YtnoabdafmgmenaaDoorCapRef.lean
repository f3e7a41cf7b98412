/-
  What bit, name, Names, Of and Status of the document's own answer return. Conditions: none.
-/
import Derived.Test.YtnoabdafmgmenaaDoorCapNms
import Derived.Test.YtnoabdafmgmenaaDoorSameB
namespace Go.Proofs.YtnoabdafmgmenaaDoor
open Go.RowKit
set_option linter.unusedVariables false
set_option linter.unusedSimpArgs false

def preB : ByteArray := ⟨#[98, 105, 116, 45]⟩
/-- The name of a bit that has none. -/
def btx (i : Nat) : ByteArray := if i < 10 then preB ++ strOfNums [48 + (i : Int)] else preB ++ strOfNums [48 + (i : Int) / 10, 48 + (i : Int) % 10]
theorem btx_cB : ∀ i : Fin 32, 25 ≤ i.val → btx i.val = cnm i.val := by decide +kernel
theorem btx_fitB : ∀ i : Fin 32, (btx i.val).size ≤ 100 := by decide +kernel

set_option maxHeartbeats 1000000 in
theorem bit_ref (i : Nat) (w : World) (hi : i < 32) : Calls Tryd.prog 26 #[.int .i64 (i : Int)] w fun e w' => e = .returned (.string (btx i)) ∧ Below w.heap.size w w' := by
  by_cases h10 : i < 10
  · have hs := (Bs.one w (48 + (i : Int)) (by omega) (by omega)).str
    have HR := hide (show btx i = preB ++ strOfNums [48 + (i : Int)] by unfold btx; rw [if_pos h10])
    have hsz : (strOfNums [48 + (i : Int)]).size ≤ 2 := by simp [strOfNums_size]
    generalize strOfNums [48 + (i : Int)] = sx at *
    go_enter Tryd.func26, Tryd.ntmps26
    go_wp2_with fail
    go_ret
    exact ⟨by rw [unhide HR]; rfl, below_alloc w _⟩
  · have hs := (Bs.lit w [48 + (i : Int) / 10, 48 + (i : Int) % 10] (Byt.cons (by omega) (by omega) (Byt.one (by omega) (by omega))) (by simp)).str
    have HR := hide (show btx i = preB ++ strOfNums [48 + (i : Int) / 10, 48 + (i : Int) % 10] by unfold btx; rw [if_neg h10])
    have hsz : (strOfNums [48 + (i : Int) / 10, 48 + (i : Int) % 10]).size ≤ 2 := by simp [strOfNums_size]
    generalize strOfNums [48 + (i : Int) / 10, 48 + (i : Int) % 10] = sx at *
    simp only [List.map_cons, List.map_nil, List.length_cons, List.length_nil] at hs
    go_enter Tryd.func26, Tryd.ntmps26
    go_wp2_with fail
    go_ret
    exact ⟨by rw [unhide HR]; rfl, below_alloc w _⟩

set_option maxHeartbeats 1000000 in
theorem name_ref (i : Nat) (w : World) (hi : i < 32) : Calls Tryd.prog 24 #[.int .i64 (i : Int)] w fun e w' => e = .returned (.string (cnm i)) ∧ Below w.heap.size w w' := by
  by_cases h25 : i < 25
  · have hc := hide (show (capV.toList.take 25)[i]? = some (.string (cnm i)) by rw [List.getElem?_take, if_pos h25, Array.getElem?_toList]; exact capV_at i hi)
    go_enter Tryd.func24, Tryd.ntmps24
    go_wp2_with fail
    go_ret
    exact ⟨congrArg Ending.returned (List.getElem?_eq_some_iff.1 (unhide hc)).2, below_alloc w _⟩
  · have HR := hide (btx_cB ⟨i, hi⟩ (by simp; omega))
    have cb := hide (fun w => bit_ref i w hi)
    go_enter Tryd.func24, Tryd.ntmps24
    go_wp2_with (go_at_call 26; refine (unhide cb _).mono ?_; rintro e w' ⟨rfl, hb⟩)
    go_ret
    exact ⟨by rw [← unhide HR]; rfl, (below_alloc w _).trans (hb.mono (by simp))⟩

/-- Is bit k there: as the document asks. -/
theorem shr_walk (c k : Nat) (hc : c < 4294967296) : ∃ S Y : Int, (c : Int) / 2 ^ k = S ∧ bits .and .u32 S 1 = Y ∧ 0 ≤ S ∧ S < 4294967296 ∧ (Y = 0 ∧ c.testBit k = false ∨ Y = 1 ∧ c.testBit k = true) := by
  have hd : c / 2 ^ k < 4294967296 := Nat.lt_of_le_of_lt (Nat.div_le_self _ _) hc
  have hd2 : ((c / 2 ^ k : Nat) : Int) < 4294967296 := by
    generalize c / 2 ^ k = m at *
    omega
  refine ⟨((c / 2 ^ k : Nat) : Int), _, by simp, u32_and_nat (c / 2 ^ k) 1 hd (by omega), Int.natCast_nonneg _, hd2, ?_⟩
  rw [Nat.testBit_eq_decide_div_mod_eq, Nat.and_one_is_mod]
  rcases Nat.mod_two_eq_zero_or_one (c / 2 ^ k) with h | h
  · exact .inl ⟨by rw [h]; rfl, by rw [h]; rfl⟩
  · exact .inr ⟨by rw [h]; rfl, by rw [h]; rfl⟩
theorem shr_walk16 (c k : Nat) (hc : c < 65536) : ∃ S Y : Int, (c : Int) / 2 ^ k = S ∧ bits .and .u16 S 1 = Y ∧ 0 ≤ S ∧ S < 65536 ∧ (Y = 0 ∧ c.testBit k = false ∨ Y = 1 ∧ c.testBit k = true) := by
  have hd : c / 2 ^ k < 65536 := Nat.lt_of_le_of_lt (Nat.div_le_self _ _) hc
  have hd2 : ((c / 2 ^ k : Nat) : Int) < 65536 := by
    generalize c / 2 ^ k = m at *
    omega
  refine ⟨((c / 2 ^ k : Nat) : Int), _, by simp, u16_and_nat (c / 2 ^ k) 1 hd (by omega), Int.natCast_nonneg _, hd2, ?_⟩
  rw [Nat.testBit_eq_decide_div_mod_eq, Nat.and_one_is_mod]
  rcases Nat.mod_two_eq_zero_or_one (c / 2 ^ k) with h | h
  · exact .inl ⟨by rw [h]; rfl, by rw [h]; rfl⟩
  · exact .inr ⟨by rw [h]; rfl, by rw [h]; rfl⟩

set_option maxHeartbeats 1000000 in
theorem rnames_ref (c : Nat) (w : World) (hc : c < 4294967296) :
    Calls Tryd.prog 21 #[.int .u32 (c : Int)] w fun e w' => OutT w (nms cnm c 32) e w' := by
  have HC := hide hc
  have hc0 : (0 : Int) ≤ (c : Int) := by omega
  have hc1 : (c : Int) < 4294967296 := by omega
  clear hc
  generalize hCC : (c : Int) = C at *
  have HCC := hide hCC
  clear hCC
  go_enter Tryd.func21, Tryd.ntmps21
  go_wp2_with fail
  go_loopw [3, 4] (fun l i ws => ∃ (k : Nat) (oo : Option Addr) (on oc : Nat), k ≤ 32 ∧ i = .int .i64 (k : Int) ∧ l = .slice oo on oc ∧ TMine w.heap.size ws oo on oc (nms cnm c k) ∧ Below w.heap.size w ws) (fun _ i _ => 32 - (intOf i).toNat)
  case atStart => exact ⟨0, none, 0, 0, by omega, rfl, rfl, TMine.nought _ _, Below.refl _ _⟩
  case round =>
    obtain ⟨k, oo, on, oc, hk, rfl, rfl, hT, hW⟩ := hrel
    have hz := hW.size
    by_cases hlt : k < 32
    · have hn := hT.len
      have hnl := nms_len cnm c k
      have hon : on ≤ 32 := by omega
      clear hn hnl
      have HT := hide hT
      have cn := hide (fun w => name_ref k w hlt)
      obtain ⟨S, Y, hS, hY, hS0, hS1, hq⟩ := shr_walk c k (unhide HC)
      rw [unhide HCC] at hS
      rcases hq with ⟨h0, hb⟩ | ⟨h0, hb⟩
      · subst h0
        have HB := hide hb
        clear hb hT
        go_wp2_with fail
        go_roundw
        case rel => exact ⟨k + 1, oo, on, oc, by omega, by go_num, rfl, by rw [nms_no _ _ _ (unhide HB)]; exact unhide HT, hW⟩
        case measure => simp [intOf]; omega
      · subst h0
        have HB := hide hb
        have hf := hide (cnm_fit k hlt)
        clear hb hT
        go_wp2_with (first
          | (go_at_call 24; refine (unhide cn _).mono ?_; rintro e w1 ⟨rfl, hb1⟩; have hz1 := hb1.size)
          | (at_builtin; refine wpList_tapp rfl (.tmp 15) (.tmp 18) rfl w.heap.size oo on oc _ rfl (((unhide HT).later hb1).later (below_alloc w1 _)) w1.heap.size (cnm k) (unhide hf) rfl (by simp) (by omega) (by simp; omega) ?_; intro ao1 c1 w2 hT1 hB1))
        go_roundw
        case rel => exact ⟨k + 1, ao1, on + 1, c1, by omega, by go_num, rfl, by rw [nms_yes _ _ _ (unhide HB)]; exact hT1, ((hW.trans (hb1.mono hz)).alloc (by omega) _).trans hB1⟩
        case measure => simp [intOf]; omega
    · have e : k = 32 := by omega
      subst e
      go_wp2_with fail
      go_ret
      exact ⟨oo, on, oc, rfl, hT, hW⟩

def odd7 (i : Nat) : Bool := i == 0 || i == 1 || i == 3 || i == 6 || i == 7 || i == 13 || i == 14
theorem btx_sB : ∀ i : Fin 16, odd7 i.val = true ∨ btx i.val = snm i.val := by decide +kernel

set_option maxHeartbeats 4000000 in
theorem rstatus_ref (c : Nat) (w : World) (hc : c < 65536) :
    Calls Tryd.prog 22 #[.int .u16 (c : Int)] w fun e w' => OutT w (nms snm c 16) e w' := by
  have HC := hide hc
  have hc0 : (0 : Int) ≤ (c : Int) := by omega
  have hc1 : (c : Int) < 65536 := by omega
  clear hc
  generalize hCC : (c : Int) = C at *
  have HCC := hide hCC
  clear hCC
  go_enter Tryd.func22, Tryd.ntmps22
  go_wp2_with fail
  go_loopw [3, 4] (fun l i ws => ∃ (k : Nat) (oo : Option Addr) (on oc : Nat), k ≤ 16 ∧ i = .int .i64 (k : Int) ∧ l = .slice oo on oc ∧ TMine w.heap.size ws oo on oc (nms snm c k) ∧ Below w.heap.size w ws) (fun _ i _ => 16 - (intOf i).toNat)
  case atStart => exact ⟨0, none, 0, 0, by omega, rfl, rfl, TMine.nought _ _, Below.refl _ _⟩
  case round =>
    obtain ⟨k, oo, on, oc, hk, rfl, rfl, hT, hW⟩ := hrel
    have hz := hW.size
    by_cases hlt : k < 16
    · have hn := hT.len
      have hnl := nms_len snm c k
      have hon : on ≤ 32 := by omega
      clear hn hnl
      have HT := hide hT
      obtain ⟨S, Y, hS, hY, hS0, hS1, hq⟩ := shr_walk16 c k (unhide HC)
      rw [unhide HCC] at hS
      rcases hq with ⟨h0, hb⟩ | ⟨h0, hb⟩
      · subst h0
        have HB := hide hb
        clear hb hT
        go_wp2_with fail
        go_roundw
        case rel => exact ⟨k + 1, oo, on, oc, by omega, by go_num, rfl, by rw [nms_no _ _ _ (unhide HB)]; exact unhide HT, hW⟩
        case measure => simp [intOf]; omega
      · subst h0
        have HB := hide hb
        have hf := hide (snm_fit k hlt)
        clear hb hT
        by_cases k0 : k = 0
        · have e0 : ((k : Int) == 0) = true := by simp; omega
          have HS := hide (show snm 0 = snm k by rw [k0])
          clear k0
          go_wp2_with (at_builtin; refine wpList_tapp rfl (.tmp 23) (.tmp 24) rfl w.heap.size oo on oc _ rfl ((unhide HT).later (below_alloc wr _)) wr.heap.size (snm 0) (snm_fit 0 (by omega)) rfl (by rw [cell_top _ _ _ _ _ rfl]; rfl) (by omega) (by simp; omega) ?_; intro ao1 c1 w1 hT1 hB1)
          go_roundw
          case rel => exact ⟨k + 1, ao1, on + 1, c1, by omega, by go_num, rfl, by rw [nms_yes _ _ _ (unhide HB), ← unhide HS]; exact hT1, (hW.alloc hz _).trans hB1⟩
          case measure => simp [intOf]; omega
        by_cases k1 : k = 1
        · have e0 : ((k : Int) == 0) = false := by simp; omega
          have e1 : ((k : Int) == 1) = true := by simp; omega
          have HS := hide (show snm 1 = snm k by rw [k1])
          clear k1 k0
          go_wp2_with (at_builtin; refine wpList_tapp rfl (.tmp 28) (.tmp 29) rfl w.heap.size oo on oc _ rfl ((unhide HT).later (below_alloc wr _)) wr.heap.size (snm 1) (snm_fit 1 (by omega)) rfl (by rw [cell_top _ _ _ _ _ rfl]; rfl) (by omega) (by simp; omega) ?_; intro ao1 c1 w1 hT1 hB1)
          go_roundw
          case rel => exact ⟨k + 1, ao1, on + 1, c1, by omega, by go_num, rfl, by rw [nms_yes _ _ _ (unhide HB), ← unhide HS]; exact hT1, (hW.alloc hz _).trans hB1⟩
          case measure => simp [intOf]; omega
        by_cases k3 : k = 3
        · have e0 : ((k : Int) == 0) = false := by simp; omega
          have e1 : ((k : Int) == 1) = false := by simp; omega
          have e3 : ((k : Int) == 3) = true := by simp; omega
          have HS := hide (show snm 3 = snm k by rw [k3])
          clear k3 k0 k1
          go_wp2_with (at_builtin; refine wpList_tapp rfl (.tmp 33) (.tmp 34) rfl w.heap.size oo on oc _ rfl ((unhide HT).later (below_alloc wr _)) wr.heap.size (snm 3) (snm_fit 3 (by omega)) rfl (by rw [cell_top _ _ _ _ _ rfl]; rfl) (by omega) (by simp; omega) ?_; intro ao1 c1 w1 hT1 hB1)
          go_roundw
          case rel => exact ⟨k + 1, ao1, on + 1, c1, by omega, by go_num, rfl, by rw [nms_yes _ _ _ (unhide HB), ← unhide HS]; exact hT1, (hW.alloc hz _).trans hB1⟩
          case measure => simp [intOf]; omega
        by_cases k6 : k = 6
        · have e0 : ((k : Int) == 0) = false := by simp; omega
          have e1 : ((k : Int) == 1) = false := by simp; omega
          have e3 : ((k : Int) == 3) = false := by simp; omega
          have e6 : ((k : Int) == 6) = true := by simp; omega
          have HS := hide (show snm 6 = snm k by rw [k6])
          clear k6 k0 k1 k3
          go_wp2_with (at_builtin; refine wpList_tapp rfl (.tmp 38) (.tmp 39) rfl w.heap.size oo on oc _ rfl ((unhide HT).later (below_alloc wr _)) wr.heap.size (snm 6) (snm_fit 6 (by omega)) rfl (by rw [cell_top _ _ _ _ _ rfl]; rfl) (by omega) (by simp; omega) ?_; intro ao1 c1 w1 hT1 hB1)
          go_roundw
          case rel => exact ⟨k + 1, ao1, on + 1, c1, by omega, by go_num, rfl, by rw [nms_yes _ _ _ (unhide HB), ← unhide HS]; exact hT1, (hW.alloc hz _).trans hB1⟩
          case measure => simp [intOf]; omega
        by_cases k7 : k = 7
        · have e0 : ((k : Int) == 0) = false := by simp; omega
          have e1 : ((k : Int) == 1) = false := by simp; omega
          have e3 : ((k : Int) == 3) = false := by simp; omega
          have e6 : ((k : Int) == 6) = false := by simp; omega
          have e7 : ((k : Int) == 7) = true := by simp; omega
          have HS := hide (show snm 7 = snm k by rw [k7])
          clear k7 k0 k1 k3 k6
          go_wp2_with (at_builtin; refine wpList_tapp rfl (.tmp 43) (.tmp 44) rfl w.heap.size oo on oc _ rfl ((unhide HT).later (below_alloc wr _)) wr.heap.size (snm 7) (snm_fit 7 (by omega)) rfl (by rw [cell_top _ _ _ _ _ rfl]; rfl) (by omega) (by simp; omega) ?_; intro ao1 c1 w1 hT1 hB1)
          go_roundw
          case rel => exact ⟨k + 1, ao1, on + 1, c1, by omega, by go_num, rfl, by rw [nms_yes _ _ _ (unhide HB), ← unhide HS]; exact hT1, (hW.alloc hz _).trans hB1⟩
          case measure => simp [intOf]; omega
        by_cases k13 : k = 13
        · have e0 : ((k : Int) == 0) = false := by simp; omega
          have e1 : ((k : Int) == 1) = false := by simp; omega
          have e3 : ((k : Int) == 3) = false := by simp; omega
          have e6 : ((k : Int) == 6) = false := by simp; omega
          have e7 : ((k : Int) == 7) = false := by simp; omega
          have e13 : ((k : Int) == 13) = true := by simp; omega
          have HS := hide (show snm 13 = snm k by rw [k13])
          clear k13 k0 k1 k3 k6 k7
          go_wp2_with (at_builtin; refine wpList_tapp rfl (.tmp 48) (.tmp 49) rfl w.heap.size oo on oc _ rfl ((unhide HT).later (below_alloc wr _)) wr.heap.size (snm 13) (snm_fit 13 (by omega)) rfl (by rw [cell_top _ _ _ _ _ rfl]; rfl) (by omega) (by simp; omega) ?_; intro ao1 c1 w1 hT1 hB1)
          go_roundw
          case rel => exact ⟨k + 1, ao1, on + 1, c1, by omega, by go_num, rfl, by rw [nms_yes _ _ _ (unhide HB), ← unhide HS]; exact hT1, (hW.alloc hz _).trans hB1⟩
          case measure => simp [intOf]; omega
        by_cases k14 : k = 14
        · have e0 : ((k : Int) == 0) = false := by simp; omega
          have e1 : ((k : Int) == 1) = false := by simp; omega
          have e3 : ((k : Int) == 3) = false := by simp; omega
          have e6 : ((k : Int) == 6) = false := by simp; omega
          have e7 : ((k : Int) == 7) = false := by simp; omega
          have e13 : ((k : Int) == 13) = false := by simp; omega
          have e14 : ((k : Int) == 14) = true := by simp; omega
          have HS := hide (show snm 14 = snm k by rw [k14])
          clear k14 k0 k1 k3 k6 k7 k13
          go_wp2_with (at_builtin; refine wpList_tapp rfl (.tmp 53) (.tmp 54) rfl w.heap.size oo on oc _ rfl ((unhide HT).later (below_alloc wr _)) wr.heap.size (snm 14) (snm_fit 14 (by omega)) rfl (by rw [cell_top _ _ _ _ _ rfl]; rfl) (by omega) (by simp; omega) ?_; intro ao1 c1 w1 hT1 hB1)
          go_roundw
          case rel => exact ⟨k + 1, ao1, on + 1, c1, by omega, by go_num, rfl, by rw [nms_yes _ _ _ (unhide HB), ← unhide HS]; exact hT1, (hW.alloc hz _).trans hB1⟩
          case measure => simp [intOf]; omega
        have e0 : ((k : Int) == 0) = false := by simp; omega
        have e1 : ((k : Int) == 1) = false := by simp; omega
        have e3 : ((k : Int) == 3) = false := by simp; omega
        have e6 : ((k : Int) == 6) = false := by simp; omega
        have e7 : ((k : Int) == 7) = false := by simp; omega
        have e13 : ((k : Int) == 13) = false := by simp; omega
        have e14 : ((k : Int) == 14) = false := by simp; omega
        have cn := hide (fun w => bit_ref k w (by omega))
        rw [(btx_sB ⟨k, hlt⟩).resolve_left (by simp [odd7]; omega)] at cn
        clear k0 k1 k3 k6 k7 k13 k14
        go_wp2_with (first
          | (go_at_call 26; refine (unhide cn _).mono ?_; rintro e w1 ⟨rfl, hb1⟩; have hz1 := hb1.size)
          | (at_builtin; refine wpList_tapp rfl (.tmp 16) (.tmp 19) rfl w.heap.size oo on oc _ rfl (((unhide HT).later hb1).later (below_alloc w1 _)) w1.heap.size (snm k) (unhide hf) rfl (by simp) (by omega) (by simp; omega) ?_; intro ao1 c1 w2 hT1 hB1))
        go_roundw
        case rel => exact ⟨k + 1, ao1, on + 1, c1, by omega, by go_num, rfl, by rw [nms_yes _ _ _ (unhide HB)]; exact hT1, ((hW.trans (hb1.mono hz)).alloc (by omega) _).trans hB1⟩
        case measure => simp [intOf]; omega
    · have e : k = 16 := by omega
      subst e
      go_wp2_with fail
      go_ret
      exact ⟨oo, on, oc, rfl, hT, hW⟩

end Go.Proofs.YtnoabdafmgmenaaDoor
