/-
  The document's own answer for values: fixed, and what the bytes of a date and of a time are. It writes nothing that was there. Conditions: numbers that may be; lengths below 2 to the 40.
-/
import Derived.Test.YtlicnhlgmnlaoaaVrLeaf
import Derived.Test.YtlicnhlgmnlaoaaVaBy3
import Derived.Test.YtlicnhlgmnlaoaaRyMem
import Derived.Test.YtlicnhlgmnlaoaaLeWritesRef2
import Derived.Deep.RegionHeld3
import Derived.Deep.CutRange
import Derived.Deep.DeepCutAuto
namespace Go.Proofs.Ytlicnhlgmnlaoaa
open Go.RowKit
set_option linter.unusedVariables false
set_option linter.unusedSimpArgs false

set_option maxHeartbeats 400000 in
theorem vfix_ref (ao : Option Addr) (n c : Nat) (bs : List Int) (x X : Int) (k : Nat) (K M : Int) (w : World) (h : Bs w ao n c bs) (hX : X = x) (hK : K = (k : Int)) (hx0 : 0 ≤ x) (hM : (2 : Int) ^ (8 * k) = M) (hx : x < M) (hM2 : M ≤ 18446744073709551616) (hk1 : 1 ≤ k) (hk8 : k ≤ 8) (hn : n ≤ 1099511627776) :
    Calls Try.prog 46 #[.slice ao n c, .int .u64 X, .int .i64 K] w fun e w' => ∃ ao' c', e = .returned (.slice ao' (n + k) c') ∧ Mine w.heap.size w' ao' (n + k) c' (bs ++ le x k) ∧ Below w.heap.size w w' := by
  subst hK
  rw [hX]
  have cA := hide (appendFixed_ref ao n c bs x (k : Int) w h hx0 (by omega) (by omega) (by omega) (by omega) (by rw [Int.toNat_natCast, hM]; exact hx))
  rw [Int.toNat_natCast] at cA
  clear h hx hM hM2
  go_enter Try.func46, Try.ntmps46
  go_wp2_with fail
  refine (unhide cA).mono ?_
  rintro e w1 ⟨ao1, c1, rfl, hm, hb⟩
  have HM := hide hm
  have HB := hide hb
  clear hm hb cA
  go_wp2_with fail
  go_ret
  exact ⟨ao1, c1, rfl, unhide HM, unhide HB⟩
theorem vfix_rx (l : List Int) (x X : Int) (k : Nat) (K M : Int) (hX : X = x) (hK : K = (k : Int)) (hx : 0 ≤ x ∧ x < M) (hM : (2 : Int) ^ (8 * k) = M) (hM2 : M ≤ 18446744073709551616) (hk1 : 1 ≤ k) (hk8 : k ≤ 8) (hn : l.length ≤ 1099511627776) (w : World) (ao : Option Addr) (n c : Nat) (h : Bs w ao n c l) :
    Calls Try.prog 46 #[.slice ao n c, .int .u64 X, .int .i64 K] w fun e w' => ∃ ao' n' c', e = .returned (.slice ao' n' c') ∧ Mine w.heap.size w' ao' n' c' (l ++ le x k) ∧ Below w.heap.size w w' :=
  (vfix_ref ao n c l x X k K M w h hX hK hx.1 hM hx.2 hM2 hk1 hk8 (by rw [← h.len]; exact hn)).mono fun _ _ ⟨ao', c', e, hm, hb⟩ => ⟨ao', _, c', e, hm, hb⟩
theorem clk_b {w : Wh} (h : clk w = true) : (0 ≤ w.h ∧ w.h ≤ 23) ∧ (0 ≤ w.mi ∧ w.mi ≤ 59) ∧ (0 ≤ w.s ∧ w.s ≤ 59) ∧ (0 ≤ w.mc ∧ w.mc ≤ 999999) := by
  unfold clk inr at h
  simp only [Bool.and_eq_true, decide_eq_true_eq] at h
  exact h
/-- The bytes behind the first one, of a time. -/
def timL (w : Wh) : List Int := (timA w).take (timN w)
def datL (w : Wh) : List Int := (datA w).take (datN w)
theorem cnt_tim (w : Wh) : cntB (timA w) (timN w) = [((timL w).length : Int)] ++ timL w := by
  have h : timN w ≤ (timA w).length := by rw [timA_len]; exact timN_le w
  unfold cntB timL
  rw [List.length_take, Nat.min_eq_left h]
theorem cnt_dat (w : Wh) : cntB (datA w) (datN w) = [((datL w).length : Int)] ++ datL w := by
  have h : datN w ≤ (datA w).length := by rw [datA_len]; exact datN_le w
  unfold cntB datL
  rw [List.length_take, Nat.min_eq_left h]
theorem tim_all (w : Wh) (h : clk w = true) : timA w = ([if w.ng = true then 1 else 0] ++ le w.d 4) ++ [w.h, w.mi, w.s] ++ le w.mc 4 := by
  obtain ⟨h1, h2, h3, h4⟩ := clk_b h
  unfold timA clkB
  rw [Int.emod_eq_of_lt (by omega) (by omega), Int.emod_eq_of_lt (by omega) (by omega), Int.emod_eq_of_lt (by omega) (by omega)]
  simp [List.append_assoc]
theorem dat_all (w : Wh) (h : clk w = true) (hm : 0 ≤ w.mo ∧ w.mo ≤ 12) (hd : 0 ≤ w.d ∧ w.d ≤ 31) : datA w = (le w.y 2 ++ [w.mo, w.d]) ++ [w.h, w.mi, w.s] ++ le w.mc 4 := by
  obtain ⟨h1, h2, h3, h4⟩ := clk_b h
  unfold datA clkB
  rw [Int.emod_eq_of_lt (by omega) (by omega), Int.emod_eq_of_lt (by omega) (by omega), Int.emod_eq_of_lt (by omega) (by omega), Int.emod_eq_of_lt (by omega) (by omega), Int.emod_eq_of_lt (by omega) (by omega)]
  simp [List.append_assoc]
theorem mid_mc {w : Wh} (h : mid w = true) : w.h = 0 ∧ w.mi = 0 ∧ w.s = 0 ∧ w.mc = 0 := by
  unfold mid at h
  simpa using h
theorem timL_0 {w : Wh} (h : tmOk w = true) (hd : w.d = 0) (hm : mid w = true) : timL w = [] := by
  have : w = wh0 := by
    obtain ⟨ng, y, mo, d, h, mi, s, mc⟩ := w
    have q := mid_mc hm
    simp only at q hd
    obtain ⟨rfl, rfl, rfl, rfl⟩ := q
    subst hd
    unfold tmOk neg0 at h
    simp at h
    obtain ⟨a, b, c, e⟩ := h
    subst b c
    unfold wh0
    simp at a
    rw [a]
  subst this
  rfl
theorem timL_n {w : Wh} (h : tmOk w = true) (hd : ¬ (w.d = 0 ∧ mid w = true)) : timL w = ([if w.ng = true then 1 else 0] ++ le w.d 4) ++ [w.h, w.mi, w.s] ++ (if w.mc = 0 then [] else le w.mc 4) := by
  have hne : w ≠ wh0 := fun e => hd (by rw [e]; exact ⟨rfl, rfl⟩)
  have hA := tim_all w (tm_bd h).1
  unfold timL timN
  rw [if_neg hne, hA]
  have h4 := le_length w.d 4
  have h5 := le_length w.mc 4
  split
  · rw [List.take_append_of_le_length (by simp [h4]), List.take_of_length_le (by simp [h4]), List.append_nil]
  · rw [List.take_of_length_le (by simp [h4, h5])]
theorem datL_0 : datL wh0 = [] := rfl
theorem datL_n {w : Wh} {t : Int} (h : dtOk w t = true) (h0 : w ≠ wh0) : datL w = (le w.y 2 ++ [w.mo, w.d]) ++ (if mid w = true then [] else [w.h, w.mi, w.s] ++ (if w.mc = 0 then [] else le w.mc 4)) := by
  obtain ⟨q1, q2, q3, q4⟩ := dt_bd h
  have hA := dat_all w q1 q3 q4
  unfold datL datN
  rw [if_neg h0, hA]
  have h4 := le_length w.y 2
  have h5 := le_length w.mc 4
  split
  · rw [List.append_assoc, List.take_append_of_le_length (by simp [h4]), List.take_of_length_le (by simp [h4]), List.append_nil]
  split
  · rw [List.take_append_of_le_length (by simp [h4]), List.take_of_length_le (by simp [h4]), List.append_nil]
  · rw [List.take_of_length_le (by simp [h4, h5]), List.append_assoc]
theorem timL_len (w : Wh) : (timL w).length ≤ 12 := by unfold timL; rw [List.length_take]; have := timN_le w; omega
theorem datL_len (w : Wh) : (datL w).length ≤ 11 := by unfold datL; rw [List.length_take]; have := datN_le w; omega


end Go.Proofs.Ytlicnhlgmnlaoaa
