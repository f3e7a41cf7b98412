/-
  What times, Fixed, sum, isWhole, areLiterals and areDistances, of package inflate, answer. They write nothing that was there but the row that times goes on with. Conditions: the slices can be read, at most a million lengths.
-/
import Derived.Test.YtalkeooejobjhaaDoorInfMem
import Derived.Test.YtalkeooejobjhaaDoorInfFix
namespace Go.Proofs.YtalkeooejobjhaaDoor
open Go.RowKit
set_option linter.unusedVariables false
set_option linter.unusedSimpArgs false

theorem sum_snoc (L : List Int) (k : Nat) (hk : k < L.length) : (L.take (k + 1)).sum = (L.take k).sum + ln L k := by
  rw [take_snoc hk, List.sum_append]
  simp
theorem sum_bd (L : List Int) (h : ∀ x ∈ L, 0 ≤ x ∧ x ≤ 15) : ∀ k, k ≤ L.length → 0 ≤ (L.take k).sum ∧ (L.take k).sum ≤ 15 * k
  | 0, _ => by simp
  | k + 1, hk => by
    have ih := sum_bd L h k (by omega)
    have hx := h _ (ln_mem (show k < L.length by omega))
    rw [sum_snoc L k (by omega)]
    omega

set_option maxHeartbeats 1000000 in
theorem sum_any (ao : Option Addr) (n c : Nat) (L : List Int) (w : World) (h : Is w ao n c L) (hn : n ≤ 1000) (hx : ∀ x ∈ L, 0 ≤ x ∧ x ≤ 15) :
    Calls Tryd.prog 68 #[.slice ao n c] w fun e w' => e = .returned (.int .i64 L.sum) ∧ w' = w := by
  have hlen := hide h.len
  have hmax := h.max
  have hle := h.le
  have H := hide h
  have HX := hide hx
  clear h hx
  go_enter Tryd.func68, Tryd.ntmps68
  go_wp2_with fail
  go_loop [3, 8] (fun t i => ∃ k : Nat, k ≤ n ∧ i = .int .i64 (k : Int) ∧ t = .int .i64 (L.take k).sum) (fun _ i => n - (intOf i).toNat)
  case atStart => exact ⟨0, by omega, rfl, by simp⟩
  case round =>
    obtain ⟨k, hk, rfl, rfl⟩ := hrel
    have bd := sum_bd L (unhide HX) k (by rw [unhide hlen]; exact hk)
    by_cases hlt : k < n
    · have hlt' : (k : Int) < (n : Int) := by omega
      obtain ⟨bb, of, hix, hcx⟩ := (unhide H).idx hlt (k : Int) rfl
      have hs := hide (sum_snoc L k (by rw [unhide hlen]; exact hlt))
      have hxk := unhide HX _ (ln_mem (show k < L.length by rw [unhide hlen]; exact hlt))
      have hcx' : w.cell? ⟨bb, of, none⟩ = some (.int .i64 (ln L k)) := hcx
      clear hcx
      generalize ln L k = V at *
      generalize (L.take k).sum = T at *
      go_wp2_with fail
      go_round
      case rel => exact ⟨k + 1, by omega, by go_num, by rw [unhide hs]⟩
      case measure => simp [intOf]; omega
    · have hfin := hide (show (L.take k).sum = L.sum by rw [List.take_of_length_le (by rw [unhide hlen]; omega)])
      have hlt' : ¬ (k : Int) < (n : Int) := by omega
      go_wp2_with fail
      go_ret
      rw [← unhide hfin]
      exact ⟨rfl, rfl⟩

set_option maxHeartbeats 1000000 in
theorem isWhole_any (ao : Option Addr) (n c : Nat) (L : List Int) (w : World) (h : Is w ao n c L) :
    Calls Tryd.prog 67 #[.slice ao n c] w fun e w' => e = .returned (.bool (whole L)) ∧ Below w.heap.size w w' := by
  have cc := hide (check_any ao n c L w h)
  clear h
  by_cases hw : whole L = true
  · have hc : cer L = 0 := by
      unfold whole at hw
      simp at hw
      exact hw.1
    have hc' : (cer L == 0) = true := by simpa using hc
    rw [hw] at cc ⊢
    generalize cer L = C at *
    go_enter Tryd.func67, Tryd.ntmps67
    go_wp2_with fail
    refine (unhide cc).mono ?_
    rintro e w1 ⟨rfl, b1⟩
    go_wp2_with fail
    go_ret
    exact ⟨rfl, b1⟩
  · have hw' : whole L = false := by simpa using hw
    rw [hw'] at cc ⊢
    generalize cer L = C at *
    go_enter Tryd.func67, Tryd.ntmps67
    go_wp2_with fail
    refine (unhide cc).mono ?_
    rintro e w1 ⟨rfl, b1⟩
    go_wp2_with fail
    go_ret
    exact ⟨rfl, b1⟩

set_option maxHeartbeats 1000000 in
theorem areLiterals_any (ao : Option Addr) (n c : Nat) (L : List Int) (w : World) (h : Is w ao n c L) (hn : n ≤ 1000) (h257 : 256 < n) (hx : ∀ x ∈ L, 0 ≤ x ∧ x ≤ 15) :
    Calls Tryd.prog 54 #[.slice ao n c] w fun e w' => e = .returned (.bool (lits L)) ∧ Below w.heap.size w w' := by
  have wc := hide (isWhole_any ao n c L w h)
  have sc := hide (fun w1 (hb : Below w.heap.size w w1) => sum_any ao n c L w1 (h.later hb) hn hx)
  obtain ⟨bb, of, hix, hcx⟩ := h.idx h257 (256 : Int) rfl
  clear h hx
  have hr := hide (show lits L = (decide (L[256]?.getD 0 ≠ 0) && (whole L || decide (L.sum = 1))) from rfl)
  rw [unhide hr]
  clear hr
  generalize L[256]?.getD 0 = V at *
  generalize L.sum = T at *
  by_cases hv : V = 0
  · have hv' : (V != 0) = false := by simpa using hv
    have hr : (decide (V ≠ 0) && (whole L || decide (T = 1))) = false := by simp [hv]
    rw [hr]
    clear hr
    go_enter Tryd.func54, Tryd.ntmps54
    go_wp2_with fail
    go_ret
    exact ⟨rfl, Below.refl _ _⟩
  · have hv' : (V != 0) = true := by simpa using hv
    have hr : (decide (V ≠ 0) && (whole L || decide (T = 1))) = (whole L || decide (T = 1)) := by simp [hv]
    rw [hr]
    clear hr hv
    cases hwl : whole L with
    | true =>
      rw [hwl] at wc
      clear hwl
      go_enter Tryd.func54, Tryd.ntmps54
      go_wp2_with fail
      refine (unhide wc).mono ?_
      rintro e w1 ⟨rfl, b1⟩
      go_wp2_with fail
      go_ret
      exact ⟨rfl, b1⟩
    | false =>
      rw [hwl] at wc
      clear hwl
      go_enter Tryd.func54, Tryd.ntmps54
      go_wp2_with fail
      refine (unhide wc).mono ?_
      rintro e w1 ⟨rfl, b1⟩
      go_wp2_with fail
      refine same_world ((unhide sc) w1 b1) ?_
      go_wp2_with fail
      go_ret
      exact ⟨rfl, b1⟩

set_option maxHeartbeats 1000000 in
theorem areDistances_any (ao : Option Addr) (n c : Nat) (L : List Int) (w : World) (h : Is w ao n c L) (hn : n ≤ 1000) (hx : ∀ x ∈ L, 0 ≤ x ∧ x ≤ 15) :
    Calls Tryd.prog 55 #[.slice ao n c] w fun e w' => e = .returned (.bool (dsts L)) ∧ Below w.heap.size w w' := by
  have wc := hide (isWhole_any ao n c L w h)
  have sc := hide (fun w1 (hb : Below w.heap.size w w1) => sum_any ao n c L w1 (h.later hb) hn hx)
  clear h hx
  have hr := hide (show dsts L = (whole L || decide (L.sum ≤ 1)) from rfl)
  rw [unhide hr]
  clear hr
  generalize L.sum = T at *
  cases hwl : whole L with
  | true =>
    rw [hwl] at wc
    clear hwl
    go_enter Tryd.func55, Tryd.ntmps55
    go_wp2_with fail
    refine (unhide wc).mono ?_
    rintro e w1 ⟨rfl, b1⟩
    go_wp2_with fail
    go_ret
    exact ⟨rfl, b1⟩
  | false =>
    rw [hwl] at wc
    clear hwl
    go_enter Tryd.func55, Tryd.ntmps55
    go_wp2_with fail
    refine (unhide wc).mono ?_
    rintro e w1 ⟨rfl, b1⟩
    go_wp2_with fail
    refine same_world ((unhide sc) w1 b1) ?_
    go_wp2_with fail
    go_ret
    exact ⟨rfl, b1⟩

end Go.Proofs.YtalkeooejobjhaaDoor
