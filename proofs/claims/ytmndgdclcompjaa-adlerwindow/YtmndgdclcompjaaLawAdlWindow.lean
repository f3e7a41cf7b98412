/-
  The statement on a moving window returns true for any bytes and any window, and writes nothing that was there. Conditions: none but that the arguments can be read.
-/
import Derived.Test.YtmndgdclcompjaaAdlLives
import Derived.Deep.QuietTactic
import Derived.BigQuiet
import Derived.WalkSmall
namespace Go.Proofs.Ytmndgdclcompjaa
open Go.RowKit
set_option linter.unusedVariables false
set_option linter.unusedSimpArgs false

theorem window_step (bs : List Int) (m K : Nat) (hK : 1 ≤ K) (h : m + K < bs.length) :
    rolled (sumOf ((bs.drop m).take K)) (bs[m]?.getD 0) (bs[m + K]?.getD 0) (K : Int) = (sumOf ((bs.drop (m + 1)).take K), 0) := by
  obtain ⟨k, rfl⟩ : ∃ k, K = k + 1 := ⟨K - 1, by omega⟩
  have e1 : (bs.drop m).take (k + 1) = bs[m]?.getD 0 :: (bs.drop (m + 1)).take k := by
    rw [List.drop_eq_getElem_cons (show m < bs.length by omega), List.take_succ_cons, List.getElem?_eq_getElem (show m < bs.length by omega)]
    rfl
  have e2 : (bs.drop (m + 1)).take (k + 1) = (bs.drop (m + 1)).take k ++ [bs[m + (k + 1)]?.getD 0] := by
    rw [List.take_add_one, List.getElem?_drop, show m + 1 + k = m + (k + 1) by omega, List.getElem?_eq_getElem (show m + (k + 1) < bs.length by omega)]
    rfl
  have el : (((bs.drop (m + 1)).take k).length : Int) + 1 = ((k + 1 : Nat) : Int) := by
    simp only [List.length_take, List.length_drop]
    omega
  rw [e1, e2, ← el]
  exact rolled_sum _ _ _

theorem Bs.first {w : World} {ao : Option Addr} {n c : Nat} {bs : List Int} (h : Bs w ao n c bs) {K : Nat} (hK : K ≤ n) : Bs w ao K c (bs.take K) := by
  have hl := h.len
  refine Bs.pre (m := n - K) (cs := bs.drop K) ?_ (by simp; omega)
  rw [List.take_append_drop, show K + (n - K) = n by omega]
  exact h

theorem Bs.part {w : World} {b off n c : Nat} {bs : List Int} (h : Bs w (some ⟨b, off, none⟩) n c bs) {lo K : Nat} (hK : lo + K ≤ n) (h0 : 0 < K) : Bs w (some ⟨b, off + lo, none⟩) K (c - lo) ((bs.drop lo).take K) := by
  have hl := h.le
  have := h.cut (lo := lo) (hi := lo + K) (by omega) hK
  unfold cutAt at this
  rw [if_neg (by omega), show lo + K - lo = K by omega] at this
  simpa [Addr.add_lit] using this

set_option maxHeartbeats 2000000 in
theorem lawWindow (ao : Option Addr) (n c : Nat) (bs : List Int) (N : Int) (w : World) (h : Bs w ao n c bs) :
    Calls Try.prog 6 #[.slice ao n c, .int .i64 N] w fun e w' => e = .returned (.bool true) ∧ Below w.heap.size w w' := by
  have hmax := h.max
  have hle := h.le
  have hby := hide h.byt
  have hlen := hide h.len
  have H := hide h
  by_cases h1 : (300 : Int) < (n : Int)
  · have g1 : decide ((300 : Int) < (n : Int)) = true := by simpa using h1
    clear h
    go_enter Try.func6, Try.ntmps6
    go_wp2_with (go_at_call 10; refine (lives_any _).mono ?_; rintro e w1 ⟨rfl, hb1⟩)
    go_ret
    exact ⟨rfl, hb1⟩
  have g1 : decide ((300 : Int) < (n : Int)) = false := by simpa using h1
  by_cases h2 : N < 1
  · have g2 : decide (N < 1) = true := by simpa using h2
    clear h
    go_enter Try.func6, Try.ntmps6
    go_wp2_with (go_at_call 10; refine (lives_any _).mono ?_; rintro e w1 ⟨rfl, hb1⟩)
    go_ret
    exact ⟨rfl, hb1⟩
  have g2 : decide (N < 1) = false := by simpa using h2
  by_cases h3 : (n : Int) < N
  · have g3 : decide ((n : Int) < N) = true := by simpa using h3
    clear h
    go_enter Try.func6, Try.ntmps6
    go_wp2_with (go_at_call 10; refine (lives_any _).mono ?_; rintro e w1 ⟨rfl, hb1⟩)
    go_ret
    exact ⟨rfl, hb1⟩
  have g3 : decide ((n : Int) < N) = false := by simpa using h3
  obtain ⟨K, hK⟩ : ∃ K : Nat, N = (K : Int) := ⟨N.toNat, by omega⟩
  have hK1 : 1 ≤ K := by omega
  have hKn : K ≤ n := by omega
  have hcell : ∃ b off, ao = some ⟨b, off, none⟩ ∧ ∀ i, i < n → w.cell? ⟨b, off + i, none⟩ = some (.int .u8 (bs[i]?.getD 0)) := by
    rcases h.at' with h0 | ⟨b, off, e, hc⟩
    · omega
    · exact ⟨b, off, e, fun i hi => by rw [hc i hi]; simp⟩
  obtain ⟨b, off, rfl, hc⟩ := hcell
  have HC := hide hc
  clear hc h
  subst hK
  have CUT := hide ((unhide H).first hKn)
  have BD := hide (fun l => more_bounds 1 l)
  go_enter Try.func6, Try.ntmps6
  go_wp2_with fail
  refine (lives_any _).mono ?_
  rintro e w1 ⟨rfl, hb1⟩
  have hz1 := hb1.size
  go_wp2_with fail
  have cs := sum_any _ _ _ _ _ ((unhide CUT).later hb1)
  refine same_world cs ?_
  clear cs
  go_wp2_with fail
  go_loopw [5, 6] (fun s i wr => ∃ m : Nat, m + K ≤ n ∧ i = .int .i64 m ∧ s = .int .u32 (sumOf ((bs.drop m).take K)) ∧ Below w.heap.size w wr) (fun _ i _ => n - (intOf i).toNat)
  case atStart => exact ⟨0, by omega, rfl, by rw [List.drop_zero], hb1⟩
  case round =>
    obtain ⟨m, hm, rfl, rfl, hbel⟩ := hrel
    by_cases hlt : (m : Int) + (K : Int) < (n : Int)
    · have hm1 : m + K < n := by omega
      have st := window_step bs m K hK1 (by rw [unhide hlen]; exact hm1)
      have cx := cell_later hbel (unhide HC m (by omega))
      have cy := cell_later hbel (unhide HC (m + K) (by omega))
      have bx := (unhide hby).at m
      have by' := (unhide hby).at (m + K)
      obtain ⟨x, hx⟩ : ∃ x, x = bs[m]?.getD 0 := ⟨_, rfl⟩
      obtain ⟨y, hy⟩ : ∃ y, y = bs[m + K]?.getD 0 := ⟨_, rfl⟩
      obtain ⟨S, hS⟩ : ∃ S, S = sumOf ((bs.drop m).take K) := ⟨_, rfl⟩
      obtain ⟨T, hT⟩ : ∃ T, T = sumOf ((bs.drop (m + 1)).take K) := ⟨_, rfl⟩
      have hS1 : 0 ≤ S ∧ S < 4294967296 := by rw [hS]; exact unhide BD _
      rw [← hx, ← hy, ← hS, ← hT] at st
      rw [← hx] at cx bx
      rw [← hy] at cy by'
      have cr := hide (fun w => rolled_any S x y (K : Int) w hS1.1 hS1.2 bx.1 bx.2 by'.1 by'.2 (by omega))
      rw [st] at cr
      have HT := hide hT
      rw [← hS]
      clear hx hy hS hT st
      have CUT2 := hide (((unhide H).later hbel).part (lo := m + 1) (K := K) (by omega) (by omega))
      go_wp2_with fail
      go_quiet (first | (go_at_call 9; refine Calls.quiet_of_same (unhide cr _)))
      go_wp2_with fail
      have hbq : Below wr.heap.size wr (wr.drewN nq) := below_drewN (Below.refl _ _) nq
      have cs := sum_any _ _ _ _ _ ((unhide CUT2).later hbq)
      rw [← unhide HT] at cs
      refine same_world cs ?_
      clear cs
      go_wp2_with fail
      go_roundw
      case rel => exact ⟨m + 1, by omega, by go_num, by rw [← unhide HT], below_drewN hbel nq⟩
      case measure => simp [intOf]; omega
    · go_wp2
      go_ret
      exact ⟨rfl, hbel⟩

end Go.Proofs.Ytmndgdclcompjaa
