/-
  What Grow and Concat of package slices return for slices of bytes: room of the call's own; two lists one behind the other in new memory. Conditions: the slices can be read, lengths below 10 to the 6.
-/
import Derived.Test.YtfgghgoonfamkaaMA
import Derived.Lib.AppendZeros
import Derived.BigQuiet
namespace Go.Proofs.Ytfgghgoonfamkaa
open Go.RowKit
set_option linter.unusedVariables false
set_option linter.unusedSimpArgs false

set_option maxHeartbeats 1000000 in
theorem grow_nil (n : Nat) (w : World) (h0 : 0 < n) (hn : n ≤ 1000000) :
    Calls Try.prog 39 #[.slice none 0 0, .int .i64 (n : Int)] w fun e w' => ∃ g c, e = .returned (.slice (some ⟨g, 0, none⟩) 0 c) ∧ Mine w.heap.size w' (some ⟨g, 0, none⟩) 0 c [] ∧ Below w.heap.size w w' := by
  obtain ⟨i0, hi, hz0, hz1, hz2⟩ := info_parts Try.infoByte
  have hr := hide (fun ty => Lib.run_append_nil_zeros (P := Try.prog) w 22 3 ty 5 i0 (.int .u8 0) .i64 .i64 Try.underlying22 Try.underlying3 hi hz0 n h0 (by rw [hz1]; omega) (by omega) (by rw [hz2]; omega))
  have hge := grownCap_ge w n 0 5
  have hmx := grownCap_le_maxLen w n 0 5 (by unfold maxLen; omega)
  unfold maxLen at hmx
  have hM := hide (show Mine w.heap.size (w.drew.alloc (.cells (Builtin.zeroCells (Value.int .u8 0).cells n ++ Builtin.zeroCells (Value.int .u8 0).cells (grownCap w n 0 5 - n)) 5)) (some ⟨w.heap.size, 0, none⟩) 0 (grownCap w n 0 5) [] from
    ⟨rfl, World.ownsRow_made w.drew _ _ (Nat.le_refl _) (by unfold maxLen; omega) (by simp [Builtin.zeroCells, Value.cells]; omega), Byt.nil⟩)
  generalize Builtin.zeroCells (Value.int .u8 0).cells n ++ Builtin.zeroCells (Value.int .u8 0).cells (grownCap w n 0 5 - n) = CC at *
  generalize grownCap w n 0 5 = G at *
  have hcut := run_cut_h (some ⟨w.heap.size, 0, none⟩) n G 0 (by omega) 0 rfl
  rw [show cutAt (some ⟨w.heap.size, 0, none⟩) G 0 = some ⟨w.heap.size, 0, none⟩ by unfold cutAt; split <;> rfl, Nat.sub_zero, Nat.sub_zero] at hcut
  clear hi hz0 hz1 hz2
  go_enter Try.func39, Try.ntmps39
  go_wp2_with (at_builtin; refine Lib.wpList_append_run _ rfl _ _ _ _ rfl _ _ rfl rfl _ _ (unhide hr _) ?_)
  go_ret
  exact ⟨_, _, rfl, unhide hM, ((Below.refl _ w).drew).alloc (Nat.le_refl _) _⟩

set_option maxHeartbeats 1000000 in
theorem grow_zero (w : World) :
    Calls Try.prog 39 #[.slice none 0 0, .int .i64 0] w fun e w' => e = .returned (.slice none 0 0) ∧ w' = w := by
  go_enter Try.func39, Try.ntmps39
  go_wp2
  go_ret
  exact ⟨rfl, rfl⟩
theorem grow_any (n : Nat) (N : Int) (hN : N = (n : Int)) (w : World) (hn : n ≤ 1000000) :
    Calls Try.prog 39 #[.slice none 0 0, .int .i64 N] w fun e w' => ∃ ao c, e = .returned (.slice ao 0 c) ∧ Mine w.heap.size w' ao 0 c [] ∧ Below w.heap.size w w' := by
  subst hN
  by_cases h0 : n = 0
  · subst h0
    refine (grow_zero w).mono ?_
    rintro e w' ⟨rfl, rfl⟩
    exact ⟨_, _, rfl, Mine.nought _ _, Below.refl _ _⟩
  · refine (grow_nil n w (by omega) hn).mono ?_
    rintro e w' ⟨g, c, rfl, hm, hb⟩
    exact ⟨_, _, rfl, hm, hb⟩

/-- Two lists: the first ones of them, one behind the other. -/
def two (xs ys : List Int) : Nat → List Int
  | 0 => []
  | 1 => xs
  | _ => xs ++ ys
def twoN (n m : Nat) : Nat → Nat
  | 0 => 0
  | 1 => n
  | _ => n + m

set_option maxHeartbeats 2000000 in
theorem concat_any (g : Nat) (ao : Option Addr) (n c : Nat) (xs : List Int) (bo : Option Addr) (m d : Nat) (ys : List Int) (w : World) (h : Bs w ao n c xs) (k : Bs w bo m d ys) (c0 : w.cell? ⟨g, 0, none⟩ = some (.slice ao n c)) (c1 : w.cell? ⟨g, 1, none⟩ = some (.slice bo m d)) (hn : n ≤ 400000) (hm : m ≤ 400000) :
    Calls Try.prog 20 #[.slice (some ⟨g, 0, none⟩) 2 2] w fun e w' => ∃ ao n c, e = .returned (.slice ao n c) ∧ Mine w.heap.size w' ao n c (xs ++ ys) ∧ Below w.heap.size w w' := by
  have H := hide h
  have K := hide k
  have hg := World.block_lt_of_cell? w _ c0
  simp only at hg
  have gc := hide (grow_any (n + m) ((n : Int) + (m : Int)) (by omega) w (by omega))
  have hle := h.le
  have kle := k.le
  have hmx := h.max
  have kmx := k.max
  clear h k
  go_enter Try.func20, Try.ntmps20
  go_wp2_with fail
  go_loop [11, 3] (fun i s => ∃ (j : Nat), j ≤ 2 ∧ i = .int .i64 (j : Int) ∧ s = .int .i64 (twoN n m j : Nat)) (fun i _ => 2 - (intOf i).toNat)
  case atStart => exact ⟨0, by omega, rfl, rfl⟩
  case round =>
    obtain ⟨j, hj, rfl, rfl⟩ := hrel
    rcases (show j = 0 ∨ j = 1 ∨ j = 2 by omega) with rfl | rfl | rfl
    · simp only [twoN]
      go_wp2_with fail
      go_round
      case rel => exact ⟨1, by omega, rfl, by simp [twoN]⟩
      case measure => simp [intOf]
    · simp only [twoN]
      go_wp2_with fail
      go_round
      case rel => exact ⟨2, by omega, rfl, by simp [twoN]⟩
      case measure => simp [intOf]
    · simp only [twoN]
      have C0 := hide c0
      have C1 := hide c1
      clear c0 c1
      go_wp2_with fail
      refine (unhide gc).mono ?_
      rintro e w1 ⟨ga1, cc1, rfl, m1, b1⟩
      have M1 := hide m1
      have B1 := hide b1
      clear m1 b1 gc
      go_wp2_with fail
      go_loopw [27, 6] (fun i v ws => ∃ (j : Nat) (xo : Option Addr) (xc : Nat), j ≤ 2 ∧ i = .int .i64 (j : Int) ∧ v = .slice xo (twoN n m j) xc ∧ Mine w.heap.size ws xo (twoN n m j) xc (two xs ys j) ∧ Below w.heap.size w ws) (fun i _ _ => 2 - (intOf i).toNat)
      case atStart => exact ⟨0, _, _, by omega, rfl, rfl, unhide M1, unhide B1⟩
      case round =>
        clear M1 B1
        obtain ⟨j, xo, xc, hj, rfl, rfl, hM, hB⟩ := hrel
        have q0 : wr.cell? ⟨g, 0, none⟩ = some (.slice ao n c) := (hB.cell (p := ⟨g, 0, none⟩) hg).trans (unhide C0)
        have q1 : wr.cell? ⟨g, 1, none⟩ = some (.slice bo m d) := (hB.cell (p := ⟨g, 1, none⟩) hg).trans (unhide C1)
        have hBs := hB.size
        have HM := hide hM
        have HB := hide hB
        have HX := hide ((unhide H).later hB)
        have HY := hide ((unhide K).later hB)
        clear hM hB
        rcases (show j = 0 ∨ j = 1 ∨ j = 2 by omega) with rfl | rfl | rfl
        · simp only [twoN, two] at HM ⊢
          go_wp2_with (at_builtin; refine wpList_app rfl (.tmp 31) (.tmp 32) rfl w.heap.size _ _ _ _ rfl (unhide HM) _ _ _ _ rfl (unhide HX) (by omega) hBs ?_; intro a3 c3 w3 m3 b3; have M3 := hide m3; have B3 := hide ((unhide HB).trans b3); clear m3 b3)
          go_roundw
          case rel =>
            have := unhide M3
            rw [Nat.zero_add, List.nil_append] at this
            exact ⟨1, a3, c3, by omega, rfl, by simp [twoN], this, unhide B3⟩
          case measure => simp [intOf]
        · simp only [twoN, two] at HM ⊢
          go_wp2_with (at_builtin; refine wpList_app rfl (.tmp 31) (.tmp 32) rfl w.heap.size _ _ _ _ rfl (unhide HM) _ _ _ _ rfl (unhide HY) (by omega) hBs ?_; intro a3 c3 w3 m3 b3; have M3 := hide m3; have B3 := hide ((unhide HB).trans b3); clear m3 b3)
          go_roundw
          case rel => exact ⟨2, a3, c3, by omega, rfl, rfl, unhide M3, unhide B3⟩
          case measure => simp [intOf]
        · simp only [twoN, two] at HM ⊢
          go_wp2_with fail
          go_ret
          exact ⟨_, _, _, rfl, unhide HM, unhide HB⟩

end Go.Proofs.Ytfgghgoonfamkaa
