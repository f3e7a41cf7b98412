/-
  The statement PacketNil, as a call: a reader that is not there, or that nobody made, refuses every call. Conditions: the bytes can be read.
-/
import Derived.Test.YtoblnmbbdhagbaaPktLives
namespace Go.Proofs.Ytoblnmbbdhagbaa
open Go.RowKit
set_option linter.unusedVariables false
set_option linter.unusedSimpArgs false

/-- No reader, or one that nobody made. -/
def No (w : World) (p : Option Addr) : Prop := p = none ∨ ∃ g, p = some ⟨g, 0, none⟩ ∧ w.cell? ⟨g, 0, none⟩ = some (.int .i64 0)

set_option maxHeartbeats 400000 in
theorem feed_no (w : World) (p : Option Addr) (h : No w p) (v : Value) : Calls Try.prog 12 #[.pointer p, v] w fun e w' => e = .returned (.tuple #[.slice none 0 0, .int .i64 1]) ∧ w' = w := by
  have cm := hide (isMade_no w p h)
  clear h
  go_enter Try.func12, Try.ntmps12
  go_wp2_with (go_at_call 33; refine same_world (unhide cm) ?_)
  go_ret2
  exact ⟨rfl, rfl⟩
set_option maxHeartbeats 400000 in
theorem expect_no (w : World) (p : Option Addr) (h : No w p) (q : Int) : Calls Try.prog 24 #[.pointer p, .int .u8 q] w fun e w' => e = .returned (.int .i64 1) ∧ w' = w := by
  have cm := hide (isMade_no w p h)
  clear h
  go_enter Try.func24, Try.ntmps24
  go_wp2_with (go_at_call 33; refine same_world (unhide cm) ?_)
  go_ret
  exact ⟨rfl, rfl⟩
set_option maxHeartbeats 400000 in
theorem next_no (w : World) (p : Option Addr) (h : No w p) : Calls Try.prog 27 #[.pointer p] w fun e w' => e = .returned (.int .u8 0) ∧ w' = w := by
  have cm := hide (isMade_no w p h)
  clear h
  go_enter Try.func27, Try.ntmps27
  go_wp2_with (go_at_call 33; refine same_world (unhide cm) ?_)
  go_ret
  exact ⟨rfl, rfl⟩
set_option maxHeartbeats 400000 in
theorem held_no (w : World) (p : Option Addr) (h : No w p) : Calls Try.prog 14 #[.pointer p] w fun e w' => e = .returned (.int .i64 0) ∧ w' = w := by
  have cm := hide (isMade_no w p h)
  clear h
  go_enter Try.func14, Try.ntmps14
  go_wp2_with (go_at_call 33; refine same_world (unhide cm) ?_)
  go_ret
  exact ⟨rfl, rfl⟩
set_option maxHeartbeats 400000 in
theorem stopped_no (w : World) (p : Option Addr) (h : No w p) : Calls Try.prog 17 #[.pointer p] w fun e w' => e = .returned (.int .i64 1) ∧ w' = w := by
  have cm := hide (isMade_no w p h)
  clear h
  go_enter Try.func17, Try.ntmps17
  go_wp2_with (go_at_call 33; refine same_world (unhide cm) ?_)
  go_ret
  exact ⟨rfl, rfl⟩

set_option maxHeartbeats 2000000 in
set_option maxRecDepth 20000 in
theorem lawPktNil (ao : Option Addr) (n c : Nat) (q : Int) (w : World) :
    Calls Try.prog 8 #[.slice ao n c, .int .u8 q] w fun e w' => e = .returned (.bool true) ∧ Below w.heap.size w w' := by
  go_enter Try.func8, Try.ntmps8
  go_wp2_with fail
  obtain ⟨w1, hw1⟩ : ∃ wx, wx = (w.alloc (.cells #[.int .i64 0, .int .i64 0, .int .u8 0, .slice none 0 0, .slice none 0 0, .int .i64 0] 61)).alloc (.cells #[.pointer none, .pointer (some ⟨w.heap.size, 0, none⟩)] 27) := ⟨_, rfl⟩
  rw [← hw1]
  have n0 : w1.cell? ⟨w.heap.size, 0, none⟩ = some (.int .i64 0) := by
    rw [hw1, cell_under _ _ _ _ (by simp)]
    exact cell_top w _ _ 0 _ rfl
  have n1 : w1.cell? ⟨w.heap.size + 1, 0, none⟩ = some (.pointer none) := by
    rw [hw1]
    exact cell_top _ _ _ 0 _ (by simp)
  have n2 : w1.cell? ⟨w.heap.size + 1, 1, none⟩ = some (.pointer (some ⟨w.heap.size, 0, none⟩)) := by
    rw [hw1]
    exact cell_top _ _ _ 1 _ (by simp)
  have B1 := hide (show Below w.heap.size w w1 by rw [hw1]; exact (below_alloc w _).trans ((below_alloc _ _).mono (by simp)))
  have NO := hide (show ∀ i : Nat, i < 2 → ∃ p, w1.cell? ⟨w.heap.size + 1, i, none⟩ = some (.pointer p) ∧ No w1 p by
    intro i hi
    match i, hi with
    | 0, _ => exact ⟨none, n1, .inl rfl⟩
    | 1, _ => exact ⟨_, n2, .inr ⟨_, rfl, n0⟩⟩)
  have cl := hide (lives_any w1)
  clear n0 n1 n2 hw1
  go_loop [6] (fun i => ∃ m : Nat, m ≤ 2 ∧ i = .int .i64 (m : Int)) (fun i => 2 - (intOf i).toNat)
  case atStart => exact ⟨0, by omega, rfl⟩
  case round =>
    obtain ⟨m, hm, rfl⟩ := hrel
    by_cases hlt : m < 2
    · have hlt' : (m : Int) < 2 := by omega
      obtain ⟨p, hc, hno⟩ := unhide NO m hlt
      have c1 := hide (feed_no w1 p hno (.slice ao n c))
      have c2 := hide (expect_no w1 p hno q)
      have c3 := hide (next_no w1 p hno)
      have c4 := hide (held_no w1 p hno)
      have c5 := hide (stopped_no w1 p hno)
      clear hno
      go_wp2_with (first
        | (go_at_call 12; refine same_world (unhide c1) ?_)
        | (go_at_call 24; refine same_world (unhide c2) ?_)
        | (go_at_call 27; refine same_world (unhide c3) ?_)
        | (go_at_call 14; refine same_world (unhide c4) ?_)
        | (go_at_call 17; refine same_world (unhide c5) ?_))
      go_round
      case rel => exact ⟨m + 1, by omega, by go_num⟩
      case measure => simp [intOf]; omega
    · have hme : m = 2 := by omega
      subst hme
      go_wp2_with (go_at_call 16; refine (unhide cl).mono ?_; rintro e w2 ⟨rfl, b2⟩)
      go_ret
      exact ⟨rfl, (unhide B1).trans (b2.mono (unhide B1).size)⟩

end Go.Proofs.Ytoblnmbbdhagbaa
