/-
  The statement SqueezeNil, as a call: a squeezed reader that is not there, or that nobody made, refuses every call. Conditions: the bytes can be read.
-/
import Derived.Test.YtbolaljlhmakeaaDoorSqLives
namespace Go.Proofs.YtbolaljlhmakeaaDoor
open Go.RowKit
set_option linter.unusedVariables false
set_option linter.unusedSimpArgs false

/-- No reader, or one that nobody made. -/
def Nq (w : World) (p : Option Addr) : Prop := p = none ∨ ∃ g, p = some ⟨g, 0, none⟩ ∧ w.cell? ⟨g, 0, none⟩ = some (.int .i64 0)
set_option maxHeartbeats 400000 in
theorem qMade_no (w : World) (p : Option Addr) (h : Nq w p) : Calls Tryd.prog 20 #[.pointer p] w fun e w' => e = .returned (.bool false) ∧ w' = w := by
  rcases h with rfl | ⟨g, rfl, h0⟩
  · go_enter Tryd.func20, Tryd.ntmps20
    go_wp2_with fail
    go_ret
    exact ⟨rfl, rfl⟩
  · go_enter Tryd.func20, Tryd.ntmps20
    go_wp2_with fail
    go_ret
    exact ⟨rfl, rfl⟩
set_option maxHeartbeats 400000 in
theorem qFeed_no (w : World) (p : Option Addr) (h : Nq w p) (v : Value) : Calls Tryd.prog 9 #[.pointer p, v] w fun e w' => e = .returned (.tuple #[.slice none 0 0, .int .i64 1]) ∧ w' = w := by
  have cm := hide (qMade_no w p h)
  clear h
  go_enter Tryd.func9, Tryd.ntmps9
  go_wp2_with (go_at_call 20; refine same_world (unhide cm) ?_)
  go_ret2
  exact ⟨rfl, rfl⟩
set_option maxHeartbeats 400000 in
theorem qExpect_no (w : World) (p : Option Addr) (h : Nq w p) (q : Int) : Calls Tryd.prog 13 #[.pointer p, .int .u8 q] w fun e w' => e = .returned (.int .i64 1) ∧ w' = w := by
  have cm := hide (qMade_no w p h)
  clear h
  go_enter Tryd.func13, Tryd.ntmps13
  go_wp2_with (go_at_call 20; refine same_world (unhide cm) ?_)
  go_ret
  exact ⟨rfl, rfl⟩
set_option maxHeartbeats 400000 in
theorem qNext_no (w : World) (p : Option Addr) (h : Nq w p) : Calls Tryd.prog 10 #[.pointer p] w fun e w' => e = .returned (.int .u8 0) ∧ w' = w := by
  have cm := hide (qMade_no w p h)
  clear h
  go_enter Tryd.func10, Tryd.ntmps10
  go_wp2_with (go_at_call 20; refine same_world (unhide cm) ?_)
  go_ret
  exact ⟨rfl, rfl⟩
set_option maxHeartbeats 400000 in
theorem qHeld_no (w : World) (p : Option Addr) (h : Nq w p) : Calls Tryd.prog 15 #[.pointer p] w fun e w' => e = .returned (.int .i64 0) ∧ w' = w := by
  have cm := hide (qMade_no w p h)
  clear h
  go_enter Tryd.func15, Tryd.ntmps15
  go_wp2_with (go_at_call 20; refine same_world (unhide cm) ?_)
  go_ret
  exact ⟨rfl, rfl⟩
set_option maxHeartbeats 400000 in
theorem qStopped_no (w : World) (p : Option Addr) (h : Nq w p) : Calls Tryd.prog 16 #[.pointer p] w fun e w' => e = .returned (.int .i64 1) ∧ w' = w := by
  have cm := hide (qMade_no w p h)
  clear h
  go_enter Tryd.func16, Tryd.ntmps16
  go_wp2_with (go_at_call 20; refine same_world (unhide cm) ?_)
  go_ret
  exact ⟨rfl, rfl⟩

set_option maxHeartbeats 2000000 in
set_option maxRecDepth 20000 in
theorem lawSqNil (ao : Option Addr) (n c : Nat) (q : Int) (w : World) :
    Calls Tryd.prog 5 #[.slice ao n c, .int .u8 q] w fun e w' => e = .returned (.bool true) ∧ Below w.heap.size w w' := by
  go_enter Tryd.func5, Tryd.ntmps5
  go_wp2_with fail
  obtain ⟨w1, hw1⟩ : ∃ wx, wx = (w.alloc (.cells #[.int .i64 0, .int .u8 0, .slice none 0 0, .int .i64 0] 41)).alloc (.cells #[.pointer none, .pointer (some ⟨w.heap.size, 0, none⟩)] 27) := ⟨_, rfl⟩
  rw [← hw1]
  have n0 : w1.cell? ⟨w.heap.size, 0, none⟩ = some (.int .i64 0) := by
    rw [hw1, cell_under _ _ _ _ (by simp)]
    exact cell_top w _ _ 0 _ rfl
  have n1 : w1.cell? ⟨w.heap.size + 1, 0, none⟩ = some (.pointer none) := by
    rw [hw1]
    exact cell_top _ _ _ 0 _ (by simp)
  have n2 : w1.cell? ⟨w.heap.size + 1, 1, none⟩ = some (.pointer (some ⟨w.heap.size, 0, none⟩)) := by
    rw [hw1]
    exact cell_top _ _ _ 1 _ (by simp)
  have B1 := hide (show Below w.heap.size w w1 by rw [hw1]; exact (below_alloc w _).trans ((below_alloc _ _).mono (by simp)))
  have NO := hide (show ∀ i : Nat, i < 2 → ∃ p, w1.cell? ⟨w.heap.size + 1, i, none⟩ = some (.pointer p) ∧ Nq w1 p by
    intro i hi
    match i, hi with
    | 0, _ => exact ⟨none, n1, .inl rfl⟩
    | 1, _ => exact ⟨_, n2, .inr ⟨_, rfl, n0⟩⟩)
  have cl := hide (slives_any w1)
  clear n0 n1 n2 hw1
  go_loop [6] (fun i => ∃ m : Nat, m ≤ 2 ∧ i = .int .i64 (m : Int)) (fun i => 2 - (intOf i).toNat)
  case atStart => exact ⟨0, by omega, rfl⟩
  case round =>
    obtain ⟨m, hm, rfl⟩ := hrel
    by_cases hlt : m < 2
    · have hlt' : (m : Int) < 2 := by omega
      obtain ⟨p, hc, hno⟩ := unhide NO m hlt
      have c1 := hide (qFeed_no w1 p hno (.slice ao n c))
      have c2 := hide (qExpect_no w1 p hno q)
      have c3 := hide (qNext_no w1 p hno)
      have c4 := hide (qHeld_no w1 p hno)
      have c5 := hide (qStopped_no w1 p hno)
      clear hno
      go_wp2_with (first
        | (go_at_call 9; refine same_world (unhide c1) ?_)
        | (go_at_call 13; refine same_world (unhide c2) ?_)
        | (go_at_call 10; refine same_world (unhide c3) ?_)
        | (go_at_call 15; refine same_world (unhide c4) ?_)
        | (go_at_call 16; refine same_world (unhide c5) ?_))
      go_round
      case rel => exact ⟨m + 1, by omega, by go_num⟩
      case measure => simp [intOf]; omega
    · have hme : m = 2 := by omega
      subst hme
      go_wp2_with (go_at_call 12; refine (unhide cl).mono ?_; rintro e w2 ⟨rfl, b2⟩)
      go_ret
      exact ⟨rfl, (unhide B1).trans (b2.mono (unhide B1).size)⟩
end Go.Proofs.YtbolaljlhmakeaaDoor
