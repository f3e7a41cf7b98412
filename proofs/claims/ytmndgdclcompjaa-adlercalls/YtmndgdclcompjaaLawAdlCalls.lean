/-
  The statement on sums, joined and rolled ones returns true for any bytes and numbers, and writes nothing that was there. Conditions: none but that the arguments can be read.
-/
import Derived.Test.YtmndgdclcompjaaAdlLives
namespace Go.Proofs.Ytmndgdclcompjaa
open Go.RowKit
set_option linter.unusedVariables false
set_option linter.unusedSimpArgs false

set_option maxHeartbeats 1000000 in
theorem lawCalls (ao : Option Addr) (n c : Nat) (bs : List Int) (x y m : Int) (w : World) (h : Bs w ao n c bs) (x0 : 0 ≤ x) (x1 : x < 4294967296) (y0 : 0 ≤ y) (y1 : y < 4294967296) (m1 : m < 9223372036854775808) :
    Calls Try.prog 4 #[.slice ao n c, .int .u32 x, .int .u32 y, .int .i64 m] w fun e w' => e = .returned (.bool true) ∧ Below w.heap.size w w' := by
  have hmax := h.max
  have hle := h.le
  have H := hide h
  clear h
  by_cases hbig : (20000 : Int) < (n : Int)
  · have g1 : decide ((20000 : Int) < (n : Int)) = true := by simpa using hbig
    go_enter Try.func4, Try.ntmps4
    go_wp2_with (go_at_call 10; refine (lives_any _).mono ?_; rintro e w1 ⟨rfl, hb1⟩)
    go_ret
    exact ⟨rfl, hb1⟩
  · have g1 : decide ((20000 : Int) < (n : Int)) = false := by simpa using hbig
    obtain ⟨o, ho⟩ : ∃ o, o = m % 256 := ⟨_, rfl⟩
    obtain ⟨i, hi⟩ : ∃ i, i = m / 256 % 256 := ⟨_, rfl⟩
    have o0 : 0 ≤ o ∧ o ≤ 255 := by omega
    have i0 : 0 ≤ i ∧ i ≤ 255 := by omega
    obtain ⟨j1, j2, hj⟩ : ∃ j1 j2, joined x y m = (j1, j2) := ⟨_, _, rfl⟩
    obtain ⟨r1, r2, hr⟩ : ∃ r1 r2, rolled x o i m = (r1, r2) := ⟨_, _, rfl⟩
    have cj := hide (fun w => joined_any x y m w x0 x1 y0 y1 m1)
    have dj := hide (fun w => joined_ref x y m w x0 x1 y0 y1 m1)
    have cr := hide (fun w => rolled_any x o i m w x0 x1 o0.1 o0.2 i0.1 i0.2 m1)
    have dr := hide (fun w => rolled_ref x o i m w x0 x1 o0.1 o0.2 i0.1 i0.2 m1)
    rw [hj] at cj dj
    rw [hr] at cr dr
    clear hj hr o0 i0
    have HO := ho.symm
    have HI := hi.symm
    clear ho hi
    go_enter Try.func4, Try.ntmps4
    go_wp2_with fail
    refine (lives_any _).mono ?_
    rintro e w1 ⟨rfl, hb1⟩
    have H1 := hide ((unhide H).later hb1)
    go_wp2_with fail
    refine same_world (unhide cj _) ?_
    go_wp2_with fail
    refine same_world (unhide dj _) ?_
    go_wp2_with fail
    refine same_world (unhide cr _) ?_
    go_wp2_with fail
    refine same_world (unhide dr _) ?_
    go_wp2_with fail
    refine same_world (sum_any _ _ _ _ _ (unhide H1)) ?_
    go_wp2_with fail
    refine same_world (sum_ref _ _ _ _ _ (unhide H1)) ?_
    go_wp2_with fail
    refine same_world (more_any x _ _ _ _ _ (unhide H1) x0 x1) ?_
    go_wp2_with fail
    refine same_world (more_ref x _ _ _ _ _ (unhide H1) x0 x1) ?_
    go_wp2_with fail
    go_ret
    exact ⟨rfl, hb1⟩

end Go.Proofs.Ytmndgdclcompjaa
