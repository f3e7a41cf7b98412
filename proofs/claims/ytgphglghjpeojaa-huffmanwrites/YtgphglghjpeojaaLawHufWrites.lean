/-
  The statement on writing returns true for any lengths and symbols, and writes nothing that was there. Conditions: none but that the arguments can be read.
-/
import Derived.Test.YtgphglghjpeojaaHufLives
import Derived.Test.YtgphglghjpeojaaHufRefWrite2
namespace Go.Proofs.Ytgphglghjpeojaa
open Go.RowKit
set_option linter.unusedVariables false
set_option linter.unusedSimpArgs false

set_option maxHeartbeats 4000000 in
set_option maxRecDepth 20000 in
theorem lawWrites (ao : Option Addr) (n c : Nat) (L : List Int) (so : Option Addr) (m d : Nat) (ss : List Int) (w : World) (h : Is w ao n c L) (hs : Is w so m d ss) :
    Calls Try.prog 5 #[.slice ao n c, .slice so m d] w fun e w' => e = .returned (.bool true) ∧ Below w.heap.size w w' := by
  have H := hide h
  have HS := hide hs
  have hmax := h.max
  have hle := h.le
  have smax := hs.max
  have sle := hs.le
  clear h hs
  by_cases h1 : (400 : Int) < (n : Int)
  · have g1 : decide ((400 : Int) < (n : Int)) = true := by simpa using h1
    go_enter Try.func5, Try.ntmps5
    go_wp2_with (go_at_call 10; refine (lives_any _).mono ?_; rintro e w1 ⟨rfl, hb1⟩)
    go_ret
    exact ⟨rfl, hb1⟩
  have g1 : decide ((400 : Int) < (n : Int)) = false := by simpa using h1
  by_cases h2 : (400 : Int) < (m : Int)
  · have g2 : decide ((400 : Int) < (m : Int)) = true := by simpa using h2
    go_enter Try.func5, Try.ntmps5
    go_wp2_with (go_at_call 10; refine (lives_any _).mono ?_; rintro e w1 ⟨rfl, hb1⟩)
    go_ret
    exact ⟨rfl, hb1⟩
  have g2 : decide ((400 : Int) < (m : Int)) = false := by simpa using h2
  go_enter Try.func5, Try.ntmps5
  go_wp2_with fail
  refine (lives_any _).mono ?_
  rintro e w1 ⟨rfl, b1⟩
  have z1 := b1.size
  have cw := hide (write_any _ _ _ _ _ _ _ _ _ ((unhide H).later b1) ((unhide HS).later b1) (by omega))
  have cr := hide (fun (w' : World) (hb : Below w1.heap.size w1 w') => write_ref _ _ _ _ _ _ _ _ w' (((unhide H).later b1).later hb) (((unhide HS).later b1).later hb) (by omega))
  generalize wrq L ss = R at *
  obtain ⟨r1, r2, r3⟩ := R
  have t1 : (r2 == r2) = true := by simp
  have t2 : (r3 == r3) = true := by simp
  go_wp2_with fail
  refine (unhide cw).mono ?_
  rintro e w2 ⟨⟨bo, bn, bc, rfl, hbs⟩, b2⟩
  have HB2 := hide hbs
  clear hbs
  go_wp2_with fail
  refine (unhide cr _ b2).mono ?_
  rintro e w3 ⟨⟨co, cn, cc, rfl, hcs⟩, b3⟩
  have cs := sameBytes_any _ _ _ _ _ _ _ _ _ ((unhide HB2).later b3) hcs
  rw [show decide (r1 = r1) = true by simp] at cs
  have CS := hide cs
  clear hcs cs
  go_wp2_with fail
  refine same_world (unhide CS) ?_
  go_wp2_with fail
  go_ret
  exact ⟨rfl, (b1.trans (b2.mono z1)).trans (b3.mono (by have := b2.size; omega))⟩

end Go.Proofs.Ytgphglghjpeojaa
