/-
  What Pick of the statements' helpers returns: a number below n; and what asked of layer 8's statements returns: whether a response is right. Conditions: n above 0 and small; the slices can be read, lengths below 10,000.
-/
import Derived.Test.YtfnnafhifpolmaaDoorScrRef
namespace Go.Proofs.YtfnnafhifpolmaaDoor
open Go.RowKit
set_option linter.unusedVariables false
set_option linter.unusedSimpArgs false

set_option maxHeartbeats 1000000 in
theorem pick_any (x : Int) (n : Int) (w : World) (hn : 0 < n) (hm : n ≤ 10000) :
    Calls Tryd.prog 23 #[.int .i64 x, .int .i64 n] w fun e w' => (∃ r : Int, e = .returned (.int .i64 r) ∧ 0 ≤ r ∧ r < n) ∧ w' = w := by
  have h0 : (n == 0) = false := by rw [beq_eq_false_iff_ne]; omega
  have t1 : x.tmod n < n := Int.tmod_lt_of_pos x hn
  have t2 : -n < x.tmod n := Int.lt_tmod_of_pos x hn
  have hw : IntKind.i64.wrap (x.tmod n) = x.tmod n := by rw [IntKind.wrap_i64]; omega
  obtain ⟨R, hR⟩ : ∃ R, x.tmod n = R := ⟨_, rfl⟩
  rw [hR] at t1 t2 hw
  by_cases hr : R < 0
  · go_enter Tryd.func23, Tryd.ntmps23
    go_wp2_with fail
    go_ret
    exact ⟨⟨_, rfl, by omega, by omega⟩, rfl⟩
  · go_enter Tryd.func23, Tryd.ntmps23
    go_wp2_with fail
    go_ret
    exact ⟨⟨_, rfl, by omega, by omega⟩, rfl⟩

theorem rgA_two (k : Int) (s n r : List Int) : (rgA k s n r = true ∧ rgE k s n = 0) ∨ rgA k s n r = false := by
  unfold rgA
  split
  · rename_i h
    cases rgt k s n r
    · exact .inr rfl
    · exact .inl ⟨rfl, h⟩
  · exact .inr rfl

set_option maxHeartbeats 1000000 in
theorem asked_any (k : Int) (so : Option Addr) (sn sc : Nat) (ss : List Int) (no : Option Addr) (nn nc : Nat) (ns : List Int) (ro : Option Addr) (rn rc : Nat) (rs : List Int) (w : World)
    (hs : Bs w so sn sc ss) (hn : Bs w no nn nc ns) (hr : Bs w ro rn rc rs) (h1 : sn ≤ 10000) (h3 : rn ≤ 10000) :
    Calls Tryd.prog 22 #[.int .i64 k, .slice so sn sc, .slice no nn nc, .slice ro rn rc] w fun e w' => e = .returned (.bool (rgA k ss ns rs)) ∧ Below w.heap.size w w' := by
  have c := hide (right_ref k so sn sc ss no nn nc ns ro rn rc rs w hs hn hr h1 h3)
  clear hs hn hr h1 h3
  rcases rgA_two k ss ns rs with ⟨hA, hE⟩ | hA
  · rw [hA, hE] at c
    rw [hA]
    clear hA hE
    go_enter Tryd.func22, Tryd.ntmps22
    go_wp2_with fail
    refine (unhide c).mono ?_
    rintro e w1 ⟨rfl, b1⟩
    go_wp2_with fail
    go_ret
    exact ⟨rfl, b1⟩
  · rw [hA] at c
    rw [hA]
    clear hA
    generalize rgE k ss ns = E at *
    go_enter Tryd.func22, Tryd.ntmps22
    go_wp2_with fail
    refine (unhide c).mono ?_
    rintro e w1 ⟨rfl, b1⟩
    go_wp2_with fail
    go_ret
    exact ⟨rfl, b1⟩

end Go.Proofs.YtfnnafhifpolmaaDoor
