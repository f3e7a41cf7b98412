/-
  What AppendFixed, AppendText and AppendEnded of package lenenc leave: a slice in new memory, or nil and an error. Conditions: lengths together below 2 to the 46.
-/
import Derived.Test.YtnodhdggafffaaaDoorLeWrites
namespace Go.Proofs.YtnodhdggafffaaaDoor
open Go.RowKit
set_option linter.unusedVariables false
set_option linter.unusedSimpArgs false

set_option maxHeartbeats 400000 in
set_option maxRecDepth 100000 in
theorem appendFixed_bad (ao : Option Addr) (n c : Nat) (x k : Int) (w : World)
    (hx0 : 0 ≤ x) (hx1 : x < 18446744073709551616) (hbad : ¬ (1 ≤ k ∧ k ≤ 8 ∧ x < 2 ^ (8 * k.toNat))) :
    Calls Tryd.prog 60 #[.slice ao n c, .int .u64 x, .int .i64 k] w fun e w' => e = .returned (.tuple #[.slice none 0 0, .int .i64 2]) ∧ w' = w := by
  have cI := hide (fun w => isWidth_any k w)
  by_cases hk : 1 ≤ k ∧ k ≤ 8
  · rw [show decide (1 ≤ k ∧ k ≤ 8) = true by simpa using hk] at cI
    have cF := hide (fun w => fits_any x k w hx0 hx1 hk.1 hk.2)
    have hf : ¬ x < 2 ^ (8 * k.toNat) := fun hh => hbad ⟨hk.1, hk.2, hh⟩
    rw [show decide (x < 2 ^ (8 * k.toNat)) = false by simpa using hf] at cF
    clear hf hx1 hbad hk
    go_enter Tryd.func60, Tryd.ntmps60
    go_wp2_with (first
      | (go_at_call 78; refine (unhide cI _).mono ?_; rintro e w' ⟨rfl, hw'⟩; have hw'' := hw'.symm; subst hw'')
      | (go_at_call 79; refine (unhide cF _).mono ?_; rintro e w' ⟨rfl, hw'⟩; have hw'' := hw'.symm; subst hw''))
    go_ret2
    exact ⟨rfl, rfl⟩
  · rw [show decide (1 ≤ k ∧ k ≤ 8) = false by simpa using hk] at cI
    clear hk hbad hx1
    go_enter Tryd.func60, Tryd.ntmps60
    go_wp2_with (go_at_call 78; refine (unhide cI _).mono ?_; rintro e w' ⟨rfl, hw'⟩; have hw'' := hw'.symm; subst hw'')
    go_ret2
    exact ⟨rfl, rfl⟩

set_option maxHeartbeats 400000 in
set_option maxRecDepth 100000 in
theorem appendText_any (ao : Option Addr) (n c : Nat) (bs : List Int) (s : ByteArray) (w : World) (h : Bs w ao n c bs) (hbound : (n : Int) + (s.size : Int) + 9 ≤ 140737488355328) :
    Calls Tryd.prog 42 #[.slice ao n c, .string s] w fun e w' => ∃ ao' c', e = .returned (.slice ao' (n + (form s.size).length + s.size) c') ∧ Mine w.heap.size w' ao' (n + (form s.size).length + s.size) c' (bs ++ form s.size ++ nums s) ∧ Below w.heap.size w w' := by
  have cS := hide (fun w => size_any (s.size : Int) w (by omega) (by omega))
  have hl := form_length_le (s.size : Int)
  go_enter Tryd.func42, Tryd.ntmps42
  go_wp2_with (first
    | (go_at_call 65; refine (unhide cS _).mono ?_; rintro e w' ⟨rfl, hw'⟩; have hw'' := hw'.symm; subst hw'')
    | (go_at_call 64; refine (withRoom_any _ _ _ _ _ _ h (by omega) (by omega)).mono ?_; rintro e w1 ⟨ao1, c1, rfl, hm1, hb1⟩))
  refine (putInt_any w.heap.size ao1 n c1 bs (s.size : Int) _ hm1 hb1.size (by omega) (by omega) (by omega)).mono ?_
  rintro e w2 ⟨ao2, c2, rfl, hm2, hb2⟩
  have hz2 := (hb1.trans hb2).size
  have hconv := run_toBytes s
  have hbw := below_bytesWorld w2 5 s
  have hsw := bs_bytesWorld w2 s (by omega)
  have hm3 := hm2.later hbw
  go_wp2_with (at_builtin; refine wpList_app rfl _ _ rfl w.heap.size _ _ _ _ rfl hm3 _ _ _ _ rfl hsw (by omega) (by rw [Lib.bytesWorld_size]; omega) ?_; intro ao4 c4 w4 hm4 hb4)
  go_ret
  exact ⟨ao4, c4, rfl, hm4, ((hb1.trans hb2).trans (hbw.mono hz2)).trans hb4⟩

theorem idx0_neg {l : List Int} : idx0 l < 0 ↔ (0 : Int) ∉ l := by
  induction l with
  | nil => simp [idx0]
  | cons b l ih =>
    have hb := idx0_bounds l
    show (if b = 0 then (0 : Int) else if idx0 l = -1 then -1 else idx0 l + 1) < 0 ↔ _
    by_cases h : b = 0
    · subst h; simp
    · rw [if_neg h]
      by_cases h2 : idx0 l = -1
      · rw [if_pos h2]
        have := ih.1 (by omega)
        simp [this, Ne.symm h]
      · rw [if_neg h2]
        constructor
        · intro hh; omega
        · intro hh
          have : (0 : Int) ∉ l := fun hq => hh (List.mem_cons_of_mem _ hq)
          have := ih.2 this
          omega



end Go.Proofs.YtnodhdggafffaaaDoor
