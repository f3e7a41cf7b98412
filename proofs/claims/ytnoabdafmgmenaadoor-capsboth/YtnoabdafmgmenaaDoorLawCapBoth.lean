/-
  The walk of the statement CapsBoth. Conditions: the program's tables lie in memory.
-/
import Derived.Test.YtnoabdafmgmenaaDoorCapLives
namespace Go.Proofs.YtnoabdafmgmenaaDoor
open Go.RowKit
set_option linter.unusedVariables false
set_option linter.unusedSimpArgs false

set_option maxHeartbeats 2000000 in
theorem lawCapBothN (a b l : Nat) (w : World) (ha : a < 4294967296) (hb : b < 4294967296) (hl : l < 4294967296) (hV : Vars w) :
    Calls Tryd.prog 5 #[.int .u32 (a : Int), .int .u32 (b : Int), .int .u32 (l : Int)] w fun e w' => e = .returned (.bool true) ∧ Below w.heap.size w w' := by
  have HV := hide (fun ws (hb : Below w.heap.size w ws) => hV.later hb)
  have hal : a &&& l < 4294967296 := Nat.lt_of_le_of_lt Nat.and_le_left ha
  have hc := bth_lt a b ha
  have cl := hide (lives_any w hV)
  have c1 := hide (fun w1 hv => both_any a b w1 ha hb hv)
  have c2 := hide (fun w1 hv => both_any (a &&& l) b w1 hal hb hv)
  have c3 := hide (fun w1 hv => both_lit (b : Int) (a : Int) ((bth a b : Nat) : Int) b a w1 hb ha rfl rfl (by rw [bth_comm]) hv)
  have c4 := hide (fun w1 hv => both_lit ((bth a b : Nat) : Int) ((bth a b : Nat) : Int) ((bth a b : Nat) : Int) (bth a b) (bth a b) w1 hc hc rfl rfl (by rw [bth_self a b ha]) hv)
  have e1 : bits .and .u32 (a : Int) (l : Int) = ((a &&& l : Nat) : Int) := u32_and_nat a l ha hl
  have e2 : bits .andNot .u32 ((bth a b : Nat) : Int) (a : Int) = 0 := by rw [u32_andNot_nat _ _ hc ha, bth_left a b ha]; rfl
  have e3 : bits .andNot .u32 ((bth a b : Nat) : Int) (b : Int) = 0 := by rw [u32_andNot_nat _ _ hc hb, bth_right a b ha hb]; rfl
  have e4 : bits .andNot .u32 ((bth (a &&& l) b : Nat) : Int) ((bth a b : Nat) : Int) = 0 := by rw [u32_andNot_nat _ _ (bth_lt _ b hal) hc, bth_less a b l ha]; rfl
  clear hV ha hb hl hal hc
  generalize ((bth a b : Nat) : Int) = C at *
  generalize ((bth (a &&& l) b : Nat) : Int) = D at *
  generalize ((a &&& l : Nat) : Int) = AL at *
  generalize (a : Int) = A at *
  generalize (b : Int) = B at *
  generalize (l : Int) = L at *
  go_enter Tryd.func5, Tryd.ntmps5
  go_wp2_with (first
    | (go_at_call 11; refine (unhide cl).mono ?_; rintro e w1 ⟨rfl, hb1⟩)
    | (go_at_call 12; with_reducible show Calls _ _ #[.int .u32 A, .int .u32 B] _ _; refine (unhide c1 _ (unhide HV _ hb1)).mono ?_; rintro e w2 ⟨rfl, hb2'⟩; have hb2 := hb1.trans (hb2'.mono hb1.size); clear hb2')
    | (go_at_call 12; with_reducible show Calls _ _ #[.int .u32 AL, .int .u32 B] _ _; refine (unhide c2 _ (unhide HV _ hb2)).mono ?_; rintro e w3 ⟨rfl, hb3'⟩; have hb3 := hb2.trans (hb3'.mono hb2.size); clear hb3')
    | (go_at_call 12; with_reducible show Calls _ _ #[.int .u32 B, .int .u32 A] _ _; refine (unhide c3 _ (unhide HV _ hb3)).mono ?_; rintro e w4 ⟨rfl, hb4'⟩; have hb4 := hb3.trans (hb4'.mono hb3.size); clear hb4')
    | (go_at_call 12; with_reducible show Calls _ _ #[.int .u32 C, .int .u32 C] _ _; refine (unhide c4 _ (unhide HV _ hb4)).mono ?_; rintro e w5 ⟨rfl, hb5'⟩; have hb5 := hb4.trans (hb5'.mono hb4.size); clear hb5'))
  go_ret
  exact ⟨rfl, hb5⟩

theorem lawCapBoth (A B L : Int) (w : World) (hV : Vars w) (ha : 0 ≤ A ∧ A ≤ 4294967295) (hb : 0 ≤ B ∧ B ≤ 4294967295) (hl : 0 ≤ L ∧ L ≤ 4294967295) :
    Calls Tryd.prog 5 #[.int .u32 A, .int .u32 B, .int .u32 L] w fun e w' => e = .returned (.bool true) ∧ Below w.heap.size w w' := by
  obtain ⟨a, rfl⟩ := Int.eq_ofNat_of_zero_le ha.1
  obtain ⟨b, rfl⟩ := Int.eq_ofNat_of_zero_le hb.1
  obtain ⟨l, rfl⟩ := Int.eq_ofNat_of_zero_le hl.1
  exact lawCapBothN a b l w (by omega) (by omega) (by omega) hV

end Go.Proofs.YtnoabdafmgmenaaDoor
