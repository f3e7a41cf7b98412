/-
  The walk of the statement CapsBack. Conditions: the program's tables lie in memory.
-/
import Derived.Test.YtnoabdafmgmenaaDoorCapLives
namespace Go.Proofs.YtnoabdafmgmenaaDoor
open Go.RowKit
set_option linter.unusedVariables false
set_option linter.unusedSimpArgs false

set_option maxHeartbeats 2000000 in
theorem lawCapBackN (a b : Nat) (w : World) (ha : a < 4294967296) (hb : b < 4294967296) (hV : Vars w) :
    Calls Tryd.prog 6 #[.int .u32 (a : Int), .int .u32 (b : Int)] w fun e w' => e = .returned (.bool true) ∧ Below w.heap.size w w' := by
  have HV := hide (fun ws (hb : Below w.heap.size w ws) => hV.later hb)
  have cl := hide (lives_any w hV)
  have c1 := hide (fun w1 hv => names_any a w1 ha hv)
  have c2 := hide (fun w1 hv => names_any b w1 hb hv)
  have ev : ofV (a, 0, 0) = .tuple #[.int .u32 (a : Int), .agg #[.int .i64 0, .int .i64 0]] := rfl
  have co := hide (fun ao n c w1 (h : Ss w1 ao n c (nms cnm a 32)) hv => by have q := of_any ao n c _ w1 h hv; rw [ofA_nms cnm_inj a ha, ev] at q; exact q)
  clear ev
  have he : decide (nms cnm a 32 = nms cnm b 32) = ((a : Int) == (b : Int)) := by
    rw [Bool.eq_iff_iff]
    simp only [decide_eq_true_eq, beq_iff_eq, nms_inj cnm_inj a b ha hb]
    omega
  obtain ⟨E, hE⟩ : ∃ E, E = decide (nms cnm a 32 = nms cnm b 32) := ⟨_, rfl⟩
  rw [← hE] at he
  have HE := hide hE
  have cs := hide (fun ao n c bo m d w1 (h : Ss w1 ao n c (nms cnm a 32)) (k : Ss w1 bo m d (nms cnm b 32)) => by have q := sameTexts_any ao n c _ bo m d _ w1 h k; rw [← hE] at q; exact q)
  clear hV ha hb hE
  have he' : ((a : Int) == (b : Int)) = E := he.symm
  clear he
  have HU := hide (fun o w1 (h : Below w.heap.size w w1) => h.alloc h.size o)
  generalize nms cnm a 32 = NA at *
  generalize nms cnm b 32 = NB at *
  generalize (a : Int) = A at *
  generalize (b : Int) = B at *
  go_enter Tryd.func6, Tryd.ntmps6
  go_wp2_with (first
    | (go_at_call 11; refine (unhide cl).mono ?_; rintro e w1 ⟨rfl, hb1⟩)
    | (go_at_call 7; refine (unhide co _ _ _ _ t2.ss (unhide HV _ hb2)).mono ?_; rintro e w3 ⟨rfl, hb3'⟩; have hb3 := unhide HU (.cells #[.int .i64 0, .int .i64 0] 26) _ (hb2.trans (hb3'.mono hb2.size)); clear hb3')
    | (go_at_call 9; with_reducible show Calls _ _ #[.int .u32 A] _ _; refine (unhide c1 _ (unhide HV _ hb3)).mono ?_; rintro e w4 ho; obtain ⟨xo, xn, xc, rfl, t4, hb4'⟩ := OutT.of ho; have hb4 := hb3.trans (hb4'.mono hb3.size); clear hb4')
    | (go_at_call 9; with_reducible show Calls _ _ #[.int .u32 A] _ _; refine (unhide c1 _ (unhide HV _ hb1)).mono ?_; rintro e w2 ho; obtain ⟨po, pn, pc, rfl, t2, hb2'⟩ := OutT.of ho; have hb2 := hb1.trans (hb2'.mono hb1.size); clear hb2')
    | (go_at_call 9; with_reducible show Calls _ _ #[.int .u32 B] _ _; refine (unhide c2 _ (unhide HV _ hb4)).mono ?_; rintro e w5 ho; obtain ⟨yo, yn, yc, rfl, t5, hb5'⟩ := OutT.of ho; have hb5 := hb4.trans (hb5'.mono hb4.size); have s4 := hide (t4.later hb5').ss; clear hb5')
    | (go_at_call 8; refine (unhide cs _ _ _ _ _ _ _ (unhide s4) t5.ss).mono ?_; rintro e w6 ⟨rfl, hb6'⟩; have hb6 := hb5.trans (hb6'.mono hb5.size); clear hb6'))
  go_ret
  exact ⟨rfl, hb6⟩

theorem lawCapBack (A B : Int) (w : World) (hV : Vars w) (ha : 0 ≤ A ∧ A ≤ 4294967295) (hb : 0 ≤ B ∧ B ≤ 4294967295) :
    Calls Tryd.prog 6 #[.int .u32 A, .int .u32 B] w fun e w' => e = .returned (.bool true) ∧ Below w.heap.size w w' := by
  obtain ⟨a, rfl⟩ := Int.eq_ofNat_of_zero_le ha.1
  obtain ⟨b, rfl⟩ := Int.eq_ofNat_of_zero_le hb.1
  exact lawCapBackN a b w (by omega) (by omega) hV

end Go.Proofs.YtnoabdafmgmenaaDoor
