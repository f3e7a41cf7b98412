/-
  The walk of the statement CapsCalls. Conditions: the program's tables lie in memory; the slice can be read.
-/
import Derived.Test.YtnoabdafmgmenaaDoorLawCapNames
import Derived.Test.YtnoabdafmgmenaaDoorCapRefOf
namespace Go.Proofs.YtnoabdafmgmenaaDoor
open Go.RowKit
set_option linter.unusedVariables false
set_option linter.unusedSimpArgs false

set_option maxHeartbeats 4000000 in
theorem lawCapCallsN (a b : Nat) (ao : Option Addr) (n c : Nat) (ss : List ByteArray) (s : Nat) (w : World) (ha : a < 4294967296) (hb : b < 4294967296) (hs : s < 65536) (hV : Vars w ∧ Stat w) (hS : Ss w ao n c ss) :
    Calls Tryd.prog 4 #[.int .u32 (a : Int), .int .u32 (b : Int), .slice ao n c, .int .u16 (s : Int)] w fun e w' => e = .returned (.bool true) ∧ Below w.heap.size w w' := by
  have HV := hide (fun ws (hb : Below w.heap.size w ws) => hV.1.later hb)
  have HT := hide (fun ws (hb : Below w.heap.size w ws) => hV.2.later hb)
  have HS := hide (fun ws (hb : Below w.heap.size w ws) => hS.later hb)
  have hle := hS.le
  have hmx := hS.max
  have cl := hide (lives_any w hV.1)
  have ev : ∃ R1 R2 R3 : Int, ofV (ofA cnm ss 0 0) = .tuple #[.int .u32 R1, .agg #[.int .i64 R2, .int .i64 R3]] := ⟨_, _, _, rfl⟩
  obtain ⟨R1, R2, R3, ev⟩ := ev
  have o1 := hide (fun w1 hv hr => by have q := of_any ao n c ss w1 hr hv; rw [ev] at q; exact q)
  have o2 := hide (fun w1 hr => by have q := rof_ref ao n c ss w1 hr; rw [ev] at q; exact q)
  have b1 := hide (fun w1 hv => both_any a b w1 ha hb hv)
  have b2 := hide (fun w1 => both_ref a b w1 ha hb)
  have k1 := hide (fun w1 => check_any a w1 ha)
  have k2 := hide (fun w1 => check_ref a w1 ha)
  have n1 := hide (fun w1 hv => names_any a w1 ha hv)
  have n2 := hide (fun w1 => rnames_ref a w1 ha)
  have s1 := hide (fun w1 hv => status_any s w1 hs hv)
  have s2 := hide (fun w1 => rstatus_ref s w1 hs)
  clear hV ev ha hb hs hS
  generalize ((bth a b : Nat) : Int) = BO at *
  generalize chkE a = CK at *
  generalize nms cnm a 32 = NA at *
  generalize nms snm s 16 = NS at *
  generalize (a : Int) = A at *
  generalize (b : Int) = B at *
  generalize (s : Int) = S at *
  by_cases h100 : n ≤ 100
  · go_enter Tryd.func4, Tryd.ntmps4
    go_wp2_with (first
      | (go_at_call 11; refine (unhide cl).mono ?_; rintro e w1 ⟨rfl, hb1⟩)
      | (go_at_call 7; refine (unhide o1 _ (unhide HV _ hb1) (unhide HS _ hb1)).mono ?_; rintro e w2 ⟨rfl, hb2'⟩; have hb2 := upto hb1 hb2'; clear hb2' hb1; have c2 := up hb2 (.cells #[.int .i64 R2, .int .i64 R3] 26); have d2 : Below (w2.heap.size + 1) (w2.alloc (.cells #[.int .i64 R2, .int .i64 R3] 26)) (w2.alloc (.cells #[.int .i64 R2, .int .i64 R3] 26)) := Below.refl _ _)
      | (go_at_call 16; refine (unhide o2 _ (unhide HS _ c2)).mono ?_; rintro e w3 ⟨rfl, hb3'⟩; have hb3 := upto c2 hb3'; have d3 := above1 (above d2 hb3') (.cells #[.int .i64 R2, .int .i64 R3] 26); clear hb3' hb2 c2 d2; have c3 := up hb3 (.cells #[.int .i64 R2, .int .i64 R3] 26); have g3 : Below (w3.heap.size + 1) (w3.alloc (.cells #[.int .i64 R2, .int .i64 R3] 26)) (w3.alloc (.cells #[.int .i64 R2, .int .i64 R3] 26)) := Below.refl _ _)
      | (go_at_call 13; refine same_world (offered_any _) ?_)
      | (go_at_call 17; refine same_world (offered_ref _) ?_)
      | (go_at_call 15; refine same_world (needed_any _) ?_)
      | (go_at_call 18; refine same_world (needed_ref _) ?_)
      | (go_at_call 12; refine (unhide b1 _ (unhide HV _ c3)).mono ?_; rintro e w4 ⟨rfl, hb4'⟩; have hb4 := upto c3 hb4'; have d4 := above d3 hb4'; have g4 := above g3 hb4'; have d9 := two_later d4; have g9 := two_later g4; obtain ⟨d90, d91⟩ := d9; obtain ⟨g90, g91⟩ := g9; clear hb4' hb3 c3 d3 g3 d4 g4)
      | (go_at_call 19; refine same_world (unhide b2 _) ?_)
      | (go_at_call 14; refine same_world (unhide k1 _) ?_)
      | (go_at_call 20; refine same_world (unhide k2 _) ?_)
      | (go_at_call 9; refine (unhide n1 _ (unhide HV _ hb4)).mono ?_; rintro e w5 ho; obtain ⟨xo, xn, xc, rfl, t5, hb5'⟩ := OutT.of ho; clear ho; have hb5 := upto hb4 hb5'; clear hb5' hb4)
      | (go_at_call 21; refine (unhide n2 _).mono ?_; rintro e w6 ho; obtain ⟨yo, yn, yc, rfl, t6, hb6'⟩ := OutT.of ho; clear ho; have hb6 := upto hb5 hb6'; have u5 := (t5.later hb6').ss; clear hb6' hb5 t5)
      | (go_at_call 8; refine (same_self _ _ _ _ _ _ _ _ u5 t6.ss).mono ?_; rintro e w7 ⟨rfl, hb7'⟩; have hb7 := upto hb6 hb7'; clear hb7' hb6 u5 t6)
      | (go_at_call 10; refine (unhide s1 _ (unhide HT _ hb7)).mono ?_; rintro e w8 ho; obtain ⟨zo, zn, zc, rfl, t8, hb8'⟩ := OutT.of ho; clear ho; have hb8 := upto hb7 hb8'; clear hb8' hb7)
      | (go_at_call 22; refine (unhide s2 _).mono ?_; rintro e w9 ho; obtain ⟨vo, vn, vc, rfl, t9, hb9'⟩ := OutT.of ho; clear ho; have hb9 := upto hb8 hb9'; have u8 := (t8.later hb9').ss; clear hb9' hb8 t8)
      | (go_at_call 8; refine (same_self _ _ _ _ _ _ _ _ u8 t9.ss).mono ?_; rintro e wz ⟨rfl, hbz'⟩; have hbz := upto hb9 hbz'; clear hbz' hb9 u8 t9))
    go_ret
    exact ⟨rfl, hbz⟩
  · go_enter Tryd.func4, Tryd.ntmps4
    go_wp2_with (go_at_call 11; refine (unhide cl).mono ?_; rintro e w1 ⟨rfl, hb1⟩)
    go_ret
    exact ⟨rfl, hb1⟩

theorem lawCapCalls (A B : Int) (ao : Option Addr) (n c : Nat) (ss : List ByteArray) (S : Int) (w : World) (hV : Vars w ∧ Stat w) (ha : 0 ≤ A ∧ A ≤ 4294967295) (hb : 0 ≤ B ∧ B ≤ 4294967295) (hS : Ss w ao n c ss) (hs : 0 ≤ S ∧ S ≤ 65535) :
    Calls Tryd.prog 4 #[.int .u32 A, .int .u32 B, .slice ao n c, .int .u16 S] w fun e w' => e = .returned (.bool true) ∧ Below w.heap.size w w' := by
  obtain ⟨a, rfl⟩ := Int.eq_ofNat_of_zero_le ha.1
  obtain ⟨b, rfl⟩ := Int.eq_ofNat_of_zero_le hb.1
  obtain ⟨s, rfl⟩ := Int.eq_ofNat_of_zero_le hs.1
  exact lawCapCallsN a b ao n c ss s w (by omega) (by omega) (by omega) hV hS

end Go.Proofs.YtnoabdafmgmenaaDoor
