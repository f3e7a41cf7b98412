/-
  What the statements' helper lives returns: true. Conditions: the program's tables lie in memory.
-/
import Derived.Test.YtnoabdafmgmenaaDoorCapNms
namespace Go.Proofs.YtnoabdafmgmenaaDoor
open Go.RowKit
set_option linter.unusedVariables false
set_option linter.unusedSimpArgs false

theorem both_lit (A B R : Int) (a b : Nat) (w : World) (ha : a < 4294967296) (hb : b < 4294967296) (hA : A = (a : Int)) (hB : B = (b : Int)) (hR : ((bth a b : Nat) : Int) = R) (hV : Vars w) :
    Calls Tryd.prog 12 #[.int .u32 A, .int .u32 B] w fun e w' => e = .returned (.int .u32 R) ∧ Below w.heap.size w w' := by
  subst hA hB hR
  exact both_any a b w ha hb hV
theorem bth_offered : ((bth 29353903 29353903 : Nat) : Int) = 29353903 := by kernel_rfl
def sSecure : ByteArray := ⟨#[115, 101, 99, 117, 114, 101]⟩
def sBit25 : ByteArray := ⟨#[98, 105, 116, 45, 50, 53]⟩
theorem of_two (w : World) (hV : Vars w) : Calls Tryd.prog 7 #[.slice (some ⟨w.heap.size, 0, none⟩) 2 2] (w.alloc (.cells #[.string ⟨#[115, 101, 99, 117, 114, 101]⟩, .string ⟨#[98, 105, 116, 45, 50, 53]⟩] 9)) fun e w' => e = .returned (.tuple #[.int .u32 33587200, .agg #[.int .i64 0, .int .i64 0]]) ∧ Below (w.heap.size + 1) (w.alloc (.cells #[.string ⟨#[115, 101, 99, 117, 114, 101]⟩, .string ⟨#[98, 105, 116, 45, 50, 53]⟩] 9)) w' := by
  have h := of_any (some ⟨w.heap.size, 0, none⟩) 2 2 [sSecure, sBit25] _ (Ss.lit w [sSecure, sBit25] (by decide) (by simp)) (hV.later (below_alloc w _))
  have e : ofV (ofA cnm [sSecure, sBit25] 0 0) = .tuple #[.int .u32 33587200, .agg #[.int .i64 0, .int .i64 0]] := by kernel_rfl
  rw [e] at h
  simpa [sSecure, sBit25] using h

set_option maxHeartbeats 1000000 in
theorem lives_any (w : World) (hV : Vars w) : Calls Tryd.prog 11 #[] w fun e w' => e = .returned (.bool true) ∧ Below w.heap.size w w' := by
  have HV := hide (fun ws (hb : Below w.heap.size w ws) => hV.later hb)
  have c1 := hide (of_two w hV)
  have cb := hide (fun w1 hv => both_lit 29353903 29353903 29353903 29353903 29353903 w1 (by omega) (by omega) (by omega) (by omega) bth_offered hv)
  clear hV
  go_enter Tryd.func11, Tryd.ntmps11
  go_wp2_with (first
    | (go_at_call 7; refine (unhide c1).mono ?_; rintro e w1 ⟨rfl, hb1⟩; have hz1 : w.heap.size + 1 ≤ w1.heap.size := by simpa using hb1.size)
    | (go_at_call 13; refine same_world (offered_any _) ?_)
    | (go_at_call 12; have B1 : Below w.heap.size w (w1.alloc (.cells #[.int .i64 0, .int .i64 0] 26)) := ((below_alloc w _).trans (hb1.mono (by omega))).alloc (by omega) _; refine (unhide cb _ (unhide HV _ B1)).mono ?_; rintro e w2 ⟨rfl, hb2⟩))
  go_ret
  exact ⟨rfl, B1.trans (hb2.mono (by simp; omega))⟩

end Go.Proofs.YtnoabdafmgmenaaDoor
