/-
  The document's own answer for values: Check. It writes nothing that was there. Conditions: numbers within their kinds.
-/
import Derived.Test.YtlicnhlgmnlaoaaVrChk1
import Derived.Test.YtlicnhlgmnlaoaaVrChk2
import Derived.Test.YtlicnhlgmnlaoaaVrChk3
namespace Go.Proofs.Ytlicnhlgmnlaoaa
open Go.RowKit
set_option linter.unusedVariables false
set_option linter.unusedSimpArgs false

theorem check_ref (v : Va) (t : Int) (un : Bool) (w : World) (q0 : 0 ≤ t) (q1 : t < 256) (hv : VaK v) : Calls Try.prog 22 #[.agg (vaC v), .agg #[.int .u8 t, .bool un]] w fun e w' => e = .returned (.int .i64 (if vOk v t un = true then 0 else 2)) ∧ Below w.heap.size w w' := by
  by_cases h0 : v.k = 0
  · exact check_r1 v t un w q0 q1 hv (.inl h0)
  by_cases h1 : v.k = 1
  · exact check_r1 v t un w q0 q1 hv (.inr (.inl h1))
  by_cases h2 : v.k = 2
  · exact check_r1 v t un w q0 q1 hv (.inr (.inr h2))
  by_cases h3 : v.k = 3
  · exact check_r2 v t un w q0 q1 hv (.inl h3)
  by_cases h4 : v.k = 4
  · exact check_r2 v t un w q0 q1 hv (.inr (.inl h4))
  by_cases h5 : v.k = 5
  · exact check_r2 v t un w q0 q1 hv (.inr (.inr h5))
  by_cases h6 : v.k = 6
  · exact check_r3 v t un w q0 q1 hv (.inl h6)
  by_cases h7 : v.k = 7
  · exact check_r3 v t un w q0 q1 hv (.inr (.inl h7))
  exact check_r3 v t un w q0 q1 hv (.inr (.inr ⟨by simpa using h0, by simpa using h1, by simpa using h2, by simpa using h3, by simpa using h4, by simpa using h5, by simpa using h6, by simpa using h7⟩))


end Go.Proofs.Ytlicnhlgmnlaoaa
