/-
  ParamTypes of the statements' layer 18 returns true for every input up to the statement's own size: parameters whose types are told anew are read back whatever was known, and parameters whose types are not told are wrong where too few are known. Conditions: those of the second form alone: what is handed in has a bulk of at most 2 to the 20.
-/
import Derived.Test.YtfgghgoonfamkaaRows
import Derived.Test.YtfgghgoonfamkaaLawPmTypes
import Derived.Test.YtfgghgoonfamkaaMPx
import Derived.WalkKit
import Derived.ProofKit
import Derived.OpenShut
import Derived.ShutString
import Derived.ChangeOld
import Derived.Below
import Derived.JoinedCond
namespace Go.Proofs.Ytfgghgoonfamkaa.paramTypes
open Go.ChangeShapes Go.WideShapes Go.ChangeAt Go.RowKit
set_option linter.unusedVariables false

theorem own : ownKnob Try.prog.godebug = none := by kernel_rfl
theorem laidOut : laidOutB Try.prog = true := by kernel_rfl

theorem walk (a0 : Option Addr) (len0 cap0 : Nat) (z0 : List Pa) (a1 : Option Addr) (len1 cap1 : Nat) (z1 : List Ty) (w : World) (w0 : Pas w a0 len0 cap0 z0 ∧ ∀ p ∈ z0, (VaK p.v ∧ 0 ≤ p.t.t ∧ p.t.t < 256) ∧ p.v.t.size ≤ 1099511627776) (w1 : Tys w a1 len1 cap1 z1 ∧ ∀ p ∈ z1, 0 ≤ p.t ∧ p.t < 256) :
    Calls Try.prog 7 #[.slice a0 len0 cap0, .slice a1 len1 cap1] w fun e w' => e = .returned (.bool true) ∧ Below w.heap.size w w' := by
  exact lawPmTypes a0 len0 cap0 z0 a1 len1 cap1 z1 w w0.1 w1.1 w0.2 w1.2

set_option maxRecDepth 100000 in
theorem lifted (os : Os) (started : os.Started) (H : Type) (enc : TypeId × Value → H) (F : Stop.Interp) :
    ReturnsInHanded {} Try.checked os 7 .any ((Rows.OpenSpec.upto Rows.paramTypesSpec).pre6 enc Try.prog Try.f7 Rows.paramTypesUptoRow.domain false) (((Rows.OpenSpec.upto Rows.paramTypesSpec).at F).post enc Try.prog Try.f7 false true false false) := by
  refine returnsInHanded_of_cond (C := Try.checked) (s := Rows.OpenSpec.upto Rows.paramTypesSpec) (k := Rows.uptoSmall) rfl own started (by kernel_rfl) Try.func7
    (OpenSpec.witness (enc := enc) (C := Try.checked) (s := Rows.OpenSpec.upto Rows.paramTypesSpec) (k := Rows.uptoSmall) rfl false ⟨#[], #[.slice none 0 0, .slice none 0 0], []⟩ 8 (by kernel_rfl) (by kernel_rfl) (by kernel_rfl)
      (x := ([.nil, .nil], [], [])) (by kernel_rfl) rfl (by kernel_rfl)) ?_
  intro W base args ds gs before hval0 hW _ hk _
  have hval : ∀ (j : Nat) t v, Try.f7.params[j]? = some t → args[j]? = some v → Value.okWide Try.prog W .any base t v := hval0
  have hW' := hW
  obtain ⟨p, q, hA0, hV, rfl, hfz, hnd⟩ := hW
  have hA : DataW.TrodAll enc Try.prog W 0 (fun _ => true) true Try.f7.params.toList args.toList ds p := hA0
  rw [Try.params7] at hA hval
  obtain ⟨v0, vs0, d0, ds0, p0, q0, hargs, rfl, rfl, h0, r0⟩ := trodAll_cons hA
  obtain ⟨v1, vs1, d1, ds1, p1, q1, rfl, rfl, rfl, h1, r1⟩ := trodAll_cons r0
  obtain ⟨rfl, rfl, rfl⟩ := trodAll_nil r1
  obtain rfl : args = #[v0, v1] := by cases args; simp_all
  obtain ⟨rfl, rfl⟩ := trodVars_none hV
  obtain ⟨a0, len0, cap0, rfl⟩ := okWide_slice Try.underlying35 (hval 0 35 v0 rfl rfl)
  have k0 := h0
  have lt0 : ∀ x ∈ p0, x.block < W.heap.size := by obtain ⟨m, hm⟩ := k0; exact DataW.trod_lt m _ _ _ hm
  obtain ⟨z0, m0⟩ : ∃ zs, Pas W a0 len0 cap0 zs ∧ ∀ p ∈ zs, (VaK p.v ∧ 0 ≤ p.t.t ∧ p.t.t < 256) ∧ p.v.t.size ≤ Rows.uptoBulk d0 := by
    obtain ⟨fuel, hf⟩ := h0
    exact pas_of hf
  have hb0 : Rows.uptoBulkAll [d0, d1] ≤ 1048576 := of_decide_eq_true hk
  simp only [Rows.uptoBulkAll] at hb0
  have w0 : Pas W a0 len0 cap0 z0 ∧ ∀ p ∈ z0, (VaK p.v ∧ 0 ≤ p.t.t ∧ p.t.t < 256) ∧ p.v.t.size ≤ 1099511627776 := ⟨m0.1, fun v hv => ⟨(m0.2 v hv).1, Nat.le_trans (m0.2 v hv).2 (by omega)⟩⟩
  obtain ⟨a1, len1, cap1, rfl⟩ := okWide_slice Try.underlying43 (hval 1 43 v1 rfl rfl)
  have k1 := h1
  have lt1 : ∀ x ∈ p1, x.block < W.heap.size := by obtain ⟨m, hm⟩ := k1; exact DataW.trod_lt m _ _ _ hm
  obtain ⟨z1, m1⟩ : ∃ zs, Tys W a1 len1 cap1 zs ∧ ∀ p ∈ zs, 0 ≤ p.t ∧ p.t < 256 := by
    obtain ⟨fuel, hf⟩ := h1
    exact ts_of hf
  have w1 := m1
  clear hA0 hval0
  refine (walk a0 len0 cap0 z0 a1 len1 cap1 z1 W w0 w1).mono fun e W' ⟨he, bel⟩ => ?_
  subst he
  exact ⟨_, rfl, _, _, _, [], _, [], hW', trodAll_mk1 (shut_bool Try.underlying4 _), (trodAll_cons_mk (Below.trod laidOut (by kernel_rfl) (of_decide_eq_true (by kernel_rfl)) k0 bel lt0) (trodAll_cons_mk (Below.trod laidOut (by kernel_rfl) (of_decide_eq_true (by kernel_rfl)) k1 bel lt1) trodAll_mk0)), rfl, bel.frame _, fun h => by cases h⟩

theorem over : Rows.paramTypesUptoRow.holds Try.pinned (Rows.OpenSpec.upto Rows.paramTypesSpec) :=
  OpenClaim.holds_of_cond 7 Try.f7 rfl rfl rfl rfl rfl rfl rfl ⟨rfl, rfl, rfl, rfl, rfl⟩ rfl rfl rfl rfl rfl (by kernel_rfl) Try.func7 (by kernel_rfl)
    (of_decide_eq_true (by kernel_rfl)) (by unfold Func.isWrapper; first | (rw [if_pos (by decide +kernel)]; kernel_rfl) | (rw [if_neg (by decide +kernel)]; exact ⟨rfl, rfl⟩))
    (fun os started H enc _ F => lifted os started H enc F)

/-- ████ THE STATEMENT ████ -/
theorem proved : Rows.ParamTypesUptoSaid := over
#print axioms proved
end Go.Proofs.Ytfgghgoonfamkaa.paramTypes
