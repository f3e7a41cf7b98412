/-
  A column that came in: what lies in its cells. Conditions: none.
-/
import Derived.Test.YtgdjeooiimjjcaaDoorClPlain
import Derived.Test.YtgdjeooiimjjcaaDoorRows
import Derived.WideShapes
import Derived.ChangeArms
import Derived.OpenShut
import Derived.ProofKit
namespace Go.Proofs.YtgdjeooiimjjcaaDoor
open Go.ChangeShapes Go.WideShapes Go.ChangeAt Go.RowKit
set_option linter.unusedVariables false
set_option linter.unusedSimpArgs false

theorem array10 {α : Type} {cs : Array α} (h : cs.size = 10) : ∃ c0 c1 c2 c3 c4 c5 c6 c7 c8 c9, cs = #[c0, c1, c2, c3, c4, c5, c6, c7, c8, c9] := by
  obtain ⟨l⟩ := cs
  match l, h with
  | [c0, c1, c2, c3, c4, c5, c6, c7, c8, c9], _ => exact ⟨c0, c1, c2, c3, c4, c5, c6, c7, c8, c9, rfl⟩

theorem col_of {H : Type} {enc : TypeId × Value → H} {W : World} {base fuel : Nat} {cs : Array Value} {x : DataW H × List MemPlace} (hsz : cs.size = Tryd.prog.cellsOf 35)
    (h : DataW.trod enc Tryd.prog W base (fun _ => true) true fuel 35 (Value.agg cs).cells.toList = some x) : ∃ (p : Co), cs = #[.string p.sc, .string p.ta, .string p.ot, .string p.na, .string p.on, .int .u16 p.ch, .int .u32 p.le, .int .u8 p.ty, .int .u16 p.fl, .int .u8 p.de] ∧ CoK p := by
  have c8 : Tryd.prog.cellsOf 35 = 10 := by kernel_rfl
  have cb : Tryd.prog.cellsOf 5 = 1 := by kernel_rfl
  have ct : Tryd.prog.cellsOf 9 = 1 := by kernel_rfl
  have cu : Tryd.prog.cellsOf 33 = 1 := by kernel_rfl
  have cw : Tryd.prog.cellsOf 32 = 1 := by kernel_rfl
  obtain ⟨u0, u1, u2, u3, u4, u5, u6, u7, u8, u9, rfl⟩ := array10 (hsz.trans c8)
  obtain ⟨xs, n, _, rfl, hl, hlen, hf⟩ := DataW.trod_struct Tryd.underlying35 h
  match xs, hlen with
  | [y0, y1, y2, y3, y4, y5, y6, y7, y8, y9], _ =>
    have t0 := hf 0 _ rfl
    have t1 := hf 1 _ rfl
    have t2 := hf 2 _ rfl
    have t3 := hf 3 _ rfl
    have t4 := hf 4 _ rfl
    have t5 := hf 5 _ rfl
    have t6 := hf 6 _ rfl
    have t7 := hf 7 _ rfl
    have t8 := hf 8 _ rfl
    have t9 := hf 9 _ rfl
    simp [Value.cells, cb, ct, cu, cw] at t0 t1 t2 t3 t4 t5 t6 t7 t8 t9
    obtain ⟨z0, e0, _, w0⟩ := DataW.trod_string Tryd.underlying9 t0
    obtain ⟨z1, e1, _, w1⟩ := DataW.trod_string Tryd.underlying9 t1
    obtain ⟨z2, e2, _, w2⟩ := DataW.trod_string Tryd.underlying9 t2
    obtain ⟨z3, e3, _, w3⟩ := DataW.trod_string Tryd.underlying9 t3
    obtain ⟨z4, e4, _, w4⟩ := DataW.trod_string Tryd.underlying9 t4
    obtain ⟨z5, e5, _, w5⟩ := DataW.trod_int Tryd.underlying32 t5
    obtain ⟨z6, e6, _, w6⟩ := DataW.trod_int Tryd.underlying33 t6
    obtain ⟨z7, e7, _, w7⟩ := DataW.trod_int Tryd.underlying5 t7
    obtain ⟨z8, e8, _, w8⟩ := DataW.trod_int Tryd.underlying32 t8
    obtain ⟨z9, e9, _, w9⟩ := DataW.trod_int Tryd.underlying5 t9
    simp at e0 e1 e2 e3 e4 e5 e6 e7 e8 e9
    subst e0 e1 e2 e3 e4 e5 e6 e7 e8 e9
    have q5 := bounds_u16 w5
    have q6 := bounds_u32 w6
    have q7 := bounds_u8 w7
    have q8 := bounds_u16 w8
    have q9 := bounds_u8 w9
    exact ⟨⟨z0, z1, z2, z3, z4, z5, z6, z7, z8, z9⟩, rfl, ⟨by simp only; omega, by simp only; omega, by simp only; omega, by simp only; omega, by simp only; omega⟩⟩

end Go.Proofs.YtgdjeooiimjjcaaDoor
