/-
  A moment, a value, a type that came in: what lies in their cells. Conditions: none.
-/
import Derived.Test.YtgldbainhncneaaGreatDoorMPl
import Derived.Test.YtgldbainhncneaaGreatDoorRows
import Derived.WideShapes
import Derived.ChangeArms
import Derived.OpenShut
import Derived.ProofKit
namespace Go.Proofs.YtgldbainhncneaaGreatDoor
open Go.ChangeShapes Go.WideShapes Go.ChangeAt Go.RowKit
set_option linter.unusedVariables false
set_option linter.unusedSimpArgs false

theorem array2 {α : Type} {cs : Array α} (h : cs.size = 2) : ∃ c0 c1, cs = #[c0, c1] := by
  obtain ⟨l⟩ := cs
  match l, h with
  | [c0, c1], _ => exact ⟨c0, c1, rfl⟩
theorem array8 {α : Type} {cs : Array α} (h : cs.size = 8) : ∃ c0 c1 c2 c3 c4 c5 c6 c7, cs = #[c0, c1, c2, c3, c4, c5, c6, c7] := by
  obtain ⟨l⟩ := cs
  match l, h with
  | [c0, c1, c2, c3, c4, c5, c6, c7], _ => exact ⟨c0, c1, c2, c3, c4, c5, c6, c7, rfl⟩
theorem array12 {α : Type} {cs : Array α} (h : cs.size = 12) : ∃ c0 c1 c2 c3 c4 c5 c6 c7 c8 c9 c10 c11, cs = #[c0, c1, c2, c3, c4, c5, c6, c7, c8, c9, c10, c11] := by
  obtain ⟨l⟩ := cs
  match l, h with
  | [c0, c1, c2, c3, c4, c5, c6, c7, c8, c9, c10, c11], _ => exact ⟨c0, c1, c2, c3, c4, c5, c6, c7, c8, c9, c10, c11, rfl⟩
theorem ty_of {H : Type} {enc : TypeId × Value → H} {W : World} {base fuel : Nat} {cs : Array Value} {x : DataW H × List MemPlace} (hsz : cs.size = Tryz.prog.cellsOf 23)
    (h : DataW.trod enc Tryz.prog W base (fun _ => true) true fuel 23 (Value.agg cs).cells.toList = some x) : ∃ (t : Int) (un : Bool), cs = #[.int .u8 t, .bool un] ∧ 0 ≤ t ∧ t < 256 := by
  have c2 : Tryz.prog.cellsOf 23 = 2 := by kernel_rfl
  have cb : Tryz.prog.cellsOf 5 = 1 := by kernel_rfl
  have cB : Tryz.prog.cellsOf 4 = 1 := by kernel_rfl
  obtain ⟨u0, u1, rfl⟩ := array2 (hsz.trans c2)
  obtain ⟨xs, n, _, rfl, hl, hlen, hf⟩ := DataW.trod_struct Tryz.underlying23 h
  match xs, hlen with
  | [y0, y1], _ =>
    have t0 := hf 0 _ rfl
    have t1 := hf 1 _ rfl
    simp [Value.cells, cb, cB] at t0 t1
    obtain ⟨z0, e0, _, w0⟩ := DataW.trod_int Tryz.underlying5 t0
    obtain ⟨z1, e1, _⟩ := DataW.trod_bool Tryz.underlying4 t1
    simp at e0 e1
    subst e0 e1
    have q0 := bounds_u8 w0
    exact ⟨z0, z1, rfl, by omega, by omega⟩
theorem wh_of {H : Type} {enc : TypeId × Value → H} {W : World} {base fuel : Nat} {cs : Array Value} {x : DataW H × List MemPlace} (hsz : cs.size = Tryz.prog.cellsOf 30)
    (h : DataW.trod enc Tryz.prog W base (fun _ => true) true fuel 30 (Value.agg cs).cells.toList = some x) : ∃ v : Wh, cs = whC v ∧ WhK v := by
  have c8 : Tryz.prog.cellsOf 30 = 8 := by kernel_rfl
  have ci : Tryz.prog.cellsOf 3 = 1 := by kernel_rfl
  have cB : Tryz.prog.cellsOf 4 = 1 := by kernel_rfl
  obtain ⟨u0, u1, u2, u3, u4, u5, u6, u7, rfl⟩ := array8 (hsz.trans c8)
  obtain ⟨xs, n, _, rfl, hl, hlen, hf⟩ := DataW.trod_struct Tryz.underlying30 h
  match xs, hlen with
  | [y0, y1, y2, y3, y4, y5, y6, y7], _ =>
    have s0 := hf 0 _ rfl
    have s1 := hf 1 _ rfl
    have s2 := hf 2 _ rfl
    have s3 := hf 3 _ rfl
    have s4 := hf 4 _ rfl
    have s5 := hf 5 _ rfl
    have s6 := hf 6 _ rfl
    have s7 := hf 7 _ rfl
    simp [Value.cells, ci, cB] at s0 s1 s2 s3 s4 s5 s6 s7
    obtain ⟨z0, e0, _⟩ := DataW.trod_bool Tryz.underlying4 s0
    obtain ⟨z1, e1, _, w1⟩ := DataW.trod_int Tryz.underlying3 s1
    obtain ⟨z2, e2, _, w2⟩ := DataW.trod_int Tryz.underlying3 s2
    obtain ⟨z3, e3, _, w3⟩ := DataW.trod_int Tryz.underlying3 s3
    obtain ⟨z4, e4, _, w4⟩ := DataW.trod_int Tryz.underlying3 s4
    obtain ⟨z5, e5, _, w5⟩ := DataW.trod_int Tryz.underlying3 s5
    obtain ⟨z6, e6, _, w6⟩ := DataW.trod_int Tryz.underlying3 s6
    obtain ⟨z7, e7, _, w7⟩ := DataW.trod_int Tryz.underlying3 s7
    simp at e0 e1 e2 e3 e4 e5 e6 e7
    subst e0 e1 e2 e3 e4 e5 e6 e7
    have q1 := bounds_i64 w1
    have q2 := bounds_i64 w2
    have q3 := bounds_i64 w3
    have q4 := bounds_i64 w4
    have q5 := bounds_i64 w5
    have q6 := bounds_i64 w6
    have q7 := bounds_i64 w7
    exact ⟨⟨z0, z1, z2, z3, z4, z5, z6, z7⟩, rfl, ⟨⟨by simp only; omega, by simp only; omega⟩, ⟨by simp only; omega, by simp only; omega⟩, ⟨by simp only; omega, by simp only; omega⟩, ⟨by simp only; omega, by simp only; omega⟩, ⟨by simp only; omega, by simp only; omega⟩, ⟨by simp only; omega, by simp only; omega⟩, ⟨by simp only; omega, by simp only; omega⟩⟩⟩
theorem va_of {H : Type} {enc : TypeId × Value → H} {W : World} {base fuel : Nat} {cs : Array Value} {x : DataW H × List MemPlace} (hsz : cs.size = Tryz.prog.cellsOf 32)
    (h : DataW.trod enc Tryz.prog W base (fun _ => true) true fuel 32 (Value.agg cs).cells.toList = some x) : ∃ v : Va, cs = vaC v ∧ VaK v := by
  have c12 : Tryz.prog.cellsOf 32 = 12 := by kernel_rfl
  have c8 : Tryz.prog.cellsOf 30 = 8 := by kernel_rfl
  have ci : Tryz.prog.cellsOf 3 = 1 := by kernel_rfl
  have cj : Tryz.prog.cellsOf 2 = 1 := by kernel_rfl
  have cu : Tryz.prog.cellsOf 28 = 1 := by kernel_rfl
  have ct : Tryz.prog.cellsOf 9 = 1 := by kernel_rfl
  have cB : Tryz.prog.cellsOf 4 = 1 := by kernel_rfl
  obtain ⟨u0, u1, u2, u3, v0, v1, v2, v3, v4, v5, v6, v7, rfl⟩ := array12 (hsz.trans c12)
  obtain ⟨xs, n, _, rfl, hl, hlen, hf⟩ := DataW.trod_struct Tryz.underlying32 h
  match xs, hlen with
  | [y0, y1, y2, y3, y4], _ =>
    have t0 := hf 0 _ rfl
    have t1 := hf 1 _ rfl
    have t2 := hf 2 _ rfl
    have t3 := hf 3 _ rfl
    have t4 := hf 4 _ rfl
    simp [Value.cells, ci, cj, cu, ct, c8] at t0 t1 t2 t3 t4
    obtain ⟨a0, f0, _, g0⟩ := DataW.trod_int Tryz.underlying3 t0
    obtain ⟨a1, f1, _, g1⟩ := DataW.trod_int Tryz.underlying2 t1
    obtain ⟨a2, f2, _, g2⟩ := DataW.trod_int Tryz.underlying28 t2
    obtain ⟨a3, f3, _, g3⟩ := DataW.trod_string Tryz.underlying9 t3
    obtain ⟨xs4, _, _, rfl, _, hlen4, hf4⟩ := DataW.trod_struct Tryz.underlying30 t4
    match xs4, hlen4 with
    | [_, _, _, _, _, _, _, _], _ =>
      have s0 := hf4 0 _ rfl
      have s1 := hf4 1 _ rfl
      have s2 := hf4 2 _ rfl
      have s3 := hf4 3 _ rfl
      have s4 := hf4 4 _ rfl
      have s5 := hf4 5 _ rfl
      have s6 := hf4 6 _ rfl
      have s7 := hf4 7 _ rfl
      simp [Value.cells, ci, cB] at s0 s1 s2 s3 s4 s5 s6 s7
      obtain ⟨z0, e0, _⟩ := DataW.trod_bool Tryz.underlying4 s0
      obtain ⟨z1, e1, _, w1⟩ := DataW.trod_int Tryz.underlying3 s1
      obtain ⟨z2, e2, _, w2⟩ := DataW.trod_int Tryz.underlying3 s2
      obtain ⟨z3, e3, _, w3⟩ := DataW.trod_int Tryz.underlying3 s3
      obtain ⟨z4, e4, _, w4⟩ := DataW.trod_int Tryz.underlying3 s4
      obtain ⟨z5, e5, _, w5⟩ := DataW.trod_int Tryz.underlying3 s5
      obtain ⟨z6, e6, _, w6⟩ := DataW.trod_int Tryz.underlying3 s6
      obtain ⟨z7, e7, _, w7⟩ := DataW.trod_int Tryz.underlying3 s7
      simp at f0 f1 f2 f3 e0 e1 e2 e3 e4 e5 e6 e7
      subst f0 f1 f2 f3 e0 e1 e2 e3 e4 e5 e6 e7
      have q1 := bounds_i64 w1
      have q2 := bounds_i64 w2
      have q3 := bounds_i64 w3
      have q4 := bounds_i64 w4
      have q5 := bounds_i64 w5
      have q6 := bounds_i64 w6
      have q7 := bounds_i64 w7
      have r0 := bounds_i64 g0
      have r1 := bounds_i64 g1
      have r2 := bounds_u64 g2
      exact ⟨⟨a0, a1, a2, a3, ⟨z0, z1, z2, z3, z4, z5, z6, z7⟩⟩, rfl, ⟨⟨by simp only; omega, by simp only; omega⟩, ⟨by simp only; omega, by simp only; omega⟩, ⟨by simp only; omega, by simp only; omega⟩, ⟨⟨by simp only; omega, by simp only; omega⟩, ⟨by simp only; omega, by simp only; omega⟩, ⟨by simp only; omega, by simp only; omega⟩, ⟨by simp only; omega, by simp only; omega⟩, ⟨by simp only; omega, by simp only; omega⟩, ⟨by simp only; omega, by simp only; omega⟩, ⟨by simp only; omega, by simp only; omega⟩⟩⟩⟩

end Go.Proofs.YtgldbainhncneaaGreatDoor
