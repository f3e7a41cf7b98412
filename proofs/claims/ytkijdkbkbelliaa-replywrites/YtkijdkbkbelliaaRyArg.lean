/-
  Replies that came in: what lies in their cells. Conditions: none.
-/
import Derived.Test.YtkijdkbkbelliaaRySmall
import Derived.WideShapes
import Derived.ChangeArms
import Derived.OpenShut
import Derived.ProofKit
namespace Go.Proofs.Ytkijdkbkbelliaa
open Go.ChangeShapes Go.WideShapes Go.ChangeAt Go.RowKit
set_option linter.unusedVariables false
set_option linter.unusedSimpArgs false

theorem array17 {α : Type} {cs : Array α} (h : cs.size = 17) : ∃ c0 c1 c2 c3 c4 c5 c6 c7 c8 c9 c10 c11 c12 c13 c14 c15 c16, cs = #[c0, c1, c2, c3, c4, c5, c6, c7, c8, c9, c10, c11, c12, c13, c14, c15, c16] := by
  obtain ⟨l⟩ := cs
  match l, h with
  | [c0, c1, c2, c3, c4, c5, c6, c7, c8, c9, c10, c11, c12, c13, c14, c15, c16], _ => exact ⟨c0, c1, c2, c3, c4, c5, c6, c7, c8, c9, c10, c11, c12, c13, c14, c15, c16, rfl⟩

theorem rp_of {H : Type} {enc : TypeId × Value → H} {W : World} {base fuel : Nat} {cs : Array Value} {x : DataW H × List MemPlace} (hsz : cs.size = Try.prog.cellsOf 50)
    (h : DataW.trod enc Try.prog W base (fun _ => true) true fuel 50 (Value.agg cs).cells.toList = some x) : ∃ (r : Rp) (xo : Option Addr) (xn xc : Nat), cs = r.row xo xn xc ∧ Bs W xo xn xc r.ok.tr ∧ RpK r := by
  have c17 : Try.prog.cellsOf 50 = 17 := by kernel_rfl
  have cO : Try.prog.cellsOf 31 = 6 := by kernel_rfl
  have cE : Try.prog.cellsOf 35 = 3 := by kernel_rfl
  have cF : Try.prog.cellsOf 41 = 2 := by kernel_rfl
  have cP : Try.prog.cellsOf 48 = 4 := by kernel_rfl
  have cB : Try.prog.cellsOf 4 = 1 := by kernel_rfl
  have ct : Try.prog.cellsOf 9 = 1 := by kernel_rfl
  have cq : Try.prog.cellsOf 28 = 1 := by kernel_rfl
  have cu : Try.prog.cellsOf 26 = 1 := by kernel_rfl
  have cw : Try.prog.cellsOf 29 = 1 := by kernel_rfl
  have cl : Try.prog.cellsOf 22 = 1 := by kernel_rfl
  obtain ⟨u0, u1, u2, u3, u4, u5, u6, u7, u8, u9, u10, u11, u12, u13, u14, u15, u16, rfl⟩ := array17 (hsz.trans c17)
  obtain ⟨xs, n, _, rfl, hl, hlen, hf⟩ := DataW.trod_struct Try.underlying50 h
  match xs, hlen with
  | [y0, y1, y2, y3, y4, y5], _ =>
    have t0 := hf 0 _ rfl
    have t1 := hf 1 _ rfl
    have t2 := hf 2 _ rfl
    have t3 := hf 3 _ rfl
    have t4 := hf 4 _ rfl
    have t5 := hf 5 _ rfl
    simp [Value.cells, cO, cE, cF, cP, cB, ct] at t0 t1 t2 t3 t4 t5
    obtain ⟨lb, e6, _⟩ := DataW.trod_bool Try.underlying4 t1
    obtain ⟨z16, e16, _, w16⟩ := DataW.trod_string Try.underlying9 t5
    obtain ⟨xs0, _, _, rfl, _, hlen0, hf0⟩ := DataW.trod_struct Try.underlying31 t0
    obtain ⟨xs2, _, _, rfl, _, hlen2, hf2⟩ := DataW.trod_struct Try.underlying35 t2
    obtain ⟨xs3, _, _, rfl, _, hlen3, hf3⟩ := DataW.trod_struct Try.underlying41 t3
    obtain ⟨xs4, _, _, rfl, _, hlen4, hf4⟩ := DataW.trod_struct Try.underlying48 t4
    match xs0, hlen0, xs2, hlen2, xs3, hlen3, xs4, hlen4 with
    | [_, _, _, _, _, _], _, [_, _, _], _, [_, _], _, [_, _, _, _], _ =>
      have s0 := hf0 0 _ rfl
      have s1 := hf0 1 _ rfl
      have s2 := hf0 2 _ rfl
      have s3 := hf0 3 _ rfl
      have s4 := hf0 4 _ rfl
      have s5 := hf0 5 _ rfl
      have s7 := hf2 0 _ rfl
      have s8 := hf2 1 _ rfl
      have s9 := hf2 2 _ rfl
      have s10 := hf3 0 _ rfl
      have s11 := hf3 1 _ rfl
      have s12 := hf4 0 _ rfl
      have s13 := hf4 1 _ rfl
      have s14 := hf4 2 _ rfl
      have s15 := hf4 3 _ rfl
      simp [cq, cw, ct, cl, cu] at s0 s1 s2 s3 s4 s5 s7 s8 s9 s10 s11 s12 s13 s14 s15
      obtain ⟨z0, e0, _, w0⟩ := DataW.trod_int Try.underlying28 s0
      obtain ⟨z1, e1, _, w1⟩ := DataW.trod_int Try.underlying28 s1
      obtain ⟨z2, e2, _, w2⟩ := DataW.trod_int Try.underlying29 s2
      obtain ⟨z3, e3, _, w3⟩ := DataW.trod_int Try.underlying29 s3
      obtain ⟨z4, e4, _, w4⟩ := DataW.trod_string Try.underlying9 s4
      obtain ⟨z7, e7, _, w7⟩ := DataW.trod_int Try.underlying29 s7
      obtain ⟨z8, e8, _, w8⟩ := DataW.trod_string Try.underlying9 s8
      obtain ⟨z9, e9, _, w9⟩ := DataW.trod_string Try.underlying9 s9
      obtain ⟨z10, e10, _, w10⟩ := DataW.trod_int Try.underlying29 s10
      obtain ⟨z11, e11, _, w11⟩ := DataW.trod_int Try.underlying29 s11
      obtain ⟨z12, e12, _, w12⟩ := DataW.trod_int Try.underlying26 s12
      obtain ⟨z13, e13, _, w13⟩ := DataW.trod_int Try.underlying29 s13
      obtain ⟨z14, e14, _, w14⟩ := DataW.trod_int Try.underlying29 s14
      obtain ⟨z15, e15, _, w15⟩ := DataW.trod_int Try.underlying29 s15
      simp at e0 e1 e2 e3 e4 e6 e7 e8 e9 e10 e11 e12 e13 e14 e15 e16
      subst e0 e1 e2 e3 e4 e6 e7 e8 e9 e10 e11 e12 e13 e14 e15 e16
      have q0 := bounds_u64 w0
      have q1 := bounds_u64 w1
      have q2 := bounds_u16 w2
      have q3 := bounds_u16 w3
      have q7 := bounds_u16 w7
      have q10 := bounds_u16 w10
      have q11 := bounds_u16 w11
      have q12 := bounds_u32 w12
      have q13 := bounds_u16 w13
      have q14 := bounds_u16 w14
      have q15 := bounds_u16 w15
      have hK : ∀ tr, RpK ⟨⟨z0, z1, z2, z3, z4, tr⟩, lb, ⟨z7, z8, z9⟩, ⟨z10, z11⟩, ⟨z12, z13, z14, z15⟩, z16⟩ := fun tr =>
        ⟨⟨by simp only; omega, by simp only; omega, by simp only; omega, by simp only; omega⟩, by simp only; omega, ⟨by simp only; omega, by simp only; omega⟩, ⟨by simp only; omega, by simp only; omega, by simp only; omega, by simp only; omega⟩⟩
      rcases open_ints Try.underlying22 Try.underlying5 (by kernel_rfl) s5 with ⟨hv, _⟩ | ⟨a', l', c', zs, hv, _, hl', hm', hz, hD, hcl, hwz⟩
      · have hv' : u5 = .slice none 0 0 := by simpa using hv
        subst hv'
        exact ⟨⟨⟨z0, z1, z2, z3, z4, []⟩, lb, ⟨z7, z8, z9⟩, ⟨z10, z11⟩, ⟨z12, z13, z14, z15⟩, z16⟩, none, 0, 0, rfl, Bs.nought W, hK _⟩
      · have hv' : u5 = .slice (some a') l' c' := by simpa using hv
        subst hv'
        simp only [if_true] at hz
        exact ⟨⟨⟨z0, z1, z2, z3, z4, zs.take l'⟩, lb, ⟨z7, z8, z9⟩, ⟨z10, z11⟩, ⟨z12, z13, z14, z15⟩, z16⟩, some a', l', c', rfl, bs_of_row (.inr ⟨a', rfl, hl', hm', hz, hcl, hwz⟩), hK _⟩

end Go.Proofs.Ytkijdkbkbelliaa
