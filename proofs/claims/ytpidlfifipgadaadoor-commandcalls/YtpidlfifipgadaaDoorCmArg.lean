/-
  A command that came in: what lies in its cells. Conditions: none.
-/
import Derived.Test.YtpidlfifipgadaaDoorCmPlain
import Derived.Test.YtpidlfifipgadaaDoorCmMem
import Derived.WideShapes
import Derived.ChangeArms
import Derived.OpenShut
import Derived.ProofKit
namespace Go.Proofs.YtpidlfifipgadaaDoor
open Go.ChangeShapes Go.WideShapes Go.ChangeAt Go.RowKit
set_option linter.unusedVariables false
set_option linter.unusedSimpArgs false

theorem array8 {α : Type} {cs : Array α} (h : cs.size = 8) : ∃ c0 c1 c2 c3 c4 c5 c6 c7, cs = #[c0, c1, c2, c3, c4, c5, c6, c7] := by
  obtain ⟨l⟩ := cs
  match l, h with
  | [c0, c1, c2, c3, c4, c5, c6, c7], _ => exact ⟨c0, c1, c2, c3, c4, c5, c6, c7, rfl⟩

theorem cmd_of {H : Type} {enc : TypeId × Value → H} {W : World} {base fuel : Nat} {cs : Array Value} {x : DataW H × List MemPlace} (hsz : cs.size = Tryd.prog.cellsOf 26)
    (h : DataW.trod enc Tryd.prog W base (fun _ => true) true fuel 26 (Value.agg cs).cells.toList = some x) : ∃ (c : Cm) (xo : Option Addr) (xn xc : Nat), cs = (c.cd xo xn xc).row ∧ Bs W xo xn xc c.d ∧ c.ok := by
  have c8 : Tryd.prog.cellsOf 26 = 8 := by kernel_rfl
  have cb : Tryd.prog.cellsOf 5 = 1 := by kernel_rfl
  have ct : Tryd.prog.cellsOf 9 = 1 := by kernel_rfl
  have cu : Tryd.prog.cellsOf 22 = 1 := by kernel_rfl
  have cw : Tryd.prog.cellsOf 23 = 1 := by kernel_rfl
  have cl : Tryd.prog.cellsOf 24 = 1 := by kernel_rfl
  obtain ⟨u0, u1, u2, u3, u4, u5, u6, u7, rfl⟩ := array8 (hsz.trans c8)
  obtain ⟨xs, n, _, rfl, hl, hlen, hf⟩ := DataW.trod_struct Tryd.underlying26 h
  match xs, hlen with
  | [y0, y1, y2, y3, y4, y5, y6, y7], _ =>
    have t0 := hf 0 _ rfl
    have t1 := hf 1 _ rfl
    have t2 := hf 2 _ rfl
    have t3 := hf 3 _ rfl
    have t4 := hf 4 _ rfl
    have t5 := hf 5 _ rfl
    have t6 := hf 6 _ rfl
    have t7 := hf 7 _ rfl
    simp [Value.cells, cb, ct, cu, cw, cl] at t0 t1 t2 t3 t4 t5 t6 t7
    obtain ⟨z0, e0, _, w0⟩ := DataW.trod_int Tryd.underlying5 t0
    obtain ⟨z1, e1, _, w1⟩ := DataW.trod_string Tryd.underlying9 t1
    obtain ⟨z2, e2, _, w2⟩ := DataW.trod_int Tryd.underlying22 t2
    obtain ⟨z3, e3, _, w3⟩ := DataW.trod_int Tryd.underlying23 t3
    obtain ⟨z4, e4, _, w4⟩ := DataW.trod_int Tryd.underlying5 t4
    obtain ⟨z5, e5, _, w5⟩ := DataW.trod_int Tryd.underlying22 t5
    obtain ⟨z6, e6, _, w6⟩ := DataW.trod_int Tryd.underlying23 t6
    simp at e0 e1 e2 e3 e4 e5 e6
    subst e0 e1 e2 e3 e4 e5 e6
    have q0 := bounds_u8 w0
    have q2 := bounds_u32 w2
    have q3 := bounds_u16 w3
    have q4 := bounds_u8 w4
    have q5 := bounds_u32 w5
    have q6 := bounds_u16 w6
    rcases open_ints Tryd.underlying24 Tryd.underlying5 (by kernel_rfl) t7 with ⟨hv, _⟩ | ⟨a', l', c', zs, hv, _, hl', hm', hz, hD, hcl, hwz⟩
    · have hv' : u7 = .slice none 0 0 := by simpa using hv
      subst hv'
      exact ⟨⟨z0, z1, z2, z3, z4, z5, z6, []⟩, none, 0, 0, rfl, Bs.nought W, ⟨by simp only; omega, by simp only; omega, by simp only; omega, by simp only; omega, by simp only; omega, by simp only; omega, Byt.nil⟩⟩
    · have hv' : u7 = .slice (some a') l' c' := by simpa using hv
      subst hv'
      simp only [if_true] at hz
      have hB := bs_of_row (.inr ⟨a', rfl, hl', hm', hz, hcl, hwz⟩)
      exact ⟨⟨z0, z1, z2, z3, z4, z5, z6, zs.take l'⟩, some a', l', c', rfl, hB, ⟨by simp only; omega, by simp only; omega, by simp only; omega, by simp only; omega, by simp only; omega, by simp only; omega, hB.byt⟩⟩

end Go.Proofs.YtpidlfifipgadaaDoor
