/-
  What the listed variables give the walks: the cells of the program's three tables; and a world in which they lie as the program's own text lays them. Conditions: none.
-/
import Derived.Test.YtalkeooejobjhaaDoorInfMem
import Derived.ProofKit
import Derived.LaidMore
import Derived.OpenShut
import Derived.Stop.Joined
import Derived.Lib.LaidTab
namespace Go.Proofs.YtalkeooejobjhaaDoor
open Go.RowKit
set_option linter.unusedVariables false
set_option linter.unusedSimpArgs false

theorem gLen : Tryd.prog.globalNamed "sluicegate/inflate.copyLengths" = some 0 := by kernel_rfl
theorem gDst : Tryd.prog.globalNamed "sluicegate/inflate.copyDistances" = some 1 := by kernel_rfl
theorem gOrd : Tryd.prog.globalNamed "sluicegate/inflate.lengthOrder" = some 2 := by kernel_rfl
theorem tLen : (Tryd.prog.globals[0]?).map (·.type) = some 90 := by kernel_rfl
theorem tDst : (Tryd.prog.globals[1]?).map (·.type) = some 107 := by kernel_rfl
theorem tOrd : (Tryd.prog.globals[2]?).map (·.type) = some 109 := by kernel_rfl

/-- The variables that the rows list. -/
def laid3 : List (String × DataW Unit) := [("sluicegate/inflate.copyLengths", Rows.laid_sluicegate_inflate_copyLengths), ("sluicegate/inflate.copyDistances", Rows.laid_sluicegate_inflate_copyDistances), ("sluicegate/inflate.lengthOrder", Rows.laid_sluicegate_inflate_lengthOrder)]

set_option maxRecDepth 100000 in
theorem door_met (os : Os) (args : Array Value) : laidMetH Tryd.prog laid3 ((World.doorLaid Tryd.prog 400 os).forCall (fun _ _ => 0) ⟨#[], args, []⟩).memory :=
  laidMetH_of_parts3 (fuel := 8) (laidMet_of_run' 8 (by kernel_rfl) (by kernel_rfl)) (by kernel_rfl) (by kernel_rfl)

def spn {H : Type} (p : Nat × Nat) : DataW H := .agg [.lit (.int .i64 (p.1 : Int)), .lit (.int .i64 (p.2 : Int))]
theorem lenD : (Rows.laid_sluicegate_inflate_copyLengths : DataW Unit) = .agg ((lenB.zip lenX).map spn) := rfl
theorem dstD : (Rows.laid_sluicegate_inflate_copyDistances : DataW Unit) = .agg ((dstB.zip dstX).map spn) := rfl
theorem ordD : (Rows.laid_sluicegate_inflate_lengthOrder : DataW Unit) = Lib.tabData .i64 (ordL.map fun (n : Nat) => (n : Int)) := rfl

theorem spans_of {W : World} {enc : TypeId × Value → Unit} {base : Nat} {sp : Nat → Bool} {held : Bool} {fuel n : Nat} {t : TypeId} {cs : List Value} {L : List (Nat × Nat)} {p : List MemPlace}
    (hu : Tryd.prog.underlying t = some (.array n 89)) (h : DataW.trod enc Tryd.prog W base sp held fuel t cs = some (.agg (L.map spn), p)) : ∀ i, i < n → ∃ q, L[i]? = some q ∧ cs[i * 2]? = some (.int .i64 (q.1 : Int)) ∧ cs[i * 2 + 1]? = some (.int .i64 (q.2 : Int)) := by
  intro i hi
  have c54 : Tryd.prog.cellsOf 89 = 2 := by kernel_rfl
  have c3 : Tryd.prog.cellsOf 3 = 1 := by kernel_rfl
  obtain ⟨xs, m, rfl, hx, hl, hn, hel⟩ := DataW.trod_array hu h
  have hxs : L.map spn = xs.map (·.1) := by
    have := congrArg Prod.fst hx
    simpa using this
  have h1 := hel i hi
  rw [c54] at h1
  obtain ⟨x, hx1⟩ : ∃ x, xs[i]? = some x := ⟨xs[i], by simp [hn, hi]⟩
  rw [hx1] at h1
  have hLl : L.length = n := by
    have := congrArg List.length hxs
    simp at this
    omega
  obtain ⟨q, hq⟩ : ∃ q, L[i]? = some q := ⟨L[i]'(by omega), by simp [hLl, hi]⟩
  have hxq : x.1 = spn q := by
    have := congrArg (·[i]?) hxs
    simp [hx1, hq] at this
    exact this.symm
  refine ⟨q, hq, ?_⟩
  obtain ⟨ys, m2, rfl, hy, hyl, hyn, hye⟩ := DataW.trod_struct Tryd.underlying89 h1
  obtain ⟨x1, x2⟩ := x
  simp only [Prod.mk.injEq] at hy
  simp only at hxq
  rw [hxq, spn] at hy
  have hys : ys.map (·.1) = [DataW.lit (.int .i64 (q.1 : Int)), .lit (.int .i64 (q.2 : Int))] := by
    have := hy.1
    simpa using this.symm
  match ys, hys, hye with
  | [y0, y1], hys, hye =>
    simp at hys
    have e0 := hye 0 _ rfl
    have e1 := hye 1 _ rfl
    simp only [List.getElem?_cons_zero, List.getElem?_cons_succ] at e0 e1
    obtain ⟨k0, d0, f0, _⟩ := DataW.trod_int Tryd.underlying3 e0
    obtain ⟨k1, d1, f1, _⟩ := DataW.trod_int Tryd.underlying3 e1
    rw [f0, f1] at hys
    simp at hys
    have d0' : List.take (Tryd.prog.cellsOf 3) (List.drop 0 (List.take 2 (List.drop (i * 2) cs))) = [Value.int .i64 k0] := d0
    have d1' : List.take (Tryd.prog.cellsOf 3) (List.drop 1 (List.take 2 (List.drop (i * 2) cs))) = [Value.int .i64 k1] := d1
    rw [c3] at d0' d1'
    constructor
    · have := congrArg (·[0]?) d0'
      simp [List.getElem?_take, List.getElem?_drop] at this
      rw [this, hys.1]
    · have := congrArg (·[0]?) d1'
      simp [List.getElem?_take, List.getElem?_drop] at this
      rw [this, hys.2]

theorem vars_of_laid {W : World} (h : laidMetH Tryd.prog laid3 W) : Vars W := by
  rw [MakeChecks.laidMetH_plain _ _ _ (by kernel_rfl)] at h
  obtain ⟨ps, ⟨g0, t0, cs0, f0, p0, q0, hg0, ht0, hv0, hd0, ⟨g1, t1, cs1, f1, p1, q1, hg1, ht1, hv1, hd1, ⟨g2, t2, cs2, f2, p2, q2, hg2, ht2, hv2, hd2, _, _⟩, _⟩, _⟩, _, _⟩ := h
  obtain rfl := Option.some.inj (gLen.symm.trans hg0)
  obtain rfl := Option.some.inj (gDst.symm.trans hg1)
  obtain rfl := Option.some.inj (gOrd.symm.trans hg2)
  obtain rfl := Option.some.inj (tLen.symm.trans ht0)
  obtain rfl := Option.some.inj (tDst.symm.trans ht1)
  obtain rfl := Option.some.inj (tOrd.symm.trans ht2)
  rw [lenD] at hd0
  rw [dstD] at hd1
  rw [ordD] at hd2
  have s0 := spans_of Tryd.underlying90 hd0
  have s1 := spans_of Tryd.underlying107 hd1
  have s2 := Lib.cells_of_tab Tryd.underlying109 Tryd.underlying3 (by kernel_rfl) (by kernel_rfl) hd2
  have zl : ∀ i, i < 29 → ∀ q, (lenB.zip lenX)[i]? = some q → q.1 = lenB[i]?.getD 0 ∧ q.2 = lenX[i]?.getD 0 := by
    intro i hi q hq
    rw [List.getElem?_zip_eq_some] at hq
    rw [hq.1, hq.2]
    exact ⟨rfl, rfl⟩
  have zd : ∀ i, i < 30 → ∀ q, (dstB.zip dstX)[i]? = some q → q.1 = dstB[i]?.getD 0 ∧ q.2 = dstX[i]?.getD 0 := by
    intro i hi q hq
    rw [List.getElem?_zip_eq_some] at hq
    rw [hq.1, hq.2]
    exact ⟨rfl, rfl⟩
  have key2 : ∀ i, i < 19 → W.cell? ⟨2, i, none⟩ = some (.int .i64 ((ordL[i]?.getD 0 : Nat) : Int)) := by
    intro i hi
    have hl : ordL.length = 19 := rfl
    rw [World.var?_cell hg2 hv2 i, ← Array.getElem?_toList, s2]
    simp [List.getElem?_eq_getElem (show i < ordL.length by omega)]
  refine ⟨fun i hi => ?_, fun i hi => ?_, fun i hi => ?_, fun i hi => ?_, key2, ?_⟩
  · obtain ⟨q, hq, a, b⟩ := s0 i hi
    rw [World.var?_cell hg0 hv0, ← Array.getElem?_toList, a, (zl i hi q hq).1]
  · obtain ⟨q, hq, a, b⟩ := s0 i hi
    rw [World.var?_cell hg0 hv0, ← Array.getElem?_toList, b, (zl i hi q hq).2]
  · obtain ⟨q, hq, a, b⟩ := s1 i hi
    rw [World.var?_cell hg1 hv1, ← Array.getElem?_toList, a, (zd i hi q hq).1]
  · obtain ⟨q, hq, a, b⟩ := s1 i hi
    rw [World.var?_cell hg1 hv1, ← Array.getElem?_toList, b, (zd i hi q hq).2]
  · have h2 := key2 0 (by omega)
    rcases Nat.lt_or_ge 2 W.heap.size with q | q
    · exact q
    · simp [World.cell?, Array.getElem?_eq_none q] at h2

end Go.Proofs.YtalkeooejobjhaaDoor
