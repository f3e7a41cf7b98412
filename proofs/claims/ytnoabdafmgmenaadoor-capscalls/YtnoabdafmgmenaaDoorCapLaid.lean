/-
  What the listed variables give the walks: the cells of the program's tables; and a world in which they lie as the program's own text lays them. Conditions: none.
-/
import Derived.Test.YtnoabdafmgmenaaDoorCapMem
import Derived.ProofKit
import Derived.LaidMore
import Derived.OpenShut
import Derived.Stop.Joined
import Derived.Deep.SlicePairs
namespace Go.Proofs.YtnoabdafmgmenaaDoor
open Go.RowKit
set_option linter.unusedVariables false
set_option linter.unusedSimpArgs false

theorem tCap : (Tryd.prog.globals[0]?).map (·.type) = some 42 := by kernel_rfl
theorem tSta : (Tryd.prog.globals[1]?).map (·.type) = some 43 := by kernel_rfl
theorem tPrs : (Tryd.prog.globals[2]?).map (·.type) = some 44 := by kernel_rfl

/-- The variables that the rows list. -/
def laid2 : List (String × DataW Unit) := [("sluicegate/caps.pairs", Rows.laid_sluicegate_caps_pairs), ("sluicegate/caps.capNames", Rows.laid_sluicegate_caps_capNames)]
def laid3 : List (String × DataW Unit) := [("sluicegate/caps.pairs", Rows.laid_sluicegate_caps_pairs), ("sluicegate/caps.capNames", Rows.laid_sluicegate_caps_capNames), ("sluicegate/caps.statusNames", Rows.laid_sluicegate_caps_statusNames)]

set_option maxRecDepth 100000 in
theorem door_met2 (os : Os) (args : Array Value) : laidMetH Tryd.prog laid2 ((World.doorLaid Tryd.prog 400 os).forCall (fun _ _ => 0) ⟨#[], args, []⟩).memory :=
  laidMetH_of_parts3 (fuel := 8) (laidMet_of_run' 8 (by kernel_rfl) (by kernel_rfl)) (by kernel_rfl) (by kernel_rfl)
set_option maxRecDepth 100000 in
theorem door_met (os : Os) (args : Array Value) : laidMetH Tryd.prog laid3 ((World.doorLaid Tryd.prog 400 os).forCall (fun _ _ => 0) ⟨#[], args, []⟩).memory :=
  laidMetH_of_parts3 (fuel := 8) (laidMet_of_run' 8 (by kernel_rfl) (by kernel_rfl)) (by kernel_rfl) (by kernel_rfl)

def sdt {H : Type} (s : ByteArray) : DataW H := .lit (.string s.data.toList)
theorem capD : (Rows.laid_sluicegate_caps_capNames : DataW Unit) = .agg (capL.map sdt) := rfl
theorem staD : (Rows.laid_sluicegate_caps_statusNames : DataW Unit) = .agg (staL.map sdt) := rfl

theorem strs_of {W : World} {enc : TypeId × Value → Unit} {base : Nat} {sp : Nat → Bool} {held : Bool} {fuel n : Nat} {t : TypeId} {cs : List Value} {L : List ByteArray} {p : List MemPlace}
    (hu : Tryd.prog.underlying t = some (.array n 9)) (hc : Tryd.prog.cellsOf t = n) (h : DataW.trod enc Tryd.prog W base sp held fuel t cs = some (.agg (L.map sdt), p)) : cs = L.map Value.string := by
  have c1 : Tryd.prog.cellsOf 9 = 1 := by kernel_rfl
  obtain ⟨xs, m, rfl, hx, hl, hn, hel⟩ := DataW.trod_array hu h
  have hxs : L.map sdt = xs.map (·.1) := by
    have := congrArg Prod.fst hx
    simpa using this
  have hLl : L.length = n := by
    have := congrArg List.length hxs
    simp at this
    omega
  rw [hc] at hl
  apply List.ext_getElem (by simp [hl, hLl])
  intro i h1 h2
  have hi : i < n := by omega
  have e := hel i hi
  rw [c1] at e
  obtain ⟨x, hx1⟩ : ∃ x, xs[i]? = some x := ⟨xs[i], by simp [hn, hi]⟩
  rw [hx1] at e
  obtain ⟨s, hs, rfl, _⟩ := DataW.trod_string Tryd.underlying9 e
  have hq := congrArg (·[i]?) hxs
  simp only [List.getElem?_map, hx1, List.getElem?_eq_getElem (show i < L.length by omega), Option.map_some, sdt, Option.some.injEq, DataW.lit.injEq, Lit.string.injEq] at hq
  have hsL : s = L[i]'(by omega) := by
    apply ByteArray.ext
    apply Array.ext'
    exact hq.symm
  have h0 := congrArg (·[0]?) hs
  simp [List.getElem?_take, List.getElem?_drop, List.getElem?_eq_getElem h1] at h0
  rw [h0, hsL]
  simp

theorem var_heap {P : Program} {w : World} {n : String} {g : Nat} {cs : Array Value} (hg : P.globalNamed n = some g) (h : w.var? P n = some cs) : ∃ t fr, w.heap[g]? = some (.cells cs t fr) := by
  simp only [World.var?, hg, Option.bind_some] at h
  split at h
  · rename_i c t fr hh
    simp at h
    subst h
    exact ⟨t, fr, hh⟩
  · cases h

theorem prs_of {W : World} {enc : TypeId × Value → Unit} {sp : Nat → Bool} {held : Bool} {fuel : Nat} {cs : List Value} {p : List MemPlace}
    (h : DataW.trod enc Tryd.prog W 0 sp held fuel 44 cs = some (Rows.laid_sluicegate_caps_pairs, p)) :
    ∃ b off c, cs = [.slice (some ⟨b, off, none⟩) 3 c] ∧ W.cell? ⟨b, off, none⟩ = some (.int .u32 29294760) ∧ W.cell? ⟨b, off + 1, none⟩ = some (.int .u32 512) ∧ W.cell? ⟨b, off + 2, none⟩ = some (.int .u32 3145728) ∧ W.cell? ⟨b, off + 3, none⟩ = some (.int .u32 524288) ∧ W.cell? ⟨b, off + 4, none⟩ = some (.int .u32 65536) ∧ W.cell? ⟨b, off + 5, none⟩ = some (.int .u32 131072) := by
  rcases Deep.open_slice_pairs Tryd.underlying44 Tryd.underlying46 (by kernel_rfl) rfl rfl (by kernel_rfl) (by kernel_rfl) h with ⟨_, hx⟩ | ⟨a, len, cap, m, n, V0, V1, D0, D1, P0, P1, hcs, _, hl, hm, hmm, hx, hel⟩
  · cases (congrArg Prod.fst hx)
  · have hd := congrArg Prod.fst hx
    simp only [Rows.laid_sluicegate_caps_pairs, DataW.slice.injEq] at hd
    have hlen : len = 3 := by
      have := congrArg List.length hd.1
      simp at this
      omega
    subst hlen
    have hl3 : 3 ≤ m := by rw [hmm]; split <;> omega
    have hdd := hd.1
    simp [List.range, List.range.loop] at hdd
    obtain ⟨b, off, spot⟩ := a
    obtain ⟨e0, e1, e2, e3⟩ := hel 0 (by omega)
    obtain ⟨f0, f1, f2, f3⟩ := hel 1 (by omega)
    obtain ⟨g0, g1, g2, g3⟩ := hel 2 (by omega)
    have hspot : spot = none := by simpa [Addr.add] using World.cell?_spot e0
    subst hspot
    rw [Addr.add_lit] at e0 e1 f0 f1 g0 g1
    obtain ⟨k1, a1, b1, _⟩ := DataW.trod_int Tryd.underlying23 e2
    obtain ⟨k2, a2, b2, _⟩ := DataW.trod_int Tryd.underlying23 e3
    obtain ⟨k3, a3, b3, _⟩ := DataW.trod_int Tryd.underlying23 f2
    obtain ⟨k4, a4, b4, _⟩ := DataW.trod_int Tryd.underlying23 f3
    obtain ⟨k5, a5, b5, _⟩ := DataW.trod_int Tryd.underlying23 g2
    obtain ⟨k6, a6, b6, _⟩ := DataW.trod_int Tryd.underlying23 g3
    simp only [Prod.mk.injEq] at b1 b2 b3 b4 b5 b6
    rw [b1.1, b2.1, b3.1, b4.1, b5.1, b6.1] at hdd
    simp at hdd a1 a2 a3 a4 a5 a6
    obtain ⟨⟨q1, q2⟩, ⟨q3, q4⟩, q5, q6⟩ := hdd
    subst q1 q2 q3 q4 q5 q6
    rw [a1] at e0
    rw [a2] at e1
    rw [a3] at f0
    rw [a4] at f1
    rw [a5] at g0
    rw [a6] at g1
    exact ⟨b, off, cap, hcs, by simpa using e0, by simpa using e1, by simpa using f0, by simpa using f1, by simpa using g0, by simpa using g1⟩

theorem vars_of_two {W : World} {cs0 cs1 : Array Value} {f0 f1 : Nat} {p0 p1 : List MemPlace} (hv0 : W.var? Tryd.prog "sluicegate/caps.pairs" = some cs0) (hv1 : W.var? Tryd.prog "sluicegate/caps.capNames" = some cs1)
    (hd0 : DataW.trod (fun _ => ()) Tryd.prog W 0 (fun _ => true) false f0 44 cs0.toList = some (Rows.laid_sluicegate_caps_pairs, p0)) (hd1 : DataW.trod (fun _ => ()) Tryd.prog W 0 (fun _ => true) false f1 42 cs1.toList = some (Rows.laid_sluicegate_caps_capNames, p1)) : Vars W := by
  rw [capD] at hd1
  have s1 := strs_of Tryd.underlying42 (by kernel_rfl) hd1
  obtain ⟨b, off, c, hcs, r⟩ := prs_of hd0
  refine ⟨?_, b, off, c, ?_, r⟩
  · obtain ⟨t, fr, hh⟩ := var_heap gCap hv1
    refine ⟨t, fr, ?_⟩
    rw [hh]
    congr 2
    apply Array.ext'
    rw [s1]
    rfl
  · rw [World.var?_cell gPrs hv0 0, ← Array.getElem?_toList, hcs]
    rfl

theorem vars_of_laid2 {W : World} (h : laidMetH Tryd.prog laid2 W) : Vars W := by
  rw [MakeChecks.laidMetH_plain _ _ _ (by kernel_rfl)] at h
  obtain ⟨ps, ⟨g0, t0, cs0, f0, p0, q0, hg0, ht0, hv0, hd0, ⟨g1, t1, cs1, f1, p1, q1, hg1, ht1, hv1, hd1, _, _⟩, _⟩, _, _⟩ := h
  obtain rfl := Option.some.inj (gPrs.symm.trans hg0)
  obtain rfl := Option.some.inj (gCap.symm.trans hg1)
  obtain rfl := Option.some.inj (tPrs.symm.trans ht0)
  obtain rfl := Option.some.inj (tCap.symm.trans ht1)
  exact vars_of_two hv0 hv1 hd0 hd1

theorem vars_of_laid {W : World} (h : laidMetH Tryd.prog laid3 W) : Vars W ∧ Stat W := by
  rw [MakeChecks.laidMetH_plain _ _ _ (by kernel_rfl)] at h
  obtain ⟨ps, ⟨g0, t0, cs0, f0, p0, q0, hg0, ht0, hv0, hd0, ⟨g1, t1, cs1, f1, p1, q1, hg1, ht1, hv1, hd1, ⟨g2, t2, cs2, f2, p2, q2, hg2, ht2, hv2, hd2, _, _⟩, _⟩, _⟩, _, _⟩ := h
  obtain rfl := Option.some.inj (gPrs.symm.trans hg0)
  obtain rfl := Option.some.inj (gCap.symm.trans hg1)
  obtain rfl := Option.some.inj (gSta.symm.trans hg2)
  obtain rfl := Option.some.inj (tPrs.symm.trans ht0)
  obtain rfl := Option.some.inj (tCap.symm.trans ht1)
  obtain rfl := Option.some.inj (tSta.symm.trans ht2)
  refine ⟨vars_of_two hv0 hv1 hd0 hd1, ?_⟩
  rw [staD] at hd2
  have s2 := strs_of Tryd.underlying43 (by kernel_rfl) hd2
  obtain ⟨t, fr, hh⟩ := var_heap gSta hv2
  refine ⟨t, fr, ?_⟩
  rw [hh]
  congr 2
  apply Array.ext'
  rw [s2]
  rfl

end Go.Proofs.YtnoabdafmgmenaaDoor
