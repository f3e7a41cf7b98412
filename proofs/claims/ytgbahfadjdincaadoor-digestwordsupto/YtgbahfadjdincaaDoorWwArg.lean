/-
  A slice of words that came in: what lies in its cells, and the sizes of its texts by the bulk of what was read. Conditions: none.
-/
import Derived.Test.YtgbahfadjdincaaDoorWdMem
import Derived.Test.YtgbahfadjdincaaDoorRows
import Derived.WideShapes
import Derived.ChangeArms
import Derived.ChangeSame
import Derived.Deep.Slices
import Derived.Deep.Strs
import Derived.OpenShut
import Derived.ProofKit
namespace Go.Proofs.YtgbahfadjdincaaDoor
open Go.ChangeShapes Go.WideShapes Go.ChangeAt Go.RowKit
set_option linter.unusedVariables false
set_option linter.unusedSimpArgs false

theorem letters (s : ByteArray) : s.data.toList.length = s.size := Array.length_toList
theorem blk_in {H : Type} {d : DataW H} : ∀ {l : List (DataW H)}, d ∈ l → Rows.uptoBulk d ≤ Rows.uptoBulkAll l
  | [], h => by cases h
  | a :: l, h => by
    simp only [Rows.uptoBulkAll]
    rcases List.mem_cons.1 h with rfl | h
    · omega
    · have := blk_in h
      omega
theorem list3 {α : Type} {l : List α} (h : l.length = 3) : ∃ c0 c1 c2, l = [c0, c1, c2] := by
  match l, h with
  | [c0, c1, c2], _ => exact ⟨c0, c1, c2, rfl⟩
theorem ww_in {H : Type} {enc : TypeId × Value → H} {W : World} {base fuel : Nat} {cs : List Value} {x : DataW H × List MemPlace} (h : DataW.trod enc Tryd.prog W base (fun _ => true) true fuel 26 cs = some x) :
    ∃ v : Wd, cs = (wdC v).toList ∧ v.tx.size ≤ Rows.uptoBulk x.1 := by
  have ci : Tryd.prog.cellsOf 3 = 1 := by kernel_rfl
  have ks : Tryd.prog.cellsOf 9 = 1 := by kernel_rfl
  have cn : Tryd.prog.cellsOf 26 = 3 := by kernel_rfl
  obtain ⟨y0, y1, y2, k, rfl, hl, t0, t1, t2⟩ := Deep.trod_struct3 Tryd.underlying26 h
  rw [cn] at hl
  obtain ⟨u0, u1, u2, rfl⟩ := list3 hl
  simp only [ci, ks] at t0 t1 t2
  obtain ⟨z0, e0, _, w0⟩ := DataW.trod_int Tryd.underlying3 t0
  obtain ⟨s, e1, rfl, _⟩ := DataW.trod_string Tryd.underlying9 t1
  obtain ⟨z2, e2, _, w2⟩ := DataW.trod_int Tryd.underlying3 t2
  simp at e0 e1 e2
  subst e0 e1 e2
  refine ⟨⟨z0, s, z2⟩, rfl, ?_⟩
  simp only [Rows.uptoBulk, Rows.uptoBulkAll, letters]
  omega
theorem wds_of {H : Type} {enc : TypeId × Value → H} {W : World} {base fuel : Nat} {a : Option Addr} {len cap : Nat} {x : DataW H × List MemPlace} (h : DataW.trod enc Tryd.prog W base (fun _ => true) true fuel 24 (Value.slice a len cap).cells.toList = some x) : ∃ l, Wds W a len cap l ∧ ∀ p ∈ l, True ∧ p.tx.size ≤ Rows.uptoBulk x.1 := by
  have c3 : Tryd.prog.cellsOf 26 = 3 := by kernel_rfl
  rcases Deep.open_slice Tryd.underlying24 h with ⟨hcs, _⟩ | ⟨ad, l, c, m, n, D, Pl, hcs, hb, hl, hm, hmm, hx, hel⟩
  · simp [Value.cells] at hcs
    obtain ⟨rfl, rfl, rfl⟩ := hcs
    exact ⟨[], Wds.nought W, by simp⟩
  · simp [Value.cells] at hcs
    obtain ⟨rfl, rfl, rfl⟩ := hcs
    simp only [if_true] at hmm
    subst hmm
    have each : ∀ i, i < len → ∃ v : Wd, v.tx.size ≤ Rows.uptoBulk x.1 ∧ ∀ j, j < 3 → W.cell? (ad.add (i * 3 + j)) = (wdC v)[j]? := by
      intro i hi
      obtain ⟨cs', h1, h2⟩ := hel i (by omega)
      rw [c3] at h1
      obtain ⟨_, hlen, hcell⟩ := World.cells?_some h1
      obtain ⟨v, e, hs⟩ := ww_in (cs := cs') (by simpa [Value.cells] using h2)
      refine ⟨v, ?_, fun j hj => ?_⟩
      · refine Nat.le_trans hs ?_
        rw [hx]
        have : Rows.uptoBulk (D i) ≤ Rows.uptoBulkAll ((List.range len).map D) := blk_in (List.mem_map.2 ⟨i, List.mem_range.2 hi, rfl⟩)
        simp only [Rows.uptoBulk]
        omega
      · have := hcell j (by omega)
        rw [Addr.add_add] at this
        rw [this, e]
        simp
    by_cases h0 : len = 0
    · subst h0
      unfold maxLen at hm
      exact ⟨[], ⟨rfl, hl, by omega, (fun e => by cases e), .inl rfl⟩, by simp⟩
    · obtain ⟨b, off, spot⟩ := ad
      have hspot : spot = none := by
        obtain ⟨p, _, k0⟩ := each 0 (by omega)
        have k1 := k0 0 (by decide)
        rw [wdc_at p (by decide)] at k1
        simpa [Addr.add] using World.cell?_spot k1
      subst hspot
      refine ⟨(List.range len).map fun i => if hi : i < len then Classical.choose (each i hi) else ⟨0, ⟨#[]⟩, 0⟩, ⟨?_, hl, by unfold maxLen at hm; omega, (fun e => by cases e), .inr ⟨b, off, rfl, fun i p hi => ?_⟩⟩, fun p hp => ?_⟩
      · simp
      · have hil : i < len := by have := (List.getElem?_eq_some_iff.1 hi).1; simpa using this
        rw [List.getElem?_map, List.getElem?_range hil] at hi
        simp only [Option.map_some, Option.some.injEq, dif_pos hil] at hi
        subst hi
        obtain ⟨_, g⟩ := Classical.choose_spec (each i hil)
        intro j hj
        have := g j hj
        rw [Addr.add_lit] at this
        rw [← this, Nat.add_assoc]
      · simp only [List.mem_map, List.mem_range] at hp
        obtain ⟨i, hi, rfl⟩ := hp
        rw [dif_pos hi]
        obtain ⟨g1, _⟩ := Classical.choose_spec (each i hi)
        exact ⟨trivial, g1⟩

end Go.Proofs.YtgbahfadjdincaaDoor
