/-
  Slices of values and of types that came in: what lies in their cells, and the sizes of texts by the bulk of what was read. Conditions: none.
-/
import Derived.Test.YtkcblnojgonblaaGreatDoorMPl
import Derived.Test.YtkcblnojgonblaaGreatDoorMTm
import Derived.Test.YtkcblnojgonblaaGreatDoorRows
import Derived.WideShapes
import Derived.ChangeArms
import Derived.ChangeSame
import Derived.Deep.Slices
import Derived.OpenShut
import Derived.ProofKit
namespace Go.Proofs.YtkcblnojgonblaaGreatDoor
open Go.ChangeShapes Go.WideShapes Go.ChangeAt Go.RowKit
set_option linter.unusedVariables false
set_option linter.unusedSimpArgs false

theorem letters' (s : ByteArray) : s.data.toList.length = s.size := Array.length_toList
theorem blk_in {H : Type} {d : DataW H} : ∀ {l : List (DataW H)}, d ∈ l → Rows.uptoBulk d ≤ Rows.uptoBulkAll l
  | [], h => by cases h
  | a :: l, h => by
    rw [Rows.uptoBulkAll]
    rcases List.mem_cons.1 h with h | h
    · subst h; omega
    · have := blk_in h; omega
theorem array2 {α : Type} {cs : Array α} (h : cs.size = 2) : ∃ c0 c1, cs = #[c0, c1] := by
  obtain ⟨l⟩ := cs
  match l, h with
  | [c0, c1], _ => exact ⟨c0, c1, rfl⟩
theorem array8 {α : Type} {cs : Array α} (h : cs.size = 8) : ∃ c0 c1 c2 c3 c4 c5 c6 c7, cs = #[c0, c1, c2, c3, c4, c5, c6, c7] := by
  obtain ⟨l⟩ := cs
  match l, h with
  | [c0, c1, c2, c3, c4, c5, c6, c7], _ => exact ⟨c0, c1, c2, c3, c4, c5, c6, c7, rfl⟩
theorem array12 {α : Type} {cs : Array α} (h : cs.size = 12) : ∃ c0 c1 c2 c3 c4 c5 c6 c7 c8 c9 c10 c11, cs = #[c0, c1, c2, c3, c4, c5, c6, c7, c8, c9, c10, c11] := by
  obtain ⟨l⟩ := cs
  match l, h with
  | [c0, c1, c2, c3, c4, c5, c6, c7, c8, c9, c10, c11], _ => exact ⟨c0, c1, c2, c3, c4, c5, c6, c7, c8, c9, c10, c11, rfl⟩
theorem ty_of {H : Type} {enc : TypeId × Value → H} {W : World} {base fuel : Nat} {cs : Array Value} {x : DataW H × List MemPlace} (hsz : cs.size = Tryz.prog.cellsOf 23)
    (h : DataW.trod enc Tryz.prog W base (fun _ => true) true fuel 23 (Value.agg cs).cells.toList = some x) : ∃ (t : Int) (un : Bool), cs = #[.int .u8 t, .bool un] ∧ 0 ≤ t ∧ t < 256 := by
  have c2 : Tryz.prog.cellsOf 23 = 2 := by kernel_rfl
  have cb : Tryz.prog.cellsOf 5 = 1 := by kernel_rfl
  have cB : Tryz.prog.cellsOf 4 = 1 := by kernel_rfl
  obtain ⟨u0, u1, rfl⟩ := array2 (hsz.trans c2)
  obtain ⟨xs, n, _, rfl, hl, hlen, hf⟩ := DataW.trod_struct Tryz.underlying23 h
  match xs, hlen with
  | [y0, y1], _ =>
    have t0 := hf 0 _ rfl
    have t1 := hf 1 _ rfl
    simp [Value.cells, cb, cB] at t0 t1
    obtain ⟨z0, e0, _, w0⟩ := DataW.trod_int Tryz.underlying5 t0
    obtain ⟨z1, e1, _⟩ := DataW.trod_bool Tryz.underlying4 t1
    simp at e0 e1
    subst e0 e1
    have q0 := bounds_u8 w0
    exact ⟨z0, z1, rfl, by omega, by omega⟩
theorem va_in {H : Type} {enc : TypeId × Value → H} {W : World} {base fuel : Nat} {cs : Array Value} {x : DataW H × List MemPlace} (hsz : cs.size = Tryz.prog.cellsOf 38)
    (h : DataW.trod enc Tryz.prog W base (fun _ => true) true fuel 38 (Value.agg cs).cells.toList = some x) : ∃ v : Va, cs = vaC v ∧ VaK v ∧ v.t.size ≤ Rows.uptoBulk x.1 := by
  have c12 : Tryz.prog.cellsOf 38 = 12 := by kernel_rfl
  have c8 : Tryz.prog.cellsOf 36 = 8 := by kernel_rfl
  have ci : Tryz.prog.cellsOf 3 = 1 := by kernel_rfl
  have cj : Tryz.prog.cellsOf 2 = 1 := by kernel_rfl
  have cu : Tryz.prog.cellsOf 34 = 1 := by kernel_rfl
  have ct : Tryz.prog.cellsOf 9 = 1 := by kernel_rfl
  have cB : Tryz.prog.cellsOf 4 = 1 := by kernel_rfl
  obtain ⟨u0, u1, u2, u3, v0, v1, v2, v3, v4, v5, v6, v7, rfl⟩ := array12 (hsz.trans c12)
  obtain ⟨xs, n, _, rfl, hl, hlen, hf⟩ := DataW.trod_struct Tryz.underlying38 h
  match xs, hlen with
  | [y0, y1, y2, y3, y4], _ =>
    have t0 := hf 0 _ rfl
    have t1 := hf 1 _ rfl
    have t2 := hf 2 _ rfl
    have t3 := hf 3 _ rfl
    have t4 := hf 4 _ rfl
    simp [Value.cells, ci, cj, cu, ct, c8] at t0 t1 t2 t3 t4
    obtain ⟨a0, f0, _, g0⟩ := DataW.trod_int Tryz.underlying3 t0
    obtain ⟨a1, f1, _, g1⟩ := DataW.trod_int Tryz.underlying2 t1
    obtain ⟨a2, f2, _, g2⟩ := DataW.trod_int Tryz.underlying34 t2
    obtain ⟨a3, f3, x3, g3⟩ := DataW.trod_string Tryz.underlying9 t3
    obtain ⟨xs4, _, _, rfl, _, hlen4, hf4⟩ := DataW.trod_struct Tryz.underlying36 t4
    match xs4, hlen4 with
    | [_, _, _, _, _, _, _, _], _ =>
      have s0 := hf4 0 _ rfl
      have s1 := hf4 1 _ rfl
      have s2 := hf4 2 _ rfl
      have s3 := hf4 3 _ rfl
      have s4 := hf4 4 _ rfl
      have s5 := hf4 5 _ rfl
      have s6 := hf4 6 _ rfl
      have s7 := hf4 7 _ rfl
      simp [Value.cells, ci, cB] at s0 s1 s2 s3 s4 s5 s6 s7
      obtain ⟨z0, e0, _⟩ := DataW.trod_bool Tryz.underlying4 s0
      obtain ⟨z1, e1, _, w1⟩ := DataW.trod_int Tryz.underlying3 s1
      obtain ⟨z2, e2, _, w2⟩ := DataW.trod_int Tryz.underlying3 s2
      obtain ⟨z3, e3, _, w3⟩ := DataW.trod_int Tryz.underlying3 s3
      obtain ⟨z4, e4, _, w4⟩ := DataW.trod_int Tryz.underlying3 s4
      obtain ⟨z5, e5, _, w5⟩ := DataW.trod_int Tryz.underlying3 s5
      obtain ⟨z6, e6, _, w6⟩ := DataW.trod_int Tryz.underlying3 s6
      obtain ⟨z7, e7, _, w7⟩ := DataW.trod_int Tryz.underlying3 s7
      simp at f0 f1 f2 f3 e0 e1 e2 e3 e4 e5 e6 e7
      subst f0 f1 f2 f3 e0 e1 e2 e3 e4 e5 e6 e7
      have q1 := bounds_i64 w1
      have q2 := bounds_i64 w2
      have q3 := bounds_i64 w3
      have q4 := bounds_i64 w4
      have q5 := bounds_i64 w5
      have q6 := bounds_i64 w6
      have q7 := bounds_i64 w7
      have r0 := bounds_i64 g0
      have r1 := bounds_i64 g1
      have r2 := bounds_u64 g2
      exact ⟨⟨a0, a1, a2, a3, ⟨z0, z1, z2, z3, z4, z5, z6, z7⟩⟩, rfl, ⟨⟨by simp only; omega, by simp only; omega⟩, ⟨by simp only; omega, by simp only; omega⟩, ⟨by simp only; omega, by simp only; omega⟩, ⟨⟨by simp only; omega, by simp only; omega⟩, ⟨by simp only; omega, by simp only; omega⟩, ⟨by simp only; omega, by simp only; omega⟩, ⟨by simp only; omega, by simp only; omega⟩, ⟨by simp only; omega, by simp only; omega⟩, ⟨by simp only; omega, by simp only; omega⟩, ⟨by simp only; omega, by simp only; omega⟩⟩⟩, by rw [x3]; simp only [List.map_cons, Rows.uptoBulk, Rows.uptoBulkAll, letters']; omega⟩
theorem vs_of {H : Type} {enc : TypeId × Value → H} {W : World} {base fuel : Nat} {a : Option Addr} {len cap : Nat} {x : DataW H × List MemPlace} (h : DataW.trod enc Tryz.prog W base (fun _ => true) true fuel 25 (Value.slice a len cap).cells.toList = some x) : ∃ l, Vs W a len cap l ∧ ∀ v ∈ l, VaK v ∧ v.t.size ≤ Rows.uptoBulk x.1 := by
  have c12 : Tryz.prog.cellsOf 38 = 12 := by kernel_rfl
  rcases Deep.open_slice Tryz.underlying25 h with ⟨hcs, _⟩ | ⟨ad, l, c, m, n, D, Pl, hcs, hb, hl, hm, hmm, hx, hel⟩
  · simp [Value.cells] at hcs
    obtain ⟨rfl, rfl, rfl⟩ := hcs
    exact ⟨[], Vs.nought W, by simp⟩
  · simp [Value.cells] at hcs
    obtain ⟨rfl, rfl, rfl⟩ := hcs
    simp only [if_true] at hmm
    subst hmm
    have each : ∀ i, i < len → ∃ v : Va, VaK v ∧ v.t.size ≤ Rows.uptoBulk x.1 ∧ ∀ j, j < 12 → W.cell? (ad.add (i * 12 + j)) = (vaC v)[j]? := by
      intro i hi
      obtain ⟨cs', h1, h2⟩ := hel i (by omega)
      rw [c12] at h1
      obtain ⟨_, hlen, hcell⟩ := World.cells?_some h1
      obtain ⟨v, e, hK, hs⟩ := va_in (cs := cs'.toArray) (by rw [c12]; simpa using hlen) (by simpa [Value.cells] using h2)
      refine ⟨v, hK, ?_, fun j hj => ?_⟩
      · refine Nat.le_trans hs ?_
        rw [hx]
        have : Rows.uptoBulk (D i) ≤ Rows.uptoBulkAll ((List.range len).map D) := blk_in (List.mem_map.2 ⟨i, List.mem_range.2 hi, rfl⟩)
        simp only [Rows.uptoBulk]
        omega
      · have := hcell j (by omega)
        rw [Addr.add_add] at this
        rw [this, ← e]
        simp
    by_cases h0 : len = 0
    · subst h0
      unfold maxLen at hm
      exact ⟨[], ⟨rfl, hl, by omega, (fun e => by cases e), .inl rfl⟩, by simp⟩
    · obtain ⟨b, off, spot⟩ := ad
      have hspot : spot = none := by
        obtain ⟨p, _, _, k0⟩ := each 0 (by omega)
        have k1 := k0 0 (by decide)
        rw [vac_at p (by decide)] at k1
        simpa [Addr.add] using World.cell?_spot k1
      subst hspot
      refine ⟨(List.range len).map fun i => if hi : i < len then Classical.choose (each i hi) else va0, ⟨?_, hl, by unfold maxLen at hm; omega, (fun e => by cases e), .inr ⟨b, off, rfl, fun i p hi => ?_⟩⟩, fun p hp => ?_⟩
      · simp
      · have hil : i < len := by have := (List.getElem?_eq_some_iff.1 hi).1; simpa using this
        rw [List.getElem?_map, List.getElem?_range hil] at hi
        simp only [Option.map_some, Option.some.injEq, dif_pos hil] at hi
        subst hi
        obtain ⟨_, _, g⟩ := Classical.choose_spec (each i hil)
        intro j hj
        have := g j hj
        rw [Addr.add_lit] at this
        rw [← this, Nat.add_assoc]
      · simp only [List.mem_map, List.mem_range] at hp
        obtain ⟨i, hi, rfl⟩ := hp
        rw [dif_pos hi]
        obtain ⟨g1, g2, _⟩ := Classical.choose_spec (each i hi)
        exact ⟨g1, g2⟩
theorem ts_of {H : Type} {enc : TypeId × Value → H} {W : World} {base fuel : Nat} {a : Option Addr} {len cap : Nat} {x : DataW H × List MemPlace} (h : DataW.trod enc Tryz.prog W base (fun _ => true) true fuel 24 (Value.slice a len cap).cells.toList = some x) : ∃ l, Tys W a len cap l ∧ ∀ p ∈ l, 0 ≤ p.t ∧ p.t < 256 := by
  have c2 : Tryz.prog.cellsOf 23 = 2 := by kernel_rfl
  rcases Deep.open_slice Tryz.underlying24 h with ⟨hcs, _⟩ | ⟨ad, l, c, m, n, D, Pl, hcs, hb, hl, hm, hmm, hx, hel⟩
  · simp [Value.cells] at hcs
    obtain ⟨rfl, rfl, rfl⟩ := hcs
    exact ⟨[], Tys.nought W, by simp⟩
  · simp [Value.cells] at hcs
    obtain ⟨rfl, rfl, rfl⟩ := hcs
    simp only [if_true] at hmm
    subst hmm
    have each : ∀ i, i < len → ∃ v : Ty, (0 ≤ v.t ∧ v.t < 256) ∧ ∀ j, j < 2 → W.cell? (ad.add (i * 2 + j)) = (tyC v)[j]? := by
      intro i hi
      obtain ⟨cs', h1, h2⟩ := hel i (by omega)
      rw [c2] at h1
      obtain ⟨_, hlen, hcell⟩ := World.cells?_some h1
      obtain ⟨t, un, e, hK⟩ := ty_of (cs := cs'.toArray) (by rw [c2]; simpa using hlen) (by simpa [Value.cells] using h2)
      refine ⟨⟨t, un⟩, hK, fun j hj => ?_⟩
      have := hcell j (by omega)
      rw [Addr.add_add] at this
      rw [this, show tyC ⟨t, un⟩ = cs'.toArray from e.symm]
      simp
    by_cases h0 : len = 0
    · subst h0
      unfold maxLen at hm
      exact ⟨[], ⟨rfl, hl, by omega, (fun e => by cases e), .inl rfl⟩, by simp⟩
    · obtain ⟨b, off, spot⟩ := ad
      have hspot : spot = none := by
        obtain ⟨p, _, k0⟩ := each 0 (by omega)
        have k1 := k0 0 (by decide)
        rw [tyc_at p (by decide)] at k1
        simpa [Addr.add] using World.cell?_spot k1
      subst hspot
      refine ⟨(List.range len).map fun i => if hi : i < len then Classical.choose (each i hi) else ty0, ⟨?_, hl, by unfold maxLen at hm; omega, (fun e => by cases e), .inr ⟨b, off, rfl, fun i p hi => ?_⟩⟩, fun p hp => ?_⟩
      · simp
      · have hil : i < len := by have := (List.getElem?_eq_some_iff.1 hi).1; simpa using this
        rw [List.getElem?_map, List.getElem?_range hil] at hi
        simp only [Option.map_some, Option.some.injEq, dif_pos hil] at hi
        subst hi
        obtain ⟨_, g⟩ := Classical.choose_spec (each i hil)
        intro j hj
        have := g j hj
        rw [Addr.add_lit] at this
        rw [← this, Nat.add_assoc]
      · simp only [List.mem_map, List.mem_range] at hp
        obtain ⟨i, hi, rfl⟩ := hp
        rw [dif_pos hi]
        obtain ⟨g1, _⟩ := Classical.choose_spec (each i hi)
        exact g1

end Go.Proofs.YtkcblnojgonblaaGreatDoor
