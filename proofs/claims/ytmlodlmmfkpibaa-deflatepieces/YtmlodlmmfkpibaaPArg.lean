/-
  A slice of pieces that came in: what lies in its cells. Conditions: none.
-/
import Derived.Test.YtmlodlmmfkpibaaPMem
import Derived.ProofKit
import Derived.OpenShut
import Derived.Deep.Slices
import Derived.Deep.Strs
import Derived.ChangeArms
namespace Go.Proofs.Ytmlodlmmfkpibaa
open Go.RowKit
set_option linter.unusedVariables false
set_option linter.unusedSimpArgs false

theorem ps_of {H : Type} {enc : TypeId × Value → H} {W : World} {base fuel : Nat} {a : Option Addr} {len cap : Nat} {x : DataW H × List MemPlace} (h : DataW.trod enc Try.prog W base (fun _ => true) true fuel 22 (Value.slice a len cap).cells.toList = some x) : ∃ l, Ps W a len cap l := by
  have c3 : Try.prog.cellsOf 25 = 3 := by kernel_rfl
  have ci : Try.prog.cellsOf 3 = 1 := by kernel_rfl
  have cb : Try.prog.cellsOf 5 = 1 := by kernel_rfl
  rcases Deep.open_slice Try.underlying22 h with ⟨hcs, _⟩ | ⟨ad, l, c, m, n, D, Pl, hcs, hb, hl, hm, hmm, _, hel⟩
  · simp [Value.cells] at hcs
    obtain ⟨rfl, rfl, rfl⟩ := hcs
    exact ⟨[], Ps.nought W⟩
  · simp [Value.cells] at hcs
    obtain ⟨rfl, rfl, rfl⟩ := hcs
    simp only [if_true] at hmm
    subst hmm
    have each : ∀ i, i < len → ∃ p : Pc, Pok p ∧ W.cell? (ad.add (i * 3)) = some (.int .i64 p.l) ∧ W.cell? (ad.add (i * 3 + 1)) = some (.int .i64 p.d) ∧ W.cell? (ad.add (i * 3 + 2)) = some (.int .u8 p.b) := by
      intro i hi
      obtain ⟨cs', h1, h2⟩ := hel i (by omega)
      rw [c3] at h1
      obtain ⟨_, hlen, hcell⟩ := World.cells?_some h1
      obtain ⟨y0, y1, y2, k, _, _, t0, t1, t2⟩ := Deep.trod_struct3 Try.underlying25 h2
      simp only [ci, cb] at t0 t1 t2
      obtain ⟨z0, e0, _, w0⟩ := DataW.trod_int Try.underlying3 t0
      obtain ⟨z1, e1, _, w1⟩ := DataW.trod_int Try.underlying3 t1
      obtain ⟨z2, e2, _, w2⟩ := DataW.trod_int Try.underlying5 t2
      have b0 := bounds_i64 w0
      have b1 := bounds_i64 w1
      have b2 := bounds_u8 w2
      match cs', hlen with
      | [u0, u1, u2], _ =>
        simp at e0 e1 e2
        subst e0 e1 e2
        refine ⟨⟨z0, z1, z2⟩, ⟨by simp only; omega, by simp only; omega, by simp only; omega, by simp only; omega, by simp only; omega, by simp only; omega⟩, ?_, ?_, ?_⟩
        · have := hcell 0 (by omega); rw [Addr.add_add, Nat.add_zero] at this; exact this
        · have := hcell 1 (by omega); rw [Addr.add_add] at this; exact this
        · have := hcell 2 (by omega); rw [Addr.add_add] at this; exact this
    by_cases h0 : len = 0
    · subst h0
      unfold maxLen at hm
      exact ⟨[], rfl, hl, by omega, (fun e => by cases e), by simp, .inl rfl⟩
    · obtain ⟨b, off, spot⟩ := ad
      have hspot : spot = none := by
        obtain ⟨p, _, k0, _⟩ := each 0 (by omega)
        simpa [Addr.add] using World.cell?_spot k0
      subst hspot
      refine ⟨(List.range len).map fun i => if hi : i < len then Classical.choose (each i hi) else ⟨0, 0, 0⟩, ?_, hl, by unfold maxLen at hm; omega, (fun e => by cases e), fun p hp => ?_, .inr ⟨b, off, rfl, fun i p hi => ?_⟩⟩
      · simp
      · simp only [List.mem_map, List.mem_range] at hp
        obtain ⟨i, hi, rfl⟩ := hp
        rw [dif_pos hi]
        exact (Classical.choose_spec (each i hi)).1
      · have hil : i < len := by have := (List.getElem?_eq_some_iff.1 hi).1; simpa using this
        rw [List.getElem?_map, List.getElem?_range hil] at hi
        simp only [Option.map_some, Option.some.injEq, dif_pos hil] at hi
        subst hi
        obtain ⟨_, g0, g1, g2⟩ := Classical.choose_spec (each i hil)
        generalize Classical.choose (each i hil) = P at g0 g1 g2 ⊢
        rw [Addr.add_lit] at g0 g1 g2
        exact ⟨g0, by rw [Nat.add_assoc]; exact g1, by rw [Nat.add_assoc]; exact g2⟩
end Go.Proofs.Ytmlodlmmfkpibaa
